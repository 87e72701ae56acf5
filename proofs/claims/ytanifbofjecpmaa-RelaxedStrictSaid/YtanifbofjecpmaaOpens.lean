/- What came in, opened: a net, a list of numbers. -/
import Derived.Test.YtanifbofjecpmaaRows
import Derived.Test.YtanifbofjecpmaaGround
import Derived.WalkKit
import Derived.ProofKit
import Derived.OpenShut
import Derived.ShutString
import Derived.ChangeOld
import Derived.Below
import Derived.Lib.SmallJoins
import Derived.Deep.Slices
import Derived.Deep.Fields
import Derived.ChangeSame
import Derived.ChangeSlices
/-! A net that came in, opened. -/
namespace Go.Proofs.Ytanifbofjecpmaa
open Go.ChangeShapes Go.WideShapes Go.ChangeAt Go.RowKit Go.Deep Go.Joins
set_option maxRecDepth 100000

theorem knob : ownKnob Try.prog.godebug = none := by kernel_rfl
theorem laidOut : laidOutB Try.prog = true := by kernel_rfl
theorem list_of_each {α : Type} {p : Nat → α → Prop} : ∀ {n : Nat}, (∀ i, i < n → ∃ a, p i a) → ∃ l : List α, l.length = n ∧ ∀ i a, l[i]? = some a → p i a
  | 0, _ => ⟨[], rfl, fun i a h => by simp at h⟩
  | n + 1, h => by
    obtain ⟨l, hl, hp⟩ := list_of_each (n := n) fun i hi => h i (by omega)
    obtain ⟨a, ha⟩ := h n (by omega)
    refine ⟨l ++ [a], by simp [hl], fun i b hb => ?_⟩
    by_cases hi : i < l.length
    · rw [List.getElem?_append_left hi] at hb
      exact hp i b hb
    · rw [List.getElem?_append_right (by omega)] at hb
      have : i = n := by
        have := (List.getElem?_eq_some_iff.1 hb).1
        simp at this
        omega
      subst this
      simp [hl] at hb
      subst hb
      exact ha
theorem inR_of_wf {x : Int} (h : (Lit.int .i64 x).wf = true) : InR x := by
  simp [Lit.wf, IntKind.min, IntKind.max, IntKind.signed, IntKind.bits] at h
  exact ⟨by omega, by omega⟩

section
variable {H : Type} {enc : TypeId × Value → H} {w : World} {base : Nat} {spare : Nat → Bool} {held : Bool}
/-- A slice of arcs that came in. -/
theorem open_arcs {fuel : Nat} {v : Value} {x : DataW H × List MemPlace} (h : DataW.trod enc Try.prog w base spare held fuel 22 [v] = some x) :
    ∃ (A : Option Addr) (n c : Nat) (l : List ArcN), v = .slice A n c ∧ Arcs w w.heap.size A n l ∧ FitsAll l ∧ n ≤ c := by
  rcases open_slice Try.underlying22 h with ⟨hcs, _⟩ | ⟨a, len, cap, m, k, D, Pl, hcs, hb, hl, hm, hmm, hx, hi⟩
  · simp at hcs
    subst hcs
    exact ⟨none, 0, 0, [], rfl, RdBy.empty, by simp [FitsAll], Nat.le_refl _⟩
  · simp at hcs
    subst hcs
    have hc3 : Try.prog.cellsOf 68 = 3 := by kernel_rfl
    have hlm : len ≤ m := by rw [hmm]; split <;> omega
    have each : ∀ i, i < len → ∃ q : ArcN, (w.cell? (a.add (i * 3)) = some (.int .i64 q.frm) ∧ w.cell? (a.add (i * 3 + 1)) = some (.int .i64 q.to) ∧ w.cell? (a.add (i * 3 + 2)) = some (.int .i64 q.cap)) ∧ q.fits := by
      intro i hil
      obtain ⟨cs', hc, ht⟩ := hi i (by omega)
      rw [hc3] at hc
      obtain ⟨_, hcl, hat⟩ := World.cells?_some hc
      obtain ⟨ys, n', _, _, _, _, hf⟩ := DataW.trod_struct Try.underlying68 ht
      match cs', hcl with
      | [v0, v1, v2], _ =>
        have k3 : Try.prog.cellsOf 3 = 1 := by kernel_rfl
        have k2 : Try.prog.cellsOf 2 = 1 := by kernel_rfl
        have e0 : DataW.trod enc Try.prog w base spare held n' 3 (([v0, v1, v2].drop 0).take (Try.prog.cellsOf 3)) = ys[0]? := hf 0 _ rfl
        have e1 : DataW.trod enc Try.prog w base spare held n' 3 (([v0, v1, v2].drop 1).take (Try.prog.cellsOf 3)) = ys[1]? := hf 1 _ rfl
        have e2 : DataW.trod enc Try.prog w base spare held n' 2 (([v0, v1, v2].drop 2).take (Try.prog.cellsOf 2)) = ys[2]? := hf 2 _ rfl
        rw [k3] at e0 e1
        rw [k2] at e2
        simp only [List.drop_zero, List.drop_succ_cons, List.take_succ_cons, List.take_zero] at e0 e1 e2
        have s0 := hat 0 (by omega); have s1 := hat 1 (by omega); have s2 := hat 2 (by omega)
        have g : ∀ j : Nat, j < 3 → ∃ y, ys[j]? = some y := fun j hj => ⟨ys[j]'(by simp_all), List.getElem?_eq_getElem (by simp_all)⟩
        obtain ⟨y0, g0⟩ := g 0 (by omega)
        obtain ⟨y1, g1⟩ := g 1 (by omega)
        obtain ⟨y2, g2⟩ := g 2 (by omega)
        obtain ⟨x0, f0, _, wf0⟩ := DataW.trod_int Try.underlying3 (e0.trans g0)
        obtain ⟨x1, f1, _, wf1⟩ := DataW.trod_int Try.underlying3 (e1.trans g1)
        obtain ⟨x2, f2, _, wf2⟩ := DataW.trod_int Try.underlying2 (e2.trans g2)
        simp at f0 f1 f2
        subst f0; subst f1; subst f2
        refine ⟨⟨x0, x1, x2⟩, ⟨?_, ?_, ?_⟩, inR_of_wf wf0, inR_of_wf wf1, inR_of_wf wf2⟩
        · simpa [Go.Deep.add_add] using s0
        · simpa [Go.Deep.add_add] using s1
        · simpa [Go.Deep.add_add] using s2
    obtain ⟨l, hll, hlp⟩ := list_of_each each
    refine ⟨some a, len, cap, l, rfl, ⟨hll, fun hn => ?_⟩, fun q hq => ?_, hl⟩
    · obtain ⟨q, hq⟩ := each 0 hn
      have hc0 := hq.1.1
      have hsp : a.spot = none := by simpa [Addr.add] using World.cell?_spot hc0
      obtain ⟨b, off, spot⟩ := a
      simp only at hsp
      subst hsp
      refine ⟨b, off, rfl, by simpa [Addr.add] using World.block_lt_of_cell? w _ hc0, fun k q hk j u hu => ?_⟩
      obtain ⟨⟨s0, s1, s2⟩, _⟩ := hlp k q hk
      have ea : ∀ j, (⟨b, off, none⟩ : Addr).add j = ⟨b, off + j, none⟩ := fun j => by unfold Addr.add; split <;> simp_all
      rw [ea] at s0 s1 s2
      match j, hu with
      | 0, hu => simp [arcCells] at hu; subst hu; exact s0
      | 1, hu => simp [arcCells] at hu; subst hu; exact s1
      | 2, hu => simp [arcCells] at hu; subst hu; exact s2
      | j + 3, hu => simp [arcCells] at hu
    · obtain ⟨i, hi⟩ := List.getElem?_of_mem hq
      exact (hlp i q hi).2

/-- A net that came in. -/
theorem open_net {r : Reach} {b0 : Nat} {v : Value} {d : DataW H} {p : List MemPlace} (hv : Value.okWide Try.prog w r b0 24 v) (h : DataW.Trod enc Try.prog w base spare held 24 v d p) :
    ∃ (N S T : Int) (A : Option Addr) (n c : Nat) (l : List ArcN), v = .agg #[.int .i64 N, .int .i64 S, .int .i64 T, .slice A n c] ∧ Arcs w w.heap.size A n l ∧ FitsAll l ∧ n ≤ c ∧ InR N ∧ InR S ∧ InR T := by
  obtain ⟨v0, v1, v2, v3, y0, y1, y2, y3, k, rfl, _, _, h0, h1, h2, h3⟩ := open_agg4 Try.underlying24 (by kernel_rfl) (by kernel_rfl) hv h
  obtain ⟨N, e0, _, w0⟩ := DataW.trod_int Try.underlying3 h0
  obtain ⟨S, e1, _, w1⟩ := DataW.trod_int Try.underlying3 h1
  obtain ⟨T, e2, _, w2⟩ := DataW.trod_int Try.underlying3 h2
  obtain ⟨A, n, c, l, rfl, hA, hf, hc⟩ := open_arcs h3
  simp at e0 e1 e2
  subst e0; subst e1; subst e2
  exact ⟨N, S, T, A, n, c, l, rfl, hA, hf, hc, inR_of_wf w0, inR_of_wf w1, inR_of_wf w2⟩
end

end Go.Proofs.Ytanifbofjecpmaa

/-! A list of numbers that came in, opened. -/
namespace Go.Proofs.Ytanifbofjecpmaa
open Go.ChangeShapes Go.WideShapes Go.ChangeAt Go.RowKit Go.Deep Go.Joins
set_option maxRecDepth 100000

section
variable {H : Type} {enc : TypeId × Value → H} {w : World} {base : Nat} {spare : Nat → Bool} {held : Bool}
theorem open_longs {r : Reach} {b0 : Nat} {v : Value} {d : DataW H} {p : List MemPlace} (hv : Value.okWide Try.prog w r b0 26 v) (h : DataW.Trod enc Try.prog w base spare held 26 v d p) :
    ∃ (A : Option Addr) (n c : Nat) (L : List Int), v = .slice A n c ∧ Ints w w.heap.size A n L ∧ (∀ x ∈ L, InR x) ∧ n ≤ c := by
  obtain ⟨a, len, cap, rfl⟩ := okWide_slice Try.underlying26 hv
  obtain ⟨fuel, hf⟩ := h
  rcases open_ints Try.underlying26 Try.underlying2 (by kernel_rfl) hf with ⟨hcs, _⟩ | ⟨ad, n, c, zs, hcs, _, hl, _, hz, _, hc, hw⟩
  · simp [Value.cells] at hcs
    obtain ⟨rfl, rfl, rfl⟩ := hcs
    exact ⟨none, 0, 0, [], rfl, RdBy.empty, by simp, Nat.le_refl _⟩
  · simp [Value.cells] at hcs
    obtain ⟨rfl, rfl, rfl⟩ := hcs
    have hlz : len ≤ zs.length := by rw [hz]; split <;> omega
    have hlen : (zs.take len).length = len := by simp; omega
    refine ⟨some ad, len, cap, zs.take len, rfl, ⟨hlen, fun hn => ?_⟩, fun x hx => inR_of_wf (hw x (List.mem_of_mem_take hx)), hl⟩
    have hc0 := hc 0 (by omega)
    have hsp : ad.spot = none := by simpa [Addr.add] using World.cell?_spot hc0
    obtain ⟨b, off, spot⟩ := ad
    simp only at hsp
    subst hsp
    refine ⟨b, off, rfl, by simpa [Addr.add] using World.block_lt_of_cell? w _ hc0, fun k x hk j u hu => ?_⟩
    have hkl : k < len := by have := (List.getElem?_eq_some_iff.1 hk).1; omega
    have hck := hc k (by omega)
    have ea : ∀ j, (⟨b, off, none⟩ : Addr).add j = ⟨b, off + j, none⟩ := fun j => by unfold Addr.add; split <;> simp_all
    rw [ea] at hck
    cases j with
    | zero =>
      simp only [intCells, List.getElem?_cons_zero, Option.some.injEq] at hu
      subst hu
      have hx : zs.getD k 0 = x := by
        rw [List.getElem?_take_of_lt hkl] at hk
        simp [List.getD, hk]
      rw [hx] at hck
      simpa using hck
    | succ j => simp [intCells] at hu
end

end Go.Proofs.Ytanifbofjecpmaa
