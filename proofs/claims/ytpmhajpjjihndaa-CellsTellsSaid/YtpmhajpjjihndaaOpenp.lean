/- A slice of accesses that came in, opened. -/
import Derived.Test.YtpmhajpjjihndaaOpens
import Derived.Laws.Bits128
namespace Go.Proofs.Ytpmhajpjjihndaa
open Go.ChangeShapes Go.WideShapes Go.ChangeAt Go.RowKit Go.Deep Go.Joins
set_option maxRecDepth 100000

/-- An access: what it is, its cell, its numbers, whether the old one is made right. -/
structure OpS where
  what : Int
  at_ : Int
  v : Int
  old : Int
  right : Bool
def opCells (a : OpS) : List Value := [.int .u8 a.what, .int .i64 a.at_, .int .i64 a.v, .int .i64 a.old, .bool a.right]
/-- A slice reads as these accesses. -/
abbrev Ops (w : World) (B : Nat) (A : Option Addr) (n : Nat) (l : List OpS) : Prop := RdBy opCells 5 w B A n l
def OpS.fits (a : OpS) : Prop := (0 ≤ a.what ∧ a.what ≤ 255) ∧ InR a.at_ ∧ InR a.v ∧ InR a.old

section
variable {H : Type} {enc : TypeId × Value → H} {w : World} {base : Nat} {spare : Nat → Bool} {held : Bool}
theorem open_ops {fuel : Nat} {v : Value} {x : DataW H × List MemPlace} (h : DataW.trod enc Try.prog w base spare held fuel 22 [v] = some x) :
    ∃ (A : Option Addr) (n c : Nat) (l : List OpS), v = .slice A n c ∧ Ops w w.heap.size A n l ∧ (∀ a ∈ l, a.fits) ∧ n ≤ c := by
  rcases open_slice Try.underlying22 h with ⟨hcs, _⟩ | ⟨a, len, cap, m, k, D, Pl, hcs, hb, hl, hm, hmm, hx, hi⟩
  · simp at hcs
    subst hcs
    exact ⟨none, 0, 0, [], rfl, RdBy.empty, fun a ha => (by cases ha), Nat.le_refl _⟩
  · simp at hcs
    subst hcs
    have hc5 : Try.prog.cellsOf 32 = 5 := by kernel_rfl
    have k3 : Try.prog.cellsOf 3 = 1 := by kernel_rfl
    have k2 : Try.prog.cellsOf 2 = 1 := by kernel_rfl
    have k5 : Try.prog.cellsOf 5 = 1 := by kernel_rfl
    have k4 : Try.prog.cellsOf 4 = 1 := by kernel_rfl
    have hlm : len ≤ m := by rw [hmm]; split <;> omega
    have each : ∀ i, i < len → ∃ q : OpS, q.fits ∧ ∀ (j : Nat) (u : Value), (opCells q)[j]? = some u → w.cell? (a.add (i * 5 + j)) = some u := by
      intro i hil
      obtain ⟨cs', hc, ht⟩ := hi i (by omega)
      rw [hc5] at hc
      obtain ⟨_, hcl, hat⟩ := World.cells?_some hc
      obtain ⟨ys, n', _, _, _, _, hf⟩ := DataW.trod_struct Try.underlying32 ht
      match cs', hcl with
      | [v0, v1, v2, v3, v4], _ =>
        have e0 : DataW.trod enc Try.prog w base spare held n' 5 (([v0, v1, v2, v3, v4].drop 0).take (Try.prog.cellsOf 5)) = ys[0]? := hf 0 _ rfl
        have e1 : DataW.trod enc Try.prog w base spare held n' 3 (([v0, v1, v2, v3, v4].drop 1).take (Try.prog.cellsOf 3)) = ys[1]? := hf 1 _ rfl
        have e2 : DataW.trod enc Try.prog w base spare held n' 2 (([v0, v1, v2, v3, v4].drop 2).take (Try.prog.cellsOf 2)) = ys[2]? := hf 2 _ rfl
        have e3 : DataW.trod enc Try.prog w base spare held n' 2 (([v0, v1, v2, v3, v4].drop 3).take (Try.prog.cellsOf 2)) = ys[3]? := hf 3 _ rfl
        have e4 : DataW.trod enc Try.prog w base spare held n' 4 (([v0, v1, v2, v3, v4].drop 4).take (Try.prog.cellsOf 4)) = ys[4]? := hf 4 _ rfl
        rw [k5] at e0
        rw [k3] at e1
        rw [k2] at e2 e3
        rw [k4] at e4
        simp only [List.drop_zero, List.drop_succ_cons, List.take_succ_cons, List.take_zero] at e0 e1 e2 e3 e4
        have g : ∀ j : Nat, j < 5 → ∃ y, ys[j]? = some y := fun j hj => ⟨ys[j]'(by simp_all), List.getElem?_eq_getElem (by simp_all)⟩
        obtain ⟨y0, g0⟩ := g 0 (by omega)
        obtain ⟨y1, g1⟩ := g 1 (by omega)
        obtain ⟨y2, g2⟩ := g 2 (by omega)
        obtain ⟨y3, g3⟩ := g 3 (by omega)
        obtain ⟨y4, g4⟩ := g 4 (by omega)
        obtain ⟨x0, f0, _, wf0⟩ := DataW.trod_int Try.underlying5 (e0.trans g0)
        obtain ⟨x1, f1, _, wf1⟩ := DataW.trod_int Try.underlying3 (e1.trans g1)
        obtain ⟨x2, f2, _, wf2⟩ := DataW.trod_int Try.underlying2 (e2.trans g2)
        obtain ⟨x3, f3, _, wf3⟩ := DataW.trod_int Try.underlying2 (e3.trans g3)
        obtain ⟨x4, f4, _⟩ := DataW.trod_bool Try.underlying4 (e4.trans g4)
        simp at f0 f1 f2 f3 f4
        subst f0; subst f1; subst f2; subst f3; subst f4
        refine ⟨⟨x0, x1, x2, x3, x4⟩, ⟨by simpa [Lit.wf, IntKind.min, IntKind.max, IntKind.signed, IntKind.bits] using wf0, inR_of_wf wf1, inR_of_wf wf2, inR_of_wf wf3⟩, fun j u hu => ?_⟩
        have hj := (List.getElem?_eq_some_iff.1 hu).1
        have hs := hat j (by simpa [opCells] using hj)
        rw [show a.add (i * 5 + j) = (a.add (i * 5)).add j from (Go.Deep.add_add _ _ _).symm]
        rw [← hu]
        exact hs
    have each' : ∀ i, i < len → ∃ q : OpS, (fun i (q : OpS) => q.fits ∧ ∀ (j : Nat) (u : Value), (opCells q)[j]? = some u → w.cell? (a.add (i * 5 + j)) = some u) i q := each
    obtain ⟨l, hll, hlp⟩ := list_of_each each'
    refine ⟨some a, len, cap, l, rfl, ⟨hll, fun hn => ?_⟩, fun q hq => ?_, hl⟩
    · obtain ⟨q, hq⟩ := each 0 hn
      have hc0 := hq.2 0 _ rfl
      have hsp : a.spot = none := by simpa [Addr.add] using World.cell?_spot hc0
      obtain ⟨b, off, spot⟩ := a
      simp only at hsp
      subst hsp
      refine ⟨b, off, rfl, by simpa [Addr.add] using World.block_lt_of_cell? w _ hc0, fun k q hk j u hu => ?_⟩
      have s0 := (hlp k q hk).2 j u hu
      have ea : ∀ j, (⟨b, off, none⟩ : Addr).add j = ⟨b, off + j, none⟩ := fun j => by unfold Addr.add; split <;> simp_all
      rw [ea] at s0
      exact s0
    · obtain ⟨k, hk⟩ := List.getElem?_of_mem hq
      exact (hlp k q hk).1
end
/-- The k-th access. -/
theorem ops_at {w : World} {B n : Nat} {A : Option Addr} {l : List OpS} (h : Ops w B A n l) {k : Nat} (hk : k < n) :
    ∃ (b off : Nat) (a : OpS), A = some ⟨b, off, none⟩ ∧ b < B ∧ l[k]? = some a ∧ w.cell? ⟨b, off + k * 5, none⟩ = some (.int .u8 a.what) ∧ w.cell? ⟨b, off + k * 5 + 1, none⟩ = some (.int .i64 a.at_) ∧
      w.cell? ⟨b, off + k * 5 + 2, none⟩ = some (.int .i64 a.v) ∧ w.cell? ⟨b, off + k * 5 + 3, none⟩ = some (.int .i64 a.old) ∧ w.cell? ⟨b, off + k * 5 + 4, none⟩ = some (.bool a.right) := by
  obtain ⟨a, ha⟩ := h.get hk
  obtain ⟨b, off, e, hb, hc⟩ := h.2 (by omega)
  refine ⟨b, off, a, e, hb, ha, by simpa using hc k a ha 0 _ rfl, by rw [Nat.add_assoc]; exact hc k a ha 1 _ rfl, by rw [Nat.add_assoc]; exact hc k a ha 2 _ rfl, by rw [Nat.add_assoc]; exact hc k a ha 3 _ rfl, by rw [Nat.add_assoc]; exact hc k a ha 4 _ rfl⟩
theorem ops_slice (A : Option Addr) (n c q : Nat) (hq : q ≤ c) (W : World) : (Instr.sliceAt 22 (.slice A n c) none (some (.int .i64 (q : Int))) none).run Try.prog W = .ok (.slice A q c) W := by
  have ht : Try.prog.underlying 22 = some (.slice (Try.prog.elem 22)) := by kernel_rfl
  have hs : ∃ s, ∀ W, (sizeOf (Try.prog.elem 22)).run Try.prog W = .ok s W := ⟨5, fun W => by kernel_rfl⟩
  obtain ⟨s, hs⟩ := hs
  rw [run_sliceAt_slice _ _ _ _ _ _ ht, run_slice_h _ _ _ _ _ ht _ _ (by omega) (by omega), hs]
  simp only [Result.andThen, sliced, Nat.zero_mul, Nat.sub_zero, Int.toNat_natCast]
  congr 2
  split
  · rfl
  · cases A with
    | none => rfl
    | some a => obtain ⟨b, o, s⟩ := a; cases s <;> simp [Addr.add]
theorem ops_short {w : World} {B n m : Nat} {A : Option Addr} {l : List OpS} (h : Ops w B A n l) (hm : m ≤ n) : Ops w B A m (l.take m) :=
  ⟨by rw [List.length_take, h.1]; omega, fun h0 => by
    obtain ⟨b, off, e, hb, hc⟩ := h.2 (by omega)
    refine ⟨b, off, e, hb, fun k a ha j u hu => hc k a ?_ j u hu⟩
    rw [List.getElem?_take] at ha
    split at ha
    · exact ha
    · cases ha⟩
/-- 'x & 255' is the rest of a division by 256. -/
theorem i64_and255 (n : Int) : bits .and .i64 n 255 = n % 256 := by
  have h255 : (BitVec.ofInt 64 255).toNat = 2 ^ 8 - 1 := by decide
  have key : (BitVec.ofInt 64 n &&& BitVec.ofInt 64 255).toNat = (n % ((2 ^ 64 : Nat) : Int)).toNat % 2 ^ 8 := by
    rw [BitVec.toNat_and, BitVec.toNat_ofInt, h255, Nat.and_two_pow_sub_one_eq_mod]
  show IntKind.i64.wrap ((BitVec.ofInt 64 n &&& BitVec.ofInt 64 255).toNat : Nat) = n % 256
  rw [key, IntKind.wrap_i64]
  omega
/-- The cell that an access means, of m cells. -/
def cellOf (m : Nat) (a : OpS) : Nat := (a.at_ % 256 % (m : Int)).toNat
theorem cellOf_is {m : Nat} (hm : 1 ≤ m) (a : OpS) : cellOf m a < m ∧ a.at_ % 256 % (m : Int) = (cellOf m a : Int) := by
  have h0 := Int.emod_nonneg (a.at_ % 256) (b := (m : Int)) (by omega)
  have h1 := Int.emod_lt_of_pos (a.at_ % 256) (b := (m : Int)) (by omega)
  unfold cellOf
  omega
end Go.Proofs.Ytpmhajpjjihndaa
