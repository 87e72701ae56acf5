/- Layer 9: of layer 7's texts what the document's own functions need: the begin of a residual arc, appends onto slices made in the same statement. -/
import Derived.Test.YtanifbofjecpmaaHxf
import Derived.Test.YtanifbofjecpmaaLongc
import Derived.Test.YtanifbofjecpmaaRhto
namespace Go.Proofs.Ytanifbofjecpmaa
open Go.RowKit Go.Shelf
set_option maxRecDepth 100000

set_option maxHeartbeats 2000000 in
theorem rtail_is (N M s t a : Nat) (K : CsrS) (fst hd rv : Nat → Nat) (w : World) (hG : Grid N M fst hd rv) (hI : GridIn w w.heap.size N M K fst hd rv) (ha : a < M) (hN : N ≤ 4096) :
    Calls Try.prog 69 #[csrW N M s t K, .int .i64 (a : Int)] w fun e w' => e = .returned (.int .i64 (hd (rv a) : Int)) ∧ Below w.heap.size w w' := by
  obtain ⟨h1, h2, h3⟩ := hG.row ha
  obtain ⟨u, hu⟩ : ∃ u, hd (rv a) = u := ⟨_, rfl⟩
  rw [hu] at h1 h2 h3 ⊢
  have hmo := fun v (h : v < u) => hG.monoN (i := v + 1) (j := u) (by omega) (by omega)
  have hm2 := fun v (h : v ≤ u) => hG.monoN (i := v) (j := u) h (by omega)
  have hfl := fun v (h : v ≤ N) => hG.fle (v := v) h
  have HMO := Lib.hid hmo; have HM2 := Lib.hid hm2; have HFL := Lib.hid hfl
  clear hmo hm2 hu hG hfl
  obtain ⟨bF, oF, hF⟩ := hI.iF.adr (by omega)
  have hiF := hI.iF
  obtain ⟨AF, cF, AH, cH, AR, cR, AC, cC, AA, cA, AB, cB⟩ := K
  dsimp only [csrW] at hF hiF ⊢
  subst hF
  obtain ⟨w1, hw1⟩ : ∃ w1, w.alloc (.cells #[.int .i64 (N : Int), .int .i64 (s : Int), .int .i64 (t : Int), .slice (some ⟨bF, oF, none⟩) (N + 1) cF, .slice AH M cH, .slice AR M cR, .slice AC M cC, .slice AA M cA, .slice AB M cB] 32) = w1 := ⟨_, rfl⟩
  have B1 : Below w.heap.size w w1 := by rw [← hw1]; exact below_alloc _
  have C1 : Blk w1 w.heap.size 32 #[.int .i64 (N : Int), .int .i64 (s : Int), .int .i64 (t : Int), .slice (some ⟨bF, oF, none⟩) (N + 1) cF, .slice AH M cH, .slice AR M cR, .slice AC M cC, .slice AA M cA, .slice AB M cB] := by rw [← hw1]; exact Blk.new rfl
  have hiF1 := hiF.on B1
  have HIF := Lib.hid hiF1; have HB1 := Lib.hid B1
  obtain ⟨a0, a1, a2, a3, a4, a5, a6, a7, a8⟩ := C1.at9
  have hz1 := C1.lt
  clear hI hiF hiF1 B1 C1
  go_enter Try.func69, Try.ntmps69
  go_wp2_with fail
  clear hw1
  go_loopw [5] (fun i wr => ∃ v : Nat, v ≤ u ∧ i = .int .i64 v ∧ wr = w1) (fun i _ => u + 1 - (intOf i).toNat)
  case atStart => exact ⟨0, Nat.zero_le _, rfl, rfl⟩
  case round =>
    obtain ⟨v, hv, rfl, rfl⟩ := hrel
    obtain ⟨hb0, c0⟩ := tab_cell HIF.out (k := v) (by omega)
    obtain ⟨-, c1⟩ := tab_cell HIF.out (k := v + 1) (by omega)
    have g0 := HM2.out v hv
    have g1 := HFL.out (v + 1) (by omega)
    obtain ⟨x, hx⟩ : ∃ x, fst v = x := ⟨_, rfl⟩
    obtain ⟨y, hy⟩ : ∃ y, fst (v + 1) = y := ⟨_, rfl⟩
    rw [hx] at c0 g0
    by_cases hlt : v < u
    · have g2 := HMO.out v hlt
      rw [hy] at c1 g1 g2
      clear hx hy
      have e1 : (x : Int) ≤ (a : Int) := by omega
      have e2 : ¬ (a : Int) < (y : Int) := by omega
      go_wp2_with fail
      refine ⟨⟨v + 1, by omega, by go_num, trivial⟩, ?_⟩
      simp [intOf]; omega
    · have e : v = u := by omega
      subst e
      rw [hy] at c1 g1 h2
      clear hx hy
      have e1 : (x : Int) ≤ (a : Int) := by omega
      have e2 : (a : Int) < (y : Int) := by omega
      go_wp2_with fail
      go_ret
      exact ⟨rfl, HB1.out⟩

theorem ints_src {w W : World} {A : Option Addr} {n : Nat} {L : List Int} (h : Ints w w.heap.size A n L) (hb : Below w.heap.size w W) : 0 < n → ∃ ad, A = some ad ∧ ∀ j u, (lvs L)[j]? = some u → W.cell? (ad.add j) = some u := fun hn => by
  have := RdBy.src (int_len L) (h.below hb) hn
  rw [flat_ints] at this
  exact this

theorem own_empty (t : TypeId) (W : World) (g : Nat) (hg : W.heap.size = g) : (W.alloc (.cells #[] t)).ownsRow W.heap.size t 1 (.slice (some ⟨g, 0, none⟩) 0 0) 0 [] := by
  subst hg
  exact World.ownsRow_made W #[] 0 (Nat.le_refl _) (Nat.zero_le _) rfl

theorem step_appSrcH {P : Program} {ops : Array Oper} {o : Oper} {a : Act} {K : Act → World → Prop} {Q : Exit → Act → World → Prop} {E : Prop} {w0 W : World} {base : Nat} {rs : List Rw}
    (C : Hx w0 W base rs) (hgd : o.guard = none) (s x : Operand) (t e : TypeId) (bytes : Nat)
    (ho : o.op = .call { callee := .builtin .append, args := #[s, x], argTypes := #[t, t] }) (O : OneWide P t e bytes)
    (k n c : Nat) (A : Option Addr) (xs : List Value) (hr : rs[k]? = some ⟨e, A, n, c, xs⟩) (hs : a.eval s = .slice A n c) (A2 : Option Addr) (m c2 : Nat) (ys : List Value) (hx : a.eval x = .slice A2 m c2)
    (hsrc : 0 < m → ∃ ad, A2 = some ad ∧ ∀ j u, ys[j]? = some u → W.cell? (ad.add j) = some u) (hyl : ys.length = m) (hy1 : ∀ u ∈ ys, u.oneCell' = true)
    (hn : n + m ≤ 1000000000) (h : ∀ A' c' w', Hid (Hx w0 w' base (rs.set k ⟨e, A', n + m, c', xs ++ ys⟩)) → Hid (∀ b t' cs, Blk W b t' cs → t' ≠ e → Blk w' b t' cs) → K (a.put o.dst (.slice A' (n + m) c')) w') :
    if Region.wanted o (yielded ops a.tmps) = true then Oper.wp P o a W K Q else E := by
  obtain ⟨i, z, hi, hz, h1, h2, h3⟩ := O.info
  have hown : W.ownsRow base e 1 (.slice A n c) n xs := C.held.own k _ hr
  refine step_append_row W hgd s x t ho base e i z 1 bytes O.und hi hz h1 h2 h3 (by omega) A n c xs hs hown A2 m c2 ys hx (by rw [hyl]; omega) hsrc hy1 ?_ ?_ C.bas ?_
  · unfold maxLen; omega
  · have := O.small
    have h4 := Nat.mul_le_mul (show n + m ≤ 1000000000 by omega) this
    omega
  · intro A' c' w' ho' hg hxx
    refine h A' c' w' (Lib.hid ⟨Held.app (r := ⟨e, A, n, c, xs⟩) C.held hr ho'.out hg hxx.out, Nat.le_trans C.bas hg.size, below_grown C.bel hg hown (Nat.le_refl _) C.bas⟩) (Lib.hid fun b t' cs hb ht => hb.grownO hg hown (fun e => ht e.symm))

end Go.Proofs.Ytanifbofjecpmaa
