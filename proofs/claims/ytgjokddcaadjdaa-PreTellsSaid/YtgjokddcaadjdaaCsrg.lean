/- Layer 2: isCount. Layer 2: balanced, Flow, Forward. -/
import Derived.Test.YtgjokddcaadjdaaCsrm
import Derived.Test.YtgjokddcaadjdaaCsrr
/-! Csrn -/
namespace Go.Proofs.Ytgjokddcaadjdaa
open Go.RowKit

set_option maxHeartbeats 400000 in
theorem isCount_any (n : Int) (w : World) :
    Calls Try.prog 68 #[.int .i64 n] w fun e w' => e = .returned (.bool (decide (0 ≤ n ∧ n ≤ 16384))) ∧ Below w.heap.size w w' := by
  go_enter Try.func68, Try.ntmps68
  go_wp2
  all_goals go_ret
  all_goals refine ⟨ret_bool ?_, Below.refl _ _⟩
  all_goals (simp; try omega)

end Go.Proofs.Ytgjokddcaadjdaa

/-! Csrg -/
namespace Go.Proofs.Ytgjokddcaadjdaa
open Go.RowKit

/-- A list whose places are set one by one. -/
structure FillTo (P : Nat → Nat → Int → Prop) (d : Int) (n k : Nat) (F : List Int) : Prop where
  len : F.length = n
  ent : ∀ p i x, P p i x → p < k → F[i]? = some x
  rest : ∀ i, i < n → (∀ p x, P p i x → ¬ p < k) → F[i]? = some d
section
variable {P : Nat → Nat → Int → Prop} {d x : Int} {n k i : Nat} {F : List Int}
theorem FillTo.zero (P : Nat → Nat → Int → Prop) (d : Int) (n : Nat) (h : F = List.replicate n d) : FillTo P d n 0 F := by
  subst h
  exact ⟨by simp, fun p i x _ hp => absurd hp (by omega), fun i hi _ => by simp [hi]⟩
theorem FillTo.skip (h : FillTo P d n k F) (hk : ∀ i x, ¬ P k i x) : FillTo P d n (k + 1) F := by
  refine ⟨h.len, fun p i x hp hlt => ?_, fun i hi hn => h.rest i hi fun p x hp hlt => hn p x hp (by omega)⟩
  by_cases e : p = k
  · subst e; exact absurd hp (hk i x)
  · exact h.ent p i x hp (by omega)
theorem FillTo.step (h : FillTo P d n k F) (hP : P k i x) (hi : i < n) (h1 : ∀ p x', P p i x' → p = k) (h2 : ∀ i' x', P k i' x' → i' = i ∧ x' = x) : FillTo P d n (k + 1) (F.set i x) := by
  have hl := h.len
  refine ⟨by simp [hl], fun p i' x' hp hlt => ?_, fun i' hi' hn => ?_⟩
  · by_cases e : p = k
    · subst e
      obtain ⟨rfl, rfl⟩ := h2 i' x' hp
      simp [hl, hi]
    · have hii : i ≠ i' := by
        rintro rfl
        exact e (h1 p x' hp)
      rw [List.getElem?_set_ne hii]
      exact h.ent p i' x' hp (by omega)
  · have hii : i ≠ i' := by
      rintro rfl
      exact hn k x hP (by omega)
    rw [List.getElem?_set_ne hii]
    exact h.rest i' hi' fun p x hp hlt => hn p x hp (by omega)
end

/-- Are these the residual capacities of a flow? -/
def Balanced (l : List ArcN) (X : List Int) : Prop :=
  (∀ (j : Nat) (x : Int), X[j]? = some x → 0 ≤ x) ∧ ∀ (i : Nat) (v u c x y : Int), Inc l i v u false c → X[posOf l i v]? = some x → X[posOf l i u]? = some y → y = c - x

set_option maxHeartbeats 2000000 in
theorem balanced_any (N M : Nat) (S T : Int) (gF gH gR gC gA gB : Nat) (l : List ArcN) (AX : Option Addr) (cX : Nat) (X : List Int) (r : Bool) (w : World) (hC : CsrAt w w.heap.size N l gF gH gR gC gA gB) (hE : EndsIn N l) (hMe : firstOf l N = M) (hM : M ≤ 100000000)
    (hX : Ints w w.heap.size AX M X) (hXR : ∀ x ∈ X, x ≤ 9223372036854775807) (hcap : ∀ a ∈ l, 0 ≤ a.cap ∧ a.cap ≤ 4611686018427387904) (hr : r = true ↔ Balanced l X) :
    Calls Try.prog 70 #[csrV N M S T gF gH gR gC gA gB, .slice AX M cX] w fun e w' => e = .returned (.bool r) ∧ Below w.heap.size w w' := by
  have hfalse : ¬ Balanced l X → false = r := fun h => by
    cases r with
    | false => rfl
    | true => exact absurd (hr.1 rfl) h
  have HF := Lib.hid hfalse; clear hfalse
  have HT := Lib.hid hr.2; clear hr
  go_enter Try.func70, Try.ntmps70
  go_wp2_with fail
  refine (len_any _ _ _ _ _ _ _ _ _ _ _).mono ?_
  rintro e w1 ⟨rfl, B1⟩
  have K : Blk w1 w.heap.size 32 _ := (Blk.new rfl).below B1 (by simp)
  have C1 := (hC.onAlloc _).on B1
  have X1 := (hX.onAlloc _).on B1
  have Bw := below_step (below_alloc _) B1
  obtain ⟨a0, a1, a2, a3, a4, a5, a6, a7, a8⟩ := K.at9
  clear B1
  go_wp2_with fail
  go_loopw [5, 8] (fun _ i wr => ∃ k nd : Nat, k ≤ M ∧ i = .int .i64 k ∧ wr = w1.drewN nd ∧ (∀ (j : Nat) (x : Int), j < k → X[j]? = some x → 0 ≤ x) ∧
      ∀ (i : Nat) (v u c x y : Int), Inc l i v u false c → posOf l i v < k → X[posOf l i v]? = some x → X[posOf l i u]? = some y → y = c - x) (fun _ i _ => M - (intOf i).toNat)
  case atStart => exact ⟨0, 0, Nat.zero_le _, rfl, rfl, fun j x h => absurd h (by omega), fun i v u c x y _ h => absurd h (by omega)⟩
  case round =>
    obtain ⟨k, nd, hk, rfl, rfl, hp1, hp2⟩ := hrel
    have HP1 := Lib.hid hp1; have HP2 := Lib.hid hp2; clear hp1 hp2
    by_cases hlt : k < M
    · obtain ⟨i, q, v, u, b, c, hI, hpos, hqos, hq, e1, e2, e3, e4, e5⟩ := C1.at hE (show k < firstOf l N by omega)
      obtain ⟨bx, ox, x, rfl, hbx, hx, hcx⟩ := intl_at X1 (k := k) hlt
      obtain ⟨_, _, y, hA2, _, hy, hcy⟩ := intl_at X1 (k := q) (by omega)
      injection hA2 with hA2
      injection hA2 with hA2 hA3 _
      subst hA2; subst hA3
      have hxm := hXR x (mem_at hx)
      have HX := Lib.hid hx; have HY := Lib.hid hy; have HI := Lib.hid hI; have HPO := Lib.hid hpos; have HQO := Lib.hid hqos
      have hqM : q < M := by omega
      clear hx hy hI hpos hqos
      by_cases hx0 : x < 0
      · go_wp2_with fail
        go_ret
        exact ⟨ret_bool (HF.out fun h => by have := h.1 k x HX.out; omega), below_drewN' Bw _⟩
      · have next1 : ∀ (j : Nat) (x' : Int), j < k + 1 → X[j]? = some x' → 0 ≤ x' := fun j x' hj hx' => by
          by_cases e : j = k
          · subst e
            have := hx'.symm.trans HX.out
            injection this with this
            omega
          · exact HP1.out j x' (by omega) hx'
        have HN1 := Lib.hid next1; clear next1
        cases b with
        | true =>
          go_wp2_with fail
          go_quiet (fail)
          go_wp2_with fail
          go_roundw
          case rel =>
            refine ⟨k + 1, nd + nq, by omega, by go_num, rfl, HN1.out, fun i' v' u' c' x' y' h1 h2 h3 h4 => ?_⟩
            by_cases e : posOf l i' v' = k
            · obtain ⟨rfl, rfl⟩ := pos_inj h1 HI.out (h1.ends hE).1 (HI.out.ends hE).1 (by have := HPO.out; omega)
              have := (h1.same HI.out).2.1
              cases this
            · exact HP2.out i' v' u' c' x' y' h1 (by omega) h3 h4
          case measure => simp [intOf]; omega
        | false =>
          obtain ⟨hc0, hc1⟩ : 0 ≤ c ∧ c ≤ 4611686018427387904 := by
            obtain ⟨_, a, ha, hh⟩ := HI.out
            rcases hh with ⟨_, _, _, h3⟩ | ⟨h0, _⟩
            · have := hcap a (mem_at ha)
              omega
            · cases h0
          by_cases hyc : y = c - x
          · have hyc' : (y != c - x) = false := by simpa using hyc
            go_wp2_with fail
            go_quiet (fail)
            go_wp2_with fail
            go_roundw
            case rel =>
              refine ⟨k + 1, nd + nq, by omega, by go_num, rfl, HN1.out, fun i' v' u' c' x' y' h1 h2 h3 h4 => ?_⟩
              by_cases e : posOf l i' v' = k
              · obtain ⟨rfl, rfl⟩ := pos_inj h1 HI.out (h1.ends hE).1 (HI.out.ends hE).1 (by have := HPO.out; omega)
                obtain ⟨e1, _, e2⟩ := h1.same HI.out
                subst e1; subst e2
                rw [HPO.out] at h3
                rw [HQO.out] at h4
                have g1 := h3.symm.trans HX.out
                have g2 := h4.symm.trans HY.out
                injection g1 with g1
                injection g2 with g2
                omega
              · exact HP2.out i' v' u' c' x' y' h1 (by omega) h3 h4
            case measure => simp [intOf]; omega
          · have hyc' : (y != c - x) = true := by simpa using hyc
            go_wp2_with fail
            go_quiet (fail)
            go_wp2_with fail
            go_ret
            refine ⟨ret_bool (HF.out fun h => hyc (h.2 i v u c x y HI.out (by rw [HPO.out]; exact HX.out) (by rw [HQO.out]; exact HY.out))), below_drewN' (below_drewN' Bw _) _⟩
    · go_wp2_with fail
      go_ret
      refine ⟨ret_bool (HT.out ⟨fun j x hx => HP1.out j x ?_ hx, fun i v u c x y h1 h2 h3 => HP2.out i v u c x y h1 ?_ h2 h3⟩).symm, below_drewN' Bw _⟩
      · have := (List.getElem?_eq_some_iff.1 hx).1
        have := hX.len
        omega
      · have := pos_lt h1 hE
        omega

end Go.Proofs.Ytgjokddcaadjdaa
