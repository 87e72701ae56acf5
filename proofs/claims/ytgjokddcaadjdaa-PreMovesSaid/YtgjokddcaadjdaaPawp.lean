/- Layer 7: the chapter's example, plainly; the excess of S. -/
import Derived.Test.YtgjokddcaadjdaaPlap
import Derived.Test.YtgjokddcaadjdaaFour
namespace Go.Proofs.Ytgjokddcaadjdaa
open Go.RowKit
set_option maxRecDepth 100000

def fxH : List Int := [1, 2, 0, 3, 2, 0, 3, 1, 1, 2]
def fxR : List Int := [2, 5, 0, 8, 7, 1, 9, 4, 3, 6]
def fxC : List Int := [5, 4, 0, 3, 2, 0, 6, 0, 0, 0]
theorem ten_is {L : List Int} {x0 x1 x2 x3 x4 x5 x6 x7 x8 x9 : Int} (hl : L.length = 10) (h0 : L[0]? = some x0) (h1 : L[1]? = some x1) (h2 : L[2]? = some x2) (h3 : L[3]? = some x3) (h4 : L[4]? = some x4) (h5 : L[5]? = some x5) (h6 : L[6]? = some x6) (h7 : L[7]? = some x7) (h8 : L[8]? = some x8) (h9 : L[9]? = some x9) : L = [x0, x1, x2, x3, x4, x5, x6, x7, x8, x9] := by
  apply List.ext_getElem?
  intro i
  match i with
  | 0 => rw [h0]; rfl
  | 1 => rw [h1]; rfl
  | 2 => rw [h2]; rfl
  | 3 => rw [h3]; rfl
  | 4 => rw [h4]; rfl
  | 5 => rw [h5]; rfl
  | 6 => rw [h6]; rfl
  | 7 => rw [h7]; rfl
  | 8 => rw [h8]; rfl
  | 9 => rw [h9]; rfl
  | i + 10 => rw [List.getElem?_eq_none (by omega)]; simp
theorem fx_first : firstOf fourArcs 4 = 10 := by decide +kernel
theorem fx_rows {F H R C Ai : List Int} {B : List Bool} (h : CsrL 4 fourArcs F H R C Ai B) : H = fxH ∧ R = fxR ∧ C = fxC := by
  have hf := fx_first
  have lH := h.ent.lH; have lC := h.ent.lC; have lR := h.rev.len
  rw [hf] at lH lC lR
  have e : ∀ (i : Nat) (v u : Int) (b : Bool) (c : Int) (p q : Nat), Inc fourArcs i v u b c → 0 ≤ v → posOf fourArcs i v = p → posOf fourArcs i u = q → p < 10 → H[p]? = some u ∧ R[p]? = some (q : Int) ∧ C[p]? = some c := by
    intro i v u b c p q hI hv hp hq hl
    have h1 := h.ent.ent i v u b c hI hv (by rw [hf, hp]; exact hl)
    have h2 := h.rev.ent i v u b c hI hv (by rw [hf, hp]; exact hl)
    rw [hp] at h1 h2
    rw [hq] at h2
    exact ⟨h1.1, h2, h1.2.1⟩
  obtain ⟨a0, b0, c0⟩ := e 0 0 1 false 5 0 2 ⟨by decide, _, rfl, .inl ⟨rfl, rfl, rfl, rfl⟩⟩ (by omega) (by decide +kernel) (by decide +kernel) (by omega)
  obtain ⟨a1, b1, c1⟩ := e 1 0 2 false 4 1 5 ⟨by decide, _, rfl, .inl ⟨rfl, rfl, rfl, rfl⟩⟩ (by omega) (by decide +kernel) (by decide +kernel) (by omega)
  obtain ⟨a2, b2, c2⟩ := e 0 1 0 true 0 2 0 ⟨by decide, _, rfl, .inr ⟨rfl, rfl, rfl, rfl⟩⟩ (by omega) (by decide +kernel) (by decide +kernel) (by omega)
  obtain ⟨a3, b3, c3⟩ := e 2 1 3 false 3 3 8 ⟨by decide, _, rfl, .inl ⟨rfl, rfl, rfl, rfl⟩⟩ (by omega) (by decide +kernel) (by decide +kernel) (by omega)
  obtain ⟨a4, b4, c4⟩ := e 4 1 2 false 2 4 7 ⟨by decide, _, rfl, .inl ⟨rfl, rfl, rfl, rfl⟩⟩ (by omega) (by decide +kernel) (by decide +kernel) (by omega)
  obtain ⟨a5, b5, c5⟩ := e 1 2 0 true 0 5 1 ⟨by decide, _, rfl, .inr ⟨rfl, rfl, rfl, rfl⟩⟩ (by omega) (by decide +kernel) (by decide +kernel) (by omega)
  obtain ⟨a6, b6, c6⟩ := e 3 2 3 false 6 6 9 ⟨by decide, _, rfl, .inl ⟨rfl, rfl, rfl, rfl⟩⟩ (by omega) (by decide +kernel) (by decide +kernel) (by omega)
  obtain ⟨a7, b7, c7⟩ := e 4 2 1 true 0 7 4 ⟨by decide, _, rfl, .inr ⟨rfl, rfl, rfl, rfl⟩⟩ (by omega) (by decide +kernel) (by decide +kernel) (by omega)
  obtain ⟨a8, b8, c8⟩ := e 2 3 1 true 0 8 3 ⟨by decide, _, rfl, .inr ⟨rfl, rfl, rfl, rfl⟩⟩ (by omega) (by decide +kernel) (by decide +kernel) (by omega)
  obtain ⟨a9, b9, c9⟩ := e 3 3 2 true 0 9 6 ⟨by decide, _, rfl, .inr ⟨rfl, rfl, rfl, rfl⟩⟩ (by omega) (by decide +kernel) (by decide +kernel) (by omega)
  exact ⟨ten_is lH a0 a1 a2 a3 a4 a5 a6 a7 a8 a9, ten_is lR b0 b1 b2 b3 b4 b5 b6 b7 b8 b9, ten_is lC c0 c1 c2 c3 c4 c5 c6 c7 c8 c9⟩
/-! The states on the way. -/
abbrev fxF := firstOf fourArcs
abbrev fxh := hdOf fxH
abbrev fxr := hdOf fxR
abbrev fxc := hOf fxC
def fx0 : StN := ([0, 0, 5, 3, 2, 4, 6, 0, 0, 0], [-9, 5, 4, 0], [4, 0, 0, 0])
def fx1 : StN := ([0, 0, 5, 3, 2, 4, 6, 0, 0, 0], [-9, 5, 4, 0], [4, 1, 0, 0])
def fx2 : StN := ([0, 0, 5, 0, 2, 4, 6, 0, 3, 0], [-9, 2, 4, 3], [4, 1, 0, 0])
def fx3 : StN := ([0, 0, 5, 0, 0, 4, 6, 2, 3, 0], [-9, 0, 6, 3], [4, 1, 0, 0])
theorem fx_beg : (begX fxF fxr fxc 10 0 (fxF (0 + 1) - fxF 0), begE fxF fxh fxr fxc 10 4 0 (fxF (0 + 1) - fxF 0), begH 4 0) = fx0 := by decide +kernel
theorem fx_act : selTo (actB 0 3 fx0.2.1) 4 = [1, 2] := by decide +kernel
theorem fx_may0 : mayA fxF fxh fxr fx0.1 fx0.2.2 [1, 2] = [] ∧ mayV fxF fxh fxr fx0.1 fx0.2.2 [1, 2] = [1, 2] := by decide +kernel
theorem fx_act1 : selTo (actB 0 3 fx1.2.1) 4 = [1, 2] := by decide +kernel
theorem fx_may1 : mayA fxF fxh fxr fx1.1 fx1.2.2 [1, 2] = [3, 4] := by decide +kernel
theorem fx_low : lowV fxF fxh fx0.1 fx0.2.2 1 = 0 := by
  refine lowV_eq ⟨⟨3, by decide +kernel, by decide +kernel, by decide +kernel, by decide +kernel⟩, fun a h1 h2 h3 => ?_⟩
  have e1 : fxF 1 = 2 := by decide +kernel
  have e2 : fxF (1 + 1) = 5 := by decide +kernel
  have : a = 2 ∨ a = 3 ∨ a = 4 := by omega
  rcases this with rfl | rfl | rfl <;> decide +kernel
theorem fx_lift : liftC 4 0 3 fxF fxh fxr fx0.1 fx0.2.1 fx0.2.2 1 = 0 ∧ liftS 4 0 3 fxF fxh fxr fx0.1 fx0.2.1 fx0.2.2 1 = fx1 := by
  have h : liftC 4 0 3 fxF fxh fxr fx0.1 fx0.2.1 fx0.2.2 1 = 0 := by decide +kernel
  refine ⟨h, ?_⟩
  unfold liftS
  rw [h, if_pos rfl]
  have e : (1 : Int).toNat = 1 := rfl
  rw [e, fx_low]
  decide +kernel
theorem fx_push3 : pushC 10 0 3 fxh fxr fx1.1 fx1.2.1 fx1.2.2 3 = 0 ∧ pushS 10 0 3 fxh fxr fx1.1 fx1.2.1 fx1.2.2 3 = (3, fx2) := by decide +kernel
theorem fx_push4 : pushC 10 0 3 fxh fxr fx2.1 fx2.2.1 fx2.2.2 4 = 0 ∧ pushS 10 0 3 fxh fxr fx2.1 fx2.2.1 fx2.2.2 4 = (2, fx3) := by decide +kernel

/-! S owes what all others have. -/
section
variable {N M s t : Nat} {fst hd rv ai : Nat → Nat} {cp : Nat → Int} {bk : Nat → Bool} {X E H : List Int}
theorem StIs.sum (h : StIs N M s t hd rv cp X E H) (hN : PNet N M s t fst hd rv ai cp bk) : sumN (fun v => hOf E v) N = 0 := by
  have h0 : sumN (fun j => hOf X j - cp j) M = 0 := by
    have h1 : sumN (fun j => (hOf X j - cp j) + (hOf X (rv j) - cp (rv j))) M = 0 := by
      rw [sumN_congr (g := fun _ => 0) fun j hj => by have := (h.bal.2 j hj).2; omega, sumN_zero]
    rw [sumN_add (fun j => hOf X j - cp j), sumN_inv hN.g.rvl hN.g.rvv (fun j => hOf X j - cp j)] at h1
    omega
  rw [sumN_congr (g := fun v => sumN (fun j => if v = hd (rv j) then hOf X j - cp j else 0) M) fun v hv => ?_, sumN_swap, sumN_congr (g := fun j => hOf X j - cp j) fun j hj => ?_, h0]
  · have := sumN_upd (f := fun _ => 0) (g := fun v => if v = hd (rv j) then hOf X j - cp j else 0) (a := hd (rv j)) (n := N) (d := hOf X j - cp j) (hN.mN hj) (fun k _ hk => by simp [hk]) (by simp)
    rw [this, sumN_zero]
    omega
  · rw [h.exc v hv]
    unfold exT
    refine sumN_congr fun j hj => ?_
    by_cases e : hd (rv j) = v
    · rw [if_pos e, if_pos e.symm]
    · rw [if_neg e, if_neg (fun e' => e e'.symm)]
theorem StIs.owes (h : StIs N M s t hd rv cp X E H) (hN : PNet N M s t fst hd rv ai cp bk) : hOf E s ≤ 0 := by
  have h1 := h.sum hN
  have h2 := sumN_upd (f := fun v => if v = s then 0 else hOf E v) (g := fun v => hOf E v) (a := s) (n := N) (d := hOf E s) hN.hs (fun j _ hne => (if_neg hne).symm) (by simp)
  have h3 := sumN_nonneg (f := fun v => if v = s then 0 else hOf E v) (n := N) (fun v hv => by
    show 0 ≤ if v = s then 0 else hOf E v
    split
    · exact Int.le_refl _
    · rename_i hne; exact h.neg v hv hne)
  omega
theorem hOf_ex {L : List Int} {x : Int} (h : x ∈ L) : ∃ a, a < L.length ∧ hOf L a = x := by
  obtain ⟨a, ha⟩ := List.getElem?_of_mem h
  exact ⟨a, (List.getElem?_eq_some_iff.1 ha).1, hOf_at ha⟩
theorem StIs.inX (h : StIs N M s t hd rv cp X E H) (hN : PNet N M s t fst hd rv ai cp bk) : ∀ x ∈ X, InR x := fun x hx => by
  obtain ⟨a, ha, rfl⟩ := hOf_ex hx
  have := h.bal.le hN (a := a) (by have := h.bal.1; omega)
  unfold maxSum at this
  unfold InR
  omega
theorem StIs.inH (h : StIs N M s t hd rv cp X E H) (hN : PNet N M s t fst hd rv ai cp bk) : ∀ x ∈ H, InR x := fun x hx => by
  obtain ⟨a, ha, rfl⟩ := hOf_ex hx
  have := h.bnd a (by have := h.lh; omega)
  have := hN.nN
  unfold InR
  omega
end

end Go.Proofs.Ytgjokddcaadjdaa
