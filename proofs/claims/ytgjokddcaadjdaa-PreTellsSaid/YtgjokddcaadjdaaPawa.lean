/- Layer 7: the chapter's example, plainly; the excess of S. Layer 7: the chapter's examples ('awake'). -/
import Derived.Test.YtgjokddcaadjdaaPlap
import Derived.Test.YtgjokddcaadjdaaFour
import Derived.Test.YtgjokddcaadjdaaRefb
import Derived.Test.YtgjokddcaadjdaaBego
import Derived.Test.YtgjokddcaadjdaaLongc
import Derived.Test.YtgjokddcaadjdaaRigo
/-! Pawp -/
namespace Go.Proofs.Ytgjokddcaadjdaa
open Go.RowKit
set_option maxRecDepth 100000

def fxH : List Int := [1, 2, 0, 3, 2, 0, 3, 1, 1, 2]
def fxR : List Int := [2, 5, 0, 8, 7, 1, 9, 4, 3, 6]
def fxC : List Int := [5, 4, 0, 3, 2, 0, 6, 0, 0, 0]
theorem ten_is {L : List Int} {x0 x1 x2 x3 x4 x5 x6 x7 x8 x9 : Int} (hl : L.length = 10) (h0 : L[0]? = some x0) (h1 : L[1]? = some x1) (h2 : L[2]? = some x2) (h3 : L[3]? = some x3) (h4 : L[4]? = some x4) (h5 : L[5]? = some x5) (h6 : L[6]? = some x6) (h7 : L[7]? = some x7) (h8 : L[8]? = some x8) (h9 : L[9]? = some x9) : L = [x0, x1, x2, x3, x4, x5, x6, x7, x8, x9] := by
  apply List.ext_getElem?
  intro i
  match i with
  | 0 => rw [h0]; rfl
  | 1 => rw [h1]; rfl
  | 2 => rw [h2]; rfl
  | 3 => rw [h3]; rfl
  | 4 => rw [h4]; rfl
  | 5 => rw [h5]; rfl
  | 6 => rw [h6]; rfl
  | 7 => rw [h7]; rfl
  | 8 => rw [h8]; rfl
  | 9 => rw [h9]; rfl
  | i + 10 => rw [List.getElem?_eq_none (by omega)]; simp
theorem fx_first : firstOf fourArcs 4 = 10 := by decide +kernel
theorem fx_rows {F H R C Ai : List Int} {B : List Bool} (h : CsrL 4 fourArcs F H R C Ai B) : H = fxH ∧ R = fxR ∧ C = fxC := by
  have hf := fx_first
  have lH := h.ent.lH; have lC := h.ent.lC; have lR := h.rev.len
  rw [hf] at lH lC lR
  have e : ∀ (i : Nat) (v u : Int) (b : Bool) (c : Int) (p q : Nat), Inc fourArcs i v u b c → 0 ≤ v → posOf fourArcs i v = p → posOf fourArcs i u = q → p < 10 → H[p]? = some u ∧ R[p]? = some (q : Int) ∧ C[p]? = some c := by
    intro i v u b c p q hI hv hp hq hl
    have h1 := h.ent.ent i v u b c hI hv (by rw [hf, hp]; exact hl)
    have h2 := h.rev.ent i v u b c hI hv (by rw [hf, hp]; exact hl)
    rw [hp] at h1 h2
    rw [hq] at h2
    exact ⟨h1.1, h2, h1.2.1⟩
  obtain ⟨a0, b0, c0⟩ := e 0 0 1 false 5 0 2 ⟨by decide, _, rfl, .inl ⟨rfl, rfl, rfl, rfl⟩⟩ (by omega) (by decide +kernel) (by decide +kernel) (by omega)
  obtain ⟨a1, b1, c1⟩ := e 1 0 2 false 4 1 5 ⟨by decide, _, rfl, .inl ⟨rfl, rfl, rfl, rfl⟩⟩ (by omega) (by decide +kernel) (by decide +kernel) (by omega)
  obtain ⟨a2, b2, c2⟩ := e 0 1 0 true 0 2 0 ⟨by decide, _, rfl, .inr ⟨rfl, rfl, rfl, rfl⟩⟩ (by omega) (by decide +kernel) (by decide +kernel) (by omega)
  obtain ⟨a3, b3, c3⟩ := e 2 1 3 false 3 3 8 ⟨by decide, _, rfl, .inl ⟨rfl, rfl, rfl, rfl⟩⟩ (by omega) (by decide +kernel) (by decide +kernel) (by omega)
  obtain ⟨a4, b4, c4⟩ := e 4 1 2 false 2 4 7 ⟨by decide, _, rfl, .inl ⟨rfl, rfl, rfl, rfl⟩⟩ (by omega) (by decide +kernel) (by decide +kernel) (by omega)
  obtain ⟨a5, b5, c5⟩ := e 1 2 0 true 0 5 1 ⟨by decide, _, rfl, .inr ⟨rfl, rfl, rfl, rfl⟩⟩ (by omega) (by decide +kernel) (by decide +kernel) (by omega)
  obtain ⟨a6, b6, c6⟩ := e 3 2 3 false 6 6 9 ⟨by decide, _, rfl, .inl ⟨rfl, rfl, rfl, rfl⟩⟩ (by omega) (by decide +kernel) (by decide +kernel) (by omega)
  obtain ⟨a7, b7, c7⟩ := e 4 2 1 true 0 7 4 ⟨by decide, _, rfl, .inr ⟨rfl, rfl, rfl, rfl⟩⟩ (by omega) (by decide +kernel) (by decide +kernel) (by omega)
  obtain ⟨a8, b8, c8⟩ := e 2 3 1 true 0 8 3 ⟨by decide, _, rfl, .inr ⟨rfl, rfl, rfl, rfl⟩⟩ (by omega) (by decide +kernel) (by decide +kernel) (by omega)
  obtain ⟨a9, b9, c9⟩ := e 3 3 2 true 0 9 6 ⟨by decide, _, rfl, .inr ⟨rfl, rfl, rfl, rfl⟩⟩ (by omega) (by decide +kernel) (by decide +kernel) (by omega)
  exact ⟨ten_is lH a0 a1 a2 a3 a4 a5 a6 a7 a8 a9, ten_is lR b0 b1 b2 b3 b4 b5 b6 b7 b8 b9, ten_is lC c0 c1 c2 c3 c4 c5 c6 c7 c8 c9⟩
/-! The states on the way. -/
abbrev fxF := firstOf fourArcs
abbrev fxh := hdOf fxH
abbrev fxr := hdOf fxR
abbrev fxc := hOf fxC
def fx0 : StN := ([0, 0, 5, 3, 2, 4, 6, 0, 0, 0], [-9, 5, 4, 0], [4, 0, 0, 0])
def fx1 : StN := ([0, 0, 5, 3, 2, 4, 6, 0, 0, 0], [-9, 5, 4, 0], [4, 1, 0, 0])
def fx2 : StN := ([0, 0, 5, 0, 2, 4, 6, 0, 3, 0], [-9, 2, 4, 3], [4, 1, 0, 0])
def fx3 : StN := ([0, 0, 5, 0, 0, 4, 6, 2, 3, 0], [-9, 0, 6, 3], [4, 1, 0, 0])
theorem fx_beg : (begX fxF fxr fxc 10 0 (fxF (0 + 1) - fxF 0), begE fxF fxh fxr fxc 10 4 0 (fxF (0 + 1) - fxF 0), begH 4 0) = fx0 := by decide +kernel
theorem fx_act : selTo (actB 0 3 fx0.2.1) 4 = [1, 2] := by decide +kernel
theorem fx_may0 : mayA fxF fxh fxr fx0.1 fx0.2.2 [1, 2] = [] ∧ mayV fxF fxh fxr fx0.1 fx0.2.2 [1, 2] = [1, 2] := by decide +kernel
theorem fx_act1 : selTo (actB 0 3 fx1.2.1) 4 = [1, 2] := by decide +kernel
theorem fx_may1 : mayA fxF fxh fxr fx1.1 fx1.2.2 [1, 2] = [3, 4] := by decide +kernel
theorem fx_low : lowV fxF fxh fx0.1 fx0.2.2 1 = 0 := by
  refine lowV_eq ⟨⟨3, by decide +kernel, by decide +kernel, by decide +kernel, by decide +kernel⟩, fun a h1 h2 h3 => ?_⟩
  have e1 : fxF 1 = 2 := by decide +kernel
  have e2 : fxF (1 + 1) = 5 := by decide +kernel
  have : a = 2 ∨ a = 3 ∨ a = 4 := by omega
  rcases this with rfl | rfl | rfl <;> decide +kernel
theorem fx_lift : liftC 4 0 3 fxF fxh fxr fx0.1 fx0.2.1 fx0.2.2 1 = 0 ∧ liftS 4 0 3 fxF fxh fxr fx0.1 fx0.2.1 fx0.2.2 1 = fx1 := by
  have h : liftC 4 0 3 fxF fxh fxr fx0.1 fx0.2.1 fx0.2.2 1 = 0 := by decide +kernel
  refine ⟨h, ?_⟩
  unfold liftS
  rw [h, if_pos rfl]
  have e : (1 : Int).toNat = 1 := rfl
  rw [e, fx_low]
  decide +kernel
theorem fx_push3 : pushC 10 0 3 fxh fxr fx1.1 fx1.2.1 fx1.2.2 3 = 0 ∧ pushS 10 0 3 fxh fxr fx1.1 fx1.2.1 fx1.2.2 3 = (3, fx2) := by decide +kernel
theorem fx_push4 : pushC 10 0 3 fxh fxr fx2.1 fx2.2.1 fx2.2.2 4 = 0 ∧ pushS 10 0 3 fxh fxr fx2.1 fx2.2.1 fx2.2.2 4 = (2, fx3) := by decide +kernel

/-! S owes what all others have. -/
section
variable {N M s t : Nat} {fst hd rv ai : Nat → Nat} {cp : Nat → Int} {bk : Nat → Bool} {X E H : List Int}
theorem StIs.sum (h : StIs N M s t hd rv cp X E H) (hN : PNet N M s t fst hd rv ai cp bk) : sumN (fun v => hOf E v) N = 0 := by
  have h0 : sumN (fun j => hOf X j - cp j) M = 0 := by
    have h1 : sumN (fun j => (hOf X j - cp j) + (hOf X (rv j) - cp (rv j))) M = 0 := by
      rw [sumN_congr (g := fun _ => 0) fun j hj => by have := (h.bal.2 j hj).2; omega, sumN_zero]
    rw [sumN_add (fun j => hOf X j - cp j), sumN_inv hN.g.rvl hN.g.rvv (fun j => hOf X j - cp j)] at h1
    omega
  rw [sumN_congr (g := fun v => sumN (fun j => if v = hd (rv j) then hOf X j - cp j else 0) M) fun v hv => ?_, sumN_swap, sumN_congr (g := fun j => hOf X j - cp j) fun j hj => ?_, h0]
  · have := sumN_upd (f := fun _ => 0) (g := fun v => if v = hd (rv j) then hOf X j - cp j else 0) (a := hd (rv j)) (n := N) (d := hOf X j - cp j) (hN.mN hj) (fun k _ hk => by simp [hk]) (by simp)
    rw [this, sumN_zero]
    omega
  · rw [h.exc v hv]
    unfold exT
    refine sumN_congr fun j hj => ?_
    by_cases e : hd (rv j) = v
    · rw [if_pos e, if_pos e.symm]
    · rw [if_neg e, if_neg (fun e' => e e'.symm)]
theorem StIs.owes (h : StIs N M s t hd rv cp X E H) (hN : PNet N M s t fst hd rv ai cp bk) : hOf E s ≤ 0 := by
  have h1 := h.sum hN
  have h2 := sumN_upd (f := fun v => if v = s then 0 else hOf E v) (g := fun v => hOf E v) (a := s) (n := N) (d := hOf E s) hN.hs (fun j _ hne => (if_neg hne).symm) (by simp)
  have h3 := sumN_nonneg (f := fun v => if v = s then 0 else hOf E v) (n := N) (fun v hv => by
    show 0 ≤ if v = s then 0 else hOf E v
    split
    · exact Int.le_refl _
    · rename_i hne; exact h.neg v hv hne)
  omega
theorem hOf_ex {L : List Int} {x : Int} (h : x ∈ L) : ∃ a, a < L.length ∧ hOf L a = x := by
  obtain ⟨a, ha⟩ := List.getElem?_of_mem h
  exact ⟨a, (List.getElem?_eq_some_iff.1 ha).1, hOf_at ha⟩
theorem StIs.inX (h : StIs N M s t hd rv cp X E H) (hN : PNet N M s t fst hd rv ai cp bk) : ∀ x ∈ X, InR x := fun x hx => by
  obtain ⟨a, ha, rfl⟩ := hOf_ex hx
  have := h.bal.le hN (a := a) (by have := h.bal.1; omega)
  unfold maxSum at this
  unfold InR
  omega
theorem StIs.inH (h : StIs N M s t hd rv cp X E H) (hN : PNet N M s t fst hd rv ai cp bk) : ∀ x ∈ H, InR x := fun x hx => by
  obtain ⟨a, ha, rfl⟩ := hOf_ex hx
  have := h.bnd a (by have := h.lh; omega)
  have := hN.nN
  unfold InR
  omega
end

end Go.Proofs.Ytgjokddcaadjdaa

/-! Pawa -/
namespace Go.Proofs.Ytgjokddcaadjdaa
open Go.RowKit
set_option maxRecDepth 100000

/-- What the example's plain facts say. -/
structure FxAll (N M s t : Nat) (fst hd rv ai : Nat → Nat) (cp : Nat → Int) (bk : Nat → Bool) : Prop where
  g : PNet N M s t fst hd rv ai cp bk
  n4 : 4 = N
  m10 : 10 = M
  beg : (begX fst rv cp M s (fst (s + 1) - fst s), begE fst hd rv cp M N s (fst (s + 1) - fst s), begH N s) = fx0
  act0 : selTo (actB s t fx0.2.1) N = [1, 2]
  may0 : mayA fst hd rv fx0.1 fx0.2.2 [1, 2] = [] ∧ mayV fst hd rv fx0.1 fx0.2.2 [1, 2] = [1, 2]
  act1 : selTo (actB s t fx1.2.1) N = [1, 2]
  may1 : mayA fst hd rv fx1.1 fx1.2.2 [1, 2] = [3, 4]
  lift : liftC N s t fst hd rv fx0.1 fx0.2.1 fx0.2.2 1 = 0 ∧ liftS N s t fst hd rv fx0.1 fx0.2.1 fx0.2.2 1 = fx1
  push3 : pushC M s t hd rv fx1.1 fx1.2.1 fx1.2.2 3 = 0 ∧ pushS M s t hd rv fx1.1 fx1.2.1 fx1.2.2 3 = (3, fx2)
  push4 : pushC M s t hd rv fx2.1 fx2.2.1 fx2.2.2 4 = 0 ∧ pushS M s t hd rv fx2.1 fx2.2.1 fx2.2.2 4 = (2, fx3)
section
variable {N M s t : Nat} {fst hd rv ai : Nat → Nat} {cp : Nat → Int} {bk : Nat → Bool}
theorem FxAll.s0 (h : FxAll N M s t fst hd rv ai cp bk) : OkS N M s t hd rv cp fx0 := by
  have := beg_ok h.g (k := fst (s + 1) - fst s) (by have := h.g.g.mono s h.g.hs; omega)
  have e := h.beg
  unfold OkS
  rw [← e]
  exact this
theorem liftS_ok (hN : PNet N M s t fst hd rv ai cp bk) {S : StN} (hS : OkS N M s t hd rv cp S) {u : Int} (hc : liftC N s t fst hd rv S.1 S.2.1 S.2.2 u = 0) : OkS N M s t hd rv cp (liftS N s t fst hd rv S.1 S.2.1 S.2.2 u) := by
  have hc0 := hc
  unfold liftC at hc
  split at hc
  · omega
  · rename_i hr
    have hr : 0 ≤ u ∧ u < (N : Int) := Classical.byContradiction hr
    obtain ⟨u, rfl⟩ := Int.eq_ofNat_of_zero_le hr.1
    split at hc
    · rename_i h1
      simp only [Bool.and_eq_true, List.isEmpty_iff, Int.toNat_natCast] at h1
      have hnx : Nx N M s t fst hd rv S (S.1, S.2.1, S.2.2.set u (lowV fst hd S.1 S.2.2 u + 1)) := .inr ⟨u, by omega, h1.1, h1.2, rfl⟩
      have := hnx.ok hN hS
      unfold liftS
      rw [hc0, if_pos rfl]
      exact this
    · omega
theorem pushS_ok (hN : PNet N M s t fst hd rv ai cp bk) {S : StN} (hS : OkS N M s t hd rv cp S) {a : Int} (hc : pushC M s t hd rv S.1 S.2.1 S.2.2 a = 0) : OkS N M s t hd rv cp (pushS M s t hd rv S.1 S.2.1 S.2.2 a).2 := by
  have hc0 := hc
  unfold pushC at hc
  split at hc
  · omega
  · rename_i hr
    have hr : 0 ≤ a ∧ a < (M : Int) := Classical.byContradiction hr
    obtain ⟨a, rfl⟩ := Int.eq_ofNat_of_zero_le hr.1
    split at hc
    · rename_i h1
      simp only [Bool.and_eq_true, Int.toNat_natCast] at h1
      have hnx : Nx N M s t fst hd rv S (mvX rv S.1 a (pushD hd rv S.1 S.2.1 a), mvE hd rv S.2.1 a (pushD hd rv S.1 S.2.1 a), S.2.2) := .inl ⟨a, by omega, h1.1, h1.2, rfl⟩
      have := hnx.ok hN hS
      unfold pushS
      rw [hc0, if_pos rfl]
      exact this
    · omega
theorem FxAll.s1 (h : FxAll N M s t fst hd rv ai cp bk) : OkS N M s t hd rv cp fx1 := by
  have := liftS_ok h.g h.s0 h.lift.1
  rw [h.lift.2] at this
  exact this
theorem FxAll.s2 (h : FxAll N M s t fst hd rv ai cp bk) : OkS N M s t hd rv cp fx2 := by
  have := pushS_ok h.g h.s1 h.push3.1
  rw [h.push3.2] at this
  exact this
end
theorem fx_all {F H R C Ai : List Int} {B : List Bool} (h : CsrL 4 fourArcs F H R C Ai B) : FxAll 4 10 0 3 fxF fxh fxr (hdOf Ai) fxc (bOf B) := by
  obtain ⟨e1, e2, e3⟩ := fx_rows h
  obtain ⟨hg, -⟩ := h.pnet (s := 0) (t := 3) four_check'
  rw [e1, e2, e3, fx_first] at hg
  exact ⟨hg, rfl, rfl, fx_beg, fx_act, fx_may0, fx_act1, fx_may1, fx_lift, fx_push3, fx_push4⟩

set_option maxHeartbeats 16000000 in
theorem awake7_is (w : World) : Calls Try.prog 27 #[] w fun e w' => e = .returned (.bool true) ∧ Below w.heap.size w w' := by
  go_enter Try.func27, Try.ntmps27
  go_wp2_with fail
  refine (four_any _).mono ?_
  rintro e w1 ⟨A, n, c, rfl, o1, hl1, B1⟩
  have a1 := arcs_own o1 hl1
  go_wp2_with fail
  refine (rmake_good 4 0 3 A n c fourArcs w1 a1 four_check').mono ?_
  rintro e w2 ⟨K, F, H, R, C, Ai, B, rfl, hL, hI, -, B2⟩
  have hall := fx_all hL
  have hpin := hL.pin (s := 0) (t := 3) four_check' hI
  obtain ⟨e1, e2, e3⟩ := fx_rows hL
  rw [e1, e2, e3, fx_first] at hpin
  rw [fx_first]
  have Bw2 := below_step B1 B2
  obtain ⟨N, M, s, t, fst, hd, rv, ai, cp, bk, hv, hall, hpin⟩ : ∃ (N M s t : Nat) (fst hd rv ai : Nat → Nat) (cp : Nat → Int) (bk : Nat → Bool), csrW 4 10 0 3 K = csrW N M s t K ∧ FxAll N M s t fst hd rv ai cp bk ∧ PIn w2 w2.heap.size N M K fst hd rv ai cp bk :=
    ⟨4, 10, 0, 3, _, _, _, _, _, _, rfl, hall, hpin⟩
  rw [hv]
  have HALL := Lib.hid hall; have HPI := Lib.hid hpin; have HB2 := Lib.hid Bw2
  have hN4 : 2 ≤ N := by have := hall.n4; omega
  have hM := hall.g.nM; have hN := hall.g.nN
  clear hv hL hI e1 e2 e3 B1 B2 Bw2 a1 o1 hl1 hpin hall
  have hbegin := fun W (hb : Below w2.heap.size w2 W) => begin_is N M s t K fst hd rv ai cp bk W HALL.out.g (HPI.out.on hb)
  have eb := HALL.out.beg
  have eb1 := congrArg Prod.fst eb; have eb2 := congrArg (fun x : StN => x.2.1) eb; have eb3 := congrArg (fun x : StN => x.2.2) eb
  dsimp only at eb1 eb2 eb3
  rw [eb1, eb2, eb3] at hbegin
  have hmay := fun Q (S : StN) W (hb : Below w2.heap.size w2 W) (hs : StIn W W.heap.size M N N Q S.1 S.2.1 S.2.2) (ho : OkS N M s t hd rv cp S) => may_is N M s t K Q fst hd rv ai cp bk S.1 S.2.1 S.2.2 W HALL.out.g (HPI.out.on hb) hs ho
  have hact := fun Q (S : StN) W (hb : Below w2.heap.size w2 W) (hs : StIn W W.heap.size M N N Q S.1 S.2.1 S.2.2) => active_is N M s t M N N K Q fst hd rv S.1 S.2.1 S.2.2 W HALL.out.g.g (HPI.out.on hb).gi hs HALL.out.g.hs HALL.out.g.ht (by omega) hN
  have hrgt := fun Q (S : StN) W (hb : Below w2.heap.size w2 W) (hs : StIn W W.heap.size M N N Q S.1 S.2.1 S.2.2) (ho : OkS N M s t hd rv cp S) => pright_is N M s t M N N K Q fst hd rv ai cp bk S.1 S.2.1 S.2.2 W HALL.out.g (HPI.out.on hb) hs (StIs.inX ho HALL.out.g) (StIs.inH ho HALL.out.g) true ⟨fun _ => ⟨rfl, rfl, rfl, ho⟩, fun _ => rfl⟩
  have hlift := fun Q (S : StN) (u : Int) W (hb : Below w2.heap.size w2 W) (hs : StIn W W.heap.size M N N Q S.1 S.2.1 S.2.2) (ho : OkS N M s t hd rv cp S) => lift_is N M s t K Q fst hd rv ai cp bk S.1 S.2.1 S.2.2 u W HALL.out.g (HPI.out.on hb) hs ho
  have hpush := fun Q (S : StN) (a : Int) W (hb : Below w2.heap.size w2 W) (hs : StIn W W.heap.size M N N Q S.1 S.2.1 S.2.2) (ho : OkS N M s t hd rv cp S) => push_is N M s t K Q fst hd rv ai cp bk S.1 S.2.1 S.2.2 a W HALL.out.g (HPI.out.on hb) hs ho
  have HBEG := Lib.hid hbegin; have HMAY := Lib.hid hmay; have HACT := Lib.hid hact; have HRGT := Lib.hid hrgt; have HLIFT := Lib.hid hlift; have HPUSH := Lib.hid hpush
  clear hbegin hmay hact hrgt hlift hpush eb eb1 eb2 eb3
  obtain ⟨AF, cF, AH, cH, AR, cR, AC, cC, AA, cA, AB, cB⟩ := K
  dsimp only [csrW, preW] at HBEG HMAY HACT HRGT HLIFT HPUSH ⊢
  go_wp2_with fail
  refine (HBEG.out _ (below_alloc _)).mono ?_
  rintro e w3 ⟨⟨X0, cX0, E0, cE0, H0, cH0⟩, rfl, HX3⟩
  dsimp only [preW] at HX3 ⊢
  have hs3 : StIn w3 w3.heap.size M N N ⟨X0, cX0, E0, cE0, H0, cH0⟩ fx0.1 fx0.2.1 fx0.2.2 := HX3.st HALL.out.s0.bal.1 HALL.out.s0.le HALL.out.s0.lh
  have b23 : Below w2.heap.size w2 w3 := (below_alloc _).trans (HX3.bel.mono (by simp))
  have C3 : Blk w3 w2.heap.size 32 #[.int .i64 (N : Int), .int .i64 (s : Int), .int .i64 (t : Int), .slice AF (N + 1) cF, .slice AH M cH, .slice AR M cR, .slice AC M cC, .slice AA M cA, .slice AB M cB] := (Blk.new rfl).below HX3.bel (by simp)
  obtain ⟨w4, hw4⟩ : ∃ w4, w3.alloc (.cells #[.slice X0 M cX0, .slice E0 N cE0, .slice H0 N cH0] 29) = w4 := ⟨_, rfl⟩
  have b34 : Below w3.heap.size w3 w4 := by rw [← hw4]; exact below_alloc _
  have HP4 := Lib.hid (show Blk w4 w3.heap.size 29 #[.slice X0 M cX0, .slice E0 N cE0, .slice H0 N cH0] by rw [← hw4]; exact Blk.new rfl)
  have HC4 := Lib.hid (C3.below b34 C3.lt); have HS4 := Lib.hid (hs3.on b34); have HB4 := Lib.hid (below_step b23 b34)
  obtain ⟨a0, a1, a2, a3, a4, a5, a6, a7, a8⟩ := HC4.out.at9
  obtain ⟨⟨p0, p1, p2⟩, -, hz2⟩ := HP4.out.full3
  have hz1 := HC4.out.lt
  clear hs3 b23 C3 b34 HX3
  go_wp2_with fail
  clear hw4
  have hm := HMAY.out ⟨X0, cX0, E0, cE0, H0, cH0⟩ fx0 w4 HB4.out HS4.out HALL.out.s0
  rw [HALL.out.act0, HALL.out.may0.1, HALL.out.may0.2] at hm
  refine hm.mono ?_
  rintro e w5 ⟨A1, c1, A2, c2, rfl, HX5⟩
  clear hm
  have V5 : Ints w5 w5.heap.size A2 2 [1, 2] := own_nums (L := [1, 2]) (HX5.held.own 1 _ rfl)
  have B5 := HX5.bel
  have HC5 := Lib.hid (HC4.out.below B5 HC4.out.lt)
  have HB5 := Lib.hid (below_step HB4.out B5)
  have HP5 := Lib.hid (HP4.out.below B5 HP4.out.lt)
  have HS5 := Lib.hid (HS4.out.on B5)
  have HV5 := Lib.hid V5
  clear B5 a0 a1 a2 a3 a4 a5 a6 a7 a8 p0 p1 p2 hz1 hz2 HC4 HB4 HP4 HS4 V5
  obtain ⟨a0, a1, a2, a3, a4, a5, a6, a7, a8⟩ := HC5.out.at9
  have hz1 := HC5.out.lt
  obtain ⟨⟨p0, p1, p2⟩, -, hz2⟩ := HP5.out.full3
  clear HX5
  simp only [List.length_nil, List.length_cons, Nat.zero_add, Nat.reduceAdd]
  go_wp2_with fail
  refine (longs_is (n := N) (m := 4) _ _ (HS5.out.onAlloc _).iE (Blk.ints (L := [-9, 5, 4, 0]) (Blk.new rfl) rfl) (by omega) (by omega) (v := true) (by decide)).mono ?_
  rintro e w6 ⟨rfl, B6⟩
  replace B6 := below_step (below_alloc _) B6
  have HC6 := Lib.hid (HC5.out.below B6 HC5.out.lt)
  have HB6 := Lib.hid (below_step HB5.out B6)
  have HP6 := Lib.hid (HP5.out.below B6 HP5.out.lt)
  have HS6 := Lib.hid (HS5.out.on B6)
  have HV6 := Lib.hid (HV5.out.on B6)
  clear B6 a0 a1 a2 a3 a4 a5 a6 a7 a8 p0 p1 p2 hz1 hz2 HC5 HB5 HP5 HS5 HV5
  obtain ⟨a0, a1, a2, a3, a4, a5, a6, a7, a8⟩ := HC6.out.at9
  have hz1 := HC6.out.lt
  obtain ⟨⟨p0, p1, p2⟩, -, hz2⟩ := HP6.out.full3
  go_wp2_with fail
  refine (ints_is (n := 2) (m := 2) _ _ (HV6.out.onAlloc _) (Blk.ints (L := [1, 2]) (Blk.new rfl) rfl) (by omega) (by omega) (v := true) (by decide)).mono ?_
  rintro e w7 ⟨rfl, B7⟩
  replace B7 := below_step (below_alloc _) B7
  have HC7 := Lib.hid (HC6.out.below B7 HC6.out.lt)
  have HB7 := Lib.hid (below_step HB6.out B7)
  have HP7 := Lib.hid (HP6.out.below B7 HP6.out.lt)
  have HS7 := Lib.hid (HS6.out.on B7)
  have HV7 := Lib.hid (HV6.out.on B7)
  clear B7 a0 a1 a2 a3 a4 a5 a6 a7 a8 p0 p1 p2 hz1 hz2 HC6 HB6 HP6 HS6 HV6
  obtain ⟨a0, a1, a2, a3, a4, a5, a6, a7, a8⟩ := HC7.out.at9
  have hz1 := HC7.out.lt
  obtain ⟨⟨p0, p1, p2⟩, -, hz2⟩ := HP7.out.full3
  go_wp2_with fail
  have ha := HACT.out ⟨X0, cX0, E0, cE0, H0, cH0⟩ fx0 w7 HB7.out HS7.out
  rw [show activeTo s t N M M N N fx0.2.1 = [1, 2] from (if_pos ⟨rfl, rfl, rfl⟩).trans HALL.out.act0] at ha
  refine ha.mono ?_
  rintro e w8 ⟨A3, c3, rfl, o8, B8⟩
  have T8 : Ints w8 w8.heap.size A3 2 [1, 2] := own_nums (L := [1, 2]) o8
  have HC8 := Lib.hid (HC7.out.below B8 HC7.out.lt)
  have HB8 := Lib.hid (below_step HB7.out B8)
  have HP8 := Lib.hid (HP7.out.below B8 HP7.out.lt)
  have HS8 := Lib.hid (HS7.out.on B8)
  have HV8 := Lib.hid (HV7.out.on B8)
  clear B8 a0 a1 a2 a3 a4 a5 a6 a7 a8 p0 p1 p2 hz1 hz2 HC7 HB7 HP7 HS7 HV7
  obtain ⟨a0, a1, a2, a3, a4, a5, a6, a7, a8⟩ := HC8.out.at9
  have hz1 := HC8.out.lt
  obtain ⟨⟨p0, p1, p2⟩, -, hz2⟩ := HP8.out.full3
  clear ha o8
  simp only [List.length_nil, List.length_cons, Nat.zero_add, Nat.reduceAdd]
  go_wp2_with fail
  refine (ints_is (n := 2) (m := 2) _ _ T8 HV8.out (by omega) (by omega) (v := true) (by decide)).mono ?_
  rintro e w9 ⟨rfl, B9⟩
  have HC9 := Lib.hid (HC8.out.below B9 HC8.out.lt)
  have HB9 := Lib.hid (below_step HB8.out B9)
  have HP9 := Lib.hid (HP8.out.below B9 HP8.out.lt)
  have HS9 := Lib.hid (HS8.out.on B9)
  have HV9 := Lib.hid (HV8.out.on B9)
  clear B9 a0 a1 a2 a3 a4 a5 a6 a7 a8 p0 p1 p2 hz1 hz2 HC8 HB8 HP8 HS8 HV8
  obtain ⟨a0, a1, a2, a3, a4, a5, a6, a7, a8⟩ := HC9.out.at9
  have hz1 := HC9.out.lt
  obtain ⟨⟨p0, p1, p2⟩, -, hz2⟩ := HP9.out.full3
  clear T8
  go_wp2_with fail
  refine (HRGT.out ⟨X0, cX0, E0, cE0, H0, cH0⟩ fx0 w9 HB9.out HS9.out HALL.out.s0).mono ?_
  rintro e w10 ⟨rfl, B10⟩
  have HC10 := Lib.hid (HC9.out.below B10 HC9.out.lt)
  have HB10 := Lib.hid (below_step HB9.out B10)
  have HP10 := Lib.hid (HP9.out.below B10 HP9.out.lt)
  have HS10 := Lib.hid (HS9.out.on B10)
  have HV10 := Lib.hid (HV9.out.on B10)
  clear B10 a0 a1 a2 a3 a4 a5 a6 a7 a8 p0 p1 p2 hz1 hz2 HC9 HB9 HP9 HS9 HV9
  obtain ⟨a0, a1, a2, a3, a4, a5, a6, a7, a8⟩ := HC10.out.at9
  have hz1 := HC10.out.lt
  obtain ⟨⟨p0, p1, p2⟩, -, hz2⟩ := HP10.out.full3
  go_wp2_with fail
  have hl := HLIFT.out ⟨X0, cX0, E0, cE0, H0, cH0⟩ fx0 1 w10 HB10.out HS10.out HALL.out.s0
  rw [HALL.out.lift.1, HALL.out.lift.2] at hl
  refine hl.mono ?_
  rintro e w11 ⟨⟨X1, cX1, E1, cE1, H1, cH1⟩, rfl, HX11⟩
  rw [HALL.out.s1.bal.1, HALL.out.s1.le, HALL.out.s1.lh] at HX11 ⊢
  clear hl
  have hs11 : StIn w11 w11.heap.size M N N ⟨X1, cX1, E1, cE1, H1, cH1⟩ fx1.1 fx1.2.1 fx1.2.2 := HX11.st HALL.out.s1.bal.1 HALL.out.s1.le HALL.out.s1.lh
  have B11 := HX11.bel
  have HC11 := Lib.hid (HC10.out.below B11 HC10.out.lt)
  have HB11 := Lib.hid (below_step HB10.out B11)
  clear B11 a0 a1 a2 a3 a4 a5 a6 a7 a8 p0 p1 p2 hz1 hz2 HC10 HB10 HP10 HS10 HV10
  obtain ⟨a0, a1, a2, a3, a4, a5, a6, a7, a8⟩ := HC11.out.at9
  have hz1 := HC11.out.lt
  obtain ⟨w12, hw12⟩ : ∃ W, w11.alloc (.cells #[.slice X1 M cX1, .slice E1 N cE1, .slice H1 N cH1] 29) = W := ⟨_, rfl⟩
  have b12 : Below w11.heap.size w11 w12 := by rw [← hw12]; exact below_alloc _
  have HP12 := Lib.hid (show Blk w12 w11.heap.size 29 #[.slice X1 M cX1, .slice E1 N cE1, .slice H1 N cH1] by rw [← hw12]; exact Blk.new rfl)
  have HC12 := Lib.hid (HC11.out.below b12 HC11.out.lt); have HS12 := Lib.hid (hs11.on b12); have HB12 := Lib.hid (below_step HB11.out b12)
  clear hs11 b12 HX11 HC11 HB11 a0 a1 a2 a3 a4 a5 a6 a7 a8 hz1
  obtain ⟨a0, a1, a2, a3, a4, a5, a6, a7, a8⟩ := HC12.out.at9
  have hz1 := HC12.out.lt
  obtain ⟨⟨p0, p1, p2⟩, -, hz2⟩ := HP12.out.full3
  go_wp2_with fail
  clear hw12
  have hm := HMAY.out ⟨X1, cX1, E1, cE1, H1, cH1⟩ fx1 w12 HB12.out HS12.out HALL.out.s1
  rw [HALL.out.act1, HALL.out.may1] at hm
  refine hm.mono ?_
  rintro e w13 ⟨A4, c4, A5, c5, rfl, HX13⟩
  clear hm
  have V13 : Ints w13 w13.heap.size A4 2 [3, 4] := own_nums (L := [3, 4]) (HX13.held.own 0 _ rfl)
  have B13 := HX13.bel
  have HC13 := Lib.hid (HC12.out.below B13 HC12.out.lt)
  have HB13 := Lib.hid (below_step HB12.out B13)
  have HP13 := Lib.hid (HP12.out.below B13 HP12.out.lt)
  have HS13 := Lib.hid (HS12.out.on B13)
  have HV13 := Lib.hid V13
  clear B13 a0 a1 a2 a3 a4 a5 a6 a7 a8 p0 p1 p2 hz1 hz2 HC12 HB12 HP12 HS12 V13
  obtain ⟨a0, a1, a2, a3, a4, a5, a6, a7, a8⟩ := HC13.out.at9
  have hz1 := HC13.out.lt
  obtain ⟨⟨p0, p1, p2⟩, -, hz2⟩ := HP13.out.full3
  clear HX13
  obtain ⟨bH, oH, hH1⟩ := HS13.out.iH.adr (by omega)
  dsimp only at hH1
  subst hH1
  obtain ⟨hbH, ch⟩ := HS13.out.iH.cel (k := 1) (x := 1) rfl
  simp only [List.length_nil, List.length_cons, Nat.zero_add, Nat.reduceAdd]
  go_wp2_with fail
  refine (ints_is (n := 2) (m := 2) _ _ (HV13.out.onAlloc _) (Blk.ints (L := [3, 4]) (Blk.new rfl) rfl) (by omega) (by omega) (v := true) (by decide)).mono ?_
  rintro e w14 ⟨rfl, B14⟩
  replace B14 := below_step (below_alloc _) B14
  have HC14 := Lib.hid (HC13.out.below B14 HC13.out.lt)
  have HB14 := Lib.hid (below_step HB13.out B14)
  have HP14 := Lib.hid (HP13.out.below B14 HP13.out.lt)
  have HS14 := Lib.hid (HS13.out.on B14)
  have HV14 := Lib.hid (HV13.out.on B14)
  clear B14 a0 a1 a2 a3 a4 a5 a6 a7 a8 p0 p1 p2 hz1 hz2 HC13 HB13 HP13 HS13 HV13
  obtain ⟨a0, a1, a2, a3, a4, a5, a6, a7, a8⟩ := HC14.out.at9
  have hz1 := HC14.out.lt
  obtain ⟨⟨p0, p1, p2⟩, -, hz2⟩ := HP14.out.full3
  clear ch hbH
  go_wp2_with fail
  have hp := HPUSH.out ⟨X1, cX1, E1, cE1, some ⟨bH, oH, none⟩, cH1⟩ fx1 3 w14 HB14.out HS14.out HALL.out.s1
  rw [HALL.out.push3.1, HALL.out.push3.2] at hp
  refine hp.mono ?_
  rintro e w15 ⟨⟨X2, cX2, E2, cE2, H2, cH2⟩, rfl, HX15⟩
  dsimp only at HX15 ⊢
  rw [HALL.out.s2.bal.1, HALL.out.s2.le, HALL.out.s2.lh] at HX15 ⊢
  clear hp
  have hs15 : StIn w15 w15.heap.size M N N ⟨X2, cX2, E2, cE2, H2, cH2⟩ fx2.1 fx2.2.1 fx2.2.2 := HX15.st HALL.out.s2.bal.1 HALL.out.s2.le HALL.out.s2.lh
  have B15 := HX15.bel
  have HC15 := Lib.hid (HC14.out.below B15 HC14.out.lt)
  have HB15 := Lib.hid (below_step HB14.out B15)
  clear B15 a0 a1 a2 a3 a4 a5 a6 a7 a8 p0 p1 p2 hz1 hz2 HC14 HB14 HP14 HS14 HV14
  obtain ⟨a0, a1, a2, a3, a4, a5, a6, a7, a8⟩ := HC15.out.at9
  have hz1 := HC15.out.lt
  obtain ⟨w16, hw16⟩ : ∃ W, w15.alloc (.cells #[.slice X2 M cX2, .slice E2 N cE2, .slice H2 N cH2] 29) = W := ⟨_, rfl⟩
  have b16 : Below w15.heap.size w15 w16 := by rw [← hw16]; exact below_alloc _
  have HP16 := Lib.hid (show Blk w16 w15.heap.size 29 #[.slice X2 M cX2, .slice E2 N cE2, .slice H2 N cH2] by rw [← hw16]; exact Blk.new rfl)
  have HC16 := Lib.hid (HC15.out.below b16 HC15.out.lt); have HS16 := Lib.hid (hs15.on b16); have HB16 := Lib.hid (below_step HB15.out b16)
  clear hs15 b16 HX15 HC15 HB15 a0 a1 a2 a3 a4 a5 a6 a7 a8 hz1
  obtain ⟨a0, a1, a2, a3, a4, a5, a6, a7, a8⟩ := HC16.out.at9
  have hz1 := HC16.out.lt
  obtain ⟨⟨p0, p1, p2⟩, -, hz2⟩ := HP16.out.full3
  go_wp2_with fail
  clear hw16
  have hp := HPUSH.out ⟨X2, cX2, E2, cE2, H2, cH2⟩ fx2 4 w16 HB16.out HS16.out HALL.out.s2
  rw [HALL.out.push4.1, HALL.out.push4.2] at hp
  refine hp.mono ?_
  rintro e w17 ⟨⟨X3, cX3, E3, cE3, H3, cH3⟩, rfl, HX17⟩
  have HB17 := Lib.hid (below_step HB16.out HX17.bel)
  dsimp only at ⊢
  clear hp HX17 HS16 HP16 HC16 a0 a1 a2 a3 a4 a5 a6 a7 a8 p0 p1 p2 hz1 hz2
  go_wp2_with fail
  go_ret
  refine ⟨rfl, (HB2.out.trans (HB17.out.mono HB2.out.size)).alloc ?_ _⟩
  have := HB2.out.size; have := HB17.out.size
  omega

end Go.Proofs.Ytgjokddcaadjdaa
