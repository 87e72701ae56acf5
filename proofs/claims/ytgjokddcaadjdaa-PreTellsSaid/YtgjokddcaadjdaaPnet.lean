/- Layer 7: a right net's residual network, by numbers. -/
import Derived.Test.YtgjokddcaadjdaaPino
namespace Go.Proofs.Ytgjokddcaadjdaa
open Go.RowKit
set_option maxRecDepth 100000

theorem sumN_once {p : Nat → Bool} {c : Int} (hc : 0 ≤ c) : ∀ {M : Nat}, (∀ a b, a < M → b < M → p a = true → p b = true → a = b) → sumN (fun a => if p a = true then c else 0) M ≤ c
  | 0, _ => by simp only [sumN]; exact hc
  | M + 1, h => by
    simp only [sumN]
    by_cases e : p M = true
    · rw [if_pos e, sumN_congr (g := fun _ => 0) (fun j hj => if_neg fun e' => by have := h j M (by omega) (by omega) e' e; omega), sumN_zero]
      omega
    · rw [if_neg e]
      have := sumN_once hc (M := M) (fun a b ha hb => h a b (by omega) (by omega))
      omega
theorem sumN_le {f g : Nat → Int} {n : Nat} (h : ∀ j, j < n → f j ≤ g j) : sumN f n ≤ sumN g n := by
  induction n with
  | zero => exact Int.le_refl _
  | succ n ih =>
    have h1 := ih fun j hj => h j (by omega)
    have h2 := h n (by omega)
    simp only [sumN]; omega
theorem sumN_front (f : Nat → Int) : ∀ n, sumN f (n + 1) = f 0 + sumN (fun j => f (j + 1)) n
  | 0 => by simp [sumN]
  | n + 1 => by
    have := sumN_front f n
    simp only [sumN] at this ⊢
    omega
/-- Of each i at most one a: together no more than all i's. -/
theorem sumN_inj {M n : Nat} {ai : Nat → Nat} {p : Nat → Bool} {c : Nat → Int} (hc : ∀ i, i < n → 0 ≤ c i) (hl : ∀ a, a < M → ai a < n) (h : ∀ a b, a < M → b < M → p a = true → p b = true → ai a = ai b → a = b) :
    sumN (fun a => if p a = true then c (ai a) else 0) M ≤ sumN c n := by
  have e : sumN (fun a => if p a = true then c (ai a) else 0) M = sumN (fun i => sumN (fun a => if (p a && decide (ai a = i)) = true then c i else 0) M) n := by
    refine (sumN_congr fun a ha => ?_).trans (sumN_swap (fun a i => if (p a && decide (ai a = i)) = true then c i else 0) M n)
    by_cases hp : p a = true
    · rw [if_pos hp]
      have := sumN_upd (f := fun _ => 0) (g := fun i => if (p a && decide (ai a = i)) = true then c i else 0) (a := ai a) (n := n) (d := c (ai a)) (hl a ha) (fun j _ hne => if_neg fun e => by simp at e; exact hne e.2.symm) (by simp [hp])
      rw [this, sumN_zero]
      omega
    · rw [if_neg hp]
      refine ((sumN_zero n).symm).trans (sumN_congr fun i _ => ?_)
      rw [if_neg fun e => by simp at e; exact hp e.1]
  rw [e]
  refine sumN_le fun i hi => sumN_once (hc i hi) fun a b ha hb h1 h2 => ?_
  simp at h1 h2
  exact h a b ha hb h1.1 h2.1 (h1.2.trans h2.2.symm)
theorem sumN_caps : ∀ l : List ArcN, sumN (capAt l) l.length = total l
  | [] => rfl
  | a :: r => by
    rw [List.length_cons, sumN_front]
    simp only [total]
    rw [← sumN_caps r]
    rfl
def bOf (B : List Bool) (a : Nat) : Bool := (B[a]?).getD false
theorem hOf_eq {L : List Int} {a : Nat} {x : Int} (h : L[a]? = some x) : hOf L a = x := hOf_at h

/-- The residual network of a right net, by numbers. -/
theorem CsrL.pnet {N s t : Nat} {l : List ArcN} {F H R C Ai : List Int} {B : List Bool} (h : CsrL N l F H R C Ai B) (hc : checkF N s t l = 0) :
    PNet N (firstOf l N) s t (firstOf l) (hdOf H) (hdOf R) (hdOf Ai) (hOf C) (bOf B) ∧ F = tab (N + 1) (fun v => (firstOf l v : Int)) ∧ H = tab (firstOf l N) (fun a => (hdOf H a : Int)) ∧ R = tab (firstOf l N) (fun a => (hdOf R a : Int)) ∧
      C = tab (firstOf l N) (hOf C) ∧ Ai = tab (firstOf l N) (fun a => (hdOf Ai a : Int)) ∧ B = tab (firstOf l N) (bOf B) := by
  obtain ⟨h2, hN, hln, hE, hs0, hs, ht0, ht, hst, hnn, htot⟩ := ends_in hc
  obtain ⟨hg, eH, eR⟩ := h.grid hE
  have key : ∀ a, a < firstOf l N → ∃ (v u : Int) (b : Bool) (c : Int), Inc l (hdOf Ai a) v u b c ∧ posOf l (hdOf Ai a) v = a ∧ hdOf R a = posOf l (hdOf Ai a) u ∧ bOf B a = b ∧ hOf C a = c ∧ B[a]? = some b ∧ C[a]? = some c ∧ Ai[a]? = some (hdOf Ai a : Int) := by
    intro a ha
    obtain ⟨i, q, v, u, b, c, hI, hp, hq, hql, e1, e2, e3, e4, e5⟩ := h.at hE ha
    have hi : hdOf Ai a = i := hdOf_eq e4
    rw [hi]
    exact ⟨v, u, b, c, hI, hp, by rw [hdOf_eq e2, hq], by unfold bOf; rw [e5]; rfl, hOf_at e3, e5, e3, e4⟩
  have hil : ∀ a, a < firstOf l N → hdOf Ai a < l.length := fun a ha => by
    obtain ⟨v, u, b, c, hI, _⟩ := key a ha
    exact hI.lt
  have hair : ∀ a, a < firstOf l N → hdOf Ai (hdOf R a) = hdOf Ai a ∧ bOf B (hdOf R a) = !bOf B a := fun a ha => by
    obtain ⟨v, u, b, c, hI, hp, hr, hb, _⟩ := key a ha
    obtain ⟨c', hI'⟩ := hI.flip
    have h0 := (hI'.ends hE).1
    have e := h.ent.ent _ _ _ _ _ hI' h0 (pos_lt hI' hE)
    rw [← hr] at e
    exact ⟨hdOf_eq e.2.2.1, by unfold bOf; rw [e.2.2.2, ← hb]; rfl⟩
  have haij : ∀ a b, a < firstOf l N → b < firstOf l N → hdOf Ai a = hdOf Ai b → bOf B a = bOf B b → a = b := by
    intro a b ha hb e1 e2
    obtain ⟨v, u, ba, c, hI, hp, hr, hba, -⟩ := key a ha
    obtain ⟨v', u', bb, c', hI', hp', hr', hbb, -⟩ := key b hb
    rw [← e1] at hI' hp'
    have e3 : ba = bb := by rw [← hba, ← hbb]; exact e2
    subst e3
    obtain ⟨-, x, hx, hh⟩ := hI
    obtain ⟨-, x', hx', hh'⟩ := hI'
    rw [hx] at hx'
    injection hx' with hx'
    subst hx'
    have : v = v' := by
      rcases hh with ⟨g0, g1, g2, g3⟩ | ⟨g0, g1, g2, g3⟩ <;> rcases hh' with ⟨k0, k1, k2, k3⟩ | ⟨k0, k1, k2, k3⟩
      · exact g1.symm.trans k1
      · rw [g0] at k0; cases k0
      · rw [g0] at k0; cases k0
      · exact g1.symm.trans k1
    subst this
    exact hp.symm.trans hp'
  have hcap : ∀ a, a < firstOf l N → hOf C a = (if (!bOf B a) = true then capAt l (hdOf Ai a) else 0) ∧ 0 ≤ capAt l (hdOf Ai a) := fun a ha => by
    obtain ⟨v, u, b, c, hI, hp, hr, hb, hcc, -⟩ := key a ha
    have hmem := hnn
    refine ⟨?_, ?_⟩
    · rw [hb, hcc]
      cases b
      · simp only [Bool.not_false, if_true]; exact (capAt_fwd hI).symm
      · simp only [Bool.not_true, Bool.false_eq_true, if_false]
        obtain ⟨_, x, _, hh⟩ := hI
        rcases hh with ⟨e, _⟩ | ⟨_, _, _, e⟩
        · cases e
        · exact e
    · unfold capAt
      cases hx : l[hdOf Ai a]? with
      | none => exact Int.le_refl _
      | some x => exact hnn x (mem_at hx)
  have hca : ∀ i, i < l.length → 0 ≤ capAt l i := fun i hi => by
    unfold capAt
    cases hx : l[i]? with
    | none => exact Int.le_refl _
    | some x => exact hnn x (mem_at hx)
  have hsum : sumN (hOf C) (firstOf l N) ≤ maxSum := by
    have e := sumN_congr (fun a ha => (hcap a ha).1)
    rw [e]
    have := sumN_inj (M := firstOf l N) (n := l.length) (ai := hdOf Ai) (p := fun a => !bOf B a) (c := capAt l) hca hil (fun a b ha hb h1 h2 h3 => haij a b ha hb h3 (by simp at h1 h2; rw [h1, h2]))
    rw [sumN_caps] at this
    exact Int.le_trans this htot
  have hc0 : ∀ a, a < firstOf l N → 0 ≤ hOf C a := fun a ha => by
    rw [(hcap a ha).1]
    split
    · exact (hcap a ha).2
    · exact Int.le_refl _
  have hcount : (firstOf l N : Int) ≤ 2 * l.length := by
    have h1 := sumN_inj (M := firstOf l N) (n := l.length) (ai := hdOf Ai) (p := fun a => bOf B a) (c := fun _ => 1) (fun _ _ => by omega) hil (fun a b ha hb h1 h2 h3 => haij a b ha hb h3 (by rw [h1, h2]))
    have h2 := sumN_inj (M := firstOf l N) (n := l.length) (ai := hdOf Ai) (p := fun a => !bOf B a) (c := fun _ => 1) (fun _ _ => by omega) hil (fun a b ha hb h1 h2 h3 => haij a b ha hb h3 (by simp at h1 h2; rw [h1, h2]))
    have h3 : ∀ n, sumN (fun _ => 1) n = (n : Int) := fun n => by
      induction n with
      | zero => rfl
      | succ n ih => simp only [sumN]; rw [ih]; omega
    have h4 := sumN_add (fun a => if bOf B a = true then (1 : Int) else 0) (fun a => if (!bOf B a) = true then (1 : Int) else 0) (firstOf l N)
    rw [sumN_congr (g := fun _ => 1) fun j _ => by cases bOf B j <;> rfl, h3] at h4
    rw [h3] at h1 h2
    omega
  refine ⟨⟨hg, h2, by omega, by omega, by omega, by omega, fun e => hst (by omega), fun a ha => ?_, fun a ha => (hair a ha).2, fun a ha => ⟨hc0 a ha, ?_⟩, fun a ha hb => ?_, fun a ha => by have := hil a ha; omega, fun a ha => (hair a ha).1, haij, fun X hb v hv => ?_⟩,
    h.fst, eH, eR, tab_ext h.ent.lC fun a ha => ?_, tab_ext h.ent.lA fun a ha => ?_, tab_ext h.ent.lB fun a ha => ?_⟩
  · obtain ⟨i, q, v, u, b, c, hI, hp, hq, hql, e1, e2, e3, e4, e5⟩ := h.at hE ha
    obtain ⟨c', hI'⟩ := hI.flip
    have e := h.ent.ent _ _ _ _ _ hI' (hI'.ends hE).1 (pos_lt hI' hE)
    have h3 := hdOf_at e1 (hI.ends hE).2.2.1
    have h4 : hdOf R a = posOf l i u := by rw [hdOf_eq e2, hq]
    have h5 := hdOf_at e.1 (hI.ends hE).1
    rw [h4]
    intro e'
    have e2' : (hdOf H (posOf l i u) : Int) = (hdOf H a : Int) := by rw [e']
    exact hI.1 (h5.symm.trans (e2'.trans h3))
  · refine Int.le_trans ?_ hsum
    have h1 := sumN_upd (f := fun j => if j = a then 0 else hOf C j) (g := hOf C) (a := a) (n := firstOf l N) (d := hOf C a) ha (fun j _ hne => (if_neg hne).symm) (by simp)
    have h2 := sumN_nonneg (f := fun j => if j = a then 0 else hOf C j) (n := firstOf l N) (fun j hj => by
      show 0 ≤ if j = a then 0 else hOf C j
      split
      · exact Int.le_refl _
      · exact hc0 j hj)
    omega
  · rw [(hcap a ha).1, if_neg (by rw [hb]; simp)]
  · have hf : ∀ j, j < firstOf l N → -hOf C j ≤ (if hdOf H (hdOf R j) = v then hOf X j - hOf C j else 0) ∧ (if hdOf H (hdOf R j) = v then hOf X j - hOf C j else 0) ≤ hOf C (hdOf R j) := fun j hj => by
      have h1 := hb.2 j hj
      have h2 := hb.2 _ (hg.rvl j hj)
      have h3 := hc0 j hj
      have h4 := hc0 _ (hg.rvl j hj)
      split <;> omega
    have h1 := sumN_le fun j hj => (hf j hj).1
    have h2 := sumN_le fun j hj => (hf j hj).2
    rw [sumN_inv hg.rvl hg.rvv] at h2
    have h3 := sumN_sub (fun _ => 0) (hOf C) (firstOf l N)
    rw [sumN_zero, sumN_congr (g := fun i => -hOf C i) fun j _ => by omega] at h3
    unfold exT
    omega
  · obtain ⟨v, u, b, c, hI, hp, hr, hb, hcc, e5, e3, e4⟩ := key a ha
    rw [e3, hcc]
  · obtain ⟨v, u, b, c, hI, hp, hr, hb, hcc, e5, e3, e4⟩ := key a ha
    exact e4
  · obtain ⟨v, u, b, c, hI, hp, hr, hb, hcc, e5, e3, e4⟩ := key a ha
    rw [e5, hb]

/-- The same, where it lies. -/
theorem CsrL.pin {N s t x : Nat} {w : World} {K : CsrS} {l : List ArcN} {F H R C Ai : List Int} {B : List Bool} (h : CsrL N l F H R C Ai B) (hc : checkF N s t l = 0) (hI : CsrIn w x N (firstOf l N) K F H R C Ai B) :
    PIn w x N (firstOf l N) K (firstOf l) (hdOf H) (hdOf R) (hdOf Ai) (hOf C) (bOf B) := by
  obtain ⟨-, e1, e2, e3, e4, e5, e6⟩ := h.pnet hc
  exact ⟨⟨e1 ▸ hI.iF, e2 ▸ hI.iH, e3 ▸ hI.iR⟩, e4 ▸ hI.iC, e5 ▸ hI.iA, e6 ▸ hI.iB⟩

end Go.Proofs.Ytgjokddcaadjdaa
