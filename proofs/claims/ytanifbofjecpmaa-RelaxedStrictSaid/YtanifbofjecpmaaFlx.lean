/- What is left, as the numbers of a flow: plain facts (the first part of Pepn, by itself). -/
import Derived.Test.YtanifbofjecpmaaPnet
/-! Pep -/
namespace Go.Proofs.Ytanifbofjecpmaa
open Go.RowKit
set_option maxRecDepth 100000

/-- The arcs' numbers, when k of what is left has been looked at. -/
def flF (ai : Nat → Nat) (bk : Nat → Bool) (X : List Int) (n : Nat) : Nat → List Int
  | 0 => List.replicate n 0
  | k + 1 => if bk k = true then (flF ai bk X n k).set (ai k) (hOf X k) else flF ai bk X n k
section
variable {ai : Nat → Nat} {bk : Nat → Bool} {X : List Int} {n M : Nat}
theorem flF_len : ∀ k, (flF ai bk X n k).length = n
  | 0 => by simp [flF]
  | k + 1 => by
    simp only [flF]
    split
    · rw [List.length_set, flF_len k]
    · exact flF_len k
theorem flF_at (haij : ∀ a b, a < M → b < M → ai a = ai b → bk a = bk b → a = b) (hl : ∀ a, a < M → ai a < n) {a : Nat} (hb : bk a = true) : ∀ k, k ≤ M → a < k → (flF ai bk X n k)[ai a]? = some (hOf X a)
  | 0, _, h => by omega
  | k + 1, hk, h => by
    simp only [flF]
    by_cases e : a = k
    · subst e
      rw [if_pos hb, List.getElem?_set, if_pos rfl, flF_len, if_pos (hl a (by omega))]
    · have ih := flF_at haij hl hb k (by omega) (by omega)
      split
      · next hbk =>
        rw [List.getElem?_set, if_neg fun e' => e (haij a k (by omega) (by omega) e'.symm (by rw [hb, hbk]))]
        exact ih
      · exact ih
theorem flF_no {i : Nat} (hi : i < n) : ∀ k, (∀ a, a < k → bk a = true → ai a ≠ i) → (flF ai bk X n k)[i]? = some 0
  | 0, _ => by simp [flF, hi]
  | k + 1, h => by
    have ih := flF_no hi k fun a ha => h a (by omega)
    simp only [flF]
    split
    · next hb =>
      rw [List.getElem?_set, if_neg (h k (by omega) hb)]
      exact ih
    · exact ih
end

/-- What an arc adds to u's excess, by its number. -/
def dAt (l : List ArcN) (F : List Int) (u : Int) (i : Nat) : Int := match l[i]?, F[i]? with
  | some a, some x => dlt a x u
  | _, _ => 0
theorem ex_dAt (u : Int) : ∀ (l : List ArcN) (F : List Int), F.length = l.length → exOf l F u = sumN (dAt l F u) l.length
  | [], _, _ => by simp [exOf, sumN]
  | _ :: _, [], h => by simp at h
  | a :: l, x :: F, h => by
    have ih := ex_dAt u l F (by simpa using h)
    simp only [exOf, List.length_cons]
    rw [sumN_front, ih]
    rfl

section
variable {N s t : Nat} {l : List ArcN} {F H R C Ai X E Hh : List Int} {B : List Bool}
/-- What stands where an arc's residual one does. -/
theorem CsrL.inc (h : CsrL N l F H R C Ai B) (hE : EndsIn N l) {i : Nat} {v u c : Int} {b : Bool} (hI : Inc l i v u b c) :
    posOf l i v < firstOf l N ∧ hdOf Ai (posOf l i v) = i ∧ bOf B (posOf l i v) = b ∧ hOf C (posOf l i v) = c ∧ (hdOf H (posOf l i v) : Int) = u ∧ hdOf R (posOf l i v) = posOf l i u := by
  have h0 := hI.ends hE
  have hp := pos_lt hI hE
  have e := h.ent.ent _ _ _ _ _ hI h0.1 hp
  have r := h.rev.ent _ _ _ _ _ hI h0.1 hp
  exact ⟨hp, hdOf_eq e.2.2.1, by unfold bOf; rw [e.2.2.2]; rfl, hOf_at e.2.1, hdOf_at e.1 h0.2.2.1, hdOf_eq r⟩
/-- Each of what is left is some arc's. -/
theorem CsrL.num (h : CsrL N l F H R C Ai B) (hE : EndsIn N l) {a : Nat} (ha : a < firstOf l N) : ∃ v u b c, Inc l (hdOf Ai a) v u b c ∧ posOf l (hdOf Ai a) v = a := by
  obtain ⟨i, q, v, u, b, c, hI, hp, hq, hql, e1, e2, e3, e4, e5⟩ := h.at hE ha
  have hi : hdOf Ai a = i := hdOf_eq e4
  rw [hi]
  exact ⟨v, u, b, c, hI, hp⟩

theorem fl_back (h : CsrL N l F H R C Ai B) (hc : checkF N s t l = 0) {i : Nat} {v u c : Int} (hI : Inc l i v u true c) : (flF (hdOf Ai) (bOf B) X l.length (firstOf l N))[i]? = some (hOf X (posOf l i v)) := by
  have hE := (ends_in hc).2.2.2.1
  have hG := (h.pnet hc).1
  obtain ⟨h1, h2, h3, -⟩ := h.inc hE hI
  have hil : ∀ a, a < firstOf l N → hdOf Ai a < l.length := fun a ha => by
    obtain ⟨v, u, b, c, hI, _⟩ := h.num hE ha
    exact hI.lt
  have := flF_at (X := X) (n := l.length) hG.aij hil h3 _ (Nat.le_refl _) h1
  rw [h2] at this
  exact this
theorem fl_loop (h : CsrL N l F H R C Ai B) (hc : checkF N s t l = 0) {i : Nat} {a : ArcN} (ha : l[i]? = some a) (he : a.frm = a.to) : (flF (hdOf Ai) (bOf B) X l.length (firstOf l N))[i]? = some 0 := by
  have hE := (ends_in hc).2.2.2.1
  refine flF_no (List.getElem?_eq_some_iff.1 ha).1 _ fun b hb _ e => ?_
  obtain ⟨v, u, b', c, ⟨hne, x, hx, hh⟩, _⟩ := h.num hE hb
  rw [e, ha] at hx
  injection hx with hx
  subst hx
  rcases hh with ⟨_, h1, h2, _⟩ | ⟨_, h1, h2, _⟩ <;> exact hne (by omega)
theorem fl_res (h : CsrL N l F H R C Ai B) (hc : checkF N s t l = 0) (hb : Bal (firstOf l N) (hdOf R) (hOf C) X) : ResOf l (flF (hdOf Ai) (bOf B) X l.length (firstOf l N)) (firstOf l N) X := by
  have hE := (ends_in hc).2.2.2.1
  refine ⟨hb.1, fun i v u b c x hI hx => ?_⟩
  obtain ⟨h1, h2, h3, h4, h5, h6⟩ := h.inc hE hI
  rw [hOf_get hb.1 h1]
  cases b with
  | true =>
    have e := fl_back (X := X) h hc hI
    rw [hx] at e
    injection e with e
    rw [e]; rfl
  | false =>
    obtain ⟨c', hI'⟩ := hI.flip
    have e := fl_back (X := X) h hc hI'
    rw [hx] at e
    injection e with e
    obtain ⟨k1, k2, k3, k4, k5, k6⟩ := h.inc hE hI'
    have hz : c' = 0 := by
      obtain ⟨_, _, _, hh⟩ := hI'
      rcases hh with ⟨g, _⟩ | ⟨_, _, _, g⟩
      · cases g
      · exact g
    have := (hb.2 _ h1).2
    rw [h6, h4, k4, hz] at this
    rw [capAt_fwd hI, e]
    simp only [Bool.false_eq_true, if_false]
    congr 1
    omega
theorem fl_in (h : CsrL N l F H R C Ai B) (hc : checkF N s t l = 0) (hb : Bal (firstOf l N) (hdOf R) (hOf C) X) : FlowIn l (flF (hdOf Ai) (bOf B) X l.length (firstOf l N)) := by
  have hE := (ends_in hc).2.2.2.1
  have hnn := (ends_in hc).2.2.2.2.2.2.2.2.2.1
  refine ⟨flF_len _, fun i a x ha hx => ?_⟩
  by_cases he : a.frm = a.to
  · rw [fl_loop h hc ha he] at hx
    injection hx with hx
    subst hx
    exact ⟨Int.le_refl _, hnn a (mem_at ha)⟩
  · have hr := fl_res h hc hb
    have h1 := h.inc hE (inc_fwd ha he)
    have h2 := h.inc hE (inc_bwd ha he)
    have e1 := hr.ent _ _ _ _ _ x (inc_fwd ha he) hx
    have e2 := hr.ent _ _ _ _ _ x (inc_bwd ha he) hx
    have g1 := (hb.2 _ h1.1).1
    have g2 := (hb.2 _ h2.1).1
    rw [hOf_at e1, capAt_fwd (inc_fwd ha he)] at g1
    rw [hOf_at e2] at g2
    simp only [Bool.false_eq_true, if_false, if_true] at g1 g2
    omega
theorem fl_ex (h : CsrL N l F H R C Ai B) (hc : checkF N s t l = 0) (hb : Bal (firstOf l N) (hdOf R) (hOf C) X) (u : Nat) :
    exOf l (flF (hdOf Ai) (bOf B) X l.length (firstOf l N)) (u : Int) = exT (firstOf l N) (hdOf H) (hdOf R) (hOf C) X u := by
  have hE := (ends_in hc).2.2.2.1
  have hr := fl_res h hc hb
  have hil : ∀ a, a < firstOf l N → hdOf Ai a < l.length := fun a ha => by
    obtain ⟨v, u, b, c, hI, _⟩ := h.num hE ha
    exact hI.lt
  obtain ⟨G, hG⟩ : ∃ G : Nat → Int, (fun j => if hdOf H (hdOf R j) = u then hOf X j - hOf C j else 0) = G := ⟨_, rfl⟩
  have e : sumN G (firstOf l N) = sumN (fun i => sumN (fun a => if hdOf Ai a = i then G a else 0) (firstOf l N)) l.length := by
    refine (sumN_congr fun a ha => ?_).trans (sumN_swap (fun a i => if hdOf Ai a = i then G a else 0) (firstOf l N) l.length)
    have := sumN_upd (f := fun _ => 0) (g := fun i => if hdOf Ai a = i then G a else 0) (a := hdOf Ai a) (n := l.length) (d := G a) (hil a ha) (fun j _ hne => if_neg fun e => hne e.symm) (by simp)
    rw [this, sumN_zero]
    omega
  unfold exT
  rw [hG, e, ex_dAt _ _ _ (flF_len _)]
  refine sumN_congr fun i hi => ?_
  obtain ⟨a, ha⟩ : ∃ a, l[i]? = some a := ⟨_, List.getElem?_eq_getElem hi⟩
  obtain ⟨x, hx⟩ : ∃ x, (flF (hdOf Ai) (bOf B) X l.length (firstOf l N))[i]? = some x := ⟨_, List.getElem?_eq_getElem (by rw [flF_len]; exact hi)⟩
  unfold dAt
  rw [ha, hx]
  dsimp only
  have hends : ∀ j, j < firstOf l N → hdOf Ai j = i → a.frm ≠ a.to ∧ (j = posOf l i a.frm ∨ j = posOf l i a.to) := by
    rintro j hj rfl
    obtain ⟨v, u, b', c, ⟨hne, y, hy, hh⟩, hp⟩ := h.num hE hj
    rw [ha] at hy
    injection hy with hy
    subst hy
    rcases hh with ⟨_, h1, h2, _⟩ | ⟨_, h1, h2, _⟩
    · exact ⟨by rw [h1, h2]; exact hne, .inl (by rw [h1, hp])⟩
    · exact ⟨by rw [h1, h2]; exact fun e => hne e.symm, .inr (by rw [h1, hp])⟩
  by_cases he : a.frm = a.to
  · rw [sumN_congr (g := fun _ => 0) fun j hj => if_neg fun e => (hends j hj e).1 he, sumN_zero]
    unfold dlt
    rw [he]
    omega
  · have I1 := inc_fwd ha he
    have I2 := inc_bwd ha he
    obtain ⟨p1, p2, p3, p4, p5, p6⟩ := h.inc hE I1
    obtain ⟨q1, q2, q3, q4, q5, q6⟩ := h.inc hE I2
    have e1 := hr.ent _ _ _ _ _ x I1 hx
    have e2 := hr.ent _ _ _ _ _ x I2 hx
    have hpq : posOf l i a.frm ≠ posOf l i a.to := fun e => he (pos_inj I1 I2 (I1.ends hE).1 (I2.ends hE).1 e).1
    rw [sumN_two (s := posOf l i a.frm) (t := posOf l i a.to) p1 q1 hpq fun j hj n1 n2 => if_neg fun e => (hends j hj e).2.elim n1 n2]
    rw [if_pos p2, if_pos q2, ← hG]
    dsimp only
    rw [p6, q6, hOf_at e1, hOf_at e2, p4, q4, capAt_fwd I1]
    simp only [Bool.false_eq_true, if_false, if_true]
    have g1 : (hdOf H (posOf l i a.to) = u) ↔ a.frm = (u : Int) := by rw [← q5]; omega
    have g2 : (hdOf H (posOf l i a.frm) = u) ↔ a.to = (u : Int) := by rw [← p5]; omega
    unfold dlt
    simp only [g1, g2]
    split <;> split <;> omega
end
end Go.Proofs.Ytanifbofjecpmaa
