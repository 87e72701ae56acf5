/- Plain facts for CsrRows: how often an arc is met. -/
import Derived.Test.YtbmndghgmndgmaaCsri
namespace Go.Proofs.Ytbmndghgmndgmaa
open Go.RowKit

def mcount (l : List ArcN) (a i : Nat) (x : ArcN) : Int :=
  if x.frm = x.to then 0 else (if posOf l i x.frm < a then 1 else 0) + (if posOf l i x.to < a then 1 else 0)
/-- How often each arc is met among the first a residual arcs. -/
structure ManyTo (l : List ArcN) (a : Nat) (Y : List Int) : Prop where
  len : Y.length = l.length
  ent : ∀ (i : Nat) (x : ArcN), l[i]? = some x → Y[i]? = some (mcount l a i x)
section
variable {l : List ArcN} {Y : List Int} {N M a i j : Nat} {v u c : Int} {b : Bool}
theorem ManyTo.zero (l : List ArcN) : ManyTo l 0 (List.replicate l.length 0) := by
  refine ⟨by simp, fun i x hx => ?_⟩
  have := (List.getElem?_eq_some_iff.1 hx).1
  simp [mcount, this]
theorem ManyTo.step (h : ManyTo l a Y) (hE : EndsIn N l) (hI : Inc l i v u b c) (hp : posOf l i v = a) {y : Int} (hy : Y[i]? = some y) : ManyTo l (a + 1) (Y.set i (y + 1)) := by
  obtain ⟨c1, hI'⟩ := hI.flip
  have hne : posOf l i u ≠ a := fun e => hI.1 (pos_inj hI hI' (hI.ends hE).1 (hI'.ends hE).1 (by omega)).1
  have hil := hI.lt
  have hl := h.len
  refine ⟨by simp [hl], fun i' x hx => ?_⟩
  by_cases e : i = i'
  · subst e
    have h1 := h.ent i x hx
    rw [hy] at h1
    injection h1 with h1
    rw [List.getElem?_set_self (by omega), h1]
    obtain ⟨hvu, a', ha', hh⟩ := hI
    rw [hx] at ha'
    injection ha' with ha'
    subst ha'
    unfold mcount
    rcases hh with ⟨_, g1, g2, _⟩ | ⟨_, g1, g2, _⟩
    · have hn : ¬ x.frm = x.to := by omega
      rw [if_neg hn, if_neg hn, g1, g2, hp]
      by_cases hq : posOf l i u < a
      · rw [if_pos hq, if_pos (show posOf l i u < a + 1 by omega)]; simp
      · rw [if_neg hq, if_neg (show ¬ posOf l i u < a + 1 by omega)]; simp
    · have hn : ¬ x.frm = x.to := by omega
      rw [if_neg hn, if_neg hn, g1, g2, hp]
      by_cases hq : posOf l i u < a
      · rw [if_pos hq, if_pos (show posOf l i u < a + 1 by omega)]; simp
      · rw [if_neg hq, if_neg (show ¬ posOf l i u < a + 1 by omega)]; simp
  · rw [List.getElem?_set_ne e, h.ent i' x hx]
    unfold mcount
    by_cases hn : x.frm = x.to
    · rw [if_pos hn, if_pos hn]
    · have J1 := inc_fwd hx hn
      have J2 := inc_bwd hx hn
      have n1 : posOf l i' x.frm ≠ a := fun e' => e (pos_inj hI J1 (hI.ends hE).1 (J1.ends hE).1 (by omega)).2
      have n2 : posOf l i' x.to ≠ a := fun e' => e (pos_inj hI J2 (hI.ends hE).1 (J2.ends hE).1 (by omega)).2
      rw [if_neg hn, if_neg hn]
      have q1 : (posOf l i' x.frm < a + 1) ↔ posOf l i' x.frm < a := by omega
      have q2 : (posOf l i' x.to < a + 1) ↔ posOf l i' x.to < a := by omega
      simp only [q1, q2]
theorem ManyTo.small (h : ManyTo l a Y) : ∀ (i : Nat) (y : Int), Y[i]? = some y → 0 ≤ y ∧ y ≤ 2 := by
  intro i y hy
  have hi := (List.getElem?_eq_some_iff.1 hy).1
  have hl := h.len
  have h1 := h.ent i _ (List.getElem?_eq_getElem (show i < l.length by omega))
  rw [hy] at h1
  injection h1 with h1
  subst h1
  unfold mcount
  split
  · omega
  · split <;> split <;> omega
theorem ManyTo.done (h : ManyTo l M Y) (hE : EndsIn N l) (hM : firstOf l N = M) {x : ArcN} (hx : l[i]? = some x) : Y[i]? = some (if x.frm = x.to then 0 else 2) := by
  rw [h.ent i x hx]
  unfold mcount
  by_cases hn : x.frm = x.to
  · rw [if_pos hn, if_pos hn]
  · have p1 := pos_lt (inc_fwd hx hn) hE
    have p2 := pos_lt (inc_bwd hx hn) hE
    rw [if_neg hn, if_neg hn, if_pos (by omega), if_pos (by omega)]
    rfl
/-- In a row the arcs' places rise. -/
theorem row_order (hp : posOf l i v + 1 = posOf l j v) : i < j := by
  rcases Nat.lt_or_ge i j with h | h
  · exact h
  · have := deg_take_mono l h v
    unfold posOf at hp
    omega
end

end Go.Proofs.Ytbmndghgmndgmaa
