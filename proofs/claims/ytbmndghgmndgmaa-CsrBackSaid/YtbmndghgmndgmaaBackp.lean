/- Plain facts for CsrBack. -/
import Derived.Test.YtbmndghgmndgmaaAwake2
import Derived.Test.YtbmndghgmndgmaaSomep
import Derived.Test.YtbmndghgmndgmaaWithin
import Derived.Test.YtbmndghgmndgmaaCsrh
import Derived.Test.YtbmndghgmndgmaaLongc
namespace Go.Proofs.Ytbmndghgmndgmaa
open Go.RowKit

section
variable {l : List ArcN} {f X : List Int} {N M : Nat}
/-- What a flow within leaves is balanced. -/
theorem res_balanced (hX : ResOf l f M X) (hM : firstOf l N = M) (hl : f.length = l.length) (hok : okB l f = true) : Balanced l X := by
  refine ⟨fun j x hx => ?_, fun i v u c x y hI hx hy => ?_⟩
  · have hj := (List.getElem?_eq_some_iff.1 hx).1
    have hlen := hX.len
    obtain ⟨i, v, u, b, c, hI, rfl, _, _⟩ := pos_find (l := l) (N := N) (j := j) (by omega)
    obtain ⟨z, hz⟩ : ∃ z, f[i]? = some z := ⟨_, List.getElem?_eq_getElem (by have := hI.lt; omega)⟩
    have h1 := hX.ent _ _ _ _ _ _ hI hz
    rw [hx] at h1
    injection h1 with h1
    obtain ⟨hne, a, ha, hh⟩ := hI
    have h2 := okB_iff.1 hok i a z ha hz
    have h3 : capAt l i = a.cap := by unfold capAt; rw [ha]
    rw [h3] at h1
    cases b <;> simp at h1 <;> rcases hh with ⟨_, g1, g2, _⟩ | ⟨_, g1, g2, _⟩ <;> omega
  · obtain ⟨z, hz⟩ : ∃ z, f[i]? = some z := ⟨_, List.getElem?_eq_getElem (by have := hI.lt; omega)⟩
    obtain ⟨c', hI'⟩ := hI.flip
    have h1 := hX.ent _ _ _ _ _ _ hI hz
    have h2 := hX.ent _ _ _ _ _ _ hI' hz
    rw [hx] at h1
    rw [hy] at h2
    injection h1 with h1
    injection h2 with h2
    rw [capAt_fwd hI] at h1
    simp at h1 h2
    omega
/-- One more of one of them is not. -/
theorem res_more (hX : Balanced l X) (hE : EndsIn N l) (hM : firstOf l N = M) (hlen : X.length = M) {p : Nat} {x : Int} (hp : X[p]? = some x) : ¬ Balanced l (X.set p (x + 1)) := by
  intro h
  have hj := (List.getElem?_eq_some_iff.1 hp).1
  obtain ⟨i, v, u, b, c, hI, rfl, _, _⟩ := pos_find (l := l) (N := N) (j := p) (by omega)
  obtain ⟨c', hI'⟩ := hI.flip
  have p1 := pos_lt hI hE
  have p2 := pos_lt hI' hE
  have hne : posOf l i v ≠ posOf l i u := fun e => hI.1 (pos_inj hI hI' (hI.ends hE).1 (hI'.ends hE).1 e).1
  obtain ⟨y, hy⟩ : ∃ y, X[posOf l i u]? = some y := ⟨_, List.getElem?_eq_getElem (by omega)⟩
  have hs1 : (X.set (posOf l i v) (x + 1))[posOf l i v]? = some (x + 1) := by simp [hj]
  have hs2 : (X.set (posOf l i v) (x + 1))[posOf l i u]? = some y := by rw [List.getElem?_set_ne hne]; exact hy
  cases b with
  | false =>
    have h1 := hX.2 _ _ _ _ _ _ hI hp hy
    have h2 := h.2 _ _ _ _ _ _ hI hs1 hs2
    omega
  | true =>
    have h1 := hX.2 _ _ _ _ _ _ hI' hy hp
    have h2 := h.2 _ _ _ _ _ _ hI' hs2 hs1
    omega
/-- One number of a flow within changed: within just if that number is. -/
theorem ok_set {i : Nat} {a : ArcN} {z : Int} (hok : okB l f = true) (ha : l[i]? = some a) (hne : a.frm ≠ a.to) (hl : f.length = l.length) : okB l (f.set i z) = decide (0 ≤ z ∧ z ≤ a.cap) := by
  have hi := (List.getElem?_eq_some_iff.1 ha).1
  rw [Bool.eq_iff_iff, okB_iff]
  simp only [decide_eq_true_eq]
  constructor
  · intro h
    have := h i a z ha (by simp [hl, hi])
    omega
  · intro h j b x hb hx
    by_cases e : i = j
    · subst e
      rw [ha] at hb
      injection hb with hb
      subst hb
      simp [hl, hi] at hx
      subst hx
      exact .inr h
    · rw [List.getElem?_set_ne e] at hx
      exact okB_iff.1 hok j b x hb hx
theorem res_bound (hX : ResOf l f M X) (hM : firstOf l N = M) (hl : f.length = l.length) (hok : okB l f = true) (hcap : ∀ a ∈ l, a.cap < 1125899906842624) : ∀ x ∈ X, x ≤ 1125899906842624 := by
  intro x hx
  obtain ⟨j, hj'⟩ := List.getElem?_of_mem hx
  have hj := (List.getElem?_eq_some_iff.1 hj').1
  have hlen := hX.len
  obtain ⟨i, v, u, b, c, hI, rfl, _, _⟩ := pos_find (l := l) (N := N) (j := j) (by omega)
  obtain ⟨z, hz⟩ : ∃ z, f[i]? = some z := ⟨_, List.getElem?_eq_getElem (by have := hI.lt; omega)⟩
  have h1 := hX.ent _ _ _ _ _ _ hI hz
  rw [hj'] at h1
  injection h1 with h1
  obtain ⟨hne, a, ha, hh⟩ := hI
  have h2 := okB_iff.1 hok i a z ha hz
  have h4 := hcap a (mem_at ha)
  have h3 : capAt l i = a.cap := by unfold capAt; rw [ha]
  rw [h3] at h1
  cases b <;> simp at h1 <;> rcases hh with ⟨_, g1, g2, _⟩ | ⟨_, g1, g2, _⟩ <;> omega
end

theorem CsrAt.far {w : World} {n0 N : Nat} {l : List ArcN} {gF gH gR gC gA gB : Nat} (h : CsrAt w n0 N l gF gH gR gC gA gB) {p : Addr} (hp : p.block ≠ gF ∧ p.block ≠ gH ∧ p.block ≠ gR ∧ p.block ≠ gC ∧ p.block ≠ gA ∧ p.block ≠ gB) (u : Value) : CsrAt (w.setCell p u) n0 N l gF gH gR gC gA gB := by
  obtain ⟨p1, p2, p3, p4, p5, p6⟩ := hp
  refine ⟨h.lt, fun v hv => (World.cell?_setCell_far w p _ u p1).trans (h.first v hv), fun i v x b c hI => ?_⟩
  obtain ⟨e1, e2, e3, e4, e5⟩ := h.ent i v x b c hI
  exact ⟨(World.cell?_setCell_far w p _ u p2).trans e1, (World.cell?_setCell_far w p _ u p3).trans e2, (World.cell?_setCell_far w p _ u p4).trans e3, (World.cell?_setCell_far w p _ u p5).trans e4, (World.cell?_setCell_far w p _ u p6).trans e5⟩

end Go.Proofs.Ytbmndghgmndgmaa
