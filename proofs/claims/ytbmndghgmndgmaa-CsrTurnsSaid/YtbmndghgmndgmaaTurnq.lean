/- Plain facts: the residual arcs of a net that is turned. -/
import Derived.Test.YtbmndghgmndgmaaCsrf
import Derived.Test.YtbmndghgmndgmaaTurnz
namespace Go.Proofs.Ytbmndghgmndgmaa

section
variable {l : List ArcN} {i N : Nat} {v u : Int} {b : Bool} {c : Int}
theorem deg_turn (l : List ArcN) (v : Int) : deg (l.map turnArc) v = deg l v := by
  unfold deg
  rw [List.countP_map]
  congr 1
  funext a
  exact decide_eq_decide.2 ⟨fun ⟨h1, h2⟩ => ⟨fun e => h1 e.symm, h2.symm⟩, fun ⟨h1, h2⟩ => ⟨fun e => h1 e.symm, h2.symm⟩⟩
theorem first_turn (l : List ArcN) : ∀ n, firstOf (l.map turnArc) n = firstOf l n
  | 0 => rfl
  | n + 1 => by simp only [firstOf, first_turn l n, deg_turn]
theorem pos_turn (l : List ArcN) (i : Nat) (v : Int) : posOf (l.map turnArc) i v = posOf l i v := by
  unfold posOf
  rw [first_turn, ← List.map_take, deg_turn]
theorem Inc.turn (h : Inc l i v u b c) : ∃ c', Inc (l.map turnArc) i v u (!b) c' := by
  obtain ⟨hne, a, ha, hh⟩ := h
  have ha' : (l.map turnArc)[i]? = some (turnArc a) := by simp [ha]
  rcases hh with ⟨h0, h1, h2, _⟩ | ⟨h0, h1, h2, _⟩
  · exact ⟨0, hne, _, ha', .inr ⟨by simp [h0], h1, h2, rfl⟩⟩
  · exact ⟨a.cap, hne, _, ha', .inl ⟨by simp [h0], h1, h2, rfl⟩⟩
theorem ends_turn (h : EndsIn N l) : EndsIn N (l.map turnArc) := by
  intro a ha
  obtain ⟨b, hb, rfl⟩ := List.mem_map.1 ha
  have := h b hb
  exact ⟨this.2.2.1, this.2.2.2, this.1, this.2.1⟩
theorem ok_turn (l : List ArcN) (f : List Int) (h : okB l f = true) : okB (l.map turnArc) f = true := by
  refine okB_iff.2 fun i a x ha hx => ?_
  rw [List.getElem?_map] at ha
  cases hl : l[i]? with
  | none => rw [hl] at ha; cases ha
  | some b =>
    rw [hl] at ha
    injection ha with ha
    subst ha
    rcases okB_iff.1 h i b x hl hx with h | h
    · exact .inl h.symm
    · exact .inr h
theorem capAt_turn (l : List ArcN) (i : Nat) : capAt (l.map turnArc) i = capAt l i := by
  unfold capAt
  rw [List.getElem?_map]
  cases l[i]? <;> rfl
/-- What a flow leaves of a residual arc, and of the other one of the net that is turned. -/
theorem res_turn {f X Y : List Int} {M : Nat} {x : Int} (hX : ResOf l f M X) (hY : ResOf (l.map turnArc) f M Y) (hI : Inc l i v u b c) (hx : f[i]? = some x) : ∃ z, X[posOf l i v]? = some z ∧ Y[posOf l i u]? = some z := by
  obtain ⟨c', hI'⟩ := hI.flip
  obtain ⟨c'', hI''⟩ := hI'.turn
  have h1 := hX.ent _ _ _ _ _ _ hI hx
  have h2 := hY.ent _ _ _ _ _ _ hI'' hx
  rw [pos_turn, capAt_turn] at h2
  exact ⟨_, h1, by simpa using h2⟩
end

end Go.Proofs.Ytbmndghgmndgmaa
