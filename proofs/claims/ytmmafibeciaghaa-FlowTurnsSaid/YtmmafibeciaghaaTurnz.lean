/- Plain facts: a net that is turned. -/
import Derived.Test.YtmmafibeciaghaaPlain
namespace Go.Proofs.Ytmmafibeciaghaa

theorem turn_turn (l : List ArcN) : (l.map turnArc).map turnArc = l := by
  rw [List.map_map]
  exact List.map_id'' (fun _ => rfl) l
theorem turn_inj {l r : List ArcN} (h : l.map turnArc = r.map turnArc) : l = r := by
  have := congrArg (List.map turnArc) h
  rwa [turn_turn, turn_turn] at this
theorem isVert_and (N S T : Int) : endsB N T S = endsB N S T := by
  simp only [endsB]
  cases isVertB N S <;> cases isVertB N T <;> simp [eq_comm]
theorem between_turn (N : Int) (l : List ArcN) : betweenB N (l.map turnArc) = betweenB N l := by
  unfold betweenB
  rw [List.all_map]
  congr 1
  funext a
  simp [turnArc, Bool.and_comm]
theorem caps_turn (l : List ArcN) : capsB (l.map turnArc) = capsB l := by
  unfold capsB
  rw [List.all_map]
  rfl
theorem sumFrom_turn (s : Int) (l : List ArcN) : sumFrom s (l.map turnArc) = sumFrom s l := by
  induction l generalizing s with
  | nil => rfl
  | cons a r ih => simp [sumFrom, turnArc, ih]
theorem sumV_turn (l : List ArcN) : sumV (l.map turnArc) = sumV l := by simp [sumV, sumOf, sumFrom_turn]
theorem sumB_turn (l : List ArcN) : sumB (l.map turnArc) = sumB l := by simp [sumB, sumOf, sumFrom_turn]
theorem check_turn (N S T : Int) (l : List ArcN) : checkF N T S (l.map turnArc) = checkF N S T l := by
  unfold checkF
  rw [isVert_and N S T, between_turn, caps_turn, sumB_turn, List.length_map]
end Go.Proofs.Ytmmafibeciaghaa
