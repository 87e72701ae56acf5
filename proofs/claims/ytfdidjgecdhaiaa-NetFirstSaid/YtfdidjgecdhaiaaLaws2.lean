/- More laws: a list turned element by element. -/
import Derived.Test.YtfdidjgecdhaiaaLaws
namespace Go.Proofs.Ytfdidjgecdhaiaa
open Go.RowKit

theorem mapTo_get {α : Type} (f : α → α) {l : List α} {k : Nat} (hk : k < l.length) : (mapTo f l k)[k]? = l[k]? := by
  unfold mapTo
  rw [List.getElem?_append_right (by simp; omega)]
  simp [Nat.min_eq_left (Nat.le_of_lt hk)]
theorem arcs_setEnds : ∀ (L : List ArcN) (k : Nat) (b : ArcN) (x y : Int), L[k]? = some b → ((L.flatMap arcCells).set (k * 3) (.int .i64 x)).set (k * 3 + 1) (.int .i64 y) = (L.set k ⟨x, y, b.cap⟩).flatMap arcCells
  | [], k, b, x, y, h => by simp at h
  | a :: r, 0, b, x, y, h => by simp at h; subst h; simp [arcCells]
  | a :: r, k + 1, b, x, y, h => by
    have ih := arcs_setEnds r k b x y (by simpa using h)
    simp only [List.set_cons_succ, List.flatMap_cons, ← ih]
    rw [show (k + 1) * 3 = (arcCells a).length + k * 3 from by simp [arcCells]; omega, Nat.add_assoc, set_app, set_app]
theorem own_setEnds {w : World} {base e g cap n : Nat} {L : List ArcN} {k : Nat} {b : ArcN} (h : w.ownsRow base e 3 (.slice (some ⟨g, 0, none⟩) n cap) n (L.flatMap arcCells)) (hk : L[k]? = some b) (x y : Int) :
    ((w.setCell ⟨g, k * 3, none⟩ (.int .i64 x)).setCell ⟨g, k * 3 + 1, none⟩ (.int .i64 y)).ownsRow base e 3 (.slice (some ⟨g, 0, none⟩) n cap) n ((L.set k ⟨x, y, b.cap⟩).flatMap arcCells) := by
  rw [← arcs_setEnds L k b x y hk]
  exact ((h.stored _ _).1.stored _ _).1
theorem own_setEnds' {w : World} {base e g cap n : Nat} {L : List ArcN} {k : Nat} {b : ArcN} (h : w.ownsRow base e 3 (.slice (some ⟨g, 0, none⟩) n cap) n (L.flatMap arcCells)) (hk : L[k]? = some b) (x y : Int) :
    ((w.setCell ⟨g, k * 3 + 1, none⟩ (.int .i64 y)).setCell ⟨g, k * 3, none⟩ (.int .i64 x)).ownsRow base e 3 (.slice (some ⟨g, 0, none⟩) n cap) n ((L.set k ⟨x, y, b.cap⟩).flatMap arcCells) := by
  rw [← arcs_setEnds L k b x y hk, List.set_comm _ _ (by omega)]
  exact ((h.stored _ _).1.stored _ _).1

end Go.Proofs.Ytfdidjgecdhaiaa
