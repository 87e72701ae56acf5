/- Lists and nets compared. -/
import Derived.Test.YtfcjmhihheeifaaNete
import Derived.Test.YtfcjmhihheeifaaLongc
import Derived.Deep.QuietTactic
import Derived.BigQuiet
import Derived.Laws.StructEq
namespace Go.Proofs.Ytfcjmhihheeifaa
open Go.RowKit

theorem arc_parts {x y : ArcN} (h : ¬ x = y) : (x.frm == y.frm) = false ∨ ((x.frm == y.frm) = true ∧ (x.to == y.to) = false) ∨ ((x.frm == y.frm) = true ∧ (x.to == y.to) = true ∧ (x.cap == y.cap) = false) := by
  obtain ⟨a, b, c⟩ := x
  obtain ⟨a', b', c'⟩ := y
  by_cases h1 : a = a'
  · by_cases h2 : b = b'
    · refine .inr (.inr ⟨by simp [h1], by simp [h2], ?_⟩)
      simp only [beq_eq_false_iff_ne, ne_eq]
      intro h3
      exact h (by rw [h1, h2, h3])
    · exact .inr (.inl ⟨by simp [h1], by simpa using h2⟩)
  · exact .inl (by simpa using h1)


/-- Are two nets the same? -/
def sameB (N S T : Int) (l : List ArcN) (N' S' T' : Int) (r : List ArcN) : Bool := decide (N = N' ∧ S = S' ∧ T = T' ∧ l = r)



end Go.Proofs.Ytfcjmhihheeifaa
