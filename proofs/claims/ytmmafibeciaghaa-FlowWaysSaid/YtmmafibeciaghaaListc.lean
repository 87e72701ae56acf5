/- Lists compared: plain facts. -/
import Derived.Test.YtmmafibeciaghaaBase
import Derived.Deep.QuietTactic
import Derived.BigQuiet
import Derived.Laws.StructEq
namespace Go.Proofs.Ytmmafibeciaghaa
open Go.RowKit

theorem eq_take_snoc {α : Type} {l m : List α} {k : Nat} {a : α} (h1 : l[k]? = some a) (h2 : m[k]? = some a) (h : l.take k = m.take k) : l.take (k + 1) = m.take (k + 1) := by
  rw [take_at h1, take_at h2, h]
theorem eq_take_end {α : Type} {l m : List α} {k n : Nat} (h1 : l.length = n) (h2 : m.length = n) (hk : ¬ k < n) (h : l.take k = m.take k) : l = m := by
  rwa [List.take_of_length_le (by omega), List.take_of_length_le (by omega)] at h
theorem ne_at {α : Type} {l m : List α} {k : Nat} {a b : α} (h1 : l[k]? = some a) (h2 : m[k]? = some b) (h : a ≠ b) : l ≠ m := by
  rintro rfl
  rw [h1] at h2
  injection h2 with h2
  exact h h2
theorem ne_len {α : Type} {l m : List α} {n k : Nat} (h1 : l.length = n) (h2 : m.length = k) (h : n ≠ k) : l ≠ m := by
  rintro rfl
  exact h (h1.symm.trans h2)

end Go.Proofs.Ytmmafibeciaghaa
