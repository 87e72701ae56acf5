/- Layer 2: small functions. -/
import Derived.Test.YtbmndghgmndgmaaCells
namespace Go.Proofs.Ytbmndghgmndgmaa
open Go.RowKit

set_option maxHeartbeats 400000 in
theorem isLoop_any (a : ArcN) (w : World) :
    Calls Try.prog 33 #[.agg #[.int .i64 a.frm, .int .i64 a.to, .int .i64 a.cap]] w fun e w' => e = .returned (.bool (decide (a.frm = a.to))) ∧ Below w.heap.size w w' := by
  go_enter Try.func33, Try.ntmps33
  go_wp2
  all_goals go_ret
  all_goals refine ⟨ret_bool ?_, below_alloc _⟩
  all_goals (rw [Bool.eq_iff_iff]; simp)

set_option maxHeartbeats 400000 in
theorem isIndex_any (i n : Int) (w : World) :
    Calls Try.prog 22 #[.int .i64 i, .int .i64 n] w fun e w' => e = .returned (.bool (decide (0 ≤ i ∧ i < n))) ∧ w' = w := by
  go_enter Try.func22, Try.ntmps22
  go_wp2
  all_goals go_ret
  all_goals refine ⟨ret_bool ?_, rfl⟩
  all_goals (simp; try omega)

set_option maxHeartbeats 400000 in
theorem isCount_any (n : Int) (w : World) :
    Calls Try.prog 24 #[.int .i64 n] w fun e w' => e = .returned (.bool (decide (0 ≤ n ∧ n ≤ 16384))) ∧ Below w.heap.size w w' := by
  go_enter Try.func24, Try.ntmps24
  go_wp2
  all_goals go_ret
  all_goals refine ⟨ret_bool ?_, Below.refl _ _⟩
  all_goals (simp; try omega)

end Go.Proofs.Ytbmndghgmndgmaa
