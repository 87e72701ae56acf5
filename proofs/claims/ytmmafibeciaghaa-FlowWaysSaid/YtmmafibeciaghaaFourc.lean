/- The chapter's net. -/
import Derived.Test.YtmmafibeciaghaaBase
namespace Go.Proofs.Ytmmafibeciaghaa
open Go.RowKit

def fourArcs : List ArcN := [⟨0, 1, 5⟩, ⟨0, 2, 4⟩, ⟨1, 3, 3⟩, ⟨2, 3, 6⟩, ⟨1, 2, 2⟩]

set_option maxHeartbeats 400000 in
theorem four_any (w : World) : Calls Try.prog 27 #[] w (RetNet 4 0 3 fourArcs w) := by
  go_enter Try.func27, Try.ntmps27
  go_wp2
  refine bodyPost_ret (v := .agg #[.int .i64 4, .int .i64 0, .int .i64 3, .slice (some ⟨w.heap.size + 1, 0, none⟩) 5 5]) (by simp [results, Try.results27, go_sem]) rfl ⟨_, _, _, rfl, ?_, rfl, ?_⟩
  · exact own_of_block (xs := fourArcs.flatMap arcCells) (Blk.new (by simp)) (by omega) (by decide) rfl
  · exact ((Below.refl _ _).alloc (Nat.le_refl _) _).alloc (by simp) _

end Go.Proofs.Ytmmafibeciaghaa
