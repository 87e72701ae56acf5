/- NetFirst: nets of many arcs too. -/
import Derived.Test.YtfdidjgecdhaiaaFirst
namespace Go.Proofs.Ytfdidjgecdhaiaa
open Go.RowKit Go.Maps

set_option maxRecDepth 100000 in
set_option maxHeartbeats 1000000 in
theorem first_any (N S T : Int) (A : Option Addr) (n c : Nat) (l : List ArcN) (w : World) (hA : Arcs w w.heap.size A n l) (hf : FitsAll l) (hN : InR N) :
    Calls Try.prog 3 #[.agg #[.int .i64 N, .int .i64 S, .int .i64 T, .slice A n c]] w fun e w' => e = .returned (.bool true) ∧ Below w.heap.size w w' := by
  by_cases hn : n ≤ 300
  · exact first_walk N S T A n c l w hA hn hf hN
  · have hn' : ¬ (n : Int) ≤ 300 := by omega
    go_enter Try.func3, Try.ntmps3
    go_wp2_with fail
    refine (awake_any _).mono ?_
    rintro e w1 ⟨rfl, B1⟩
    go_wp2_with fail
    go_ret
    exact ⟨rfl, below_step (below_alloc _) B1⟩

end Go.Proofs.Ytfdidjgecdhaiaa
