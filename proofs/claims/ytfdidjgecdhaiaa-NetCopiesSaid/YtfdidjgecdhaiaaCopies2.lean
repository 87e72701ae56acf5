/- NetCopies: nets of no arcs, and of many, too. -/
import Derived.Test.YtfdidjgecdhaiaaCopies
namespace Go.Proofs.Ytfdidjgecdhaiaa
open Go.RowKit Go.Maps

set_option maxRecDepth 100000 in
set_option maxHeartbeats 1000000 in
theorem copies_any (N S T : Int) (A : Option Addr) (n c : Nat) (l : List ArcN) (at_ which : Nat) (w : World) (hA : Arcs w w.heap.size A n l) (hw8 : which ≤ 255) (hat : at_ ≤ 255) (hN : InR N) (hS : InR S) (hT : InR T) (hF : FitsAll l) :
    Calls Try.prog 7 #[.agg #[.int .i64 N, .int .i64 S, .int .i64 T, .slice A n c], .int .u8 at_, .int .u8 which] w fun e w' => e = .returned (.bool true) ∧ Below w.heap.size w w' := by
  by_cases h0 : n = 0
  · have i0 : ((n : Int) == 0) = true := by simp; omega
    go_enter Try.func7, Try.ntmps7
    go_wp2_with fail
    refine (awake_any _).mono ?_
    rintro e w1 ⟨rfl, B1⟩
    go_wp2_with fail
    go_ret
    exact ⟨rfl, below_step (below_alloc _) B1⟩
  · by_cases h1 : n ≤ 200
    · exact copies_two N S T A n c l at_ which w hA (by omega) h1 hw8 hat hN hS hT hF
    · have i0 : ((n : Int) == 0) = false := by simp; omega
      have i1 : ¬ (n : Int) ≤ 200 := by omega
      go_enter Try.func7, Try.ntmps7
      go_wp2_with fail
      refine (awake_any _).mono ?_
      rintro e w1 ⟨rfl, B1⟩
      go_wp2_with fail
      go_ret
      exact ⟨rfl, below_step (below_alloc _) B1⟩

end Go.Proofs.Ytfdidjgecdhaiaa
