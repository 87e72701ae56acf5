/- NetJoins: the easy cases, and all of them. -/
import Derived.Test.YtfdidjgecdhaiaaJoins
import Derived.Deep.DeepCutAuto
namespace Go.Proofs.Ytfdidjgecdhaiaa
open Go.RowKit Go.Maps

set_option maxRecDepth 100000 in
theorem joins_many (N S T : Int) (A : Option Addr) (n c : Nat) (w : World) (hn : ¬ n ≤ 200) :
    Calls Try.prog 6 #[.agg #[.int .i64 N, .int .i64 S, .int .i64 T, .slice A n c]] w fun e w' => e = .returned (.bool true) ∧ Below w.heap.size w w' := by
  have h1' : (200 : Int) < n := by omega
  go_enter Try.func6, Try.ntmps6
  go_wp2_with fail
  refine (awake_any _).mono ?_
  rintro e w1 ⟨rfl, B1⟩
  go_wp2_with fail
  go_ret
  exact ⟨rfl, below_step (below_alloc _) B1⟩

set_option maxRecDepth 100000 in
set_option maxHeartbeats 4000000 in
theorem joins_bad (N S T : Int) (A : Option Addr) (n c : Nat) (l : List ArcN) (w : World) (hA : Arcs w w.heap.size A n l) (hn : n ≤ 200) (hc : ¬ checkF N S T l = 0) :
    Calls Try.prog 6 #[.agg #[.int .i64 N, .int .i64 S, .int .i64 T, .slice A n c]] w fun e w' => e = .returned (.bool true) ∧ Below w.heap.size w w' := by
  have hn' : ¬ (200 : Int) < n := by omega
  have hc' : (checkF N S T l != 0) = true := by simpa using hc
  go_enter Try.func6, Try.ntmps6
  go_wp2_with fail
  refine (join_bad _ _ _ _ _ _ l _ (hA.onAlloc _) (by omega) hc').mono ?_
  rintro e w1 ⟨AJ, nJ, cJ, Ap, np, cp, rfl, oJ, lJ, op, lp, B1⟩
  obtain rfl : nJ = 0 := lJ.symm
  obtain rfl : np = 0 := lp.symm
  have b0 := (hA.onAlloc _).on B1
  have K0 : Blk w1 w.heap.size 24 #[.int .i64 N, .int .i64 S, .int .i64 T, .slice A n c] := (Blk.new rfl).below B1 (by simp)
  have B01 := below_step (below_alloc _) B1
  have z1 : w.heap.size < w1.heap.size := K0.lt
  clear oJ op lp B1
  obtain ⟨p0, p1, p2, p3⟩ := K0.at4
  go_wp2_with fail
  have KJ : Blk (w1.alloc (.cells #[.int .i64 0, .int .i64 0, .int .i64 0, .slice AJ 0 cJ] 24)) w1.heap.size 24 #[.int .i64 0, .int .i64 0, .int .i64 0, .slice AJ 0 cJ] := Blk.new rfl
  generalize hcv : checkF N S T l = v at hc'
  refine (check_is _ (b0.onAlloc _) (by omega) hcv).mono ?_
  rintro e w2 ⟨rfl, B2⟩
  have KJ2 := KJ.below B2 KJ.lt
  have B02 := below_step (B01.alloc B01.size _) B2
  clear p0 p1 p2 p3 b0 K0 KJ B01 B2
  obtain ⟨p0, p1, p2, p3⟩ := KJ2.at4
  have hv0 : ¬ v = 0 := by simpa using hc'
  go_wp2_with fail
  refine (awake_any _).mono ?_
  rintro e w9 ⟨rfl, B9⟩
  go_wp2_with fail
  go_ret
  exact ⟨rfl, below_step B02 B9⟩

theorem joins_any (N S T : Int) (A : Option Addr) (n c : Nat) (l : List ArcN) (w : World) (hA : Arcs w w.heap.size A n l) (hf : FitsAll l) :
    Calls Try.prog 6 #[.agg #[.int .i64 N, .int .i64 S, .int .i64 T, .slice A n c]] w fun e w' => e = .returned (.bool true) ∧ Below w.heap.size w w' := by
  by_cases hn : n ≤ 200
  · by_cases hc : checkF N S T l = 0
    · exact joins_good N S T A n c l w hA hn hf hc
    · exact joins_bad N S T A n c l w hA hn hc
  · exact joins_many N S T A n c w hn

end Go.Proofs.Ytfdidjgecdhaiaa
