/- The statements' own helpers: Among. -/
import Derived.Test.YtmmafibeciaghaaBase
namespace Go.Proofs.Ytmmafibeciaghaa
open Go.RowKit

theorem tmod_mod {x n : Int} (hn : 0 < n) : x.tmod n % n = x % n := by
  rw [Int.tmod_eq_emod]
  split
  · rw [Int.natCast_zero, Int.sub_zero, Int.emod_emod]
  · have hn' : (n.natAbs : Int) = n := by omega
    rw [hn', Int.sub_emod_right, Int.emod_emod]

set_option maxHeartbeats 400000 in
theorem among_any (x n : Int) (w : World) (hn : 0 < n) (hn' : n ≤ 1000000) :
    Calls Try.prog 22 #[.int .i64 x, .int .i64 n] w fun e w' => e = .returned (.int .i64 (x % n)) ∧ w' = w := by
  have h0 : ¬ n < 1 := by omega
  have h1 : ¬ n = 0 := by omega
  have h2 := Int.lt_tmod_of_pos x hn
  have h3 := Int.tmod_lt_of_pos x hn
  go_enter Try.func22, Try.ntmps22
  go_wp2
  go_ret
  exact ⟨ret_i64 (tmod_mod hn), rfl⟩

end Go.Proofs.Ytmmafibeciaghaa
