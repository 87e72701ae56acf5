/- Layer 5: To, From. -/
import Derived.Test.YtgjokddcaadjdaaSearch
namespace Go.Proofs.Ytgjokddcaadjdaa
open Go.RowKit
set_option maxRecDepth 100000

/-- Is something left of residual arc a? -/
def opn (X : List Int) (a : Nat) : Bool := decide (0 < (X[a]?).getD 0)
theorem opn_at {X : List Int} {a : Nat} {x : Int} (h : X[a]? = some x) : opn X a = decide (0 < x) := by simp [opn, h]





end Go.Proofs.Ytgjokddcaadjdaa
