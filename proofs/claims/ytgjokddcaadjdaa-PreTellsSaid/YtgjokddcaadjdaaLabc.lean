/- Layer 6: heights: chosen of numbers, Right, fit. -/
import Derived.Test.YtgjokddcaadjdaaLab
namespace Go.Proofs.Ytgjokddcaadjdaa
open Go.RowKit
set_option maxRecDepth 100000





end Go.Proofs.Ytgjokddcaadjdaa
