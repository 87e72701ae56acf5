/- Layer 1: the chapter's net, and more arcs. -/
import Derived.Test.YtfcjmhihheeifaaNetf
import Derived.Test.YtfcjmhihheeifaaFour
namespace Go.Proofs.Ytfcjmhihheeifaa
open Go.RowKit


end Go.Proofs.Ytfcjmhihheeifaa
