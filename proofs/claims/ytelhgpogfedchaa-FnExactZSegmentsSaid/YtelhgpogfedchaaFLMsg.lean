/- The law of MessageRight out of the two contracts. -/
import Derived.Test.YtelhgpogfedchaaFMsgR
namespace Go.Proofs.Ytelhgpogfedchaa
open Go.RowKit
end Go.Proofs.Ytelhgpogfedchaa
