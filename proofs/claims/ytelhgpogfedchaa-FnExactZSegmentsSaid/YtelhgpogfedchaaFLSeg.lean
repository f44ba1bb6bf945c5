/- The law of SegmentRight out of the two contracts. -/
import Derived.Test.YtelhgpogfedchaaFSegR
namespace Go.Proofs.Ytelhgpogfedchaa
open Go.RowKit
end Go.Proofs.Ytelhgpogfedchaa
