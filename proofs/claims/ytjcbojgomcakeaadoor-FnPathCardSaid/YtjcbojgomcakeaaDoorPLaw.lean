/- The law of PathRight out of the two contracts. -/
import Derived.Test.YtjcbojgomcakeaaDoorPRight
namespace Go.Proofs.YtjcbojgomcakeaaDoor
open Go.RowKit
end Go.Proofs.YtjcbojgomcakeaaDoor
