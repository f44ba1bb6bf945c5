/- The same of what the disk's functions hand back: a disk, a text, a code. -/
import Derived.Test.YtjcbojgomcakeaaDoorDiskEq
namespace Go.Proofs.YtjcbojgomcakeaaDoor
open Go.RowKit

end Go.Proofs.YtjcbojgomcakeaaDoor
