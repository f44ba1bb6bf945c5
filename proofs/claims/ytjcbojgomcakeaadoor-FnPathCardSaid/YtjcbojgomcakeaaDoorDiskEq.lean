/- Are two disks alike; marks put into one, and looked for again. -/
import Derived.Test.YtjcbojgomcakeaaDoorDiskTo
namespace Go.Proofs.YtjcbojgomcakeaaDoor
open Go.RowKit

end Go.Proofs.YtjcbojgomcakeaaDoor
