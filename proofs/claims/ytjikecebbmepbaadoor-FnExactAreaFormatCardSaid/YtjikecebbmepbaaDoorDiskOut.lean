/- The same of what the disk's functions hand back: a disk, a text, a code. -/
import Derived.Test.YtjikecebbmepbaaDoorDiskEq
namespace Go.Proofs.YtjikecebbmepbaaDoor
open Go.RowKit

end Go.Proofs.YtjikecebbmepbaaDoor
