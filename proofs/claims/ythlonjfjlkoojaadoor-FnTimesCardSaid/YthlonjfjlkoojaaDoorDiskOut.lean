/- The same of what the disk's functions hand back: a disk, a text, a code. -/
import Derived.Test.YthlonjfjlkoojaaDoorDiskEq
namespace Go.Proofs.YthlonjfjlkoojaaDoor
open Go.RowKit

end Go.Proofs.YthlonjfjlkoojaaDoor
