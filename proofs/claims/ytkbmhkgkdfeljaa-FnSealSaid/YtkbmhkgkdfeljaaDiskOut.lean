/- The same of what the disk's functions hand back: a disk, a text, a code. -/
import Derived.Test.YtkbmhkgkdfeljaaDiskEq
namespace Go.Proofs.Ytkbmhkgkdfeljaa
open Go.RowKit

end Go.Proofs.Ytkbmhkgkdfeljaa
