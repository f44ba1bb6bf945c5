/- The same of what the disk's functions hand back: a disk, a text, a code. -/
import Derived.Test.YtnkddbkfbhpinaaDiskEq
namespace Go.Proofs.Ytnkddbkfbhpinaa
open Go.RowKit

end Go.Proofs.Ytnkddbkfbhpinaa
