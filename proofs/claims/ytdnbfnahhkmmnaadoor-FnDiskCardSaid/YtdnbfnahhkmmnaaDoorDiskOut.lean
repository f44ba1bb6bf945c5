/- The same of what the disk's functions hand back: a disk, a text, a code. -/
import Derived.Test.YtdnbfnahhkmmnaaDoorDiskEq
namespace Go.Proofs.YtdnbfnahhkmmnaaDoor
open Go.RowKit

end Go.Proofs.YtdnbfnahhkmmnaaDoor
