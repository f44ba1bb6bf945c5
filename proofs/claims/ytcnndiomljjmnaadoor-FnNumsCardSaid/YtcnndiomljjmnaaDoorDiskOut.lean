/- The same of what the disk's functions hand back: a disk, a text, a code. -/
import Derived.Test.YtcnndiomljjmnaaDoorDiskEq
namespace Go.Proofs.YtcnndiomljjmnaaDoor
open Go.RowKit

end Go.Proofs.YtcnndiomljjmnaaDoor
