/- Are two disks alike; marks put into one, and looked for again. -/
import Derived.Test.YtcnndiomljjmnaaDoorDiskTo
namespace Go.Proofs.YtcnndiomljjmnaaDoor
open Go.RowKit

end Go.Proofs.YtcnndiomljjmnaaDoor
