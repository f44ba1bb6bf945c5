/- The same of what the disk's functions hand back: a disk, a text, a code. -/
import Derived.Test.YthmkblhllbfmcabDoorDiskEq
namespace Go.Proofs.YthmkblhllbfmcabDoor
open Go.RowKit

end Go.Proofs.YthmkblhllbfmcabDoor
