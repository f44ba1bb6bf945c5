/- The same of what the disk's functions hand back: a disk, a text, a code. -/
import Derived.Test.YthmkblhllbfmcaaDiskEq
namespace Go.Proofs.Ythmkblhllbfmcaa
open Go.RowKit

end Go.Proofs.Ythmkblhllbfmcaa
