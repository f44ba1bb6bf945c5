/- The same of what the disk's functions hand back: a disk, a text, a code. -/
import Derived.Test.YtenadacfpdfbkaaDiskEq
namespace Go.Proofs.Ytenadacfpdfbkaa
open Go.RowKit

end Go.Proofs.Ytenadacfpdfbkaa
