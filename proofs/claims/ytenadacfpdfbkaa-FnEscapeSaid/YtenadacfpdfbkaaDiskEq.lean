/- Are two disks alike; marks put into one, and looked for again. -/
import Derived.Test.YtenadacfpdfbkaaDiskTo
namespace Go.Proofs.Ytenadacfpdfbkaa
open Go.RowKit

end Go.Proofs.Ytenadacfpdfbkaa
