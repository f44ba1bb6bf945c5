/- DiskRight, as the program does it. -/
import Derived.Test.YtnpbmaajgiapmaaGreatDoorXG27IFit
namespace Go.Proofs.YtnpbmaajgiapmaaGreatDoor
open Go.RowKit

end Go.Proofs.YtnpbmaajgiapmaaGreatDoor
