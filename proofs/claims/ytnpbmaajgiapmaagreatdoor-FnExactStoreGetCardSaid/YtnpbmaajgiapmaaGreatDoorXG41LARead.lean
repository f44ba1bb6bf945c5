/- The law of AreaRead, from what the program's AreaRead does. -/
import Derived.Test.YtnpbmaajgiapmaaGreatDoorXG23SARead2
import Derived.Test.YtnpbmaajgiapmaaGreatDoorXG17SSeen2
import Derived.Test.YtnpbmaajgiapmaaGreatDoorXG22AOut
import Derived.Deep.RegionHeld3
namespace Go.Proofs.YtnpbmaajgiapmaaGreatDoor
open Go.RowKit

end Go.Proofs.YtnpbmaajgiapmaaGreatDoor
