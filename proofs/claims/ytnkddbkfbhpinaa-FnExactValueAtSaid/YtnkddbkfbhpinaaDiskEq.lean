/- Are two disks alike; marks put into one, and looked for again. -/
import Derived.Test.YtnkddbkfbhpinaaDiskTo
namespace Go.Proofs.Ytnkddbkfbhpinaa
open Go.RowKit

end Go.Proofs.Ytnkddbkfbhpinaa
