/- Are two disks alike; marks put into one, and looked for again. -/
import Derived.Test.YtkbmhkgkdfeljaaDiskTo
namespace Go.Proofs.Ytkbmhkgkdfeljaa
open Go.RowKit

end Go.Proofs.Ytkbmhkgkdfeljaa
