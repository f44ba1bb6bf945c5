/- Are two disks alike; marks put into one, and looked for again. -/
import Derived.Test.YthlonjfjlkoojaaDoorDiskTo
namespace Go.Proofs.YthlonjfjlkoojaaDoor
open Go.RowKit

end Go.Proofs.YthlonjfjlkoojaaDoor
