/- Are two disks alike; marks put into one, and looked for again. -/
import Derived.Test.YtholbhjfmfanbaaGreatXG16Disk
namespace Go.Proofs.YtholbhjfmfanbaaGreat
open Go.RowKit

end Go.Proofs.YtholbhjfmfanbaaGreat
/- The same of what the disk's functions hand back: a disk, a text, a code. -/
namespace Go.Proofs.YtholbhjfmfanbaaGreat
open Go.RowKit

end Go.Proofs.YtholbhjfmfanbaaGreat
