/- Are two disks alike; marks put into one, and looked for again. -/
import Derived.Test.YtdnbfnahhkmmnaaDoorDiskTo
namespace Go.Proofs.YtdnbfnahhkmmnaaDoor
open Go.RowKit

end Go.Proofs.YtdnbfnahhkmmnaaDoor
