/- The law of MessageRight out of the two contracts. -/
import Derived.Test.YtnkddbkfbhpinaaFMsgR
namespace Go.Proofs.Ytnkddbkfbhpinaa
open Go.RowKit
end Go.Proofs.Ytnkddbkfbhpinaa
