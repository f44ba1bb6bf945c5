/- A copy of a disk, made by the laws. -/
import Derived.Test.YtckcfjibiidafaaGreatXG18Pend
namespace Go.Proofs.YtckcfjibiidafaaGreat
open Go.RowKit

theorem leads_eq {g o n c x : Nat} (h : x ∈ leads (.slice (some ⟨g, o, none⟩) n c)) : x = g := by
  cases n with
  | zero => cases h
  | succ m => exact List.mem_singleton.1 h

end Go.Proofs.YtckcfjibiidafaaGreat
/- Are two disks alike; marks put into one, and looked for again. -/
namespace Go.Proofs.YtckcfjibiidafaaGreat
open Go.RowKit

end Go.Proofs.YtckcfjibiidafaaGreat
