/- A copy of a disk, made by the laws. -/
import Derived.Test.YtcnndiomljjmnaaDoorDisk
namespace Go.Proofs.YtcnndiomljjmnaaDoor
open Go.RowKit

theorem leads_eq {g o n c x : Nat} (h : x ∈ leads (.slice (some ⟨g, o, none⟩) n c)) : x = g := by
  cases n with
  | zero => cases h
  | succ m => exact List.mem_singleton.1 h

end Go.Proofs.YtcnndiomljjmnaaDoor
