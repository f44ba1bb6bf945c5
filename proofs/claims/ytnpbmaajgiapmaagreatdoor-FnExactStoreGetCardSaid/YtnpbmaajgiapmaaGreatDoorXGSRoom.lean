/- The specification's AreaRoom: 64 times the half of a right disk's sectors, 0 of another disk. -/
import Derived.Test.YtnpbmaajgiapmaaGreatDoorXGSCopy
import Derived.Test.YtnpbmaajgiapmaaGreatDoorXGSArea
namespace Go.Proofs.YtnpbmaajgiapmaaGreatDoor
open Go.RowKit

def room (xs : List ByteArray) (ps : List (Int × ByteArray)) : Int := if right xs ps = true then 64 * half xs.length else 0
theorem right_ge {xs : List ByteArray} {ps : List (Int × ByteArray)} (h : right xs ps = true) : 1 ≤ xs.length ∧ xs.length ≤ 64 := by
  unfold right at h
  simp only [Bool.and_eq_true, decide_eq_true_eq] at h
  omega

end Go.Proofs.YtnpbmaajgiapmaaGreatDoor
