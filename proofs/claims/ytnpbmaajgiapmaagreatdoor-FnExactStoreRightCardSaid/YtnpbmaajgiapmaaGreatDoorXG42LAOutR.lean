/- The law of AreaRead from the program's contracts. -/
import Derived.Test.YtnpbmaajgiapmaaGreatDoorXG41LARead
import Derived.Test.YtnpbmaajgiapmaaGreatDoorXG37IRArea
namespace Go.Proofs.YtnpbmaajgiapmaaGreatDoor
open Go.RowKit

theorem areaOut_len {xs : List ByteArray} {ps : List (Int × ByteArray)} (h : Small xs ps) : (areaOut xs ps).xs.length ≤ 1048576 ∧ (areaOut xs ps).ps.length ≤ 1048576 := by
  unfold areaOut
  split
  · exact ⟨by simp [aill], by simp [aill]⟩
  · split
    · exact ⟨by simp [aill], by simp [aill]⟩
    · split
      · exact ⟨h.1, h.2.2.1⟩
      · exact ⟨by simp [aill], by simp [aill]⟩
end Go.Proofs.YtnpbmaajgiapmaaGreatDoor
