/- PutText of the program and of the model: both answer the bytes of the length with the text behind them, or the empty text. -/
import Derived.Test.YtnpbmaajgiapmaaGreatDoorXGCJoin
import Derived.Test.YtnpbmaajgiapmaaGreatDoorXGNNum
namespace Go.Proofs.YtnpbmaajgiapmaaGreatDoor.St4
open Go.RowKit St2 St1

theorem ret_str {a b : ByteArray} (h : a = b) : Ending.returned (.string a) = .returned (.string b) := by rw [h]
theorem bytesOf_size (L : List Int) : (bytesOf L).size = L.length := by simp [bytesOf, ByteArray.size]

set_option maxHeartbeats 400000 in
theorem specPutText_any (s : ByteArray) (w : World) (hs : s.size ≤ 8000) :
    Calls Tryz.prog 75 #[.string s] w fun e w' => e = .returned (.string (bytesOf (enc (s.size : Int)) ++ s)) ∧ Below w.heap.size w w' := by
  go_enter Tryz.func75, Tryz.ntmps75
  go_wp2_with fail
  refine (specPutNum_any _ _ (by omega) (by omega)).mono ?_
  rintro e w1 ⟨rfl, hb1⟩
  obtain ⟨b, HB⟩ : ∃ b, Hid (b = bytesOf (enc (s.size : Int))) := ⟨_, rfl⟩
  have hf : b.size ≤ 10 := by rw [HB.out, bytesOf_size]; exact enc_len _
  rw [← HB.out]
  go_wp2
  go_ret
  exact ⟨ret_str (by rw [HB.out]), hb1⟩

set_option maxHeartbeats 400000 in
theorem specPutText_not (s : ByteArray) (w : World) (hm : s.size ≤ maxLen) (hs : 8000 < s.size) :
    Calls Tryz.prog 75 #[.string s] w fun e w' => e = .returned (.string ⟨#[]⟩) ∧ w' = w := by
  unfold maxLen at hm
  go_enter Tryz.func75, Tryz.ntmps75
  go_wp2
  go_ret
  exact ⟨rfl, rfl⟩

set_option maxHeartbeats 400000 in
theorem implPutText_any (s : ByteArray) (w : World) (hs : s.size ≤ 8000) :
    Calls Tryz.prog 109 #[.string s] w fun e w' => e = .returned (.string (bytesOf (enc (s.size : Int)) ++ s)) ∧ Below w.heap.size w w' := by
  go_enter Tryz.func109, Tryz.ntmps109
  go_wp2_with fail
  refine (implPutNum_any _ _ (by omega) (by omega)).mono ?_
  rintro e w1 ⟨rfl, hb1⟩
  obtain ⟨b, HB⟩ : ∃ b, Hid (b = bytesOf (enc (s.size : Int))) := ⟨_, rfl⟩
  have hf : b.size ≤ 10 := by rw [HB.out, bytesOf_size]; exact enc_len _
  rw [← HB.out]
  go_wp2_with fail
  refine (joinTexts_any _ s _ (by omega) (by omega)).mono ?_
  rintro e w2 ⟨rfl, hb2⟩
  go_wp2
  go_ret
  exact ⟨ret_str (by rw [HB.out]), hb1.trans (hb2.mono hb1.size)⟩

set_option maxHeartbeats 400000 in
theorem implPutText_not (s : ByteArray) (w : World) (hm : s.size ≤ maxLen) (hs : 8000 < s.size) :
    Calls Tryz.prog 109 #[.string s] w fun e w' => e = .returned (.string ⟨#[]⟩) ∧ w' = w := by
  unfold maxLen at hm
  go_enter Tryz.func109, Tryz.ntmps109
  go_wp2
  go_ret
  exact ⟨rfl, rfl⟩
end Go.Proofs.YtnpbmaajgiapmaaGreatDoor.St4
