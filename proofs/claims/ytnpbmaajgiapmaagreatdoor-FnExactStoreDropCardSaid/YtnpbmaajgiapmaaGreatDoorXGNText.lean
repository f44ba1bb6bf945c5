/- GetText of the program. -/
import Derived.Test.YtnpbmaajgiapmaaGreatDoorXGGRead
import Derived.Test.YtnpbmaajgiapmaaGreatDoorXGNPutT
import Derived.RegionTactic
namespace Go.Proofs.YtnpbmaajgiapmaaGreatDoor.St4
open Go.RowKit St1 St3

theorem append_nothing (a : ByteArray) : a ++ (⟨#[]⟩ : ByteArray) = a := by
  apply ByteArray.ext
  simp

set_option maxHeartbeats 1000000 in
theorem readText_fault (s : ByteArray) (a : Nat) (c : Int) (w : World) (hs : s.size ≤ 8000) (ha : (a : Int) ≤ 9223372036854775807) (hc : c = 3 ∨ c = 4) (HR : Hid (scan s a 10 0 0 = (0, 0, c))) :
    Calls Tryz.prog 142 #[.string s, .int .i64 (a : Int)] w fun e w' => e = .returned (.tuple #[.string ⟨#[]⟩, .int .i64 0, .iface 183 (.agg #[.int .i64 c])]) ∧ w' = w := by
  have ht : tup (0, 0, c) = .tuple #[.int .i64 0, .int .i64 0, .iface 183 (.agg #[.int .i64 c])] := if_neg (show ¬ c = 0 by omega)
  have HT := hide ht
  clear ht hc
  go_enter Tryz.func142, Tryz.ntmps142
  go_wp2_with fail
  refine (readNum_any s a (0, 0, c) _ hs ha HR).mono ?_
  rintro e w1 ⟨rfl, rfl⟩
  rw [HT.out]
  go_wp2
  go_ret3
  exact ⟨rfl, rfl⟩

set_option maxHeartbeats 1000000 in
theorem readText_long (s : ByteArray) (a : Nat) (n p : Int) (w : World) (hs : s.size ≤ 8000) (ha : (a : Int) ≤ 9223372036854775807) (hn : n < 0 ∨ (0 ≤ n ∧ 8000 < n)) (HR : Hid (scan s a 10 0 0 = (n, p, 0))) :
    Calls Tryz.prog 142 #[.string s, .int .i64 (a : Int)] w fun e w' => e = .returned (.tuple #[.string ⟨#[]⟩, .int .i64 0, .iface 183 (.agg #[.int .i64 3])]) ∧ w' = w := by
  have ht : tup (n, p, 0) = .tuple #[.int .i64 n, .int .i64 p, .nilIface] := rfl
  have HT := hide ht
  clear ht
  rcases hn with hn | ⟨hn, hn'⟩
  all_goals
    go_enter Tryz.func142, Tryz.ntmps142
    go_wp2_with fail
    refine (readNum_any s a (n, p, 0) _ hs ha HR).mono ?_
    rintro e w1 ⟨rfl, rfl⟩
    rw [HT.out]
    go_wp2
    go_ret3
    exact ⟨rfl, rfl⟩

set_option maxHeartbeats 1000000 in
theorem readText_short (s : ByteArray) (a : Nat) (n p : Int) (w : World) (hs : s.size ≤ 8000) (ha : (a : Int) ≤ 9223372036854775807) (hn : 0 ≤ n) (hn' : n ≤ 8000) (hp1 : p ≤ (s.size : Int)) (hp : (s.size : Int) - p < n) (HR : Hid (scan s a 10 0 0 = (n, p, 0))) :
    Calls Tryz.prog 142 #[.string s, .int .i64 (a : Int)] w fun e w' => e = .returned (.tuple #[.string ⟨#[]⟩, .int .i64 0, .iface 183 (.agg #[.int .i64 4])]) ∧ w' = w := by
  have ht : tup (n, p, 0) = .tuple #[.int .i64 n, .int .i64 p, .nilIface] := rfl
  have HT := hide ht
  clear ht
  go_enter Tryz.func142, Tryz.ntmps142
  go_wp2_with fail
  refine (readNum_any s a (n, p, 0) _ hs ha HR).mono ?_
  rintro e w1 ⟨rfl, rfl⟩
  rw [HT.out]
  go_wp2
  go_ret3
  exact ⟨rfl, rfl⟩

set_option maxHeartbeats 1000000 in
theorem readText_ok (s : ByteArray) (a n p : Nat) (w : World) (hs : s.size ≤ 8000) (ha : (a : Int) ≤ 9223372036854775807) (hn' : n ≤ 8000) (hp : p + n ≤ s.size) (HR : Hid (scan s a 10 0 0 = ((n : Int), (p : Int), 0))) :
    Calls Tryz.prog 142 #[.string s, .int .i64 (a : Int)] w fun e w' => e = .returned (.tuple #[.string (s.extract p (p + n)), .int .i64 ((p : Int) + n), .nilIface]) ∧ Below w.heap.size w w' := by
  have ht : tup ((n : Int), (p : Int), 0) = .tuple #[.int .i64 n, .int .i64 p, .nilIface] := rfl
  have HT := hide ht
  have hx : (s.extract p (p + n)).size ≤ 8000 := by simp; omega
  clear ht
  go_enter Tryz.func142, Tryz.ntmps142
  go_wp2_with fail
  refine (readNum_any s a ((n : Int), (p : Int), 0) _ hs ha HR).mono ?_
  rintro e w1 ⟨rfl, rfl⟩
  rw [HT.out]
  have e2 : ((p : Int) + (n : Int)).toNat = p + n := by omega
  have e3 : (0 : Int) ≤ (p : Int) + (n : Int) := by omega
  have e4 : (p : Int) + (n : Int) ≤ (s.size : Int) := by omega
  have e5 : (p : Int) ≤ (p : Int) + (n : Int) := by omega
  go_wp2_with fail
  refine (joinTexts_any (s.extract p (p + n)) ⟨#[]⟩ _ (by omega) (by decide)).mono ?_
  rintro e w2 ⟨rfl, hb2⟩
  rw [append_nothing]
  go_wp2
  go_ret3
  exact ⟨rfl, hb2⟩

set_option maxHeartbeats 400000 in
theorem implGetText_size (s : ByteArray) (a : Int) (w : World) (hm : s.size ≤ maxLen) (hs : 8000 < s.size) :
    Calls Tryz.prog 117 #[.string s, .int .i64 a] w fun e w' => e = .returned (.agg #[.string ⟨#[]⟩, .int .i64 0, .int .i64 2]) ∧ Below w.heap.size w w' := by
  go_enter Tryz.func117, Tryz.ntmps117
  go_wp2_with fail
  refine (place_size _ _ _ hm hs).mono ?_
  rintro e w1 ⟨rfl, rfl⟩
  go_wp2
  exact bodyPost_ret (v := .agg #[.string ⟨#[]⟩, .int .i64 0, .int .i64 2]) (by simp [results, Tryz.results117, go_sem]) rfl ⟨rfl, (Below.refl _ _).alloc (Nat.le_refl _) _⟩
set_option maxHeartbeats 400000 in
theorem implGetText_form (s : ByteArray) (a : Int) (w : World) (hs : s.size ≤ 8000) (ha : a < 0) :
    Calls Tryz.prog 117 #[.string s, .int .i64 a] w fun e w' => e = .returned (.agg #[.string ⟨#[]⟩, .int .i64 0, .int .i64 1]) ∧ Below w.heap.size w w' := by
  go_enter Tryz.func117, Tryz.ntmps117
  go_wp2_with fail
  refine (place_form _ _ _ hs ha).mono ?_
  rintro e w1 ⟨rfl, rfl⟩
  go_wp2
  exact bodyPost_ret (v := .agg #[.string ⟨#[]⟩, .int .i64 0, .int .i64 1]) (by simp [results, Tryz.results117, go_sem]) rfl ⟨rfl, (Below.refl _ _).alloc (Nat.le_refl _) _⟩

set_option maxHeartbeats 1000000 in
theorem implGetText_no (s : ByteArray) (a : Nat) (c : Int) (w : World) (hs : s.size ≤ 8000) (hg : Laid w)
    (h14 : ∀ w, Calls Tryz.prog 142 #[.string s, .int .i64 (a : Int)] w fun e w' => e = .returned (.tuple #[.string ⟨#[]⟩, .int .i64 0, .iface 183 (.agg #[.int .i64 c])]) ∧ w' = w) :
    Calls Tryz.prog 117 #[.string s, .int .i64 (a : Int)] w fun e w' => e = .returned (.agg #[.string ⟨#[]⟩, .int .i64 0, .int .i64 c]) ∧ Below w.heap.size w w' := by
  have HG := hide (laid_alloc hg (.cells #[.string ⟨#[]⟩, .int .i64 0, .int .i64 0] 89))
  have H14 := hide h14
  clear hg h14
  go_enter Tryz.func117, Tryz.ntmps117
  go_wp2_with fail
  refine (place_ok _ _ _ hs (by omega)).mono ?_
  rintro e w1 ⟨rfl, rfl⟩
  go_wp2_with fail
  refine (H14.out _).mono ?_
  rintro e w1 ⟨rfl, rfl⟩
  go_wp2_with fail
  refine (bytesCode_fault c _ HG.out).mono ?_
  rintro e w1 ⟨rfl, hb1⟩
  have HB1 := hide hb1
  obtain ⟨hc1, hf1⟩ := bcell hb1
  clear hb1
  obtain ⟨c0, c1, c2⟩ := St3.out_cells _ _ _ _ HB1.out
  obtain ⟨q0, q1, q2⟩ := St3.three c0 c1 c2 (.string ⟨#[]⟩) (.int .i64 0) (.int .i64 c)
  clear c0 c1 c2
  go_wp2
  exact bodyPost_ret (v := .agg #[.string ⟨#[]⟩, .int .i64 0, .int .i64 c]) (by simp [results, Tryz.results117, go_sem, q0, q1, q2]) rfl ⟨rfl, St3.three_below HB1.out _ _ _⟩

set_option maxHeartbeats 1000000 in
theorem implGetText_ok (s : ByteArray) (a : Nat) (t : ByteArray) (p : Int) (w : World) (hs : s.size ≤ 8000)
    (h14 : ∀ w, Calls Tryz.prog 142 #[.string s, .int .i64 (a : Int)] w fun e w' => e = .returned (.tuple #[.string t, .int .i64 p, .nilIface]) ∧ Below w.heap.size w w') :
    Calls Tryz.prog 117 #[.string s, .int .i64 (a : Int)] w fun e w' => e = .returned (.agg #[.string t, .int .i64 p, .int .i64 0]) ∧ Below w.heap.size w w' := by
  have H14 := hide h14
  clear h14
  go_enter Tryz.func117, Tryz.ntmps117
  go_wp2_with fail
  refine (place_ok _ _ _ hs (by omega)).mono ?_
  rintro e w1 ⟨rfl, rfl⟩
  go_wp2_with fail
  refine (H14.out _).mono ?_
  rintro e w1 ⟨rfl, hb1⟩
  have HB1 := hide hb1
  clear hb1
  go_wp2_with fail
  refine (bytesCode_nil _).mono ?_
  rintro e w2 ⟨rfl, hb2⟩
  have HB2 := hide (HB1.out.trans (hb2.mono HB1.out.size))
  clear hb2
  obtain ⟨hc1, hf1⟩ := bcell HB2.out
  obtain ⟨c0, c1, c2⟩ := St3.out_cells _ _ _ _ HB2.out
  obtain ⟨q0, q1, q2⟩ := St3.three c0 c1 c2 (.string t) (.int .i64 p) (.int .i64 0)
  clear c0 c1 c2
  go_wp2
  exact bodyPost_ret (v := .agg #[.string t, .int .i64 p, .int .i64 0]) (by simp [results, Tryz.results117, go_sem, q0, q1, q2]) rfl ⟨rfl, St3.three_below HB2.out _ _ _⟩

end Go.Proofs.YtnpbmaajgiapmaaGreatDoor.St4
