/- PutText of the program and of the model: both answer the bytes of the length with the text behind them, or the empty text. -/
import Derived.Test.YtnpbmaajgiapmaaGreatDoorXG0Mem
import Derived.Test.YtnpbmaajgiapmaaGreatDoorXG2NNum
import Derived.Test.YtnpbmaajgiapmaaGreatDoorXG4GJump
import Derived.RegionTactic
import Derived.Test.YtnpbmaajgiapmaaGreatDoorXG3GScan
namespace Go.Proofs.YtnpbmaajgiapmaaGreatDoor.St4
open Go.RowKit St2 St1

theorem ret_str {a b : ByteArray} (h : a = b) : Ending.returned (.string a) = .returned (.string b) := by rw [h]
theorem bytesOf_size (L : List Int) : (bytesOf L).size = L.length := by simp [bytesOf, ByteArray.size]

set_option maxHeartbeats 400000 in
theorem specPutText_any (s : ByteArray) (w : World) (hs : s.size ≤ 8000) :
    Calls Tryz.prog 75 #[.string s] w fun e w' => e = .returned (.string (bytesOf (enc (s.size : Int)) ++ s)) ∧ Below w.heap.size w w' := by
  go_enter Tryz.func75, Tryz.ntmps75
  go_wp2_with fail
  refine (specPutNum_any _ _ (by omega) (by omega)).mono ?_
  rintro e w1 ⟨rfl, hb1⟩
  obtain ⟨b, HB⟩ : ∃ b, Hid (b = bytesOf (enc (s.size : Int))) := ⟨_, rfl⟩
  have hf : b.size ≤ 10 := by rw [HB.out, bytesOf_size]; exact enc_len _
  rw [← HB.out]
  go_wp2
  go_ret
  exact ⟨ret_str (by rw [HB.out]), hb1⟩

set_option maxHeartbeats 400000 in
theorem specPutText_not (s : ByteArray) (w : World) (hm : s.size ≤ maxLen) (hs : 8000 < s.size) :
    Calls Tryz.prog 75 #[.string s] w fun e w' => e = .returned (.string ⟨#[]⟩) ∧ w' = w := by
  unfold maxLen at hm
  go_enter Tryz.func75, Tryz.ntmps75
  go_wp2
  go_ret
  exact ⟨rfl, rfl⟩

set_option maxHeartbeats 400000 in
theorem implPutText_any (s : ByteArray) (w : World) (hs : s.size ≤ 8000) :
    Calls Tryz.prog 109 #[.string s] w fun e w' => e = .returned (.string (bytesOf (enc (s.size : Int)) ++ s)) ∧ Below w.heap.size w w' := by
  go_enter Tryz.func109, Tryz.ntmps109
  go_wp2_with fail
  refine (implPutNum_any _ _ (by omega) (by omega)).mono ?_
  rintro e w1 ⟨rfl, hb1⟩
  obtain ⟨b, HB⟩ : ∃ b, Hid (b = bytesOf (enc (s.size : Int))) := ⟨_, rfl⟩
  have hf : b.size ≤ 10 := by rw [HB.out, bytesOf_size]; exact enc_len _
  rw [← HB.out]
  go_wp2_with fail
  refine (joinTexts_any _ s _ (by omega) (by omega)).mono ?_
  rintro e w2 ⟨rfl, hb2⟩
  go_wp2
  go_ret
  exact ⟨ret_str (by rw [HB.out]), hb1.trans (hb2.mono hb1.size)⟩

set_option maxHeartbeats 400000 in
theorem implPutText_not (s : ByteArray) (w : World) (hm : s.size ≤ maxLen) (hs : 8000 < s.size) :
    Calls Tryz.prog 109 #[.string s] w fun e w' => e = .returned (.string ⟨#[]⟩) ∧ w' = w := by
  unfold maxLen at hm
  go_enter Tryz.func109, Tryz.ntmps109
  go_wp2
  go_ret
  exact ⟨rfl, rfl⟩
end Go.Proofs.YtnpbmaajgiapmaaGreatDoor.St4
/- GetText of the program. -/
namespace Go.Proofs.YtnpbmaajgiapmaaGreatDoor.St4
open Go.RowKit St1 St3

theorem append_nothing (a : ByteArray) : a ++ (⟨#[]⟩ : ByteArray) = a := by
  apply ByteArray.ext
  simp

set_option maxHeartbeats 1000000 in
theorem readText_fault (s : ByteArray) (a : Nat) (c : Int) (w : World) (hs : s.size ≤ 8000) (ha : (a : Int) ≤ 9223372036854775807) (hc : c = 3 ∨ c = 4) (HR : Hid (scan s a 10 0 0 = (0, 0, c))) :
    Calls Tryz.prog 142 #[.string s, .int .i64 (a : Int)] w fun e w' => e = .returned (.tuple #[.string ⟨#[]⟩, .int .i64 0, .iface 183 (.agg #[.int .i64 c])]) ∧ w' = w := by
  have ht : tup (0, 0, c) = .tuple #[.int .i64 0, .int .i64 0, .iface 183 (.agg #[.int .i64 c])] := if_neg (show ¬ c = 0 by omega)
  have HT := hide ht
  clear ht hc
  go_enter Tryz.func142, Tryz.ntmps142
  go_wp2_with fail
  refine (readNum_any s a (0, 0, c) _ hs ha HR).mono ?_
  rintro e w1 ⟨rfl, rfl⟩
  rw [HT.out]
  go_wp2
  go_ret3
  exact ⟨rfl, rfl⟩

set_option maxHeartbeats 1000000 in
theorem readText_long (s : ByteArray) (a : Nat) (n p : Int) (w : World) (hs : s.size ≤ 8000) (ha : (a : Int) ≤ 9223372036854775807) (hn : n < 0 ∨ (0 ≤ n ∧ 8000 < n)) (HR : Hid (scan s a 10 0 0 = (n, p, 0))) :
    Calls Tryz.prog 142 #[.string s, .int .i64 (a : Int)] w fun e w' => e = .returned (.tuple #[.string ⟨#[]⟩, .int .i64 0, .iface 183 (.agg #[.int .i64 3])]) ∧ w' = w := by
  have ht : tup (n, p, 0) = .tuple #[.int .i64 n, .int .i64 p, .nilIface] := rfl
  have HT := hide ht
  clear ht
  rcases hn with hn | ⟨hn, hn'⟩
  all_goals
    go_enter Tryz.func142, Tryz.ntmps142
    go_wp2_with fail
    refine (readNum_any s a (n, p, 0) _ hs ha HR).mono ?_
    rintro e w1 ⟨rfl, rfl⟩
    rw [HT.out]
    go_wp2
    go_ret3
    exact ⟨rfl, rfl⟩

set_option maxHeartbeats 1000000 in
theorem readText_short (s : ByteArray) (a : Nat) (n p : Int) (w : World) (hs : s.size ≤ 8000) (ha : (a : Int) ≤ 9223372036854775807) (hn : 0 ≤ n) (hn' : n ≤ 8000) (hp1 : p ≤ (s.size : Int)) (hp : (s.size : Int) - p < n) (HR : Hid (scan s a 10 0 0 = (n, p, 0))) :
    Calls Tryz.prog 142 #[.string s, .int .i64 (a : Int)] w fun e w' => e = .returned (.tuple #[.string ⟨#[]⟩, .int .i64 0, .iface 183 (.agg #[.int .i64 4])]) ∧ w' = w := by
  have ht : tup (n, p, 0) = .tuple #[.int .i64 n, .int .i64 p, .nilIface] := rfl
  have HT := hide ht
  clear ht
  go_enter Tryz.func142, Tryz.ntmps142
  go_wp2_with fail
  refine (readNum_any s a (n, p, 0) _ hs ha HR).mono ?_
  rintro e w1 ⟨rfl, rfl⟩
  rw [HT.out]
  go_wp2
  go_ret3
  exact ⟨rfl, rfl⟩

set_option maxHeartbeats 1000000 in
theorem readText_ok (s : ByteArray) (a n p : Nat) (w : World) (hs : s.size ≤ 8000) (ha : (a : Int) ≤ 9223372036854775807) (hn' : n ≤ 8000) (hp : p + n ≤ s.size) (HR : Hid (scan s a 10 0 0 = ((n : Int), (p : Int), 0))) :
    Calls Tryz.prog 142 #[.string s, .int .i64 (a : Int)] w fun e w' => e = .returned (.tuple #[.string (s.extract p (p + n)), .int .i64 ((p : Int) + n), .nilIface]) ∧ Below w.heap.size w w' := by
  have ht : tup ((n : Int), (p : Int), 0) = .tuple #[.int .i64 n, .int .i64 p, .nilIface] := rfl
  have HT := hide ht
  have hx : (s.extract p (p + n)).size ≤ 8000 := by simp; omega
  clear ht
  go_enter Tryz.func142, Tryz.ntmps142
  go_wp2_with fail
  refine (readNum_any s a ((n : Int), (p : Int), 0) _ hs ha HR).mono ?_
  rintro e w1 ⟨rfl, rfl⟩
  rw [HT.out]
  have e2 : ((p : Int) + (n : Int)).toNat = p + n := by omega
  have e3 : (0 : Int) ≤ (p : Int) + (n : Int) := by omega
  have e4 : (p : Int) + (n : Int) ≤ (s.size : Int) := by omega
  have e5 : (p : Int) ≤ (p : Int) + (n : Int) := by omega
  go_wp2_with fail
  refine (joinTexts_any (s.extract p (p + n)) ⟨#[]⟩ _ (by omega) (by decide)).mono ?_
  rintro e w2 ⟨rfl, hb2⟩
  rw [append_nothing]
  go_wp2
  go_ret3
  exact ⟨rfl, hb2⟩

set_option maxHeartbeats 400000 in
theorem implGetText_size (s : ByteArray) (a : Int) (w : World) (hm : s.size ≤ maxLen) (hs : 8000 < s.size) :
    Calls Tryz.prog 117 #[.string s, .int .i64 a] w fun e w' => e = .returned (.agg #[.string ⟨#[]⟩, .int .i64 0, .int .i64 2]) ∧ Below w.heap.size w w' := by
  go_enter Tryz.func117, Tryz.ntmps117
  go_wp2_with fail
  refine (place_size _ _ _ hm hs).mono ?_
  rintro e w1 ⟨rfl, rfl⟩
  go_wp2
  exact bodyPost_ret (v := .agg #[.string ⟨#[]⟩, .int .i64 0, .int .i64 2]) (by simp [results, Tryz.results117, go_sem]) rfl ⟨rfl, (Below.refl _ _).alloc (Nat.le_refl _) _⟩
set_option maxHeartbeats 400000 in
theorem implGetText_form (s : ByteArray) (a : Int) (w : World) (hs : s.size ≤ 8000) (ha : a < 0) :
    Calls Tryz.prog 117 #[.string s, .int .i64 a] w fun e w' => e = .returned (.agg #[.string ⟨#[]⟩, .int .i64 0, .int .i64 1]) ∧ Below w.heap.size w w' := by
  go_enter Tryz.func117, Tryz.ntmps117
  go_wp2_with fail
  refine (place_form _ _ _ hs ha).mono ?_
  rintro e w1 ⟨rfl, rfl⟩
  go_wp2
  exact bodyPost_ret (v := .agg #[.string ⟨#[]⟩, .int .i64 0, .int .i64 1]) (by simp [results, Tryz.results117, go_sem]) rfl ⟨rfl, (Below.refl _ _).alloc (Nat.le_refl _) _⟩

set_option maxHeartbeats 1000000 in
theorem implGetText_no (s : ByteArray) (a : Nat) (c : Int) (w : World) (hs : s.size ≤ 8000) (hg : Laid w)
    (h14 : ∀ w, Calls Tryz.prog 142 #[.string s, .int .i64 (a : Int)] w fun e w' => e = .returned (.tuple #[.string ⟨#[]⟩, .int .i64 0, .iface 183 (.agg #[.int .i64 c])]) ∧ w' = w) :
    Calls Tryz.prog 117 #[.string s, .int .i64 (a : Int)] w fun e w' => e = .returned (.agg #[.string ⟨#[]⟩, .int .i64 0, .int .i64 c]) ∧ Below w.heap.size w w' := by
  have HG := hide (laid_alloc hg (.cells #[.string ⟨#[]⟩, .int .i64 0, .int .i64 0] 89))
  have H14 := hide h14
  clear hg h14
  go_enter Tryz.func117, Tryz.ntmps117
  go_wp2_with fail
  refine (place_ok _ _ _ hs (by omega)).mono ?_
  rintro e w1 ⟨rfl, rfl⟩
  go_wp2_with fail
  refine (H14.out _).mono ?_
  rintro e w1 ⟨rfl, rfl⟩
  go_wp2_with fail
  refine (bytesCode_fault c _ HG.out).mono ?_
  rintro e w1 ⟨rfl, hb1⟩
  have HB1 := hide hb1
  obtain ⟨hc1, hf1⟩ := bcell hb1
  clear hb1
  obtain ⟨c0, c1, c2⟩ := St3.out_cells _ _ _ _ HB1.out
  obtain ⟨q0, q1, q2⟩ := St3.three c0 c1 c2 (.string ⟨#[]⟩) (.int .i64 0) (.int .i64 c)
  clear c0 c1 c2
  go_wp2
  exact bodyPost_ret (v := .agg #[.string ⟨#[]⟩, .int .i64 0, .int .i64 c]) (by simp [results, Tryz.results117, go_sem, q0, q1, q2]) rfl ⟨rfl, St3.three_below HB1.out _ _ _⟩

set_option maxHeartbeats 1000000 in
theorem implGetText_ok (s : ByteArray) (a : Nat) (t : ByteArray) (p : Int) (w : World) (hs : s.size ≤ 8000)
    (h14 : ∀ w, Calls Tryz.prog 142 #[.string s, .int .i64 (a : Int)] w fun e w' => e = .returned (.tuple #[.string t, .int .i64 p, .nilIface]) ∧ Below w.heap.size w w') :
    Calls Tryz.prog 117 #[.string s, .int .i64 (a : Int)] w fun e w' => e = .returned (.agg #[.string t, .int .i64 p, .int .i64 0]) ∧ Below w.heap.size w w' := by
  have H14 := hide h14
  clear h14
  go_enter Tryz.func117, Tryz.ntmps117
  go_wp2_with fail
  refine (place_ok _ _ _ hs (by omega)).mono ?_
  rintro e w1 ⟨rfl, rfl⟩
  go_wp2_with fail
  refine (H14.out _).mono ?_
  rintro e w1 ⟨rfl, hb1⟩
  have HB1 := hide hb1
  clear hb1
  go_wp2_with fail
  refine (bytesCode_nil _).mono ?_
  rintro e w2 ⟨rfl, hb2⟩
  have HB2 := hide (HB1.out.trans (hb2.mono HB1.out.size))
  clear hb2
  obtain ⟨hc1, hf1⟩ := bcell HB2.out
  obtain ⟨c0, c1, c2⟩ := St3.out_cells _ _ _ _ HB2.out
  obtain ⟨q0, q1, q2⟩ := St3.three c0 c1 c2 (.string t) (.int .i64 p) (.int .i64 0)
  clear c0 c1 c2
  go_wp2
  exact bodyPost_ret (v := .agg #[.string t, .int .i64 p, .int .i64 0]) (by simp [results, Tryz.results117, go_sem, q0, q1, q2]) rfl ⟨rfl, St3.three_below HB2.out _ _ _⟩

end Go.Proofs.YtnpbmaajgiapmaaGreatDoor.St4
/- GetNum of the model: it answers what 'scan' reads. -/
namespace Go.Proofs.YtnpbmaajgiapmaaGreatDoor.St3
open Go.RowKit
theorem unf_odd (X : Int) (h : (X % 2 == 1) = true) : unf X = -(X / 2) - 1 := by
  have h' : X % 2 = 1 := by simpa using h
  rw [unf, if_pos h']
theorem unf_even (X : Int) (h : (X % 2 == 1) = false) : unf X = X / 2 := by
  have h' : ¬ X % 2 = 1 := by simpa using h
  rw [unf, if_neg h']
theorem ret3 {n p c : Int} {R S : Int × Int × Int} (hR : S = R) (h1 : n = S.1) (h2 : p = S.2.1) (h3 : c = S.2.2) :
    Ending.returned (.agg #[.int .i64 n, .int .i64 p, .int .i64 c]) = .returned (.agg #[.int .i64 R.1, .int .i64 R.2.1, .int .i64 R.2.2]) := by
  subst hR; rw [h1, h2, h3]
theorem pow0 : (128 : Int) ^ 0 = 1 := by decide
theorem pow1 : (128 : Int) ^ 1 = 128 := by decide
theorem pow2 : (128 : Int) ^ 2 = 16384 := by decide
theorem pow3 : (128 : Int) ^ 3 = 2097152 := by decide
theorem pow4 : (128 : Int) ^ 4 = 268435456 := by decide
theorem pow5 : (128 : Int) ^ 5 = 34359738368 := by decide
theorem pow6 : (128 : Int) ^ 6 = 4398046511104 := by decide
theorem pow7 : (128 : Int) ^ 7 = 562949953421312 := by decide
theorem pow8 : (128 : Int) ^ 8 = 72057594037927936 := by decide
theorem pow9 : (128 : Int) ^ 9 = 9223372036854775808 := by decide
theorem pow10 : (128 : Int) ^ 10 = 1180591620717411303424 := by decide
set_option maxHeartbeats 400000 in
theorem specGetNum_size (s : ByteArray) (a : Int) (w : World) (hm : s.size ≤ maxLen) (hs : 8000 < s.size) :
    Calls Tryz.prog 58 #[.string s, .int .i64 a] w fun e w' => e = .returned (.agg #[.int .i64 0, .int .i64 0, .int .i64 2]) ∧ Below w.heap.size w w' := by
  unfold maxLen at hm
  go_enter Tryz.func58, Tryz.ntmps58
  go_wp2
  exact bodyPost_ret (v := .agg #[.int .i64 0, .int .i64 0, .int .i64 2]) (by simp [results, Tryz.results58, go_sem]) rfl ⟨rfl, (Below.refl _ _).alloc (Nat.le_refl _) _⟩

set_option maxHeartbeats 400000 in
theorem specGetNum_form (s : ByteArray) (a : Int) (w : World) (hs : s.size ≤ 8000) (ha : a < 0) :
    Calls Tryz.prog 58 #[.string s, .int .i64 a] w fun e w' => e = .returned (.agg #[.int .i64 0, .int .i64 0, .int .i64 1]) ∧ Below w.heap.size w w' := by
  go_enter Tryz.func58, Tryz.ntmps58
  go_wp2
  exact bodyPost_ret (v := .agg #[.int .i64 0, .int .i64 0, .int .i64 1]) (by simp [results, Tryz.results58, go_sem]) rfl ⟨rfl, (Below.refl _ _).alloc (Nat.le_refl _) _⟩

set_option maxRecDepth 100000 in
set_option maxHeartbeats 16000000 in
theorem specGetNum_any (s : ByteArray) (a : Nat) (R : Int × Int × Int) (w : World) (hs : s.size ≤ 8000) (ha : (a : Int) ≤ 9223372036854775807) (HR : Hid (scan s a 10 0 0 = R)) :
    Calls Tryz.prog 58 #[.string s, .int .i64 (a : Int)] w fun e w' => e = .returned (.agg #[.int .i64 R.1, .int .i64 R.2.1, .int .i64 R.2.2]) ∧ Below w.heap.size w w' := by
  go_enter Tryz.func58, Tryz.ntmps58
  go_wp2
  go_loop [5, 6] (fun x i => ∃ (k : Nat) (u : Int), k ≤ 9 ∧ 0 ≤ u ∧ Hid (u < 128 ^ k) ∧ x = .int .u64 u ∧ i = .int .i64 k ∧ Hid (scan s a (10 - k) k u = R)) (fun _ i => 10 - (intOf i).toNat)
  case atStart => exact ⟨0, 0, by omega, by omega, (by show (0 : Int) < 128 ^ 0; decide), rfl, rfl, HR⟩
  case round =>
    obtain ⟨k, u, hk, hu0, HU, rfl, rfl, HS⟩ := hrel
    have hU := HU.out
    rcases (show k = 0 ∨ k = 1 ∨ k = 2 ∨ k = 3 ∨ k = 4 ∨ k = 5 ∨ k = 6 ∨ k = 7 ∨ k = 8 ∨ k = 9 by omega) with rfl | rfl | rfl | rfl | rfl | rfl | rfl | rfl | rfl | rfl
    · have hu1 : u < 1 := by rw [pow0] at hU; exact hU
      clear hU HU
      obtain rfl : u = 0 := by omega
      by_cases hlt : a < s.size
      · have hb := byte_lt s a hlt
        by_cases hc : ((s[a]'hlt).toNat : Int) < 128
        · have HX : Hid (R = (unf (0 + ((s[a]'hlt).toNat : Int) * 128 ^ 0), (a : Int) + ((0 : Nat) : Int) + 1, 0)) := HS.out.symm.trans (scan_last s a 9 0 0 hlt (.inl hc) (by omega))
          have eN : 0 + ((s[a]'hlt).toNat : Int) * 128 ^ 0 = ((s[a]'hlt).toNat : Int) := by rw [pow0, Int.mul_one, Int.zero_add]
          by_cases hc0 : ((s[a]'hlt).toNat : Int) = 0
          · have hY : R = (0, (a : Int) + 1, 0) := by rw [HX.out, eN, hc0]; simp [unf]
            have HY := hide hY
            clear hY
            have hz : (s[a]'hlt).toNat = 0 := by omega
            go_wp2
            exact bodyPost_ret (v := .agg #[.int .i64 0, .int .i64 ((a : Int) + 1), .int .i64 0]) (by simp [results, Tryz.results58, go_sem]) rfl ⟨ret3 HY.out.symm rfl rfl rfl, (Below.refl _ _).alloc (Nat.le_refl _) _⟩
          · have hz : ¬ (s[a]'hlt).toNat = 0 := by omega
            have em : ((s[a]'hlt).toNat : Int) % 128 = ((s[a]'hlt).toNat : Int) := by omega
            cases hp : (((s[a]'hlt).toNat : Int) % 2 == 1)
            · go_wp2
              exact bodyPost_ret (v := .agg #[.int .i64 (((s[a]'hlt).toNat : Int) / 2), .int .i64 ((a : Int) + 1), .int .i64 0]) (by simp [results, Tryz.results58, go_sem]) rfl ⟨ret3 HX.out.symm (by show _ = unf _; rw [eN]; exact (unf_even _ hp).symm) (by show (a : Int) + 1 = (a : Int) + ((0 : Nat) : Int) + 1; omega) rfl, (Below.refl _ _).alloc (Nat.le_refl _) _⟩
            · go_wp2
              exact bodyPost_ret (v := .agg #[.int .i64 (-(((s[a]'hlt).toNat : Int) / 2) - 1), .int .i64 ((a : Int) + 1), .int .i64 0]) (by simp [results, Tryz.results58, go_sem]) rfl ⟨ret3 HX.out.symm (by show _ = unf _; rw [eN]; exact (unf_odd _ hp).symm) (by show (a : Int) + 1 = (a : Int) + ((0 : Nat) : Int) + 1; omega) rfl, (Below.refl _ _).alloc (Nat.le_refl _) _⟩
        · have HX : Hid (scan s a 9 (0 + 1) (0 + ((s[a]'hlt).toNat : Int) % 128 * 128 ^ 0) = R) := (scan_more s a 9 0 0 hlt (show 128 ≤ ((s[a]'hlt).toNat : Int) by omega) (by omega)).symm.trans HS.out
          have eN : 0 + ((s[a]'hlt).toNat : Int) % 128 * 128 ^ 0 = ((s[a]'hlt).toNat : Int) % 128 := by rw [pow0, Int.mul_one, Int.zero_add]
          go_wp2
          go_round
          case rel => exact ⟨1, _, by omega, by omega, (by show _ < (128 : Int) ^ 1; rw [pow1]; omega), rfl, rfl, (by rw [← eN]; exact HX)⟩
          case measure => simp [intOf]
      · have HX := hide (HS.out.symm.trans (scan_short s a 9 0 0 hlt))
        go_wp2
        exact bodyPost_ret (v := .agg #[.int .i64 0, .int .i64 0, .int .i64 4]) (by simp [results, Tryz.results58, go_sem]) rfl ⟨ret3 HX.out.symm rfl rfl rfl, (Below.refl _ _).alloc (Nat.le_refl _) _⟩
    · have hu1 : u < 128 := by rw [pow1] at hU; exact hU
      clear hU HU
      by_cases hlt : a + 1 < s.size
      · have hb := byte_lt s (a + 1) hlt
        by_cases hc : ((s[a + 1]'hlt).toNat : Int) < 128
        · by_cases hc0 : ((s[a + 1]'hlt).toNat : Int) = 0
          · have HX := hide (HS.out.symm.trans (scan_bad s a 8 1 u hlt (.inl hc) (.inr ⟨by omega, hc0⟩)))
            have hz : (s[a + 1]'hlt).toNat = 0 := by omega
            go_wp2
            exact bodyPost_ret (v := .agg #[.int .i64 0, .int .i64 0, .int .i64 3]) (by simp [results, Tryz.results58, go_sem]) rfl ⟨ret3 HX.out.symm rfl rfl rfl, (Below.refl _ _).alloc (Nat.le_refl _) _⟩
          · have HX := hide (HS.out.symm.trans (scan_last s a 8 1 u hlt (.inl hc) (by omega)))
            have hz : ¬ (s[a + 1]'hlt).toNat = 0 := by omega
            have em : ((s[a + 1]'hlt).toNat : Int) % 128 = ((s[a + 1]'hlt).toNat : Int) := by omega
            have eN : u + ((s[a + 1]'hlt).toNat : Int) * 128 ^ 1 = u + ((s[a + 1]'hlt).toNat : Int) * 128 := by rw [pow1]
            cases hp : ((u + ((s[a + 1]'hlt).toNat : Int) * 128) % 2 == 1)
            · go_wp2
              exact bodyPost_ret (v := .agg #[.int .i64 ((u + ((s[a + 1]'hlt).toNat : Int) * 128) / 2), .int .i64 ((a : Int) + 1 + 1), .int .i64 0]) (by simp [results, Tryz.results58, go_sem]) rfl ⟨ret3 HX.out.symm (by show _ = unf _; rw [eN]; exact (unf_even _ hp).symm) (by show ((a : Int) + 1 + 1) = (a : Int) + ((1 : Nat) : Int) + 1; omega) rfl, (Below.refl _ _).alloc (Nat.le_refl _) _⟩
            · go_wp2
              exact bodyPost_ret (v := .agg #[.int .i64 (-((u + ((s[a + 1]'hlt).toNat : Int) * 128) / 2) - 1), .int .i64 ((a : Int) + 1 + 1), .int .i64 0]) (by simp [results, Tryz.results58, go_sem]) rfl ⟨ret3 HX.out.symm (by show _ = unf _; rw [eN]; exact (unf_odd _ hp).symm) (by show ((a : Int) + 1 + 1) = (a : Int) + ((1 : Nat) : Int) + 1; omega) rfl, (Below.refl _ _).alloc (Nat.le_refl _) _⟩
        · have HX := hide ((scan_more s a 8 1 u hlt (by omega) (by omega)).symm.trans HS.out)
          have eN : u + ((s[a + 1]'hlt).toNat : Int) % 128 * 128 ^ 1 = u + ((s[a + 1]'hlt).toNat : Int) % 128 * 128 := by rw [pow1]
          go_wp2
          go_round
          case rel => exact ⟨2, _, by omega, by omega, (by show _ < (128 : Int) ^ 2; rw [pow2]; omega), rfl, rfl, (by rw [← eN]; exact HX)⟩
          case measure => simp [intOf]
      · have HX := hide (HS.out.symm.trans (scan_short s a 8 1 u hlt))
        go_wp2
        exact bodyPost_ret (v := .agg #[.int .i64 0, .int .i64 0, .int .i64 4]) (by simp [results, Tryz.results58, go_sem]) rfl ⟨ret3 HX.out.symm rfl rfl rfl, (Below.refl _ _).alloc (Nat.le_refl _) _⟩
    · have hu1 : u < 16384 := by rw [pow2] at hU; exact hU
      clear hU HU
      by_cases hlt : a + 2 < s.size
      · have hb := byte_lt s (a + 2) hlt
        by_cases hc : ((s[a + 2]'hlt).toNat : Int) < 128
        · by_cases hc0 : ((s[a + 2]'hlt).toNat : Int) = 0
          · have HX := hide (HS.out.symm.trans (scan_bad s a 7 2 u hlt (.inl hc) (.inr ⟨by omega, hc0⟩)))
            have hz : (s[a + 2]'hlt).toNat = 0 := by omega
            go_wp2
            exact bodyPost_ret (v := .agg #[.int .i64 0, .int .i64 0, .int .i64 3]) (by simp [results, Tryz.results58, go_sem]) rfl ⟨ret3 HX.out.symm rfl rfl rfl, (Below.refl _ _).alloc (Nat.le_refl _) _⟩
          · have HX := hide (HS.out.symm.trans (scan_last s a 7 2 u hlt (.inl hc) (by omega)))
            have hz : ¬ (s[a + 2]'hlt).toNat = 0 := by omega
            have em : ((s[a + 2]'hlt).toNat : Int) % 128 = ((s[a + 2]'hlt).toNat : Int) := by omega
            have eN : u + ((s[a + 2]'hlt).toNat : Int) * 128 ^ 2 = u + ((s[a + 2]'hlt).toNat : Int) * 16384 := by rw [pow2]
            cases hp : ((u + ((s[a + 2]'hlt).toNat : Int) * 16384) % 2 == 1)
            · go_wp2
              exact bodyPost_ret (v := .agg #[.int .i64 ((u + ((s[a + 2]'hlt).toNat : Int) * 16384) / 2), .int .i64 ((a : Int) + 2 + 1), .int .i64 0]) (by simp [results, Tryz.results58, go_sem]) rfl ⟨ret3 HX.out.symm (by show _ = unf _; rw [eN]; exact (unf_even _ hp).symm) (by show ((a : Int) + 2 + 1) = (a : Int) + ((2 : Nat) : Int) + 1; omega) rfl, (Below.refl _ _).alloc (Nat.le_refl _) _⟩
            · go_wp2
              exact bodyPost_ret (v := .agg #[.int .i64 (-((u + ((s[a + 2]'hlt).toNat : Int) * 16384) / 2) - 1), .int .i64 ((a : Int) + 2 + 1), .int .i64 0]) (by simp [results, Tryz.results58, go_sem]) rfl ⟨ret3 HX.out.symm (by show _ = unf _; rw [eN]; exact (unf_odd _ hp).symm) (by show ((a : Int) + 2 + 1) = (a : Int) + ((2 : Nat) : Int) + 1; omega) rfl, (Below.refl _ _).alloc (Nat.le_refl _) _⟩
        · have HX := hide ((scan_more s a 7 2 u hlt (by omega) (by omega)).symm.trans HS.out)
          have eN : u + ((s[a + 2]'hlt).toNat : Int) % 128 * 128 ^ 2 = u + ((s[a + 2]'hlt).toNat : Int) % 128 * 16384 := by rw [pow2]
          go_wp2
          go_round
          case rel => exact ⟨3, _, by omega, by omega, (by show _ < (128 : Int) ^ 3; rw [pow3]; omega), rfl, rfl, (by rw [← eN]; exact HX)⟩
          case measure => simp [intOf]
      · have HX := hide (HS.out.symm.trans (scan_short s a 7 2 u hlt))
        go_wp2
        exact bodyPost_ret (v := .agg #[.int .i64 0, .int .i64 0, .int .i64 4]) (by simp [results, Tryz.results58, go_sem]) rfl ⟨ret3 HX.out.symm rfl rfl rfl, (Below.refl _ _).alloc (Nat.le_refl _) _⟩
    · have hu1 : u < 2097152 := by rw [pow3] at hU; exact hU
      clear hU HU
      by_cases hlt : a + 3 < s.size
      · have hb := byte_lt s (a + 3) hlt
        by_cases hc : ((s[a + 3]'hlt).toNat : Int) < 128
        · by_cases hc0 : ((s[a + 3]'hlt).toNat : Int) = 0
          · have HX := hide (HS.out.symm.trans (scan_bad s a 6 3 u hlt (.inl hc) (.inr ⟨by omega, hc0⟩)))
            have hz : (s[a + 3]'hlt).toNat = 0 := by omega
            go_wp2
            exact bodyPost_ret (v := .agg #[.int .i64 0, .int .i64 0, .int .i64 3]) (by simp [results, Tryz.results58, go_sem]) rfl ⟨ret3 HX.out.symm rfl rfl rfl, (Below.refl _ _).alloc (Nat.le_refl _) _⟩
          · have HX := hide (HS.out.symm.trans (scan_last s a 6 3 u hlt (.inl hc) (by omega)))
            have hz : ¬ (s[a + 3]'hlt).toNat = 0 := by omega
            have em : ((s[a + 3]'hlt).toNat : Int) % 128 = ((s[a + 3]'hlt).toNat : Int) := by omega
            have eN : u + ((s[a + 3]'hlt).toNat : Int) * 128 ^ 3 = u + ((s[a + 3]'hlt).toNat : Int) * 2097152 := by rw [pow3]
            cases hp : ((u + ((s[a + 3]'hlt).toNat : Int) * 2097152) % 2 == 1)
            · go_wp2
              exact bodyPost_ret (v := .agg #[.int .i64 ((u + ((s[a + 3]'hlt).toNat : Int) * 2097152) / 2), .int .i64 ((a : Int) + 3 + 1), .int .i64 0]) (by simp [results, Tryz.results58, go_sem]) rfl ⟨ret3 HX.out.symm (by show _ = unf _; rw [eN]; exact (unf_even _ hp).symm) (by show ((a : Int) + 3 + 1) = (a : Int) + ((3 : Nat) : Int) + 1; omega) rfl, (Below.refl _ _).alloc (Nat.le_refl _) _⟩
            · go_wp2
              exact bodyPost_ret (v := .agg #[.int .i64 (-((u + ((s[a + 3]'hlt).toNat : Int) * 2097152) / 2) - 1), .int .i64 ((a : Int) + 3 + 1), .int .i64 0]) (by simp [results, Tryz.results58, go_sem]) rfl ⟨ret3 HX.out.symm (by show _ = unf _; rw [eN]; exact (unf_odd _ hp).symm) (by show ((a : Int) + 3 + 1) = (a : Int) + ((3 : Nat) : Int) + 1; omega) rfl, (Below.refl _ _).alloc (Nat.le_refl _) _⟩
        · have HX := hide ((scan_more s a 6 3 u hlt (by omega) (by omega)).symm.trans HS.out)
          have eN : u + ((s[a + 3]'hlt).toNat : Int) % 128 * 128 ^ 3 = u + ((s[a + 3]'hlt).toNat : Int) % 128 * 2097152 := by rw [pow3]
          go_wp2
          go_round
          case rel => exact ⟨4, _, by omega, by omega, (by show _ < (128 : Int) ^ 4; rw [pow4]; omega), rfl, rfl, (by rw [← eN]; exact HX)⟩
          case measure => simp [intOf]
      · have HX := hide (HS.out.symm.trans (scan_short s a 6 3 u hlt))
        go_wp2
        exact bodyPost_ret (v := .agg #[.int .i64 0, .int .i64 0, .int .i64 4]) (by simp [results, Tryz.results58, go_sem]) rfl ⟨ret3 HX.out.symm rfl rfl rfl, (Below.refl _ _).alloc (Nat.le_refl _) _⟩
    · have hu1 : u < 268435456 := by rw [pow4] at hU; exact hU
      clear hU HU
      by_cases hlt : a + 4 < s.size
      · have hb := byte_lt s (a + 4) hlt
        by_cases hc : ((s[a + 4]'hlt).toNat : Int) < 128
        · by_cases hc0 : ((s[a + 4]'hlt).toNat : Int) = 0
          · have HX := hide (HS.out.symm.trans (scan_bad s a 5 4 u hlt (.inl hc) (.inr ⟨by omega, hc0⟩)))
            have hz : (s[a + 4]'hlt).toNat = 0 := by omega
            go_wp2
            exact bodyPost_ret (v := .agg #[.int .i64 0, .int .i64 0, .int .i64 3]) (by simp [results, Tryz.results58, go_sem]) rfl ⟨ret3 HX.out.symm rfl rfl rfl, (Below.refl _ _).alloc (Nat.le_refl _) _⟩
          · have HX := hide (HS.out.symm.trans (scan_last s a 5 4 u hlt (.inl hc) (by omega)))
            have hz : ¬ (s[a + 4]'hlt).toNat = 0 := by omega
            have em : ((s[a + 4]'hlt).toNat : Int) % 128 = ((s[a + 4]'hlt).toNat : Int) := by omega
            have eN : u + ((s[a + 4]'hlt).toNat : Int) * 128 ^ 4 = u + ((s[a + 4]'hlt).toNat : Int) * 268435456 := by rw [pow4]
            cases hp : ((u + ((s[a + 4]'hlt).toNat : Int) * 268435456) % 2 == 1)
            · go_wp2
              exact bodyPost_ret (v := .agg #[.int .i64 ((u + ((s[a + 4]'hlt).toNat : Int) * 268435456) / 2), .int .i64 ((a : Int) + 4 + 1), .int .i64 0]) (by simp [results, Tryz.results58, go_sem]) rfl ⟨ret3 HX.out.symm (by show _ = unf _; rw [eN]; exact (unf_even _ hp).symm) (by show ((a : Int) + 4 + 1) = (a : Int) + ((4 : Nat) : Int) + 1; omega) rfl, (Below.refl _ _).alloc (Nat.le_refl _) _⟩
            · go_wp2
              exact bodyPost_ret (v := .agg #[.int .i64 (-((u + ((s[a + 4]'hlt).toNat : Int) * 268435456) / 2) - 1), .int .i64 ((a : Int) + 4 + 1), .int .i64 0]) (by simp [results, Tryz.results58, go_sem]) rfl ⟨ret3 HX.out.symm (by show _ = unf _; rw [eN]; exact (unf_odd _ hp).symm) (by show ((a : Int) + 4 + 1) = (a : Int) + ((4 : Nat) : Int) + 1; omega) rfl, (Below.refl _ _).alloc (Nat.le_refl _) _⟩
        · have HX := hide ((scan_more s a 5 4 u hlt (by omega) (by omega)).symm.trans HS.out)
          have eN : u + ((s[a + 4]'hlt).toNat : Int) % 128 * 128 ^ 4 = u + ((s[a + 4]'hlt).toNat : Int) % 128 * 268435456 := by rw [pow4]
          go_wp2
          go_round
          case rel => exact ⟨5, _, by omega, by omega, (by show _ < (128 : Int) ^ 5; rw [pow5]; omega), rfl, rfl, (by rw [← eN]; exact HX)⟩
          case measure => simp [intOf]
      · have HX := hide (HS.out.symm.trans (scan_short s a 5 4 u hlt))
        go_wp2
        exact bodyPost_ret (v := .agg #[.int .i64 0, .int .i64 0, .int .i64 4]) (by simp [results, Tryz.results58, go_sem]) rfl ⟨ret3 HX.out.symm rfl rfl rfl, (Below.refl _ _).alloc (Nat.le_refl _) _⟩
    · have hu1 : u < 34359738368 := by rw [pow5] at hU; exact hU
      clear hU HU
      by_cases hlt : a + 5 < s.size
      · have hb := byte_lt s (a + 5) hlt
        by_cases hc : ((s[a + 5]'hlt).toNat : Int) < 128
        · by_cases hc0 : ((s[a + 5]'hlt).toNat : Int) = 0
          · have HX := hide (HS.out.symm.trans (scan_bad s a 4 5 u hlt (.inl hc) (.inr ⟨by omega, hc0⟩)))
            have hz : (s[a + 5]'hlt).toNat = 0 := by omega
            go_wp2
            exact bodyPost_ret (v := .agg #[.int .i64 0, .int .i64 0, .int .i64 3]) (by simp [results, Tryz.results58, go_sem]) rfl ⟨ret3 HX.out.symm rfl rfl rfl, (Below.refl _ _).alloc (Nat.le_refl _) _⟩
          · have HX := hide (HS.out.symm.trans (scan_last s a 4 5 u hlt (.inl hc) (by omega)))
            have hz : ¬ (s[a + 5]'hlt).toNat = 0 := by omega
            have em : ((s[a + 5]'hlt).toNat : Int) % 128 = ((s[a + 5]'hlt).toNat : Int) := by omega
            have eN : u + ((s[a + 5]'hlt).toNat : Int) * 128 ^ 5 = u + ((s[a + 5]'hlt).toNat : Int) * 34359738368 := by rw [pow5]
            cases hp : ((u + ((s[a + 5]'hlt).toNat : Int) * 34359738368) % 2 == 1)
            · go_wp2
              exact bodyPost_ret (v := .agg #[.int .i64 ((u + ((s[a + 5]'hlt).toNat : Int) * 34359738368) / 2), .int .i64 ((a : Int) + 5 + 1), .int .i64 0]) (by simp [results, Tryz.results58, go_sem]) rfl ⟨ret3 HX.out.symm (by show _ = unf _; rw [eN]; exact (unf_even _ hp).symm) (by show ((a : Int) + 5 + 1) = (a : Int) + ((5 : Nat) : Int) + 1; omega) rfl, (Below.refl _ _).alloc (Nat.le_refl _) _⟩
            · go_wp2
              exact bodyPost_ret (v := .agg #[.int .i64 (-((u + ((s[a + 5]'hlt).toNat : Int) * 34359738368) / 2) - 1), .int .i64 ((a : Int) + 5 + 1), .int .i64 0]) (by simp [results, Tryz.results58, go_sem]) rfl ⟨ret3 HX.out.symm (by show _ = unf _; rw [eN]; exact (unf_odd _ hp).symm) (by show ((a : Int) + 5 + 1) = (a : Int) + ((5 : Nat) : Int) + 1; omega) rfl, (Below.refl _ _).alloc (Nat.le_refl _) _⟩
        · have HX := hide ((scan_more s a 4 5 u hlt (by omega) (by omega)).symm.trans HS.out)
          have eN : u + ((s[a + 5]'hlt).toNat : Int) % 128 * 128 ^ 5 = u + ((s[a + 5]'hlt).toNat : Int) % 128 * 34359738368 := by rw [pow5]
          go_wp2
          go_round
          case rel => exact ⟨6, _, by omega, by omega, (by show _ < (128 : Int) ^ 6; rw [pow6]; omega), rfl, rfl, (by rw [← eN]; exact HX)⟩
          case measure => simp [intOf]
      · have HX := hide (HS.out.symm.trans (scan_short s a 4 5 u hlt))
        go_wp2
        exact bodyPost_ret (v := .agg #[.int .i64 0, .int .i64 0, .int .i64 4]) (by simp [results, Tryz.results58, go_sem]) rfl ⟨ret3 HX.out.symm rfl rfl rfl, (Below.refl _ _).alloc (Nat.le_refl _) _⟩
    · have hu1 : u < 4398046511104 := by rw [pow6] at hU; exact hU
      clear hU HU
      by_cases hlt : a + 6 < s.size
      · have hb := byte_lt s (a + 6) hlt
        by_cases hc : ((s[a + 6]'hlt).toNat : Int) < 128
        · by_cases hc0 : ((s[a + 6]'hlt).toNat : Int) = 0
          · have HX := hide (HS.out.symm.trans (scan_bad s a 3 6 u hlt (.inl hc) (.inr ⟨by omega, hc0⟩)))
            have hz : (s[a + 6]'hlt).toNat = 0 := by omega
            go_wp2
            exact bodyPost_ret (v := .agg #[.int .i64 0, .int .i64 0, .int .i64 3]) (by simp [results, Tryz.results58, go_sem]) rfl ⟨ret3 HX.out.symm rfl rfl rfl, (Below.refl _ _).alloc (Nat.le_refl _) _⟩
          · have HX := hide (HS.out.symm.trans (scan_last s a 3 6 u hlt (.inl hc) (by omega)))
            have hz : ¬ (s[a + 6]'hlt).toNat = 0 := by omega
            have em : ((s[a + 6]'hlt).toNat : Int) % 128 = ((s[a + 6]'hlt).toNat : Int) := by omega
            have eN : u + ((s[a + 6]'hlt).toNat : Int) * 128 ^ 6 = u + ((s[a + 6]'hlt).toNat : Int) * 4398046511104 := by rw [pow6]
            cases hp : ((u + ((s[a + 6]'hlt).toNat : Int) * 4398046511104) % 2 == 1)
            · go_wp2
              exact bodyPost_ret (v := .agg #[.int .i64 ((u + ((s[a + 6]'hlt).toNat : Int) * 4398046511104) / 2), .int .i64 ((a : Int) + 6 + 1), .int .i64 0]) (by simp [results, Tryz.results58, go_sem]) rfl ⟨ret3 HX.out.symm (by show _ = unf _; rw [eN]; exact (unf_even _ hp).symm) (by show ((a : Int) + 6 + 1) = (a : Int) + ((6 : Nat) : Int) + 1; omega) rfl, (Below.refl _ _).alloc (Nat.le_refl _) _⟩
            · go_wp2
              exact bodyPost_ret (v := .agg #[.int .i64 (-((u + ((s[a + 6]'hlt).toNat : Int) * 4398046511104) / 2) - 1), .int .i64 ((a : Int) + 6 + 1), .int .i64 0]) (by simp [results, Tryz.results58, go_sem]) rfl ⟨ret3 HX.out.symm (by show _ = unf _; rw [eN]; exact (unf_odd _ hp).symm) (by show ((a : Int) + 6 + 1) = (a : Int) + ((6 : Nat) : Int) + 1; omega) rfl, (Below.refl _ _).alloc (Nat.le_refl _) _⟩
        · have HX := hide ((scan_more s a 3 6 u hlt (by omega) (by omega)).symm.trans HS.out)
          have eN : u + ((s[a + 6]'hlt).toNat : Int) % 128 * 128 ^ 6 = u + ((s[a + 6]'hlt).toNat : Int) % 128 * 4398046511104 := by rw [pow6]
          go_wp2
          go_round
          case rel => exact ⟨7, _, by omega, by omega, (by show _ < (128 : Int) ^ 7; rw [pow7]; omega), rfl, rfl, (by rw [← eN]; exact HX)⟩
          case measure => simp [intOf]
      · have HX := hide (HS.out.symm.trans (scan_short s a 3 6 u hlt))
        go_wp2
        exact bodyPost_ret (v := .agg #[.int .i64 0, .int .i64 0, .int .i64 4]) (by simp [results, Tryz.results58, go_sem]) rfl ⟨ret3 HX.out.symm rfl rfl rfl, (Below.refl _ _).alloc (Nat.le_refl _) _⟩
    · have hu1 : u < 562949953421312 := by rw [pow7] at hU; exact hU
      clear hU HU
      by_cases hlt : a + 7 < s.size
      · have hb := byte_lt s (a + 7) hlt
        by_cases hc : ((s[a + 7]'hlt).toNat : Int) < 128
        · by_cases hc0 : ((s[a + 7]'hlt).toNat : Int) = 0
          · have HX := hide (HS.out.symm.trans (scan_bad s a 2 7 u hlt (.inl hc) (.inr ⟨by omega, hc0⟩)))
            have hz : (s[a + 7]'hlt).toNat = 0 := by omega
            go_wp2
            exact bodyPost_ret (v := .agg #[.int .i64 0, .int .i64 0, .int .i64 3]) (by simp [results, Tryz.results58, go_sem]) rfl ⟨ret3 HX.out.symm rfl rfl rfl, (Below.refl _ _).alloc (Nat.le_refl _) _⟩
          · have HX := hide (HS.out.symm.trans (scan_last s a 2 7 u hlt (.inl hc) (by omega)))
            have hz : ¬ (s[a + 7]'hlt).toNat = 0 := by omega
            have em : ((s[a + 7]'hlt).toNat : Int) % 128 = ((s[a + 7]'hlt).toNat : Int) := by omega
            have eN : u + ((s[a + 7]'hlt).toNat : Int) * 128 ^ 7 = u + ((s[a + 7]'hlt).toNat : Int) * 562949953421312 := by rw [pow7]
            cases hp : ((u + ((s[a + 7]'hlt).toNat : Int) * 562949953421312) % 2 == 1)
            · go_wp2
              exact bodyPost_ret (v := .agg #[.int .i64 ((u + ((s[a + 7]'hlt).toNat : Int) * 562949953421312) / 2), .int .i64 ((a : Int) + 7 + 1), .int .i64 0]) (by simp [results, Tryz.results58, go_sem]) rfl ⟨ret3 HX.out.symm (by show _ = unf _; rw [eN]; exact (unf_even _ hp).symm) (by show ((a : Int) + 7 + 1) = (a : Int) + ((7 : Nat) : Int) + 1; omega) rfl, (Below.refl _ _).alloc (Nat.le_refl _) _⟩
            · go_wp2
              exact bodyPost_ret (v := .agg #[.int .i64 (-((u + ((s[a + 7]'hlt).toNat : Int) * 562949953421312) / 2) - 1), .int .i64 ((a : Int) + 7 + 1), .int .i64 0]) (by simp [results, Tryz.results58, go_sem]) rfl ⟨ret3 HX.out.symm (by show _ = unf _; rw [eN]; exact (unf_odd _ hp).symm) (by show ((a : Int) + 7 + 1) = (a : Int) + ((7 : Nat) : Int) + 1; omega) rfl, (Below.refl _ _).alloc (Nat.le_refl _) _⟩
        · have HX := hide ((scan_more s a 2 7 u hlt (by omega) (by omega)).symm.trans HS.out)
          have eN : u + ((s[a + 7]'hlt).toNat : Int) % 128 * 128 ^ 7 = u + ((s[a + 7]'hlt).toNat : Int) % 128 * 562949953421312 := by rw [pow7]
          go_wp2
          go_round
          case rel => exact ⟨8, _, by omega, by omega, (by show _ < (128 : Int) ^ 8; rw [pow8]; omega), rfl, rfl, (by rw [← eN]; exact HX)⟩
          case measure => simp [intOf]
      · have HX := hide (HS.out.symm.trans (scan_short s a 2 7 u hlt))
        go_wp2
        exact bodyPost_ret (v := .agg #[.int .i64 0, .int .i64 0, .int .i64 4]) (by simp [results, Tryz.results58, go_sem]) rfl ⟨ret3 HX.out.symm rfl rfl rfl, (Below.refl _ _).alloc (Nat.le_refl _) _⟩
    · have hu1 : u < 72057594037927936 := by rw [pow8] at hU; exact hU
      clear hU HU
      by_cases hlt : a + 8 < s.size
      · have hb := byte_lt s (a + 8) hlt
        by_cases hc : ((s[a + 8]'hlt).toNat : Int) < 128
        · by_cases hc0 : ((s[a + 8]'hlt).toNat : Int) = 0
          · have HX := hide (HS.out.symm.trans (scan_bad s a 1 8 u hlt (.inl hc) (.inr ⟨by omega, hc0⟩)))
            have hz : (s[a + 8]'hlt).toNat = 0 := by omega
            go_wp2
            exact bodyPost_ret (v := .agg #[.int .i64 0, .int .i64 0, .int .i64 3]) (by simp [results, Tryz.results58, go_sem]) rfl ⟨ret3 HX.out.symm rfl rfl rfl, (Below.refl _ _).alloc (Nat.le_refl _) _⟩
          · have HX := hide (HS.out.symm.trans (scan_last s a 1 8 u hlt (.inl hc) (by omega)))
            have hz : ¬ (s[a + 8]'hlt).toNat = 0 := by omega
            have em : ((s[a + 8]'hlt).toNat : Int) % 128 = ((s[a + 8]'hlt).toNat : Int) := by omega
            have eN : u + ((s[a + 8]'hlt).toNat : Int) * 128 ^ 8 = u + ((s[a + 8]'hlt).toNat : Int) * 72057594037927936 := by rw [pow8]
            cases hp : ((u + ((s[a + 8]'hlt).toNat : Int) * 72057594037927936) % 2 == 1)
            · go_wp2
              exact bodyPost_ret (v := .agg #[.int .i64 ((u + ((s[a + 8]'hlt).toNat : Int) * 72057594037927936) / 2), .int .i64 ((a : Int) + 8 + 1), .int .i64 0]) (by simp [results, Tryz.results58, go_sem]) rfl ⟨ret3 HX.out.symm (by show _ = unf _; rw [eN]; exact (unf_even _ hp).symm) (by show ((a : Int) + 8 + 1) = (a : Int) + ((8 : Nat) : Int) + 1; omega) rfl, (Below.refl _ _).alloc (Nat.le_refl _) _⟩
            · go_wp2
              exact bodyPost_ret (v := .agg #[.int .i64 (-((u + ((s[a + 8]'hlt).toNat : Int) * 72057594037927936) / 2) - 1), .int .i64 ((a : Int) + 8 + 1), .int .i64 0]) (by simp [results, Tryz.results58, go_sem]) rfl ⟨ret3 HX.out.symm (by show _ = unf _; rw [eN]; exact (unf_odd _ hp).symm) (by show ((a : Int) + 8 + 1) = (a : Int) + ((8 : Nat) : Int) + 1; omega) rfl, (Below.refl _ _).alloc (Nat.le_refl _) _⟩
        · have HX := hide ((scan_more s a 1 8 u hlt (by omega) (by omega)).symm.trans HS.out)
          have eN : u + ((s[a + 8]'hlt).toNat : Int) % 128 * 128 ^ 8 = u + ((s[a + 8]'hlt).toNat : Int) % 128 * 72057594037927936 := by rw [pow8]
          go_wp2
          go_round
          case rel => exact ⟨9, _, by omega, by omega, (by show _ < (128 : Int) ^ 9; rw [pow9]; omega), rfl, rfl, (by rw [← eN]; exact HX)⟩
          case measure => simp [intOf]
      · have HX := hide (HS.out.symm.trans (scan_short s a 1 8 u hlt))
        go_wp2
        exact bodyPost_ret (v := .agg #[.int .i64 0, .int .i64 0, .int .i64 4]) (by simp [results, Tryz.results58, go_sem]) rfl ⟨ret3 HX.out.symm rfl rfl rfl, (Below.refl _ _).alloc (Nat.le_refl _) _⟩
    · have hu1 : u < 9223372036854775808 := by rw [pow9] at hU; exact hU
      clear hU HU
      by_cases hlt : a + 9 < s.size
      · have hb := byte_lt s (a + 9) hlt
        by_cases hc1 : 1 < ((s[a + 9]'hlt).toNat : Int)
        · have HX := hide (HS.out.symm.trans (scan_bad s a 0 9 u hlt (.inr rfl) (.inl ⟨rfl, hc1⟩)))
          go_wp2
          exact bodyPost_ret (v := .agg #[.int .i64 0, .int .i64 0, .int .i64 3]) (by simp [results, Tryz.results58, go_sem]) rfl ⟨ret3 HX.out.symm rfl rfl rfl, (Below.refl _ _).alloc (Nat.le_refl _) _⟩
        · by_cases hc0 : ((s[a + 9]'hlt).toNat : Int) = 0
          · have HX := hide (HS.out.symm.trans (scan_bad s a 0 9 u hlt (.inr rfl) (.inr ⟨by omega, hc0⟩)))
            have hz : (s[a + 9]'hlt).toNat = 0 := by omega
            go_wp2
            exact bodyPost_ret (v := .agg #[.int .i64 0, .int .i64 0, .int .i64 3]) (by simp [results, Tryz.results58, go_sem]) rfl ⟨ret3 HX.out.symm rfl rfl rfl, (Below.refl _ _).alloc (Nat.le_refl _) _⟩
          · have HX := hide (HS.out.symm.trans (scan_last s a 0 9 u hlt (.inr rfl) (by omega)))
            have hz : ¬ (s[a + 9]'hlt).toNat = 0 := by omega
            have em : ((s[a + 9]'hlt).toNat : Int) % 128 = ((s[a + 9]'hlt).toNat : Int) := by omega
            have eN : u + ((s[a + 9]'hlt).toNat : Int) * 128 ^ 9 = u + ((s[a + 9]'hlt).toNat : Int) * 9223372036854775808 := by rw [pow9]
            cases hp : ((u + ((s[a + 9]'hlt).toNat : Int) * 9223372036854775808) % 2 == 1)
            · go_wp2
              exact bodyPost_ret (v := .agg #[.int .i64 ((u + ((s[a + 9]'hlt).toNat : Int) * 9223372036854775808) / 2), .int .i64 ((a : Int) + 9 + 1), .int .i64 0]) (by simp [results, Tryz.results58, go_sem]) rfl ⟨ret3 HX.out.symm (by show _ = unf _; rw [eN]; exact (unf_even _ hp).symm) (by show ((a : Int) + 9 + 1) = (a : Int) + ((9 : Nat) : Int) + 1; omega) rfl, (Below.refl _ _).alloc (Nat.le_refl _) _⟩
            · go_wp2
              exact bodyPost_ret (v := .agg #[.int .i64 (-((u + ((s[a + 9]'hlt).toNat : Int) * 9223372036854775808) / 2) - 1), .int .i64 ((a : Int) + 9 + 1), .int .i64 0]) (by simp [results, Tryz.results58, go_sem]) rfl ⟨ret3 HX.out.symm (by show _ = unf _; rw [eN]; exact (unf_odd _ hp).symm) (by show ((a : Int) + 9 + 1) = (a : Int) + ((9 : Nat) : Int) + 1; omega) rfl, (Below.refl _ _).alloc (Nat.le_refl _) _⟩
      · have HX := hide (HS.out.symm.trans (scan_short s a 0 9 u hlt))
        go_wp2
        exact bodyPost_ret (v := .agg #[.int .i64 0, .int .i64 0, .int .i64 4]) (by simp [results, Tryz.results58, go_sem]) rfl ⟨ret3 HX.out.symm rfl rfl rfl, (Below.refl _ _).alloc (Nat.le_refl _) _⟩
end Go.Proofs.YtnpbmaajgiapmaaGreatDoor.St3
