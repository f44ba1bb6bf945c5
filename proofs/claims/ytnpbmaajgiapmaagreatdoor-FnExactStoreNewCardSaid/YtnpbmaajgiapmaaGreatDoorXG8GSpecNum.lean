/- GetNum of the model: it answers what 'scan' reads. -/
import Derived.Test.YtnpbmaajgiapmaaGreatDoorXG0GScan
import Derived.Test.YtnpbmaajgiapmaaGreatDoorXG7CUnseal
import Derived.Test.YtnpbmaajgiapmaaGreatDoorXG5SRead
import Derived.Test.YtnpbmaajgiapmaaGreatDoorXG6CSeal
import Derived.BigQuiet
import Derived.OrdersHeld
import Derived.Deep.RegionHeld3
namespace Go.Proofs.YtnpbmaajgiapmaaGreatDoor.St3
open Go.RowKit
theorem unf_odd (X : Int) (h : (X % 2 == 1) = true) : unf X = -(X / 2) - 1 := by
  have h' : X % 2 = 1 := by simpa using h
  rw [unf, if_pos h']
theorem unf_even (X : Int) (h : (X % 2 == 1) = false) : unf X = X / 2 := by
  have h' : ¬ X % 2 = 1 := by simpa using h
  rw [unf, if_neg h']
theorem ret3 {n p c : Int} {R S : Int × Int × Int} (hR : S = R) (h1 : n = S.1) (h2 : p = S.2.1) (h3 : c = S.2.2) :
    Ending.returned (.agg #[.int .i64 n, .int .i64 p, .int .i64 c]) = .returned (.agg #[.int .i64 R.1, .int .i64 R.2.1, .int .i64 R.2.2]) := by
  subst hR; rw [h1, h2, h3]
theorem pow0 : (128 : Int) ^ 0 = 1 := by decide
theorem pow1 : (128 : Int) ^ 1 = 128 := by decide
theorem pow2 : (128 : Int) ^ 2 = 16384 := by decide
theorem pow3 : (128 : Int) ^ 3 = 2097152 := by decide
theorem pow4 : (128 : Int) ^ 4 = 268435456 := by decide
theorem pow5 : (128 : Int) ^ 5 = 34359738368 := by decide
theorem pow6 : (128 : Int) ^ 6 = 4398046511104 := by decide
theorem pow7 : (128 : Int) ^ 7 = 562949953421312 := by decide
theorem pow8 : (128 : Int) ^ 8 = 72057594037927936 := by decide
theorem pow9 : (128 : Int) ^ 9 = 9223372036854775808 := by decide
theorem pow10 : (128 : Int) ^ 10 = 1180591620717411303424 := by decide
set_option maxHeartbeats 400000 in
theorem specGetNum_size (s : ByteArray) (a : Int) (w : World) (hm : s.size ≤ maxLen) (hs : 8000 < s.size) :
    Calls Tryz.prog 58 #[.string s, .int .i64 a] w fun e w' => e = .returned (.agg #[.int .i64 0, .int .i64 0, .int .i64 2]) ∧ Below w.heap.size w w' := by
  unfold maxLen at hm
  go_enter Tryz.func58, Tryz.ntmps58
  go_wp2
  exact bodyPost_ret (v := .agg #[.int .i64 0, .int .i64 0, .int .i64 2]) (by simp [results, Tryz.results58, go_sem]) rfl ⟨rfl, (Below.refl _ _).alloc (Nat.le_refl _) _⟩

set_option maxHeartbeats 400000 in
theorem specGetNum_form (s : ByteArray) (a : Int) (w : World) (hs : s.size ≤ 8000) (ha : a < 0) :
    Calls Tryz.prog 58 #[.string s, .int .i64 a] w fun e w' => e = .returned (.agg #[.int .i64 0, .int .i64 0, .int .i64 1]) ∧ Below w.heap.size w w' := by
  go_enter Tryz.func58, Tryz.ntmps58
  go_wp2
  exact bodyPost_ret (v := .agg #[.int .i64 0, .int .i64 0, .int .i64 1]) (by simp [results, Tryz.results58, go_sem]) rfl ⟨rfl, (Below.refl _ _).alloc (Nat.le_refl _) _⟩

set_option maxRecDepth 100000 in
set_option maxHeartbeats 16000000 in
theorem specGetNum_any (s : ByteArray) (a : Nat) (R : Int × Int × Int) (w : World) (hs : s.size ≤ 8000) (ha : (a : Int) ≤ 9223372036854775807) (HR : Hid (scan s a 10 0 0 = R)) :
    Calls Tryz.prog 58 #[.string s, .int .i64 (a : Int)] w fun e w' => e = .returned (.agg #[.int .i64 R.1, .int .i64 R.2.1, .int .i64 R.2.2]) ∧ Below w.heap.size w w' := by
  go_enter Tryz.func58, Tryz.ntmps58
  go_wp2
  go_loop [5, 6] (fun x i => ∃ (k : Nat) (u : Int), k ≤ 9 ∧ 0 ≤ u ∧ Hid (u < 128 ^ k) ∧ x = .int .u64 u ∧ i = .int .i64 k ∧ Hid (scan s a (10 - k) k u = R)) (fun _ i => 10 - (intOf i).toNat)
  case atStart => exact ⟨0, 0, by omega, by omega, (by show (0 : Int) < 128 ^ 0; decide), rfl, rfl, HR⟩
  case round =>
    obtain ⟨k, u, hk, hu0, HU, rfl, rfl, HS⟩ := hrel
    have hU := HU.out
    rcases (show k = 0 ∨ k = 1 ∨ k = 2 ∨ k = 3 ∨ k = 4 ∨ k = 5 ∨ k = 6 ∨ k = 7 ∨ k = 8 ∨ k = 9 by omega) with rfl | rfl | rfl | rfl | rfl | rfl | rfl | rfl | rfl | rfl
    · have hu1 : u < 1 := by rw [pow0] at hU; exact hU
      clear hU HU
      obtain rfl : u = 0 := by omega
      by_cases hlt : a < s.size
      · have hb := byte_lt s a hlt
        by_cases hc : ((s[a]'hlt).toNat : Int) < 128
        · have HX : Hid (R = (unf (0 + ((s[a]'hlt).toNat : Int) * 128 ^ 0), (a : Int) + ((0 : Nat) : Int) + 1, 0)) := HS.out.symm.trans (scan_last s a 9 0 0 hlt (.inl hc) (by omega))
          have eN : 0 + ((s[a]'hlt).toNat : Int) * 128 ^ 0 = ((s[a]'hlt).toNat : Int) := by rw [pow0, Int.mul_one, Int.zero_add]
          by_cases hc0 : ((s[a]'hlt).toNat : Int) = 0
          · have hY : R = (0, (a : Int) + 1, 0) := by rw [HX.out, eN, hc0]; simp [unf]
            have HY := hide hY
            clear hY
            have hz : (s[a]'hlt).toNat = 0 := by omega
            go_wp2
            exact bodyPost_ret (v := .agg #[.int .i64 0, .int .i64 ((a : Int) + 1), .int .i64 0]) (by simp [results, Tryz.results58, go_sem]) rfl ⟨ret3 HY.out.symm rfl rfl rfl, (Below.refl _ _).alloc (Nat.le_refl _) _⟩
          · have hz : ¬ (s[a]'hlt).toNat = 0 := by omega
            have em : ((s[a]'hlt).toNat : Int) % 128 = ((s[a]'hlt).toNat : Int) := by omega
            cases hp : (((s[a]'hlt).toNat : Int) % 2 == 1)
            · go_wp2
              exact bodyPost_ret (v := .agg #[.int .i64 (((s[a]'hlt).toNat : Int) / 2), .int .i64 ((a : Int) + 1), .int .i64 0]) (by simp [results, Tryz.results58, go_sem]) rfl ⟨ret3 HX.out.symm (by show _ = unf _; rw [eN]; exact (unf_even _ hp).symm) (by show (a : Int) + 1 = (a : Int) + ((0 : Nat) : Int) + 1; omega) rfl, (Below.refl _ _).alloc (Nat.le_refl _) _⟩
            · go_wp2
              exact bodyPost_ret (v := .agg #[.int .i64 (-(((s[a]'hlt).toNat : Int) / 2) - 1), .int .i64 ((a : Int) + 1), .int .i64 0]) (by simp [results, Tryz.results58, go_sem]) rfl ⟨ret3 HX.out.symm (by show _ = unf _; rw [eN]; exact (unf_odd _ hp).symm) (by show (a : Int) + 1 = (a : Int) + ((0 : Nat) : Int) + 1; omega) rfl, (Below.refl _ _).alloc (Nat.le_refl _) _⟩
        · have HX : Hid (scan s a 9 (0 + 1) (0 + ((s[a]'hlt).toNat : Int) % 128 * 128 ^ 0) = R) := (scan_more s a 9 0 0 hlt (show 128 ≤ ((s[a]'hlt).toNat : Int) by omega) (by omega)).symm.trans HS.out
          have eN : 0 + ((s[a]'hlt).toNat : Int) % 128 * 128 ^ 0 = ((s[a]'hlt).toNat : Int) % 128 := by rw [pow0, Int.mul_one, Int.zero_add]
          go_wp2
          go_round
          case rel => exact ⟨1, _, by omega, by omega, (by show _ < (128 : Int) ^ 1; rw [pow1]; omega), rfl, rfl, (by rw [← eN]; exact HX)⟩
          case measure => simp [intOf]
      · have HX := hide (HS.out.symm.trans (scan_short s a 9 0 0 hlt))
        go_wp2
        exact bodyPost_ret (v := .agg #[.int .i64 0, .int .i64 0, .int .i64 4]) (by simp [results, Tryz.results58, go_sem]) rfl ⟨ret3 HX.out.symm rfl rfl rfl, (Below.refl _ _).alloc (Nat.le_refl _) _⟩
    · have hu1 : u < 128 := by rw [pow1] at hU; exact hU
      clear hU HU
      by_cases hlt : a + 1 < s.size
      · have hb := byte_lt s (a + 1) hlt
        by_cases hc : ((s[a + 1]'hlt).toNat : Int) < 128
        · by_cases hc0 : ((s[a + 1]'hlt).toNat : Int) = 0
          · have HX := hide (HS.out.symm.trans (scan_bad s a 8 1 u hlt (.inl hc) (.inr ⟨by omega, hc0⟩)))
            have hz : (s[a + 1]'hlt).toNat = 0 := by omega
            go_wp2
            exact bodyPost_ret (v := .agg #[.int .i64 0, .int .i64 0, .int .i64 3]) (by simp [results, Tryz.results58, go_sem]) rfl ⟨ret3 HX.out.symm rfl rfl rfl, (Below.refl _ _).alloc (Nat.le_refl _) _⟩
          · have HX := hide (HS.out.symm.trans (scan_last s a 8 1 u hlt (.inl hc) (by omega)))
            have hz : ¬ (s[a + 1]'hlt).toNat = 0 := by omega
            have em : ((s[a + 1]'hlt).toNat : Int) % 128 = ((s[a + 1]'hlt).toNat : Int) := by omega
            have eN : u + ((s[a + 1]'hlt).toNat : Int) * 128 ^ 1 = u + ((s[a + 1]'hlt).toNat : Int) * 128 := by rw [pow1]
            cases hp : ((u + ((s[a + 1]'hlt).toNat : Int) * 128) % 2 == 1)
            · go_wp2
              exact bodyPost_ret (v := .agg #[.int .i64 ((u + ((s[a + 1]'hlt).toNat : Int) * 128) / 2), .int .i64 ((a : Int) + 1 + 1), .int .i64 0]) (by simp [results, Tryz.results58, go_sem]) rfl ⟨ret3 HX.out.symm (by show _ = unf _; rw [eN]; exact (unf_even _ hp).symm) (by show ((a : Int) + 1 + 1) = (a : Int) + ((1 : Nat) : Int) + 1; omega) rfl, (Below.refl _ _).alloc (Nat.le_refl _) _⟩
            · go_wp2
              exact bodyPost_ret (v := .agg #[.int .i64 (-((u + ((s[a + 1]'hlt).toNat : Int) * 128) / 2) - 1), .int .i64 ((a : Int) + 1 + 1), .int .i64 0]) (by simp [results, Tryz.results58, go_sem]) rfl ⟨ret3 HX.out.symm (by show _ = unf _; rw [eN]; exact (unf_odd _ hp).symm) (by show ((a : Int) + 1 + 1) = (a : Int) + ((1 : Nat) : Int) + 1; omega) rfl, (Below.refl _ _).alloc (Nat.le_refl _) _⟩
        · have HX := hide ((scan_more s a 8 1 u hlt (by omega) (by omega)).symm.trans HS.out)
          have eN : u + ((s[a + 1]'hlt).toNat : Int) % 128 * 128 ^ 1 = u + ((s[a + 1]'hlt).toNat : Int) % 128 * 128 := by rw [pow1]
          go_wp2
          go_round
          case rel => exact ⟨2, _, by omega, by omega, (by show _ < (128 : Int) ^ 2; rw [pow2]; omega), rfl, rfl, (by rw [← eN]; exact HX)⟩
          case measure => simp [intOf]
      · have HX := hide (HS.out.symm.trans (scan_short s a 8 1 u hlt))
        go_wp2
        exact bodyPost_ret (v := .agg #[.int .i64 0, .int .i64 0, .int .i64 4]) (by simp [results, Tryz.results58, go_sem]) rfl ⟨ret3 HX.out.symm rfl rfl rfl, (Below.refl _ _).alloc (Nat.le_refl _) _⟩
    · have hu1 : u < 16384 := by rw [pow2] at hU; exact hU
      clear hU HU
      by_cases hlt : a + 2 < s.size
      · have hb := byte_lt s (a + 2) hlt
        by_cases hc : ((s[a + 2]'hlt).toNat : Int) < 128
        · by_cases hc0 : ((s[a + 2]'hlt).toNat : Int) = 0
          · have HX := hide (HS.out.symm.trans (scan_bad s a 7 2 u hlt (.inl hc) (.inr ⟨by omega, hc0⟩)))
            have hz : (s[a + 2]'hlt).toNat = 0 := by omega
            go_wp2
            exact bodyPost_ret (v := .agg #[.int .i64 0, .int .i64 0, .int .i64 3]) (by simp [results, Tryz.results58, go_sem]) rfl ⟨ret3 HX.out.symm rfl rfl rfl, (Below.refl _ _).alloc (Nat.le_refl _) _⟩
          · have HX := hide (HS.out.symm.trans (scan_last s a 7 2 u hlt (.inl hc) (by omega)))
            have hz : ¬ (s[a + 2]'hlt).toNat = 0 := by omega
            have em : ((s[a + 2]'hlt).toNat : Int) % 128 = ((s[a + 2]'hlt).toNat : Int) := by omega
            have eN : u + ((s[a + 2]'hlt).toNat : Int) * 128 ^ 2 = u + ((s[a + 2]'hlt).toNat : Int) * 16384 := by rw [pow2]
            cases hp : ((u + ((s[a + 2]'hlt).toNat : Int) * 16384) % 2 == 1)
            · go_wp2
              exact bodyPost_ret (v := .agg #[.int .i64 ((u + ((s[a + 2]'hlt).toNat : Int) * 16384) / 2), .int .i64 ((a : Int) + 2 + 1), .int .i64 0]) (by simp [results, Tryz.results58, go_sem]) rfl ⟨ret3 HX.out.symm (by show _ = unf _; rw [eN]; exact (unf_even _ hp).symm) (by show ((a : Int) + 2 + 1) = (a : Int) + ((2 : Nat) : Int) + 1; omega) rfl, (Below.refl _ _).alloc (Nat.le_refl _) _⟩
            · go_wp2
              exact bodyPost_ret (v := .agg #[.int .i64 (-((u + ((s[a + 2]'hlt).toNat : Int) * 16384) / 2) - 1), .int .i64 ((a : Int) + 2 + 1), .int .i64 0]) (by simp [results, Tryz.results58, go_sem]) rfl ⟨ret3 HX.out.symm (by show _ = unf _; rw [eN]; exact (unf_odd _ hp).symm) (by show ((a : Int) + 2 + 1) = (a : Int) + ((2 : Nat) : Int) + 1; omega) rfl, (Below.refl _ _).alloc (Nat.le_refl _) _⟩
        · have HX := hide ((scan_more s a 7 2 u hlt (by omega) (by omega)).symm.trans HS.out)
          have eN : u + ((s[a + 2]'hlt).toNat : Int) % 128 * 128 ^ 2 = u + ((s[a + 2]'hlt).toNat : Int) % 128 * 16384 := by rw [pow2]
          go_wp2
          go_round
          case rel => exact ⟨3, _, by omega, by omega, (by show _ < (128 : Int) ^ 3; rw [pow3]; omega), rfl, rfl, (by rw [← eN]; exact HX)⟩
          case measure => simp [intOf]
      · have HX := hide (HS.out.symm.trans (scan_short s a 7 2 u hlt))
        go_wp2
        exact bodyPost_ret (v := .agg #[.int .i64 0, .int .i64 0, .int .i64 4]) (by simp [results, Tryz.results58, go_sem]) rfl ⟨ret3 HX.out.symm rfl rfl rfl, (Below.refl _ _).alloc (Nat.le_refl _) _⟩
    · have hu1 : u < 2097152 := by rw [pow3] at hU; exact hU
      clear hU HU
      by_cases hlt : a + 3 < s.size
      · have hb := byte_lt s (a + 3) hlt
        by_cases hc : ((s[a + 3]'hlt).toNat : Int) < 128
        · by_cases hc0 : ((s[a + 3]'hlt).toNat : Int) = 0
          · have HX := hide (HS.out.symm.trans (scan_bad s a 6 3 u hlt (.inl hc) (.inr ⟨by omega, hc0⟩)))
            have hz : (s[a + 3]'hlt).toNat = 0 := by omega
            go_wp2
            exact bodyPost_ret (v := .agg #[.int .i64 0, .int .i64 0, .int .i64 3]) (by simp [results, Tryz.results58, go_sem]) rfl ⟨ret3 HX.out.symm rfl rfl rfl, (Below.refl _ _).alloc (Nat.le_refl _) _⟩
          · have HX := hide (HS.out.symm.trans (scan_last s a 6 3 u hlt (.inl hc) (by omega)))
            have hz : ¬ (s[a + 3]'hlt).toNat = 0 := by omega
            have em : ((s[a + 3]'hlt).toNat : Int) % 128 = ((s[a + 3]'hlt).toNat : Int) := by omega
            have eN : u + ((s[a + 3]'hlt).toNat : Int) * 128 ^ 3 = u + ((s[a + 3]'hlt).toNat : Int) * 2097152 := by rw [pow3]
            cases hp : ((u + ((s[a + 3]'hlt).toNat : Int) * 2097152) % 2 == 1)
            · go_wp2
              exact bodyPost_ret (v := .agg #[.int .i64 ((u + ((s[a + 3]'hlt).toNat : Int) * 2097152) / 2), .int .i64 ((a : Int) + 3 + 1), .int .i64 0]) (by simp [results, Tryz.results58, go_sem]) rfl ⟨ret3 HX.out.symm (by show _ = unf _; rw [eN]; exact (unf_even _ hp).symm) (by show ((a : Int) + 3 + 1) = (a : Int) + ((3 : Nat) : Int) + 1; omega) rfl, (Below.refl _ _).alloc (Nat.le_refl _) _⟩
            · go_wp2
              exact bodyPost_ret (v := .agg #[.int .i64 (-((u + ((s[a + 3]'hlt).toNat : Int) * 2097152) / 2) - 1), .int .i64 ((a : Int) + 3 + 1), .int .i64 0]) (by simp [results, Tryz.results58, go_sem]) rfl ⟨ret3 HX.out.symm (by show _ = unf _; rw [eN]; exact (unf_odd _ hp).symm) (by show ((a : Int) + 3 + 1) = (a : Int) + ((3 : Nat) : Int) + 1; omega) rfl, (Below.refl _ _).alloc (Nat.le_refl _) _⟩
        · have HX := hide ((scan_more s a 6 3 u hlt (by omega) (by omega)).symm.trans HS.out)
          have eN : u + ((s[a + 3]'hlt).toNat : Int) % 128 * 128 ^ 3 = u + ((s[a + 3]'hlt).toNat : Int) % 128 * 2097152 := by rw [pow3]
          go_wp2
          go_round
          case rel => exact ⟨4, _, by omega, by omega, (by show _ < (128 : Int) ^ 4; rw [pow4]; omega), rfl, rfl, (by rw [← eN]; exact HX)⟩
          case measure => simp [intOf]
      · have HX := hide (HS.out.symm.trans (scan_short s a 6 3 u hlt))
        go_wp2
        exact bodyPost_ret (v := .agg #[.int .i64 0, .int .i64 0, .int .i64 4]) (by simp [results, Tryz.results58, go_sem]) rfl ⟨ret3 HX.out.symm rfl rfl rfl, (Below.refl _ _).alloc (Nat.le_refl _) _⟩
    · have hu1 : u < 268435456 := by rw [pow4] at hU; exact hU
      clear hU HU
      by_cases hlt : a + 4 < s.size
      · have hb := byte_lt s (a + 4) hlt
        by_cases hc : ((s[a + 4]'hlt).toNat : Int) < 128
        · by_cases hc0 : ((s[a + 4]'hlt).toNat : Int) = 0
          · have HX := hide (HS.out.symm.trans (scan_bad s a 5 4 u hlt (.inl hc) (.inr ⟨by omega, hc0⟩)))
            have hz : (s[a + 4]'hlt).toNat = 0 := by omega
            go_wp2
            exact bodyPost_ret (v := .agg #[.int .i64 0, .int .i64 0, .int .i64 3]) (by simp [results, Tryz.results58, go_sem]) rfl ⟨ret3 HX.out.symm rfl rfl rfl, (Below.refl _ _).alloc (Nat.le_refl _) _⟩
          · have HX := hide (HS.out.symm.trans (scan_last s a 5 4 u hlt (.inl hc) (by omega)))
            have hz : ¬ (s[a + 4]'hlt).toNat = 0 := by omega
            have em : ((s[a + 4]'hlt).toNat : Int) % 128 = ((s[a + 4]'hlt).toNat : Int) := by omega
            have eN : u + ((s[a + 4]'hlt).toNat : Int) * 128 ^ 4 = u + ((s[a + 4]'hlt).toNat : Int) * 268435456 := by rw [pow4]
            cases hp : ((u + ((s[a + 4]'hlt).toNat : Int) * 268435456) % 2 == 1)
            · go_wp2
              exact bodyPost_ret (v := .agg #[.int .i64 ((u + ((s[a + 4]'hlt).toNat : Int) * 268435456) / 2), .int .i64 ((a : Int) + 4 + 1), .int .i64 0]) (by simp [results, Tryz.results58, go_sem]) rfl ⟨ret3 HX.out.symm (by show _ = unf _; rw [eN]; exact (unf_even _ hp).symm) (by show ((a : Int) + 4 + 1) = (a : Int) + ((4 : Nat) : Int) + 1; omega) rfl, (Below.refl _ _).alloc (Nat.le_refl _) _⟩
            · go_wp2
              exact bodyPost_ret (v := .agg #[.int .i64 (-((u + ((s[a + 4]'hlt).toNat : Int) * 268435456) / 2) - 1), .int .i64 ((a : Int) + 4 + 1), .int .i64 0]) (by simp [results, Tryz.results58, go_sem]) rfl ⟨ret3 HX.out.symm (by show _ = unf _; rw [eN]; exact (unf_odd _ hp).symm) (by show ((a : Int) + 4 + 1) = (a : Int) + ((4 : Nat) : Int) + 1; omega) rfl, (Below.refl _ _).alloc (Nat.le_refl _) _⟩
        · have HX := hide ((scan_more s a 5 4 u hlt (by omega) (by omega)).symm.trans HS.out)
          have eN : u + ((s[a + 4]'hlt).toNat : Int) % 128 * 128 ^ 4 = u + ((s[a + 4]'hlt).toNat : Int) % 128 * 268435456 := by rw [pow4]
          go_wp2
          go_round
          case rel => exact ⟨5, _, by omega, by omega, (by show _ < (128 : Int) ^ 5; rw [pow5]; omega), rfl, rfl, (by rw [← eN]; exact HX)⟩
          case measure => simp [intOf]
      · have HX := hide (HS.out.symm.trans (scan_short s a 5 4 u hlt))
        go_wp2
        exact bodyPost_ret (v := .agg #[.int .i64 0, .int .i64 0, .int .i64 4]) (by simp [results, Tryz.results58, go_sem]) rfl ⟨ret3 HX.out.symm rfl rfl rfl, (Below.refl _ _).alloc (Nat.le_refl _) _⟩
    · have hu1 : u < 34359738368 := by rw [pow5] at hU; exact hU
      clear hU HU
      by_cases hlt : a + 5 < s.size
      · have hb := byte_lt s (a + 5) hlt
        by_cases hc : ((s[a + 5]'hlt).toNat : Int) < 128
        · by_cases hc0 : ((s[a + 5]'hlt).toNat : Int) = 0
          · have HX := hide (HS.out.symm.trans (scan_bad s a 4 5 u hlt (.inl hc) (.inr ⟨by omega, hc0⟩)))
            have hz : (s[a + 5]'hlt).toNat = 0 := by omega
            go_wp2
            exact bodyPost_ret (v := .agg #[.int .i64 0, .int .i64 0, .int .i64 3]) (by simp [results, Tryz.results58, go_sem]) rfl ⟨ret3 HX.out.symm rfl rfl rfl, (Below.refl _ _).alloc (Nat.le_refl _) _⟩
          · have HX := hide (HS.out.symm.trans (scan_last s a 4 5 u hlt (.inl hc) (by omega)))
            have hz : ¬ (s[a + 5]'hlt).toNat = 0 := by omega
            have em : ((s[a + 5]'hlt).toNat : Int) % 128 = ((s[a + 5]'hlt).toNat : Int) := by omega
            have eN : u + ((s[a + 5]'hlt).toNat : Int) * 128 ^ 5 = u + ((s[a + 5]'hlt).toNat : Int) * 34359738368 := by rw [pow5]
            cases hp : ((u + ((s[a + 5]'hlt).toNat : Int) * 34359738368) % 2 == 1)
            · go_wp2
              exact bodyPost_ret (v := .agg #[.int .i64 ((u + ((s[a + 5]'hlt).toNat : Int) * 34359738368) / 2), .int .i64 ((a : Int) + 5 + 1), .int .i64 0]) (by simp [results, Tryz.results58, go_sem]) rfl ⟨ret3 HX.out.symm (by show _ = unf _; rw [eN]; exact (unf_even _ hp).symm) (by show ((a : Int) + 5 + 1) = (a : Int) + ((5 : Nat) : Int) + 1; omega) rfl, (Below.refl _ _).alloc (Nat.le_refl _) _⟩
            · go_wp2
              exact bodyPost_ret (v := .agg #[.int .i64 (-((u + ((s[a + 5]'hlt).toNat : Int) * 34359738368) / 2) - 1), .int .i64 ((a : Int) + 5 + 1), .int .i64 0]) (by simp [results, Tryz.results58, go_sem]) rfl ⟨ret3 HX.out.symm (by show _ = unf _; rw [eN]; exact (unf_odd _ hp).symm) (by show ((a : Int) + 5 + 1) = (a : Int) + ((5 : Nat) : Int) + 1; omega) rfl, (Below.refl _ _).alloc (Nat.le_refl _) _⟩
        · have HX := hide ((scan_more s a 4 5 u hlt (by omega) (by omega)).symm.trans HS.out)
          have eN : u + ((s[a + 5]'hlt).toNat : Int) % 128 * 128 ^ 5 = u + ((s[a + 5]'hlt).toNat : Int) % 128 * 34359738368 := by rw [pow5]
          go_wp2
          go_round
          case rel => exact ⟨6, _, by omega, by omega, (by show _ < (128 : Int) ^ 6; rw [pow6]; omega), rfl, rfl, (by rw [← eN]; exact HX)⟩
          case measure => simp [intOf]
      · have HX := hide (HS.out.symm.trans (scan_short s a 4 5 u hlt))
        go_wp2
        exact bodyPost_ret (v := .agg #[.int .i64 0, .int .i64 0, .int .i64 4]) (by simp [results, Tryz.results58, go_sem]) rfl ⟨ret3 HX.out.symm rfl rfl rfl, (Below.refl _ _).alloc (Nat.le_refl _) _⟩
    · have hu1 : u < 4398046511104 := by rw [pow6] at hU; exact hU
      clear hU HU
      by_cases hlt : a + 6 < s.size
      · have hb := byte_lt s (a + 6) hlt
        by_cases hc : ((s[a + 6]'hlt).toNat : Int) < 128
        · by_cases hc0 : ((s[a + 6]'hlt).toNat : Int) = 0
          · have HX := hide (HS.out.symm.trans (scan_bad s a 3 6 u hlt (.inl hc) (.inr ⟨by omega, hc0⟩)))
            have hz : (s[a + 6]'hlt).toNat = 0 := by omega
            go_wp2
            exact bodyPost_ret (v := .agg #[.int .i64 0, .int .i64 0, .int .i64 3]) (by simp [results, Tryz.results58, go_sem]) rfl ⟨ret3 HX.out.symm rfl rfl rfl, (Below.refl _ _).alloc (Nat.le_refl _) _⟩
          · have HX := hide (HS.out.symm.trans (scan_last s a 3 6 u hlt (.inl hc) (by omega)))
            have hz : ¬ (s[a + 6]'hlt).toNat = 0 := by omega
            have em : ((s[a + 6]'hlt).toNat : Int) % 128 = ((s[a + 6]'hlt).toNat : Int) := by omega
            have eN : u + ((s[a + 6]'hlt).toNat : Int) * 128 ^ 6 = u + ((s[a + 6]'hlt).toNat : Int) * 4398046511104 := by rw [pow6]
            cases hp : ((u + ((s[a + 6]'hlt).toNat : Int) * 4398046511104) % 2 == 1)
            · go_wp2
              exact bodyPost_ret (v := .agg #[.int .i64 ((u + ((s[a + 6]'hlt).toNat : Int) * 4398046511104) / 2), .int .i64 ((a : Int) + 6 + 1), .int .i64 0]) (by simp [results, Tryz.results58, go_sem]) rfl ⟨ret3 HX.out.symm (by show _ = unf _; rw [eN]; exact (unf_even _ hp).symm) (by show ((a : Int) + 6 + 1) = (a : Int) + ((6 : Nat) : Int) + 1; omega) rfl, (Below.refl _ _).alloc (Nat.le_refl _) _⟩
            · go_wp2
              exact bodyPost_ret (v := .agg #[.int .i64 (-((u + ((s[a + 6]'hlt).toNat : Int) * 4398046511104) / 2) - 1), .int .i64 ((a : Int) + 6 + 1), .int .i64 0]) (by simp [results, Tryz.results58, go_sem]) rfl ⟨ret3 HX.out.symm (by show _ = unf _; rw [eN]; exact (unf_odd _ hp).symm) (by show ((a : Int) + 6 + 1) = (a : Int) + ((6 : Nat) : Int) + 1; omega) rfl, (Below.refl _ _).alloc (Nat.le_refl _) _⟩
        · have HX := hide ((scan_more s a 3 6 u hlt (by omega) (by omega)).symm.trans HS.out)
          have eN : u + ((s[a + 6]'hlt).toNat : Int) % 128 * 128 ^ 6 = u + ((s[a + 6]'hlt).toNat : Int) % 128 * 4398046511104 := by rw [pow6]
          go_wp2
          go_round
          case rel => exact ⟨7, _, by omega, by omega, (by show _ < (128 : Int) ^ 7; rw [pow7]; omega), rfl, rfl, (by rw [← eN]; exact HX)⟩
          case measure => simp [intOf]
      · have HX := hide (HS.out.symm.trans (scan_short s a 3 6 u hlt))
        go_wp2
        exact bodyPost_ret (v := .agg #[.int .i64 0, .int .i64 0, .int .i64 4]) (by simp [results, Tryz.results58, go_sem]) rfl ⟨ret3 HX.out.symm rfl rfl rfl, (Below.refl _ _).alloc (Nat.le_refl _) _⟩
    · have hu1 : u < 562949953421312 := by rw [pow7] at hU; exact hU
      clear hU HU
      by_cases hlt : a + 7 < s.size
      · have hb := byte_lt s (a + 7) hlt
        by_cases hc : ((s[a + 7]'hlt).toNat : Int) < 128
        · by_cases hc0 : ((s[a + 7]'hlt).toNat : Int) = 0
          · have HX := hide (HS.out.symm.trans (scan_bad s a 2 7 u hlt (.inl hc) (.inr ⟨by omega, hc0⟩)))
            have hz : (s[a + 7]'hlt).toNat = 0 := by omega
            go_wp2
            exact bodyPost_ret (v := .agg #[.int .i64 0, .int .i64 0, .int .i64 3]) (by simp [results, Tryz.results58, go_sem]) rfl ⟨ret3 HX.out.symm rfl rfl rfl, (Below.refl _ _).alloc (Nat.le_refl _) _⟩
          · have HX := hide (HS.out.symm.trans (scan_last s a 2 7 u hlt (.inl hc) (by omega)))
            have hz : ¬ (s[a + 7]'hlt).toNat = 0 := by omega
            have em : ((s[a + 7]'hlt).toNat : Int) % 128 = ((s[a + 7]'hlt).toNat : Int) := by omega
            have eN : u + ((s[a + 7]'hlt).toNat : Int) * 128 ^ 7 = u + ((s[a + 7]'hlt).toNat : Int) * 562949953421312 := by rw [pow7]
            cases hp : ((u + ((s[a + 7]'hlt).toNat : Int) * 562949953421312) % 2 == 1)
            · go_wp2
              exact bodyPost_ret (v := .agg #[.int .i64 ((u + ((s[a + 7]'hlt).toNat : Int) * 562949953421312) / 2), .int .i64 ((a : Int) + 7 + 1), .int .i64 0]) (by simp [results, Tryz.results58, go_sem]) rfl ⟨ret3 HX.out.symm (by show _ = unf _; rw [eN]; exact (unf_even _ hp).symm) (by show ((a : Int) + 7 + 1) = (a : Int) + ((7 : Nat) : Int) + 1; omega) rfl, (Below.refl _ _).alloc (Nat.le_refl _) _⟩
            · go_wp2
              exact bodyPost_ret (v := .agg #[.int .i64 (-((u + ((s[a + 7]'hlt).toNat : Int) * 562949953421312) / 2) - 1), .int .i64 ((a : Int) + 7 + 1), .int .i64 0]) (by simp [results, Tryz.results58, go_sem]) rfl ⟨ret3 HX.out.symm (by show _ = unf _; rw [eN]; exact (unf_odd _ hp).symm) (by show ((a : Int) + 7 + 1) = (a : Int) + ((7 : Nat) : Int) + 1; omega) rfl, (Below.refl _ _).alloc (Nat.le_refl _) _⟩
        · have HX := hide ((scan_more s a 2 7 u hlt (by omega) (by omega)).symm.trans HS.out)
          have eN : u + ((s[a + 7]'hlt).toNat : Int) % 128 * 128 ^ 7 = u + ((s[a + 7]'hlt).toNat : Int) % 128 * 562949953421312 := by rw [pow7]
          go_wp2
          go_round
          case rel => exact ⟨8, _, by omega, by omega, (by show _ < (128 : Int) ^ 8; rw [pow8]; omega), rfl, rfl, (by rw [← eN]; exact HX)⟩
          case measure => simp [intOf]
      · have HX := hide (HS.out.symm.trans (scan_short s a 2 7 u hlt))
        go_wp2
        exact bodyPost_ret (v := .agg #[.int .i64 0, .int .i64 0, .int .i64 4]) (by simp [results, Tryz.results58, go_sem]) rfl ⟨ret3 HX.out.symm rfl rfl rfl, (Below.refl _ _).alloc (Nat.le_refl _) _⟩
    · have hu1 : u < 72057594037927936 := by rw [pow8] at hU; exact hU
      clear hU HU
      by_cases hlt : a + 8 < s.size
      · have hb := byte_lt s (a + 8) hlt
        by_cases hc : ((s[a + 8]'hlt).toNat : Int) < 128
        · by_cases hc0 : ((s[a + 8]'hlt).toNat : Int) = 0
          · have HX := hide (HS.out.symm.trans (scan_bad s a 1 8 u hlt (.inl hc) (.inr ⟨by omega, hc0⟩)))
            have hz : (s[a + 8]'hlt).toNat = 0 := by omega
            go_wp2
            exact bodyPost_ret (v := .agg #[.int .i64 0, .int .i64 0, .int .i64 3]) (by simp [results, Tryz.results58, go_sem]) rfl ⟨ret3 HX.out.symm rfl rfl rfl, (Below.refl _ _).alloc (Nat.le_refl _) _⟩
          · have HX := hide (HS.out.symm.trans (scan_last s a 1 8 u hlt (.inl hc) (by omega)))
            have hz : ¬ (s[a + 8]'hlt).toNat = 0 := by omega
            have em : ((s[a + 8]'hlt).toNat : Int) % 128 = ((s[a + 8]'hlt).toNat : Int) := by omega
            have eN : u + ((s[a + 8]'hlt).toNat : Int) * 128 ^ 8 = u + ((s[a + 8]'hlt).toNat : Int) * 72057594037927936 := by rw [pow8]
            cases hp : ((u + ((s[a + 8]'hlt).toNat : Int) * 72057594037927936) % 2 == 1)
            · go_wp2
              exact bodyPost_ret (v := .agg #[.int .i64 ((u + ((s[a + 8]'hlt).toNat : Int) * 72057594037927936) / 2), .int .i64 ((a : Int) + 8 + 1), .int .i64 0]) (by simp [results, Tryz.results58, go_sem]) rfl ⟨ret3 HX.out.symm (by show _ = unf _; rw [eN]; exact (unf_even _ hp).symm) (by show ((a : Int) + 8 + 1) = (a : Int) + ((8 : Nat) : Int) + 1; omega) rfl, (Below.refl _ _).alloc (Nat.le_refl _) _⟩
            · go_wp2
              exact bodyPost_ret (v := .agg #[.int .i64 (-((u + ((s[a + 8]'hlt).toNat : Int) * 72057594037927936) / 2) - 1), .int .i64 ((a : Int) + 8 + 1), .int .i64 0]) (by simp [results, Tryz.results58, go_sem]) rfl ⟨ret3 HX.out.symm (by show _ = unf _; rw [eN]; exact (unf_odd _ hp).symm) (by show ((a : Int) + 8 + 1) = (a : Int) + ((8 : Nat) : Int) + 1; omega) rfl, (Below.refl _ _).alloc (Nat.le_refl _) _⟩
        · have HX := hide ((scan_more s a 1 8 u hlt (by omega) (by omega)).symm.trans HS.out)
          have eN : u + ((s[a + 8]'hlt).toNat : Int) % 128 * 128 ^ 8 = u + ((s[a + 8]'hlt).toNat : Int) % 128 * 72057594037927936 := by rw [pow8]
          go_wp2
          go_round
          case rel => exact ⟨9, _, by omega, by omega, (by show _ < (128 : Int) ^ 9; rw [pow9]; omega), rfl, rfl, (by rw [← eN]; exact HX)⟩
          case measure => simp [intOf]
      · have HX := hide (HS.out.symm.trans (scan_short s a 1 8 u hlt))
        go_wp2
        exact bodyPost_ret (v := .agg #[.int .i64 0, .int .i64 0, .int .i64 4]) (by simp [results, Tryz.results58, go_sem]) rfl ⟨ret3 HX.out.symm rfl rfl rfl, (Below.refl _ _).alloc (Nat.le_refl _) _⟩
    · have hu1 : u < 9223372036854775808 := by rw [pow9] at hU; exact hU
      clear hU HU
      by_cases hlt : a + 9 < s.size
      · have hb := byte_lt s (a + 9) hlt
        by_cases hc1 : 1 < ((s[a + 9]'hlt).toNat : Int)
        · have HX := hide (HS.out.symm.trans (scan_bad s a 0 9 u hlt (.inr rfl) (.inl ⟨rfl, hc1⟩)))
          go_wp2
          exact bodyPost_ret (v := .agg #[.int .i64 0, .int .i64 0, .int .i64 3]) (by simp [results, Tryz.results58, go_sem]) rfl ⟨ret3 HX.out.symm rfl rfl rfl, (Below.refl _ _).alloc (Nat.le_refl _) _⟩
        · by_cases hc0 : ((s[a + 9]'hlt).toNat : Int) = 0
          · have HX := hide (HS.out.symm.trans (scan_bad s a 0 9 u hlt (.inr rfl) (.inr ⟨by omega, hc0⟩)))
            have hz : (s[a + 9]'hlt).toNat = 0 := by omega
            go_wp2
            exact bodyPost_ret (v := .agg #[.int .i64 0, .int .i64 0, .int .i64 3]) (by simp [results, Tryz.results58, go_sem]) rfl ⟨ret3 HX.out.symm rfl rfl rfl, (Below.refl _ _).alloc (Nat.le_refl _) _⟩
          · have HX := hide (HS.out.symm.trans (scan_last s a 0 9 u hlt (.inr rfl) (by omega)))
            have hz : ¬ (s[a + 9]'hlt).toNat = 0 := by omega
            have em : ((s[a + 9]'hlt).toNat : Int) % 128 = ((s[a + 9]'hlt).toNat : Int) := by omega
            have eN : u + ((s[a + 9]'hlt).toNat : Int) * 128 ^ 9 = u + ((s[a + 9]'hlt).toNat : Int) * 9223372036854775808 := by rw [pow9]
            cases hp : ((u + ((s[a + 9]'hlt).toNat : Int) * 9223372036854775808) % 2 == 1)
            · go_wp2
              exact bodyPost_ret (v := .agg #[.int .i64 ((u + ((s[a + 9]'hlt).toNat : Int) * 9223372036854775808) / 2), .int .i64 ((a : Int) + 9 + 1), .int .i64 0]) (by simp [results, Tryz.results58, go_sem]) rfl ⟨ret3 HX.out.symm (by show _ = unf _; rw [eN]; exact (unf_even _ hp).symm) (by show ((a : Int) + 9 + 1) = (a : Int) + ((9 : Nat) : Int) + 1; omega) rfl, (Below.refl _ _).alloc (Nat.le_refl _) _⟩
            · go_wp2
              exact bodyPost_ret (v := .agg #[.int .i64 (-((u + ((s[a + 9]'hlt).toNat : Int) * 9223372036854775808) / 2) - 1), .int .i64 ((a : Int) + 9 + 1), .int .i64 0]) (by simp [results, Tryz.results58, go_sem]) rfl ⟨ret3 HX.out.symm (by show _ = unf _; rw [eN]; exact (unf_odd _ hp).symm) (by show ((a : Int) + 9 + 1) = (a : Int) + ((9 : Nat) : Int) + 1; omega) rfl, (Below.refl _ _).alloc (Nat.le_refl _) _⟩
      · have HX := hide (HS.out.symm.trans (scan_short s a 0 9 u hlt))
        go_wp2
        exact bodyPost_ret (v := .agg #[.int .i64 0, .int .i64 0, .int .i64 4]) (by simp [results, Tryz.results58, go_sem]) rfl ⟨ret3 HX.out.symm rfl rfl rfl, (Below.refl _ _).alloc (Nat.le_refl _) _⟩
end Go.Proofs.YtnpbmaajgiapmaaGreatDoor.St3
/- The specification's l03Seen: what the head of a right disk says. -/
namespace Go.Proofs.YtnpbmaajgiapmaaGreatDoor
open Go.RowKit

theorem Tryz.outDisk (a b c d : Value) (w : World) : (Instr.field 101 (.agg #[a, b, c, d]) 0).run Tryz.prog w = .ok (.agg #[a, b]) w := by kernel_rfl
theorem Tryz.outData (a b c d : Value) (w : World) : (Instr.field 101 (.agg #[a, b, c, d]) 1).run Tryz.prog w = .ok c w := by kernel_rfl
theorem Tryz.outCode (a b c d : Value) (w : World) : (Instr.field 101 (.agg #[a, b, c, d]) 2).run Tryz.prog w = .ok d w := by kernel_rfl

def headText (xs : List ByteArray) (ps : List (Int × ByteArray)) : ByteArray := lastAt 0 ps (xs.getD 0 ⟨#[]⟩)

set_option maxRecDepth 100000 in
set_option maxHeartbeats 1000000 in
theorem specSeen_bad (vs vp : Value) (xs : List ByteArray) (ps : List (Int × ByteArray)) (c : Int) (w : World) (hok : right xs ps = true) (hx : 1 ≤ xs.length) (hn : xs.length ≤ 1048576) (hn2 : ps.length ≤ 1048576) (hr : Reads w vs xs) (hp : ReadsP w vp ps) (hc : c ≠ 0)
    (hU : ∀ W : World, Calls Tryz.prog 95 #[.string (headText xs ps)] W fun e w' => e = .returned (.agg #[.string ⟨#[]⟩, .int .i64 0, .int .i64 c]) ∧ Below W.heap.size W w') :
    Calls Tryz.prog 67 #[.agg #[vs, vp]] w fun e w' => e = .returned (.tuple #[.int .i64 0, .int .i64 0, .int .i64 0, .int .i64 c]) ∧ Below w.heap.size w w' := by
  have hb0 : Below w.heap.size w (w.alloc (.cells #[vs, vp] 30)) := (Below.refl _ _).alloc (Nat.le_refl _) _
  have HR := hide (hr.below hb0 (Nat.le_refl _))
  have HP := hide (hp.below hb0 (Nat.le_refl _))
  have HB0 := hide hb0
  have HU := hide hU
  have HO := hide (show readOut xs ps 0 = ⟨xs, ps, headText xs ps, 0⟩ by unfold readOut headText; rw [if_pos hok, if_pos (by omega)]; rfl)
  obtain ⟨p1, c1, rfl, hq⟩ := hr
  obtain ⟨p2, c2, rfl, hq2⟩ := hp
  clear hb0 hq hq2 hU
  have hfd := Tryz.outData
  go_enter Tryz.func67, Tryz.ntmps67
  go_wp2_with fail
  refine (specRead_any _ _ xs ps 0 _ hn hn2 HR.out HP.out).mono ?_
  rw [HO.out]
  rintro e w1 ⟨⟨us, up, rfl, o1, o2, dd⟩, hb1⟩
  have HB1 := hide (HB0.out.trans (hb1.mono HB0.out.size))
  clear o1 o2 dd hb1
  go_wp2_with fail
  refine (HU.out _).mono ?_
  rintro e w2 ⟨rfl, hb2⟩
  have HB2 := hide hb2
  clear hb2
  go_wp2
  go_region
  go_wp2
  refine bodyPost_ret (v := .tuple #[.int .i64 0, .int .i64 0, .int .i64 0, .int .i64 c]) (by simp [results, Tryz.results67, go_sem]) rfl ⟨rfl, ?_⟩
  have hB := HB1.out.trans (HB2.out.mono HB1.out.size)
  exact (hB.alloc hB.size _).drew
end Go.Proofs.YtnpbmaajgiapmaaGreatDoor
/- l03Seen, case 1. -/
namespace Go.Proofs.YtnpbmaajgiapmaaGreatDoor
open Go.RowKit

set_option maxRecDepth 100000 in
set_option maxHeartbeats 8000000 in
theorem specSeen_c1 (vs vp : Value) (xs : List ByteArray) (ps : List (Int × ByteArray)) (t : ByteArray) (A1 A3 B1 B3 C1 C3 n3 : Int) (n1 n2 : Nat) (w : World) (hok : right xs ps = true) (hx : 1 ≤ xs.length) (hn : xs.length ≤ 1048576) (hn2 : ps.length ≤ 1048576) (hr : Reads w vs xs) (hp : ReadsP w vp ps)
    (ht : t.size ≤ 8000) (hn1 : n1 ≤ 8000) (hn2' : n2 ≤ 8000) (HA : Hid (St3.scan t 0 10 0 0 = (A1, (n1 : Int), A3))) (HB : Hid (St3.scan t n1 10 0 0 = (B1, (n2 : Int), B3))) (HC : Hid (St3.scan t n2 10 0 0 = (C1, n3, C3))) (h0 : A3 ≠ 0)
    (hU : ∀ W : World, Calls Tryz.prog 95 #[.string (headText xs ps)] W fun e w' => e = .returned (.agg #[.string t, .int .i64 0, .int .i64 0]) ∧ Below W.heap.size W w') :
    Calls Tryz.prog 67 #[.agg #[vs, vp]] w fun e w' => e = .returned (.tuple #[.int .i64 0, .int .i64 0, .int .i64 0, .int .i64 3]) ∧ Below w.heap.size w w' := by
  have H0_ := hide h0
  clear h0
  have hb0 : Below w.heap.size w (w.alloc (.cells #[vs, vp] 30)) := (Below.refl _ _).alloc (Nat.le_refl _) _
  have HR := hide (hr.below hb0 (Nat.le_refl _))
  have HP := hide (hp.below hb0 (Nat.le_refl _))
  have HRw := hide hr
  have HPw := hide hp
  have HB0 := hide hb0
  have HU := hide hU
  have HO := hide (show readOut xs ps 0 = ⟨xs, ps, headText xs ps, 0⟩ by unfold readOut headText; rw [if_pos hok, if_pos (by omega)]; rfl)
  obtain ⟨p1, c1, rfl, hq⟩ := hr
  obtain ⟨p2, c2, rfl, hq2⟩ := hp
  have HD := hide (row_new w [.slice p1 xs.length c1, .slice p2 ps.length c2] 30)
  clear hb0 hq hq2 hU
  have hfd := Tryz.outData
  go_enter Tryz.func67, Tryz.ntmps67
  go_wp2_with fail
  refine (specRead_any _ _ xs ps 0 _ hn hn2 HR.out HP.out).mono ?_
  rw [HO.out]
  rintro e w1 ⟨⟨us, up, rfl, o1, o2, dd⟩, hb1⟩
  have HB1 := hide (HB0.out.trans (hb1.mono HB0.out.size))
  have HD1 := hide (Row.after hb1 HD.out)
  clear o1 o2 dd hb1 HD
  go_wp2_with fail
  refine (HU.out _).mono ?_
  rintro e w2 ⟨rfl, hb2⟩
  have b2 := HB1.out.trans (hb2.mono HB1.out.size)
  have HD2 := hide ((Row.after hb2 HD1.out).alloc (.cells #[.string t, .int .i64 0, .int .i64 0] 89))
  have HB2a := hide (b2.alloc b2.size (.cells #[.string t, .int .i64 0, .int .i64 0] 89))
  have HX2 := hide (row_new w2 [.string t, .int .i64 0, .int .i64 0] 89)
  clear b2 hb2 HD1
  go_wp2_with fail
  refine (St3.specGetNum_any t 0 _ _ ht (by omega) HA).mono ?_
  rintro e w3 ⟨rfl, hb3⟩
  have b3 := HB2a.out.trans (hb3.mono HB2a.out.size)
  have HX3 := hide (Row.after hb3 HX2.out)
  have HD3 := hide ((Row.after hb3 HD2.out).alloc (.cells #[.int .i64 A1, .int .i64 n1, .int .i64 A3] 86))
  have HB3a := hide (b3.alloc b3.size (.cells #[.int .i64 A1, .int .i64 n1, .int .i64 A3] 86))
  have HX3a := hide (HX3.out.alloc (.cells #[.int .i64 A1, .int .i64 n1, .int .i64 A3] 86))
  have HG3 := hide (row_new w3 [.int .i64 A1, .int .i64 n1, .int .i64 A3] 86)
  have q0 : w3.cell? ⟨w2.heap.size, 0, none⟩ = some (.string t) := HX3.out.cell 0
  have l3 : w2.heap.size < w3.heap.size := HX3.out.lt
  clear hb3 b3 HB2a HX2 HD2
  go_wp2_with fail
  refine (St3.specGetNum_any t n1 _ _ ht (by omega) HB).mono ?_
  rintro e w4 ⟨rfl, hb4⟩
  have b4 := HB3a.out.trans (hb4.mono HB3a.out.size)
  have HX4 := hide (Row.after hb4 HX3a.out)
  have HG4 := hide (Row.after hb4 HG3.out)
  have HD4 := hide ((Row.after hb4 HD3.out).alloc (.cells #[.int .i64 B1, .int .i64 n2, .int .i64 B3] 86))
  have HB4a := hide (b4.alloc b4.size (.cells #[.int .i64 B1, .int .i64 n2, .int .i64 B3] 86))
  have HX4a := hide (HX4.out.alloc (.cells #[.int .i64 B1, .int .i64 n2, .int .i64 B3] 86))
  have HG4a := hide (HG4.out.alloc (.cells #[.int .i64 B1, .int .i64 n2, .int .i64 B3] 86))
  have HS4 := hide (row_new w4 [.int .i64 B1, .int .i64 n2, .int .i64 B3] 86)
  have r0 : w4.cell? ⟨w2.heap.size, 0, none⟩ = some (.string t) := HX4.out.cell 0
  have l4 : w2.heap.size < w4.heap.size := HX4.out.lt
  clear hb4 b4 HB3a HX3a HG3 q0 l3 HX3 HD3
  go_wp2_with fail
  refine (St3.specGetNum_any t n2 _ _ ht (by omega) HC).mono ?_
  rintro e w5 ⟨rfl, hb5⟩
  obtain ⟨W, hW⟩ : ∃ W, W = w5.alloc (.cells #[.int .i64 C1, .int .i64 n3, .int .i64 C3] 86) := ⟨_, rfl⟩
  have b5 := HB4a.out.trans (hb5.mono HB4a.out.size)
  have HBW := hide (show Below w.heap.size w W by rw [hW]; exact b5.alloc b5.size _)
  have HGW := hide (show Row W w3.heap.size 86 [.int .i64 A1, .int .i64 n1, .int .i64 A3] by rw [hW]; exact (Row.after hb5 HG4a.out).alloc _)
  have HSW := hide (show Row W w4.heap.size 86 [.int .i64 B1, .int .i64 n2, .int .i64 B3] by rw [hW]; exact (Row.after hb5 HS4.out).alloc _)
  have HZW := hide (show Row W w5.heap.size 86 [.int .i64 C1, .int .i64 n3, .int .i64 C3] by rw [hW]; exact row_new w5 _ _)
  have HDW := hide (show Row W w.heap.size 30 [.slice p1 xs.length c1, .slice p2 ps.length c2] by rw [hW]; exact (Row.after hb5 HD4.out).alloc _)
  clear hb5 b5 HB4a HX4a HG4a HS4 r0 l4 HX4 HG4 HD4
  have bA : (A3 != 0) = true := by simpa using H0_.out
  go_wp2_with fail
  rw [← hW]
  clear hW
  refine wp_region_held (S := fun x : World => x.cell? ⟨w3.heap.size, 0, none⟩ = some (.int .i64 A1) ∧ x.cell? ⟨w3.heap.size, 2, none⟩ = some (.int .i64 A3) ∧ x.cell? ⟨w4.heap.size, 0, none⟩ = some (.int .i64 B1) ∧ x.cell? ⟨w4.heap.size, 2, none⟩ = some (.int .i64 B3) ∧ x.cell? ⟨w5.heap.size, 0, none⟩ = some (.int .i64 C1) ∧ x.cell? ⟨w5.heap.size, 2, none⟩ = some (.int .i64 C3) ∧ x.cell? ⟨w.heap.size, 0, none⟩ = some (.slice p1 xs.length c1) ∧ x.cell? ⟨w.heap.size, 1, none⟩ = some (.slice p2 ps.length c2)) (by kernel_rfl) ?_
  have HSS := hide (show ∀ x, Below W.heap.size W x → (fun x : World => x.cell? ⟨w3.heap.size, 0, none⟩ = some (.int .i64 A1) ∧ x.cell? ⟨w3.heap.size, 2, none⟩ = some (.int .i64 A3) ∧ x.cell? ⟨w4.heap.size, 0, none⟩ = some (.int .i64 B1) ∧ x.cell? ⟨w4.heap.size, 2, none⟩ = some (.int .i64 B3) ∧ x.cell? ⟨w5.heap.size, 0, none⟩ = some (.int .i64 C1) ∧ x.cell? ⟨w5.heap.size, 2, none⟩ = some (.int .i64 C3) ∧ x.cell? ⟨w.heap.size, 0, none⟩ = some (.slice p1 xs.length c1) ∧ x.cell? ⟨w.heap.size, 1, none⟩ = some (.slice p2 ps.length c2)) x from fun x h => ⟨(Row.after h HGW.out).cell 0, (Row.after h HGW.out).cell 2, (Row.after h HSW.out).cell 0, (Row.after h HSW.out).cell 2, (Row.after h HZW.out).cell 0, (Row.after h HZW.out).cell 2, (Row.after h HDW.out).cell 0, (Row.after h HDW.out).cell 1⟩)
  have HS := hide (HSS.out { W with drawn := W.drawn + 1 } (Below.refl _ _).drew)
  refine wpAnyH_take (i := 0) (oi := _) (v := .pointer (some ⟨w3.heap.size, 2, none⟩)) rfl (by kernel_rfl) (by kernel_rfl) (by kernel_rfl) (fun _ _ _ h => h) (Or.inl ⟨by rfl, by intro w hSw; go_split_ands; go_simp⟩) HS.out ?_
  simp only [Act.put, List.getElem_toArray, List.getElem_cons_zero, List.setIfInBounds_toArray, List.set_cons_zero, List.set_cons_succ]
  refine wpAnyH_take (i := 1) (oi := _) (v := .int .i64 A3) rfl (by kernel_rfl) (by kernel_rfl) (by kernel_rfl) (fun _ _ _ h => h) (Or.inl ⟨by rfl, by intro w hSw; go_split_ands; go_simp⟩) HS.out ?_
  simp only [Act.put, List.getElem_toArray, List.getElem_cons_zero, List.getElem_cons_succ, List.setIfInBounds_toArray, List.set_cons_zero, List.set_cons_succ]
  refine wpAnyH_take (i := 2) (oi := _) (v := .bool true) rfl (by kernel_rfl) (by kernel_rfl) (by kernel_rfl) (fun _ _ _ h => h) (Or.inl ⟨by rfl, by intro w hSw; go_split_ands; go_simp⟩) HS.out ?_
  simp only [Act.put, List.getElem_toArray, List.getElem_cons_zero, List.getElem_cons_succ, List.setIfInBounds_toArray, List.set_cons_zero, List.set_cons_succ]
  refine wpAnyH_take (i := 3) (oi := _) (v := .bool true) rfl (by kernel_rfl) (by kernel_rfl) (by kernel_rfl) (fun _ _ _ h => h) (Or.inl ⟨by rfl, by intro w hSw; go_split_ands; go_simp⟩) HS.out ?_
  simp only [Act.put, List.getElem_toArray, List.getElem_cons_zero, List.getElem_cons_succ, List.setIfInBounds_toArray, List.set_cons_zero, List.set_cons_succ]
  refine wpAnyH_take (i := 4) (oi := _) (v := undef) rfl (by kernel_rfl) (by kernel_rfl) (by kernel_rfl) (fun _ _ _ h => h) (Or.inr ⟨by rfl, rfl⟩) HS.out ?_
  simp only [Act.put, List.getElem_toArray, List.getElem_cons_zero, List.getElem_cons_succ, List.setIfInBounds_toArray, List.set_cons_zero, List.set_cons_succ]
  refine wpAnyH_take (i := 5) (oi := _) (v := undef) rfl (by kernel_rfl) (by kernel_rfl) (by kernel_rfl) (fun _ _ _ h => h) (Or.inr ⟨by rfl, rfl⟩) HS.out ?_
  simp only [Act.put, List.getElem_toArray, List.getElem_cons_zero, List.getElem_cons_succ, List.setIfInBounds_toArray, List.set_cons_zero, List.set_cons_succ]
  refine wpAnyH_take (i := 6) (oi := _) (v := undef) rfl (by kernel_rfl) (by kernel_rfl) (by kernel_rfl) (fun _ _ _ h => h) (Or.inr ⟨by rfl, rfl⟩) HS.out ?_
  simp only [Act.put, List.getElem_toArray, List.getElem_cons_zero, List.getElem_cons_succ, List.setIfInBounds_toArray, List.set_cons_zero, List.set_cons_succ]
  refine wpAnyH_take (i := 7) (oi := _) (v := .bool true) rfl (by kernel_rfl) (by kernel_rfl) (by kernel_rfl) (fun _ _ _ h => h) (Or.inl ⟨by rfl, by intro w hSw; go_split_ands; go_simp⟩) HS.out ?_
  simp only [Act.put, List.getElem_toArray, List.getElem_cons_zero, List.getElem_cons_succ, List.setIfInBounds_toArray, List.set_cons_zero, List.set_cons_succ]
  refine wpAnyH_take (i := 8) (oi := _) (v := .bool true) rfl (by kernel_rfl) (by kernel_rfl) (by kernel_rfl) (fun _ _ _ h => h) (Or.inl ⟨by rfl, by intro w hSw; go_split_ands; go_simp⟩) HS.out ?_
  simp only [Act.put, List.getElem_toArray, List.getElem_cons_zero, List.getElem_cons_succ, List.setIfInBounds_toArray, List.set_cons_zero, List.set_cons_succ]
  refine wpAnyH_take (i := 9) (oi := _) (v := undef) rfl (by kernel_rfl) (by kernel_rfl) (by kernel_rfl) (fun _ _ _ h => h) (Or.inr ⟨by rfl, rfl⟩) HS.out ?_
  simp only [Act.put, List.getElem_toArray, List.getElem_cons_zero, List.getElem_cons_succ, List.setIfInBounds_toArray, List.set_cons_zero, List.set_cons_succ]
  refine wpAnyH_take (i := 10) (oi := _) (v := undef) rfl (by kernel_rfl) (by kernel_rfl) (by kernel_rfl) (fun _ _ _ h => h) (Or.inr ⟨by rfl, rfl⟩) HS.out ?_
  simp only [Act.put, List.getElem_toArray, List.getElem_cons_zero, List.getElem_cons_succ, List.setIfInBounds_toArray, List.set_cons_zero, List.set_cons_succ]
  refine wpAnyH_take (i := 11) (oi := _) (v := undef) rfl (by kernel_rfl) (by kernel_rfl) (by kernel_rfl) (fun _ _ _ h => h) (Or.inr ⟨by rfl, rfl⟩) HS.out ?_
  simp only [Act.put, List.getElem_toArray, List.getElem_cons_zero, List.getElem_cons_succ, List.setIfInBounds_toArray, List.set_cons_zero, List.set_cons_succ]
  refine wpAnyH_take (i := 12) (oi := _) (v := .bool true) rfl (by kernel_rfl) (by kernel_rfl) (by kernel_rfl) (fun _ _ _ h => h) (Or.inl ⟨by rfl, by intro w hSw; go_split_ands; go_simp⟩) HS.out ?_
  simp only [Act.put, List.getElem_toArray, List.getElem_cons_zero, List.getElem_cons_succ, List.setIfInBounds_toArray, List.set_cons_zero, List.set_cons_succ]
  refine wpAnyH_take (i := 13) (oi := _) (v := .bool true) rfl (by kernel_rfl) (by kernel_rfl) (by kernel_rfl) (fun _ _ _ h => h) (Or.inl ⟨by rfl, by intro w hSw; go_split_ands; go_simp⟩) HS.out ?_
  simp only [Act.put, List.getElem_toArray, List.getElem_cons_zero, List.getElem_cons_succ, List.setIfInBounds_toArray, List.set_cons_zero, List.set_cons_succ]
  refine wpAnyH_take (i := 14) (oi := _) (v := undef) rfl (by kernel_rfl) (by kernel_rfl) (by kernel_rfl) (fun _ _ _ h => h) (Or.inr ⟨by rfl, rfl⟩) HS.out ?_
  simp only [Act.put, List.getElem_toArray, List.getElem_cons_zero, List.getElem_cons_succ, List.setIfInBounds_toArray, List.set_cons_zero, List.set_cons_succ]
  refine wpAnyH_take (i := 15) (oi := _) (v := undef) rfl (by kernel_rfl) (by kernel_rfl) (by kernel_rfl) (fun _ _ _ h => h) (Or.inr ⟨by rfl, rfl⟩) HS.out ?_
  simp only [Act.put, List.getElem_toArray, List.getElem_cons_zero, List.getElem_cons_succ, List.setIfInBounds_toArray, List.set_cons_zero, List.set_cons_succ]
  refine wpAnyH_take (i := 16) (oi := _) (v := undef) rfl (by kernel_rfl) (by kernel_rfl) (by kernel_rfl) (fun _ _ _ h => h) (Or.inr ⟨by rfl, rfl⟩) HS.out ?_
  simp only [Act.put, List.getElem_toArray, List.getElem_cons_zero, List.getElem_cons_succ, List.setIfInBounds_toArray, List.set_cons_zero, List.set_cons_succ]
  refine wpAnyH_take (i := 17) (oi := _) (v := undef) rfl (by kernel_rfl) (by kernel_rfl) (by kernel_rfl) (fun _ _ _ h => h) (Or.inr ⟨by rfl, rfl⟩) HS.out ?_
  simp only [Act.put, List.getElem_toArray, List.getElem_cons_zero, List.getElem_cons_succ, List.setIfInBounds_toArray, List.set_cons_zero, List.set_cons_succ]
  refine wpAnyH_take (i := 18) (oi := _) (v := undef) rfl (by kernel_rfl) (by kernel_rfl) (by kernel_rfl) (fun _ _ _ h => h) (Or.inr ⟨by rfl, rfl⟩) HS.out ?_
  simp only [Act.put, List.getElem_toArray, List.getElem_cons_zero, List.getElem_cons_succ, List.setIfInBounds_toArray, List.set_cons_zero, List.set_cons_succ]
  refine wpAnyH_take (i := 19) (oi := _) (v := undef) rfl (by kernel_rfl) (by kernel_rfl) (by kernel_rfl) (fun _ _ _ h => h) (Or.inr ⟨by rfl, rfl⟩) HS.out ?_
  simp only [Act.put, List.getElem_toArray, List.getElem_cons_zero, List.getElem_cons_succ, List.setIfInBounds_toArray, List.set_cons_zero, List.set_cons_succ]
  refine wpAnyH_take (i := 20) (oi := _) (v := undef) rfl (by kernel_rfl) (by kernel_rfl) (by kernel_rfl) (fun _ _ _ h => h) (Or.inr ⟨by rfl, rfl⟩) HS.out ?_
  simp only [Act.put, List.getElem_toArray, List.getElem_cons_zero, List.getElem_cons_succ, List.setIfInBounds_toArray, List.set_cons_zero, List.set_cons_succ]
  refine wpAnyH_take (i := 21) (oi := _) (v := undef) rfl (by kernel_rfl) (by kernel_rfl) (by kernel_rfl) (fun _ _ _ h => h) (Or.inr ⟨by rfl, rfl⟩) HS.out ?_
  simp only [Act.put, List.getElem_toArray, List.getElem_cons_zero, List.getElem_cons_succ, List.setIfInBounds_toArray, List.set_cons_zero, List.set_cons_succ]
  refine wpAnyH_take (i := 22) (oi := _) (v := undef) rfl (by kernel_rfl) (by kernel_rfl) (by kernel_rfl) (fun _ _ _ h => h) (Or.inr ⟨by rfl, rfl⟩) HS.out ?_
  simp only [Act.put, List.getElem_toArray, List.getElem_cons_zero, List.getElem_cons_succ, List.setIfInBounds_toArray, List.set_cons_zero, List.set_cons_succ]
  refine wpAnyH_take (i := 23) (oi := _) (v := undef) rfl (by kernel_rfl) (by kernel_rfl) (by kernel_rfl) (fun _ _ _ h => h) (Or.inr ⟨by rfl, rfl⟩) HS.out ?_
  simp only [Act.put, List.getElem_toArray, List.getElem_cons_zero, List.getElem_cons_succ, List.setIfInBounds_toArray, List.set_cons_zero, List.set_cons_succ]
  refine wpAnyH_take (i := 24) (oi := _) (v := undef) rfl (by kernel_rfl) (by kernel_rfl) (by kernel_rfl) (fun _ _ _ h => h) (Or.inr ⟨by rfl, rfl⟩) HS.out ?_
  simp only [Act.put, List.getElem_toArray, List.getElem_cons_zero, List.getElem_cons_succ, List.setIfInBounds_toArray, List.set_cons_zero, List.set_cons_succ]
  refine wpAnyH_take (i := 25) (oi := _) (v := .bool true) rfl (by kernel_rfl) (by kernel_rfl) (by kernel_rfl) (fun _ _ _ h => h) (Or.inl ⟨by rfl, by intro w hSw; go_split_ands; go_simp⟩) HS.out ?_
  simp only [Act.put, List.getElem_toArray, List.getElem_cons_zero, List.getElem_cons_succ, List.setIfInBounds_toArray, List.set_cons_zero, List.set_cons_succ]
  refine wpAnyH_take (i := 26) (oi := _) (v := .bool true) rfl (by kernel_rfl) (by kernel_rfl) (by kernel_rfl) (fun _ _ _ h => h) (Or.inl ⟨by rfl, by intro w hSw; go_split_ands; go_simp⟩) HS.out ?_
  simp only [Act.put, List.getElem_toArray, List.getElem_cons_zero, List.getElem_cons_succ, List.setIfInBounds_toArray, List.set_cons_zero, List.set_cons_succ]
  refine wpAnyH_take (i := 27) (oi := _) (v := undef) rfl (by kernel_rfl) (by kernel_rfl) (by kernel_rfl) (fun _ _ _ h => h) (Or.inr ⟨by rfl, rfl⟩) HS.out ?_
  simp only [Act.put, List.getElem_toArray, List.getElem_cons_zero, List.getElem_cons_succ, List.setIfInBounds_toArray, List.set_cons_zero, List.set_cons_succ]
  refine wpAnyH_take (i := 28) (oi := _) (v := undef) rfl (by kernel_rfl) (by kernel_rfl) (by kernel_rfl) (fun _ _ _ h => h) (Or.inr ⟨by rfl, rfl⟩) HS.out ?_
  simp only [Act.put, List.getElem_toArray, List.getElem_cons_zero, List.getElem_cons_succ, List.setIfInBounds_toArray, List.set_cons_zero, List.set_cons_succ]
  refine wpAnyH_take (i := 29) (oi := _) (v := undef) rfl (by kernel_rfl) (by kernel_rfl) (by kernel_rfl) (fun _ _ _ h => h) (Or.inr ⟨by rfl, rfl⟩) HS.out ?_
  simp only [Act.put, List.getElem_toArray, List.getElem_cons_zero, List.getElem_cons_succ, List.setIfInBounds_toArray, List.set_cons_zero, List.set_cons_succ]
  refine wpAnyH_take (i := 30) (oi := _) (v := .bool true) rfl (by kernel_rfl) (by kernel_rfl) (by kernel_rfl) (fun _ _ _ h => h) (Or.inl ⟨by rfl, by intro w hSw; go_split_ands; go_simp⟩) HS.out ?_
  simp only [Act.put, List.getElem_toArray, List.getElem_cons_zero, List.getElem_cons_succ, List.setIfInBounds_toArray, List.set_cons_zero, List.set_cons_succ]
  refine wpAnyH_take (i := 31) (oi := _) (v := .bool true) rfl (by kernel_rfl) (by kernel_rfl) (by kernel_rfl) (fun _ _ _ h => h) (Or.inl ⟨by rfl, by intro w hSw; go_split_ands; go_simp⟩) HS.out ?_
  simp only [Act.put, List.getElem_toArray, List.getElem_cons_zero, List.getElem_cons_succ, List.setIfInBounds_toArray, List.set_cons_zero, List.set_cons_succ]
  refine wpAnyH_take (i := 32) (oi := _) (v := undef) rfl (by kernel_rfl) (by kernel_rfl) (by kernel_rfl) (fun _ _ _ h => h) (Or.inr ⟨by rfl, rfl⟩) HS.out ?_
  simp only [Act.put, List.getElem_toArray, List.getElem_cons_zero, List.getElem_cons_succ, List.setIfInBounds_toArray, List.set_cons_zero, List.set_cons_succ]
  refine wpAnyH_take (i := 33) (oi := _) (v := undef) rfl (by kernel_rfl) (by kernel_rfl) (by kernel_rfl) (fun _ _ _ h => h) (Or.inr ⟨by rfl, rfl⟩) HS.out ?_
  simp only [Act.put, List.getElem_toArray, List.getElem_cons_zero, List.getElem_cons_succ, List.setIfInBounds_toArray, List.set_cons_zero, List.set_cons_succ]
  refine wpAnyH_take (i := 34) (oi := _) (v := undef) rfl (by kernel_rfl) (by kernel_rfl) (by kernel_rfl) (fun _ _ _ h => h) (Or.inr ⟨by rfl, rfl⟩) HS.out ?_
  simp only [Act.put, List.getElem_toArray, List.getElem_cons_zero, List.getElem_cons_succ, List.setIfInBounds_toArray, List.set_cons_zero, List.set_cons_succ]
  refine wpAnyH_take (i := 35) (oi := _) (v := undef) rfl (by kernel_rfl) (by kernel_rfl) (by kernel_rfl) (fun _ _ _ h => h) (Or.inr ⟨by rfl, rfl⟩) HS.out ?_
  simp only [Act.put, List.getElem_toArray, List.getElem_cons_zero, List.getElem_cons_succ, List.setIfInBounds_toArray, List.set_cons_zero, List.set_cons_succ]
  refine wpAnyH_take (i := 36) (oi := _) (v := .bool true) rfl (by kernel_rfl) (by kernel_rfl) (by kernel_rfl) (fun _ _ _ h => h) (Or.inl ⟨by rfl, by intro w hSw; go_split_ands; go_simp⟩) HS.out ?_
  simp only [Act.put, List.getElem_toArray, List.getElem_cons_zero, List.getElem_cons_succ, List.setIfInBounds_toArray, List.set_cons_zero, List.set_cons_succ]
  refine wpAnyH_take (i := 37) (oi := _) (v := .bool true) rfl (by kernel_rfl) (by kernel_rfl) (by kernel_rfl) (fun _ _ _ h => h) (Or.inl ⟨by rfl, by intro w hSw; go_split_ands; go_simp⟩) HS.out ?_
  simp only [Act.put, List.getElem_toArray, List.getElem_cons_zero, List.getElem_cons_succ, List.setIfInBounds_toArray, List.set_cons_zero, List.set_cons_succ]
  refine wpAnyH_take (i := 38) (oi := _) (v := undef) rfl (by kernel_rfl) (by kernel_rfl) (by kernel_rfl) (fun _ _ _ h => h) (Or.inr ⟨by rfl, rfl⟩) HS.out ?_
  simp only [Act.put, List.getElem_toArray, List.getElem_cons_zero, List.getElem_cons_succ, List.setIfInBounds_toArray, List.set_cons_zero, List.set_cons_succ]
  refine wpAnyH_take (i := 39) (oi := _) (v := undef) rfl (by kernel_rfl) (by kernel_rfl) (by kernel_rfl) (fun _ _ _ h => h) (Or.inr ⟨by rfl, rfl⟩) HS.out ?_
  simp only [Act.put, List.getElem_toArray, List.getElem_cons_zero, List.getElem_cons_succ, List.setIfInBounds_toArray, List.set_cons_zero, List.set_cons_succ]
  refine wpAnyH_take (i := 40) (oi := _) (v := undef) rfl (by kernel_rfl) (by kernel_rfl) (by kernel_rfl) (fun _ _ _ h => h) (Or.inr ⟨by rfl, rfl⟩) HS.out ?_
  simp only [Act.put, List.getElem_toArray, List.getElem_cons_zero, List.getElem_cons_succ, List.setIfInBounds_toArray, List.set_cons_zero, List.set_cons_succ]
  refine wpAnyH_take (i := 41) (oi := _) (v := undef) rfl (by kernel_rfl) (by kernel_rfl) (by kernel_rfl) (fun _ _ _ h => h) (Or.inr ⟨by rfl, rfl⟩) HS.out ?_
  simp only [Act.put, List.getElem_toArray, List.getElem_cons_zero, List.getElem_cons_succ, List.setIfInBounds_toArray, List.set_cons_zero, List.set_cons_succ]
  refine wpAnyH_take (i := 42) (oi := _) (v := undef) rfl (by kernel_rfl) (by kernel_rfl) (by kernel_rfl) (fun _ _ _ h => h) (Or.inr ⟨by rfl, rfl⟩) HS.out ?_
  simp only [Act.put, List.getElem_toArray, List.getElem_cons_zero, List.getElem_cons_succ, List.setIfInBounds_toArray, List.set_cons_zero, List.set_cons_succ]
  refine wpAnyH_take (i := 43) (oi := _) (v := undef) rfl (by kernel_rfl) (by kernel_rfl) (by kernel_rfl) (fun _ _ _ h => h) (Or.inr ⟨by rfl, rfl⟩) HS.out ?_
  simp only [Act.put, List.getElem_toArray, List.getElem_cons_zero, List.getElem_cons_succ, List.setIfInBounds_toArray, List.set_cons_zero, List.set_cons_succ]
  refine wpAnyH_take (i := 44) (oi := _) (v := undef) rfl (by kernel_rfl) (by kernel_rfl) (by kernel_rfl) (fun _ _ _ h => h) (Or.inr ⟨by rfl, rfl⟩) HS.out ?_
  simp only [Act.put, List.getElem_toArray, List.getElem_cons_zero, List.getElem_cons_succ, List.setIfInBounds_toArray, List.set_cons_zero, List.set_cons_succ]
  refine wpAnyH_take (i := 45) (oi := _) (v := .bool true) rfl (by kernel_rfl) (by kernel_rfl) (by kernel_rfl) (fun _ _ _ h => h) (Or.inl ⟨by rfl, by intro w hSw; go_split_ands; go_simp⟩) HS.out ?_
  simp only [Act.put, List.getElem_toArray, List.getElem_cons_zero, List.getElem_cons_succ, List.setIfInBounds_toArray, List.set_cons_zero, List.set_cons_succ]
  refine wpAnyH_done (by kernel_rfl) ?_ _
  clear HSS HS
  go_wp2
  exact bodyPost_ret (v := .tuple #[.int .i64 0, .int .i64 0, .int .i64 0, .int .i64 3]) (by simp [results, Tryz.results67, go_sem]) rfl ⟨rfl, HBW.out.drew⟩
end Go.Proofs.YtnpbmaajgiapmaaGreatDoor
