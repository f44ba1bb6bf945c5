/- GetNum of the model: it answers what 'scan' reads. -/
import Derived.Test.YtnpbmaajgiapmaaGreatDoorXGGScan
import Derived.Test.YtnpbmaajgiapmaaGreatDoorXGGAs
namespace Go.Proofs.YtnpbmaajgiapmaaGreatDoor.St3
open Go.RowKit
theorem unf_odd (X : Int) (h : (X % 2 == 1) = true) : unf X = -(X / 2) - 1 := by
  have h' : X % 2 = 1 := by simpa using h
  rw [unf, if_pos h']
theorem unf_even (X : Int) (h : (X % 2 == 1) = false) : unf X = X / 2 := by
  have h' : ¬ X % 2 = 1 := by simpa using h
  rw [unf, if_neg h']
theorem ret3 {n p c : Int} {R S : Int × Int × Int} (hR : S = R) (h1 : n = S.1) (h2 : p = S.2.1) (h3 : c = S.2.2) :
    Ending.returned (.agg #[.int .i64 n, .int .i64 p, .int .i64 c]) = .returned (.agg #[.int .i64 R.1, .int .i64 R.2.1, .int .i64 R.2.2]) := by
  subst hR; rw [h1, h2, h3]
theorem pow0 : (128 : Int) ^ 0 = 1 := by decide
theorem pow1 : (128 : Int) ^ 1 = 128 := by decide
theorem pow2 : (128 : Int) ^ 2 = 16384 := by decide
theorem pow3 : (128 : Int) ^ 3 = 2097152 := by decide
theorem pow4 : (128 : Int) ^ 4 = 268435456 := by decide
theorem pow5 : (128 : Int) ^ 5 = 34359738368 := by decide
theorem pow6 : (128 : Int) ^ 6 = 4398046511104 := by decide
theorem pow7 : (128 : Int) ^ 7 = 562949953421312 := by decide
theorem pow8 : (128 : Int) ^ 8 = 72057594037927936 := by decide
theorem pow9 : (128 : Int) ^ 9 = 9223372036854775808 := by decide
theorem pow10 : (128 : Int) ^ 10 = 1180591620717411303424 := by decide
set_option maxHeartbeats 400000 in
theorem specGetNum_size (s : ByteArray) (a : Int) (w : World) (hm : s.size ≤ maxLen) (hs : 8000 < s.size) :
    Calls Tryz.prog 58 #[.string s, .int .i64 a] w fun e w' => e = .returned (.agg #[.int .i64 0, .int .i64 0, .int .i64 2]) ∧ Below w.heap.size w w' := by
  unfold maxLen at hm
  go_enter Tryz.func58, Tryz.ntmps58
  go_wp2
  exact bodyPost_ret (v := .agg #[.int .i64 0, .int .i64 0, .int .i64 2]) (by simp [results, Tryz.results58, go_sem]) rfl ⟨rfl, (Below.refl _ _).alloc (Nat.le_refl _) _⟩

set_option maxHeartbeats 400000 in
theorem specGetNum_form (s : ByteArray) (a : Int) (w : World) (hs : s.size ≤ 8000) (ha : a < 0) :
    Calls Tryz.prog 58 #[.string s, .int .i64 a] w fun e w' => e = .returned (.agg #[.int .i64 0, .int .i64 0, .int .i64 1]) ∧ Below w.heap.size w w' := by
  go_enter Tryz.func58, Tryz.ntmps58
  go_wp2
  exact bodyPost_ret (v := .agg #[.int .i64 0, .int .i64 0, .int .i64 1]) (by simp [results, Tryz.results58, go_sem]) rfl ⟨rfl, (Below.refl _ _).alloc (Nat.le_refl _) _⟩

set_option maxRecDepth 100000 in
set_option maxHeartbeats 16000000 in
theorem specGetNum_any (s : ByteArray) (a : Nat) (R : Int × Int × Int) (w : World) (hs : s.size ≤ 8000) (ha : (a : Int) ≤ 9223372036854775807) (HR : Hid (scan s a 10 0 0 = R)) :
    Calls Tryz.prog 58 #[.string s, .int .i64 (a : Int)] w fun e w' => e = .returned (.agg #[.int .i64 R.1, .int .i64 R.2.1, .int .i64 R.2.2]) ∧ Below w.heap.size w w' := by
  go_enter Tryz.func58, Tryz.ntmps58
  go_wp2
  go_loop [5, 6] (fun x i => ∃ (k : Nat) (u : Int), k ≤ 9 ∧ 0 ≤ u ∧ Hid (u < 128 ^ k) ∧ x = .int .u64 u ∧ i = .int .i64 k ∧ Hid (scan s a (10 - k) k u = R)) (fun _ i => 10 - (intOf i).toNat)
  case atStart => exact ⟨0, 0, by omega, by omega, (by show (0 : Int) < 128 ^ 0; decide), rfl, rfl, HR⟩
  case round =>
    obtain ⟨k, u, hk, hu0, HU, rfl, rfl, HS⟩ := hrel
    have hU := HU.out
    rcases (show k = 0 ∨ k = 1 ∨ k = 2 ∨ k = 3 ∨ k = 4 ∨ k = 5 ∨ k = 6 ∨ k = 7 ∨ k = 8 ∨ k = 9 by omega) with rfl | rfl | rfl | rfl | rfl | rfl | rfl | rfl | rfl | rfl
    · have hu1 : u < 1 := by rw [pow0] at hU; exact hU
      clear hU HU
      obtain rfl : u = 0 := by omega
      by_cases hlt : a < s.size
      · have hb := byte_lt s a hlt
        by_cases hc : ((s[a]'hlt).toNat : Int) < 128
        · have HX : Hid (R = (unf (0 + ((s[a]'hlt).toNat : Int) * 128 ^ 0), (a : Int) + ((0 : Nat) : Int) + 1, 0)) := HS.out.symm.trans (scan_last s a 9 0 0 hlt (.inl hc) (by omega))
          have eN : 0 + ((s[a]'hlt).toNat : Int) * 128 ^ 0 = ((s[a]'hlt).toNat : Int) := by rw [pow0, Int.mul_one, Int.zero_add]
          by_cases hc0 : ((s[a]'hlt).toNat : Int) = 0
          · have hY : R = (0, (a : Int) + 1, 0) := by rw [HX.out, eN, hc0]; simp [unf]
            have HY := hide hY
            clear hY
            have hz : (s[a]'hlt).toNat = 0 := by omega
            go_wp2
            exact bodyPost_ret (v := .agg #[.int .i64 0, .int .i64 ((a : Int) + 1), .int .i64 0]) (by simp [results, Tryz.results58, go_sem]) rfl ⟨ret3 HY.out.symm rfl rfl rfl, (Below.refl _ _).alloc (Nat.le_refl _) _⟩
          · have hz : ¬ (s[a]'hlt).toNat = 0 := by omega
            have em : ((s[a]'hlt).toNat : Int) % 128 = ((s[a]'hlt).toNat : Int) := by omega
            cases hp : (((s[a]'hlt).toNat : Int) % 2 == 1)
            · go_wp2
              exact bodyPost_ret (v := .agg #[.int .i64 (((s[a]'hlt).toNat : Int) / 2), .int .i64 ((a : Int) + 1), .int .i64 0]) (by simp [results, Tryz.results58, go_sem]) rfl ⟨ret3 HX.out.symm (by show _ = unf _; rw [eN]; exact (unf_even _ hp).symm) (by show (a : Int) + 1 = (a : Int) + ((0 : Nat) : Int) + 1; omega) rfl, (Below.refl _ _).alloc (Nat.le_refl _) _⟩
            · go_wp2
              exact bodyPost_ret (v := .agg #[.int .i64 (-(((s[a]'hlt).toNat : Int) / 2) - 1), .int .i64 ((a : Int) + 1), .int .i64 0]) (by simp [results, Tryz.results58, go_sem]) rfl ⟨ret3 HX.out.symm (by show _ = unf _; rw [eN]; exact (unf_odd _ hp).symm) (by show (a : Int) + 1 = (a : Int) + ((0 : Nat) : Int) + 1; omega) rfl, (Below.refl _ _).alloc (Nat.le_refl _) _⟩
        · have HX : Hid (scan s a 9 (0 + 1) (0 + ((s[a]'hlt).toNat : Int) % 128 * 128 ^ 0) = R) := (scan_more s a 9 0 0 hlt (show 128 ≤ ((s[a]'hlt).toNat : Int) by omega) (by omega)).symm.trans HS.out
          have eN : 0 + ((s[a]'hlt).toNat : Int) % 128 * 128 ^ 0 = ((s[a]'hlt).toNat : Int) % 128 := by rw [pow0, Int.mul_one, Int.zero_add]
          go_wp2
          go_round
          case rel => exact ⟨1, _, by omega, by omega, (by show _ < (128 : Int) ^ 1; rw [pow1]; omega), rfl, rfl, (by rw [← eN]; exact HX)⟩
          case measure => simp [intOf]
      · have HX := hide (HS.out.symm.trans (scan_short s a 9 0 0 hlt))
        go_wp2
        exact bodyPost_ret (v := .agg #[.int .i64 0, .int .i64 0, .int .i64 4]) (by simp [results, Tryz.results58, go_sem]) rfl ⟨ret3 HX.out.symm rfl rfl rfl, (Below.refl _ _).alloc (Nat.le_refl _) _⟩
    · have hu1 : u < 128 := by rw [pow1] at hU; exact hU
      clear hU HU
      by_cases hlt : a + 1 < s.size
      · have hb := byte_lt s (a + 1) hlt
        by_cases hc : ((s[a + 1]'hlt).toNat : Int) < 128
        · by_cases hc0 : ((s[a + 1]'hlt).toNat : Int) = 0
          · have HX := hide (HS.out.symm.trans (scan_bad s a 8 1 u hlt (.inl hc) (.inr ⟨by omega, hc0⟩)))
            have hz : (s[a + 1]'hlt).toNat = 0 := by omega
            go_wp2
            exact bodyPost_ret (v := .agg #[.int .i64 0, .int .i64 0, .int .i64 3]) (by simp [results, Tryz.results58, go_sem]) rfl ⟨ret3 HX.out.symm rfl rfl rfl, (Below.refl _ _).alloc (Nat.le_refl _) _⟩
          · have HX := hide (HS.out.symm.trans (scan_last s a 8 1 u hlt (.inl hc) (by omega)))
            have hz : ¬ (s[a + 1]'hlt).toNat = 0 := by omega
            have em : ((s[a + 1]'hlt).toNat : Int) % 128 = ((s[a + 1]'hlt).toNat : Int) := by omega
            have eN : u + ((s[a + 1]'hlt).toNat : Int) * 128 ^ 1 = u + ((s[a + 1]'hlt).toNat : Int) * 128 := by rw [pow1]
            cases hp : ((u + ((s[a + 1]'hlt).toNat : Int) * 128) % 2 == 1)
            · go_wp2
              exact bodyPost_ret (v := .agg #[.int .i64 ((u + ((s[a + 1]'hlt).toNat : Int) * 128) / 2), .int .i64 ((a : Int) + 1 + 1), .int .i64 0]) (by simp [results, Tryz.results58, go_sem]) rfl ⟨ret3 HX.out.symm (by show _ = unf _; rw [eN]; exact (unf_even _ hp).symm) (by show ((a : Int) + 1 + 1) = (a : Int) + ((1 : Nat) : Int) + 1; omega) rfl, (Below.refl _ _).alloc (Nat.le_refl _) _⟩
            · go_wp2
              exact bodyPost_ret (v := .agg #[.int .i64 (-((u + ((s[a + 1]'hlt).toNat : Int) * 128) / 2) - 1), .int .i64 ((a : Int) + 1 + 1), .int .i64 0]) (by simp [results, Tryz.results58, go_sem]) rfl ⟨ret3 HX.out.symm (by show _ = unf _; rw [eN]; exact (unf_odd _ hp).symm) (by show ((a : Int) + 1 + 1) = (a : Int) + ((1 : Nat) : Int) + 1; omega) rfl, (Below.refl _ _).alloc (Nat.le_refl _) _⟩
        · have HX := hide ((scan_more s a 8 1 u hlt (by omega) (by omega)).symm.trans HS.out)
          have eN : u + ((s[a + 1]'hlt).toNat : Int) % 128 * 128 ^ 1 = u + ((s[a + 1]'hlt).toNat : Int) % 128 * 128 := by rw [pow1]
          go_wp2
          go_round
          case rel => exact ⟨2, _, by omega, by omega, (by show _ < (128 : Int) ^ 2; rw [pow2]; omega), rfl, rfl, (by rw [← eN]; exact HX)⟩
          case measure => simp [intOf]
      · have HX := hide (HS.out.symm.trans (scan_short s a 8 1 u hlt))
        go_wp2
        exact bodyPost_ret (v := .agg #[.int .i64 0, .int .i64 0, .int .i64 4]) (by simp [results, Tryz.results58, go_sem]) rfl ⟨ret3 HX.out.symm rfl rfl rfl, (Below.refl _ _).alloc (Nat.le_refl _) _⟩
    · have hu1 : u < 16384 := by rw [pow2] at hU; exact hU
      clear hU HU
      by_cases hlt : a + 2 < s.size
      · have hb := byte_lt s (a + 2) hlt
        by_cases hc : ((s[a + 2]'hlt).toNat : Int) < 128
        · by_cases hc0 : ((s[a + 2]'hlt).toNat : Int) = 0
          · have HX := hide (HS.out.symm.trans (scan_bad s a 7 2 u hlt (.inl hc) (.inr ⟨by omega, hc0⟩)))
            have hz : (s[a + 2]'hlt).toNat = 0 := by omega
            go_wp2
            exact bodyPost_ret (v := .agg #[.int .i64 0, .int .i64 0, .int .i64 3]) (by simp [results, Tryz.results58, go_sem]) rfl ⟨ret3 HX.out.symm rfl rfl rfl, (Below.refl _ _).alloc (Nat.le_refl _) _⟩
          · have HX := hide (HS.out.symm.trans (scan_last s a 7 2 u hlt (.inl hc) (by omega)))
            have hz : ¬ (s[a + 2]'hlt).toNat = 0 := by omega
            have em : ((s[a + 2]'hlt).toNat : Int) % 128 = ((s[a + 2]'hlt).toNat : Int) := by omega
            have eN : u + ((s[a + 2]'hlt).toNat : Int) * 128 ^ 2 = u + ((s[a + 2]'hlt).toNat : Int) * 16384 := by rw [pow2]
            cases hp : ((u + ((s[a + 2]'hlt).toNat : Int) * 16384) % 2 == 1)
            · go_wp2
              exact bodyPost_ret (v := .agg #[.int .i64 ((u + ((s[a + 2]'hlt).toNat : Int) * 16384) / 2), .int .i64 ((a : Int) + 2 + 1), .int .i64 0]) (by simp [results, Tryz.results58, go_sem]) rfl ⟨ret3 HX.out.symm (by show _ = unf _; rw [eN]; exact (unf_even _ hp).symm) (by show ((a : Int) + 2 + 1) = (a : Int) + ((2 : Nat) : Int) + 1; omega) rfl, (Below.refl _ _).alloc (Nat.le_refl _) _⟩
            · go_wp2
              exact bodyPost_ret (v := .agg #[.int .i64 (-((u + ((s[a + 2]'hlt).toNat : Int) * 16384) / 2) - 1), .int .i64 ((a : Int) + 2 + 1), .int .i64 0]) (by simp [results, Tryz.results58, go_sem]) rfl ⟨ret3 HX.out.symm (by show _ = unf _; rw [eN]; exact (unf_odd _ hp).symm) (by show ((a : Int) + 2 + 1) = (a : Int) + ((2 : Nat) : Int) + 1; omega) rfl, (Below.refl _ _).alloc (Nat.le_refl _) _⟩
        · have HX := hide ((scan_more s a 7 2 u hlt (by omega) (by omega)).symm.trans HS.out)
          have eN : u + ((s[a + 2]'hlt).toNat : Int) % 128 * 128 ^ 2 = u + ((s[a + 2]'hlt).toNat : Int) % 128 * 16384 := by rw [pow2]
          go_wp2
          go_round
          case rel => exact ⟨3, _, by omega, by omega, (by show _ < (128 : Int) ^ 3; rw [pow3]; omega), rfl, rfl, (by rw [← eN]; exact HX)⟩
          case measure => simp [intOf]
      · have HX := hide (HS.out.symm.trans (scan_short s a 7 2 u hlt))
        go_wp2
        exact bodyPost_ret (v := .agg #[.int .i64 0, .int .i64 0, .int .i64 4]) (by simp [results, Tryz.results58, go_sem]) rfl ⟨ret3 HX.out.symm rfl rfl rfl, (Below.refl _ _).alloc (Nat.le_refl _) _⟩
    · have hu1 : u < 2097152 := by rw [pow3] at hU; exact hU
      clear hU HU
      by_cases hlt : a + 3 < s.size
      · have hb := byte_lt s (a + 3) hlt
        by_cases hc : ((s[a + 3]'hlt).toNat : Int) < 128
        · by_cases hc0 : ((s[a + 3]'hlt).toNat : Int) = 0
          · have HX := hide (HS.out.symm.trans (scan_bad s a 6 3 u hlt (.inl hc) (.inr ⟨by omega, hc0⟩)))
            have hz : (s[a + 3]'hlt).toNat = 0 := by omega
            go_wp2
            exact bodyPost_ret (v := .agg #[.int .i64 0, .int .i64 0, .int .i64 3]) (by simp [results, Tryz.results58, go_sem]) rfl ⟨ret3 HX.out.symm rfl rfl rfl, (Below.refl _ _).alloc (Nat.le_refl _) _⟩
          · have HX := hide (HS.out.symm.trans (scan_last s a 6 3 u hlt (.inl hc) (by omega)))
            have hz : ¬ (s[a + 3]'hlt).toNat = 0 := by omega
            have em : ((s[a + 3]'hlt).toNat : Int) % 128 = ((s[a + 3]'hlt).toNat : Int) := by omega
            have eN : u + ((s[a + 3]'hlt).toNat : Int) * 128 ^ 3 = u + ((s[a + 3]'hlt).toNat : Int) * 2097152 := by rw [pow3]
            cases hp : ((u + ((s[a + 3]'hlt).toNat : Int) * 2097152) % 2 == 1)
            · go_wp2
              exact bodyPost_ret (v := .agg #[.int .i64 ((u + ((s[a + 3]'hlt).toNat : Int) * 2097152) / 2), .int .i64 ((a : Int) + 3 + 1), .int .i64 0]) (by simp [results, Tryz.results58, go_sem]) rfl ⟨ret3 HX.out.symm (by show _ = unf _; rw [eN]; exact (unf_even _ hp).symm) (by show ((a : Int) + 3 + 1) = (a : Int) + ((3 : Nat) : Int) + 1; omega) rfl, (Below.refl _ _).alloc (Nat.le_refl _) _⟩
            · go_wp2
              exact bodyPost_ret (v := .agg #[.int .i64 (-((u + ((s[a + 3]'hlt).toNat : Int) * 2097152) / 2) - 1), .int .i64 ((a : Int) + 3 + 1), .int .i64 0]) (by simp [results, Tryz.results58, go_sem]) rfl ⟨ret3 HX.out.symm (by show _ = unf _; rw [eN]; exact (unf_odd _ hp).symm) (by show ((a : Int) + 3 + 1) = (a : Int) + ((3 : Nat) : Int) + 1; omega) rfl, (Below.refl _ _).alloc (Nat.le_refl _) _⟩
        · have HX := hide ((scan_more s a 6 3 u hlt (by omega) (by omega)).symm.trans HS.out)
          have eN : u + ((s[a + 3]'hlt).toNat : Int) % 128 * 128 ^ 3 = u + ((s[a + 3]'hlt).toNat : Int) % 128 * 2097152 := by rw [pow3]
          go_wp2
          go_round
          case rel => exact ⟨4, _, by omega, by omega, (by show _ < (128 : Int) ^ 4; rw [pow4]; omega), rfl, rfl, (by rw [← eN]; exact HX)⟩
          case measure => simp [intOf]
      · have HX := hide (HS.out.symm.trans (scan_short s a 6 3 u hlt))
        go_wp2
        exact bodyPost_ret (v := .agg #[.int .i64 0, .int .i64 0, .int .i64 4]) (by simp [results, Tryz.results58, go_sem]) rfl ⟨ret3 HX.out.symm rfl rfl rfl, (Below.refl _ _).alloc (Nat.le_refl _) _⟩
    · have hu1 : u < 268435456 := by rw [pow4] at hU; exact hU
      clear hU HU
      by_cases hlt : a + 4 < s.size
      · have hb := byte_lt s (a + 4) hlt
        by_cases hc : ((s[a + 4]'hlt).toNat : Int) < 128
        · by_cases hc0 : ((s[a + 4]'hlt).toNat : Int) = 0
          · have HX := hide (HS.out.symm.trans (scan_bad s a 5 4 u hlt (.inl hc) (.inr ⟨by omega, hc0⟩)))
            have hz : (s[a + 4]'hlt).toNat = 0 := by omega
            go_wp2
            exact bodyPost_ret (v := .agg #[.int .i64 0, .int .i64 0, .int .i64 3]) (by simp [results, Tryz.results58, go_sem]) rfl ⟨ret3 HX.out.symm rfl rfl rfl, (Below.refl _ _).alloc (Nat.le_refl _) _⟩
          · have HX := hide (HS.out.symm.trans (scan_last s a 5 4 u hlt (.inl hc) (by omega)))
            have hz : ¬ (s[a + 4]'hlt).toNat = 0 := by omega
            have em : ((s[a + 4]'hlt).toNat : Int) % 128 = ((s[a + 4]'hlt).toNat : Int) := by omega
            have eN : u + ((s[a + 4]'hlt).toNat : Int) * 128 ^ 4 = u + ((s[a + 4]'hlt).toNat : Int) * 268435456 := by rw [pow4]
            cases hp : ((u + ((s[a + 4]'hlt).toNat : Int) * 268435456) % 2 == 1)
            · go_wp2
              exact bodyPost_ret (v := .agg #[.int .i64 ((u + ((s[a + 4]'hlt).toNat : Int) * 268435456) / 2), .int .i64 ((a : Int) + 4 + 1), .int .i64 0]) (by simp [results, Tryz.results58, go_sem]) rfl ⟨ret3 HX.out.symm (by show _ = unf _; rw [eN]; exact (unf_even _ hp).symm) (by show ((a : Int) + 4 + 1) = (a : Int) + ((4 : Nat) : Int) + 1; omega) rfl, (Below.refl _ _).alloc (Nat.le_refl _) _⟩
            · go_wp2
              exact bodyPost_ret (v := .agg #[.int .i64 (-((u + ((s[a + 4]'hlt).toNat : Int) * 268435456) / 2) - 1), .int .i64 ((a : Int) + 4 + 1), .int .i64 0]) (by simp [results, Tryz.results58, go_sem]) rfl ⟨ret3 HX.out.symm (by show _ = unf _; rw [eN]; exact (unf_odd _ hp).symm) (by show ((a : Int) + 4 + 1) = (a : Int) + ((4 : Nat) : Int) + 1; omega) rfl, (Below.refl _ _).alloc (Nat.le_refl _) _⟩
        · have HX := hide ((scan_more s a 5 4 u hlt (by omega) (by omega)).symm.trans HS.out)
          have eN : u + ((s[a + 4]'hlt).toNat : Int) % 128 * 128 ^ 4 = u + ((s[a + 4]'hlt).toNat : Int) % 128 * 268435456 := by rw [pow4]
          go_wp2
          go_round
          case rel => exact ⟨5, _, by omega, by omega, (by show _ < (128 : Int) ^ 5; rw [pow5]; omega), rfl, rfl, (by rw [← eN]; exact HX)⟩
          case measure => simp [intOf]
      · have HX := hide (HS.out.symm.trans (scan_short s a 5 4 u hlt))
        go_wp2
        exact bodyPost_ret (v := .agg #[.int .i64 0, .int .i64 0, .int .i64 4]) (by simp [results, Tryz.results58, go_sem]) rfl ⟨ret3 HX.out.symm rfl rfl rfl, (Below.refl _ _).alloc (Nat.le_refl _) _⟩
    · have hu1 : u < 34359738368 := by rw [pow5] at hU; exact hU
      clear hU HU
      by_cases hlt : a + 5 < s.size
      · have hb := byte_lt s (a + 5) hlt
        by_cases hc : ((s[a + 5]'hlt).toNat : Int) < 128
        · by_cases hc0 : ((s[a + 5]'hlt).toNat : Int) = 0
          · have HX := hide (HS.out.symm.trans (scan_bad s a 4 5 u hlt (.inl hc) (.inr ⟨by omega, hc0⟩)))
            have hz : (s[a + 5]'hlt).toNat = 0 := by omega
            go_wp2
            exact bodyPost_ret (v := .agg #[.int .i64 0, .int .i64 0, .int .i64 3]) (by simp [results, Tryz.results58, go_sem]) rfl ⟨ret3 HX.out.symm rfl rfl rfl, (Below.refl _ _).alloc (Nat.le_refl _) _⟩
          · have HX := hide (HS.out.symm.trans (scan_last s a 4 5 u hlt (.inl hc) (by omega)))
            have hz : ¬ (s[a + 5]'hlt).toNat = 0 := by omega
            have em : ((s[a + 5]'hlt).toNat : Int) % 128 = ((s[a + 5]'hlt).toNat : Int) := by omega
            have eN : u + ((s[a + 5]'hlt).toNat : Int) * 128 ^ 5 = u + ((s[a + 5]'hlt).toNat : Int) * 34359738368 := by rw [pow5]
            cases hp : ((u + ((s[a + 5]'hlt).toNat : Int) * 34359738368) % 2 == 1)
            · go_wp2
              exact bodyPost_ret (v := .agg #[.int .i64 ((u + ((s[a + 5]'hlt).toNat : Int) * 34359738368) / 2), .int .i64 ((a : Int) + 5 + 1), .int .i64 0]) (by simp [results, Tryz.results58, go_sem]) rfl ⟨ret3 HX.out.symm (by show _ = unf _; rw [eN]; exact (unf_even _ hp).symm) (by show ((a : Int) + 5 + 1) = (a : Int) + ((5 : Nat) : Int) + 1; omega) rfl, (Below.refl _ _).alloc (Nat.le_refl _) _⟩
            · go_wp2
              exact bodyPost_ret (v := .agg #[.int .i64 (-((u + ((s[a + 5]'hlt).toNat : Int) * 34359738368) / 2) - 1), .int .i64 ((a : Int) + 5 + 1), .int .i64 0]) (by simp [results, Tryz.results58, go_sem]) rfl ⟨ret3 HX.out.symm (by show _ = unf _; rw [eN]; exact (unf_odd _ hp).symm) (by show ((a : Int) + 5 + 1) = (a : Int) + ((5 : Nat) : Int) + 1; omega) rfl, (Below.refl _ _).alloc (Nat.le_refl _) _⟩
        · have HX := hide ((scan_more s a 4 5 u hlt (by omega) (by omega)).symm.trans HS.out)
          have eN : u + ((s[a + 5]'hlt).toNat : Int) % 128 * 128 ^ 5 = u + ((s[a + 5]'hlt).toNat : Int) % 128 * 34359738368 := by rw [pow5]
          go_wp2
          go_round
          case rel => exact ⟨6, _, by omega, by omega, (by show _ < (128 : Int) ^ 6; rw [pow6]; omega), rfl, rfl, (by rw [← eN]; exact HX)⟩
          case measure => simp [intOf]
      · have HX := hide (HS.out.symm.trans (scan_short s a 4 5 u hlt))
        go_wp2
        exact bodyPost_ret (v := .agg #[.int .i64 0, .int .i64 0, .int .i64 4]) (by simp [results, Tryz.results58, go_sem]) rfl ⟨ret3 HX.out.symm rfl rfl rfl, (Below.refl _ _).alloc (Nat.le_refl _) _⟩
    · have hu1 : u < 4398046511104 := by rw [pow6] at hU; exact hU
      clear hU HU
      by_cases hlt : a + 6 < s.size
      · have hb := byte_lt s (a + 6) hlt
        by_cases hc : ((s[a + 6]'hlt).toNat : Int) < 128
        · by_cases hc0 : ((s[a + 6]'hlt).toNat : Int) = 0
          · have HX := hide (HS.out.symm.trans (scan_bad s a 3 6 u hlt (.inl hc) (.inr ⟨by omega, hc0⟩)))
            have hz : (s[a + 6]'hlt).toNat = 0 := by omega
            go_wp2
            exact bodyPost_ret (v := .agg #[.int .i64 0, .int .i64 0, .int .i64 3]) (by simp [results, Tryz.results58, go_sem]) rfl ⟨ret3 HX.out.symm rfl rfl rfl, (Below.refl _ _).alloc (Nat.le_refl _) _⟩
          · have HX := hide (HS.out.symm.trans (scan_last s a 3 6 u hlt (.inl hc) (by omega)))
            have hz : ¬ (s[a + 6]'hlt).toNat = 0 := by omega
            have em : ((s[a + 6]'hlt).toNat : Int) % 128 = ((s[a + 6]'hlt).toNat : Int) := by omega
            have eN : u + ((s[a + 6]'hlt).toNat : Int) * 128 ^ 6 = u + ((s[a + 6]'hlt).toNat : Int) * 4398046511104 := by rw [pow6]
            cases hp : ((u + ((s[a + 6]'hlt).toNat : Int) * 4398046511104) % 2 == 1)
            · go_wp2
              exact bodyPost_ret (v := .agg #[.int .i64 ((u + ((s[a + 6]'hlt).toNat : Int) * 4398046511104) / 2), .int .i64 ((a : Int) + 6 + 1), .int .i64 0]) (by simp [results, Tryz.results58, go_sem]) rfl ⟨ret3 HX.out.symm (by show _ = unf _; rw [eN]; exact (unf_even _ hp).symm) (by show ((a : Int) + 6 + 1) = (a : Int) + ((6 : Nat) : Int) + 1; omega) rfl, (Below.refl _ _).alloc (Nat.le_refl _) _⟩
            · go_wp2
              exact bodyPost_ret (v := .agg #[.int .i64 (-((u + ((s[a + 6]'hlt).toNat : Int) * 4398046511104) / 2) - 1), .int .i64 ((a : Int) + 6 + 1), .int .i64 0]) (by simp [results, Tryz.results58, go_sem]) rfl ⟨ret3 HX.out.symm (by show _ = unf _; rw [eN]; exact (unf_odd _ hp).symm) (by show ((a : Int) + 6 + 1) = (a : Int) + ((6 : Nat) : Int) + 1; omega) rfl, (Below.refl _ _).alloc (Nat.le_refl _) _⟩
        · have HX := hide ((scan_more s a 3 6 u hlt (by omega) (by omega)).symm.trans HS.out)
          have eN : u + ((s[a + 6]'hlt).toNat : Int) % 128 * 128 ^ 6 = u + ((s[a + 6]'hlt).toNat : Int) % 128 * 4398046511104 := by rw [pow6]
          go_wp2
          go_round
          case rel => exact ⟨7, _, by omega, by omega, (by show _ < (128 : Int) ^ 7; rw [pow7]; omega), rfl, rfl, (by rw [← eN]; exact HX)⟩
          case measure => simp [intOf]
      · have HX := hide (HS.out.symm.trans (scan_short s a 3 6 u hlt))
        go_wp2
        exact bodyPost_ret (v := .agg #[.int .i64 0, .int .i64 0, .int .i64 4]) (by simp [results, Tryz.results58, go_sem]) rfl ⟨ret3 HX.out.symm rfl rfl rfl, (Below.refl _ _).alloc (Nat.le_refl _) _⟩
    · have hu1 : u < 562949953421312 := by rw [pow7] at hU; exact hU
      clear hU HU
      by_cases hlt : a + 7 < s.size
      · have hb := byte_lt s (a + 7) hlt
        by_cases hc : ((s[a + 7]'hlt).toNat : Int) < 128
        · by_cases hc0 : ((s[a + 7]'hlt).toNat : Int) = 0
          · have HX := hide (HS.out.symm.trans (scan_bad s a 2 7 u hlt (.inl hc) (.inr ⟨by omega, hc0⟩)))
            have hz : (s[a + 7]'hlt).toNat = 0 := by omega
            go_wp2
            exact bodyPost_ret (v := .agg #[.int .i64 0, .int .i64 0, .int .i64 3]) (by simp [results, Tryz.results58, go_sem]) rfl ⟨ret3 HX.out.symm rfl rfl rfl, (Below.refl _ _).alloc (Nat.le_refl _) _⟩
          · have HX := hide (HS.out.symm.trans (scan_last s a 2 7 u hlt (.inl hc) (by omega)))
            have hz : ¬ (s[a + 7]'hlt).toNat = 0 := by omega
            have em : ((s[a + 7]'hlt).toNat : Int) % 128 = ((s[a + 7]'hlt).toNat : Int) := by omega
            have eN : u + ((s[a + 7]'hlt).toNat : Int) * 128 ^ 7 = u + ((s[a + 7]'hlt).toNat : Int) * 562949953421312 := by rw [pow7]
            cases hp : ((u + ((s[a + 7]'hlt).toNat : Int) * 562949953421312) % 2 == 1)
            · go_wp2
              exact bodyPost_ret (v := .agg #[.int .i64 ((u + ((s[a + 7]'hlt).toNat : Int) * 562949953421312) / 2), .int .i64 ((a : Int) + 7 + 1), .int .i64 0]) (by simp [results, Tryz.results58, go_sem]) rfl ⟨ret3 HX.out.symm (by show _ = unf _; rw [eN]; exact (unf_even _ hp).symm) (by show ((a : Int) + 7 + 1) = (a : Int) + ((7 : Nat) : Int) + 1; omega) rfl, (Below.refl _ _).alloc (Nat.le_refl _) _⟩
            · go_wp2
              exact bodyPost_ret (v := .agg #[.int .i64 (-((u + ((s[a + 7]'hlt).toNat : Int) * 562949953421312) / 2) - 1), .int .i64 ((a : Int) + 7 + 1), .int .i64 0]) (by simp [results, Tryz.results58, go_sem]) rfl ⟨ret3 HX.out.symm (by show _ = unf _; rw [eN]; exact (unf_odd _ hp).symm) (by show ((a : Int) + 7 + 1) = (a : Int) + ((7 : Nat) : Int) + 1; omega) rfl, (Below.refl _ _).alloc (Nat.le_refl _) _⟩
        · have HX := hide ((scan_more s a 2 7 u hlt (by omega) (by omega)).symm.trans HS.out)
          have eN : u + ((s[a + 7]'hlt).toNat : Int) % 128 * 128 ^ 7 = u + ((s[a + 7]'hlt).toNat : Int) % 128 * 562949953421312 := by rw [pow7]
          go_wp2
          go_round
          case rel => exact ⟨8, _, by omega, by omega, (by show _ < (128 : Int) ^ 8; rw [pow8]; omega), rfl, rfl, (by rw [← eN]; exact HX)⟩
          case measure => simp [intOf]
      · have HX := hide (HS.out.symm.trans (scan_short s a 2 7 u hlt))
        go_wp2
        exact bodyPost_ret (v := .agg #[.int .i64 0, .int .i64 0, .int .i64 4]) (by simp [results, Tryz.results58, go_sem]) rfl ⟨ret3 HX.out.symm rfl rfl rfl, (Below.refl _ _).alloc (Nat.le_refl _) _⟩
    · have hu1 : u < 72057594037927936 := by rw [pow8] at hU; exact hU
      clear hU HU
      by_cases hlt : a + 8 < s.size
      · have hb := byte_lt s (a + 8) hlt
        by_cases hc : ((s[a + 8]'hlt).toNat : Int) < 128
        · by_cases hc0 : ((s[a + 8]'hlt).toNat : Int) = 0
          · have HX := hide (HS.out.symm.trans (scan_bad s a 1 8 u hlt (.inl hc) (.inr ⟨by omega, hc0⟩)))
            have hz : (s[a + 8]'hlt).toNat = 0 := by omega
            go_wp2
            exact bodyPost_ret (v := .agg #[.int .i64 0, .int .i64 0, .int .i64 3]) (by simp [results, Tryz.results58, go_sem]) rfl ⟨ret3 HX.out.symm rfl rfl rfl, (Below.refl _ _).alloc (Nat.le_refl _) _⟩
          · have HX := hide (HS.out.symm.trans (scan_last s a 1 8 u hlt (.inl hc) (by omega)))
            have hz : ¬ (s[a + 8]'hlt).toNat = 0 := by omega
            have em : ((s[a + 8]'hlt).toNat : Int) % 128 = ((s[a + 8]'hlt).toNat : Int) := by omega
            have eN : u + ((s[a + 8]'hlt).toNat : Int) * 128 ^ 8 = u + ((s[a + 8]'hlt).toNat : Int) * 72057594037927936 := by rw [pow8]
            cases hp : ((u + ((s[a + 8]'hlt).toNat : Int) * 72057594037927936) % 2 == 1)
            · go_wp2
              exact bodyPost_ret (v := .agg #[.int .i64 ((u + ((s[a + 8]'hlt).toNat : Int) * 72057594037927936) / 2), .int .i64 ((a : Int) + 8 + 1), .int .i64 0]) (by simp [results, Tryz.results58, go_sem]) rfl ⟨ret3 HX.out.symm (by show _ = unf _; rw [eN]; exact (unf_even _ hp).symm) (by show ((a : Int) + 8 + 1) = (a : Int) + ((8 : Nat) : Int) + 1; omega) rfl, (Below.refl _ _).alloc (Nat.le_refl _) _⟩
            · go_wp2
              exact bodyPost_ret (v := .agg #[.int .i64 (-((u + ((s[a + 8]'hlt).toNat : Int) * 72057594037927936) / 2) - 1), .int .i64 ((a : Int) + 8 + 1), .int .i64 0]) (by simp [results, Tryz.results58, go_sem]) rfl ⟨ret3 HX.out.symm (by show _ = unf _; rw [eN]; exact (unf_odd _ hp).symm) (by show ((a : Int) + 8 + 1) = (a : Int) + ((8 : Nat) : Int) + 1; omega) rfl, (Below.refl _ _).alloc (Nat.le_refl _) _⟩
        · have HX := hide ((scan_more s a 1 8 u hlt (by omega) (by omega)).symm.trans HS.out)
          have eN : u + ((s[a + 8]'hlt).toNat : Int) % 128 * 128 ^ 8 = u + ((s[a + 8]'hlt).toNat : Int) % 128 * 72057594037927936 := by rw [pow8]
          go_wp2
          go_round
          case rel => exact ⟨9, _, by omega, by omega, (by show _ < (128 : Int) ^ 9; rw [pow9]; omega), rfl, rfl, (by rw [← eN]; exact HX)⟩
          case measure => simp [intOf]
      · have HX := hide (HS.out.symm.trans (scan_short s a 1 8 u hlt))
        go_wp2
        exact bodyPost_ret (v := .agg #[.int .i64 0, .int .i64 0, .int .i64 4]) (by simp [results, Tryz.results58, go_sem]) rfl ⟨ret3 HX.out.symm rfl rfl rfl, (Below.refl _ _).alloc (Nat.le_refl _) _⟩
    · have hu1 : u < 9223372036854775808 := by rw [pow9] at hU; exact hU
      clear hU HU
      by_cases hlt : a + 9 < s.size
      · have hb := byte_lt s (a + 9) hlt
        by_cases hc1 : 1 < ((s[a + 9]'hlt).toNat : Int)
        · have HX := hide (HS.out.symm.trans (scan_bad s a 0 9 u hlt (.inr rfl) (.inl ⟨rfl, hc1⟩)))
          go_wp2
          exact bodyPost_ret (v := .agg #[.int .i64 0, .int .i64 0, .int .i64 3]) (by simp [results, Tryz.results58, go_sem]) rfl ⟨ret3 HX.out.symm rfl rfl rfl, (Below.refl _ _).alloc (Nat.le_refl _) _⟩
        · by_cases hc0 : ((s[a + 9]'hlt).toNat : Int) = 0
          · have HX := hide (HS.out.symm.trans (scan_bad s a 0 9 u hlt (.inr rfl) (.inr ⟨by omega, hc0⟩)))
            have hz : (s[a + 9]'hlt).toNat = 0 := by omega
            go_wp2
            exact bodyPost_ret (v := .agg #[.int .i64 0, .int .i64 0, .int .i64 3]) (by simp [results, Tryz.results58, go_sem]) rfl ⟨ret3 HX.out.symm rfl rfl rfl, (Below.refl _ _).alloc (Nat.le_refl _) _⟩
          · have HX := hide (HS.out.symm.trans (scan_last s a 0 9 u hlt (.inr rfl) (by omega)))
            have hz : ¬ (s[a + 9]'hlt).toNat = 0 := by omega
            have em : ((s[a + 9]'hlt).toNat : Int) % 128 = ((s[a + 9]'hlt).toNat : Int) := by omega
            have eN : u + ((s[a + 9]'hlt).toNat : Int) * 128 ^ 9 = u + ((s[a + 9]'hlt).toNat : Int) * 9223372036854775808 := by rw [pow9]
            cases hp : ((u + ((s[a + 9]'hlt).toNat : Int) * 9223372036854775808) % 2 == 1)
            · go_wp2
              exact bodyPost_ret (v := .agg #[.int .i64 ((u + ((s[a + 9]'hlt).toNat : Int) * 9223372036854775808) / 2), .int .i64 ((a : Int) + 9 + 1), .int .i64 0]) (by simp [results, Tryz.results58, go_sem]) rfl ⟨ret3 HX.out.symm (by show _ = unf _; rw [eN]; exact (unf_even _ hp).symm) (by show ((a : Int) + 9 + 1) = (a : Int) + ((9 : Nat) : Int) + 1; omega) rfl, (Below.refl _ _).alloc (Nat.le_refl _) _⟩
            · go_wp2
              exact bodyPost_ret (v := .agg #[.int .i64 (-((u + ((s[a + 9]'hlt).toNat : Int) * 9223372036854775808) / 2) - 1), .int .i64 ((a : Int) + 9 + 1), .int .i64 0]) (by simp [results, Tryz.results58, go_sem]) rfl ⟨ret3 HX.out.symm (by show _ = unf _; rw [eN]; exact (unf_odd _ hp).symm) (by show ((a : Int) + 9 + 1) = (a : Int) + ((9 : Nat) : Int) + 1; omega) rfl, (Below.refl _ _).alloc (Nat.le_refl _) _⟩
      · have HX := hide (HS.out.symm.trans (scan_short s a 0 9 u hlt))
        go_wp2
        exact bodyPost_ret (v := .agg #[.int .i64 0, .int .i64 0, .int .i64 4]) (by simp [results, Tryz.results58, go_sem]) rfl ⟨ret3 HX.out.symm rfl rfl rfl, (Below.refl _ _).alloc (Nat.le_refl _) _⟩
end Go.Proofs.YtnpbmaajgiapmaaGreatDoor.St3
