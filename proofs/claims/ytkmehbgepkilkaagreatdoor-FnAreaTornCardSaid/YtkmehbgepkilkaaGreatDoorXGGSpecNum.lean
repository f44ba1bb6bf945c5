/- GetNum of the model: it answers what 'scan' reads. -/
import Derived.Test.YtkmehbgepkilkaaGreatDoorXGGScan
import Derived.Test.YtkmehbgepkilkaaGreatDoorXGGAs
namespace Go.Proofs.YtkmehbgepkilkaaGreatDoor.St3
open Go.RowKit
theorem unf_odd (X : Int) (h : (X % 2 == 1) = true) : unf X = -(X / 2) - 1 := by
  have h' : X % 2 = 1 := by simpa using h
  rw [unf, if_pos h']
theorem unf_even (X : Int) (h : (X % 2 == 1) = false) : unf X = X / 2 := by
  have h' : ¬ X % 2 = 1 := by simpa using h
  rw [unf, if_neg h']
theorem ret3 {n p c : Int} {R S : Int × Int × Int} (hR : S = R) (h1 : n = S.1) (h2 : p = S.2.1) (h3 : c = S.2.2) :
    Ending.returned (.agg #[.int .i64 n, .int .i64 p, .int .i64 c]) = .returned (.agg #[.int .i64 R.1, .int .i64 R.2.1, .int .i64 R.2.2]) := by
  subst hR; rw [h1, h2, h3]
theorem pow0 : (128 : Int) ^ 0 = 1 := by decide
theorem pow1 : (128 : Int) ^ 1 = 128 := by decide
theorem pow2 : (128 : Int) ^ 2 = 16384 := by decide
theorem pow3 : (128 : Int) ^ 3 = 2097152 := by decide
theorem pow4 : (128 : Int) ^ 4 = 268435456 := by decide
theorem pow5 : (128 : Int) ^ 5 = 34359738368 := by decide
theorem pow6 : (128 : Int) ^ 6 = 4398046511104 := by decide
theorem pow7 : (128 : Int) ^ 7 = 562949953421312 := by decide
theorem pow8 : (128 : Int) ^ 8 = 72057594037927936 := by decide
theorem pow9 : (128 : Int) ^ 9 = 9223372036854775808 := by decide
set_option maxRecDepth 100000 in
set_option maxHeartbeats 16000000 in
theorem specGetNum_any (s : ByteArray) (a : Nat) (R : Int × Int × Int) (w : World) (hs : s.size ≤ 8000) (ha : (a : Int) ≤ 9223372036854775807) (HR : Hid (scan s a 10 0 0 = R)) :
    Calls Tryz.prog 73 #[.string s, .int .i64 (a : Int)] w fun e w' => e = .returned (.agg #[.int .i64 R.1, .int .i64 R.2.1, .int .i64 R.2.2]) ∧ Below w.heap.size w w' := by
  go_enter Tryz.func73, Tryz.ntmps73
  go_wp2
  go_loop [5, 6] (fun x i => ∃ (k : Nat) (u : Int), k ≤ 9 ∧ 0 ≤ u ∧ Hid (u < 128 ^ k) ∧ x = .int .u64 u ∧ i = .int .i64 k ∧ Hid (scan s a (10 - k) k u = R)) (fun _ i => 10 - (intOf i).toNat)
  case atStart => exact ⟨0, 0, by omega, by omega, (by show (0 : Int) < 128 ^ 0; decide), rfl, rfl, HR⟩
  case round =>
    obtain ⟨k, u, hk, hu0, HU, rfl, rfl, HS⟩ := hrel
    have hU := HU.out
    rcases (show k = 0 ∨ k = 1 ∨ k = 2 ∨ k = 3 ∨ k = 4 ∨ k = 5 ∨ k = 6 ∨ k = 7 ∨ k = 8 ∨ k = 9 by omega) with rfl | rfl | rfl | rfl | rfl | rfl | rfl | rfl | rfl | rfl
    · have hu1 : u < 1 := by rw [pow0] at hU; exact hU
      clear hU HU
      obtain rfl : u = 0 := by omega
      by_cases hlt : a < s.size
      · have hb := byte_lt s a hlt
        by_cases hc : ((s[a]'hlt).toNat : Int) < 128
        · have HX : Hid (R = (unf (0 + ((s[a]'hlt).toNat : Int) * 128 ^ 0), (a : Int) + ((0 : Nat) : Int) + 1, 0)) := HS.out.symm.trans (scan_last s a 9 0 0 hlt (.inl hc) (by omega))
          have eN : 0 + ((s[a]'hlt).toNat : Int) * 128 ^ 0 = ((s[a]'hlt).toNat : Int) := by rw [pow0, Int.mul_one, Int.zero_add]
          by_cases hc0 : ((s[a]'hlt).toNat : Int) = 0
          · have hY : R = (0, (a : Int) + 1, 0) := by rw [HX.out, eN, hc0]; simp [unf]
            have HY := hide hY
            clear hY
            have hz : (s[a]'hlt).toNat = 0 := by omega
            go_wp2
            exact bodyPost_ret (v := .agg #[.int .i64 0, .int .i64 ((a : Int) + 1), .int .i64 0]) (by simp [results, Tryz.results73, go_sem]) rfl ⟨ret3 HY.out.symm rfl rfl rfl, (Below.refl _ _).alloc (Nat.le_refl _) _⟩
          · have hz : ¬ (s[a]'hlt).toNat = 0 := by omega
            have em : ((s[a]'hlt).toNat : Int) % 128 = ((s[a]'hlt).toNat : Int) := by omega
            cases hp : (((s[a]'hlt).toNat : Int) % 2 == 1)
            · go_wp2
              exact bodyPost_ret (v := .agg #[.int .i64 (((s[a]'hlt).toNat : Int) / 2), .int .i64 ((a : Int) + 1), .int .i64 0]) (by simp [results, Tryz.results73, go_sem]) rfl ⟨ret3 HX.out.symm (by show _ = unf _; rw [eN]; exact (unf_even _ hp).symm) (by show (a : Int) + 1 = (a : Int) + ((0 : Nat) : Int) + 1; omega) rfl, (Below.refl _ _).alloc (Nat.le_refl _) _⟩
            · go_wp2
              exact bodyPost_ret (v := .agg #[.int .i64 (-(((s[a]'hlt).toNat : Int) / 2) - 1), .int .i64 ((a : Int) + 1), .int .i64 0]) (by simp [results, Tryz.results73, go_sem]) rfl ⟨ret3 HX.out.symm (by show _ = unf _; rw [eN]; exact (unf_odd _ hp).symm) (by show (a : Int) + 1 = (a : Int) + ((0 : Nat) : Int) + 1; omega) rfl, (Below.refl _ _).alloc (Nat.le_refl _) _⟩
        · have HX : Hid (scan s a 9 (0 + 1) (0 + ((s[a]'hlt).toNat : Int) % 128 * 128 ^ 0) = R) := (scan_more s a 9 0 0 hlt (show 128 ≤ ((s[a]'hlt).toNat : Int) by omega) (by omega)).symm.trans HS.out
          have eN : 0 + ((s[a]'hlt).toNat : Int) % 128 * 128 ^ 0 = ((s[a]'hlt).toNat : Int) % 128 := by rw [pow0, Int.mul_one, Int.zero_add]
          go_wp2
          go_round
          case rel => exact ⟨1, _, by omega, by omega, (by show _ < (128 : Int) ^ 1; rw [pow1]; omega), rfl, rfl, (by rw [← eN]; exact HX)⟩
          case measure => simp [intOf]
      · have HX := hide (HS.out.symm.trans (scan_short s a 9 0 0 hlt))
        go_wp2
        exact bodyPost_ret (v := .agg #[.int .i64 0, .int .i64 0, .int .i64 4]) (by simp [results, Tryz.results73, go_sem]) rfl ⟨ret3 HX.out.symm rfl rfl rfl, (Below.refl _ _).alloc (Nat.le_refl _) _⟩
    · have hu1 : u < 128 := by rw [pow1] at hU; exact hU
      clear hU HU
      by_cases hlt : a + 1 < s.size
      · have hb := byte_lt s (a + 1) hlt
        by_cases hc : ((s[a + 1]'hlt).toNat : Int) < 128
        · by_cases hc0 : ((s[a + 1]'hlt).toNat : Int) = 0
          · have HX := hide (HS.out.symm.trans (scan_bad s a 8 1 u hlt (.inl hc) (.inr ⟨by omega, hc0⟩)))
            have hz : (s[a + 1]'hlt).toNat = 0 := by omega
            go_wp2
            exact bodyPost_ret (v := .agg #[.int .i64 0, .int .i64 0, .int .i64 3]) (by simp [results, Tryz.results73, go_sem]) rfl ⟨ret3 HX.out.symm rfl rfl rfl, (Below.refl _ _).alloc (Nat.le_refl _) _⟩
          · have HX := hide (HS.out.symm.trans (scan_last s a 8 1 u hlt (.inl hc) (by omega)))
            have hz : ¬ (s[a + 1]'hlt).toNat = 0 := by omega
            have em : ((s[a + 1]'hlt).toNat : Int) % 128 = ((s[a + 1]'hlt).toNat : Int) := by omega
            have eN : u + ((s[a + 1]'hlt).toNat : Int) * 128 ^ 1 = u + ((s[a + 1]'hlt).toNat : Int) * 128 := by rw [pow1]
            cases hp : ((u + ((s[a + 1]'hlt).toNat : Int) * 128) % 2 == 1)
            · go_wp2
              exact bodyPost_ret (v := .agg #[.int .i64 ((u + ((s[a + 1]'hlt).toNat : Int) * 128) / 2), .int .i64 ((a : Int) + 1 + 1), .int .i64 0]) (by simp [results, Tryz.results73, go_sem]) rfl ⟨ret3 HX.out.symm (by show _ = unf _; rw [eN]; exact (unf_even _ hp).symm) (by show ((a : Int) + 1 + 1) = (a : Int) + ((1 : Nat) : Int) + 1; omega) rfl, (Below.refl _ _).alloc (Nat.le_refl _) _⟩
            · go_wp2
              exact bodyPost_ret (v := .agg #[.int .i64 (-((u + ((s[a + 1]'hlt).toNat : Int) * 128) / 2) - 1), .int .i64 ((a : Int) + 1 + 1), .int .i64 0]) (by simp [results, Tryz.results73, go_sem]) rfl ⟨ret3 HX.out.symm (by show _ = unf _; rw [eN]; exact (unf_odd _ hp).symm) (by show ((a : Int) + 1 + 1) = (a : Int) + ((1 : Nat) : Int) + 1; omega) rfl, (Below.refl _ _).alloc (Nat.le_refl _) _⟩
        · have HX := hide ((scan_more s a 8 1 u hlt (by omega) (by omega)).symm.trans HS.out)
          have eN : u + ((s[a + 1]'hlt).toNat : Int) % 128 * 128 ^ 1 = u + ((s[a + 1]'hlt).toNat : Int) % 128 * 128 := by rw [pow1]
          go_wp2
          go_round
          case rel => exact ⟨2, _, by omega, by omega, (by show _ < (128 : Int) ^ 2; rw [pow2]; omega), rfl, rfl, (by rw [← eN]; exact HX)⟩
          case measure => simp [intOf]
      · have HX := hide (HS.out.symm.trans (scan_short s a 8 1 u hlt))
        go_wp2
        exact bodyPost_ret (v := .agg #[.int .i64 0, .int .i64 0, .int .i64 4]) (by simp [results, Tryz.results73, go_sem]) rfl ⟨ret3 HX.out.symm rfl rfl rfl, (Below.refl _ _).alloc (Nat.le_refl _) _⟩
    · have hu1 : u < 16384 := by rw [pow2] at hU; exact hU
      clear hU HU
      by_cases hlt : a + 2 < s.size
      · have hb := byte_lt s (a + 2) hlt
        by_cases hc : ((s[a + 2]'hlt).toNat : Int) < 128
        · by_cases hc0 : ((s[a + 2]'hlt).toNat : Int) = 0
          · have HX := hide (HS.out.symm.trans (scan_bad s a 7 2 u hlt (.inl hc) (.inr ⟨by omega, hc0⟩)))
            have hz : (s[a + 2]'hlt).toNat = 0 := by omega
            go_wp2
            exact bodyPost_ret (v := .agg #[.int .i64 0, .int .i64 0, .int .i64 3]) (by simp [results, Tryz.results73, go_sem]) rfl ⟨ret3 HX.out.symm rfl rfl rfl, (Below.refl _ _).alloc (Nat.le_refl _) _⟩
          · have HX := hide (HS.out.symm.trans (scan_last s a 7 2 u hlt (.inl hc) (by omega)))
            have hz : ¬ (s[a + 2]'hlt).toNat = 0 := by omega
            have em : ((s[a + 2]'hlt).toNat : Int) % 128 = ((s[a + 2]'hlt).toNat : Int) := by omega
            have eN : u + ((s[a + 2]'hlt).toNat : Int) * 128 ^ 2 = u + ((s[a + 2]'hlt).toNat : Int) * 16384 := by rw [pow2]
            cases hp : ((u + ((s[a + 2]'hlt).toNat : Int) * 16384) % 2 == 1)
            · go_wp2
              exact bodyPost_ret (v := .agg #[.int .i64 ((u + ((s[a + 2]'hlt).toNat : Int) * 16384) / 2), .int .i64 ((a : Int) + 2 + 1), .int .i64 0]) (by simp [results, Tryz.results73, go_sem]) rfl ⟨ret3 HX.out.symm (by show _ = unf _; rw [eN]; exact (unf_even _ hp).symm) (by show ((a : Int) + 2 + 1) = (a : Int) + ((2 : Nat) : Int) + 1; omega) rfl, (Below.refl _ _).alloc (Nat.le_refl _) _⟩
            · go_wp2
              exact bodyPost_ret (v := .agg #[.int .i64 (-((u + ((s[a + 2]'hlt).toNat : Int) * 16384) / 2) - 1), .int .i64 ((a : Int) + 2 + 1), .int .i64 0]) (by simp [results, Tryz.results73, go_sem]) rfl ⟨ret3 HX.out.symm (by show _ = unf _; rw [eN]; exact (unf_odd _ hp).symm) (by show ((a : Int) + 2 + 1) = (a : Int) + ((2 : Nat) : Int) + 1; omega) rfl, (Below.refl _ _).alloc (Nat.le_refl _) _⟩
        · have HX := hide ((scan_more s a 7 2 u hlt (by omega) (by omega)).symm.trans HS.out)
          have eN : u + ((s[a + 2]'hlt).toNat : Int) % 128 * 128 ^ 2 = u + ((s[a + 2]'hlt).toNat : Int) % 128 * 16384 := by rw [pow2]
          go_wp2
          go_round
          case rel => exact ⟨3, _, by omega, by omega, (by show _ < (128 : Int) ^ 3; rw [pow3]; omega), rfl, rfl, (by rw [← eN]; exact HX)⟩
          case measure => simp [intOf]
      · have HX := hide (HS.out.symm.trans (scan_short s a 7 2 u hlt))
        go_wp2
        exact bodyPost_ret (v := .agg #[.int .i64 0, .int .i64 0, .int .i64 4]) (by simp [results, Tryz.results73, go_sem]) rfl ⟨ret3 HX.out.symm rfl rfl rfl, (Below.refl _ _).alloc (Nat.le_refl _) _⟩
    · have hu1 : u < 2097152 := by rw [pow3] at hU; exact hU
      clear hU HU
      by_cases hlt : a + 3 < s.size
      · have hb := byte_lt s (a + 3) hlt
        by_cases hc : ((s[a + 3]'hlt).toNat : Int) < 128
        · by_cases hc0 : ((s[a + 3]'hlt).toNat : Int) = 0
          · have HX := hide (HS.out.symm.trans (scan_bad s a 6 3 u hlt (.inl hc) (.inr ⟨by omega, hc0⟩)))
            have hz : (s[a + 3]'hlt).toNat = 0 := by omega
            go_wp2
            exact bodyPost_ret (v := .agg #[.int .i64 0, .int .i64 0, .int .i64 3]) (by simp [results, Tryz.results73, go_sem]) rfl ⟨ret3 HX.out.symm rfl rfl rfl, (Below.refl _ _).alloc (Nat.le_refl _) _⟩
          · have HX := hide (HS.out.symm.trans (scan_last s a 6 3 u hlt (.inl hc) (by omega)))
            have hz : ¬ (s[a + 3]'hlt).toNat = 0 := by omega
            have em : ((s[a + 3]'hlt).toNat : Int) % 128 = ((s[a + 3]'hlt).toNat : Int) := by omega
            have eN : u + ((s[a + 3]'hlt).toNat : Int) * 128 ^ 3 = u + ((s[a + 3]'hlt).toNat : Int) * 2097152 := by rw [pow3]
            cases hp : ((u + ((s[a + 3]'hlt).toNat : Int) * 2097152) % 2 == 1)
            · go_wp2
              exact bodyPost_ret (v := .agg #[.int .i64 ((u + ((s[a + 3]'hlt).toNat : Int) * 2097152) / 2), .int .i64 ((a : Int) + 3 + 1), .int .i64 0]) (by simp [results, Tryz.results73, go_sem]) rfl ⟨ret3 HX.out.symm (by show _ = unf _; rw [eN]; exact (unf_even _ hp).symm) (by show ((a : Int) + 3 + 1) = (a : Int) + ((3 : Nat) : Int) + 1; omega) rfl, (Below.refl _ _).alloc (Nat.le_refl _) _⟩
            · go_wp2
              exact bodyPost_ret (v := .agg #[.int .i64 (-((u + ((s[a + 3]'hlt).toNat : Int) * 2097152) / 2) - 1), .int .i64 ((a : Int) + 3 + 1), .int .i64 0]) (by simp [results, Tryz.results73, go_sem]) rfl ⟨ret3 HX.out.symm (by show _ = unf _; rw [eN]; exact (unf_odd _ hp).symm) (by show ((a : Int) + 3 + 1) = (a : Int) + ((3 : Nat) : Int) + 1; omega) rfl, (Below.refl _ _).alloc (Nat.le_refl _) _⟩
        · have HX := hide ((scan_more s a 6 3 u hlt (by omega) (by omega)).symm.trans HS.out)
          have eN : u + ((s[a + 3]'hlt).toNat : Int) % 128 * 128 ^ 3 = u + ((s[a + 3]'hlt).toNat : Int) % 128 * 2097152 := by rw [pow3]
          go_wp2
          go_round
          case rel => exact ⟨4, _, by omega, by omega, (by show _ < (128 : Int) ^ 4; rw [pow4]; omega), rfl, rfl, (by rw [← eN]; exact HX)⟩
          case measure => simp [intOf]
      · have HX := hide (HS.out.symm.trans (scan_short s a 6 3 u hlt))
        go_wp2
        exact bodyPost_ret (v := .agg #[.int .i64 0, .int .i64 0, .int .i64 4]) (by simp [results, Tryz.results73, go_sem]) rfl ⟨ret3 HX.out.symm rfl rfl rfl, (Below.refl _ _).alloc (Nat.le_refl _) _⟩
    · have hu1 : u < 268435456 := by rw [pow4] at hU; exact hU
      clear hU HU
      by_cases hlt : a + 4 < s.size
      · have hb := byte_lt s (a + 4) hlt
        by_cases hc : ((s[a + 4]'hlt).toNat : Int) < 128
        · by_cases hc0 : ((s[a + 4]'hlt).toNat : Int) = 0
          · have HX := hide (HS.out.symm.trans (scan_bad s a 5 4 u hlt (.inl hc) (.inr ⟨by omega, hc0⟩)))
            have hz : (s[a + 4]'hlt).toNat = 0 := by omega
            go_wp2
            exact bodyPost_ret (v := .agg #[.int .i64 0, .int .i64 0, .int .i64 3]) (by simp [results, Tryz.results73, go_sem]) rfl ⟨ret3 HX.out.symm rfl rfl rfl, (Below.refl _ _).alloc (Nat.le_refl _) _⟩
          · have HX := hide (HS.out.symm.trans (scan_last s a 5 4 u hlt (.inl hc) (by omega)))
            have hz : ¬ (s[a + 4]'hlt).toNat = 0 := by omega
            have em : ((s[a + 4]'hlt).toNat : Int) % 128 = ((s[a + 4]'hlt).toNat : Int) := by omega
            have eN : u + ((s[a + 4]'hlt).toNat : Int) * 128 ^ 4 = u + ((s[a + 4]'hlt).toNat : Int) * 268435456 := by rw [pow4]
            cases hp : ((u + ((s[a + 4]'hlt).toNat : Int) * 268435456) % 2 == 1)
            · go_wp2
              exact bodyPost_ret (v := .agg #[.int .i64 ((u + ((s[a + 4]'hlt).toNat : Int) * 268435456) / 2), .int .i64 ((a : Int) + 4 + 1), .int .i64 0]) (by simp [results, Tryz.results73, go_sem]) rfl ⟨ret3 HX.out.symm (by show _ = unf _; rw [eN]; exact (unf_even _ hp).symm) (by show ((a : Int) + 4 + 1) = (a : Int) + ((4 : Nat) : Int) + 1; omega) rfl, (Below.refl _ _).alloc (Nat.le_refl _) _⟩
            · go_wp2
              exact bodyPost_ret (v := .agg #[.int .i64 (-((u + ((s[a + 4]'hlt).toNat : Int) * 268435456) / 2) - 1), .int .i64 ((a : Int) + 4 + 1), .int .i64 0]) (by simp [results, Tryz.results73, go_sem]) rfl ⟨ret3 HX.out.symm (by show _ = unf _; rw [eN]; exact (unf_odd _ hp).symm) (by show ((a : Int) + 4 + 1) = (a : Int) + ((4 : Nat) : Int) + 1; omega) rfl, (Below.refl _ _).alloc (Nat.le_refl _) _⟩
        · have HX := hide ((scan_more s a 5 4 u hlt (by omega) (by omega)).symm.trans HS.out)
          have eN : u + ((s[a + 4]'hlt).toNat : Int) % 128 * 128 ^ 4 = u + ((s[a + 4]'hlt).toNat : Int) % 128 * 268435456 := by rw [pow4]
          go_wp2
          go_round
          case rel => exact ⟨5, _, by omega, by omega, (by show _ < (128 : Int) ^ 5; rw [pow5]; omega), rfl, rfl, (by rw [← eN]; exact HX)⟩
          case measure => simp [intOf]
      · have HX := hide (HS.out.symm.trans (scan_short s a 5 4 u hlt))
        go_wp2
        exact bodyPost_ret (v := .agg #[.int .i64 0, .int .i64 0, .int .i64 4]) (by simp [results, Tryz.results73, go_sem]) rfl ⟨ret3 HX.out.symm rfl rfl rfl, (Below.refl _ _).alloc (Nat.le_refl _) _⟩
    · have hu1 : u < 34359738368 := by rw [pow5] at hU; exact hU
      clear hU HU
      by_cases hlt : a + 5 < s.size
      · have hb := byte_lt s (a + 5) hlt
        by_cases hc : ((s[a + 5]'hlt).toNat : Int) < 128
        · by_cases hc0 : ((s[a + 5]'hlt).toNat : Int) = 0
          · have HX := hide (HS.out.symm.trans (scan_bad s a 4 5 u hlt (.inl hc) (.inr ⟨by omega, hc0⟩)))
            have hz : (s[a + 5]'hlt).toNat = 0 := by omega
            go_wp2
            exact bodyPost_ret (v := .agg #[.int .i64 0, .int .i64 0, .int .i64 3]) (by simp [results, Tryz.results73, go_sem]) rfl ⟨ret3 HX.out.symm rfl rfl rfl, (Below.refl _ _).alloc (Nat.le_refl _) _⟩
          · have HX := hide (HS.out.symm.trans (scan_last s a 4 5 u hlt (.inl hc) (by omega)))
            have hz : ¬ (s[a + 5]'hlt).toNat = 0 := by omega
            have em : ((s[a + 5]'hlt).toNat : Int) % 128 = ((s[a + 5]'hlt).toNat : Int) := by omega
            have eN : u + ((s[a + 5]'hlt).toNat : Int) * 128 ^ 5 = u + ((s[a + 5]'hlt).toNat : Int) * 34359738368 := by rw [pow5]
            cases hp : ((u + ((s[a + 5]'hlt).toNat : Int) * 34359738368) % 2 == 1)
            · go_wp2
              exact bodyPost_ret (v := .agg #[.int .i64 ((u + ((s[a + 5]'hlt).toNat : Int) * 34359738368) / 2), .int .i64 ((a : Int) + 5 + 1), .int .i64 0]) (by simp [results, Tryz.results73, go_sem]) rfl ⟨ret3 HX.out.symm (by show _ = unf _; rw [eN]; exact (unf_even _ hp).symm) (by show ((a : Int) + 5 + 1) = (a : Int) + ((5 : Nat) : Int) + 1; omega) rfl, (Below.refl _ _).alloc (Nat.le_refl _) _⟩
            · go_wp2
              exact bodyPost_ret (v := .agg #[.int .i64 (-((u + ((s[a + 5]'hlt).toNat : Int) * 34359738368) / 2) - 1), .int .i64 ((a : Int) + 5 + 1), .int .i64 0]) (by simp [results, Tryz.results73, go_sem]) rfl ⟨ret3 HX.out.symm (by show _ = unf _; rw [eN]; exact (unf_odd _ hp).symm) (by show ((a : Int) + 5 + 1) = (a : Int) + ((5 : Nat) : Int) + 1; omega) rfl, (Below.refl _ _).alloc (Nat.le_refl _) _⟩
        · have HX := hide ((scan_more s a 4 5 u hlt (by omega) (by omega)).symm.trans HS.out)
          have eN : u + ((s[a + 5]'hlt).toNat : Int) % 128 * 128 ^ 5 = u + ((s[a + 5]'hlt).toNat : Int) % 128 * 34359738368 := by rw [pow5]
          go_wp2
          go_round
          case rel => exact ⟨6, _, by omega, by omega, (by show _ < (128 : Int) ^ 6; rw [pow6]; omega), rfl, rfl, (by rw [← eN]; exact HX)⟩
          case measure => simp [intOf]
      · have HX := hide (HS.out.symm.trans (scan_short s a 4 5 u hlt))
        go_wp2
        exact bodyPost_ret (v := .agg #[.int .i64 0, .int .i64 0, .int .i64 4]) (by simp [results, Tryz.results73, go_sem]) rfl ⟨ret3 HX.out.symm rfl rfl rfl, (Below.refl _ _).alloc (Nat.le_refl _) _⟩
    · have hu1 : u < 4398046511104 := by rw [pow6] at hU; exact hU
      clear hU HU
      by_cases hlt : a + 6 < s.size
      · have hb := byte_lt s (a + 6) hlt
        by_cases hc : ((s[a + 6]'hlt).toNat : Int) < 128
        · by_cases hc0 : ((s[a + 6]'hlt).toNat : Int) = 0
          · have HX := hide (HS.out.symm.trans (scan_bad s a 3 6 u hlt (.inl hc) (.inr ⟨by omega, hc0⟩)))
            have hz : (s[a + 6]'hlt).toNat = 0 := by omega
            go_wp2
            exact bodyPost_ret (v := .agg #[.int .i64 0, .int .i64 0, .int .i64 3]) (by simp [results, Tryz.results73, go_sem]) rfl ⟨ret3 HX.out.symm rfl rfl rfl, (Below.refl _ _).alloc (Nat.le_refl _) _⟩
          · have HX := hide (HS.out.symm.trans (scan_last s a 3 6 u hlt (.inl hc) (by omega)))
            have hz : ¬ (s[a + 6]'hlt).toNat = 0 := by omega
            have em : ((s[a + 6]'hlt).toNat : Int) % 128 = ((s[a + 6]'hlt).toNat : Int) := by omega
            have eN : u + ((s[a + 6]'hlt).toNat : Int) * 128 ^ 6 = u + ((s[a + 6]'hlt).toNat : Int) * 4398046511104 := by rw [pow6]
            cases hp : ((u + ((s[a + 6]'hlt).toNat : Int) * 4398046511104) % 2 == 1)
            · go_wp2
              exact bodyPost_ret (v := .agg #[.int .i64 ((u + ((s[a + 6]'hlt).toNat : Int) * 4398046511104) / 2), .int .i64 ((a : Int) + 6 + 1), .int .i64 0]) (by simp [results, Tryz.results73, go_sem]) rfl ⟨ret3 HX.out.symm (by show _ = unf _; rw [eN]; exact (unf_even _ hp).symm) (by show ((a : Int) + 6 + 1) = (a : Int) + ((6 : Nat) : Int) + 1; omega) rfl, (Below.refl _ _).alloc (Nat.le_refl _) _⟩
            · go_wp2
              exact bodyPost_ret (v := .agg #[.int .i64 (-((u + ((s[a + 6]'hlt).toNat : Int) * 4398046511104) / 2) - 1), .int .i64 ((a : Int) + 6 + 1), .int .i64 0]) (by simp [results, Tryz.results73, go_sem]) rfl ⟨ret3 HX.out.symm (by show _ = unf _; rw [eN]; exact (unf_odd _ hp).symm) (by show ((a : Int) + 6 + 1) = (a : Int) + ((6 : Nat) : Int) + 1; omega) rfl, (Below.refl _ _).alloc (Nat.le_refl _) _⟩
        · have HX := hide ((scan_more s a 3 6 u hlt (by omega) (by omega)).symm.trans HS.out)
          have eN : u + ((s[a + 6]'hlt).toNat : Int) % 128 * 128 ^ 6 = u + ((s[a + 6]'hlt).toNat : Int) % 128 * 4398046511104 := by rw [pow6]
          go_wp2
          go_round
          case rel => exact ⟨7, _, by omega, by omega, (by show _ < (128 : Int) ^ 7; rw [pow7]; omega), rfl, rfl, (by rw [← eN]; exact HX)⟩
          case measure => simp [intOf]
      · have HX := hide (HS.out.symm.trans (scan_short s a 3 6 u hlt))
        go_wp2
        exact bodyPost_ret (v := .agg #[.int .i64 0, .int .i64 0, .int .i64 4]) (by simp [results, Tryz.results73, go_sem]) rfl ⟨ret3 HX.out.symm rfl rfl rfl, (Below.refl _ _).alloc (Nat.le_refl _) _⟩
    · have hu1 : u < 562949953421312 := by rw [pow7] at hU; exact hU
      clear hU HU
      by_cases hlt : a + 7 < s.size
      · have hb := byte_lt s (a + 7) hlt
        by_cases hc : ((s[a + 7]'hlt).toNat : Int) < 128
        · by_cases hc0 : ((s[a + 7]'hlt).toNat : Int) = 0
          · have HX := hide (HS.out.symm.trans (scan_bad s a 2 7 u hlt (.inl hc) (.inr ⟨by omega, hc0⟩)))
            have hz : (s[a + 7]'hlt).toNat = 0 := by omega
            go_wp2
            exact bodyPost_ret (v := .agg #[.int .i64 0, .int .i64 0, .int .i64 3]) (by simp [results, Tryz.results73, go_sem]) rfl ⟨ret3 HX.out.symm rfl rfl rfl, (Below.refl _ _).alloc (Nat.le_refl _) _⟩
          · have HX := hide (HS.out.symm.trans (scan_last s a 2 7 u hlt (.inl hc) (by omega)))
            have hz : ¬ (s[a + 7]'hlt).toNat = 0 := by omega
            have em : ((s[a + 7]'hlt).toNat : Int) % 128 = ((s[a + 7]'hlt).toNat : Int) := by omega
            have eN : u + ((s[a + 7]'hlt).toNat : Int) * 128 ^ 7 = u + ((s[a + 7]'hlt).toNat : Int) * 562949953421312 := by rw [pow7]
            cases hp : ((u + ((s[a + 7]'hlt).toNat : Int) * 562949953421312) % 2 == 1)
            · go_wp2
              exact bodyPost_ret (v := .agg #[.int .i64 ((u + ((s[a + 7]'hlt).toNat : Int) * 562949953421312) / 2), .int .i64 ((a : Int) + 7 + 1), .int .i64 0]) (by simp [results, Tryz.results73, go_sem]) rfl ⟨ret3 HX.out.symm (by show _ = unf _; rw [eN]; exact (unf_even _ hp).symm) (by show ((a : Int) + 7 + 1) = (a : Int) + ((7 : Nat) : Int) + 1; omega) rfl, (Below.refl _ _).alloc (Nat.le_refl _) _⟩
            · go_wp2
              exact bodyPost_ret (v := .agg #[.int .i64 (-((u + ((s[a + 7]'hlt).toNat : Int) * 562949953421312) / 2) - 1), .int .i64 ((a : Int) + 7 + 1), .int .i64 0]) (by simp [results, Tryz.results73, go_sem]) rfl ⟨ret3 HX.out.symm (by show _ = unf _; rw [eN]; exact (unf_odd _ hp).symm) (by show ((a : Int) + 7 + 1) = (a : Int) + ((7 : Nat) : Int) + 1; omega) rfl, (Below.refl _ _).alloc (Nat.le_refl _) _⟩
        · have HX := hide ((scan_more s a 2 7 u hlt (by omega) (by omega)).symm.trans HS.out)
          have eN : u + ((s[a + 7]'hlt).toNat : Int) % 128 * 128 ^ 7 = u + ((s[a + 7]'hlt).toNat : Int) % 128 * 562949953421312 := by rw [pow7]
          go_wp2
          go_round
          case rel => exact ⟨8, _, by omega, by omega, (by show _ < (128 : Int) ^ 8; rw [pow8]; omega), rfl, rfl, (by rw [← eN]; exact HX)⟩
          case measure => simp [intOf]
      · have HX := hide (HS.out.symm.trans (scan_short s a 2 7 u hlt))
        go_wp2
        exact bodyPost_ret (v := .agg #[.int .i64 0, .int .i64 0, .int .i64 4]) (by simp [results, Tryz.results73, go_sem]) rfl ⟨ret3 HX.out.symm rfl rfl rfl, (Below.refl _ _).alloc (Nat.le_refl _) _⟩
    · have hu1 : u < 72057594037927936 := by rw [pow8] at hU; exact hU
      clear hU HU
      by_cases hlt : a + 8 < s.size
      · have hb := byte_lt s (a + 8) hlt
        by_cases hc : ((s[a + 8]'hlt).toNat : Int) < 128
        · by_cases hc0 : ((s[a + 8]'hlt).toNat : Int) = 0
          · have HX := hide (HS.out.symm.trans (scan_bad s a 1 8 u hlt (.inl hc) (.inr ⟨by omega, hc0⟩)))
            have hz : (s[a + 8]'hlt).toNat = 0 := by omega
            go_wp2
            exact bodyPost_ret (v := .agg #[.int .i64 0, .int .i64 0, .int .i64 3]) (by simp [results, Tryz.results73, go_sem]) rfl ⟨ret3 HX.out.symm rfl rfl rfl, (Below.refl _ _).alloc (Nat.le_refl _) _⟩
          · have HX := hide (HS.out.symm.trans (scan_last s a 1 8 u hlt (.inl hc) (by omega)))
            have hz : ¬ (s[a + 8]'hlt).toNat = 0 := by omega
            have em : ((s[a + 8]'hlt).toNat : Int) % 128 = ((s[a + 8]'hlt).toNat : Int) := by omega
            have eN : u + ((s[a + 8]'hlt).toNat : Int) * 128 ^ 8 = u + ((s[a + 8]'hlt).toNat : Int) * 72057594037927936 := by rw [pow8]
            cases hp : ((u + ((s[a + 8]'hlt).toNat : Int) * 72057594037927936) % 2 == 1)
            · go_wp2
              exact bodyPost_ret (v := .agg #[.int .i64 ((u + ((s[a + 8]'hlt).toNat : Int) * 72057594037927936) / 2), .int .i64 ((a : Int) + 8 + 1), .int .i64 0]) (by simp [results, Tryz.results73, go_sem]) rfl ⟨ret3 HX.out.symm (by show _ = unf _; rw [eN]; exact (unf_even _ hp).symm) (by show ((a : Int) + 8 + 1) = (a : Int) + ((8 : Nat) : Int) + 1; omega) rfl, (Below.refl _ _).alloc (Nat.le_refl _) _⟩
            · go_wp2
              exact bodyPost_ret (v := .agg #[.int .i64 (-((u + ((s[a + 8]'hlt).toNat : Int) * 72057594037927936) / 2) - 1), .int .i64 ((a : Int) + 8 + 1), .int .i64 0]) (by simp [results, Tryz.results73, go_sem]) rfl ⟨ret3 HX.out.symm (by show _ = unf _; rw [eN]; exact (unf_odd _ hp).symm) (by show ((a : Int) + 8 + 1) = (a : Int) + ((8 : Nat) : Int) + 1; omega) rfl, (Below.refl _ _).alloc (Nat.le_refl _) _⟩
        · have HX := hide ((scan_more s a 1 8 u hlt (by omega) (by omega)).symm.trans HS.out)
          have eN : u + ((s[a + 8]'hlt).toNat : Int) % 128 * 128 ^ 8 = u + ((s[a + 8]'hlt).toNat : Int) % 128 * 72057594037927936 := by rw [pow8]
          go_wp2
          go_round
          case rel => exact ⟨9, _, by omega, by omega, (by show _ < (128 : Int) ^ 9; rw [pow9]; omega), rfl, rfl, (by rw [← eN]; exact HX)⟩
          case measure => simp [intOf]
      · have HX := hide (HS.out.symm.trans (scan_short s a 1 8 u hlt))
        go_wp2
        exact bodyPost_ret (v := .agg #[.int .i64 0, .int .i64 0, .int .i64 4]) (by simp [results, Tryz.results73, go_sem]) rfl ⟨ret3 HX.out.symm rfl rfl rfl, (Below.refl _ _).alloc (Nat.le_refl _) _⟩
    · have hu1 : u < 9223372036854775808 := by rw [pow9] at hU; exact hU
      clear hU HU
      by_cases hlt : a + 9 < s.size
      · have hb := byte_lt s (a + 9) hlt
        by_cases hc1 : 1 < ((s[a + 9]'hlt).toNat : Int)
        · have HX := hide (HS.out.symm.trans (scan_bad s a 0 9 u hlt (.inr rfl) (.inl ⟨rfl, hc1⟩)))
          go_wp2
          exact bodyPost_ret (v := .agg #[.int .i64 0, .int .i64 0, .int .i64 3]) (by simp [results, Tryz.results73, go_sem]) rfl ⟨ret3 HX.out.symm rfl rfl rfl, (Below.refl _ _).alloc (Nat.le_refl _) _⟩
        · by_cases hc0 : ((s[a + 9]'hlt).toNat : Int) = 0
          · have HX := hide (HS.out.symm.trans (scan_bad s a 0 9 u hlt (.inr rfl) (.inr ⟨by omega, hc0⟩)))
            have hz : (s[a + 9]'hlt).toNat = 0 := by omega
            go_wp2
            exact bodyPost_ret (v := .agg #[.int .i64 0, .int .i64 0, .int .i64 3]) (by simp [results, Tryz.results73, go_sem]) rfl ⟨ret3 HX.out.symm rfl rfl rfl, (Below.refl _ _).alloc (Nat.le_refl _) _⟩
          · have HX := hide (HS.out.symm.trans (scan_last s a 0 9 u hlt (.inr rfl) (by omega)))
            have hz : ¬ (s[a + 9]'hlt).toNat = 0 := by omega
            have em : ((s[a + 9]'hlt).toNat : Int) % 128 = ((s[a + 9]'hlt).toNat : Int) := by omega
            have eN : u + ((s[a + 9]'hlt).toNat : Int) * 128 ^ 9 = u + ((s[a + 9]'hlt).toNat : Int) * 9223372036854775808 := by rw [pow9]
            cases hp : ((u + ((s[a + 9]'hlt).toNat : Int) * 9223372036854775808) % 2 == 1)
            · go_wp2
              exact bodyPost_ret (v := .agg #[.int .i64 ((u + ((s[a + 9]'hlt).toNat : Int) * 9223372036854775808) / 2), .int .i64 ((a : Int) + 9 + 1), .int .i64 0]) (by simp [results, Tryz.results73, go_sem]) rfl ⟨ret3 HX.out.symm (by show _ = unf _; rw [eN]; exact (unf_even _ hp).symm) (by show ((a : Int) + 9 + 1) = (a : Int) + ((9 : Nat) : Int) + 1; omega) rfl, (Below.refl _ _).alloc (Nat.le_refl _) _⟩
            · go_wp2
              exact bodyPost_ret (v := .agg #[.int .i64 (-((u + ((s[a + 9]'hlt).toNat : Int) * 9223372036854775808) / 2) - 1), .int .i64 ((a : Int) + 9 + 1), .int .i64 0]) (by simp [results, Tryz.results73, go_sem]) rfl ⟨ret3 HX.out.symm (by show _ = unf _; rw [eN]; exact (unf_odd _ hp).symm) (by show ((a : Int) + 9 + 1) = (a : Int) + ((9 : Nat) : Int) + 1; omega) rfl, (Below.refl _ _).alloc (Nat.le_refl _) _⟩
      · have HX := hide (HS.out.symm.trans (scan_short s a 0 9 u hlt))
        go_wp2
        exact bodyPost_ret (v := .agg #[.int .i64 0, .int .i64 0, .int .i64 4]) (by simp [results, Tryz.results73, go_sem]) rfl ⟨ret3 HX.out.symm rfl rfl rfl, (Below.refl _ _).alloc (Nat.le_refl _) _⟩
end Go.Proofs.YtkmehbgepkilkaaGreatDoor.St3

/- readNum of the program: what its loop of goto comes to at each label, and what it answers: what 'scan' reads. -/
namespace Go.Proofs.YtkmehbgepkilkaaGreatDoor.St3
open Go.RowKit

theorem and127b (x : Int) (h0 : 0 ≤ x) (h1 : x ≤ 255) : bits .and .u8 x 127 = x % 128 := by
  obtain ⟨m, rfl⟩ := Int.eq_ofNat_of_zero_le h0
  have key : ∀ m : Fin 256, bits .and .u8 (m.val : Int) 127 = (m.val : Int) % 128 := by decide +kernel
  exact key ⟨m, by omega⟩
theorem or_addP (u x P : Int) (k : Nat) (hP : P = ((2 ^ k : Nat) : Int)) (hu : 0 ≤ u) (hu1 : u < P) (hx : 0 ≤ x) (hb : u + x * P ≤ 18446744073709551615) : bits .or .u64 u (x * P) = u + x * P := by
  obtain ⟨m, rfl⟩ := Int.eq_ofNat_of_zero_le hu
  obtain ⟨n, rfl⟩ := Int.eq_ofNat_of_zero_le hx
  subst hP
  have hm : m < 2 ^ k := by omega
  have e : ((n : Int) * ((2 ^ k : Nat) : Int)) = ((n * 2 ^ k : Nat) : Int) := by simp
  rw [e] at hb ⊢
  generalize hq : n * 2 ^ k = q at *
  have e0 : bits .or .u64 (m : Int) (q : Int) = IntKind.u64.wrap (((BitVec.ofInt 64 (m : Int)) ||| (BitVec.ofInt 64 (q : Int))).toNat : Int) := rfl
  have e1 : (BitVec.ofInt 64 (m : Int)).toNat = m := by simp; omega
  have e2 : (BitVec.ofInt 64 (q : Int)).toNat = q := by simp; omega
  have e3 : m ||| q = q + m := by
    rw [Nat.or_comm, ← hq, Nat.mul_comm n, ← Nat.two_pow_add_eq_or_of_lt hm]
  rw [e0, BitVec.toNat_or, e1, e2, e3]
  simp [IntKind.wrap, IntKind.signed, IntKind.bits]
  omega
theorem or_zero (x : Int) (h0 : 0 ≤ x) (h1 : x ≤ 255) : bits .or .u64 0 x = x := by
  obtain ⟨m, rfl⟩ := Int.eq_ofNat_of_zero_le h0
  have key : ∀ m : Fin 256, bits .or .u64 0 (m.val : Int) = (m.val : Int) := by decide +kernel
  exact key ⟨m, by omega⟩
theorem and1 (u : Int) (h0 : 0 ≤ u) (h1 : u ≤ 18446744073709551615) : bits .and .u64 u 1 = u % 2 := by
  obtain ⟨m, rfl⟩ := Int.eq_ofNat_of_zero_le h0
  have e0 : bits .and .u64 (m : Int) 1 = IntKind.u64.wrap (((BitVec.ofInt 64 (m : Int)) &&& (BitVec.ofInt 64 1)).toNat : Int) := rfl
  have e1 : (BitVec.ofInt 64 (m : Int)).toNat = m := by simp; omega
  have e2 : (BitVec.ofInt 64 1).toNat = 1 := by decide
  rw [e0, BitVec.toNat_and, e1, e2, Nat.and_one_is_mod]
  simp [IntKind.wrap, IntKind.signed, IntKind.bits]
  omega
theorem xorneg (x : Int) (h0 : 0 ≤ x) (h1 : x ≤ 9223372036854775807) : bits .xor .i64 (-1) x = -x - 1 := by
  obtain ⟨m, rfl⟩ := Int.eq_ofNat_of_zero_le h0
  have e0 : bits .xor .i64 (-1) (m : Int) = IntKind.i64.wrap (((BitVec.ofInt 64 (-1)) ^^^ (BitVec.ofInt 64 (m : Int))).toNat : Int) := rfl
  have e1 : (BitVec.ofInt 64 (m : Int)).toNat = m := by simp; omega
  have e2 : BitVec.ofInt 64 (-1) = BitVec.allOnes 64 := by decide
  rw [e0, e2, BitVec.allOnes_xor, BitVec.toNat_not, e1]
  simp [IntKind.wrap, IntKind.signed, IntKind.bits]
  omega
theorem ret_int {k : IntKind} {a b : Int} (h : a = b) : Ending.returned (.int k a) = .returned (.int k b) := by rw [h]

set_option maxHeartbeats 400000 in
theorem unfoldSign_any (u : Int) (w : World) (h0 : 0 ≤ u) (h1 : u ≤ 18446744073709551615) :
    Calls Tryz.prog 101 #[.int .u64 u] w fun e w' => e = .returned (.int .i64 (unf u)) ∧ w' = w := by
  have HA := hide (and1 u h0 h1)
  cases hp : (bits .and .u64 u 1 == 1)
  · go_enter Tryz.func101, Tryz.ntmps101
    go_wp2
    go_ret
    refine ⟨ret_int ?_, rfl⟩
    rw [HA.out] at hp
    rw [unf, if_neg (by simpa using hp)]
  · go_enter Tryz.func101, Tryz.ntmps101
    go_wp2
    go_ret
    refine ⟨ret_int ?_, rfl⟩
    rw [HA.out] at hp
    rw [unf, if_pos (by simpa using hp)]
    exact xorneg _ (by omega) (by omega)

def J1 (s : ByteArray) (a : Nat) (R : Int × Int × Int) (b : Act) : Prop :=
  ∃ (k : Nat) (u p sh : Int) (u9 u11 u12 u13 u14 u15 u16 u17 u18 u19 u20 u21 u22 u23 u24 u25 u26 u27 u28 u29 u30 u31 u32 u33 u34 u35 u36 u37 u38 u39 u40 u41 u42 u43 u44 u45 u46 u47 u48 u49 u50 u51 u52 u53 u54 u55 u56 u57 u58 u59 : Value), p = (a : Int) + (k : Int) ∧ sh = 7 * (k : Int) ∧ 1 ≤ k ∧ k ≤ 9 ∧ 0 ≤ u ∧ u < 128 ^ k ∧ scan s a (10 - k) k u = R ∧ b = { tmps := #[.string s, .int .i64 p, undef, undef, .int .i64 0, .int .i64 0, .nilIface, .int .u64 u, .int .u64 sh, u9, .int .i64 0, u11, u12, u13, u14, u15, u16, u17, u18, u19, u20, u21, u22, u23, u24, u25, u26, u27, u28, u29, u30, u31, u32, u33, u34, u35, u36, u37, u38, u39, u40, u41, u42, u43, u44, u45, u46, u47, u48, u49, u50, u51, u52, u53, u54, u55, u56, u57, u58, u59], defers := [] }
def J2 (s : ByteArray) (a : Nat) (R : Int × Int × Int) (b : Act) : Prop :=
  ∃ (k : Nat) (u c p sh : Int) (u11 u12 u13 u14 u15 u16 u17 u18 u19 u20 u21 u22 u23 u24 u25 u26 u27 u28 u29 u30 u31 u32 u33 u34 u35 u36 u37 u38 u39 u40 u41 u42 u43 u44 u45 u46 u47 u48 u49 u50 u51 u52 u53 u54 u55 u56 u57 u58 u59 : Value), p = (a : Int) + (k : Int) + 1 ∧ sh = 7 * (k : Int) ∧ k ≤ 9 ∧ 0 ≤ u ∧ u < 128 ^ k ∧ (c < 128 ∨ k = 9) ∧ (∃ h : a + k < s.size, c = ((s[a + k]'h).toNat : Int)) ∧ scan s a (10 - k) k u = R ∧ b = { tmps := #[.string s, .int .i64 p, undef, undef, .int .i64 0, .int .i64 0, .nilIface, .int .u64 u, .int .u64 sh, .int .u8 c, .int .i64 0, u11, u12, u13, u14, u15, u16, u17, u18, u19, u20, u21, u22, u23, u24, u25, u26, u27, u28, u29, u30, u31, u32, u33, u34, u35, u36, u37, u38, u39, u40, u41, u42, u43, u44, u45, u46, u47, u48, u49, u50, u51, u52, u53, u54, u55, u56, u57, u58, u59], defers := [] }
def J0 (s : ByteArray) (R : Int × Int × Int) (b : Act) : Prop :=
  ∃ (c : Int) (u1 u7 u8 u9 u11 u12 u13 u14 u15 u16 u17 u18 u19 u20 u21 u22 u23 u24 u25 u26 u27 u28 u29 u30 u31 u32 u33 u34 u35 u36 u37 u38 u39 u40 u41 u42 u43 u44 u45 u46 u47 u48 u49 u50 u51 u52 u53 u54 u55 u56 u57 u58 u59 : Value), R = (0, 0, c) ∧ (c = 3 ∨ c = 4) ∧ b = { tmps := #[.string s, u1, undef, undef, .int .i64 0, .int .i64 0, .nilIface, u7, u8, u9, .int .i64 c, u11, u12, u13, u14, u15, u16, u17, u18, u19, u20, u21, u22, u23, u24, u25, u26, u27, u28, u29, u30, u31, u32, u33, u34, u35, u36, u37, u38, u39, u40, u41, u42, u43, u44, u45, u46, u47, u48, u49, u50, u51, u52, u53, u54, u55, u56, u57, u58, u59], defers := [] }
def Jm (s : ByteArray) (a : Nat) (R : Int × Int × Int) (w0 : World) (l : Nat) (b : Act) (w : World) : Prop :=
  w = w0 ∧ ((l = 0 ∧ J0 s R b) ∨ (l = 1 ∧ J1 s a R b) ∨ (l = 2 ∧ J2 s a R b))
def muOf (l : Nat) (b : Act) (_ : World) : Nat := if l = 1 then 100 - (intOf (b.tmps.getD 8 undef)).toNat else l
def tup (R : Int × Int × Int) : Value := if R.2.2 = 0 then .tuple #[.int .i64 R.1, .int .i64 R.2.1, .nilIface] else .tuple #[.int .i64 0, .int .i64 0, .iface 142 (.agg #[.int .i64 R.2.2])]
theorem qow0 : (128 : Int) ^ 0 = 1 := by decide
theorem qow1 : (128 : Int) ^ 1 = 128 := by decide
theorem qow2 : (128 : Int) ^ 2 = 16384 := by decide
theorem qow3 : (128 : Int) ^ 3 = 2097152 := by decide
theorem qow4 : (128 : Int) ^ 4 = 268435456 := by decide
theorem qow5 : (128 : Int) ^ 5 = 34359738368 := by decide
theorem qow6 : (128 : Int) ^ 6 = 4398046511104 := by decide
theorem qow7 : (128 : Int) ^ 7 = 562949953421312 := by decide
theorem qow8 : (128 : Int) ^ 8 = 72057594037927936 := by decide
theorem qow9 : (128 : Int) ^ 9 = 9223372036854775808 := by decide
set_option maxRecDepth 100000 in
set_option maxHeartbeats 16000000 in
theorem readNum_any (s : ByteArray) (a : Nat) (R : Int × Int × Int) (w : World) (hs : s.size ≤ 8000) (ha : (a : Int) ≤ 9223372036854775807) (HR : Hid (scan s a 10 0 0 = R)) :
    Calls Tryz.prog 98 #[.string s, .int .i64 (a : Int)] w fun e w' => e = .returned (tup R) ∧ w' = w := by
  go_enter Tryz.func98, Tryz.ntmps98
  go_wp2
  refine wp_scope_many (Jm s a R w) muOf ?_ ?_
  · by_cases hlt : a < s.size
    · have hb := byte_lt s a hlt
      by_cases hc : ((s[a]'hlt).toNat : Int) < 128
      · go_wp2
        go_step3
        go_wp2
        go_step3
        exact ⟨rfl, .inr (.inr ⟨rfl, 0, 0, ((s[a]'hlt).toNat : Int), _, _, _, _, _, _, _, _, _, _, _, _, _, _, _, _, _, _, _, _, _, _, _, _, _, _, _, _, _, _, _, _, _, _, _, _, _, _, _, _, _, _, _, _, _, _, _, _, _, _, _, by omega, by omega, by omega, by omega, by decide, .inl hc, ⟨hlt, rfl⟩, HR.out, rfl⟩)⟩
      · have hand := and127b ((s[a]'hlt).toNat : Int) (by omega) hb
        have hor := or_zero (((s[a]'hlt).toNat : Int) % 128) (by omega) (by omega)
        have HX : Hid (scan s a 9 (0 + 1) (0 + ((s[a]'hlt).toNat : Int) % 128 * 128 ^ 0) = R) := (scan_more s a 9 0 0 hlt (show 128 ≤ ((s[a]'hlt).toNat : Int) by omega) (by omega)).symm.trans HR.out
        go_wp2
        go_step3
        go_wp2
        go_step3
        exact ⟨rfl, .inr (.inl ⟨rfl, 1, ((s[a]'hlt).toNat : Int) % 128, _, _, _, _, _, _, _, _, _, _, _, _, _, _, _, _, _, _, _, _, _, _, _, _, _, _, _, _, _, _, _, _, _, _, _, _, _, _, _, _, _, _, _, _, _, _, _, _, _, _, _, _, by omega, by omega, by omega, by omega, by omega, by omega, (by simpa using HX.out), rfl⟩)⟩
    · have HX := hide (HR.out.symm.trans (scan_short s a 9 0 0 hlt))
      go_wp2
      go_step3
      go_wp2
      go_step3
      exact ⟨rfl, .inl ⟨rfl, 4, _, _, _, _, _, _, _, _, _, _, _, _, _, _, _, _, _, _, _, _, _, _, _, _, _, _, _, _, _, _, _, _, _, _, _, _, _, _, _, _, _, _, _, _, _, _, _, _, _, _, _, _, _, HX.out, .inr rfl, rfl⟩⟩
  · intro l b w' hJ
    obtain ⟨rfl, ⟨rfl, h⟩ | ⟨rfl, h⟩ | ⟨rfl, h⟩⟩ := hJ
    · obtain ⟨c, u1, u7, u8, u9, u11, u12, u13, u14, u15, u16, u17, u18, u19, u20, u21, u22, u23, u24, u25, u26, u27, u28, u29, u30, u31, u32, u33, u34, u35, u36, u37, u38, u39, u40, u41, u42, u43, u44, u45, u46, u47, u48, u49, u50, u51, u52, u53, u54, u55, u56, u57, u58, u59, hR, hc, rfl⟩ := h
      refine ⟨_, rfl, ?_⟩
      have HX : Hid (tup R = .tuple #[.int .i64 0, .int .i64 0, .iface 142 (.agg #[.int .i64 c])]) := by rw [hR]; exact if_neg (show ¬ c = 0 by omega)
      clear hR hc
      go_wp2
      simp only [jumps]
      go_ret3
      exact ⟨by rw [HX.out]; rfl, rfl⟩
    · obtain ⟨k, u, p, sh, u9, u11, u12, u13, u14, u15, u16, u17, u18, u19, u20, u21, u22, u23, u24, u25, u26, u27, u28, u29, u30, u31, u32, u33, u34, u35, u36, u37, u38, u39, u40, u41, u42, u43, u44, u45, u46, u47, u48, u49, u50, u51, u52, u53, u54, u55, u56, u57, u58, u59, hp, hsh, hk1, hk, hu0, hU, hS, rfl⟩ := h
      refine ⟨_, rfl, ?_⟩
      have HS := hide hS
      clear hS
      rcases (show k = 1 ∨ k = 2 ∨ k = 3 ∨ k = 4 ∨ k = 5 ∨ k = 6 ∨ k = 7 ∨ k = 8 ∨ k = 9 by omega) with rfl | rfl | rfl | rfl | rfl | rfl | rfl | rfl | rfl
      · obtain rfl : p = (a : Int) + 1 := by omega
        obtain rfl : sh = 7 := by omega
        have hu1 : u < 128 := by rw [qow1] at hU; exact hU
        clear hU hp hsh
        by_cases hlt : a + 1 < s.size
        · have hb := byte_lt s (a + 1) hlt
          by_cases hc : ((s[a + 1]'hlt).toNat : Int) < 128
          · go_wp2
            go_step3
            exact ⟨⟨rfl, .inr (.inr ⟨rfl, 1, u, ((s[a + 1]'hlt).toNat : Int), _, _, _, _, _, _, _, _, _, _, _, _, _, _, _, _, _, _, _, _, _, _, _, _, _, _, _, _, _, _, _, _, _, _, _, _, _, _, _, _, _, _, _, _, _, _, _, _, _, _, _, by omega, by omega, by omega, by omega, by rw [qow1]; exact hu1, .inl hc, ⟨hlt, rfl⟩, HS.out, rfl⟩)⟩, by simp [muOf, intOf]⟩
          · have hand := and127b ((s[a + 1]'hlt).toNat : Int) (by omega) hb
            have hor := or_addP u (((s[a + 1]'hlt).toNat : Int) % 128) 128 7 (by decide) hu0 hu1 (by omega) (by omega)
            have HX := hide ((scan_more s a 8 1 u hlt (by omega) (by omega)).symm.trans HS.out)
            have eN : u + ((s[a + 1]'hlt).toNat : Int) % 128 * 128 ^ 1 = u + ((s[a + 1]'hlt).toNat : Int) % 128 * 128 := by rw [qow1]
            go_wp2
            go_step3
            exact ⟨⟨rfl, .inr (.inl ⟨rfl, 2, _, _, _, _, _, _, _, _, _, _, _, _, _, _, _, _, _, _, _, _, _, _, _, _, _, _, _, _, _, _, _, _, _, _, _, _, _, _, _, _, _, _, _, _, _, _, _, _, _, _, _, _, _, by omega, by omega, by omega, by omega, by omega, (by rw [qow2]; omega), (by rw [← eN]; exact HX.out), rfl⟩)⟩, by simp [muOf, intOf]⟩
        · have HX := hide (HS.out.symm.trans (scan_short s a 8 1 u hlt))
          go_wp2
          go_step3
          exact ⟨⟨rfl, .inl ⟨rfl, 4, _, _, _, _, _, _, _, _, _, _, _, _, _, _, _, _, _, _, _, _, _, _, _, _, _, _, _, _, _, _, _, _, _, _, _, _, _, _, _, _, _, _, _, _, _, _, _, _, _, _, _, _, _, HX.out, .inr rfl, rfl⟩⟩, by simp [muOf, intOf]⟩
      · obtain rfl : p = (a : Int) + 2 := by omega
        obtain rfl : sh = 14 := by omega
        have hu1 : u < 16384 := by rw [qow2] at hU; exact hU
        clear hU hp hsh
        by_cases hlt : a + 2 < s.size
        · have hb := byte_lt s (a + 2) hlt
          by_cases hc : ((s[a + 2]'hlt).toNat : Int) < 128
          · go_wp2
            go_step3
            exact ⟨⟨rfl, .inr (.inr ⟨rfl, 2, u, ((s[a + 2]'hlt).toNat : Int), _, _, _, _, _, _, _, _, _, _, _, _, _, _, _, _, _, _, _, _, _, _, _, _, _, _, _, _, _, _, _, _, _, _, _, _, _, _, _, _, _, _, _, _, _, _, _, _, _, _, _, by omega, by omega, by omega, by omega, by rw [qow2]; exact hu1, .inl hc, ⟨hlt, rfl⟩, HS.out, rfl⟩)⟩, by simp [muOf, intOf]⟩
          · have hand := and127b ((s[a + 2]'hlt).toNat : Int) (by omega) hb
            have hor := or_addP u (((s[a + 2]'hlt).toNat : Int) % 128) 16384 14 (by decide) hu0 hu1 (by omega) (by omega)
            have HX := hide ((scan_more s a 7 2 u hlt (by omega) (by omega)).symm.trans HS.out)
            have eN : u + ((s[a + 2]'hlt).toNat : Int) % 128 * 128 ^ 2 = u + ((s[a + 2]'hlt).toNat : Int) % 128 * 16384 := by rw [qow2]
            go_wp2
            go_step3
            exact ⟨⟨rfl, .inr (.inl ⟨rfl, 3, _, _, _, _, _, _, _, _, _, _, _, _, _, _, _, _, _, _, _, _, _, _, _, _, _, _, _, _, _, _, _, _, _, _, _, _, _, _, _, _, _, _, _, _, _, _, _, _, _, _, _, _, _, by omega, by omega, by omega, by omega, by omega, (by rw [qow3]; omega), (by rw [← eN]; exact HX.out), rfl⟩)⟩, by simp [muOf, intOf]⟩
        · have HX := hide (HS.out.symm.trans (scan_short s a 7 2 u hlt))
          go_wp2
          go_step3
          exact ⟨⟨rfl, .inl ⟨rfl, 4, _, _, _, _, _, _, _, _, _, _, _, _, _, _, _, _, _, _, _, _, _, _, _, _, _, _, _, _, _, _, _, _, _, _, _, _, _, _, _, _, _, _, _, _, _, _, _, _, _, _, _, _, _, HX.out, .inr rfl, rfl⟩⟩, by simp [muOf, intOf]⟩
      · obtain rfl : p = (a : Int) + 3 := by omega
        obtain rfl : sh = 21 := by omega
        have hu1 : u < 2097152 := by rw [qow3] at hU; exact hU
        clear hU hp hsh
        by_cases hlt : a + 3 < s.size
        · have hb := byte_lt s (a + 3) hlt
          by_cases hc : ((s[a + 3]'hlt).toNat : Int) < 128
          · go_wp2
            go_step3
            exact ⟨⟨rfl, .inr (.inr ⟨rfl, 3, u, ((s[a + 3]'hlt).toNat : Int), _, _, _, _, _, _, _, _, _, _, _, _, _, _, _, _, _, _, _, _, _, _, _, _, _, _, _, _, _, _, _, _, _, _, _, _, _, _, _, _, _, _, _, _, _, _, _, _, _, _, _, by omega, by omega, by omega, by omega, by rw [qow3]; exact hu1, .inl hc, ⟨hlt, rfl⟩, HS.out, rfl⟩)⟩, by simp [muOf, intOf]⟩
          · have hand := and127b ((s[a + 3]'hlt).toNat : Int) (by omega) hb
            have hor := or_addP u (((s[a + 3]'hlt).toNat : Int) % 128) 2097152 21 (by decide) hu0 hu1 (by omega) (by omega)
            have HX := hide ((scan_more s a 6 3 u hlt (by omega) (by omega)).symm.trans HS.out)
            have eN : u + ((s[a + 3]'hlt).toNat : Int) % 128 * 128 ^ 3 = u + ((s[a + 3]'hlt).toNat : Int) % 128 * 2097152 := by rw [qow3]
            go_wp2
            go_step3
            exact ⟨⟨rfl, .inr (.inl ⟨rfl, 4, _, _, _, _, _, _, _, _, _, _, _, _, _, _, _, _, _, _, _, _, _, _, _, _, _, _, _, _, _, _, _, _, _, _, _, _, _, _, _, _, _, _, _, _, _, _, _, _, _, _, _, _, _, by omega, by omega, by omega, by omega, by omega, (by rw [qow4]; omega), (by rw [← eN]; exact HX.out), rfl⟩)⟩, by simp [muOf, intOf]⟩
        · have HX := hide (HS.out.symm.trans (scan_short s a 6 3 u hlt))
          go_wp2
          go_step3
          exact ⟨⟨rfl, .inl ⟨rfl, 4, _, _, _, _, _, _, _, _, _, _, _, _, _, _, _, _, _, _, _, _, _, _, _, _, _, _, _, _, _, _, _, _, _, _, _, _, _, _, _, _, _, _, _, _, _, _, _, _, _, _, _, _, _, HX.out, .inr rfl, rfl⟩⟩, by simp [muOf, intOf]⟩
      · obtain rfl : p = (a : Int) + 4 := by omega
        obtain rfl : sh = 28 := by omega
        have hu1 : u < 268435456 := by rw [qow4] at hU; exact hU
        clear hU hp hsh
        by_cases hlt : a + 4 < s.size
        · have hb := byte_lt s (a + 4) hlt
          by_cases hc : ((s[a + 4]'hlt).toNat : Int) < 128
          · go_wp2
            go_step3
            exact ⟨⟨rfl, .inr (.inr ⟨rfl, 4, u, ((s[a + 4]'hlt).toNat : Int), _, _, _, _, _, _, _, _, _, _, _, _, _, _, _, _, _, _, _, _, _, _, _, _, _, _, _, _, _, _, _, _, _, _, _, _, _, _, _, _, _, _, _, _, _, _, _, _, _, _, _, by omega, by omega, by omega, by omega, by rw [qow4]; exact hu1, .inl hc, ⟨hlt, rfl⟩, HS.out, rfl⟩)⟩, by simp [muOf, intOf]⟩
          · have hand := and127b ((s[a + 4]'hlt).toNat : Int) (by omega) hb
            have hor := or_addP u (((s[a + 4]'hlt).toNat : Int) % 128) 268435456 28 (by decide) hu0 hu1 (by omega) (by omega)
            have HX := hide ((scan_more s a 5 4 u hlt (by omega) (by omega)).symm.trans HS.out)
            have eN : u + ((s[a + 4]'hlt).toNat : Int) % 128 * 128 ^ 4 = u + ((s[a + 4]'hlt).toNat : Int) % 128 * 268435456 := by rw [qow4]
            go_wp2
            go_step3
            exact ⟨⟨rfl, .inr (.inl ⟨rfl, 5, _, _, _, _, _, _, _, _, _, _, _, _, _, _, _, _, _, _, _, _, _, _, _, _, _, _, _, _, _, _, _, _, _, _, _, _, _, _, _, _, _, _, _, _, _, _, _, _, _, _, _, _, _, by omega, by omega, by omega, by omega, by omega, (by rw [qow5]; omega), (by rw [← eN]; exact HX.out), rfl⟩)⟩, by simp [muOf, intOf]⟩
        · have HX := hide (HS.out.symm.trans (scan_short s a 5 4 u hlt))
          go_wp2
          go_step3
          exact ⟨⟨rfl, .inl ⟨rfl, 4, _, _, _, _, _, _, _, _, _, _, _, _, _, _, _, _, _, _, _, _, _, _, _, _, _, _, _, _, _, _, _, _, _, _, _, _, _, _, _, _, _, _, _, _, _, _, _, _, _, _, _, _, _, HX.out, .inr rfl, rfl⟩⟩, by simp [muOf, intOf]⟩
      · obtain rfl : p = (a : Int) + 5 := by omega
        obtain rfl : sh = 35 := by omega
        have hu1 : u < 34359738368 := by rw [qow5] at hU; exact hU
        clear hU hp hsh
        by_cases hlt : a + 5 < s.size
        · have hb := byte_lt s (a + 5) hlt
          by_cases hc : ((s[a + 5]'hlt).toNat : Int) < 128
          · go_wp2
            go_step3
            exact ⟨⟨rfl, .inr (.inr ⟨rfl, 5, u, ((s[a + 5]'hlt).toNat : Int), _, _, _, _, _, _, _, _, _, _, _, _, _, _, _, _, _, _, _, _, _, _, _, _, _, _, _, _, _, _, _, _, _, _, _, _, _, _, _, _, _, _, _, _, _, _, _, _, _, _, _, by omega, by omega, by omega, by omega, by rw [qow5]; exact hu1, .inl hc, ⟨hlt, rfl⟩, HS.out, rfl⟩)⟩, by simp [muOf, intOf]⟩
          · have hand := and127b ((s[a + 5]'hlt).toNat : Int) (by omega) hb
            have hor := or_addP u (((s[a + 5]'hlt).toNat : Int) % 128) 34359738368 35 (by decide) hu0 hu1 (by omega) (by omega)
            have HX := hide ((scan_more s a 4 5 u hlt (by omega) (by omega)).symm.trans HS.out)
            have eN : u + ((s[a + 5]'hlt).toNat : Int) % 128 * 128 ^ 5 = u + ((s[a + 5]'hlt).toNat : Int) % 128 * 34359738368 := by rw [qow5]
            go_wp2
            go_step3
            exact ⟨⟨rfl, .inr (.inl ⟨rfl, 6, _, _, _, _, _, _, _, _, _, _, _, _, _, _, _, _, _, _, _, _, _, _, _, _, _, _, _, _, _, _, _, _, _, _, _, _, _, _, _, _, _, _, _, _, _, _, _, _, _, _, _, _, _, by omega, by omega, by omega, by omega, by omega, (by rw [qow6]; omega), (by rw [← eN]; exact HX.out), rfl⟩)⟩, by simp [muOf, intOf]⟩
        · have HX := hide (HS.out.symm.trans (scan_short s a 4 5 u hlt))
          go_wp2
          go_step3
          exact ⟨⟨rfl, .inl ⟨rfl, 4, _, _, _, _, _, _, _, _, _, _, _, _, _, _, _, _, _, _, _, _, _, _, _, _, _, _, _, _, _, _, _, _, _, _, _, _, _, _, _, _, _, _, _, _, _, _, _, _, _, _, _, _, _, HX.out, .inr rfl, rfl⟩⟩, by simp [muOf, intOf]⟩
      · obtain rfl : p = (a : Int) + 6 := by omega
        obtain rfl : sh = 42 := by omega
        have hu1 : u < 4398046511104 := by rw [qow6] at hU; exact hU
        clear hU hp hsh
        by_cases hlt : a + 6 < s.size
        · have hb := byte_lt s (a + 6) hlt
          by_cases hc : ((s[a + 6]'hlt).toNat : Int) < 128
          · go_wp2
            go_step3
            exact ⟨⟨rfl, .inr (.inr ⟨rfl, 6, u, ((s[a + 6]'hlt).toNat : Int), _, _, _, _, _, _, _, _, _, _, _, _, _, _, _, _, _, _, _, _, _, _, _, _, _, _, _, _, _, _, _, _, _, _, _, _, _, _, _, _, _, _, _, _, _, _, _, _, _, _, _, by omega, by omega, by omega, by omega, by rw [qow6]; exact hu1, .inl hc, ⟨hlt, rfl⟩, HS.out, rfl⟩)⟩, by simp [muOf, intOf]⟩
          · have hand := and127b ((s[a + 6]'hlt).toNat : Int) (by omega) hb
            have hor := or_addP u (((s[a + 6]'hlt).toNat : Int) % 128) 4398046511104 42 (by decide) hu0 hu1 (by omega) (by omega)
            have HX := hide ((scan_more s a 3 6 u hlt (by omega) (by omega)).symm.trans HS.out)
            have eN : u + ((s[a + 6]'hlt).toNat : Int) % 128 * 128 ^ 6 = u + ((s[a + 6]'hlt).toNat : Int) % 128 * 4398046511104 := by rw [qow6]
            go_wp2
            go_step3
            exact ⟨⟨rfl, .inr (.inl ⟨rfl, 7, _, _, _, _, _, _, _, _, _, _, _, _, _, _, _, _, _, _, _, _, _, _, _, _, _, _, _, _, _, _, _, _, _, _, _, _, _, _, _, _, _, _, _, _, _, _, _, _, _, _, _, _, _, by omega, by omega, by omega, by omega, by omega, (by rw [qow7]; omega), (by rw [← eN]; exact HX.out), rfl⟩)⟩, by simp [muOf, intOf]⟩
        · have HX := hide (HS.out.symm.trans (scan_short s a 3 6 u hlt))
          go_wp2
          go_step3
          exact ⟨⟨rfl, .inl ⟨rfl, 4, _, _, _, _, _, _, _, _, _, _, _, _, _, _, _, _, _, _, _, _, _, _, _, _, _, _, _, _, _, _, _, _, _, _, _, _, _, _, _, _, _, _, _, _, _, _, _, _, _, _, _, _, _, HX.out, .inr rfl, rfl⟩⟩, by simp [muOf, intOf]⟩
      · obtain rfl : p = (a : Int) + 7 := by omega
        obtain rfl : sh = 49 := by omega
        have hu1 : u < 562949953421312 := by rw [qow7] at hU; exact hU
        clear hU hp hsh
        by_cases hlt : a + 7 < s.size
        · have hb := byte_lt s (a + 7) hlt
          by_cases hc : ((s[a + 7]'hlt).toNat : Int) < 128
          · go_wp2
            go_step3
            exact ⟨⟨rfl, .inr (.inr ⟨rfl, 7, u, ((s[a + 7]'hlt).toNat : Int), _, _, _, _, _, _, _, _, _, _, _, _, _, _, _, _, _, _, _, _, _, _, _, _, _, _, _, _, _, _, _, _, _, _, _, _, _, _, _, _, _, _, _, _, _, _, _, _, _, _, _, by omega, by omega, by omega, by omega, by rw [qow7]; exact hu1, .inl hc, ⟨hlt, rfl⟩, HS.out, rfl⟩)⟩, by simp [muOf, intOf]⟩
          · have hand := and127b ((s[a + 7]'hlt).toNat : Int) (by omega) hb
            have hor := or_addP u (((s[a + 7]'hlt).toNat : Int) % 128) 562949953421312 49 (by decide) hu0 hu1 (by omega) (by omega)
            have HX := hide ((scan_more s a 2 7 u hlt (by omega) (by omega)).symm.trans HS.out)
            have eN : u + ((s[a + 7]'hlt).toNat : Int) % 128 * 128 ^ 7 = u + ((s[a + 7]'hlt).toNat : Int) % 128 * 562949953421312 := by rw [qow7]
            go_wp2
            go_step3
            exact ⟨⟨rfl, .inr (.inl ⟨rfl, 8, _, _, _, _, _, _, _, _, _, _, _, _, _, _, _, _, _, _, _, _, _, _, _, _, _, _, _, _, _, _, _, _, _, _, _, _, _, _, _, _, _, _, _, _, _, _, _, _, _, _, _, _, _, by omega, by omega, by omega, by omega, by omega, (by rw [qow8]; omega), (by rw [← eN]; exact HX.out), rfl⟩)⟩, by simp [muOf, intOf]⟩
        · have HX := hide (HS.out.symm.trans (scan_short s a 2 7 u hlt))
          go_wp2
          go_step3
          exact ⟨⟨rfl, .inl ⟨rfl, 4, _, _, _, _, _, _, _, _, _, _, _, _, _, _, _, _, _, _, _, _, _, _, _, _, _, _, _, _, _, _, _, _, _, _, _, _, _, _, _, _, _, _, _, _, _, _, _, _, _, _, _, _, _, HX.out, .inr rfl, rfl⟩⟩, by simp [muOf, intOf]⟩
      · obtain rfl : p = (a : Int) + 8 := by omega
        obtain rfl : sh = 56 := by omega
        have hu1 : u < 72057594037927936 := by rw [qow8] at hU; exact hU
        clear hU hp hsh
        by_cases hlt : a + 8 < s.size
        · have hb := byte_lt s (a + 8) hlt
          by_cases hc : ((s[a + 8]'hlt).toNat : Int) < 128
          · go_wp2
            go_step3
            exact ⟨⟨rfl, .inr (.inr ⟨rfl, 8, u, ((s[a + 8]'hlt).toNat : Int), _, _, _, _, _, _, _, _, _, _, _, _, _, _, _, _, _, _, _, _, _, _, _, _, _, _, _, _, _, _, _, _, _, _, _, _, _, _, _, _, _, _, _, _, _, _, _, _, _, _, _, by omega, by omega, by omega, by omega, by rw [qow8]; exact hu1, .inl hc, ⟨hlt, rfl⟩, HS.out, rfl⟩)⟩, by simp [muOf, intOf]⟩
          · have hand := and127b ((s[a + 8]'hlt).toNat : Int) (by omega) hb
            have hor := or_addP u (((s[a + 8]'hlt).toNat : Int) % 128) 72057594037927936 56 (by decide) hu0 hu1 (by omega) (by omega)
            have HX := hide ((scan_more s a 1 8 u hlt (by omega) (by omega)).symm.trans HS.out)
            have eN : u + ((s[a + 8]'hlt).toNat : Int) % 128 * 128 ^ 8 = u + ((s[a + 8]'hlt).toNat : Int) % 128 * 72057594037927936 := by rw [qow8]
            go_wp2
            go_step3
            exact ⟨⟨rfl, .inr (.inl ⟨rfl, 9, _, _, _, _, _, _, _, _, _, _, _, _, _, _, _, _, _, _, _, _, _, _, _, _, _, _, _, _, _, _, _, _, _, _, _, _, _, _, _, _, _, _, _, _, _, _, _, _, _, _, _, _, _, by omega, by omega, by omega, by omega, by omega, (by rw [qow9]; omega), (by rw [← eN]; exact HX.out), rfl⟩)⟩, by simp [muOf, intOf]⟩
        · have HX := hide (HS.out.symm.trans (scan_short s a 1 8 u hlt))
          go_wp2
          go_step3
          exact ⟨⟨rfl, .inl ⟨rfl, 4, _, _, _, _, _, _, _, _, _, _, _, _, _, _, _, _, _, _, _, _, _, _, _, _, _, _, _, _, _, _, _, _, _, _, _, _, _, _, _, _, _, _, _, _, _, _, _, _, _, _, _, _, _, HX.out, .inr rfl, rfl⟩⟩, by simp [muOf, intOf]⟩
      · obtain rfl : p = (a : Int) + 9 := by omega
        obtain rfl : sh = 63 := by omega
        have hu1 : u < 9223372036854775808 := by rw [qow9] at hU; exact hU
        clear hU hp hsh
        by_cases hlt : a + 9 < s.size
        · have hb := byte_lt s (a + 9) hlt
          by_cases hc : ((s[a + 9]'hlt).toNat : Int) < 128
          all_goals go_wp2
          all_goals go_step3
          all_goals exact ⟨⟨rfl, .inr (.inr ⟨rfl, 9, u, ((s[a + 9]'hlt).toNat : Int), _, _, _, _, _, _, _, _, _, _, _, _, _, _, _, _, _, _, _, _, _, _, _, _, _, _, _, _, _, _, _, _, _, _, _, _, _, _, _, _, _, _, _, _, _, _, _, _, _, _, _, by omega, by omega, by omega, by omega, by rw [qow9]; exact hu1, .inr rfl, ⟨hlt, rfl⟩, HS.out, rfl⟩)⟩, by simp [muOf, intOf]⟩
        · have HX := hide (HS.out.symm.trans (scan_short s a 0 9 u hlt))
          go_wp2
          go_step3
          exact ⟨⟨rfl, .inl ⟨rfl, 4, _, _, _, _, _, _, _, _, _, _, _, _, _, _, _, _, _, _, _, _, _, _, _, _, _, _, _, _, _, _, _, _, _, _, _, _, _, _, _, _, _, _, _, _, _, _, _, _, _, _, _, _, _, HX.out, .inr rfl, rfl⟩⟩, by simp [muOf, intOf]⟩
    · obtain ⟨k, u, c, p, sh, u11, u12, u13, u14, u15, u16, u17, u18, u19, u20, u21, u22, u23, u24, u25, u26, u27, u28, u29, u30, u31, u32, u33, u34, u35, u36, u37, u38, u39, u40, u41, u42, u43, u44, u45, u46, u47, u48, u49, u50, u51, u52, u53, u54, u55, u56, u57, u58, u59, hp, hsh, hk, hu0, hU, hcl, ⟨hlt, hcc⟩, hS, rfl⟩ := h
      refine ⟨_, rfl, ?_⟩
      have HS := hide hS
      have HC := hide hcc
      have hb : c ≤ 255 := by rw [hcc]; exact byte_lt s (a + k) hlt
      have hb0 : 0 ≤ c := by rw [hcc]; omega
      clear hS hcc
      rcases (show k = 0 ∨ k = 1 ∨ k = 2 ∨ k = 3 ∨ k = 4 ∨ k = 5 ∨ k = 6 ∨ k = 7 ∨ k = 8 ∨ k = 9 by omega) with rfl | rfl | rfl | rfl | rfl | rfl | rfl | rfl | rfl | rfl
      · obtain rfl : p = (a : Int) + 1 := by omega
        obtain rfl : sh = 0 := by omega
        have hu1 : u < 1 := by rw [qow0] at hU; exact hU
        clear hU hp hsh
        obtain rfl : u = 0 := by omega
        have hc : c < 128 := by omega
        clear hcl
        have hX := HS.out.symm.trans (scan_last s a 9 0 0 hlt (by rw [← HC.out]; omega) (by rw [← HC.out]; omega))
        rw [← HC.out] at hX
        have HT : Hid (tup R = .tuple #[.int .i64 (unf (c)), .int .i64 ((a : Int) + 1), .nilIface]) := by
          rw [hX, qow0, Int.mul_one, Int.zero_add]; exact congrArg (fun z : Int => Value.tuple #[.int .i64 (unf (c)), .int .i64 z, .nilIface]) (by show (a : Int) + ((0 : Nat) : Int) + 1 = (a : Int) + 1; omega)
        clear hX
        have hor := or_zero c hb0 hb
        go_wp2_with fail
        refine (unfoldSign_any _ _ (by omega) (by omega)).mono ?_
        rintro e w2 ⟨rfl, rfl⟩
        go_wp2
        simp only [jumps]
        go_ret3
        exact ⟨by rw [HT.out]; rfl, rfl⟩
      · obtain rfl : p = (a : Int) + 1 + 1 := by omega
        obtain rfl : sh = 7 := by omega
        have hu1 : u < 128 := by rw [qow1] at hU; exact hU
        clear hU hp hsh
        have hc : c < 128 := by omega
        clear hcl
        by_cases hc0 : c = 0
        · subst hc0
          have HX := hide (HS.out.symm.trans (scan_bad s a 8 1 u hlt (by rw [← HC.out]; omega) (by rw [← HC.out]; omega)))
          go_wp2
          go_step3
          exact ⟨⟨rfl, .inl ⟨rfl, 3, _, _, _, _, _, _, _, _, _, _, _, _, _, _, _, _, _, _, _, _, _, _, _, _, _, _, _, _, _, _, _, _, _, _, _, _, _, _, _, _, _, _, _, _, _, _, _, _, _, _, _, _, _, HX.out, .inl rfl, rfl⟩⟩, by simp [muOf]⟩
        · have hc1 : 1 ≤ c := by omega
          have hX := HS.out.symm.trans (scan_last s a 8 1 u hlt (by rw [← HC.out]; omega) (by rw [← HC.out]; omega))
          rw [← HC.out] at hX
          have HT : Hid (tup R = .tuple #[.int .i64 (unf (u + c * 128)), .int .i64 ((a : Int) + 1 + 1), .nilIface]) := by
            rw [hX, qow1]; exact congrArg (fun z : Int => Value.tuple #[.int .i64 (unf (u + c * 128)), .int .i64 z, .nilIface]) (by show (a : Int) + ((1 : Nat) : Int) + 1 = (a : Int) + 1 + 1; omega)
          clear hX
          have hor := or_addP u c 128 7 (by decide) hu0 hu1 hb0 (by omega)
          go_wp2_with fail
          refine (unfoldSign_any _ _ (by omega) (by omega)).mono ?_
          rintro e w2 ⟨rfl, rfl⟩
          go_wp2
          simp only [jumps]
          go_ret3
          exact ⟨by rw [HT.out]; rfl, rfl⟩
      · obtain rfl : p = (a : Int) + 2 + 1 := by omega
        obtain rfl : sh = 14 := by omega
        have hu1 : u < 16384 := by rw [qow2] at hU; exact hU
        clear hU hp hsh
        have hc : c < 128 := by omega
        clear hcl
        by_cases hc0 : c = 0
        · subst hc0
          have HX := hide (HS.out.symm.trans (scan_bad s a 7 2 u hlt (by rw [← HC.out]; omega) (by rw [← HC.out]; omega)))
          go_wp2
          go_step3
          exact ⟨⟨rfl, .inl ⟨rfl, 3, _, _, _, _, _, _, _, _, _, _, _, _, _, _, _, _, _, _, _, _, _, _, _, _, _, _, _, _, _, _, _, _, _, _, _, _, _, _, _, _, _, _, _, _, _, _, _, _, _, _, _, _, _, HX.out, .inl rfl, rfl⟩⟩, by simp [muOf]⟩
        · have hc1 : 1 ≤ c := by omega
          have hX := HS.out.symm.trans (scan_last s a 7 2 u hlt (by rw [← HC.out]; omega) (by rw [← HC.out]; omega))
          rw [← HC.out] at hX
          have HT : Hid (tup R = .tuple #[.int .i64 (unf (u + c * 16384)), .int .i64 ((a : Int) + 2 + 1), .nilIface]) := by
            rw [hX, qow2]; exact congrArg (fun z : Int => Value.tuple #[.int .i64 (unf (u + c * 16384)), .int .i64 z, .nilIface]) (by show (a : Int) + ((2 : Nat) : Int) + 1 = (a : Int) + 2 + 1; omega)
          clear hX
          have hor := or_addP u c 16384 14 (by decide) hu0 hu1 hb0 (by omega)
          go_wp2_with fail
          refine (unfoldSign_any _ _ (by omega) (by omega)).mono ?_
          rintro e w2 ⟨rfl, rfl⟩
          go_wp2
          simp only [jumps]
          go_ret3
          exact ⟨by rw [HT.out]; rfl, rfl⟩
      · obtain rfl : p = (a : Int) + 3 + 1 := by omega
        obtain rfl : sh = 21 := by omega
        have hu1 : u < 2097152 := by rw [qow3] at hU; exact hU
        clear hU hp hsh
        have hc : c < 128 := by omega
        clear hcl
        by_cases hc0 : c = 0
        · subst hc0
          have HX := hide (HS.out.symm.trans (scan_bad s a 6 3 u hlt (by rw [← HC.out]; omega) (by rw [← HC.out]; omega)))
          go_wp2
          go_step3
          exact ⟨⟨rfl, .inl ⟨rfl, 3, _, _, _, _, _, _, _, _, _, _, _, _, _, _, _, _, _, _, _, _, _, _, _, _, _, _, _, _, _, _, _, _, _, _, _, _, _, _, _, _, _, _, _, _, _, _, _, _, _, _, _, _, _, HX.out, .inl rfl, rfl⟩⟩, by simp [muOf]⟩
        · have hc1 : 1 ≤ c := by omega
          have hX := HS.out.symm.trans (scan_last s a 6 3 u hlt (by rw [← HC.out]; omega) (by rw [← HC.out]; omega))
          rw [← HC.out] at hX
          have HT : Hid (tup R = .tuple #[.int .i64 (unf (u + c * 2097152)), .int .i64 ((a : Int) + 3 + 1), .nilIface]) := by
            rw [hX, qow3]; exact congrArg (fun z : Int => Value.tuple #[.int .i64 (unf (u + c * 2097152)), .int .i64 z, .nilIface]) (by show (a : Int) + ((3 : Nat) : Int) + 1 = (a : Int) + 3 + 1; omega)
          clear hX
          have hor := or_addP u c 2097152 21 (by decide) hu0 hu1 hb0 (by omega)
          go_wp2_with fail
          refine (unfoldSign_any _ _ (by omega) (by omega)).mono ?_
          rintro e w2 ⟨rfl, rfl⟩
          go_wp2
          simp only [jumps]
          go_ret3
          exact ⟨by rw [HT.out]; rfl, rfl⟩
      · obtain rfl : p = (a : Int) + 4 + 1 := by omega
        obtain rfl : sh = 28 := by omega
        have hu1 : u < 268435456 := by rw [qow4] at hU; exact hU
        clear hU hp hsh
        have hc : c < 128 := by omega
        clear hcl
        by_cases hc0 : c = 0
        · subst hc0
          have HX := hide (HS.out.symm.trans (scan_bad s a 5 4 u hlt (by rw [← HC.out]; omega) (by rw [← HC.out]; omega)))
          go_wp2
          go_step3
          exact ⟨⟨rfl, .inl ⟨rfl, 3, _, _, _, _, _, _, _, _, _, _, _, _, _, _, _, _, _, _, _, _, _, _, _, _, _, _, _, _, _, _, _, _, _, _, _, _, _, _, _, _, _, _, _, _, _, _, _, _, _, _, _, _, _, HX.out, .inl rfl, rfl⟩⟩, by simp [muOf]⟩
        · have hc1 : 1 ≤ c := by omega
          have hX := HS.out.symm.trans (scan_last s a 5 4 u hlt (by rw [← HC.out]; omega) (by rw [← HC.out]; omega))
          rw [← HC.out] at hX
          have HT : Hid (tup R = .tuple #[.int .i64 (unf (u + c * 268435456)), .int .i64 ((a : Int) + 4 + 1), .nilIface]) := by
            rw [hX, qow4]; exact congrArg (fun z : Int => Value.tuple #[.int .i64 (unf (u + c * 268435456)), .int .i64 z, .nilIface]) (by show (a : Int) + ((4 : Nat) : Int) + 1 = (a : Int) + 4 + 1; omega)
          clear hX
          have hor := or_addP u c 268435456 28 (by decide) hu0 hu1 hb0 (by omega)
          go_wp2_with fail
          refine (unfoldSign_any _ _ (by omega) (by omega)).mono ?_
          rintro e w2 ⟨rfl, rfl⟩
          go_wp2
          simp only [jumps]
          go_ret3
          exact ⟨by rw [HT.out]; rfl, rfl⟩
      · obtain rfl : p = (a : Int) + 5 + 1 := by omega
        obtain rfl : sh = 35 := by omega
        have hu1 : u < 34359738368 := by rw [qow5] at hU; exact hU
        clear hU hp hsh
        have hc : c < 128 := by omega
        clear hcl
        by_cases hc0 : c = 0
        · subst hc0
          have HX := hide (HS.out.symm.trans (scan_bad s a 4 5 u hlt (by rw [← HC.out]; omega) (by rw [← HC.out]; omega)))
          go_wp2
          go_step3
          exact ⟨⟨rfl, .inl ⟨rfl, 3, _, _, _, _, _, _, _, _, _, _, _, _, _, _, _, _, _, _, _, _, _, _, _, _, _, _, _, _, _, _, _, _, _, _, _, _, _, _, _, _, _, _, _, _, _, _, _, _, _, _, _, _, _, HX.out, .inl rfl, rfl⟩⟩, by simp [muOf]⟩
        · have hc1 : 1 ≤ c := by omega
          have hX := HS.out.symm.trans (scan_last s a 4 5 u hlt (by rw [← HC.out]; omega) (by rw [← HC.out]; omega))
          rw [← HC.out] at hX
          have HT : Hid (tup R = .tuple #[.int .i64 (unf (u + c * 34359738368)), .int .i64 ((a : Int) + 5 + 1), .nilIface]) := by
            rw [hX, qow5]; exact congrArg (fun z : Int => Value.tuple #[.int .i64 (unf (u + c * 34359738368)), .int .i64 z, .nilIface]) (by show (a : Int) + ((5 : Nat) : Int) + 1 = (a : Int) + 5 + 1; omega)
          clear hX
          have hor := or_addP u c 34359738368 35 (by decide) hu0 hu1 hb0 (by omega)
          go_wp2_with fail
          refine (unfoldSign_any _ _ (by omega) (by omega)).mono ?_
          rintro e w2 ⟨rfl, rfl⟩
          go_wp2
          simp only [jumps]
          go_ret3
          exact ⟨by rw [HT.out]; rfl, rfl⟩
      · obtain rfl : p = (a : Int) + 6 + 1 := by omega
        obtain rfl : sh = 42 := by omega
        have hu1 : u < 4398046511104 := by rw [qow6] at hU; exact hU
        clear hU hp hsh
        have hc : c < 128 := by omega
        clear hcl
        by_cases hc0 : c = 0
        · subst hc0
          have HX := hide (HS.out.symm.trans (scan_bad s a 3 6 u hlt (by rw [← HC.out]; omega) (by rw [← HC.out]; omega)))
          go_wp2
          go_step3
          exact ⟨⟨rfl, .inl ⟨rfl, 3, _, _, _, _, _, _, _, _, _, _, _, _, _, _, _, _, _, _, _, _, _, _, _, _, _, _, _, _, _, _, _, _, _, _, _, _, _, _, _, _, _, _, _, _, _, _, _, _, _, _, _, _, _, HX.out, .inl rfl, rfl⟩⟩, by simp [muOf]⟩
        · have hc1 : 1 ≤ c := by omega
          have hX := HS.out.symm.trans (scan_last s a 3 6 u hlt (by rw [← HC.out]; omega) (by rw [← HC.out]; omega))
          rw [← HC.out] at hX
          have HT : Hid (tup R = .tuple #[.int .i64 (unf (u + c * 4398046511104)), .int .i64 ((a : Int) + 6 + 1), .nilIface]) := by
            rw [hX, qow6]; exact congrArg (fun z : Int => Value.tuple #[.int .i64 (unf (u + c * 4398046511104)), .int .i64 z, .nilIface]) (by show (a : Int) + ((6 : Nat) : Int) + 1 = (a : Int) + 6 + 1; omega)
          clear hX
          have hor := or_addP u c 4398046511104 42 (by decide) hu0 hu1 hb0 (by omega)
          go_wp2_with fail
          refine (unfoldSign_any _ _ (by omega) (by omega)).mono ?_
          rintro e w2 ⟨rfl, rfl⟩
          go_wp2
          simp only [jumps]
          go_ret3
          exact ⟨by rw [HT.out]; rfl, rfl⟩
      · obtain rfl : p = (a : Int) + 7 + 1 := by omega
        obtain rfl : sh = 49 := by omega
        have hu1 : u < 562949953421312 := by rw [qow7] at hU; exact hU
        clear hU hp hsh
        have hc : c < 128 := by omega
        clear hcl
        by_cases hc0 : c = 0
        · subst hc0
          have HX := hide (HS.out.symm.trans (scan_bad s a 2 7 u hlt (by rw [← HC.out]; omega) (by rw [← HC.out]; omega)))
          go_wp2
          go_step3
          exact ⟨⟨rfl, .inl ⟨rfl, 3, _, _, _, _, _, _, _, _, _, _, _, _, _, _, _, _, _, _, _, _, _, _, _, _, _, _, _, _, _, _, _, _, _, _, _, _, _, _, _, _, _, _, _, _, _, _, _, _, _, _, _, _, _, HX.out, .inl rfl, rfl⟩⟩, by simp [muOf]⟩
        · have hc1 : 1 ≤ c := by omega
          have hX := HS.out.symm.trans (scan_last s a 2 7 u hlt (by rw [← HC.out]; omega) (by rw [← HC.out]; omega))
          rw [← HC.out] at hX
          have HT : Hid (tup R = .tuple #[.int .i64 (unf (u + c * 562949953421312)), .int .i64 ((a : Int) + 7 + 1), .nilIface]) := by
            rw [hX, qow7]; exact congrArg (fun z : Int => Value.tuple #[.int .i64 (unf (u + c * 562949953421312)), .int .i64 z, .nilIface]) (by show (a : Int) + ((7 : Nat) : Int) + 1 = (a : Int) + 7 + 1; omega)
          clear hX
          have hor := or_addP u c 562949953421312 49 (by decide) hu0 hu1 hb0 (by omega)
          go_wp2_with fail
          refine (unfoldSign_any _ _ (by omega) (by omega)).mono ?_
          rintro e w2 ⟨rfl, rfl⟩
          go_wp2
          simp only [jumps]
          go_ret3
          exact ⟨by rw [HT.out]; rfl, rfl⟩
      · obtain rfl : p = (a : Int) + 8 + 1 := by omega
        obtain rfl : sh = 56 := by omega
        have hu1 : u < 72057594037927936 := by rw [qow8] at hU; exact hU
        clear hU hp hsh
        have hc : c < 128 := by omega
        clear hcl
        by_cases hc0 : c = 0
        · subst hc0
          have HX := hide (HS.out.symm.trans (scan_bad s a 1 8 u hlt (by rw [← HC.out]; omega) (by rw [← HC.out]; omega)))
          go_wp2
          go_step3
          exact ⟨⟨rfl, .inl ⟨rfl, 3, _, _, _, _, _, _, _, _, _, _, _, _, _, _, _, _, _, _, _, _, _, _, _, _, _, _, _, _, _, _, _, _, _, _, _, _, _, _, _, _, _, _, _, _, _, _, _, _, _, _, _, _, _, HX.out, .inl rfl, rfl⟩⟩, by simp [muOf]⟩
        · have hc1 : 1 ≤ c := by omega
          have hX := HS.out.symm.trans (scan_last s a 1 8 u hlt (by rw [← HC.out]; omega) (by rw [← HC.out]; omega))
          rw [← HC.out] at hX
          have HT : Hid (tup R = .tuple #[.int .i64 (unf (u + c * 72057594037927936)), .int .i64 ((a : Int) + 8 + 1), .nilIface]) := by
            rw [hX, qow8]; exact congrArg (fun z : Int => Value.tuple #[.int .i64 (unf (u + c * 72057594037927936)), .int .i64 z, .nilIface]) (by show (a : Int) + ((8 : Nat) : Int) + 1 = (a : Int) + 8 + 1; omega)
          clear hX
          have hor := or_addP u c 72057594037927936 56 (by decide) hu0 hu1 hb0 (by omega)
          go_wp2_with fail
          refine (unfoldSign_any _ _ (by omega) (by omega)).mono ?_
          rintro e w2 ⟨rfl, rfl⟩
          go_wp2
          simp only [jumps]
          go_ret3
          exact ⟨by rw [HT.out]; rfl, rfl⟩
      · obtain rfl : p = (a : Int) + 9 + 1 := by omega
        obtain rfl : sh = 63 := by omega
        have hu1 : u < 9223372036854775808 := by rw [qow9] at hU; exact hU
        clear hU hp hsh
        clear hcl
        by_cases hc2 : 1 < c
        · have HX := hide (HS.out.symm.trans (scan_bad s a 0 9 u hlt (by rw [← HC.out]; exact .inr rfl) (by rw [← HC.out]; omega)))
          go_wp2
          go_step3
          exact ⟨⟨rfl, .inl ⟨rfl, 3, _, _, _, _, _, _, _, _, _, _, _, _, _, _, _, _, _, _, _, _, _, _, _, _, _, _, _, _, _, _, _, _, _, _, _, _, _, _, _, _, _, _, _, _, _, _, _, _, _, _, _, _, _, HX.out, .inl rfl, rfl⟩⟩, by simp [muOf]⟩
        · by_cases hc0 : c = 0
          · subst hc0
            have HX := hide (HS.out.symm.trans (scan_bad s a 0 9 u hlt (by rw [← HC.out]; exact .inr rfl) (by rw [← HC.out]; omega)))
            go_wp2
            go_step3
            exact ⟨⟨rfl, .inl ⟨rfl, 3, _, _, _, _, _, _, _, _, _, _, _, _, _, _, _, _, _, _, _, _, _, _, _, _, _, _, _, _, _, _, _, _, _, _, _, _, _, _, _, _, _, _, _, _, _, _, _, _, _, _, _, _, _, HX.out, .inl rfl, rfl⟩⟩, by simp [muOf]⟩
          · obtain rfl : c = 1 := by omega
            have hX := HS.out.symm.trans (scan_last s a 0 9 u hlt (by rw [← HC.out]; exact .inr rfl) (by rw [← HC.out]; omega))
            rw [← HC.out] at hX
            have HT : Hid (tup R = .tuple #[.int .i64 (unf (u + 9223372036854775808)), .int .i64 ((a : Int) + 9 + 1), .nilIface]) := by
              rw [hX, qow9, Int.one_mul]; exact congrArg (fun z : Int => Value.tuple #[.int .i64 (unf (u + 9223372036854775808)), .int .i64 z, .nilIface]) (by show (a : Int) + ((9 : Nat) : Int) + 1 = (a : Int) + 9 + 1; omega)
            clear hX
            have hor := or_addP u 1 9223372036854775808 63 (by decide) hu0 hu1 hb0 (by omega)
            rw [Int.one_mul] at hor
            go_wp2_with fail
            refine (unfoldSign_any _ _ (by omega) (by omega)).mono ?_
            rintro e w2 ⟨rfl, rfl⟩
            go_wp2
            simp only [jumps]
            go_ret3
            exact ⟨by rw [HT.out]; rfl, rfl⟩
end Go.Proofs.YtkmehbgepkilkaaGreatDoor.St3

/- GetNum of the program: it answers what 'scan' reads, or the code of a wrong place; two equal answers are told to be equal. -/
namespace Go.Proofs.YtkmehbgepkilkaaGreatDoor.St3
open Go.RowKit

theorem bcell {W w1 : World} (hb : Below W.heap.size W w1) : (∀ b o, b < W.heap.size → w1.cell? ⟨b, o, none⟩ = W.cell? ⟨b, o, none⟩) ∧ (∀ b o, b < W.heap.size → w1.frozen? ⟨b, o, none⟩ = W.frozen? ⟨b, o, none⟩) :=
  ⟨fun b o h => hb.cell (p := ⟨b, o, none⟩) h, fun b o h => hb.frozen (p := ⟨b, o, none⟩) h⟩
theorem three {w1 : World} {B : Nat} {u0 u1 u2 : Value} (h0 : w1.cell? ⟨B, 0, none⟩ = some u0) (h1 : w1.cell? ⟨B, 1, none⟩ = some u1) (h2 : w1.cell? ⟨B, 2, none⟩ = some u2) (v0 v1 v2 : Value) :
    (w1.setCell ⟨B, 0, none⟩ v0).cell? ⟨B, 0, none⟩ = some v0 ∧ ((w1.setCell ⟨B, 0, none⟩ v0).setCell ⟨B, 1, none⟩ v1).cell? ⟨B, 1, none⟩ = some v1 ∧
    (((w1.setCell ⟨B, 0, none⟩ v0).setCell ⟨B, 1, none⟩ v1).setCell ⟨B, 2, none⟩ v2).cell? ⟨B, 2, none⟩ = some v2 := by
  refine ⟨World.cell?_setCell_same _ _ _ h0, World.cell?_setCell_same (u := u1) _ _ _ ?_, World.cell?_setCell_same (u := u2) _ _ _ ?_⟩
  · rw [World.cell?_setCell_other _ _ _ _ (by simp)]; exact h1
  · rw [World.cell?_setCell_other _ _ _ _ (by simp), World.cell?_setCell_other _ _ _ _ (by simp)]; exact h2
theorem three_below {w w1 : World} {o : Obj} (h : Below (w.alloc o).heap.size (w.alloc o) w1) (v0 v1 v2 : Value) :
    Below w.heap.size w (((w1.setCell ⟨w.heap.size, 0, none⟩ v0).setCell ⟨w.heap.size, 1, none⟩ v1).setCell ⟨w.heap.size, 2, none⟩ v2) :=
  (((((Below.refl _ _).alloc (Nat.le_refl _) o).trans (h.mono (by simp))).setCell (Nat.le_refl _) _).setCell (Nat.le_refl _) _).setCell (Nat.le_refl _) _
theorem out_cells {w w1 : World} (c0 c1 c2 : Value) (t : TypeId) (h : Below (w.alloc (.cells #[c0, c1, c2] t)).heap.size (w.alloc (.cells #[c0, c1, c2] t)) w1) :
    w1.cell? ⟨w.heap.size, 0, none⟩ = some c0 ∧ w1.cell? ⟨w.heap.size, 1, none⟩ = some c1 ∧ w1.cell? ⟨w.heap.size, 2, none⟩ = some c2 := by
  have hn := heap_alloc_new w (.cells #[c0, c1, c2] t)
  refine ⟨?_, ?_, ?_⟩
  all_goals
    rw [h.cell (by simp), cell_of_row _ _ _ _ t (0, 0) hn]
    rfl

set_option maxHeartbeats 400000 in
theorem place_ok (s : ByteArray) (a : Int) (w : World) (hs : s.size ≤ 8000) (ha : 0 ≤ a) :
    Calls Tryz.prog 97 #[.string s, .int .i64 a] w fun e w' => e = .returned (.int .i64 0) ∧ w' = w := by
  go_enter Tryz.func97, Tryz.ntmps97
  go_wp2
  go_ret
  exact ⟨rfl, rfl⟩

set_option maxHeartbeats 1000000 in
theorem implGetNum_yes (s : ByteArray) (a : Nat) (n p : Int) (w : World) (hs : s.size ≤ 8000) (ha : (a : Int) ≤ 9223372036854775807) (HR : Hid (scan s a 10 0 0 = (n, p, 0))) :
    Calls Tryz.prog 94 #[.string s, .int .i64 (a : Int)] w fun e w' => e = .returned (.agg #[.int .i64 n, .int .i64 p, .int .i64 0]) ∧ Below w.heap.size w w' := by
  have ht : tup (n, p, 0) = .tuple #[.int .i64 n, .int .i64 p, .nilIface] := rfl
  have HT := hide ht
  clear ht
  go_enter Tryz.func94, Tryz.ntmps94
  go_wp2_with fail
  refine (place_ok _ _ _ hs (by omega)).mono ?_
  rintro e w1 ⟨rfl, rfl⟩
  go_wp2_with fail
  refine (readNum_any s a (n, p, 0) _ hs ha HR).mono ?_
  rintro e w1 ⟨rfl, rfl⟩
  rw [HT.out]
  go_wp2_with fail
  refine (bytesCode_nil _).mono ?_
  rintro e w1 ⟨rfl, hb1⟩
  have HB1 := hide hb1
  obtain ⟨hc1, hf1⟩ := bcell hb1
  clear hb1
  obtain ⟨c0, c1, c2⟩ := out_cells _ _ _ _ HB1.out
  obtain ⟨q0, q1, q2⟩ := three c0 c1 c2 (.int .i64 n) (.int .i64 p) (.int .i64 0)
  clear c0 c1 c2
  go_wp2
  exact bodyPost_ret (v := .agg #[.int .i64 n, .int .i64 p, .int .i64 0]) (by simp [results, Tryz.results94, go_sem, q0, q1, q2]) rfl ⟨rfl, three_below HB1.out _ _ _⟩

set_option maxHeartbeats 1000000 in
theorem implGetNum_no (s : ByteArray) (a : Nat) (c : Int) (w : World) (hs : s.size ≤ 8000) (ha : (a : Int) ≤ 9223372036854775807) (hg : Laid w) (hc : c = 3 ∨ c = 4) (HR : Hid (scan s a 10 0 0 = (0, 0, c))) :
    Calls Tryz.prog 94 #[.string s, .int .i64 (a : Int)] w fun e w' => e = .returned (.agg #[.int .i64 0, .int .i64 0, .int .i64 c]) ∧ Below w.heap.size w w' := by
  have ht : tup (0, 0, c) = .tuple #[.int .i64 0, .int .i64 0, .iface 142 (.agg #[.int .i64 c])] := if_neg (show ¬ c = 0 by omega)
  have HT := hide ht
  have HG := hide (laid_alloc hg (.cells #[.int .i64 0, .int .i64 0, .int .i64 0] 106))
  clear ht hg
  go_enter Tryz.func94, Tryz.ntmps94
  go_wp2_with fail
  refine (place_ok _ _ _ hs (by omega)).mono ?_
  rintro e w1 ⟨rfl, rfl⟩
  go_wp2_with fail
  refine (readNum_any s a (0, 0, c) _ hs ha HR).mono ?_
  rintro e w1 ⟨rfl, rfl⟩
  rw [HT.out]
  go_wp2_with fail
  refine (bytesCode_fault c _ HG.out).mono ?_
  rintro e w1 ⟨rfl, hb1⟩
  have HB1 := hide hb1
  obtain ⟨hc1, hf1⟩ := bcell hb1
  clear hb1 hc
  obtain ⟨c0, c1, c2⟩ := out_cells _ _ _ _ HB1.out
  obtain ⟨q0, q1, q2⟩ := three c0 c1 c2 (.int .i64 0) (.int .i64 0) (.int .i64 c)
  clear c0 c1 c2
  go_wp2
  exact bodyPost_ret (v := .agg #[.int .i64 0, .int .i64 0, .int .i64 c]) (by simp [results, Tryz.results94, go_sem, q0, q1, q2]) rfl ⟨rfl, three_below HB1.out _ _ _⟩

end Go.Proofs.YtkmehbgepkilkaaGreatDoor.St3
