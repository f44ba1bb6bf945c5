/- A clock of the model. -/
import Derived.Test.YthlonjfjlkoojaaDoorVTimeZ
namespace Go.Proofs.YthlonjfjlkoojaaDoor
open Go.RowKit
theorem clk_len : ∀ (ms : List Nat) (l : List UInt8), clk ms l = true → l.length % 2 = 0 ∧ l.length ≤ 2 * ms.length
  | [], l, h => by
    cases l with
    | nil => simp
    | cons b r => simp [clk] at h
  | m :: ms, l, h => by
    unfold clk at h
    by_cases h0 : l.isEmpty = true
    · cases l with
      | nil => simp
      | cons b r => simp at h0
    · rw [if_neg h0] at h
      split at h
      · simp at h
      · simp only [Bool.and_eq_true] at h
        have ih := clk_len ms _ h.2
        rw [List.length_drop] at ih
        rw [List.length_cons]
        omega
theorem clk_num (m : Nat) (ms : List Nat) (l : List UInt8) (k : Nat) (hd : digL l = true) (hk : k + 2 ≤ l.length) : clk (m :: ms) (l.drop k) = (decide (numL (l.extract k (k + 2)) ≤ m) && clk ms (l.drop (k + 2))) := by
  rw [clk_step m ms _ (by rw [List.length_drop]; omega), List.drop_drop]
  congr 1
  have e : (l.drop k).take 2 = l.extract k (k + 2) := by rw [List.extract_eq_take_drop, Nat.add_sub_cancel_left]
  rw [e]
  unfold withinB
  rw [allD_of _ (by rw [len_ext l k (k + 2) hk (by omega)]; omega), digL_ext l k (k + 2) hd]
  simp
theorem len_parts (n : Nat) : n = 0 ∨ n = 2 ∨ n = 4 ∨ n = 6 ∨ (¬ n = 0 ∧ ¬ n = 2 ∧ ¬ n = 4 ∧ ¬ n = 6 ∧ ¬ (n % 2 = 0 ∧ n ≤ 2 * 3)) := by omega
set_option maxHeartbeats 4000000 in
set_option maxRecDepth 100000 in
theorem l06Clock_any (l : List UInt8) (H : Nat) (w : World) (hl : l.length ≤ maxLen) :
    Calls Tryd.prog 23 #[.string ⟨l.toArray⟩, .int .i64 (H : Int)] w fun e w' => e = .returned (.bool (clk [H, 59, 59] l)) ∧ w' = w := by
  have hl' := hide hl
  unfold maxLen at hl
  obtain ⟨R, hR⟩ : ∃ R, R = clk [H, 59, 59] l := ⟨_, rfl⟩
  rw [← hR]
  have HR := hide hR
  clear hR
  cases hd : digL l
  · have HN := hide (show R = false by
      rw [HR.out]
      cases hc : clk [H, 59, 59] l
      · rfl
      · rw [clk_dig _ _ hc] at hd; simp at hd)
    go_enter Tryd.func23, Tryd.ntmps23
    go_wp2_with fail
    refine (l06Digits_any l _ hl'.out).mono ?_
    rintro e w1 ⟨rfl, rfl⟩
    rw [hd]
    clear hd
    go_wp2
    go_ret
    exact ⟨ret_bool HN.out.symm, rfl⟩
  · have HD := hide hd
    rcases len_parts l.length with h | h | h | h | ⟨h0, h2, h4, h6, hbad⟩
    · have HR0 := hide (show R = clk [H, 59, 59] (l.drop 0) from HR.out)
      have f0 : ((l.length : Int) != 0) = false := by rw [h]; decide
      have hlI : (l.length : Int) = 0 := by omega
      go_enter Tryd.func23, Tryd.ntmps23
      go_wp2_with fail
      refine (l06Digits_any l _ hl'.out).mono ?_
      rintro e w1 ⟨rfl, rfl⟩
      rw [hd]
      go_wp2_with fail
      go_loop [5] (fun i => ∃ k : Nat, i = .int .i64 (k : Int) ∧ Hid ((k = 0 ∧ R = clk [H, 59, 59] (l.drop 0)))) (fun i => 8 - (intOf i).toNat)
      case atStart => exact ⟨0, rfl, ⟨rfl, HR0.out⟩⟩
      case round =>
        obtain ⟨k, rfl, HK⟩ := hrel
        obtain ⟨rfl, hr⟩ := HK.out
        have HN := hide (show R = true by rw [hr, List.drop_eq_nil_of_le (by omega)]; exact clk_nil _)
        clear HK hr
        go_wp2
        go_ret
        exact ⟨ret_bool HN.out.symm, rfl⟩
    · have HR0 := hide (show R = clk [H, 59, 59] (l.drop 0) from HR.out)
      have f0 : ((l.length : Int) != 0) = true := by rw [h]; decide
      have f2 : ((l.length : Int) != 2) = false := by rw [h]; decide
      have hlI : (l.length : Int) = 2 := by omega
      go_enter Tryd.func23, Tryd.ntmps23
      go_wp2_with fail
      refine (l06Digits_any l _ hl'.out).mono ?_
      rintro e w1 ⟨rfl, rfl⟩
      rw [hd]
      go_wp2_with fail
      go_loop [5] (fun i => ∃ k : Nat, i = .int .i64 (k : Int) ∧ Hid ((k = 0 ∧ R = clk [H, 59, 59] (l.drop 0)) ∨ (k = 2 ∧ R = clk [59, 59] (l.drop 2)))) (fun i => 8 - (intOf i).toNat)
      case atStart => exact ⟨0, rfl, .inl ⟨rfl, HR0.out⟩⟩
      case round =>
        obtain ⟨k, rfl, HK⟩ := hrel
        rcases HK.out with ⟨rfl, hr⟩ | ⟨rfl, hr⟩
        · have HY := hide (hr.trans (clk_num H [59, 59] l 0 HD.out (by omega)))
          clear HK hr
          have C := hide (fun Z => l06Num_any (l.extract 0 2) Z (by rw [len_ext l 0 2 (by omega) (by omega)]; decide) (digL_ext l 0 2 HD.out))
          go_wp2_with fail
          rw [ext_of]
          refine (C.out _).mono ?_
          rintro e w2 ⟨rfl, rfl⟩
          clear C
          generalize numL (l.extract 0 2) = N at *
          by_cases hN : N ≤ H
          · have HN := hide (show R = clk [59, 59] (l.drop 2) by rw [HY.out]; simp [hN])
            have hNI : ¬ ((H : Int) < (N : Int)) := by omega
            clear HY hN
            go_wp2
            go_round
            case rel => exact ⟨2, rfl, .inr (⟨rfl, HN.out⟩)⟩
            case measure => simp [intOf]
          · have HN := hide (show R = false by rw [HY.out]; simp [hN])
            have hNI : (H : Int) < (N : Int) := by omega
            clear HY hN
            go_wp2
            go_ret
            exact ⟨ret_bool HN.out.symm, rfl⟩
        · have HN := hide (show R = true by rw [hr, List.drop_eq_nil_of_le (by omega)]; exact clk_nil _)
          clear HK hr
          go_wp2
          go_ret
          exact ⟨ret_bool HN.out.symm, rfl⟩
    · have HR0 := hide (show R = clk [H, 59, 59] (l.drop 0) from HR.out)
      have f0 : ((l.length : Int) != 0) = true := by rw [h]; decide
      have f2 : ((l.length : Int) != 2) = true := by rw [h]; decide
      have f4 : ((l.length : Int) != 4) = false := by rw [h]; decide
      have hlI : (l.length : Int) = 4 := by omega
      go_enter Tryd.func23, Tryd.ntmps23
      go_wp2_with fail
      refine (l06Digits_any l _ hl'.out).mono ?_
      rintro e w1 ⟨rfl, rfl⟩
      rw [hd]
      go_wp2_with fail
      go_loop [5] (fun i => ∃ k : Nat, i = .int .i64 (k : Int) ∧ Hid ((k = 0 ∧ R = clk [H, 59, 59] (l.drop 0)) ∨ (k = 2 ∧ R = clk [59, 59] (l.drop 2)) ∨ (k = 4 ∧ R = clk [59] (l.drop 4)))) (fun i => 8 - (intOf i).toNat)
      case atStart => exact ⟨0, rfl, .inl ⟨rfl, HR0.out⟩⟩
      case round =>
        obtain ⟨k, rfl, HK⟩ := hrel
        rcases HK.out with ⟨rfl, hr⟩ | ⟨rfl, hr⟩ | ⟨rfl, hr⟩
        · have HY := hide (hr.trans (clk_num H [59, 59] l 0 HD.out (by omega)))
          clear HK hr
          have C := hide (fun Z => l06Num_any (l.extract 0 2) Z (by rw [len_ext l 0 2 (by omega) (by omega)]; decide) (digL_ext l 0 2 HD.out))
          go_wp2_with fail
          rw [ext_of]
          refine (C.out _).mono ?_
          rintro e w2 ⟨rfl, rfl⟩
          clear C
          generalize numL (l.extract 0 2) = N at *
          by_cases hN : N ≤ H
          · have HN := hide (show R = clk [59, 59] (l.drop 2) by rw [HY.out]; simp [hN])
            have hNI : ¬ ((H : Int) < (N : Int)) := by omega
            clear HY hN
            go_wp2
            go_round
            case rel => exact ⟨2, rfl, .inr (.inl ⟨rfl, HN.out⟩)⟩
            case measure => simp [intOf]
          · have HN := hide (show R = false by rw [HY.out]; simp [hN])
            have hNI : (H : Int) < (N : Int) := by omega
            clear HY hN
            go_wp2
            go_ret
            exact ⟨ret_bool HN.out.symm, rfl⟩
        · have HY := hide (hr.trans (clk_num 59 [59] l 2 HD.out (by omega)))
          clear HK hr
          have C := hide (fun Z => l06Num_any (l.extract 2 4) Z (by rw [len_ext l 2 4 (by omega) (by omega)]; decide) (digL_ext l 2 4 HD.out))
          go_wp2_with fail
          rw [ext_of]
          refine (C.out _).mono ?_
          rintro e w2 ⟨rfl, rfl⟩
          clear C
          generalize numL (l.extract 2 4) = N at *
          by_cases hN : N ≤ 59
          · have HN := hide (show R = clk [59] (l.drop 4) by rw [HY.out]; simp [hN])
            have hNI : ¬ ((59 : Int) < (N : Int)) := by omega
            clear HY hN
            go_wp2
            go_round
            case rel => exact ⟨4, rfl, .inr (.inr (⟨rfl, HN.out⟩))⟩
            case measure => simp [intOf]
          · have HN := hide (show R = false by rw [HY.out]; simp [hN])
            have hNI : (59 : Int) < (N : Int) := by omega
            clear HY hN
            go_wp2
            go_ret
            exact ⟨ret_bool HN.out.symm, rfl⟩
        · have HN := hide (show R = true by rw [hr, List.drop_eq_nil_of_le (by omega)]; exact clk_nil _)
          clear HK hr
          go_wp2
          go_ret
          exact ⟨ret_bool HN.out.symm, rfl⟩
    · have HR0 := hide (show R = clk [H, 59, 59] (l.drop 0) from HR.out)
      have f0 : ((l.length : Int) != 0) = true := by rw [h]; decide
      have f2 : ((l.length : Int) != 2) = true := by rw [h]; decide
      have f4 : ((l.length : Int) != 4) = true := by rw [h]; decide
      have f6 : ((l.length : Int) != 6) = false := by rw [h]; decide
      have hlI : (l.length : Int) = 6 := by omega
      go_enter Tryd.func23, Tryd.ntmps23
      go_wp2_with fail
      refine (l06Digits_any l _ hl'.out).mono ?_
      rintro e w1 ⟨rfl, rfl⟩
      rw [hd]
      go_wp2_with fail
      go_loop [5] (fun i => ∃ k : Nat, i = .int .i64 (k : Int) ∧ Hid ((k = 0 ∧ R = clk [H, 59, 59] (l.drop 0)) ∨ (k = 2 ∧ R = clk [59, 59] (l.drop 2)) ∨ (k = 4 ∧ R = clk [59] (l.drop 4)) ∨ (k = 6 ∧ R = clk [] (l.drop 6)))) (fun i => 8 - (intOf i).toNat)
      case atStart => exact ⟨0, rfl, .inl ⟨rfl, HR0.out⟩⟩
      case round =>
        obtain ⟨k, rfl, HK⟩ := hrel
        rcases HK.out with ⟨rfl, hr⟩ | ⟨rfl, hr⟩ | ⟨rfl, hr⟩ | ⟨rfl, hr⟩
        · have HY := hide (hr.trans (clk_num H [59, 59] l 0 HD.out (by omega)))
          clear HK hr
          have C := hide (fun Z => l06Num_any (l.extract 0 2) Z (by rw [len_ext l 0 2 (by omega) (by omega)]; decide) (digL_ext l 0 2 HD.out))
          go_wp2_with fail
          rw [ext_of]
          refine (C.out _).mono ?_
          rintro e w2 ⟨rfl, rfl⟩
          clear C
          generalize numL (l.extract 0 2) = N at *
          by_cases hN : N ≤ H
          · have HN := hide (show R = clk [59, 59] (l.drop 2) by rw [HY.out]; simp [hN])
            have hNI : ¬ ((H : Int) < (N : Int)) := by omega
            clear HY hN
            go_wp2
            go_round
            case rel => exact ⟨2, rfl, .inr (.inl ⟨rfl, HN.out⟩)⟩
            case measure => simp [intOf]
          · have HN := hide (show R = false by rw [HY.out]; simp [hN])
            have hNI : (H : Int) < (N : Int) := by omega
            clear HY hN
            go_wp2
            go_ret
            exact ⟨ret_bool HN.out.symm, rfl⟩
        · have HY := hide (hr.trans (clk_num 59 [59] l 2 HD.out (by omega)))
          clear HK hr
          have C := hide (fun Z => l06Num_any (l.extract 2 4) Z (by rw [len_ext l 2 4 (by omega) (by omega)]; decide) (digL_ext l 2 4 HD.out))
          go_wp2_with fail
          rw [ext_of]
          refine (C.out _).mono ?_
          rintro e w2 ⟨rfl, rfl⟩
          clear C
          generalize numL (l.extract 2 4) = N at *
          by_cases hN : N ≤ 59
          · have HN := hide (show R = clk [59] (l.drop 4) by rw [HY.out]; simp [hN])
            have hNI : ¬ ((59 : Int) < (N : Int)) := by omega
            clear HY hN
            go_wp2
            go_round
            case rel => exact ⟨4, rfl, .inr (.inr (.inl ⟨rfl, HN.out⟩))⟩
            case measure => simp [intOf]
          · have HN := hide (show R = false by rw [HY.out]; simp [hN])
            have hNI : (59 : Int) < (N : Int) := by omega
            clear HY hN
            go_wp2
            go_ret
            exact ⟨ret_bool HN.out.symm, rfl⟩
        · have HY := hide (hr.trans (clk_num 59 [] l 4 HD.out (by omega)))
          clear HK hr
          have C := hide (fun Z => l06Num_any (l.extract 4 6) Z (by rw [len_ext l 4 6 (by omega) (by omega)]; decide) (digL_ext l 4 6 HD.out))
          go_wp2_with fail
          rw [ext_of]
          refine (C.out _).mono ?_
          rintro e w2 ⟨rfl, rfl⟩
          clear C
          generalize numL (l.extract 4 6) = N at *
          by_cases hN : N ≤ 59
          · have HN := hide (show R = clk [] (l.drop 6) by rw [HY.out]; simp [hN])
            have hNI : ¬ ((59 : Int) < (N : Int)) := by omega
            clear HY hN
            go_wp2
            go_round
            case rel => exact ⟨6, rfl, .inr (.inr (.inr (⟨rfl, HN.out⟩)))⟩
            case measure => simp [intOf]
          · have HN := hide (show R = false by rw [HY.out]; simp [hN])
            have hNI : (59 : Int) < (N : Int) := by omega
            clear HY hN
            go_wp2
            go_ret
            exact ⟨ret_bool HN.out.symm, rfl⟩
        · have HN := hide (show R = true by rw [hr, List.drop_eq_nil_of_le (by omega)]; exact clk_nil _)
          clear HK hr
          go_wp2
          go_ret
          exact ⟨ret_bool HN.out.symm, rfl⟩
    · have HN := hide (show R = false by
        rw [HR.out]
        cases hc : clk [H, 59, 59] l
        · rfl
        · exact absurd (clk_len _ _ hc) hbad)
      have f0 : ((l.length : Int) != 0) = true := bne_iff_ne.2 (by omega)
      have f2 : ((l.length : Int) != 2) = true := bne_iff_ne.2 (by omega)
      have f4 : ((l.length : Int) != 4) = true := bne_iff_ne.2 (by omega)
      have f6 : ((l.length : Int) != 6) = true := bne_iff_ne.2 (by omega)
      clear h0 h2 h4 h6 hbad
      go_enter Tryd.func23, Tryd.ntmps23
      go_wp2_with fail
      refine (l06Digits_any l _ hl'.out).mono ?_
      rintro e w1 ⟨rfl, rfl⟩
      rw [hd]
      clear hd
      go_wp2
      go_ret
      exact ⟨ret_bool HN.out.symm, rfl⟩
end Go.Proofs.YthlonjfjlkoojaaDoor
