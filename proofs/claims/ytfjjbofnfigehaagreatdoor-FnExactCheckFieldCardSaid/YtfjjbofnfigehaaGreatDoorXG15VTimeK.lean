/- A clock of the model. -/
import Derived.Test.YtfjjbofnfigehaaGreatDoorXG14VTimeC
import Derived.Deep.DeepCutAuto
namespace Go.Proofs.YtfjjbofnfigehaaGreatDoor
open Go.RowKit
theorem clk_len : ∀ (ms : List Nat) (l : List UInt8), clk ms l = true → l.length % 2 = 0 ∧ l.length ≤ 2 * ms.length
  | [], l, h => by
    cases l with
    | nil => simp
    | cons b r => simp [clk] at h
  | m :: ms, l, h => by
    unfold clk at h
    by_cases h0 : l.isEmpty = true
    · cases l with
      | nil => simp
      | cons b r => simp at h0
    · rw [if_neg h0] at h
      split at h
      · simp at h
      · simp only [Bool.and_eq_true] at h
        have ih := clk_len ms _ h.2
        rw [List.length_drop] at ih
        rw [List.length_cons]
        omega
theorem clk_num (m : Nat) (ms : List Nat) (l : List UInt8) (k : Nat) (hd : digL l = true) (hk : k + 2 ≤ l.length) : clk (m :: ms) (l.drop k) = (decide (numL (l.extract k (k + 2)) ≤ m) && clk ms (l.drop (k + 2))) := by
  rw [clk_step m ms _ (by rw [List.length_drop]; omega), List.drop_drop]
  congr 1
  have e : (l.drop k).take 2 = l.extract k (k + 2) := by rw [List.extract_eq_take_drop, Nat.add_sub_cancel_left]
  rw [e]
  unfold withinB
  rw [allD_of _ (by rw [len_ext l k (k + 2) hk (by omega)]; omega), digL_ext l k (k + 2) hd]
  simp
theorem len_parts (n : Nat) : n = 0 ∨ n = 2 ∨ n = 4 ∨ n = 6 ∨ (¬ n = 0 ∧ ¬ n = 2 ∧ ¬ n = 4 ∧ ¬ n = 6 ∧ ¬ (n % 2 = 0 ∧ n ≤ 2 * 3)) := by omega
set_option maxHeartbeats 4000000 in
set_option maxRecDepth 100000 in
theorem l06Clock_any (l : List UInt8) (H : Nat) (w : World) (hl : l.length ≤ maxLen) :
    Calls Tryz.prog 68 #[.string ⟨l.toArray⟩, .int .i64 (H : Int)] w fun e w' => e = .returned (.bool (clk [H, 59, 59] l)) ∧ w' = w := by
  have hl' := hide hl
  unfold maxLen at hl
  obtain ⟨R, hR⟩ : ∃ R, R = clk [H, 59, 59] l := ⟨_, rfl⟩
  rw [← hR]
  have HR := hide hR
  clear hR
  cases hd : digL l
  · have HN := hide (show R = false by
      rw [HR.out]
      cases hc : clk [H, 59, 59] l
      · rfl
      · rw [clk_dig _ _ hc] at hd; simp at hd)
    go_enter Tryz.func68, Tryz.ntmps68
    go_wp2_with fail
    refine (l06Digits_any l _ hl'.out).mono ?_
    rintro e w1 ⟨rfl, rfl⟩
    rw [hd]
    clear hd
    go_wp2
    go_ret
    exact ⟨ret_bool HN.out.symm, rfl⟩
  · have HD := hide hd
    rcases len_parts l.length with h | h | h | h | ⟨h0, h2, h4, h6, hbad⟩
    · have HR0 := hide (show R = clk [H, 59, 59] (l.drop 0) from HR.out)
      have f0 : ((l.length : Int) != 0) = false := by rw [h]; decide
      have hlI : (l.length : Int) = 0 := by omega
      go_enter Tryz.func68, Tryz.ntmps68
      go_wp2_with fail
      refine (l06Digits_any l _ hl'.out).mono ?_
      rintro e w1 ⟨rfl, rfl⟩
      rw [hd]
      go_wp2_with fail
      go_loop [5] (fun i => ∃ k : Nat, i = .int .i64 (k : Int) ∧ Hid ((k = 0 ∧ R = clk [H, 59, 59] (l.drop 0)))) (fun i => 8 - (intOf i).toNat)
      case atStart => exact ⟨0, rfl, ⟨rfl, HR0.out⟩⟩
      case round =>
        obtain ⟨k, rfl, HK⟩ := hrel
        obtain ⟨rfl, hr⟩ := HK.out
        have HN := hide (show R = true by rw [hr, List.drop_eq_nil_of_le (by omega)]; exact clk_nil _)
        clear HK hr
        go_wp2
        go_ret
        exact ⟨ret_bool HN.out.symm, rfl⟩
    · have HR0 := hide (show R = clk [H, 59, 59] (l.drop 0) from HR.out)
      have f0 : ((l.length : Int) != 0) = true := by rw [h]; decide
      have f2 : ((l.length : Int) != 2) = false := by rw [h]; decide
      have hlI : (l.length : Int) = 2 := by omega
      go_enter Tryz.func68, Tryz.ntmps68
      go_wp2_with fail
      refine (l06Digits_any l _ hl'.out).mono ?_
      rintro e w1 ⟨rfl, rfl⟩
      rw [hd]
      go_wp2_with fail
      go_loop [5] (fun i => ∃ k : Nat, i = .int .i64 (k : Int) ∧ Hid ((k = 0 ∧ R = clk [H, 59, 59] (l.drop 0)) ∨ (k = 2 ∧ R = clk [59, 59] (l.drop 2)))) (fun i => 8 - (intOf i).toNat)
      case atStart => exact ⟨0, rfl, .inl ⟨rfl, HR0.out⟩⟩
      case round =>
        obtain ⟨k, rfl, HK⟩ := hrel
        rcases HK.out with ⟨rfl, hr⟩ | ⟨rfl, hr⟩
        · have HY := hide (hr.trans (clk_num H [59, 59] l 0 HD.out (by omega)))
          clear HK hr
          have C := hide (fun Z => l06Num_any (l.extract 0 2) Z (by rw [len_ext l 0 2 (by omega) (by omega)]; decide) (digL_ext l 0 2 HD.out))
          go_wp2_with fail
          rw [ext_of]
          refine (C.out _).mono ?_
          rintro e w2 ⟨rfl, rfl⟩
          clear C
          generalize numL (l.extract 0 2) = N at *
          by_cases hN : N ≤ H
          · have HN := hide (show R = clk [59, 59] (l.drop 2) by rw [HY.out]; simp [hN])
            have hNI : ¬ ((H : Int) < (N : Int)) := by omega
            clear HY hN
            go_wp2
            go_round
            case rel => exact ⟨2, rfl, .inr (⟨rfl, HN.out⟩)⟩
            case measure => simp [intOf]
          · have HN := hide (show R = false by rw [HY.out]; simp [hN])
            have hNI : (H : Int) < (N : Int) := by omega
            clear HY hN
            go_wp2
            go_ret
            exact ⟨ret_bool HN.out.symm, rfl⟩
        · have HN := hide (show R = true by rw [hr, List.drop_eq_nil_of_le (by omega)]; exact clk_nil _)
          clear HK hr
          go_wp2
          go_ret
          exact ⟨ret_bool HN.out.symm, rfl⟩
    · have HR0 := hide (show R = clk [H, 59, 59] (l.drop 0) from HR.out)
      have f0 : ((l.length : Int) != 0) = true := by rw [h]; decide
      have f2 : ((l.length : Int) != 2) = true := by rw [h]; decide
      have f4 : ((l.length : Int) != 4) = false := by rw [h]; decide
      have hlI : (l.length : Int) = 4 := by omega
      go_enter Tryz.func68, Tryz.ntmps68
      go_wp2_with fail
      refine (l06Digits_any l _ hl'.out).mono ?_
      rintro e w1 ⟨rfl, rfl⟩
      rw [hd]
      go_wp2_with fail
      go_loop [5] (fun i => ∃ k : Nat, i = .int .i64 (k : Int) ∧ Hid ((k = 0 ∧ R = clk [H, 59, 59] (l.drop 0)) ∨ (k = 2 ∧ R = clk [59, 59] (l.drop 2)) ∨ (k = 4 ∧ R = clk [59] (l.drop 4)))) (fun i => 8 - (intOf i).toNat)
      case atStart => exact ⟨0, rfl, .inl ⟨rfl, HR0.out⟩⟩
      case round =>
        obtain ⟨k, rfl, HK⟩ := hrel
        rcases HK.out with ⟨rfl, hr⟩ | ⟨rfl, hr⟩ | ⟨rfl, hr⟩
        · have HY := hide (hr.trans (clk_num H [59, 59] l 0 HD.out (by omega)))
          clear HK hr
          have C := hide (fun Z => l06Num_any (l.extract 0 2) Z (by rw [len_ext l 0 2 (by omega) (by omega)]; decide) (digL_ext l 0 2 HD.out))
          go_wp2_with fail
          rw [ext_of]
          refine (C.out _).mono ?_
          rintro e w2 ⟨rfl, rfl⟩
          clear C
          generalize numL (l.extract 0 2) = N at *
          by_cases hN : N ≤ H
          · have HN := hide (show R = clk [59, 59] (l.drop 2) by rw [HY.out]; simp [hN])
            have hNI : ¬ ((H : Int) < (N : Int)) := by omega
            clear HY hN
            go_wp2
            go_round
            case rel => exact ⟨2, rfl, .inr (.inl ⟨rfl, HN.out⟩)⟩
            case measure => simp [intOf]
          · have HN := hide (show R = false by rw [HY.out]; simp [hN])
            have hNI : (H : Int) < (N : Int) := by omega
            clear HY hN
            go_wp2
            go_ret
            exact ⟨ret_bool HN.out.symm, rfl⟩
        · have HY := hide (hr.trans (clk_num 59 [59] l 2 HD.out (by omega)))
          clear HK hr
          have C := hide (fun Z => l06Num_any (l.extract 2 4) Z (by rw [len_ext l 2 4 (by omega) (by omega)]; decide) (digL_ext l 2 4 HD.out))
          go_wp2_with fail
          rw [ext_of]
          refine (C.out _).mono ?_
          rintro e w2 ⟨rfl, rfl⟩
          clear C
          generalize numL (l.extract 2 4) = N at *
          by_cases hN : N ≤ 59
          · have HN := hide (show R = clk [59] (l.drop 4) by rw [HY.out]; simp [hN])
            have hNI : ¬ ((59 : Int) < (N : Int)) := by omega
            clear HY hN
            go_wp2
            go_round
            case rel => exact ⟨4, rfl, .inr (.inr (⟨rfl, HN.out⟩))⟩
            case measure => simp [intOf]
          · have HN := hide (show R = false by rw [HY.out]; simp [hN])
            have hNI : (59 : Int) < (N : Int) := by omega
            clear HY hN
            go_wp2
            go_ret
            exact ⟨ret_bool HN.out.symm, rfl⟩
        · have HN := hide (show R = true by rw [hr, List.drop_eq_nil_of_le (by omega)]; exact clk_nil _)
          clear HK hr
          go_wp2
          go_ret
          exact ⟨ret_bool HN.out.symm, rfl⟩
    · have HR0 := hide (show R = clk [H, 59, 59] (l.drop 0) from HR.out)
      have f0 : ((l.length : Int) != 0) = true := by rw [h]; decide
      have f2 : ((l.length : Int) != 2) = true := by rw [h]; decide
      have f4 : ((l.length : Int) != 4) = true := by rw [h]; decide
      have f6 : ((l.length : Int) != 6) = false := by rw [h]; decide
      have hlI : (l.length : Int) = 6 := by omega
      go_enter Tryz.func68, Tryz.ntmps68
      go_wp2_with fail
      refine (l06Digits_any l _ hl'.out).mono ?_
      rintro e w1 ⟨rfl, rfl⟩
      rw [hd]
      go_wp2_with fail
      go_loop [5] (fun i => ∃ k : Nat, i = .int .i64 (k : Int) ∧ Hid ((k = 0 ∧ R = clk [H, 59, 59] (l.drop 0)) ∨ (k = 2 ∧ R = clk [59, 59] (l.drop 2)) ∨ (k = 4 ∧ R = clk [59] (l.drop 4)) ∨ (k = 6 ∧ R = clk [] (l.drop 6)))) (fun i => 8 - (intOf i).toNat)
      case atStart => exact ⟨0, rfl, .inl ⟨rfl, HR0.out⟩⟩
      case round =>
        obtain ⟨k, rfl, HK⟩ := hrel
        rcases HK.out with ⟨rfl, hr⟩ | ⟨rfl, hr⟩ | ⟨rfl, hr⟩ | ⟨rfl, hr⟩
        · have HY := hide (hr.trans (clk_num H [59, 59] l 0 HD.out (by omega)))
          clear HK hr
          have C := hide (fun Z => l06Num_any (l.extract 0 2) Z (by rw [len_ext l 0 2 (by omega) (by omega)]; decide) (digL_ext l 0 2 HD.out))
          go_wp2_with fail
          rw [ext_of]
          refine (C.out _).mono ?_
          rintro e w2 ⟨rfl, rfl⟩
          clear C
          generalize numL (l.extract 0 2) = N at *
          by_cases hN : N ≤ H
          · have HN := hide (show R = clk [59, 59] (l.drop 2) by rw [HY.out]; simp [hN])
            have hNI : ¬ ((H : Int) < (N : Int)) := by omega
            clear HY hN
            go_wp2
            go_round
            case rel => exact ⟨2, rfl, .inr (.inl ⟨rfl, HN.out⟩)⟩
            case measure => simp [intOf]
          · have HN := hide (show R = false by rw [HY.out]; simp [hN])
            have hNI : (H : Int) < (N : Int) := by omega
            clear HY hN
            go_wp2
            go_ret
            exact ⟨ret_bool HN.out.symm, rfl⟩
        · have HY := hide (hr.trans (clk_num 59 [59] l 2 HD.out (by omega)))
          clear HK hr
          have C := hide (fun Z => l06Num_any (l.extract 2 4) Z (by rw [len_ext l 2 4 (by omega) (by omega)]; decide) (digL_ext l 2 4 HD.out))
          go_wp2_with fail
          rw [ext_of]
          refine (C.out _).mono ?_
          rintro e w2 ⟨rfl, rfl⟩
          clear C
          generalize numL (l.extract 2 4) = N at *
          by_cases hN : N ≤ 59
          · have HN := hide (show R = clk [59] (l.drop 4) by rw [HY.out]; simp [hN])
            have hNI : ¬ ((59 : Int) < (N : Int)) := by omega
            clear HY hN
            go_wp2
            go_round
            case rel => exact ⟨4, rfl, .inr (.inr (.inl ⟨rfl, HN.out⟩))⟩
            case measure => simp [intOf]
          · have HN := hide (show R = false by rw [HY.out]; simp [hN])
            have hNI : (59 : Int) < (N : Int) := by omega
            clear HY hN
            go_wp2
            go_ret
            exact ⟨ret_bool HN.out.symm, rfl⟩
        · have HY := hide (hr.trans (clk_num 59 [] l 4 HD.out (by omega)))
          clear HK hr
          have C := hide (fun Z => l06Num_any (l.extract 4 6) Z (by rw [len_ext l 4 6 (by omega) (by omega)]; decide) (digL_ext l 4 6 HD.out))
          go_wp2_with fail
          rw [ext_of]
          refine (C.out _).mono ?_
          rintro e w2 ⟨rfl, rfl⟩
          clear C
          generalize numL (l.extract 4 6) = N at *
          by_cases hN : N ≤ 59
          · have HN := hide (show R = clk [] (l.drop 6) by rw [HY.out]; simp [hN])
            have hNI : ¬ ((59 : Int) < (N : Int)) := by omega
            clear HY hN
            go_wp2
            go_round
            case rel => exact ⟨6, rfl, .inr (.inr (.inr (⟨rfl, HN.out⟩)))⟩
            case measure => simp [intOf]
          · have HN := hide (show R = false by rw [HY.out]; simp [hN])
            have hNI : (59 : Int) < (N : Int) := by omega
            clear HY hN
            go_wp2
            go_ret
            exact ⟨ret_bool HN.out.symm, rfl⟩
        · have HN := hide (show R = true by rw [hr, List.drop_eq_nil_of_le (by omega)]; exact clk_nil _)
          clear HK hr
          go_wp2
          go_ret
          exact ⟨ret_bool HN.out.symm, rfl⟩
    · have HN := hide (show R = false by
        rw [HR.out]
        cases hc : clk [H, 59, 59] l
        · rfl
        · exact absurd (clk_len _ _ hc) hbad)
      have f0 : ((l.length : Int) != 0) = true := bne_iff_ne.2 (by omega)
      have f2 : ((l.length : Int) != 2) = true := bne_iff_ne.2 (by omega)
      have f4 : ((l.length : Int) != 4) = true := bne_iff_ne.2 (by omega)
      have f6 : ((l.length : Int) != 6) = true := bne_iff_ne.2 (by omega)
      clear h0 h2 h4 h6 hbad
      go_enter Tryz.func68, Tryz.ntmps68
      go_wp2_with fail
      refine (l06Digits_any l _ hl'.out).mono ?_
      rintro e w1 ⟨rfl, rfl⟩
      rw [hd]
      clear hd
      go_wp2
      go_ret
      exact ⟨ret_bool HN.out.symm, rfl⟩
end Go.Proofs.YtfjjbofnfigehaaGreatDoor
/- A time: of the model. -/
namespace Go.Proofs.YtfjjbofnfigehaaGreatDoor
open Go.RowKit
theorem dotAt_any (d : List UInt8) (w : World) (hd : d.length ≤ 8000) :
    Calls Tryz.prog 65 #[.string ⟨d.toArray⟩, .int .u8 46] w fun e w' => e = .returned (.int .i64 (Lib.indexByte d 46)) ∧ w' = w :=
  l04At_any ⟨d.toArray⟩ 46 w (by unfold maxLen; simp [ByteArray.size]; omega)
theorem dot_room (d : List UInt8) : 0 ≤ Lib.indexByte d 46 → Lib.indexByte d 46 + 1 ≤ (d.length : Int) := by
  intro h
  obtain ⟨k, hk⟩ : ∃ k : Nat, Lib.indexByte d 46 = (k : Int) := ⟨(Lib.indexByte d 46).toNat, by omega⟩
  obtain ⟨h46, _⟩ := Lib.indexByte_some hk
  obtain ⟨hl, _⟩ := List.getElem?_eq_some_iff.1 h46
  omega
theorem frac_spelt (v : Int) (c : List UInt8) (h : 2 ≤ v) : fracS v c = if decide (0 ≤ Lib.indexByte c 46) then
    (if decide (Lib.indexByte c 46 = 6) && (digL (c.drop 7) && (decide (1 ≤ (c.drop 7).length) && decide ((c.drop 7).length ≤ 4))) then clk [23, 59, 59] (c.take 6) else false)
  else clk [23, 59, 59] c := by
  unfold fracS
  simp only [h, decide_true, Bool.true_and]
def timeB (v : Int) (l : List UInt8) : Bool := verB v && (decide (8 ≤ l.length) && (dayB (l.take 8) && timeS v (l.drop 8)))
set_option maxHeartbeats 4000000 in
set_option maxRecDepth 100000 in
theorem specTimeRight_any (v : Int) (l : List UInt8) (w : World) (hl : l.length ≤ 8000) :
    Calls Tryz.prog 40 #[.int .i64 v, .string ⟨l.toArray⟩] w fun e w' => e = .returned (.bool (timeB v l)) ∧ Below w.heap.size w w' := by
  obtain ⟨R, hR⟩ : ∃ R, R = timeB v l := ⟨_, rfl⟩
  rw [← hR]
  have HR := hide hR
  clear hR
  have h80 : ¬ 8000 < (l.length : Int) := by omega
  cases hv : verB v
  · have HN := hide (show R = false by rw [HR.out]; simp [timeB, hv])
    go_enter Tryz.func40, Tryz.ntmps40
    go_wp2_with fail
    refine (l06Version_any v _).mono ?_
    rintro e w1 ⟨rfl, rfl⟩
    rw [hv]
    clear hv
    go_wp2
    go_ret
    exact ⟨ret_bool HN.out.symm, Below.refl _ _⟩
  · by_cases h8 : 8 ≤ l.length
    · have h8I : ¬ (l.length : Int) < 8 := by omega
      have HC := hide (fun X => specDayRight_any (l.take 8) X (by unfold maxLen; rw [List.length_take]; omega))
      go_enter Tryz.func40, Tryz.ntmps40
      go_wp2_with fail
      refine (l06Version_any v _).mono ?_
      rintro e w1 ⟨rfl, rfl⟩
      rw [hv]
      have HV := hide hv
      clear hv
      go_wp2_with fail
      rw [ext_takeV]
      refine (HC.out _).mono ?_
      rintro e w2 ⟨rfl, hb⟩
      have HB := hide hb
      clear hb HC
      cases hd : dayB (l.take 8)
      · have HN := hide (show R = false by rw [HR.out]; simp [timeB, hd])
        clear hd
        go_wp2
        go_ret
        exact ⟨ret_bool HN.out.symm, HB.out⟩
      · have HY := hide (show R = timeS v (l.drop 8) by rw [HR.out]; simp [timeB, hd, HV.out, h8])
        clear hd
        go_upto_region 4 with fail
        rw [ext_dropV]
        obtain ⟨c, hc⟩ : ∃ c, c = l.drop 8 := ⟨_, rfl⟩
        have hcl : c.length ≤ 8000 := by rw [hc, List.length_drop]; omega
        rw [← hc] at HY ⊢
        clear hc
        have hv3 : v = 1 ∨ v = 2 ∨ v = 3 := by have := HV.out; simp [verB] at this; omega
        rcases hv3 with rfl | rfl | rfl
        · have HN := hide (show R = clk [23, 59, 59] c by rw [HY.out]; rfl)
          go_wp2_with fail
          refine (dotAt_any c _ (by omega)).mono ?_
          rintro e wd ⟨rfl, rfl⟩
          generalize Lib.indexByte c 46 = K at *
          go_wp2_with fail
          refine (l06Clock_any c 23 _ (by unfold maxLen; omega)).mono ?_
          rintro e wd ⟨rfl, rfl⟩
          go_wp2
          go_ret
          exact ⟨ret_bool HN.out.symm, HB.out⟩
        · have HRc := hide (show R = fracS 2 c by rw [HY.out]; rfl)
          clear HY
          go_wp2_with fail
          refine (dotAt_any c _ (by omega)).mono ?_
          rintro e wd ⟨rfl, rfl⟩
          have HKS := hide (dot_room c)
          have HKG := hide (Lib.indexByte_ge c 46)
          have HF := hide (HRc.out.trans (frac_spelt 2 c (by decide)))
          generalize Lib.indexByte c 46 = K at *
          by_cases hk0 : 0 ≤ K
          · have hkr := HKS.out hk0
            by_cases hk6 : K = 6
            · subst hk6
              have hk7 : 7 ≤ c.length := by omega
              go_wp2_with fail
              rw [ext_dropV]
              refine (l06Digits_any (c.drop 7) _ (by unfold maxLen; rw [List.length_drop]; omega)).mono ?_
              rintro e wd ⟨rfl, rfl⟩
              have hdl : (c.drop 7).length = c.length - 7 := List.length_drop
              cases hdg : digL (c.drop 7)
              · have HN := hide (show R = false by rw [HF.out, hdg]; simp)
                clear hdg
                go_wp2
                go_ret
                exact ⟨ret_bool HN.out.symm, HB.out⟩
              · by_cases h1 : 1 ≤ c.length - 7
                · by_cases h4 : c.length - 7 ≤ 4
                  · have HN := hide (show R = clk [23, 59, 59] (c.take 6) by rw [HF.out, hdg, hdl]; simp only [h1, h4]; simp)
                    have h1I : ¬ ((c.length - 7 : Nat) : Int) < 1 := by omega
                    have h4I : ¬ 4 < ((c.length - 7 : Nat) : Int) := by omega
                    have h1J : ¬ c.length - 7 < 1 := by omega
                    have h4J : ¬ 4 < c.length - 7 := by omega
                    clear hdg
                    go_wp2_with fail
                    rw [ext_takeV]
                    refine (l06Clock_any (c.take 6) 23 _ (by unfold maxLen; rw [List.length_take]; omega)).mono ?_
                    rintro e wd ⟨rfl, rfl⟩
                    go_wp2
                    go_ret
                    exact ⟨ret_bool HN.out.symm, HB.out⟩
                  · have HN := hide (show R = false by rw [HF.out, hdl]; simp [h4])
                    have h1I : ¬ ((c.length - 7 : Nat) : Int) < 1 := by omega
                    have h4I : 4 < ((c.length - 7 : Nat) : Int) := by omega
                    have h1J : ¬ c.length - 7 < 1 := by omega
                    have h4J : 4 < c.length - 7 := by omega
                    clear hdg
                    go_wp2
                    go_ret
                    exact ⟨ret_bool HN.out.symm, HB.out⟩
                · have HN := hide (show R = false by rw [HF.out, hdl]; simp [h1])
                  have h1I : ((c.length - 7 : Nat) : Int) < 1 := by omega
                  have h1J : c.length - 7 < 1 := by omega
                  clear hdg
                  go_wp2
                  go_ret
                  exact ⟨ret_bool HN.out.symm, HB.out⟩
            · have HN := hide (show R = false by rw [HF.out]; simp [hk0, hk6])
              have hk6B : (K != 6) = true := bne_iff_ne.2 hk6
              go_wp2
              go_ret
              exact ⟨ret_bool HN.out.symm, HB.out⟩
          · have HN := hide (show R = clk [23, 59, 59] c by rw [HF.out]; simp [hk0])
            have hkm : K = -1 := by have := HKG.out; omega
            subst hkm
            go_wp2_with fail
            refine (l06Clock_any c 23 _ (by unfold maxLen; omega)).mono ?_
            rintro e wd ⟨rfl, rfl⟩
            go_wp2
            go_ret
            exact ⟨ret_bool HN.out.symm, HB.out⟩
        · by_cases h5 : 5 ≤ c.length
          · obtain ⟨p, hp⟩ : ∃ p : Nat, p = c.length - 5 := ⟨_, rfl⟩
            have hpI : ((c.length : Int) - 5) = (p : Int) := by omega
            have hp4 : ((c.length : Int) - 4) = ((p + 1 : Nat) : Int) := by omega
            have hn4 : c.length - 4 = p + 1 := by omega
            have hlt : p < c.length := by omega
            have hg := get_dataV c p hlt
            have hsz : p < (⟨c.toArray⟩ : ByteArray).size := by simpa [ByteArray.size] using hlt
            have h5I : (5 : Int) ≤ (c.length : Int) := by omega
            have HG := hide (show hasSgn c = sgn c[p] by unfold hasSgn; rw [← hp, getD_at c p hlt]; simp [h5])
            by_cases hs : sgn c[p] = true
            · have hs' := hs
              simp only [sgn, Bool.or_eq_true, beq_iff_eq] at hs'
              rw [hs] at HG
              have hsg : ((c[p].toNat : Int) == 43) = true ∨ ((c[p].toNat : Int) == 43) = false ∧ ((c[p].toNat : Int) == 45) = true := by
                rcases hs' with e | e <;> rw [e] <;> decide
              clear hs hs'
              have HP := hide hp
              have HN4 := hide hn4
              clear hp hn4
              rcases hsg with g1 | ⟨g1, g2⟩
              · have HZ := hide (show R = if clk [14, 59, 59] (c.drop (p + 1)) then fracS 3 (c.take p) else false by
                  rw [HY.out]; unfold timeS; rw [HG.out, HN4.out, ← HP.out]; rfl)
                go_wp2_with fail
                rw [ext_dropV]
                refine (l06Clock_any (c.drop (p + 1)) 14 _ (by unfold maxLen; rw [List.length_drop]; omega)).mono ?_
                rintro e wd ⟨rfl, rfl⟩
                cases hz : clk [14, 59, 59] (c.drop (p + 1))
                · have HN := hide (show R = false by rw [HZ.out, hz]; rfl)
                  clear hz HZ HY
                  go_wp2
                  go_ret
                  exact ⟨ret_bool HN.out.symm, HB.out⟩
                · have HRd' := hide (show R = fracS 3 (c.take p) by rw [HZ.out, hz]; rfl)
                  clear hz HZ HY
                  go_upto_region 9 with fail
                  rw [ext_takeV]
                  obtain ⟨d, hd⟩ : ∃ d, d = c.take p := ⟨_, rfl⟩
                  have hdlen : d.length ≤ 8000 := by rw [hd, List.length_take]; omega
                  rw [← hd] at HRd' ⊢
                  have HRd := HRd'
                  clear hd
                  go_wp2_with fail
                  refine (dotAt_any d _ (by omega)).mono ?_
                  rintro e wd ⟨rfl, rfl⟩
                  have HKS := hide (dot_room d)
                  have HKG := hide (Lib.indexByte_ge d 46)
                  have HF := hide (HRd.out.trans (frac_spelt 3 d (by decide)))
                  generalize Lib.indexByte d 46 = K at *
                  by_cases hk0 : 0 ≤ K
                  · have hkr := HKS.out hk0
                    by_cases hk6 : K = 6
                    · subst hk6
                      have hk7 : 7 ≤ d.length := by omega
                      go_wp2_with fail
                      rw [ext_dropV]
                      refine (l06Digits_any (d.drop 7) _ (by unfold maxLen; rw [List.length_drop]; omega)).mono ?_
                      rintro e wd ⟨rfl, rfl⟩
                      have hdl : (d.drop 7).length = d.length - 7 := List.length_drop
                      cases hdg : digL (d.drop 7)
                      · have HN := hide (show R = false by rw [HF.out, hdg]; simp)
                        clear hdg
                        go_wp2
                        go_ret
                        exact ⟨ret_bool HN.out.symm, HB.out⟩
                      · by_cases h1 : 1 ≤ d.length - 7
                        · by_cases h4 : d.length - 7 ≤ 4
                          · have HN := hide (show R = clk [23, 59, 59] (d.take 6) by rw [HF.out, hdg, hdl]; simp only [h1, h4]; simp)
                            have h1I : ¬ ((d.length - 7 : Nat) : Int) < 1 := by omega
                            have h4I : ¬ 4 < ((d.length - 7 : Nat) : Int) := by omega
                            have h1J : ¬ d.length - 7 < 1 := by omega
                            have h4J : ¬ 4 < d.length - 7 := by omega
                            clear hdg
                            go_wp2_with fail
                            rw [ext_takeV]
                            refine (l06Clock_any (d.take 6) 23 _ (by unfold maxLen; rw [List.length_take]; omega)).mono ?_
                            rintro e wd ⟨rfl, rfl⟩
                            go_wp2
                            go_ret
                            exact ⟨ret_bool HN.out.symm, HB.out⟩
                          · have HN := hide (show R = false by rw [HF.out, hdl]; simp [h4])
                            have h1I : ¬ ((d.length - 7 : Nat) : Int) < 1 := by omega
                            have h4I : 4 < ((d.length - 7 : Nat) : Int) := by omega
                            have h1J : ¬ d.length - 7 < 1 := by omega
                            have h4J : 4 < d.length - 7 := by omega
                            clear hdg
                            go_wp2
                            go_ret
                            exact ⟨ret_bool HN.out.symm, HB.out⟩
                        · have HN := hide (show R = false by rw [HF.out, hdl]; simp [h1])
                          have h1I : ((d.length - 7 : Nat) : Int) < 1 := by omega
                          have h1J : d.length - 7 < 1 := by omega
                          clear hdg
                          go_wp2
                          go_ret
                          exact ⟨ret_bool HN.out.symm, HB.out⟩
                    · have HN := hide (show R = false by rw [HF.out]; simp [hk0, hk6])
                      have hk6B : (K != 6) = true := bne_iff_ne.2 hk6
                      go_wp2
                      go_ret
                      exact ⟨ret_bool HN.out.symm, HB.out⟩
                  · have HN := hide (show R = clk [23, 59, 59] d by rw [HF.out]; simp [hk0])
                    have hkm : K = -1 := by have := HKG.out; omega
                    subst hkm
                    go_wp2_with fail
                    refine (l06Clock_any d 23 _ (by unfold maxLen; omega)).mono ?_
                    rintro e wd ⟨rfl, rfl⟩
                    go_wp2
                    go_ret
                    exact ⟨ret_bool HN.out.symm, HB.out⟩
              · have HZ := hide (show R = if clk [14, 59, 59] (c.drop (p + 1)) then fracS 3 (c.take p) else false by
                  rw [HY.out]; unfold timeS; rw [HG.out, HN4.out, ← HP.out]; rfl)
                go_wp2_with fail
                rw [ext_dropV]
                refine (l06Clock_any (c.drop (p + 1)) 14 _ (by unfold maxLen; rw [List.length_drop]; omega)).mono ?_
                rintro e wd ⟨rfl, rfl⟩
                cases hz : clk [14, 59, 59] (c.drop (p + 1))
                · have HN := hide (show R = false by rw [HZ.out, hz]; rfl)
                  clear hz HZ HY
                  go_wp2
                  go_ret
                  exact ⟨ret_bool HN.out.symm, HB.out⟩
                · have HRd' := hide (show R = fracS 3 (c.take p) by rw [HZ.out, hz]; rfl)
                  clear hz HZ HY
                  go_upto_region 9 with fail
                  rw [ext_takeV]
                  obtain ⟨d, hd⟩ : ∃ d, d = c.take p := ⟨_, rfl⟩
                  have hdlen : d.length ≤ 8000 := by rw [hd, List.length_take]; omega
                  rw [← hd] at HRd' ⊢
                  have HRd := HRd'
                  clear hd
                  go_wp2_with fail
                  refine (dotAt_any d _ (by omega)).mono ?_
                  rintro e wd ⟨rfl, rfl⟩
                  have HKS := hide (dot_room d)
                  have HKG := hide (Lib.indexByte_ge d 46)
                  have HF := hide (HRd.out.trans (frac_spelt 3 d (by decide)))
                  generalize Lib.indexByte d 46 = K at *
                  by_cases hk0 : 0 ≤ K
                  · have hkr := HKS.out hk0
                    by_cases hk6 : K = 6
                    · subst hk6
                      have hk7 : 7 ≤ d.length := by omega
                      go_wp2_with fail
                      rw [ext_dropV]
                      refine (l06Digits_any (d.drop 7) _ (by unfold maxLen; rw [List.length_drop]; omega)).mono ?_
                      rintro e wd ⟨rfl, rfl⟩
                      have hdl : (d.drop 7).length = d.length - 7 := List.length_drop
                      cases hdg : digL (d.drop 7)
                      · have HN := hide (show R = false by rw [HF.out, hdg]; simp)
                        clear hdg
                        go_wp2
                        go_ret
                        exact ⟨ret_bool HN.out.symm, HB.out⟩
                      · by_cases h1 : 1 ≤ d.length - 7
                        · by_cases h4 : d.length - 7 ≤ 4
                          · have HN := hide (show R = clk [23, 59, 59] (d.take 6) by rw [HF.out, hdg, hdl]; simp only [h1, h4]; simp)
                            have h1I : ¬ ((d.length - 7 : Nat) : Int) < 1 := by omega
                            have h4I : ¬ 4 < ((d.length - 7 : Nat) : Int) := by omega
                            have h1J : ¬ d.length - 7 < 1 := by omega
                            have h4J : ¬ 4 < d.length - 7 := by omega
                            clear hdg
                            go_wp2_with fail
                            rw [ext_takeV]
                            refine (l06Clock_any (d.take 6) 23 _ (by unfold maxLen; rw [List.length_take]; omega)).mono ?_
                            rintro e wd ⟨rfl, rfl⟩
                            go_wp2
                            go_ret
                            exact ⟨ret_bool HN.out.symm, HB.out⟩
                          · have HN := hide (show R = false by rw [HF.out, hdl]; simp [h4])
                            have h1I : ¬ ((d.length - 7 : Nat) : Int) < 1 := by omega
                            have h4I : 4 < ((d.length - 7 : Nat) : Int) := by omega
                            have h1J : ¬ d.length - 7 < 1 := by omega
                            have h4J : 4 < d.length - 7 := by omega
                            clear hdg
                            go_wp2
                            go_ret
                            exact ⟨ret_bool HN.out.symm, HB.out⟩
                        · have HN := hide (show R = false by rw [HF.out, hdl]; simp [h1])
                          have h1I : ((d.length - 7 : Nat) : Int) < 1 := by omega
                          have h1J : d.length - 7 < 1 := by omega
                          clear hdg
                          go_wp2
                          go_ret
                          exact ⟨ret_bool HN.out.symm, HB.out⟩
                    · have HN := hide (show R = false by rw [HF.out]; simp [hk0, hk6])
                      have hk6B : (K != 6) = true := bne_iff_ne.2 hk6
                      go_wp2
                      go_ret
                      exact ⟨ret_bool HN.out.symm, HB.out⟩
                  · have HN := hide (show R = clk [23, 59, 59] d by rw [HF.out]; simp [hk0])
                    have hkm : K = -1 := by have := HKG.out; omega
                    subst hkm
                    go_wp2_with fail
                    refine (l06Clock_any d 23 _ (by unfold maxLen; omega)).mono ?_
                    rintro e wd ⟨rfl, rfl⟩
                    go_wp2
                    go_ret
                    exact ⟨ret_bool HN.out.symm, HB.out⟩
            · have hs' : sgn c[p] = false := by simpa using hs
              rw [hs'] at HG
              have HRc := hide (show R = fracS 3 c by rw [HY.out]; unfold timeS; rw [HG.out]; rfl)
              have g1 : ((c[p].toNat : Int) == 43) = false := by
                have : ¬ c[p] = 43 := by intro e; rw [e] at hs'; simp [sgn] at hs'
                have h2 : ¬ c[p].toNat = 43 := fun e => this (UInt8.toNat_inj.1 e)
                exact beq_eq_false_iff_ne.2 (by omega)
              have g2 : ((c[p].toNat : Int) == 45) = false := by
                have : ¬ c[p] = 45 := by intro e; rw [e] at hs'; simp [sgn] at hs'
                have h2 : ¬ c[p].toNat = 45 := fun e => this (UInt8.toNat_inj.1 e)
                exact beq_eq_false_iff_ne.2 (by omega)
              clear hs hs' hp hn4 HY
              go_wp2_with fail
              refine (dotAt_any c _ (by omega)).mono ?_
              rintro e wd ⟨rfl, rfl⟩
              have HKS := hide (dot_room c)
              have HKG := hide (Lib.indexByte_ge c 46)
              have HF := hide (HRc.out.trans (frac_spelt 3 c (by decide)))
              generalize Lib.indexByte c 46 = K at *
              by_cases hk0 : 0 ≤ K
              · have hkr := HKS.out hk0
                by_cases hk6 : K = 6
                · subst hk6
                  have hk7 : 7 ≤ c.length := by omega
                  go_wp2_with fail
                  rw [ext_dropV]
                  refine (l06Digits_any (c.drop 7) _ (by unfold maxLen; rw [List.length_drop]; omega)).mono ?_
                  rintro e wd ⟨rfl, rfl⟩
                  have hdl : (c.drop 7).length = c.length - 7 := List.length_drop
                  cases hdg : digL (c.drop 7)
                  · have HN := hide (show R = false by rw [HF.out, hdg]; simp)
                    clear hdg
                    go_wp2
                    go_ret
                    exact ⟨ret_bool HN.out.symm, HB.out⟩
                  · by_cases h1 : 1 ≤ c.length - 7
                    · by_cases h4 : c.length - 7 ≤ 4
                      · have HN := hide (show R = clk [23, 59, 59] (c.take 6) by rw [HF.out, hdg, hdl]; simp only [h1, h4]; simp)
                        have h1I : ¬ ((c.length - 7 : Nat) : Int) < 1 := by omega
                        have h4I : ¬ 4 < ((c.length - 7 : Nat) : Int) := by omega
                        have h1J : ¬ c.length - 7 < 1 := by omega
                        have h4J : ¬ 4 < c.length - 7 := by omega
                        clear hdg
                        go_wp2_with fail
                        rw [ext_takeV]
                        refine (l06Clock_any (c.take 6) 23 _ (by unfold maxLen; rw [List.length_take]; omega)).mono ?_
                        rintro e wd ⟨rfl, rfl⟩
                        go_wp2
                        go_ret
                        exact ⟨ret_bool HN.out.symm, HB.out⟩
                      · have HN := hide (show R = false by rw [HF.out, hdl]; simp [h4])
                        have h1I : ¬ ((c.length - 7 : Nat) : Int) < 1 := by omega
                        have h4I : 4 < ((c.length - 7 : Nat) : Int) := by omega
                        have h1J : ¬ c.length - 7 < 1 := by omega
                        have h4J : 4 < c.length - 7 := by omega
                        clear hdg
                        go_wp2
                        go_ret
                        exact ⟨ret_bool HN.out.symm, HB.out⟩
                    · have HN := hide (show R = false by rw [HF.out, hdl]; simp [h1])
                      have h1I : ((c.length - 7 : Nat) : Int) < 1 := by omega
                      have h1J : c.length - 7 < 1 := by omega
                      clear hdg
                      go_wp2
                      go_ret
                      exact ⟨ret_bool HN.out.symm, HB.out⟩
                · have HN := hide (show R = false by rw [HF.out]; simp [hk0, hk6])
                  have hk6B : (K != 6) = true := bne_iff_ne.2 hk6
                  go_wp2
                  go_ret
                  exact ⟨ret_bool HN.out.symm, HB.out⟩
              · have HN := hide (show R = clk [23, 59, 59] c by rw [HF.out]; simp [hk0])
                have hkm : K = -1 := by have := HKG.out; omega
                subst hkm
                go_wp2_with fail
                refine (l06Clock_any c 23 _ (by unfold maxLen; omega)).mono ?_
                rintro e wd ⟨rfl, rfl⟩
                go_wp2
                go_ret
                exact ⟨ret_bool HN.out.symm, HB.out⟩
          · have h5I : ¬ (5 : Int) ≤ (c.length : Int) := by omega
            have HRc := hide (show R = fracS 3 c by rw [HY.out]; unfold timeS; rw [show hasSgn c = false by unfold hasSgn; simp [h5]]; rfl)
            clear HY
            go_wp2_with fail
            refine (dotAt_any c _ (by omega)).mono ?_
            rintro e wd ⟨rfl, rfl⟩
            have HKS := hide (dot_room c)
            have HKG := hide (Lib.indexByte_ge c 46)
            have HF := hide (HRc.out.trans (frac_spelt 3 c (by decide)))
            generalize Lib.indexByte c 46 = K at *
            by_cases hk0 : 0 ≤ K
            · have hkr := HKS.out hk0
              by_cases hk6 : K = 6
              · subst hk6
                exact absurd h5 (by omega)
              · have HN := hide (show R = false by rw [HF.out]; simp [hk0, hk6])
                have hk6B : (K != 6) = true := bne_iff_ne.2 hk6
                go_wp2
                go_ret
                exact ⟨ret_bool HN.out.symm, HB.out⟩
            · have HN := hide (show R = clk [23, 59, 59] c by rw [HF.out]; simp [hk0])
              have hkm : K = -1 := by have := HKG.out; omega
              subst hkm
              go_wp2_with fail
              refine (l06Clock_any c 23 _ (by unfold maxLen; omega)).mono ?_
              rintro e wd ⟨rfl, rfl⟩
              go_wp2
              go_ret
              exact ⟨ret_bool HN.out.symm, HB.out⟩
    · have h8I : (l.length : Int) < 8 := by omega
      have HN := hide (show R = false by rw [HR.out]; simp [timeB, h8])
      go_enter Tryz.func40, Tryz.ntmps40
      go_wp2_with fail
      refine (l06Version_any v _).mono ?_
      rintro e w1 ⟨rfl, rfl⟩
      rw [hv]
      clear hv
      go_wp2
      go_ret
      exact ⟨ret_bool HN.out.symm, Below.refl _ _⟩
end Go.Proofs.YtfjjbofnfigehaaGreatDoor
