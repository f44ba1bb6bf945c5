/- A time's zone and fraction taken off: of the program. -/
import Derived.Test.YtfjjbofnfigehaaGreatDoorXG10VTimeM
namespace Go.Proofs.YtfjjbofnfigehaaGreatDoor
open Go.RowKit
theorem allDigitsL_any (l : List UInt8) (w : World) :
    Calls Tryz.prog 87 #[.string ⟨l.toArray⟩] w fun e w' => e = .returned (.bool (allD l)) ∧ Below w.heap.size w w' := allDigits_any ⟨l.toArray⟩ w
theorem getD_at (l : List UInt8) (k : Nat) (h : k < l.length) : l.getD k 0 = l[k] := by
  rw [List.getD, List.getElem?_eq_getElem h]; rfl
set_option maxHeartbeats 4000000 in
set_option maxRecDepth 100000 in
theorem withoutZone_any (l : List UInt8) (w : World) (hl : l.length ≤ maxLen) (he : ErrsV w) :
    Calls Tryz.prog 90 #[.string ⟨l.toArray⟩] w fun e w' => e = .returned (.string ⟨(woZone l).toArray⟩) ∧ Below w.heap.size w w' := by
  unfold maxLen at hl
  have HE := hide he
  clear he
  by_cases h5 : 5 ≤ l.length
  · obtain ⟨p, hp⟩ : ∃ p : Nat, p = l.length - 5 := ⟨_, rfl⟩
    have hpI : ((l.length : Int) - 5) = (p : Int) := by omega
    have hlt : p < l.length := by omega
    have hg := get_dataV l p hlt
    have hsz : p < (⟨l.toArray⟩ : ByteArray).size := by simpa [ByteArray.size] using hlt
    have HG := hide (show hasSgn l = sgn l[p] by unfold hasSgn; rw [← hp, getD_at l p hlt]; simp [h5])
    have HZ := hide (show zoneOk l = (withinB (l.extract (p + 1) (p + 3)) 0 14 && withinB (l.extract (p + 3) l.length) 0 59) by unfold zoneOk; rw [show l.length - 4 = p + 1 by omega, show l.length - 2 = p + 3 by omega])
    have HW := hide (show woZone l = if hasSgn l && zoneOk l then l.take p else l by unfold woZone; rw [← hp])
    have HPL := hide (show p + 5 = l.length by omega)
    have q1 : p + 3 ≤ l.length := by omega
    have C0 := hide (fun Z hE => numberWithin_any (l.extract (p + 1) (p + 3)) 0 14 Z (by rw [List.extract_eq_take_drop, List.length_take]; omega) hE)
    have C1 := hide (fun Z hE => numberWithin_any (l.extract (p + 3) l.length) 0 59 Z (by rw [List.extract_eq_take_drop, List.length_take]; omega) hE)
    have hp0 : decide ((p : Int) < 0) = false := by simp
    clear hp h5
    by_cases hs : sgn l[p] = true
    · have hs' := hs
      simp only [sgn, Bool.or_eq_true, beq_iff_eq] at hs'
      rw [hs] at HG
      have hsg : ((l[p].toNat : Int) != 43) = false ∨ ((l[p].toNat : Int) != 43) = true ∧ ((l[p].toNat : Int) != 45) = false := by
        rcases hs' with e | e <;> rw [e] <;> decide
      clear hs hs'
      rcases hsg with g1 | ⟨g1, g2⟩
      · go_enter Tryz.func90, Tryz.ntmps90
        go_wp2_with fail
        rw [ext_of]
        refine (C0.out _ HE.out).mono ?_
        rintro e w1 ⟨rfl, hb⟩
        have HB1 := hide hb
        have HE1 := hide (HE.out.below hb HE.out.1)
        clear hb C0
        generalize withinB (l.extract (p + 1) (p + 3)) 0 14 = b0 at *
        generalize withinN (l.extract (p + 1) (p + 3)) 0 14 = n0 at *
        go_wp2_with fail
        rw [ext_of]
        refine (C1.out _ HE1.out).mono ?_
        rintro e w2 ⟨rfl, hb⟩
        have HB2 := hide (HB1.out.trans (hb.mono HB1.out.size))
        clear hb C1
        generalize withinB (l.extract (p + 3) l.length) 0 59 = b1 at *
        generalize withinN (l.extract (p + 3) l.length) 0 59 = n1 at *
        cases b0
        · have HN := hide (show woZone l = l by rw [HW.out, HG.out, HZ.out]; rfl)
          clear HW HZ
          go_wp2
          go_ret
          exact ⟨by rw [HN.out] <;> rfl, HB2.out⟩
        · cases b1
          · have HN := hide (show woZone l = l by rw [HW.out, HG.out, HZ.out]; rfl)
            clear HW HZ
            go_wp2
            go_ret
            exact ⟨by rw [HN.out] <;> rfl, HB2.out⟩
          · have HN := hide (show woZone l = l.take p by rw [HW.out, HG.out, HZ.out]; rfl)
            clear HW HZ
            go_wp2
            go_ret
            exact ⟨by rw [HN.out]; exact congrArg (fun b => Ending.returned (.string b)) (ext_takeV l p), HB2.out⟩
      · go_enter Tryz.func90, Tryz.ntmps90
        go_wp2_with fail
        rw [ext_of]
        refine (C0.out _ HE.out).mono ?_
        rintro e w1 ⟨rfl, hb⟩
        have HB1 := hide hb
        have HE1 := hide (HE.out.below hb HE.out.1)
        clear hb C0
        generalize withinB (l.extract (p + 1) (p + 3)) 0 14 = b0 at *
        generalize withinN (l.extract (p + 1) (p + 3)) 0 14 = n0 at *
        go_wp2_with fail
        rw [ext_of]
        refine (C1.out _ HE1.out).mono ?_
        rintro e w2 ⟨rfl, hb⟩
        have HB2 := hide (HB1.out.trans (hb.mono HB1.out.size))
        clear hb C1
        generalize withinB (l.extract (p + 3) l.length) 0 59 = b1 at *
        generalize withinN (l.extract (p + 3) l.length) 0 59 = n1 at *
        cases b0
        · have HN := hide (show woZone l = l by rw [HW.out, HG.out, HZ.out]; rfl)
          clear HW HZ
          go_wp2
          go_ret
          exact ⟨by rw [HN.out] <;> rfl, HB2.out⟩
        · cases b1
          · have HN := hide (show woZone l = l by rw [HW.out, HG.out, HZ.out]; rfl)
            clear HW HZ
            go_wp2
            go_ret
            exact ⟨by rw [HN.out] <;> rfl, HB2.out⟩
          · have HN := hide (show woZone l = l.take p by rw [HW.out, HG.out, HZ.out]; rfl)
            clear HW HZ
            go_wp2
            go_ret
            exact ⟨by rw [HN.out]; exact congrArg (fun b => Ending.returned (.string b)) (ext_takeV l p), HB2.out⟩
    · have hs' : sgn l[p] = false := by simpa using hs
      rw [hs'] at HG
      have HN := hide (show woZone l = l by rw [HW.out, HG.out]; rfl)
      have g1 : ((l[p].toNat : Int) != 43) = true := by
        have : ¬ l[p] = 43 := by intro e; rw [e] at hs'; simp [sgn] at hs'
        have h2 : ¬ l[p].toNat = 43 := fun e => this (UInt8.toNat_inj.1 e)
        simp; omega
      have g2 : ((l[p].toNat : Int) != 45) = true := by
        have : ¬ l[p] = 45 := by intro e; rw [e] at hs'; simp [sgn] at hs'
        have h2 : ¬ l[p].toNat = 45 := fun e => this (UInt8.toNat_inj.1 e)
        simp; omega
      clear hs hs' C0 C1
      go_enter Tryz.func90, Tryz.ntmps90
      go_wp2
      go_ret
      exact ⟨by rw [HN.out] <;> rfl, Below.refl _ _⟩
  · have hn : ((l.length : Int) - 5) < 0 := by omega
    have HN := hide (show woZone l = l by unfold woZone; rw [show hasSgn l = false by unfold hasSgn; simp [h5]]; rfl)
    go_enter Tryz.func90, Tryz.ntmps90
    go_wp2
    go_ret
    exact ⟨by rw [HN.out] <;> rfl, Below.refl _ _⟩
set_option maxHeartbeats 4000000 in
set_option maxRecDepth 100000 in
theorem withoutFraction_any (l : List UInt8) (w : World) (hl : l.length ≤ maxLen) :
    Calls Tryz.prog 91 #[.string ⟨l.toArray⟩] w fun e w' => e = .returned (.string ⟨(woFrac l).toArray⟩) ∧ Below w.heap.size w w' := by
  unfold maxLen at hl
  by_cases h6 : 6 < l.length
  · have hg := get_dataV l 6 h6
    have hsz : 6 < (⟨l.toArray⟩ : ByteArray).size := by simpa [ByteArray.size] using h6
    have h6I : ¬ (l.length : Int) ≤ 6 := by omega
    have HW := hide (show woFrac l = if (l[6] == 46) && (allD (l.drop 7) && decide ((l.drop 7).length ≤ 4)) then l.take 6 else l by unfold woFrac; rw [getD_at l 6 h6]; simp [h6])
    by_cases hd : l[6] = 46
    · have g1 : ((l[6].toNat : Int) != 46) = false := by rw [hd]; decide
      have HB := hide (show (l[6] == 46) = true by rw [hd]; rfl)
      have hdl : (l.drop 7).length = l.length - 7 := List.length_drop
      clear hd
      go_enter Tryz.func91, Tryz.ntmps91
      go_wp2_with fail
      rw [ext_dropV]
      refine (allDigitsL_any (l.drop 7) _).mono ?_
      rintro e w1 ⟨rfl, hb⟩
      have HBb := hide hb
      clear hb
      cases ha : allD (l.drop 7)
      · have HN := hide (show woFrac l = l by rw [HW.out, ha]; simp)
        clear ha
        go_wp2
        go_ret
        exact ⟨by rw [HN.out] <;> rfl, HBb.out⟩
      · by_cases h4 : (l.drop 7).length ≤ 4
        · have HN := hide (show woFrac l = l.take 6 by rw [HW.out, ha, HB.out]; simp only [h4]; rfl)
          have h4I : ¬ 4 < ((l.length - 7 : Nat) : Int) := by omega
          have h4J : ¬ 4 < (l.drop 7).length := by omega
          clear ha
          go_wp2
          go_ret
          exact ⟨by rw [HN.out]; exact congrArg (fun b => Ending.returned (.string b)) (ext_takeV l 6), HBb.out⟩
        · have HN := hide (show woFrac l = l by rw [HW.out, ha]; simp only [h4]; simp)
          have h4I : 4 < ((l.length - 7 : Nat) : Int) := by omega
          have h4J : 4 < (l.drop 7).length := by omega
          clear ha
          go_wp2
          go_ret
          exact ⟨by rw [HN.out] <;> rfl, HBb.out⟩
    · have g1 : ((l[6].toNat : Int) != 46) = true := by
        have h2 : ¬ l[6].toNat = 46 := fun e => hd (UInt8.toNat_inj.1 e)
        simp; omega
      have HN := hide (show woFrac l = l by rw [HW.out, show (l[6] == 46) = false by simpa using hd]; rfl)
      clear hd
      go_enter Tryz.func91, Tryz.ntmps91
      go_wp2
      go_ret
      exact ⟨by rw [HN.out] <;> rfl, Below.refl _ _⟩
  · have hn : (l.length : Int) ≤ 6 := by omega
    have HN := hide (show woFrac l = l by unfold woFrac; simp [h6])
    go_enter Tryz.func91, Tryz.ntmps91
    go_wp2
    go_ret
    exact ⟨by rw [HN.out] <;> rfl, Below.refl _ _⟩
end Go.Proofs.YtfjjbofnfigehaaGreatDoor
/- A clock of the model. -/
namespace Go.Proofs.YtfjjbofnfigehaaGreatDoor
open Go.RowKit
theorem clk_len : ∀ (ms : List Nat) (l : List UInt8), clk ms l = true → l.length % 2 = 0 ∧ l.length ≤ 2 * ms.length
  | [], l, h => by
    cases l with
    | nil => simp
    | cons b r => simp [clk] at h
  | m :: ms, l, h => by
    unfold clk at h
    by_cases h0 : l.isEmpty = true
    · cases l with
      | nil => simp
      | cons b r => simp at h0
    · rw [if_neg h0] at h
      split at h
      · simp at h
      · simp only [Bool.and_eq_true] at h
        have ih := clk_len ms _ h.2
        rw [List.length_drop] at ih
        rw [List.length_cons]
        omega
theorem clk_num (m : Nat) (ms : List Nat) (l : List UInt8) (k : Nat) (hd : digL l = true) (hk : k + 2 ≤ l.length) : clk (m :: ms) (l.drop k) = (decide (numL (l.extract k (k + 2)) ≤ m) && clk ms (l.drop (k + 2))) := by
  rw [clk_step m ms _ (by rw [List.length_drop]; omega), List.drop_drop]
  congr 1
  have e : (l.drop k).take 2 = l.extract k (k + 2) := by rw [List.extract_eq_take_drop, Nat.add_sub_cancel_left]
  rw [e]
  unfold withinB
  rw [allD_of _ (by rw [len_ext l k (k + 2) hk (by omega)]; omega), digL_ext l k (k + 2) hd]
  simp
theorem len_parts (n : Nat) : n = 0 ∨ n = 2 ∨ n = 4 ∨ n = 6 ∨ (¬ n = 0 ∧ ¬ n = 2 ∧ ¬ n = 4 ∧ ¬ n = 6 ∧ ¬ (n % 2 = 0 ∧ n ≤ 2 * 3)) := by omega
set_option maxHeartbeats 4000000 in
set_option maxRecDepth 100000 in
theorem l06Clock_any (l : List UInt8) (H : Nat) (w : World) (hl : l.length ≤ maxLen) :
    Calls Tryz.prog 68 #[.string ⟨l.toArray⟩, .int .i64 (H : Int)] w fun e w' => e = .returned (.bool (clk [H, 59, 59] l)) ∧ w' = w := by
  have hl' := hide hl
  unfold maxLen at hl
  obtain ⟨R, hR⟩ : ∃ R, R = clk [H, 59, 59] l := ⟨_, rfl⟩
  rw [← hR]
  have HR := hide hR
  clear hR
  cases hd : digL l
  · have HN := hide (show R = false by
      rw [HR.out]
      cases hc : clk [H, 59, 59] l
      · rfl
      · rw [clk_dig _ _ hc] at hd; simp at hd)
    go_enter Tryz.func68, Tryz.ntmps68
    go_wp2_with fail
    refine (l06Digits_any l _ hl'.out).mono ?_
    rintro e w1 ⟨rfl, rfl⟩
    rw [hd]
    clear hd
    go_wp2
    go_ret
    exact ⟨ret_bool HN.out.symm, rfl⟩
  · have HD := hide hd
    rcases len_parts l.length with h | h | h | h | ⟨h0, h2, h4, h6, hbad⟩
    · have HR0 := hide (show R = clk [H, 59, 59] (l.drop 0) from HR.out)
      have f0 : ((l.length : Int) != 0) = false := by rw [h]; decide
      have hlI : (l.length : Int) = 0 := by omega
      go_enter Tryz.func68, Tryz.ntmps68
      go_wp2_with fail
      refine (l06Digits_any l _ hl'.out).mono ?_
      rintro e w1 ⟨rfl, rfl⟩
      rw [hd]
      go_wp2_with fail
      go_loop [5] (fun i => ∃ k : Nat, i = .int .i64 (k : Int) ∧ Hid ((k = 0 ∧ R = clk [H, 59, 59] (l.drop 0)))) (fun i => 8 - (intOf i).toNat)
      case atStart => exact ⟨0, rfl, ⟨rfl, HR0.out⟩⟩
      case round =>
        obtain ⟨k, rfl, HK⟩ := hrel
        obtain ⟨rfl, hr⟩ := HK.out
        have HN := hide (show R = true by rw [hr, List.drop_eq_nil_of_le (by omega)]; exact clk_nil _)
        clear HK hr
        go_wp2
        go_ret
        exact ⟨ret_bool HN.out.symm, rfl⟩
    · have HR0 := hide (show R = clk [H, 59, 59] (l.drop 0) from HR.out)
      have f0 : ((l.length : Int) != 0) = true := by rw [h]; decide
      have f2 : ((l.length : Int) != 2) = false := by rw [h]; decide
      have hlI : (l.length : Int) = 2 := by omega
      go_enter Tryz.func68, Tryz.ntmps68
      go_wp2_with fail
      refine (l06Digits_any l _ hl'.out).mono ?_
      rintro e w1 ⟨rfl, rfl⟩
      rw [hd]
      go_wp2_with fail
      go_loop [5] (fun i => ∃ k : Nat, i = .int .i64 (k : Int) ∧ Hid ((k = 0 ∧ R = clk [H, 59, 59] (l.drop 0)) ∨ (k = 2 ∧ R = clk [59, 59] (l.drop 2)))) (fun i => 8 - (intOf i).toNat)
      case atStart => exact ⟨0, rfl, .inl ⟨rfl, HR0.out⟩⟩
      case round =>
        obtain ⟨k, rfl, HK⟩ := hrel
        rcases HK.out with ⟨rfl, hr⟩ | ⟨rfl, hr⟩
        · have HY := hide (hr.trans (clk_num H [59, 59] l 0 HD.out (by omega)))
          clear HK hr
          have C := hide (fun Z => l06Num_any (l.extract 0 2) Z (by rw [len_ext l 0 2 (by omega) (by omega)]; decide) (digL_ext l 0 2 HD.out))
          go_wp2_with fail
          rw [ext_of]
          refine (C.out _).mono ?_
          rintro e w2 ⟨rfl, rfl⟩
          clear C
          generalize numL (l.extract 0 2) = N at *
          by_cases hN : N ≤ H
          · have HN := hide (show R = clk [59, 59] (l.drop 2) by rw [HY.out]; simp [hN])
            have hNI : ¬ ((H : Int) < (N : Int)) := by omega
            clear HY hN
            go_wp2
            go_round
            case rel => exact ⟨2, rfl, .inr (⟨rfl, HN.out⟩)⟩
            case measure => simp [intOf]
          · have HN := hide (show R = false by rw [HY.out]; simp [hN])
            have hNI : (H : Int) < (N : Int) := by omega
            clear HY hN
            go_wp2
            go_ret
            exact ⟨ret_bool HN.out.symm, rfl⟩
        · have HN := hide (show R = true by rw [hr, List.drop_eq_nil_of_le (by omega)]; exact clk_nil _)
          clear HK hr
          go_wp2
          go_ret
          exact ⟨ret_bool HN.out.symm, rfl⟩
    · have HR0 := hide (show R = clk [H, 59, 59] (l.drop 0) from HR.out)
      have f0 : ((l.length : Int) != 0) = true := by rw [h]; decide
      have f2 : ((l.length : Int) != 2) = true := by rw [h]; decide
      have f4 : ((l.length : Int) != 4) = false := by rw [h]; decide
      have hlI : (l.length : Int) = 4 := by omega
      go_enter Tryz.func68, Tryz.ntmps68
      go_wp2_with fail
      refine (l06Digits_any l _ hl'.out).mono ?_
      rintro e w1 ⟨rfl, rfl⟩
      rw [hd]
      go_wp2_with fail
      go_loop [5] (fun i => ∃ k : Nat, i = .int .i64 (k : Int) ∧ Hid ((k = 0 ∧ R = clk [H, 59, 59] (l.drop 0)) ∨ (k = 2 ∧ R = clk [59, 59] (l.drop 2)) ∨ (k = 4 ∧ R = clk [59] (l.drop 4)))) (fun i => 8 - (intOf i).toNat)
      case atStart => exact ⟨0, rfl, .inl ⟨rfl, HR0.out⟩⟩
      case round =>
        obtain ⟨k, rfl, HK⟩ := hrel
        rcases HK.out with ⟨rfl, hr⟩ | ⟨rfl, hr⟩ | ⟨rfl, hr⟩
        · have HY := hide (hr.trans (clk_num H [59, 59] l 0 HD.out (by omega)))
          clear HK hr
          have C := hide (fun Z => l06Num_any (l.extract 0 2) Z (by rw [len_ext l 0 2 (by omega) (by omega)]; decide) (digL_ext l 0 2 HD.out))
          go_wp2_with fail
          rw [ext_of]
          refine (C.out _).mono ?_
          rintro e w2 ⟨rfl, rfl⟩
          clear C
          generalize numL (l.extract 0 2) = N at *
          by_cases hN : N ≤ H
          · have HN := hide (show R = clk [59, 59] (l.drop 2) by rw [HY.out]; simp [hN])
            have hNI : ¬ ((H : Int) < (N : Int)) := by omega
            clear HY hN
            go_wp2
            go_round
            case rel => exact ⟨2, rfl, .inr (.inl ⟨rfl, HN.out⟩)⟩
            case measure => simp [intOf]
          · have HN := hide (show R = false by rw [HY.out]; simp [hN])
            have hNI : (H : Int) < (N : Int) := by omega
            clear HY hN
            go_wp2
            go_ret
            exact ⟨ret_bool HN.out.symm, rfl⟩
        · have HY := hide (hr.trans (clk_num 59 [59] l 2 HD.out (by omega)))
          clear HK hr
          have C := hide (fun Z => l06Num_any (l.extract 2 4) Z (by rw [len_ext l 2 4 (by omega) (by omega)]; decide) (digL_ext l 2 4 HD.out))
          go_wp2_with fail
          rw [ext_of]
          refine (C.out _).mono ?_
          rintro e w2 ⟨rfl, rfl⟩
          clear C
          generalize numL (l.extract 2 4) = N at *
          by_cases hN : N ≤ 59
          · have HN := hide (show R = clk [59] (l.drop 4) by rw [HY.out]; simp [hN])
            have hNI : ¬ ((59 : Int) < (N : Int)) := by omega
            clear HY hN
            go_wp2
            go_round
            case rel => exact ⟨4, rfl, .inr (.inr (⟨rfl, HN.out⟩))⟩
            case measure => simp [intOf]
          · have HN := hide (show R = false by rw [HY.out]; simp [hN])
            have hNI : (59 : Int) < (N : Int) := by omega
            clear HY hN
            go_wp2
            go_ret
            exact ⟨ret_bool HN.out.symm, rfl⟩
        · have HN := hide (show R = true by rw [hr, List.drop_eq_nil_of_le (by omega)]; exact clk_nil _)
          clear HK hr
          go_wp2
          go_ret
          exact ⟨ret_bool HN.out.symm, rfl⟩
    · have HR0 := hide (show R = clk [H, 59, 59] (l.drop 0) from HR.out)
      have f0 : ((l.length : Int) != 0) = true := by rw [h]; decide
      have f2 : ((l.length : Int) != 2) = true := by rw [h]; decide
      have f4 : ((l.length : Int) != 4) = true := by rw [h]; decide
      have f6 : ((l.length : Int) != 6) = false := by rw [h]; decide
      have hlI : (l.length : Int) = 6 := by omega
      go_enter Tryz.func68, Tryz.ntmps68
      go_wp2_with fail
      refine (l06Digits_any l _ hl'.out).mono ?_
      rintro e w1 ⟨rfl, rfl⟩
      rw [hd]
      go_wp2_with fail
      go_loop [5] (fun i => ∃ k : Nat, i = .int .i64 (k : Int) ∧ Hid ((k = 0 ∧ R = clk [H, 59, 59] (l.drop 0)) ∨ (k = 2 ∧ R = clk [59, 59] (l.drop 2)) ∨ (k = 4 ∧ R = clk [59] (l.drop 4)) ∨ (k = 6 ∧ R = clk [] (l.drop 6)))) (fun i => 8 - (intOf i).toNat)
      case atStart => exact ⟨0, rfl, .inl ⟨rfl, HR0.out⟩⟩
      case round =>
        obtain ⟨k, rfl, HK⟩ := hrel
        rcases HK.out with ⟨rfl, hr⟩ | ⟨rfl, hr⟩ | ⟨rfl, hr⟩ | ⟨rfl, hr⟩
        · have HY := hide (hr.trans (clk_num H [59, 59] l 0 HD.out (by omega)))
          clear HK hr
          have C := hide (fun Z => l06Num_any (l.extract 0 2) Z (by rw [len_ext l 0 2 (by omega) (by omega)]; decide) (digL_ext l 0 2 HD.out))
          go_wp2_with fail
          rw [ext_of]
          refine (C.out _).mono ?_
          rintro e w2 ⟨rfl, rfl⟩
          clear C
          generalize numL (l.extract 0 2) = N at *
          by_cases hN : N ≤ H
          · have HN := hide (show R = clk [59, 59] (l.drop 2) by rw [HY.out]; simp [hN])
            have hNI : ¬ ((H : Int) < (N : Int)) := by omega
            clear HY hN
            go_wp2
            go_round
            case rel => exact ⟨2, rfl, .inr (.inl ⟨rfl, HN.out⟩)⟩
            case measure => simp [intOf]
          · have HN := hide (show R = false by rw [HY.out]; simp [hN])
            have hNI : (H : Int) < (N : Int) := by omega
            clear HY hN
            go_wp2
            go_ret
            exact ⟨ret_bool HN.out.symm, rfl⟩
        · have HY := hide (hr.trans (clk_num 59 [59] l 2 HD.out (by omega)))
          clear HK hr
          have C := hide (fun Z => l06Num_any (l.extract 2 4) Z (by rw [len_ext l 2 4 (by omega) (by omega)]; decide) (digL_ext l 2 4 HD.out))
          go_wp2_with fail
          rw [ext_of]
          refine (C.out _).mono ?_
          rintro e w2 ⟨rfl, rfl⟩
          clear C
          generalize numL (l.extract 2 4) = N at *
          by_cases hN : N ≤ 59
          · have HN := hide (show R = clk [59] (l.drop 4) by rw [HY.out]; simp [hN])
            have hNI : ¬ ((59 : Int) < (N : Int)) := by omega
            clear HY hN
            go_wp2
            go_round
            case rel => exact ⟨4, rfl, .inr (.inr (.inl ⟨rfl, HN.out⟩))⟩
            case measure => simp [intOf]
          · have HN := hide (show R = false by rw [HY.out]; simp [hN])
            have hNI : (59 : Int) < (N : Int) := by omega
            clear HY hN
            go_wp2
            go_ret
            exact ⟨ret_bool HN.out.symm, rfl⟩
        · have HY := hide (hr.trans (clk_num 59 [] l 4 HD.out (by omega)))
          clear HK hr
          have C := hide (fun Z => l06Num_any (l.extract 4 6) Z (by rw [len_ext l 4 6 (by omega) (by omega)]; decide) (digL_ext l 4 6 HD.out))
          go_wp2_with fail
          rw [ext_of]
          refine (C.out _).mono ?_
          rintro e w2 ⟨rfl, rfl⟩
          clear C
          generalize numL (l.extract 4 6) = N at *
          by_cases hN : N ≤ 59
          · have HN := hide (show R = clk [] (l.drop 6) by rw [HY.out]; simp [hN])
            have hNI : ¬ ((59 : Int) < (N : Int)) := by omega
            clear HY hN
            go_wp2
            go_round
            case rel => exact ⟨6, rfl, .inr (.inr (.inr (⟨rfl, HN.out⟩)))⟩
            case measure => simp [intOf]
          · have HN := hide (show R = false by rw [HY.out]; simp [hN])
            have hNI : (59 : Int) < (N : Int) := by omega
            clear HY hN
            go_wp2
            go_ret
            exact ⟨ret_bool HN.out.symm, rfl⟩
        · have HN := hide (show R = true by rw [hr, List.drop_eq_nil_of_le (by omega)]; exact clk_nil _)
          clear HK hr
          go_wp2
          go_ret
          exact ⟨ret_bool HN.out.symm, rfl⟩
    · have HN := hide (show R = false by
        rw [HR.out]
        cases hc : clk [H, 59, 59] l
        · rfl
        · exact absurd (clk_len _ _ hc) hbad)
      have f0 : ((l.length : Int) != 0) = true := bne_iff_ne.2 (by omega)
      have f2 : ((l.length : Int) != 2) = true := bne_iff_ne.2 (by omega)
      have f4 : ((l.length : Int) != 4) = true := bne_iff_ne.2 (by omega)
      have f6 : ((l.length : Int) != 6) = true := bne_iff_ne.2 (by omega)
      clear h0 h2 h4 h6 hbad
      go_enter Tryz.func68, Tryz.ntmps68
      go_wp2_with fail
      refine (l06Digits_any l _ hl'.out).mono ?_
      rintro e w1 ⟨rfl, rfl⟩
      rw [hd]
      clear hd
      go_wp2
      go_ret
      exact ⟨ret_bool HN.out.symm, rfl⟩
end Go.Proofs.YtfjjbofnfigehaaGreatDoor
