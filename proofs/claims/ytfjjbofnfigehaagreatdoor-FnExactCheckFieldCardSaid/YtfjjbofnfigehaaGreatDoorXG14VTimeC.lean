/- A clock, a zone, a fraction: of the program; a clock of the model. -/
import Derived.Test.YtfjjbofnfigehaaGreatDoorXG13VDayI
namespace Go.Proofs.YtfjjbofnfigehaaGreatDoor
open Go.RowKit
theorem ext_takeV (l : List UInt8) (k : Nat) : (⟨l.toArray⟩ : ByteArray).extract 0 k = ⟨(l.take k).toArray⟩ := by
  rw [ext_of, List.extract_eq_take_drop, List.drop_zero, Nat.sub_zero]
theorem ext_dropV (l : List UInt8) (k : Nat) : (⟨l.toArray⟩ : ByteArray).extract k l.length = ⟨(l.drop k).toArray⟩ := by
  rw [ext_of, List.extract_eq_take_drop, List.take_of_length_le (by rw [List.length_drop]; omega)]
theorem clk_nil (ms : List Nat) : clk ms [] = true := by cases ms <;> rfl
theorem clk_one (m : Nat) (ms : List Nat) (l : List UInt8) (h0 : ¬ l = []) (h : l.length < 2) : clk (m :: ms) l = false := by
  unfold clk
  rw [if_neg (by simpa using h0), if_pos h]
theorem clk_step (m : Nat) (ms : List Nat) (l : List UInt8) (h : ¬ l.length < 2) : clk (m :: ms) l = (withinB (l.take 2) 0 m && clk ms (l.drop 2)) := by
  rw [clk]
  rw [if_neg (by cases l with | nil => simp at h | cons b r => simp), if_neg h]
def limC : List Nat := [23, 59, 59]
set_option maxHeartbeats 2000000 in
set_option maxRecDepth 100000 in
theorem clockRight_any (l : List UInt8) (w : World) (hl : l.length ≤ maxLen) (he : ErrsV w) :
    Calls Tryz.prog 92 #[.string ⟨l.toArray⟩] w fun e w' => e = .returned (.bool (clk [23, 59, 59] l)) ∧ Below w.heap.size w w' := by
  unfold maxLen at hl
  obtain ⟨R, hR⟩ : ∃ R, R = clk [23, 59, 59] l := ⟨_, rfl⟩
  rw [← hR]
  have HR := hide hR
  have HE := hide he
  clear hR he
  have i0 : ∀ w, (Instr.index 119 (.agg #[.int .u64 23, .int .u64 59, .int .u64 59]) (.int .i64 0)).run Tryz.prog w = .ok (.int .u64 23) w := fun _ => by kernel_rfl
  have i1 : ∀ w, (Instr.index 119 (.agg #[.int .u64 23, .int .u64 59, .int .u64 59]) (.int .i64 1)).run Tryz.prog w = .ok (.int .u64 59) w := fun _ => by kernel_rfl
  have i2 : ∀ w, (Instr.index 119 (.agg #[.int .u64 23, .int .u64 59, .int .u64 59]) (.int .i64 2)).run Tryz.prog w = .ok (.int .u64 59) w := fun _ => by kernel_rfl
  go_enter Tryz.func92, Tryz.ntmps92
  go_wp2
  go_loopw [0, 8] (fun t i wr => ∃ (X : World) (k : Nat) (y : List UInt8), X = wr ∧ i = .int .i64 (k : Int) ∧ t = .string ⟨y.toArray⟩ ∧ y.length ≤ 2 ^ 63 - 1 ∧ Hid (k = 0 ∧ R = clk [23, 59, 59] y ∨ k = 1 ∧ R = clk [59, 59] y ∨ k = 2 ∧ R = clk [59] y ∨ k = 3 ∧ R = clk [] y) ∧ Hid (Below w.heap.size w X) ∧ Hid (ErrsV X)) (fun _ i _ => 3 - (intOf i).toNat)
  case atStart => exact ⟨_, 0, l, rfl, rfl, rfl, hl, .inl ⟨rfl, HR.out⟩, Below.refl _ _, HE⟩
  case round =>
    obtain ⟨X, k, y, rfl, rfl, rfl, hy, HK, HB, HX⟩ := hrel
    have e0 := toList_of y
    have hyz : (⟨y.toArray⟩ : ByteArray).size = y.length := by simp [ByteArray.size]
    rcases HK.out with ⟨rfl, h⟩ | ⟨rfl, h⟩ | ⟨rfl, h⟩ | ⟨rfl, h⟩
    · have HC := hide h
      clear HK h
      cases hn : y == []
      · have hne : ¬ y = [] := by simpa using hn
        by_cases h2 : y.length < 2
        · have HZ := hide (show R = false by rw [HC.out]; exact clk_one 23 [59, 59] y hne h2)
          have h2i : (y.length : Int) < 2 := by omega
          clear hne
          go_wp2
          go_ret
          exact ⟨ret_bool HZ.out.symm, HB.out⟩
        · have HS := hide (show R = (withinB (y.take 2) 0 23 && clk [59, 59] (y.drop 2)) by rw [HC.out]; exact clk_step 23 [59, 59] y h2)
          have C0 := hide (fun Z hE => numberWithin_any (y.take 2) 0 23 Z (by rw [List.length_take]; omega) hE)
          have h2i : ¬ (y.length : Int) < 2 := by omega
          have HDL := hide (show (y.drop 2).length ≤ 2 ^ 63 - 1 by rw [List.length_drop]; omega)
          have HM := hide (show (3 - ((0 : Nat) + 1) : Nat) < 3 - (0 : Nat) by decide)
          clear hne
          go_wp2_with fail
          rw [ext_takeV]
          refine (C0.out _ HX.out).mono ?_
          rintro e w1 ⟨rfl, hb⟩
          have HB1 := hide (HB.out.trans (hb.mono HB.out.size))
          have HX1 := hide (HX.out.below hb HX.out.1)
          clear hb C0
          generalize withinN (y.take 2) 0 23 = N at *
          cases hw : withinB (y.take 2) 0 23
          · have HZ := hide (show R = false by rw [HS.out, hw]; rfl)
            clear hw
            go_wp2
            go_ret
            exact ⟨ret_bool HZ.out.symm, HB1.out⟩
          · have HN := hide (show R = clk [59, 59] (y.drop 2) by rw [HS.out, hw]; rfl)
            clear hw
            go_wp2
            go_roundw
            case rel => exact ⟨_, 1, y.drop 2, rfl, rfl, by rw [← ext_dropV], HDL.out, .inr (.inl ⟨rfl, HN.out⟩), HB1, HX1⟩
            case measure => simp [intOf]
      · have HZ := hide (show R = true by rw [HC.out, show y = [] by simpa using hn]; exact clk_nil _)
        go_wp2
        go_ret
        exact ⟨ret_bool HZ.out.symm, HB.out⟩
    · have HC := hide h
      clear HK h
      cases hn : y == []
      · have hne : ¬ y = [] := by simpa using hn
        by_cases h2 : y.length < 2
        · have HZ := hide (show R = false by rw [HC.out]; exact clk_one 59 [59] y hne h2)
          have h2i : (y.length : Int) < 2 := by omega
          clear hne
          go_wp2
          go_ret
          exact ⟨ret_bool HZ.out.symm, HB.out⟩
        · have HS := hide (show R = (withinB (y.take 2) 0 59 && clk [59] (y.drop 2)) by rw [HC.out]; exact clk_step 59 [59] y h2)
          have C0 := hide (fun Z hE => numberWithin_any (y.take 2) 0 59 Z (by rw [List.length_take]; omega) hE)
          have h2i : ¬ (y.length : Int) < 2 := by omega
          have HDL := hide (show (y.drop 2).length ≤ 2 ^ 63 - 1 by rw [List.length_drop]; omega)
          have HM := hide (show (3 - ((1 : Nat) + 1) : Nat) < 3 - (1 : Nat) by decide)
          clear hne
          go_wp2_with fail
          rw [ext_takeV]
          refine (C0.out _ HX.out).mono ?_
          rintro e w1 ⟨rfl, hb⟩
          have HB1 := hide (HB.out.trans (hb.mono HB.out.size))
          have HX1 := hide (HX.out.below hb HX.out.1)
          clear hb C0
          generalize withinN (y.take 2) 0 59 = N at *
          cases hw : withinB (y.take 2) 0 59
          · have HZ := hide (show R = false by rw [HS.out, hw]; rfl)
            clear hw
            go_wp2
            go_ret
            exact ⟨ret_bool HZ.out.symm, HB1.out⟩
          · have HN := hide (show R = clk [59] (y.drop 2) by rw [HS.out, hw]; rfl)
            clear hw
            go_wp2
            go_roundw
            case rel => exact ⟨_, 2, y.drop 2, rfl, rfl, by rw [← ext_dropV], HDL.out, .inr (.inr (.inl ⟨rfl, HN.out⟩)), HB1, HX1⟩
            case measure => simp [intOf]
      · have HZ := hide (show R = true by rw [HC.out, show y = [] by simpa using hn]; exact clk_nil _)
        go_wp2
        go_ret
        exact ⟨ret_bool HZ.out.symm, HB.out⟩
    · have HC := hide h
      clear HK h
      cases hn : y == []
      · have hne : ¬ y = [] := by simpa using hn
        by_cases h2 : y.length < 2
        · have HZ := hide (show R = false by rw [HC.out]; exact clk_one 59 [] y hne h2)
          have h2i : (y.length : Int) < 2 := by omega
          clear hne
          go_wp2
          go_ret
          exact ⟨ret_bool HZ.out.symm, HB.out⟩
        · have HS := hide (show R = (withinB (y.take 2) 0 59 && clk [] (y.drop 2)) by rw [HC.out]; exact clk_step 59 [] y h2)
          have C0 := hide (fun Z hE => numberWithin_any (y.take 2) 0 59 Z (by rw [List.length_take]; omega) hE)
          have h2i : ¬ (y.length : Int) < 2 := by omega
          have HDL := hide (show (y.drop 2).length ≤ 2 ^ 63 - 1 by rw [List.length_drop]; omega)
          have HM := hide (show (3 - ((2 : Nat) + 1) : Nat) < 3 - (2 : Nat) by decide)
          clear hne
          go_wp2_with fail
          rw [ext_takeV]
          refine (C0.out _ HX.out).mono ?_
          rintro e w1 ⟨rfl, hb⟩
          have HB1 := hide (HB.out.trans (hb.mono HB.out.size))
          have HX1 := hide (HX.out.below hb HX.out.1)
          clear hb C0
          generalize withinN (y.take 2) 0 59 = N at *
          cases hw : withinB (y.take 2) 0 59
          · have HZ := hide (show R = false by rw [HS.out, hw]; rfl)
            clear hw
            go_wp2
            go_ret
            exact ⟨ret_bool HZ.out.symm, HB1.out⟩
          · have HN := hide (show R = clk [] (y.drop 2) by rw [HS.out, hw]; rfl)
            clear hw
            go_wp2
            go_roundw
            case rel => exact ⟨_, 3, y.drop 2, rfl, rfl, by rw [← ext_dropV], HDL.out, .inr (.inr (.inr ⟨rfl, HN.out⟩)), HB1, HX1⟩
            case measure => simp [intOf]
      · have HZ := hide (show R = true by rw [HC.out, show y = [] by simpa using hn]; exact clk_nil _)
        go_wp2
        go_ret
        exact ⟨ret_bool HZ.out.symm, HB.out⟩
    · have HN := hide h
      clear HK h
      cases hn : y == []
      · have HZ := hide (show R = false by rw [HN.out]; unfold clk; cases y with | nil => simp at hn | cons b r => rfl)
        go_wp2
        go_ret
        exact ⟨ret_bool HZ.out.symm, HB.out⟩
      · have HZ := hide (show R = true by rw [HN.out, show y = [] by simpa using hn]; rfl)
        go_wp2
        go_ret
        exact ⟨ret_bool HZ.out.symm, HB.out⟩
end Go.Proofs.YtfjjbofnfigehaaGreatDoor
/- A time's zone and fraction taken off: of the program. -/
namespace Go.Proofs.YtfjjbofnfigehaaGreatDoor
open Go.RowKit
theorem allDigitsL_any (l : List UInt8) (w : World) :
    Calls Tryz.prog 87 #[.string ⟨l.toArray⟩] w fun e w' => e = .returned (.bool (allD l)) ∧ Below w.heap.size w w' := allDigits_any ⟨l.toArray⟩ w
theorem getD_at (l : List UInt8) (k : Nat) (h : k < l.length) : l.getD k 0 = l[k] := by
  rw [List.getD, List.getElem?_eq_getElem h]; rfl
set_option maxHeartbeats 4000000 in
set_option maxRecDepth 100000 in
theorem withoutZone_any (l : List UInt8) (w : World) (hl : l.length ≤ maxLen) (he : ErrsV w) :
    Calls Tryz.prog 90 #[.string ⟨l.toArray⟩] w fun e w' => e = .returned (.string ⟨(woZone l).toArray⟩) ∧ Below w.heap.size w w' := by
  unfold maxLen at hl
  have HE := hide he
  clear he
  by_cases h5 : 5 ≤ l.length
  · obtain ⟨p, hp⟩ : ∃ p : Nat, p = l.length - 5 := ⟨_, rfl⟩
    have hpI : ((l.length : Int) - 5) = (p : Int) := by omega
    have hlt : p < l.length := by omega
    have hg := get_dataV l p hlt
    have hsz : p < (⟨l.toArray⟩ : ByteArray).size := by simpa [ByteArray.size] using hlt
    have HG := hide (show hasSgn l = sgn l[p] by unfold hasSgn; rw [← hp, getD_at l p hlt]; simp [h5])
    have HZ := hide (show zoneOk l = (withinB (l.extract (p + 1) (p + 3)) 0 14 && withinB (l.extract (p + 3) l.length) 0 59) by unfold zoneOk; rw [show l.length - 4 = p + 1 by omega, show l.length - 2 = p + 3 by omega])
    have HW := hide (show woZone l = if hasSgn l && zoneOk l then l.take p else l by unfold woZone; rw [← hp])
    have HPL := hide (show p + 5 = l.length by omega)
    have q1 : p + 3 ≤ l.length := by omega
    have C0 := hide (fun Z hE => numberWithin_any (l.extract (p + 1) (p + 3)) 0 14 Z (by rw [List.extract_eq_take_drop, List.length_take]; omega) hE)
    have C1 := hide (fun Z hE => numberWithin_any (l.extract (p + 3) l.length) 0 59 Z (by rw [List.extract_eq_take_drop, List.length_take]; omega) hE)
    have hp0 : decide ((p : Int) < 0) = false := by simp
    clear hp h5
    by_cases hs : sgn l[p] = true
    · have hs' := hs
      simp only [sgn, Bool.or_eq_true, beq_iff_eq] at hs'
      rw [hs] at HG
      have hsg : ((l[p].toNat : Int) != 43) = false ∨ ((l[p].toNat : Int) != 43) = true ∧ ((l[p].toNat : Int) != 45) = false := by
        rcases hs' with e | e <;> rw [e] <;> decide
      clear hs hs'
      rcases hsg with g1 | ⟨g1, g2⟩
      · go_enter Tryz.func90, Tryz.ntmps90
        go_wp2_with fail
        rw [ext_of]
        refine (C0.out _ HE.out).mono ?_
        rintro e w1 ⟨rfl, hb⟩
        have HB1 := hide hb
        have HE1 := hide (HE.out.below hb HE.out.1)
        clear hb C0
        generalize withinB (l.extract (p + 1) (p + 3)) 0 14 = b0 at *
        generalize withinN (l.extract (p + 1) (p + 3)) 0 14 = n0 at *
        go_wp2_with fail
        rw [ext_of]
        refine (C1.out _ HE1.out).mono ?_
        rintro e w2 ⟨rfl, hb⟩
        have HB2 := hide (HB1.out.trans (hb.mono HB1.out.size))
        clear hb C1
        generalize withinB (l.extract (p + 3) l.length) 0 59 = b1 at *
        generalize withinN (l.extract (p + 3) l.length) 0 59 = n1 at *
        cases b0
        · have HN := hide (show woZone l = l by rw [HW.out, HG.out, HZ.out]; rfl)
          clear HW HZ
          go_wp2
          go_ret
          exact ⟨by rw [HN.out] <;> rfl, HB2.out⟩
        · cases b1
          · have HN := hide (show woZone l = l by rw [HW.out, HG.out, HZ.out]; rfl)
            clear HW HZ
            go_wp2
            go_ret
            exact ⟨by rw [HN.out] <;> rfl, HB2.out⟩
          · have HN := hide (show woZone l = l.take p by rw [HW.out, HG.out, HZ.out]; rfl)
            clear HW HZ
            go_wp2
            go_ret
            exact ⟨by rw [HN.out]; exact congrArg (fun b => Ending.returned (.string b)) (ext_takeV l p), HB2.out⟩
      · go_enter Tryz.func90, Tryz.ntmps90
        go_wp2_with fail
        rw [ext_of]
        refine (C0.out _ HE.out).mono ?_
        rintro e w1 ⟨rfl, hb⟩
        have HB1 := hide hb
        have HE1 := hide (HE.out.below hb HE.out.1)
        clear hb C0
        generalize withinB (l.extract (p + 1) (p + 3)) 0 14 = b0 at *
        generalize withinN (l.extract (p + 1) (p + 3)) 0 14 = n0 at *
        go_wp2_with fail
        rw [ext_of]
        refine (C1.out _ HE1.out).mono ?_
        rintro e w2 ⟨rfl, hb⟩
        have HB2 := hide (HB1.out.trans (hb.mono HB1.out.size))
        clear hb C1
        generalize withinB (l.extract (p + 3) l.length) 0 59 = b1 at *
        generalize withinN (l.extract (p + 3) l.length) 0 59 = n1 at *
        cases b0
        · have HN := hide (show woZone l = l by rw [HW.out, HG.out, HZ.out]; rfl)
          clear HW HZ
          go_wp2
          go_ret
          exact ⟨by rw [HN.out] <;> rfl, HB2.out⟩
        · cases b1
          · have HN := hide (show woZone l = l by rw [HW.out, HG.out, HZ.out]; rfl)
            clear HW HZ
            go_wp2
            go_ret
            exact ⟨by rw [HN.out] <;> rfl, HB2.out⟩
          · have HN := hide (show woZone l = l.take p by rw [HW.out, HG.out, HZ.out]; rfl)
            clear HW HZ
            go_wp2
            go_ret
            exact ⟨by rw [HN.out]; exact congrArg (fun b => Ending.returned (.string b)) (ext_takeV l p), HB2.out⟩
    · have hs' : sgn l[p] = false := by simpa using hs
      rw [hs'] at HG
      have HN := hide (show woZone l = l by rw [HW.out, HG.out]; rfl)
      have g1 : ((l[p].toNat : Int) != 43) = true := by
        have : ¬ l[p] = 43 := by intro e; rw [e] at hs'; simp [sgn] at hs'
        have h2 : ¬ l[p].toNat = 43 := fun e => this (UInt8.toNat_inj.1 e)
        simp; omega
      have g2 : ((l[p].toNat : Int) != 45) = true := by
        have : ¬ l[p] = 45 := by intro e; rw [e] at hs'; simp [sgn] at hs'
        have h2 : ¬ l[p].toNat = 45 := fun e => this (UInt8.toNat_inj.1 e)
        simp; omega
      clear hs hs' C0 C1
      go_enter Tryz.func90, Tryz.ntmps90
      go_wp2
      go_ret
      exact ⟨by rw [HN.out] <;> rfl, Below.refl _ _⟩
  · have hn : ((l.length : Int) - 5) < 0 := by omega
    have HN := hide (show woZone l = l by unfold woZone; rw [show hasSgn l = false by unfold hasSgn; simp [h5]]; rfl)
    go_enter Tryz.func90, Tryz.ntmps90
    go_wp2
    go_ret
    exact ⟨by rw [HN.out] <;> rfl, Below.refl _ _⟩
set_option maxHeartbeats 4000000 in
set_option maxRecDepth 100000 in
theorem withoutFraction_any (l : List UInt8) (w : World) (hl : l.length ≤ maxLen) :
    Calls Tryz.prog 91 #[.string ⟨l.toArray⟩] w fun e w' => e = .returned (.string ⟨(woFrac l).toArray⟩) ∧ Below w.heap.size w w' := by
  unfold maxLen at hl
  by_cases h6 : 6 < l.length
  · have hg := get_dataV l 6 h6
    have hsz : 6 < (⟨l.toArray⟩ : ByteArray).size := by simpa [ByteArray.size] using h6
    have h6I : ¬ (l.length : Int) ≤ 6 := by omega
    have HW := hide (show woFrac l = if (l[6] == 46) && (allD (l.drop 7) && decide ((l.drop 7).length ≤ 4)) then l.take 6 else l by unfold woFrac; rw [getD_at l 6 h6]; simp [h6])
    by_cases hd : l[6] = 46
    · have g1 : ((l[6].toNat : Int) != 46) = false := by rw [hd]; decide
      have HB := hide (show (l[6] == 46) = true by rw [hd]; rfl)
      have hdl : (l.drop 7).length = l.length - 7 := List.length_drop
      clear hd
      go_enter Tryz.func91, Tryz.ntmps91
      go_wp2_with fail
      rw [ext_dropV]
      refine (allDigitsL_any (l.drop 7) _).mono ?_
      rintro e w1 ⟨rfl, hb⟩
      have HBb := hide hb
      clear hb
      cases ha : allD (l.drop 7)
      · have HN := hide (show woFrac l = l by rw [HW.out, ha]; simp)
        clear ha
        go_wp2
        go_ret
        exact ⟨by rw [HN.out] <;> rfl, HBb.out⟩
      · by_cases h4 : (l.drop 7).length ≤ 4
        · have HN := hide (show woFrac l = l.take 6 by rw [HW.out, ha, HB.out]; simp only [h4]; rfl)
          have h4I : ¬ 4 < ((l.length - 7 : Nat) : Int) := by omega
          have h4J : ¬ 4 < (l.drop 7).length := by omega
          clear ha
          go_wp2
          go_ret
          exact ⟨by rw [HN.out]; exact congrArg (fun b => Ending.returned (.string b)) (ext_takeV l 6), HBb.out⟩
        · have HN := hide (show woFrac l = l by rw [HW.out, ha]; simp only [h4]; simp)
          have h4I : 4 < ((l.length - 7 : Nat) : Int) := by omega
          have h4J : 4 < (l.drop 7).length := by omega
          clear ha
          go_wp2
          go_ret
          exact ⟨by rw [HN.out] <;> rfl, HBb.out⟩
    · have g1 : ((l[6].toNat : Int) != 46) = true := by
        have h2 : ¬ l[6].toNat = 46 := fun e => hd (UInt8.toNat_inj.1 e)
        simp; omega
      have HN := hide (show woFrac l = l by rw [HW.out, show (l[6] == 46) = false by simpa using hd]; rfl)
      clear hd
      go_enter Tryz.func91, Tryz.ntmps91
      go_wp2
      go_ret
      exact ⟨by rw [HN.out] <;> rfl, Below.refl _ _⟩
  · have hn : (l.length : Int) ≤ 6 := by omega
    have HN := hide (show woFrac l = l by unfold woFrac; simp [h6])
    go_enter Tryz.func91, Tryz.ntmps91
    go_wp2
    go_ret
    exact ⟨by rw [HN.out] <;> rfl, Below.refl _ _⟩
end Go.Proofs.YtfjjbofnfigehaaGreatDoor
