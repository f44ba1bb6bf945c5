/- The law of ZSegments. -/
import Derived.Test.YtelhgpogfedchaaZSegS
import Derived.Test.YtelhgpogfedchaaFLMsg
import Derived.Deep.DeepCutAuto
import Derived.Deep.RegionHeld3
namespace Go.Proofs.Ytelhgpogfedchaa
open Go.RowKit
theorem OComp.reads {lo hi : Nat} {w : World} {v : Value} {xs : List ByteArray} (h : OComp lo hi w v xs) : Reads w v xs := (OS.rl h).reads
set_option maxHeartbeats 8000000 in
set_option maxRecDepth 100000 in
theorem lawZSegments (n : ByteArray) (u : Value) (x : List Seg) (w : World) (hnl : n.size ≤ maxLen) (hr : RSegs 0 w u x) :
    Calls Try.prog 3 #[.agg #[.string n, u]] w fun e w' => e = .returned (.bool true) ∧ Below w.heap.size w w' := by
  obtain ⟨p, c, rfl⟩ := hr.isSlice
  obtain ⟨W, hW⟩ : ∃ W, W = w.alloc (.cells #[.string n, .slice p x.length c] 24) := ⟨_, rfl⟩
  have hb0 : Below w.heap.size w W := by rw [hW]; exact (Below.refl _ _).alloc (Nat.le_refl _) _
  have HR := hide (hr.below hb0)
  have HB0 := hide hb0
  have RW : Row W w.heap.size 24 [.string n, .slice p x.length c] := by rw [hW]; exact row_new w [.string n, .slice p x.length c] 24
  have HRW := hide RW
  have HLEN := hide (zAns_len n x)
  have HSML := hide (zAns_small n x)
  clear RW hb0 hr
  go_enter Try.func3, Try.ntmps3
  go_wp2_with fail
  rw [← hW]
  refine (szMessage_any n _ x 1048576 _ hnl (by omega) (by omega) HR.out).mono ?_
  rintro e w1 ⟨rfl, hb1⟩
  clear hW
  have HB1 := hide (HB0.out.trans (hb1.mono HB0.out.size))
  have HR1 := hide (HR.out.below hb1)
  have HRow1 := hide (HRW.out.below hb1 HRW.out.lt)
  have c1 : w1.cell? ⟨w.heap.size, 1, none⟩ = some (.slice p x.length c) := HRow1.out.cell 1
  have b1 : w1.cell? ⟨w.heap.size, 0, none⟩ = some (.string n) := HRow1.out.cell 0
  clear hb1
  by_cases hsz : (((n.size + wSegs x) : Nat) : Int) ≤ 1048576
  · rw [szOf_yes hsz]
    have hsz' : wSegs x ≤ 1048576 := by omega
    have HS := hide hsz'
    have h0 : ¬ (1048576 - (((n.size + wSegs x) : Nat) : Int)) < 0 := by omega
    clear hsz hsz'
    generalize (1048576 - (((n.size + wSegs x) : Nat) : Int)) = L at h0
    go_wp2_with fail
    refine (toMessage_any n _ x _ HS.out HR1.out).mono ?_
    rintro e w2 ⟨p2, c2, rfl, hr2, hb2⟩
    have HB2 := hide (HB1.out.trans (hb2.mono HB1.out.size))
    have HR2 := hide (HR1.out.below hb2)
    have HC2 := hide (RSegs.mono hr2 (Nat.zero_le _))
    have HRow2 := hide (HRow1.out.below hb2 HRow1.out.lt)
    clear hr2 hb2 c1 b1
    go_wp2_with fail
    refine (specZ_any n _ x _ hnl HS.out HC2.out).mono ?_
    rintro e w3 ⟨v0, rfl, ho0, hb3⟩
    have HB3 := hide (HB2.out.trans (hb3.mono HB2.out.size))
    have HR3 := hide (HR2.out.below hb3)
    have HRow3 := hide (HRow2.out.below hb3 HRow2.out.lt)
    have HS0 := hide ho0
    have HS0s := hide (hb3.size)
    have c3 : w3.cell? ⟨w.heap.size, 1, none⟩ = some (.slice p x.length c) := HRow3.out.cell 1
    have b3 : w3.cell? ⟨w.heap.size, 0, none⟩ = some (.string n) := HRow3.out.cell 0
    clear ho0 hb3
    go_wp2_with fail
    refine (toMessage_own n _ x _ HS.out HR3.out).mono ?_
    rintro e w4 ⟨p4, c4, rfl, hr4, hb4⟩
    have hbn : Below w4.heap.size w4 (w4.alloc (.cells #[.string n, .slice p4 x.length c4] 30)) := (Below.refl _ _).alloc (Nat.le_refl _) _
    have hb45 := hb4.trans (hbn.mono hb4.size)
    have HB4 := hide (HB3.out.trans (hb45.mono HB3.out.size))
    have HR4 := hide (HR3.out.below hb45)
    have HC4 := hide (hr4.keep (SameIn.ofBelow hbn))
    have HRow4 := hide (HRow3.out.below hb45 HRow3.out.lt)
    have HRowX := hide (row_new w4 [.string n, .slice p4 x.length c4] 30)
    have HS4 := hide (Keeps.go (SameIn.ofBelow hb45) HS0.out)
    have HX4 := hide (show w3.heap.size ≤ w4.heap.size from hb4.size)
    have HD4 := hide hb45
    clear hr4 hb4 hbn hb45 c3 b3 HS0
    go_wp2_with fail
    have HV5 : Hid ((w4.alloc (.cells #[.string n, .slice p4 x.length c4] 30)).heap.size = w4.heap.size + 1) := hide (by simp)
    generalize hV : w4.alloc (.cells #[.string n, .slice p4 x.length c4] 30) = V at *
    generalize hG : w4.heap.size = G at *
    clear hV hG
    refine (implZ_any n _ x _ hnl HS.out (RSegs.mono HC4.out.rl (Nat.zero_le _))).mono ?_
    rintro e w5 ⟨v1, rfl, ho1, hb5⟩
    have HB5 := hide (HB4.out.trans (hb5.mono HB4.out.size))
    have HR5 := hide (HR4.out.below hb5)
    have HC5 := hide (HC4.out.keep (SameIn.ofBelow hb5))
    have HRow5 := hide (HRow4.out.below hb5 HRow4.out.lt)
    have HRowX5 := hide (HRowX.out.below hb5 HRowX.out.lt)
    have HS5 := hide (Keeps.go (SameIn.ofBelow hb5) HS4.out)
    have HG5 := hide ho1
    have HD5 := hide (HD4.out.trans (hb5.mono HD4.out.size))
    have HVs := hide hb5.size
    clear hb5 ho1 HS4
    go_wp2_with fail
    refine (eqStringS_same _ _ (zAns n x) _ (by have := HLEN.out; omega) HG5.out.reads HS5.out.reads).mono ?_
    rintro e w6 ⟨rfl, hb6⟩
    have HB6 := hide (HB5.out.trans (hb6.mono HB5.out.size))
    have HR6 := hide (HR5.out.below hb6)
    have HC6 := hide (HC5.out.keep (SameIn.ofBelow hb6))
    have HRow6 := hide (HRow5.out.below hb6 HRow5.out.lt)
    have HRowX6 := hide (HRowX5.out.below hb6 HRowX5.out.lt)
    have HS6 := hide (Keeps.go (SameIn.ofBelow hb6) HS5.out)
    have HG6 := hide (Keeps.go (SameIn.ofBelow hb6) HG5.out)
    have HD6 := hide (HD5.out.trans (hb6.mono HD5.out.size))
    have HSS := hide (show ∀ y, Below w6.heap.size w6 y → y.cell? ⟨w.heap.size, 0, none⟩ = some (.string n) ∧ y.cell? ⟨w.heap.size, 1, none⟩ = some (.slice p x.length c) ∧ y.cell? ⟨G, 0, none⟩ = some (.string n) ∧ y.cell? ⟨G, 1, none⟩ = some (.slice p4 x.length c4) ∧ Below w6.heap.size w6 y from
      fun y h => ⟨(HRow6.out.below h HRow6.out.lt).cell 0, (HRow6.out.below h HRow6.out.lt).cell 1, (HRowX6.out.below h HRowX6.out.lt).cell 0, (HRowX6.out.below h HRowX6.out.lt).cell 1, h⟩)
    clear hb6 HR5 HC5 HRow5 HRowX5 HS5 HG5 HB5
    go_wp2_with fail
    go_cut [31] (fun t wz => t = .bool false ∧ ∃ wx, wx = wz ∧ Hid (Below w6.heap.size w6 wx))
    case first =>
      go_region_held3 (fun y => y.cell? ⟨w.heap.size, 0, none⟩ = some (.string n) ∧ y.cell? ⟨w.heap.size, 1, none⟩ = some (.slice p x.length c) ∧ y.cell? ⟨G, 0, none⟩ = some (.string n) ∧ y.cell? ⟨G, 1, none⟩ = some (.slice p4 x.length c4) ∧ Below w6.heap.size w6 y)
        ((go_split_ands; refine HSS.out _ ?_; repeat (first | with_reducible assumption | with_reducible exact Below.refl _ _ | with_reducible refine Below.drew ?_)))
        ((first
          | (go_at_call 6; go_split_ands; refine (toMessage_any n _ x _ HS.out (HR6.out.below (by assumption))).mono ?_; rintro e w7 ⟨p6, c6, rfl, hr6, hb6⟩; have HC7 := hide (RSegs.mono hr6 (Nat.zero_le _)); have hB6 : Below w6.heap.size w6 w7 := Below.trans (by assumption) (hb6.mono (Below.size (by assumption))); clear hr6 hb6)
          | (go_at_call 9; go_split_ands; refine (eqMessage_same n _ _ x 0 0 _ HS.out (RSegs.below (RSegs.mono HC6.out.rl (Nat.zero_le _)) (by assumption)) (by first | exact HC7.out | exact HC7.out.below ((Below.refl _ _).drew))).mono ?_; rintro e w8 ⟨rfl, hb7⟩; have hB7 : Below w6.heap.size w6 w8 := Below.trans (by assumption) (hb7.mono (Below.size (by assumption))); clear hb7)))
      all_goals
        have HB7 := hide hB7
        clear hB7
        go_wp2_with fail
        go_meet
        exact ⟨rfl, _, rfl, HB7⟩
    case rest =>
      obtain ⟨rfl, wx, rfl, HB7⟩ := hcut
      have hb7 := HB7.out
      have HB8 := hide (HB6.out.trans (hb7.mono HB6.out.size))
      have HR7 := hide (HR6.out.below hb7)
      have HC7 := hide (HC6.out.keep (SameIn.ofBelow hb7))
      have HRow7 := hide (HRow6.out.below hb7 HRow6.out.lt)
      have HRowX7 := hide (HRowX6.out.below hb7 HRowX6.out.lt)
      have HS7 := hide (Keeps.go (SameIn.ofBelow hb7) HS6.out)
      have HG7 := hide (Keeps.go (SameIn.ofBelow hb7) HG6.out)
      have x0 : wx.cell? ⟨G, 0, none⟩ = some (.string n) := HRowX7.out.cell 0
      have x1 : wx.cell? ⟨G, 1, none⟩ = some (.slice p4 x.length c4) := HRowX7.out.cell 1
      have HD7 := hide (HD6.out.trans (hb7.mono HD6.out.size))
      have HLO := hide (show w.heap.size < w3.heap.size from HRow3.out.lt)
      have HLE := hide (show w.heap.size ≤ w3.heap.size from HB3.out.size)
      clear hb7 HB7 HSS HR6 HC6 HRow6 HRowX6 HS6 HG6 HB6 HD6 HR7
      go_wp2_with fail
      refine (markMessage_own w3.heap.size G n _ x 1 _ HS.out (by have := HS.out; omega) HC7.out).mono ?_
      rintro e w8 ⟨rfl, _, hw8⟩
      have HB9 := hide (hw8.toBelow HB8.out HLE.out HB8.out.size)
      have HD8 := hide (hw8.toBelow HD7.out (Nat.le_refl _) HD7.out.size)
      have HR8 := hide (HR3.out.below HD8.out)
      have HRow8 := hide (hw8.row HRow7.out (.inl HLO.out))
      have HS8 := hide (Keeps.go (hw8.same (.inl (Nat.le_refl _))) HS7.out)
      have HG8 := hide (Keeps.go (hw8.same (.inr (by have := HV5.out; omega))) HG7.out)
      have hpos : ¬ ((((1 + cntSegs x : Nat)) : Int)) < 0 := by omega
      clear hw8 x0 x1 HRow7 HS7 HG7 HC7 HRowX7 HD7 HB8
      go_wp2_with fail
      refine (eqStringS_same _ _ (zAns n x) _ (by have := HLEN.out; omega) HG8.out.reads HS8.out.reads).mono ?_
      rintro e w9 ⟨rfl, hb9⟩
      have HB10 := hide (HB9.out.trans (hb9.mono HB9.out.size))
      have HDX := hide (HD8.out.trans (hb9.mono HD8.out.size))
      have HR9 := hide (HR8.out.below hb9)
      have HRow9 := hide (HRow8.out.below hb9 HRow8.out.lt)
      have HS9 := hide (Keeps.go (SameIn.ofBelow hb9) HS8.out)
      have HG9 := hide (Keeps.go (SameIn.ofBelow hb9) HG8.out)
      clear hb9 HB9 HR8 HRow8 HS8 HG8 HD8
      go_wp2_with fail
      refine (markT_own _ _ _ (zAns n x) 1 _ (by have := HLEN.out; omega) (by omega) HG9.out).mono ?_
      rintro e w10 ⟨rfl, hg10, hw10⟩
      have hVs := HVs.out
      have HB11 := hide (hw10.toBelow HB10.out (by have := HB4.out.size; exact this) HB10.out.size)
      have HR10 := hide (HR3.out.below (hw10.toBelow (HDX.out) (by have := HD4.out.size; exact this) HDX.out.size))
      have HRow10 := hide (hw10.row HRow9.out (.inl (Nat.lt_of_lt_of_le HLO.out HD4.out.size)))
      have HS10 := hide (Keeps.go (hw10.same (.inl HD4.out.size)) HS9.out)
      have HG10 := hide hg10
      obtain ⟨M, hM⟩ : ∃ M : Nat, M = 1 + cntC (zAns n x) := ⟨_, rfl⟩
      rw [← hM]
      have HM := hide hM
      have hMp : ¬ ((M : Nat) : Int) < 0 := by omega
      have hMe : (((M : Nat) : Int) != ((M : Nat) : Int)) = false := by simp
      clear hg10 hw10 hM HG9 HS9 HRow9 HR9 HB10
      go_wp2_with fail
      refine (heldT_own _ _ _ (zAns n x) 1 _ (by have := HLEN.out; omega) (by omega) HG10.out).mono ?_
      rintro e w11 ⟨rfl, hb11⟩
      rw [← HM.out]
      have HB12 := hide (HB11.out.trans (hb11.mono HB11.out.size))
      have HR11 := hide (HR10.out.below hb11)
      have HRow11 := hide (HRow10.out.below hb11 HRow10.out.lt)
      have HS11 := hide (Keeps.go (SameIn.ofBelow hb11) HS10.out)
      have HG11 := hide (Keeps.go (SameIn.ofBelow hb11) HG10.out)
      have c11 : w11.cell? ⟨w.heap.size, 1, none⟩ = some (.slice p x.length c) := HRow11.out.cell 1
      have b11 : w11.cell? ⟨w.heap.size, 0, none⟩ = some (.string n) := HRow11.out.cell 0
      clear hb11 HG10 HS10 HRow10 HR10 HB11
      go_wp2_with fail
      refine (toMessage_any n _ x _ HS.out HR11.out).mono ?_
      rintro e w12 ⟨p12, c12, rfl, hr12, hb12⟩
      have HB13 := hide (HB12.out.trans (hb12.mono HB12.out.size))
      have HC12 := hide (RSegs.mono hr12 (Nat.zero_le _))
      have HS12 := hide (Keeps.go (SameIn.ofBelow hb12) HS11.out)
      have HG12 := hide (Keeps.go (SameIn.ofBelow hb12) HG11.out)
      clear hb12 hr12 HG11 HS11 HRow11 HR11 HB12 c11 b11
      go_wp2_with fail
      refine (implZ_any n _ x _ hnl HS.out HC12.out).mono ?_
      rintro e w13 ⟨v13, rfl, ho13, hb13⟩
      have HB14 := hide (HB13.out.trans (hb13.mono HB13.out.size))
      have HS13 := hide (Keeps.go (SameIn.ofBelow hb13) HS12.out)
      have HG13 := hide (Keeps.go (SameIn.ofBelow hb13) HG12.out)
      have HO13 := hide ho13
      clear hb13 ho13 HG12 HS12 HB13
      go_wp2_with fail
      refine (eqStringS_same _ _ (zAns n x) _ (by have := HLEN.out; omega) HO13.out.reads HS13.out.reads).mono ?_
      rintro e w14 ⟨rfl, hb14⟩
      have HB15 := hide (HB14.out.trans (hb14.mono HB14.out.size))
      have HG14 := hide (Keeps.go (SameIn.ofBelow hb14) HG13.out)
      clear hb14 HG13 HS13 HB14
      go_wp2_with fail
      refine (heldT_own _ _ _ (zAns n x) 1 _ (by have := HLEN.out; omega) (by omega) HG14.out).mono ?_
      rintro e w15 ⟨rfl, hb15⟩
      rw [← HM.out]
      have HB16 := hide (HB15.out.trans (hb15.mono HB15.out.size))
      clear hb15
      go_wp2
      go_ret
      exact ⟨rfl, HB16.out⟩
  · rw [szOf_no hsz]
    go_wp2
    go_ret
    exact ⟨rfl, HB1.out⟩
end Go.Proofs.Ytelhgpogfedchaa
