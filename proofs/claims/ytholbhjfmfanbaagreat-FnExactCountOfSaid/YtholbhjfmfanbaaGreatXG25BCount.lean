/- CountOf of both sides. -/
import Derived.Test.YtholbhjfmfanbaaGreatXG23BAll
import Derived.Test.YtholbhjfmfanbaaGreatXG24BRight
namespace Go.Proofs.YtholbhjfmfanbaaGreat
open Go.RowKit
def cntF0 (n : ByteArray) (x : List Bat) : Int := if filB n x = true then ((allL x).length : Int) else 0
theorem cntF0_no {n : ByteArray} {x : List Bat} (h : filB n x = false) : cntF0 n x = 0 := by simp [cntF0, h]
theorem cntF0_yes {n : ByteArray} {x : List Bat} (h : filB n x = true) : cntF0 n x = ((allL x).length : Int) := by simp [cntF0, h]

set_option maxHeartbeats 1000000 in
theorem implCountOf_any (n : ByteArray) (u : Value) (x : List Bat) (w : World) (hm : n.size ≤ maxLen) (hn : wBats x ≤ 1048576) (hr : RBats 0 w u x) :
    Calls Tryz.prog 14 #[.agg #[.string n, u]] w fun e w' => e = .returned (.int .i64 (cntF0 n x)) ∧ Below w.heap.size w w' := by
  obtain ⟨R, hR⟩ : ∃ R, R = cntF0 n x := ⟨_, rfl⟩
  rw [← hR]
  have HR := hideF hR
  have HX := hideF hr
  obtain ⟨p, cap, rfl⟩ := hr.isSlice
  have HB0 := hideF ((Below.refl w.heap.size w).alloc (Nat.le_refl _) (.cells #[.string n, .slice p x.length cap] 29))
  have HRow0 := hideF (row_new w [.string n, .slice p x.length cap] 29)
  clear hr hR
  go_enter Tryz.func14, Tryz.ntmps14
  go_wp2_with fail
  refine (fileRight_any n _ x _ hm (fitsF_of hn) (HX.out.below HB0.out)).mono ?_
  rintro e w1 ⟨rfl, hb1⟩
  have HB1 := hideF (HB0.out.trans (hb1.mono HB0.out.size))
  have HRow1 := hideF (HRow0.out.below hb1 HRow0.out.lt)
  have c0 : w1.cell? ⟨w.heap.size, 0, none⟩ = some (.string n) := HRow1.out.cell 0
  have c1 : w1.cell? ⟨w.heap.size, 1, none⟩ = some (.slice p x.length cap) := HRow1.out.cell 1
  clear hb1
  cases hq : filB n x
  · have HN := hideF (show (0 : Int) = R by rw [HR.out]; exact (cntF0_no hq).symm)
    go_wp2
    go_ret
    exact ⟨ret_intF HN.out, HB1.out⟩
  · have HN := hideF (show ((allL x).length : Int) = R by rw [HR.out]; exact (cntF0_yes hq).symm)
    clear hq
    go_wp2_with fail
    refine (allMessages_any n _ x _ hn (HX.out.below HB1.out)).mono ?_
    rintro e w2 ⟨p2, c2, rfl, _, hb2⟩
    have HB2 := hideF (HB1.out.trans (hb2.mono HB1.out.size))
    clear hb2 c0 c1
    go_wp2
    go_ret
    exact ⟨ret_intF HN.out, HB2.out⟩

set_option maxHeartbeats 1000000 in
theorem specCountOf_any (n : ByteArray) (u : Value) (x : List Bat) (w : World) (hm : n.size ≤ maxLen) (hn : wBats x ≤ 1048576) (hr : RBats 0 w u x) :
    Calls Tryz.prog 13 #[.agg #[.string n, u]] w fun e w' => e = .returned (.int .i64 (cntF0 n x)) ∧ Below w.heap.size w w' := by
  obtain ⟨R, hR⟩ : ∃ R, R = cntF0 n x := ⟨_, rfl⟩
  rw [← hR]
  have HR := hideF hR
  have HX := hideF hr
  obtain ⟨p, cap, rfl⟩ := hr.isSlice
  have HB0 := hideF ((Below.refl w.heap.size w).alloc (Nat.le_refl _) (.cells #[.string n, .slice p x.length cap] 29))
  have HRow0 := hideF (row_new w [.string n, .slice p x.length cap] 29)
  clear hr hR
  go_enter Tryz.func13, Tryz.ntmps13
  go_wp2_with fail
  refine (specFileRight_any n _ x _ hm (fitsF_of hn) (HX.out.below HB0.out)).mono ?_
  rintro e w1 ⟨rfl, hb1⟩
  have HB1 := hideF (HB0.out.trans (hb1.mono HB0.out.size))
  have HRow1 := hideF (HRow0.out.below hb1 HRow0.out.lt)
  have c0 : w1.cell? ⟨w.heap.size, 0, none⟩ = some (.string n) := HRow1.out.cell 0
  have c1 : w1.cell? ⟨w.heap.size, 1, none⟩ = some (.slice p x.length cap) := HRow1.out.cell 1
  clear hb1
  cases hq : filB n x
  · have HN := hideF (show (0 : Int) = R by rw [HR.out]; exact (cntF0_no hq).symm)
    go_wp2
    go_ret
    exact ⟨ret_intF HN.out, HB1.out⟩
  · have HN := hideF (show ((allL x).length : Int) = R by rw [HR.out]; exact (cntF0_yes hq).symm)
    clear hq
    go_wp2_with fail
    refine (l08All_any n _ x _ hn (HX.out.below HB1.out)).mono ?_
    rintro e w2 ⟨p2, c2, rfl, _, hb2⟩
    have HB2 := hideF (HB1.out.trans (hb2.mono HB1.out.size))
    clear hb2 c0 c1
    go_wp2
    go_ret
    exact ⟨ret_intF HN.out, HB2.out⟩
end Go.Proofs.YtholbhjfmfanbaaGreat
/- The law of CountOf out of the two contracts. -/
namespace Go.Proofs.YtholbhjfmfanbaaGreat
open Go.RowKit
set_option maxHeartbeats 4000000 in
theorem lawCountOf (n : ByteArray) (u : Value) (x : List Bat) (w : World) (hnl : n.size ≤ maxLen) (hr : RBats 0 w u x) :
    Calls Tryz.prog 4 #[.agg #[.string n, u]] w fun e w' => e = .returned (.bool true) ∧ Below w.heap.size w w' := by
  obtain ⟨p, c, rfl⟩ := hr.isSlice
  obtain ⟨W, hW⟩ : ∃ W, W = w.alloc (.cells #[.string n, .slice p x.length c] 24) := ⟨_, rfl⟩
  have hb0 : Below w.heap.size w W := by rw [hW]; exact (Below.refl _ _).alloc (Nat.le_refl _) _
  have HR := hide (hr.below hb0)
  have HB0 := hide hb0
  have RW : Row W w.heap.size 24 [.string n, .slice p x.length c] := by rw [hW]; exact row_new w [.string n, .slice p x.length c] 24
  have HRW := hide RW
  clear RW hb0 hr
  go_enter Tryz.func4, Tryz.ntmps4
  go_wp2_with fail
  rw [← hW]
  refine (szFile_any n _ x 1048576 _ hnl (by omega) (by omega) HR.out).mono ?_
  rintro e w1 ⟨rfl, hb1⟩
  clear hW
  have HB1 := hide (HB0.out.trans (hb1.mono HB0.out.size))
  have HR1 := hide (HR.out.below hb1)
  have row1 := HRW.out.below hb1 HRW.out.lt
  have c1 : w1.cell? ⟨w.heap.size, 1, none⟩ = some (.slice p x.length c) := row1.cell 1
  have b1 : w1.cell? ⟨w.heap.size, 0, none⟩ = some (.string n) := row1.cell 0
  have HRow1 := hide row1
  clear hb1 row1
  by_cases hsz : (((n.size + wBats x) : Nat) : Int) ≤ 1048576
  · rw [szOf_yes hsz]
    have hsz' : wBats x ≤ 1048576 := by omega
    have HS := hide hsz'
    have HSZ := hide (fitsF_of hsz')
    have h0 : ¬ (1048576 - (((n.size + wBats x) : Nat) : Int)) < 0 := by omega
    clear hsz hsz'
    generalize (1048576 - (((n.size + wBats x) : Nat) : Int)) = L at h0
    go_wp2_with fail
    refine (toFile_any n _ x _ HS.out HR1.out).mono ?_
    rintro e w2 ⟨p2, c2, rfl, hr2, hb2⟩
    have HB2 := hide (HB1.out.trans (hb2.mono HB1.out.size))
    have HR2 := hide (HR1.out.below hb2)
    have HC2 := hide (RBats.mono hr2 (Nat.zero_le _))
    have HRow2 := hide (HRow1.out.below hb2 HRow1.out.lt)
    clear hr2 hb2 c1 b1
    go_wp2_with fail
    refine (specCountOf_any n _ x _ hnl HS.out HC2.out).mono ?_
    rintro e w3 ⟨rfl, hb3⟩
    have HB3 := hide (HB2.out.trans (hb3.mono HB2.out.size))
    have HR3 := hide (HR2.out.below hb3)
    have row3 := HRow2.out.below hb3 HRow2.out.lt
    have c3 : w3.cell? ⟨w.heap.size, 1, none⟩ = some (.slice p x.length c) := row3.cell 1
    have b3 : w3.cell? ⟨w.heap.size, 0, none⟩ = some (.string n) := row3.cell 0
    have HRow3 := hide row3
    clear hb3 row3
    go_wp2_with fail
    refine (toFile_any n _ x _ HS.out HR3.out).mono ?_
    rintro e w4 ⟨p4, c4, rfl, hr4, hb4⟩
    have hbn : Below w4.heap.size w4 (w4.alloc (.cells #[.string n, .slice p4 x.length c4] 29)) := (Below.refl _ _).alloc (Nat.le_refl _) _
    have HB4 := hide ((HB3.out.trans (hb4.mono HB3.out.size)).trans (hbn.mono (HB3.out.trans (hb4.mono HB3.out.size)).size))
    have HR4 := hide ((HR3.out.below hb4).below hbn)
    have HC4 := hide ((RBats.mono hr4 (Nat.zero_le _)).below hbn)
    have HRow4 := hide ((HRow3.out.below hb4 HRow3.out.lt).alloc (.cells #[.string n, .slice p4 x.length c4] 29))
    have HRowX := hide (row_new w4 [.string n, .slice p4 x.length c4] 29)
    clear hr4 hb4 hbn c3 b3
    go_wp2_with fail
    generalize hV : w4.alloc (.cells #[.string n, .slice p4 x.length c4] 29) = V at *
    generalize hG : w4.heap.size = G at *
    clear hV hG
    refine (implCountOf_any n _ x _ hnl HS.out HC4.out).mono ?_
    rintro e w5 ⟨rfl, hb5⟩
    have HB5 := hide (HB4.out.trans (hb5.mono HB4.out.size))
    have HR5 := hide (HR4.out.below hb5)
    have HC5 := hide (HC4.out.below hb5)
    have HRow5 := hide (HRow4.out.below hb5 HRow4.out.lt)
    have HRowX5 := hide (HRowX.out.below hb5 HRowX.out.lt)
    clear hb5
    have HSS := hide (show ∀ y, Below w5.heap.size w5 y → y.cell? ⟨w.heap.size, 0, none⟩ = some (.string n) ∧ y.cell? ⟨w.heap.size, 1, none⟩ = some (.slice p x.length c) ∧ y.cell? ⟨G, 0, none⟩ = some (.string n) ∧ y.cell? ⟨G, 1, none⟩ = some (.slice p4 x.length c4) ∧ Below w5.heap.size w5 y from
      fun y h => ⟨(HRow5.out.below h HRow5.out.lt).cell 0, (HRow5.out.below h HRow5.out.lt).cell 1, (HRowX5.out.below h HRowX5.out.lt).cell 0, (HRowX5.out.below h HRowX5.out.lt).cell 1, h⟩)
    generalize cntF0 n x = FB
    all_goals
      go_wp2_with fail
      go_region_held3 (fun y => y.cell? ⟨w.heap.size, 0, none⟩ = some (.string n) ∧ y.cell? ⟨w.heap.size, 1, none⟩ = some (.slice p x.length c) ∧ y.cell? ⟨G, 0, none⟩ = some (.string n) ∧ y.cell? ⟨G, 1, none⟩ = some (.slice p4 x.length c4) ∧ Below w5.heap.size w5 y)
        ((go_split_ands; refine HSS.out _ ?_; repeat (first | with_reducible assumption | with_reducible exact Below.refl _ _ | with_reducible refine Below.drew ?_)))
        ((first
          | (go_at_call 10; go_split_ands; refine (toFile_any n _ x _ HS.out (HR5.out.below (by assumption))).mono ?_; rintro e w6 ⟨p6, c6, rfl, hr6, hb6⟩; have HC6 := hide (RBats.mono hr6 (Nat.zero_le _)); have hB6 : Below w5.heap.size w5 w6 := Below.trans (by assumption) (hb6.mono (Below.size (by assumption))); clear hr6 hb6)
          | (go_at_call 12; go_split_ands; refine (eqFile_same n _ _ x 0 0 _ HS.out (HC5.out.below (by assumption)) (by first | exact HC6.out | exact HC6.out.below ((Below.refl _ _).drew))).mono ?_; rintro e w7 ⟨rfl, hb7⟩; have hB7 : Below w5.heap.size w5 w7 := Below.trans (by assumption) (hb7.mono (Below.size (by assumption))); clear hb7)))
      all_goals
        have HB7 := hide (HB5.out.trans (hB7.mono HB5.out.size))
        clear hB7
        go_wp2
        go_ret
        exact ⟨rfl, HB7.out⟩
  · rw [szOf_no hsz]
    go_wp2
    go_ret
    exact ⟨rfl, HB1.out⟩
end Go.Proofs.YtholbhjfmfanbaaGreat
