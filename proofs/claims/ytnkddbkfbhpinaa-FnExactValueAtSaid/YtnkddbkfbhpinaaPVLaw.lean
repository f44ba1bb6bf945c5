/- The law of ValueAt out of the contracts. -/
import Derived.Test.YtnkddbkfbhpinaaPVal3
import Derived.Test.YtnkddbkfbhpinaaPLaw
import Derived.Test.YtnkddbkfbhpinaaFLMsg
namespace Go.Proofs.Ytnkddbkfbhpinaa
open Go.RowKit
theorem szPath_left (p : PathM) (left : Int) (w : World) (hn : p.seg.size ≤ maxLen) (h0 : 0 ≤ left) (h1 : left ≤ 1048576) :
    Calls Try.prog 5 #[p.v, .int .i64 left] w fun e w' => e = .returned (.int .i64 (if (left - (p.seg.size : Int)) < 0 then -1 else left - (p.seg.size : Int))) ∧ Below w.heap.size w w' := by
  unfold maxLen at hn
  obtain ⟨s, n, f, r, c, b⟩ := p
  unfold PathM.v
  simp only at hn ⊢
  have HB := hide (show Below w.heap.size w (w.alloc (.cells #[.string s, .int .i64 n, .int .i64 f, .int .i64 r, .int .i64 c, .int .i64 b] 26)) from (Below.refl _ _).alloc (Nat.le_refl _) _)
  have hwr : IntKind.i64.wrap (left - (s.size : Int)) = left - (s.size : Int) := by rw [IntKind.wrap_i64]; omega
  by_cases h : (left - (s.size : Int)) < 0
  · rw [if_pos h]
    go_enter Try.func5, Try.ntmps5
    go_wp2
    go_ret
    exact ⟨rfl, HB.out⟩
  · rw [if_neg h]
    go_enter Try.func5, Try.ntmps5
    go_wp2
    go_ret
    exact ⟨rfl, HB.out⟩
theorem toList_ownF (s : ByteArray) : (s.toList == s.toList) = true := by simp

set_option maxHeartbeats 8000000 in
set_option maxRecDepth 100000 in
theorem lawValueAt (m : ByteArray) (u : Value) (x : List Seg) (q : PathM) (w : World) (hm : m.size ≤ maxLen) (hr : RSegs 0 w u x) (hq : q.seg.size ≤ maxLen) :
    Calls Try.prog 3 #[.agg #[.string m, u], q.v] w fun e w' => e = .returned (.bool true) ∧ Below w.heap.size w w' := by
  have HR := hide hr
  have HMm := hide hm
  have HQm := hide hq
  obtain ⟨p, c, rfl⟩ := hr.isSlice
  clear hr hm hq
  obtain ⟨W, hW⟩ : ∃ W, W = (w.alloc (.cells #[.string m, .slice p x.length c] 24)).alloc (.cells #[.string q.seg, .int .i64 q.nth, .int .i64 q.fld, .int .i64 q.rep, .int .i64 q.comp, .int .i64 q.sub] 26) := ⟨_, rfl⟩
  have hB0 : Below w.heap.size w W := by rw [hW]; exact ((Below.refl _ _).alloc (Nat.le_refl _) _).alloc (by simp) _
  have HB0 := hide hB0
  have HM : Hid (Row W w.heap.size 24 [.string m, .slice p x.length c]) := by rw [hW]; exact (row_new w [.string m, .slice p x.length c] 24).alloc _
  have HP : Hid (Row W (w.heap.size + 1) 26 [.string q.seg, .int .i64 q.nth, .int .i64 q.fld, .int .i64 q.rep, .int .i64 q.comp, .int .i64 q.sub]) := by
    rw [hW]
    have := row_new (w.alloc (.cells #[.string m, .slice p x.length c] 24)) [.string q.seg, .int .i64 q.nth, .int .i64 q.fld, .int .i64 q.rep, .int .i64 q.comp, .int .i64 q.sub] 26
    exact hide (by simpa using this)
  clear hB0
  have HV : Hid (q.v = .agg #[.string q.seg, .int .i64 q.nth, .int .i64 q.fld, .int .i64 q.rep, .int .i64 q.comp, .int .i64 q.sub]) := rfl
  rw [HV.out]
  go_enter Try.func3, Try.ntmps3
  go_wp2_with fail
  rw [← hW]
  clear hW
  generalize w.heap.size + 1 = K1 at *
  refine (szMessage_any m _ x 1048576 _ HMm.out (by omega) (by omega) (HR.out.below HB0.out)).mono ?_
  rintro e w1 ⟨rfl, hb1⟩
  have HB1 := hide (HB0.out.trans (hb1.mono HB0.out.size))
  have HM1 := hide (HM.out.below hb1 HM.out.lt)
  have HP1 := hide (HP.out.below hb1 HP.out.lt)
  clear hb1
  by_cases hsz : (((m.size + wSegs x) : Nat) : Int) ≤ 1048576
  case neg =>
    rw [szOf_no hsz]
    go_wp2
    go_ret
    exact ⟨rfl, HB1.out⟩
  rw [szOf_yes hsz]
  have HW := hide (show wSegs x ≤ 1048576 by omega)
  have h0 : ¬ (1048576 - (((m.size + wSegs x) : Nat) : Int)) < 0 := by omega
  have h1 : (1048576 - (((m.size + wSegs x) : Nat) : Int)) ≤ 1048576 := by omega
  clear hsz
  generalize (1048576 - (((m.size + wSegs x) : Nat) : Int)) = L at h0 h1
  have HL := hide (show 0 ≤ L ∧ L ≤ 1048576 by omega)
  clear h1
  have a0 : w1.cell? ⟨K1, 0, none⟩ = some (.string q.seg) := HP1.out.cell 0
  have a1 : w1.cell? ⟨K1, 1, none⟩ = some (.int .i64 q.nth) := HP1.out.cell 1
  have a2 : w1.cell? ⟨K1, 2, none⟩ = some (.int .i64 q.fld) := HP1.out.cell 2
  have a3 : w1.cell? ⟨K1, 3, none⟩ = some (.int .i64 q.rep) := HP1.out.cell 3
  have a4 : w1.cell? ⟨K1, 4, none⟩ = some (.int .i64 q.comp) := HP1.out.cell 4
  have a5 : w1.cell? ⟨K1, 5, none⟩ = some (.int .i64 q.sub) := HP1.out.cell 5
  go_wp2_with fail
  rw [← HV.out]
  refine (szPath_left q L _ HQm.out HL.out.1 HL.out.2).mono ?_
  rintro e w2 ⟨rfl, hb2⟩
  have HB2 := hide (HB1.out.trans (hb2.mono HB1.out.size))
  have HM2 := hide (HM1.out.below hb2 HM1.out.lt)
  have HP2 := hide (HP1.out.below hb2 HP1.out.lt)
  clear hb2 a0 a1 a2 a3 a4 a5 HM1 HP1 HB1 h0 HL
  by_cases hl : (L - (q.seg.size : Int)) < 0
  · rw [if_pos hl]
    go_wp2
    go_ret
    exact ⟨rfl, HB2.out⟩
  rw [if_neg hl]
  generalize L - (q.seg.size : Int) = L2 at *
  go_wp2_with fail
  go_cut [6] (fun t6 wz => ∃ (wx : World), wx = wz ∧ t6 = .string (valOut m x q) ∧ Hid (Kept [] w2 wx))
  case first =>
    have HSS := hide (show ∀ y, Kept [] w2 y → (fun y : World => y.cell? ⟨w.heap.size, 0, none⟩ = some (.string m) ∧ y.cell? ⟨w.heap.size, 1, none⟩ = some (.slice p x.length c) ∧ y.cell? ⟨K1, 0, none⟩ = some (.string q.seg) ∧ y.cell? ⟨K1, 1, none⟩ = some (.int .i64 q.nth) ∧ y.cell? ⟨K1, 2, none⟩ = some (.int .i64 q.fld) ∧ y.cell? ⟨K1, 3, none⟩ = some (.int .i64 q.rep) ∧ y.cell? ⟨K1, 4, none⟩ = some (.int .i64 q.comp) ∧ y.cell? ⟨K1, 5, none⟩ = some (.int .i64 q.sub)) y from fun y h => ⟨(h.row HM2.out (by simp)).cell 0, (h.row HM2.out (by simp)).cell 1, (h.row HP2.out (by simp)).cell 0, (h.row HP2.out (by simp)).cell 1, (h.row HP2.out (by simp)).cell 2, (h.row HP2.out (by simp)).cell 3, (h.row HP2.out (by simp)).cell 4, (h.row HP2.out (by simp)).cell 5⟩)
    refine wp_region_held (S := fun y : World => y.cell? ⟨w.heap.size, 0, none⟩ = some (.string m) ∧ y.cell? ⟨w.heap.size, 1, none⟩ = some (.slice p x.length c) ∧ y.cell? ⟨K1, 0, none⟩ = some (.string q.seg) ∧ y.cell? ⟨K1, 1, none⟩ = some (.int .i64 q.nth) ∧ y.cell? ⟨K1, 2, none⟩ = some (.int .i64 q.fld) ∧ y.cell? ⟨K1, 3, none⟩ = some (.int .i64 q.rep) ∧ y.cell? ⟨K1, 4, none⟩ = some (.int .i64 q.comp) ∧ y.cell? ⟨K1, 5, none⟩ = some (.int .i64 q.sub)) (by kernel_rfl) ?_
    have HX : Hid (Kept [] w2 { w2 with drawn := w2.drawn + 1 }) := (Kept.refl _ _).drewP
    generalize ({ w2 with drawn := w2.drawn + 1 } : World) = X0 at HX ⊢
    have HS := hide (HSS.out _ HX.out)
    refine wpAnyH_take (i := 0) (oi := _) (v := .agg #[.string m, .slice p x.length c]) rfl (by kernel_rfl) (by kernel_rfl) (by kernel_rfl) (fun _ _ _ h => h) (Or.inl ⟨by rfl, by intro w hSw; go_split_ands; go_simp⟩) HS.out ?_
    simp only [Act.put, List.getElem_toArray, List.getElem_cons_zero, List.setIfInBounds_toArray, List.set_cons_zero, List.set_cons_succ]
    refine wpAnyH_take (i := 2) (oi := _) (v := .agg #[.string q.seg, .int .i64 q.nth, .int .i64 q.fld, .int .i64 q.rep, .int .i64 q.comp, .int .i64 q.sub]) rfl (by kernel_rfl) (by kernel_rfl) (by kernel_rfl) (fun _ _ _ h => h) (Or.inl ⟨by rfl, by intro w hSw; go_split_ands; go_simp⟩) HS.out ?_
    simp only [Act.put, List.getElem_toArray, List.getElem_cons_zero, List.getElem_cons_succ, List.setIfInBounds_toArray, List.set_cons_zero, List.set_cons_succ]
    refine wpAnyH_ready (rs := [1]) (by kernel_rfl) (by simp) ?_
    refine AllReadyH.cons (o := _) rfl (fun K hK => ?_) AllReadyH.nil
    go_simp
    refine (toMessage_any m _ x _ HW.out (HR.out.below (HX.out.toBelow HB2.out HB2.out.size (by simp)))).mono ?_
    rintro e X2 ⟨pm, cm, rfl, hrm, hbc⟩
    have HX2 := hide (HX.out.below hbc)
    have HCM := hide (RSegs.mono hrm (Nat.zero_le _))
    refine hK.out _ _ (HSS.out _ HX2.out) (fun _ => ?_)
    clear hK K HS HX hbc hrm
    have HX := HX2
    have HS := hide (HSS.out _ HX.out)
    clear HX2
    refine wpAnyH_ready (rs := [3]) (by kernel_rfl) (by simp) ?_
    refine AllReadyH.cons (o := _) rfl (fun K hK => ?_) AllReadyH.nil
    go_simp
    rw [← HV.out]
    refine (toPath_any q _).mono ?_
    rintro e X3 ⟨rfl, hbc⟩
    have HX2 := hide (HX.out.below hbc)
    have HCM2 := hide (HCM.out.below hbc)
    refine hK.out _ _ (HSS.out _ HX2.out) (fun _ => ?_)
    clear hK K HS HX hbc 
    have HX := HX2
    have HS := hide (HSS.out _ HX.out)
    clear HX2
    clear HCM
    have HCM := HCM2
    clear HCM2
    refine wpAnyH_ready (rs := [4]) (by kernel_rfl) (by simp) ?_
    refine AllReadyH.cons (o := _) rfl (fun K hK => ?_) AllReadyH.nil
    go_simp
    refine (specValueAt_any m _ x q _ HMm.out HW.out HCM.out).mono ?_
    rintro e X9 ⟨rfl, hbc⟩
    have HX2 := hide (HX.out.below hbc)
    refine hK.out _ _ (HSS.out _ HX2.out) (fun _ => ?_)
    clear hK K HS HX hbc 
    have HX := HX2
    have HS := hide (HSS.out _ HX.out)
    clear HX2
    refine wpAnyH_take (i := 5) (oi := _) (v := .string (valOut m x q)) rfl (by kernel_rfl) (by kernel_rfl) (by kernel_rfl) (fun _ _ _ h => h) (Or.inl ⟨by rfl, by intro w hSw; go_split_ands; go_simp⟩) HS.out ?_
    simp only [Act.put, List.getElem_toArray, List.getElem_cons_zero, List.getElem_cons_succ, List.setIfInBounds_toArray, List.set_cons_zero, List.set_cons_succ]
    refine wpAnyH_done (by kernel_rfl) ?_ _
    clear HS HSS
    go_wp2_with fail
    go_meet
    exact ⟨_, rfl, rfl, HX⟩
  case rest =>
    obtain ⟨wx, rfl, rfl, HXK⟩ := hcut
    have HB3 := hide (HXK.out.toBelow HB2.out HB2.out.size (by simp))
    have HM3 := hide (HXK.out.row HM2.out (by simp))
    have HP3 := hide (HXK.out.row HP2.out (by simp))
    have b0 : wx.cell? ⟨w.heap.size, 0, none⟩ = some (.string m) := HM3.out.cell 0
    have b1 : wx.cell? ⟨w.heap.size, 1, none⟩ = some (.slice p x.length c) := HM3.out.cell 1
    clear HXK HM2 HP2 HB2
    go_wp2_with fail
    refine (toMessage_any m _ x _ HW.out (HR.out.below HB3.out)).mono ?_
    rintro e w4 ⟨p4, c4, rfl, hr4, hb4⟩
    have hbn : Below w4.heap.size w4 (w4.alloc (.cells #[.string m, .slice p4 x.length c4] 32)) := (Below.refl _ _).alloc (Nat.le_refl _) _
    have HB4 := hide ((HB3.out.trans (hb4.mono HB3.out.size)).trans (hbn.mono (HB3.out.trans (hb4.mono HB3.out.size)).size))
    have HC4 := hide ((RSegs.mono hr4 (Nat.zero_le _)).below hbn)
    have HM4 := hide ((HM3.out.below hb4 HM3.out.lt).alloc (.cells #[.string m, .slice p4 x.length c4] 32))
    have HP4 := hide ((HP3.out.below hb4 HP3.out.lt).alloc (.cells #[.string m, .slice p4 x.length c4] 32))
    have HX4 := hide (row_new w4 [.string m, .slice p4 x.length c4] 32)
    clear hr4 hb4 hbn b0 b1
    go_wp2_with fail
    generalize hV : w4.alloc (.cells #[.string m, .slice p4 x.length c4] 32) = V at *
    generalize hG : w4.heap.size = G at *
    clear hV hG
    have HSS := hide (show ∀ y, Kept [] V y → (fun y : World => y.cell? ⟨G, 0, none⟩ = some (.string m) ∧ y.cell? ⟨G, 1, none⟩ = some (.slice p4 x.length c4) ∧ y.cell? ⟨w.heap.size, 0, none⟩ = some (.string m) ∧ y.cell? ⟨w.heap.size, 1, none⟩ = some (.slice p x.length c) ∧ y.cell? ⟨K1, 0, none⟩ = some (.string q.seg) ∧ y.cell? ⟨K1, 1, none⟩ = some (.int .i64 q.nth) ∧ y.cell? ⟨K1, 2, none⟩ = some (.int .i64 q.fld) ∧ y.cell? ⟨K1, 3, none⟩ = some (.int .i64 q.rep) ∧ y.cell? ⟨K1, 4, none⟩ = some (.int .i64 q.comp) ∧ y.cell? ⟨K1, 5, none⟩ = some (.int .i64 q.sub)) y from fun y h => ⟨(h.row HX4.out (by simp)).cell 0, (h.row HX4.out (by simp)).cell 1, (h.row HM4.out (by simp)).cell 0, (h.row HM4.out (by simp)).cell 1, (h.row HP4.out (by simp)).cell 0, (h.row HP4.out (by simp)).cell 1, (h.row HP4.out (by simp)).cell 2, (h.row HP4.out (by simp)).cell 3, (h.row HP4.out (by simp)).cell 4, (h.row HP4.out (by simp)).cell 5⟩)
    refine wp_region_held (S := fun y : World => y.cell? ⟨G, 0, none⟩ = some (.string m) ∧ y.cell? ⟨G, 1, none⟩ = some (.slice p4 x.length c4) ∧ y.cell? ⟨w.heap.size, 0, none⟩ = some (.string m) ∧ y.cell? ⟨w.heap.size, 1, none⟩ = some (.slice p x.length c) ∧ y.cell? ⟨K1, 0, none⟩ = some (.string q.seg) ∧ y.cell? ⟨K1, 1, none⟩ = some (.int .i64 q.nth) ∧ y.cell? ⟨K1, 2, none⟩ = some (.int .i64 q.fld) ∧ y.cell? ⟨K1, 3, none⟩ = some (.int .i64 q.rep) ∧ y.cell? ⟨K1, 4, none⟩ = some (.int .i64 q.comp) ∧ y.cell? ⟨K1, 5, none⟩ = some (.int .i64 q.sub)) (by kernel_rfl) ?_
    have HX : Hid (Kept [] V { V with drawn := V.drawn + 1 }) := (Kept.refl _ _).drewP
    generalize ({ V with drawn := V.drawn + 1 } : World) = X0 at HX ⊢
    have HS := hide (HSS.out _ HX.out)
    refine wpAnyH_take (i := 0) (oi := _) (v := .agg #[.string m, .slice p4 x.length c4]) rfl (by kernel_rfl) (by kernel_rfl) (by kernel_rfl) (fun _ _ _ h => h) (Or.inl ⟨by rfl, by intro w hSw; go_split_ands; go_simp⟩) HS.out ?_
    simp only [Act.put, List.getElem_toArray, List.getElem_cons_zero, List.setIfInBounds_toArray, List.set_cons_zero, List.set_cons_succ]
    refine wpAnyH_take (i := 1) (oi := _) (v := .agg #[.string q.seg, .int .i64 q.nth, .int .i64 q.fld, .int .i64 q.rep, .int .i64 q.comp, .int .i64 q.sub]) rfl (by kernel_rfl) (by kernel_rfl) (by kernel_rfl) (fun _ _ _ h => h) (Or.inl ⟨by rfl, by intro w hSw; go_split_ands; go_simp⟩) HS.out ?_
    simp only [Act.put, List.getElem_toArray, List.getElem_cons_zero, List.getElem_cons_succ, List.setIfInBounds_toArray, List.set_cons_zero, List.set_cons_succ]
    refine wpAnyH_ready (rs := [2]) (by kernel_rfl) (by simp) ?_
    refine AllReadyH.cons (o := _) rfl (fun K hK => ?_) AllReadyH.nil
    go_simp
    rw [← HV.out]
    refine (toPath_any q _).mono ?_
    rintro e X5 ⟨rfl, hbc⟩
    have HX2 := hide (HX.out.below hbc)
    refine hK.out _ _ (HSS.out _ HX2.out) (fun _ => ?_)
    clear hK K HS HX hbc 
    have HX := HX2
    have HS := hide (HSS.out _ HX.out)
    clear HX2
    refine wpAnyH_ready (rs := [3]) (by kernel_rfl) (by simp) ?_
    refine AllReadyH.cons (o := _) rfl (fun K hK => ?_) AllReadyH.nil
    go_simp
    refine (implValueAt_any m _ x q _ HMm.out HW.out (HC4.out.below (HX.out.toBelow (Below.refl V.heap.size V) (Nat.le_refl _) (by simp)))).mono ?_
    rintro e X6 ⟨rfl, hbc⟩
    have HX2 := hide (HX.out.below hbc)
    refine hK.out _ _ (HSS.out _ HX2.out) (fun _ => ?_)
    clear hK K HS HX hbc 
    have HX := HX2
    have HS := hide (HSS.out _ HX.out)
    clear HX2
    refine wpAnyH_take (i := 4) (oi := _) (v := .string (valOut m x q)) rfl (by kernel_rfl) (by kernel_rfl) (by kernel_rfl) (fun _ _ _ h => h) (Or.inl ⟨by rfl, by intro w hSw; go_split_ands; go_simp⟩) HS.out ?_
    simp only [Act.put, List.getElem_toArray, List.getElem_cons_zero, List.getElem_cons_succ, List.setIfInBounds_toArray, List.set_cons_zero, List.set_cons_succ]
    refine wpAnyH_done (by kernel_rfl) ?_ _
    have HB6 := hide (HX.out.toBelow HB4.out HB4.out.size (by simp))
    have HC6 := hide (HC4.out.below (HX.out.toBelow (Below.refl V.heap.size V) (Nat.le_refl _) (by simp)))
    have HM6 := hide (HX.out.row HM4.out (by simp))
    have HP6 := hide (HX.out.row HP4.out (by simp))
    have HX6 := hide (HX.out.row HX4.out (by simp))
    clear HS HSS HX HM4 HP4 HX4 HC4 HB4
    have hown := toList_ownF (valOut m x q)
    generalize valOut m x q = OUT at *
    go_wp2_with fail
    have HSS := hide (show ∀ y, Kept [] X6 y → (fun y : World => y.cell? ⟨G, 0, none⟩ = some (.string m) ∧ y.cell? ⟨G, 1, none⟩ = some (.slice p4 x.length c4) ∧ y.cell? ⟨w.heap.size, 0, none⟩ = some (.string m) ∧ y.cell? ⟨w.heap.size, 1, none⟩ = some (.slice p x.length c) ∧ y.cell? ⟨K1, 0, none⟩ = some (.string q.seg) ∧ y.cell? ⟨K1, 1, none⟩ = some (.int .i64 q.nth) ∧ y.cell? ⟨K1, 2, none⟩ = some (.int .i64 q.fld) ∧ y.cell? ⟨K1, 3, none⟩ = some (.int .i64 q.rep) ∧ y.cell? ⟨K1, 4, none⟩ = some (.int .i64 q.comp) ∧ y.cell? ⟨K1, 5, none⟩ = some (.int .i64 q.sub)) y from fun y h => ⟨(h.row HX6.out (by simp)).cell 0, (h.row HX6.out (by simp)).cell 1, (h.row HM6.out (by simp)).cell 0, (h.row HM6.out (by simp)).cell 1, (h.row HP6.out (by simp)).cell 0, (h.row HP6.out (by simp)).cell 1, (h.row HP6.out (by simp)).cell 2, (h.row HP6.out (by simp)).cell 3, (h.row HP6.out (by simp)).cell 4, (h.row HP6.out (by simp)).cell 5⟩)
    refine wp_region_held (S := fun y : World => y.cell? ⟨G, 0, none⟩ = some (.string m) ∧ y.cell? ⟨G, 1, none⟩ = some (.slice p4 x.length c4) ∧ y.cell? ⟨w.heap.size, 0, none⟩ = some (.string m) ∧ y.cell? ⟨w.heap.size, 1, none⟩ = some (.slice p x.length c) ∧ y.cell? ⟨K1, 0, none⟩ = some (.string q.seg) ∧ y.cell? ⟨K1, 1, none⟩ = some (.int .i64 q.nth) ∧ y.cell? ⟨K1, 2, none⟩ = some (.int .i64 q.fld) ∧ y.cell? ⟨K1, 3, none⟩ = some (.int .i64 q.rep) ∧ y.cell? ⟨K1, 4, none⟩ = some (.int .i64 q.comp) ∧ y.cell? ⟨K1, 5, none⟩ = some (.int .i64 q.sub)) (by kernel_rfl) ?_
    have HX : Hid (Kept [] X6 { X6 with drawn := X6.drawn + 1 }) := (Kept.refl _ _).drewP
    generalize ({ X6 with drawn := X6.drawn + 1 } : World) = X0 at HX ⊢
    have HS := hide (HSS.out _ HX.out)
    refine wpAnyH_take (i := 0) (oi := _) (v := .agg #[.string m, .slice p4 x.length c4]) rfl (by kernel_rfl) (by kernel_rfl) (by kernel_rfl) (fun _ _ _ h => h) (Or.inl ⟨by rfl, by intro w hSw; go_split_ands; go_simp⟩) HS.out ?_
    simp only [Act.put, List.getElem_toArray, List.getElem_cons_zero, List.setIfInBounds_toArray, List.set_cons_zero, List.set_cons_succ]
    refine wpAnyH_take (i := 1) (oi := _) (v := .agg #[.string m, .slice p x.length c]) rfl (by kernel_rfl) (by kernel_rfl) (by kernel_rfl) (fun _ _ _ h => h) (Or.inl ⟨by rfl, by intro w hSw; go_split_ands; go_simp⟩) HS.out ?_
    simp only [Act.put, List.getElem_toArray, List.getElem_cons_zero, List.getElem_cons_succ, List.setIfInBounds_toArray, List.set_cons_zero, List.set_cons_succ]
    refine wpAnyH_ready (rs := [2]) (by kernel_rfl) (by simp) ?_
    refine AllReadyH.cons (o := _) rfl (fun K hK => ?_) AllReadyH.nil
    go_simp
    refine (toMessage_any m _ x _ HW.out (HR.out.below (HX.out.toBelow HB6.out HB6.out.size (by simp)))).mono ?_
    rintro e X7 ⟨p7, c7, rfl, hrm, hbc⟩
    have HX2 := hide (HX.out.below hbc)
    have HCM := hide (RSegs.mono hrm (Nat.zero_le _))
    refine hK.out _ _ (HSS.out _ HX2.out) (fun _ => ?_)
    clear hK K HS HX hbc hrm
    have HX := HX2
    have HS := hide (HSS.out _ HX.out)
    clear HX2
    refine wpAnyH_ready (rs := [3]) (by kernel_rfl) (by simp) ?_
    refine AllReadyH.cons (o := _) rfl (fun K hK => ?_) AllReadyH.nil
    go_simp
    refine (eqMessage_same m _ _ x 0 0 _ HW.out (HC6.out.below (HX.out.toBelow (Below.refl X6.heap.size X6) (Nat.le_refl _) (by simp))) HCM.out).mono ?_
    rintro e X8 ⟨rfl, hbc⟩
    have HX2 := hide (HX.out.below hbc)
    refine hK.out _ _ (HSS.out _ HX2.out) (fun _ => ?_)
    clear hK K HS HX hbc 
    have HX := HX2
    have HS := hide (HSS.out _ HX.out)
    clear HX2
    refine wpAnyH_take (i := 4) (oi := _) (v := .bool false) rfl (by kernel_rfl) (by kernel_rfl) (by kernel_rfl) (fun _ _ _ h => h) (Or.inl ⟨by rfl, by intro w hSw; go_split_ands; go_simp⟩) HS.out ?_
    simp only [Act.put, List.getElem_toArray, List.getElem_cons_zero, List.getElem_cons_succ, List.setIfInBounds_toArray, List.set_cons_zero, List.set_cons_succ]
    refine wpAnyH_done (by kernel_rfl) ?_ _
    have HB8 := hide (HX.out.toBelow HB6.out HB6.out.size (by simp))
    clear HS HSS HX
    go_wp2
    go_ret
    exact ⟨rfl, HB8.out⟩
end Go.Proofs.Ytnkddbkfbhpinaa
