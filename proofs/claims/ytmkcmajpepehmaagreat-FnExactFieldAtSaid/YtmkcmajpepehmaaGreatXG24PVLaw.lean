/- The law of ValueAt out of the contracts. -/
import Derived.Test.YtmkcmajpepehmaaGreatXG21PVal2
import Derived.Test.YtmkcmajpepehmaaGreatXG23PLaw
import Derived.Test.YtmkcmajpepehmaaGreatXG22OSeg
import Derived.Deep.DeepCutAuto
import Derived.Deep.RegionHeld3
import Derived.OrdersHeld
namespace Go.Proofs.YtmkcmajpepehmaaGreat
open Go.RowKit
theorem szPath_left (p : PathM) (left : Int) (w : World) (hn : p.seg.size ≤ maxLen) (h0 : 0 ≤ left) (h1 : left ≤ 1048576) :
    Calls Tryz.prog 7 #[p.v, .int .i64 left] w fun e w' => e = .returned (.int .i64 (if (left - (p.seg.size : Int)) < 0 then -1 else left - (p.seg.size : Int))) ∧ Below w.heap.size w w' := by
  unfold maxLen at hn
  obtain ⟨s, n, f, r, c, b⟩ := p
  unfold PathM.v
  simp only at hn ⊢
  have HB := hide (show Below w.heap.size w (w.alloc (.cells #[.string s, .int .i64 n, .int .i64 f, .int .i64 r, .int .i64 c, .int .i64 b] 26)) from (Below.refl _ _).alloc (Nat.le_refl _) _)
  have hwr : IntKind.i64.wrap (left - (s.size : Int)) = left - (s.size : Int) := by rw [IntKind.wrap_i64]; omega
  by_cases h : (left - (s.size : Int)) < 0
  · rw [if_pos h]
    go_enter Tryz.func7, Tryz.ntmps7
    go_wp2
    go_ret
    exact ⟨rfl, HB.out⟩
  · rw [if_neg h]
    go_enter Tryz.func7, Tryz.ntmps7
    go_wp2
    go_ret
    exact ⟨rfl, HB.out⟩
theorem toList_ownF (s : ByteArray) : (s.toList == s.toList) = true := by simp

end Go.Proofs.YtmkcmajpepehmaaGreat
/- The law of FieldAt. -/
namespace Go.Proofs.YtmkcmajpepehmaaGreat
open Go.RowKit
theorem SameIn.setO {lo hi g j : Nat} (w : World) (v : Value) (h : g < lo ∨ hi ≤ g) : SameIn lo hi w (w.setCell ⟨g, j, none⟩ v) := fun k h1 h2 _ => Below.heap_setCell w ⟨g, j, none⟩ v k (by show k ≠ g; omega)
theorem OFld.isSlice {lo hi : Nat} {w : World} {v : Value} {x : List (List (List ByteArray))} (h : OFld lo hi w v x) : ∃ p c, v = .slice p x.length c := OL.isSlice h
set_option maxHeartbeats 1000000 in
theorem markField_own (lo hi : Nat) (v : Value) (x : List (List (List ByteArray))) (k : Nat) (w : World) (hn : wFld x ≤ 1048576) (hk : k + wFld x ≤ 4000000) (hr : OFld lo hi w v x) :
    Calls Tryz.prog 15 #[.agg #[v], .int .i64 (k : Int)] w fun e w' => e = .returned (.int .i64 ((k + cntF x : Nat) : Int)) ∧ OFld lo hi w' v (mkF k x) ∧ Within lo hi w w' := by
  obtain ⟨p, c, rfl⟩ := OL.isSlice hr
  have hb0 : Below w.heap.size w (w.alloc (.cells #[.slice p x.length c] 31)) := (Below.refl _ _).alloc (Nat.le_refl _) _
  have HB0 := hide hb0
  have HR := hide (Keeps.go (SameIn.ofBelow hb0) hr)
  clear hr hb0
  go_enter Tryz.func15, Tryz.ntmps15
  go_wp2_with fail
  refine (markRepS_own lo hi _ x k _ hn hk HR.out).mono ?_
  rintro e w1 ⟨rfl, hok, hw⟩
  have HO := hide hok
  have HW := hide ((Within.ofBelow HB0.out).trans hw)
  clear hok hw
  go_wp2
  go_ret
  exact ⟨rfl, HO.out, HW.out⟩
set_option maxHeartbeats 1000000 in
theorem heldField_own (lo hi : Nat) (v : Value) (x : List (List (List ByteArray))) (k : Nat) (w : World) (hn : wFld x ≤ 1048576) (hk : k + wFld x ≤ 4000000) (hr : OFld lo hi w v (mkF k x)) :
    Calls Tryz.prog 16 #[.agg #[v], .int .i64 (k : Int)] w fun e w' => e = .returned (.int .i64 ((k + cntF x : Nat) : Int)) ∧ Below w.heap.size w w' := by
  have hml : (mkF k x).length = x.length := mkL_len cntR mkR x k
  obtain ⟨p, c, hv⟩ := OL.isSlice hr
  rw [hml] at hv
  subst hv
  clear hml
  have hb0 : Below w.heap.size w (w.alloc (.cells #[.slice p x.length c] 31)) := (Below.refl _ _).alloc (Nat.le_refl _) _
  have HB0 := hide hb0
  have HR := hide (Keeps.go (SameIn.ofBelow hb0) hr)
  clear hr hb0
  go_enter Tryz.func16, Tryz.ntmps16
  go_wp2_with fail
  refine (heldRepS_own lo hi _ x k _ hn hk HR.out).mono ?_
  rintro e w1 ⟨rfl, hb⟩
  have HB := hide (HB0.out.trans (hb.mono HB0.out.size))
  have hpos : ¬ (((k + cntL cntR x : Nat) : Int)) < 0 := by omega
  clear hb
  go_wp2
  go_ret
  exact ⟨rfl, HB.out⟩
set_option maxHeartbeats 8000000 in
set_option maxRecDepth 100000 in
theorem lawFieldAt (m : ByteArray) (u : Value) (x : List Seg) (q : PathM) (w : World) (hm : m.size ≤ maxLen) (hr : RSegs 0 w u x) (hq : q.seg.size ≤ maxLen) :
    Calls Tryz.prog 3 #[.agg #[.string m, u], q.v] w fun e w' => e = .returned (.bool true) ∧ Below w.heap.size w w' := by
  have HR := hide hr
  have HMm := hide hm
  have HQm := hide hq
  obtain ⟨p, c, rfl⟩ := hr.isSlice
  clear hr hm hq
  obtain ⟨W, hW⟩ : ∃ W, W = (w.alloc (.cells #[.string m, .slice p x.length c] 24)).alloc (.cells #[.string q.seg, .int .i64 q.nth, .int .i64 q.fld, .int .i64 q.rep, .int .i64 q.comp, .int .i64 q.sub] 26) := ⟨_, rfl⟩
  have hB0 : Below w.heap.size w W := by rw [hW]; exact ((Below.refl _ _).alloc (Nat.le_refl _) _).alloc (by simp) _
  have HB0 := hide hB0
  have HM : Hid (Row W w.heap.size 24 [.string m, .slice p x.length c]) := by rw [hW]; exact (row_new w [.string m, .slice p x.length c] 24).alloc _
  have HP : Hid (Row W (w.heap.size + 1) 26 [.string q.seg, .int .i64 q.nth, .int .i64 q.fld, .int .i64 q.rep, .int .i64 q.comp, .int .i64 q.sub]) := by
    rw [hW]
    have := row_new (w.alloc (.cells #[.string m, .slice p x.length c] 24)) [.string q.seg, .int .i64 q.nth, .int .i64 q.fld, .int .i64 q.rep, .int .i64 q.comp, .int .i64 q.sub] 26
    exact hide (by simpa using this)
  clear hB0
  have HV : Hid (q.v = .agg #[.string q.seg, .int .i64 q.nth, .int .i64 q.fld, .int .i64 q.rep, .int .i64 q.comp, .int .i64 q.sub]) := rfl
  rw [HV.out]
  go_enter Tryz.func3, Tryz.ntmps3
  go_wp2_with fail
  rw [← hW]
  clear hW
  generalize w.heap.size + 1 = K1 at *
  refine (szMessage_any m _ x 1048576 _ HMm.out (by omega) (by omega) (HR.out.below HB0.out)).mono ?_
  rintro e w1 ⟨rfl, hb1⟩
  have HB1 := hide (HB0.out.trans (hb1.mono HB0.out.size))
  have HM1 := hide (HM.out.below hb1 HM.out.lt)
  have HP1 := hide (HP.out.below hb1 HP.out.lt)
  clear hb1
  by_cases hsz : (((m.size + wSegs x) : Nat) : Int) ≤ 1048576
  case neg =>
    rw [szOf_no hsz]
    go_wp2
    go_ret
    exact ⟨rfl, HB1.out⟩
  rw [szOf_yes hsz]
  have HW := hide (show wSegs x ≤ 1048576 by omega)
  have h0 : ¬ (1048576 - (((m.size + wSegs x) : Nat) : Int)) < 0 := by omega
  have h1 : (1048576 - (((m.size + wSegs x) : Nat) : Int)) ≤ 1048576 := by omega
  clear hsz
  generalize (1048576 - (((m.size + wSegs x) : Nat) : Int)) = L at h0 h1
  have HL := hide (show 0 ≤ L ∧ L ≤ 1048576 by omega)
  clear h1
  have a0 : w1.cell? ⟨K1, 0, none⟩ = some (.string q.seg) := HP1.out.cell 0
  have a1 : w1.cell? ⟨K1, 1, none⟩ = some (.int .i64 q.nth) := HP1.out.cell 1
  have a2 : w1.cell? ⟨K1, 2, none⟩ = some (.int .i64 q.fld) := HP1.out.cell 2
  have a3 : w1.cell? ⟨K1, 3, none⟩ = some (.int .i64 q.rep) := HP1.out.cell 3
  have a4 : w1.cell? ⟨K1, 4, none⟩ = some (.int .i64 q.comp) := HP1.out.cell 4
  have a5 : w1.cell? ⟨K1, 5, none⟩ = some (.int .i64 q.sub) := HP1.out.cell 5
  go_wp2_with fail
  rw [← HV.out]
  refine (szPath_left q L _ HQm.out HL.out.1 HL.out.2).mono ?_
  rintro e w2 ⟨rfl, hb2⟩
  have HB2 := hide (HB1.out.trans (hb2.mono HB1.out.size))
  have HM2 := hide (HM1.out.below hb2 HM1.out.lt)
  have HP2 := hide (HP1.out.below hb2 HP1.out.lt)
  clear hb2 a0 a1 a2 a3 a4 a5 HM1 HP1 HB1 h0 HL
  by_cases hl : (L - (q.seg.size : Int)) < 0
  · rw [if_pos hl]
    go_wp2
    go_ret
    exact ⟨rfl, HB2.out⟩
  rw [if_neg hl]
  generalize L - (q.seg.size : Int) = L2 at *
  go_wp2_with fail
  have HSS := hide (show ∀ y, Below w2.heap.size w2 y → (fun y : World => y.cell? ⟨w.heap.size, 0, none⟩ = some (.string m) ∧ y.cell? ⟨w.heap.size, 1, none⟩ = some (.slice p x.length c) ∧ y.cell? ⟨K1, 0, none⟩ = some (.string q.seg) ∧ y.cell? ⟨K1, 1, none⟩ = some (.int .i64 q.nth) ∧ y.cell? ⟨K1, 2, none⟩ = some (.int .i64 q.fld) ∧ y.cell? ⟨K1, 3, none⟩ = some (.int .i64 q.rep) ∧ y.cell? ⟨K1, 4, none⟩ = some (.int .i64 q.comp) ∧ y.cell? ⟨K1, 5, none⟩ = some (.int .i64 q.sub)) y from fun y h => ⟨(HM2.out.below h HM2.out.lt).cell 0, (HM2.out.below h HM2.out.lt).cell 1, (HP2.out.below h HP2.out.lt).cell 0, (HP2.out.below h HP2.out.lt).cell 1, (HP2.out.below h HP2.out.lt).cell 2, (HP2.out.below h HP2.out.lt).cell 3, (HP2.out.below h HP2.out.lt).cell 4, (HP2.out.below h HP2.out.lt).cell 5⟩)
  have HBPRE := HB2
  go_cut [6] (fun t wz => ∃ (wx : World) (G : Nat) (v : Value) (LO HI : Nat), wx = wz ∧ t = .pointer (some ⟨G, 0, none⟩) ∧ Hid (Row wx G 31 [v]) ∧ Hid (OFld LO HI wx v (fldOut m x q)) ∧ Hid (w2.heap.size ≤ LO ∧ HI ≤ wx.heap.size ∧ w2.heap.size ≤ G ∧ (G < LO ∨ HI ≤ G)) ∧ Hid (Below w2.heap.size w2 wx))
  case first =>
    refine wp_region_held (S := (fun y : World => y.cell? ⟨w.heap.size, 0, none⟩ = some (.string m) ∧ y.cell? ⟨w.heap.size, 1, none⟩ = some (.slice p x.length c) ∧ y.cell? ⟨K1, 0, none⟩ = some (.string q.seg) ∧ y.cell? ⟨K1, 1, none⟩ = some (.int .i64 q.nth) ∧ y.cell? ⟨K1, 2, none⟩ = some (.int .i64 q.fld) ∧ y.cell? ⟨K1, 3, none⟩ = some (.int .i64 q.rep) ∧ y.cell? ⟨K1, 4, none⟩ = some (.int .i64 q.comp) ∧ y.cell? ⟨K1, 5, none⟩ = some (.int .i64 q.sub))) (by kernel_rfl) ?_
    have hbd : Below w2.heap.size w2 { w2 with drawn := w2.drawn + 1 } := (Below.refl _ _).drew
    generalize ({ w2 with drawn := w2.drawn + 1 } : World) = Z0 at hbd ⊢
    have HB0_0 := hide hbd
    clear hbd
    have HS := hide (HSS.out _ HB0_0.out)
    refine wpAnyH_take (i := 0) (oi := _) (v := .agg #[.string m, .slice p x.length c]) rfl (by kernel_rfl) (by kernel_rfl) (by kernel_rfl) (fun _ _ _ h => h) (Or.inl ⟨by rfl, by intro w hSw; go_split_ands; go_simp⟩) HS.out ?_
    simp only [Act.put, List.getElem_toArray, List.getElem_cons_zero, List.setIfInBounds_toArray, List.set_cons_zero, List.set_cons_succ]
    refine wpAnyH_take (i := 2) (oi := _) (v := .agg #[.string q.seg, .int .i64 q.nth, .int .i64 q.fld, .int .i64 q.rep, .int .i64 q.comp, .int .i64 q.sub]) rfl (by kernel_rfl) (by kernel_rfl) (by kernel_rfl) (fun _ _ _ h => h) (Or.inl ⟨by rfl, by intro w hSw; go_split_ands; go_simp⟩) HS.out ?_
    simp only [Act.put, List.getElem_toArray, List.getElem_cons_zero, List.getElem_cons_succ, List.setIfInBounds_toArray, List.set_cons_zero, List.set_cons_succ]
    refine wpAnyH_ready (rs := [1, 5]) (by kernel_rfl) (by simp) ?_
    refine AllReadyH.cons (o := _) rfl (fun K hK => ?_) (AllReadyH.cons (o := _) rfl (fun K hK => ?_) AllReadyH.nil)
    · go_simp
      refine (toMessage_any m _ x _ HW.out (HR.out.below (HBPRE.out.trans (HB0_0.out.mono HBPRE.out.size)))).mono ?_
      rintro e Z1 ⟨p6, c6, rfl, hr6, hbc⟩
      have HC := hide (RSegs.mono hr6 (Nat.zero_le _))
      have HB0_1 := hide (HB0_0.out.trans (hbc.mono HB0_0.out.size))
      have HB1_1 := hide (Below.refl Z1.heap.size Z1)
      clear hr6 hbc
      refine hK.out _ _ (HSS.out _ HB0_1.out) (fun _ => ?_)
      clear hK K HS
      have HS := hide (HSS.out _ HB0_1.out)
      refine wpAnyH_ready (rs := [3, 5]) (by kernel_rfl) (by simp) ?_
      refine AllReadyH.cons (o := _) rfl (fun K hK => ?_) (AllReadyH.cons (o := _) rfl (fun K hK => ?_) AllReadyH.nil)
      · go_simp
        rw [← HV.out]
        refine (toPath_any q _).mono ?_
        rintro e Z2 ⟨rfl, hbc⟩
        have HB0_2 := hide (HB0_1.out.trans (hbc.mono HB0_1.out.size))
        have HB1_2 := hide (HB1_1.out.trans (hbc.mono HB1_1.out.size))
        clear hbc
        refine hK.out _ _ (HSS.out _ HB0_2.out) (fun _ => ?_)
        clear hK K HS
        have HS := hide (HSS.out _ HB0_2.out)
        refine wpAnyH_ready (rs := [4, 5]) (by kernel_rfl) (by simp) ?_
        refine AllReadyH.cons (o := _) rfl (fun K hK => ?_) (AllReadyH.cons (o := _) rfl (fun K hK => ?_) AllReadyH.nil)
        · go_simp
          refine (specFieldAt_any m _ x q _ HMm.out HW.out (HC.out.below HB1_2.out)).mono ?_
          rintro e Z3 ⟨v0, rfl, ho, hbc⟩
          obtain ⟨p9, c9, rfl⟩ := ho.isSlice
          have HO := hide ho
          have HB0_3 := hide (HB0_2.out.trans (hbc.mono HB0_2.out.size))
          have HB1_3 := hide (HB1_2.out.trans (hbc.mono HB1_2.out.size))
          have HB3_3 := hide (Below.refl Z3.heap.size Z3)
          have HLO := hide (show w2.heap.size ≤ Z2.heap.size from HB0_2.out.size)
          obtain ⟨LO, hLO⟩ : ∃ LO, LO = Z2.heap.size := ⟨_, rfl⟩
          obtain ⟨HI, hHI⟩ : ∃ HI, HI = Z3.heap.size := ⟨_, rfl⟩
          rw [← hLO, ← hHI] at HO
          rw [← hLO] at HLO
          have HHI := hide (show HI ≤ Z3.heap.size from Nat.le_of_eq hHI)
          clear ho hbc hLO hHI
          refine hK.out _ _ (HSS.out _ HB0_3.out) (fun _ => ?_)
          clear hK K HS
          have HS := hide (HSS.out _ HB0_3.out)
          refine wpAnyH_ready (rs := [5]) (by kernel_rfl) (by simp) ?_
          refine AllReadyH.cons (o := _) rfl (fun K hK => ?_) AllReadyH.nil
          go_simp
          have hbc : Below Z3.heap.size Z3 (Z3.alloc (.cells #[.slice none 0 0] 31)) := (Below.refl _ _).alloc (Nat.le_refl _) _
          have HRG := hide (row_new Z3 [.slice none 0 0] 31)
          have HGS : Hid (Z3.heap.size < (Z3.alloc (.cells #[.slice none 0 0] 31)).heap.size) := hide (by simp)
          have HGB := hide (show w2.heap.size ≤ Z3.heap.size from HB0_3.out.size)
          have HGL := hide (show Z3.heap.size < LO ∨ HI ≤ Z3.heap.size from .inr (Nat.le_trans HHI.out HB3_3.out.size))
          refine hK.out _ _ (HSS.out _ (HB0_3.out.trans (hbc.mono HB0_3.out.size))) (fun _ => ?_)
          clear hK K HS
          obtain ⟨Z4, hZ⟩ : ∃ Z, Z = Z3.alloc (.cells #[.slice none 0 0] 31) := ⟨_, rfl⟩
          obtain ⟨G, hG⟩ : ∃ G, G = Z3.heap.size := ⟨_, rfl⟩
          rw [← hZ] at hbc HRG HGS ⊢
          have HB0_4 := hide (HB0_3.out.trans (hbc.mono HB0_3.out.size))
          have HB1_4 := hide (HB1_3.out.trans (hbc.mono HB1_3.out.size))
          have HB3_4 := hide (HB3_3.out.trans (hbc.mono HB3_3.out.size))
          have HB4_4 := hide (Below.refl Z4.heap.size Z4)
          rw [← hG] at HRG HGS HGB HGL ⊢
          clear hZ hG hbc
          have HS := hide (HSS.out _ HB0_4.out)
          refine wpAnyH_ready (rs := [6]) (by kernel_rfl) (by simp) ?_
          refine AllReadyH.cons (o := _) rfl (fun K hK => ?_) AllReadyH.nil
          have rowz := HRG.out.below HB4_4.out HGS.out
          have g0 : Z4.cell? ⟨G, 0, none⟩ = some (.slice none 0 0) := rowz.cell 0
          have gf := rowz.free 0
          have HOZ := hide (Keeps.go (SameIn.ofBelow HB3_4.out) HO.out)
          have HHZ := hide (Nat.le_trans HHI.out HB3_4.out.size)
          have HRZ := hide (rowz.set (j := 0) (.slice p9 (fldOut m x q).length c9))
          have HBZ := hide (HB0_4.out.setCell (p := ⟨G, 0, none⟩) HGB.out (.slice p9 (fldOut m x q).length c9))
          have es : (Z4.setCell ⟨G, 0, none⟩ (.slice p9 (fldOut m x q).length c9)).heap.size = Z4.heap.size := by simp [World.setCell]
          have HOF := hide (Keeps.go (SameIn.setO Z4 (j := 0) (.slice p9 (fldOut m x q).length c9) HGL.out) HOZ.out)
          have HFF2 := hide (show w2.heap.size ≤ LO ∧ HI ≤ (Z4.setCell ⟨G, 0, none⟩ (.slice p9 (fldOut m x q).length c9)).heap.size ∧ w2.heap.size ≤ G ∧ (G < LO ∨ HI ≤ G) from ⟨HLO.out, by rw [es]; exact HHZ.out, HGB.out, HGL.out⟩)
          clear rowz es
          go_simp
          refine hK.out _ _ (HSS.out _ HBZ.out) (fun _ => ?_)
          clear hK K HS
          refine wpAnyH_done (by kernel_rfl) ?_ _
          go_wp2_with fail
          go_meet
          exact ⟨_, G, _, LO, HI, rfl, rfl, HRZ, HOF, HFF2, HBZ⟩
        · go_simp
          have hbc : Below Z2.heap.size Z2 (Z2.alloc (.cells #[.slice none 0 0] 31)) := (Below.refl _ _).alloc (Nat.le_refl _) _
          have HRG := hide (row_new Z2 [.slice none 0 0] 31)
          have HGS : Hid (Z2.heap.size < (Z2.alloc (.cells #[.slice none 0 0] 31)).heap.size) := hide (by simp)
          have HGB := hide (show w2.heap.size ≤ Z2.heap.size from HB0_2.out.size)
          refine hK.out _ _ (HSS.out _ (HB0_2.out.trans (hbc.mono HB0_2.out.size))) (fun _ => ?_)
          clear hK K HS
          obtain ⟨Z3, hZ⟩ : ∃ Z, Z = Z2.alloc (.cells #[.slice none 0 0] 31) := ⟨_, rfl⟩
          obtain ⟨G, hG⟩ : ∃ G, G = Z2.heap.size := ⟨_, rfl⟩
          rw [← hZ] at hbc HRG HGS ⊢
          have HB0_3 := hide (HB0_2.out.trans (hbc.mono HB0_2.out.size))
          have HB1_3 := hide (HB1_2.out.trans (hbc.mono HB1_2.out.size))
          have HB3_3 := hide (Below.refl Z3.heap.size Z3)
          rw [← hG] at HRG HGS HGB ⊢
          clear hZ hG hbc
          have HS := hide (HSS.out _ HB0_3.out)
          refine wpAnyH_ready (rs := [4]) (by kernel_rfl) (by simp) ?_
          refine AllReadyH.cons (o := _) rfl (fun K hK => ?_) AllReadyH.nil
          go_simp
          refine (specFieldAt_any m _ x q _ HMm.out HW.out (HC.out.below HB1_3.out)).mono ?_
          rintro e Z4 ⟨v0, rfl, ho, hbc⟩
          obtain ⟨p9, c9, rfl⟩ := ho.isSlice
          have HO := hide ho
          have HB0_4 := hide (HB0_3.out.trans (hbc.mono HB0_3.out.size))
          have HB1_4 := hide (HB1_3.out.trans (hbc.mono HB1_3.out.size))
          have HB3_4 := hide (HB3_3.out.trans (hbc.mono HB3_3.out.size))
          have HB4_4 := hide (Below.refl Z4.heap.size Z4)
          have HLO := hide (show w2.heap.size ≤ Z3.heap.size from HB0_3.out.size)
          have HGL := hide (show G < Z3.heap.size ∨ Z4.heap.size ≤ G from .inl (Nat.lt_of_lt_of_le HGS.out HB3_3.out.size))
          obtain ⟨LO, hLO⟩ : ∃ LO, LO = Z3.heap.size := ⟨_, rfl⟩
          obtain ⟨HI, hHI⟩ : ∃ HI, HI = Z4.heap.size := ⟨_, rfl⟩
          rw [← hLO, ← hHI] at HO
          rw [← hLO] at HLO
          rw [← hLO, ← hHI] at HGL
          have HHI := hide (show HI ≤ Z4.heap.size from Nat.le_of_eq hHI)
          clear ho hbc hLO hHI
          refine hK.out _ _ (HSS.out _ HB0_4.out) (fun _ => ?_)
          clear hK K HS
          have HS := hide (HSS.out _ HB0_4.out)
          refine wpAnyH_ready (rs := [6]) (by kernel_rfl) (by simp) ?_
          refine AllReadyH.cons (o := _) rfl (fun K hK => ?_) AllReadyH.nil
          have rowz := HRG.out.below HB3_4.out HGS.out
          have g0 : Z4.cell? ⟨G, 0, none⟩ = some (.slice none 0 0) := rowz.cell 0
          have gf := rowz.free 0
          have HOZ := hide (Keeps.go (SameIn.ofBelow HB4_4.out) HO.out)
          have HHZ := hide (Nat.le_trans HHI.out HB4_4.out.size)
          have HRZ := hide (rowz.set (j := 0) (.slice p9 (fldOut m x q).length c9))
          have HBZ := hide (HB0_4.out.setCell (p := ⟨G, 0, none⟩) HGB.out (.slice p9 (fldOut m x q).length c9))
          have es : (Z4.setCell ⟨G, 0, none⟩ (.slice p9 (fldOut m x q).length c9)).heap.size = Z4.heap.size := by simp [World.setCell]
          have HOF := hide (Keeps.go (SameIn.setO Z4 (j := 0) (.slice p9 (fldOut m x q).length c9) HGL.out) HOZ.out)
          have HFF2 := hide (show w2.heap.size ≤ LO ∧ HI ≤ (Z4.setCell ⟨G, 0, none⟩ (.slice p9 (fldOut m x q).length c9)).heap.size ∧ w2.heap.size ≤ G ∧ (G < LO ∨ HI ≤ G) from ⟨HLO.out, by rw [es]; exact HHZ.out, HGB.out, HGL.out⟩)
          clear rowz es
          go_simp
          refine hK.out _ _ (HSS.out _ HBZ.out) (fun _ => ?_)
          clear hK K HS
          refine wpAnyH_done (by kernel_rfl) ?_ _
          go_wp2_with fail
          go_meet
          exact ⟨_, G, _, LO, HI, rfl, rfl, HRZ, HOF, HFF2, HBZ⟩
      · go_simp
        have hbc : Below Z1.heap.size Z1 (Z1.alloc (.cells #[.slice none 0 0] 31)) := (Below.refl _ _).alloc (Nat.le_refl _) _
        have HRG := hide (row_new Z1 [.slice none 0 0] 31)
        have HGS : Hid (Z1.heap.size < (Z1.alloc (.cells #[.slice none 0 0] 31)).heap.size) := hide (by simp)
        have HGB := hide (show w2.heap.size ≤ Z1.heap.size from HB0_1.out.size)
        refine hK.out _ _ (HSS.out _ (HB0_1.out.trans (hbc.mono HB0_1.out.size))) (fun _ => ?_)
        clear hK K HS
        obtain ⟨Z2, hZ⟩ : ∃ Z, Z = Z1.alloc (.cells #[.slice none 0 0] 31) := ⟨_, rfl⟩
        obtain ⟨G, hG⟩ : ∃ G, G = Z1.heap.size := ⟨_, rfl⟩
        rw [← hZ] at hbc HRG HGS ⊢
        have HB0_2 := hide (HB0_1.out.trans (hbc.mono HB0_1.out.size))
        have HB1_2 := hide (HB1_1.out.trans (hbc.mono HB1_1.out.size))
        have HB2_2 := hide (Below.refl Z2.heap.size Z2)
        rw [← hG] at HRG HGS HGB ⊢
        clear hZ hG hbc
        have HS := hide (HSS.out _ HB0_2.out)
        refine wpAnyH_ready (rs := [3]) (by kernel_rfl) (by simp) ?_
        refine AllReadyH.cons (o := _) rfl (fun K hK => ?_) AllReadyH.nil
        go_simp
        rw [← HV.out]
        refine (toPath_any q _).mono ?_
        rintro e Z3 ⟨rfl, hbc⟩
        have HB0_3 := hide (HB0_2.out.trans (hbc.mono HB0_2.out.size))
        have HB1_3 := hide (HB1_2.out.trans (hbc.mono HB1_2.out.size))
        have HB2_3 := hide (HB2_2.out.trans (hbc.mono HB2_2.out.size))
        clear hbc
        refine hK.out _ _ (HSS.out _ HB0_3.out) (fun _ => ?_)
        clear hK K HS
        have HS := hide (HSS.out _ HB0_3.out)
        refine wpAnyH_ready (rs := [4]) (by kernel_rfl) (by simp) ?_
        refine AllReadyH.cons (o := _) rfl (fun K hK => ?_) AllReadyH.nil
        go_simp
        refine (specFieldAt_any m _ x q _ HMm.out HW.out (HC.out.below HB1_3.out)).mono ?_
        rintro e Z4 ⟨v0, rfl, ho, hbc⟩
        obtain ⟨p9, c9, rfl⟩ := ho.isSlice
        have HO := hide ho
        have HB0_4 := hide (HB0_3.out.trans (hbc.mono HB0_3.out.size))
        have HB1_4 := hide (HB1_3.out.trans (hbc.mono HB1_3.out.size))
        have HB2_4 := hide (HB2_3.out.trans (hbc.mono HB2_3.out.size))
        have HB4_4 := hide (Below.refl Z4.heap.size Z4)
        have HLO := hide (show w2.heap.size ≤ Z3.heap.size from HB0_3.out.size)
        have HGL := hide (show G < Z3.heap.size ∨ Z4.heap.size ≤ G from .inl (Nat.lt_of_lt_of_le HGS.out HB2_3.out.size))
        obtain ⟨LO, hLO⟩ : ∃ LO, LO = Z3.heap.size := ⟨_, rfl⟩
        obtain ⟨HI, hHI⟩ : ∃ HI, HI = Z4.heap.size := ⟨_, rfl⟩
        rw [← hLO, ← hHI] at HO
        rw [← hLO] at HLO
        rw [← hLO, ← hHI] at HGL
        have HHI := hide (show HI ≤ Z4.heap.size from Nat.le_of_eq hHI)
        clear ho hbc hLO hHI
        refine hK.out _ _ (HSS.out _ HB0_4.out) (fun _ => ?_)
        clear hK K HS
        have HS := hide (HSS.out _ HB0_4.out)
        refine wpAnyH_ready (rs := [6]) (by kernel_rfl) (by simp) ?_
        refine AllReadyH.cons (o := _) rfl (fun K hK => ?_) AllReadyH.nil
        have rowz := HRG.out.below HB2_4.out HGS.out
        have g0 : Z4.cell? ⟨G, 0, none⟩ = some (.slice none 0 0) := rowz.cell 0
        have gf := rowz.free 0
        have HOZ := hide (Keeps.go (SameIn.ofBelow HB4_4.out) HO.out)
        have HHZ := hide (Nat.le_trans HHI.out HB4_4.out.size)
        have HRZ := hide (rowz.set (j := 0) (.slice p9 (fldOut m x q).length c9))
        have HBZ := hide (HB0_4.out.setCell (p := ⟨G, 0, none⟩) HGB.out (.slice p9 (fldOut m x q).length c9))
        have es : (Z4.setCell ⟨G, 0, none⟩ (.slice p9 (fldOut m x q).length c9)).heap.size = Z4.heap.size := by simp [World.setCell]
        have HOF := hide (Keeps.go (SameIn.setO Z4 (j := 0) (.slice p9 (fldOut m x q).length c9) HGL.out) HOZ.out)
        have HFF2 := hide (show w2.heap.size ≤ LO ∧ HI ≤ (Z4.setCell ⟨G, 0, none⟩ (.slice p9 (fldOut m x q).length c9)).heap.size ∧ w2.heap.size ≤ G ∧ (G < LO ∨ HI ≤ G) from ⟨HLO.out, by rw [es]; exact HHZ.out, HGB.out, HGL.out⟩)
        clear rowz es
        go_simp
        refine hK.out _ _ (HSS.out _ HBZ.out) (fun _ => ?_)
        clear hK K HS
        refine wpAnyH_done (by kernel_rfl) ?_ _
        go_wp2_with fail
        go_meet
        exact ⟨_, G, _, LO, HI, rfl, rfl, HRZ, HOF, HFF2, HBZ⟩
    · go_simp
      have hbc : Below Z0.heap.size Z0 (Z0.alloc (.cells #[.slice none 0 0] 31)) := (Below.refl _ _).alloc (Nat.le_refl _) _
      have HRG := hide (row_new Z0 [.slice none 0 0] 31)
      have HGS : Hid (Z0.heap.size < (Z0.alloc (.cells #[.slice none 0 0] 31)).heap.size) := hide (by simp)
      have HGB := hide (show w2.heap.size ≤ Z0.heap.size from HB0_0.out.size)
      refine hK.out _ _ (HSS.out _ (HB0_0.out.trans (hbc.mono HB0_0.out.size))) (fun _ => ?_)
      clear hK K HS
      obtain ⟨Z1, hZ⟩ : ∃ Z, Z = Z0.alloc (.cells #[.slice none 0 0] 31) := ⟨_, rfl⟩
      obtain ⟨G, hG⟩ : ∃ G, G = Z0.heap.size := ⟨_, rfl⟩
      rw [← hZ] at hbc HRG HGS ⊢
      have HB0_1 := hide (HB0_0.out.trans (hbc.mono HB0_0.out.size))
      have HB1_1 := hide (Below.refl Z1.heap.size Z1)
      rw [← hG] at HRG HGS HGB ⊢
      clear hZ hG hbc
      have HS := hide (HSS.out _ HB0_1.out)
      refine wpAnyH_ready (rs := [1]) (by kernel_rfl) (by simp) ?_
      refine AllReadyH.cons (o := _) rfl (fun K hK => ?_) AllReadyH.nil
      go_simp
      refine (toMessage_any m _ x _ HW.out (HR.out.below (HBPRE.out.trans (HB0_1.out.mono HBPRE.out.size)))).mono ?_
      rintro e Z2 ⟨p6, c6, rfl, hr6, hbc⟩
      have HC := hide (RSegs.mono hr6 (Nat.zero_le _))
      have HB0_2 := hide (HB0_1.out.trans (hbc.mono HB0_1.out.size))
      have HB1_2 := hide (HB1_1.out.trans (hbc.mono HB1_1.out.size))
      have HB2_2 := hide (Below.refl Z2.heap.size Z2)
      clear hr6 hbc
      refine hK.out _ _ (HSS.out _ HB0_2.out) (fun _ => ?_)
      clear hK K HS
      have HS := hide (HSS.out _ HB0_2.out)
      refine wpAnyH_ready (rs := [3]) (by kernel_rfl) (by simp) ?_
      refine AllReadyH.cons (o := _) rfl (fun K hK => ?_) AllReadyH.nil
      go_simp
      rw [← HV.out]
      refine (toPath_any q _).mono ?_
      rintro e Z3 ⟨rfl, hbc⟩
      have HB0_3 := hide (HB0_2.out.trans (hbc.mono HB0_2.out.size))
      have HB1_3 := hide (HB1_2.out.trans (hbc.mono HB1_2.out.size))
      have HB2_3 := hide (HB2_2.out.trans (hbc.mono HB2_2.out.size))
      clear hbc
      refine hK.out _ _ (HSS.out _ HB0_3.out) (fun _ => ?_)
      clear hK K HS
      have HS := hide (HSS.out _ HB0_3.out)
      refine wpAnyH_ready (rs := [4]) (by kernel_rfl) (by simp) ?_
      refine AllReadyH.cons (o := _) rfl (fun K hK => ?_) AllReadyH.nil
      go_simp
      refine (specFieldAt_any m _ x q _ HMm.out HW.out (HC.out.below HB2_3.out)).mono ?_
      rintro e Z4 ⟨v0, rfl, ho, hbc⟩
      obtain ⟨p9, c9, rfl⟩ := ho.isSlice
      have HO := hide ho
      have HB0_4 := hide (HB0_3.out.trans (hbc.mono HB0_3.out.size))
      have HB1_4 := hide (HB1_3.out.trans (hbc.mono HB1_3.out.size))
      have HB2_4 := hide (HB2_3.out.trans (hbc.mono HB2_3.out.size))
      have HB4_4 := hide (Below.refl Z4.heap.size Z4)
      have HLO := hide (show w2.heap.size ≤ Z3.heap.size from HB0_3.out.size)
      have HGL := hide (show G < Z3.heap.size ∨ Z4.heap.size ≤ G from .inl (Nat.lt_of_lt_of_le HGS.out HB1_3.out.size))
      obtain ⟨LO, hLO⟩ : ∃ LO, LO = Z3.heap.size := ⟨_, rfl⟩
      obtain ⟨HI, hHI⟩ : ∃ HI, HI = Z4.heap.size := ⟨_, rfl⟩
      rw [← hLO, ← hHI] at HO
      rw [← hLO] at HLO
      rw [← hLO, ← hHI] at HGL
      have HHI := hide (show HI ≤ Z4.heap.size from Nat.le_of_eq hHI)
      clear ho hbc hLO hHI
      refine hK.out _ _ (HSS.out _ HB0_4.out) (fun _ => ?_)
      clear hK K HS
      have HS := hide (HSS.out _ HB0_4.out)
      refine wpAnyH_ready (rs := [6]) (by kernel_rfl) (by simp) ?_
      refine AllReadyH.cons (o := _) rfl (fun K hK => ?_) AllReadyH.nil
      have rowz := HRG.out.below HB1_4.out HGS.out
      have g0 : Z4.cell? ⟨G, 0, none⟩ = some (.slice none 0 0) := rowz.cell 0
      have gf := rowz.free 0
      have HOZ := hide (Keeps.go (SameIn.ofBelow HB4_4.out) HO.out)
      have HHZ := hide (Nat.le_trans HHI.out HB4_4.out.size)
      have HRZ := hide (rowz.set (j := 0) (.slice p9 (fldOut m x q).length c9))
      have HBZ := hide (HB0_4.out.setCell (p := ⟨G, 0, none⟩) HGB.out (.slice p9 (fldOut m x q).length c9))
      have es : (Z4.setCell ⟨G, 0, none⟩ (.slice p9 (fldOut m x q).length c9)).heap.size = Z4.heap.size := by simp [World.setCell]
      have HOF := hide (Keeps.go (SameIn.setO Z4 (j := 0) (.slice p9 (fldOut m x q).length c9) HGL.out) HOZ.out)
      have HFF2 := hide (show w2.heap.size ≤ LO ∧ HI ≤ (Z4.setCell ⟨G, 0, none⟩ (.slice p9 (fldOut m x q).length c9)).heap.size ∧ w2.heap.size ≤ G ∧ (G < LO ∨ HI ≤ G) from ⟨HLO.out, by rw [es]; exact HHZ.out, HGB.out, HGL.out⟩)
      clear rowz es
      go_simp
      refine hK.out _ _ (HSS.out _ HBZ.out) (fun _ => ?_)
      clear hK K HS
      refine wpAnyH_done (by kernel_rfl) ?_ _
      go_wp2_with fail
      go_meet
      exact ⟨_, G, _, LO, HI, rfl, rfl, HRZ, HOF, HFF2, HBZ⟩
  case rest =>
    obtain ⟨wa, G6, v0, LO6, HI6, rfl, rfl, HG6, HO6, HF6, HBa⟩ := hcut
    have HBw := hide (HB2.out.trans (HBa.out.mono HB2.out.size))
    have HMa := hide (HM2.out.below HBa.out HM2.out.lt)
    have HPa := hide (HP2.out.below HBa.out HP2.out.lt)
    have c0 : wa.cell? ⟨w.heap.size, 0, none⟩ = some (.string m) := HMa.out.cell 0
    have c1 : wa.cell? ⟨w.heap.size, 1, none⟩ = some (.slice p x.length c) := HMa.out.cell 1
    clear HSS HM2 HP2 HBPRE HBa HB2
    go_wp2_with fail
    refine (toMessage_own m _ x _ HW.out (HR.out.below HBw.out)).mono ?_
    rintro e w3 ⟨p7, c7, rfl, hr7, hb3⟩
    have hbn : Below w3.heap.size w3 (w3.alloc (.cells #[.string m, .slice p7 x.length c7] 35)) := (Below.refl _ _).alloc (Nat.le_refl _) _
    have hb37 := hb3.trans (hbn.mono hb3.size)
    have HBv := hide (HBw.out.trans (hb37.mono HBw.out.size))
    have HXv := hide (hr7.keep (SameIn.ofBelow hbn))
    have HRX := hide (row_new w3 [.string m, .slice p7 x.length c7] 35)
    have HMv := hide (HMa.out.below hb37 HMa.out.lt)
    have HPv := hide (HPa.out.below hb37 HPa.out.lt)
    have HG6v := hide (HG6.out.below hb37 HG6.out.lt)
    have HO6v := hide (Keeps.go (SameIn.ofBelow hb37) HO6.out)
    have HLW := hide (show w.heap.size < wa.heap.size ∧ K1 < wa.heap.size ∧ G6 < wa.heap.size ∧ HI6 ≤ wa.heap.size from ⟨HMa.out.lt, HPa.out.lt, HG6.out.lt, HF6.out.2.1⟩)
    have HL3 := hide (show wa.heap.size ≤ w3.heap.size from hb3.size)
    have HDv := hide hb37
    clear hr7 hb3 hbn hb37 c0 c1 HMa HPa HG6 HO6
    go_wp2_with fail
    have HV5 : Hid ((w3.alloc (.cells #[.string m, .slice p7 x.length c7] 35)).heap.size = w3.heap.size + 1) := hide (by simp)
    generalize hVV : w3.alloc (.cells #[.string m, .slice p7 x.length c7] 35) = V at *
    generalize hGG : w3.heap.size = G7 at *
    clear hVV hGG
    have HXB := hide (RSegs.mono HXv.out.rl (Nat.zero_le _))
    have HSS := hide (show ∀ y, Below V.heap.size V y → (fun y : World => y.cell? ⟨G7, 0, none⟩ = some (.string m) ∧ y.cell? ⟨G7, 1, none⟩ = some (.slice p7 x.length c7) ∧ y.cell? ⟨K1, 0, none⟩ = some (.string q.seg) ∧ y.cell? ⟨K1, 1, none⟩ = some (.int .i64 q.nth) ∧ y.cell? ⟨K1, 2, none⟩ = some (.int .i64 q.fld) ∧ y.cell? ⟨K1, 3, none⟩ = some (.int .i64 q.rep) ∧ y.cell? ⟨K1, 4, none⟩ = some (.int .i64 q.comp) ∧ y.cell? ⟨K1, 5, none⟩ = some (.int .i64 q.sub)) y from fun y h => ⟨(HRX.out.below h HRX.out.lt).cell 0, (HRX.out.below h HRX.out.lt).cell 1, (HPv.out.below h HPv.out.lt).cell 0, (HPv.out.below h HPv.out.lt).cell 1, (HPv.out.below h HPv.out.lt).cell 2, (HPv.out.below h HPv.out.lt).cell 3, (HPv.out.below h HPv.out.lt).cell 4, (HPv.out.below h HPv.out.lt).cell 5⟩)
    go_cut [8] (fun t wz => ∃ (wx : World) (G : Nat) (v : Value) (LO HI : Nat), wx = wz ∧ t = .pointer (some ⟨G, 0, none⟩) ∧ Hid (Row wx G 31 [v]) ∧ Hid (OFld LO HI wx v (fldOut m x q)) ∧ Hid (V.heap.size ≤ LO ∧ HI ≤ wx.heap.size ∧ V.heap.size ≤ G ∧ (G < LO ∨ HI ≤ G)) ∧ Hid (Below V.heap.size V wx))
    case first =>
      refine wp_region_held (S := (fun y : World => y.cell? ⟨G7, 0, none⟩ = some (.string m) ∧ y.cell? ⟨G7, 1, none⟩ = some (.slice p7 x.length c7) ∧ y.cell? ⟨K1, 0, none⟩ = some (.string q.seg) ∧ y.cell? ⟨K1, 1, none⟩ = some (.int .i64 q.nth) ∧ y.cell? ⟨K1, 2, none⟩ = some (.int .i64 q.fld) ∧ y.cell? ⟨K1, 3, none⟩ = some (.int .i64 q.rep) ∧ y.cell? ⟨K1, 4, none⟩ = some (.int .i64 q.comp) ∧ y.cell? ⟨K1, 5, none⟩ = some (.int .i64 q.sub))) (by kernel_rfl) ?_
      have hbd : Below V.heap.size V { V with drawn := V.drawn + 1 } := (Below.refl _ _).drew
      generalize ({ V with drawn := V.drawn + 1 } : World) = Z0 at hbd ⊢
      have HB0_0 := hide hbd
      clear hbd
      have HS := hide (HSS.out _ HB0_0.out)
      refine wpAnyH_take (i := 0) (oi := _) (v := .agg #[.string m, .slice p7 x.length c7]) rfl (by kernel_rfl) (by kernel_rfl) (by kernel_rfl) (fun _ _ _ h => h) (Or.inl ⟨by rfl, by intro w hSw; go_split_ands; go_simp⟩) HS.out ?_
      simp only [Act.put, List.getElem_toArray, List.getElem_cons_zero, List.setIfInBounds_toArray, List.set_cons_zero, List.set_cons_succ]
      refine wpAnyH_take (i := 1) (oi := _) (v := .agg #[.string q.seg, .int .i64 q.nth, .int .i64 q.fld, .int .i64 q.rep, .int .i64 q.comp, .int .i64 q.sub]) rfl (by kernel_rfl) (by kernel_rfl) (by kernel_rfl) (fun _ _ _ h => h) (Or.inl ⟨by rfl, by intro w hSw; go_split_ands; go_simp⟩) HS.out ?_
      simp only [Act.put, List.getElem_toArray, List.getElem_cons_zero, List.getElem_cons_succ, List.setIfInBounds_toArray, List.set_cons_zero, List.set_cons_succ]
      refine wpAnyH_ready (rs := [2, 4]) (by kernel_rfl) (by simp) ?_
      refine AllReadyH.cons (o := _) rfl (fun K hK => ?_) (AllReadyH.cons (o := _) rfl (fun K hK => ?_) AllReadyH.nil)
      · go_simp
        rw [← HV.out]
        refine (toPath_any q _).mono ?_
        rintro e Z1 ⟨rfl, hbc⟩
        have HB0_1 := hide (HB0_0.out.trans (hbc.mono HB0_0.out.size))
        clear hbc
        refine hK.out _ _ (HSS.out _ HB0_1.out) (fun _ => ?_)
        clear hK K HS
        have HS := hide (HSS.out _ HB0_1.out)
        refine wpAnyH_ready (rs := [3, 4]) (by kernel_rfl) (by simp) ?_
        refine AllReadyH.cons (o := _) rfl (fun K hK => ?_) (AllReadyH.cons (o := _) rfl (fun K hK => ?_) AllReadyH.nil)
        · go_simp
          refine (implFieldAt_any m _ x q _ HMm.out HW.out (HXB.out.below HB0_1.out)).mono ?_
          rintro e Z2 ⟨v0, rfl, ho, hbc⟩
          obtain ⟨p9, c9, rfl⟩ := ho.isSlice
          have HO := hide ho
          have HB0_2 := hide (HB0_1.out.trans (hbc.mono HB0_1.out.size))
          have HB2_2 := hide (Below.refl Z2.heap.size Z2)
          have HLO := hide (show V.heap.size ≤ Z1.heap.size from HB0_1.out.size)
          obtain ⟨LO, hLO⟩ : ∃ LO, LO = Z1.heap.size := ⟨_, rfl⟩
          obtain ⟨HI, hHI⟩ : ∃ HI, HI = Z2.heap.size := ⟨_, rfl⟩
          rw [← hLO, ← hHI] at HO
          rw [← hLO] at HLO
          have HHI := hide (show HI ≤ Z2.heap.size from Nat.le_of_eq hHI)
          clear ho hbc hLO hHI
          refine hK.out _ _ (HSS.out _ HB0_2.out) (fun _ => ?_)
          clear hK K HS
          have HS := hide (HSS.out _ HB0_2.out)
          refine wpAnyH_ready (rs := [4]) (by kernel_rfl) (by simp) ?_
          refine AllReadyH.cons (o := _) rfl (fun K hK => ?_) AllReadyH.nil
          go_simp
          have hbc : Below Z2.heap.size Z2 (Z2.alloc (.cells #[.slice none 0 0] 31)) := (Below.refl _ _).alloc (Nat.le_refl _) _
          have HRG := hide (row_new Z2 [.slice none 0 0] 31)
          have HGS : Hid (Z2.heap.size < (Z2.alloc (.cells #[.slice none 0 0] 31)).heap.size) := hide (by simp)
          have HGB := hide (show V.heap.size ≤ Z2.heap.size from HB0_2.out.size)
          have HGL := hide (show Z2.heap.size < LO ∨ HI ≤ Z2.heap.size from .inr (Nat.le_trans HHI.out HB2_2.out.size))
          refine hK.out _ _ (HSS.out _ (HB0_2.out.trans (hbc.mono HB0_2.out.size))) (fun _ => ?_)
          clear hK K HS
          obtain ⟨Z3, hZ⟩ : ∃ Z, Z = Z2.alloc (.cells #[.slice none 0 0] 31) := ⟨_, rfl⟩
          obtain ⟨G, hG⟩ : ∃ G, G = Z2.heap.size := ⟨_, rfl⟩
          rw [← hZ] at hbc HRG HGS ⊢
          have HB0_3 := hide (HB0_2.out.trans (hbc.mono HB0_2.out.size))
          have HB2_3 := hide (HB2_2.out.trans (hbc.mono HB2_2.out.size))
          have HB3_3 := hide (Below.refl Z3.heap.size Z3)
          rw [← hG] at HRG HGS HGB HGL ⊢
          clear hZ hG hbc
          have HS := hide (HSS.out _ HB0_3.out)
          refine wpAnyH_ready (rs := [5]) (by kernel_rfl) (by simp) ?_
          refine AllReadyH.cons (o := _) rfl (fun K hK => ?_) AllReadyH.nil
          have rowz := HRG.out.below HB3_3.out HGS.out
          have g0 : Z3.cell? ⟨G, 0, none⟩ = some (.slice none 0 0) := rowz.cell 0
          have gf := rowz.free 0
          have HOZ := hide (Keeps.go (SameIn.ofBelow HB2_3.out) HO.out)
          have HHZ := hide (Nat.le_trans HHI.out HB2_3.out.size)
          have HRZ := hide (rowz.set (j := 0) (.slice p9 (fldOut m x q).length c9))
          have HBZ := hide (HB0_3.out.setCell (p := ⟨G, 0, none⟩) HGB.out (.slice p9 (fldOut m x q).length c9))
          have es : (Z3.setCell ⟨G, 0, none⟩ (.slice p9 (fldOut m x q).length c9)).heap.size = Z3.heap.size := by simp [World.setCell]
          have HOF := hide (Keeps.go (SameIn.setO Z3 (j := 0) (.slice p9 (fldOut m x q).length c9) HGL.out) HOZ.out)
          have HFF2 := hide (show V.heap.size ≤ LO ∧ HI ≤ (Z3.setCell ⟨G, 0, none⟩ (.slice p9 (fldOut m x q).length c9)).heap.size ∧ V.heap.size ≤ G ∧ (G < LO ∨ HI ≤ G) from ⟨HLO.out, by rw [es]; exact HHZ.out, HGB.out, HGL.out⟩)
          clear rowz es
          go_simp
          refine hK.out _ _ (HSS.out _ HBZ.out) (fun _ => ?_)
          clear hK K HS
          refine wpAnyH_done (by kernel_rfl) ?_ _
          go_wp2_with fail
          go_meet
          exact ⟨_, G, _, LO, HI, rfl, rfl, HRZ, HOF, HFF2, HBZ⟩
        · go_simp
          have hbc : Below Z1.heap.size Z1 (Z1.alloc (.cells #[.slice none 0 0] 31)) := (Below.refl _ _).alloc (Nat.le_refl _) _
          have HRG := hide (row_new Z1 [.slice none 0 0] 31)
          have HGS : Hid (Z1.heap.size < (Z1.alloc (.cells #[.slice none 0 0] 31)).heap.size) := hide (by simp)
          have HGB := hide (show V.heap.size ≤ Z1.heap.size from HB0_1.out.size)
          refine hK.out _ _ (HSS.out _ (HB0_1.out.trans (hbc.mono HB0_1.out.size))) (fun _ => ?_)
          clear hK K HS
          obtain ⟨Z2, hZ⟩ : ∃ Z, Z = Z1.alloc (.cells #[.slice none 0 0] 31) := ⟨_, rfl⟩
          obtain ⟨G, hG⟩ : ∃ G, G = Z1.heap.size := ⟨_, rfl⟩
          rw [← hZ] at hbc HRG HGS ⊢
          have HB0_2 := hide (HB0_1.out.trans (hbc.mono HB0_1.out.size))
          have HB2_2 := hide (Below.refl Z2.heap.size Z2)
          rw [← hG] at HRG HGS HGB ⊢
          clear hZ hG hbc
          have HS := hide (HSS.out _ HB0_2.out)
          refine wpAnyH_ready (rs := [3]) (by kernel_rfl) (by simp) ?_
          refine AllReadyH.cons (o := _) rfl (fun K hK => ?_) AllReadyH.nil
          go_simp
          refine (implFieldAt_any m _ x q _ HMm.out HW.out (HXB.out.below HB0_2.out)).mono ?_
          rintro e Z3 ⟨v0, rfl, ho, hbc⟩
          obtain ⟨p9, c9, rfl⟩ := ho.isSlice
          have HO := hide ho
          have HB0_3 := hide (HB0_2.out.trans (hbc.mono HB0_2.out.size))
          have HB2_3 := hide (HB2_2.out.trans (hbc.mono HB2_2.out.size))
          have HB3_3 := hide (Below.refl Z3.heap.size Z3)
          have HLO := hide (show V.heap.size ≤ Z2.heap.size from HB0_2.out.size)
          have HGL := hide (show G < Z2.heap.size ∨ Z3.heap.size ≤ G from .inl (Nat.lt_of_lt_of_le HGS.out HB2_2.out.size))
          obtain ⟨LO, hLO⟩ : ∃ LO, LO = Z2.heap.size := ⟨_, rfl⟩
          obtain ⟨HI, hHI⟩ : ∃ HI, HI = Z3.heap.size := ⟨_, rfl⟩
          rw [← hLO, ← hHI] at HO
          rw [← hLO] at HLO
          rw [← hLO, ← hHI] at HGL
          have HHI := hide (show HI ≤ Z3.heap.size from Nat.le_of_eq hHI)
          clear ho hbc hLO hHI
          refine hK.out _ _ (HSS.out _ HB0_3.out) (fun _ => ?_)
          clear hK K HS
          have HS := hide (HSS.out _ HB0_3.out)
          refine wpAnyH_ready (rs := [5]) (by kernel_rfl) (by simp) ?_
          refine AllReadyH.cons (o := _) rfl (fun K hK => ?_) AllReadyH.nil
          have rowz := HRG.out.below HB2_3.out HGS.out
          have g0 : Z3.cell? ⟨G, 0, none⟩ = some (.slice none 0 0) := rowz.cell 0
          have gf := rowz.free 0
          have HOZ := hide (Keeps.go (SameIn.ofBelow HB3_3.out) HO.out)
          have HHZ := hide (Nat.le_trans HHI.out HB3_3.out.size)
          have HRZ := hide (rowz.set (j := 0) (.slice p9 (fldOut m x q).length c9))
          have HBZ := hide (HB0_3.out.setCell (p := ⟨G, 0, none⟩) HGB.out (.slice p9 (fldOut m x q).length c9))
          have es : (Z3.setCell ⟨G, 0, none⟩ (.slice p9 (fldOut m x q).length c9)).heap.size = Z3.heap.size := by simp [World.setCell]
          have HOF := hide (Keeps.go (SameIn.setO Z3 (j := 0) (.slice p9 (fldOut m x q).length c9) HGL.out) HOZ.out)
          have HFF2 := hide (show V.heap.size ≤ LO ∧ HI ≤ (Z3.setCell ⟨G, 0, none⟩ (.slice p9 (fldOut m x q).length c9)).heap.size ∧ V.heap.size ≤ G ∧ (G < LO ∨ HI ≤ G) from ⟨HLO.out, by rw [es]; exact HHZ.out, HGB.out, HGL.out⟩)
          clear rowz es
          go_simp
          refine hK.out _ _ (HSS.out _ HBZ.out) (fun _ => ?_)
          clear hK K HS
          refine wpAnyH_done (by kernel_rfl) ?_ _
          go_wp2_with fail
          go_meet
          exact ⟨_, G, _, LO, HI, rfl, rfl, HRZ, HOF, HFF2, HBZ⟩
      · go_simp
        have hbc : Below Z0.heap.size Z0 (Z0.alloc (.cells #[.slice none 0 0] 31)) := (Below.refl _ _).alloc (Nat.le_refl _) _
        have HRG := hide (row_new Z0 [.slice none 0 0] 31)
        have HGS : Hid (Z0.heap.size < (Z0.alloc (.cells #[.slice none 0 0] 31)).heap.size) := hide (by simp)
        have HGB := hide (show V.heap.size ≤ Z0.heap.size from HB0_0.out.size)
        refine hK.out _ _ (HSS.out _ (HB0_0.out.trans (hbc.mono HB0_0.out.size))) (fun _ => ?_)
        clear hK K HS
        obtain ⟨Z1, hZ⟩ : ∃ Z, Z = Z0.alloc (.cells #[.slice none 0 0] 31) := ⟨_, rfl⟩
        obtain ⟨G, hG⟩ : ∃ G, G = Z0.heap.size := ⟨_, rfl⟩
        rw [← hZ] at hbc HRG HGS ⊢
        have HB0_1 := hide (HB0_0.out.trans (hbc.mono HB0_0.out.size))
        have HB1_1 := hide (Below.refl Z1.heap.size Z1)
        rw [← hG] at HRG HGS HGB ⊢
        clear hZ hG hbc
        have HS := hide (HSS.out _ HB0_1.out)
        refine wpAnyH_ready (rs := [2]) (by kernel_rfl) (by simp) ?_
        refine AllReadyH.cons (o := _) rfl (fun K hK => ?_) AllReadyH.nil
        go_simp
        rw [← HV.out]
        refine (toPath_any q _).mono ?_
        rintro e Z2 ⟨rfl, hbc⟩
        have HB0_2 := hide (HB0_1.out.trans (hbc.mono HB0_1.out.size))
        have HB1_2 := hide (HB1_1.out.trans (hbc.mono HB1_1.out.size))
        clear hbc
        refine hK.out _ _ (HSS.out _ HB0_2.out) (fun _ => ?_)
        clear hK K HS
        have HS := hide (HSS.out _ HB0_2.out)
        refine wpAnyH_ready (rs := [3]) (by kernel_rfl) (by simp) ?_
        refine AllReadyH.cons (o := _) rfl (fun K hK => ?_) AllReadyH.nil
        go_simp
        refine (implFieldAt_any m _ x q _ HMm.out HW.out (HXB.out.below HB0_2.out)).mono ?_
        rintro e Z3 ⟨v0, rfl, ho, hbc⟩
        obtain ⟨p9, c9, rfl⟩ := ho.isSlice
        have HO := hide ho
        have HB0_3 := hide (HB0_2.out.trans (hbc.mono HB0_2.out.size))
        have HB1_3 := hide (HB1_2.out.trans (hbc.mono HB1_2.out.size))
        have HB3_3 := hide (Below.refl Z3.heap.size Z3)
        have HLO := hide (show V.heap.size ≤ Z2.heap.size from HB0_2.out.size)
        have HGL := hide (show G < Z2.heap.size ∨ Z3.heap.size ≤ G from .inl (Nat.lt_of_lt_of_le HGS.out HB1_2.out.size))
        obtain ⟨LO, hLO⟩ : ∃ LO, LO = Z2.heap.size := ⟨_, rfl⟩
        obtain ⟨HI, hHI⟩ : ∃ HI, HI = Z3.heap.size := ⟨_, rfl⟩
        rw [← hLO, ← hHI] at HO
        rw [← hLO] at HLO
        rw [← hLO, ← hHI] at HGL
        have HHI := hide (show HI ≤ Z3.heap.size from Nat.le_of_eq hHI)
        clear ho hbc hLO hHI
        refine hK.out _ _ (HSS.out _ HB0_3.out) (fun _ => ?_)
        clear hK K HS
        have HS := hide (HSS.out _ HB0_3.out)
        refine wpAnyH_ready (rs := [5]) (by kernel_rfl) (by simp) ?_
        refine AllReadyH.cons (o := _) rfl (fun K hK => ?_) AllReadyH.nil
        have rowz := HRG.out.below HB1_3.out HGS.out
        have g0 : Z3.cell? ⟨G, 0, none⟩ = some (.slice none 0 0) := rowz.cell 0
        have gf := rowz.free 0
        have HOZ := hide (Keeps.go (SameIn.ofBelow HB3_3.out) HO.out)
        have HHZ := hide (Nat.le_trans HHI.out HB3_3.out.size)
        have HRZ := hide (rowz.set (j := 0) (.slice p9 (fldOut m x q).length c9))
        have HBZ := hide (HB0_3.out.setCell (p := ⟨G, 0, none⟩) HGB.out (.slice p9 (fldOut m x q).length c9))
        have es : (Z3.setCell ⟨G, 0, none⟩ (.slice p9 (fldOut m x q).length c9)).heap.size = Z3.heap.size := by simp [World.setCell]
        have HOF := hide (Keeps.go (SameIn.setO Z3 (j := 0) (.slice p9 (fldOut m x q).length c9) HGL.out) HOZ.out)
        have HFF2 := hide (show V.heap.size ≤ LO ∧ HI ≤ (Z3.setCell ⟨G, 0, none⟩ (.slice p9 (fldOut m x q).length c9)).heap.size ∧ V.heap.size ≤ G ∧ (G < LO ∨ HI ≤ G) from ⟨HLO.out, by rw [es]; exact HHZ.out, HGB.out, HGL.out⟩)
        clear rowz es
        go_simp
        refine hK.out _ _ (HSS.out _ HBZ.out) (fun _ => ?_)
        clear hK K HS
        refine wpAnyH_done (by kernel_rfl) ?_ _
        go_wp2_with fail
        go_meet
        exact ⟨_, G, _, LO, HI, rfl, rfl, HRZ, HOF, HFF2, HBZ⟩
    case rest =>
      obtain ⟨wb, G8, v1, LO8, HI8, rfl, rfl, HG8, HO8, HF8, HBb⟩ := hcut
      have hbb := HBb.out
      have HBwb := hide (HBv.out.trans (hbb.mono HBv.out.size))
      have HDb := hide (HDv.out.trans (hbb.mono HDv.out.size))
      have HXb := hide (HXv.out.keep (SameIn.ofBelow hbb))
      have HRXb := hide (HRX.out.below hbb HRX.out.lt)
      have HMb := hide (HMv.out.below hbb HMv.out.lt)
      have HPb := hide (HPv.out.below hbb HPv.out.lt)
      have HG6b := hide (HG6v.out.below hbb HG6v.out.lt)
      have HO6b := hide (Keeps.go (SameIn.ofBelow hbb) HO6v.out)
      have g8 : wb.cell? ⟨G8, 0, none⟩ = some v1 := HG8.out.cell 0
      have g6 : wb.cell? ⟨G6, 0, none⟩ = some v0 := HG6b.out.cell 0
      have HFS := hide (fldOut_small HW.out q : wFld (fldOut m x q) ≤ 1048576)
      clear hbb HBb HSS HXv HRX HMv HPv HG6v HO6v HBv HDv HXB
      go_wp2_with fail
      refine (eqField_same _ _ (fldOut m x q) _ _ _ HFS.out HO8.out.rl HO6b.out.rl).mono ?_
      rintro e w5 ⟨rfl, hb5⟩
      have HBw5 := hide (HBwb.out.trans (hb5.mono HBwb.out.size))
      have HD5 := hide (HDb.out.trans (hb5.mono HDb.out.size))
      have HX5 := hide (HXb.out.keep (SameIn.ofBelow hb5))
      have HRX5 := hide (HRXb.out.below hb5 HRXb.out.lt)
      have HM5 := hide (HMb.out.below hb5 HMb.out.lt)
      have HP5 := hide (HPb.out.below hb5 HPb.out.lt)
      have HG65 := hide (HG6b.out.below hb5 HG6b.out.lt)
      have HG85 := hide (HG8.out.below hb5 HG8.out.lt)
      have HO65 := hide (Keeps.go (SameIn.ofBelow hb5) HO6b.out)
      have HO85 := hide (Keeps.go (SameIn.ofBelow hb5) HO8.out)
      have HR5 := hide (HR.out.below HBw5.out)
      have HSS := hide (show ∀ y, Below w5.heap.size w5 y → y.cell? ⟨w.heap.size, 0, none⟩ = some (.string m) ∧ y.cell? ⟨w.heap.size, 1, none⟩ = some (.slice p x.length c) ∧ y.cell? ⟨G7, 0, none⟩ = some (.string m) ∧ y.cell? ⟨G7, 1, none⟩ = some (.slice p7 x.length c7) ∧ Below w5.heap.size w5 y from
        fun y h => ⟨(HM5.out.below h HM5.out.lt).cell 0, (HM5.out.below h HM5.out.lt).cell 1, (HRX5.out.below h HRX5.out.lt).cell 0, (HRX5.out.below h HRX5.out.lt).cell 1, h⟩)
      clear hb5 g8 g6 HBwb HDb HXb HRXb HMb HPb HG6b HO6b HG8 HO8
      go_wp2_with fail
      go_cut [42] (fun t wz => t = .bool false ∧ ∃ wx, wx = wz ∧ Hid (Below w5.heap.size w5 wx))
      case first =>
        go_region_held3 (fun y => y.cell? ⟨w.heap.size, 0, none⟩ = some (.string m) ∧ y.cell? ⟨w.heap.size, 1, none⟩ = some (.slice p x.length c) ∧ y.cell? ⟨G7, 0, none⟩ = some (.string m) ∧ y.cell? ⟨G7, 1, none⟩ = some (.slice p7 x.length c7) ∧ Below w5.heap.size w5 y)
          ((go_split_ands; refine HSS.out _ ?_; repeat (first | with_reducible assumption | with_reducible exact Below.refl _ _ | with_reducible refine Below.drew ?_)))
          ((first
            | (go_at_call 9; go_split_ands; refine (toMessage_any m _ x _ HW.out (HR5.out.below (by assumption))).mono ?_; rintro e w7 ⟨p6, c6, rfl, hr6, hb6⟩; have HC7 := hide (RSegs.mono hr6 (Nat.zero_le _)); have hB6 : Below w5.heap.size w5 w7 := Below.trans (by assumption) (hb6.mono (Below.size (by assumption))); clear hr6 hb6)
            | (go_at_call 13; go_split_ands; refine (eqMessage_same m _ _ x 0 0 _ HW.out (RSegs.below (RSegs.mono HX5.out.rl (Nat.zero_le _)) (by assumption)) (by first | exact HC7.out | exact HC7.out.below ((Below.refl _ _).drew))).mono ?_; rintro e w8 ⟨rfl, hb7⟩; have hB7 : Below w5.heap.size w5 w8 := Below.trans (by assumption) (hb7.mono (Below.size (by assumption))); clear hb7)))
        all_goals
          have HB7 := hide hB7
          clear hB7
          go_wp2_with fail
          go_meet
          exact ⟨rfl, _, rfl, HB7⟩
      case rest =>
        obtain ⟨rfl, wc, rfl, HBc⟩ := hcut
        have hbc := HBc.out
        have HBwc := hide (HBw5.out.trans (hbc.mono HBw5.out.size))
        have HDc := hide (HD5.out.trans (hbc.mono HD5.out.size))
        have HXc := hide (HX5.out.keep (SameIn.ofBelow hbc))
        have HRXc := hide (HRX5.out.below hbc HRX5.out.lt)
        have HMc := hide (HM5.out.below hbc HM5.out.lt)
        have HPc := hide (HP5.out.below hbc HP5.out.lt)
        have HG6c := hide (HG65.out.below hbc HG65.out.lt)
        have HG8c := hide (HG85.out.below hbc HG85.out.lt)
        have HO6c := hide (Keeps.go (SameIn.ofBelow hbc) HO65.out)
        have HO8c := hide (Keeps.go (SameIn.ofBelow hbc) HO85.out)
        have x0 : wc.cell? ⟨G7, 0, none⟩ = some (.string m) := HRXc.out.cell 0
        have x1 : wc.cell? ⟨G7, 1, none⟩ = some (.slice p7 x.length c7) := HRXc.out.cell 1
        have HL8 := hide (show G7 ≤ G8 ∧ G7 ≤ LO8 by have h1 := HF8.out.1; have h2 := HF8.out.2.2.1; have h3 := HV5.out; omega)
        clear hbc HBc HSS HX5 HRX5 HM5 HP5 HG65 HG85 HO65 HO85 HBw5 HD5 HR5
        go_wp2_with fail
        refine (markMessage_own wa.heap.size G7 m _ x 1 _ HW.out (by have := HW.out; omega) HXc.out).mono ?_
        rintro e w6 ⟨rfl, _, hw6⟩
        have HBw6 := hide (hw6.toBelow HBwc.out HBw.out.size HBwc.out.size)
        have HM6 := hide (hw6.row HMc.out (.inl HLW.out.1))
        have HP6 := hide (hw6.row HPc.out (.inl HLW.out.2.1))
        have HG66 := hide (hw6.row HG6c.out (.inl HLW.out.2.2.1))
        have HG86 := hide (hw6.row HG8c.out (.inr HL8.out.1))
        have HO66 := hide (Keeps.go (hw6.same (.inl HLW.out.2.2.2)) HO6c.out)
        have HO86 := hide (Keeps.go (hw6.same (.inr HL8.out.2)) HO8c.out)
        have hpos : ¬ ((((1 + cntSegs x : Nat)) : Int)) < 0 := by omega
        have g8 : w6.cell? ⟨G8, 0, none⟩ = some v1 := HG86.out.cell 0
        have g6 : w6.cell? ⟨G6, 0, none⟩ = some v0 := HG66.out.cell 0
        clear hw6 x0 x1 HMc HPc HG6c HG8c HO6c HO8c HBwc HDc HXc HRXc
        go_wp2_with fail
        refine (eqField_same _ _ (fldOut m x q) _ _ _ HFS.out HO86.out.rl HO66.out.rl).mono ?_
        rintro e w7 ⟨rfl, hb7⟩
        have HBw7 := hide (HBw6.out.trans (hb7.mono HBw6.out.size))
        have HM7 := hide (HM6.out.below hb7 HM6.out.lt)
        have HP7 := hide (HP6.out.below hb7 HP6.out.lt)
        have HG67 := hide (HG66.out.below hb7 HG66.out.lt)
        have HG87 := hide (HG86.out.below hb7 HG86.out.lt)
        have HO67 := hide (Keeps.go (SameIn.ofBelow hb7) HO66.out)
        have HO87 := hide (Keeps.go (SameIn.ofBelow hb7) HO86.out)
        have g87 : w7.cell? ⟨G8, 0, none⟩ = some v1 := HG87.out.cell 0
        clear hb7 g8 g6 HM6 HP6 HG66 HG86 HO66 HO86 HBw6
        go_wp2_with fail
        refine (markField_own LO8 HI8 _ (fldOut m x q) 1 _ HFS.out (by have := HFS.out; omega) HO87.out).mono ?_
        rintro e w8 ⟨rfl, ho8, hw8⟩
        have HLE := hide (show wa.heap.size ≤ LO8 from Nat.le_trans HL3.out HL8.out.2)
        have HBw8 := hide (hw8.toBelow HBw7.out (Nat.le_trans HBw.out.size HLE.out) HBw7.out.size)
        have HM8 := hide (hw8.row HM7.out (.inl (Nat.lt_of_lt_of_le HLW.out.1 HLE.out)))
        have HP8 := hide (hw8.row HP7.out (.inl (Nat.lt_of_lt_of_le HLW.out.2.1 HLE.out)))
        have HG68 := hide (hw8.row HG67.out (.inl (Nat.lt_of_lt_of_le HLW.out.2.2.1 HLE.out)))
        have HG88 := hide (hw8.row HG87.out HF8.out.2.2.2)
        have HO68 := hide (Keeps.go (hw8.same (.inl (Nat.le_trans HLW.out.2.2.2 HLE.out))) HO67.out)
        have HO88 := hide ho8
        obtain ⟨M, hM⟩ : ∃ M : Nat, M = 1 + cntF (fldOut m x q) := ⟨_, rfl⟩
        rw [← hM]
        have HMM := hide hM
        have hMp : ¬ ((M : Nat) : Int) < 0 := by omega
        have hMe : (((M : Nat) : Int) != ((M : Nat) : Int)) = false := by simp
        have g88 : w8.cell? ⟨G8, 0, none⟩ = some v1 := HG88.out.cell 0
        clear ho8 hw8 hM g87 HM7 HP7 HG67 HG87 HO67 HO87 HBw7
        go_wp2_with fail
        refine (heldField_own LO8 HI8 _ (fldOut m x q) 1 _ HFS.out (by have := HFS.out; omega) HO88.out).mono ?_
        rintro e w9 ⟨rfl, hb9⟩
        rw [← HMM.out]
        have HBw9 := hide (HBw8.out.trans (hb9.mono HBw8.out.size))
        have HM9 := hide (HM8.out.below hb9 HM8.out.lt)
        have HP9 := hide (HP8.out.below hb9 HP8.out.lt)
        have HG69 := hide (HG68.out.below hb9 HG68.out.lt)
        have HG89 := hide (HG88.out.below hb9 HG88.out.lt)
        have HO69 := hide (Keeps.go (SameIn.ofBelow hb9) HO68.out)
        have HO89 := hide (Keeps.go (SameIn.ofBelow hb9) HO88.out)
        clear hb9 g88 HM8 HP8 HG68 HG88 HO68 HO88 HBw8
        go_wp2_with fail
        have HSS := hide (show ∀ y, Below w9.heap.size w9 y → (fun y : World => y.cell? ⟨w.heap.size, 0, none⟩ = some (.string m) ∧ y.cell? ⟨w.heap.size, 1, none⟩ = some (.slice p x.length c) ∧ y.cell? ⟨K1, 0, none⟩ = some (.string q.seg) ∧ y.cell? ⟨K1, 1, none⟩ = some (.int .i64 q.nth) ∧ y.cell? ⟨K1, 2, none⟩ = some (.int .i64 q.fld) ∧ y.cell? ⟨K1, 3, none⟩ = some (.int .i64 q.rep) ∧ y.cell? ⟨K1, 4, none⟩ = some (.int .i64 q.comp) ∧ y.cell? ⟨K1, 5, none⟩ = some (.int .i64 q.sub)) y from fun y h => ⟨(HM9.out.below h HM9.out.lt).cell 0, (HM9.out.below h HM9.out.lt).cell 1, (HP9.out.below h HP9.out.lt).cell 0, (HP9.out.below h HP9.out.lt).cell 1, (HP9.out.below h HP9.out.lt).cell 2, (HP9.out.below h HP9.out.lt).cell 3, (HP9.out.below h HP9.out.lt).cell 4, (HP9.out.below h HP9.out.lt).cell 5⟩)
        have HBPRE := HBw9
        go_cut [12] (fun t wz => ∃ (wx : World) (G : Nat) (v : Value) (LO HI : Nat), wx = wz ∧ t = .pointer (some ⟨G, 0, none⟩) ∧ Hid (Row wx G 31 [v]) ∧ Hid (OFld LO HI wx v (fldOut m x q)) ∧ Hid (w9.heap.size ≤ LO ∧ HI ≤ wx.heap.size ∧ w9.heap.size ≤ G ∧ (G < LO ∨ HI ≤ G)) ∧ Hid (Below w9.heap.size w9 wx))
        case first =>
          refine wp_region_held (S := (fun y : World => y.cell? ⟨w.heap.size, 0, none⟩ = some (.string m) ∧ y.cell? ⟨w.heap.size, 1, none⟩ = some (.slice p x.length c) ∧ y.cell? ⟨K1, 0, none⟩ = some (.string q.seg) ∧ y.cell? ⟨K1, 1, none⟩ = some (.int .i64 q.nth) ∧ y.cell? ⟨K1, 2, none⟩ = some (.int .i64 q.fld) ∧ y.cell? ⟨K1, 3, none⟩ = some (.int .i64 q.rep) ∧ y.cell? ⟨K1, 4, none⟩ = some (.int .i64 q.comp) ∧ y.cell? ⟨K1, 5, none⟩ = some (.int .i64 q.sub))) (by kernel_rfl) ?_
          have hbd : Below w9.heap.size w9 { w9 with drawn := w9.drawn + 1 } := (Below.refl _ _).drew
          generalize ({ w9 with drawn := w9.drawn + 1 } : World) = Z0 at hbd ⊢
          have HB0_0 := hide hbd
          clear hbd
          have HS := hide (HSS.out _ HB0_0.out)
          refine wpAnyH_take (i := 0) (oi := _) (v := .agg #[.string m, .slice p x.length c]) rfl (by kernel_rfl) (by kernel_rfl) (by kernel_rfl) (fun _ _ _ h => h) (Or.inl ⟨by rfl, by intro w hSw; go_split_ands; go_simp⟩) HS.out ?_
          simp only [Act.put, List.getElem_toArray, List.getElem_cons_zero, List.setIfInBounds_toArray, List.set_cons_zero, List.set_cons_succ]
          refine wpAnyH_take (i := 2) (oi := _) (v := .agg #[.string q.seg, .int .i64 q.nth, .int .i64 q.fld, .int .i64 q.rep, .int .i64 q.comp, .int .i64 q.sub]) rfl (by kernel_rfl) (by kernel_rfl) (by kernel_rfl) (fun _ _ _ h => h) (Or.inl ⟨by rfl, by intro w hSw; go_split_ands; go_simp⟩) HS.out ?_
          simp only [Act.put, List.getElem_toArray, List.getElem_cons_zero, List.getElem_cons_succ, List.setIfInBounds_toArray, List.set_cons_zero, List.set_cons_succ]
          refine wpAnyH_ready (rs := [1, 5]) (by kernel_rfl) (by simp) ?_
          refine AllReadyH.cons (o := _) rfl (fun K hK => ?_) (AllReadyH.cons (o := _) rfl (fun K hK => ?_) AllReadyH.nil)
          · go_simp
            refine (toMessage_any m _ x _ HW.out (HR.out.below (HBPRE.out.trans (HB0_0.out.mono HBPRE.out.size)))).mono ?_
            rintro e Z1 ⟨p6, c6, rfl, hr6, hbc⟩
            have HC := hide (RSegs.mono hr6 (Nat.zero_le _))
            have HB0_1 := hide (HB0_0.out.trans (hbc.mono HB0_0.out.size))
            have HB1_1 := hide (Below.refl Z1.heap.size Z1)
            clear hr6 hbc
            refine hK.out _ _ (HSS.out _ HB0_1.out) (fun _ => ?_)
            clear hK K HS
            have HS := hide (HSS.out _ HB0_1.out)
            refine wpAnyH_ready (rs := [3, 5]) (by kernel_rfl) (by simp) ?_
            refine AllReadyH.cons (o := _) rfl (fun K hK => ?_) (AllReadyH.cons (o := _) rfl (fun K hK => ?_) AllReadyH.nil)
            · go_simp
              rw [← HV.out]
              refine (toPath_any q _).mono ?_
              rintro e Z2 ⟨rfl, hbc⟩
              have HB0_2 := hide (HB0_1.out.trans (hbc.mono HB0_1.out.size))
              have HB1_2 := hide (HB1_1.out.trans (hbc.mono HB1_1.out.size))
              clear hbc
              refine hK.out _ _ (HSS.out _ HB0_2.out) (fun _ => ?_)
              clear hK K HS
              have HS := hide (HSS.out _ HB0_2.out)
              refine wpAnyH_ready (rs := [4, 5]) (by kernel_rfl) (by simp) ?_
              refine AllReadyH.cons (o := _) rfl (fun K hK => ?_) (AllReadyH.cons (o := _) rfl (fun K hK => ?_) AllReadyH.nil)
              · go_simp
                refine (implFieldAt_any m _ x q _ HMm.out HW.out (HC.out.below HB1_2.out)).mono ?_
                rintro e Z3 ⟨v0, rfl, ho, hbc⟩
                obtain ⟨p9, c9, rfl⟩ := ho.isSlice
                have HO := hide ho
                have HB0_3 := hide (HB0_2.out.trans (hbc.mono HB0_2.out.size))
                have HB1_3 := hide (HB1_2.out.trans (hbc.mono HB1_2.out.size))
                have HB3_3 := hide (Below.refl Z3.heap.size Z3)
                have HLO := hide (show w9.heap.size ≤ Z2.heap.size from HB0_2.out.size)
                obtain ⟨LO, hLO⟩ : ∃ LO, LO = Z2.heap.size := ⟨_, rfl⟩
                obtain ⟨HI, hHI⟩ : ∃ HI, HI = Z3.heap.size := ⟨_, rfl⟩
                rw [← hLO, ← hHI] at HO
                rw [← hLO] at HLO
                have HHI := hide (show HI ≤ Z3.heap.size from Nat.le_of_eq hHI)
                clear ho hbc hLO hHI
                refine hK.out _ _ (HSS.out _ HB0_3.out) (fun _ => ?_)
                clear hK K HS
                have HS := hide (HSS.out _ HB0_3.out)
                refine wpAnyH_ready (rs := [5]) (by kernel_rfl) (by simp) ?_
                refine AllReadyH.cons (o := _) rfl (fun K hK => ?_) AllReadyH.nil
                go_simp
                have hbc : Below Z3.heap.size Z3 (Z3.alloc (.cells #[.slice none 0 0] 31)) := (Below.refl _ _).alloc (Nat.le_refl _) _
                have HRG := hide (row_new Z3 [.slice none 0 0] 31)
                have HGS : Hid (Z3.heap.size < (Z3.alloc (.cells #[.slice none 0 0] 31)).heap.size) := hide (by simp)
                have HGB := hide (show w9.heap.size ≤ Z3.heap.size from HB0_3.out.size)
                have HGL := hide (show Z3.heap.size < LO ∨ HI ≤ Z3.heap.size from .inr (Nat.le_trans HHI.out HB3_3.out.size))
                refine hK.out _ _ (HSS.out _ (HB0_3.out.trans (hbc.mono HB0_3.out.size))) (fun _ => ?_)
                clear hK K HS
                obtain ⟨Z4, hZ⟩ : ∃ Z, Z = Z3.alloc (.cells #[.slice none 0 0] 31) := ⟨_, rfl⟩
                obtain ⟨G, hG⟩ : ∃ G, G = Z3.heap.size := ⟨_, rfl⟩
                rw [← hZ] at hbc HRG HGS ⊢
                have HB0_4 := hide (HB0_3.out.trans (hbc.mono HB0_3.out.size))
                have HB1_4 := hide (HB1_3.out.trans (hbc.mono HB1_3.out.size))
                have HB3_4 := hide (HB3_3.out.trans (hbc.mono HB3_3.out.size))
                have HB4_4 := hide (Below.refl Z4.heap.size Z4)
                rw [← hG] at HRG HGS HGB HGL ⊢
                clear hZ hG hbc
                have HS := hide (HSS.out _ HB0_4.out)
                refine wpAnyH_ready (rs := [6]) (by kernel_rfl) (by simp) ?_
                refine AllReadyH.cons (o := _) rfl (fun K hK => ?_) AllReadyH.nil
                have rowz := HRG.out.below HB4_4.out HGS.out
                have g0 : Z4.cell? ⟨G, 0, none⟩ = some (.slice none 0 0) := rowz.cell 0
                have gf := rowz.free 0
                have HOZ := hide (Keeps.go (SameIn.ofBelow HB3_4.out) HO.out)
                have HHZ := hide (Nat.le_trans HHI.out HB3_4.out.size)
                have HRZ := hide (rowz.set (j := 0) (.slice p9 (fldOut m x q).length c9))
                have HBZ := hide (HB0_4.out.setCell (p := ⟨G, 0, none⟩) HGB.out (.slice p9 (fldOut m x q).length c9))
                have es : (Z4.setCell ⟨G, 0, none⟩ (.slice p9 (fldOut m x q).length c9)).heap.size = Z4.heap.size := by simp [World.setCell]
                have HOF := hide (Keeps.go (SameIn.setO Z4 (j := 0) (.slice p9 (fldOut m x q).length c9) HGL.out) HOZ.out)
                have HFF2 := hide (show w9.heap.size ≤ LO ∧ HI ≤ (Z4.setCell ⟨G, 0, none⟩ (.slice p9 (fldOut m x q).length c9)).heap.size ∧ w9.heap.size ≤ G ∧ (G < LO ∨ HI ≤ G) from ⟨HLO.out, by rw [es]; exact HHZ.out, HGB.out, HGL.out⟩)
                clear rowz es
                go_simp
                refine hK.out _ _ (HSS.out _ HBZ.out) (fun _ => ?_)
                clear hK K HS
                refine wpAnyH_done (by kernel_rfl) ?_ _
                go_wp2_with fail
                go_meet
                exact ⟨_, G, _, LO, HI, rfl, rfl, HRZ, HOF, HFF2, HBZ⟩
              · go_simp
                have hbc : Below Z2.heap.size Z2 (Z2.alloc (.cells #[.slice none 0 0] 31)) := (Below.refl _ _).alloc (Nat.le_refl _) _
                have HRG := hide (row_new Z2 [.slice none 0 0] 31)
                have HGS : Hid (Z2.heap.size < (Z2.alloc (.cells #[.slice none 0 0] 31)).heap.size) := hide (by simp)
                have HGB := hide (show w9.heap.size ≤ Z2.heap.size from HB0_2.out.size)
                refine hK.out _ _ (HSS.out _ (HB0_2.out.trans (hbc.mono HB0_2.out.size))) (fun _ => ?_)
                clear hK K HS
                obtain ⟨Z3, hZ⟩ : ∃ Z, Z = Z2.alloc (.cells #[.slice none 0 0] 31) := ⟨_, rfl⟩
                obtain ⟨G, hG⟩ : ∃ G, G = Z2.heap.size := ⟨_, rfl⟩
                rw [← hZ] at hbc HRG HGS ⊢
                have HB0_3 := hide (HB0_2.out.trans (hbc.mono HB0_2.out.size))
                have HB1_3 := hide (HB1_2.out.trans (hbc.mono HB1_2.out.size))
                have HB3_3 := hide (Below.refl Z3.heap.size Z3)
                rw [← hG] at HRG HGS HGB ⊢
                clear hZ hG hbc
                have HS := hide (HSS.out _ HB0_3.out)
                refine wpAnyH_ready (rs := [4]) (by kernel_rfl) (by simp) ?_
                refine AllReadyH.cons (o := _) rfl (fun K hK => ?_) AllReadyH.nil
                go_simp
                refine (implFieldAt_any m _ x q _ HMm.out HW.out (HC.out.below HB1_3.out)).mono ?_
                rintro e Z4 ⟨v0, rfl, ho, hbc⟩
                obtain ⟨p9, c9, rfl⟩ := ho.isSlice
                have HO := hide ho
                have HB0_4 := hide (HB0_3.out.trans (hbc.mono HB0_3.out.size))
                have HB1_4 := hide (HB1_3.out.trans (hbc.mono HB1_3.out.size))
                have HB3_4 := hide (HB3_3.out.trans (hbc.mono HB3_3.out.size))
                have HB4_4 := hide (Below.refl Z4.heap.size Z4)
                have HLO := hide (show w9.heap.size ≤ Z3.heap.size from HB0_3.out.size)
                have HGL := hide (show G < Z3.heap.size ∨ Z4.heap.size ≤ G from .inl (Nat.lt_of_lt_of_le HGS.out HB3_3.out.size))
                obtain ⟨LO, hLO⟩ : ∃ LO, LO = Z3.heap.size := ⟨_, rfl⟩
                obtain ⟨HI, hHI⟩ : ∃ HI, HI = Z4.heap.size := ⟨_, rfl⟩
                rw [← hLO, ← hHI] at HO
                rw [← hLO] at HLO
                rw [← hLO, ← hHI] at HGL
                have HHI := hide (show HI ≤ Z4.heap.size from Nat.le_of_eq hHI)
                clear ho hbc hLO hHI
                refine hK.out _ _ (HSS.out _ HB0_4.out) (fun _ => ?_)
                clear hK K HS
                have HS := hide (HSS.out _ HB0_4.out)
                refine wpAnyH_ready (rs := [6]) (by kernel_rfl) (by simp) ?_
                refine AllReadyH.cons (o := _) rfl (fun K hK => ?_) AllReadyH.nil
                have rowz := HRG.out.below HB3_4.out HGS.out
                have g0 : Z4.cell? ⟨G, 0, none⟩ = some (.slice none 0 0) := rowz.cell 0
                have gf := rowz.free 0
                have HOZ := hide (Keeps.go (SameIn.ofBelow HB4_4.out) HO.out)
                have HHZ := hide (Nat.le_trans HHI.out HB4_4.out.size)
                have HRZ := hide (rowz.set (j := 0) (.slice p9 (fldOut m x q).length c9))
                have HBZ := hide (HB0_4.out.setCell (p := ⟨G, 0, none⟩) HGB.out (.slice p9 (fldOut m x q).length c9))
                have es : (Z4.setCell ⟨G, 0, none⟩ (.slice p9 (fldOut m x q).length c9)).heap.size = Z4.heap.size := by simp [World.setCell]
                have HOF := hide (Keeps.go (SameIn.setO Z4 (j := 0) (.slice p9 (fldOut m x q).length c9) HGL.out) HOZ.out)
                have HFF2 := hide (show w9.heap.size ≤ LO ∧ HI ≤ (Z4.setCell ⟨G, 0, none⟩ (.slice p9 (fldOut m x q).length c9)).heap.size ∧ w9.heap.size ≤ G ∧ (G < LO ∨ HI ≤ G) from ⟨HLO.out, by rw [es]; exact HHZ.out, HGB.out, HGL.out⟩)
                clear rowz es
                go_simp
                refine hK.out _ _ (HSS.out _ HBZ.out) (fun _ => ?_)
                clear hK K HS
                refine wpAnyH_done (by kernel_rfl) ?_ _
                go_wp2_with fail
                go_meet
                exact ⟨_, G, _, LO, HI, rfl, rfl, HRZ, HOF, HFF2, HBZ⟩
            · go_simp
              have hbc : Below Z1.heap.size Z1 (Z1.alloc (.cells #[.slice none 0 0] 31)) := (Below.refl _ _).alloc (Nat.le_refl _) _
              have HRG := hide (row_new Z1 [.slice none 0 0] 31)
              have HGS : Hid (Z1.heap.size < (Z1.alloc (.cells #[.slice none 0 0] 31)).heap.size) := hide (by simp)
              have HGB := hide (show w9.heap.size ≤ Z1.heap.size from HB0_1.out.size)
              refine hK.out _ _ (HSS.out _ (HB0_1.out.trans (hbc.mono HB0_1.out.size))) (fun _ => ?_)
              clear hK K HS
              obtain ⟨Z2, hZ⟩ : ∃ Z, Z = Z1.alloc (.cells #[.slice none 0 0] 31) := ⟨_, rfl⟩
              obtain ⟨G, hG⟩ : ∃ G, G = Z1.heap.size := ⟨_, rfl⟩
              rw [← hZ] at hbc HRG HGS ⊢
              have HB0_2 := hide (HB0_1.out.trans (hbc.mono HB0_1.out.size))
              have HB1_2 := hide (HB1_1.out.trans (hbc.mono HB1_1.out.size))
              have HB2_2 := hide (Below.refl Z2.heap.size Z2)
              rw [← hG] at HRG HGS HGB ⊢
              clear hZ hG hbc
              have HS := hide (HSS.out _ HB0_2.out)
              refine wpAnyH_ready (rs := [3]) (by kernel_rfl) (by simp) ?_
              refine AllReadyH.cons (o := _) rfl (fun K hK => ?_) AllReadyH.nil
              go_simp
              rw [← HV.out]
              refine (toPath_any q _).mono ?_
              rintro e Z3 ⟨rfl, hbc⟩
              have HB0_3 := hide (HB0_2.out.trans (hbc.mono HB0_2.out.size))
              have HB1_3 := hide (HB1_2.out.trans (hbc.mono HB1_2.out.size))
              have HB2_3 := hide (HB2_2.out.trans (hbc.mono HB2_2.out.size))
              clear hbc
              refine hK.out _ _ (HSS.out _ HB0_3.out) (fun _ => ?_)
              clear hK K HS
              have HS := hide (HSS.out _ HB0_3.out)
              refine wpAnyH_ready (rs := [4]) (by kernel_rfl) (by simp) ?_
              refine AllReadyH.cons (o := _) rfl (fun K hK => ?_) AllReadyH.nil
              go_simp
              refine (implFieldAt_any m _ x q _ HMm.out HW.out (HC.out.below HB1_3.out)).mono ?_
              rintro e Z4 ⟨v0, rfl, ho, hbc⟩
              obtain ⟨p9, c9, rfl⟩ := ho.isSlice
              have HO := hide ho
              have HB0_4 := hide (HB0_3.out.trans (hbc.mono HB0_3.out.size))
              have HB1_4 := hide (HB1_3.out.trans (hbc.mono HB1_3.out.size))
              have HB2_4 := hide (HB2_3.out.trans (hbc.mono HB2_3.out.size))
              have HB4_4 := hide (Below.refl Z4.heap.size Z4)
              have HLO := hide (show w9.heap.size ≤ Z3.heap.size from HB0_3.out.size)
              have HGL := hide (show G < Z3.heap.size ∨ Z4.heap.size ≤ G from .inl (Nat.lt_of_lt_of_le HGS.out HB2_3.out.size))
              obtain ⟨LO, hLO⟩ : ∃ LO, LO = Z3.heap.size := ⟨_, rfl⟩
              obtain ⟨HI, hHI⟩ : ∃ HI, HI = Z4.heap.size := ⟨_, rfl⟩
              rw [← hLO, ← hHI] at HO
              rw [← hLO] at HLO
              rw [← hLO, ← hHI] at HGL
              have HHI := hide (show HI ≤ Z4.heap.size from Nat.le_of_eq hHI)
              clear ho hbc hLO hHI
              refine hK.out _ _ (HSS.out _ HB0_4.out) (fun _ => ?_)
              clear hK K HS
              have HS := hide (HSS.out _ HB0_4.out)
              refine wpAnyH_ready (rs := [6]) (by kernel_rfl) (by simp) ?_
              refine AllReadyH.cons (o := _) rfl (fun K hK => ?_) AllReadyH.nil
              have rowz := HRG.out.below HB2_4.out HGS.out
              have g0 : Z4.cell? ⟨G, 0, none⟩ = some (.slice none 0 0) := rowz.cell 0
              have gf := rowz.free 0
              have HOZ := hide (Keeps.go (SameIn.ofBelow HB4_4.out) HO.out)
              have HHZ := hide (Nat.le_trans HHI.out HB4_4.out.size)
              have HRZ := hide (rowz.set (j := 0) (.slice p9 (fldOut m x q).length c9))
              have HBZ := hide (HB0_4.out.setCell (p := ⟨G, 0, none⟩) HGB.out (.slice p9 (fldOut m x q).length c9))
              have es : (Z4.setCell ⟨G, 0, none⟩ (.slice p9 (fldOut m x q).length c9)).heap.size = Z4.heap.size := by simp [World.setCell]
              have HOF := hide (Keeps.go (SameIn.setO Z4 (j := 0) (.slice p9 (fldOut m x q).length c9) HGL.out) HOZ.out)
              have HFF2 := hide (show w9.heap.size ≤ LO ∧ HI ≤ (Z4.setCell ⟨G, 0, none⟩ (.slice p9 (fldOut m x q).length c9)).heap.size ∧ w9.heap.size ≤ G ∧ (G < LO ∨ HI ≤ G) from ⟨HLO.out, by rw [es]; exact HHZ.out, HGB.out, HGL.out⟩)
              clear rowz es
              go_simp
              refine hK.out _ _ (HSS.out _ HBZ.out) (fun _ => ?_)
              clear hK K HS
              refine wpAnyH_done (by kernel_rfl) ?_ _
              go_wp2_with fail
              go_meet
              exact ⟨_, G, _, LO, HI, rfl, rfl, HRZ, HOF, HFF2, HBZ⟩
          · go_simp
            have hbc : Below Z0.heap.size Z0 (Z0.alloc (.cells #[.slice none 0 0] 31)) := (Below.refl _ _).alloc (Nat.le_refl _) _
            have HRG := hide (row_new Z0 [.slice none 0 0] 31)
            have HGS : Hid (Z0.heap.size < (Z0.alloc (.cells #[.slice none 0 0] 31)).heap.size) := hide (by simp)
            have HGB := hide (show w9.heap.size ≤ Z0.heap.size from HB0_0.out.size)
            refine hK.out _ _ (HSS.out _ (HB0_0.out.trans (hbc.mono HB0_0.out.size))) (fun _ => ?_)
            clear hK K HS
            obtain ⟨Z1, hZ⟩ : ∃ Z, Z = Z0.alloc (.cells #[.slice none 0 0] 31) := ⟨_, rfl⟩
            obtain ⟨G, hG⟩ : ∃ G, G = Z0.heap.size := ⟨_, rfl⟩
            rw [← hZ] at hbc HRG HGS ⊢
            have HB0_1 := hide (HB0_0.out.trans (hbc.mono HB0_0.out.size))
            have HB1_1 := hide (Below.refl Z1.heap.size Z1)
            rw [← hG] at HRG HGS HGB ⊢
            clear hZ hG hbc
            have HS := hide (HSS.out _ HB0_1.out)
            refine wpAnyH_ready (rs := [1]) (by kernel_rfl) (by simp) ?_
            refine AllReadyH.cons (o := _) rfl (fun K hK => ?_) AllReadyH.nil
            go_simp
            refine (toMessage_any m _ x _ HW.out (HR.out.below (HBPRE.out.trans (HB0_1.out.mono HBPRE.out.size)))).mono ?_
            rintro e Z2 ⟨p6, c6, rfl, hr6, hbc⟩
            have HC := hide (RSegs.mono hr6 (Nat.zero_le _))
            have HB0_2 := hide (HB0_1.out.trans (hbc.mono HB0_1.out.size))
            have HB1_2 := hide (HB1_1.out.trans (hbc.mono HB1_1.out.size))
            have HB2_2 := hide (Below.refl Z2.heap.size Z2)
            clear hr6 hbc
            refine hK.out _ _ (HSS.out _ HB0_2.out) (fun _ => ?_)
            clear hK K HS
            have HS := hide (HSS.out _ HB0_2.out)
            refine wpAnyH_ready (rs := [3]) (by kernel_rfl) (by simp) ?_
            refine AllReadyH.cons (o := _) rfl (fun K hK => ?_) AllReadyH.nil
            go_simp
            rw [← HV.out]
            refine (toPath_any q _).mono ?_
            rintro e Z3 ⟨rfl, hbc⟩
            have HB0_3 := hide (HB0_2.out.trans (hbc.mono HB0_2.out.size))
            have HB1_3 := hide (HB1_2.out.trans (hbc.mono HB1_2.out.size))
            have HB2_3 := hide (HB2_2.out.trans (hbc.mono HB2_2.out.size))
            clear hbc
            refine hK.out _ _ (HSS.out _ HB0_3.out) (fun _ => ?_)
            clear hK K HS
            have HS := hide (HSS.out _ HB0_3.out)
            refine wpAnyH_ready (rs := [4]) (by kernel_rfl) (by simp) ?_
            refine AllReadyH.cons (o := _) rfl (fun K hK => ?_) AllReadyH.nil
            go_simp
            refine (implFieldAt_any m _ x q _ HMm.out HW.out (HC.out.below HB2_3.out)).mono ?_
            rintro e Z4 ⟨v0, rfl, ho, hbc⟩
            obtain ⟨p9, c9, rfl⟩ := ho.isSlice
            have HO := hide ho
            have HB0_4 := hide (HB0_3.out.trans (hbc.mono HB0_3.out.size))
            have HB1_4 := hide (HB1_3.out.trans (hbc.mono HB1_3.out.size))
            have HB2_4 := hide (HB2_3.out.trans (hbc.mono HB2_3.out.size))
            have HB4_4 := hide (Below.refl Z4.heap.size Z4)
            have HLO := hide (show w9.heap.size ≤ Z3.heap.size from HB0_3.out.size)
            have HGL := hide (show G < Z3.heap.size ∨ Z4.heap.size ≤ G from .inl (Nat.lt_of_lt_of_le HGS.out HB1_3.out.size))
            obtain ⟨LO, hLO⟩ : ∃ LO, LO = Z3.heap.size := ⟨_, rfl⟩
            obtain ⟨HI, hHI⟩ : ∃ HI, HI = Z4.heap.size := ⟨_, rfl⟩
            rw [← hLO, ← hHI] at HO
            rw [← hLO] at HLO
            rw [← hLO, ← hHI] at HGL
            have HHI := hide (show HI ≤ Z4.heap.size from Nat.le_of_eq hHI)
            clear ho hbc hLO hHI
            refine hK.out _ _ (HSS.out _ HB0_4.out) (fun _ => ?_)
            clear hK K HS
            have HS := hide (HSS.out _ HB0_4.out)
            refine wpAnyH_ready (rs := [6]) (by kernel_rfl) (by simp) ?_
            refine AllReadyH.cons (o := _) rfl (fun K hK => ?_) AllReadyH.nil
            have rowz := HRG.out.below HB1_4.out HGS.out
            have g0 : Z4.cell? ⟨G, 0, none⟩ = some (.slice none 0 0) := rowz.cell 0
            have gf := rowz.free 0
            have HOZ := hide (Keeps.go (SameIn.ofBelow HB4_4.out) HO.out)
            have HHZ := hide (Nat.le_trans HHI.out HB4_4.out.size)
            have HRZ := hide (rowz.set (j := 0) (.slice p9 (fldOut m x q).length c9))
            have HBZ := hide (HB0_4.out.setCell (p := ⟨G, 0, none⟩) HGB.out (.slice p9 (fldOut m x q).length c9))
            have es : (Z4.setCell ⟨G, 0, none⟩ (.slice p9 (fldOut m x q).length c9)).heap.size = Z4.heap.size := by simp [World.setCell]
            have HOF := hide (Keeps.go (SameIn.setO Z4 (j := 0) (.slice p9 (fldOut m x q).length c9) HGL.out) HOZ.out)
            have HFF2 := hide (show w9.heap.size ≤ LO ∧ HI ≤ (Z4.setCell ⟨G, 0, none⟩ (.slice p9 (fldOut m x q).length c9)).heap.size ∧ w9.heap.size ≤ G ∧ (G < LO ∨ HI ≤ G) from ⟨HLO.out, by rw [es]; exact HHZ.out, HGB.out, HGL.out⟩)
            clear rowz es
            go_simp
            refine hK.out _ _ (HSS.out _ HBZ.out) (fun _ => ?_)
            clear hK K HS
            refine wpAnyH_done (by kernel_rfl) ?_ _
            go_wp2_with fail
            go_meet
            exact ⟨_, G, _, LO, HI, rfl, rfl, HRZ, HOF, HFF2, HBZ⟩
        case rest =>
          obtain ⟨wd, G12, v12, LO12, HI12, rfl, rfl, HG12, HO12, HF12, HBd⟩ := hcut
          have hbd := HBd.out
          have HBwd := hide (HBw9.out.trans (hbd.mono HBw9.out.size))
          have HG6d := hide (HG69.out.below hbd HG69.out.lt)
          have HG8d := hide (HG89.out.below hbd HG89.out.lt)
          have HO6d := hide (Keeps.go (SameIn.ofBelow hbd) HO69.out)
          have HO8d := hide (Keeps.go (SameIn.ofBelow hbd) HO89.out)
          have g12 : wd.cell? ⟨G12, 0, none⟩ = some v12 := HG12.out.cell 0
          have g6 : wd.cell? ⟨G6, 0, none⟩ = some v0 := HG6d.out.cell 0
          clear hbd HBd HSS HM9 HP9 HG69 HG89 HO69 HO89 HBw9 HBPRE
          go_wp2_with fail
          refine (eqField_same _ _ (fldOut m x q) _ _ _ HFS.out HO12.out.rl HO6d.out.rl).mono ?_
          rintro e w10 ⟨rfl, hb10⟩
          have HBw10 := hide (HBwd.out.trans (hb10.mono HBwd.out.size))
          have HG810 := hide (HG8d.out.below hb10 HG8d.out.lt)
          have HO810 := hide (Keeps.go (SameIn.ofBelow hb10) HO8d.out)
          have g810 : w10.cell? ⟨G8, 0, none⟩ = some v1 := HG810.out.cell 0
          clear hb10 g12 g6 HG8d HO8d HBwd
          go_wp2_with fail
          refine (heldField_own LO8 HI8 _ (fldOut m x q) 1 _ HFS.out (by have := HFS.out; omega) HO810.out).mono ?_
          rintro e w11 ⟨rfl, hb11⟩
          rw [← HMM.out]
          have HBw11 := hide (HBw10.out.trans (hb11.mono HBw10.out.size))
          clear hb11 g810
          go_wp2
          go_ret
          exact ⟨rfl, HBw11.out⟩
end Go.Proofs.YtmkcmajpepehmaaGreat
