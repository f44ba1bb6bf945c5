/- ValueAt of the program and of the model: both answer the same Lean function of the lists. -/
import Derived.Test.YtnkddbkfbhpinaaPVal
namespace Go.Proofs.Ytnkddbkfbhpinaa
open Go.RowKit

theorem itemL_cases {α : Type} (xs : List (List α)) (a : Int) : itemL xs a = [] ∨ itemL xs a ∈ xs := by
  by_cases h : 0 ≤ a ∧ a < xs.length
  · obtain ⟨k, rfl⟩ := Int.eq_ofNat_of_zero_le h.1
    have hk : k < xs.length := by omega
    exact .inr (by rw [itemL_yes hk]; exact List.getElem_mem hk)
  · exact .inl (itemL_no h)
theorem itemS_cases (xs : List ByteArray) (a : Int) : itemS xs a = ⟨#[]⟩ ∨ itemS xs a ∈ xs := by
  by_cases h : 0 ≤ a ∧ a < xs.length
  · obtain ⟨k, rfl⟩ := Int.eq_ofNat_of_zero_le h.1
    have hk : k < xs.length := by omega
    exact .inr (by rw [itemS_yes hk]; exact List.getElem_mem hk)
  · exact .inl (itemS_no h)
theorem itemL_w {α : Type} (g : List α → Nat) (h0 : g [] = 0) (xs : List (List α)) (a : Int) : g (itemL xs a) ≤ wL g xs := by
  rcases itemL_cases xs a with e | e
  · rw [e, h0]; exact Nat.zero_le _
  · have := wL_mem g e; omega
theorem valAt_small {x : List Seg} (h : wSegs x ≤ 1048576) (q : PathM) : (valAt (fldAt x q) q).size ≤ 1048576 := by
  have h1 : wFlds (fldsAt x (segIx x q.seg q.nth 0)) ≤ wSegs x := by
    unfold fldsAt
    rcases itemL_cases (x.map (·.2)) (segIx x q.seg q.nth 0) with e | e
    · rw [e]; exact Nat.zero_le _
    · obtain ⟨s, hs, e2⟩ := List.mem_map.1 e
      rw [← e2]
      have := wL_mem wSeg hs
      have h3 : wSegs x = wL wSeg x := rfl
      have h4 : wSeg s = s.1.size + wFlds s.2 := rfl
      omega
  have h2 : wFld (fldAt x q) ≤ wFlds (fldsAt x (segIx x q.seg q.nth 0)) := itemL_w wFld rfl _ _
  have h3 : wRep (itemL (fldAt x q) (q.rep - 1)) ≤ wFld (fldAt x q) := itemL_w wRep rfl _ _
  have h4 : wComp (itemL (itemL (fldAt x q) (q.rep - 1)) (q.comp - 1)) ≤ wRep (itemL (fldAt x q) (q.rep - 1)) := itemL_w wComp rfl _ _
  have h5 : (valAt (fldAt x q) q).size ≤ wComp (itemL (itemL (fldAt x q) (q.rep - 1)) (q.comp - 1)) := by
    unfold valAt
    rcases itemS_cases (itemL (itemL (fldAt x q) (q.rep - 1)) (q.comp - 1)) (q.sub - 1) with e | e
    · rw [e]; exact Nat.zero_le _
    · have := wL_mem ByteArray.size e
      exact Nat.le_trans (by omega) (Nat.le_refl (wL ByteArray.size _))
  omega
def valOut (m : ByteArray) (x : List Seg) (q : PathM) : ByteArray := if msgB m x && q.right then valAt (fldAt x q) q else ⟨#[]⟩

theorem Try.fieldOfField (p : Option Addr) (n c : Nat) (W : World) : (Instr.field 44 (.agg #[.slice p n c]) 0).run Try.prog W = .ok (.slice p n c) W := by kernel_rfl
theorem ret_stringP {a b : ByteArray} (h : a = b) : Ending.returned (.string a) = Ending.returned (.string b) := by rw [h]
set_option maxHeartbeats 4000000 in
set_option maxRecDepth 100000 in
theorem implValueAt_any (m : ByteArray) (u : Value) (x : List Seg) (q : PathM) (w : World) (hm : m.size ≤ maxLen) (hw : wSegs x ≤ 1048576) (hr : RSegs 0 w u x) :
    Calls Try.prog 9 #[.agg #[.string m, u], q.v] w fun e w' => e = .returned (.string (valOut m x q)) ∧ Below w.heap.size w w' := by
  have HR := hide hr
  have HMm := hide hm
  have HFF := hide (fitsM_of hw)
  have HWW := hide hw
  obtain ⟨p, c, rfl⟩ := hr.isSlice
  clear hr hm hw
  obtain ⟨OUT, hOUT⟩ : ∃ O, O = valOut m x q := ⟨_, rfl⟩
  rw [← hOUT]
  have HO := hide hOUT
  clear hOUT
  obtain ⟨W, hW⟩ : ∃ W, W = (w.alloc (.cells #[.string m, .slice p x.length c] 32)).alloc (.cells #[.string q.seg, .int .i64 q.nth, .int .i64 q.fld, .int .i64 q.rep, .int .i64 q.comp, .int .i64 q.sub] 34) := ⟨_, rfl⟩
  have hB0 : Below w.heap.size w W := by rw [hW]; exact ((Below.refl _ _).alloc (Nat.le_refl _) _).alloc (by simp) _
  have HB0 := hide hB0
  have HM : Hid (Row W w.heap.size 32 [.string m, .slice p x.length c]) := by rw [hW]; exact (row_new w [.string m, .slice p x.length c] 32).alloc _
  have HP : Hid (Row W (w.heap.size + 1) 34 [.string q.seg, .int .i64 q.nth, .int .i64 q.fld, .int .i64 q.rep, .int .i64 q.comp, .int .i64 q.sub]) := by
    rw [hW]
    have := row_new (w.alloc (.cells #[.string m, .slice p x.length c] 32)) [.string q.seg, .int .i64 q.nth, .int .i64 q.fld, .int .i64 q.rep, .int .i64 q.comp, .int .i64 q.sub] 34
    exact hide (by simpa using this)
  clear hB0
  have HV : Hid (q.v = .agg #[.string q.seg, .int .i64 q.nth, .int .i64 q.fld, .int .i64 q.rep, .int .i64 q.comp, .int .i64 q.sub]) := rfl
  rw [HV.out]
  go_enter Try.func9, Try.ntmps9
  go_wp2_with fail
  rw [← hW]
  clear hW
  have HKN := hide (show w.heap.size < w.heap.size + 1 ∧ w.heap.size + 1 < W.heap.size from ⟨by omega, HP.out.lt⟩)
  generalize w.heap.size + 1 = K1 at *
  refine (implMessage_any m _ x _ HMm.out HFF.out (HR.out.below HB0.out)).mono ?_
  rintro e w1 ⟨rfl, hb1⟩
  have HB1 := hide (HB0.out.trans (hb1.mono HB0.out.size))
  have HM1 := hide (HM.out.below hb1 HM.out.lt)
  have HP1 := hide (HP.out.below hb1 HP.out.lt)
  clear hb1
  cases hmb : msgB m x
  · have HN := hide (show OUT = ⟨#[]⟩ by rw [HO.out]; simp [valOut, hmb])
    go_wp2
    go_ret
    exact ⟨ret_stringP HN.out.symm, HB1.out⟩
  have a0 : w1.cell? ⟨K1, 0, none⟩ = some (.string q.seg) := HP1.out.cell 0
  have a1 : w1.cell? ⟨K1, 1, none⟩ = some (.int .i64 q.nth) := HP1.out.cell 1
  have a2 : w1.cell? ⟨K1, 2, none⟩ = some (.int .i64 q.fld) := HP1.out.cell 2
  have a3 : w1.cell? ⟨K1, 3, none⟩ = some (.int .i64 q.rep) := HP1.out.cell 3
  have a4 : w1.cell? ⟨K1, 4, none⟩ = some (.int .i64 q.comp) := HP1.out.cell 4
  have a5 : w1.cell? ⟨K1, 5, none⟩ = some (.int .i64 q.sub) := HP1.out.cell 5
  go_wp2_with fail
  rw [← HV.out]
  refine (implPathRight_any q _).mono ?_
  rintro e w2 ⟨rfl, hb2⟩
  have HB2 := hide (HB1.out.trans (hb2.mono HB1.out.size))
  have HM2 := hide (HM1.out.below hb2 HM1.out.lt)
  have HP2 := hide (HP1.out.below hb2 HP1.out.lt)
  clear hb2 a0 a1 a2 a3 a4 a5 HM1 HP1 HB1
  cases hq : q.right
  · have HN := hide (show OUT = ⟨#[]⟩ by rw [HO.out]; simp [valOut, hq])
    go_wp2
    go_ret
    exact ⟨ret_stringP HN.out.symm, HB2.out⟩
  have HY := hide (show OUT = valAt (fldAt x q) q by rw [HO.out]; simp [valOut, hq, hmb])
  have HQ := hide hq
  obtain ⟨_, _, ⟨r1, r2⟩, ⟨s1, s2⟩, t1, t2⟩ := right_nums hq
  have hw3 : IntKind.i64.wrap (q.rep - 1) = q.rep - 1 := wrap_small _ (by omega) (by omega)
  have hw4 : IntKind.i64.wrap (q.comp - 1) = q.comp - 1 := wrap_small _ (by omega) (by omega)
  have hw5 : IntKind.i64.wrap (q.sub - 1) = q.sub - 1 := wrap_small _ (by omega) (by omega)
  clear hmb hq HO
  go_wp2_with fail
  go_cut [5] (fun t5 wz => ∃ (wx : World) (G : Nat) (p2 : Option Addr) (c2 : Nat), wx = wz ∧ t5 = .pointer (some ⟨G, 0, none⟩) ∧ Hid (w2.heap.size ≤ G) ∧ Hid (Row wx G 49 [.slice p2 (itemL (fldAt x q) (q.rep - 1)).length c2]) ∧ Hid (RRep 0 w (.slice p2 (itemL (fldAt x q) (q.rep - 1)).length c2) (itemL (fldAt x q) (q.rep - 1))) ∧ Hid (Kept [] w2 wx))
  case first =>
    have hfd := Try.fieldOfField
    have HSS := hide (show ∀ y, Kept [] w2 y → (fun y : World => y.cell? ⟨w.heap.size, 0, none⟩ = some (.string m) ∧ y.cell? ⟨w.heap.size, 1, none⟩ = some (.slice p x.length c) ∧ y.cell? ⟨K1, 0, none⟩ = some (.string q.seg) ∧ y.cell? ⟨K1, 1, none⟩ = some (.int .i64 q.nth) ∧ y.cell? ⟨K1, 2, none⟩ = some (.int .i64 q.fld) ∧ y.cell? ⟨K1, 3, none⟩ = some (.int .i64 q.rep) ∧ y.cell? ⟨K1, 4, none⟩ = some (.int .i64 q.comp) ∧ y.cell? ⟨K1, 5, none⟩ = some (.int .i64 q.sub)) y from fun y h => ⟨(h.row HM2.out (by simp)).cell 0, (h.row HM2.out (by simp)).cell 1, (h.row HP2.out (by simp)).cell 0, (h.row HP2.out (by simp)).cell 1, (h.row HP2.out (by simp)).cell 2, (h.row HP2.out (by simp)).cell 3, (h.row HP2.out (by simp)).cell 4, (h.row HP2.out (by simp)).cell 5⟩)
    refine wp_region_held (S := fun y : World => y.cell? ⟨w.heap.size, 0, none⟩ = some (.string m) ∧ y.cell? ⟨w.heap.size, 1, none⟩ = some (.slice p x.length c) ∧ y.cell? ⟨K1, 0, none⟩ = some (.string q.seg) ∧ y.cell? ⟨K1, 1, none⟩ = some (.int .i64 q.nth) ∧ y.cell? ⟨K1, 2, none⟩ = some (.int .i64 q.fld) ∧ y.cell? ⟨K1, 3, none⟩ = some (.int .i64 q.rep) ∧ y.cell? ⟨K1, 4, none⟩ = some (.int .i64 q.comp) ∧ y.cell? ⟨K1, 5, none⟩ = some (.int .i64 q.sub)) (by kernel_rfl) ?_
    have HX : Hid (Kept [] w2 { w2 with drawn := w2.drawn + 1 }) := (Kept.refl _ _).drewP
    generalize ({ w2 with drawn := w2.drawn + 1 } : World) = X0 at HX ⊢
    have HS := hide (HSS.out _ HX.out)
    refine wpAnyH_take (i := 0) (oi := _) (v := .agg #[.string m, .slice p x.length c]) rfl (by kernel_rfl) (by kernel_rfl) (by kernel_rfl) (fun _ _ _ h => h) (Or.inl ⟨by rfl, by intro w hSw; go_split_ands; go_simp⟩) HS.out ?_
    simp only [Act.put, List.getElem_toArray, List.getElem_cons_zero, List.setIfInBounds_toArray, List.set_cons_zero, List.set_cons_succ]
    refine wpAnyH_take (i := 1) (oi := _) (v := .agg #[.string q.seg, .int .i64 q.nth, .int .i64 q.fld, .int .i64 q.rep, .int .i64 q.comp, .int .i64 q.sub]) rfl (by kernel_rfl) (by kernel_rfl) (by kernel_rfl) (fun _ _ _ h => h) (Or.inl ⟨by rfl, by intro w hSw; go_split_ands; go_simp⟩) HS.out ?_
    simp only [Act.put, List.getElem_toArray, List.getElem_cons_zero, List.getElem_cons_succ, List.setIfInBounds_toArray, List.set_cons_zero, List.set_cons_succ]
    refine wpAnyH_take (i := 4) (oi := _) (v := .pointer (some ⟨K1, 3, none⟩)) rfl (by kernel_rfl) (by kernel_rfl) (by kernel_rfl) (fun _ _ _ h => h) (Or.inl ⟨by rfl, by intro w hSw; go_split_ands; go_simp⟩) HS.out ?_
    simp only [Act.put, List.getElem_toArray, List.getElem_cons_zero, List.getElem_cons_succ, List.setIfInBounds_toArray, List.set_cons_zero, List.set_cons_succ]
    refine wpAnyH_take (i := 5) (oi := _) (v := .int .i64 q.rep) rfl (by kernel_rfl) (by kernel_rfl) (by kernel_rfl) (fun _ _ _ h => h) (Or.inl ⟨by rfl, by intro w hSw; go_split_ands; go_simp⟩) HS.out ?_
    simp only [Act.put, List.getElem_toArray, List.getElem_cons_zero, List.getElem_cons_succ, List.setIfInBounds_toArray, List.set_cons_zero, List.set_cons_succ]
    refine wpAnyH_take (i := 6) (oi := _) (v := .int .i64 (q.rep - 1)) rfl (by kernel_rfl) (by kernel_rfl) (by kernel_rfl) (fun _ _ _ h => h) (Or.inl ⟨by rfl, by intro w hSw; go_split_ands; go_simp⟩) HS.out ?_
    simp only [Act.put, List.getElem_toArray, List.getElem_cons_zero, List.getElem_cons_succ, List.setIfInBounds_toArray, List.set_cons_zero, List.set_cons_succ]
    refine wpAnyH_ready (rs := [2, 8]) (by kernel_rfl) (by simp) ?_
    refine AllReadyH.cons (o := _) rfl (fun K hK => ?_) (AllReadyH.cons (o := _) rfl (fun K hK => ?_) AllReadyH.nil)
    · go_simp
      rw [← HV.out]
      refine (fieldThere_from m _ x q w _ (HX.out.toBelow HB2.out HB2.out.size (by simp)) HQ.out HFF.out.1 HR.out).mono ?_
      rintro e X2 ⟨⟨p1, c1, rfl, hf1⟩, hbc⟩
      have HX2 := hide (HX.out.below hbc)
      have HF1 := hide hf1
      clear hf1
      refine hK.out _ _ (HSS.out _ HX2.out) (fun _ => ?_)
      clear hK K HS HX hbc 
      have HX := HX2
      have HS := hide (HSS.out _ HX.out)
      clear HX2
      refine wpAnyH_take (i := 3) (oi := _) (v := .slice p1 (fldAt x q).length c1) rfl (by kernel_rfl) (by kernel_rfl) (by kernel_rfl) (fun _ _ _ h => h) (Or.inl ⟨by rfl, by intro w hSw; go_split_ands; go_simp⟩) HS.out ?_
      simp only [Act.put, List.getElem_toArray, List.getElem_cons_zero, List.getElem_cons_succ, List.setIfInBounds_toArray, List.set_cons_zero, List.set_cons_succ]
      refine wpAnyH_ready (rs := [7, 8]) (by kernel_rfl) (by simp) ?_
      refine AllReadyH.cons (o := _) rfl (fun K hK => ?_) (AllReadyH.cons (o := _) rfl (fun K hK => ?_) AllReadyH.nil)
      · go_simp
        refine (itemAtRep_from _ (fldAt x q) (q.rep - 1) w _ (HX.out.toBelow HB2.out HB2.out.size (by simp)) HF1.out).mono ?_
        rintro e X3 ⟨⟨p2, c2, rfl, hrr⟩, hbc⟩
        have HX2 := hide (HX.out.below hbc)
        have HRR := hide hrr
        clear hrr
        refine hK.out _ _ (HSS.out _ HX2.out) (fun _ => ?_)
        clear hK K HS HX hbc 
        have HX := HX2
        have HS := hide (HSS.out _ HX.out)
        clear HX2
        refine wpAnyH_ready (rs := [8]) (by kernel_rfl) (by simp) ?_
        refine AllReadyH.cons (o := _) rfl (fun K hK => ?_) AllReadyH.nil
        go_simp
        refine hK.out _ _ (HSS.out _ (HX.out.allocP (.cells #[.slice none 0 0] 49))) (fun _ => ?_)
        clear hK K HS
        have HG := hide (newP HX.out [.slice none 0 0] 49)
        have HGB := hide HX.out.size
        have HX2 := hide (HX.out.allocP (.cells #[.slice none 0 0] 49))
        clear HX
        generalize hY : World.alloc _ (Obj.cells #[.slice none 0 0] 49) = X4 at HX2 ⊢
        rw [show (List.toArray [.slice none 0 0] : Array Value) = #[.slice none 0 0] from rfl, hY] at HG
        clear hY
        generalize Array.size (World.heap _) = G at HG HGB ⊢
        have HX := HX2
        clear HX2
        have HS := hide (HSS.out _ HX.out)
        refine wpAnyH_ready (rs := [9]) (by kernel_rfl) (by simp) ?_
        refine AllReadyH.cons (o := _) rfl (fun K hK => ?_) AllReadyH.nil
        have r0 := HG.out.cell 0
        have p0 := HG.out.free 0
        go_simp
        have HX2 := hide (HX.out.setOwn (G := G) (j := 0) (.inl HGB.out) (.slice p2 (itemL (fldAt x q) (q.rep - 1)).length c2))
        have HG2 := hide (HG.out.set (j := 0) (.slice p2 (itemL (fldAt x q) (q.rep - 1)).length c2))
        refine hK.out _ _ (HSS.out _ HX2.out) (fun _ => ?_)
        refine wpAnyH_done (by kernel_rfl) ?_ _
        clear hK K r0 p0
        go_wp2_with fail
        go_meet
        exact ⟨_, G, p2, c2, rfl, rfl, HGB, HG2, HRR, HX2⟩
      · go_simp
        refine hK.out _ _ (HSS.out _ (HX.out.allocP (.cells #[.slice none 0 0] 49))) (fun _ => ?_)
        clear hK K HS
        have HG := hide (newP HX.out [.slice none 0 0] 49)
        have HGB := hide HX.out.size
        have HX2 := hide (HX.out.allocP (.cells #[.slice none 0 0] 49))
        clear HX
        generalize hY : World.alloc _ (Obj.cells #[.slice none 0 0] 49) = X4 at HX2 ⊢
        rw [show (List.toArray [.slice none 0 0] : Array Value) = #[.slice none 0 0] from rfl, hY] at HG
        clear hY
        generalize Array.size (World.heap _) = G at HG HGB ⊢
        have HX := HX2
        clear HX2
        have HS := hide (HSS.out _ HX.out)
        refine wpAnyH_ready (rs := [7]) (by kernel_rfl) (by simp) ?_
        refine AllReadyH.cons (o := _) rfl (fun K hK => ?_) AllReadyH.nil
        go_simp
        refine (itemAtRep_from _ (fldAt x q) (q.rep - 1) w _ (HX.out.toBelow HB2.out HB2.out.size (by simp)) HF1.out).mono ?_
        rintro e X3 ⟨⟨p2, c2, rfl, hrr⟩, hbc⟩
        have HX2 := hide (HX.out.below hbc)
        have HG2 := hide (HG.out.below hbc HG.out.lt)
        have HRR := hide hrr
        clear hrr
        refine hK.out _ _ (HSS.out _ HX2.out) (fun _ => ?_)
        clear hK K HS HX hbc HG
        have HX := HX2
        have HS := hide (HSS.out _ HX.out)
        clear HX2
        have HG := HG2
        clear HG2
        refine wpAnyH_ready (rs := [9]) (by kernel_rfl) (by simp) ?_
        refine AllReadyH.cons (o := _) rfl (fun K hK => ?_) AllReadyH.nil
        have r0 := HG.out.cell 0
        have p0 := HG.out.free 0
        go_simp
        have HX2 := hide (HX.out.setOwn (G := G) (j := 0) (.inl HGB.out) (.slice p2 (itemL (fldAt x q) (q.rep - 1)).length c2))
        have HG2 := hide (HG.out.set (j := 0) (.slice p2 (itemL (fldAt x q) (q.rep - 1)).length c2))
        refine hK.out _ _ (HSS.out _ HX2.out) (fun _ => ?_)
        refine wpAnyH_done (by kernel_rfl) ?_ _
        clear hK K r0 p0
        go_wp2_with fail
        go_meet
        exact ⟨_, G, p2, c2, rfl, rfl, HGB, HG2, HRR, HX2⟩
    · go_simp
      refine hK.out _ _ (HSS.out _ (HX.out.allocP (.cells #[.slice none 0 0] 49))) (fun _ => ?_)
      clear hK K HS
      have HG := hide (newP HX.out [.slice none 0 0] 49)
      have HGB := hide HX.out.size
      have HX2 := hide (HX.out.allocP (.cells #[.slice none 0 0] 49))
      clear HX
      generalize hY : World.alloc _ (Obj.cells #[.slice none 0 0] 49) = X4 at HX2 ⊢
      rw [show (List.toArray [.slice none 0 0] : Array Value) = #[.slice none 0 0] from rfl, hY] at HG
      clear hY
      generalize Array.size (World.heap _) = G at HG HGB ⊢
      have HX := HX2
      clear HX2
      have HS := hide (HSS.out _ HX.out)
      refine wpAnyH_ready (rs := [2]) (by kernel_rfl) (by simp) ?_
      refine AllReadyH.cons (o := _) rfl (fun K hK => ?_) AllReadyH.nil
      go_simp
      rw [← HV.out]
      refine (fieldThere_from m _ x q w _ (HX.out.toBelow HB2.out HB2.out.size (by simp)) HQ.out HFF.out.1 HR.out).mono ?_
      rintro e X2 ⟨⟨p1, c1, rfl, hf1⟩, hbc⟩
      have HX2 := hide (HX.out.below hbc)
      have HG2 := hide (HG.out.below hbc HG.out.lt)
      have HF1 := hide hf1
      clear hf1
      refine hK.out _ _ (HSS.out _ HX2.out) (fun _ => ?_)
      clear hK K HS HX hbc HG
      have HX := HX2
      have HS := hide (HSS.out _ HX.out)
      clear HX2
      have HG := HG2
      clear HG2
      refine wpAnyH_take (i := 3) (oi := _) (v := .slice p1 (fldAt x q).length c1) rfl (by kernel_rfl) (by kernel_rfl) (by kernel_rfl) (fun _ _ _ h => h) (Or.inl ⟨by rfl, by intro w hSw; go_split_ands; go_simp⟩) HS.out ?_
      simp only [Act.put, List.getElem_toArray, List.getElem_cons_zero, List.getElem_cons_succ, List.setIfInBounds_toArray, List.set_cons_zero, List.set_cons_succ]
      refine wpAnyH_ready (rs := [7]) (by kernel_rfl) (by simp) ?_
      refine AllReadyH.cons (o := _) rfl (fun K hK => ?_) AllReadyH.nil
      go_simp
      refine (itemAtRep_from _ (fldAt x q) (q.rep - 1) w _ (HX.out.toBelow HB2.out HB2.out.size (by simp)) HF1.out).mono ?_
      rintro e X3 ⟨⟨p2, c2, rfl, hrr⟩, hbc⟩
      have HX2 := hide (HX.out.below hbc)
      have HG2 := hide (HG.out.below hbc HG.out.lt)
      have HRR := hide hrr
      clear hrr
      refine hK.out _ _ (HSS.out _ HX2.out) (fun _ => ?_)
      clear hK K HS HX hbc HG
      have HX := HX2
      have HS := hide (HSS.out _ HX.out)
      clear HX2
      have HG := HG2
      clear HG2
      refine wpAnyH_ready (rs := [9]) (by kernel_rfl) (by simp) ?_
      refine AllReadyH.cons (o := _) rfl (fun K hK => ?_) AllReadyH.nil
      have r0 := HG.out.cell 0
      have p0 := HG.out.free 0
      go_simp
      have HX2 := hide (HX.out.setOwn (G := G) (j := 0) (.inl HGB.out) (.slice p2 (itemL (fldAt x q) (q.rep - 1)).length c2))
      have HG2 := hide (HG.out.set (j := 0) (.slice p2 (itemL (fldAt x q) (q.rep - 1)).length c2))
      refine hK.out _ _ (HSS.out _ HX2.out) (fun _ => ?_)
      refine wpAnyH_done (by kernel_rfl) ?_ _
      clear hK K r0 p0
      go_wp2_with fail
      go_meet
      exact ⟨_, G, p2, c2, rfl, rfl, HGB, HG2, HRR, HX2⟩
  case rest =>
    obtain ⟨wx, G, p2, c2, rfl, rfl, HGB, HRG, HRR, HXK⟩ := hcut
    have HB3 := hide (HXK.out.toBelow HB2.out HB2.out.size (by simp))
    have HP3 := hide (HXK.out.row HP2.out (by simp))
    have g0 : wx.cell? ⟨G, 0, none⟩ = some (.slice p2 (itemL (fldAt x q) (q.rep - 1)).length c2) := HRG.out.cell 0
    have a4 : wx.cell? ⟨K1, 4, none⟩ = some (.int .i64 q.comp) := HP3.out.cell 4
    go_wp2_with fail
    refine (itemAtComp_from _ (itemL (fldAt x q) (q.rep - 1)) (q.comp - 1) w _ HB3.out HRR.out).mono ?_
    rintro e w4 ⟨⟨p4, c4, rfl, hf4⟩, hb4⟩
    have HC4 := hide hf4
    have HB4 := hide ((HB3.out.trans (hb4.mono HB3.out.size)).alloc (HB3.out.trans (hb4.mono HB3.out.size)).size (.cells #[.slice p4 (itemL (itemL (fldAt x q) (q.rep - 1)) (q.comp - 1)).length c4] 53))
    have HP4 := hide ((HP3.out.below hb4 HP3.out.lt).alloc (.cells #[.slice p4 (itemL (itemL (fldAt x q) (q.rep - 1)) (q.comp - 1)).length c4] 53))
    have a5 : (w4.alloc (.cells #[.slice p4 (itemL (itemL (fldAt x q) (q.rep - 1)) (q.comp - 1)).length c4] 53)).cell? ⟨K1, 5, none⟩ = some (.int .i64 q.sub) := HP4.out.cell 5
    clear hf4 hb4 g0 a4
    go_wp2_with fail
    refine (itemAtString_any _ (itemL (itemL (fldAt x q) (q.rep - 1)) (q.comp - 1)) (q.sub - 1) _ (RL.below HC4.out HB4.out)).mono ?_
    rintro e w5 ⟨rfl, rfl⟩
    go_wp2_with fail
    refine (clone_any _ _ (show (valAt (fldAt x q) q).size ≤ 281474976710656 from Nat.le_trans (valAt_small HWW.out q) (by omega))).mono ?_
    rintro e w6 ⟨rfl, hb6⟩
    have HB6 := hide (HB4.out.trans (hb6.mono HB4.out.size))
    clear hb6 a5
    go_wp2
    go_ret
    exact ⟨ret_stringP HY.out.symm, HB6.out⟩
end Go.Proofs.Ytnkddbkfbhpinaa
