/- The law of promise 9: a drawn right place comes back from its text. -/
import Derived.Test.YtjcbojgomcakeaaDoorDPath2
import Derived.Test.YtjcbojgomcakeaaDoorPReadU
import Derived.Deep.RegionHeld3
import Derived.OrdersHeld
namespace Go.Proofs.YtjcbojgomcakeaaDoor
open Go.RowKit
theorem outI_own {q : PathM} (hq : q.right = true) : outI (pathT q).data.toList = (q, 0) := by
  have h1 : (pathT q).data.toList.length ≤ 1000 := by rw [← Lib.size_eq]; exact pathT_small q
  have h3 : ¬ (pathT q).data.toList.length < 3 := by
    obtain ⟨s, n, f, r, c, b, rfl, hs, hn, hf, hr, hc, hb⟩ := right_nats hq
    have hl : s.data.toList.length = 3 := by rw [← hs]; exact (Lib.size_eq s).symm
    simp only [pathT, hq, if_true, Int.toNat_natCast, pathL, List.length_append, hl]
    omega
  unfold outI
  rw [if_neg (by omega), if_neg h3, readI_own hq, if_pos rfl]
theorem outI_ok {l : List UInt8} (h : (outI l).2 = 0) : (pathT (outI l).1).data.toList = l := by
  unfold outI at h ⊢
  by_cases h8 : 8000 < l.length
  · rw [if_pos h8] at h; cases h
  rw [if_neg h8] at h ⊢
  by_cases h3 : l.length < 3
  · rw [if_pos h3] at h; cases h
  rw [if_neg h3] at h ⊢
  by_cases e : (pathT (readI l)).data.toList = l
  · rw [if_pos e]; exact e
  · rw [if_neg e] at h; cases h
theorem pathT_none {q : PathM} (h : q.right = false) : pathT q = ⟨#[]⟩ := by simp [pathT, h]
theorem pathT_some {q : PathM} (h : q.right = true) : (pathT q).data.toList ≠ [] := by
  intro e
  have := outI_own h
  rw [e] at this
  simp [outI, zeroP] at this
set_option maxHeartbeats 16000000 in
set_option maxRecDepth 100000 in
theorem lawFnPath (v1 v2 : Value) (bs1 bs2 : List Int) (w : World) (h1 : ReadsB w v1 bs1) (h2 : ReadsB w v2 bs2) (he : Errs w) :
    Calls Tryd.prog 3 #[v1, v2] w fun e w' => e = .returned (.bool true) ∧ Below w.heap.size w w' := by
  have H1 := hide h1
  have H2 := hide h2
  have HE := hide he
  obtain ⟨p1, k1, rfl, _⟩ := h1
  obtain ⟨p2, k2, rfl, _⟩ := h2
  clear he
  by_cases hc1 : (1048576 : Int) < (bs1.length : Int)
  · go_enter Tryd.func3, Tryd.ntmps3
    go_wp2
    go_ret
    exact ⟨rfl, Below.refl _ _⟩
  by_cases hc2 : (1048576 : Int) < (bs2.length : Int)
  · go_enter Tryd.func3, Tryd.ntmps3
    go_wp2
    go_ret
    exact ⟨rfl, Below.refl _ _⟩
  have HL1 := hide (show bs1.length ≤ 1048576 by omega)
  have HL2 := hide (show bs2.length ≤ 1048576 by omega)
  go_enter Tryd.func3, Tryd.ntmps3
  go_wp2_with fail
  refine (drawPathText_any _ bs1 _ H1.out HL1.out).mono ?_
  rintro e w1 ⟨⟨q, rfl, _⟩, hb1⟩
  have HV : Hid (q.v = .agg #[.string q.seg, .int .i64 q.nth, .int .i64 q.fld, .int .i64 q.rep, .int .i64 q.comp, .int .i64 q.sub]) := rfl
  rw [HV.out]
  have hbn : Below w1.heap.size w1 (w1.alloc (.cells #[.string q.seg, .int .i64 q.nth, .int .i64 q.fld, .int .i64 q.rep, .int .i64 q.comp, .int .i64 q.sub] 24)) := (Below.refl _ _).alloc (Nat.le_refl _) _
  have HB1 := hide (hb1.trans (hbn.mono hb1.size))
  have HP1 := hide (row_new w1 [.string q.seg, .int .i64 q.nth, .int .i64 q.fld, .int .i64 q.rep, .int .i64 q.comp, .int .i64 q.sub] 24)
  clear hb1 hbn
  go_wp2_with fail
  obtain ⟨X, hX⟩ : ∃ X, X = w1.alloc (.cells #[.string q.seg, .int .i64 q.nth, .int .i64 q.fld, .int .i64 q.rep, .int .i64 q.comp, .int .i64 q.sub] 24) := ⟨_, rfl⟩
  rw [← hX] at HB1 HP1 ⊢
  clear hX
  rw [← HV.out]
  generalize w1.heap.size = P at *
  refine (implPathText_any q _).mono ?_
  rintro e w2 ⟨rfl, hb2⟩
  have HB2 := hide (HB1.out.trans (hb2.mono HB1.out.size))
  have HP2 := hide (HP1.out.below hb2 HP1.out.lt)
  clear hb2
  go_wp2_with fail
  refine (drawPathRead_any _ bs2 _ (H2.out.below HB2.out (Nat.le_refl _)) HL2.out).mono ?_
  rintro e w3 ⟨⟨u, rfl, hu⟩, hb3⟩
  have HB3 := hide (HB2.out.trans (hb3.mono HB2.out.size))
  have HP3 := hide (HP2.out.below hb3 HP2.out.lt)
  clear hb3
  obtain ⟨l, hl⟩ : ∃ l, l = u.data.toList := ⟨_, rfl⟩
  obtain rfl : u = ⟨l.toArray⟩ := of_bytes hl.symm
  have HLL := hide (show l.length ≤ 1048576 by simp [ByteArray.size] at hu; omega)
  clear hl hu
  go_wp2_with fail
  refine (implPathRead_any l _ HLL.out (HE.out.below HB3.out HE.out.1)).mono ?_
  rintro e w4 ⟨rfl, hb4⟩
  have HOK := hide (fun h => outI_ok (l := l) h)
  have HSP := hide (fun Y => specPathRead_any l Y HLL.out)
  have HVO : Hid ((outI l).1.vOut (outI l).2 = .agg #[.string (outI l).1.seg, .int .i64 (outI l).1.nth, .int .i64 (outI l).1.fld, .int .i64 (outI l).1.rep, .int .i64 (outI l).1.comp, .int .i64 (outI l).1.sub, .int .i64 (outI l).2]) := rfl
  rw [HVO.out]
  generalize hO1 : (outI l).1 = o at *
  generalize hO2 : (outI l).2 = K at *
  clear hO1 hO2
  have hbn : Below w4.heap.size w4 (w4.alloc (.cells #[.string o.seg, .int .i64 o.nth, .int .i64 o.fld, .int .i64 o.rep, .int .i64 o.comp, .int .i64 o.sub, .int .i64 K] 29)) := (Below.refl _ _).alloc (Nat.le_refl _) _
  have HB4 := hide ((HB3.out.trans (hb4.mono HB3.out.size)).trans (hbn.mono (HB3.out.trans (hb4.mono HB3.out.size)).size))
  have HP4 := hide ((HP3.out.below hb4 HP3.out.lt).below hbn (HP3.out.below hb4 HP3.out.lt).lt)
  have HX4 := hide (row_new w4 [.string o.seg, .int .i64 o.nth, .int .i64 o.fld, .int .i64 o.rep, .int .i64 o.comp, .int .i64 o.sub, .int .i64 K] 29)
  clear hb4 hbn
  go_wp2_with fail
  obtain ⟨W, hW⟩ : ∃ W, W = w4.alloc (.cells #[.string o.seg, .int .i64 o.nth, .int .i64 o.fld, .int .i64 o.rep, .int .i64 o.comp, .int .i64 o.sub, .int .i64 K] 29) := ⟨_, rfl⟩
  rw [← hW] at HB4 HP4 HX4 ⊢
  clear hW
  generalize w4.heap.size = G at *
  have HEW := hide (HE.out.below HB4.out HE.out.1)
  have ht1 : ((pathT q).toList == (pathT q).toList) = true := by simp
  have hs1 : (q.seg.toList == q.seg.toList) = true := by simp
  have hs2 : (o.seg.toList == o.seg.toList) = true := by simp
  have HVo : Hid (o.v = .agg #[.string o.seg, .int .i64 o.nth, .int .i64 o.fld, .int .i64 o.rep, .int .i64 o.comp, .int .i64 o.sub]) := rfl
  have HVO2 : Hid (o.vOut K = .agg #[.string o.seg, .int .i64 o.nth, .int .i64 o.fld, .int .i64 o.rep, .int .i64 o.comp, .int .i64 o.sub, .int .i64 K]) := rfl
  cases hq : q.right
  · by_cases hK : K = 0
    · have HRT := hide hq
      have HPT := hide (pathT_none hq)
      rw [HPT.out] at ht1 ⊢
      clear hq
      subst hK
      have HPO := hide (of_bytes (HOK.out rfl))
      have HSS := hide (show ∀ y, Kept [] W y → (fun y : World => y.cell? ⟨P, 0, none⟩ = some (.string q.seg) ∧ y.cell? ⟨P, 1, none⟩ = some (.int .i64 q.nth) ∧ y.cell? ⟨P, 2, none⟩ = some (.int .i64 q.fld) ∧ y.cell? ⟨P, 3, none⟩ = some (.int .i64 q.rep) ∧ y.cell? ⟨P, 4, none⟩ = some (.int .i64 q.comp) ∧ y.cell? ⟨P, 5, none⟩ = some (.int .i64 q.sub) ∧ y.cell? ⟨G, 0, none⟩ = some (.string o.seg) ∧ y.cell? ⟨G, 1, none⟩ = some (.int .i64 o.nth) ∧ y.cell? ⟨G, 2, none⟩ = some (.int .i64 o.fld) ∧ y.cell? ⟨G, 3, none⟩ = some (.int .i64 o.rep) ∧ y.cell? ⟨G, 4, none⟩ = some (.int .i64 o.comp) ∧ y.cell? ⟨G, 5, none⟩ = some (.int .i64 o.sub) ∧ y.cell? ⟨G, 6, none⟩ = some (.int .i64 0)) y from fun y h => ⟨(h.row HP4.out (by simp)).cell 0, (h.row HP4.out (by simp)).cell 1, (h.row HP4.out (by simp)).cell 2, (h.row HP4.out (by simp)).cell 3, (h.row HP4.out (by simp)).cell 4, (h.row HP4.out (by simp)).cell 5, (h.row HX4.out (by simp)).cell 0, (h.row HX4.out (by simp)).cell 1, (h.row HX4.out (by simp)).cell 2, (h.row HX4.out (by simp)).cell 3, (h.row HX4.out (by simp)).cell 4, (h.row HX4.out (by simp)).cell 5, (h.row HX4.out (by simp)).cell 6⟩)
      refine wp_region_held (S := fun y : World => y.cell? ⟨P, 0, none⟩ = some (.string q.seg) ∧ y.cell? ⟨P, 1, none⟩ = some (.int .i64 q.nth) ∧ y.cell? ⟨P, 2, none⟩ = some (.int .i64 q.fld) ∧ y.cell? ⟨P, 3, none⟩ = some (.int .i64 q.rep) ∧ y.cell? ⟨P, 4, none⟩ = some (.int .i64 q.comp) ∧ y.cell? ⟨P, 5, none⟩ = some (.int .i64 q.sub) ∧ y.cell? ⟨G, 0, none⟩ = some (.string o.seg) ∧ y.cell? ⟨G, 1, none⟩ = some (.int .i64 o.nth) ∧ y.cell? ⟨G, 2, none⟩ = some (.int .i64 o.fld) ∧ y.cell? ⟨G, 3, none⟩ = some (.int .i64 o.rep) ∧ y.cell? ⟨G, 4, none⟩ = some (.int .i64 o.comp) ∧ y.cell? ⟨G, 5, none⟩ = some (.int .i64 o.sub) ∧ y.cell? ⟨G, 6, none⟩ = some (.int .i64 0)) (by kernel_rfl) ?_
      have HX : Hid (Kept [] W { W with drawn := W.drawn + 1 }) := (Kept.refl _ _).drewP
      generalize ({ W with drawn := W.drawn + 1 } : World) = X0 at HX ⊢
      have HS := hide (HSS.out _ HX.out)
      refine wpAnyH_take (i := 0) (oi := _) (v := .string ⟨#[]⟩) rfl (by kernel_rfl) (by kernel_rfl) (by kernel_rfl) (fun _ _ _ h => h) (Or.inl ⟨by rfl, by intro w hSw; go_split_ands; go_simp⟩) HS.out ?_
      simp only [Act.put, List.getElem_toArray, List.getElem_cons_zero, List.setIfInBounds_toArray, List.set_cons_zero, List.set_cons_succ]
      refine wpAnyH_take (i := 1) (oi := _) (v := .agg #[.string q.seg, .int .i64 q.nth, .int .i64 q.fld, .int .i64 q.rep, .int .i64 q.comp, .int .i64 q.sub]) rfl (by kernel_rfl) (by kernel_rfl) (by kernel_rfl) (fun _ _ _ h => h) (Or.inl ⟨by rfl, by intro w hSw; go_split_ands; go_simp⟩) HS.out ?_
      simp only [Act.put, List.getElem_toArray, List.getElem_cons_zero, List.getElem_cons_succ, List.setIfInBounds_toArray, List.set_cons_zero, List.set_cons_succ]
      refine wpAnyH_ready (rs := [2]) (by kernel_rfl) (by simp) ?_
      refine AllReadyH.cons (o := _) rfl (fun K hK => ?_) AllReadyH.nil
      go_simp
      (try rw [← HV.out])
      refine (specPathText_any q _).mono ?_
      rintro e y1 ⟨rfl, hbc⟩
      rw [HPT.out]
      have HX2 := hide (HX.out.below hbc)
      refine hK.out _ _ (HSS.out _ HX2.out) (fun _ => ?_)
      clear hK K HS HX hbc 
      have HX := HX2
      have HS := hide (HSS.out _ HX.out)
      clear HX2
      refine wpAnyH_take (i := 3) (oi := _) (v := .bool true) rfl (by kernel_rfl) (by kernel_rfl) (by kernel_rfl) (fun _ _ _ h => h) (Or.inl ⟨by rfl, by intro w hSw; go_split_ands; go_simp⟩) HS.out ?_
      simp only [Act.put, List.getElem_toArray, List.getElem_cons_zero, List.getElem_cons_succ, List.setIfInBounds_toArray, List.set_cons_zero, List.set_cons_succ]
      refine wpAnyH_take (i := 4) (oi := _) (v := .bool true) rfl (by kernel_rfl) (by kernel_rfl) (by kernel_rfl) (fun _ _ _ h => h) (Or.inl ⟨by rfl, by intro w hSw; go_split_ands; go_simp⟩) HS.out ?_
      simp only [Act.put, List.getElem_toArray, List.getElem_cons_zero, List.getElem_cons_succ, List.setIfInBounds_toArray, List.set_cons_zero, List.set_cons_succ]
      refine wpAnyH_take (i := 5) (oi := _) (v := .agg #[.string q.seg, .int .i64 q.nth, .int .i64 q.fld, .int .i64 q.rep, .int .i64 q.comp, .int .i64 q.sub]) rfl (by kernel_rfl) (by kernel_rfl) (by kernel_rfl) (fun _ _ _ h => h) (Or.inl ⟨by rfl, by intro w hSw; go_split_ands; go_simp⟩) HS.out ?_
      simp only [Act.put, List.getElem_toArray, List.getElem_cons_zero, List.getElem_cons_succ, List.setIfInBounds_toArray, List.set_cons_zero, List.set_cons_succ]
      refine wpAnyH_take (i := 7) (oi := _) (v := .agg #[.string q.seg, .int .i64 q.nth, .int .i64 q.fld, .int .i64 q.rep, .int .i64 q.comp, .int .i64 q.sub]) rfl (by kernel_rfl) (by kernel_rfl) (by kernel_rfl) (fun _ _ _ h => h) (Or.inl ⟨by rfl, by intro w hSw; go_split_ands; go_simp⟩) HS.out ?_
      simp only [Act.put, List.getElem_toArray, List.getElem_cons_zero, List.getElem_cons_succ, List.setIfInBounds_toArray, List.set_cons_zero, List.set_cons_succ]
      refine wpAnyH_ready (rs := [6]) (by kernel_rfl) (by simp) ?_
      refine AllReadyH.cons (o := _) rfl (fun K hK => ?_) AllReadyH.nil
      go_simp
      (try rw [← HV.out])
      refine (implPathRight_any q _).mono ?_
      rintro e y2 ⟨rfl, hbc⟩
      rw [HRT.out]
      have HX2 := hide (HX.out.below hbc)
      refine hK.out _ _ (HSS.out _ HX2.out) (fun _ => ?_)
      clear hK K HS HX hbc 
      have HX := HX2
      have HS := hide (HSS.out _ HX.out)
      clear HX2
      refine wpAnyH_ready (rs := [8]) (by kernel_rfl) (by simp) ?_
      refine AllReadyH.cons (o := _) rfl (fun K hK => ?_) AllReadyH.nil
      go_simp
      (try rw [← HV.out])
      refine (specPathRight_any q _).mono ?_
      rintro e y3 ⟨rfl, hbc⟩
      rw [HRT.out]
      have HX2 := hide (HX.out.below hbc)
      refine hK.out _ _ (HSS.out _ HX2.out) (fun _ => ?_)
      clear hK K HS HX hbc 
      have HX := HX2
      have HS := hide (HSS.out _ HX.out)
      clear HX2
      refine wpAnyH_take (i := 9) (oi := _) (v := .bool true) rfl (by kernel_rfl) (by kernel_rfl) (by kernel_rfl) (fun _ _ _ h => h) (Or.inl ⟨by rfl, by intro w hSw; go_split_ands; go_simp⟩) HS.out ?_
      simp only [Act.put, List.getElem_toArray, List.getElem_cons_zero, List.getElem_cons_succ, List.setIfInBounds_toArray, List.set_cons_zero, List.set_cons_succ]
      refine wpAnyH_take (i := 10) (oi := _) (v := .bool true) rfl (by kernel_rfl) (by kernel_rfl) (by kernel_rfl) (fun _ _ _ h => h) (Or.inl ⟨by rfl, by intro w hSw; go_split_ands; go_simp⟩) HS.out ?_
      simp only [Act.put, List.getElem_toArray, List.getElem_cons_zero, List.getElem_cons_succ, List.setIfInBounds_toArray, List.set_cons_zero, List.set_cons_succ]
      refine wpAnyH_take (i := 11) (oi := _) (v := .bool true) rfl (by kernel_rfl) (by kernel_rfl) (by kernel_rfl) (fun _ _ _ h => h) (Or.inl ⟨by rfl, by intro w hSw; go_split_ands; go_simp⟩) HS.out ?_
      simp only [Act.put, List.getElem_toArray, List.getElem_cons_zero, List.getElem_cons_succ, List.setIfInBounds_toArray, List.set_cons_zero, List.set_cons_succ]
      refine wpAnyH_take (i := 12) (oi := _) (v := .string ⟨#[]⟩) rfl (by kernel_rfl) (by kernel_rfl) (by kernel_rfl) (fun _ _ _ h => h) (Or.inl ⟨by rfl, by intro w hSw; go_split_ands; go_simp⟩) HS.out ?_
      simp only [Act.put, List.getElem_toArray, List.getElem_cons_zero, List.getElem_cons_succ, List.setIfInBounds_toArray, List.set_cons_zero, List.set_cons_succ]
      refine wpAnyH_take (i := 13) (oi := _) (v := .bool true) rfl (by kernel_rfl) (by kernel_rfl) (by kernel_rfl) (fun _ _ _ h => h) (Or.inl ⟨by rfl, by intro w hSw; go_split_ands; go_simp⟩) HS.out ?_
      simp only [Act.put, List.getElem_toArray, List.getElem_cons_zero, List.getElem_cons_succ, List.setIfInBounds_toArray, List.set_cons_zero, List.set_cons_succ]
      refine wpAnyH_take (i := 14) (oi := _) (v := .bool true) rfl (by kernel_rfl) (by kernel_rfl) (by kernel_rfl) (fun _ _ _ h => h) (Or.inl ⟨by rfl, by intro w hSw; go_split_ands; go_simp⟩) HS.out ?_
      simp only [Act.put, List.getElem_toArray, List.getElem_cons_zero, List.getElem_cons_succ, List.setIfInBounds_toArray, List.set_cons_zero, List.set_cons_succ]
      refine wpAnyH_take (i := 15) (oi := _) (v := undef) rfl (by kernel_rfl) (by kernel_rfl) (by kernel_rfl) (fun _ _ _ h => h) (Or.inr ⟨by rfl, rfl⟩) HS.out ?_
      simp only [Act.put, List.getElem_toArray, List.getElem_cons_zero, List.getElem_cons_succ, List.setIfInBounds_toArray, List.set_cons_zero, List.set_cons_succ]
      refine wpAnyH_take (i := 16) (oi := _) (v := undef) rfl (by kernel_rfl) (by kernel_rfl) (by kernel_rfl) (fun _ _ _ h => h) (Or.inr ⟨by rfl, rfl⟩) HS.out ?_
      simp only [Act.put, List.getElem_toArray, List.getElem_cons_zero, List.getElem_cons_succ, List.setIfInBounds_toArray, List.set_cons_zero, List.set_cons_succ]
      refine wpAnyH_take (i := 17) (oi := _) (v := undef) rfl (by kernel_rfl) (by kernel_rfl) (by kernel_rfl) (fun _ _ _ h => h) (Or.inr ⟨by rfl, rfl⟩) HS.out ?_
      simp only [Act.put, List.getElem_toArray, List.getElem_cons_zero, List.getElem_cons_succ, List.setIfInBounds_toArray, List.set_cons_zero, List.set_cons_succ]
      refine wpAnyH_take (i := 18) (oi := _) (v := undef) rfl (by kernel_rfl) (by kernel_rfl) (by kernel_rfl) (fun _ _ _ h => h) (Or.inr ⟨by rfl, rfl⟩) HS.out ?_
      simp only [Act.put, List.getElem_toArray, List.getElem_cons_zero, List.getElem_cons_succ, List.setIfInBounds_toArray, List.set_cons_zero, List.set_cons_succ]
      refine wpAnyH_take (i := 19) (oi := _) (v := undef) rfl (by kernel_rfl) (by kernel_rfl) (by kernel_rfl) (fun _ _ _ h => h) (Or.inr ⟨by rfl, rfl⟩) HS.out ?_
      simp only [Act.put, List.getElem_toArray, List.getElem_cons_zero, List.getElem_cons_succ, List.setIfInBounds_toArray, List.set_cons_zero, List.set_cons_succ]
      refine wpAnyH_take (i := 20) (oi := _) (v := .bool true) rfl (by kernel_rfl) (by kernel_rfl) (by kernel_rfl) (fun _ _ _ h => h) (Or.inl ⟨by rfl, by intro w hSw; go_split_ands; go_simp⟩) HS.out ?_
      simp only [Act.put, List.getElem_toArray, List.getElem_cons_zero, List.getElem_cons_succ, List.setIfInBounds_toArray, List.set_cons_zero, List.set_cons_succ]
      refine wpAnyH_take (i := 21) (oi := _) (v := .bool true) rfl (by kernel_rfl) (by kernel_rfl) (by kernel_rfl) (fun _ _ _ h => h) (Or.inl ⟨by rfl, by intro w hSw; go_split_ands; go_simp⟩) HS.out ?_
      simp only [Act.put, List.getElem_toArray, List.getElem_cons_zero, List.getElem_cons_succ, List.setIfInBounds_toArray, List.set_cons_zero, List.set_cons_succ]
      refine wpAnyH_take (i := 22) (oi := _) (v := .bool true) rfl (by kernel_rfl) (by kernel_rfl) (by kernel_rfl) (fun _ _ _ h => h) (Or.inl ⟨by rfl, by intro w hSw; go_split_ands; go_simp⟩) HS.out ?_
      simp only [Act.put, List.getElem_toArray, List.getElem_cons_zero, List.getElem_cons_succ, List.setIfInBounds_toArray, List.set_cons_zero, List.set_cons_succ]
      refine wpAnyH_take (i := 23) (oi := _) (v := .agg #[.string o.seg, .int .i64 o.nth, .int .i64 o.fld, .int .i64 o.rep, .int .i64 o.comp, .int .i64 o.sub, .int .i64 0]) rfl (by kernel_rfl) (by kernel_rfl) (by kernel_rfl) (fun _ _ _ h => h) (Or.inl ⟨by rfl, by intro w hSw; go_split_ands; go_simp⟩) HS.out ?_
      simp only [Act.put, List.getElem_toArray, List.getElem_cons_zero, List.getElem_cons_succ, List.setIfInBounds_toArray, List.set_cons_zero, List.set_cons_succ]
      refine wpAnyH_take (i := 24) (oi := _) (v := .string ⟨l.toArray⟩) rfl (by kernel_rfl) (by kernel_rfl) (by kernel_rfl) (fun _ _ _ h => h) (Or.inl ⟨by rfl, by intro w hSw; go_split_ands; go_simp⟩) HS.out ?_
      simp only [Act.put, List.getElem_toArray, List.getElem_cons_zero, List.getElem_cons_succ, List.setIfInBounds_toArray, List.set_cons_zero, List.set_cons_succ]
      refine wpAnyH_ready (rs := [25]) (by kernel_rfl) (by simp) ?_
      refine AllReadyH.cons (o := _) rfl (fun K hK => ?_) AllReadyH.nil
      go_simp
      refine (HSP.out _).mono ?_
      rintro e y5 ⟨rfl, hbc⟩
      rw [HVO2.out]
      have HX2 := hide (HX.out.below hbc)
      refine hK.out _ _ (HSS.out _ HX2.out) (fun _ => ?_)
      clear hK K HS HX hbc 
      have HX := HX2
      have HS := hide (HSS.out _ HX.out)
      clear HX2
      refine wpAnyH_take (i := 26) (oi := _) (v := .bool true) rfl (by kernel_rfl) (by kernel_rfl) (by kernel_rfl) (fun _ _ _ h => h) (Or.inl ⟨by rfl, by intro w hSw; go_split_ands; go_simp⟩) HS.out ?_
      simp only [Act.put, List.getElem_toArray, List.getElem_cons_zero, List.getElem_cons_succ, List.setIfInBounds_toArray, List.set_cons_zero, List.set_cons_succ]
      refine wpAnyH_take (i := 27) (oi := _) (v := .bool true) rfl (by kernel_rfl) (by kernel_rfl) (by kernel_rfl) (fun _ _ _ h => h) (Or.inl ⟨by rfl, by intro w hSw; go_split_ands; go_simp⟩) HS.out ?_
      simp only [Act.put, List.getElem_toArray, List.getElem_cons_zero, List.getElem_cons_succ, List.setIfInBounds_toArray, List.set_cons_zero, List.set_cons_succ]
      refine wpAnyH_take (i := 28) (oi := _) (v := .bool true) rfl (by kernel_rfl) (by kernel_rfl) (by kernel_rfl) (fun _ _ _ h => h) (Or.inl ⟨by rfl, by intro w hSw; go_split_ands; go_simp⟩) HS.out ?_
      simp only [Act.put, List.getElem_toArray, List.getElem_cons_zero, List.getElem_cons_succ, List.setIfInBounds_toArray, List.set_cons_zero, List.set_cons_succ]
      refine wpAnyH_take (i := 29) (oi := _) (v := .pointer (some ⟨G, 6, none⟩)) rfl (by kernel_rfl) (by kernel_rfl) (by kernel_rfl) (fun _ _ _ h => h) (Or.inl ⟨by rfl, by intro w hSw; go_split_ands; go_simp⟩) HS.out ?_
      simp only [Act.put, List.getElem_toArray, List.getElem_cons_zero, List.getElem_cons_succ, List.setIfInBounds_toArray, List.set_cons_zero, List.set_cons_succ]
      refine wpAnyH_take (i := 30) (oi := _) (v := .int .i64 0) rfl (by kernel_rfl) (by kernel_rfl) (by kernel_rfl) (fun _ _ _ h => h) (Or.inl ⟨by rfl, by intro w hSw; go_split_ands; go_simp⟩) HS.out ?_
      simp only [Act.put, List.getElem_toArray, List.getElem_cons_zero, List.getElem_cons_succ, List.setIfInBounds_toArray, List.set_cons_zero, List.set_cons_succ]
      refine wpAnyH_take (i := 31) (oi := _) (v := .bool false) rfl (by kernel_rfl) (by kernel_rfl) (by kernel_rfl) (fun _ _ _ h => h) (Or.inl ⟨by rfl, by intro w hSw; go_split_ands; go_simp⟩) HS.out ?_
      simp only [Act.put, List.getElem_toArray, List.getElem_cons_zero, List.getElem_cons_succ, List.setIfInBounds_toArray, List.set_cons_zero, List.set_cons_succ]
      refine wpAnyH_take (i := 32) (oi := _) (v := .bool false) rfl (by kernel_rfl) (by kernel_rfl) (by kernel_rfl) (fun _ _ _ h => h) (Or.inl ⟨by rfl, by intro w hSw; go_split_ands; go_simp⟩) HS.out ?_
      simp only [Act.put, List.getElem_toArray, List.getElem_cons_zero, List.getElem_cons_succ, List.setIfInBounds_toArray, List.set_cons_zero, List.set_cons_succ]
      refine wpAnyH_take (i := 33) (oi := _) (v := .pointer (some ⟨G, 0, none⟩)) rfl (by kernel_rfl) (by kernel_rfl) (by kernel_rfl) (fun _ _ _ h => h) (Or.inl ⟨by rfl, by intro w hSw; go_split_ands; go_simp⟩) HS.out ?_
      simp only [Act.put, List.getElem_toArray, List.getElem_cons_zero, List.getElem_cons_succ, List.setIfInBounds_toArray, List.set_cons_zero, List.set_cons_succ]
      refine wpAnyH_take (i := 34) (oi := _) (v := .agg #[.string o.seg, .int .i64 o.nth, .int .i64 o.fld, .int .i64 o.rep, .int .i64 o.comp, .int .i64 o.sub]) rfl (by kernel_rfl) (by kernel_rfl) (by kernel_rfl) (fun _ _ _ h => h) (Or.inl ⟨by rfl, by intro w hSw; go_split_ands; go_simp⟩) HS.out ?_
      simp only [Act.put, List.getElem_toArray, List.getElem_cons_zero, List.getElem_cons_succ, List.setIfInBounds_toArray, List.set_cons_zero, List.set_cons_succ]
      refine wpAnyH_take (i := 36) (oi := _) (v := .string ⟨l.toArray⟩) rfl (by kernel_rfl) (by kernel_rfl) (by kernel_rfl) (fun _ _ _ h => h) (Or.inl ⟨by rfl, by intro w hSw; go_split_ands; go_simp⟩) HS.out ?_
      simp only [Act.put, List.getElem_toArray, List.getElem_cons_zero, List.getElem_cons_succ, List.setIfInBounds_toArray, List.set_cons_zero, List.set_cons_succ]
      refine wpAnyH_ready (rs := [35]) (by kernel_rfl) (by simp) ?_
      refine AllReadyH.cons (o := _) rfl (fun K hK => ?_) AllReadyH.nil
      go_simp
      rw [← HVo.out]
      refine (implPathText_any o _).mono ?_
      rintro e y6 ⟨rfl, hbc⟩
      rw [HPO.out]
      have HX2 := hide (HX.out.below hbc)
      refine hK.out _ _ (HSS.out _ HX2.out) (fun _ => ?_)
      clear hK K HS HX hbc 
      have HX := HX2
      have HS := hide (HSS.out _ HX.out)
      clear HX2
      refine wpAnyH_take (i := 37) (oi := _) (v := .bool true) rfl (by kernel_rfl) (by kernel_rfl) (by kernel_rfl) (fun _ _ _ h => h) (Or.inl ⟨by rfl, by intro w hSw; go_split_ands; go_simp⟩) HS.out ?_
      simp only [Act.put, List.getElem_toArray, List.getElem_cons_zero, List.getElem_cons_succ, List.setIfInBounds_toArray, List.set_cons_zero, List.set_cons_succ]
      refine wpAnyH_take (i := 38) (oi := _) (v := .bool true) rfl (by kernel_rfl) (by kernel_rfl) (by kernel_rfl) (fun _ _ _ h => h) (Or.inl ⟨by rfl, by intro w hSw; go_split_ands; go_simp⟩) HS.out ?_
      simp only [Act.put, List.getElem_toArray, List.getElem_cons_zero, List.getElem_cons_succ, List.setIfInBounds_toArray, List.set_cons_zero, List.set_cons_succ]
      refine wpAnyH_take (i := 39) (oi := _) (v := .bool true) rfl (by kernel_rfl) (by kernel_rfl) (by kernel_rfl) (fun _ _ _ h => h) (Or.inl ⟨by rfl, by intro w hSw; go_split_ands; go_simp⟩) HS.out ?_
      simp only [Act.put, List.getElem_toArray, List.getElem_cons_zero, List.getElem_cons_succ, List.setIfInBounds_toArray, List.set_cons_zero, List.set_cons_succ]
      refine wpAnyH_take (i := 40) (oi := _) (v := .bool true) rfl (by kernel_rfl) (by kernel_rfl) (by kernel_rfl) (fun _ _ _ h => h) (Or.inl ⟨by rfl, by intro w hSw; go_split_ands; go_simp⟩) HS.out ?_
      simp only [Act.put, List.getElem_toArray, List.getElem_cons_zero, List.getElem_cons_succ, List.setIfInBounds_toArray, List.set_cons_zero, List.set_cons_succ]
      refine wpAnyH_done (by kernel_rfl) ?_ _
      have HBF := hide (HX.out.toBelow HB4.out HB4.out.size (by simp))
      clear HS HSS HX
      go_wp2
      go_ret
      exact ⟨rfl, HBF.out⟩
    · have HRT := hide hq
      have HPT := hide (pathT_none hq)
      rw [HPT.out] at ht1 ⊢
      clear hq
      have hKb : (K != (0 : Int)) = true := by simpa using hK
      clear hK
      have HSS := hide (show ∀ y, Kept [] W y → (fun y : World => y.cell? ⟨P, 0, none⟩ = some (.string q.seg) ∧ y.cell? ⟨P, 1, none⟩ = some (.int .i64 q.nth) ∧ y.cell? ⟨P, 2, none⟩ = some (.int .i64 q.fld) ∧ y.cell? ⟨P, 3, none⟩ = some (.int .i64 q.rep) ∧ y.cell? ⟨P, 4, none⟩ = some (.int .i64 q.comp) ∧ y.cell? ⟨P, 5, none⟩ = some (.int .i64 q.sub) ∧ y.cell? ⟨G, 0, none⟩ = some (.string o.seg) ∧ y.cell? ⟨G, 1, none⟩ = some (.int .i64 o.nth) ∧ y.cell? ⟨G, 2, none⟩ = some (.int .i64 o.fld) ∧ y.cell? ⟨G, 3, none⟩ = some (.int .i64 o.rep) ∧ y.cell? ⟨G, 4, none⟩ = some (.int .i64 o.comp) ∧ y.cell? ⟨G, 5, none⟩ = some (.int .i64 o.sub) ∧ y.cell? ⟨G, 6, none⟩ = some (.int .i64 K)) y from fun y h => ⟨(h.row HP4.out (by simp)).cell 0, (h.row HP4.out (by simp)).cell 1, (h.row HP4.out (by simp)).cell 2, (h.row HP4.out (by simp)).cell 3, (h.row HP4.out (by simp)).cell 4, (h.row HP4.out (by simp)).cell 5, (h.row HX4.out (by simp)).cell 0, (h.row HX4.out (by simp)).cell 1, (h.row HX4.out (by simp)).cell 2, (h.row HX4.out (by simp)).cell 3, (h.row HX4.out (by simp)).cell 4, (h.row HX4.out (by simp)).cell 5, (h.row HX4.out (by simp)).cell 6⟩)
      refine wp_region_held (S := fun y : World => y.cell? ⟨P, 0, none⟩ = some (.string q.seg) ∧ y.cell? ⟨P, 1, none⟩ = some (.int .i64 q.nth) ∧ y.cell? ⟨P, 2, none⟩ = some (.int .i64 q.fld) ∧ y.cell? ⟨P, 3, none⟩ = some (.int .i64 q.rep) ∧ y.cell? ⟨P, 4, none⟩ = some (.int .i64 q.comp) ∧ y.cell? ⟨P, 5, none⟩ = some (.int .i64 q.sub) ∧ y.cell? ⟨G, 0, none⟩ = some (.string o.seg) ∧ y.cell? ⟨G, 1, none⟩ = some (.int .i64 o.nth) ∧ y.cell? ⟨G, 2, none⟩ = some (.int .i64 o.fld) ∧ y.cell? ⟨G, 3, none⟩ = some (.int .i64 o.rep) ∧ y.cell? ⟨G, 4, none⟩ = some (.int .i64 o.comp) ∧ y.cell? ⟨G, 5, none⟩ = some (.int .i64 o.sub) ∧ y.cell? ⟨G, 6, none⟩ = some (.int .i64 K)) (by kernel_rfl) ?_
      have HX : Hid (Kept [] W { W with drawn := W.drawn + 1 }) := (Kept.refl _ _).drewP
      generalize ({ W with drawn := W.drawn + 1 } : World) = X0 at HX ⊢
      have HS := hide (HSS.out _ HX.out)
      refine wpAnyH_take (i := 0) (oi := _) (v := .string ⟨#[]⟩) rfl (by kernel_rfl) (by kernel_rfl) (by kernel_rfl) (fun _ _ _ h => h) (Or.inl ⟨by rfl, by intro w hSw; go_split_ands; go_simp⟩) HS.out ?_
      simp only [Act.put, List.getElem_toArray, List.getElem_cons_zero, List.setIfInBounds_toArray, List.set_cons_zero, List.set_cons_succ]
      refine wpAnyH_take (i := 1) (oi := _) (v := .agg #[.string q.seg, .int .i64 q.nth, .int .i64 q.fld, .int .i64 q.rep, .int .i64 q.comp, .int .i64 q.sub]) rfl (by kernel_rfl) (by kernel_rfl) (by kernel_rfl) (fun _ _ _ h => h) (Or.inl ⟨by rfl, by intro w hSw; go_split_ands; go_simp⟩) HS.out ?_
      simp only [Act.put, List.getElem_toArray, List.getElem_cons_zero, List.getElem_cons_succ, List.setIfInBounds_toArray, List.set_cons_zero, List.set_cons_succ]
      refine wpAnyH_ready (rs := [2]) (by kernel_rfl) (by simp) ?_
      refine AllReadyH.cons (o := _) rfl (fun K hK => ?_) AllReadyH.nil
      go_simp
      (try rw [← HV.out])
      refine (specPathText_any q _).mono ?_
      rintro e y1 ⟨rfl, hbc⟩
      rw [HPT.out]
      have HX2 := hide (HX.out.below hbc)
      refine hK.out _ _ (HSS.out _ HX2.out) (fun _ => ?_)
      clear hK K HS HX hbc 
      have HX := HX2
      have HS := hide (HSS.out _ HX.out)
      clear HX2
      refine wpAnyH_take (i := 3) (oi := _) (v := .bool true) rfl (by kernel_rfl) (by kernel_rfl) (by kernel_rfl) (fun _ _ _ h => h) (Or.inl ⟨by rfl, by intro w hSw; go_split_ands; go_simp⟩) HS.out ?_
      simp only [Act.put, List.getElem_toArray, List.getElem_cons_zero, List.getElem_cons_succ, List.setIfInBounds_toArray, List.set_cons_zero, List.set_cons_succ]
      refine wpAnyH_take (i := 4) (oi := _) (v := .bool true) rfl (by kernel_rfl) (by kernel_rfl) (by kernel_rfl) (fun _ _ _ h => h) (Or.inl ⟨by rfl, by intro w hSw; go_split_ands; go_simp⟩) HS.out ?_
      simp only [Act.put, List.getElem_toArray, List.getElem_cons_zero, List.getElem_cons_succ, List.setIfInBounds_toArray, List.set_cons_zero, List.set_cons_succ]
      refine wpAnyH_take (i := 5) (oi := _) (v := .agg #[.string q.seg, .int .i64 q.nth, .int .i64 q.fld, .int .i64 q.rep, .int .i64 q.comp, .int .i64 q.sub]) rfl (by kernel_rfl) (by kernel_rfl) (by kernel_rfl) (fun _ _ _ h => h) (Or.inl ⟨by rfl, by intro w hSw; go_split_ands; go_simp⟩) HS.out ?_
      simp only [Act.put, List.getElem_toArray, List.getElem_cons_zero, List.getElem_cons_succ, List.setIfInBounds_toArray, List.set_cons_zero, List.set_cons_succ]
      refine wpAnyH_take (i := 7) (oi := _) (v := .agg #[.string q.seg, .int .i64 q.nth, .int .i64 q.fld, .int .i64 q.rep, .int .i64 q.comp, .int .i64 q.sub]) rfl (by kernel_rfl) (by kernel_rfl) (by kernel_rfl) (fun _ _ _ h => h) (Or.inl ⟨by rfl, by intro w hSw; go_split_ands; go_simp⟩) HS.out ?_
      simp only [Act.put, List.getElem_toArray, List.getElem_cons_zero, List.getElem_cons_succ, List.setIfInBounds_toArray, List.set_cons_zero, List.set_cons_succ]
      refine wpAnyH_ready (rs := [6]) (by kernel_rfl) (by simp) ?_
      refine AllReadyH.cons (o := _) rfl (fun K hK => ?_) AllReadyH.nil
      go_simp
      (try rw [← HV.out])
      refine (implPathRight_any q _).mono ?_
      rintro e y2 ⟨rfl, hbc⟩
      rw [HRT.out]
      have HX2 := hide (HX.out.below hbc)
      refine hK.out _ _ (HSS.out _ HX2.out) (fun _ => ?_)
      clear hK K HS HX hbc 
      have HX := HX2
      have HS := hide (HSS.out _ HX.out)
      clear HX2
      refine wpAnyH_ready (rs := [8]) (by kernel_rfl) (by simp) ?_
      refine AllReadyH.cons (o := _) rfl (fun K hK => ?_) AllReadyH.nil
      go_simp
      (try rw [← HV.out])
      refine (specPathRight_any q _).mono ?_
      rintro e y3 ⟨rfl, hbc⟩
      rw [HRT.out]
      have HX2 := hide (HX.out.below hbc)
      refine hK.out _ _ (HSS.out _ HX2.out) (fun _ => ?_)
      clear hK K HS HX hbc 
      have HX := HX2
      have HS := hide (HSS.out _ HX.out)
      clear HX2
      refine wpAnyH_take (i := 9) (oi := _) (v := .bool true) rfl (by kernel_rfl) (by kernel_rfl) (by kernel_rfl) (fun _ _ _ h => h) (Or.inl ⟨by rfl, by intro w hSw; go_split_ands; go_simp⟩) HS.out ?_
      simp only [Act.put, List.getElem_toArray, List.getElem_cons_zero, List.getElem_cons_succ, List.setIfInBounds_toArray, List.set_cons_zero, List.set_cons_succ]
      refine wpAnyH_take (i := 10) (oi := _) (v := .bool true) rfl (by kernel_rfl) (by kernel_rfl) (by kernel_rfl) (fun _ _ _ h => h) (Or.inl ⟨by rfl, by intro w hSw; go_split_ands; go_simp⟩) HS.out ?_
      simp only [Act.put, List.getElem_toArray, List.getElem_cons_zero, List.getElem_cons_succ, List.setIfInBounds_toArray, List.set_cons_zero, List.set_cons_succ]
      refine wpAnyH_take (i := 11) (oi := _) (v := .bool true) rfl (by kernel_rfl) (by kernel_rfl) (by kernel_rfl) (fun _ _ _ h => h) (Or.inl ⟨by rfl, by intro w hSw; go_split_ands; go_simp⟩) HS.out ?_
      simp only [Act.put, List.getElem_toArray, List.getElem_cons_zero, List.getElem_cons_succ, List.setIfInBounds_toArray, List.set_cons_zero, List.set_cons_succ]
      refine wpAnyH_take (i := 12) (oi := _) (v := .string ⟨#[]⟩) rfl (by kernel_rfl) (by kernel_rfl) (by kernel_rfl) (fun _ _ _ h => h) (Or.inl ⟨by rfl, by intro w hSw; go_split_ands; go_simp⟩) HS.out ?_
      simp only [Act.put, List.getElem_toArray, List.getElem_cons_zero, List.getElem_cons_succ, List.setIfInBounds_toArray, List.set_cons_zero, List.set_cons_succ]
      refine wpAnyH_take (i := 13) (oi := _) (v := .bool true) rfl (by kernel_rfl) (by kernel_rfl) (by kernel_rfl) (fun _ _ _ h => h) (Or.inl ⟨by rfl, by intro w hSw; go_split_ands; go_simp⟩) HS.out ?_
      simp only [Act.put, List.getElem_toArray, List.getElem_cons_zero, List.getElem_cons_succ, List.setIfInBounds_toArray, List.set_cons_zero, List.set_cons_succ]
      refine wpAnyH_take (i := 14) (oi := _) (v := .bool true) rfl (by kernel_rfl) (by kernel_rfl) (by kernel_rfl) (fun _ _ _ h => h) (Or.inl ⟨by rfl, by intro w hSw; go_split_ands; go_simp⟩) HS.out ?_
      simp only [Act.put, List.getElem_toArray, List.getElem_cons_zero, List.getElem_cons_succ, List.setIfInBounds_toArray, List.set_cons_zero, List.set_cons_succ]
      refine wpAnyH_take (i := 15) (oi := _) (v := undef) rfl (by kernel_rfl) (by kernel_rfl) (by kernel_rfl) (fun _ _ _ h => h) (Or.inr ⟨by rfl, rfl⟩) HS.out ?_
      simp only [Act.put, List.getElem_toArray, List.getElem_cons_zero, List.getElem_cons_succ, List.setIfInBounds_toArray, List.set_cons_zero, List.set_cons_succ]
      refine wpAnyH_take (i := 16) (oi := _) (v := undef) rfl (by kernel_rfl) (by kernel_rfl) (by kernel_rfl) (fun _ _ _ h => h) (Or.inr ⟨by rfl, rfl⟩) HS.out ?_
      simp only [Act.put, List.getElem_toArray, List.getElem_cons_zero, List.getElem_cons_succ, List.setIfInBounds_toArray, List.set_cons_zero, List.set_cons_succ]
      refine wpAnyH_take (i := 17) (oi := _) (v := undef) rfl (by kernel_rfl) (by kernel_rfl) (by kernel_rfl) (fun _ _ _ h => h) (Or.inr ⟨by rfl, rfl⟩) HS.out ?_
      simp only [Act.put, List.getElem_toArray, List.getElem_cons_zero, List.getElem_cons_succ, List.setIfInBounds_toArray, List.set_cons_zero, List.set_cons_succ]
      refine wpAnyH_take (i := 18) (oi := _) (v := undef) rfl (by kernel_rfl) (by kernel_rfl) (by kernel_rfl) (fun _ _ _ h => h) (Or.inr ⟨by rfl, rfl⟩) HS.out ?_
      simp only [Act.put, List.getElem_toArray, List.getElem_cons_zero, List.getElem_cons_succ, List.setIfInBounds_toArray, List.set_cons_zero, List.set_cons_succ]
      refine wpAnyH_take (i := 19) (oi := _) (v := undef) rfl (by kernel_rfl) (by kernel_rfl) (by kernel_rfl) (fun _ _ _ h => h) (Or.inr ⟨by rfl, rfl⟩) HS.out ?_
      simp only [Act.put, List.getElem_toArray, List.getElem_cons_zero, List.getElem_cons_succ, List.setIfInBounds_toArray, List.set_cons_zero, List.set_cons_succ]
      refine wpAnyH_take (i := 20) (oi := _) (v := .bool true) rfl (by kernel_rfl) (by kernel_rfl) (by kernel_rfl) (fun _ _ _ h => h) (Or.inl ⟨by rfl, by intro w hSw; go_split_ands; go_simp⟩) HS.out ?_
      simp only [Act.put, List.getElem_toArray, List.getElem_cons_zero, List.getElem_cons_succ, List.setIfInBounds_toArray, List.set_cons_zero, List.set_cons_succ]
      refine wpAnyH_take (i := 21) (oi := _) (v := .bool true) rfl (by kernel_rfl) (by kernel_rfl) (by kernel_rfl) (fun _ _ _ h => h) (Or.inl ⟨by rfl, by intro w hSw; go_split_ands; go_simp⟩) HS.out ?_
      simp only [Act.put, List.getElem_toArray, List.getElem_cons_zero, List.getElem_cons_succ, List.setIfInBounds_toArray, List.set_cons_zero, List.set_cons_succ]
      refine wpAnyH_take (i := 22) (oi := _) (v := .bool true) rfl (by kernel_rfl) (by kernel_rfl) (by kernel_rfl) (fun _ _ _ h => h) (Or.inl ⟨by rfl, by intro w hSw; go_split_ands; go_simp⟩) HS.out ?_
      simp only [Act.put, List.getElem_toArray, List.getElem_cons_zero, List.getElem_cons_succ, List.setIfInBounds_toArray, List.set_cons_zero, List.set_cons_succ]
      refine wpAnyH_take (i := 23) (oi := _) (v := .agg #[.string o.seg, .int .i64 o.nth, .int .i64 o.fld, .int .i64 o.rep, .int .i64 o.comp, .int .i64 o.sub, .int .i64 K]) rfl (by kernel_rfl) (by kernel_rfl) (by kernel_rfl) (fun _ _ _ h => h) (Or.inl ⟨by rfl, by intro w hSw; go_split_ands; go_simp⟩) HS.out ?_
      simp only [Act.put, List.getElem_toArray, List.getElem_cons_zero, List.getElem_cons_succ, List.setIfInBounds_toArray, List.set_cons_zero, List.set_cons_succ]
      refine wpAnyH_take (i := 24) (oi := _) (v := .string ⟨l.toArray⟩) rfl (by kernel_rfl) (by kernel_rfl) (by kernel_rfl) (fun _ _ _ h => h) (Or.inl ⟨by rfl, by intro w hSw; go_split_ands; go_simp⟩) HS.out ?_
      simp only [Act.put, List.getElem_toArray, List.getElem_cons_zero, List.getElem_cons_succ, List.setIfInBounds_toArray, List.set_cons_zero, List.set_cons_succ]
      refine wpAnyH_ready (rs := [25]) (by kernel_rfl) (by simp) ?_
      refine AllReadyH.cons (o := _) rfl (fun K hK => ?_) AllReadyH.nil
      go_simp
      refine (HSP.out _).mono ?_
      rintro e y5 ⟨rfl, hbc⟩
      rw [HVO2.out]
      have HX2 := hide (HX.out.below hbc)
      refine hK.out _ _ (HSS.out _ HX2.out) (fun _ => ?_)
      clear hK K HS HX hbc 
      have HX := HX2
      have HS := hide (HSS.out _ HX.out)
      clear HX2
      refine wpAnyH_take (i := 26) (oi := _) (v := .bool true) rfl (by kernel_rfl) (by kernel_rfl) (by kernel_rfl) (fun _ _ _ h => h) (Or.inl ⟨by rfl, by intro w hSw; go_split_ands; go_simp⟩) HS.out ?_
      simp only [Act.put, List.getElem_toArray, List.getElem_cons_zero, List.getElem_cons_succ, List.setIfInBounds_toArray, List.set_cons_zero, List.set_cons_succ]
      refine wpAnyH_take (i := 27) (oi := _) (v := .bool true) rfl (by kernel_rfl) (by kernel_rfl) (by kernel_rfl) (fun _ _ _ h => h) (Or.inl ⟨by rfl, by intro w hSw; go_split_ands; go_simp⟩) HS.out ?_
      simp only [Act.put, List.getElem_toArray, List.getElem_cons_zero, List.getElem_cons_succ, List.setIfInBounds_toArray, List.set_cons_zero, List.set_cons_succ]
      refine wpAnyH_take (i := 28) (oi := _) (v := .bool true) rfl (by kernel_rfl) (by kernel_rfl) (by kernel_rfl) (fun _ _ _ h => h) (Or.inl ⟨by rfl, by intro w hSw; go_split_ands; go_simp⟩) HS.out ?_
      simp only [Act.put, List.getElem_toArray, List.getElem_cons_zero, List.getElem_cons_succ, List.setIfInBounds_toArray, List.set_cons_zero, List.set_cons_succ]
      refine wpAnyH_take (i := 29) (oi := _) (v := .pointer (some ⟨G, 6, none⟩)) rfl (by kernel_rfl) (by kernel_rfl) (by kernel_rfl) (fun _ _ _ h => h) (Or.inl ⟨by rfl, by intro w hSw; go_split_ands; go_simp⟩) HS.out ?_
      simp only [Act.put, List.getElem_toArray, List.getElem_cons_zero, List.getElem_cons_succ, List.setIfInBounds_toArray, List.set_cons_zero, List.set_cons_succ]
      refine wpAnyH_take (i := 30) (oi := _) (v := .int .i64 K) rfl (by kernel_rfl) (by kernel_rfl) (by kernel_rfl) (fun _ _ _ h => h) (Or.inl ⟨by rfl, by intro w hSw; go_split_ands; go_simp⟩) HS.out ?_
      simp only [Act.put, List.getElem_toArray, List.getElem_cons_zero, List.getElem_cons_succ, List.setIfInBounds_toArray, List.set_cons_zero, List.set_cons_succ]
      refine wpAnyH_take (i := 31) (oi := _) (v := .bool true) rfl (by kernel_rfl) (by kernel_rfl) (by kernel_rfl) (fun _ _ _ h => h) (Or.inl ⟨by rfl, by intro w hSw; go_split_ands; go_simp⟩) HS.out ?_
      simp only [Act.put, List.getElem_toArray, List.getElem_cons_zero, List.getElem_cons_succ, List.setIfInBounds_toArray, List.set_cons_zero, List.set_cons_succ]
      refine wpAnyH_take (i := 32) (oi := _) (v := .bool true) rfl (by kernel_rfl) (by kernel_rfl) (by kernel_rfl) (fun _ _ _ h => h) (Or.inl ⟨by rfl, by intro w hSw; go_split_ands; go_simp⟩) HS.out ?_
      simp only [Act.put, List.getElem_toArray, List.getElem_cons_zero, List.getElem_cons_succ, List.setIfInBounds_toArray, List.set_cons_zero, List.set_cons_succ]
      refine wpAnyH_take (i := 33) (oi := _) (v := undef) rfl (by kernel_rfl) (by kernel_rfl) (by kernel_rfl) (fun _ _ _ h => h) (Or.inr ⟨by rfl, rfl⟩) HS.out ?_
      simp only [Act.put, List.getElem_toArray, List.getElem_cons_zero, List.getElem_cons_succ, List.setIfInBounds_toArray, List.set_cons_zero, List.set_cons_succ]
      refine wpAnyH_take (i := 34) (oi := _) (v := undef) rfl (by kernel_rfl) (by kernel_rfl) (by kernel_rfl) (fun _ _ _ h => h) (Or.inr ⟨by rfl, rfl⟩) HS.out ?_
      simp only [Act.put, List.getElem_toArray, List.getElem_cons_zero, List.getElem_cons_succ, List.setIfInBounds_toArray, List.set_cons_zero, List.set_cons_succ]
      refine wpAnyH_take (i := 35) (oi := _) (v := undef) rfl (by kernel_rfl) (by kernel_rfl) (by kernel_rfl) (fun _ _ _ h => h) (Or.inr ⟨by rfl, rfl⟩) HS.out ?_
      simp only [Act.put, List.getElem_toArray, List.getElem_cons_zero, List.getElem_cons_succ, List.setIfInBounds_toArray, List.set_cons_zero, List.set_cons_succ]
      refine wpAnyH_take (i := 36) (oi := _) (v := undef) rfl (by kernel_rfl) (by kernel_rfl) (by kernel_rfl) (fun _ _ _ h => h) (Or.inr ⟨by rfl, rfl⟩) HS.out ?_
      simp only [Act.put, List.getElem_toArray, List.getElem_cons_zero, List.getElem_cons_succ, List.setIfInBounds_toArray, List.set_cons_zero, List.set_cons_succ]
      refine wpAnyH_take (i := 37) (oi := _) (v := undef) rfl (by kernel_rfl) (by kernel_rfl) (by kernel_rfl) (fun _ _ _ h => h) (Or.inr ⟨by rfl, rfl⟩) HS.out ?_
      simp only [Act.put, List.getElem_toArray, List.getElem_cons_zero, List.getElem_cons_succ, List.setIfInBounds_toArray, List.set_cons_zero, List.set_cons_succ]
      refine wpAnyH_take (i := 38) (oi := _) (v := .bool true) rfl (by kernel_rfl) (by kernel_rfl) (by kernel_rfl) (fun _ _ _ h => h) (Or.inl ⟨by rfl, by intro w hSw; go_split_ands; go_simp⟩) HS.out ?_
      simp only [Act.put, List.getElem_toArray, List.getElem_cons_zero, List.getElem_cons_succ, List.setIfInBounds_toArray, List.set_cons_zero, List.set_cons_succ]
      refine wpAnyH_take (i := 39) (oi := _) (v := .bool true) rfl (by kernel_rfl) (by kernel_rfl) (by kernel_rfl) (fun _ _ _ h => h) (Or.inl ⟨by rfl, by intro w hSw; go_split_ands; go_simp⟩) HS.out ?_
      simp only [Act.put, List.getElem_toArray, List.getElem_cons_zero, List.getElem_cons_succ, List.setIfInBounds_toArray, List.set_cons_zero, List.set_cons_succ]
      refine wpAnyH_take (i := 40) (oi := _) (v := .bool true) rfl (by kernel_rfl) (by kernel_rfl) (by kernel_rfl) (fun _ _ _ h => h) (Or.inl ⟨by rfl, by intro w hSw; go_split_ands; go_simp⟩) HS.out ?_
      simp only [Act.put, List.getElem_toArray, List.getElem_cons_zero, List.getElem_cons_succ, List.setIfInBounds_toArray, List.set_cons_zero, List.set_cons_succ]
      refine wpAnyH_done (by kernel_rfl) ?_ _
      have HBF := hide (HX.out.toBelow HB4.out HB4.out.size (by simp))
      clear HS HSS HX
      go_wp2
      go_ret
      exact ⟨rfl, HBF.out⟩
  · by_cases hK : K = 0
    · have HRT := hide hq
      have HTR : Hid (∀ Y : World, Errs Y → Calls Tryd.prog 7 #[.string (pathT q)] Y fun e w' => e = .returned (.agg #[.string q.seg, .int .i64 q.nth, .int .i64 q.fld, .int .i64 q.rep, .int .i64 q.comp, .int .i64 q.sub, .int .i64 0]) ∧ Below Y.heap.size Y w') := fun Y hY => by
        have h1 := implPathRead_any (pathT q).data.toList Y (by rw [← Lib.size_eq]; have := pathT_small q; omega) hY
        rw [outI_own hq] at h1
        exact h1
      have hne : ((pathT q).toList == []) = false := by rw [Lib.toList_data]; simpa using pathT_some hq
      clear hq
      subst hK
      have HPO := hide (of_bytes (HOK.out rfl))
      have HSS := hide (show ∀ y, Kept [] W y → (fun y : World => y.cell? ⟨P, 0, none⟩ = some (.string q.seg) ∧ y.cell? ⟨P, 1, none⟩ = some (.int .i64 q.nth) ∧ y.cell? ⟨P, 2, none⟩ = some (.int .i64 q.fld) ∧ y.cell? ⟨P, 3, none⟩ = some (.int .i64 q.rep) ∧ y.cell? ⟨P, 4, none⟩ = some (.int .i64 q.comp) ∧ y.cell? ⟨P, 5, none⟩ = some (.int .i64 q.sub) ∧ y.cell? ⟨G, 0, none⟩ = some (.string o.seg) ∧ y.cell? ⟨G, 1, none⟩ = some (.int .i64 o.nth) ∧ y.cell? ⟨G, 2, none⟩ = some (.int .i64 o.fld) ∧ y.cell? ⟨G, 3, none⟩ = some (.int .i64 o.rep) ∧ y.cell? ⟨G, 4, none⟩ = some (.int .i64 o.comp) ∧ y.cell? ⟨G, 5, none⟩ = some (.int .i64 o.sub) ∧ y.cell? ⟨G, 6, none⟩ = some (.int .i64 0)) y from fun y h => ⟨(h.row HP4.out (by simp)).cell 0, (h.row HP4.out (by simp)).cell 1, (h.row HP4.out (by simp)).cell 2, (h.row HP4.out (by simp)).cell 3, (h.row HP4.out (by simp)).cell 4, (h.row HP4.out (by simp)).cell 5, (h.row HX4.out (by simp)).cell 0, (h.row HX4.out (by simp)).cell 1, (h.row HX4.out (by simp)).cell 2, (h.row HX4.out (by simp)).cell 3, (h.row HX4.out (by simp)).cell 4, (h.row HX4.out (by simp)).cell 5, (h.row HX4.out (by simp)).cell 6⟩)
      refine wp_region_held (S := fun y : World => y.cell? ⟨P, 0, none⟩ = some (.string q.seg) ∧ y.cell? ⟨P, 1, none⟩ = some (.int .i64 q.nth) ∧ y.cell? ⟨P, 2, none⟩ = some (.int .i64 q.fld) ∧ y.cell? ⟨P, 3, none⟩ = some (.int .i64 q.rep) ∧ y.cell? ⟨P, 4, none⟩ = some (.int .i64 q.comp) ∧ y.cell? ⟨P, 5, none⟩ = some (.int .i64 q.sub) ∧ y.cell? ⟨G, 0, none⟩ = some (.string o.seg) ∧ y.cell? ⟨G, 1, none⟩ = some (.int .i64 o.nth) ∧ y.cell? ⟨G, 2, none⟩ = some (.int .i64 o.fld) ∧ y.cell? ⟨G, 3, none⟩ = some (.int .i64 o.rep) ∧ y.cell? ⟨G, 4, none⟩ = some (.int .i64 o.comp) ∧ y.cell? ⟨G, 5, none⟩ = some (.int .i64 o.sub) ∧ y.cell? ⟨G, 6, none⟩ = some (.int .i64 0)) (by kernel_rfl) ?_
      have HX : Hid (Kept [] W { W with drawn := W.drawn + 1 }) := (Kept.refl _ _).drewP
      generalize ({ W with drawn := W.drawn + 1 } : World) = X0 at HX ⊢
      have HS := hide (HSS.out _ HX.out)
      refine wpAnyH_take (i := 0) (oi := _) (v := .string (pathT q)) rfl (by kernel_rfl) (by kernel_rfl) (by kernel_rfl) (fun _ _ _ h => h) (Or.inl ⟨by rfl, by intro w hSw; go_split_ands; go_simp⟩) HS.out ?_
      simp only [Act.put, List.getElem_toArray, List.getElem_cons_zero, List.setIfInBounds_toArray, List.set_cons_zero, List.set_cons_succ]
      refine wpAnyH_take (i := 1) (oi := _) (v := .agg #[.string q.seg, .int .i64 q.nth, .int .i64 q.fld, .int .i64 q.rep, .int .i64 q.comp, .int .i64 q.sub]) rfl (by kernel_rfl) (by kernel_rfl) (by kernel_rfl) (fun _ _ _ h => h) (Or.inl ⟨by rfl, by intro w hSw; go_split_ands; go_simp⟩) HS.out ?_
      simp only [Act.put, List.getElem_toArray, List.getElem_cons_zero, List.getElem_cons_succ, List.setIfInBounds_toArray, List.set_cons_zero, List.set_cons_succ]
      refine wpAnyH_ready (rs := [2]) (by kernel_rfl) (by simp) ?_
      refine AllReadyH.cons (o := _) rfl (fun K hK => ?_) AllReadyH.nil
      go_simp
      (try rw [← HV.out])
      refine (specPathText_any q _).mono ?_
      rintro e y1 ⟨rfl, hbc⟩
      have HX2 := hide (HX.out.below hbc)
      refine hK.out _ _ (HSS.out _ HX2.out) (fun _ => ?_)
      clear hK K HS HX hbc 
      have HX := HX2
      have HS := hide (HSS.out _ HX.out)
      clear HX2
      refine wpAnyH_take (i := 3) (oi := _) (v := .bool true) rfl (by kernel_rfl) (by kernel_rfl) (by kernel_rfl) (fun _ _ _ h => h) (Or.inl ⟨by rfl, by intro w hSw; go_split_ands; go_simp⟩) HS.out ?_
      simp only [Act.put, List.getElem_toArray, List.getElem_cons_zero, List.getElem_cons_succ, List.setIfInBounds_toArray, List.set_cons_zero, List.set_cons_succ]
      refine wpAnyH_take (i := 4) (oi := _) (v := .bool true) rfl (by kernel_rfl) (by kernel_rfl) (by kernel_rfl) (fun _ _ _ h => h) (Or.inl ⟨by rfl, by intro w hSw; go_split_ands; go_simp⟩) HS.out ?_
      simp only [Act.put, List.getElem_toArray, List.getElem_cons_zero, List.getElem_cons_succ, List.setIfInBounds_toArray, List.set_cons_zero, List.set_cons_succ]
      refine wpAnyH_take (i := 5) (oi := _) (v := .agg #[.string q.seg, .int .i64 q.nth, .int .i64 q.fld, .int .i64 q.rep, .int .i64 q.comp, .int .i64 q.sub]) rfl (by kernel_rfl) (by kernel_rfl) (by kernel_rfl) (fun _ _ _ h => h) (Or.inl ⟨by rfl, by intro w hSw; go_split_ands; go_simp⟩) HS.out ?_
      simp only [Act.put, List.getElem_toArray, List.getElem_cons_zero, List.getElem_cons_succ, List.setIfInBounds_toArray, List.set_cons_zero, List.set_cons_succ]
      refine wpAnyH_take (i := 7) (oi := _) (v := .agg #[.string q.seg, .int .i64 q.nth, .int .i64 q.fld, .int .i64 q.rep, .int .i64 q.comp, .int .i64 q.sub]) rfl (by kernel_rfl) (by kernel_rfl) (by kernel_rfl) (fun _ _ _ h => h) (Or.inl ⟨by rfl, by intro w hSw; go_split_ands; go_simp⟩) HS.out ?_
      simp only [Act.put, List.getElem_toArray, List.getElem_cons_zero, List.getElem_cons_succ, List.setIfInBounds_toArray, List.set_cons_zero, List.set_cons_succ]
      refine wpAnyH_ready (rs := [6]) (by kernel_rfl) (by simp) ?_
      refine AllReadyH.cons (o := _) rfl (fun K hK => ?_) AllReadyH.nil
      go_simp
      (try rw [← HV.out])
      refine (implPathRight_any q _).mono ?_
      rintro e y2 ⟨rfl, hbc⟩
      rw [HRT.out]
      have HX2 := hide (HX.out.below hbc)
      refine hK.out _ _ (HSS.out _ HX2.out) (fun _ => ?_)
      clear hK K HS HX hbc 
      have HX := HX2
      have HS := hide (HSS.out _ HX.out)
      clear HX2
      refine wpAnyH_ready (rs := [8]) (by kernel_rfl) (by simp) ?_
      refine AllReadyH.cons (o := _) rfl (fun K hK => ?_) AllReadyH.nil
      go_simp
      (try rw [← HV.out])
      refine (specPathRight_any q _).mono ?_
      rintro e y3 ⟨rfl, hbc⟩
      rw [HRT.out]
      have HX2 := hide (HX.out.below hbc)
      refine hK.out _ _ (HSS.out _ HX2.out) (fun _ => ?_)
      clear hK K HS HX hbc 
      have HX := HX2
      have HS := hide (HSS.out _ HX.out)
      clear HX2
      refine wpAnyH_take (i := 9) (oi := _) (v := .bool true) rfl (by kernel_rfl) (by kernel_rfl) (by kernel_rfl) (fun _ _ _ h => h) (Or.inl ⟨by rfl, by intro w hSw; go_split_ands; go_simp⟩) HS.out ?_
      simp only [Act.put, List.getElem_toArray, List.getElem_cons_zero, List.getElem_cons_succ, List.setIfInBounds_toArray, List.set_cons_zero, List.set_cons_succ]
      refine wpAnyH_take (i := 10) (oi := _) (v := .bool true) rfl (by kernel_rfl) (by kernel_rfl) (by kernel_rfl) (fun _ _ _ h => h) (Or.inl ⟨by rfl, by intro w hSw; go_split_ands; go_simp⟩) HS.out ?_
      simp only [Act.put, List.getElem_toArray, List.getElem_cons_zero, List.getElem_cons_succ, List.setIfInBounds_toArray, List.set_cons_zero, List.set_cons_succ]
      refine wpAnyH_take (i := 11) (oi := _) (v := .bool true) rfl (by kernel_rfl) (by kernel_rfl) (by kernel_rfl) (fun _ _ _ h => h) (Or.inl ⟨by rfl, by intro w hSw; go_split_ands; go_simp⟩) HS.out ?_
      simp only [Act.put, List.getElem_toArray, List.getElem_cons_zero, List.getElem_cons_succ, List.setIfInBounds_toArray, List.set_cons_zero, List.set_cons_succ]
      refine wpAnyH_take (i := 12) (oi := _) (v := .string (pathT q)) rfl (by kernel_rfl) (by kernel_rfl) (by kernel_rfl) (fun _ _ _ h => h) (Or.inl ⟨by rfl, by intro w hSw; go_split_ands; go_simp⟩) HS.out ?_
      simp only [Act.put, List.getElem_toArray, List.getElem_cons_zero, List.getElem_cons_succ, List.setIfInBounds_toArray, List.set_cons_zero, List.set_cons_succ]
      refine wpAnyH_take (i := 13) (oi := _) (v := .bool false) rfl (by kernel_rfl) (by kernel_rfl) (by kernel_rfl) (fun _ _ _ h => h) (Or.inl ⟨by rfl, by intro w hSw; go_split_ands; go_simp⟩) HS.out ?_
      simp only [Act.put, List.getElem_toArray, List.getElem_cons_zero, List.getElem_cons_succ, List.setIfInBounds_toArray, List.set_cons_zero, List.set_cons_succ]
      refine wpAnyH_take (i := 14) (oi := _) (v := .bool false) rfl (by kernel_rfl) (by kernel_rfl) (by kernel_rfl) (fun _ _ _ h => h) (Or.inl ⟨by rfl, by intro w hSw; go_split_ands; go_simp⟩) HS.out ?_
      simp only [Act.put, List.getElem_toArray, List.getElem_cons_zero, List.getElem_cons_succ, List.setIfInBounds_toArray, List.set_cons_zero, List.set_cons_succ]
      refine wpAnyH_take (i := 15) (oi := _) (v := .string (pathT q)) rfl (by kernel_rfl) (by kernel_rfl) (by kernel_rfl) (fun _ _ _ h => h) (Or.inl ⟨by rfl, by intro w hSw; go_split_ands; go_simp⟩) HS.out ?_
      simp only [Act.put, List.getElem_toArray, List.getElem_cons_zero, List.getElem_cons_succ, List.setIfInBounds_toArray, List.set_cons_zero, List.set_cons_succ]
      refine wpAnyH_take (i := 17) (oi := _) (v := .agg #[.string q.seg, .int .i64 q.nth, .int .i64 q.fld, .int .i64 q.rep, .int .i64 q.comp, .int .i64 q.sub]) rfl (by kernel_rfl) (by kernel_rfl) (by kernel_rfl) (fun _ _ _ h => h) (Or.inl ⟨by rfl, by intro w hSw; go_split_ands; go_simp⟩) HS.out ?_
      simp only [Act.put, List.getElem_toArray, List.getElem_cons_zero, List.getElem_cons_succ, List.setIfInBounds_toArray, List.set_cons_zero, List.set_cons_succ]
      refine wpAnyH_take (i := 18) (oi := _) (v := .agg #[.string q.seg, .int .i64 q.nth, .int .i64 q.fld, .int .i64 q.rep, .int .i64 q.comp, .int .i64 q.sub, .int .i64 0]) rfl (by kernel_rfl) (by kernel_rfl) (by kernel_rfl) (fun _ _ _ h => h) (Or.inl ⟨by rfl, by intro w hSw; go_split_ands; go_simp⟩) HS.out ?_
      simp only [Act.put, List.getElem_toArray, List.getElem_cons_zero, List.getElem_cons_succ, List.setIfInBounds_toArray, List.set_cons_zero, List.set_cons_succ]
      refine wpAnyH_ready (rs := [16]) (by kernel_rfl) (by simp) ?_
      refine AllReadyH.cons (o := _) rfl (fun K hK => ?_) AllReadyH.nil
      go_simp
      refine (HTR.out _ (HEW.out.kept HX.out (by simp))).mono ?_
      rintro e y4 ⟨rfl, hbc⟩
      have HX2 := hide (HX.out.below hbc)
      refine hK.out _ _ (HSS.out _ HX2.out) (fun _ => ?_)
      clear hK K HS HX hbc 
      have HX := HX2
      have HS := hide (HSS.out _ HX.out)
      clear HX2
      refine wpAnyH_take (i := 19) (oi := _) (v := .bool true) rfl (by kernel_rfl) (by kernel_rfl) (by kernel_rfl) (fun _ _ _ h => h) (Or.inl ⟨by rfl, by intro w hSw; go_split_ands; go_simp⟩) HS.out ?_
      simp only [Act.put, List.getElem_toArray, List.getElem_cons_zero, List.getElem_cons_succ, List.setIfInBounds_toArray, List.set_cons_zero, List.set_cons_succ]
      refine wpAnyH_take (i := 20) (oi := _) (v := .bool true) rfl (by kernel_rfl) (by kernel_rfl) (by kernel_rfl) (fun _ _ _ h => h) (Or.inl ⟨by rfl, by intro w hSw; go_split_ands; go_simp⟩) HS.out ?_
      simp only [Act.put, List.getElem_toArray, List.getElem_cons_zero, List.getElem_cons_succ, List.setIfInBounds_toArray, List.set_cons_zero, List.set_cons_succ]
      refine wpAnyH_take (i := 21) (oi := _) (v := .bool true) rfl (by kernel_rfl) (by kernel_rfl) (by kernel_rfl) (fun _ _ _ h => h) (Or.inl ⟨by rfl, by intro w hSw; go_split_ands; go_simp⟩) HS.out ?_
      simp only [Act.put, List.getElem_toArray, List.getElem_cons_zero, List.getElem_cons_succ, List.setIfInBounds_toArray, List.set_cons_zero, List.set_cons_succ]
      refine wpAnyH_take (i := 22) (oi := _) (v := .bool true) rfl (by kernel_rfl) (by kernel_rfl) (by kernel_rfl) (fun _ _ _ h => h) (Or.inl ⟨by rfl, by intro w hSw; go_split_ands; go_simp⟩) HS.out ?_
      simp only [Act.put, List.getElem_toArray, List.getElem_cons_zero, List.getElem_cons_succ, List.setIfInBounds_toArray, List.set_cons_zero, List.set_cons_succ]
      refine wpAnyH_take (i := 23) (oi := _) (v := .agg #[.string o.seg, .int .i64 o.nth, .int .i64 o.fld, .int .i64 o.rep, .int .i64 o.comp, .int .i64 o.sub, .int .i64 0]) rfl (by kernel_rfl) (by kernel_rfl) (by kernel_rfl) (fun _ _ _ h => h) (Or.inl ⟨by rfl, by intro w hSw; go_split_ands; go_simp⟩) HS.out ?_
      simp only [Act.put, List.getElem_toArray, List.getElem_cons_zero, List.getElem_cons_succ, List.setIfInBounds_toArray, List.set_cons_zero, List.set_cons_succ]
      refine wpAnyH_take (i := 24) (oi := _) (v := .string ⟨l.toArray⟩) rfl (by kernel_rfl) (by kernel_rfl) (by kernel_rfl) (fun _ _ _ h => h) (Or.inl ⟨by rfl, by intro w hSw; go_split_ands; go_simp⟩) HS.out ?_
      simp only [Act.put, List.getElem_toArray, List.getElem_cons_zero, List.getElem_cons_succ, List.setIfInBounds_toArray, List.set_cons_zero, List.set_cons_succ]
      refine wpAnyH_ready (rs := [25]) (by kernel_rfl) (by simp) ?_
      refine AllReadyH.cons (o := _) rfl (fun K hK => ?_) AllReadyH.nil
      go_simp
      refine (HSP.out _).mono ?_
      rintro e y5 ⟨rfl, hbc⟩
      rw [HVO2.out]
      have HX2 := hide (HX.out.below hbc)
      refine hK.out _ _ (HSS.out _ HX2.out) (fun _ => ?_)
      clear hK K HS HX hbc 
      have HX := HX2
      have HS := hide (HSS.out _ HX.out)
      clear HX2
      refine wpAnyH_take (i := 26) (oi := _) (v := .bool true) rfl (by kernel_rfl) (by kernel_rfl) (by kernel_rfl) (fun _ _ _ h => h) (Or.inl ⟨by rfl, by intro w hSw; go_split_ands; go_simp⟩) HS.out ?_
      simp only [Act.put, List.getElem_toArray, List.getElem_cons_zero, List.getElem_cons_succ, List.setIfInBounds_toArray, List.set_cons_zero, List.set_cons_succ]
      refine wpAnyH_take (i := 27) (oi := _) (v := .bool true) rfl (by kernel_rfl) (by kernel_rfl) (by kernel_rfl) (fun _ _ _ h => h) (Or.inl ⟨by rfl, by intro w hSw; go_split_ands; go_simp⟩) HS.out ?_
      simp only [Act.put, List.getElem_toArray, List.getElem_cons_zero, List.getElem_cons_succ, List.setIfInBounds_toArray, List.set_cons_zero, List.set_cons_succ]
      refine wpAnyH_take (i := 28) (oi := _) (v := .bool true) rfl (by kernel_rfl) (by kernel_rfl) (by kernel_rfl) (fun _ _ _ h => h) (Or.inl ⟨by rfl, by intro w hSw; go_split_ands; go_simp⟩) HS.out ?_
      simp only [Act.put, List.getElem_toArray, List.getElem_cons_zero, List.getElem_cons_succ, List.setIfInBounds_toArray, List.set_cons_zero, List.set_cons_succ]
      refine wpAnyH_take (i := 29) (oi := _) (v := .pointer (some ⟨G, 6, none⟩)) rfl (by kernel_rfl) (by kernel_rfl) (by kernel_rfl) (fun _ _ _ h => h) (Or.inl ⟨by rfl, by intro w hSw; go_split_ands; go_simp⟩) HS.out ?_
      simp only [Act.put, List.getElem_toArray, List.getElem_cons_zero, List.getElem_cons_succ, List.setIfInBounds_toArray, List.set_cons_zero, List.set_cons_succ]
      refine wpAnyH_take (i := 30) (oi := _) (v := .int .i64 0) rfl (by kernel_rfl) (by kernel_rfl) (by kernel_rfl) (fun _ _ _ h => h) (Or.inl ⟨by rfl, by intro w hSw; go_split_ands; go_simp⟩) HS.out ?_
      simp only [Act.put, List.getElem_toArray, List.getElem_cons_zero, List.getElem_cons_succ, List.setIfInBounds_toArray, List.set_cons_zero, List.set_cons_succ]
      refine wpAnyH_take (i := 31) (oi := _) (v := .bool false) rfl (by kernel_rfl) (by kernel_rfl) (by kernel_rfl) (fun _ _ _ h => h) (Or.inl ⟨by rfl, by intro w hSw; go_split_ands; go_simp⟩) HS.out ?_
      simp only [Act.put, List.getElem_toArray, List.getElem_cons_zero, List.getElem_cons_succ, List.setIfInBounds_toArray, List.set_cons_zero, List.set_cons_succ]
      refine wpAnyH_take (i := 32) (oi := _) (v := .bool false) rfl (by kernel_rfl) (by kernel_rfl) (by kernel_rfl) (fun _ _ _ h => h) (Or.inl ⟨by rfl, by intro w hSw; go_split_ands; go_simp⟩) HS.out ?_
      simp only [Act.put, List.getElem_toArray, List.getElem_cons_zero, List.getElem_cons_succ, List.setIfInBounds_toArray, List.set_cons_zero, List.set_cons_succ]
      refine wpAnyH_take (i := 33) (oi := _) (v := .pointer (some ⟨G, 0, none⟩)) rfl (by kernel_rfl) (by kernel_rfl) (by kernel_rfl) (fun _ _ _ h => h) (Or.inl ⟨by rfl, by intro w hSw; go_split_ands; go_simp⟩) HS.out ?_
      simp only [Act.put, List.getElem_toArray, List.getElem_cons_zero, List.getElem_cons_succ, List.setIfInBounds_toArray, List.set_cons_zero, List.set_cons_succ]
      refine wpAnyH_take (i := 34) (oi := _) (v := .agg #[.string o.seg, .int .i64 o.nth, .int .i64 o.fld, .int .i64 o.rep, .int .i64 o.comp, .int .i64 o.sub]) rfl (by kernel_rfl) (by kernel_rfl) (by kernel_rfl) (fun _ _ _ h => h) (Or.inl ⟨by rfl, by intro w hSw; go_split_ands; go_simp⟩) HS.out ?_
      simp only [Act.put, List.getElem_toArray, List.getElem_cons_zero, List.getElem_cons_succ, List.setIfInBounds_toArray, List.set_cons_zero, List.set_cons_succ]
      refine wpAnyH_take (i := 36) (oi := _) (v := .string ⟨l.toArray⟩) rfl (by kernel_rfl) (by kernel_rfl) (by kernel_rfl) (fun _ _ _ h => h) (Or.inl ⟨by rfl, by intro w hSw; go_split_ands; go_simp⟩) HS.out ?_
      simp only [Act.put, List.getElem_toArray, List.getElem_cons_zero, List.getElem_cons_succ, List.setIfInBounds_toArray, List.set_cons_zero, List.set_cons_succ]
      refine wpAnyH_ready (rs := [35]) (by kernel_rfl) (by simp) ?_
      refine AllReadyH.cons (o := _) rfl (fun K hK => ?_) AllReadyH.nil
      go_simp
      rw [← HVo.out]
      refine (implPathText_any o _).mono ?_
      rintro e y6 ⟨rfl, hbc⟩
      rw [HPO.out]
      have HX2 := hide (HX.out.below hbc)
      refine hK.out _ _ (HSS.out _ HX2.out) (fun _ => ?_)
      clear hK K HS HX hbc 
      have HX := HX2
      have HS := hide (HSS.out _ HX.out)
      clear HX2
      refine wpAnyH_take (i := 37) (oi := _) (v := .bool true) rfl (by kernel_rfl) (by kernel_rfl) (by kernel_rfl) (fun _ _ _ h => h) (Or.inl ⟨by rfl, by intro w hSw; go_split_ands; go_simp⟩) HS.out ?_
      simp only [Act.put, List.getElem_toArray, List.getElem_cons_zero, List.getElem_cons_succ, List.setIfInBounds_toArray, List.set_cons_zero, List.set_cons_succ]
      refine wpAnyH_take (i := 38) (oi := _) (v := .bool true) rfl (by kernel_rfl) (by kernel_rfl) (by kernel_rfl) (fun _ _ _ h => h) (Or.inl ⟨by rfl, by intro w hSw; go_split_ands; go_simp⟩) HS.out ?_
      simp only [Act.put, List.getElem_toArray, List.getElem_cons_zero, List.getElem_cons_succ, List.setIfInBounds_toArray, List.set_cons_zero, List.set_cons_succ]
      refine wpAnyH_take (i := 39) (oi := _) (v := .bool true) rfl (by kernel_rfl) (by kernel_rfl) (by kernel_rfl) (fun _ _ _ h => h) (Or.inl ⟨by rfl, by intro w hSw; go_split_ands; go_simp⟩) HS.out ?_
      simp only [Act.put, List.getElem_toArray, List.getElem_cons_zero, List.getElem_cons_succ, List.setIfInBounds_toArray, List.set_cons_zero, List.set_cons_succ]
      refine wpAnyH_take (i := 40) (oi := _) (v := .bool true) rfl (by kernel_rfl) (by kernel_rfl) (by kernel_rfl) (fun _ _ _ h => h) (Or.inl ⟨by rfl, by intro w hSw; go_split_ands; go_simp⟩) HS.out ?_
      simp only [Act.put, List.getElem_toArray, List.getElem_cons_zero, List.getElem_cons_succ, List.setIfInBounds_toArray, List.set_cons_zero, List.set_cons_succ]
      refine wpAnyH_done (by kernel_rfl) ?_ _
      have HBF := hide (HX.out.toBelow HB4.out HB4.out.size (by simp))
      clear HS HSS HX
      go_wp2
      go_ret
      exact ⟨rfl, HBF.out⟩
    · have HRT := hide hq
      have HTR : Hid (∀ Y : World, Errs Y → Calls Tryd.prog 7 #[.string (pathT q)] Y fun e w' => e = .returned (.agg #[.string q.seg, .int .i64 q.nth, .int .i64 q.fld, .int .i64 q.rep, .int .i64 q.comp, .int .i64 q.sub, .int .i64 0]) ∧ Below Y.heap.size Y w') := fun Y hY => by
        have h1 := implPathRead_any (pathT q).data.toList Y (by rw [← Lib.size_eq]; have := pathT_small q; omega) hY
        rw [outI_own hq] at h1
        exact h1
      have hne : ((pathT q).toList == []) = false := by rw [Lib.toList_data]; simpa using pathT_some hq
      clear hq
      have hKb : (K != (0 : Int)) = true := by simpa using hK
      clear hK
      have HSS := hide (show ∀ y, Kept [] W y → (fun y : World => y.cell? ⟨P, 0, none⟩ = some (.string q.seg) ∧ y.cell? ⟨P, 1, none⟩ = some (.int .i64 q.nth) ∧ y.cell? ⟨P, 2, none⟩ = some (.int .i64 q.fld) ∧ y.cell? ⟨P, 3, none⟩ = some (.int .i64 q.rep) ∧ y.cell? ⟨P, 4, none⟩ = some (.int .i64 q.comp) ∧ y.cell? ⟨P, 5, none⟩ = some (.int .i64 q.sub) ∧ y.cell? ⟨G, 0, none⟩ = some (.string o.seg) ∧ y.cell? ⟨G, 1, none⟩ = some (.int .i64 o.nth) ∧ y.cell? ⟨G, 2, none⟩ = some (.int .i64 o.fld) ∧ y.cell? ⟨G, 3, none⟩ = some (.int .i64 o.rep) ∧ y.cell? ⟨G, 4, none⟩ = some (.int .i64 o.comp) ∧ y.cell? ⟨G, 5, none⟩ = some (.int .i64 o.sub) ∧ y.cell? ⟨G, 6, none⟩ = some (.int .i64 K)) y from fun y h => ⟨(h.row HP4.out (by simp)).cell 0, (h.row HP4.out (by simp)).cell 1, (h.row HP4.out (by simp)).cell 2, (h.row HP4.out (by simp)).cell 3, (h.row HP4.out (by simp)).cell 4, (h.row HP4.out (by simp)).cell 5, (h.row HX4.out (by simp)).cell 0, (h.row HX4.out (by simp)).cell 1, (h.row HX4.out (by simp)).cell 2, (h.row HX4.out (by simp)).cell 3, (h.row HX4.out (by simp)).cell 4, (h.row HX4.out (by simp)).cell 5, (h.row HX4.out (by simp)).cell 6⟩)
      refine wp_region_held (S := fun y : World => y.cell? ⟨P, 0, none⟩ = some (.string q.seg) ∧ y.cell? ⟨P, 1, none⟩ = some (.int .i64 q.nth) ∧ y.cell? ⟨P, 2, none⟩ = some (.int .i64 q.fld) ∧ y.cell? ⟨P, 3, none⟩ = some (.int .i64 q.rep) ∧ y.cell? ⟨P, 4, none⟩ = some (.int .i64 q.comp) ∧ y.cell? ⟨P, 5, none⟩ = some (.int .i64 q.sub) ∧ y.cell? ⟨G, 0, none⟩ = some (.string o.seg) ∧ y.cell? ⟨G, 1, none⟩ = some (.int .i64 o.nth) ∧ y.cell? ⟨G, 2, none⟩ = some (.int .i64 o.fld) ∧ y.cell? ⟨G, 3, none⟩ = some (.int .i64 o.rep) ∧ y.cell? ⟨G, 4, none⟩ = some (.int .i64 o.comp) ∧ y.cell? ⟨G, 5, none⟩ = some (.int .i64 o.sub) ∧ y.cell? ⟨G, 6, none⟩ = some (.int .i64 K)) (by kernel_rfl) ?_
      have HX : Hid (Kept [] W { W with drawn := W.drawn + 1 }) := (Kept.refl _ _).drewP
      generalize ({ W with drawn := W.drawn + 1 } : World) = X0 at HX ⊢
      have HS := hide (HSS.out _ HX.out)
      refine wpAnyH_take (i := 0) (oi := _) (v := .string (pathT q)) rfl (by kernel_rfl) (by kernel_rfl) (by kernel_rfl) (fun _ _ _ h => h) (Or.inl ⟨by rfl, by intro w hSw; go_split_ands; go_simp⟩) HS.out ?_
      simp only [Act.put, List.getElem_toArray, List.getElem_cons_zero, List.setIfInBounds_toArray, List.set_cons_zero, List.set_cons_succ]
      refine wpAnyH_take (i := 1) (oi := _) (v := .agg #[.string q.seg, .int .i64 q.nth, .int .i64 q.fld, .int .i64 q.rep, .int .i64 q.comp, .int .i64 q.sub]) rfl (by kernel_rfl) (by kernel_rfl) (by kernel_rfl) (fun _ _ _ h => h) (Or.inl ⟨by rfl, by intro w hSw; go_split_ands; go_simp⟩) HS.out ?_
      simp only [Act.put, List.getElem_toArray, List.getElem_cons_zero, List.getElem_cons_succ, List.setIfInBounds_toArray, List.set_cons_zero, List.set_cons_succ]
      refine wpAnyH_ready (rs := [2]) (by kernel_rfl) (by simp) ?_
      refine AllReadyH.cons (o := _) rfl (fun K hK => ?_) AllReadyH.nil
      go_simp
      (try rw [← HV.out])
      refine (specPathText_any q _).mono ?_
      rintro e y1 ⟨rfl, hbc⟩
      have HX2 := hide (HX.out.below hbc)
      refine hK.out _ _ (HSS.out _ HX2.out) (fun _ => ?_)
      clear hK K HS HX hbc 
      have HX := HX2
      have HS := hide (HSS.out _ HX.out)
      clear HX2
      refine wpAnyH_take (i := 3) (oi := _) (v := .bool true) rfl (by kernel_rfl) (by kernel_rfl) (by kernel_rfl) (fun _ _ _ h => h) (Or.inl ⟨by rfl, by intro w hSw; go_split_ands; go_simp⟩) HS.out ?_
      simp only [Act.put, List.getElem_toArray, List.getElem_cons_zero, List.getElem_cons_succ, List.setIfInBounds_toArray, List.set_cons_zero, List.set_cons_succ]
      refine wpAnyH_take (i := 4) (oi := _) (v := .bool true) rfl (by kernel_rfl) (by kernel_rfl) (by kernel_rfl) (fun _ _ _ h => h) (Or.inl ⟨by rfl, by intro w hSw; go_split_ands; go_simp⟩) HS.out ?_
      simp only [Act.put, List.getElem_toArray, List.getElem_cons_zero, List.getElem_cons_succ, List.setIfInBounds_toArray, List.set_cons_zero, List.set_cons_succ]
      refine wpAnyH_take (i := 5) (oi := _) (v := .agg #[.string q.seg, .int .i64 q.nth, .int .i64 q.fld, .int .i64 q.rep, .int .i64 q.comp, .int .i64 q.sub]) rfl (by kernel_rfl) (by kernel_rfl) (by kernel_rfl) (fun _ _ _ h => h) (Or.inl ⟨by rfl, by intro w hSw; go_split_ands; go_simp⟩) HS.out ?_
      simp only [Act.put, List.getElem_toArray, List.getElem_cons_zero, List.getElem_cons_succ, List.setIfInBounds_toArray, List.set_cons_zero, List.set_cons_succ]
      refine wpAnyH_take (i := 7) (oi := _) (v := .agg #[.string q.seg, .int .i64 q.nth, .int .i64 q.fld, .int .i64 q.rep, .int .i64 q.comp, .int .i64 q.sub]) rfl (by kernel_rfl) (by kernel_rfl) (by kernel_rfl) (fun _ _ _ h => h) (Or.inl ⟨by rfl, by intro w hSw; go_split_ands; go_simp⟩) HS.out ?_
      simp only [Act.put, List.getElem_toArray, List.getElem_cons_zero, List.getElem_cons_succ, List.setIfInBounds_toArray, List.set_cons_zero, List.set_cons_succ]
      refine wpAnyH_ready (rs := [6]) (by kernel_rfl) (by simp) ?_
      refine AllReadyH.cons (o := _) rfl (fun K hK => ?_) AllReadyH.nil
      go_simp
      (try rw [← HV.out])
      refine (implPathRight_any q _).mono ?_
      rintro e y2 ⟨rfl, hbc⟩
      rw [HRT.out]
      have HX2 := hide (HX.out.below hbc)
      refine hK.out _ _ (HSS.out _ HX2.out) (fun _ => ?_)
      clear hK K HS HX hbc 
      have HX := HX2
      have HS := hide (HSS.out _ HX.out)
      clear HX2
      refine wpAnyH_ready (rs := [8]) (by kernel_rfl) (by simp) ?_
      refine AllReadyH.cons (o := _) rfl (fun K hK => ?_) AllReadyH.nil
      go_simp
      (try rw [← HV.out])
      refine (specPathRight_any q _).mono ?_
      rintro e y3 ⟨rfl, hbc⟩
      rw [HRT.out]
      have HX2 := hide (HX.out.below hbc)
      refine hK.out _ _ (HSS.out _ HX2.out) (fun _ => ?_)
      clear hK K HS HX hbc 
      have HX := HX2
      have HS := hide (HSS.out _ HX.out)
      clear HX2
      refine wpAnyH_take (i := 9) (oi := _) (v := .bool true) rfl (by kernel_rfl) (by kernel_rfl) (by kernel_rfl) (fun _ _ _ h => h) (Or.inl ⟨by rfl, by intro w hSw; go_split_ands; go_simp⟩) HS.out ?_
      simp only [Act.put, List.getElem_toArray, List.getElem_cons_zero, List.getElem_cons_succ, List.setIfInBounds_toArray, List.set_cons_zero, List.set_cons_succ]
      refine wpAnyH_take (i := 10) (oi := _) (v := .bool true) rfl (by kernel_rfl) (by kernel_rfl) (by kernel_rfl) (fun _ _ _ h => h) (Or.inl ⟨by rfl, by intro w hSw; go_split_ands; go_simp⟩) HS.out ?_
      simp only [Act.put, List.getElem_toArray, List.getElem_cons_zero, List.getElem_cons_succ, List.setIfInBounds_toArray, List.set_cons_zero, List.set_cons_succ]
      refine wpAnyH_take (i := 11) (oi := _) (v := .bool true) rfl (by kernel_rfl) (by kernel_rfl) (by kernel_rfl) (fun _ _ _ h => h) (Or.inl ⟨by rfl, by intro w hSw; go_split_ands; go_simp⟩) HS.out ?_
      simp only [Act.put, List.getElem_toArray, List.getElem_cons_zero, List.getElem_cons_succ, List.setIfInBounds_toArray, List.set_cons_zero, List.set_cons_succ]
      refine wpAnyH_take (i := 12) (oi := _) (v := .string (pathT q)) rfl (by kernel_rfl) (by kernel_rfl) (by kernel_rfl) (fun _ _ _ h => h) (Or.inl ⟨by rfl, by intro w hSw; go_split_ands; go_simp⟩) HS.out ?_
      simp only [Act.put, List.getElem_toArray, List.getElem_cons_zero, List.getElem_cons_succ, List.setIfInBounds_toArray, List.set_cons_zero, List.set_cons_succ]
      refine wpAnyH_take (i := 13) (oi := _) (v := .bool false) rfl (by kernel_rfl) (by kernel_rfl) (by kernel_rfl) (fun _ _ _ h => h) (Or.inl ⟨by rfl, by intro w hSw; go_split_ands; go_simp⟩) HS.out ?_
      simp only [Act.put, List.getElem_toArray, List.getElem_cons_zero, List.getElem_cons_succ, List.setIfInBounds_toArray, List.set_cons_zero, List.set_cons_succ]
      refine wpAnyH_take (i := 14) (oi := _) (v := .bool false) rfl (by kernel_rfl) (by kernel_rfl) (by kernel_rfl) (fun _ _ _ h => h) (Or.inl ⟨by rfl, by intro w hSw; go_split_ands; go_simp⟩) HS.out ?_
      simp only [Act.put, List.getElem_toArray, List.getElem_cons_zero, List.getElem_cons_succ, List.setIfInBounds_toArray, List.set_cons_zero, List.set_cons_succ]
      refine wpAnyH_take (i := 15) (oi := _) (v := .string (pathT q)) rfl (by kernel_rfl) (by kernel_rfl) (by kernel_rfl) (fun _ _ _ h => h) (Or.inl ⟨by rfl, by intro w hSw; go_split_ands; go_simp⟩) HS.out ?_
      simp only [Act.put, List.getElem_toArray, List.getElem_cons_zero, List.getElem_cons_succ, List.setIfInBounds_toArray, List.set_cons_zero, List.set_cons_succ]
      refine wpAnyH_take (i := 17) (oi := _) (v := .agg #[.string q.seg, .int .i64 q.nth, .int .i64 q.fld, .int .i64 q.rep, .int .i64 q.comp, .int .i64 q.sub]) rfl (by kernel_rfl) (by kernel_rfl) (by kernel_rfl) (fun _ _ _ h => h) (Or.inl ⟨by rfl, by intro w hSw; go_split_ands; go_simp⟩) HS.out ?_
      simp only [Act.put, List.getElem_toArray, List.getElem_cons_zero, List.getElem_cons_succ, List.setIfInBounds_toArray, List.set_cons_zero, List.set_cons_succ]
      refine wpAnyH_take (i := 18) (oi := _) (v := .agg #[.string q.seg, .int .i64 q.nth, .int .i64 q.fld, .int .i64 q.rep, .int .i64 q.comp, .int .i64 q.sub, .int .i64 0]) rfl (by kernel_rfl) (by kernel_rfl) (by kernel_rfl) (fun _ _ _ h => h) (Or.inl ⟨by rfl, by intro w hSw; go_split_ands; go_simp⟩) HS.out ?_
      simp only [Act.put, List.getElem_toArray, List.getElem_cons_zero, List.getElem_cons_succ, List.setIfInBounds_toArray, List.set_cons_zero, List.set_cons_succ]
      refine wpAnyH_ready (rs := [16]) (by kernel_rfl) (by simp) ?_
      refine AllReadyH.cons (o := _) rfl (fun K hK => ?_) AllReadyH.nil
      go_simp
      refine (HTR.out _ (HEW.out.kept HX.out (by simp))).mono ?_
      rintro e y4 ⟨rfl, hbc⟩
      have HX2 := hide (HX.out.below hbc)
      refine hK.out _ _ (HSS.out _ HX2.out) (fun _ => ?_)
      clear hK K HS HX hbc 
      have HX := HX2
      have HS := hide (HSS.out _ HX.out)
      clear HX2
      refine wpAnyH_take (i := 19) (oi := _) (v := .bool true) rfl (by kernel_rfl) (by kernel_rfl) (by kernel_rfl) (fun _ _ _ h => h) (Or.inl ⟨by rfl, by intro w hSw; go_split_ands; go_simp⟩) HS.out ?_
      simp only [Act.put, List.getElem_toArray, List.getElem_cons_zero, List.getElem_cons_succ, List.setIfInBounds_toArray, List.set_cons_zero, List.set_cons_succ]
      refine wpAnyH_take (i := 20) (oi := _) (v := .bool true) rfl (by kernel_rfl) (by kernel_rfl) (by kernel_rfl) (fun _ _ _ h => h) (Or.inl ⟨by rfl, by intro w hSw; go_split_ands; go_simp⟩) HS.out ?_
      simp only [Act.put, List.getElem_toArray, List.getElem_cons_zero, List.getElem_cons_succ, List.setIfInBounds_toArray, List.set_cons_zero, List.set_cons_succ]
      refine wpAnyH_take (i := 21) (oi := _) (v := .bool true) rfl (by kernel_rfl) (by kernel_rfl) (by kernel_rfl) (fun _ _ _ h => h) (Or.inl ⟨by rfl, by intro w hSw; go_split_ands; go_simp⟩) HS.out ?_
      simp only [Act.put, List.getElem_toArray, List.getElem_cons_zero, List.getElem_cons_succ, List.setIfInBounds_toArray, List.set_cons_zero, List.set_cons_succ]
      refine wpAnyH_take (i := 22) (oi := _) (v := .bool true) rfl (by kernel_rfl) (by kernel_rfl) (by kernel_rfl) (fun _ _ _ h => h) (Or.inl ⟨by rfl, by intro w hSw; go_split_ands; go_simp⟩) HS.out ?_
      simp only [Act.put, List.getElem_toArray, List.getElem_cons_zero, List.getElem_cons_succ, List.setIfInBounds_toArray, List.set_cons_zero, List.set_cons_succ]
      refine wpAnyH_take (i := 23) (oi := _) (v := .agg #[.string o.seg, .int .i64 o.nth, .int .i64 o.fld, .int .i64 o.rep, .int .i64 o.comp, .int .i64 o.sub, .int .i64 K]) rfl (by kernel_rfl) (by kernel_rfl) (by kernel_rfl) (fun _ _ _ h => h) (Or.inl ⟨by rfl, by intro w hSw; go_split_ands; go_simp⟩) HS.out ?_
      simp only [Act.put, List.getElem_toArray, List.getElem_cons_zero, List.getElem_cons_succ, List.setIfInBounds_toArray, List.set_cons_zero, List.set_cons_succ]
      refine wpAnyH_take (i := 24) (oi := _) (v := .string ⟨l.toArray⟩) rfl (by kernel_rfl) (by kernel_rfl) (by kernel_rfl) (fun _ _ _ h => h) (Or.inl ⟨by rfl, by intro w hSw; go_split_ands; go_simp⟩) HS.out ?_
      simp only [Act.put, List.getElem_toArray, List.getElem_cons_zero, List.getElem_cons_succ, List.setIfInBounds_toArray, List.set_cons_zero, List.set_cons_succ]
      refine wpAnyH_ready (rs := [25]) (by kernel_rfl) (by simp) ?_
      refine AllReadyH.cons (o := _) rfl (fun K hK => ?_) AllReadyH.nil
      go_simp
      refine (HSP.out _).mono ?_
      rintro e y5 ⟨rfl, hbc⟩
      rw [HVO2.out]
      have HX2 := hide (HX.out.below hbc)
      refine hK.out _ _ (HSS.out _ HX2.out) (fun _ => ?_)
      clear hK K HS HX hbc 
      have HX := HX2
      have HS := hide (HSS.out _ HX.out)
      clear HX2
      refine wpAnyH_take (i := 26) (oi := _) (v := .bool true) rfl (by kernel_rfl) (by kernel_rfl) (by kernel_rfl) (fun _ _ _ h => h) (Or.inl ⟨by rfl, by intro w hSw; go_split_ands; go_simp⟩) HS.out ?_
      simp only [Act.put, List.getElem_toArray, List.getElem_cons_zero, List.getElem_cons_succ, List.setIfInBounds_toArray, List.set_cons_zero, List.set_cons_succ]
      refine wpAnyH_take (i := 27) (oi := _) (v := .bool true) rfl (by kernel_rfl) (by kernel_rfl) (by kernel_rfl) (fun _ _ _ h => h) (Or.inl ⟨by rfl, by intro w hSw; go_split_ands; go_simp⟩) HS.out ?_
      simp only [Act.put, List.getElem_toArray, List.getElem_cons_zero, List.getElem_cons_succ, List.setIfInBounds_toArray, List.set_cons_zero, List.set_cons_succ]
      refine wpAnyH_take (i := 28) (oi := _) (v := .bool true) rfl (by kernel_rfl) (by kernel_rfl) (by kernel_rfl) (fun _ _ _ h => h) (Or.inl ⟨by rfl, by intro w hSw; go_split_ands; go_simp⟩) HS.out ?_
      simp only [Act.put, List.getElem_toArray, List.getElem_cons_zero, List.getElem_cons_succ, List.setIfInBounds_toArray, List.set_cons_zero, List.set_cons_succ]
      refine wpAnyH_take (i := 29) (oi := _) (v := .pointer (some ⟨G, 6, none⟩)) rfl (by kernel_rfl) (by kernel_rfl) (by kernel_rfl) (fun _ _ _ h => h) (Or.inl ⟨by rfl, by intro w hSw; go_split_ands; go_simp⟩) HS.out ?_
      simp only [Act.put, List.getElem_toArray, List.getElem_cons_zero, List.getElem_cons_succ, List.setIfInBounds_toArray, List.set_cons_zero, List.set_cons_succ]
      refine wpAnyH_take (i := 30) (oi := _) (v := .int .i64 K) rfl (by kernel_rfl) (by kernel_rfl) (by kernel_rfl) (fun _ _ _ h => h) (Or.inl ⟨by rfl, by intro w hSw; go_split_ands; go_simp⟩) HS.out ?_
      simp only [Act.put, List.getElem_toArray, List.getElem_cons_zero, List.getElem_cons_succ, List.setIfInBounds_toArray, List.set_cons_zero, List.set_cons_succ]
      refine wpAnyH_take (i := 31) (oi := _) (v := .bool true) rfl (by kernel_rfl) (by kernel_rfl) (by kernel_rfl) (fun _ _ _ h => h) (Or.inl ⟨by rfl, by intro w hSw; go_split_ands; go_simp⟩) HS.out ?_
      simp only [Act.put, List.getElem_toArray, List.getElem_cons_zero, List.getElem_cons_succ, List.setIfInBounds_toArray, List.set_cons_zero, List.set_cons_succ]
      refine wpAnyH_take (i := 32) (oi := _) (v := .bool true) rfl (by kernel_rfl) (by kernel_rfl) (by kernel_rfl) (fun _ _ _ h => h) (Or.inl ⟨by rfl, by intro w hSw; go_split_ands; go_simp⟩) HS.out ?_
      simp only [Act.put, List.getElem_toArray, List.getElem_cons_zero, List.getElem_cons_succ, List.setIfInBounds_toArray, List.set_cons_zero, List.set_cons_succ]
      refine wpAnyH_take (i := 33) (oi := _) (v := undef) rfl (by kernel_rfl) (by kernel_rfl) (by kernel_rfl) (fun _ _ _ h => h) (Or.inr ⟨by rfl, rfl⟩) HS.out ?_
      simp only [Act.put, List.getElem_toArray, List.getElem_cons_zero, List.getElem_cons_succ, List.setIfInBounds_toArray, List.set_cons_zero, List.set_cons_succ]
      refine wpAnyH_take (i := 34) (oi := _) (v := undef) rfl (by kernel_rfl) (by kernel_rfl) (by kernel_rfl) (fun _ _ _ h => h) (Or.inr ⟨by rfl, rfl⟩) HS.out ?_
      simp only [Act.put, List.getElem_toArray, List.getElem_cons_zero, List.getElem_cons_succ, List.setIfInBounds_toArray, List.set_cons_zero, List.set_cons_succ]
      refine wpAnyH_take (i := 35) (oi := _) (v := undef) rfl (by kernel_rfl) (by kernel_rfl) (by kernel_rfl) (fun _ _ _ h => h) (Or.inr ⟨by rfl, rfl⟩) HS.out ?_
      simp only [Act.put, List.getElem_toArray, List.getElem_cons_zero, List.getElem_cons_succ, List.setIfInBounds_toArray, List.set_cons_zero, List.set_cons_succ]
      refine wpAnyH_take (i := 36) (oi := _) (v := undef) rfl (by kernel_rfl) (by kernel_rfl) (by kernel_rfl) (fun _ _ _ h => h) (Or.inr ⟨by rfl, rfl⟩) HS.out ?_
      simp only [Act.put, List.getElem_toArray, List.getElem_cons_zero, List.getElem_cons_succ, List.setIfInBounds_toArray, List.set_cons_zero, List.set_cons_succ]
      refine wpAnyH_take (i := 37) (oi := _) (v := undef) rfl (by kernel_rfl) (by kernel_rfl) (by kernel_rfl) (fun _ _ _ h => h) (Or.inr ⟨by rfl, rfl⟩) HS.out ?_
      simp only [Act.put, List.getElem_toArray, List.getElem_cons_zero, List.getElem_cons_succ, List.setIfInBounds_toArray, List.set_cons_zero, List.set_cons_succ]
      refine wpAnyH_take (i := 38) (oi := _) (v := .bool true) rfl (by kernel_rfl) (by kernel_rfl) (by kernel_rfl) (fun _ _ _ h => h) (Or.inl ⟨by rfl, by intro w hSw; go_split_ands; go_simp⟩) HS.out ?_
      simp only [Act.put, List.getElem_toArray, List.getElem_cons_zero, List.getElem_cons_succ, List.setIfInBounds_toArray, List.set_cons_zero, List.set_cons_succ]
      refine wpAnyH_take (i := 39) (oi := _) (v := .bool true) rfl (by kernel_rfl) (by kernel_rfl) (by kernel_rfl) (fun _ _ _ h => h) (Or.inl ⟨by rfl, by intro w hSw; go_split_ands; go_simp⟩) HS.out ?_
      simp only [Act.put, List.getElem_toArray, List.getElem_cons_zero, List.getElem_cons_succ, List.setIfInBounds_toArray, List.set_cons_zero, List.set_cons_succ]
      refine wpAnyH_take (i := 40) (oi := _) (v := .bool true) rfl (by kernel_rfl) (by kernel_rfl) (by kernel_rfl) (fun _ _ _ h => h) (Or.inl ⟨by rfl, by intro w hSw; go_split_ands; go_simp⟩) HS.out ?_
      simp only [Act.put, List.getElem_toArray, List.getElem_cons_zero, List.getElem_cons_succ, List.setIfInBounds_toArray, List.set_cons_zero, List.set_cons_succ]
      refine wpAnyH_done (by kernel_rfl) ?_ _
      have HBF := hide (HX.out.toBelow HB4.out HB4.out.size (by simp))
      clear HS HSS HX
      go_wp2
      go_ret
      exact ⟨rfl, HBF.out⟩
end Go.Proofs.YtjcbojgomcakeaaDoor
