/- The law of promise 6: a drawn text comes back from what stands for it. -/
import Derived.Test.YtenadacfpdfbkaaDEsc
import Derived.Test.YtenadacfpdfbkaaFPlainF
import Derived.Test.YtenadacfpdfbkaaFSameM
import Derived.Deep.RegionHeld3
import Derived.OrdersHeld
import Derived.Deep.DeepCutAuto
import Derived.BigQuiet
namespace Go.Proofs.Ytenadacfpdfbkaa
open Go.RowKit
theorem below_drewNE {B : Nat} {w w' : World} (h : Below B w w') (n : Nat) : Below B w (w'.drewN n) := ⟨h.os, h.tape, h.output, h.size, h.block⟩
theorem Kept.drewP {S : List Nat} {a b : World} (h : Kept S a b) : Kept S a { b with drawn := b.drawn + 1 } := ⟨h.os, h.tape, h.output, h.size, h.block⟩
theorem bytesE {a : ByteArray} {l : List UInt8} (h : a.data.toList = l) : a = ⟨l.toArray⟩ := by
  apply ByteArray.ext
  simp [← h]
theorem plainB_of {x : List UInt8} (h : ∀ c ∈ x, plainR (c.toNat : Int) = true) : plainB ⟨x.toArray⟩ = true := by
  refine plainB_yes _ fun j hj => ?_
  rw [plainAt_eq _ j hj]
  exact h _ (by rw [← data_get ⟨x.toArray⟩ j hj]; exact List.getElem_mem _)
theorem plainB_all {t : ByteArray} (h : plainB t = true) : ∀ c ∈ t.data.toList, plainR (c.toNat : Int) = true := by
  intro c hc
  obtain ⟨j, hj, rfl⟩ := List.getElem_of_mem hc
  have hj' : j < t.size := by simpa using hj
  have := List.all_eq_true.1 h j (List.mem_range.2 hj')
  rw [plainAt_eq t j hj'] at this
  rw [data_get t j hj']
  exact this
/-- What is read is told by just this text. -/
theorem plain_ok {m u : ByteArray} (h : plainCode m u = 0) : escB m (plainText m u) = u := by
  unfold plainCode at h
  by_cases h8 : 8000 < m.size ∨ 8000 < u.size
  · rw [if_pos h8] at h; cases h
  rw [if_neg h8] at h
  by_cases hm : marksB m = false
  · rw [if_pos hm] at h; cases h
  rw [if_neg hm] at h
  have hmt : marksB m = true := by simpa using hm
  cases hp : plainL m u.data.toList with
  | none => rw [hp] at h; cases h
  | some x =>
    rw [hp] at h
    simp only at h
    by_cases hx : x.length ≤ 400
    · have ht : plainText m u = ⟨x.toArray⟩ := by unfold plainText; rw [if_neg h8, if_neg hm, hp]; simp only; rw [if_pos hx]
      obtain ⟨_, h2, h3⟩ := (plain_iff hmt u.data.toList x).1 hp
      rw [ht, escB_yes hmt (plainB_of h2) (by simpa [ByteArray.size] using hx)]
      exact (bytesE h3.symm).symm
    · rw [if_neg hx] at h; cases h
theorem escB_parts {m t : ByteArray} (h : (escB m t).data.toList ≠ []) : marksB m = true ∧ plainB t = true ∧ t.size ≤ 400 ∧ escB m t = ⟨(escL m t.data.toList).toArray⟩ := by
  by_cases hc : (marksB m && (plainB t && decide (t.size ≤ 400))) = true
  · simp only [Bool.and_eq_true, decide_eq_true_eq] at hc
    exact ⟨hc.1, hc.2.1, hc.2.2, escB_yes hc.1 hc.2.1 hc.2.2⟩
  · exfalso
    apply h
    unfold escB
    rw [if_neg hc]
theorem esc_back {m t : ByteArray} (h : (escB m t).data.toList ≠ []) : plainV m (escB m t) = .agg #[.string t, .int .i64 0, .int .i64 0] := by
  obtain ⟨h1, h2, h3, h4⟩ := escB_parts h
  have h5 := marksB_five h1
  have hl : (escL m t.data.toList).length ≤ 1200 := by
    have := escL_len m t.data.toList
    have e := Lib.size_eq t
    omega
  have hsz : (escB m t).size ≤ 1200 := by rw [h4]; simpa [ByteArray.size] using hl
  have hp : plainL m (escB m t).data.toList = some t.data.toList := by
    rw [plain_iff h1]
    refine ⟨?_, plainB_all h2, ?_⟩
    · rw [h4]; exact unesc_esc h1 _
    · rw [h4]
  rw [plainV_yes (by omega) h1 hp (by rw [← Lib.size_eq]; exact h3)]
theorem esc_marks {m t : ByteArray} (h : (escB m t).data.toList ≠ []) (i j : Nat) (hi : i < (escB m t).size) (hj : j < m.size) (h3 : j ≠ 3) : ((((escB m t)[i]'hi).toNat : Int) == ((m[j]'hj).toNat : Int)) = false := by
  obtain ⟨h1, _, _, h4⟩ := escB_parts h
  have h5 := marksB_five h1
  rw [beq_eq_false_iff_ne]
  intro e
  have e2 : (escB m t)[i]'hi = m[j]'hj := UInt8.toNat_inj.1 (by omega)
  have hm : (escB m t)[i]'hi ∈ escL m t.data.toList := by
    have hin : (escB m t)[i]'hi ∈ (escB m t).data.toList := by rw [← data_get _ i hi]; exact List.getElem_mem _
    have e3 : (escB m t).data.toList = escL m t.data.toList := by rw [h4]
    rw [e3] at hin
    exact hin
  rw [e2] at hm
  obtain ⟨c, _, hc⟩ := List.mem_flatMap.1 hm
  refine esc_noin h1 j (by omega) h3 c ?_
  have : bAt m j = m[j]'hj := by
    unfold bAt
    rw [List.getD_eq_getElem?_getD, List.getElem?_eq_getElem (by simpa using hj)]
    simpa using data_get m j hj
  rw [this]
  exact hc
theorem plainText_small (n u : ByteArray) : (plainText n u).size ≤ 400 := by
  unfold plainText
  split
  · simp [ByteArray.size]
  split
  · simp [ByteArray.size]
  split
  · split
    · rename_i hx; simpa [ByteArray.size] using hx
    · simp [ByteArray.size]
  · simp [ByteArray.size]
theorem escB_small (m t : ByteArray) (h : t.size ≤ 40) : (escB m t).size ≤ 2000 := by
  unfold escB
  split
  · have := escL_len m t.data.toList
    have e := Lib.size_eq t
    simp [ByteArray.size]
    omega
  · simp [ByteArray.size]
set_option maxHeartbeats 4000000 in
theorem drawPlainOf_any (v : Value) (bs : List Int) (w : World) (h : ReadsB w v bs) (hl : bs.length ≤ 1048576) :
    Calls Try.prog 6 #[v] w fun e w' => (∃ m t : ByteArray, e = .returned (.tuple #[.string m, .string t]) ∧ m.size ≤ 20 ∧ t.size ≤ 3000) ∧ Below w.heap.size w w' := by
  have HV := hide h
  clear h
  go_enter Try.func6, Try.ntmps6
  go_wp2_with fail
  refine (drawEscapeOf_any v bs w HV.out hl).mono ?_
  rintro e w0 ⟨⟨m, t, rfl, hm, ht⟩, hb0⟩
  have HB0 := hide hb0
  have HV0 := hide (HV.out.below hb0 (Nat.le_refl _))
  clear hb0
  go_wp2_with fail
  refine (source_any v bs w0 HV0.out hl).mono ?_
  rintro e w1 ⟨rfl, hs1, hb1⟩
  have HB1 := hide (HB0.out.trans (hb1.mono HB0.out.size))
  have HS1 := hide hs1
  have HG := hide HB0.out.size
  clear hs1 hb1
  generalize w0.heap.size = g at *
  go_wp2_with fail
  refine (specEscapeOf_any m t _ (by unfold maxLen; omega) (by unfold maxLen; omega)).mono ?_
  rintro e w2 ⟨rfl, hb2⟩
  have HB2 := hide (HB1.out.trans (hb2.mono HB1.out.size))
  have HS2 := hide (HS1.out.below hb2)
  have hes := escB_small m t ht
  clear hb2
  generalize escB m t = x at *
  go_wp2_with fail
  refine (one_any v bs g 3 _ HS2.out (by omega) hl).mono ?_
  rintro e w3 ⟨⟨b, rfl⟩, hs3, hk3⟩
  have HS3 := hide hs3
  have HB3 := hide (hk3.toBelow HB2.out HB2.out.size (by have := HG.out; simp; omega))
  clear hs3 hk3
  cases b
  · go_wp2
    exact bodyPost_ret (v := .tuple #[.string m, .string x]) (by simp [results, Try.results6, go_sem]) rfl ⟨⟨m, x, rfl, hm, by omega⟩, HB3.out⟩
  · go_wp2_with fail
    refine (spoil_any v bs g x _ HS3.out hl (by omega)).mono ?_
    rintro e w4 ⟨⟨t', rfl, hts⟩, _, hk4⟩
    have HB4 := hide (hk4.toBelow HB3.out HB3.out.size (by have := HG.out; simp; omega))
    clear hk4
    go_wp2
    exact bodyPost_ret (v := .tuple #[.string m, .string t']) (by simp [results, Try.results6, go_sem]) rfl ⟨⟨m, t', rfl, hm, by omega⟩, HB4.out⟩
set_option maxHeartbeats 16000000 in
set_option maxRecDepth 100000 in
theorem lawFnEscape (v1 v2 : Value) (bs1 bs2 : List Int) (w : World) (h1 : ReadsB w v1 bs1) (h2 : ReadsB w v2 bs2) :
    Calls Try.prog 3 #[v1, v2] w fun e w' => e = .returned (.bool true) ∧ Below w.heap.size w w' := by
  have H1 := hide h1
  have H2 := hide h2
  obtain ⟨p1, k1, rfl, _⟩ := h1
  obtain ⟨p2, k2, rfl, _⟩ := h2
  by_cases hc1 : (1048576 : Int) < (bs1.length : Int)
  · go_enter Try.func3, Try.ntmps3
    go_wp2
    go_ret
    exact ⟨rfl, Below.refl _ _⟩
  by_cases hc2 : (1048576 : Int) < (bs2.length : Int)
  · go_enter Try.func3, Try.ntmps3
    go_wp2
    go_ret
    exact ⟨rfl, Below.refl _ _⟩
  have HL1 := hide (show bs1.length ≤ 1048576 by omega)
  have HL2 := hide (show bs2.length ≤ 1048576 by omega)
  go_enter Try.func3, Try.ntmps3
  go_wp2_with fail
  refine (drawEscapeOf_any _ bs1 _ H1.out HL1.out).mono ?_
  rintro e w1 ⟨⟨m, t, rfl, hm, ht⟩, hb1⟩
  have HB1 := hide hb1
  have HM := hide (show m.size ≤ maxLen by unfold maxLen; omega)
  have HT := hide (show t.size ≤ maxLen by unfold maxLen; omega)
  clear hb1
  go_wp2_with fail
  refine (implEscapeOf_any m t _ HM.out HT.out).mono ?_
  rintro e w2 ⟨rfl, hb2⟩
  have HB2 := hide (HB1.out.trans (hb2.mono HB1.out.size))
  clear hb2
  go_wp2_with fail
  refine (drawPlainOf_any _ bs2 _ (H2.out.below HB2.out (Nat.le_refl _)) HL2.out).mono ?_
  rintro e w3 ⟨⟨n, u, rfl, hn, hu⟩, hb3⟩
  have HB3 := hide (HB2.out.trans (hb3.mono HB2.out.size))
  have HN := hide (show n.size ≤ maxLen by unfold maxLen; omega)
  have HU := hide (show u.size ≤ maxLen by unfold maxLen; omega)
  clear hb3
  go_wp2_with fail
  refine (implPlainOf_any n u _ HN.out HU.out).mono ?_
  rintro e w4 ⟨rfl, hb4⟩
  have HSP := hide (fun Y => specPlainOf_any n u Y HN.out HU.out)
  have HOK := hide (fun h => plain_ok (m := n) (u := u) h)
  have HPT := hide (show (plainText n u).size ≤ maxLen by have := plainText_small n u; unfold maxLen; omega)
  rw [show plainV n u = .agg #[.string (plainText n u), .int .i64 0, .int .i64 (plainCode n u)] from rfl] at HSP ⊢
  generalize plainText n u = X at *
  generalize plainCode n u = K at *
  have hbn : Below w4.heap.size w4 (w4.alloc (.cells #[.string X, .int .i64 0, .int .i64 K] 27)) := (Below.refl _ _).alloc (Nat.le_refl _) _
  have HB4 := hide ((HB3.out.trans (hb4.mono HB3.out.size)).trans (hbn.mono (HB3.out.trans (hb4.mono HB3.out.size)).size))
  have HX4 := hide (row_new w4 [.string X, .int .i64 0, .int .i64 K] 27)
  clear hb4 hbn
  go_wp2_with fail
  obtain ⟨W4, hW⟩ : ∃ W, W = w4.alloc (.cells #[.string X, .int .i64 0, .int .i64 K] 27) := ⟨_, rfl⟩
  rw [← hW] at HB4 HX4 ⊢
  clear hW
  generalize w4.heap.size = G at *
  refine (drawMarksRight_any _ bs2 _ (H2.out.below HB4.out (Nat.le_refl _)) HL2.out).mono ?_
  rintro e W ⟨⟨mk, rfl, hmk⟩, hb5⟩
  have HB5 := hide (HB4.out.trans (hb5.mono HB4.out.size))
  have HX5 := hide (HX4.out.below hb5 HX4.out.lt)
  have HMK := hide (show mk.size ≤ maxLen by unfold maxLen; omega)
  clear hb5
  have ho1 : ((escB m t).toList == (escB m t).toList) = true := by simp
  have ho2 : (X.toList == X.toList) = true := by simp
  have ho3 : (u.toList == u.toList) = true := by simp
  have HEB := hide (fun h => esc_back (m := m) (t := t) h)
  have HEM := hide (fun h => esc_marks (m := m) (t := t) h)
  have HEP := hide (fun h => escB_parts (m := m) (t := t) h)
  have hes := escB_small m t ht
  have HES := hide (show (escB m t).size ≤ maxLen by unfold maxLen; omega)
  have HSE := hide (fun Y => specEscapeOf_any m t Y HM.out HT.out)
  generalize escB m t = e at *
  go_wp2_with fail
  go_cut [71] (fun t71 wz => ∃ (wx : World), wx = wz ∧ t71 = .bool false ∧ Hid (Below w.heap.size w wx))
  case first =>
    have HSS := hide (show ∀ y, Kept [] W y → (fun y : World => y.cell? ⟨G, 0, none⟩ = some (.string X) ∧ y.cell? ⟨G, 1, none⟩ = some (.int .i64 0) ∧ y.cell? ⟨G, 2, none⟩ = some (.int .i64 K)) y from fun y h => ⟨(h.row HX5.out (by simp)).cell 0, (h.row HX5.out (by simp)).cell 1, (h.row HX5.out (by simp)).cell 2⟩)
    by_cases hK : K = 0
    · have hmb : (marksB mk != marksB mk) = false := by simp
      subst hK
      have HIE := hide (fun Y => implEscapeOf_any n X Y HN.out HPT.out)
      rw [HOK.out rfl] at HIE
      refine wp_region_held (S := fun y : World => y.cell? ⟨G, 0, none⟩ = some (.string X) ∧ y.cell? ⟨G, 1, none⟩ = some (.int .i64 0) ∧ y.cell? ⟨G, 2, none⟩ = some (.int .i64 0)) (by kernel_rfl) ?_
      have HX : Hid (Kept [] W { W with drawn := W.drawn + 1 }) := (Kept.refl _ _).drewP
      generalize ({ W with drawn := W.drawn + 1 } : World) = X0 at HX ⊢
      have HS := hide (HSS.out _ HX.out)
      refine wpAnyH_take (i := 0) (oi := _) (v := .string e) rfl (by kernel_rfl) (by kernel_rfl) (by kernel_rfl) (fun _ _ _ h => h) (Or.inl ⟨by rfl, by intro w hSw; go_split_ands; go_simp⟩) HS.out ?_
      simp only [Act.put, List.getElem_toArray, List.getElem_cons_zero, List.setIfInBounds_toArray, List.set_cons_zero, List.set_cons_succ]
      refine wpAnyH_take (i := 1) (oi := _) (v := .string m) rfl (by kernel_rfl) (by kernel_rfl) (by kernel_rfl) (fun _ _ _ h => h) (Or.inl ⟨by rfl, by intro w hSw; go_split_ands; go_simp⟩) HS.out ?_
      simp only [Act.put, List.getElem_toArray, List.getElem_cons_zero, List.getElem_cons_succ, List.setIfInBounds_toArray, List.set_cons_zero, List.set_cons_succ]
      refine wpAnyH_take (i := 2) (oi := _) (v := .string t) rfl (by kernel_rfl) (by kernel_rfl) (by kernel_rfl) (fun _ _ _ h => h) (Or.inl ⟨by rfl, by intro w hSw; go_split_ands; go_simp⟩) HS.out ?_
      simp only [Act.put, List.getElem_toArray, List.getElem_cons_zero, List.getElem_cons_succ, List.setIfInBounds_toArray, List.set_cons_zero, List.set_cons_succ]
      refine wpAnyH_ready (rs := [3]) (by kernel_rfl) (by simp) ?_
      refine AllReadyH.cons (o := _) rfl (fun K hK => ?_) AllReadyH.nil
      go_simp
      refine (HSE.out _).mono ?_
      rintro e y1 ⟨rfl, hbc⟩
      have HX2 := hide (HX.out.below hbc)
      refine hK.out _ _ (HSS.out _ HX2.out) (fun _ => ?_)
      clear hK K HS HX hbc 
      have HX := HX2
      have HS := hide (HSS.out _ HX.out)
      clear HX2
      refine wpAnyH_take (i := 4) (oi := _) (v := .bool false) rfl (by kernel_rfl) (by kernel_rfl) (by kernel_rfl) (fun _ _ _ h => h) (Or.inl ⟨by rfl, by intro w hSw; go_split_ands; go_simp⟩) HS.out ?_
      simp only [Act.put, List.getElem_toArray, List.getElem_cons_zero, List.getElem_cons_succ, List.setIfInBounds_toArray, List.set_cons_zero, List.set_cons_succ]
      refine wpAnyH_take (i := 5) (oi := _) (v := .bool false) rfl (by kernel_rfl) (by kernel_rfl) (by kernel_rfl) (fun _ _ _ h => h) (Or.inl ⟨by rfl, by intro w hSw; go_split_ands; go_simp⟩) HS.out ?_
      simp only [Act.put, List.getElem_toArray, List.getElem_cons_zero, List.getElem_cons_succ, List.setIfInBounds_toArray, List.set_cons_zero, List.set_cons_succ]
      refine wpAnyH_take (i := 6) (oi := _) (v := .agg #[.string X, .int .i64 0, .int .i64 0]) rfl (by kernel_rfl) (by kernel_rfl) (by kernel_rfl) (fun _ _ _ h => h) (Or.inl ⟨by rfl, by intro w hSw; go_split_ands; go_simp⟩) HS.out ?_
      simp only [Act.put, List.getElem_toArray, List.getElem_cons_zero, List.getElem_cons_succ, List.setIfInBounds_toArray, List.set_cons_zero, List.set_cons_succ]
      refine wpAnyH_take (i := 7) (oi := _) (v := .string n) rfl (by kernel_rfl) (by kernel_rfl) (by kernel_rfl) (fun _ _ _ h => h) (Or.inl ⟨by rfl, by intro w hSw; go_split_ands; go_simp⟩) HS.out ?_
      simp only [Act.put, List.getElem_toArray, List.getElem_cons_zero, List.getElem_cons_succ, List.setIfInBounds_toArray, List.set_cons_zero, List.set_cons_succ]
      refine wpAnyH_take (i := 8) (oi := _) (v := .string u) rfl (by kernel_rfl) (by kernel_rfl) (by kernel_rfl) (fun _ _ _ h => h) (Or.inl ⟨by rfl, by intro w hSw; go_split_ands; go_simp⟩) HS.out ?_
      simp only [Act.put, List.getElem_toArray, List.getElem_cons_zero, List.getElem_cons_succ, List.setIfInBounds_toArray, List.set_cons_zero, List.set_cons_succ]
      refine wpAnyH_ready (rs := [9]) (by kernel_rfl) (by simp) ?_
      refine AllReadyH.cons (o := _) rfl (fun K hK => ?_) AllReadyH.nil
      go_simp
      refine (HSP.out _).mono ?_
      rintro e y2 ⟨rfl, hbc⟩
      have HX2 := hide (HX.out.below hbc)
      refine hK.out _ _ (HSS.out _ HX2.out) (fun _ => ?_)
      clear hK K HS HX hbc 
      have HX := HX2
      have HS := hide (HSS.out _ HX.out)
      clear HX2
      refine wpAnyH_take (i := 10) (oi := _) (v := .bool false) rfl (by kernel_rfl) (by kernel_rfl) (by kernel_rfl) (fun _ _ _ h => h) (Or.inl ⟨by rfl, by intro w hSw; go_split_ands; go_simp⟩) HS.out ?_
      simp only [Act.put, List.getElem_toArray, List.getElem_cons_zero, List.getElem_cons_succ, List.setIfInBounds_toArray, List.set_cons_zero, List.set_cons_succ]
      refine wpAnyH_take (i := 11) (oi := _) (v := .bool false) rfl (by kernel_rfl) (by kernel_rfl) (by kernel_rfl) (fun _ _ _ h => h) (Or.inl ⟨by rfl, by intro w hSw; go_split_ands; go_simp⟩) HS.out ?_
      simp only [Act.put, List.getElem_toArray, List.getElem_cons_zero, List.getElem_cons_succ, List.setIfInBounds_toArray, List.set_cons_zero, List.set_cons_succ]
      refine wpAnyH_take (i := 12) (oi := _) (v := .bool false) rfl (by kernel_rfl) (by kernel_rfl) (by kernel_rfl) (fun _ _ _ h => h) (Or.inl ⟨by rfl, by intro w hSw; go_split_ands; go_simp⟩) HS.out ?_
      simp only [Act.put, List.getElem_toArray, List.getElem_cons_zero, List.getElem_cons_succ, List.setIfInBounds_toArray, List.set_cons_zero, List.set_cons_succ]
      refine wpAnyH_take (i := 13) (oi := _) (v := .string mk) rfl (by kernel_rfl) (by kernel_rfl) (by kernel_rfl) (fun _ _ _ h => h) (Or.inl ⟨by rfl, by intro w hSw; go_split_ands; go_simp⟩) HS.out ?_
      simp only [Act.put, List.getElem_toArray, List.getElem_cons_zero, List.getElem_cons_succ, List.setIfInBounds_toArray, List.set_cons_zero, List.set_cons_succ]
      refine wpAnyH_take (i := 15) (oi := _) (v := .string mk) rfl (by kernel_rfl) (by kernel_rfl) (by kernel_rfl) (fun _ _ _ h => h) (Or.inl ⟨by rfl, by intro w hSw; go_split_ands; go_simp⟩) HS.out ?_
      simp only [Act.put, List.getElem_toArray, List.getElem_cons_zero, List.getElem_cons_succ, List.setIfInBounds_toArray, List.set_cons_zero, List.set_cons_succ]
      refine wpAnyH_ready (rs := [14]) (by kernel_rfl) (by simp) ?_
      refine AllReadyH.cons (o := _) rfl (fun K hK => ?_) AllReadyH.nil
      go_simp
      refine (implMarksRight_any mk _ HMK.out).mono ?_
      rintro e y3 ⟨rfl, hbc⟩
      have HX2 := hide (HX.out.below hbc)
      refine hK.out _ _ (HSS.out _ HX2.out) (fun _ => ?_)
      clear hK K HS HX hbc 
      have HX := HX2
      have HS := hide (HSS.out _ HX.out)
      clear HX2
      refine wpAnyH_ready (rs := [16]) (by kernel_rfl) (by simp) ?_
      refine AllReadyH.cons (o := _) rfl (fun K hK => ?_) AllReadyH.nil
      go_simp
      refine (specMarksRight_any mk _ HMK.out).mono ?_
      rintro e _ ⟨rfl, rfl⟩
      refine hK.out _ _ HS.out (fun _ => ?_)
      clear hK K
      refine wpAnyH_take (i := 17) (oi := _) (v := .bool false) rfl (by kernel_rfl) (by kernel_rfl) (by kernel_rfl) (fun _ _ _ h => h) (Or.inl ⟨by rfl, by intro w hSw; go_split_ands; go_simp⟩) HS.out ?_
      simp only [Act.put, List.getElem_toArray, List.getElem_cons_zero, List.getElem_cons_succ, List.setIfInBounds_toArray, List.set_cons_zero, List.set_cons_succ]
      refine wpAnyH_take (i := 18) (oi := _) (v := .bool false) rfl (by kernel_rfl) (by kernel_rfl) (by kernel_rfl) (fun _ _ _ h => h) (Or.inl ⟨by rfl, by intro w hSw; go_split_ands; go_simp⟩) HS.out ?_
      simp only [Act.put, List.getElem_toArray, List.getElem_cons_zero, List.getElem_cons_succ, List.setIfInBounds_toArray, List.set_cons_zero, List.set_cons_succ]
      refine wpAnyH_take (i := 19) (oi := _) (v := .bool false) rfl (by kernel_rfl) (by kernel_rfl) (by kernel_rfl) (fun _ _ _ h => h) (Or.inl ⟨by rfl, by intro w hSw; go_split_ands; go_simp⟩) HS.out ?_
      simp only [Act.put, List.getElem_toArray, List.getElem_cons_zero, List.getElem_cons_succ, List.setIfInBounds_toArray, List.set_cons_zero, List.set_cons_succ]
      refine wpAnyH_take (i := 20) (oi := _) (v := .pointer (some ⟨G, 2, none⟩)) rfl (by kernel_rfl) (by kernel_rfl) (by kernel_rfl) (fun _ _ _ h => h) (Or.inl ⟨by rfl, by intro w hSw; go_split_ands; go_simp⟩) HS.out ?_
      simp only [Act.put, List.getElem_toArray, List.getElem_cons_zero, List.getElem_cons_succ, List.setIfInBounds_toArray, List.set_cons_zero, List.set_cons_succ]
      refine wpAnyH_take (i := 21) (oi := _) (v := .int .i64 0) rfl (by kernel_rfl) (by kernel_rfl) (by kernel_rfl) (fun _ _ _ h => h) (Or.inl ⟨by rfl, by intro w hSw; go_split_ands; go_simp⟩) HS.out ?_
      simp only [Act.put, List.getElem_toArray, List.getElem_cons_zero, List.getElem_cons_succ, List.setIfInBounds_toArray, List.set_cons_zero, List.set_cons_succ]
      refine wpAnyH_take (i := 22) (oi := _) (v := .bool true) rfl (by kernel_rfl) (by kernel_rfl) (by kernel_rfl) (fun _ _ _ h => h) (Or.inl ⟨by rfl, by intro w hSw; go_split_ands; go_simp⟩) HS.out ?_
      simp only [Act.put, List.getElem_toArray, List.getElem_cons_zero, List.getElem_cons_succ, List.setIfInBounds_toArray, List.set_cons_zero, List.set_cons_succ]
      refine wpAnyH_take (i := 23) (oi := _) (v := .bool true) rfl (by kernel_rfl) (by kernel_rfl) (by kernel_rfl) (fun _ _ _ h => h) (Or.inl ⟨by rfl, by intro w hSw; go_split_ands; go_simp⟩) HS.out ?_
      simp only [Act.put, List.getElem_toArray, List.getElem_cons_zero, List.getElem_cons_succ, List.setIfInBounds_toArray, List.set_cons_zero, List.set_cons_succ]
      refine wpAnyH_take (i := 24) (oi := _) (v := .string n) rfl (by kernel_rfl) (by kernel_rfl) (by kernel_rfl) (fun _ _ _ h => h) (Or.inl ⟨by rfl, by intro w hSw; go_split_ands; go_simp⟩) HS.out ?_
      simp only [Act.put, List.getElem_toArray, List.getElem_cons_zero, List.getElem_cons_succ, List.setIfInBounds_toArray, List.set_cons_zero, List.set_cons_succ]
      refine wpAnyH_take (i := 25) (oi := _) (v := .pointer (some ⟨G, 0, none⟩)) rfl (by kernel_rfl) (by kernel_rfl) (by kernel_rfl) (fun _ _ _ h => h) (Or.inl ⟨by rfl, by intro w hSw; go_split_ands; go_simp⟩) HS.out ?_
      simp only [Act.put, List.getElem_toArray, List.getElem_cons_zero, List.getElem_cons_succ, List.setIfInBounds_toArray, List.set_cons_zero, List.set_cons_succ]
      refine wpAnyH_take (i := 26) (oi := _) (v := .string X) rfl (by kernel_rfl) (by kernel_rfl) (by kernel_rfl) (fun _ _ _ h => h) (Or.inl ⟨by rfl, by intro w hSw; go_split_ands; go_simp⟩) HS.out ?_
      simp only [Act.put, List.getElem_toArray, List.getElem_cons_zero, List.getElem_cons_succ, List.setIfInBounds_toArray, List.set_cons_zero, List.set_cons_succ]
      refine wpAnyH_take (i := 28) (oi := _) (v := .string u) rfl (by kernel_rfl) (by kernel_rfl) (by kernel_rfl) (fun _ _ _ h => h) (Or.inl ⟨by rfl, by intro w hSw; go_split_ands; go_simp⟩) HS.out ?_
      simp only [Act.put, List.getElem_toArray, List.getElem_cons_zero, List.getElem_cons_succ, List.setIfInBounds_toArray, List.set_cons_zero, List.set_cons_succ]
      refine wpAnyH_ready (rs := [27]) (by kernel_rfl) (by simp) ?_
      refine AllReadyH.cons (o := _) rfl (fun K hK => ?_) AllReadyH.nil
      go_simp
      refine (HIE.out _).mono ?_
      rintro e y4 ⟨rfl, hbc⟩
      have HX2 := hide (HX.out.below hbc)
      refine hK.out _ _ (HSS.out _ HX2.out) (fun _ => ?_)
      clear hK K HS HX hbc 
      have HX := HX2
      have HS := hide (HSS.out _ HX.out)
      clear HX2
      refine wpAnyH_take (i := 29) (oi := _) (v := .bool false) rfl (by kernel_rfl) (by kernel_rfl) (by kernel_rfl) (fun _ _ _ h => h) (Or.inl ⟨by rfl, by intro w hSw; go_split_ands; go_simp⟩) HS.out ?_
      simp only [Act.put, List.getElem_toArray, List.getElem_cons_zero, List.getElem_cons_succ, List.setIfInBounds_toArray, List.set_cons_zero, List.set_cons_succ]
      refine wpAnyH_take (i := 30) (oi := _) (v := .bool false) rfl (by kernel_rfl) (by kernel_rfl) (by kernel_rfl) (fun _ _ _ h => h) (Or.inl ⟨by rfl, by intro w hSw; go_split_ands; go_simp⟩) HS.out ?_
      simp only [Act.put, List.getElem_toArray, List.getElem_cons_zero, List.getElem_cons_succ, List.setIfInBounds_toArray, List.set_cons_zero, List.set_cons_succ]
      refine wpAnyH_take (i := 31) (oi := _) (v := .bool false) rfl (by kernel_rfl) (by kernel_rfl) (by kernel_rfl) (fun _ _ _ h => h) (Or.inl ⟨by rfl, by intro w hSw; go_split_ands; go_simp⟩) HS.out ?_
      simp only [Act.put, List.getElem_toArray, List.getElem_cons_zero, List.getElem_cons_succ, List.setIfInBounds_toArray, List.set_cons_zero, List.set_cons_succ]
      refine wpAnyH_done (by kernel_rfl) ?_ _
      have HBF := hide (HX.out.toBelow HB5.out HB5.out.size (by simp))
      clear HS HSS HX
      go_wp2_with fail
      go_meet
      exact ⟨_, rfl, rfl, HBF⟩
    · have hKb : (K == (0 : Int)) = false := by simpa using hK
      clear hK
      have hmb : (marksB mk != marksB mk) = false := by simp
      refine wp_region_held (S := fun y : World => y.cell? ⟨G, 0, none⟩ = some (.string X) ∧ y.cell? ⟨G, 1, none⟩ = some (.int .i64 0) ∧ y.cell? ⟨G, 2, none⟩ = some (.int .i64 K)) (by kernel_rfl) ?_
      have HX : Hid (Kept [] W { W with drawn := W.drawn + 1 }) := (Kept.refl _ _).drewP
      generalize ({ W with drawn := W.drawn + 1 } : World) = X0 at HX ⊢
      have HS := hide (HSS.out _ HX.out)
      refine wpAnyH_take (i := 0) (oi := _) (v := .string e) rfl (by kernel_rfl) (by kernel_rfl) (by kernel_rfl) (fun _ _ _ h => h) (Or.inl ⟨by rfl, by intro w hSw; go_split_ands; go_simp⟩) HS.out ?_
      simp only [Act.put, List.getElem_toArray, List.getElem_cons_zero, List.setIfInBounds_toArray, List.set_cons_zero, List.set_cons_succ]
      refine wpAnyH_take (i := 1) (oi := _) (v := .string m) rfl (by kernel_rfl) (by kernel_rfl) (by kernel_rfl) (fun _ _ _ h => h) (Or.inl ⟨by rfl, by intro w hSw; go_split_ands; go_simp⟩) HS.out ?_
      simp only [Act.put, List.getElem_toArray, List.getElem_cons_zero, List.getElem_cons_succ, List.setIfInBounds_toArray, List.set_cons_zero, List.set_cons_succ]
      refine wpAnyH_take (i := 2) (oi := _) (v := .string t) rfl (by kernel_rfl) (by kernel_rfl) (by kernel_rfl) (fun _ _ _ h => h) (Or.inl ⟨by rfl, by intro w hSw; go_split_ands; go_simp⟩) HS.out ?_
      simp only [Act.put, List.getElem_toArray, List.getElem_cons_zero, List.getElem_cons_succ, List.setIfInBounds_toArray, List.set_cons_zero, List.set_cons_succ]
      refine wpAnyH_ready (rs := [3]) (by kernel_rfl) (by simp) ?_
      refine AllReadyH.cons (o := _) rfl (fun K hK => ?_) AllReadyH.nil
      go_simp
      refine (HSE.out _).mono ?_
      rintro e y1 ⟨rfl, hbc⟩
      have HX2 := hide (HX.out.below hbc)
      refine hK.out _ _ (HSS.out _ HX2.out) (fun _ => ?_)
      clear hK K HS HX hbc 
      have HX := HX2
      have HS := hide (HSS.out _ HX.out)
      clear HX2
      refine wpAnyH_take (i := 4) (oi := _) (v := .bool false) rfl (by kernel_rfl) (by kernel_rfl) (by kernel_rfl) (fun _ _ _ h => h) (Or.inl ⟨by rfl, by intro w hSw; go_split_ands; go_simp⟩) HS.out ?_
      simp only [Act.put, List.getElem_toArray, List.getElem_cons_zero, List.getElem_cons_succ, List.setIfInBounds_toArray, List.set_cons_zero, List.set_cons_succ]
      refine wpAnyH_take (i := 5) (oi := _) (v := .bool false) rfl (by kernel_rfl) (by kernel_rfl) (by kernel_rfl) (fun _ _ _ h => h) (Or.inl ⟨by rfl, by intro w hSw; go_split_ands; go_simp⟩) HS.out ?_
      simp only [Act.put, List.getElem_toArray, List.getElem_cons_zero, List.getElem_cons_succ, List.setIfInBounds_toArray, List.set_cons_zero, List.set_cons_succ]
      refine wpAnyH_take (i := 6) (oi := _) (v := .agg #[.string X, .int .i64 0, .int .i64 K]) rfl (by kernel_rfl) (by kernel_rfl) (by kernel_rfl) (fun _ _ _ h => h) (Or.inl ⟨by rfl, by intro w hSw; go_split_ands; go_simp⟩) HS.out ?_
      simp only [Act.put, List.getElem_toArray, List.getElem_cons_zero, List.getElem_cons_succ, List.setIfInBounds_toArray, List.set_cons_zero, List.set_cons_succ]
      refine wpAnyH_take (i := 7) (oi := _) (v := .string n) rfl (by kernel_rfl) (by kernel_rfl) (by kernel_rfl) (fun _ _ _ h => h) (Or.inl ⟨by rfl, by intro w hSw; go_split_ands; go_simp⟩) HS.out ?_
      simp only [Act.put, List.getElem_toArray, List.getElem_cons_zero, List.getElem_cons_succ, List.setIfInBounds_toArray, List.set_cons_zero, List.set_cons_succ]
      refine wpAnyH_take (i := 8) (oi := _) (v := .string u) rfl (by kernel_rfl) (by kernel_rfl) (by kernel_rfl) (fun _ _ _ h => h) (Or.inl ⟨by rfl, by intro w hSw; go_split_ands; go_simp⟩) HS.out ?_
      simp only [Act.put, List.getElem_toArray, List.getElem_cons_zero, List.getElem_cons_succ, List.setIfInBounds_toArray, List.set_cons_zero, List.set_cons_succ]
      refine wpAnyH_ready (rs := [9]) (by kernel_rfl) (by simp) ?_
      refine AllReadyH.cons (o := _) rfl (fun K hK => ?_) AllReadyH.nil
      go_simp
      refine (HSP.out _).mono ?_
      rintro e y2 ⟨rfl, hbc⟩
      have HX2 := hide (HX.out.below hbc)
      refine hK.out _ _ (HSS.out _ HX2.out) (fun _ => ?_)
      clear hK K HS HX hbc 
      have HX := HX2
      have HS := hide (HSS.out _ HX.out)
      clear HX2
      refine wpAnyH_take (i := 10) (oi := _) (v := .bool false) rfl (by kernel_rfl) (by kernel_rfl) (by kernel_rfl) (fun _ _ _ h => h) (Or.inl ⟨by rfl, by intro w hSw; go_split_ands; go_simp⟩) HS.out ?_
      simp only [Act.put, List.getElem_toArray, List.getElem_cons_zero, List.getElem_cons_succ, List.setIfInBounds_toArray, List.set_cons_zero, List.set_cons_succ]
      refine wpAnyH_take (i := 11) (oi := _) (v := .bool false) rfl (by kernel_rfl) (by kernel_rfl) (by kernel_rfl) (fun _ _ _ h => h) (Or.inl ⟨by rfl, by intro w hSw; go_split_ands; go_simp⟩) HS.out ?_
      simp only [Act.put, List.getElem_toArray, List.getElem_cons_zero, List.getElem_cons_succ, List.setIfInBounds_toArray, List.set_cons_zero, List.set_cons_succ]
      refine wpAnyH_take (i := 12) (oi := _) (v := .bool false) rfl (by kernel_rfl) (by kernel_rfl) (by kernel_rfl) (fun _ _ _ h => h) (Or.inl ⟨by rfl, by intro w hSw; go_split_ands; go_simp⟩) HS.out ?_
      simp only [Act.put, List.getElem_toArray, List.getElem_cons_zero, List.getElem_cons_succ, List.setIfInBounds_toArray, List.set_cons_zero, List.set_cons_succ]
      refine wpAnyH_take (i := 13) (oi := _) (v := .string mk) rfl (by kernel_rfl) (by kernel_rfl) (by kernel_rfl) (fun _ _ _ h => h) (Or.inl ⟨by rfl, by intro w hSw; go_split_ands; go_simp⟩) HS.out ?_
      simp only [Act.put, List.getElem_toArray, List.getElem_cons_zero, List.getElem_cons_succ, List.setIfInBounds_toArray, List.set_cons_zero, List.set_cons_succ]
      refine wpAnyH_take (i := 15) (oi := _) (v := .string mk) rfl (by kernel_rfl) (by kernel_rfl) (by kernel_rfl) (fun _ _ _ h => h) (Or.inl ⟨by rfl, by intro w hSw; go_split_ands; go_simp⟩) HS.out ?_
      simp only [Act.put, List.getElem_toArray, List.getElem_cons_zero, List.getElem_cons_succ, List.setIfInBounds_toArray, List.set_cons_zero, List.set_cons_succ]
      refine wpAnyH_ready (rs := [14]) (by kernel_rfl) (by simp) ?_
      refine AllReadyH.cons (o := _) rfl (fun K hK => ?_) AllReadyH.nil
      go_simp
      refine (implMarksRight_any mk _ HMK.out).mono ?_
      rintro e y3 ⟨rfl, hbc⟩
      have HX2 := hide (HX.out.below hbc)
      refine hK.out _ _ (HSS.out _ HX2.out) (fun _ => ?_)
      clear hK K HS HX hbc 
      have HX := HX2
      have HS := hide (HSS.out _ HX.out)
      clear HX2
      refine wpAnyH_ready (rs := [16]) (by kernel_rfl) (by simp) ?_
      refine AllReadyH.cons (o := _) rfl (fun K hK => ?_) AllReadyH.nil
      go_simp
      refine (specMarksRight_any mk _ HMK.out).mono ?_
      rintro e _ ⟨rfl, rfl⟩
      refine hK.out _ _ HS.out (fun _ => ?_)
      clear hK K
      refine wpAnyH_take (i := 17) (oi := _) (v := .bool false) rfl (by kernel_rfl) (by kernel_rfl) (by kernel_rfl) (fun _ _ _ h => h) (Or.inl ⟨by rfl, by intro w hSw; go_split_ands; go_simp⟩) HS.out ?_
      simp only [Act.put, List.getElem_toArray, List.getElem_cons_zero, List.getElem_cons_succ, List.setIfInBounds_toArray, List.set_cons_zero, List.set_cons_succ]
      refine wpAnyH_take (i := 18) (oi := _) (v := .bool false) rfl (by kernel_rfl) (by kernel_rfl) (by kernel_rfl) (fun _ _ _ h => h) (Or.inl ⟨by rfl, by intro w hSw; go_split_ands; go_simp⟩) HS.out ?_
      simp only [Act.put, List.getElem_toArray, List.getElem_cons_zero, List.getElem_cons_succ, List.setIfInBounds_toArray, List.set_cons_zero, List.set_cons_succ]
      refine wpAnyH_take (i := 19) (oi := _) (v := .bool false) rfl (by kernel_rfl) (by kernel_rfl) (by kernel_rfl) (fun _ _ _ h => h) (Or.inl ⟨by rfl, by intro w hSw; go_split_ands; go_simp⟩) HS.out ?_
      simp only [Act.put, List.getElem_toArray, List.getElem_cons_zero, List.getElem_cons_succ, List.setIfInBounds_toArray, List.set_cons_zero, List.set_cons_succ]
      refine wpAnyH_take (i := 20) (oi := _) (v := .pointer (some ⟨G, 2, none⟩)) rfl (by kernel_rfl) (by kernel_rfl) (by kernel_rfl) (fun _ _ _ h => h) (Or.inl ⟨by rfl, by intro w hSw; go_split_ands; go_simp⟩) HS.out ?_
      simp only [Act.put, List.getElem_toArray, List.getElem_cons_zero, List.getElem_cons_succ, List.setIfInBounds_toArray, List.set_cons_zero, List.set_cons_succ]
      refine wpAnyH_take (i := 21) (oi := _) (v := .int .i64 K) rfl (by kernel_rfl) (by kernel_rfl) (by kernel_rfl) (fun _ _ _ h => h) (Or.inl ⟨by rfl, by intro w hSw; go_split_ands; go_simp⟩) HS.out ?_
      simp only [Act.put, List.getElem_toArray, List.getElem_cons_zero, List.getElem_cons_succ, List.setIfInBounds_toArray, List.set_cons_zero, List.set_cons_succ]
      refine wpAnyH_take (i := 22) (oi := _) (v := .bool false) rfl (by kernel_rfl) (by kernel_rfl) (by kernel_rfl) (fun _ _ _ h => h) (Or.inl ⟨by rfl, by intro w hSw; go_split_ands; go_simp⟩) HS.out ?_
      simp only [Act.put, List.getElem_toArray, List.getElem_cons_zero, List.getElem_cons_succ, List.setIfInBounds_toArray, List.set_cons_zero, List.set_cons_succ]
      refine wpAnyH_take (i := 23) (oi := _) (v := .bool false) rfl (by kernel_rfl) (by kernel_rfl) (by kernel_rfl) (fun _ _ _ h => h) (Or.inl ⟨by rfl, by intro w hSw; go_split_ands; go_simp⟩) HS.out ?_
      simp only [Act.put, List.getElem_toArray, List.getElem_cons_zero, List.getElem_cons_succ, List.setIfInBounds_toArray, List.set_cons_zero, List.set_cons_succ]
      refine wpAnyH_take (i := 24) (oi := _) (v := undef) rfl (by kernel_rfl) (by kernel_rfl) (by kernel_rfl) (fun _ _ _ h => h) (Or.inr ⟨by rfl, rfl⟩) HS.out ?_
      simp only [Act.put, List.getElem_toArray, List.getElem_cons_zero, List.getElem_cons_succ, List.setIfInBounds_toArray, List.set_cons_zero, List.set_cons_succ]
      refine wpAnyH_take (i := 25) (oi := _) (v := undef) rfl (by kernel_rfl) (by kernel_rfl) (by kernel_rfl) (fun _ _ _ h => h) (Or.inr ⟨by rfl, rfl⟩) HS.out ?_
      simp only [Act.put, List.getElem_toArray, List.getElem_cons_zero, List.getElem_cons_succ, List.setIfInBounds_toArray, List.set_cons_zero, List.set_cons_succ]
      refine wpAnyH_take (i := 26) (oi := _) (v := undef) rfl (by kernel_rfl) (by kernel_rfl) (by kernel_rfl) (fun _ _ _ h => h) (Or.inr ⟨by rfl, rfl⟩) HS.out ?_
      simp only [Act.put, List.getElem_toArray, List.getElem_cons_zero, List.getElem_cons_succ, List.setIfInBounds_toArray, List.set_cons_zero, List.set_cons_succ]
      refine wpAnyH_take (i := 27) (oi := _) (v := undef) rfl (by kernel_rfl) (by kernel_rfl) (by kernel_rfl) (fun _ _ _ h => h) (Or.inr ⟨by rfl, rfl⟩) HS.out ?_
      simp only [Act.put, List.getElem_toArray, List.getElem_cons_zero, List.getElem_cons_succ, List.setIfInBounds_toArray, List.set_cons_zero, List.set_cons_succ]
      refine wpAnyH_take (i := 28) (oi := _) (v := undef) rfl (by kernel_rfl) (by kernel_rfl) (by kernel_rfl) (fun _ _ _ h => h) (Or.inr ⟨by rfl, rfl⟩) HS.out ?_
      simp only [Act.put, List.getElem_toArray, List.getElem_cons_zero, List.getElem_cons_succ, List.setIfInBounds_toArray, List.set_cons_zero, List.set_cons_succ]
      refine wpAnyH_take (i := 29) (oi := _) (v := undef) rfl (by kernel_rfl) (by kernel_rfl) (by kernel_rfl) (fun _ _ _ h => h) (Or.inr ⟨by rfl, rfl⟩) HS.out ?_
      simp only [Act.put, List.getElem_toArray, List.getElem_cons_zero, List.getElem_cons_succ, List.setIfInBounds_toArray, List.set_cons_zero, List.set_cons_succ]
      refine wpAnyH_take (i := 30) (oi := _) (v := .bool false) rfl (by kernel_rfl) (by kernel_rfl) (by kernel_rfl) (fun _ _ _ h => h) (Or.inl ⟨by rfl, by intro w hSw; go_split_ands; go_simp⟩) HS.out ?_
      simp only [Act.put, List.getElem_toArray, List.getElem_cons_zero, List.getElem_cons_succ, List.setIfInBounds_toArray, List.set_cons_zero, List.set_cons_succ]
      refine wpAnyH_take (i := 31) (oi := _) (v := .bool false) rfl (by kernel_rfl) (by kernel_rfl) (by kernel_rfl) (fun _ _ _ h => h) (Or.inl ⟨by rfl, by intro w hSw; go_split_ands; go_simp⟩) HS.out ?_
      simp only [Act.put, List.getElem_toArray, List.getElem_cons_zero, List.getElem_cons_succ, List.setIfInBounds_toArray, List.set_cons_zero, List.set_cons_succ]
      refine wpAnyH_done (by kernel_rfl) ?_ _
      have HBF := hide (HX.out.toBelow HB5.out HB5.out.size (by simp))
      clear HS HSS HX
      go_wp2_with fail
      go_meet
      exact ⟨_, rfl, rfl, HBF⟩
  case rest =>
    obtain ⟨wx, rfl, rfl, HBx⟩ := hcut
    by_cases hem : e.data.toList = []
    · have hce : (e.toList == []) = true := by rw [Lib.toList_data, hem]; rfl
      clear hem
      go_wp2
      go_ret
      exact ⟨rfl, HBx.out⟩
    have hce : (e.toList == []) = false := by rw [Lib.toList_data]; simpa using hem
    have HNE := hide hem
    have HM5 := hide (marksB_five (HEP.out hem).1)
    have hm5 : m.size = 5 := HM5.out
    clear hem
    go_wp2_with fail
    go_loopw [12] (fun i wr => ∃ (Y : World) (k : Nat), Y = wr ∧ k ≤ e.size ∧ i = .int .i64 (k : Int) ∧ Hid (Below w.heap.size w Y)) (fun i _ => e.size - (intOf i).toNat)
    case atStart => exact ⟨_, 0, rfl, Nat.zero_le _, rfl, HBx⟩
    case round =>
      obtain ⟨Y, k, rfl, hk, rfl, HY⟩ := hrel
      by_cases hlt : k < e.size
      · go_wp2_with fail
        go_loopw [13] (fun j wr => ∃ (Z : World) (l : Nat), Z = wr ∧ l ≤ 5 ∧ j = .int .i64 (l : Int) ∧ Hid (Below w.heap.size w Z)) (fun j _ => 5 - (intOf j).toNat)
        case atStart => exact ⟨_, 0, rfl, Nat.zero_le _, rfl, HY⟩
        case round =>
          obtain ⟨Z, l, rfl, hl5, rfl, HZ⟩ := hrel
          by_cases hl : l < 5
          · have hlI : (l : Int) < 5 := by omega
            have hlm : l < m.size := by omega
            by_cases hl3 : l = 3
            · have hb3 : ((l : Int) != 3) = false := by simp [hl3]
              clear hl3
              go_wp2_with fail
              go_quiet (fail)
              go_wp2
              go_roundw
              case rel => exact ⟨_, l + 1, rfl, by omega, by go_num, below_drewNE HZ.out nq⟩
              case measure => simp [intOf]; omega
            · have hb3 : ((l : Int) != 3) = true := by simp; omega
              have hcm := HEM.out HNE.out k l hlt hlm hl3
              clear hl3
              go_wp2_with fail
              go_quiet (fail)
              go_wp2
              go_roundw
              case rel => exact ⟨_, l + 1, rfl, by omega, by go_num, below_drewNE HZ.out nq⟩
              case measure => simp [intOf]; omega
          · have hlI : (5 : Int) ≤ (l : Int) := by omega
            go_wp2
            go_roundw
            case rel => exact ⟨_, k + 1, rfl, by omega, by go_num, HZ⟩
            case measure => simp [intOf]; omega
      · have hkI : (e.size : Int) ≤ (k : Int) := by omega
        have ht2 : (t.toList == t.toList) = true := by simp
        have HPV := hide (implPlainOf_any m e Y HM.out HES.out)
        rw [HEB.out HNE.out] at HPV
        go_wp2_with fail
        refine HPV.out.mono ?_
        rintro e' Z ⟨rfl, hbz⟩
        have HBz := hide (HY.out.trans (hbz.mono HY.out.size))
        clear hbz
        go_wp2
        go_ret
        exact ⟨rfl, HBz.out⟩
end Go.Proofs.Ytenadacfpdfbkaa
