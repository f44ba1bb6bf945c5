/- One that is kept, read at a place: of the program. -/
import Derived.Test.YtbhdbkffejlfmaaGreatDoorXGQStText
import Derived.Test.YtbhdbkffejlfmaaGreatDoorXGIRArea
namespace Go.Proofs.YtbhdbkffejlfmaaGreatDoor
open Go.RowKit
theorem storeRefusal_true (c : Int) (w : World) : Calls Tryz.prog 67 #[.bool true, .int .i64 c] w fun e w' => e = .returned (.iface 118 (.agg #[.int .i64 c])) ∧ w' = w := by
  go_enter Tryz.func67, Tryz.ntmps67
  go_wp2
  go_ret
  exact ⟨rfl, rfl⟩
theorem storeRefusal_false (c : Int) (w : World) : Calls Tryz.prog 67 #[.bool false, .int .i64 c] w fun e w' => e = .returned .nilIface ∧ w' = w := by
  go_enter Tryz.func67, Tryz.ntmps67
  go_wp2
  go_ret
  exact ⟨rfl, rfl⟩
/-- The call ended with both sides and the place behind them, or with a fault. -/
def KpIs (T : ByteArray) (A : Nat) (e : Ending) : Prop :=
  (((St4.textO T A).2.2 ≠ 0 ∨ (St4.textO T (St4.textO T A).2.1.toNat).2.2 ≠ 0 ∨ idB (St4.textO T A).1 = false) ∧ ∃ a b at_, e = .returned (.tuple #[.agg #[.string a, .string b], .int .i64 at_, .iface 118 (.agg #[.int .i64 1])])) ∨
  ((St4.textO T A).2.2 = 0 ∧ (St4.textO T (St4.textO T A).2.1.toNat).2.2 = 0 ∧ idB (St4.textO T A).1 = true ∧
    e = .returned (.tuple #[.agg #[.string (St4.textO T A).1, .string (St4.textO T (St4.textO T A).2.1.toNat).1], .int .i64 (((St4.textO T (St4.textO T A).2.1.toNat).2.1.toNat : Nat) : Int), .nilIface]))

set_option maxHeartbeats 16000000 in
set_option maxRecDepth 100000 in
theorem readKept_any (T : ByteArray) (A : Nat) (w : World) (hs : T.size ≤ 8000) (ha : A ≤ 8000) (hg : St3.Laid w) :
    Calls Tryz.prog 109 #[.string T, .int .i64 (A : Int)] w fun e w' => KpIs T A e ∧ Below w.heap.size w w' := by
  have HG := hide hg
  obtain ⟨W, hW⟩ : ∃ W, W = (w.alloc (.cells #[.string ⟨#[]⟩, .string ⟨#[]⟩] 149)).alloc (.cells #[.string ⟨#[]⟩, .string ⟨#[]⟩] 149) := ⟨_, rfl⟩
  have HB0 := hide (show Below w.heap.size w W by rw [hW]; exact ((Below.refl _ _).alloc (Nat.le_refl _) _).alloc (by simp) _)
  have HWS := hide (show W.heap.size = w.heap.size + 2 by rw [hW]; simp)
  have HR4 := hide (show Row W w.heap.size 149 [.string ⟨#[]⟩, .string ⟨#[]⟩] by rw [hW]; exact (row_new w _ _).alloc _)
  have HR7 := hide (show Row W (w.heap.size + 1) 149 [.string ⟨#[]⟩, .string ⟨#[]⟩] by
    rw [hW]
    have := row_new (w.alloc (.cells #[.string ⟨#[]⟩, .string ⟨#[]⟩] 149)) [.string ⟨#[]⟩, .string ⟨#[]⟩] 149
    simpa using this)
  obtain ⟨o1, ho1⟩ : ∃ o1, o1 = St4.textO T A := ⟨_, rfl⟩
  obtain ⟨o2, ho2⟩ : ∃ o2, o2 = St4.textO T o1.2.1.toNat := ⟨_, rfl⟩
  have HKP := hide (show ∀ e, KpIs T A e ↔ ((o1.2.2 ≠ 0 ∨ o2.2.2 ≠ 0 ∨ idB o1.1 = false) ∧ ∃ a b at_, e = .returned (.tuple #[.agg #[.string a, .string b], .int .i64 at_, .iface 118 (.agg #[.int .i64 1])])) ∨
    (o1.2.2 = 0 ∧ o2.2.2 = 0 ∧ idB o1.1 = true ∧ e = .returned (.tuple #[.agg #[.string o1.1, .string o2.1], .int .i64 ((o2.2.1.toNat : Nat) : Int), .nilIface])) from fun e => by rw [ho2, ho1]; exact Iff.rfl)
  have hto1 := St4.textO_at T A
  rw [← ho1] at hto1
  have HC1 := hide (St4.implGetText_any T A)
  rw [← ho1] at HC1
  have HC2 := hide (St4.implGetText_any T o1.2.1.toNat)
  rw [← ho2] at HC2
  have hto2 := St4.textO_at T o1.2.1.toNat
  rw [← ho2] at hto2
  clear ho1 ho2 hg
  obtain ⟨t1, A1, C1⟩ := o1
  obtain ⟨t2, A2, C2⟩ := o2
  simp only at HKP hto1 hto2 HC1 HC2
  have HH1 := hide hto1
  have HH2 := hide hto2
  clear hto1 hto2
  go_enter Tryz.func109, Tryz.ntmps109
  go_wp2_with fail
  rw [← hW]
  clear hW
  refine wp_loop_rounds 3 ?_
  rw [rounds_succ]
  go_wp2_with fail
  refine (HC1.out _ hs (by omega) (Stab.go HB0.out HG.out)).mono ?_
  rintro e w1 ⟨rfl, hb1⟩
  obtain ⟨X, hX⟩ : ∃ X, X = w1.alloc (.cells #[.string t1, .int .i64 A1, .int .i64 C1] 113) := ⟨_, rfl⟩
  have bn := hb1.trans ((below_new w1 (.cells #[.string t1, .int .i64 A1, .int .i64 C1] 113)).mono hb1.size)
  have HBX := hide (show Below w.heap.size w X by rw [hX]; exact HB0.out.trans (bn.mono HB0.out.size))
  have HR4 := hide (show Row X w.heap.size 149 [.string ⟨#[]⟩, .string ⟨#[]⟩] by rw [hX]; exact HR4.out.below bn HR4.out.lt)
  have HR7 := hide (show Row X (w.heap.size + 1) 149 [.string ⟨#[]⟩, .string ⟨#[]⟩] by rw [hX]; exact HR7.out.below bn HR7.out.lt)
  have HT1 := hide (show Row X w1.heap.size 113 [.string t1, .int .i64 A1, .int .i64 C1] by rw [hX]; exact row_new w1 _ _)
  have HX1 := hide (show w.heap.size + 1 < w1.heap.size by have := hb1.size; have := HWS.out; omega)
  have c70 : (w1.alloc (.cells #[.string t1, .int .i64 A1, .int .i64 C1] 113)).cell? ⟨w.heap.size + 1, 0, none⟩ = some (.string ⟨#[]⟩) := by rw [← hX]; exact HR7.out.cell 0
  have c71 : (w1.alloc (.cells #[.string t1, .int .i64 A1, .int .i64 C1] 113)).cell? ⟨w.heap.size + 1, 1, none⟩ = some (.string ⟨#[]⟩) := by rw [← hX]; exact HR7.out.cell 1
  have f70 : (w1.alloc (.cells #[.string t1, .int .i64 A1, .int .i64 C1] 113)).frozen? ⟨w.heap.size + 1, 0, none⟩ = false := by rw [← hX]; exact HR7.out.free 0
  clear hb1 bn
  by_cases hC1 : C1 = 0
  rotate_left
  · have hcb : (C1 != 0) = true := by simpa using hC1
    have HE := hide (fun e => (HKP.out e).2 ∘ Or.inl)
    have HC := hide hC1
    clear hC1
    have d0 : (w1.alloc (.cells #[.string t1, .int .i64 A1, .int .i64 C1] 113)).cell? ⟨w.heap.size, 0, none⟩ = some (.string ⟨#[]⟩) := by rw [← hX]; exact HR4.out.cell 0
    have d1 : (w1.alloc (.cells #[.string t1, .int .i64 A1, .int .i64 C1] 113)).cell? ⟨w.heap.size, 1, none⟩ = some (.string ⟨#[]⟩) := by rw [← hX]; exact HR4.out.cell 1
    have f0 : (w1.alloc (.cells #[.string t1, .int .i64 A1, .int .i64 C1] 113)).frozen? ⟨w.heap.size, 0, none⟩ = false := by rw [← hX]; exact HR4.out.free 0
    have f1 : (w1.alloc (.cells #[.string t1, .int .i64 A1, .int .i64 C1] 113)).frozen? ⟨w.heap.size, 1, none⟩ = false := by rw [← hX]; exact HR4.out.free 1
    go_wp2
    rw [← hX]
    obtain ⟨z0, z1, KF⟩ := two HR4.out (.string ⟨#[]⟩) (.string ⟨#[]⟩)
    exact bodyPost_ret (v := .tuple #[.agg #[.string ⟨#[]⟩, .string ⟨#[]⟩], .int .i64 0, .iface 118 (.agg #[.int .i64 1])]) (by simp [results, Tryz.results109, go_sem, z0, z1]) rfl
      ⟨HE.out _ ⟨.inl HC.out, _, _, _, rfl⟩, KF.toBelow HBX.out HBX.out.size (by simp)⟩
  subst hC1
  obtain ⟨a10, a11, ht1s⟩ := HH1.out rfl
  have HTS := hide ht1s
  clear ht1s
  obtain ⟨B1, rfl⟩ := Int.eq_ofNat_of_zero_le a10
  have HC2 := hide (show ∀ (w : World), T.size ≤ 8000 → (B1 : Int) ≤ 9223372036854775807 → St3.Laid w → Calls Tryz.prog 138 #[.string T, .int .i64 (B1 : Int)] w fun e w' => e = .returned (.agg #[.string t2, .int .i64 A2, .int .i64 C2]) ∧ Below w.heap.size w w' from by
    have := HC2.out
    simpa using this)
  obtain ⟨Y, hY⟩ : ∃ Y, Y = X.setCell ⟨w.heap.size + 1, 0, none⟩ (.string t1) := ⟨_, rfl⟩
  have KY : Kept [w.heap.size + 1] X Y := by rw [hY]; exact (Kept.refl _ _).set (by simp) _
  have HBY := hide (KY.toBelow HBX.out HBX.out.size (by simp))
  have HR4 := hide (KY.row HR4.out (by simp))
  have HR7 := hide (show Row Y (w.heap.size + 1) 149 [.string t1, .string ⟨#[]⟩] by rw [hY]; exact HR7.out.set (j := 0) (.string t1))
  have HT1 := hide (KY.row HT1.out (by have := HX1.out; simp; omega))
  clear KY
  go_wp2_with fail
  rw [← hX, ← hY]
  have e1 : Y.cell? ⟨w1.heap.size, 1, none⟩ = some (.int .i64 (B1 : Int)) := HT1.out.cell 1
  clear c70 c71 f70 hX hY
  go_wp2_with fail
  rw [rounds_succ]
  go_wp2_with fail
  refine (HC2.out _ hs (by omega) (Stab.go HBY.out HG.out)).mono ?_
  rintro e w2 ⟨rfl, hb2⟩
  obtain ⟨V, hV⟩ : ∃ V, V = w2.alloc (.cells #[.string t2, .int .i64 A2, .int .i64 C2] 113) := ⟨_, rfl⟩
  have bn := hb2.trans ((below_new w2 (.cells #[.string t2, .int .i64 A2, .int .i64 C2] 113)).mono hb2.size)
  have HBV0 := hide (show Below w.heap.size w V by rw [hV]; exact HBY.out.trans (bn.mono HBY.out.size))
  have HR4 := hide (show Row V w.heap.size 149 [.string ⟨#[]⟩, .string ⟨#[]⟩] by rw [hV]; exact HR4.out.below bn HR4.out.lt)
  have HR7 := hide (show Row V (w.heap.size + 1) 149 [.string t1, .string ⟨#[]⟩] by rw [hV]; exact HR7.out.below bn HR7.out.lt)
  have HT2 := hide (show Row V w2.heap.size 113 [.string t2, .int .i64 A2, .int .i64 C2] by rw [hV]; exact row_new w2 _ _)
  have HX2 := hide (show w.heap.size + 1 < w2.heap.size from Nat.lt_of_lt_of_le HX1.out (Nat.le_of_lt (Nat.lt_of_lt_of_le HT1.out.lt hb2.size)))
  have c70 : (w2.alloc (.cells #[.string t2, .int .i64 A2, .int .i64 C2] 113)).cell? ⟨w.heap.size + 1, 0, none⟩ = some (.string t1) := by rw [← hV]; exact HR7.out.cell 0
  have c71 : (w2.alloc (.cells #[.string t2, .int .i64 A2, .int .i64 C2] 113)).cell? ⟨w.heap.size + 1, 1, none⟩ = some (.string ⟨#[]⟩) := by rw [← hV]; exact HR7.out.cell 1
  have f71 : (w2.alloc (.cells #[.string t2, .int .i64 A2, .int .i64 C2] 113)).frozen? ⟨w.heap.size + 1, 1, none⟩ = false := by rw [← hV]; exact HR7.out.free 1
  clear hb2 bn e1
  by_cases hC2 : C2 = 0
  rotate_left
  · have hcb : (C2 != 0) = true := by simpa using hC2
    have HE := hide (fun e => (HKP.out e).2 ∘ Or.inl)
    have HC := hide hC2
    clear hC2
    have d0 : (w2.alloc (.cells #[.string t2, .int .i64 A2, .int .i64 C2] 113)).cell? ⟨w.heap.size, 0, none⟩ = some (.string ⟨#[]⟩) := by rw [← hV]; exact HR4.out.cell 0
    have d1 : (w2.alloc (.cells #[.string t2, .int .i64 A2, .int .i64 C2] 113)).cell? ⟨w.heap.size, 1, none⟩ = some (.string ⟨#[]⟩) := by rw [← hV]; exact HR4.out.cell 1
    have f0 : (w2.alloc (.cells #[.string t2, .int .i64 A2, .int .i64 C2] 113)).frozen? ⟨w.heap.size, 0, none⟩ = false := by rw [← hV]; exact HR4.out.free 0
    have f1 : (w2.alloc (.cells #[.string t2, .int .i64 A2, .int .i64 C2] 113)).frozen? ⟨w.heap.size, 1, none⟩ = false := by rw [← hV]; exact HR4.out.free 1
    go_wp2
    rw [← hV]
    obtain ⟨z0, z1, KF⟩ := two HR4.out (.string t1) (.string ⟨#[]⟩)
    exact bodyPost_ret (v := .tuple #[.agg #[.string t1, .string ⟨#[]⟩], .int .i64 0, .iface 118 (.agg #[.int .i64 1])]) (by simp [results, Tryz.results109, go_sem, z0, z1]) rfl
      ⟨HE.out _ ⟨.inr (.inl HC.out), _, _, _, rfl⟩, KF.toBelow HBV0.out HBV0.out.size (by simp)⟩
  subst hC2
  obtain ⟨a20, a21, ht2⟩ := HH2.out rfl
  obtain ⟨A2, rfl⟩ := Int.eq_ofNat_of_zero_le a20
  obtain ⟨V2, hV2⟩ : ∃ V2, V2 = V.setCell ⟨w.heap.size + 1, 1, none⟩ (.string t2) := ⟨_, rfl⟩
  have KY : Kept [w.heap.size + 1] V V2 := by rw [hV2]; exact (Kept.refl _ _).set (by simp) _
  have HBV := hide (KY.toBelow HBV0.out HBV0.out.size (by simp))
  have HR4 := hide (KY.row HR4.out (by simp))
  have HR7 := hide (show Row V2 (w.heap.size + 1) 149 [.string t1, .string t2] by rw [hV2]; exact HR7.out.set (j := 1) (.string t2))
  have HT2 := hide (KY.row HT2.out (by have := HX2.out; simp; omega))
  clear KY
  have htm : t1.size ≤ maxLen := by
    have := HTS.out
    unfold maxLen; omega
  have HE1 := hide (fun e => (HKP.out e).2 ∘ Or.inl)
  have HE2 := hide (fun e => (HKP.out e).2 ∘ Or.inr)
  have e1 : ((w2.alloc (.cells #[.string t2, .int .i64 (A2 : Int), .int .i64 0] 113)).setCell ⟨w.heap.size + 1, 1, none⟩ (.string t2)).cell? ⟨w2.heap.size, 1, none⟩ = some (.int .i64 (A2 : Int)) := by rw [← hV, ← hV2]; exact HT2.out.cell 1
  go_wp2_with fail
  rw [← hV, ← hV2]
  clear c70 c71 f71 hV hV2 e1
  rw [rounds_succ]
  go_upto_region 11 with fail
  obtain ⟨V, hVV⟩ : ∃ V, V = V2 := ⟨_, rfl⟩
  rw [← hVV] at HBV HR4 HR7 ⊢
  clear hVV
  cases hid : idB t1
  · have HNR := hide (fun X : World => implNameRight_any t1 X htm)
    rw [hid] at HNR
    have HIDF := hide hid
    clear hid
    refine wp_region_held (S := fun y : World => y.cell? ⟨w.heap.size + 1, 0, none⟩ = some (.string t1) ∧ y.cell? ⟨w.heap.size + 1, 1, none⟩ = some (.string t2)) (by kernel_rfl) ?_
    have HS := hide (show ({ V with drawn := V.drawn + 1 } : World).cell? ⟨w.heap.size + 1, 0, none⟩ = some (.string t1) ∧ ({ V with drawn := V.drawn + 1 } : World).cell? ⟨w.heap.size + 1, 1, none⟩ = some (.string t2) from ⟨HR7.out.cell 0, HR7.out.cell 1⟩)
    have HR70 := hide (show Row ({ V with drawn := V.drawn + 1 } : World) (w.heap.size + 1) 149 [.string t1, .string t2] from HR7.out)
    have HR40 := hide (show Row ({ V with drawn := V.drawn + 1 } : World) w.heap.size 149 [.string ⟨#[]⟩, .string ⟨#[]⟩] from HR4.out)
    have HBV0 := hide (show Below w.heap.size w { V with drawn := V.drawn + 1 } from HBV.out.drew)
    generalize ({ V with drawn := V.drawn + 1 } : World) = Z1 at HS HR40 HR70 HBV0 ⊢
    refine wpAnyH_take (i := 0) (oi := _) (v := .agg #[.string t1, .string t2]) rfl (by kernel_rfl) (by kernel_rfl) (by kernel_rfl) (fun _ _ _ h => h) (Or.inl ⟨by rfl, by intro w hSw; go_split_ands; go_simp⟩) HS.out ?_
    simp only [Act.put, List.getElem_toArray, List.getElem_cons_zero, List.setIfInBounds_toArray, List.set_cons_zero, List.set_cons_succ]
    refine wpAnyH_take (i := 1) (oi := _) (v := .int .i64 (A2 : Int)) rfl (by kernel_rfl) (by kernel_rfl) (by kernel_rfl) (fun _ _ _ h => h) (Or.inl ⟨by rfl, by intro w hSw; go_split_ands; go_simp⟩) HS.out ?_
    simp only [Act.put, List.getElem_toArray, List.getElem_cons_zero, List.getElem_cons_succ, List.setIfInBounds_toArray, List.set_cons_zero, List.set_cons_succ]
    refine wpAnyH_take (i := 2) (oi := _) (v := .pointer (some ⟨w.heap.size + 1, 0, none⟩)) rfl (by kernel_rfl) (by kernel_rfl) (by kernel_rfl) (fun _ _ _ h => h) (Or.inl ⟨by rfl, by intro w hSw; go_split_ands; go_simp⟩) HS.out ?_
    simp only [Act.put, List.getElem_toArray, List.getElem_cons_zero, List.getElem_cons_succ, List.setIfInBounds_toArray, List.set_cons_zero, List.set_cons_succ]
    refine wpAnyH_take (i := 3) (oi := _) (v := .string t1) rfl (by kernel_rfl) (by kernel_rfl) (by kernel_rfl) (fun _ _ _ h => h) (Or.inl ⟨by rfl, by intro w hSw; go_split_ands; go_simp⟩) HS.out ?_
    simp only [Act.put, List.getElem_toArray, List.getElem_cons_zero, List.getElem_cons_succ, List.setIfInBounds_toArray, List.set_cons_zero, List.set_cons_succ]
    refine wpAnyH_ready (rs := [4]) (by kernel_rfl) (by simp) ?_
    refine AllReadyH.cons (o := _) rfl (fun K hK => ?_) AllReadyH.nil
    go_simp
    refine (HNR.out _).mono ?_
    rintro e V3 ⟨rfl, hVV⟩
    obtain rfl := hVV.symm
    refine hK.out _ _ HS.out (fun _ => ?_)
    clear hK K
    try simp only [Act.put, List.getElem_toArray, List.getElem_cons_zero, List.getElem_cons_succ, List.setIfInBounds_toArray, List.set_cons_zero, List.set_cons_succ]
    refine wpAnyH_take (i := 5) (oi := _) (v := .bool true) rfl (by kernel_rfl) (by kernel_rfl) (by kernel_rfl) (fun _ _ _ h => h) (Or.inl ⟨by rfl, by intro w hSw; go_split_ands; go_simp⟩) HS.out ?_
    simp only [Act.put, List.getElem_toArray, List.getElem_cons_zero, List.getElem_cons_succ, List.setIfInBounds_toArray, List.set_cons_zero, List.set_cons_succ]
    refine wpAnyH_ready (rs := [6]) (by kernel_rfl) (by simp) ?_
    refine AllReadyH.cons (o := _) rfl (fun K hK => ?_) AllReadyH.nil
    go_simp
    refine (storeRefusal_true 1 _).mono ?_
    rintro e V3 ⟨rfl, hVV⟩
    obtain rfl := hVV.symm
    refine hK.out _ _ HS.out (fun _ => ?_)
    clear hK K
    try simp only [Act.put, List.getElem_toArray, List.getElem_cons_zero, List.getElem_cons_succ, List.setIfInBounds_toArray, List.set_cons_zero, List.set_cons_succ]
    refine wpAnyH_ready (rs := [7]) (by kernel_rfl) (by simp) ?_
    refine AllReadyH.cons (o := _) rfl (fun K hK => ?_) AllReadyH.nil
    have d0 : Z1.cell? ⟨w.heap.size, 0, none⟩ = some (.string ⟨#[]⟩) := HR40.out.cell 0
    have d1 : Z1.cell? ⟨w.heap.size, 1, none⟩ = some (.string ⟨#[]⟩) := HR40.out.cell 1
    have f0 := HR40.out.free 0
    have f1 := HR40.out.free 1
    obtain ⟨z0, z1, KF⟩ := two HR40.out (.string t1) (.string t2)
    have HSF := hide (show ((Z1.setCell ⟨w.heap.size, 0, none⟩ (.string t1)).setCell ⟨w.heap.size, 1, none⟩ (.string t2)).cell? ⟨w.heap.size + 1, 0, none⟩ = some (.string t1) ∧ ((Z1.setCell ⟨w.heap.size, 0, none⟩ (.string t1)).setCell ⟨w.heap.size, 1, none⟩ (.string t2)).cell? ⟨w.heap.size + 1, 1, none⟩ = some (.string t2) from
      ⟨(KF.row HR70.out (by simp)).cell 0, (KF.row HR70.out (by simp)).cell 1⟩)
    have HZ := hide (And.intro z0 z1)
    have HKF := hide (KF.toBelow HBV0.out HBV0.out.size (by simp))
    clear z0 z1 KF
    go_simp
    refine hK.out _ _ HSF.out (fun _ => ?_)
    clear hK K d0 d1 f0 f1 HS
    have HS := HSF
    try simp only [Act.put, List.getElem_toArray, List.getElem_cons_zero, List.getElem_cons_succ, List.setIfInBounds_toArray, List.set_cons_zero, List.set_cons_succ]
    refine wpAnyH_take (i := 8) (oi := _) (v := .int .i64 (A2 : Int)) rfl (by kernel_rfl) (by kernel_rfl) (by kernel_rfl) (fun _ _ _ h => h) (Or.inl ⟨by rfl, by intro w hSw; go_split_ands; go_simp⟩) HS.out ?_
    simp only [Act.put, List.getElem_toArray, List.getElem_cons_zero, List.getElem_cons_succ, List.setIfInBounds_toArray, List.set_cons_zero, List.set_cons_succ]
    refine wpAnyH_take (i := 9) (oi := _) (v := .iface 118 (.agg #[.int .i64 1])) rfl (by kernel_rfl) (by kernel_rfl) (by kernel_rfl) (fun _ _ _ h => h) (Or.inl ⟨by rfl, by intro w hSw; go_split_ands; go_simp⟩) HS.out ?_
    simp only [Act.put, List.getElem_toArray, List.getElem_cons_zero, List.getElem_cons_succ, List.setIfInBounds_toArray, List.set_cons_zero, List.set_cons_succ]
    refine wpAnyH_done (by kernel_rfl) ?_ _
    go_wp2
    exact bodyPost_ret (v := .tuple #[.agg #[.string t1, .string t2], .int .i64 (A2 : Int), .iface 118 (.agg #[.int .i64 1])]) (by simp [results, Tryz.results109, go_sem, HZ.out.1, HZ.out.2]) rfl
      ⟨HE1.out _ ⟨.inr (.inr HIDF.out), _, _, _, rfl⟩, HKF.out⟩
  · have HNR := hide (fun X : World => implNameRight_any t1 X htm)
    rw [hid] at HNR
    have HIDF := hide hid
    clear hid
    refine wp_region_held (S := fun y : World => y.cell? ⟨w.heap.size + 1, 0, none⟩ = some (.string t1) ∧ y.cell? ⟨w.heap.size + 1, 1, none⟩ = some (.string t2)) (by kernel_rfl) ?_
    have HS := hide (show ({ V with drawn := V.drawn + 1 } : World).cell? ⟨w.heap.size + 1, 0, none⟩ = some (.string t1) ∧ ({ V with drawn := V.drawn + 1 } : World).cell? ⟨w.heap.size + 1, 1, none⟩ = some (.string t2) from ⟨HR7.out.cell 0, HR7.out.cell 1⟩)
    have HR70 := hide (show Row ({ V with drawn := V.drawn + 1 } : World) (w.heap.size + 1) 149 [.string t1, .string t2] from HR7.out)
    have HR40 := hide (show Row ({ V with drawn := V.drawn + 1 } : World) w.heap.size 149 [.string ⟨#[]⟩, .string ⟨#[]⟩] from HR4.out)
    have HBV0 := hide (show Below w.heap.size w { V with drawn := V.drawn + 1 } from HBV.out.drew)
    generalize ({ V with drawn := V.drawn + 1 } : World) = Z1 at HS HR40 HR70 HBV0 ⊢
    refine wpAnyH_take (i := 0) (oi := _) (v := .agg #[.string t1, .string t2]) rfl (by kernel_rfl) (by kernel_rfl) (by kernel_rfl) (fun _ _ _ h => h) (Or.inl ⟨by rfl, by intro w hSw; go_split_ands; go_simp⟩) HS.out ?_
    simp only [Act.put, List.getElem_toArray, List.getElem_cons_zero, List.setIfInBounds_toArray, List.set_cons_zero, List.set_cons_succ]
    refine wpAnyH_take (i := 1) (oi := _) (v := .int .i64 (A2 : Int)) rfl (by kernel_rfl) (by kernel_rfl) (by kernel_rfl) (fun _ _ _ h => h) (Or.inl ⟨by rfl, by intro w hSw; go_split_ands; go_simp⟩) HS.out ?_
    simp only [Act.put, List.getElem_toArray, List.getElem_cons_zero, List.getElem_cons_succ, List.setIfInBounds_toArray, List.set_cons_zero, List.set_cons_succ]
    refine wpAnyH_take (i := 2) (oi := _) (v := .pointer (some ⟨w.heap.size + 1, 0, none⟩)) rfl (by kernel_rfl) (by kernel_rfl) (by kernel_rfl) (fun _ _ _ h => h) (Or.inl ⟨by rfl, by intro w hSw; go_split_ands; go_simp⟩) HS.out ?_
    simp only [Act.put, List.getElem_toArray, List.getElem_cons_zero, List.getElem_cons_succ, List.setIfInBounds_toArray, List.set_cons_zero, List.set_cons_succ]
    refine wpAnyH_take (i := 3) (oi := _) (v := .string t1) rfl (by kernel_rfl) (by kernel_rfl) (by kernel_rfl) (fun _ _ _ h => h) (Or.inl ⟨by rfl, by intro w hSw; go_split_ands; go_simp⟩) HS.out ?_
    simp only [Act.put, List.getElem_toArray, List.getElem_cons_zero, List.getElem_cons_succ, List.setIfInBounds_toArray, List.set_cons_zero, List.set_cons_succ]
    refine wpAnyH_ready (rs := [4]) (by kernel_rfl) (by simp) ?_
    refine AllReadyH.cons (o := _) rfl (fun K hK => ?_) AllReadyH.nil
    go_simp
    refine (HNR.out _).mono ?_
    rintro e V3 ⟨rfl, hVV⟩
    obtain rfl := hVV.symm
    refine hK.out _ _ HS.out (fun _ => ?_)
    clear hK K
    try simp only [Act.put, List.getElem_toArray, List.getElem_cons_zero, List.getElem_cons_succ, List.setIfInBounds_toArray, List.set_cons_zero, List.set_cons_succ]
    refine wpAnyH_take (i := 5) (oi := _) (v := .bool false) rfl (by kernel_rfl) (by kernel_rfl) (by kernel_rfl) (fun _ _ _ h => h) (Or.inl ⟨by rfl, by intro w hSw; go_split_ands; go_simp⟩) HS.out ?_
    simp only [Act.put, List.getElem_toArray, List.getElem_cons_zero, List.getElem_cons_succ, List.setIfInBounds_toArray, List.set_cons_zero, List.set_cons_succ]
    refine wpAnyH_ready (rs := [6]) (by kernel_rfl) (by simp) ?_
    refine AllReadyH.cons (o := _) rfl (fun K hK => ?_) AllReadyH.nil
    go_simp
    refine (storeRefusal_false 1 _).mono ?_
    rintro e V3 ⟨rfl, hVV⟩
    obtain rfl := hVV.symm
    refine hK.out _ _ HS.out (fun _ => ?_)
    clear hK K
    try simp only [Act.put, List.getElem_toArray, List.getElem_cons_zero, List.getElem_cons_succ, List.setIfInBounds_toArray, List.set_cons_zero, List.set_cons_succ]
    refine wpAnyH_ready (rs := [7]) (by kernel_rfl) (by simp) ?_
    refine AllReadyH.cons (o := _) rfl (fun K hK => ?_) AllReadyH.nil
    have d0 : Z1.cell? ⟨w.heap.size, 0, none⟩ = some (.string ⟨#[]⟩) := HR40.out.cell 0
    have d1 : Z1.cell? ⟨w.heap.size, 1, none⟩ = some (.string ⟨#[]⟩) := HR40.out.cell 1
    have f0 := HR40.out.free 0
    have f1 := HR40.out.free 1
    obtain ⟨z0, z1, KF⟩ := two HR40.out (.string t1) (.string t2)
    have HSF := hide (show ((Z1.setCell ⟨w.heap.size, 0, none⟩ (.string t1)).setCell ⟨w.heap.size, 1, none⟩ (.string t2)).cell? ⟨w.heap.size + 1, 0, none⟩ = some (.string t1) ∧ ((Z1.setCell ⟨w.heap.size, 0, none⟩ (.string t1)).setCell ⟨w.heap.size, 1, none⟩ (.string t2)).cell? ⟨w.heap.size + 1, 1, none⟩ = some (.string t2) from
      ⟨(KF.row HR70.out (by simp)).cell 0, (KF.row HR70.out (by simp)).cell 1⟩)
    have HZ := hide (And.intro z0 z1)
    have HKF := hide (KF.toBelow HBV0.out HBV0.out.size (by simp))
    clear z0 z1 KF
    go_simp
    refine hK.out _ _ HSF.out (fun _ => ?_)
    clear hK K d0 d1 f0 f1 HS
    have HS := HSF
    try simp only [Act.put, List.getElem_toArray, List.getElem_cons_zero, List.getElem_cons_succ, List.setIfInBounds_toArray, List.set_cons_zero, List.set_cons_succ]
    refine wpAnyH_take (i := 8) (oi := _) (v := .int .i64 (A2 : Int)) rfl (by kernel_rfl) (by kernel_rfl) (by kernel_rfl) (fun _ _ _ h => h) (Or.inl ⟨by rfl, by intro w hSw; go_split_ands; go_simp⟩) HS.out ?_
    simp only [Act.put, List.getElem_toArray, List.getElem_cons_zero, List.getElem_cons_succ, List.setIfInBounds_toArray, List.set_cons_zero, List.set_cons_succ]
    refine wpAnyH_take (i := 9) (oi := _) (v := .nilIface) rfl (by kernel_rfl) (by kernel_rfl) (by kernel_rfl) (fun _ _ _ h => h) (Or.inl ⟨by rfl, by intro w hSw; go_split_ands; go_simp⟩) HS.out ?_
    simp only [Act.put, List.getElem_toArray, List.getElem_cons_zero, List.getElem_cons_succ, List.setIfInBounds_toArray, List.set_cons_zero, List.set_cons_succ]
    refine wpAnyH_done (by kernel_rfl) ?_ _
    go_wp2
    exact bodyPost_ret (v := .tuple #[.agg #[.string t1, .string t2], .int .i64 (A2 : Int), .nilIface]) (by simp [results, Tryz.results109, go_sem, HZ.out.1, HZ.out.2]) rfl
      ⟨HE2.out _ ⟨by first | rfl | trivial, by first | rfl | trivial, HIDF.out, by simp⟩, HKF.out⟩
end Go.Proofs.YtbhdbkffejlfmaaGreatDoor
