/- FieldSame of the model and of the program. -/
import Derived.Test.YtohdfckdfegklaaFTextF
import Derived.Test.YtohdfckdfegklaaFSameM
import Derived.OrdersHeld
import Derived.Deep.RegionHeld3
namespace Go.Proofs.Ytohdfckdfegklaa
open Go.RowKit
abbrev Fld3 := List (List (List ByteArray))
def usual : ByteArray := ⟨#[124, 94, 126, 92, 38]⟩
theorem usual_right : marksB usual = true := by decide +kernel
def sameB (a b : Fld3) : Bool := fldB a && fldB b && decide (fldT usual a = fldT usual b)
theorem sameB_a {a b : Fld3} (h : fldB a = false) : sameB a b = false := by simp [sameB, h]
theorem sameB_b {a b : Fld3} (h : fldB b = false) : sameB a b = false := by simp [sameB, h]
theorem sameB_eq {a b : Fld3} (h1 : fldB a = true) (h2 : fldB b = true) : sameB a b = decide (fldT usual a = fldT usual b) := by simp [sameB, h1, h2]
theorem arr_ne {x y : List UInt8} (h : ¬ x = y) : ((⟨x.toArray⟩ : ByteArray).toList == (⟨y.toArray⟩ : ByteArray).toList) = false := toList_neF (fun e => h (by have := congrArg (fun z : ByteArray => z.data.toList) e; simpa using this))

set_option maxHeartbeats 8000000 in
set_option maxRecDepth 100000 in
theorem l04Same_any (u v : Value) (a b : Fld3) (w : World) (ha : fldB a = true) (hb : fldB b = true) (hra : RFld 0 w u a) (hrb : RFld 0 w v b) :
    Calls Try.prog 35 #[.agg #[u], .agg #[v]] w fun e w' => e = .returned (.bool (decide (fldT usual a = fldT usual b))) ∧ Below w.heap.size w w' := by
  obtain ⟨p, c, rfl⟩ := hra.isSlice
  obtain ⟨q, d, rfl⟩ := hrb.isSlice
  have HR0 := hide (hra.below ((((Below.refl w.heap.size w).alloc (Nat.le_refl _) (.cells #[.slice p a.length c] 29)).alloc (by simp) (.cells #[.slice q b.length d] 29))))
  have HQ0 := hide (hrb.below ((((Below.refl w.heap.size w).alloc (Nat.le_refl _) (.cells #[.slice p a.length c] 29)).alloc (by simp) (.cells #[.slice q b.length d] 29))))
  obtain ⟨W, hW⟩ : ∃ W, W = (w.alloc (.cells #[.slice p a.length c] 29)).alloc (.cells #[.slice q b.length d] 29) := ⟨_, rfl⟩
  rw [← hW] at HR0 HQ0
  have HBW := hide (show Below w.heap.size w W by rw [hW]; exact ((Below.refl w.heap.size w).alloc (Nat.le_refl _) _).alloc (by simp) _)
  have HRa := hide (show Row W w.heap.size 29 [.slice p a.length c] by rw [hW]; exact (row_new w [.slice p a.length c] 29).alloc _)
  have HRb := hide (show Row W (w.heap.size + 1) 29 [.slice q b.length d] by rw [hW]; have := row_new (w.alloc (.cells #[.slice p a.length c] 29)) [.slice q b.length d] 29; simpa using this)
  have HSS := hide (show ∀ z, Below W.heap.size W z → (fun z : World => z.cell? ⟨w.heap.size, 0, none⟩ = some (.slice p a.length c) ∧ z.cell? ⟨w.heap.size + 1, 0, none⟩ = some (.slice q b.length d)) z from fun z h => ⟨(HRa.out.below h HRa.out.lt).cell 0, (HRb.out.below h HRb.out.lt).cell 0⟩)
  clear hra hrb
  by_cases hl : a.length = b.length
  · have hli : ((a.length : Int) == (b.length : Int)) = true := by rw [hl]; simp
    have HL := hide hl
    clear hl
    go_enter Try.func35, Try.ntmps35
    go_wp2_with fail
    rw [← hW]
    clear hW
    refine wp_region_held (S := fun z : World => z.cell? ⟨w.heap.size, 0, none⟩ = some (.slice p a.length c) ∧ z.cell? ⟨w.heap.size + 1, 0, none⟩ = some (.slice q b.length d)) (by kernel_rfl) ?_
    have HS := hide (show (fun z : World => z.cell? ⟨w.heap.size, 0, none⟩ = some (.slice p a.length c) ∧ z.cell? ⟨w.heap.size + 1, 0, none⟩ = some (.slice q b.length d)) { W with drawn := W.drawn + 1 } from HSS.out _ (Below.refl _ _).drew)
    refine wpAnyH_take (i := 0) (oi := _) (v := .pointer (some ⟨w.heap.size, 0, none⟩)) rfl (by kernel_rfl) (by kernel_rfl) (by kernel_rfl) (fun _ _ _ h => h) (Or.inl ⟨by rfl, by intro w hSw; go_split_ands; go_simp⟩) HS.out ?_
    simp only [Act.put, List.getElem_toArray, List.getElem_cons_zero, List.setIfInBounds_toArray, List.set_cons_zero, List.set_cons_succ]
    refine wpAnyH_take (i := 1) (oi := _) (v := .slice p a.length c) rfl (by kernel_rfl) (by kernel_rfl) (by kernel_rfl) (fun _ _ _ h => h) (Or.inl ⟨by rfl, by intro w hSw; go_split_ands; go_simp⟩) HS.out ?_
    simp only [Act.put, List.getElem_toArray, List.getElem_cons_zero, List.getElem_cons_succ, List.setIfInBounds_toArray, List.set_cons_zero, List.set_cons_succ]
    refine wpAnyH_take (i := 2) (oi := _) (v := .int .i64 (a.length : Int)) rfl (by kernel_rfl) (by kernel_rfl) (by kernel_rfl) (fun _ _ _ h => h) (Or.inl ⟨by rfl, by intro w hSw; go_split_ands; go_simp⟩) HS.out ?_
    simp only [Act.put, List.getElem_toArray, List.getElem_cons_zero, List.getElem_cons_succ, List.setIfInBounds_toArray, List.set_cons_zero, List.set_cons_succ]
    refine wpAnyH_take (i := 3) (oi := _) (v := .pointer (some ⟨w.heap.size + 1, 0, none⟩)) rfl (by kernel_rfl) (by kernel_rfl) (by kernel_rfl) (fun _ _ _ h => h) (Or.inl ⟨by rfl, by intro w hSw; go_split_ands; go_simp⟩) HS.out ?_
    simp only [Act.put, List.getElem_toArray, List.getElem_cons_zero, List.getElem_cons_succ, List.setIfInBounds_toArray, List.set_cons_zero, List.set_cons_succ]
    refine wpAnyH_take (i := 4) (oi := _) (v := .slice q b.length d) rfl (by kernel_rfl) (by kernel_rfl) (by kernel_rfl) (fun _ _ _ h => h) (Or.inl ⟨by rfl, by intro w hSw; go_split_ands; go_simp⟩) HS.out ?_
    simp only [Act.put, List.getElem_toArray, List.getElem_cons_zero, List.getElem_cons_succ, List.setIfInBounds_toArray, List.set_cons_zero, List.set_cons_succ]
    refine wpAnyH_take (i := 5) (oi := _) (v := .int .i64 (b.length : Int)) rfl (by kernel_rfl) (by kernel_rfl) (by kernel_rfl) (fun _ _ _ h => h) (Or.inl ⟨by rfl, by intro w hSw; go_split_ands; go_simp⟩) HS.out ?_
    simp only [Act.put, List.getElem_toArray, List.getElem_cons_zero, List.getElem_cons_succ, List.setIfInBounds_toArray, List.set_cons_zero, List.set_cons_succ]
    refine wpAnyH_take (i := 6) (oi := _) (v := .bool true) rfl (by kernel_rfl) (by kernel_rfl) (by kernel_rfl) (fun _ _ _ h => h) (Or.inl ⟨by rfl, by intro w hSw; go_split_ands; go_simp⟩) HS.out ?_
    simp only [Act.put, List.getElem_toArray, List.getElem_cons_zero, List.getElem_cons_succ, List.setIfInBounds_toArray, List.set_cons_zero, List.set_cons_succ]
    refine wpAnyH_take (i := 7) (oi := _) (v := .bool true) rfl (by kernel_rfl) (by kernel_rfl) (by kernel_rfl) (fun _ _ _ h => h) (Or.inl ⟨by rfl, by intro w hSw; go_split_ands; go_simp⟩) HS.out ?_
    simp only [Act.put, List.getElem_toArray, List.getElem_cons_zero, List.getElem_cons_succ, List.setIfInBounds_toArray, List.set_cons_zero, List.set_cons_succ]
    refine wpAnyH_take (i := 8) (oi := _) (v := .agg #[.slice p a.length c]) rfl (by kernel_rfl) (by kernel_rfl) (by kernel_rfl) (fun _ _ _ h => h) (Or.inl ⟨by rfl, by intro w hSw; go_split_ands; go_simp⟩) HS.out ?_
    simp only [Act.put, List.getElem_toArray, List.getElem_cons_zero, List.getElem_cons_succ, List.setIfInBounds_toArray, List.set_cons_zero, List.set_cons_succ]
    refine wpAnyH_take (i := 10) (oi := _) (v := .agg #[.slice q b.length d]) rfl (by kernel_rfl) (by kernel_rfl) (by kernel_rfl) (fun _ _ _ h => h) (Or.inl ⟨by rfl, by intro w hSw; go_split_ands; go_simp⟩) HS.out ?_
    simp only [Act.put, List.getElem_toArray, List.getElem_cons_zero, List.getElem_cons_succ, List.setIfInBounds_toArray, List.set_cons_zero, List.set_cons_succ]
    refine wpAnyH_ready (rs := [9]) (by kernel_rfl) (by simp) ?_
    refine AllReadyH.cons (o := _) rfl (fun K hK => ?_) AllReadyH.nil
    go_simp
    refine (l04Text_any usual _ a _ (marksB_five usual_right) ha (HR0.out.below ((Below.refl _ _).drew))).mono ?_
    rintro e w2 ⟨rfl, hb2⟩
    have HB2 := hide (below_drew hb2)
    clear hb2
    have HS2 := hide (show (fun z : World => z.cell? ⟨w.heap.size, 0, none⟩ = some (.slice p a.length c) ∧ z.cell? ⟨w.heap.size + 1, 0, none⟩ = some (.slice q b.length d)) w2 from HSS.out _ HB2.out)
    refine hK.out _ _ HS2.out (fun _ => ?_)
    clear hK K HS
    have HS := HS2
    clear HS2
    refine wpAnyH_ready (rs := [11]) (by kernel_rfl) (by simp) ?_
    refine AllReadyH.cons (o := _) rfl (fun K hK => ?_) AllReadyH.nil
    go_simp
    refine (l04Text_any usual _ b _ (marksB_five usual_right) hb (HQ0.out.below HB2.out)).mono ?_
    rintro e w3 ⟨rfl, hb3⟩
    have HB3 := hide (HB2.out.trans (hb3.mono HB2.out.size))
    clear hb3
    have HS3 := hide (show (fun z : World => z.cell? ⟨w.heap.size, 0, none⟩ = some (.slice p a.length c) ∧ z.cell? ⟨w.heap.size + 1, 0, none⟩ = some (.slice q b.length d)) w3 from HSS.out _ HB3.out)
    refine hK.out _ _ HS3.out (fun _ => ?_)
    clear hK K HS
    have HS := HS3
    clear HS3
    by_cases he : fldT usual a = fldT usual b
    · rw [he]
      have hd : ((⟨(fldT usual b).toArray⟩ : ByteArray).toList == (⟨(fldT usual b).toArray⟩ : ByteArray).toList) = true := by simp
      refine wpAnyH_take (i := 12) (oi := _) (v := .bool true) rfl (by kernel_rfl) (by kernel_rfl) (by kernel_rfl) (fun _ _ _ h => h) (Or.inl ⟨by rfl, by intro w hSw; go_split_ands; go_simp⟩) HS.out ?_
      simp only [Act.put, List.getElem_toArray, List.getElem_cons_zero, List.getElem_cons_succ, List.setIfInBounds_toArray, List.set_cons_zero, List.set_cons_succ]
      refine wpAnyH_take (i := 13) (oi := _) (v := .bool true) rfl (by kernel_rfl) (by kernel_rfl) (by kernel_rfl) (fun _ _ _ h => h) (Or.inl ⟨by rfl, by intro w hSw; go_split_ands; go_simp⟩) HS.out ?_
      simp only [Act.put, List.getElem_toArray, List.getElem_cons_zero, List.getElem_cons_succ, List.setIfInBounds_toArray, List.set_cons_zero, List.set_cons_succ]
      refine wpAnyH_take (i := 14) (oi := _) (v := .bool true) rfl (by kernel_rfl) (by kernel_rfl) (by kernel_rfl) (fun _ _ _ h => h) (Or.inl ⟨by rfl, by intro w hSw; go_split_ands; go_simp⟩) HS.out ?_
      simp only [Act.put, List.getElem_toArray, List.getElem_cons_zero, List.getElem_cons_succ, List.setIfInBounds_toArray, List.set_cons_zero, List.set_cons_succ]
      refine wpAnyH_done (by kernel_rfl) ?_ _
      clear HSS HS
      go_wp2
      go_ret
      exact ⟨ret_boolF (by simp [he]), HBW.out.trans ((HB3.out).mono HBW.out.size)⟩
    · have hd := arr_ne he
      refine wpAnyH_take (i := 12) (oi := _) (v := .bool false) rfl (by kernel_rfl) (by kernel_rfl) (by kernel_rfl) (fun _ _ _ h => h) (Or.inl ⟨by rfl, by intro w hSw; go_split_ands; go_simp⟩) HS.out ?_
      simp only [Act.put, List.getElem_toArray, List.getElem_cons_zero, List.getElem_cons_succ, List.setIfInBounds_toArray, List.set_cons_zero, List.set_cons_succ]
      refine wpAnyH_take (i := 13) (oi := _) (v := .bool false) rfl (by kernel_rfl) (by kernel_rfl) (by kernel_rfl) (fun _ _ _ h => h) (Or.inl ⟨by rfl, by intro w hSw; go_split_ands; go_simp⟩) HS.out ?_
      simp only [Act.put, List.getElem_toArray, List.getElem_cons_zero, List.getElem_cons_succ, List.setIfInBounds_toArray, List.set_cons_zero, List.set_cons_succ]
      refine wpAnyH_take (i := 14) (oi := _) (v := .bool false) rfl (by kernel_rfl) (by kernel_rfl) (by kernel_rfl) (fun _ _ _ h => h) (Or.inl ⟨by rfl, by intro w hSw; go_split_ands; go_simp⟩) HS.out ?_
      simp only [Act.put, List.getElem_toArray, List.getElem_cons_zero, List.getElem_cons_succ, List.setIfInBounds_toArray, List.set_cons_zero, List.set_cons_succ]
      refine wpAnyH_done (by kernel_rfl) ?_ _
      clear HSS HS
      go_wp2
      go_ret
      exact ⟨ret_boolF (by simp [he]), HBW.out.trans ((HB3.out).mono HBW.out.size)⟩
  · have hli : ((a.length : Int) == (b.length : Int)) = false := beq_eq_false_iff_ne.2 (by omega)
    have hne : ¬ fldT usual a = fldT usual b := fun e => hl (same_length usual_right ha hb e)
    have HNE := hide hne
    clear hl hne
    go_enter Try.func35, Try.ntmps35
    go_wp2_with fail
    rw [← hW]
    clear hW
    refine wp_region_held (S := fun z : World => z.cell? ⟨w.heap.size, 0, none⟩ = some (.slice p a.length c) ∧ z.cell? ⟨w.heap.size + 1, 0, none⟩ = some (.slice q b.length d)) (by kernel_rfl) ?_
    have HS := hide (show (fun z : World => z.cell? ⟨w.heap.size, 0, none⟩ = some (.slice p a.length c) ∧ z.cell? ⟨w.heap.size + 1, 0, none⟩ = some (.slice q b.length d)) { W with drawn := W.drawn + 1 } from HSS.out _ (Below.refl _ _).drew)
    refine wpAnyH_take (i := 0) (oi := _) (v := .pointer (some ⟨w.heap.size, 0, none⟩)) rfl (by kernel_rfl) (by kernel_rfl) (by kernel_rfl) (fun _ _ _ h => h) (Or.inl ⟨by rfl, by intro w hSw; go_split_ands; go_simp⟩) HS.out ?_
    simp only [Act.put, List.getElem_toArray, List.getElem_cons_zero, List.setIfInBounds_toArray, List.set_cons_zero, List.set_cons_succ]
    refine wpAnyH_take (i := 1) (oi := _) (v := .slice p a.length c) rfl (by kernel_rfl) (by kernel_rfl) (by kernel_rfl) (fun _ _ _ h => h) (Or.inl ⟨by rfl, by intro w hSw; go_split_ands; go_simp⟩) HS.out ?_
    simp only [Act.put, List.getElem_toArray, List.getElem_cons_zero, List.getElem_cons_succ, List.setIfInBounds_toArray, List.set_cons_zero, List.set_cons_succ]
    refine wpAnyH_take (i := 2) (oi := _) (v := .int .i64 (a.length : Int)) rfl (by kernel_rfl) (by kernel_rfl) (by kernel_rfl) (fun _ _ _ h => h) (Or.inl ⟨by rfl, by intro w hSw; go_split_ands; go_simp⟩) HS.out ?_
    simp only [Act.put, List.getElem_toArray, List.getElem_cons_zero, List.getElem_cons_succ, List.setIfInBounds_toArray, List.set_cons_zero, List.set_cons_succ]
    refine wpAnyH_take (i := 3) (oi := _) (v := .pointer (some ⟨w.heap.size + 1, 0, none⟩)) rfl (by kernel_rfl) (by kernel_rfl) (by kernel_rfl) (fun _ _ _ h => h) (Or.inl ⟨by rfl, by intro w hSw; go_split_ands; go_simp⟩) HS.out ?_
    simp only [Act.put, List.getElem_toArray, List.getElem_cons_zero, List.getElem_cons_succ, List.setIfInBounds_toArray, List.set_cons_zero, List.set_cons_succ]
    refine wpAnyH_take (i := 4) (oi := _) (v := .slice q b.length d) rfl (by kernel_rfl) (by kernel_rfl) (by kernel_rfl) (fun _ _ _ h => h) (Or.inl ⟨by rfl, by intro w hSw; go_split_ands; go_simp⟩) HS.out ?_
    simp only [Act.put, List.getElem_toArray, List.getElem_cons_zero, List.getElem_cons_succ, List.setIfInBounds_toArray, List.set_cons_zero, List.set_cons_succ]
    refine wpAnyH_take (i := 5) (oi := _) (v := .int .i64 (b.length : Int)) rfl (by kernel_rfl) (by kernel_rfl) (by kernel_rfl) (fun _ _ _ h => h) (Or.inl ⟨by rfl, by intro w hSw; go_split_ands; go_simp⟩) HS.out ?_
    simp only [Act.put, List.getElem_toArray, List.getElem_cons_zero, List.getElem_cons_succ, List.setIfInBounds_toArray, List.set_cons_zero, List.set_cons_succ]
    refine wpAnyH_take (i := 6) (oi := _) (v := .bool false) rfl (by kernel_rfl) (by kernel_rfl) (by kernel_rfl) (fun _ _ _ h => h) (Or.inl ⟨by rfl, by intro w hSw; go_split_ands; go_simp⟩) HS.out ?_
    simp only [Act.put, List.getElem_toArray, List.getElem_cons_zero, List.getElem_cons_succ, List.setIfInBounds_toArray, List.set_cons_zero, List.set_cons_succ]
    refine wpAnyH_take (i := 7) (oi := _) (v := .bool false) rfl (by kernel_rfl) (by kernel_rfl) (by kernel_rfl) (fun _ _ _ h => h) (Or.inl ⟨by rfl, by intro w hSw; go_split_ands; go_simp⟩) HS.out ?_
    simp only [Act.put, List.getElem_toArray, List.getElem_cons_zero, List.getElem_cons_succ, List.setIfInBounds_toArray, List.set_cons_zero, List.set_cons_succ]
    refine wpAnyH_take (i := 8) (oi := _) (v := undef) rfl (by kernel_rfl) (by kernel_rfl) (by kernel_rfl) (fun _ _ _ h => h) (Or.inr ⟨by rfl, rfl⟩) HS.out ?_
    simp only [Act.put, List.getElem_toArray, List.getElem_cons_zero, List.getElem_cons_succ, List.setIfInBounds_toArray, List.set_cons_zero, List.set_cons_succ]
    refine wpAnyH_take (i := 9) (oi := _) (v := undef) rfl (by kernel_rfl) (by kernel_rfl) (by kernel_rfl) (fun _ _ _ h => h) (Or.inr ⟨by rfl, rfl⟩) HS.out ?_
    simp only [Act.put, List.getElem_toArray, List.getElem_cons_zero, List.getElem_cons_succ, List.setIfInBounds_toArray, List.set_cons_zero, List.set_cons_succ]
    refine wpAnyH_take (i := 10) (oi := _) (v := undef) rfl (by kernel_rfl) (by kernel_rfl) (by kernel_rfl) (fun _ _ _ h => h) (Or.inr ⟨by rfl, rfl⟩) HS.out ?_
    simp only [Act.put, List.getElem_toArray, List.getElem_cons_zero, List.getElem_cons_succ, List.setIfInBounds_toArray, List.set_cons_zero, List.set_cons_succ]
    refine wpAnyH_take (i := 11) (oi := _) (v := undef) rfl (by kernel_rfl) (by kernel_rfl) (by kernel_rfl) (fun _ _ _ h => h) (Or.inr ⟨by rfl, rfl⟩) HS.out ?_
    simp only [Act.put, List.getElem_toArray, List.getElem_cons_zero, List.getElem_cons_succ, List.setIfInBounds_toArray, List.set_cons_zero, List.set_cons_succ]
    refine wpAnyH_take (i := 12) (oi := _) (v := undef) rfl (by kernel_rfl) (by kernel_rfl) (by kernel_rfl) (fun _ _ _ h => h) (Or.inr ⟨by rfl, rfl⟩) HS.out ?_
    simp only [Act.put, List.getElem_toArray, List.getElem_cons_zero, List.getElem_cons_succ, List.setIfInBounds_toArray, List.set_cons_zero, List.set_cons_succ]
    refine wpAnyH_take (i := 13) (oi := _) (v := .bool false) rfl (by kernel_rfl) (by kernel_rfl) (by kernel_rfl) (fun _ _ _ h => h) (Or.inl ⟨by rfl, by intro w hSw; go_split_ands; go_simp⟩) HS.out ?_
    simp only [Act.put, List.getElem_toArray, List.getElem_cons_zero, List.getElem_cons_succ, List.setIfInBounds_toArray, List.set_cons_zero, List.set_cons_succ]
    refine wpAnyH_take (i := 14) (oi := _) (v := .bool false) rfl (by kernel_rfl) (by kernel_rfl) (by kernel_rfl) (fun _ _ _ h => h) (Or.inl ⟨by rfl, by intro w hSw; go_split_ands; go_simp⟩) HS.out ?_
    simp only [Act.put, List.getElem_toArray, List.getElem_cons_zero, List.getElem_cons_succ, List.setIfInBounds_toArray, List.set_cons_zero, List.set_cons_succ]
    refine wpAnyH_done (by kernel_rfl) ?_ _
    clear HSS HS
    go_wp2
    go_ret
    exact ⟨ret_boolF (by simp [HNE.out]), HBW.out.trans (((Below.refl W.heap.size W).drew).mono HBW.out.size)⟩

set_option maxHeartbeats 8000000 in
set_option maxRecDepth 100000 in
theorem specFieldSame_any (u v : Value) (a b : Fld3) (w : World) (hna : wFld a ≤ 1048576) (hnb : wFld b ≤ 1048576) (hra : RFld 0 w u a) (hrb : RFld 0 w v b) :
    Calls Try.prog 19 #[.agg #[u], .agg #[v]] w fun e w' => e = .returned (.bool (sameB a b)) ∧ Below w.heap.size w w' := by
  have HZA := hide (wFld_sizes hna)
  have HZB := hide (wFld_sizes hnb)
  obtain ⟨p, c, rfl⟩ := hra.isSlice
  obtain ⟨q, d, rfl⟩ := hrb.isSlice
  have HR0 := hide (hra.below ((((Below.refl w.heap.size w).alloc (Nat.le_refl _) (.cells #[.slice p a.length c] 29)).alloc (by simp) (.cells #[.slice q b.length d] 29))))
  have HQ0 := hide (hrb.below ((((Below.refl w.heap.size w).alloc (Nat.le_refl _) (.cells #[.slice p a.length c] 29)).alloc (by simp) (.cells #[.slice q b.length d] 29))))
  obtain ⟨W, hW⟩ : ∃ W, W = (w.alloc (.cells #[.slice p a.length c] 29)).alloc (.cells #[.slice q b.length d] 29) := ⟨_, rfl⟩
  rw [← hW] at HR0 HQ0
  have HBW := hide (show Below w.heap.size w W by rw [hW]; exact ((Below.refl w.heap.size w).alloc (Nat.le_refl _) _).alloc (by simp) _)
  have HRa := hide (show Row W w.heap.size 29 [.slice p a.length c] by rw [hW]; exact (row_new w [.slice p a.length c] 29).alloc _)
  have HRb := hide (show Row W (w.heap.size + 1) 29 [.slice q b.length d] by rw [hW]; have := row_new (w.alloc (.cells #[.slice p a.length c] 29)) [.slice q b.length d] 29; simpa using this)
  have HSS := hide (show ∀ z, Below W.heap.size W z → (fun z : World => z.cell? ⟨w.heap.size, 0, none⟩ = some (.slice p a.length c) ∧ z.cell? ⟨w.heap.size + 1, 0, none⟩ = some (.slice q b.length d)) z from fun z h => ⟨(HRa.out.below h HRa.out.lt).cell 0, (HRb.out.below h HRb.out.lt).cell 0⟩)
  clear hra hrb
  clear HSS
  go_enter Try.func19, Try.ntmps19
  go_wp2_with fail
  rw [← hW]
  clear hW
  refine (specField_any _ a 0 _ HZA.out.1 HZA.out.2.1 HZA.out.2.2 HR0.out).mono ?_
  rintro e w2 ⟨rfl, hb2⟩
  have HB2 := hide hb2
  have rb := HRb.out.below hb2 HRb.out.lt
  have cb : w2.cell? ⟨w.heap.size + 1, 0, none⟩ = some (.slice q b.length d) := rb.cell 0
  clear hb2 rb
  cases ha : fldB a
  · have HN := hide (sameB_a (b := b) ha)
    go_wp2
    go_ret
    exact ⟨ret_boolF HN.out.symm, HBW.out.trans (HB2.out.mono HBW.out.size)⟩
  go_wp2_with fail
  refine (specField_any _ b 0 _ HZB.out.1 HZB.out.2.1 HZB.out.2.2 (HQ0.out.below HB2.out)).mono ?_
  rintro e w3 ⟨rfl, hb3⟩
  have HB3 := hide (HB2.out.trans (hb3.mono HB2.out.size))
  have ra := HRa.out.below HB3.out HRa.out.lt
  have rb := HRb.out.below HB3.out HRb.out.lt
  have ca3 : w3.cell? ⟨w.heap.size, 0, none⟩ = some (.slice p a.length c) := ra.cell 0
  have cb3 : w3.cell? ⟨w.heap.size + 1, 0, none⟩ = some (.slice q b.length d) := rb.cell 0
  clear hb3 ra rb cb
  cases hbb : fldB b
  · have HN := hide (sameB_b (a := a) hbb)
    go_wp2
    go_ret
    exact ⟨ret_boolF HN.out.symm, HBW.out.trans (HB3.out.mono HBW.out.size)⟩
  have HE := hide (sameB_eq ha hbb)
  go_wp2_with fail
  refine (l04Same_any _ _ a b _ ha hbb (HR0.out.below HB3.out) (HQ0.out.below HB3.out)).mono ?_
  rintro e w4 ⟨rfl, hb4⟩
  have HB4 := hide (HB3.out.trans (hb4.mono HB3.out.size))
  clear hb4
  rw [← HE.out]
  go_wp2
  go_ret
  exact ⟨rfl, HBW.out.trans (HB4.out.mono HBW.out.size)⟩

set_option maxHeartbeats 8000000 in
set_option maxRecDepth 100000 in
theorem implFieldSame_any (u v : Value) (a b : Fld3) (w : World) (hna : wFld a ≤ 1048576) (hnb : wFld b ≤ 1048576) (hra : RFld 0 w u a) (hrb : RFld 0 w v b) :
    Calls Try.prog 20 #[.agg #[u], .agg #[v]] w fun e w' => e = .returned (.bool (sameB a b)) ∧ Below w.heap.size w w' := by
  have HZA := hide (wFld_sizes hna)
  have HZB := hide (wFld_sizes hnb)
  have HNA := hide hna
  have HNB := hide hnb
  obtain ⟨p, c, rfl⟩ := hra.isSlice
  obtain ⟨q, d, rfl⟩ := hrb.isSlice
  have HR0 := hide (hra.below ((((Below.refl w.heap.size w).alloc (Nat.le_refl _) (.cells #[.slice p a.length c] 29)).alloc (by simp) (.cells #[.slice q b.length d] 29))))
  have HQ0 := hide (hrb.below ((((Below.refl w.heap.size w).alloc (Nat.le_refl _) (.cells #[.slice p a.length c] 29)).alloc (by simp) (.cells #[.slice q b.length d] 29))))
  obtain ⟨W, hW⟩ : ∃ W, W = (w.alloc (.cells #[.slice p a.length c] 29)).alloc (.cells #[.slice q b.length d] 29) := ⟨_, rfl⟩
  rw [← hW] at HR0 HQ0
  have HBW := hide (show Below w.heap.size w W by rw [hW]; exact ((Below.refl w.heap.size w).alloc (Nat.le_refl _) _).alloc (by simp) _)
  have HRa := hide (show Row W w.heap.size 29 [.slice p a.length c] by rw [hW]; exact (row_new w [.slice p a.length c] 29).alloc _)
  have HRb := hide (show Row W (w.heap.size + 1) 29 [.slice q b.length d] by rw [hW]; have := row_new (w.alloc (.cells #[.slice p a.length c] 29)) [.slice q b.length d] 29; simpa using this)
  have HSS := hide (show ∀ z, Below W.heap.size W z → (fun z : World => z.cell? ⟨w.heap.size, 0, none⟩ = some (.slice p a.length c) ∧ z.cell? ⟨w.heap.size + 1, 0, none⟩ = some (.slice q b.length d)) z from fun z h => ⟨(HRa.out.below h HRa.out.lt).cell 0, (HRb.out.below h HRb.out.lt).cell 0⟩)
  clear hra hrb
  go_enter Try.func20, Try.ntmps20
  go_wp2_with fail
  rw [← hW]
  clear hW
  refine wp_region_held (S := fun z : World => z.cell? ⟨w.heap.size, 0, none⟩ = some (.slice p a.length c) ∧ z.cell? ⟨w.heap.size + 1, 0, none⟩ = some (.slice q b.length d)) (by kernel_rfl) ?_
  have HS := hide (show (fun z : World => z.cell? ⟨w.heap.size, 0, none⟩ = some (.slice p a.length c) ∧ z.cell? ⟨w.heap.size + 1, 0, none⟩ = some (.slice q b.length d)) { W with drawn := W.drawn + 1 } from HSS.out _ (Below.refl _ _).drew)
  refine wpAnyH_take (i := 0) (oi := _) (v := .agg #[.slice p a.length c]) rfl (by kernel_rfl) (by kernel_rfl) (by kernel_rfl) (fun _ _ _ h => h) (Or.inl ⟨by rfl, by intro w hSw; go_split_ands; go_simp⟩) HS.out ?_
  simp only [Act.put, List.getElem_toArray, List.getElem_cons_zero, List.setIfInBounds_toArray, List.set_cons_zero, List.set_cons_succ]
  refine wpAnyH_ready (rs := [1]) (by kernel_rfl) (by simp) ?_
  refine AllReadyH.cons (o := _) rfl (fun K hK => ?_) AllReadyH.nil
  go_simp
  refine (implFieldRight_any _ a _ HZA.out.1 HZA.out.2.1 HZA.out.2.2 (HR0.out.below ((Below.refl _ _).drew))).mono ?_
  rintro e w2 ⟨rfl, hb2⟩
  have HB2 := hide (below_drew hb2)
  clear hb2
  have HS2 := hide (show (fun z : World => z.cell? ⟨w.heap.size, 0, none⟩ = some (.slice p a.length c) ∧ z.cell? ⟨w.heap.size + 1, 0, none⟩ = some (.slice q b.length d)) w2 from HSS.out _ HB2.out)
  refine hK.out _ _ HS2.out (fun _ => ?_)
  clear hK K HS
  have HS := HS2
  clear HS2
  cases ha : fldB a
  · have HN := hide (sameB_a (b := b) ha)
    refine wpAnyH_take (i := 2) (oi := _) (v := .bool false) rfl (by kernel_rfl) (by kernel_rfl) (by kernel_rfl) (fun _ _ _ h => h) (Or.inl ⟨by rfl, by intro w hSw; go_split_ands; go_simp⟩) HS.out ?_
    simp only [Act.put, List.getElem_toArray, List.getElem_cons_zero, List.getElem_cons_succ, List.setIfInBounds_toArray, List.set_cons_zero, List.set_cons_succ]
    refine wpAnyH_take (i := 3) (oi := _) (v := undef) rfl (by kernel_rfl) (by kernel_rfl) (by kernel_rfl) (fun _ _ _ h => h) (Or.inr ⟨by rfl, rfl⟩) HS.out ?_
    simp only [Act.put, List.getElem_toArray, List.getElem_cons_zero, List.getElem_cons_succ, List.setIfInBounds_toArray, List.set_cons_zero, List.set_cons_succ]
    refine wpAnyH_take (i := 4) (oi := _) (v := undef) rfl (by kernel_rfl) (by kernel_rfl) (by kernel_rfl) (fun _ _ _ h => h) (Or.inr ⟨by rfl, rfl⟩) HS.out ?_
    simp only [Act.put, List.getElem_toArray, List.getElem_cons_zero, List.getElem_cons_succ, List.setIfInBounds_toArray, List.set_cons_zero, List.set_cons_succ]
    refine wpAnyH_take (i := 5) (oi := _) (v := .bool false) rfl (by kernel_rfl) (by kernel_rfl) (by kernel_rfl) (fun _ _ _ h => h) (Or.inl ⟨by rfl, by intro w hSw; go_split_ands; go_simp⟩) HS.out ?_
    simp only [Act.put, List.getElem_toArray, List.getElem_cons_zero, List.getElem_cons_succ, List.setIfInBounds_toArray, List.set_cons_zero, List.set_cons_succ]
    refine wpAnyH_take (i := 6) (oi := _) (v := .bool false) rfl (by kernel_rfl) (by kernel_rfl) (by kernel_rfl) (fun _ _ _ h => h) (Or.inl ⟨by rfl, by intro w hSw; go_split_ands; go_simp⟩) HS.out ?_
    simp only [Act.put, List.getElem_toArray, List.getElem_cons_zero, List.getElem_cons_succ, List.setIfInBounds_toArray, List.set_cons_zero, List.set_cons_succ]
    refine wpAnyH_take (i := 7) (oi := _) (v := undef) rfl (by kernel_rfl) (by kernel_rfl) (by kernel_rfl) (fun _ _ _ h => h) (Or.inr ⟨by rfl, rfl⟩) HS.out ?_
    simp only [Act.put, List.getElem_toArray, List.getElem_cons_zero, List.getElem_cons_succ, List.setIfInBounds_toArray, List.set_cons_zero, List.set_cons_succ]
    refine wpAnyH_take (i := 8) (oi := _) (v := undef) rfl (by kernel_rfl) (by kernel_rfl) (by kernel_rfl) (fun _ _ _ h => h) (Or.inr ⟨by rfl, rfl⟩) HS.out ?_
    simp only [Act.put, List.getElem_toArray, List.getElem_cons_zero, List.getElem_cons_succ, List.setIfInBounds_toArray, List.set_cons_zero, List.set_cons_succ]
    refine wpAnyH_take (i := 9) (oi := _) (v := undef) rfl (by kernel_rfl) (by kernel_rfl) (by kernel_rfl) (fun _ _ _ h => h) (Or.inr ⟨by rfl, rfl⟩) HS.out ?_
    simp only [Act.put, List.getElem_toArray, List.getElem_cons_zero, List.getElem_cons_succ, List.setIfInBounds_toArray, List.set_cons_zero, List.set_cons_succ]
    refine wpAnyH_take (i := 10) (oi := _) (v := undef) rfl (by kernel_rfl) (by kernel_rfl) (by kernel_rfl) (fun _ _ _ h => h) (Or.inr ⟨by rfl, rfl⟩) HS.out ?_
    simp only [Act.put, List.getElem_toArray, List.getElem_cons_zero, List.getElem_cons_succ, List.setIfInBounds_toArray, List.set_cons_zero, List.set_cons_succ]
    refine wpAnyH_take (i := 11) (oi := _) (v := undef) rfl (by kernel_rfl) (by kernel_rfl) (by kernel_rfl) (fun _ _ _ h => h) (Or.inr ⟨by rfl, rfl⟩) HS.out ?_
    simp only [Act.put, List.getElem_toArray, List.getElem_cons_zero, List.getElem_cons_succ, List.setIfInBounds_toArray, List.set_cons_zero, List.set_cons_succ]
    refine wpAnyH_take (i := 12) (oi := _) (v := .bool false) rfl (by kernel_rfl) (by kernel_rfl) (by kernel_rfl) (fun _ _ _ h => h) (Or.inl ⟨by rfl, by intro w hSw; go_split_ands; go_simp⟩) HS.out ?_
    simp only [Act.put, List.getElem_toArray, List.getElem_cons_zero, List.getElem_cons_succ, List.setIfInBounds_toArray, List.set_cons_zero, List.set_cons_succ]
    refine wpAnyH_take (i := 13) (oi := _) (v := .bool false) rfl (by kernel_rfl) (by kernel_rfl) (by kernel_rfl) (fun _ _ _ h => h) (Or.inl ⟨by rfl, by intro w hSw; go_split_ands; go_simp⟩) HS.out ?_
    simp only [Act.put, List.getElem_toArray, List.getElem_cons_zero, List.getElem_cons_succ, List.setIfInBounds_toArray, List.set_cons_zero, List.set_cons_succ]
    refine wpAnyH_done (by kernel_rfl) ?_ _
    clear HSS HS
    go_wp2
    go_ret
    exact ⟨ret_boolF HN.out.symm, HBW.out.trans ((HB2.out).mono HBW.out.size)⟩
  refine wpAnyH_take (i := 2) (oi := _) (v := .bool true) rfl (by kernel_rfl) (by kernel_rfl) (by kernel_rfl) (fun _ _ _ h => h) (Or.inl ⟨by rfl, by intro w hSw; go_split_ands; go_simp⟩) HS.out ?_
  simp only [Act.put, List.getElem_toArray, List.getElem_cons_zero, List.getElem_cons_succ, List.setIfInBounds_toArray, List.set_cons_zero, List.set_cons_succ]
  refine wpAnyH_take (i := 3) (oi := _) (v := .agg #[.slice q b.length d]) rfl (by kernel_rfl) (by kernel_rfl) (by kernel_rfl) (fun _ _ _ h => h) (Or.inl ⟨by rfl, by intro w hSw; go_split_ands; go_simp⟩) HS.out ?_
  simp only [Act.put, List.getElem_toArray, List.getElem_cons_zero, List.getElem_cons_succ, List.setIfInBounds_toArray, List.set_cons_zero, List.set_cons_succ]
  refine wpAnyH_ready (rs := [4]) (by kernel_rfl) (by simp) ?_
  refine AllReadyH.cons (o := _) rfl (fun K hK => ?_) AllReadyH.nil
  go_simp
  refine (implFieldRight_any _ b _ HZB.out.1 HZB.out.2.1 HZB.out.2.2 (HQ0.out.below HB2.out)).mono ?_
  rintro e w3 ⟨rfl, hb3⟩
  have HB3 := hide (HB2.out.trans (hb3.mono HB2.out.size))
  clear hb3
  have HS3 := hide (show (fun z : World => z.cell? ⟨w.heap.size, 0, none⟩ = some (.slice p a.length c) ∧ z.cell? ⟨w.heap.size + 1, 0, none⟩ = some (.slice q b.length d)) w3 from HSS.out _ HB3.out)
  refine hK.out _ _ HS3.out (fun _ => ?_)
  clear hK K HS
  have HS := HS3
  clear HS3
  cases hbb : fldB b
  · have HN := hide (sameB_b (a := a) hbb)
    refine wpAnyH_take (i := 5) (oi := _) (v := .bool false) rfl (by kernel_rfl) (by kernel_rfl) (by kernel_rfl) (fun _ _ _ h => h) (Or.inl ⟨by rfl, by intro w hSw; go_split_ands; go_simp⟩) HS.out ?_
    simp only [Act.put, List.getElem_toArray, List.getElem_cons_zero, List.getElem_cons_succ, List.setIfInBounds_toArray, List.set_cons_zero, List.set_cons_succ]
    refine wpAnyH_take (i := 6) (oi := _) (v := .bool false) rfl (by kernel_rfl) (by kernel_rfl) (by kernel_rfl) (fun _ _ _ h => h) (Or.inl ⟨by rfl, by intro w hSw; go_split_ands; go_simp⟩) HS.out ?_
    simp only [Act.put, List.getElem_toArray, List.getElem_cons_zero, List.getElem_cons_succ, List.setIfInBounds_toArray, List.set_cons_zero, List.set_cons_succ]
    refine wpAnyH_take (i := 7) (oi := _) (v := undef) rfl (by kernel_rfl) (by kernel_rfl) (by kernel_rfl) (fun _ _ _ h => h) (Or.inr ⟨by rfl, rfl⟩) HS.out ?_
    simp only [Act.put, List.getElem_toArray, List.getElem_cons_zero, List.getElem_cons_succ, List.setIfInBounds_toArray, List.set_cons_zero, List.set_cons_succ]
    refine wpAnyH_take (i := 8) (oi := _) (v := undef) rfl (by kernel_rfl) (by kernel_rfl) (by kernel_rfl) (fun _ _ _ h => h) (Or.inr ⟨by rfl, rfl⟩) HS.out ?_
    simp only [Act.put, List.getElem_toArray, List.getElem_cons_zero, List.getElem_cons_succ, List.setIfInBounds_toArray, List.set_cons_zero, List.set_cons_succ]
    refine wpAnyH_take (i := 9) (oi := _) (v := undef) rfl (by kernel_rfl) (by kernel_rfl) (by kernel_rfl) (fun _ _ _ h => h) (Or.inr ⟨by rfl, rfl⟩) HS.out ?_
    simp only [Act.put, List.getElem_toArray, List.getElem_cons_zero, List.getElem_cons_succ, List.setIfInBounds_toArray, List.set_cons_zero, List.set_cons_succ]
    refine wpAnyH_take (i := 10) (oi := _) (v := undef) rfl (by kernel_rfl) (by kernel_rfl) (by kernel_rfl) (fun _ _ _ h => h) (Or.inr ⟨by rfl, rfl⟩) HS.out ?_
    simp only [Act.put, List.getElem_toArray, List.getElem_cons_zero, List.getElem_cons_succ, List.setIfInBounds_toArray, List.set_cons_zero, List.set_cons_succ]
    refine wpAnyH_take (i := 11) (oi := _) (v := undef) rfl (by kernel_rfl) (by kernel_rfl) (by kernel_rfl) (fun _ _ _ h => h) (Or.inr ⟨by rfl, rfl⟩) HS.out ?_
    simp only [Act.put, List.getElem_toArray, List.getElem_cons_zero, List.getElem_cons_succ, List.setIfInBounds_toArray, List.set_cons_zero, List.set_cons_succ]
    refine wpAnyH_take (i := 12) (oi := _) (v := .bool false) rfl (by kernel_rfl) (by kernel_rfl) (by kernel_rfl) (fun _ _ _ h => h) (Or.inl ⟨by rfl, by intro w hSw; go_split_ands; go_simp⟩) HS.out ?_
    simp only [Act.put, List.getElem_toArray, List.getElem_cons_zero, List.getElem_cons_succ, List.setIfInBounds_toArray, List.set_cons_zero, List.set_cons_succ]
    refine wpAnyH_take (i := 13) (oi := _) (v := .bool false) rfl (by kernel_rfl) (by kernel_rfl) (by kernel_rfl) (fun _ _ _ h => h) (Or.inl ⟨by rfl, by intro w hSw; go_split_ands; go_simp⟩) HS.out ?_
    simp only [Act.put, List.getElem_toArray, List.getElem_cons_zero, List.getElem_cons_succ, List.setIfInBounds_toArray, List.set_cons_zero, List.set_cons_succ]
    refine wpAnyH_done (by kernel_rfl) ?_ _
    clear HSS HS
    go_wp2
    go_ret
    exact ⟨ret_boolF HN.out.symm, HBW.out.trans ((HB3.out).mono HBW.out.size)⟩
  have HE := hide (sameB_eq ha hbb)
  have HTA := hide (fldTB_yes usual_right ha)
  have HTB := hide (fldTB_yes usual_right hbb)
  refine wpAnyH_take (i := 5) (oi := _) (v := .bool true) rfl (by kernel_rfl) (by kernel_rfl) (by kernel_rfl) (fun _ _ _ h => h) (Or.inl ⟨by rfl, by intro w hSw; go_split_ands; go_simp⟩) HS.out ?_
  simp only [Act.put, List.getElem_toArray, List.getElem_cons_zero, List.getElem_cons_succ, List.setIfInBounds_toArray, List.set_cons_zero, List.set_cons_succ]
  refine wpAnyH_take (i := 6) (oi := _) (v := .bool true) rfl (by kernel_rfl) (by kernel_rfl) (by kernel_rfl) (fun _ _ _ h => h) (Or.inl ⟨by rfl, by intro w hSw; go_split_ands; go_simp⟩) HS.out ?_
  simp only [Act.put, List.getElem_toArray, List.getElem_cons_zero, List.getElem_cons_succ, List.setIfInBounds_toArray, List.set_cons_zero, List.set_cons_succ]
  refine wpAnyH_take (i := 7) (oi := _) (v := .agg #[.slice p a.length c]) rfl (by kernel_rfl) (by kernel_rfl) (by kernel_rfl) (fun _ _ _ h => h) (Or.inl ⟨by rfl, by intro w hSw; go_split_ands; go_simp⟩) HS.out ?_
  simp only [Act.put, List.getElem_toArray, List.getElem_cons_zero, List.getElem_cons_succ, List.setIfInBounds_toArray, List.set_cons_zero, List.set_cons_succ]
  refine wpAnyH_take (i := 9) (oi := _) (v := .agg #[.slice q b.length d]) rfl (by kernel_rfl) (by kernel_rfl) (by kernel_rfl) (fun _ _ _ h => h) (Or.inl ⟨by rfl, by intro w hSw; go_split_ands; go_simp⟩) HS.out ?_
  simp only [Act.put, List.getElem_toArray, List.getElem_cons_zero, List.getElem_cons_succ, List.setIfInBounds_toArray, List.set_cons_zero, List.set_cons_succ]
  refine wpAnyH_ready (rs := [8]) (by kernel_rfl) (by simp) ?_
  refine AllReadyH.cons (o := _) rfl (fun K hK => ?_) AllReadyH.nil
  go_simp
  refine (implFieldText_any usual _ a _ (by decide) HNA.out (HR0.out.below HB3.out)).mono ?_
  rintro e w4 ⟨rfl, hb4⟩
  have HB4 := hide (HB3.out.trans (hb4.mono HB3.out.size))
  clear hb4
  have HS4 := hide (show (fun z : World => z.cell? ⟨w.heap.size, 0, none⟩ = some (.slice p a.length c) ∧ z.cell? ⟨w.heap.size + 1, 0, none⟩ = some (.slice q b.length d)) w4 from HSS.out _ HB4.out)
  refine hK.out _ _ HS4.out (fun _ => ?_)
  clear hK K HS
  have HS := HS4
  clear HS4
  refine wpAnyH_ready (rs := [10]) (by kernel_rfl) (by simp) ?_
  refine AllReadyH.cons (o := _) rfl (fun K hK => ?_) AllReadyH.nil
  go_simp
  refine (implFieldText_any usual _ b _ (by decide) HNB.out (HQ0.out.below HB4.out)).mono ?_
  rintro e w5 ⟨rfl, hb5⟩
  have HB5 := hide (HB4.out.trans (hb5.mono HB4.out.size))
  clear hb5
  have HS5 := hide (show (fun z : World => z.cell? ⟨w.heap.size, 0, none⟩ = some (.slice p a.length c) ∧ z.cell? ⟨w.heap.size + 1, 0, none⟩ = some (.slice q b.length d)) w5 from HSS.out _ HB5.out)
  refine hK.out _ _ HS5.out (fun _ => ?_)
  clear hK K HS
  have HS := HS5
  clear HS5
  rw [HTA.out, HTB.out]
  by_cases he : fldT usual a = fldT usual b
  · have HX := hide (show sameB a b = true by rw [HE.out]; simp [he])
    rw [he]
    have hd : ((⟨(fldT usual b).toArray⟩ : ByteArray).toList == (⟨(fldT usual b).toArray⟩ : ByteArray).toList) = true := by simp
    refine wpAnyH_take (i := 11) (oi := _) (v := .bool true) rfl (by kernel_rfl) (by kernel_rfl) (by kernel_rfl) (fun _ _ _ h => h) (Or.inl ⟨by rfl, by intro w hSw; go_split_ands; go_simp⟩) HS.out ?_
    simp only [Act.put, List.getElem_toArray, List.getElem_cons_zero, List.getElem_cons_succ, List.setIfInBounds_toArray, List.set_cons_zero, List.set_cons_succ]
    refine wpAnyH_take (i := 12) (oi := _) (v := .bool true) rfl (by kernel_rfl) (by kernel_rfl) (by kernel_rfl) (fun _ _ _ h => h) (Or.inl ⟨by rfl, by intro w hSw; go_split_ands; go_simp⟩) HS.out ?_
    simp only [Act.put, List.getElem_toArray, List.getElem_cons_zero, List.getElem_cons_succ, List.setIfInBounds_toArray, List.set_cons_zero, List.set_cons_succ]
    refine wpAnyH_take (i := 13) (oi := _) (v := .bool true) rfl (by kernel_rfl) (by kernel_rfl) (by kernel_rfl) (fun _ _ _ h => h) (Or.inl ⟨by rfl, by intro w hSw; go_split_ands; go_simp⟩) HS.out ?_
    simp only [Act.put, List.getElem_toArray, List.getElem_cons_zero, List.getElem_cons_succ, List.setIfInBounds_toArray, List.set_cons_zero, List.set_cons_succ]
    refine wpAnyH_done (by kernel_rfl) ?_ _
    clear HSS HS
    go_wp2
    go_ret
    exact ⟨ret_boolF HX.out.symm, HBW.out.trans ((HB5.out).mono HBW.out.size)⟩
  · have HX := hide (show sameB a b = false by rw [HE.out]; simp [he])
    have hd := arr_ne he
    refine wpAnyH_take (i := 11) (oi := _) (v := .bool false) rfl (by kernel_rfl) (by kernel_rfl) (by kernel_rfl) (fun _ _ _ h => h) (Or.inl ⟨by rfl, by intro w hSw; go_split_ands; go_simp⟩) HS.out ?_
    simp only [Act.put, List.getElem_toArray, List.getElem_cons_zero, List.getElem_cons_succ, List.setIfInBounds_toArray, List.set_cons_zero, List.set_cons_succ]
    refine wpAnyH_take (i := 12) (oi := _) (v := .bool false) rfl (by kernel_rfl) (by kernel_rfl) (by kernel_rfl) (fun _ _ _ h => h) (Or.inl ⟨by rfl, by intro w hSw; go_split_ands; go_simp⟩) HS.out ?_
    simp only [Act.put, List.getElem_toArray, List.getElem_cons_zero, List.getElem_cons_succ, List.setIfInBounds_toArray, List.set_cons_zero, List.set_cons_succ]
    refine wpAnyH_take (i := 13) (oi := _) (v := .bool false) rfl (by kernel_rfl) (by kernel_rfl) (by kernel_rfl) (fun _ _ _ h => h) (Or.inl ⟨by rfl, by intro w hSw; go_split_ands; go_simp⟩) HS.out ?_
    simp only [Act.put, List.getElem_toArray, List.getElem_cons_zero, List.getElem_cons_succ, List.setIfInBounds_toArray, List.set_cons_zero, List.set_cons_succ]
    refine wpAnyH_done (by kernel_rfl) ?_ _
    clear HSS HS
    go_wp2
    go_ret
    exact ⟨ret_boolF HX.out.symm, HBW.out.trans ((HB5.out).mono HBW.out.size)⟩
end Go.Proofs.Ytohdfckdfegklaa
