/- A Batch that is added to a row of Batches. -/
import Derived.Test.YtholbhjfmfanbaaGreatXG28BSplitM
namespace Go.Proofs.YtholbhjfmfanbaaGreat
open Go.RowKit
theorem Tryz.infoBatchR : (Tryz.prog.info? 49).map (fun i => (i.zero, i.size, i.bytes)) = some (some (.agg #[.string ⟨#[]⟩, .slice none 0 0]), 2, 40) := by kernel_rfl
theorem full_any (p : Option Addr) (k c : Nat) (w : World) :
    Calls Tryz.prog 73 #[.agg #[.int .i64 10, .slice p k c]] w fun e w' => e = .returned (.bool (decide (10 ≤ k))) ∧ Below w.heap.size w w' := by
  by_cases h : 10 ≤ k
  · have hi : (10 : Int) ≤ (k : Int) := by omega
    have hd : decide (10 ≤ k) = true := decide_eq_true h
    rw [hd]
    clear hd h
    go_enter Tryz.func73, Tryz.ntmps73
    go_wp2
    go_ret
    exact ⟨by first | rfl | simp, (Below.refl _ _).alloc (Nat.le_refl _) _⟩
  · have hi : ¬ (10 : Int) ≤ (k : Int) := by omega
    have hd : decide (10 ≤ k) = false := decide_eq_false h
    rw [hd]
    clear hd h
    go_enter Tryz.func73, Tryz.ntmps73
    go_wp2
    go_ret
    exact ⟨by first | rfl | simp, (Below.refl _ _).alloc (Nat.le_refl _) _⟩
def AddRes (P base k : Nat) (n : ByteArray) (p : Option Addr) (len c : Nat) (l : Value) (cs : List Value) (w : World) (e : Ending) (w' : World) : Prop :=
  (10 ≤ k ∧ e = .returned (.int .i64 9) ∧ Below w.heap.size w w') ∨
  (k < 10 ∧ e = .returned (.int .i64 0) ∧ ∃ (Y Z : World) (v' : Value), Below w.heap.size w Y ∧ Y.grownBy Z l.ownBlock ∧ (v'.ownBlock = l.ownBlock ∨ v'.ownBlock = some Y.heap.size) ∧ Z.ownsRow base 49 2 v' (k + 1) (cs ++ [.string n, .slice p len c]) ∧ w' = Z.setCell ⟨P, 1, none⟩ v')
set_option maxHeartbeats 8000000 in
set_option maxRecDepth 100000 in
theorem add_any (P base k : Nat) (n : ByteArray) (p : Option Addr) (len c : Nat) (l : Value) (cs : List Value) (w : World) (hk : k ≤ 10) (hP : P < base) (hb : base ≤ w.heap.size) (hrow : Row w P 56 [.int .i64 10, l]) (hown : w.ownsRow base 49 2 l k cs) :
    Calls Tryz.prog 51 #[.pointer (some ⟨P, 0, none⟩), .agg #[.string n, .slice p len c]] w fun e w' => AddRes P base k n p len c l cs w e w' := by
  obtain ⟨i0, hi, hz0, hz1, hz2⟩ := info_parts Tryz.infoBatchR
  have HZC := hide (show (Value.agg #[.string ⟨#[]⟩, .slice none 0 0]).cells.size = 2 from rfl)
  obtain ⟨pl, cl, rfl⟩ := own_slice1 hown
  have HLT := hide hown.lt
  have HPB := hide hP
  have HBW0 := hide hb
  obtain ⟨W, hW⟩ : ∃ W, W = w.alloc (.cells #[.string n, .slice p len c] 49) := ⟨_, rfl⟩
  have HB0 := hide (show Below w.heap.size w W by rw [hW]; exact (Below.refl _ _).alloc (Nat.le_refl _) _)
  have HRX := hide (show Row W w.heap.size 49 [.string n, .slice p len c] by rw [hW]; exact row_new w _ _)
  have HRP0 := hide (hrow.below HB0.out hrow.lt)
  have HOW0 := hide (own_below hown HB0.out)
  clear hrow hown hP hb
  have r0 : (w.alloc (.cells #[.string n, .slice p len c] 49)).cell? ⟨P, 0, none⟩ = some (.int .i64 10) := by rw [← hW]; exact HRP0.out.cell 0
  have r1 : (w.alloc (.cells #[.string n, .slice p len c] 49)).cell? ⟨P, 1, none⟩ = some (.slice pl k cl) := by rw [← hW]; exact HRP0.out.cell 1
  go_enter Tryz.func51, Tryz.ntmps51
  go_wp2_with fail
  rw [← hW]
  clear hW
  refine (full_any pl k cl _).mono ?_
  rintro e W2 ⟨rfl, hb2⟩
  have HB2 := hide (HB0.out.trans (hb2.mono HB0.out.size))
  have HRX2 := hide (HRX.out.below hb2 HRX.out.lt)
  have HRP2 := hide (HRP0.out.below hb2 HRP0.out.lt)
  have HOW2 := hide (own_below HOW0.out hb2)
  clear hb2 r0 r1
  by_cases h10 : 10 ≤ k
  · have hd : decide (10 ≤ k) = true := decide_eq_true h10
    rw [hd]
    clear hd
    go_wp2
    go_ret
    unfold AddRes
    exact Or.inl ⟨h10, rfl, HB2.out⟩
  have hd : decide (10 ≤ k) = false := decide_eq_false h10
  rw [hd]
  clear hd HB0 HRP0 HOW0 HRX
  have HB0 := HB2
  have HRP := HRP2
  have HOW := HOW2
  have HWS := hide (show w.heap.size < W2.heap.size from HRX2.out.lt)
  have HBW := hide (Nat.le_trans HBW0.out HB2.out.size)
  have HSS := hide (show ∀ y, Below W2.heap.size W2 y → (fun y : World => y.cell? ⟨w.heap.size, 0, none⟩ = some (.string n) ∧ y.cell? ⟨w.heap.size, 1, none⟩ = some (.slice p len c)) y from fun y h => ⟨(HRX2.out.below h HRX2.out.lt).cell 0, (HRX2.out.below h HRX2.out.lt).cell 1⟩)
  go_wp2_with fail
  refine wp_region_held (S := (fun y : World => y.cell? ⟨w.heap.size, 0, none⟩ = some (.string n) ∧ y.cell? ⟨w.heap.size, 1, none⟩ = some (.slice p len c))) (by kernel_rfl) ?_
  have HZ0 : Hid (Below W2.heap.size W2 { W2 with drawn := W2.drawn + 1 }) := (Below.refl _ _).drew
  generalize ({ W2 with drawn := W2.drawn + 1 } : World) = Z0 at HZ0 ⊢
  have HS := hide (HSS.out _ HZ0.out)
  refine wpAnyH_take (i := 0) (oi := _) (v := .pointer (some ⟨P, 0, none⟩)) rfl (by kernel_rfl) (by kernel_rfl) (by kernel_rfl) (fun _ _ _ h => h) (Or.inl ⟨by rfl, by intro w hSw; go_split_ands; go_simp⟩) HS.out ?_
  simp only [Act.put, List.getElem_toArray, List.getElem_cons_zero, List.setIfInBounds_toArray, List.set_cons_zero, List.set_cons_succ]
  refine wpAnyH_take (i := 1) (oi := _) (v := .pointer (some ⟨P, 0, none⟩)) rfl (by kernel_rfl) (by kernel_rfl) (by kernel_rfl) (fun _ _ _ h => h) (Or.inl ⟨by rfl, by intro w hSw; go_split_ands; go_simp⟩) HS.out ?_
  simp only [Act.put, List.getElem_toArray, List.getElem_cons_zero, List.getElem_cons_succ, List.setIfInBounds_toArray, List.set_cons_zero, List.set_cons_succ]
  refine wpAnyH_take (i := 2) (oi := _) (v := .pointer (some ⟨P, 0, none⟩)) rfl (by kernel_rfl) (by kernel_rfl) (by kernel_rfl) (fun _ _ _ h => h) (Or.inl ⟨by rfl, by intro w hSw; go_split_ands; go_simp⟩) HS.out ?_
  simp only [Act.put, List.getElem_toArray, List.getElem_cons_zero, List.getElem_cons_succ, List.setIfInBounds_toArray, List.set_cons_zero, List.set_cons_succ]
  refine wpAnyH_take (i := 3) (oi := _) (v := .pointer (some ⟨P, 1, none⟩)) rfl (by kernel_rfl) (by kernel_rfl) (by kernel_rfl) (fun _ _ _ h => h) (Or.inl ⟨by rfl, by intro w hSw; go_split_ands; go_simp⟩) HS.out ?_
  simp only [Act.put, List.getElem_toArray, List.getElem_cons_zero, List.getElem_cons_succ, List.setIfInBounds_toArray, List.set_cons_zero, List.set_cons_succ]
  refine wpAnyH_take (i := 5) (oi := _) (v := .agg #[.string n, .slice p len c]) rfl (by kernel_rfl) (by kernel_rfl) (by kernel_rfl) (fun _ _ _ h => h) (Or.inl ⟨by rfl, by intro w hSw; go_split_ands; go_simp⟩) HS.out ?_
  simp only [Act.put, List.getElem_toArray, List.getElem_cons_zero, List.getElem_cons_succ, List.setIfInBounds_toArray, List.set_cons_zero, List.set_cons_succ]
  refine wpAnyH_ready (rs := [4, 6]) (by kernel_rfl) (by simp) ?_
  refine AllReadyH.cons (o := _) rfl (fun K hK => ?_) (AllReadyH.cons (o := _) rfl (fun K hK => ?_) AllReadyH.nil)
  · have c5 : Z0.cell? ⟨P, 1, none⟩ = some (.slice pl k cl) := (HRP.out.below HZ0.out HRP.out.lt).cell 1
    go_simp
    refine hK.out _ _ HS.out (fun _ => ?_)
    clear hK K c5
    try simp only [Act.put, List.getElem_toArray, List.getElem_cons_zero, List.getElem_cons_succ, List.setIfInBounds_toArray, List.set_cons_zero, List.set_cons_succ]
    refine wpAnyH_ready (rs := [6]) (by kernel_rfl) (by simp) ?_
    refine AllReadyH.cons (o := _) rfl (fun K hK => ?_) AllReadyH.nil
    go_simp
    have HZ1 := hide (HZ0.out.alloc HZ0.out.size (.cells #[.string n, .slice p len c] 49))
    have HR1 := hide (row_cellsM (row_new Z0 [.string n, .slice p len c] 49))
    refine hK.out _ _ (HSS.out _ HZ1.out) (fun _ => ?_)
    clear hK K HS
    generalize hZ : Z0.alloc (.cells #[.string n, .slice p len c] 49) = Z1 at HZ1 HR1 ⊢
    generalize Z0.heap.size = E5 at HR1 ⊢
    clear hZ
    have HS := hide (HSS.out _ HZ1.out)
    try simp only [Act.put, List.getElem_toArray, List.getElem_cons_zero, List.getElem_cons_succ, List.setIfInBounds_toArray, List.set_cons_zero, List.set_cons_succ]
    have HOZ := hide (own_below HOW.out HZ1.out)
    have HSZ := hide (show base ≤ Z1.heap.size from Nat.le_trans HBW.out HZ1.out.size)
    refine wpAnyH_ready (rs := [7]) (by kernel_rfl) (by simp) ?_
    refine AllReadyH.cons (o := _) rfl (fun K hK => ?_) AllReadyH.nil
    refine step_own (w := Z1) rfl (.tmp 13) (.tmp 15) 27 rfl base 49 i0 _ 2 40 Tryz.underlying27 hi hz0 hz1 hz2 HZC.out (by omega) _ k cs rfl HOZ.out ⟨E5, 0, none⟩ 1 _ [.string n, .slice p len c] rfl rfl HR1.out (by simp [Value.oneCell']) (by unfold maxLen; omega) (by omega) HSZ.out ?_
    intro v9 Z9 hown9 hgrow hat
    obtain ⟨pv, cv, hv9⟩ := own_slice1 hown9
    subst hv9
    have HZs := hide HZ1.out.size
    have hsne : ∀ g, (Value.slice pl k cl).ownBlock = some g → g ≠ w.heap.size := fun g hg => by have := (HLT.out g hg).2; omega
    have HS9 : Hid ((fun y : World => y.cell? ⟨w.heap.size, 0, none⟩ = some (.string n) ∧ y.cell? ⟨w.heap.size, 1, none⟩ = some (.slice p len c)) Z9) := hide (by
      have hb : Z9.heap[w.heap.size]? = Z1.heap[w.heap.size]? := hgrow.block _ (Nat.lt_of_lt_of_le HWS.out HZ1.out.size) (fun e => hsne _ e.symm rfl)
      exact ⟨(World.cell?_of_block hb).trans HS.out.1, (World.cell?_of_block hb).trans HS.out.2⟩)
    have HRP9 : Hid (Row Z9 P 56 [.int .i64 10, .slice pl k cl]) := hide (row_grown (HRP.out.below HZ1.out HRP.out.lt) hgrow (fun k hk => (HOZ.out.lt k hk).1) HPB.out)
    have HFIN := hide (show ∃ (Y Z : World) (v' : Value), Below w.heap.size w Y ∧ Y.grownBy Z (Value.slice pl k cl).ownBlock ∧ (v'.ownBlock = (Value.slice pl k cl).ownBlock ∨ v'.ownBlock = some Y.heap.size) ∧ Z.ownsRow base 49 2 v' (k + 1) (cs ++ [.string n, .slice p len c]) ∧ Z9.setCell ⟨P, 1, none⟩ (.slice pv (k + 1) cv) = Z.setCell ⟨P, 1, none⟩ v' from
      ⟨_, _, _, HB0.out.trans (HZ1.out.mono HB0.out.size), hgrow, hat, hown9, rfl⟩)
    have HSF : Hid ((fun y : World => y.cell? ⟨w.heap.size, 0, none⟩ = some (.string n) ∧ y.cell? ⟨w.heap.size, 1, none⟩ = some (.slice p len c)) (Z9.setCell ⟨P, 1, none⟩ (.slice pv (k + 1) cv))) := hide (by
      have hb : (Z9.setCell ⟨P, 1, none⟩ (.slice pv (k + 1) cv)).heap[w.heap.size]? = Z9.heap[w.heap.size]? := Below.heap_setCell Z9 ⟨P, 1, none⟩ _ _ (by have := HPB.out; have := HBW0.out; show w.heap.size ≠ P; omega)
      exact ⟨(World.cell?_of_block hb).trans HS9.out.1, (World.cell?_of_block hb).trans HS9.out.2⟩)
    clear hown9 hgrow hat
    refine hK.out _ _ HS9.out (fun _ => ?_)
    clear hK K HS
    have HS := HS9
    try simp only [Act.put, List.getElem_toArray, List.getElem_cons_zero, List.getElem_cons_succ, List.setIfInBounds_toArray, List.set_cons_zero, List.set_cons_succ]
    refine wpAnyH_take (i := 8) (oi := _) (v := .pointer (some ⟨P, 0, none⟩)) rfl (by kernel_rfl) (by kernel_rfl) (by kernel_rfl) (fun _ _ _ h => h) (Or.inl ⟨by rfl, by intro w hSw; go_split_ands; go_simp⟩) HS.out ?_
    simp only [Act.put, List.getElem_toArray, List.getElem_cons_zero, List.getElem_cons_succ, List.setIfInBounds_toArray, List.set_cons_zero, List.set_cons_succ]
    refine wpAnyH_take (i := 9) (oi := _) (v := .pointer (some ⟨P, 1, none⟩)) rfl (by kernel_rfl) (by kernel_rfl) (by kernel_rfl) (fun _ _ _ h => h) (Or.inl ⟨by rfl, by intro w hSw; go_split_ands; go_simp⟩) HS.out ?_
    simp only [Act.put, List.getElem_toArray, List.getElem_cons_zero, List.getElem_cons_succ, List.setIfInBounds_toArray, List.set_cons_zero, List.set_cons_succ]
    refine wpAnyH_ready (rs := [10]) (by kernel_rfl) (by simp) ?_
    refine AllReadyH.cons (o := _) rfl (fun K hK => ?_) AllReadyH.nil
    have c9 : Z9.cell? ⟨P, 1, none⟩ = some (.slice pl k cl) := HRP9.out.cell 1
    have f9 := HRP9.out.free 1
    go_simp
    refine hK.out _ _ HSF.out (fun _ => ?_)
    clear hK K HS
    refine wpAnyH_done (by kernel_rfl) ?_ _
    go_wp2
    go_ret
    unfold AddRes
    exact Or.inr ⟨by omega, rfl, HFIN.out⟩
  · go_simp
    have HZ1 := hide (HZ0.out.alloc HZ0.out.size (.cells #[.string n, .slice p len c] 49))
    have HR1 := hide (row_cellsM (row_new Z0 [.string n, .slice p len c] 49))
    refine hK.out _ _ (HSS.out _ HZ1.out) (fun _ => ?_)
    clear hK K HS
    generalize hZ : Z0.alloc (.cells #[.string n, .slice p len c] 49) = Z1 at HZ1 HR1 ⊢
    generalize Z0.heap.size = E5 at HR1 ⊢
    clear hZ
    have HS := hide (HSS.out _ HZ1.out)
    try simp only [Act.put, List.getElem_toArray, List.getElem_cons_zero, List.getElem_cons_succ, List.setIfInBounds_toArray, List.set_cons_zero, List.set_cons_succ]
    refine wpAnyH_ready (rs := [4]) (by kernel_rfl) (by simp) ?_
    refine AllReadyH.cons (o := _) rfl (fun K hK => ?_) AllReadyH.nil
    have c5 : Z1.cell? ⟨P, 1, none⟩ = some (.slice pl k cl) := (HRP.out.below HZ1.out HRP.out.lt).cell 1
    go_simp
    refine hK.out _ _ HS.out (fun _ => ?_)
    clear hK K c5
    try simp only [Act.put, List.getElem_toArray, List.getElem_cons_zero, List.getElem_cons_succ, List.setIfInBounds_toArray, List.set_cons_zero, List.set_cons_succ]
    have HOZ := hide (own_below HOW.out HZ1.out)
    have HSZ := hide (show base ≤ Z1.heap.size from Nat.le_trans HBW.out HZ1.out.size)
    refine wpAnyH_ready (rs := [7]) (by kernel_rfl) (by simp) ?_
    refine AllReadyH.cons (o := _) rfl (fun K hK => ?_) AllReadyH.nil
    refine step_own (w := Z1) rfl (.tmp 13) (.tmp 15) 27 rfl base 49 i0 _ 2 40 Tryz.underlying27 hi hz0 hz1 hz2 HZC.out (by omega) _ k cs rfl HOZ.out ⟨E5, 0, none⟩ 1 _ [.string n, .slice p len c] rfl rfl HR1.out (by simp [Value.oneCell']) (by unfold maxLen; omega) (by omega) HSZ.out ?_
    intro v9 Z9 hown9 hgrow hat
    obtain ⟨pv, cv, hv9⟩ := own_slice1 hown9
    subst hv9
    have HZs := hide HZ1.out.size
    have hsne : ∀ g, (Value.slice pl k cl).ownBlock = some g → g ≠ w.heap.size := fun g hg => by have := (HLT.out g hg).2; omega
    have HS9 : Hid ((fun y : World => y.cell? ⟨w.heap.size, 0, none⟩ = some (.string n) ∧ y.cell? ⟨w.heap.size, 1, none⟩ = some (.slice p len c)) Z9) := hide (by
      have hb : Z9.heap[w.heap.size]? = Z1.heap[w.heap.size]? := hgrow.block _ (Nat.lt_of_lt_of_le HWS.out HZ1.out.size) (fun e => hsne _ e.symm rfl)
      exact ⟨(World.cell?_of_block hb).trans HS.out.1, (World.cell?_of_block hb).trans HS.out.2⟩)
    have HRP9 : Hid (Row Z9 P 56 [.int .i64 10, .slice pl k cl]) := hide (row_grown (HRP.out.below HZ1.out HRP.out.lt) hgrow (fun k hk => (HOZ.out.lt k hk).1) HPB.out)
    have HFIN := hide (show ∃ (Y Z : World) (v' : Value), Below w.heap.size w Y ∧ Y.grownBy Z (Value.slice pl k cl).ownBlock ∧ (v'.ownBlock = (Value.slice pl k cl).ownBlock ∨ v'.ownBlock = some Y.heap.size) ∧ Z.ownsRow base 49 2 v' (k + 1) (cs ++ [.string n, .slice p len c]) ∧ Z9.setCell ⟨P, 1, none⟩ (.slice pv (k + 1) cv) = Z.setCell ⟨P, 1, none⟩ v' from
      ⟨_, _, _, HB0.out.trans (HZ1.out.mono HB0.out.size), hgrow, hat, hown9, rfl⟩)
    have HSF : Hid ((fun y : World => y.cell? ⟨w.heap.size, 0, none⟩ = some (.string n) ∧ y.cell? ⟨w.heap.size, 1, none⟩ = some (.slice p len c)) (Z9.setCell ⟨P, 1, none⟩ (.slice pv (k + 1) cv))) := hide (by
      have hb : (Z9.setCell ⟨P, 1, none⟩ (.slice pv (k + 1) cv)).heap[w.heap.size]? = Z9.heap[w.heap.size]? := Below.heap_setCell Z9 ⟨P, 1, none⟩ _ _ (by have := HPB.out; have := HBW0.out; show w.heap.size ≠ P; omega)
      exact ⟨(World.cell?_of_block hb).trans HS9.out.1, (World.cell?_of_block hb).trans HS9.out.2⟩)
    clear hown9 hgrow hat
    refine hK.out _ _ HS9.out (fun _ => ?_)
    clear hK K HS
    have HS := HS9
    try simp only [Act.put, List.getElem_toArray, List.getElem_cons_zero, List.getElem_cons_succ, List.setIfInBounds_toArray, List.set_cons_zero, List.set_cons_succ]
    refine wpAnyH_take (i := 8) (oi := _) (v := .pointer (some ⟨P, 0, none⟩)) rfl (by kernel_rfl) (by kernel_rfl) (by kernel_rfl) (fun _ _ _ h => h) (Or.inl ⟨by rfl, by intro w hSw; go_split_ands; go_simp⟩) HS.out ?_
    simp only [Act.put, List.getElem_toArray, List.getElem_cons_zero, List.getElem_cons_succ, List.setIfInBounds_toArray, List.set_cons_zero, List.set_cons_succ]
    refine wpAnyH_take (i := 9) (oi := _) (v := .pointer (some ⟨P, 1, none⟩)) rfl (by kernel_rfl) (by kernel_rfl) (by kernel_rfl) (fun _ _ _ h => h) (Or.inl ⟨by rfl, by intro w hSw; go_split_ands; go_simp⟩) HS.out ?_
    simp only [Act.put, List.getElem_toArray, List.getElem_cons_zero, List.getElem_cons_succ, List.setIfInBounds_toArray, List.set_cons_zero, List.set_cons_succ]
    refine wpAnyH_ready (rs := [10]) (by kernel_rfl) (by simp) ?_
    refine AllReadyH.cons (o := _) rfl (fun K hK => ?_) AllReadyH.nil
    have c9 : Z9.cell? ⟨P, 1, none⟩ = some (.slice pl k cl) := HRP9.out.cell 1
    have f9 := HRP9.out.free 1
    go_simp
    refine hK.out _ _ HSF.out (fun _ => ?_)
    clear hK K HS
    refine wpAnyH_done (by kernel_rfl) ?_ _
    go_wp2
    go_ret
    unfold AddRes
    exact Or.inr ⟨by omega, rfl, HFIN.out⟩

end Go.Proofs.YtholbhjfmfanbaaGreat
/- Split of the program. -/
namespace Go.Proofs.YtholbhjfmfanbaaGreat
open Go.RowKit
theorem Only.grownB {G : Nat} {a b c : World} {row : Option Nat} (h : Only G a b) (hg : b.grownBy c row) (hr : ∀ k, row = Option.some k → a.heap.size ≤ k) : Only G a c :=
  ⟨hg.os.trans h.os, hg.tape.trans h.tape, hg.output.trans h.output, Nat.le_trans h.size hg.size, fun k hk hn => (hg.block k (Nat.lt_of_lt_of_le hk h.size) (fun e => by have := hr k e.symm; omega)).trans (h.block k hk hn)⟩
theorem own_sameB {w w' : World} {B n sz : Nat} {T : TypeId} {v : Value} {xs : List Value} (h : w.ownsRow B T sz v n xs) (hs : Same B w w') : w'.ownsRow B T sz v n xs := by
  have hlt := h.lt
  refine ⟨h.1, ?_⟩
  rcases h.2 with h | ⟨g, cap, cur, rfl, hbg, hg, hnc, hcm, hcs, htake⟩
  · exact .inl h
  · exact .inr ⟨g, cap, cur, rfl, hbg, (hs.block g hbg (hlt g rfl).2).trans hg, hnc, hcm, hcs, htake⟩
def GrowB (base : Nat) (X : World) (l : Value) (cs : List Value) (xs : List Bat) : Prop := ∃ A B : Nat → Nat, (∀ j (h : j < xs.length), cs[j * 2]? = some (.string xs[j].1) ∧ xs[j].1.size ≤ maxLen ∧ base ≤ A j ∧ B j ≤ X.heap.size ∧ (∀ g, l.ownBlock = some g → B j ≤ g ∨ g < A j) ∧ ∃ u, cs[j * 2 + 1]? = some u ∧ OMsgs (A j) (B j) X u xs[j].2) ∧ ∀ i j, i < j → j < xs.length → B i ≤ A j
theorem GrowB.nil {base : Nat} {X : World} {l : Value} : GrowB base X l [] [] := ⟨fun _ => 0, fun _ => 0, fun j h => absurd h (by simp), fun i j _ h => absurd h (by simp)⟩
theorem GrowB.same {base : Nat} {X X' : World} {l : Value} {cs : List Value} {xs : List Bat} (h : GrowB base X l cs xs) (hs : Same base X X') : GrowB base X' l cs xs := by
  obtain ⟨A, B, hE, hD⟩ := h
  refine ⟨A, B, fun j hj => ?_, hD⟩
  obtain ⟨f1, f2, f3, f4, f5, u, f6, f7⟩ := hE j hj
  exact ⟨f1, f2, f3, Nat.le_trans f4 hs.size, f5, u, f6, f7.keep (fun k k1 _ hk => hs.block k (by omega) hk)⟩
theorem GrowB.snoc {base a b : Nat} {X Y Z : World} {l v' u : Value} {cs : List Value} {xs : List Bat} {n : ByteArray} {y : List Msg} (h : GrowB base X l cs xs) (hcl : cs.length = xs.length * 2) (hlt : ∀ g, l.ownBlock = some g → base ≤ g ∧ g < X.heap.size)
    (hXY : Below X.heap.size X Y) (hbase : base ≤ X.heap.size) (ha : X.heap.size ≤ a) (hb : b ≤ Y.heap.size) (hn : n.size ≤ maxLen) (hR : OMsgs a b Y u y) (hgrow : Y.grownBy Z l.ownBlock) (hat : v'.ownBlock = l.ownBlock ∨ v'.ownBlock = some Y.heap.size) :
    GrowB base Z v' (cs ++ [.string n, u]) (xs ++ [(n, y)]) := by
  obtain ⟨A, B, hE, hD⟩ := h
  have hs1 := hXY.size
  have hs2 := hgrow.size
  refine ⟨fun i => if i = xs.length then a else A i, fun i => if i = xs.length then b else B i, fun j hj => ?_, fun i j hij hj => ?_⟩
  · rw [List.length_append] at hj
    dsimp only
    by_cases hjx : j = xs.length
    · subst hjx
      rw [if_pos rfl, if_pos rfl, List.getElem_append_right (Nat.le_refl _)]
      simp only [Nat.sub_self, List.getElem_cons_zero]
      refine ⟨?_, hn, by omega, by omega, fun g hg => ?_, u, ?_, ?_⟩
      · rw [List.getElem?_append_right (by omega), show xs.length * 2 - cs.length = 0 by omega]; rfl
      · rcases hat with e | e
        · rw [e] at hg
          exact .inr (by have := (hlt g hg).2; omega)
        · rw [e] at hg
          cases hg
          exact .inl hb
      · rw [List.getElem?_append_right (by omega), show xs.length * 2 + 1 - cs.length = 1 by omega]; rfl
      · exact hR.keep (grown_in hgrow (fun g hg => .inr (by have := (hlt g hg).2; omega)))
    · have hj2 : j < xs.length := by simp at hj; omega
      obtain ⟨f1, f2, f3, f4, f5, v, f6, f7⟩ := hE j hj2
      rw [if_neg hjx, if_neg hjx, List.getElem_append_left hj2]
      refine ⟨?_, f2, f3, by omega, fun g hg => ?_, v, ?_, ?_⟩
      · rw [List.getElem?_append_left (by omega)]; exact f1
      · rcases hat with e | e
        · rw [e] at hg
          exact f5 g hg
        · rw [e] at hg
          cases hg
          exact .inl (by omega)
      · rw [List.getElem?_append_left (by omega)]; exact f6
      · exact (f7.keep (SameIn.ofBelow hXY)).keep (grown_in hgrow f5)
  · rw [List.length_append] at hj
    have hj1 : j < xs.length + 1 := by simpa using hj
    have hi : i < xs.length := by omega
    obtain ⟨_, _, _, f4, _⟩ := hE i hi
    dsimp only
    rw [if_neg (show i ≠ xs.length by omega)]
    by_cases hjx : j = xs.length
    · rw [if_pos hjx]; omega
    · rw [if_neg hjx]; exact hD i j hij (by omega)
theorem GrowB.obats {base : Nat} {X : World} {l : Value} {cs : List Value} {xs : List Bat} (h : GrowB base X l cs xs) (hown : X.ownsRow base 49 2 l xs.length cs) : OBats base X.heap.size X l xs := by
  obtain ⟨A, B, hE, hD⟩ := h
  have hcl := hown.1
  rcases own_block2 hown with ⟨hn, rfl⟩ | ⟨g, cap2, rest, rfl, hbg, hgs, hnc, hcm, hrow⟩
  · exact ⟨none, 0, by rw [hn], by omega, by unfold maxLen; omega, fun h => by omega⟩
  · refine ⟨_, _, rfl, hnc, hcm, fun _ => ⟨g, cs ++ rest, A, B, rfl, hbg, hgs, hrow, by rw [List.length_append]; omega, fun j hj => ?_, hD⟩⟩
    obtain ⟨f1, f2, f3, f4, f5, u, f6, f7⟩ := hE j hj
    exact ⟨by rw [List.getElem?_append_left (by omega)]; exact f1, f2, f3, f4, f5 g rfl, u, by rw [List.getElem?_append_left (by omega)]; exact f6, f7⟩

set_option maxHeartbeats 16000000 in
set_option maxRecDepth 100000 in
theorem implSplit_any (n : ByteArray) (u : Value) (x : List Bat) (m : Int) (w : World) (hm : n.size ≤ maxLen) (hnb : n.size ≤ 1048576) (hn : wBats x ≤ 1048576) (hr : RBats 0 w u x) :
    Calls Tryz.prog 22 #[.agg #[.string n, u], .int .i64 m] w fun e w' => ∃ p c, e = .returned (foV (splOut n x m) (.slice p (splOut n x m).2.2.length c)) ∧ OBats w.heap.size w'.heap.size w' (.slice p (splOut n x m).2.2.length c) (splOut n x m).2.2 ∧ Below w.heap.size w w' := by
  obtain ⟨A, hA⟩ : ∃ A, A = splOut n x m := ⟨_, rfl⟩
  rw [← hA]
  have HA := hide hA
  clear hA
  have HX := hide hr
  have HM := hide (fun i (h : i < x.length) => (show wMsgs x[i].2 ≤ 1048576 from ((wBats_mem hn).2 i h).1))
  obtain ⟨p, cap, rfl, h1, h2, h4⟩ := hr
  have H4 := hide h4
  unfold maxLen at h2
  clear h4
  obtain ⟨W, hW⟩ : ∃ W, W = (w.alloc (.cells #[.string n, .slice p x.length cap] 29)).alloc (.cells #[.string ⟨#[]⟩, .slice none 0 0, .int .i64 0, .int .i64 0] 40) := ⟨_, rfl⟩
  have HB0 := hide (show Below w.heap.size w W by rw [hW]; exact ((Below.refl _ _).alloc (Nat.le_refl _) _).alloc (by simp) _)
  have HRow0 := hide (show Row W w.heap.size 29 [.string n, .slice p x.length cap] by rw [hW]; exact (row_new w [.string n, .slice p x.length cap] 29).alloc _)
  have HRes0 := hide (show Row W (w.heap.size + 1) 40 [.string ⟨#[]⟩, .slice none 0 0, .int .i64 0, .int .i64 0] by
    rw [hW]
    have := row_new (w.alloc (.cells #[.string n, .slice p x.length cap] 29)) [.string ⟨#[]⟩, .slice none 0 0, .int .i64 0, .int .i64 0] 40
    simpa using this)
  go_enter Tryz.func22, Tryz.ntmps22
  go_wp2_with fail
  rw [← hW]
  clear hW
  refine (fileRight_any n _ x _ hm (fitsF_of hn) (HX.out.below HB0.out)).mono ?_
  rintro e w1 ⟨rfl, hb1⟩
  have HB1 := hide (HB0.out.trans (hb1.mono HB0.out.size))
  have HRow1 := hide (HRow0.out.below hb1 HRow0.out.lt)
  have HRes1 := hide (HRes0.out.below hb1 HRes0.out.lt)
  have c0 : w1.cell? ⟨w.heap.size, 0, none⟩ = some (.string n) := HRow1.out.cell 0
  have c1 : w1.cell? ⟨w.heap.size, 1, none⟩ = some (.slice p x.length cap) := HRow1.out.cell 1
  clear hb1
  cases hq : filB n x
  · obtain rfl : A = (1, ⟨#[]⟩, []) := by rw [HA.out]; exact splOut_no (fun h => by rw [hq] at h; cases h.1)
    have k0 : w1.cell? ⟨w.heap.size + 1, 0, none⟩ = some (.string ⟨#[]⟩) := HRes1.out.cell 0
    have k1 : w1.cell? ⟨w.heap.size + 1, 1, none⟩ = some (.slice none 0 0) := HRes1.out.cell 1
    have k2 : w1.cell? ⟨w.heap.size + 1, 2, none⟩ = some (.int .i64 0) := HRes1.out.cell 2
    have k3 : w1.cell? ⟨w.heap.size + 1, 3, none⟩ = some (.int .i64 0) := HRes1.out.cell 3
    have f0 := HRes1.out.free 0
    have f1 := HRes1.out.free 1
    have f2 := HRes1.out.free 2
    have f3 := HRes1.out.free 3
    go_wp2
    obtain ⟨q0, q1, q2, q3, KF, _, _⟩ := fourF HRes1.out (.string ⟨#[]⟩) (.slice none 0 0) (.int .i64 0) (.int .i64 1)
    exact bodyPost_ret (v := .agg #[.string ⟨#[]⟩, .slice none 0 0, .int .i64 0, .int .i64 1]) (by simp [results, Tryz.results22, go_sem, q0, q1, q2, q3]) rfl ⟨_, _, rfl, obats_nil _ _ _ _, KF w w.heap.size (Nat.le_succ _) HB1.out⟩

  by_cases hm1 : m < 1
  · obtain rfl : A = (1, ⟨#[]⟩, []) := by rw [HA.out]; exact splOut_no (fun h => by omega)
    have k0 : w1.cell? ⟨w.heap.size + 1, 0, none⟩ = some (.string ⟨#[]⟩) := HRes1.out.cell 0
    have k1 : w1.cell? ⟨w.heap.size + 1, 1, none⟩ = some (.slice none 0 0) := HRes1.out.cell 1
    have k2 : w1.cell? ⟨w.heap.size + 1, 2, none⟩ = some (.int .i64 0) := HRes1.out.cell 2
    have k3 : w1.cell? ⟨w.heap.size + 1, 3, none⟩ = some (.int .i64 0) := HRes1.out.cell 3
    have f0 := HRes1.out.free 0
    have f1 := HRes1.out.free 1
    have f2 := HRes1.out.free 2
    have f3 := HRes1.out.free 3
    go_wp2
    obtain ⟨q0, q1, q2, q3, KF, _, _⟩ := fourF HRes1.out (.string ⟨#[]⟩) (.slice none 0 0) (.int .i64 0) (.int .i64 1)
    exact bodyPost_ret (v := .agg #[.string ⟨#[]⟩, .slice none 0 0, .int .i64 0, .int .i64 1]) (by simp [results, Tryz.results22, go_sem, q0, q1, q2, q3]) rfl ⟨_, _, rfl, obats_nil _ _ _ _, KF w w.heap.size (Nat.le_succ _) HB1.out⟩

  by_cases hm2 : 30 < m
  · obtain rfl : A = (1, ⟨#[]⟩, []) := by rw [HA.out]; exact splOut_no (fun h => by omega)
    have k0 : w1.cell? ⟨w.heap.size + 1, 0, none⟩ = some (.string ⟨#[]⟩) := HRes1.out.cell 0
    have k1 : w1.cell? ⟨w.heap.size + 1, 1, none⟩ = some (.slice none 0 0) := HRes1.out.cell 1
    have k2 : w1.cell? ⟨w.heap.size + 1, 2, none⟩ = some (.int .i64 0) := HRes1.out.cell 2
    have k3 : w1.cell? ⟨w.heap.size + 1, 3, none⟩ = some (.int .i64 0) := HRes1.out.cell 3
    have f0 := HRes1.out.free 0
    have f1 := HRes1.out.free 1
    have f2 := HRes1.out.free 2
    have f3 := HRes1.out.free 3
    go_wp2
    obtain ⟨q0, q1, q2, q3, KF, _, _⟩ := fourF HRes1.out (.string ⟨#[]⟩) (.slice none 0 0) (.int .i64 0) (.int .i64 1)
    exact bodyPost_ret (v := .agg #[.string ⟨#[]⟩, .slice none 0 0, .int .i64 0, .int .i64 1]) (by simp [results, Tryz.results22, go_sem, q0, q1, q2, q3]) rfl ⟨_, _, rfl, obats_nil _ _ _ _, KF w w.heap.size (Nat.le_succ _) HB1.out⟩

  obtain ⟨M, hMm⟩ : ∃ M : Nat, m = (M : Int) := ⟨m.toNat, by omega⟩
  subst hMm
  have hM1 : 1 ≤ M := by omega
  have hM2 : M ≤ 30 := by omega
  have HA9 := hide (fun (h3 : 10 < (splL M x).length) => (show A = (9, ⟨#[]⟩, []) by rw [HA.out]; exact splOut_full hq hM1 hM2 h3))
  have HA0 := hide (fun (h3 : ¬ 10 < (splL M x).length) => (show A = (0, n, splL M x) by rw [HA.out]; exact splOut_yes hq hM1 hM2 h3))
  have HFP := hide (filB_parts hq)
  clear hq HA
  go_wp2_with fail
  refine (batchesOf_any ⟨#[]⟩ (.slice none 0 0) [] w1 (rbats_nil 0 w1 none)).mono ?_
  rintro e w2 ⟨rfl, hb2⟩
  have hbp : Below w2.heap.size w2 (w2.alloc (.cells #[.int .i64 10, .slice none 0 0] 56)) := (Below.refl _ _).alloc (Nat.le_refl _) _
  have HB12 := hide hb2.size
  have hb2p := hb2.trans (hbp.mono hb2.size)
  have HB2 := hide (HB1.out.trans (hb2p.mono HB1.out.size))
  have HRow2 := hide (HRow1.out.below hb2p HRow1.out.lt)
  have HRes2 := hide (HRes1.out.below hb2p HRes1.out.lt)
  have HRP2 := hide (row_new w2 [.int .i64 10, .slice none 0 0] 56)
  have HPs := hide (show (w2.alloc (.cells #[.int .i64 10, .slice none 0 0] 56)).heap.size = w2.heap.size + 1 by simp)
  have d1 : (w2.alloc (.cells #[.int .i64 10, .slice none 0 0] 56)).cell? ⟨w.heap.size, 1, none⟩ = some (.slice p x.length cap) := HRow2.out.cell 1
  clear hb2 hbp hb2p c0 c1
  go_wp2_with fail
  obtain ⟨W5, hW5⟩ : ∃ W5, W5 = w2.alloc (.cells #[.int .i64 10, .slice none 0 0] 56) := ⟨_, rfl⟩
  obtain ⟨P, hP⟩ : ∃ P, P = w2.heap.size := ⟨_, rfl⟩
  rw [← hW5] at HB2 HRow2 HRes2 HRP2 HPs ⊢
  rw [← hP] at HRP2 HPs HB12 ⊢
  have HWP := hide (show w.heap.size + 1 < P by have h := HRes1.out.lt; have h2 := HB12.out; omega)
  clear hW5 hP d1 HRow1 HRes1 HRow0 HRes0
  go_loopw [28] (fun i wr => ∃ (X : World) (k : Nat) (l : Value) (cs : List Value), X = wr ∧ k ≤ x.length ∧ i = .int .i64 (k : Int) ∧ Hid (Row X P 56 [.int .i64 10, l]) ∧ Hid (X.ownsRow W5.heap.size 49 2 l (splL M (x.take k)).length cs) ∧ Hid (GrowB W5.heap.size X l cs (splL M (x.take k))) ∧ Hid (Only P W5 X) ∧ Hid ((splL M (x.take k)).length ≤ 10)) (fun i _ => x.length - (intOf i).toNat)
  case atStart => exact ⟨_, 0, _, [], rfl, Nat.zero_le _, rfl, HRP2, hide (World.ownsRow_nil W5 W5.heap.size 49 2), hide GrowB.nil, hide (Only.refl _ _), hide (Nat.zero_le _)⟩
  case round =>
    obtain ⟨X, k, l, cs, rfl, hk, rfl, HRP, HOw, HG, HON, H10⟩ := hrel
    have HBX := hide (HON.out.toBelow HB2.out HB2.out.size (by have := HWP.out; omega))
    by_cases hlt : k < x.length
    · obtain ⟨g, off, hp, hg, _, hc⟩ := H4.out (by omega)
      subst hp
      obtain ⟨ha, hns, v, hv, hrv⟩ := hc k hlt
      have hk0 := (HBX.out.cell (p := ⟨g, off + k * 2, none⟩) hg).trans ha
      have hk1 := (HBX.out.cell (p := ⟨g, off + k * 2 + 1, none⟩) hg).trans hv
      have HT := hide (splL_take M x k hlt)
      have HB30 := hide (HFP.out.2 _ (List.getElem_mem hlt))
      have HMK := hide (HM.out k hlt)
      have HMORE := hide (splL_more M x (k + 1))
      obtain ⟨bt, hbt⟩ : ∃ bt, bt = x[k]'hlt := ⟨_, rfl⟩
      rw [← hbt] at hk0 hrv HT HB30 HMK
      obtain ⟨vp, vc, rfl⟩ := hrv.isSlice
      have HBV := hide (hrv.below HBX.out)
      have HRV := hide hrv
      obtain ⟨L, hL⟩ : ∃ L, L = splL M (x.take k) := ⟨_, rfl⟩
      rw [← hL] at HOw HG H10 HT
      have hba : Below X.heap.size X (X.alloc (.cells #[.string bt.1, .slice vp bt.2.length vc] 49)) := (Below.refl _ _).alloc (Nat.le_refl _) _
      have HBA := hide hba
      have HRB := hide (row_new X [.string bt.1, .slice vp bt.2.length vc] 49)
      clear hbt hL ha hns hv hrv hc hba
      go_wp2_with fail
      obtain ⟨X1, hX1⟩ : ∃ X1, X1 = X.alloc (.cells #[.string bt.1, .slice vp bt.2.length vc] 49) := ⟨_, rfl⟩
      obtain ⟨Bk, hBk⟩ : ∃ Bk, Bk = X.heap.size := ⟨_, rfl⟩
      rw [← hX1] at HBA HRB ⊢
      rw [← hBk] at HRB ⊢
      have HBKe := hide hBk
      have HBK := hide (show P < Bk by rw [hBk]; have := HON.out.size; have := HPs.out; omega)
      clear hX1 hBk hk0 hk1
      refine (messagesOf_any bt.1 _ bt.2 _ (HBV.out.below HBA.out)).mono ?_
      rintro e w3 ⟨rfl, hb3⟩
      have HB3 := hide (HBA.out.trans (hb3.mono HBA.out.size))
      have HRB3 := hide (HRB.out.below hb3 HRB.out.lt)
      clear hb3
      go_wp2_with fail
      refine (cut_any M _ bt.2 w _ hM1 hM2 HB30.out.2 HRV.out).mono ?_
      rintro e w4 ⟨pc, cc, cs5, rfl, hol, hsl, hb4⟩
      have HB4 := hide (HB3.out.trans (hb4.mono HB3.out.size))
      have HRB4 := hide (HRB3.out.below hb4 HRB3.out.lt)
      have HSL := hide hsl
      have HCW := hide (cuts_w M _ bt.2 (Nat.le_refl _))
      have HSB := hide (show splB M bt = (cuts M bt.2).map (fun l => (bt.1, l)) from rfl)
      have HCP := hide (cuts_pos M bt.2)
      obtain ⟨C, hC⟩ : ∃ C, C = cuts M bt.2 := ⟨_, rfl⟩
      rw [← hC] at hol HSL HCW HSB HCP ⊢
      obtain ⟨g5, c5, rest5, hpe, hg51, hg52, hc51, hc52, _, hrow5⟩ : ∃ g cap rest, Value.slice pc C.length cc = .slice (some ⟨g, 0, none⟩) C.length cap ∧ w3.heap.size + 1 ≤ g ∧ g < w4.heap.size ∧ C.length ≤ cap ∧ cap ≤ maxLen ∧ C.length + rest.length = cap ∧ Row w4 g 34 (cs5 ++ rest) := by
        rcases own_block hol with ⟨h, _⟩ | h
        · have := HCP.out; omega
        · exact h
      have HR5 := hide hrow5
      have HCS5 := hide (show cs5.length = C.length by have := hol.1; omega)
      have HG5 := hide (show Bk ≤ g5 ∧ g5 < w4.heap.size from ⟨by have h1 := HRB3.out.lt; omega, hg52⟩)
      cases hpe
      unfold maxLen at hc52
      have HRP4 := hide (HRP.out.below HB4.out HRP.out.lt)
      have HOw4 := hide (own_below HOw.out HB4.out)
      have HG4 := hide (HG.out.same (Same.of HB4.out))
      have HON4 := hide (HON.out.below HB4.out)
      have HXS := hide (show W5.heap.size ≤ X.heap.size from HON.out.size)
      have HBLt := hide (show Bk < w4.heap.size from HRB4.out.lt)
      have HOB := hide (fun g (hg : l.ownBlock = some g) => (show g < Bk ∨ w4.heap.size ≤ g from .inl (by rw [HBKe.out]; exact (HOw.out.lt g hg).2)))
      clear hC hol hsl hb4 hg51 hg52 hrow5 HRP HOw HG
      go_wp2_with fail
      go_loopw [37] (fun i wr => ∃ (Z : World) (j : Nat) (l : Value) (cs : List Value), Z = wr ∧ j ≤ C.length ∧ i = .int .i64 (j : Int) ∧ Hid (Row Z P 56 [.int .i64 10, l]) ∧ Hid (Z.ownsRow W5.heap.size 49 2 l (L ++ (splB M bt).take j).length cs) ∧ Hid (GrowB W5.heap.size Z l cs (L ++ (splB M bt).take j)) ∧ Hid (Only P W5 Z) ∧ Hid ((L ++ (splB M bt).take j).length ≤ 10) ∧ Hid (SameIn Bk w4.heap.size w4 Z) ∧ Hid (∀ g, l.ownBlock = some g → g < Bk ∨ w4.heap.size ≤ g) ∧ Hid (w4.heap.size ≤ Z.heap.size)) (fun i _ => C.length - (intOf i).toNat)
      case atStart => exact ⟨_, 0, _, cs, rfl, Nat.zero_le _, rfl, HRP4, hide (by simpa using HOw4.out), hide (by simpa using HG4.out), HON4, hide (by simpa using H10.out), hide (fun _ _ _ _ => rfl), HOB, hide (Nat.le_refl _)⟩
      case round =>
        obtain ⟨Z, j, l, cs, rfl, hj, rfl, HRPz, HOz, HGz, HONz, H10z, HSI, HOBz, HZw⟩ := hrel
        by_cases hjl : j < C.length
        · obtain ⟨uj, huj5, hrj⟩ := HSL.out j hjl
          have HBZ := hide (HONz.out.toBelow HB2.out HB2.out.size (by have := HWP.out; omega))
          have HUJ := hide (hrj.below HBZ.out)
          obtain ⟨pj, cj, rfl⟩ := hrj.isSlice
          have huj : Z.cell? ⟨g5, j, none⟩ = some (.slice pj (C[j]'hjl).length cj) := by
            rw [(HSI.out.row HR5.out HG5.out.1 HG5.out.2).cell, List.getElem?_append_left (by have := HCS5.out; omega)]
            exact huj5
          have HRBz := hide (HSI.out.row HRB4.out (Nat.le_refl _) HBLt.out)
          have hjs : j < (splB M bt).length := by rw [HSB.out, List.length_map]; exact hjl
          have HTJ := hide (show L ++ (splB M bt).take (j + 1) = (L ++ (splB M bt).take j) ++ [(bt.1, C[j]'hjl)] by
            rw [List.take_succ_eq_append_getElem hjs, List.append_assoc]
            congr 2
            simp only [HSB.out, List.getElem_map])
          have HWJ := hide (show wMsgs (C[j]'hjl) ≤ 1048576 from Nat.le_trans (HCW.out.2 _ (List.getElem_mem hjl)) HMK.out)
          have HTOT := hide (show (L ++ (splB M bt).take j).length + 1 ≤ (splL M x).length by
            obtain ⟨r, hr⟩ := HMORE.out
            rw [hr, HT.out]
            simp only [List.length_append, List.length_take]
            omega)
          have hji0 : (0 : Int) ≤ (j : Int) := by omega
          have hji : (j : Int) < (C.length : Int) := by omega
          have e0 : Z.cell? ⟨Bk, 0, none⟩ = some (.string bt.1) := HRBz.out.cell 0
          have HCLz := hide (show cs.length = (L ++ (splB M bt).take j).length * 2 from HOz.out.1)
          have HLTz := hide HOz.out.lt
          obtain ⟨D, hD⟩ : ∃ D, D = (L ++ (splB M bt).take j).length := ⟨_, rfl⟩
          rw [← hD] at HOz H10z HTOT
          have HD := hide hD
          clear hD hrj huj5
          go_wp2_with fail
          refine (freshBatch_any bt.1 _ (C[j]'hjl) _ (by have := HB30.out.1; omega) HWJ.out HUJ.out).mono ?_
          rintro e w6 ⟨pf, cf, rfl, hof, hb6⟩
          have HB6 := hide hb6
          have HOF := hide hof
          have HRP6 := hide (HRPz.out.below hb6 HRPz.out.lt)
          have HO6 := hide (own_below HOz.out hb6)
          have HON6 := hide (HONz.out.below hb6)
          have HZs := hide (show W5.heap.size ≤ Z.heap.size from HONz.out.size)
          clear hof hb6 e0 huj
          go_wp2_with fail
          refine (add_any P W5.heap.size D bt.1 pf (C[j]'hjl).length cf l cs _ H10z.out (by have := HPs.out; omega) (Nat.le_trans HZs.out HB6.out.size) HRP6.out HO6.out).mono ?_
          rintro e w7 hres
          unfold AddRes at hres
          rcases hres with ⟨h10, rfl, hb7⟩ | ⟨h10, rfl, Y, Z9, v', hbY, hgrow, hat, hown9, rfl⟩
          · obtain rfl : A = (9, ⟨#[]⟩, []) := HA9.out (by have := HTOT.out; omega)
            have HON7 := hide (HON6.out.below hb7)
            have HBX7 := hide (HON7.out.toBelow HB2.out HB2.out.size (by have := HWP.out; omega))
            have HRes7 := hide (HON7.out.row HRes2.out (by have := HWP.out; omega))
            clear hb7
            have k0 : w7.cell? ⟨w.heap.size + 1, 0, none⟩ = some (.string ⟨#[]⟩) := HRes7.out.cell 0
            have k1 : w7.cell? ⟨w.heap.size + 1, 1, none⟩ = some (.slice none 0 0) := HRes7.out.cell 1
            have k2 : w7.cell? ⟨w.heap.size + 1, 2, none⟩ = some (.int .i64 0) := HRes7.out.cell 2
            have k3 : w7.cell? ⟨w.heap.size + 1, 3, none⟩ = some (.int .i64 0) := HRes7.out.cell 3
            have f0 := HRes7.out.free 0
            have f1 := HRes7.out.free 1
            have f2 := HRes7.out.free 2
            have f3 := HRes7.out.free 3
            go_wp2
            obtain ⟨q0, q1, q2, q3, KF, _, _⟩ := fourF HRes7.out (.string ⟨#[]⟩) (.slice none 0 0) (.int .i64 0) (.int .i64 9)
            exact bodyPost_ret (v := .agg #[.string ⟨#[]⟩, .slice none 0 0, .int .i64 0, .int .i64 9]) (by simp [results, Tryz.results22, go_sem, q0, q1, q2, q3]) rfl ⟨_, _, rfl, obats_nil _ _ _ _, KF w w.heap.size (Nat.le_succ _) HBX7.out⟩

          · obtain ⟨pv, cv, hv9⟩ := own_slice1 hown9
            subst hv9
            have hWY : Below Z.heap.size Z Y := HB6.out.trans (hbY.mono HB6.out.size)
            have HLT6 := hide (fun g (hg : l.ownBlock = some g) => (show W5.heap.size ≤ g ∧ g < w6.heap.size from HO6.out.lt g hg))
            have HG9 := hide (show GrowB W5.heap.size Z9 (.slice pv (D + 1) cv) (cs ++ [.string bt.1, .slice pf (C[j]'hjl).length cf]) (L ++ (splB M bt).take (j + 1)) by
              rw [HTJ.out]
              exact HGz.out.snoc HCLz.out HLTz.out hWY HZs.out (Nat.le_succ _) (Nat.le_trans (Nat.le_refl _) hbY.size) (by have := HB30.out.1; unfold maxLen; omega) (HOF.out.keep (SameIn.ofBelow hbY)) hgrow hat)
            have HSame := hide (Same.set Z9 (g := P) (j := 1) (.slice pv (D + 1) cv) (show P < W5.heap.size by have := HPs.out; omega))
            have HG10 := hide (HG9.out.same HSame.out)
            have HO10 := hide (show (Z9.setCell ⟨P, 1, none⟩ (.slice pv (D + 1) cv)).ownsRow W5.heap.size 49 2 (.slice pv (D + 1) cv) (L ++ (splB M bt).take (j + 1)).length (cs ++ [.string bt.1, .slice pf (C[j]'hjl).length cf]) by
              rw [HTJ.out, List.length_append, ← HD.out]
              exact own_sameB hown9 HSame.out)
            have hgk : ∀ k, l.ownBlock = some k → W5.heap.size ≤ k := fun k hk => (HLT6.out k hk).1
            have HON9 := hide ((HON6.out.below hbY).grownB hgrow hgk)
            have HON10 := hide (HON9.out.set (j := 1) (.slice pv (D + 1) cv))
            have hrp9 := row_grown (B := W5.heap.size) (HRP6.out.below hbY HRP6.out.lt) hgrow hgk (by have := HPs.out; omega)
            have HRP10 := hide (show Row (Z9.setCell ⟨P, 1, none⟩ (.slice pv (D + 1) cv)) P 56 [.int .i64 10, .slice pv (D + 1) cv] by simpa using hrp9.set (j := 1) (.slice pv (D + 1) cv))
            have hsz1 := hWY.size
            have hsz2 := hgrow.size
            have hzw := HZw.out
            have HSI10 := hide (show SameIn Bk w4.heap.size w4 (Z9.setCell ⟨P, 1, none⟩ (.slice pv (D + 1) cv)) from fun b b1 b2 b3 => by
              have e1 : (Z9.setCell ⟨P, 1, none⟩ (.slice pv (D + 1) cv)).heap[b]? = Z9.heap[b]? := Below.heap_setCell Z9 ⟨P, 1, none⟩ _ b (by have := HBK.out; show b ≠ P; omega)
              have e2 : Z9.heap[b]? = Y.heap[b]? := hgrow.block b (by omega) (fun e => by have := HOBz.out b e.symm; omega)
              rw [e1, e2, hWY.block b (by omega)]
              exact HSI.out b b1 b2 b3)
            have HOB10 := hide (show ∀ g, (Value.slice pv (D + 1) cv).ownBlock = some g → g < Bk ∨ w4.heap.size ≤ g from fun g hg => by
              rcases hat with h | h
              · rw [h] at hg; exact HOBz.out g hg
              · rw [h] at hg; cases hg; exact .inr (by omega))
            have HZ10 := hide (show w4.heap.size ≤ (Z9.setCell ⟨P, 1, none⟩ (.slice pv (D + 1) cv)).heap.size by
              have e : (Z9.setCell ⟨P, 1, none⟩ (.slice pv (D + 1) cv)).heap.size = Z9.heap.size := by simp [World.setCell]
              omega)
            have H11 := hide (show (L ++ (splB M bt).take (j + 1)).length ≤ 10 by rw [HTJ.out, List.length_append, ← HD.out]; show D + 1 ≤ 10; omega)
            clear hgrow hat hown9 hWY hgk hrp9 hsz1 hsz2 hbY
            go_wp2
            go_roundw
            case rel => exact ⟨_, j + 1, _, _, rfl, by omega, by go_num, HRP10, HO10, HG10, HON10, H11, HSI10, HOB10, HZ10⟩
            case measure => simp [intOf]; omega
        · have ej : (splB M bt).take j = splB M bt := List.take_of_length_le (by rw [HSB.out, List.length_map]; omega)
          rw [ej, ← HT.out] at HOz HGz H10z
          go_wp2
          go_roundw
          case rel => exact ⟨_, k + 1, _, _, rfl, by omega, by go_num, HRPz, HOz, HGz, HONz, H10z⟩
          case measure => simp [intOf]; omega
    · have ek : x.take k = x := List.take_of_length_le (by omega)
      rw [ek] at HOw HG H10
      obtain rfl : A = (0, n, splL M x) := HA0.out (by have := H10.out; omega)
      obtain ⟨pl, cl, hpl⟩ := own_slice1 HOw.out
      subst hpl
      have HOB9 := hide (HG.out.obats HOw.out)
      have HRowX := hide (HON.out.row HRow2.out (by have := HWP.out; omega))
      have HResX := hide (HON.out.row HRes2.out (by have := HWP.out; omega))
      have e0 : X.cell? ⟨w.heap.size, 0, none⟩ = some (.string n) := HRowX.out.cell 0
      have e1 : X.cell? ⟨P, 1, none⟩ = some (.slice pl (splL M x).length cl) := HRP.out.cell 1
      have HXs := hide HON.out.size
      clear ek HOw HG
      go_wp2_with fail
      refine (fileTold_any n pl (splL M x).length cl _ (by omega)).mono ?_
      rintro e w8 ⟨rfl, hb8⟩
      have HB8 := hide (HBX.out.trans (hb8.mono HBX.out.size))
      have rr := HResX.out.below hb8 HResX.out.lt
      have HO8 := hide (HOB9.out.keep (SameIn.ofBelow hb8))
      have HS8 := hide hb8.size
      have k0 : w8.cell? ⟨w.heap.size + 1, 0, none⟩ = some (.string ⟨#[]⟩) := rr.cell 0
      have k1 : w8.cell? ⟨w.heap.size + 1, 1, none⟩ = some (.slice none 0 0) := rr.cell 1
      have k2 : w8.cell? ⟨w.heap.size + 1, 2, none⟩ = some (.int .i64 0) := rr.cell 2
      have k3 : w8.cell? ⟨w.heap.size + 1, 3, none⟩ = some (.int .i64 0) := rr.cell 3
      have f0 := rr.free 0
      have f1 := rr.free 1
      have f2 := rr.free 2
      have f3 := rr.free 3
      have HRR := hide rr
      clear e0 e1 hb8 rr
      go_wp2
      obtain ⟨q0, q1, q2, q3, KF, KS, KZ⟩ := fourF HRR.out (.string n) (.slice pl (splL M x).length cl) (.int .i64 0) (.int .i64 0)
      refine bodyPost_ret (v := .agg #[.string n, .slice pl (splL M x).length cl, .int .i64 0, .int .i64 0]) (by simp [results, Tryz.results22, go_sem, q0, q1, q2, q3]) rfl ⟨_, _, rfl, ?_, KF w w.heap.size (Nat.le_succ _) HB8.out⟩
      have h1 := HWP.out
      have h2 := HPs.out
      rw [KZ]
      exact (HO8.out.keep (KS _ _ (.inl (by omega)))).wide (by omega) HS8.out
end Go.Proofs.YtholbhjfmfanbaaGreat
