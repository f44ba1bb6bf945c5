/- The text of a Path: of the program, all of it. -/
import Derived.Test.YtjcbojgomcakeaaDoorPTextI
import Derived.Deep.RegionHeld3
import Derived.Deep.DeepCutAuto
namespace Go.Proofs.YtjcbojgomcakeaaDoor
open Go.RowKit
theorem Kept.drewP {S : List Nat} {a b : World} (h : Kept S a b) : Kept S a { b with drawn := b.drawn + 1 } := ⟨h.os, h.tape, h.output, h.size, h.block⟩
theorem Kept.allocP {S : List Nat} {a b : World} (h : Kept S a b) (o : Obj) : Kept S a (b.alloc o) := h.below ((Below.refl b.heap.size b).alloc (Nat.le_refl _) o)
theorem optL_len (o : List UInt8) (n : Nat) (c : List UInt8) (ho : o.length ≤ 2) (hc : c.length ≤ 2) (h1 : n < 100) : (optL o n c).length ≤ 6 := by
  have := digs_len n h1
  unfold optL
  split
  · simp
  · simp; omega
theorem compL_len (c b : Nat) (hc : c < 100) (hb : b < 100) : (compL c b).length ≤ 9 := by
  have h1 := digs_len c hc
  have h2 := optL_len [46] b [] (by simp) (by simp) hb
  unfold compL
  split
  · simp
  · simp; omega

set_option maxHeartbeats 4000000 in
set_option maxRecDepth 100000 in
theorem compText_any (s : ByteArray) (n f r c b : Nat) (w : World) (c0 : c ≠ 0) (c1 : c < 100) (b0 : b ≠ 0) (b1 : b < 100) :
    Calls Tryd.prog 17 #[.agg #[.string s, .int .i64 (n : Int), .int .i64 (f : Int), .int .i64 (r : Int), .int .i64 (c : Int), .int .i64 (b : Int)]] w fun e w' => e = .returned (.string ⟨(compL c b).toArray⟩) ∧ Below w.heap.size w w' := by
  obtain ⟨W, hW⟩ : ∃ W, W = w.alloc (.cells #[.string s, .int .i64 (n : Int), .int .i64 (f : Int), .int .i64 (r : Int), .int .i64 (c : Int), .int .i64 (b : Int)] 24) := ⟨_, rfl⟩
  have hB : Below w.heap.size w W := by rw [hW]; exact (Below.refl _ _).alloc (Nat.le_refl _) _
  have HB := hide hB
  have HR : Hid (Row W w.heap.size 24 [.string s, .int .i64 (n : Int), .int .i64 (f : Int), .int .i64 (r : Int), .int .i64 (c : Int), .int .i64 (b : Int)]) := by rw [hW]; exact row_new w [.string s, .int .i64 (n : Int), .int .i64 (f : Int), .int .i64 (r : Int), .int .i64 (c : Int), .int .i64 (b : Int)] 24
  clear hB
  by_cases hcb : c = 1 ∧ b = 1
  · have HE := hide (show compL c b = [] by simp [compL, hcb])
    have hx : ((c : Int) == 1) = true := by simp [hcb.1]
    have hy : ((b : Int) == 1) = true := by simp [hcb.2]
    clear hcb
    have a0 : W.cell? ⟨w.heap.size, 0, none⟩ = some (.string s) := HR.out.cell 0
    have a1 : W.cell? ⟨w.heap.size, 1, none⟩ = some (.int .i64 (n : Int)) := HR.out.cell 1
    have a2 : W.cell? ⟨w.heap.size, 2, none⟩ = some (.int .i64 (f : Int)) := HR.out.cell 2
    have a3 : W.cell? ⟨w.heap.size, 3, none⟩ = some (.int .i64 (r : Int)) := HR.out.cell 3
    have a4 : W.cell? ⟨w.heap.size, 4, none⟩ = some (.int .i64 (c : Int)) := HR.out.cell 4
    have a5 : W.cell? ⟨w.heap.size, 5, none⟩ = some (.int .i64 (b : Int)) := HR.out.cell 5
    go_enter Tryd.func17, Tryd.ntmps17
    go_wp2_with fail
    rw [← hW]
    clear hW
    go_wp2
    go_ret
    exact ⟨by rw [HE.out]; rfl, HB.out⟩
  · have HE := hide (show compL c b = [46] ++ digs c ++ optL [46] b [] by simp [compL, hcb])
    have HL := hide (show (([⟨#[46]⟩, ⟨(digs c).toArray⟩, ⟨(optL [46] b []).toArray⟩] : List ByteArray).map (·.data.toList)).flatten = compL c b by rw [HE.out]; simp)
    have HLN := hide (show (compL c b).length ≤ 1000 from Nat.le_trans (compL_len c b c1 b1) (by omega))
    have C := hide (And.intro c0 c1)
    have B := hide (And.intro b0 b1)
    have ht : (((c : Int) == 1) = false) ∨ (((c : Int) == 1) = true ∧ ((b : Int) == 1) = false) := by
      by_cases h : c = 1
      · exact .inr ⟨by simp [h], by simp; omega⟩
      · exact .inl (by simp; omega)
    clear hcb c0 c1 b0 b1
    have a0 : W.cell? ⟨w.heap.size, 0, none⟩ = some (.string s) := HR.out.cell 0
    have a1 : W.cell? ⟨w.heap.size, 1, none⟩ = some (.int .i64 (n : Int)) := HR.out.cell 1
    have a2 : W.cell? ⟨w.heap.size, 2, none⟩ = some (.int .i64 (f : Int)) := HR.out.cell 2
    have a3 : W.cell? ⟨w.heap.size, 3, none⟩ = some (.int .i64 (r : Int)) := HR.out.cell 3
    have a4 : W.cell? ⟨w.heap.size, 4, none⟩ = some (.int .i64 (c : Int)) := HR.out.cell 4
    have a5 : W.cell? ⟨w.heap.size, 5, none⟩ = some (.int .i64 (b : Int)) := HR.out.cell 5
    rcases ht with hx | ⟨hx, hy⟩
    all_goals
      go_enter Tryd.func17, Tryd.ntmps17
      go_wp2_with fail
      rw [← hW]
      clear hW
      go_wp2_with fail
      clear a0 a1 a2 a3 a4 a5
      have HSS := hide (show ∀ y, Kept [] W y → (fun y : World => y.cell? ⟨w.heap.size, 0, none⟩ = some (.string s) ∧ y.cell? ⟨w.heap.size, 1, none⟩ = some (.int .i64 (n : Int)) ∧ y.cell? ⟨w.heap.size, 2, none⟩ = some (.int .i64 (f : Int)) ∧ y.cell? ⟨w.heap.size, 3, none⟩ = some (.int .i64 (r : Int)) ∧ y.cell? ⟨w.heap.size, 4, none⟩ = some (.int .i64 (c : Int)) ∧ y.cell? ⟨w.heap.size, 5, none⟩ = some (.int .i64 (b : Int))) y from fun y h => ⟨(h.row HR.out (by simp)).cell 0, (h.row HR.out (by simp)).cell 1, (h.row HR.out (by simp)).cell 2, (h.row HR.out (by simp)).cell 3, (h.row HR.out (by simp)).cell 4, (h.row HR.out (by simp)).cell 5⟩)
      refine wp_region_held (S := fun y : World => y.cell? ⟨w.heap.size, 0, none⟩ = some (.string s) ∧ y.cell? ⟨w.heap.size, 1, none⟩ = some (.int .i64 (n : Int)) ∧ y.cell? ⟨w.heap.size, 2, none⟩ = some (.int .i64 (f : Int)) ∧ y.cell? ⟨w.heap.size, 3, none⟩ = some (.int .i64 (r : Int)) ∧ y.cell? ⟨w.heap.size, 4, none⟩ = some (.int .i64 (c : Int)) ∧ y.cell? ⟨w.heap.size, 5, none⟩ = some (.int .i64 (b : Int))) (by kernel_rfl) ?_
      have HX : Hid (Kept [] W { W with drawn := W.drawn + 1 }) := (Kept.refl _ _).drewP
      generalize ({ W with drawn := W.drawn + 1 } : World) = X0 at HX ⊢
      have HS := hide (HSS.out _ HX.out)
      refine wpAnyH_take (i := 0) (oi := _) (v := .pointer (some ⟨w.heap.size, 4, none⟩)) rfl (by kernel_rfl) (by kernel_rfl) (by kernel_rfl) (fun _ _ _ h => h) (Or.inl ⟨by rfl, by intro w hSw; go_split_ands; go_simp⟩) HS.out ?_
      simp only [Act.put, List.getElem_toArray, List.getElem_cons_zero, List.setIfInBounds_toArray, List.set_cons_zero, List.set_cons_succ]
      refine wpAnyH_take (i := 1) (oi := _) (v := .int .i64 (c : Int)) rfl (by kernel_rfl) (by kernel_rfl) (by kernel_rfl) (fun _ _ _ h => h) (Or.inl ⟨by rfl, by intro w hSw; go_split_ands; go_simp⟩) HS.out ?_
      simp only [Act.put, List.getElem_toArray, List.getElem_cons_zero, List.getElem_cons_succ, List.setIfInBounds_toArray, List.set_cons_zero, List.set_cons_succ]
      refine wpAnyH_take (i := 3) (oi := _) (v := .pointer (some ⟨w.heap.size, 5, none⟩)) rfl (by kernel_rfl) (by kernel_rfl) (by kernel_rfl) (fun _ _ _ h => h) (Or.inl ⟨by rfl, by intro w hSw; go_split_ands; go_simp⟩) HS.out ?_
      simp only [Act.put, List.getElem_toArray, List.getElem_cons_zero, List.getElem_cons_succ, List.setIfInBounds_toArray, List.set_cons_zero, List.set_cons_succ]
      refine wpAnyH_take (i := 4) (oi := _) (v := .int .i64 (b : Int)) rfl (by kernel_rfl) (by kernel_rfl) (by kernel_rfl) (fun _ _ _ h => h) (Or.inl ⟨by rfl, by intro w hSw; go_split_ands; go_simp⟩) HS.out ?_
      simp only [Act.put, List.getElem_toArray, List.getElem_cons_zero, List.getElem_cons_succ, List.setIfInBounds_toArray, List.set_cons_zero, List.set_cons_succ]
      refine wpAnyH_ready (rs := [2]) (by kernel_rfl) (by simp) ?_
      refine AllReadyH.cons (o := _) rfl (fun K hK => ?_) AllReadyH.nil
      go_simp
      refine (digitsOf_any c _ C.out.1 C.out.2).mono ?_
      rintro e _ ⟨rfl, rfl⟩
      refine hK.out _ _ HS.out (fun _ => ?_)
      clear hK K
      refine wpAnyH_ready (rs := [5]) (by kernel_rfl) (by simp) ?_
      refine AllReadyH.cons (o := _) rfl (fun K hK => ?_) AllReadyH.nil
      go_simp
      refine (unlessFirst_any b [46] [] _ B.out.1 B.out.2 (by simp) (by simp)).mono ?_
      rintro e X5 ⟨rfl, hbc⟩
      have HX2 := hide (HX.out.below hbc)
      refine hK.out _ _ (HSS.out _ HX2.out) (fun _ => ?_)
      clear hK K HS HX hbc 
      have HX := HX2
      have HS := hide (HSS.out _ HX.out)
      clear HX2
      refine wpAnyH_ready (rs := [6]) (by kernel_rfl) (by simp) ?_
      refine AllReadyH.cons (o := _) rfl (fun K hK => ?_) AllReadyH.nil
      go_simp
      have HT := hide (together_any _ 3 [⟨#[46]⟩, ⟨(digs c).toArray⟩, ⟨(optL [46] b []).toArray⟩] _ (row_new X5 [.string ⟨#[46]⟩, .string ⟨(digs c).toArray⟩, .string ⟨(optL [46] b []).toArray⟩] 9) (by simp) (by simp) (by rw [HL.out]; exact HLN.out))
      rw [HL.out] at HT
      refine hK.out _ _ (HSS.out _ (HX.out.allocP (.cells #[.string ⟨#[46]⟩, .string ⟨(digs c).toArray⟩, .string ⟨(optL [46] b []).toArray⟩] 9))) (fun _ => ?_)
      clear hK K HS
      have HX2 := hide (HX.out.allocP (.cells #[.string ⟨#[46]⟩, .string ⟨(digs c).toArray⟩, .string ⟨(optL [46] b []).toArray⟩] 9))
      clear HX
      have HX := HX2
      clear HX2
      have HS := hide (HSS.out _ HX.out)
      refine wpAnyH_ready (rs := [7]) (by kernel_rfl) (by simp) ?_
      refine AllReadyH.cons (o := _) rfl (fun K hK => ?_) AllReadyH.nil
      go_simp
      refine HT.out.mono ?_
      rintro e X9 ⟨rfl, hbc⟩
      have HX2 := hide (HX.out.below hbc)
      refine hK.out _ _ (HSS.out _ HX2.out) (fun _ => ?_)
      clear hK K HS HX hbc HT
      have HX := HX2
      clear HX2
      have HS := hide (HSS.out _ HX.out)
      refine wpAnyH_take (i := 8) (oi := _) (v := .string ⟨(compL c b).toArray⟩) rfl (by kernel_rfl) (by kernel_rfl) (by kernel_rfl) (fun _ _ _ h => h) (Or.inl ⟨by rfl, by intro w hSw; go_split_ands; go_simp⟩) HS.out ?_
      simp only [Act.put, List.getElem_toArray, List.getElem_cons_zero, List.getElem_cons_succ, List.setIfInBounds_toArray, List.set_cons_zero, List.set_cons_succ]
      refine wpAnyH_done (by kernel_rfl) ?_ _
      have HBF := hide (HX.out.toBelow HB.out HB.out.size (by simp))
      clear HS HSS HX
      go_wp2
      go_ret
      exact ⟨rfl, HBF.out⟩

set_option maxHeartbeats 4000000 in
set_option maxRecDepth 100000 in
theorem implText_right (s : ByteArray) (n f r c b : Nat) (w : World) (hs : s.size = 3) (n0 : n ≠ 0) (n1 : n < 100) (f0 : f ≠ 0) (f1 : f < 100) (r0 : r ≠ 0) (r1 : r < 100) (c0 : c ≠ 0) (c1 : c < 100) (b0 : b ≠ 0) (b1 : b < 100)
    (hq : (PathM.mk s n f r c b).right = true) :
    Calls Tryd.prog 5 #[.agg #[.string s, .int .i64 (n : Int), .int .i64 (f : Int), .int .i64 (r : Int), .int .i64 (c : Int), .int .i64 (b : Int)]] w fun e w' => e = .returned (.string ⟨(pathL s n f r c b).toArray⟩) ∧ Below w.heap.size w w' := by
  obtain ⟨W, hW⟩ : ∃ W, W = w.alloc (.cells #[.string s, .int .i64 (n : Int), .int .i64 (f : Int), .int .i64 (r : Int), .int .i64 (c : Int), .int .i64 (b : Int)] 24) := ⟨_, rfl⟩
  have hB : Below w.heap.size w W := by rw [hW]; exact (Below.refl _ _).alloc (Nat.le_refl _) _
  have HB := hide hB
  have HR : Hid (Row W w.heap.size 24 [.string s, .int .i64 (n : Int), .int .i64 (f : Int), .int .i64 (r : Int), .int .i64 (c : Int), .int .i64 (b : Int)]) := by rw [hW]; exact row_new w [.string s, .int .i64 (n : Int), .int .i64 (f : Int), .int .i64 (r : Int), .int .i64 (c : Int), .int .i64 (b : Int)] 24
  clear hB
  have HL := hide (show (([s, ⟨(optL [91] n [93]).toArray⟩, ⟨#[45]⟩, ⟨(digs f).toArray⟩, ⟨(optL [40] r [41]).toArray⟩, ⟨(compL c b).toArray⟩] : List ByteArray).map (·.data.toList)).flatten = pathL s n f r c b by unfold pathL; simp)
  have HLN := hide (show (pathL s n f r c b).length ≤ 1000 by
    have h1 := optL_len [91] n [93] (by simp) (by simp) n1
    have h2 := digs_len f f1
    have h3 := optL_len [40] r [41] (by simp) (by simp) r1
    have h4 := compL_len c b c1 b1
    unfold pathL
    simp [hs]
    omega)
  have N := hide (And.intro n0 n1)
  have F := hide (And.intro f0 f1)
  have R := hide (And.intro r0 r1)
  have C := hide (And.intro c0 c1)
  have B := hide (And.intro b0 b1)
  have HQ := hide hq
  have HVV : Hid ((PathM.mk s n f r c b).v = .agg #[.string s, .int .i64 (n : Int), .int .i64 (f : Int), .int .i64 (r : Int), .int .i64 (c : Int), .int .i64 (b : Int)]) := rfl
  clear n0 n1 f0 f1 r0 r1 c0 c1 b0 b1 hq hs
  go_enter Tryd.func5, Tryd.ntmps5
  go_wp2_with fail
  rw [← hW, ← HVV.out]
  clear hW
  refine (implPathRight_any (PathM.mk s n f r c b) _).mono ?_
  rw [HQ.out]
  rintro e w1 ⟨rfl, hb1⟩
  have HB1 := hide (HB.out.trans (hb1.mono HB.out.size))
  have HR1 := hide (HR.out.below hb1 HR.out.lt)
  clear hb1 HQ HVV HB HR
  go_wp2_with fail
  have HSS := hide (show ∀ y, Kept [] w1 y → (fun y : World => y.cell? ⟨w.heap.size, 0, none⟩ = some (.string s) ∧ y.cell? ⟨w.heap.size, 1, none⟩ = some (.int .i64 (n : Int)) ∧ y.cell? ⟨w.heap.size, 2, none⟩ = some (.int .i64 (f : Int)) ∧ y.cell? ⟨w.heap.size, 3, none⟩ = some (.int .i64 (r : Int)) ∧ y.cell? ⟨w.heap.size, 4, none⟩ = some (.int .i64 (c : Int)) ∧ y.cell? ⟨w.heap.size, 5, none⟩ = some (.int .i64 (b : Int))) y from fun y h => ⟨(h.row HR1.out (by simp)).cell 0, (h.row HR1.out (by simp)).cell 1, (h.row HR1.out (by simp)).cell 2, (h.row HR1.out (by simp)).cell 3, (h.row HR1.out (by simp)).cell 4, (h.row HR1.out (by simp)).cell 5⟩)
  refine wp_region_held (S := fun y : World => y.cell? ⟨w.heap.size, 0, none⟩ = some (.string s) ∧ y.cell? ⟨w.heap.size, 1, none⟩ = some (.int .i64 (n : Int)) ∧ y.cell? ⟨w.heap.size, 2, none⟩ = some (.int .i64 (f : Int)) ∧ y.cell? ⟨w.heap.size, 3, none⟩ = some (.int .i64 (r : Int)) ∧ y.cell? ⟨w.heap.size, 4, none⟩ = some (.int .i64 (c : Int)) ∧ y.cell? ⟨w.heap.size, 5, none⟩ = some (.int .i64 (b : Int))) (by kernel_rfl) ?_
  have HX : Hid (Kept [] w1 { w1 with drawn := w1.drawn + 1 }) := (Kept.refl _ _).drewP
  generalize ({ w1 with drawn := w1.drawn + 1 } : World) = X0 at HX ⊢
  have HS := hide (HSS.out _ HX.out)
  refine wpAnyH_take (i := 0) (oi := _) (v := .pointer (some ⟨w.heap.size, 0, none⟩)) rfl (by kernel_rfl) (by kernel_rfl) (by kernel_rfl) (fun _ _ _ h => h) (Or.inl ⟨by rfl, by intro w hSw; go_split_ands; go_simp⟩) HS.out ?_
  simp only [Act.put, List.getElem_toArray, List.getElem_cons_zero, List.setIfInBounds_toArray, List.set_cons_zero, List.set_cons_succ]
  refine wpAnyH_take (i := 1) (oi := _) (v := .string s) rfl (by kernel_rfl) (by kernel_rfl) (by kernel_rfl) (fun _ _ _ h => h) (Or.inl ⟨by rfl, by intro w hSw; go_split_ands; go_simp⟩) HS.out ?_
  simp only [Act.put, List.getElem_toArray, List.getElem_cons_zero, List.getElem_cons_succ, List.setIfInBounds_toArray, List.set_cons_zero, List.set_cons_succ]
  refine wpAnyH_take (i := 2) (oi := _) (v := .pointer (some ⟨w.heap.size, 1, none⟩)) rfl (by kernel_rfl) (by kernel_rfl) (by kernel_rfl) (fun _ _ _ h => h) (Or.inl ⟨by rfl, by intro w hSw; go_split_ands; go_simp⟩) HS.out ?_
  simp only [Act.put, List.getElem_toArray, List.getElem_cons_zero, List.getElem_cons_succ, List.setIfInBounds_toArray, List.set_cons_zero, List.set_cons_succ]
  refine wpAnyH_take (i := 3) (oi := _) (v := .int .i64 (n : Int)) rfl (by kernel_rfl) (by kernel_rfl) (by kernel_rfl) (fun _ _ _ h => h) (Or.inl ⟨by rfl, by intro w hSw; go_split_ands; go_simp⟩) HS.out ?_
  simp only [Act.put, List.getElem_toArray, List.getElem_cons_zero, List.getElem_cons_succ, List.setIfInBounds_toArray, List.set_cons_zero, List.set_cons_succ]
  refine wpAnyH_take (i := 5) (oi := _) (v := .pointer (some ⟨w.heap.size, 2, none⟩)) rfl (by kernel_rfl) (by kernel_rfl) (by kernel_rfl) (fun _ _ _ h => h) (Or.inl ⟨by rfl, by intro w hSw; go_split_ands; go_simp⟩) HS.out ?_
  simp only [Act.put, List.getElem_toArray, List.getElem_cons_zero, List.getElem_cons_succ, List.setIfInBounds_toArray, List.set_cons_zero, List.set_cons_succ]
  refine wpAnyH_take (i := 6) (oi := _) (v := .int .i64 (f : Int)) rfl (by kernel_rfl) (by kernel_rfl) (by kernel_rfl) (fun _ _ _ h => h) (Or.inl ⟨by rfl, by intro w hSw; go_split_ands; go_simp⟩) HS.out ?_
  simp only [Act.put, List.getElem_toArray, List.getElem_cons_zero, List.getElem_cons_succ, List.setIfInBounds_toArray, List.set_cons_zero, List.set_cons_succ]
  refine wpAnyH_take (i := 8) (oi := _) (v := .pointer (some ⟨w.heap.size, 3, none⟩)) rfl (by kernel_rfl) (by kernel_rfl) (by kernel_rfl) (fun _ _ _ h => h) (Or.inl ⟨by rfl, by intro w hSw; go_split_ands; go_simp⟩) HS.out ?_
  simp only [Act.put, List.getElem_toArray, List.getElem_cons_zero, List.getElem_cons_succ, List.setIfInBounds_toArray, List.set_cons_zero, List.set_cons_succ]
  refine wpAnyH_take (i := 9) (oi := _) (v := .int .i64 (r : Int)) rfl (by kernel_rfl) (by kernel_rfl) (by kernel_rfl) (fun _ _ _ h => h) (Or.inl ⟨by rfl, by intro w hSw; go_split_ands; go_simp⟩) HS.out ?_
  simp only [Act.put, List.getElem_toArray, List.getElem_cons_zero, List.getElem_cons_succ, List.setIfInBounds_toArray, List.set_cons_zero, List.set_cons_succ]
  refine wpAnyH_take (i := 11) (oi := _) (v := .agg #[.string s, .int .i64 (n : Int), .int .i64 (f : Int), .int .i64 (r : Int), .int .i64 (c : Int), .int .i64 (b : Int)]) rfl (by kernel_rfl) (by kernel_rfl) (by kernel_rfl) (fun _ _ _ h => h) (Or.inl ⟨by rfl, by intro w hSw; go_split_ands; go_simp⟩) HS.out ?_
  simp only [Act.put, List.getElem_toArray, List.getElem_cons_zero, List.getElem_cons_succ, List.setIfInBounds_toArray, List.set_cons_zero, List.set_cons_succ]
  refine wpAnyH_ready (rs := [4]) (by kernel_rfl) (by simp) ?_
  refine AllReadyH.cons (o := _) rfl (fun K hK => ?_) AllReadyH.nil
  go_simp
  refine (unlessFirst_any n [91] [93] _ N.out.1 N.out.2 (by simp) (by simp)).mono ?_
  rintro e X5 ⟨rfl, hbc⟩
  have HX2 := hide (HX.out.below hbc)
  refine hK.out _ _ (HSS.out _ HX2.out) (fun _ => ?_)
  clear hK K HS HX hbc 
  have HX := HX2
  have HS := hide (HSS.out _ HX.out)
  clear HX2
  refine wpAnyH_ready (rs := [7]) (by kernel_rfl) (by simp) ?_
  refine AllReadyH.cons (o := _) rfl (fun K hK => ?_) AllReadyH.nil
  go_simp
  refine (digitsOf_any f _ F.out.1 F.out.2).mono ?_
  rintro e _ ⟨rfl, rfl⟩
  refine hK.out _ _ HS.out (fun _ => ?_)
  clear hK K
  refine wpAnyH_ready (rs := [10]) (by kernel_rfl) (by simp) ?_
  refine AllReadyH.cons (o := _) rfl (fun K hK => ?_) AllReadyH.nil
  go_simp
  refine (unlessFirst_any r [40] [41] _ R.out.1 R.out.2 (by simp) (by simp)).mono ?_
  rintro e X6 ⟨rfl, hbc⟩
  have HX2 := hide (HX.out.below hbc)
  refine hK.out _ _ (HSS.out _ HX2.out) (fun _ => ?_)
  clear hK K HS HX hbc 
  have HX := HX2
  have HS := hide (HSS.out _ HX.out)
  clear HX2
  refine wpAnyH_ready (rs := [12]) (by kernel_rfl) (by simp) ?_
  refine AllReadyH.cons (o := _) rfl (fun K hK => ?_) AllReadyH.nil
  go_simp
  refine (compText_any s n f r c b _ C.out.1 C.out.2 B.out.1 B.out.2).mono ?_
  rintro e X7 ⟨rfl, hbc⟩
  have HX2 := hide (HX.out.below hbc)
  refine hK.out _ _ (HSS.out _ HX2.out) (fun _ => ?_)
  clear hK K HS HX hbc 
  have HX := HX2
  have HS := hide (HSS.out _ HX.out)
  clear HX2
  refine wpAnyH_ready (rs := [13]) (by kernel_rfl) (by simp) ?_
  refine AllReadyH.cons (o := _) rfl (fun K hK => ?_) AllReadyH.nil
  go_simp
  have HT := hide (together_any _ 6 [s, ⟨(optL [91] n [93]).toArray⟩, ⟨#[45]⟩, ⟨(digs f).toArray⟩, ⟨(optL [40] r [41]).toArray⟩, ⟨(compL c b).toArray⟩] _ (row_new X7 [.string s, .string ⟨(optL [91] n [93]).toArray⟩, .string ⟨#[45]⟩, .string ⟨(digs f).toArray⟩, .string ⟨(optL [40] r [41]).toArray⟩, .string ⟨(compL c b).toArray⟩] 9) (by simp) (by simp) (by rw [HL.out]; exact HLN.out))
  rw [HL.out] at HT
  refine hK.out _ _ (HSS.out _ (HX.out.allocP (.cells #[.string s, .string ⟨(optL [91] n [93]).toArray⟩, .string ⟨#[45]⟩, .string ⟨(digs f).toArray⟩, .string ⟨(optL [40] r [41]).toArray⟩, .string ⟨(compL c b).toArray⟩] 9))) (fun _ => ?_)
  clear hK K HS
  have HX2 := hide (HX.out.allocP (.cells #[.string s, .string ⟨(optL [91] n [93]).toArray⟩, .string ⟨#[45]⟩, .string ⟨(digs f).toArray⟩, .string ⟨(optL [40] r [41]).toArray⟩, .string ⟨(compL c b).toArray⟩] 9))
  clear HX
  have HX := HX2
  clear HX2
  have HS := hide (HSS.out _ HX.out)
  refine wpAnyH_ready (rs := [14]) (by kernel_rfl) (by simp) ?_
  refine AllReadyH.cons (o := _) rfl (fun K hK => ?_) AllReadyH.nil
  go_simp
  refine HT.out.mono ?_
  rintro e X9 ⟨rfl, hbc⟩
  have HX2 := hide (HX.out.below hbc)
  refine hK.out _ _ (HSS.out _ HX2.out) (fun _ => ?_)
  clear hK K HS HX hbc HT
  have HX := HX2
  clear HX2
  have HS := hide (HSS.out _ HX.out)
  refine wpAnyH_take (i := 15) (oi := _) (v := .string ⟨(pathL s n f r c b).toArray⟩) rfl (by kernel_rfl) (by kernel_rfl) (by kernel_rfl) (fun _ _ _ h => h) (Or.inl ⟨by rfl, by intro w hSw; go_split_ands; go_simp⟩) HS.out ?_
  simp only [Act.put, List.getElem_toArray, List.getElem_cons_zero, List.getElem_cons_succ, List.setIfInBounds_toArray, List.set_cons_zero, List.set_cons_succ]
  refine wpAnyH_done (by kernel_rfl) ?_ _
  have HBF := hide (HX.out.toBelow HB1.out HB1.out.size (by simp))
  clear HS HSS HX
  go_wp2
  go_ret
  exact ⟨rfl, HBF.out⟩
end Go.Proofs.YtjcbojgomcakeaaDoor
