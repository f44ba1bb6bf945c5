/- The Fields of a line that are read: of the program. -/
import Derived.Test.YtckcfjibiidafaaGreatXG29OSpecF
import Derived.Test.YtckcfjibiidafaaGreatXG1FIdx
namespace Go.Proofs.YtckcfjibiidafaaGreat
open Go.RowKit
theorem RL.restR {α : Type} {B g off n cap : Nat} {R : World → Value → α → Prop} {w : World} {xs : List α} (h : RL B R w (.slice (some ⟨g, off, none⟩) n cap) xs) (h1 : 1 ≤ xs.length) : RL B R w (.slice (some ⟨g, off + 1, none⟩) (n - 1) (cap - 1)) (xs.drop 1) := by
  obtain ⟨p, c, e, h2, h3, h4⟩ := h
  simp only [Value.slice.injEq] at e
  obtain ⟨rfl, rfl, rfl⟩ := e
  refine ⟨_, _, by rw [List.length_drop], by rw [List.length_drop]; omega, by omega, fun h0 => ?_⟩
  obtain ⟨g2, off2, e2, hg, hB, hc⟩ := h4 (by omega)
  cases e2
  rw [List.length_drop] at h0
  refine ⟨g, off + 1, rfl, hg, hB, fun i hi => ?_⟩
  rw [List.length_drop] at hi
  obtain ⟨u, hu, hr⟩ := hc (1 + i) (by omega)
  refine ⟨u, by rw [Nat.add_assoc]; exact hu, ?_⟩
  rw [List.getElem_drop]
  exact hr
theorem RL.lastR {α : Type} {B g off n cap : Nat} {R : World → Value → α → Prop} {w : World} {xs : List α} (h : RL B R w (.slice (some ⟨g, off, none⟩) n cap) xs) (h1 : xs.length = 1) : RL B R w (.slice (some ⟨g, off, none⟩) (n - 1) 0) (xs.drop 1) := by
  obtain ⟨p, c, e, h2, h3, h4⟩ := h
  simp only [Value.slice.injEq] at e
  obtain ⟨rfl, rfl, rfl⟩ := e
  have hd : (xs.drop 1).length = 0 := by rw [List.length_drop]; omega
  exact ⟨_, _, by rw [hd, h1], by omega, by unfold maxLen; omega, fun h0 => by omega⟩
def fldsP (m : ByteArray) (L : List UInt8) : Option (List (List (List (List ByteArray)))) := match piecesL (bAt m 0) L with
  | [] => some []
  | p :: r => if p = [] then mapO (fldQ m) r else none
set_option maxHeartbeats 8000000 in
set_option maxRecDepth 100000 in
theorem fieldsR_any (m s : ByteArray) (w : World) (hm : marksB m = true) (hs : s.size ≤ 900000) :
    Calls Tryz.prog 50 #[.agg #[.string m, .bool false], .string s] w fun e w' => ListRes 54 OFld w.heap.size (fldsP m s.data.toList) e w' ∧ Below w.heap.size w w' := by
  have h5 := marksB_five hm
  have h4 : 0 < m.size := by omega
  have hc : (m[0]'h4).toNat < 128 := by
    have := mark_plain hm 0 (by omega)
    rw [bAt_get m 0 h4] at this
    simp only [plainR, decide_eq_true_eq] at this
    omega
  have hl : s.data.toList.length = s.size := bytes_len s
  have HPL := hide (piecesL_len (m[0]'h4) s.data.toList)
  rw [hl] at HPL
  obtain ⟨R, hR⟩ : ∃ R, R = fldsP m s.data.toList := ⟨_, rfl⟩
  have HR := hide (show R = (match piecesL (m[0]'h4) s.data.toList with | [] => some [] | p :: r => if p = [] then mapO (fldQ m) r else none) by rw [hR, ← bAt_get m 0 h4]; rfl)
  rw [← hR]
  clear hR hl
  have HC := hide hc
  clear hc
  obtain ⟨W, hW⟩ : ∃ W, W = w.alloc (.cells #[.string m, .bool false] 47) := ⟨_, rfl⟩
  have HBW := hide (show Below w.heap.size w W by rw [hW]; exact (Below.refl _ _).alloc (Nat.le_refl _) _)
  have HR1 := hide (show Row W w.heap.size 47 [.string m, .bool false] by rw [hW]; exact row_new w _ _)
  have HSS := hide (show ∀ y, Below W.heap.size W y → (fun y : World => y.cell? ⟨w.heap.size, 0, none⟩ = some (.string m) ∧ y.cell? ⟨w.heap.size, 1, none⟩ = some (.bool false)) y from fun y h => ⟨(HR1.out.below h HR1.out.lt).cell 0, (HR1.out.below h HR1.out.lt).cell 1⟩)
  go_enter Tryz.func50, Tryz.ntmps50
  go_wp2_with fail
  rw [← hW]
  clear hW
  refine (cutAt_any s (m[0]'h4) _ (by omega) HC.out).mono ?_
  rintro e Z1 ⟨v1, rfl, ho1, hb1⟩
  have HX1 := hide hb1
  have ho2 : RComp 0 Z1 v1 ((piecesL (m[0]'h4) s.data.toList).map asB) := RComp.mono (OS.rl (os_of_own (by rw [strs_pieces, List.length_map]; exact ho1) (fun x hx => by
    obtain ⟨p, hp, rfl⟩ := List.mem_map.1 hx
    rw [asB_size]
    have := HPL.out.2 p hp
    unfold maxLen; omega))) (Nat.zero_le _)
  clear ho1 hb1
  cases hP : piecesL (m[0]'h4) s.data.toList with
  | nil =>
    rw [hP] at ho2 HR
    obtain ⟨p, cap, rfl, _, _, _⟩ := ho2
    have HE := hide (HBW.out.trans (HX1.out.mono HBW.out.size))
    clear hP
    go_wp2
    exact bodyPost_ret (v := .tuple #[.slice none 0 0, .bool true]) (by simp [results, Tryz.results50, go_sem]) rfl ⟨⟨_, true, [], rfl, ⟨none, 0, rfl, Nat.le_refl _, by unfold maxLen; omega, fun h => by simp at h⟩, by rw [HR.out]; rfl⟩, HE.out⟩
  | cons p0 r =>
    rw [hP] at ho2 HR HPL
    have hr2 := ho2
    obtain ⟨p, cap, rfl, h1, _, h3⟩ := ho2
    obtain ⟨g, off, rfl, hg, _, hcc⟩ := h3 (by simp)
    obtain ⟨u0, hu0, rfl, _⟩ := hcc 0 (by simp)
    have hk0 : Z1.cell? ⟨g, off, none⟩ = some (.string (asB p0)) := by simpa using hu0
    have HLN := hide (show r.length ≤ 900000 by have := HPL.out.1; simp only [List.length_cons] at this; omega)
    have HSZ := hide (show ∀ x ∈ r.map asB, x.size ≤ 900000 from fun x hx => by
      obtain ⟨p, hp, rfl⟩ := List.mem_map.1 hx
      rw [asB_size]
      have := HPL.out.2 p (List.mem_cons_of_mem _ hp)
      omega)
    have hn1 : ((p0 :: r).map asB).length = r.length + 1 := by simp
    have hd1 : ((p0 :: r).map asB).drop 1 = r.map asB := rfl
    have h1' : r.length + 1 ≤ cap := by rw [← hn1]; exact h1
    have hrl : cap = 1 → RComp 0 Z1 (.slice (some ⟨g, off, none⟩) (r.length + 1 - 1) 0) (r.map asB) := fun e => by
      have := RL.lastR hr2 (by rw [hn1]; omega)
      rw [hn1, hd1] at this; exact this
    have hrr : RComp 0 Z1 (.slice (some ⟨g, off + 1, none⟩) (r.length + 1 - 1) (cap - 1)) (r.map asB) := by
      have := RL.restR hr2 (by rw [hn1]; omega)
      rw [hn1, hd1] at this; exact this
    rw [hn1]
    rw [Nat.add_sub_cancel] at hrr
    simp only [Nat.add_sub_cancel] at hrl
    have HRL := hide hrl
    have HRR0 := hide hrr
    clear hP hr2 h1 h3 hcc hu0 hn1 hd1 hrl hrr
    have hnz : ¬ ((r.length + 1 : Nat) : Int) = 0 := by omega
    have h1z : ¬ ((r.length : Int) + 1 < 1) := by omega
    have hpos : (0 : Int) < ((r.length + 1 : Nat) : Int) := by omega
    cases p0 with
    | nil =>
      have HQ := hide (show R = mapO (fldQ m) r by rw [HR.out]; rfl)
      have he : ((asB []).toList == []) = true := by
        rw [show asB [] = ⟨#[]⟩ from rfl]
        simp
      by_cases hcp : cap = 1
      · go_wp2_with fail
        refine wp_region_held (S := (fun y : World => y.cell? ⟨w.heap.size, 0, none⟩ = some (.string m) ∧ y.cell? ⟨w.heap.size, 1, none⟩ = some (.bool false))) (by kernel_rfl) ?_
        have HX := hide (show Below Z1.heap.size Z1 { Z1 with drawn := Z1.drawn + 1 } from (Below.refl _ _).drew)
        generalize ({ Z1 with drawn := Z1.drawn + 1 } : World) = Z at HX ⊢
        have HXW := hide (HX1.out.trans (HX.out.mono HX1.out.size))
        have HS := hide (HSS.out _ HXW.out)
        have HRR := hide (show RComp 0 Z (.slice (some ⟨g, off, none⟩) r.length 0) (r.map asB) from RL.below (HRL.out hcp) HX.out)
        refine wpAnyH_take (i := 0) (oi := _) (v := .agg #[.string m, .bool false]) rfl (by kernel_rfl) (by kernel_rfl) (by kernel_rfl) (fun _ _ _ h => h) (Or.inl ⟨by rfl, by intro w hSw; go_split_ands; go_simp⟩) HS.out ?_
        simp only [Act.put, List.getElem_toArray, List.getElem_cons_zero, List.setIfInBounds_toArray, List.set_cons_zero, List.set_cons_succ]
        refine wpAnyH_take (i := 1) (oi := _) (v := .slice (some ⟨g, off, none⟩) (r.length + 1) cap) rfl (by kernel_rfl) (by kernel_rfl) (by kernel_rfl) (fun _ _ _ h => h) (Or.inl ⟨by rfl, by intro w hSw; go_split_ands; go_simp⟩) HS.out ?_
        simp only [Act.put, List.getElem_toArray, List.getElem_cons_zero, List.getElem_cons_succ, List.setIfInBounds_toArray, List.set_cons_zero, List.set_cons_succ]
        refine wpAnyH_take (i := 2) (oi := _) (v := .slice (some ⟨g, off, none⟩) r.length 0) rfl (by kernel_rfl) (by kernel_rfl) (by kernel_rfl) (fun _ _ _ h => h) (Or.inl ⟨by rfl, by intro w hSw; go_split_ands; go_simp⟩) HS.out ?_
        simp only [Act.put, List.getElem_toArray, List.getElem_cons_zero, List.getElem_cons_succ, List.setIfInBounds_toArray, List.set_cons_zero, List.set_cons_succ]
        refine wpAnyH_take (i := 3) (oi := _) (v := .agg #[.string m, .bool false]) rfl (by kernel_rfl) (by kernel_rfl) (by kernel_rfl) (fun _ _ _ h => h) (Or.inl ⟨by rfl, by intro w hSw; go_split_ands; go_simp⟩) HS.out ?_
        simp only [Act.put, List.getElem_toArray, List.getElem_cons_zero, List.getElem_cons_succ, List.setIfInBounds_toArray, List.set_cons_zero, List.set_cons_succ]
        refine wpAnyH_take (i := 4) (oi := _) (v := .func (.func 65) #[.agg #[.string m, .bool false]] #[]) rfl (by kernel_rfl) (by kernel_rfl) (by kernel_rfl) (fun _ _ _ h => h) (Or.inl ⟨by rfl, by intro w hSw; go_split_ands; go_simp⟩) HS.out ?_
        simp only [Act.put, List.getElem_toArray, List.getElem_cons_zero, List.getElem_cons_succ, List.setIfInBounds_toArray, List.set_cons_zero, List.set_cons_succ]
        refine wpAnyH_ready (rs := [5]) (by kernel_rfl) (by simp) ?_
        refine AllReadyH.cons (o := _) rfl (fun K hK => ?_) AllReadyH.nil
        go_simp
        refine (readList_field m _ (r.map asB) _ hm (by rw [List.length_map]; have := HLN.out; omega) HSZ.out HRR.out).mono ?_
        rintro e Z2 ⟨⟨u, b, xs, rfl, hxs, hRb⟩, hb2⟩
        have HX2 := hide (HXW.out.trans (hb2.mono HXW.out.size))
        have HXS := hide (show OL 54 OFld w.heap.size Z2.heap.size Z2 u xs from Keeps.wide (Nat.le_trans HBW.out.size HXW.out.size) (Nat.le_refl _) hxs)
        have HRB := hide hRb
        clear hb2 hxs hRb
        refine hK.out _ _ (HSS.out _ HX2.out) (fun _ => ?_)
        clear hK K HS
        have HS := hide (HSS.out _ HX2.out)
        refine wpAnyH_take (i := 6) (oi := _) (v := u) rfl (by kernel_rfl) (by kernel_rfl) (by kernel_rfl) (fun _ _ _ h => h) (Or.inl ⟨by rfl, by intro w hSw; go_split_ands; go_simp⟩) HS.out ?_
        simp only [Act.put, List.getElem_toArray, List.getElem_cons_zero, List.getElem_cons_succ, List.setIfInBounds_toArray, List.set_cons_zero, List.set_cons_succ]
        refine wpAnyH_take (i := 7) (oi := _) (v := .bool b) rfl (by kernel_rfl) (by kernel_rfl) (by kernel_rfl) (fun _ _ _ h => h) (Or.inl ⟨by rfl, by intro w hSw; go_split_ands; go_simp⟩) HS.out ?_
        simp only [Act.put, List.getElem_toArray, List.getElem_cons_zero, List.getElem_cons_succ, List.setIfInBounds_toArray, List.set_cons_zero, List.set_cons_succ]
        refine wpAnyH_take (i := 8) (oi := _) (v := u) rfl (by kernel_rfl) (by kernel_rfl) (by kernel_rfl) (fun _ _ _ h => h) (Or.inl ⟨by rfl, by intro w hSw; go_split_ands; go_simp⟩) HS.out ?_
        simp only [Act.put, List.getElem_toArray, List.getElem_cons_zero, List.getElem_cons_succ, List.setIfInBounds_toArray, List.set_cons_zero, List.set_cons_succ]
        refine wpAnyH_take (i := 9) (oi := _) (v := .bool b) rfl (by kernel_rfl) (by kernel_rfl) (by kernel_rfl) (fun _ _ _ h => h) (Or.inl ⟨by rfl, by intro w hSw; go_split_ands; go_simp⟩) HS.out ?_
        simp only [Act.put, List.getElem_toArray, List.getElem_cons_zero, List.getElem_cons_succ, List.setIfInBounds_toArray, List.set_cons_zero, List.set_cons_succ]
        refine wpAnyH_done (by kernel_rfl) ?_ _
        have HBE := hide (HBW.out.trans (HX2.out.mono HBW.out.size))
        go_wp2
        exact bodyPost_ret (v := .tuple #[u, .bool b]) (by simp [results, Tryz.results50, go_sem]) rfl ⟨⟨u, b, xs, rfl, HXS.out, by rw [HQ.out, ← HRB.out, mapO_comp]; simp [asB]⟩, HBE.out⟩
      · go_wp2_with fail
        refine wp_region_held (S := (fun y : World => y.cell? ⟨w.heap.size, 0, none⟩ = some (.string m) ∧ y.cell? ⟨w.heap.size, 1, none⟩ = some (.bool false))) (by kernel_rfl) ?_
        have HX := hide (show Below Z1.heap.size Z1 { Z1 with drawn := Z1.drawn + 1 } from (Below.refl _ _).drew)
        generalize ({ Z1 with drawn := Z1.drawn + 1 } : World) = Z at HX ⊢
        have HXW := hide (HX1.out.trans (HX.out.mono HX1.out.size))
        have HS := hide (HSS.out _ HXW.out)
        have HRR := hide (show RComp 0 Z (.slice (some ⟨g, off + 1, none⟩) r.length (cap - 1)) (r.map asB) from RL.below HRR0.out HX.out)
        refine wpAnyH_take (i := 0) (oi := _) (v := .agg #[.string m, .bool false]) rfl (by kernel_rfl) (by kernel_rfl) (by kernel_rfl) (fun _ _ _ h => h) (Or.inl ⟨by rfl, by intro w hSw; go_split_ands; go_simp⟩) HS.out ?_
        simp only [Act.put, List.getElem_toArray, List.getElem_cons_zero, List.setIfInBounds_toArray, List.set_cons_zero, List.set_cons_succ]
        refine wpAnyH_take (i := 1) (oi := _) (v := .slice (some ⟨g, off, none⟩) (r.length + 1) cap) rfl (by kernel_rfl) (by kernel_rfl) (by kernel_rfl) (fun _ _ _ h => h) (Or.inl ⟨by rfl, by intro w hSw; go_split_ands; go_simp⟩) HS.out ?_
        simp only [Act.put, List.getElem_toArray, List.getElem_cons_zero, List.getElem_cons_succ, List.setIfInBounds_toArray, List.set_cons_zero, List.set_cons_succ]
        refine wpAnyH_take (i := 2) (oi := _) (v := .slice (some ⟨g, off + 1, none⟩) r.length (cap - 1)) rfl (by kernel_rfl) (by kernel_rfl) (by kernel_rfl) (fun _ _ _ h => h) (Or.inl ⟨by rfl, by intro w hSw; go_split_ands; go_simp⟩) HS.out ?_
        simp only [Act.put, List.getElem_toArray, List.getElem_cons_zero, List.getElem_cons_succ, List.setIfInBounds_toArray, List.set_cons_zero, List.set_cons_succ]
        refine wpAnyH_take (i := 3) (oi := _) (v := .agg #[.string m, .bool false]) rfl (by kernel_rfl) (by kernel_rfl) (by kernel_rfl) (fun _ _ _ h => h) (Or.inl ⟨by rfl, by intro w hSw; go_split_ands; go_simp⟩) HS.out ?_
        simp only [Act.put, List.getElem_toArray, List.getElem_cons_zero, List.getElem_cons_succ, List.setIfInBounds_toArray, List.set_cons_zero, List.set_cons_succ]
        refine wpAnyH_take (i := 4) (oi := _) (v := .func (.func 65) #[.agg #[.string m, .bool false]] #[]) rfl (by kernel_rfl) (by kernel_rfl) (by kernel_rfl) (fun _ _ _ h => h) (Or.inl ⟨by rfl, by intro w hSw; go_split_ands; go_simp⟩) HS.out ?_
        simp only [Act.put, List.getElem_toArray, List.getElem_cons_zero, List.getElem_cons_succ, List.setIfInBounds_toArray, List.set_cons_zero, List.set_cons_succ]
        refine wpAnyH_ready (rs := [5]) (by kernel_rfl) (by simp) ?_
        refine AllReadyH.cons (o := _) rfl (fun K hK => ?_) AllReadyH.nil
        go_simp
        refine (readList_field m _ (r.map asB) _ hm (by rw [List.length_map]; have := HLN.out; omega) HSZ.out HRR.out).mono ?_
        rintro e Z2 ⟨⟨u, b, xs, rfl, hxs, hRb⟩, hb2⟩
        have HX2 := hide (HXW.out.trans (hb2.mono HXW.out.size))
        have HXS := hide (show OL 54 OFld w.heap.size Z2.heap.size Z2 u xs from Keeps.wide (Nat.le_trans HBW.out.size HXW.out.size) (Nat.le_refl _) hxs)
        have HRB := hide hRb
        clear hb2 hxs hRb
        refine hK.out _ _ (HSS.out _ HX2.out) (fun _ => ?_)
        clear hK K HS
        have HS := hide (HSS.out _ HX2.out)
        refine wpAnyH_take (i := 6) (oi := _) (v := u) rfl (by kernel_rfl) (by kernel_rfl) (by kernel_rfl) (fun _ _ _ h => h) (Or.inl ⟨by rfl, by intro w hSw; go_split_ands; go_simp⟩) HS.out ?_
        simp only [Act.put, List.getElem_toArray, List.getElem_cons_zero, List.getElem_cons_succ, List.setIfInBounds_toArray, List.set_cons_zero, List.set_cons_succ]
        refine wpAnyH_take (i := 7) (oi := _) (v := .bool b) rfl (by kernel_rfl) (by kernel_rfl) (by kernel_rfl) (fun _ _ _ h => h) (Or.inl ⟨by rfl, by intro w hSw; go_split_ands; go_simp⟩) HS.out ?_
        simp only [Act.put, List.getElem_toArray, List.getElem_cons_zero, List.getElem_cons_succ, List.setIfInBounds_toArray, List.set_cons_zero, List.set_cons_succ]
        refine wpAnyH_take (i := 8) (oi := _) (v := u) rfl (by kernel_rfl) (by kernel_rfl) (by kernel_rfl) (fun _ _ _ h => h) (Or.inl ⟨by rfl, by intro w hSw; go_split_ands; go_simp⟩) HS.out ?_
        simp only [Act.put, List.getElem_toArray, List.getElem_cons_zero, List.getElem_cons_succ, List.setIfInBounds_toArray, List.set_cons_zero, List.set_cons_succ]
        refine wpAnyH_take (i := 9) (oi := _) (v := .bool b) rfl (by kernel_rfl) (by kernel_rfl) (by kernel_rfl) (fun _ _ _ h => h) (Or.inl ⟨by rfl, by intro w hSw; go_split_ands; go_simp⟩) HS.out ?_
        simp only [Act.put, List.getElem_toArray, List.getElem_cons_zero, List.getElem_cons_succ, List.setIfInBounds_toArray, List.set_cons_zero, List.set_cons_succ]
        refine wpAnyH_done (by kernel_rfl) ?_ _
        have HBE := hide (HBW.out.trans (HX2.out.mono HBW.out.size))
        go_wp2
        exact bodyPost_ret (v := .tuple #[u, .bool b]) (by simp [results, Tryz.results50, go_sem]) rfl ⟨⟨u, b, xs, rfl, HXS.out, by rw [HQ.out, ← HRB.out, mapO_comp]; simp [asB]⟩, HBE.out⟩
    | cons a q =>
      have HQ := hide (show R = none by rw [HR.out]; rfl)
      have he : ((asB (a :: q)).toList == []) = false := by
        have h0 : asB (a :: q) ≠ ⟨#[]⟩ := fun e => by
          have h2 := congrArg ByteArray.size e
          rw [asB_size] at h2
          exact absurd h2 (Nat.succ_ne_zero _)
        simpa using toList_neF h0
      have HE := hide (HBW.out.trans (HX1.out.mono HBW.out.size))
      go_wp2
      exact bodyPost_ret (v := .tuple #[.slice none 0 0, .bool false]) (by simp [results, Tryz.results50, go_sem]) rfl ⟨⟨_, false, [], rfl, ⟨none, 0, rfl, Nat.le_refl _, by unfold maxLen; omega, fun h => by simp at h⟩, by rw [HQ.out]; rfl⟩, HE.out⟩
end Go.Proofs.YtckcfjibiidafaaGreat
/- The Name of a Segment: of the model and of the program. -/
namespace Go.Proofs.YtckcfjibiidafaaGreat
open Go.RowKit
def nmAt (s : ByteArray) (j : Nat) : Bool := if h : j < s.size then digCapB ((s[j]'h).toNat : Int) && !(decide (j = 0) && decide (((s[j]'h).toNat : Int) ≤ 57)) else true
def name3 (s : ByteArray) : Bool := decide (s.size = 3) && (List.range s.size).all (nmAt s)
theorem name3_size {s : ByteArray} (h : s.size ≠ 3) : name3 s = false := by simp [name3, h]
theorem name3_yes {s : ByteArray} (h1 : s.size = 3) (h : ∀ j, j < s.size → nmAt s j = true) : name3 s = true := by
  simp only [name3, Bool.and_eq_true, decide_eq_true_eq]
  exact ⟨h1, List.all_eq_true.2 fun j hj => h j (List.mem_range.1 hj)⟩
theorem name3_no {s : ByteArray} (k : Nat) (hk : k < s.size) (h : nmAt s k = false) : name3 s = false := by
  simp only [name3, Bool.and_eq_false_iff]
  exact .inr (List.all_eq_false.2 ⟨k, List.mem_range.2 hk, by simp [h]⟩)
theorem nmAt_eq (s : ByteArray) (k : Nat) (hk : k < s.size) : nmAt s k = (digCapB ((s[k]'hk).toNat : Int) && !(decide (k = 0) && decide (((s[k]'hk).toNat : Int) ≤ 57))) := by simp [nmAt, hk]
theorem nmAt_succ (s : ByteArray) (k : Nat) (h : ∀ j, j < k → nmAt s j = true) (hk : nmAt s k = true) : ∀ j, j < k + 1 → nmAt s j = true := by
  intro j hj
  by_cases e : j = k
  · rw [e]; exact hk
  · exact h j (by omega)
set_option maxHeartbeats 2000000 in
theorem l04Name_any (s : ByteArray) (w : World) :
    Calls Tryz.prog 42 #[.string s] w fun e w' => e = .returned (.bool (name3 s)) ∧ w' = w := by
  by_cases h3 : (s.size : Int) = 3
  · have HS : s.size = 3 := by omega
    have hne : ((s.size : Int) != 3) = false := by simp [h3]
    have b0 : 0 < s.size := by omega
    have H0 := hideF (nmAt_eq s 0 b0)
    by_cases h65 : ((s[0]'b0).toNat : Int) < 65
    · go_enter Tryz.func42, Tryz.ntmps42
      go_wp2
      go_ret
      exact ⟨ret_boolF (name3_no 0 b0 (by rw [H0.out]; simp [digCapB]; omega)).symm, rfl⟩
    by_cases h90 : 90 < ((s[0]'b0).toNat : Int)
    · go_enter Tryz.func42, Tryz.ntmps42
      go_wp2
      go_ret
      exact ⟨ret_boolF (name3_no 0 b0 (by rw [H0.out]; simp [digCapB]; omega)).symm, rfl⟩
    have HZ := hideF (show nmAt s 0 = true by rw [H0.out]; simp [digCapB]; omega)
    go_enter Tryz.func42, Tryz.ntmps42
    go_wp2
    go_loop [3] (fun i => ∃ k : Nat, 1 ≤ k ∧ k ≤ 3 ∧ i = .int .i64 k ∧ Hid (∀ j, j < k → nmAt s j = true)) (fun i => 3 - (intOf i).toNat)
    case atStart => exact ⟨1, Nat.le_refl _, by omega, rfl, fun j hj => by rw [show j = 0 by omega]; exact HZ.out⟩
    case round =>
      obtain ⟨k, hk1, hk, rfl, HA⟩ := hrel
      by_cases hlt : k < 3
      · have hlt' : k < s.size := by omega
        have HO := hideF (nmAt_eq s k hlt')
        rcases rune_parts ((s[k]'hlt').toNat : Int) with h | ⟨h, h'⟩ | ⟨h, h'⟩ | ⟨h, h'⟩ | h
        all_goals go_wp2
        all_goals first
          | (go_ret; exact ⟨ret_boolF (name3_no k hlt' (by rw [HO.out]; simp [digCapB]; omega)).symm, rfl⟩)
          | (go_round
             case rel => exact ⟨k + 1, by omega, by omega, by go_num, nmAt_succ s k HA.out (by rw [HO.out]; simp [digCapB]; omega)⟩
             case measure => simp [intOf]; omega)
          | (exfalso; simp at *; omega)
      · go_wp2
        go_ret
        exact ⟨ret_boolF (name3_yes HS (fun j hj => HA.out j (by omega))).symm, rfl⟩
  · have hne : ((s.size : Int) != 3) = true := by simpa using h3
    go_enter Tryz.func42, Tryz.ntmps42
    go_wp2
    go_ret
    exact ⟨ret_boolF (name3_size (by omega)).symm, rfl⟩

theorem digCap_high (r : Int) (h : 128 ≤ r) : digCapB r = false := by simp [digCapB]; omega
set_option maxHeartbeats 2000000 in
theorem nameRight3_any (s : ByteArray) (w : World) :
    Calls Tryz.prog 66 #[.string s] w fun e w' => e = .returned (.bool (name3 s)) ∧ Below w.heap.size w w' := by
  by_cases h3 : (s.size : Int) = 3
  · have HS : s.size = 3 := by omega
    have hne : ((s.size : Int) != 3) = false := by simp [h3]
    go_enter Tryz.func66, Tryz.ntmps66
    go_wp2
    go_loopw [] (fun w' => ∃ k : Nat, k ≤ 3 ∧ w' = w.iter s k ∧ ∀ j, j < k → nmAt s j = true) (fun w' => s.size - w'.iterPos w.heap.size)
    case atStart => exact ⟨0, Nat.zero_le _, rfl, fun j hj => absurd hj (by omega)⟩
    case round =>
      obtain ⟨k, hk, rfl, hall⟩ := hrel
      have HA := hideF hall
      clear hall
      by_cases hlt : k < s.size
      · have HO := hideF (nmAt_eq s k hlt)
        by_cases hasc : (s[k]'hlt).toNat < 128
        · have hnx : ∀ ty, (Instr.next (.pointer (some ⟨w.heap.size, 0, none⟩)) true ty).run Tryz.prog (w.iter s k) = _ := fun ty => run_next_ascii w s k ty hlt hasc
          go_wp2_with fail
          refine (isDigitOrCapital_any _ _).mono ?_
          rintro e w' ⟨rfl, rfl⟩
          cases hm : digCapB ((s[k]'hlt).toNat : Int)
          · rw [hm] at HO; clear hm
            go_wp2
            go_ret
            exact ⟨ret_boolF (name3_no k hlt (by rw [HO.out]; rfl)).symm, below_iter _ _ _⟩
          · rw [hm] at HO; clear hm
            by_cases hk0 : (k : Int) = 0
            · have hkb : ((k : Int) == 0) = true := by simpa using hk0
              have hkn : k = 0 := by omega
              by_cases h57 : ((s[k]'hlt).toNat : Int) ≤ 57
              · have HN := hideF (show nmAt s k = false by rw [HO.out]; simp [hkn]; subst hkn; omega)
                clear hkn hk0
                go_wp2
                go_ret
                exact ⟨ret_boolF (name3_no k hlt HN.out).symm, below_iter _ _ _⟩
              · have HN := hideF (show nmAt s k = true by rw [HO.out]; simp; omega)
                clear hkn hk0
                go_wp2
                go_roundw
                case rel => exact ⟨k + 1, by omega, rfl, nmAt_succ s k HA.out HN.out⟩
                case measure => simp; omega
            · have hkb : ((k : Int) == 0) = false := by simpa using hk0
              have HN := hideF (show nmAt s k = true by rw [HO.out]; simp; omega)
              clear hk0
              go_wp2
              go_roundw
              case rel => exact ⟨k + 1, by omega, rfl, nmAt_succ s k HA.out HN.out⟩
              case measure => simp; omega
        · have hh := decode_high s k hlt (by omega)
          have hm : digCapB ((Utf8.decode s k).1 : Int) = false := digCap_high _ (by omega)
          have hm2 : digCapB ((s[k]'hlt).toNat : Int) = false := digCap_high _ (by omega)
          rw [hm2] at HO; clear hm2
          have hnx : ∀ ty, (Instr.next (.pointer (some ⟨w.heap.size, 0, none⟩)) true ty).run Tryz.prog (w.iter s k) = _ := fun ty => run_next_any w s k ty hlt
          go_wp2_with fail
          refine (isDigitOrCapital_any _ _).mono ?_
          rintro e w' ⟨rfl, rfl⟩
          rw [hm]
          go_wp2
          go_ret
          exact ⟨ret_boolF (name3_no k hlt (by rw [HO.out]; rfl)).symm, below_iter _ _ _⟩
      · have hnx : ∀ ty, (Instr.next (.pointer (some ⟨w.heap.size, 0, none⟩)) true ty).run Tryz.prog (w.iter s k) = _ := fun ty => run_next_end w s k ty hlt
        go_wp2
        go_ret
        exact ⟨ret_boolF (name3_yes HS (fun j hj => HA.out j (by omega))).symm, below_iter _ _ _⟩
  · have hne : ((s.size : Int) != 3) = true := by simpa using h3
    go_enter Tryz.func66, Tryz.ntmps66
    go_wp2
    go_ret
    exact ⟨ret_boolF (name3_size (by omega)).symm, Below.refl _ _⟩
end Go.Proofs.YtckcfjibiidafaaGreat
