/- Merge of both sides. -/
import Derived.Test.YtholbhjfmfanbaaGreatXG30FOpenF
import Derived.OrdersHeld
import Derived.Deep.RegionHeld3
import Derived.Deep.DeepCutAuto
namespace Go.Proofs.YtholbhjfmfanbaaGreat
open Go.RowKit
def mrgOut (n : ByteArray) (x : List Bat) : FOut := if filB n x = true then (match x with | [] => (6, ⟨#[]⟩, []) | b :: r => if 30 < (allL (b :: r)).length then (9, ⟨#[]⟩, []) else (0, n, [(b.1, allL (b :: r))])) else (1, ⟨#[]⟩, [])
theorem mrgOut_no {n : ByteArray} {x : List Bat} (h : filB n x = false) : mrgOut n x = (1, ⟨#[]⟩, []) := by simp [mrgOut, h]
theorem mrgOut_nil {n : ByteArray} (h : filB n [] = true) : mrgOut n [] = (6, ⟨#[]⟩, []) := by simp [mrgOut, h]
theorem mrgOut_full {n : ByteArray} {b : Bat} {r : List Bat} (h : filB n (b :: r) = true) (h2 : 30 < (allL (b :: r)).length) : mrgOut n (b :: r) = (9, ⟨#[]⟩, []) := by simp [mrgOut, h, h2]
theorem mrgOut_yes {n : ByteArray} {b : Bat} {r : List Bat} (h : filB n (b :: r) = true) (h2 : ¬ 30 < (allL (b :: r)).length) : mrgOut n (b :: r) = (0, n, [(b.1, allL (b :: r))]) := by simp only [mrgOut, h, if_true, if_neg h2]
theorem one_w {b : Bat} {r : List Bat} : wBats [(b.1, allL (b :: r))] ≤ wBats (b :: r) := by
  have h := allL_w r
  have e : allL (b :: r) = b.2 ++ allL r := by simp [allL]
  simp only [wBats, wL, wBat, List.map_cons, List.map_nil, List.sum_cons, List.sum_nil, List.length_cons, List.length_nil] at h ⊢
  rw [e, wMsgs_append]
  omega
theorem mrgOut_w (n : ByteArray) (x : List Bat) (h : wBats x ≤ 1048576) : wBats (mrgOut n x).2.2 ≤ 1048576 := by
  unfold mrgOut
  split
  · split
    · simp [wBats, wL]
    · split
      · simp [wBats, wL]
      · exact Nat.le_trans one_w h
  · simp [wBats, wL]

set_option maxHeartbeats 4000000 in
set_option maxRecDepth 100000 in
theorem implMerge_any (n : ByteArray) (u : Value) (x : List Bat) (w : World) (hm : n.size ≤ maxLen) (hnb : n.size ≤ 1048576) (hn : wBats x ≤ 1048576) (hr : RBats 0 w u x) :
    Calls Tryz.prog 27 #[.agg #[.string n, u]] w fun e w' => ∃ p c, e = .returned (foV (mrgOut n x) (.slice p (mrgOut n x).2.2.length c)) ∧ OBats w.heap.size w'.heap.size w' (.slice p (mrgOut n x).2.2.length c) (mrgOut n x).2.2 ∧ Below w.heap.size w w' := by
  obtain ⟨A, hA⟩ : ∃ A, A = mrgOut n x := ⟨_, rfl⟩
  rw [← hA]
  have HA := hide hA
  clear hA
  have HX := hide hr
  obtain ⟨p, cap, rfl, h1, h2, h4⟩ := hr
  have H4 := hide h4
  unfold maxLen at h2
  clear h4
  obtain ⟨W, hW⟩ : ∃ W, W = (w.alloc (.cells #[.string n, .slice p x.length cap] 29)).alloc (.cells #[.string ⟨#[]⟩, .slice none 0 0, .int .i64 0, .int .i64 0] 40) := ⟨_, rfl⟩
  have HB0 := hide (show Below w.heap.size w W by rw [hW]; exact ((Below.refl _ _).alloc (Nat.le_refl _) _).alloc (by simp) _)
  have HRow0 := hide (show Row W w.heap.size 29 [.string n, .slice p x.length cap] by rw [hW]; exact (row_new w [.string n, .slice p x.length cap] 29).alloc _)
  have HRes0 := hide (show Row W (w.heap.size + 1) 40 [.string ⟨#[]⟩, .slice none 0 0, .int .i64 0, .int .i64 0] by
    rw [hW]
    have := row_new (w.alloc (.cells #[.string n, .slice p x.length cap] 29)) [.string ⟨#[]⟩, .slice none 0 0, .int .i64 0, .int .i64 0] 40
    simpa using this)
  go_enter Tryz.func27, Tryz.ntmps27
  go_wp2_with fail
  rw [← hW]
  clear hW
  refine (fileRight_any n _ x _ hm (fitsF_of hn) (HX.out.below HB0.out)).mono ?_
  rintro e w1 ⟨rfl, hb1⟩
  have HB1 := hide (HB0.out.trans (hb1.mono HB0.out.size))
  have HRow1 := hide (HRow0.out.below hb1 HRow0.out.lt)
  have HRes1 := hide (HRes0.out.below hb1 HRes0.out.lt)
  have c0 : w1.cell? ⟨w.heap.size, 0, none⟩ = some (.string n) := HRow1.out.cell 0
  have c1 : w1.cell? ⟨w.heap.size, 1, none⟩ = some (.slice p x.length cap) := HRow1.out.cell 1
  clear hb1
  cases hq : filB n x
  · obtain rfl : A = (1, ⟨#[]⟩, []) := by rw [HA.out]; exact mrgOut_no hq
    have HBR := HB1
    have HRR := HRes1
    have k0 : w1.cell? ⟨w.heap.size + 1, 0, none⟩ = some (.string ⟨#[]⟩) := HRR.out.cell 0
    have k1 : w1.cell? ⟨w.heap.size + 1, 1, none⟩ = some (.slice none 0 0) := HRR.out.cell 1
    have k2 : w1.cell? ⟨w.heap.size + 1, 2, none⟩ = some (.int .i64 0) := HRR.out.cell 2
    have k3 : w1.cell? ⟨w.heap.size + 1, 3, none⟩ = some (.int .i64 0) := HRR.out.cell 3
    have f0 := HRR.out.free 0
    have f1 := HRR.out.free 1
    have f2 := HRR.out.free 2
    have f3 := HRR.out.free 3
    go_wp2
    obtain ⟨q0, q1, q2, q3, KF, _, _⟩ := fourF HRR.out (.string ⟨#[]⟩) (.slice none 0 0) (.int .i64 0) (.int .i64 1)
    exact bodyPost_ret (v := .agg #[.string ⟨#[]⟩, .slice none 0 0, .int .i64 0, .int .i64 1]) (by simp [results, Tryz.results27, go_sem, q0, q1, q2, q3]) rfl ⟨_, _, rfl, obats_nil _ _ _ _, KF w w.heap.size (Nat.le_succ _) HBR.out⟩

  cases x with
  | nil =>
    obtain rfl : A = (6, ⟨#[]⟩, []) := by rw [HA.out]; exact mrgOut_nil hq
    have HBR := HB1
    have HRR := HRes1
    have k0 : w1.cell? ⟨w.heap.size + 1, 0, none⟩ = some (.string ⟨#[]⟩) := HRR.out.cell 0
    have k1 : w1.cell? ⟨w.heap.size + 1, 1, none⟩ = some (.slice none 0 0) := HRR.out.cell 1
    have k2 : w1.cell? ⟨w.heap.size + 1, 2, none⟩ = some (.int .i64 0) := HRR.out.cell 2
    have k3 : w1.cell? ⟨w.heap.size + 1, 3, none⟩ = some (.int .i64 0) := HRR.out.cell 3
    have f0 := HRR.out.free 0
    have f1 := HRR.out.free 1
    have f2 := HRR.out.free 2
    have f3 := HRR.out.free 3
    go_wp2
    obtain ⟨q0, q1, q2, q3, KF, _, _⟩ := fourF HRR.out (.string ⟨#[]⟩) (.slice none 0 0) (.int .i64 0) (.int .i64 6)
    exact bodyPost_ret (v := .agg #[.string ⟨#[]⟩, .slice none 0 0, .int .i64 0, .int .i64 6]) (by simp [results, Tryz.results27, go_sem, q0, q1, q2, q3]) rfl ⟨_, _, rfl, obats_nil _ _ _ _, KF w w.heap.size (Nat.le_succ _) HBR.out⟩

  | cons b r =>
    obtain ⟨X, hX⟩ : ∃ X, X = b :: r := ⟨_, rfl⟩
    have hXn : ¬ (X.length : Int) = 0 := by rw [hX]; simp; omega
    have hX0 : X.length ≠ 0 := by rw [hX]; simp
    have HA2 := hide (show ∀ (h2 : 30 < (allL X).length), A = (9, ⟨#[]⟩, []) by rw [hX]; intro h2; rw [HA.out]; exact mrgOut_full hq h2)
    have HA3 := hide (show ∀ (h2 : ¬ 30 < (allL X).length), A = (0, n, [(b.1, allL X)]) by rw [hX]; intro h2; rw [HA.out]; exact mrgOut_yes hq h2)
    have HBS := hide (show b.1.size ≤ 1048576 by
      have h := hn
      simp only [wBats, wL, wBat, List.map_cons, List.sum_cons, List.length_cons] at h
      omega)
    have HG := hide (show ∃ g off, p = some ⟨g, off, none⟩ ∧ g < w.heap.size ∧ w.cell? ⟨g, off, none⟩ = some (.string b.1) by
      obtain ⟨g, off, hp, hg, _, hc⟩ := H4.out (by simp)
      have h := (hc 0 (by simp)).1
      exact ⟨g, off, hp, hg, by simpa using h⟩)
    rw [← hX] at HX hn c1 HRow1 h1
    clear hX H4 HA hq HRow0 HRes0 HB0
    obtain ⟨g, off, rfl, hg, hgc⟩ := HG.out
    clear HG
    go_wp2_with fail
    refine (allMessages_any n _ X _ hn (HX.out.below HB1.out)).mono ?_
    rintro e w2 ⟨pa, ca, rfl, hr2, hb2⟩
    have HB2 := hide (HB1.out.trans (hb2.mono HB1.out.size))
    have HRow2 := hide (HRow1.out.below hb2 HRow1.out.lt)
    have HRes2 := hide (HRes1.out.below hb2 HRes1.out.lt)
    have HALL := hide hr2
    have HLW := hide (show wMsgs (allL X) ≤ 1048576 from Nat.le_trans (allL_w X) hn)
    have HG1 := hide (show w.heap.size + 1 < w1.heap.size from HRes1.out.lt)
    clear hb2 hr2 c0 c1 HRow1 HRes1 HB1
    by_cases hfull : 30 < ((allL X).length : Int)
    · obtain rfl : A = (9, ⟨#[]⟩, []) := HA2.out (by omega)
      have HBR := HB2
      have HRR := HRes2
      have k0 : w2.cell? ⟨w.heap.size + 1, 0, none⟩ = some (.string ⟨#[]⟩) := HRR.out.cell 0
      have k1 : w2.cell? ⟨w.heap.size + 1, 1, none⟩ = some (.slice none 0 0) := HRR.out.cell 1
      have k2 : w2.cell? ⟨w.heap.size + 1, 2, none⟩ = some (.int .i64 0) := HRR.out.cell 2
      have k3 : w2.cell? ⟨w.heap.size + 1, 3, none⟩ = some (.int .i64 0) := HRR.out.cell 3
      have f0 := HRR.out.free 0
      have f1 := HRR.out.free 1
      have f2 := HRR.out.free 2
      have f3 := HRR.out.free 3
      go_wp2
      obtain ⟨q0, q1, q2, q3, KF, _, _⟩ := fourF HRR.out (.string ⟨#[]⟩) (.slice none 0 0) (.int .i64 0) (.int .i64 9)
      exact bodyPost_ret (v := .agg #[.string ⟨#[]⟩, .slice none 0 0, .int .i64 0, .int .i64 9]) (by simp [results, Tryz.results27, go_sem, q0, q1, q2, q3]) rfl ⟨_, _, rfl, obats_nil _ _ _ _, KF w w.heap.size (Nat.le_succ _) HBR.out⟩

    obtain rfl : A = (0, n, [(b.1, allL X)]) := HA3.out (by omega)
    have HSS := hide (show ∀ y, Below w2.heap.size w2 y → (fun y : World => y.cell? ⟨w.heap.size, 0, none⟩ = some (.string n) ∧ y.cell? ⟨w.heap.size, 1, none⟩ = some (.slice (some ⟨g, off, none⟩) X.length cap) ∧ y.cell? ⟨g, off, none⟩ = some (.string b.1)) y from fun y h => ⟨(HRow2.out.below h HRow2.out.lt).cell 0, (HRow2.out.below h HRow2.out.lt).cell 1, ((HB2.out.trans (h.mono HB2.out.size)).cell (p := ⟨g, off, none⟩) hg).trans hgc⟩)
    go_wp2_with fail
    refine wp_region_held (S := (fun y : World => y.cell? ⟨w.heap.size, 0, none⟩ = some (.string n) ∧ y.cell? ⟨w.heap.size, 1, none⟩ = some (.slice (some ⟨g, off, none⟩) X.length cap) ∧ y.cell? ⟨g, off, none⟩ = some (.string b.1))) (by kernel_rfl) ?_
    have hbd : Below w2.heap.size w2 { w2 with drawn := w2.drawn + 1 } := (Below.refl _ _).drew
    generalize ({ w2 with drawn := w2.drawn + 1 } : World) = Z0 at hbd ⊢
    have HZ0 := hide hbd
    clear hbd
    have HS := hide (HSS.out _ HZ0.out)
    refine wpAnyH_take (i := 0) (oi := _) (v := .pointer (some ⟨w.heap.size, 0, none⟩)) rfl (by kernel_rfl) (by kernel_rfl) (by kernel_rfl) (fun _ _ _ h => h) (Or.inl ⟨by rfl, by intro w hSw; go_split_ands; go_simp⟩) HS.out ?_
    simp only [Act.put, List.getElem_toArray, List.getElem_cons_zero, List.setIfInBounds_toArray, List.set_cons_zero, List.set_cons_succ]
    refine wpAnyH_take (i := 1) (oi := _) (v := .string n) rfl (by kernel_rfl) (by kernel_rfl) (by kernel_rfl) (fun _ _ _ h => h) (Or.inl ⟨by rfl, by intro w hSw; go_split_ands; go_simp⟩) HS.out ?_
    simp only [Act.put, List.getElem_toArray, List.getElem_cons_zero, List.getElem_cons_succ, List.setIfInBounds_toArray, List.set_cons_zero, List.set_cons_succ]
    refine wpAnyH_take (i := 2) (oi := _) (v := .pointer (some ⟨w.heap.size, 1, none⟩)) rfl (by kernel_rfl) (by kernel_rfl) (by kernel_rfl) (fun _ _ _ h => h) (Or.inl ⟨by rfl, by intro w hSw; go_split_ands; go_simp⟩) HS.out ?_
    simp only [Act.put, List.getElem_toArray, List.getElem_cons_zero, List.getElem_cons_succ, List.setIfInBounds_toArray, List.set_cons_zero, List.set_cons_succ]
    refine wpAnyH_take (i := 3) (oi := _) (v := .slice (some ⟨g, off, none⟩) X.length cap) rfl (by kernel_rfl) (by kernel_rfl) (by kernel_rfl) (fun _ _ _ h => h) (Or.inl ⟨by rfl, by intro w hSw; go_split_ands; go_simp⟩) HS.out ?_
    simp only [Act.put, List.getElem_toArray, List.getElem_cons_zero, List.getElem_cons_succ, List.setIfInBounds_toArray, List.set_cons_zero, List.set_cons_succ]
    refine wpAnyH_take (i := 4) (oi := _) (v := .pointer (some ⟨g, off, none⟩)) rfl (by kernel_rfl) (by kernel_rfl) (by kernel_rfl) (fun _ _ _ h => h) (Or.inl ⟨by rfl, by intro w hSw; go_split_ands; go_simp⟩) HS.out ?_
    simp only [Act.put, List.getElem_toArray, List.getElem_cons_zero, List.getElem_cons_succ, List.setIfInBounds_toArray, List.set_cons_zero, List.set_cons_succ]
    refine wpAnyH_take (i := 5) (oi := _) (v := .pointer (some ⟨g, off, none⟩)) rfl (by kernel_rfl) (by kernel_rfl) (by kernel_rfl) (fun _ _ _ h => h) (Or.inl ⟨by rfl, by intro w hSw; go_split_ands; go_simp⟩) HS.out ?_
    simp only [Act.put, List.getElem_toArray, List.getElem_cons_zero, List.getElem_cons_succ, List.setIfInBounds_toArray, List.set_cons_zero, List.set_cons_succ]
    refine wpAnyH_take (i := 6) (oi := _) (v := .string b.1) rfl (by kernel_rfl) (by kernel_rfl) (by kernel_rfl) (fun _ _ _ h => h) (Or.inl ⟨by rfl, by intro w hSw; go_split_ands; go_simp⟩) HS.out ?_
    simp only [Act.put, List.getElem_toArray, List.getElem_cons_zero, List.getElem_cons_succ, List.setIfInBounds_toArray, List.set_cons_zero, List.set_cons_succ]
    refine wpAnyH_take (i := 7) (oi := _) (v := .slice pa (allL X).length ca) rfl (by kernel_rfl) (by kernel_rfl) (by kernel_rfl) (fun _ _ _ h => h) (Or.inl ⟨by rfl, by intro w hSw; go_split_ands; go_simp⟩) HS.out ?_
    simp only [Act.put, List.getElem_toArray, List.getElem_cons_zero, List.getElem_cons_succ, List.setIfInBounds_toArray, List.set_cons_zero, List.set_cons_succ]
    refine wpAnyH_ready (rs := [8]) (by kernel_rfl) (by simp) ?_
    refine AllReadyH.cons (o := _) rfl (fun K hK => ?_) AllReadyH.nil
    go_simp
    refine (freshBatch_any b.1 _ (allL X) _ (by have := HBS.out; omega) HLW.out (HALL.out.below HZ0.out)).mono ?_
    rintro e Z1 ⟨pf, cf, rfl, hof, hbf⟩
    have HZ1 := hide (HZ0.out.trans (hbf.mono HZ0.out.size))
    have HOF := hide hof
    have HLF := hide (show w2.heap.size ≤ Z0.heap.size from HZ0.out.size)
    refine hK.out _ _ (HSS.out _ HZ1.out) (fun _ => ?_)
    clear hK K HS hof hbf
    have HS := hide (HSS.out _ HZ1.out)
    refine wpAnyH_ready (rs := [9]) (by kernel_rfl) (by simp) ?_
    refine AllReadyH.cons (o := _) rfl (fun K hK => ?_) AllReadyH.nil
    go_simp
    have HZ2 := hide (HZ1.out.alloc HZ1.out.size (.cells #[.string b.1, .slice pf (allL X).length cf] 49))
    have HRE := hide (row_new Z1 [.string b.1, .slice pf (allL X).length cf] 49)
    have HEH := hide (show Z1.heap.size ≤ Z1.heap.size from Nat.le_refl _)
    have HES := hide (show Z1.heap.size < (Z1.alloc (.cells #[.string b.1, .slice pf (allL X).length cf] 49)).heap.size by simp)
    have HEL := hide (show w2.heap.size ≤ Z1.heap.size from HZ1.out.size)
    have HKP := hide (show ∀ lo hi, SameIn lo hi Z1 (Z1.alloc (.cells #[.string b.1, .slice pf (allL X).length cf] 49)) from fun lo hi => SameIn.ofBelow ((Below.refl _ _).alloc (Nat.le_refl _) _))
    refine hK.out _ _ (HSS.out _ HZ2.out) (fun _ => ?_)
    clear hK K HS
    obtain ⟨Z2, hZ⟩ : ∃ Z, Z = Z1.alloc (.cells #[.string b.1, .slice pf (allL X).length cf] 49) := ⟨_, rfl⟩
    obtain ⟨E, hE⟩ : ∃ E, E = Z1.heap.size := ⟨_, rfl⟩
    rw [← hZ] at HZ2 HRE HES HKP
    rw [← hE] at HRE HES HEL HOF
    clear HEH
    try rw [← hZ]
    try rw [← hE]
    clear hZ hE
    have HS := hide (HSS.out _ HZ2.out)
    refine wpAnyH_ready (rs := [10]) (by kernel_rfl) (by simp) ?_
    refine AllReadyH.cons (o := _) rfl (fun K hK => ?_) AllReadyH.nil
    go_simp
    refine (fileTold_any n (some ⟨E, 0, none⟩) 1 1 Z2 (by omega)).mono ?_
    rintro e Z3 ⟨rfl, hb3⟩
    have HZ3 := hide (HZ2.out.trans (hb3.mono HZ2.out.size))
    have HRE3 := hide (HRE.out.below hb3 HRE.out.lt)
    have HOF3 := hide ((HOF.out.keep (HKP.out _ _)).keep (SameIn.ofBelow hb3))
    have HES3 := hide (Nat.lt_of_lt_of_le HES.out hb3.size)
    refine hK.out _ _ (HSS.out _ HZ3.out) (fun _ => ?_)
    clear hK K HS hb3
    have HS := hide (HSS.out _ HZ3.out)
    refine wpAnyH_ready (rs := [11]) (by kernel_rfl) (by simp) ?_
    refine AllReadyH.cons (o := _) rfl (fun K hK => ?_) AllReadyH.nil
    have rr := HRes2.out.below HZ3.out HRes2.out.lt
    have k0 : Z3.cell? ⟨w.heap.size + 1, 0, none⟩ = some (.string ⟨#[]⟩) := rr.cell 0
    have k1 : Z3.cell? ⟨w.heap.size + 1, 1, none⟩ = some (.slice none 0 0) := rr.cell 1
    have k2 : Z3.cell? ⟨w.heap.size + 1, 2, none⟩ = some (.int .i64 0) := rr.cell 2
    have k3 : Z3.cell? ⟨w.heap.size + 1, 3, none⟩ = some (.int .i64 0) := rr.cell 3
    have f0 := rr.free 0
    have f1 := rr.free 1
    have f2 := rr.free 2
    have f3 := rr.free 3
    obtain ⟨q0, q1, q2, q3, KF, KS, KZ⟩ := fourF rr (.string n) (.slice (some ⟨E, 0, none⟩) 1 1) (.int .i64 0) (.int .i64 0)
    have HBF := hide (KF w w.heap.size (Nat.le_succ _) (HB2.out.trans (HZ3.out.mono HB2.out.size)))
    have HGL := hide (show w.heap.size + 1 < w2.heap.size from HRes2.out.lt)
    have HFR := hide (show (fun y : World => y.cell? ⟨w.heap.size, 0, none⟩ = some (.string n) ∧ y.cell? ⟨w.heap.size, 1, none⟩ = some (.slice (some ⟨g, off, none⟩) X.length cap) ∧ y.cell? ⟨g, off, none⟩ = some (.string b.1)) ((((Z3.setCell ⟨w.heap.size + 1, 0, none⟩ (.string n)).setCell ⟨w.heap.size + 1, 1, none⟩ (.slice (some ⟨E, 0, none⟩) 1 1)).setCell ⟨w.heap.size + 1, 2, none⟩ (.int .i64 0)).setCell ⟨w.heap.size + 1, 3, none⟩ (.int .i64 0)) from
      ⟨((((HRow2.out.below HZ3.out HRow2.out.lt).other (b := w.heap.size + 1) (j := 0) (by omega) (.string n)).other (b := w.heap.size + 1) (j := 1) (by omega) (.slice (some ⟨E, 0, none⟩) 1 1)).other (b := w.heap.size + 1) (j := 2) (by omega) (.int .i64 0)).other (b := w.heap.size + 1) (j := 3) (by omega) (.int .i64 0) |>.cell 0,
       ((((HRow2.out.below HZ3.out HRow2.out.lt).other (b := w.heap.size + 1) (j := 0) (by omega) (.string n)).other (b := w.heap.size + 1) (j := 1) (by omega) (.slice (some ⟨E, 0, none⟩) 1 1)).other (b := w.heap.size + 1) (j := 2) (by omega) (.int .i64 0)).other (b := w.heap.size + 1) (j := 3) (by omega) (.int .i64 0) |>.cell 1,
       (HBF.out.cell (p := ⟨g, off, none⟩) hg).trans hgc⟩)
    have HOR : Hid (OBats w.heap.size ((((Z3.setCell ⟨w.heap.size + 1, 0, none⟩ (.string n)).setCell ⟨w.heap.size + 1, 1, none⟩ (.slice (some ⟨E, 0, none⟩) 1 1)).setCell ⟨w.heap.size + 1, 2, none⟩ (.int .i64 0)).setCell ⟨w.heap.size + 1, 3, none⟩ (.int .i64 0)).heap.size ((((Z3.setCell ⟨w.heap.size + 1, 0, none⟩ (.string n)).setCell ⟨w.heap.size + 1, 1, none⟩ (.slice (some ⟨E, 0, none⟩) 1 1)).setCell ⟨w.heap.size + 1, 2, none⟩ (.int .i64 0)).setCell ⟨w.heap.size + 1, 3, none⟩ (.int .i64 0)) (.slice (some ⟨E, 0, none⟩) [(b.1, allL X)].length 1) [(b.1, allL X)]) := hide (by
      have hgl := HGL.out
      have hel := HEL.out
      have hes := HES3.out
      have hlf := HLF.out
      refine ⟨_, _, rfl, Nat.le_refl _, by unfold maxLen; omega, fun _ => ⟨E, [.string b.1, .slice pf (allL X).length cf], fun _ => Z0.heap.size + 1, fun _ => E, rfl, by omega, by rw [KZ]; exact hes, (KS E (E + 1) (.inl (by omega))).row HRE3.out (Nat.le_refl _) (Nat.lt_succ_self _), by simp, fun j h => ?_, fun i j h1 h2 => absurd h2 (by simp; omega)⟩⟩
      have ej : j = 0 := by simp at h; exact h
      subst ej
      exact ⟨rfl, by have := HBS.out; unfold maxLen; show b.1.size ≤ _; omega, by show w.heap.size ≤ Z0.heap.size + 1; omega, by show E ≤ _; rw [KZ]; omega, .inl (Nat.le_refl _), _, rfl, HOF3.out.keep (KS _ _ (.inl (by omega)))⟩)
    clear rr KF KS KZ
    go_simp
    refine hK.out _ _ HFR.out (fun _ => ?_)
    clear hK K HS
    refine wpAnyH_done (by kernel_rfl) ?_ _
    go_wp2
    exact bodyPost_ret (v := .agg #[.string n, .slice (some ⟨E, 0, none⟩) 1 1, .int .i64 0, .int .i64 0]) (by simp [results, Tryz.results27, go_sem, q0, q1, q2, q3]) rfl ⟨_, _, rfl, HOR.out, HBF.out⟩


set_option maxHeartbeats 4000000 in
set_option maxRecDepth 100000 in
theorem specMerge_any (n : ByteArray) (u : Value) (x : List Bat) (w : World) (hm : n.size ≤ maxLen) (hn : wBats x ≤ 1048576) (hr : RBats 0 w u x) :
    Calls Tryz.prog 26 #[.agg #[.string n, u]] w fun e w' => ∃ p c, e = .returned (foV (mrgOut n x) (.slice p (mrgOut n x).2.2.length c)) ∧ RBats w.heap.size w' (.slice p (mrgOut n x).2.2.length c) (mrgOut n x).2.2 ∧ Below w.heap.size w w' := by
  obtain ⟨A, hA⟩ : ∃ A, A = mrgOut n x := ⟨_, rfl⟩
  rw [← hA]
  have HA := hide hA
  clear hA
  have HX := hide hr
  obtain ⟨p, cap, rfl, h1, h2, h4⟩ := hr
  have H4 := hide h4
  unfold maxLen at h2
  clear h4
  obtain ⟨W, hW⟩ : ∃ W, W = (w.alloc (.cells #[.string n, .slice p x.length cap] 29)).alloc (.cells #[.string ⟨#[]⟩, .slice none 0 0, .int .i64 0, .int .i64 0] 40) := ⟨_, rfl⟩
  have HB0 := hide (show Below w.heap.size w W by rw [hW]; exact ((Below.refl _ _).alloc (Nat.le_refl _) _).alloc (by simp) _)
  have HRow0 := hide (show Row W w.heap.size 29 [.string n, .slice p x.length cap] by rw [hW]; exact (row_new w [.string n, .slice p x.length cap] 29).alloc _)
  have HRes0 := hide (show Row W (w.heap.size + 1) 40 [.string ⟨#[]⟩, .slice none 0 0, .int .i64 0, .int .i64 0] by
    rw [hW]
    have := row_new (w.alloc (.cells #[.string n, .slice p x.length cap] 29)) [.string ⟨#[]⟩, .slice none 0 0, .int .i64 0, .int .i64 0] 40
    simpa using this)
  go_enter Tryz.func26, Tryz.ntmps26
  go_wp2_with fail
  rw [← hW]
  clear hW
  refine (specFileRight_any n _ x _ hm (fitsF_of hn) (HX.out.below HB0.out)).mono ?_
  rintro e w1 ⟨rfl, hb1⟩
  have HB1 := hide (HB0.out.trans (hb1.mono HB0.out.size))
  have HRow1 := hide (HRow0.out.below hb1 HRow0.out.lt)
  have HRes1 := hide (HRes0.out.below hb1 HRes0.out.lt)
  have c0 : w1.cell? ⟨w.heap.size, 0, none⟩ = some (.string n) := HRow1.out.cell 0
  have c1 : w1.cell? ⟨w.heap.size, 1, none⟩ = some (.slice p x.length cap) := HRow1.out.cell 1
  clear hb1
  cases hq : filB n x
  · obtain rfl : A = (1, ⟨#[]⟩, []) := by rw [HA.out]; exact mrgOut_no hq
    go_wp2_with fail
    refine (l08Ill_any 1 _).mono ?_
    rintro e WX ⟨rfl, hbx⟩
    have HBR := hide (HB1.out.trans (hbx.mono HB1.out.size))
    have HRR := hide (HRes1.out.below hbx HRes1.out.lt)
    clear hbx
    have k0 : WX.cell? ⟨w.heap.size + 1, 0, none⟩ = some (.string ⟨#[]⟩) := HRR.out.cell 0
    have k1 : WX.cell? ⟨w.heap.size + 1, 1, none⟩ = some (.slice none 0 0) := HRR.out.cell 1
    have k2 : WX.cell? ⟨w.heap.size + 1, 2, none⟩ = some (.int .i64 0) := HRR.out.cell 2
    have k3 : WX.cell? ⟨w.heap.size + 1, 3, none⟩ = some (.int .i64 0) := HRR.out.cell 3
    have f0 := HRR.out.free 0
    have f1 := HRR.out.free 1
    have f2 := HRR.out.free 2
    have f3 := HRR.out.free 3
    go_wp2
    obtain ⟨q0, q1, q2, q3, KF, _, _⟩ := fourF HRR.out (.string ⟨#[]⟩) (.slice none 0 0) (.int .i64 0) (.int .i64 1)
    exact bodyPost_ret (v := .agg #[.string ⟨#[]⟩, .slice none 0 0, .int .i64 0, .int .i64 1]) (by simp [results, Tryz.results26, go_sem, q0, q1, q2, q3]) rfl ⟨_, _, rfl, rbats_nil _ _ _, KF w w.heap.size (Nat.le_succ _) HBR.out⟩

  cases x with
  | nil =>
    obtain rfl : A = (6, ⟨#[]⟩, []) := by rw [HA.out]; exact mrgOut_nil hq
    go_wp2_with fail
    refine (l08Ill_any 6 _).mono ?_
    rintro e WX ⟨rfl, hbx⟩
    have HBR := hide (HB1.out.trans (hbx.mono HB1.out.size))
    have HRR := hide (HRes1.out.below hbx HRes1.out.lt)
    clear hbx
    have k0 : WX.cell? ⟨w.heap.size + 1, 0, none⟩ = some (.string ⟨#[]⟩) := HRR.out.cell 0
    have k1 : WX.cell? ⟨w.heap.size + 1, 1, none⟩ = some (.slice none 0 0) := HRR.out.cell 1
    have k2 : WX.cell? ⟨w.heap.size + 1, 2, none⟩ = some (.int .i64 0) := HRR.out.cell 2
    have k3 : WX.cell? ⟨w.heap.size + 1, 3, none⟩ = some (.int .i64 0) := HRR.out.cell 3
    have f0 := HRR.out.free 0
    have f1 := HRR.out.free 1
    have f2 := HRR.out.free 2
    have f3 := HRR.out.free 3
    go_wp2
    obtain ⟨q0, q1, q2, q3, KF, _, _⟩ := fourF HRR.out (.string ⟨#[]⟩) (.slice none 0 0) (.int .i64 0) (.int .i64 6)
    exact bodyPost_ret (v := .agg #[.string ⟨#[]⟩, .slice none 0 0, .int .i64 0, .int .i64 6]) (by simp [results, Tryz.results26, go_sem, q0, q1, q2, q3]) rfl ⟨_, _, rfl, rbats_nil _ _ _, KF w w.heap.size (Nat.le_succ _) HBR.out⟩

  | cons b r =>
    obtain ⟨X, hX⟩ : ∃ X, X = b :: r := ⟨_, rfl⟩
    have hXn : ¬ (X.length : Int) = 0 := by rw [hX]; simp; omega
    have hX0 : X.length ≠ 0 := by rw [hX]; simp
    have HA2 := hide (show ∀ (h2 : 30 < (allL X).length), A = (9, ⟨#[]⟩, []) by rw [hX]; intro h2; rw [HA.out]; exact mrgOut_full hq h2)
    have HA3 := hide (show ∀ (h2 : ¬ 30 < (allL X).length), A = (0, n, [(b.1, allL X)]) by rw [hX]; intro h2; rw [HA.out]; exact mrgOut_yes hq h2)
    have HBS := hide (show b.1.size ≤ 1048576 by
      have h := hn
      simp only [wBats, wL, wBat, List.map_cons, List.sum_cons, List.length_cons] at h
      omega)
    have HG := hide (show ∃ g off, p = some ⟨g, off, none⟩ ∧ g < w.heap.size ∧ w.cell? ⟨g, off, none⟩ = some (.string b.1) by
      obtain ⟨g, off, hp, hg, _, hc⟩ := H4.out (by simp)
      have h := (hc 0 (by simp)).1
      exact ⟨g, off, hp, hg, by simpa using h⟩)
    rw [← hX] at HX hn c1 HRow1 h1
    clear hX H4 HA hq HRow0 HRes0 HB0
    obtain ⟨g, off, rfl, hg, hgc⟩ := HG.out
    clear HG
    go_wp2_with fail
    refine (l08All_any n _ X _ hn (HX.out.below HB1.out)).mono ?_
    rintro e w2 ⟨pa, ca, rfl, hr2, hb2⟩
    have HB2 := hide (HB1.out.trans (hb2.mono HB1.out.size))
    have HRow2 := hide (HRow1.out.below hb2 HRow1.out.lt)
    have HRes2 := hide (HRes1.out.below hb2 HRes1.out.lt)
    have HALL := hide hr2
    have HLW := hide (show wMsgs (allL X) ≤ 1048576 from Nat.le_trans (allL_w X) hn)
    have HG1 := hide (show w.heap.size + 1 < w1.heap.size from HRes1.out.lt)
    clear hb2 hr2 c0 c1 HRow1 HRes1 HB1
    by_cases hfull : 30 < ((allL X).length : Int)
    · obtain rfl : A = (9, ⟨#[]⟩, []) := HA2.out (by omega)
      go_wp2_with fail
      refine (l08Ill_any 9 _).mono ?_
      rintro e WX ⟨rfl, hbx⟩
      have HBR := hide (HB2.out.trans (hbx.mono HB2.out.size))
      have HRR := hide (HRes2.out.below hbx HRes2.out.lt)
      clear hbx
      have k0 : WX.cell? ⟨w.heap.size + 1, 0, none⟩ = some (.string ⟨#[]⟩) := HRR.out.cell 0
      have k1 : WX.cell? ⟨w.heap.size + 1, 1, none⟩ = some (.slice none 0 0) := HRR.out.cell 1
      have k2 : WX.cell? ⟨w.heap.size + 1, 2, none⟩ = some (.int .i64 0) := HRR.out.cell 2
      have k3 : WX.cell? ⟨w.heap.size + 1, 3, none⟩ = some (.int .i64 0) := HRR.out.cell 3
      have f0 := HRR.out.free 0
      have f1 := HRR.out.free 1
      have f2 := HRR.out.free 2
      have f3 := HRR.out.free 3
      go_wp2
      obtain ⟨q0, q1, q2, q3, KF, _, _⟩ := fourF HRR.out (.string ⟨#[]⟩) (.slice none 0 0) (.int .i64 0) (.int .i64 9)
      exact bodyPost_ret (v := .agg #[.string ⟨#[]⟩, .slice none 0 0, .int .i64 0, .int .i64 9]) (by simp [results, Tryz.results26, go_sem, q0, q1, q2, q3]) rfl ⟨_, _, rfl, rbats_nil _ _ _, KF w w.heap.size (Nat.le_succ _) HBR.out⟩

    obtain rfl : A = (0, n, [(b.1, allL X)]) := HA3.out (by omega)
    have HSS := hide (show ∀ y, Below w2.heap.size w2 y → (fun y : World => y.cell? ⟨w.heap.size, 0, none⟩ = some (.string n) ∧ y.cell? ⟨w.heap.size, 1, none⟩ = some (.slice (some ⟨g, off, none⟩) X.length cap) ∧ y.cell? ⟨g, off, none⟩ = some (.string b.1)) y from fun y h => ⟨(HRow2.out.below h HRow2.out.lt).cell 0, (HRow2.out.below h HRow2.out.lt).cell 1, ((HB2.out.trans (h.mono HB2.out.size)).cell (p := ⟨g, off, none⟩) hg).trans hgc⟩)
    go_wp2_with fail
    refine wp_region_held (S := (fun y : World => y.cell? ⟨w.heap.size, 0, none⟩ = some (.string n) ∧ y.cell? ⟨w.heap.size, 1, none⟩ = some (.slice (some ⟨g, off, none⟩) X.length cap) ∧ y.cell? ⟨g, off, none⟩ = some (.string b.1))) (by kernel_rfl) ?_
    have hbd : Below w2.heap.size w2 { w2 with drawn := w2.drawn + 1 } := (Below.refl _ _).drew
    generalize ({ w2 with drawn := w2.drawn + 1 } : World) = Z0 at hbd ⊢
    have HZ0 := hide hbd
    clear hbd
    have HS := hide (HSS.out _ HZ0.out)
    refine wpAnyH_take (i := 0) (oi := _) (v := .pointer (some ⟨w.heap.size, 0, none⟩)) rfl (by kernel_rfl) (by kernel_rfl) (by kernel_rfl) (fun _ _ _ h => h) (Or.inl ⟨by rfl, by intro w hSw; go_split_ands; go_simp⟩) HS.out ?_
    simp only [Act.put, List.getElem_toArray, List.getElem_cons_zero, List.setIfInBounds_toArray, List.set_cons_zero, List.set_cons_succ]
    refine wpAnyH_take (i := 1) (oi := _) (v := .string n) rfl (by kernel_rfl) (by kernel_rfl) (by kernel_rfl) (fun _ _ _ h => h) (Or.inl ⟨by rfl, by intro w hSw; go_split_ands; go_simp⟩) HS.out ?_
    simp only [Act.put, List.getElem_toArray, List.getElem_cons_zero, List.getElem_cons_succ, List.setIfInBounds_toArray, List.set_cons_zero, List.set_cons_succ]
    refine wpAnyH_take (i := 2) (oi := _) (v := .pointer (some ⟨w.heap.size, 1, none⟩)) rfl (by kernel_rfl) (by kernel_rfl) (by kernel_rfl) (fun _ _ _ h => h) (Or.inl ⟨by rfl, by intro w hSw; go_split_ands; go_simp⟩) HS.out ?_
    simp only [Act.put, List.getElem_toArray, List.getElem_cons_zero, List.getElem_cons_succ, List.setIfInBounds_toArray, List.set_cons_zero, List.set_cons_succ]
    refine wpAnyH_take (i := 3) (oi := _) (v := .slice (some ⟨g, off, none⟩) X.length cap) rfl (by kernel_rfl) (by kernel_rfl) (by kernel_rfl) (fun _ _ _ h => h) (Or.inl ⟨by rfl, by intro w hSw; go_split_ands; go_simp⟩) HS.out ?_
    simp only [Act.put, List.getElem_toArray, List.getElem_cons_zero, List.getElem_cons_succ, List.setIfInBounds_toArray, List.set_cons_zero, List.set_cons_succ]
    refine wpAnyH_take (i := 4) (oi := _) (v := .pointer (some ⟨g, off, none⟩)) rfl (by kernel_rfl) (by kernel_rfl) (by kernel_rfl) (fun _ _ _ h => h) (Or.inl ⟨by rfl, by intro w hSw; go_split_ands; go_simp⟩) HS.out ?_
    simp only [Act.put, List.getElem_toArray, List.getElem_cons_zero, List.getElem_cons_succ, List.setIfInBounds_toArray, List.set_cons_zero, List.set_cons_succ]
    refine wpAnyH_take (i := 5) (oi := _) (v := .pointer (some ⟨g, off, none⟩)) rfl (by kernel_rfl) (by kernel_rfl) (by kernel_rfl) (fun _ _ _ h => h) (Or.inl ⟨by rfl, by intro w hSw; go_split_ands; go_simp⟩) HS.out ?_
    simp only [Act.put, List.getElem_toArray, List.getElem_cons_zero, List.getElem_cons_succ, List.setIfInBounds_toArray, List.set_cons_zero, List.set_cons_succ]
    refine wpAnyH_take (i := 6) (oi := _) (v := .string b.1) rfl (by kernel_rfl) (by kernel_rfl) (by kernel_rfl) (fun _ _ _ h => h) (Or.inl ⟨by rfl, by intro w hSw; go_split_ands; go_simp⟩) HS.out ?_
    simp only [Act.put, List.getElem_toArray, List.getElem_cons_zero, List.getElem_cons_succ, List.setIfInBounds_toArray, List.set_cons_zero, List.set_cons_succ]
    refine wpAnyH_take (i := 7) (oi := _) (v := .slice pa (allL X).length ca) rfl (by kernel_rfl) (by kernel_rfl) (by kernel_rfl) (fun _ _ _ h => h) (Or.inl ⟨by rfl, by intro w hSw; go_split_ands; go_simp⟩) HS.out ?_
    simp only [Act.put, List.getElem_toArray, List.getElem_cons_zero, List.getElem_cons_succ, List.setIfInBounds_toArray, List.set_cons_zero, List.set_cons_succ]
    refine wpAnyH_take (i := 8) (oi := _) (v := .agg #[.string b.1, .slice pa (allL X).length ca]) rfl (by kernel_rfl) (by kernel_rfl) (by kernel_rfl) (fun _ _ _ h => h) (Or.inl ⟨by rfl, by intro w hSw; go_split_ands; go_simp⟩) HS.out ?_
    simp only [Act.put, List.getElem_toArray, List.getElem_cons_zero, List.getElem_cons_succ, List.setIfInBounds_toArray, List.set_cons_zero, List.set_cons_succ]
    refine wpAnyH_ready (rs := [9]) (by kernel_rfl) (by simp) ?_
    refine AllReadyH.cons (o := _) rfl (fun K hK => ?_) AllReadyH.nil
    go_simp
    have HZ1 := hide (HZ0.out.alloc HZ0.out.size (.cells #[.string b.1, .slice pa (allL X).length ca] 49))
    have HRE := hide (row_new Z0 [.string b.1, .slice pa (allL X).length ca] 49)
    have HES := hide (show Z0.heap.size < (Z0.alloc (.cells #[.string b.1, .slice pa (allL X).length ca] 49)).heap.size by simp)
    have HEL := hide (show w2.heap.size ≤ Z0.heap.size from HZ0.out.size)
    have HKP := hide (show ∀ lo hi, SameIn lo hi Z0 (Z0.alloc (.cells #[.string b.1, .slice pa (allL X).length ca] 49)) from fun lo hi => SameIn.ofBelow ((Below.refl _ _).alloc (Nat.le_refl _) _))
    refine hK.out _ _ (HSS.out _ HZ1.out) (fun _ => ?_)
    clear hK K HS
    obtain ⟨Z1, hZ⟩ : ∃ Z, Z = Z0.alloc (.cells #[.string b.1, .slice pa (allL X).length ca] 49) := ⟨_, rfl⟩
    obtain ⟨E, hE⟩ : ∃ E, E = Z0.heap.size := ⟨_, rfl⟩
    rw [← hZ] at HZ1 HRE HES HKP
    rw [← hE] at HRE HES HEL
    try rw [← hZ]
    try rw [← hE]
    clear hZ hE
    have HS := hide (HSS.out _ HZ1.out)
    refine wpAnyH_take (i := 10) (oi := _) (v := .agg #[.string n, .slice (some ⟨E, 0, none⟩) 1 1]) rfl (by kernel_rfl) (by kernel_rfl) (by kernel_rfl) (fun _ _ _ h => h) (Or.inl ⟨by rfl, by intro w hSw; go_split_ands; go_simp⟩) HS.out ?_
    simp only [Act.put, List.getElem_toArray, List.getElem_cons_zero, List.getElem_cons_succ, List.setIfInBounds_toArray, List.set_cons_zero, List.set_cons_succ]
    refine wpAnyH_take (i := 11) (oi := _) (v := .agg #[.string n, .slice (some ⟨E, 0, none⟩) 1 1, .int .i64 0, .int .i64 0]) rfl (by kernel_rfl) (by kernel_rfl) (by kernel_rfl) (fun _ _ _ h => h) (Or.inl ⟨by rfl, by intro w hSw; go_split_ands; go_simp⟩) HS.out ?_
    simp only [Act.put, List.getElem_toArray, List.getElem_cons_zero, List.getElem_cons_succ, List.setIfInBounds_toArray, List.set_cons_zero, List.set_cons_succ]
    refine wpAnyH_ready (rs := [12]) (by kernel_rfl) (by simp) ?_
    refine AllReadyH.cons (o := _) rfl (fun K hK => ?_) AllReadyH.nil
    have rr := HRes2.out.below HZ1.out HRes2.out.lt
    have k0 : Z1.cell? ⟨w.heap.size + 1, 0, none⟩ = some (.string ⟨#[]⟩) := rr.cell 0
    have k1 : Z1.cell? ⟨w.heap.size + 1, 1, none⟩ = some (.slice none 0 0) := rr.cell 1
    have k2 : Z1.cell? ⟨w.heap.size + 1, 2, none⟩ = some (.int .i64 0) := rr.cell 2
    have k3 : Z1.cell? ⟨w.heap.size + 1, 3, none⟩ = some (.int .i64 0) := rr.cell 3
    have f0 := rr.free 0
    have f1 := rr.free 1
    have f2 := rr.free 2
    have f3 := rr.free 3
    obtain ⟨q0, q1, q2, q3, KF, KS, KZ⟩ := fourF rr (.string n) (.slice (some ⟨E, 0, none⟩) 1 1) (.int .i64 0) (.int .i64 0)
    have HBF := hide (KF w w.heap.size (Nat.le_succ _) (HB2.out.trans (HZ1.out.mono HB2.out.size)))
    have HGL := hide (show w.heap.size + 1 < w2.heap.size from HRes2.out.lt)
    have HFR := hide (show (fun y : World => y.cell? ⟨w.heap.size, 0, none⟩ = some (.string n) ∧ y.cell? ⟨w.heap.size, 1, none⟩ = some (.slice (some ⟨g, off, none⟩) X.length cap) ∧ y.cell? ⟨g, off, none⟩ = some (.string b.1)) ((((Z1.setCell ⟨w.heap.size + 1, 0, none⟩ (.string n)).setCell ⟨w.heap.size + 1, 1, none⟩ (.slice (some ⟨E, 0, none⟩) 1 1)).setCell ⟨w.heap.size + 1, 2, none⟩ (.int .i64 0)).setCell ⟨w.heap.size + 1, 3, none⟩ (.int .i64 0)) from
      ⟨((((HRow2.out.below HZ1.out HRow2.out.lt).other (b := w.heap.size + 1) (j := 0) (by omega) (.string n)).other (b := w.heap.size + 1) (j := 1) (by omega) (.slice (some ⟨E, 0, none⟩) 1 1)).other (b := w.heap.size + 1) (j := 2) (by omega) (.int .i64 0)).other (b := w.heap.size + 1) (j := 3) (by omega) (.int .i64 0) |>.cell 0,
       ((((HRow2.out.below HZ1.out HRow2.out.lt).other (b := w.heap.size + 1) (j := 0) (by omega) (.string n)).other (b := w.heap.size + 1) (j := 1) (by omega) (.slice (some ⟨E, 0, none⟩) 1 1)).other (b := w.heap.size + 1) (j := 2) (by omega) (.int .i64 0)).other (b := w.heap.size + 1) (j := 3) (by omega) (.int .i64 0) |>.cell 1,
       (HBF.out.cell (p := ⟨g, off, none⟩) hg).trans hgc⟩)
    have HOR : Hid (RBats w.heap.size ((((Z1.setCell ⟨w.heap.size + 1, 0, none⟩ (.string n)).setCell ⟨w.heap.size + 1, 1, none⟩ (.slice (some ⟨E, 0, none⟩) 1 1)).setCell ⟨w.heap.size + 1, 2, none⟩ (.int .i64 0)).setCell ⟨w.heap.size + 1, 3, none⟩ (.int .i64 0)) (.slice (some ⟨E, 0, none⟩) [(b.1, allL X)].length 1) [(b.1, allL X)]) := hide (by
      have hgl := HGL.out
      have hel := HEL.out
      have hg1 := HG1.out
      have hz1 := HZ1.out.size
      have hsame : Same w1.heap.size w2 ((((Z1.setCell ⟨w.heap.size + 1, 0, none⟩ (.string n)).setCell ⟨w.heap.size + 1, 1, none⟩ (.slice (some ⟨E, 0, none⟩) 1 1)).setCell ⟨w.heap.size + 1, 2, none⟩ (.int .i64 0)).setCell ⟨w.heap.size + 1, 3, none⟩ (.int .i64 0)) :=
        ⟨by rw [KZ]; exact HZ1.out.size, fun k h1 h2 => (KS k (k + 1) (.inl (by omega)) k (Nat.le_refl _) (Nat.lt_succ_self _) (by omega)).trans (HZ1.out.block k h2)⟩
      have re := (KS E (E + 1) (.inl (by omega))).row HRE.out (Nat.le_refl _) (Nat.lt_succ_self _)
      refine ⟨_, _, rfl, Nat.le_refl _, by unfold maxLen; omega, fun _ => ⟨E, 0, rfl, re.lt, by omega, fun i hi => ?_⟩⟩
      have ei : i = 0 := by simp at hi; exact hi
      subst ei
      exact ⟨by simpa using re.cell 0, by have := HBS.out; unfold maxLen; show b.1.size ≤ _; omega, _, by simpa using re.cell 1, RMsgs.mono (HALL.out.same hsame) (by omega : w.heap.size ≤ w1.heap.size)⟩)
    clear rr KF KS KZ
    go_simp
    refine hK.out _ _ HFR.out (fun _ => ?_)
    clear hK K HS
    refine wpAnyH_done (by kernel_rfl) ?_ _
    go_wp2
    exact bodyPost_ret (v := .agg #[.string n, .slice (some ⟨E, 0, none⟩) 1 1, .int .i64 0, .int .i64 0]) (by simp [results, Tryz.results26, go_sem, q0, q1, q2, q3]) rfl ⟨_, _, rfl, HOR.out, HBF.out⟩

end Go.Proofs.YtholbhjfmfanbaaGreat
/- The law of Merge. -/
namespace Go.Proofs.YtholbhjfmfanbaaGreat
open Go.RowKit
set_option maxHeartbeats 8000000 in
theorem lawMerge (n : ByteArray) (u : Value) (x : List Bat) (w : World) (hnl : n.size ≤ maxLen) (hr : RBats 0 w u x) :
    Calls Tryz.prog 7 #[.agg #[.string n, u]] w fun e w' => e = .returned (.bool true) ∧ Below w.heap.size w w' := by
  obtain ⟨p, c, rfl⟩ := hr.isSlice
  obtain ⟨W, hW⟩ : ∃ W, W = w.alloc (.cells #[.string n, .slice p x.length c] 24) := ⟨_, rfl⟩
  have hb0 : Below w.heap.size w W := by rw [hW]; exact (Below.refl _ _).alloc (Nat.le_refl _) _
  have HR := hide hr
  have HB0 := hide hb0
  have HRW := hide (show Row W w.heap.size 24 [.string n, .slice p x.length c] by rw [hW]; exact row_new w [.string n, .slice p x.length c] 24)
  clear hb0 hr
  go_enter Tryz.func7, Tryz.ntmps7
  go_wp2_with fail
  rw [← hW]
  refine (szFile_any n _ x 1048576 _ hnl (by omega) (by omega) (HR.out.below HB0.out)).mono ?_
  rintro e w1 ⟨rfl, hb1⟩
  clear hW
  have HB1 := hide (HB0.out.trans (hb1.mono HB0.out.size))
  have HRow1 := hide (HRW.out.below hb1 HRW.out.lt)
  have c1 : w1.cell? ⟨w.heap.size, 1, none⟩ = some (.slice p x.length c) := HRow1.out.cell 1
  have b1 : w1.cell? ⟨w.heap.size, 0, none⟩ = some (.string n) := HRow1.out.cell 0
  clear hb1
  by_cases hsz : (((n.size + wBats x) : Nat) : Int) ≤ 1048576
  case neg =>
    rw [szOf_no hsz]
    go_wp2
    go_ret
    exact ⟨rfl, HB1.out⟩
  rw [szOf_yes hsz]
  have HS := hide (show wBats x ≤ 1048576 by omega)
  have HNB := hide (show n.size ≤ 1048576 by omega)
  have h0 : ¬ (1048576 - (((n.size + wBats x) : Nat) : Int)) < 0 := by omega
  clear hsz
  generalize (1048576 - (((n.size + wBats x) : Nat) : Int)) = L at h0
  obtain ⟨A, hA⟩ : ∃ A, A = mrgOut n x := ⟨_, rfl⟩
  have HWA := hide (show wBats A.2.2 ≤ 1048576 by rw [hA]; exact mrgOut_w n x HS.out)
  have HAE := hide hA
  clear hA
  go_wp2_with fail
  refine (toFile_any n _ x _ HS.out (HR.out.below HB1.out)).mono ?_
  rintro e w2 ⟨p2, c2, rfl, hr2, hb2⟩
  have HB2 := hide (HB1.out.trans (hb2.mono HB1.out.size))
  have HC2 := hide (RBats.mono hr2 (Nat.zero_le _))
  have HRow2 := hide (HRow1.out.below hb2 HRow1.out.lt)
  clear hr2 hb2 c1 b1
  go_wp2_with fail
  refine (specMerge_any n _ x _ hnl HS.out HC2.out).mono ?_
  rintro e w3a ⟨pw, cw, rfl, hrw, hb3⟩
  rw [← HAE.out] at hrw ⊢
  unfold foV
  have hbw : Below w3a.heap.size w3a (w3a.alloc (.cells #[.string A.2.1, .slice pw A.2.2.length cw, .int .i64 0, .int .i64 A.1] 40)) := (Below.refl _ _).alloc (Nat.le_refl _) _
  have hb3w := hb3.trans (hbw.mono hb3.size)
  have HB3 := hide (HB2.out.trans (hb3w.mono HB2.out.size))
  have HW3 := hide ((RBats.mono hrw (Nat.zero_le _)).below hbw)
  have HRow3 := hide (HRow2.out.below hb3w HRow2.out.lt)
  have HRw := hide (row_new w3a [.string A.2.1, .slice pw A.2.2.length cw, .int .i64 0, .int .i64 A.1] 40)
  have c3 : (w3a.alloc (.cells #[.string A.2.1, .slice pw A.2.2.length cw, .int .i64 0, .int .i64 A.1] 40)).cell? ⟨w.heap.size, 1, none⟩ = some (.slice p x.length c) := HRow3.out.cell 1
  have b3 : (w3a.alloc (.cells #[.string A.2.1, .slice pw A.2.2.length cw, .int .i64 0, .int .i64 A.1] 40)).cell? ⟨w.heap.size, 0, none⟩ = some (.string n) := HRow3.out.cell 0
  clear hrw hb3 hbw hb3w
  go_wp2_with fail
  generalize hV : w3a.alloc (.cells #[.string A.2.1, .slice pw A.2.2.length cw, .int .i64 0, .int .i64 A.1] 40) = w3 at *
  generalize hG : w3a.heap.size = G4 at *
  clear hV hG
  refine (toFile_own n _ x _ HS.out (HR.out.below HB3.out)).mono ?_
  rintro e w4 ⟨p4, c4, rfl, hr4, hb4⟩
  have hbn : Below w4.heap.size w4 (w4.alloc (.cells #[.string n, .slice p4 x.length c4] 29)) := (Below.refl _ _).alloc (Nat.le_refl _) _
  have hb44 := hb4.trans (hbn.mono hb4.size)
  have HB4 := hide (HB3.out.trans (hb44.mono HB3.out.size))
  have HX4 := hide (hr4.keep (SameIn.ofBelow hbn))
  have HW4 := hide (HW3.out.below hb44)
  have HRow4 := hide (HRow3.out.below hb44 HRow3.out.lt)
  have HRw4 := hide (HRw.out.below hb44 HRw.out.lt)
  have HRowX := hide (row_new w4 [.string n, .slice p4 x.length c4] 29)
  have HLX := hide (show w3.heap.size ≤ w4.heap.size from hb4.size)
  have HB34 := hide hb44
  have HLW := hide (show w.heap.size < w3.heap.size ∧ G4 < w3.heap.size from ⟨HRow3.out.lt, HRw.out.lt⟩)
  clear hr4 hb4 hbn hb44 c3 b3
  go_wp2_with fail
  have HV5 : Hid ((w4.alloc (.cells #[.string n, .slice p4 x.length c4] 29)).heap.size = w4.heap.size + 1) := hide (by simp)
  generalize hV : w4.alloc (.cells #[.string n, .slice p4 x.length c4] 29) = V at *
  generalize hG : w4.heap.size = G at *
  clear hV hG
  refine (implMerge_any n _ x _ hnl HNB.out HS.out (RBats.mono HX4.out.rl (Nat.zero_le _))).mono ?_
  rintro e w5a ⟨pg, cg, rfl, ho5, hb5⟩
  rw [← HAE.out] at ho5 ⊢
  unfold foV
  have hbg : Below w5a.heap.size w5a (w5a.alloc (.cells #[.string A.2.1, .slice pg A.2.2.length cg, .int .i64 0, .int .i64 A.1] 40)) := (Below.refl _ _).alloc (Nat.le_refl _) _
  have hb5g := hb5.trans (hbg.mono hb5.size)
  have HB5 := hide (HB4.out.trans (hb5g.mono HB4.out.size))
  have HB35 := hide (HB34.out.trans (hb5g.mono HB34.out.size))
  have HX5 := hide (HX4.out.keep (SameIn.ofBelow hb5g))
  have HW5 := hide (HW4.out.below hb5g)
  have HRow5 := hide (HRow4.out.below hb5g HRow4.out.lt)
  have HRw5 := hide (HRw4.out.below hb5g HRw4.out.lt)
  have HRowX5 := hide (HRowX.out.below hb5g HRowX.out.lt)
  have HRg5 := hide (row_new w5a [.string A.2.1, .slice pg A.2.2.length cg, .int .i64 0, .int .i64 A.1] 40)
  have HO5 := hide (ho5.keep (SameIn.ofBelow hbg))
  have HGZ := hide (show V.heap.size ≤ w5a.heap.size from hb5.size)
  have k0 : (w5a.alloc (.cells #[.string A.2.1, .slice pg A.2.2.length cg, .int .i64 0, .int .i64 A.1] 40)).cell? ⟨G4, 0, none⟩ = some (.string A.2.1) := HRw5.out.cell 0
  have k1 : (w5a.alloc (.cells #[.string A.2.1, .slice pg A.2.2.length cg, .int .i64 0, .int .i64 A.1] 40)).cell? ⟨G4, 1, none⟩ = some (.slice pw A.2.2.length cw) := HRw5.out.cell 1
  have k2 : (w5a.alloc (.cells #[.string A.2.1, .slice pg A.2.2.length cg, .int .i64 0, .int .i64 A.1] 40)).cell? ⟨G4, 2, none⟩ = some (.int .i64 0) := HRw5.out.cell 2
  have k3 : (w5a.alloc (.cells #[.string A.2.1, .slice pg A.2.2.length cg, .int .i64 0, .int .i64 A.1] 40)).cell? ⟨G4, 3, none⟩ = some (.int .i64 A.1) := HRw5.out.cell 3
  clear ho5 hb5 hbg hb5g
  go_wp2_with fail
  obtain ⟨w5, hw5⟩ : ∃ w5, w5 = w5a.alloc (.cells #[.string A.2.1, .slice pg A.2.2.length cg, .int .i64 0, .int .i64 A.1] 40) := ⟨_, rfl⟩
  obtain ⟨G6, hG6⟩ : ∃ G6, G6 = w5a.heap.size := ⟨_, rfl⟩
  obtain ⟨LO, hLO⟩ : ∃ LO, LO = V.heap.size := ⟨_, rfl⟩
  rw [← hw5] at HB5 HB35 HX5 HW5 HRow5 HRw5 HRowX5 HRg5 HO5 ⊢
  rw [← hG6] at HRg5 HO5 HGZ ⊢
  rw [← hLO] at HO5 HV5 HGZ
  clear hw5 hG6 hLO k0 k1 k2 k3
  refine (eqFileOut_same A _ _ 0 0 _ HWA.out (RBats.mono HO5.out.rl (Nat.zero_le _)) HW5.out).mono ?_
  rintro e w6 ⟨rfl, hb6⟩
  have HB6 := hide (HB5.out.trans (hb6.mono HB5.out.size))
  have HB36 := hide (HB35.out.trans (hb6.mono HB35.out.size))
  have HX6 := hide (HX5.out.keep (SameIn.ofBelow hb6))
  have HW6 := hide (HW5.out.below hb6)
  have HRow6 := hide (HRow5.out.below hb6 HRow5.out.lt)
  have HRw6 := hide (HRw5.out.below hb6 HRw5.out.lt)
  have HRg6 := hide (HRg5.out.below hb6 HRg5.out.lt)
  have HRowX6 := hide (HRowX5.out.below hb6 HRowX5.out.lt)
  have HO6 := hide (HO5.out.keep (SameIn.ofBelow hb6))
  have HSS := hide (show ∀ y, Below w6.heap.size w6 y → y.cell? ⟨w.heap.size, 0, none⟩ = some (.string n) ∧ y.cell? ⟨w.heap.size, 1, none⟩ = some (.slice p x.length c) ∧ y.cell? ⟨G, 0, none⟩ = some (.string n) ∧ y.cell? ⟨G, 1, none⟩ = some (.slice p4 x.length c4) ∧ Below w6.heap.size w6 y from
    fun y h => ⟨(HRow6.out.below h HRow6.out.lt).cell 0, (HRow6.out.below h HRow6.out.lt).cell 1, (HRowX6.out.below h HRowX6.out.lt).cell 0, (HRowX6.out.below h HRowX6.out.lt).cell 1, h⟩)
  clear hb6 HB5 HB35 HX5 HW5 HRow5 HRw5 HRg5 HRowX5 HO5
  go_wp2_with fail
  go_cut [31] (fun t wz => t = .bool false ∧ ∃ wx, wx = wz ∧ Hid (Below w6.heap.size w6 wx))
  case first =>
    go_region_held3 (fun y => y.cell? ⟨w.heap.size, 0, none⟩ = some (.string n) ∧ y.cell? ⟨w.heap.size, 1, none⟩ = some (.slice p x.length c) ∧ y.cell? ⟨G, 0, none⟩ = some (.string n) ∧ y.cell? ⟨G, 1, none⟩ = some (.slice p4 x.length c4) ∧ Below w6.heap.size w6 y)
      ((go_split_ands; refine HSS.out _ ?_; repeat (first | with_reducible assumption | with_reducible exact Below.refl _ _ | with_reducible refine Below.drew ?_)))
      ((first
        | (go_at_call 10; go_split_ands; refine (toFile_any n _ x _ HS.out (HR.out.below (HB6.out.trans (Below.mono (by assumption) HB6.out.size)))).mono ?_; rintro e w7 ⟨p6, c6, rfl, hr6, hbb⟩; have HC7 := hide (RBats.mono hr6 (Nat.zero_le _)); have hB6 : Below w6.heap.size w6 w7 := Below.trans (by assumption) (hbb.mono (Below.size (by assumption))); clear hr6 hbb)
        | (go_at_call 12; go_split_ands; refine (eqFile_same n _ _ x 0 0 _ HS.out (RBats.below (RBats.mono HX6.out.rl (Nat.zero_le _)) (by assumption)) (by first | exact HC7.out | exact HC7.out.below ((Below.refl _ _).drew))).mono ?_; rintro e w8 ⟨rfl, hb7⟩; have hB7 : Below w6.heap.size w6 w8 := Below.trans (by assumption) (hb7.mono (Below.size (by assumption))); clear hb7)))
    all_goals
      have HB7 := hide hB7
      clear hB7
      go_wp2_with fail
      go_meet
      exact ⟨rfl, _, rfl, HB7⟩
  case rest =>
    obtain ⟨rfl, wc, rfl, HBc⟩ := hcut
    have hbc := HBc.out
    have HBwc := hide (HB6.out.trans (hbc.mono HB6.out.size))
    have HXc := hide (HX6.out.keep (SameIn.ofBelow hbc))
    have HRowc := hide (HRow6.out.below hbc HRow6.out.lt)
    have HRwc := hide (HRw6.out.below hbc HRw6.out.lt)
    have HRgc := hide (HRg6.out.below hbc HRg6.out.lt)
    have HRowXc := hide (HRowX6.out.below hbc HRowX6.out.lt)
    have HOc := hide (HO6.out.keep (SameIn.ofBelow hbc))
    have HB3c := hide (HB36.out.trans (hbc.mono HB36.out.size))
    have x0 : wc.cell? ⟨G, 0, none⟩ = some (.string n) := HRowXc.out.cell 0
    have x1 : wc.cell? ⟨G, 1, none⟩ = some (.slice p4 x.length c4) := HRowXc.out.cell 1
    clear hbc HBc HSS HX6 HW6 HRow6 HRw6 HRg6 HRowX6 HO6 HB6 HB36
    go_wp2_with fail
    refine (markFile_own w3.heap.size G n _ x 1 _ HS.out (by have := HS.out; omega) HXc.out).mono ?_
    rintro e wd ⟨rfl, _, hwd⟩
    have HBd := hide (hwd.toBelow HBwc.out HB3.out.size HBwc.out.size)
    have HB3d := hide (hwd.toBelow HB3c.out (Nat.le_refl _) HB3c.out.size)
    have HRowd := hide (hwd.row HRowc.out (.inl HLW.out.1))
    have HRwd := hide (hwd.row HRwc.out (.inl HLW.out.2))
    have HRgd := hide (hwd.row HRgc.out (.inr (by have h1 := HV5.out; have h2 := HGZ.out; omega)))
    have HWd := hide (HW3.out.below HB3d.out)
    have HOd := hide (HOc.out.keep (hwd.same (.inr (by have := HV5.out; omega))))
    have hpos : ¬ ((((1 + cntBats x : Nat)) : Int)) < 0 := by omega
    have k0 : wd.cell? ⟨G4, 0, none⟩ = some (.string A.2.1) := HRwd.out.cell 0
    have k1 : wd.cell? ⟨G4, 1, none⟩ = some (.slice pw A.2.2.length cw) := HRwd.out.cell 1
    have k2 : wd.cell? ⟨G4, 2, none⟩ = some (.int .i64 0) := HRwd.out.cell 2
    have k3 : wd.cell? ⟨G4, 3, none⟩ = some (.int .i64 A.1) := HRwd.out.cell 3
    have g0 : wd.cell? ⟨G6, 0, none⟩ = some (.string A.2.1) := HRgd.out.cell 0
    have g1 : wd.cell? ⟨G6, 1, none⟩ = some (.slice pg A.2.2.length cg) := HRgd.out.cell 1
    have g2 : wd.cell? ⟨G6, 2, none⟩ = some (.int .i64 0) := HRgd.out.cell 2
    have g3 : wd.cell? ⟨G6, 3, none⟩ = some (.int .i64 A.1) := HRgd.out.cell 3
    clear hwd x0 x1 HRowc HRwc HRgc HRowXc HOc HBwc HB3c HXc
    go_wp2_with fail
    refine (eqFileOut_same A _ _ 0 0 _ HWA.out (RBats.mono HOd.out.rl (Nat.zero_le _)) HWd.out).mono ?_
    rintro e we ⟨rfl, hbe⟩
    have HBe := hide (HBd.out.trans (hbe.mono HBd.out.size))
    have HB3e := hide (HB3d.out.trans (hbe.mono HB3d.out.size))
    have HRowe := hide (HRowd.out.below hbe HRowd.out.lt)
    have HRwe := hide (HRwd.out.below hbe HRwd.out.lt)
    have HRge := hide (HRgd.out.below hbe HRgd.out.lt)
    have HOe := hide (HOd.out.keep (SameIn.ofBelow hbe))
    have m0 : we.cell? ⟨G6, 0, none⟩ = some (.string A.2.1) := HRge.out.cell 0
    have m1 : we.cell? ⟨G6, 1, none⟩ = some (.slice pg A.2.2.length cg) := HRge.out.cell 1
    have m2 : we.cell? ⟨G6, 2, none⟩ = some (.int .i64 0) := HRge.out.cell 2
    have m3 : we.cell? ⟨G6, 3, none⟩ = some (.int .i64 A.1) := HRge.out.cell 3
    clear hbe k0 k1 k2 k3 g0 g1 g2 g3 HRowd HRwd HRgd HWd HOd HBd HB3d
    go_wp2_with fail
    refine (markFileOut_own LO G6 A _ 1 _ HWA.out (by have := HWA.out; omega) HOe.out).mono ?_
    rintro e wf ⟨rfl, hof, hwf⟩
    have HL3 := hide (show w3.heap.size ≤ LO by have h1 := HV5.out; have h2 := HLX.out; omega)
    have HBf := hide (hwf.toBelow HBe.out (Nat.le_trans HB3.out.size HL3.out) HBe.out.size)
    have HB3f := hide (hwf.toBelow HB3e.out HL3.out HB3e.out.size)
    have HRowf := hide (hwf.row HRowe.out (.inl (Nat.lt_of_lt_of_le HLW.out.1 HL3.out)))
    have HRwf := hide (hwf.row HRwe.out (.inl (Nat.lt_of_lt_of_le HLW.out.2 HL3.out)))
    have HRgf := hide (hwf.row HRge.out (.inr (Nat.le_refl _)))
    have HOf := hide hof
    obtain ⟨M, hM⟩ : ∃ M : Nat, M = 1 + cntBats A.2.2 := ⟨_, rfl⟩
    rw [← hM]
    have HMM := hide hM
    have hMp : ¬ ((M : Nat) : Int) < 0 := by omega
    have hMe : (((M : Nat) : Int) != ((M : Nat) : Int)) = false := by simp
    have n0 : wf.cell? ⟨G6, 0, none⟩ = some (.string A.2.1) := HRgf.out.cell 0
    have n1 : wf.cell? ⟨G6, 1, none⟩ = some (.slice pg A.2.2.length cg) := HRgf.out.cell 1
    have n2 : wf.cell? ⟨G6, 2, none⟩ = some (.int .i64 0) := HRgf.out.cell 2
    have n3 : wf.cell? ⟨G6, 3, none⟩ = some (.int .i64 A.1) := HRgf.out.cell 3
    clear hof hwf hM m0 m1 m2 m3 HRowe HRwe HRge HOe HBe HB3e
    go_wp2_with fail
    refine (heldFileOut_own LO G6 A _ 1 _ HWA.out (by have := HWA.out; omega) HOf.out).mono ?_
    rintro e wg ⟨rfl, hbg⟩
    rw [← HMM.out]
    have HBg := hide (HBf.out.trans (hbg.mono HBf.out.size))
    have HB3g := hide (HB3f.out.trans (hbg.mono HB3f.out.size))
    have HRowg := hide (HRowf.out.below hbg HRowf.out.lt)
    have HRwg := hide (HRwf.out.below hbg HRwf.out.lt)
    have HRgg := hide (HRgf.out.below hbg HRgf.out.lt)
    have HOg := hide (HOf.out.keep (SameIn.ofBelow hbg))
    have cg0 : wg.cell? ⟨w.heap.size, 1, none⟩ = some (.slice p x.length c) := HRowg.out.cell 1
    have cg1 : wg.cell? ⟨w.heap.size, 0, none⟩ = some (.string n) := HRowg.out.cell 0
    clear hbg n0 n1 n2 n3 HRowf HRwf HRgf HOf HBf HB3f
    go_wp2_with fail
    refine (toFile_any n _ x _ HS.out (HR.out.below HBg.out)).mono ?_
    rintro e wh ⟨ph, ch, rfl, hrh, hbh⟩
    have HBh := hide (HBg.out.trans (hbh.mono HBg.out.size))
    have HB3h := hide (HB3g.out.trans (hbh.mono HB3g.out.size))
    have HCh := hide (RBats.mono hrh (Nat.zero_le _))
    have HOh := hide (HOg.out.keep (SameIn.ofBelow hbh))
    have HRwh := hide (HRwg.out.below hbh HRwg.out.lt)
    have HRgh := hide (HRgg.out.below hbh HRgg.out.lt)
    clear hrh hbh HRowg HRwg HRgg HOg HBg HB3g cg0 cg1
    go_wp2_with fail
    refine (implMerge_any n _ x _ hnl HNB.out HS.out HCh.out).mono ?_
    rintro e wi ⟨pi, ci, rfl, hoi, hbi⟩
    rw [← HAE.out] at hoi ⊢
    unfold foV
    have hbw : Below wi.heap.size wi (wi.alloc (.cells #[.string A.2.1, .slice pi A.2.2.length ci, .int .i64 0, .int .i64 A.1] 40)) := (Below.refl _ _).alloc (Nat.le_refl _) _
    have hbiw := hbi.trans (hbw.mono hbi.size)
    have HBi := hide (HBh.out.trans (hbiw.mono HBh.out.size))
    have HB3i := hide (HB3h.out.trans (hbiw.mono HB3h.out.size))
    have HOi := hide (HOh.out.keep (SameIn.ofBelow hbiw))
    have HHi := hide ((RBats.mono hoi.rl (Nat.zero_le _)).below hbw)
    have HWi := hide (HW3.out.below HB3i.out)
    have HRwi := hide (HRwh.out.below hbiw HRwh.out.lt)
    have HRgi := hide (HRgh.out.below hbiw HRgh.out.lt)
    have r0 : (wi.alloc (.cells #[.string A.2.1, .slice pi A.2.2.length ci, .int .i64 0, .int .i64 A.1] 40)).cell? ⟨G4, 0, none⟩ = some (.string A.2.1) := HRwi.out.cell 0
    have r1 : (wi.alloc (.cells #[.string A.2.1, .slice pi A.2.2.length ci, .int .i64 0, .int .i64 A.1] 40)).cell? ⟨G4, 1, none⟩ = some (.slice pw A.2.2.length cw) := HRwi.out.cell 1
    have r2 : (wi.alloc (.cells #[.string A.2.1, .slice pi A.2.2.length ci, .int .i64 0, .int .i64 A.1] 40)).cell? ⟨G4, 2, none⟩ = some (.int .i64 0) := HRwi.out.cell 2
    have r3 : (wi.alloc (.cells #[.string A.2.1, .slice pi A.2.2.length ci, .int .i64 0, .int .i64 A.1] 40)).cell? ⟨G4, 3, none⟩ = some (.int .i64 A.1) := HRwi.out.cell 3
    clear hoi hbi hbw hbiw HOh HBh HB3h HCh HRwh HRgh
    go_wp2_with fail
    refine (eqFileOut_same A _ _ 0 0 _ HWA.out HHi.out HWi.out).mono ?_
    rintro e wj ⟨rfl, hbj⟩
    have HBj := hide (HBi.out.trans (hbj.mono HBi.out.size))
    have HOj := hide (HOi.out.keep (SameIn.ofBelow hbj))
    have HRgj := hide (HRgi.out.below hbj HRgi.out.lt)
    have s0 : wj.cell? ⟨G6, 0, none⟩ = some (.string A.2.1) := HRgj.out.cell 0
    have s1 : wj.cell? ⟨G6, 1, none⟩ = some (.slice pg A.2.2.length cg) := HRgj.out.cell 1
    have s2 : wj.cell? ⟨G6, 2, none⟩ = some (.int .i64 0) := HRgj.out.cell 2
    have s3 : wj.cell? ⟨G6, 3, none⟩ = some (.int .i64 A.1) := HRgj.out.cell 3
    clear hbj r0 r1 r2 r3 HOi HBi HB3i HHi HWi HRwi HRgi
    go_wp2_with fail
    refine (heldFileOut_own LO G6 A _ 1 _ HWA.out (by have := HWA.out; omega) HOj.out).mono ?_
    rintro e wk ⟨rfl, hbk⟩
    rw [← HMM.out]
    have HBk := hide (HBj.out.trans (hbk.mono HBj.out.size))
    clear hbk
    go_wp2
    go_ret
    exact ⟨rfl, HBk.out⟩
end Go.Proofs.YtholbhjfmfanbaaGreat
