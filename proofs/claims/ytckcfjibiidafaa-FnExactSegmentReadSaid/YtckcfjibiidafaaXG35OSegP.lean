/- A Segment that is read: of the program. -/
import Derived.Test.YtckcfjibiidafaaXG34OPre
import Derived.Test.YtckcfjibiidafaaXG22Stab
import Derived.Deep.DeepCutAuto
import Derived.OrdersHeld
import Derived.Test.YtckcfjibiidafaaXG31FSegR
namespace Go.Proofs.Ytckcfjibiidafaa
open Go.RowKit
def SegResP (lo : Nat) (R : Option (ByteArray × Flds)) (e : Ending) (w' : World) : Prop :=
  ∃ n u b xs, e = .returned (.tuple #[.agg #[.string n, u], .bool b]) ∧ OFlds lo w'.heap.size w' u xs ∧ n.size ≤ 3 ∧ R = (if b then some (n, xs) else none)
theorem fldQ_small {m : ByteArray} {p : List UInt8} {x : List (List (List ByteArray))} (hp : p.length ≤ 900000) (h : fldQ m p = some x) :
    x.length ≤ 1048576 ∧ (∀ i (h : i < x.length), x[i].length ≤ 1048576) ∧ ∀ i (h : i < x.length) j (hj : j < x[i].length), x[i][j].length ≤ 1048576 := by
  unfold fldQ at h
  obtain ⟨g, hg, hb⟩ := Option.bind_eq_some_iff.1 h
  by_cases hf : fldB g = true
  · rw [if_pos hf] at hb
    cases hb
    exact fldP_small m p _ hp hg
  · rw [if_neg hf] at hb
    cases hb
theorem fldsP_fits {m : ByteArray} {L : List UInt8} {xs : Flds} (hL : L.length ≤ 900000) (h : fldsP m L = some xs) : Fits xs := by
  have h2 := piecesL_len (bAt m 0) L
  unfold fldsP at h
  split at h
  · cases h
    exact ⟨by simp, fun i hi => by simp at hi⟩
  · rename_i p r e
    by_cases hp : p = []
    · rw [if_pos hp] at h
      have hl := mapO_len _ _ h
      rw [e] at h2
      have h3 := h2.1
      simp only [List.length_cons] at h3
      refine ⟨by omega, fun i hi => ?_⟩
      obtain ⟨q, hq, e2⟩ := mapO_mem _ _ h _ (List.getElem_mem hi)
      have h4 := h2.2 q (List.mem_cons_of_mem _ hq)
      have := fldQ_small (by omega) e2
      exact this
    · rw [if_neg hp] at h
      cases h

set_option maxHeartbeats 16000000 in
set_option maxRecDepth 100000 in
theorem segmentR_any (m s : ByteArray) (w : World) (hm : marksB m = true) (hs : s.size ≤ 8000) :
    Calls Try.prog 27 #[.agg #[.string m, .bool false], .string s] w fun e w' => SegResP w.heap.size (segQ m s.data.toList) e w' ∧ Below w.heap.size w w' := by
  have hm5 : m.size = 5 := marks_five hm
  have HMB := hide hm
  have htl : s.data.toList.length = s.size := by simp
  obtain ⟨R, hR⟩ : ∃ R, R = segQ m s.data.toList := ⟨_, rfl⟩
  rw [← hR]
  have HRX := hide hR
  clear hR hm
  obtain ⟨W, hW⟩ : ∃ W, W = (w.alloc (.cells #[.string m, .bool false] 46)).alloc (.cells #[.string ⟨#[]⟩, .slice none 0 0] 33) := ⟨_, rfl⟩
  have HBW := hide (show Below w.heap.size w W by rw [hW]; exact ((Below.refl _ _).alloc (Nat.le_refl _) _).alloc (by simp) _)
  have HWs := hide (show W.heap.size = w.heap.size + 2 by rw [hW]; simp)
  have HR1 := hide (show Row W w.heap.size 46 [.string m, .bool false] by rw [hW]; exact (row_new w [.string m, .bool false] 46).alloc _)
  have HR2 := hide (show Row W (w.heap.size + 1) 33 [.string ⟨#[]⟩, .slice none 0 0] by
    rw [hW]
    have := row_new (w.alloc (.cells #[.string m, .bool false] 46)) [.string ⟨#[]⟩, .slice none 0 0] 33
    simpa using this)
  by_cases h3 : s.size < 3
  · have HSM0 := hide (show segQ m s.data.toList = none by unfold segQ headR; rw [if_pos (by omega)]; rfl)
    have h3i : (s.size : Int) < 3 := by omega
    obtain rfl : R = none := by rw [HRX.out]; exact HSM0.out
    clear HWs HR1 HR2
    subst hW
    go_enter Try.func27, Try.ntmps27
    go_wp2
    exact bodyPost_ret (v := .tuple #[.agg #[.string ⟨#[]⟩, .slice none 0 0], .bool false]) (by simp [results, Try.results27, go_sem]) rfl ⟨⟨⟨#[]⟩, _, false, [], rfl, ⟨none, 0, rfl, Nat.le_refl _, Nat.zero_le _, fun h => absurd h (Nat.lt_irrefl 0)⟩, Nat.zero_le 3, rfl⟩, HBW.out⟩
  have h3i : ¬ (s.size : Int) < 3 := by omega
  have h3j : (3 : Int) ≤ (s.size : Int) := by omega
  have HN3a := hide (show (s.extract 0 3 : ByteArray) = ⟨(s.data.toList.take 3).toArray⟩ by rw [extract_list]; rfl)
  have HN3b := hide (show (s.extract 0 3 : ByteArray).size ≤ 3 by rw [ByteArray.size_extract]; omega)
  have HRS3 := hide (show (s.extract 3 s.size : ByteArray).data.toList = s.data.toList.drop 3 by rw [extract_listE])
  have HRSs := hide (show (s.extract 3 s.size : ByteArray).size ≤ 8000 by rw [ByteArray.size_extract]; omega)
  go_enter Try.func27, Try.ntmps27
  go_wp2_with fail
  rw [← hW]
  refine wp_region_held (S := (fun _ : World => True)) (by kernel_rfl) ?_
  have HZ0 := hide (show Below W.heap.size W { W with drawn := W.drawn + 1 } from (Below.refl _ _).drew)
  obtain ⟨WA, hWA⟩ : ∃ WA : World, WA = { W with drawn := W.drawn + 1 } := ⟨_, rfl⟩
  rw [← hWA] at HZ0 ⊢
  have HBWA := hide (HBW.out.trans (HZ0.out.mono HBW.out.size))
  have HWAs := hide (show WA.heap.size = w.heap.size + 2 by rw [hWA]; exact HWs.out)
  have HR1A := hide (HR1.out.below HZ0.out HR1.out.lt)
  have HR2A := hide (HR2.out.below HZ0.out HR2.out.lt)
  clear hWA hW HBW HWs HR1 HR2 HZ0
  clear W
  have HBW := HBWA
  have HWs := HWAs
  have HR1 := HR1A
  have HR2 := HR2A
  clear HBWA HWAs HR1A HR2A
  obtain ⟨W, hWW⟩ : ∃ W, W = WA := ⟨_, rfl⟩
  rw [← hWW] at HBW HWs HR1 HR2 ⊢
  clear hWW
  clear WA
  have HS : Hid True := trivial
  refine wpAnyH_take (i := 0) (oi := _) (v := .string s) rfl (by kernel_rfl) (by kernel_rfl) (by kernel_rfl) (fun _ _ _ h => h) (Or.inl ⟨by rfl, by intro w hSw; go_split_ands; go_simp⟩) HS.out ?_
  simp only [Act.put, List.getElem_toArray, List.getElem_cons_zero, List.setIfInBounds_toArray, List.set_cons_zero, List.set_cons_succ]
  refine wpAnyH_take (i := 1) (oi := _) (v := .string (s.extract 0 3)) rfl (by kernel_rfl) (by kernel_rfl) (by kernel_rfl) (fun _ _ _ h => h) (Or.inl ⟨by rfl, by intro w hSw; go_split_ands; go_simp⟩) HS.out ?_
  simp only [Act.put, List.getElem_toArray, List.getElem_cons_zero, List.getElem_cons_succ, List.setIfInBounds_toArray, List.set_cons_zero, List.set_cons_succ]
  refine wpAnyH_take (i := 2) (oi := _) (v := .string s) rfl (by kernel_rfl) (by kernel_rfl) (by kernel_rfl) (fun _ _ _ h => h) (Or.inl ⟨by rfl, by intro w hSw; go_split_ands; go_simp⟩) HS.out ?_
  simp only [Act.put, List.getElem_toArray, List.getElem_cons_zero, List.getElem_cons_succ, List.setIfInBounds_toArray, List.set_cons_zero, List.set_cons_succ]
  refine wpAnyH_take (i := 3) (oi := _) (v := .string (s.extract 3 s.size)) rfl (by kernel_rfl) (by kernel_rfl) (by kernel_rfl) (fun _ _ _ h => h) (Or.inl ⟨by rfl, by intro w hSw; go_split_ands; go_simp⟩) HS.out ?_
  simp only [Act.put, List.getElem_toArray, List.getElem_cons_zero, List.getElem_cons_succ, List.setIfInBounds_toArray, List.set_cons_zero, List.set_cons_succ]
  refine wpAnyH_take (i := 4) (oi := _) (v := .string (s.extract 0 3)) rfl (by kernel_rfl) (by kernel_rfl) (by kernel_rfl) (fun _ _ _ h => h) (Or.inl ⟨by rfl, by intro w hSw; go_split_ands; go_simp⟩) HS.out ?_
  simp only [Act.put, List.getElem_toArray, List.getElem_cons_zero, List.getElem_cons_succ, List.setIfInBounds_toArray, List.set_cons_zero, List.set_cons_succ]
  refine wpAnyH_take (i := 5) (oi := _) (v := .string (s.extract 3 s.size)) rfl (by kernel_rfl) (by kernel_rfl) (by kernel_rfl) (fun _ _ _ h => h) (Or.inl ⟨by rfl, by intro w hSw; go_split_ands; go_simp⟩) HS.out ?_
  simp only [Act.put, List.getElem_toArray, List.getElem_cons_zero, List.getElem_cons_succ, List.setIfInBounds_toArray, List.set_cons_zero, List.set_cons_succ]
  refine wpAnyH_done (by kernel_rfl) ?_ _
  clear HS
  obtain ⟨N3, hN3⟩ : ∃ N3, N3 = s.extract 0 3 := ⟨_, rfl⟩
  obtain ⟨RS, hRS⟩ : ∃ RS, RS = s.extract 3 s.size := ⟨_, rfl⟩
  rw [← hN3] at HN3a HN3b
  rw [← hRS] at HRS3 HRSs
  rw [← hN3, ← hRS]
  have HN3s := HN3b
  clear hN3 hRS
  have g0 : W.cell? ⟨w.heap.size, 0, none⟩ = some (.string m) := HR1.out.cell 0
  have g1 : W.cell? ⟨w.heap.size, 1, none⟩ = some (.bool false) := HR1.out.cell 1
  have k0 : W.cell? ⟨w.heap.size + 1, 0, none⟩ = some (.string ⟨#[]⟩) := HR2.out.cell 0
  have k1 : W.cell? ⟨w.heap.size + 1, 1, none⟩ = some (.slice none 0 0) := HR2.out.cell 1
  by_cases hmsh : N3 = msh
  · have hb : (N3.toList == [77, 83, 72]) = true := by rw [hmsh]; unfold msh; simp
    have HMS := hide hmsh
    clear hmsh
    by_cases hp : m.size ≤ RS.size ∧ (RS.extract 0 m.size : ByteArray) = m
    case neg =>
      have HHD := hide (show headR m s.data.toList = none by
        unfold headR
        rw [if_neg (by omega), ← HN3a.out, if_pos HMS.out, ← HRS3.out, if_neg (fun e => hp (by
          have hl : RS.data.toList.length = RS.size := by simp
          have hl2 : m.data.toList.length = m.size := by simp
          have h9 := congrArg List.length e
          rw [List.length_take] at h9
          refine ⟨by omega, ?_⟩
          rw [extract_list]
          apply ByteArray.ext
          apply Array.ext'
          simpa using e))])
      obtain rfl : R = none := by rw [HRX.out]; unfold segQ; rw [HHD.out]; rfl
      go_wp2_with fail
      refine (cutPre_no RS m _ hp).mono ?_
      rintro e w1 ⟨rfl, h9⟩
      obtain rfl := h9.symm
      clear h9
      have q2 := HR2.out.free 0
      have q3 := HR2.out.free 1
      have t2 := (HR2.out.set (j := 0) (.string ⟨#[]⟩)).set (j := 1) (.slice none 0 0)
      have HBF := hide ((HBW.out.setCell (p := ⟨w.heap.size + 1, 0, none⟩) (by show w.heap.size ≤ w.heap.size + 1; omega) (.string ⟨#[]⟩)).setCell (p := ⟨w.heap.size + 1, 1, none⟩) (by show w.heap.size ≤ w.heap.size + 1; omega) (.slice none 0 0))
      have q0 : ((W.setCell ⟨w.heap.size + 1, 0, none⟩ (.string ⟨#[]⟩)).setCell ⟨w.heap.size + 1, 1, none⟩ (.slice none 0 0)).cell? ⟨w.heap.size + 1, 0, none⟩ = some (.string ⟨#[]⟩) := t2.cell 0
      have q1 : ((W.setCell ⟨w.heap.size + 1, 0, none⟩ (.string ⟨#[]⟩)).setCell ⟨w.heap.size + 1, 1, none⟩ (.slice none 0 0)).cell? ⟨w.heap.size + 1, 1, none⟩ = some (.slice none 0 0) := t2.cell 1
      clear t2 hp hb
      go_wp2
      exact bodyPost_ret (v := .tuple #[.agg #[.string ⟨#[]⟩, .slice none 0 0], .bool false]) (by simp [results, Try.results27, go_sem, q0, q1]) rfl ⟨⟨⟨#[]⟩, _, false, [], rfl, ⟨none, 0, rfl, Nat.le_refl _, Nat.zero_le _, fun h => absurd h (Nat.lt_irrefl 0)⟩, Nat.zero_le 3, rfl⟩, HBF.out⟩
    have HHDa := hide (show headR m s.data.toList = some (N3, (RS.extract m.size RS.size).data.toList) by
      unfold headR
      rw [if_neg (by omega), ← HN3a.out, if_pos HMS.out, ← HRS3.out, if_pos (by
        have e := congrArg (fun b : ByteArray => b.data.toList) hp.2
        rw [extract_list] at e
        simpa using e), extract_listE])
    go_wp2_with fail
    refine (cutPre_yes RS m _ hp).mono ?_
    rintro e w1 ⟨rfl, h9⟩
    obtain rfl := h9.symm
    clear h9
    have HRV1 := hide (show (RS.extract m.size RS.size : ByteArray).size ≤ 8000 by rw [ByteArray.size_extract]; have := HRSs.out; omega)
    obtain ⟨RV, hRV⟩ : ∃ RV, RV = RS.extract m.size RS.size := ⟨_, rfl⟩
    rw [← hRV] at HHDa HRV1 ⊢
    have HHD := HHDa
    have HRVs0 := HRV1
    have HRVl := hide (show RV.data.toList.length ≤ 8000 by have h9 : RV.data.toList.length = RV.size := by simp
                                                            rw [h9]; exact HRV1.out)
    clear hRV hp hb
    go_wp2_with fail
    refine (fieldsR_any m RV _ HMB.out (by have := HRVs0.out; omega)).mono ?_
    rintro e Z1 ⟨⟨u, b, xs, rfl, hxs, hRb⟩, hb1⟩
    obtain ⟨p3, c3, rfl⟩ := OL.isSlice hxs
    have HX1 := hide hb1
    have HXS := hide (show OFlds W.heap.size Z1.heap.size Z1 (.slice p3 xs.length c3) xs from hxs)
    have HRB := hide (show fldsP m RV.data.toList = (if b then some xs else none) from hRb)
    clear hb1 hxs hRb
    go_wp2_with fail
    refine (clone_any N3 _ (by have := HN3s.out; omega)).mono ?_
    rintro e Z2 ⟨rfl, hb2⟩
    have HX2 := hide (HX1.out.trans (hb2.mono HX1.out.size))
    have HXT := hide (Keeps.go (SameIn.ofBelow hb2) HXS.out)
    have HZ12 := hide hb2.size
    clear hb2 HXS
    have HROZ := hide (HR2.out.below HX2.out HR2.out.lt)
    have hzs := HX2.out.size
    have hws := HWs.out
    obtain ⟨Y, hY⟩ : ∃ Y, Y = Z2.alloc (.cells #[.string N3, .slice p3 xs.length c3] 33) := ⟨_, rfl⟩
    have hba : Below Z2.heap.size Z2 Y := by rw [hY]; exact (Below.refl _ _).alloc (Nat.le_refl _) _
    have HBY := hide (HX2.out.trans (hba.mono HX2.out.size))
    have HRF := hide (show Row Y Z2.heap.size 33 [.string N3, .slice p3 xs.length c3] by rw [hY]; exact row_new Z2 [.string N3, .slice p3 xs.length c3] _)
    have HROY := hide (HROZ.out.below hba HROZ.out.lt)
    have HOY := hide (show OFlds W.heap.size Y.heap.size Y (.slice p3 xs.length c3) xs from Keeps.wide (Nat.le_refl _) (Nat.le_trans HZ12.out hba.size) (Keeps.go (SameIn.ofBelow hba) HXT.out))
    clear hba
    go_wp2_with fail
    rw [← hY]
    clear hY HX2 HROZ HXT HZ12
    generalize Z2.heap.size = FB at *
    refine wp_region_held (S := (fun y : World => y.cell? ⟨FB, 0, none⟩ = some (.string N3) ∧ y.cell? ⟨FB, 1, none⟩ = some (.slice p3 xs.length c3))) (by kernel_rfl) ?_
    have HD := hide (show Below Y.heap.size Y { Y with drawn := Y.drawn + 1 } from (Below.refl _ _).drew)
    generalize ({ Y with drawn := Y.drawn + 1 } : World) = Z at HD ⊢
    have HSY := hide (show ∀ y, Below Y.heap.size Y y → (fun y : World => y.cell? ⟨FB, 0, none⟩ = some (.string N3) ∧ y.cell? ⟨FB, 1, none⟩ = some (.slice p3 xs.length c3)) y from fun y h => ⟨(HRF.out.below h HRF.out.lt).cell 0, (HRF.out.below h HRF.out.lt).cell 1⟩)
    have HRL := hide (show ∀ y, Below Y.heap.size Y y → RFlds 0 y (.slice p3 xs.length c3) xs from fun y h => RFlds.mono (OFlds.rl (Keeps.go (SameIn.ofBelow h) HOY.out)) (Nat.zero_le _))
    obtain ⟨FP, hFP⟩ : ∃ FP : World → Prop, FP = (fun V => Row V (w.heap.size + 1) 33 [.string N3, .slice p3 xs.length c3] ∧ Below w.heap.size w V ∧ OFlds w.heap.size V.heap.size V (.slice p3 xs.length c3) xs ∧ Row V FB 33 [.string N3, .slice p3 xs.length c3]) := ⟨_, rfl⟩
    have HF1 : Hid (∀ Z, Below Y.heap.size Y Z → FP ((Z.setCell ⟨w.heap.size + 1, 0, none⟩ (.string N3)).setCell ⟨w.heap.size + 1, 1, none⟩ (.slice p3 xs.length c3))) := hide (by
      rw [hFP]
      intro Z h
      have hsz := h.size
      have hfl := HRF.out.lt
      have es : ((Z.setCell ⟨w.heap.size + 1, 0, none⟩ (.string N3)).setCell ⟨w.heap.size + 1, 1, none⟩ (.slice p3 xs.length c3)).heap.size = Z.heap.size := by simp [World.setCell]
      refine ⟨((HROY.out.below h HROY.out.lt).set (j := 0) _).set (j := 1) _, ((HBW.out.trans ((HBY.out.trans (h.mono HBY.out.size)).mono HBW.out.size)).setCell (p := ⟨w.heap.size + 1, 0, none⟩) (by show w.heap.size ≤ w.heap.size + 1; omega) _).setCell (p := ⟨w.heap.size + 1, 1, none⟩) (by show w.heap.size ≤ w.heap.size + 1; omega) _, ?_, ((HRF.out.below h HRF.out.lt).other (b := w.heap.size + 1) (j := 0) (by omega) _).other (b := w.heap.size + 1) (j := 1) (by omega) _⟩
      rw [es]
      exact Keeps.wide (by omega : w.heap.size ≤ W.heap.size) (by omega) (Keeps.go (SameIn.set _ (.slice p3 xs.length c3) (by omega)) (Keeps.go (SameIn.set Z (.string N3) (by omega)) (Keeps.go (SameIn.ofBelow h) HOY.out))))
    have HF2 : Hid (∀ V, FP V → (fun y : World => y.cell? ⟨FB, 0, none⟩ = some (.string N3) ∧ y.cell? ⟨FB, 1, none⟩ = some (.slice p3 xs.length c3)) V) := hide (by rw [hFP]; exact fun V h => ⟨h.2.2.2.cell 0, h.2.2.2.cell 1⟩)
    have HFS := HF2
    have HF0 : Hid (∀ V, FP V → Row V (w.heap.size + 1) 33 [.string N3, .slice p3 xs.length c3] ∧ Below w.heap.size w V ∧ OFlds w.heap.size V.heap.size V (.slice p3 xs.length c3) xs) := hide (by rw [hFP]; exact fun V h => ⟨h.1, h.2.1, h.2.2.1⟩)
    clear hFP HOY HRF
    have HS := hide (HSY.out _ HD.out)
    cases b with
    | false =>
      refine wpAnyH_take (i := 0) (oi := _) (v := .agg #[.string N3, .slice p3 xs.length c3]) rfl (by kernel_rfl) (by kernel_rfl) (by kernel_rfl) (fun _ _ _ h => h) (Or.inl ⟨by rfl, by intro w hSw; go_split_ands; go_simp⟩) HS.out ?_
      simp only [Act.put, List.getElem_toArray, List.getElem_cons_zero, List.setIfInBounds_toArray, List.set_cons_zero, List.set_cons_succ]
      refine wpAnyH_take (i := 1) (oi := _) (v := .bool false) rfl (by kernel_rfl) (by kernel_rfl) (by kernel_rfl) (fun _ _ _ h => h) (Or.inl ⟨by rfl, by intro w hSw; go_split_ands; go_simp⟩) HS.out ?_
      simp only [Act.put, List.getElem_toArray, List.getElem_cons_zero, List.getElem_cons_succ, List.setIfInBounds_toArray, List.set_cons_zero, List.set_cons_succ]
      refine wpAnyH_take (i := 2) (oi := _) (v := .bool false) rfl (by kernel_rfl) (by kernel_rfl) (by kernel_rfl) (fun _ _ _ h => h) (Or.inl ⟨by rfl, by intro w hSw; go_split_ands; go_simp⟩) HS.out ?_
      simp only [Act.put, List.getElem_toArray, List.getElem_cons_zero, List.getElem_cons_succ, List.setIfInBounds_toArray, List.set_cons_zero, List.set_cons_succ]
      refine wpAnyH_take (i := 3) (oi := _) (v := undef) rfl (by kernel_rfl) (by kernel_rfl) (by kernel_rfl) (fun _ _ _ h => h) (Or.inr ⟨by rfl, rfl⟩) HS.out ?_
      simp only [Act.put, List.getElem_toArray, List.getElem_cons_zero, List.getElem_cons_succ, List.setIfInBounds_toArray, List.set_cons_zero, List.set_cons_succ]
      refine wpAnyH_take (i := 4) (oi := _) (v := undef) rfl (by kernel_rfl) (by kernel_rfl) (by kernel_rfl) (fun _ _ _ h => h) (Or.inr ⟨by rfl, rfl⟩) HS.out ?_
      simp only [Act.put, List.getElem_toArray, List.getElem_cons_zero, List.getElem_cons_succ, List.setIfInBounds_toArray, List.set_cons_zero, List.set_cons_succ]
      refine wpAnyH_take (i := 5) (oi := _) (v := .bool false) rfl (by kernel_rfl) (by kernel_rfl) (by kernel_rfl) (fun _ _ _ h => h) (Or.inl ⟨by rfl, by intro w hSw; go_split_ands; go_simp⟩) HS.out ?_
      simp only [Act.put, List.getElem_toArray, List.getElem_cons_zero, List.getElem_cons_succ, List.setIfInBounds_toArray, List.set_cons_zero, List.set_cons_succ]
      refine wpAnyH_ready (rs := [6]) (by kernel_rfl) (by simp) ?_
      refine AllReadyH.cons (o := _) rfl (fun K hK => ?_) AllReadyH.nil
      have c5 : Z.cell? ⟨w.heap.size + 1, 0, none⟩ = some (.string ⟨#[]⟩) := (HROY.out.below HD.out HROY.out.lt).cell 0
      have f5 := (HROY.out.below HD.out HROY.out.lt).free 0
      have c6 : Z.cell? ⟨w.heap.size + 1, 1, none⟩ = some (.slice none 0 0) := (HROY.out.below HD.out HROY.out.lt).cell 1
      have f6 := (HROY.out.below HD.out HROY.out.lt).free 1
      go_simp
      have HFP := hide (HF1.out _ HD.out)
      obtain ⟨V, hV⟩ : ∃ V, V = (Z.setCell ⟨w.heap.size + 1, 0, none⟩ (.string N3)).setCell ⟨w.heap.size + 1, 1, none⟩ (.slice p3 xs.length c3) := ⟨_, rfl⟩
      rw [← hV] at HFP
      try rw [← hV]
      clear hV
      refine hK.out _ _ (HFS.out _ HFP.out) (fun _ => ?_)
      clear hK K HS c5 f5 c6 f6
      have HS := hide (HFS.out _ HFP.out)
      refine wpAnyH_take (i := 7) (oi := _) (v := .bool false) rfl (by kernel_rfl) (by kernel_rfl) (by kernel_rfl) (fun _ _ _ h => h) (Or.inl ⟨by rfl, by intro w hSw; go_split_ands; go_simp⟩) HS.out ?_
      simp only [Act.put, List.getElem_toArray, List.getElem_cons_zero, List.getElem_cons_succ, List.setIfInBounds_toArray, List.set_cons_zero, List.set_cons_succ]
      refine wpAnyH_done (by kernel_rfl) ?_ _
      obtain ⟨e1, e2, e3⟩ := HF0.out _ HFP.out
      have HE2 := hide e2
      have HE3 := hide e3
      have v0 : V.cell? ⟨w.heap.size + 1, 0, none⟩ = some (.string N3) := e1.cell 0
      have v1 : V.cell? ⟨w.heap.size + 1, 1, none⟩ = some (.slice p3 xs.length c3) := e1.cell 1
      clear e1 e2 e3
      go_wp2
      exact bodyPost_ret (v := .tuple #[.agg #[.string N3, .slice p3 xs.length c3], .bool false]) (by simp [results, Try.results27, go_sem, v0, v1]) rfl ⟨⟨N3, _, false, xs, rfl, HE3.out, HN3s.out, by rw [HRX.out]; unfold segQ; rw [HHD.out]; show (fldsP m RV.data.toList).bind _ = _; rw [HRB.out]; rfl⟩, HE2.out⟩
    | true =>
      refine wpAnyH_take (i := 0) (oi := _) (v := .agg #[.string N3, .slice p3 xs.length c3]) rfl (by kernel_rfl) (by kernel_rfl) (by kernel_rfl) (fun _ _ _ h => h) (Or.inl ⟨by rfl, by intro w hSw; go_split_ands; go_simp⟩) HS.out ?_
      simp only [Act.put, List.getElem_toArray, List.getElem_cons_zero, List.setIfInBounds_toArray, List.set_cons_zero, List.set_cons_succ]
      refine wpAnyH_take (i := 1) (oi := _) (v := .bool true) rfl (by kernel_rfl) (by kernel_rfl) (by kernel_rfl) (fun _ _ _ h => h) (Or.inl ⟨by rfl, by intro w hSw; go_split_ands; go_simp⟩) HS.out ?_
      simp only [Act.put, List.getElem_toArray, List.getElem_cons_zero, List.getElem_cons_succ, List.setIfInBounds_toArray, List.set_cons_zero, List.set_cons_succ]
      refine wpAnyH_take (i := 2) (oi := _) (v := .bool true) rfl (by kernel_rfl) (by kernel_rfl) (by kernel_rfl) (fun _ _ _ h => h) (Or.inl ⟨by rfl, by intro w hSw; go_split_ands; go_simp⟩) HS.out ?_
      simp only [Act.put, List.getElem_toArray, List.getElem_cons_zero, List.getElem_cons_succ, List.setIfInBounds_toArray, List.set_cons_zero, List.set_cons_succ]
      refine wpAnyH_take (i := 3) (oi := _) (v := .agg #[.string N3, .slice p3 xs.length c3]) rfl (by kernel_rfl) (by kernel_rfl) (by kernel_rfl) (fun _ _ _ h => h) (Or.inl ⟨by rfl, by intro w hSw; go_split_ands; go_simp⟩) HS.out ?_
      simp only [Act.put, List.getElem_toArray, List.getElem_cons_zero, List.getElem_cons_succ, List.setIfInBounds_toArray, List.set_cons_zero, List.set_cons_succ]
      have HFT := hide (show Fits xs from fldsP_fits (by have := HRVl.out; omega) (show fldsP m RV.data.toList = some xs by rw [HRB.out]; rfl))
      refine wpAnyH_ready (rs := [4]) (by kernel_rfl) (by simp) ?_
      refine AllReadyH.cons (o := _) rfl (fun K hK => ?_) AllReadyH.nil
      go_simp
      refine (implSegment_any N3 _ xs _ HFT.out (HRL.out _ HD.out)).mono ?_
      rintro e Z1 ⟨rfl, hb1⟩
      have HD1 := hide (HD.out.trans (hb1.mono HD.out.size))
      clear hb1
      refine hK.out _ _ (HSY.out _ HD1.out) (fun _ => ?_)
      clear hK K HS
      have HS := hide (HSY.out _ HD1.out)
      refine wpAnyH_take (i := 5) (oi := _) (v := .bool (segB N3 xs)) rfl (by kernel_rfl) (by kernel_rfl) (by kernel_rfl) (fun _ _ _ h => h) (Or.inl ⟨by rfl, by intro w hSw; go_split_ands; go_simp⟩) HS.out ?_
      simp only [Act.put, List.getElem_toArray, List.getElem_cons_zero, List.getElem_cons_succ, List.setIfInBounds_toArray, List.set_cons_zero, List.set_cons_succ]
      refine wpAnyH_ready (rs := [6]) (by kernel_rfl) (by simp) ?_
      refine AllReadyH.cons (o := _) rfl (fun K hK => ?_) AllReadyH.nil
      have c5 : Z1.cell? ⟨w.heap.size + 1, 0, none⟩ = some (.string ⟨#[]⟩) := (HROY.out.below HD1.out HROY.out.lt).cell 0
      have f5 := (HROY.out.below HD1.out HROY.out.lt).free 0
      have c6 : Z1.cell? ⟨w.heap.size + 1, 1, none⟩ = some (.slice none 0 0) := (HROY.out.below HD1.out HROY.out.lt).cell 1
      have f6 := (HROY.out.below HD1.out HROY.out.lt).free 1
      go_simp
      have HFP := hide (HF1.out _ HD1.out)
      obtain ⟨V, hV⟩ : ∃ V, V = (Z1.setCell ⟨w.heap.size + 1, 0, none⟩ (.string N3)).setCell ⟨w.heap.size + 1, 1, none⟩ (.slice p3 xs.length c3) := ⟨_, rfl⟩
      rw [← hV] at HFP
      try rw [← hV]
      clear hV
      refine hK.out _ _ (HFS.out _ HFP.out) (fun _ => ?_)
      clear hK K HS c5 f5 c6 f6
      have HS := hide (HFS.out _ HFP.out)
      refine wpAnyH_take (i := 7) (oi := _) (v := .bool (segB N3 xs)) rfl (by kernel_rfl) (by kernel_rfl) (by kernel_rfl) (fun _ _ _ h => h) (Or.inl ⟨by rfl, by intro w hSw; go_split_ands; go_simp⟩) HS.out ?_
      simp only [Act.put, List.getElem_toArray, List.getElem_cons_zero, List.getElem_cons_succ, List.setIfInBounds_toArray, List.set_cons_zero, List.set_cons_succ]
      refine wpAnyH_done (by kernel_rfl) ?_ _
      obtain ⟨e1, e2, e3⟩ := HF0.out _ HFP.out
      have HE2 := hide e2
      have HE3 := hide e3
      have v0 : V.cell? ⟨w.heap.size + 1, 0, none⟩ = some (.string N3) := e1.cell 0
      have v1 : V.cell? ⟨w.heap.size + 1, 1, none⟩ = some (.slice p3 xs.length c3) := e1.cell 1
      clear e1 e2 e3
      go_wp2
      exact bodyPost_ret (v := .tuple #[.agg #[.string N3, .slice p3 xs.length c3], .bool (segB N3 xs)]) (by simp [results, Try.results27, go_sem, v0, v1]) rfl ⟨⟨N3, _, (segB N3 xs), xs, rfl, HE3.out, HN3s.out, by rw [HRX.out]; unfold segQ; rw [HHD.out]; show (fldsP m RV.data.toList).bind _ = _; rw [HRB.out]; rfl⟩, HE2.out⟩

  · have hb : (N3.toList == [77, 83, 72]) = false := by simpa [msh] using toList_neF hmsh
    have HMS := hide hmsh
    clear hmsh
    have HHD := hide (show headR m s.data.toList = some (N3, RS.data.toList) by
      unfold headR
      rw [if_neg (by omega), ← HN3a.out, if_neg HMS.out, ← HRS3.out])
    obtain ⟨RV, hRV⟩ : ∃ RV, RV = RS := ⟨_, rfl⟩
    rw [← hRV] at HHD HRSs ⊢
    have HRVs0 := HRSs
    have HRVl := hide (show RV.data.toList.length ≤ 8000 by have h9 : RV.data.toList.length = RV.size := by simp
                                                            rw [h9]; exact HRSs.out)
    clear hRV
    go_wp2_with fail
    refine (fieldsR_any m RV _ HMB.out (by have := HRVs0.out; omega)).mono ?_
    rintro e Z1 ⟨⟨u, b, xs, rfl, hxs, hRb⟩, hb1⟩
    obtain ⟨p3, c3, rfl⟩ := OL.isSlice hxs
    have HX1 := hide hb1
    have HXS := hide (show OFlds W.heap.size Z1.heap.size Z1 (.slice p3 xs.length c3) xs from hxs)
    have HRB := hide (show fldsP m RV.data.toList = (if b then some xs else none) from hRb)
    clear hb1 hxs hRb
    go_wp2_with fail
    refine (clone_any N3 _ (by have := HN3s.out; omega)).mono ?_
    rintro e Z2 ⟨rfl, hb2⟩
    have HX2 := hide (HX1.out.trans (hb2.mono HX1.out.size))
    have HXT := hide (Keeps.go (SameIn.ofBelow hb2) HXS.out)
    have HZ12 := hide hb2.size
    clear hb2 HXS
    have HROZ := hide (HR2.out.below HX2.out HR2.out.lt)
    have hzs := HX2.out.size
    have hws := HWs.out
    obtain ⟨Y, hY⟩ : ∃ Y, Y = Z2.alloc (.cells #[.string N3, .slice p3 xs.length c3] 33) := ⟨_, rfl⟩
    have hba : Below Z2.heap.size Z2 Y := by rw [hY]; exact (Below.refl _ _).alloc (Nat.le_refl _) _
    have HBY := hide (HX2.out.trans (hba.mono HX2.out.size))
    have HRF := hide (show Row Y Z2.heap.size 33 [.string N3, .slice p3 xs.length c3] by rw [hY]; exact row_new Z2 [.string N3, .slice p3 xs.length c3] _)
    have HROY := hide (HROZ.out.below hba HROZ.out.lt)
    have HOY := hide (show OFlds W.heap.size Y.heap.size Y (.slice p3 xs.length c3) xs from Keeps.wide (Nat.le_refl _) (Nat.le_trans HZ12.out hba.size) (Keeps.go (SameIn.ofBelow hba) HXT.out))
    clear hba
    go_wp2_with fail
    rw [← hY]
    clear hY HX2 HROZ HXT HZ12
    generalize Z2.heap.size = FB at *
    refine wp_region_held (S := (fun y : World => y.cell? ⟨FB, 0, none⟩ = some (.string N3) ∧ y.cell? ⟨FB, 1, none⟩ = some (.slice p3 xs.length c3))) (by kernel_rfl) ?_
    have HD := hide (show Below Y.heap.size Y { Y with drawn := Y.drawn + 1 } from (Below.refl _ _).drew)
    generalize ({ Y with drawn := Y.drawn + 1 } : World) = Z at HD ⊢
    have HSY := hide (show ∀ y, Below Y.heap.size Y y → (fun y : World => y.cell? ⟨FB, 0, none⟩ = some (.string N3) ∧ y.cell? ⟨FB, 1, none⟩ = some (.slice p3 xs.length c3)) y from fun y h => ⟨(HRF.out.below h HRF.out.lt).cell 0, (HRF.out.below h HRF.out.lt).cell 1⟩)
    have HRL := hide (show ∀ y, Below Y.heap.size Y y → RFlds 0 y (.slice p3 xs.length c3) xs from fun y h => RFlds.mono (OFlds.rl (Keeps.go (SameIn.ofBelow h) HOY.out)) (Nat.zero_le _))
    obtain ⟨FP, hFP⟩ : ∃ FP : World → Prop, FP = (fun V => Row V (w.heap.size + 1) 33 [.string N3, .slice p3 xs.length c3] ∧ Below w.heap.size w V ∧ OFlds w.heap.size V.heap.size V (.slice p3 xs.length c3) xs ∧ Row V FB 33 [.string N3, .slice p3 xs.length c3]) := ⟨_, rfl⟩
    have HF1 : Hid (∀ Z, Below Y.heap.size Y Z → FP ((Z.setCell ⟨w.heap.size + 1, 0, none⟩ (.string N3)).setCell ⟨w.heap.size + 1, 1, none⟩ (.slice p3 xs.length c3))) := hide (by
      rw [hFP]
      intro Z h
      have hsz := h.size
      have hfl := HRF.out.lt
      have es : ((Z.setCell ⟨w.heap.size + 1, 0, none⟩ (.string N3)).setCell ⟨w.heap.size + 1, 1, none⟩ (.slice p3 xs.length c3)).heap.size = Z.heap.size := by simp [World.setCell]
      refine ⟨((HROY.out.below h HROY.out.lt).set (j := 0) _).set (j := 1) _, ((HBW.out.trans ((HBY.out.trans (h.mono HBY.out.size)).mono HBW.out.size)).setCell (p := ⟨w.heap.size + 1, 0, none⟩) (by show w.heap.size ≤ w.heap.size + 1; omega) _).setCell (p := ⟨w.heap.size + 1, 1, none⟩) (by show w.heap.size ≤ w.heap.size + 1; omega) _, ?_, ((HRF.out.below h HRF.out.lt).other (b := w.heap.size + 1) (j := 0) (by omega) _).other (b := w.heap.size + 1) (j := 1) (by omega) _⟩
      rw [es]
      exact Keeps.wide (by omega : w.heap.size ≤ W.heap.size) (by omega) (Keeps.go (SameIn.set _ (.slice p3 xs.length c3) (by omega)) (Keeps.go (SameIn.set Z (.string N3) (by omega)) (Keeps.go (SameIn.ofBelow h) HOY.out))))
    have HF2 : Hid (∀ V, FP V → (fun y : World => y.cell? ⟨FB, 0, none⟩ = some (.string N3) ∧ y.cell? ⟨FB, 1, none⟩ = some (.slice p3 xs.length c3)) V) := hide (by rw [hFP]; exact fun V h => ⟨h.2.2.2.cell 0, h.2.2.2.cell 1⟩)
    have HFS := HF2
    have HF0 : Hid (∀ V, FP V → Row V (w.heap.size + 1) 33 [.string N3, .slice p3 xs.length c3] ∧ Below w.heap.size w V ∧ OFlds w.heap.size V.heap.size V (.slice p3 xs.length c3) xs) := hide (by rw [hFP]; exact fun V h => ⟨h.1, h.2.1, h.2.2.1⟩)
    clear hFP HOY HRF
    have HS := hide (HSY.out _ HD.out)
    cases b with
    | false =>
      refine wpAnyH_take (i := 0) (oi := _) (v := .agg #[.string N3, .slice p3 xs.length c3]) rfl (by kernel_rfl) (by kernel_rfl) (by kernel_rfl) (fun _ _ _ h => h) (Or.inl ⟨by rfl, by intro w hSw; go_split_ands; go_simp⟩) HS.out ?_
      simp only [Act.put, List.getElem_toArray, List.getElem_cons_zero, List.setIfInBounds_toArray, List.set_cons_zero, List.set_cons_succ]
      refine wpAnyH_take (i := 1) (oi := _) (v := .bool false) rfl (by kernel_rfl) (by kernel_rfl) (by kernel_rfl) (fun _ _ _ h => h) (Or.inl ⟨by rfl, by intro w hSw; go_split_ands; go_simp⟩) HS.out ?_
      simp only [Act.put, List.getElem_toArray, List.getElem_cons_zero, List.getElem_cons_succ, List.setIfInBounds_toArray, List.set_cons_zero, List.set_cons_succ]
      refine wpAnyH_take (i := 2) (oi := _) (v := .bool false) rfl (by kernel_rfl) (by kernel_rfl) (by kernel_rfl) (fun _ _ _ h => h) (Or.inl ⟨by rfl, by intro w hSw; go_split_ands; go_simp⟩) HS.out ?_
      simp only [Act.put, List.getElem_toArray, List.getElem_cons_zero, List.getElem_cons_succ, List.setIfInBounds_toArray, List.set_cons_zero, List.set_cons_succ]
      refine wpAnyH_take (i := 3) (oi := _) (v := undef) rfl (by kernel_rfl) (by kernel_rfl) (by kernel_rfl) (fun _ _ _ h => h) (Or.inr ⟨by rfl, rfl⟩) HS.out ?_
      simp only [Act.put, List.getElem_toArray, List.getElem_cons_zero, List.getElem_cons_succ, List.setIfInBounds_toArray, List.set_cons_zero, List.set_cons_succ]
      refine wpAnyH_take (i := 4) (oi := _) (v := undef) rfl (by kernel_rfl) (by kernel_rfl) (by kernel_rfl) (fun _ _ _ h => h) (Or.inr ⟨by rfl, rfl⟩) HS.out ?_
      simp only [Act.put, List.getElem_toArray, List.getElem_cons_zero, List.getElem_cons_succ, List.setIfInBounds_toArray, List.set_cons_zero, List.set_cons_succ]
      refine wpAnyH_take (i := 5) (oi := _) (v := .bool false) rfl (by kernel_rfl) (by kernel_rfl) (by kernel_rfl) (fun _ _ _ h => h) (Or.inl ⟨by rfl, by intro w hSw; go_split_ands; go_simp⟩) HS.out ?_
      simp only [Act.put, List.getElem_toArray, List.getElem_cons_zero, List.getElem_cons_succ, List.setIfInBounds_toArray, List.set_cons_zero, List.set_cons_succ]
      refine wpAnyH_ready (rs := [6]) (by kernel_rfl) (by simp) ?_
      refine AllReadyH.cons (o := _) rfl (fun K hK => ?_) AllReadyH.nil
      have c5 : Z.cell? ⟨w.heap.size + 1, 0, none⟩ = some (.string ⟨#[]⟩) := (HROY.out.below HD.out HROY.out.lt).cell 0
      have f5 := (HROY.out.below HD.out HROY.out.lt).free 0
      have c6 : Z.cell? ⟨w.heap.size + 1, 1, none⟩ = some (.slice none 0 0) := (HROY.out.below HD.out HROY.out.lt).cell 1
      have f6 := (HROY.out.below HD.out HROY.out.lt).free 1
      go_simp
      have HFP := hide (HF1.out _ HD.out)
      obtain ⟨V, hV⟩ : ∃ V, V = (Z.setCell ⟨w.heap.size + 1, 0, none⟩ (.string N3)).setCell ⟨w.heap.size + 1, 1, none⟩ (.slice p3 xs.length c3) := ⟨_, rfl⟩
      rw [← hV] at HFP
      try rw [← hV]
      clear hV
      refine hK.out _ _ (HFS.out _ HFP.out) (fun _ => ?_)
      clear hK K HS c5 f5 c6 f6
      have HS := hide (HFS.out _ HFP.out)
      refine wpAnyH_take (i := 7) (oi := _) (v := .bool false) rfl (by kernel_rfl) (by kernel_rfl) (by kernel_rfl) (fun _ _ _ h => h) (Or.inl ⟨by rfl, by intro w hSw; go_split_ands; go_simp⟩) HS.out ?_
      simp only [Act.put, List.getElem_toArray, List.getElem_cons_zero, List.getElem_cons_succ, List.setIfInBounds_toArray, List.set_cons_zero, List.set_cons_succ]
      refine wpAnyH_done (by kernel_rfl) ?_ _
      obtain ⟨e1, e2, e3⟩ := HF0.out _ HFP.out
      have HE2 := hide e2
      have HE3 := hide e3
      have v0 : V.cell? ⟨w.heap.size + 1, 0, none⟩ = some (.string N3) := e1.cell 0
      have v1 : V.cell? ⟨w.heap.size + 1, 1, none⟩ = some (.slice p3 xs.length c3) := e1.cell 1
      clear e1 e2 e3
      go_wp2
      exact bodyPost_ret (v := .tuple #[.agg #[.string N3, .slice p3 xs.length c3], .bool false]) (by simp [results, Try.results27, go_sem, v0, v1]) rfl ⟨⟨N3, _, false, xs, rfl, HE3.out, HN3s.out, by rw [HRX.out]; unfold segQ; rw [HHD.out]; show (fldsP m RV.data.toList).bind _ = _; rw [HRB.out]; rfl⟩, HE2.out⟩
    | true =>
      refine wpAnyH_take (i := 0) (oi := _) (v := .agg #[.string N3, .slice p3 xs.length c3]) rfl (by kernel_rfl) (by kernel_rfl) (by kernel_rfl) (fun _ _ _ h => h) (Or.inl ⟨by rfl, by intro w hSw; go_split_ands; go_simp⟩) HS.out ?_
      simp only [Act.put, List.getElem_toArray, List.getElem_cons_zero, List.setIfInBounds_toArray, List.set_cons_zero, List.set_cons_succ]
      refine wpAnyH_take (i := 1) (oi := _) (v := .bool true) rfl (by kernel_rfl) (by kernel_rfl) (by kernel_rfl) (fun _ _ _ h => h) (Or.inl ⟨by rfl, by intro w hSw; go_split_ands; go_simp⟩) HS.out ?_
      simp only [Act.put, List.getElem_toArray, List.getElem_cons_zero, List.getElem_cons_succ, List.setIfInBounds_toArray, List.set_cons_zero, List.set_cons_succ]
      refine wpAnyH_take (i := 2) (oi := _) (v := .bool true) rfl (by kernel_rfl) (by kernel_rfl) (by kernel_rfl) (fun _ _ _ h => h) (Or.inl ⟨by rfl, by intro w hSw; go_split_ands; go_simp⟩) HS.out ?_
      simp only [Act.put, List.getElem_toArray, List.getElem_cons_zero, List.getElem_cons_succ, List.setIfInBounds_toArray, List.set_cons_zero, List.set_cons_succ]
      refine wpAnyH_take (i := 3) (oi := _) (v := .agg #[.string N3, .slice p3 xs.length c3]) rfl (by kernel_rfl) (by kernel_rfl) (by kernel_rfl) (fun _ _ _ h => h) (Or.inl ⟨by rfl, by intro w hSw; go_split_ands; go_simp⟩) HS.out ?_
      simp only [Act.put, List.getElem_toArray, List.getElem_cons_zero, List.getElem_cons_succ, List.setIfInBounds_toArray, List.set_cons_zero, List.set_cons_succ]
      have HFT := hide (show Fits xs from fldsP_fits (by have := HRVl.out; omega) (show fldsP m RV.data.toList = some xs by rw [HRB.out]; rfl))
      refine wpAnyH_ready (rs := [4]) (by kernel_rfl) (by simp) ?_
      refine AllReadyH.cons (o := _) rfl (fun K hK => ?_) AllReadyH.nil
      go_simp
      refine (implSegment_any N3 _ xs _ HFT.out (HRL.out _ HD.out)).mono ?_
      rintro e Z1 ⟨rfl, hb1⟩
      have HD1 := hide (HD.out.trans (hb1.mono HD.out.size))
      clear hb1
      refine hK.out _ _ (HSY.out _ HD1.out) (fun _ => ?_)
      clear hK K HS
      have HS := hide (HSY.out _ HD1.out)
      refine wpAnyH_take (i := 5) (oi := _) (v := .bool (segB N3 xs)) rfl (by kernel_rfl) (by kernel_rfl) (by kernel_rfl) (fun _ _ _ h => h) (Or.inl ⟨by rfl, by intro w hSw; go_split_ands; go_simp⟩) HS.out ?_
      simp only [Act.put, List.getElem_toArray, List.getElem_cons_zero, List.getElem_cons_succ, List.setIfInBounds_toArray, List.set_cons_zero, List.set_cons_succ]
      refine wpAnyH_ready (rs := [6]) (by kernel_rfl) (by simp) ?_
      refine AllReadyH.cons (o := _) rfl (fun K hK => ?_) AllReadyH.nil
      have c5 : Z1.cell? ⟨w.heap.size + 1, 0, none⟩ = some (.string ⟨#[]⟩) := (HROY.out.below HD1.out HROY.out.lt).cell 0
      have f5 := (HROY.out.below HD1.out HROY.out.lt).free 0
      have c6 : Z1.cell? ⟨w.heap.size + 1, 1, none⟩ = some (.slice none 0 0) := (HROY.out.below HD1.out HROY.out.lt).cell 1
      have f6 := (HROY.out.below HD1.out HROY.out.lt).free 1
      go_simp
      have HFP := hide (HF1.out _ HD1.out)
      obtain ⟨V, hV⟩ : ∃ V, V = (Z1.setCell ⟨w.heap.size + 1, 0, none⟩ (.string N3)).setCell ⟨w.heap.size + 1, 1, none⟩ (.slice p3 xs.length c3) := ⟨_, rfl⟩
      rw [← hV] at HFP
      try rw [← hV]
      clear hV
      refine hK.out _ _ (HFS.out _ HFP.out) (fun _ => ?_)
      clear hK K HS c5 f5 c6 f6
      have HS := hide (HFS.out _ HFP.out)
      refine wpAnyH_take (i := 7) (oi := _) (v := .bool (segB N3 xs)) rfl (by kernel_rfl) (by kernel_rfl) (by kernel_rfl) (fun _ _ _ h => h) (Or.inl ⟨by rfl, by intro w hSw; go_split_ands; go_simp⟩) HS.out ?_
      simp only [Act.put, List.getElem_toArray, List.getElem_cons_zero, List.getElem_cons_succ, List.setIfInBounds_toArray, List.set_cons_zero, List.set_cons_succ]
      refine wpAnyH_done (by kernel_rfl) ?_ _
      obtain ⟨e1, e2, e3⟩ := HF0.out _ HFP.out
      have HE2 := hide e2
      have HE3 := hide e3
      have v0 : V.cell? ⟨w.heap.size + 1, 0, none⟩ = some (.string N3) := e1.cell 0
      have v1 : V.cell? ⟨w.heap.size + 1, 1, none⟩ = some (.slice p3 xs.length c3) := e1.cell 1
      clear e1 e2 e3
      go_wp2
      exact bodyPost_ret (v := .tuple #[.agg #[.string N3, .slice p3 xs.length c3], .bool (segB N3 xs)]) (by simp [results, Try.results27, go_sem, v0, v1]) rfl ⟨⟨N3, _, (segB N3 xs), xs, rfl, HE3.out, HN3s.out, by rw [HRX.out]; unfold segQ; rw [HHD.out]; show (fldsP m RV.data.toList).bind _ = _; rw [HRB.out]; rfl⟩, HE2.out⟩

end Go.Proofs.Ytckcfjibiidafaa
/- The law of SegmentRight out of the two contracts. -/
namespace Go.Proofs.Ytckcfjibiidafaa
open Go.RowKit
end Go.Proofs.Ytckcfjibiidafaa
