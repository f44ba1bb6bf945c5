/- l03Seen, case 7. -/
import Derived.Test.YtkmehbgepkilkaaGreatDoorXGSSeen
import Derived.Test.YtkmehbgepkilkaaGreatDoorXGSCopy
import Derived.OrdersHeld
import Derived.Deep.RegionHeld3
import Derived.Test.YtkmehbgepkilkaaGreatDoorXGNOwn
import Derived.Test.YtkmehbgepkilkaaGreatDoorXGSSeen1
namespace Go.Proofs.YtkmehbgepkilkaaGreatDoor
open Go.RowKit

set_option maxRecDepth 100000 in
set_option maxHeartbeats 8000000 in
theorem specSeen_c7 (vs vp : Value) (xs : List ByteArray) (ps : List (Int × ByteArray)) (t : ByteArray) (A1 A3 B1 B3 C1 C3 n3 : Int) (n1 n2 : Nat) (w : World) (hok : right xs ps = true) (hx : 1 ≤ xs.length) (hn : xs.length ≤ 1048576) (hn2 : ps.length ≤ 1048576) (hr : Reads w vs xs) (hp : ReadsP w vp ps)
    (ht : t.size ≤ 8000) (hn1 : n1 ≤ 8000) (hn2' : n2 ≤ 8000) (HA : Hid (St3.scan t 0 10 0 0 = (A1, (n1 : Int), A3))) (HB : Hid (St3.scan t n1 10 0 0 = (B1, (n2 : Int), B3))) (HC : Hid (St3.scan t n2 10 0 0 = (C1, n3, C3))) (hA1 : -9223372036854775808 ≤ A1 ∧ A1 ≤ 9223372036854775807) (hB1 : -9223372036854775808 ≤ B1 ∧ B1 ≤ 9223372036854775807) (hC1 : -9223372036854775808 ≤ C1 ∧ C1 ≤ 9223372036854775807) (h0 : A3 = 0) (h1 : B3 = 0) (h2 : C3 = 0) (h3 : headOf A1 B1 C1 = headText xs ps) (h4 : 0 ≤ A1) (h5 : 0 ≤ B1 ∧ B1 ≤ 1) (h6 : ¬ (0 ≤ C1 ∧ C1 ≤ 64 * half xs.length))
    (hU : ∀ W : World, Calls Tryz.prog 72 #[.string (headText xs ps)] W fun e w' => e = .returned (.agg #[.string t, .int .i64 0, .int .i64 0]) ∧ Below W.heap.size W w') :
    Calls Tryz.prog 40 #[.agg #[vs, vp]] w fun e w' => e = .returned (.tuple #[.int .i64 0, .int .i64 0, .int .i64 0, .int .i64 3]) ∧ Below w.heap.size w w' := by
  have H0_ := hide h0
  clear h0
  have H1_ := hide h1
  clear h1
  have H2_ := hide h2
  clear h2
  have H3_ := hide h3
  clear h3
  have H4_ := hide h4
  clear h4
  have H5_ := hide h5
  clear h5
  have H6_ := hide h6
  clear h6
  have hb0 : Below w.heap.size w (w.alloc (.cells #[vs, vp] 26)) := (Below.refl _ _).alloc (Nat.le_refl _) _
  have HR := hide (hr.below hb0 (Nat.le_refl _))
  have HP := hide (hp.below hb0 (Nat.le_refl _))
  have HRw := hide hr
  have HPw := hide hp
  have HB0 := hide hb0
  have HU := hide hU
  have HO := hide (show readOut xs ps 0 = ⟨xs, ps, headText xs ps, 0⟩ by unfold readOut headText; rw [if_pos hok, if_pos (by omega)]; rfl)
  obtain ⟨p1, c1, rfl, hq⟩ := hr
  obtain ⟨p2, c2, rfl, hq2⟩ := hp
  have HD := hide (row_new w [.slice p1 xs.length c1, .slice p2 ps.length c2] 26)
  clear hb0 hq hq2 hU
  have hfd := Tryz.outData
  go_enter Tryz.func40, Tryz.ntmps40
  go_wp2_with fail
  refine (specRead_any _ _ xs ps 0 _ hn hn2 HR.out HP.out).mono ?_
  rw [HO.out]
  rintro e w1 ⟨⟨us, up, rfl, o1, o2, dd⟩, hb1⟩
  have HB1 := hide (HB0.out.trans (hb1.mono HB0.out.size))
  have HD1 := hide (Row.after hb1 HD.out)
  clear o1 o2 dd hb1 HD
  go_wp2_with fail
  refine (HU.out _).mono ?_
  rintro e w2 ⟨rfl, hb2⟩
  have b2 := HB1.out.trans (hb2.mono HB1.out.size)
  have HD2 := hide ((Row.after hb2 HD1.out).alloc (.cells #[.string t, .int .i64 0, .int .i64 0] 103))
  have HB2a := hide (b2.alloc b2.size (.cells #[.string t, .int .i64 0, .int .i64 0] 103))
  have HX2 := hide (row_new w2 [.string t, .int .i64 0, .int .i64 0] 103)
  clear b2 hb2 HD1
  go_wp2_with fail
  refine (St3.specGetNum_any t 0 _ _ ht (by omega) HA).mono ?_
  rintro e w3 ⟨rfl, hb3⟩
  have b3 := HB2a.out.trans (hb3.mono HB2a.out.size)
  have HX3 := hide (Row.after hb3 HX2.out)
  have HD3 := hide ((Row.after hb3 HD2.out).alloc (.cells #[.int .i64 A1, .int .i64 n1, .int .i64 A3] 106))
  have HB3a := hide (b3.alloc b3.size (.cells #[.int .i64 A1, .int .i64 n1, .int .i64 A3] 106))
  have HX3a := hide (HX3.out.alloc (.cells #[.int .i64 A1, .int .i64 n1, .int .i64 A3] 106))
  have HG3 := hide (row_new w3 [.int .i64 A1, .int .i64 n1, .int .i64 A3] 106)
  have q0 : w3.cell? ⟨w2.heap.size, 0, none⟩ = some (.string t) := HX3.out.cell 0
  have l3 : w2.heap.size < w3.heap.size := HX3.out.lt
  clear hb3 b3 HB2a HX2 HD2
  go_wp2_with fail
  refine (St3.specGetNum_any t n1 _ _ ht (by omega) HB).mono ?_
  rintro e w4 ⟨rfl, hb4⟩
  have b4 := HB3a.out.trans (hb4.mono HB3a.out.size)
  have HX4 := hide (Row.after hb4 HX3a.out)
  have HG4 := hide (Row.after hb4 HG3.out)
  have HD4 := hide ((Row.after hb4 HD3.out).alloc (.cells #[.int .i64 B1, .int .i64 n2, .int .i64 B3] 106))
  have HB4a := hide (b4.alloc b4.size (.cells #[.int .i64 B1, .int .i64 n2, .int .i64 B3] 106))
  have HX4a := hide (HX4.out.alloc (.cells #[.int .i64 B1, .int .i64 n2, .int .i64 B3] 106))
  have HG4a := hide (HG4.out.alloc (.cells #[.int .i64 B1, .int .i64 n2, .int .i64 B3] 106))
  have HS4 := hide (row_new w4 [.int .i64 B1, .int .i64 n2, .int .i64 B3] 106)
  have r0 : w4.cell? ⟨w2.heap.size, 0, none⟩ = some (.string t) := HX4.out.cell 0
  have l4 : w2.heap.size < w4.heap.size := HX4.out.lt
  clear hb4 b4 HB3a HX3a HG3 q0 l3 HX3 HD3
  go_wp2_with fail
  refine (St3.specGetNum_any t n2 _ _ ht (by omega) HC).mono ?_
  rintro e w5 ⟨rfl, hb5⟩
  obtain ⟨W, hW⟩ : ∃ W, W = w5.alloc (.cells #[.int .i64 C1, .int .i64 n3, .int .i64 C3] 106) := ⟨_, rfl⟩
  have b5 := HB4a.out.trans (hb5.mono HB4a.out.size)
  have HBW := hide (show Below w.heap.size w W by rw [hW]; exact b5.alloc b5.size _)
  have HGW := hide (show Row W w3.heap.size 106 [.int .i64 A1, .int .i64 n1, .int .i64 A3] by rw [hW]; exact (Row.after hb5 HG4a.out).alloc _)
  have HSW := hide (show Row W w4.heap.size 106 [.int .i64 B1, .int .i64 n2, .int .i64 B3] by rw [hW]; exact (Row.after hb5 HS4.out).alloc _)
  have HZW := hide (show Row W w5.heap.size 106 [.int .i64 C1, .int .i64 n3, .int .i64 C3] by rw [hW]; exact row_new w5 _ _)
  have HDW := hide (show Row W w.heap.size 26 [.slice p1 xs.length c1, .slice p2 ps.length c2] by rw [hW]; exact (Row.after hb5 HD4.out).alloc _)
  clear hb5 b5 HB4a HX4a HG4a HS4 r0 l4 HX4 HG4 HD4
  have HA1 := hide hA1
  have HB1' := hide hB1
  have HC1 := hide hC1
  clear hA1 hB1 hC1
  have bA : (A3 != 0) = false := by rw [H0_.out]; rfl
  have bB : (B3 != 0) = false := by rw [H1_.out]; rfl
  have bC : (C3 != 0) = false := by rw [H2_.out]; rfl
  have bH : ((headOf A1 B1 C1).toList == (headText xs ps).toList) = true := by rw [H3_.out]; simp
  have bN : decide (A1 < 0) = false := decide_eq_false (by have := H4_.out; omega)
  have HS1 := H5_
  have HS2 := H6_
  have hh : 0 ≤ half xs.length ∧ half xs.length ≤ 1048576 := by unfold half; omega
  have hw : IntKind.i64.wrap (64 * half xs.length) = 64 * half xs.length := by rw [IntKind.wrap_i64]; omega
  go_wp2_with fail
  rw [← hW]
  clear hW
  refine wp_region_held (S := fun x : World => x.cell? ⟨w3.heap.size, 0, none⟩ = some (.int .i64 A1) ∧ x.cell? ⟨w3.heap.size, 2, none⟩ = some (.int .i64 A3) ∧ x.cell? ⟨w4.heap.size, 0, none⟩ = some (.int .i64 B1) ∧ x.cell? ⟨w4.heap.size, 2, none⟩ = some (.int .i64 B3) ∧ x.cell? ⟨w5.heap.size, 0, none⟩ = some (.int .i64 C1) ∧ x.cell? ⟨w5.heap.size, 2, none⟩ = some (.int .i64 C3) ∧ x.cell? ⟨w.heap.size, 0, none⟩ = some (.slice p1 xs.length c1) ∧ x.cell? ⟨w.heap.size, 1, none⟩ = some (.slice p2 ps.length c2)) (by kernel_rfl) ?_
  have HSS := hide (show ∀ x, Below W.heap.size W x → (fun x : World => x.cell? ⟨w3.heap.size, 0, none⟩ = some (.int .i64 A1) ∧ x.cell? ⟨w3.heap.size, 2, none⟩ = some (.int .i64 A3) ∧ x.cell? ⟨w4.heap.size, 0, none⟩ = some (.int .i64 B1) ∧ x.cell? ⟨w4.heap.size, 2, none⟩ = some (.int .i64 B3) ∧ x.cell? ⟨w5.heap.size, 0, none⟩ = some (.int .i64 C1) ∧ x.cell? ⟨w5.heap.size, 2, none⟩ = some (.int .i64 C3) ∧ x.cell? ⟨w.heap.size, 0, none⟩ = some (.slice p1 xs.length c1) ∧ x.cell? ⟨w.heap.size, 1, none⟩ = some (.slice p2 ps.length c2)) x from fun x h => ⟨(Row.after h HGW.out).cell 0, (Row.after h HGW.out).cell 2, (Row.after h HSW.out).cell 0, (Row.after h HSW.out).cell 2, (Row.after h HZW.out).cell 0, (Row.after h HZW.out).cell 2, (Row.after h HDW.out).cell 0, (Row.after h HDW.out).cell 1⟩)
  have HS := hide (HSS.out { W with drawn := W.drawn + 1 } (Below.refl _ _).drew)
  refine wpAnyH_take (i := 0) (oi := _) (v := .pointer (some ⟨w3.heap.size, 2, none⟩)) rfl (by kernel_rfl) (by kernel_rfl) (by kernel_rfl) (fun _ _ _ h => h) (Or.inl ⟨by rfl, by intro w hSw; go_split_ands; go_simp⟩) HS.out ?_
  simp only [Act.put, List.getElem_toArray, List.getElem_cons_zero, List.setIfInBounds_toArray, List.set_cons_zero, List.set_cons_succ]
  refine wpAnyH_take (i := 1) (oi := _) (v := .int .i64 A3) rfl (by kernel_rfl) (by kernel_rfl) (by kernel_rfl) (fun _ _ _ h => h) (Or.inl ⟨by rfl, by intro w hSw; go_split_ands; go_simp⟩) HS.out ?_
  simp only [Act.put, List.getElem_toArray, List.getElem_cons_zero, List.getElem_cons_succ, List.setIfInBounds_toArray, List.set_cons_zero, List.set_cons_succ]
  refine wpAnyH_take (i := 2) (oi := _) (v := .bool false) rfl (by kernel_rfl) (by kernel_rfl) (by kernel_rfl) (fun _ _ _ h => h) (Or.inl ⟨by rfl, by intro w hSw; go_split_ands; go_simp⟩) HS.out ?_
  simp only [Act.put, List.getElem_toArray, List.getElem_cons_zero, List.getElem_cons_succ, List.setIfInBounds_toArray, List.set_cons_zero, List.set_cons_succ]
  refine wpAnyH_take (i := 3) (oi := _) (v := .bool false) rfl (by kernel_rfl) (by kernel_rfl) (by kernel_rfl) (fun _ _ _ h => h) (Or.inl ⟨by rfl, by intro w hSw; go_split_ands; go_simp⟩) HS.out ?_
  simp only [Act.put, List.getElem_toArray, List.getElem_cons_zero, List.getElem_cons_succ, List.setIfInBounds_toArray, List.set_cons_zero, List.set_cons_succ]
  refine wpAnyH_take (i := 4) (oi := _) (v := .pointer (some ⟨w4.heap.size, 2, none⟩)) rfl (by kernel_rfl) (by kernel_rfl) (by kernel_rfl) (fun _ _ _ h => h) (Or.inl ⟨by rfl, by intro w hSw; go_split_ands; go_simp⟩) HS.out ?_
  simp only [Act.put, List.getElem_toArray, List.getElem_cons_zero, List.getElem_cons_succ, List.setIfInBounds_toArray, List.set_cons_zero, List.set_cons_succ]
  refine wpAnyH_take (i := 5) (oi := _) (v := .int .i64 B3) rfl (by kernel_rfl) (by kernel_rfl) (by kernel_rfl) (fun _ _ _ h => h) (Or.inl ⟨by rfl, by intro w hSw; go_split_ands; go_simp⟩) HS.out ?_
  simp only [Act.put, List.getElem_toArray, List.getElem_cons_zero, List.getElem_cons_succ, List.setIfInBounds_toArray, List.set_cons_zero, List.set_cons_succ]
  refine wpAnyH_take (i := 6) (oi := _) (v := .bool false) rfl (by kernel_rfl) (by kernel_rfl) (by kernel_rfl) (fun _ _ _ h => h) (Or.inl ⟨by rfl, by intro w hSw; go_split_ands; go_simp⟩) HS.out ?_
  simp only [Act.put, List.getElem_toArray, List.getElem_cons_zero, List.getElem_cons_succ, List.setIfInBounds_toArray, List.set_cons_zero, List.set_cons_succ]
  refine wpAnyH_take (i := 7) (oi := _) (v := .bool false) rfl (by kernel_rfl) (by kernel_rfl) (by kernel_rfl) (fun _ _ _ h => h) (Or.inl ⟨by rfl, by intro w hSw; go_split_ands; go_simp⟩) HS.out ?_
  simp only [Act.put, List.getElem_toArray, List.getElem_cons_zero, List.getElem_cons_succ, List.setIfInBounds_toArray, List.set_cons_zero, List.set_cons_succ]
  refine wpAnyH_take (i := 8) (oi := _) (v := .bool false) rfl (by kernel_rfl) (by kernel_rfl) (by kernel_rfl) (fun _ _ _ h => h) (Or.inl ⟨by rfl, by intro w hSw; go_split_ands; go_simp⟩) HS.out ?_
  simp only [Act.put, List.getElem_toArray, List.getElem_cons_zero, List.getElem_cons_succ, List.setIfInBounds_toArray, List.set_cons_zero, List.set_cons_succ]
  refine wpAnyH_take (i := 9) (oi := _) (v := .pointer (some ⟨w5.heap.size, 2, none⟩)) rfl (by kernel_rfl) (by kernel_rfl) (by kernel_rfl) (fun _ _ _ h => h) (Or.inl ⟨by rfl, by intro w hSw; go_split_ands; go_simp⟩) HS.out ?_
  simp only [Act.put, List.getElem_toArray, List.getElem_cons_zero, List.getElem_cons_succ, List.setIfInBounds_toArray, List.set_cons_zero, List.set_cons_succ]
  refine wpAnyH_take (i := 10) (oi := _) (v := .int .i64 C3) rfl (by kernel_rfl) (by kernel_rfl) (by kernel_rfl) (fun _ _ _ h => h) (Or.inl ⟨by rfl, by intro w hSw; go_split_ands; go_simp⟩) HS.out ?_
  simp only [Act.put, List.getElem_toArray, List.getElem_cons_zero, List.getElem_cons_succ, List.setIfInBounds_toArray, List.set_cons_zero, List.set_cons_succ]
  refine wpAnyH_take (i := 11) (oi := _) (v := .bool false) rfl (by kernel_rfl) (by kernel_rfl) (by kernel_rfl) (fun _ _ _ h => h) (Or.inl ⟨by rfl, by intro w hSw; go_split_ands; go_simp⟩) HS.out ?_
  simp only [Act.put, List.getElem_toArray, List.getElem_cons_zero, List.getElem_cons_succ, List.setIfInBounds_toArray, List.set_cons_zero, List.set_cons_succ]
  refine wpAnyH_take (i := 12) (oi := _) (v := .bool false) rfl (by kernel_rfl) (by kernel_rfl) (by kernel_rfl) (fun _ _ _ h => h) (Or.inl ⟨by rfl, by intro w hSw; go_split_ands; go_simp⟩) HS.out ?_
  simp only [Act.put, List.getElem_toArray, List.getElem_cons_zero, List.getElem_cons_succ, List.setIfInBounds_toArray, List.set_cons_zero, List.set_cons_succ]
  refine wpAnyH_take (i := 13) (oi := _) (v := .bool false) rfl (by kernel_rfl) (by kernel_rfl) (by kernel_rfl) (fun _ _ _ h => h) (Or.inl ⟨by rfl, by intro w hSw; go_split_ands; go_simp⟩) HS.out ?_
  simp only [Act.put, List.getElem_toArray, List.getElem_cons_zero, List.getElem_cons_succ, List.setIfInBounds_toArray, List.set_cons_zero, List.set_cons_succ]
  refine wpAnyH_take (i := 14) (oi := _) (v := .pointer (some ⟨w3.heap.size, 0, none⟩)) rfl (by kernel_rfl) (by kernel_rfl) (by kernel_rfl) (fun _ _ _ h => h) (Or.inl ⟨by rfl, by intro w hSw; go_split_ands; go_simp⟩) HS.out ?_
  simp only [Act.put, List.getElem_toArray, List.getElem_cons_zero, List.getElem_cons_succ, List.setIfInBounds_toArray, List.set_cons_zero, List.set_cons_succ]
  refine wpAnyH_take (i := 15) (oi := _) (v := .int .i64 A1) rfl (by kernel_rfl) (by kernel_rfl) (by kernel_rfl) (fun _ _ _ h => h) (Or.inl ⟨by rfl, by intro w hSw; go_split_ands; go_simp⟩) HS.out ?_
  simp only [Act.put, List.getElem_toArray, List.getElem_cons_zero, List.getElem_cons_succ, List.setIfInBounds_toArray, List.set_cons_zero, List.set_cons_succ]
  refine wpAnyH_take (i := 16) (oi := _) (v := .pointer (some ⟨w4.heap.size, 0, none⟩)) rfl (by kernel_rfl) (by kernel_rfl) (by kernel_rfl) (fun _ _ _ h => h) (Or.inl ⟨by rfl, by intro w hSw; go_split_ands; go_simp⟩) HS.out ?_
  simp only [Act.put, List.getElem_toArray, List.getElem_cons_zero, List.getElem_cons_succ, List.setIfInBounds_toArray, List.set_cons_zero, List.set_cons_succ]
  refine wpAnyH_take (i := 17) (oi := _) (v := .int .i64 B1) rfl (by kernel_rfl) (by kernel_rfl) (by kernel_rfl) (fun _ _ _ h => h) (Or.inl ⟨by rfl, by intro w hSw; go_split_ands; go_simp⟩) HS.out ?_
  simp only [Act.put, List.getElem_toArray, List.getElem_cons_zero, List.getElem_cons_succ, List.setIfInBounds_toArray, List.set_cons_zero, List.set_cons_succ]
  refine wpAnyH_take (i := 18) (oi := _) (v := .pointer (some ⟨w5.heap.size, 0, none⟩)) rfl (by kernel_rfl) (by kernel_rfl) (by kernel_rfl) (fun _ _ _ h => h) (Or.inl ⟨by rfl, by intro w hSw; go_split_ands; go_simp⟩) HS.out ?_
  simp only [Act.put, List.getElem_toArray, List.getElem_cons_zero, List.getElem_cons_succ, List.setIfInBounds_toArray, List.set_cons_zero, List.set_cons_succ]
  refine wpAnyH_take (i := 19) (oi := _) (v := .int .i64 C1) rfl (by kernel_rfl) (by kernel_rfl) (by kernel_rfl) (fun _ _ _ h => h) (Or.inl ⟨by rfl, by intro w hSw; go_split_ands; go_simp⟩) HS.out ?_
  simp only [Act.put, List.getElem_toArray, List.getElem_cons_zero, List.getElem_cons_succ, List.setIfInBounds_toArray, List.set_cons_zero, List.set_cons_succ]
  refine wpAnyH_take (i := 21) (oi := _) (v := .agg #[.slice p1 xs.length c1, .slice p2 ps.length c2]) rfl (by kernel_rfl) (by kernel_rfl) (by kernel_rfl) (fun _ _ _ h => h) (Or.inl ⟨by rfl, by intro w hSw; go_split_ands; go_simp⟩) HS.out ?_
  simp only [Act.put, List.getElem_toArray, List.getElem_cons_zero, List.getElem_cons_succ, List.setIfInBounds_toArray, List.set_cons_zero, List.set_cons_succ]
  refine wpAnyH_ready (rs := [20]) (by kernel_rfl) (by simp) ?_
  refine AllReadyH.cons (o := _) rfl (fun K hK => ?_) AllReadyH.nil
  go_simp
  refine (l03Head_any A1 B1 C1 _ HA1.out HB1'.out HC1.out).mono ?_
  rintro e w6 ⟨rfl, hb6⟩
  have HB6 := hide (below_drew hb6)
  clear hb6
  refine hK.out _ _ (HSS.out _ HB6.out) (fun _ => ?_)
  clear hK K
  have hR6 := hide (HRw.out.below (HBW.out.trans (HB6.out.mono HBW.out.size)) (Nat.le_refl _))
  have hP6 := hide (HPw.out.below (HBW.out.trans (HB6.out.mono HBW.out.size)) (Nat.le_refl _))
  have HS := hide (HSS.out _ HB6.out)
  refine wpAnyH_ready (rs := [22]) (by kernel_rfl) (by simp) ?_
  refine AllReadyH.cons (o := _) rfl (fun K hK => ?_) AllReadyH.nil
  go_simp
  refine (specRead_any _ _ xs ps 0 _ hn hn2 hR6.out hP6.out).mono ?_
  rw [HO.out]
  rintro e w7 ⟨⟨us, up, rfl, o1, o2, dd⟩, hb7⟩
  obtain ⟨s1, s2, s3, rfl⟩ := o1.isSlice
  obtain ⟨s4, s5, s6, rfl⟩ := o2.isSlice
  have HB7 := hide (HB6.out.trans (hb7.mono HB6.out.size))
  clear hb7 o1 o2 dd
  refine hK.out _ _ (HSS.out _ HB7.out) (fun _ => ?_)
  clear hK K
  have HS := hide (HSS.out _ HB7.out)
  refine wpAnyH_take (i := 23) (oi := _) (v := .string (headText xs ps)) rfl (by kernel_rfl) (by kernel_rfl) (by kernel_rfl) (fun _ _ _ h => h) (Or.inl ⟨by rfl, by intro w hSw; go_split_ands; go_simp⟩) HS.out ?_
  simp only [Act.put, List.getElem_toArray, List.getElem_cons_zero, List.getElem_cons_succ, List.setIfInBounds_toArray, List.set_cons_zero, List.set_cons_succ]
  refine wpAnyH_take (i := 24) (oi := _) (v := .bool false) rfl (by kernel_rfl) (by kernel_rfl) (by kernel_rfl) (fun _ _ _ h => h) (Or.inl ⟨by rfl, by intro w hSw; go_split_ands; go_simp⟩) HS.out ?_
  simp only [Act.put, List.getElem_toArray, List.getElem_cons_zero, List.getElem_cons_succ, List.setIfInBounds_toArray, List.set_cons_zero, List.set_cons_succ]
  refine wpAnyH_take (i := 25) (oi := _) (v := .bool false) rfl (by kernel_rfl) (by kernel_rfl) (by kernel_rfl) (fun _ _ _ h => h) (Or.inl ⟨by rfl, by intro w hSw; go_split_ands; go_simp⟩) HS.out ?_
  simp only [Act.put, List.getElem_toArray, List.getElem_cons_zero, List.getElem_cons_succ, List.setIfInBounds_toArray, List.set_cons_zero, List.set_cons_succ]
  refine wpAnyH_take (i := 26) (oi := _) (v := .bool false) rfl (by kernel_rfl) (by kernel_rfl) (by kernel_rfl) (fun _ _ _ h => h) (Or.inl ⟨by rfl, by intro w hSw; go_split_ands; go_simp⟩) HS.out ?_
  simp only [Act.put, List.getElem_toArray, List.getElem_cons_zero, List.getElem_cons_succ, List.setIfInBounds_toArray, List.set_cons_zero, List.set_cons_succ]
  refine wpAnyH_take (i := 27) (oi := _) (v := .pointer (some ⟨w3.heap.size, 0, none⟩)) rfl (by kernel_rfl) (by kernel_rfl) (by kernel_rfl) (fun _ _ _ h => h) (Or.inl ⟨by rfl, by intro w hSw; go_split_ands; go_simp⟩) HS.out ?_
  simp only [Act.put, List.getElem_toArray, List.getElem_cons_zero, List.getElem_cons_succ, List.setIfInBounds_toArray, List.set_cons_zero, List.set_cons_succ]
  refine wpAnyH_take (i := 28) (oi := _) (v := .int .i64 A1) rfl (by kernel_rfl) (by kernel_rfl) (by kernel_rfl) (fun _ _ _ h => h) (Or.inl ⟨by rfl, by intro w hSw; go_split_ands; go_simp⟩) HS.out ?_
  simp only [Act.put, List.getElem_toArray, List.getElem_cons_zero, List.getElem_cons_succ, List.setIfInBounds_toArray, List.set_cons_zero, List.set_cons_succ]
  refine wpAnyH_take (i := 29) (oi := _) (v := .bool false) rfl (by kernel_rfl) (by kernel_rfl) (by kernel_rfl) (fun _ _ _ h => h) (Or.inl ⟨by rfl, by intro w hSw; go_split_ands; go_simp⟩) HS.out ?_
  simp only [Act.put, List.getElem_toArray, List.getElem_cons_zero, List.getElem_cons_succ, List.setIfInBounds_toArray, List.set_cons_zero, List.set_cons_succ]
  refine wpAnyH_take (i := 30) (oi := _) (v := .bool false) rfl (by kernel_rfl) (by kernel_rfl) (by kernel_rfl) (fun _ _ _ h => h) (Or.inl ⟨by rfl, by intro w hSw; go_split_ands; go_simp⟩) HS.out ?_
  simp only [Act.put, List.getElem_toArray, List.getElem_cons_zero, List.getElem_cons_succ, List.setIfInBounds_toArray, List.set_cons_zero, List.set_cons_succ]
  refine wpAnyH_take (i := 31) (oi := _) (v := .bool false) rfl (by kernel_rfl) (by kernel_rfl) (by kernel_rfl) (fun _ _ _ h => h) (Or.inl ⟨by rfl, by intro w hSw; go_split_ands; go_simp⟩) HS.out ?_
  simp only [Act.put, List.getElem_toArray, List.getElem_cons_zero, List.getElem_cons_succ, List.setIfInBounds_toArray, List.set_cons_zero, List.set_cons_succ]
  refine wpAnyH_take (i := 32) (oi := _) (v := .pointer (some ⟨w4.heap.size, 0, none⟩)) rfl (by kernel_rfl) (by kernel_rfl) (by kernel_rfl) (fun _ _ _ h => h) (Or.inl ⟨by rfl, by intro w hSw; go_split_ands; go_simp⟩) HS.out ?_
  simp only [Act.put, List.getElem_toArray, List.getElem_cons_zero, List.getElem_cons_succ, List.setIfInBounds_toArray, List.set_cons_zero, List.set_cons_succ]
  refine wpAnyH_take (i := 33) (oi := _) (v := .int .i64 B1) rfl (by kernel_rfl) (by kernel_rfl) (by kernel_rfl) (fun _ _ _ h => h) (Or.inl ⟨by rfl, by intro w hSw; go_split_ands; go_simp⟩) HS.out ?_
  simp only [Act.put, List.getElem_toArray, List.getElem_cons_zero, List.getElem_cons_succ, List.setIfInBounds_toArray, List.set_cons_zero, List.set_cons_succ]
  refine wpAnyH_ready (rs := [34]) (by kernel_rfl) (by simp) ?_
  refine AllReadyH.cons (o := _) rfl (fun K hK => ?_) AllReadyH.nil
  go_simp
  refine (l02Is_yes B1 0 1 _ HS1.out.1 HS1.out.2).mono ?_
  rintro e w8 ⟨rfl, rfl⟩
  refine hK.out _ _ HS.out (fun _ => ?_)
  clear hK K
  refine wpAnyH_take (i := 35) (oi := _) (v := .bool false) rfl (by kernel_rfl) (by kernel_rfl) (by kernel_rfl) (fun _ _ _ h => h) (Or.inl ⟨by rfl, by intro w hSw; go_split_ands; go_simp⟩) HS.out ?_
  simp only [Act.put, List.getElem_toArray, List.getElem_cons_zero, List.getElem_cons_succ, List.setIfInBounds_toArray, List.set_cons_zero, List.set_cons_succ]
  refine wpAnyH_take (i := 36) (oi := _) (v := .bool false) rfl (by kernel_rfl) (by kernel_rfl) (by kernel_rfl) (fun _ _ _ h => h) (Or.inl ⟨by rfl, by intro w hSw; go_split_ands; go_simp⟩) HS.out ?_
  simp only [Act.put, List.getElem_toArray, List.getElem_cons_zero, List.getElem_cons_succ, List.setIfInBounds_toArray, List.set_cons_zero, List.set_cons_succ]
  refine wpAnyH_take (i := 37) (oi := _) (v := .bool false) rfl (by kernel_rfl) (by kernel_rfl) (by kernel_rfl) (fun _ _ _ h => h) (Or.inl ⟨by rfl, by intro w hSw; go_split_ands; go_simp⟩) HS.out ?_
  simp only [Act.put, List.getElem_toArray, List.getElem_cons_zero, List.getElem_cons_succ, List.setIfInBounds_toArray, List.set_cons_zero, List.set_cons_succ]
  refine wpAnyH_take (i := 38) (oi := _) (v := .pointer (some ⟨w5.heap.size, 0, none⟩)) rfl (by kernel_rfl) (by kernel_rfl) (by kernel_rfl) (fun _ _ _ h => h) (Or.inl ⟨by rfl, by intro w hSw; go_split_ands; go_simp⟩) HS.out ?_
  simp only [Act.put, List.getElem_toArray, List.getElem_cons_zero, List.getElem_cons_succ, List.setIfInBounds_toArray, List.set_cons_zero, List.set_cons_succ]
  refine wpAnyH_take (i := 39) (oi := _) (v := .int .i64 C1) rfl (by kernel_rfl) (by kernel_rfl) (by kernel_rfl) (fun _ _ _ h => h) (Or.inl ⟨by rfl, by intro w hSw; go_split_ands; go_simp⟩) HS.out ?_
  simp only [Act.put, List.getElem_toArray, List.getElem_cons_zero, List.getElem_cons_succ, List.setIfInBounds_toArray, List.set_cons_zero, List.set_cons_succ]
  refine wpAnyH_take (i := 40) (oi := _) (v := .agg #[.slice p1 xs.length c1, .slice p2 ps.length c2]) rfl (by kernel_rfl) (by kernel_rfl) (by kernel_rfl) (fun _ _ _ h => h) (Or.inl ⟨by rfl, by intro w hSw; go_split_ands; go_simp⟩) HS.out ?_
  simp only [Act.put, List.getElem_toArray, List.getElem_cons_zero, List.getElem_cons_succ, List.setIfInBounds_toArray, List.set_cons_zero, List.set_cons_succ]
  have hR8 := hide (HRw.out.below (HBW.out.trans (HB7.out.mono HBW.out.size)) (Nat.le_refl _))
  refine wpAnyH_ready (rs := [41]) (by kernel_rfl) (by simp) ?_
  refine AllReadyH.cons (o := _) rfl (fun K hK => ?_) AllReadyH.nil
  go_simp
  refine (l03Half_any _ _ xs _ hx hn hR8.out).mono ?_
  rintro e w9 ⟨rfl, hb9⟩
  have HB9 := hide (HB7.out.trans (hb9.mono HB7.out.size))
  clear hb9
  refine hK.out _ _ (HSS.out _ HB9.out) (fun _ => ?_)
  clear hK K
  have HS := hide (HSS.out _ HB9.out)
  refine wpAnyH_take (i := 42) (oi := _) (v := .int .i64 (64 * half xs.length)) rfl (by kernel_rfl) (by kernel_rfl) (by kernel_rfl) (fun _ _ _ h => h) (Or.inl ⟨by rfl, by intro w hSw; go_split_ands; go_simp⟩) HS.out ?_
  simp only [Act.put, List.getElem_toArray, List.getElem_cons_zero, List.getElem_cons_succ, List.setIfInBounds_toArray, List.set_cons_zero, List.set_cons_succ]
  refine wpAnyH_ready (rs := [43]) (by kernel_rfl) (by simp) ?_
  refine AllReadyH.cons (o := _) rfl (fun K hK => ?_) AllReadyH.nil
  go_simp
  refine (l02Is_no C1 0 (64 * half xs.length) _ HS2.out).mono ?_
  rintro e w10 ⟨rfl, rfl⟩
  refine hK.out _ _ HS.out (fun _ => ?_)
  clear hK K
  refine wpAnyH_take (i := 44) (oi := _) (v := .bool true) rfl (by kernel_rfl) (by kernel_rfl) (by kernel_rfl) (fun _ _ _ h => h) (Or.inl ⟨by rfl, by intro w hSw; go_split_ands; go_simp⟩) HS.out ?_
  simp only [Act.put, List.getElem_toArray, List.getElem_cons_zero, List.getElem_cons_succ, List.setIfInBounds_toArray, List.set_cons_zero, List.set_cons_succ]
  refine wpAnyH_take (i := 45) (oi := _) (v := .bool true) rfl (by kernel_rfl) (by kernel_rfl) (by kernel_rfl) (fun _ _ _ h => h) (Or.inl ⟨by rfl, by intro w hSw; go_split_ands; go_simp⟩) HS.out ?_
  simp only [Act.put, List.getElem_toArray, List.getElem_cons_zero, List.getElem_cons_succ, List.setIfInBounds_toArray, List.set_cons_zero, List.set_cons_succ]
  refine wpAnyH_done (by kernel_rfl) ?_ _
  clear HSS HS
  go_wp2
  exact bodyPost_ret (v := .tuple #[.int .i64 0, .int .i64 0, .int .i64 0, .int .i64 3]) (by simp [results, Tryz.results40, go_sem]) rfl ⟨rfl, (HBW.out.trans (HB9.out.mono HBW.out.size))⟩
end Go.Proofs.YtkmehbgepkilkaaGreatDoor

/- l03Seen, case 8. -/
namespace Go.Proofs.YtkmehbgepkilkaaGreatDoor
open Go.RowKit

set_option maxRecDepth 100000 in
set_option maxHeartbeats 8000000 in
theorem specSeen_c8 (vs vp : Value) (xs : List ByteArray) (ps : List (Int × ByteArray)) (t : ByteArray) (A1 A3 B1 B3 C1 C3 n3 : Int) (n1 n2 : Nat) (w : World) (hok : right xs ps = true) (hx : 1 ≤ xs.length) (hn : xs.length ≤ 1048576) (hn2 : ps.length ≤ 1048576) (hr : Reads w vs xs) (hp : ReadsP w vp ps)
    (ht : t.size ≤ 8000) (hn1 : n1 ≤ 8000) (hn2' : n2 ≤ 8000) (HA : Hid (St3.scan t 0 10 0 0 = (A1, (n1 : Int), A3))) (HB : Hid (St3.scan t n1 10 0 0 = (B1, (n2 : Int), B3))) (HC : Hid (St3.scan t n2 10 0 0 = (C1, n3, C3))) (hA1 : -9223372036854775808 ≤ A1 ∧ A1 ≤ 9223372036854775807) (hB1 : -9223372036854775808 ≤ B1 ∧ B1 ≤ 9223372036854775807) (hC1 : -9223372036854775808 ≤ C1 ∧ C1 ≤ 9223372036854775807) (h0 : A3 = 0) (h1 : B3 = 0) (h2 : C3 = 0) (h3 : headOf A1 B1 C1 = headText xs ps) (h4 : 0 ≤ A1) (h5 : 0 ≤ B1 ∧ B1 ≤ 1) (h6 : 0 ≤ C1 ∧ C1 ≤ 64 * half xs.length)
    (hU : ∀ W : World, Calls Tryz.prog 72 #[.string (headText xs ps)] W fun e w' => e = .returned (.agg #[.string t, .int .i64 0, .int .i64 0]) ∧ Below W.heap.size W w') :
    Calls Tryz.prog 40 #[.agg #[vs, vp]] w fun e w' => e = .returned (.tuple #[.int .i64 A1, .int .i64 B1, .int .i64 C1, .int .i64 0]) ∧ Below w.heap.size w w' := by
  have H0_ := hide h0
  clear h0
  have H1_ := hide h1
  clear h1
  have H2_ := hide h2
  clear h2
  have H3_ := hide h3
  clear h3
  have H4_ := hide h4
  clear h4
  have H5_ := hide h5
  clear h5
  have H6_ := hide h6
  clear h6
  have hb0 : Below w.heap.size w (w.alloc (.cells #[vs, vp] 26)) := (Below.refl _ _).alloc (Nat.le_refl _) _
  have HR := hide (hr.below hb0 (Nat.le_refl _))
  have HP := hide (hp.below hb0 (Nat.le_refl _))
  have HRw := hide hr
  have HPw := hide hp
  have HB0 := hide hb0
  have HU := hide hU
  have HO := hide (show readOut xs ps 0 = ⟨xs, ps, headText xs ps, 0⟩ by unfold readOut headText; rw [if_pos hok, if_pos (by omega)]; rfl)
  obtain ⟨p1, c1, rfl, hq⟩ := hr
  obtain ⟨p2, c2, rfl, hq2⟩ := hp
  have HD := hide (row_new w [.slice p1 xs.length c1, .slice p2 ps.length c2] 26)
  clear hb0 hq hq2 hU
  have hfd := Tryz.outData
  go_enter Tryz.func40, Tryz.ntmps40
  go_wp2_with fail
  refine (specRead_any _ _ xs ps 0 _ hn hn2 HR.out HP.out).mono ?_
  rw [HO.out]
  rintro e w1 ⟨⟨us, up, rfl, o1, o2, dd⟩, hb1⟩
  have HB1 := hide (HB0.out.trans (hb1.mono HB0.out.size))
  have HD1 := hide (Row.after hb1 HD.out)
  clear o1 o2 dd hb1 HD
  go_wp2_with fail
  refine (HU.out _).mono ?_
  rintro e w2 ⟨rfl, hb2⟩
  have b2 := HB1.out.trans (hb2.mono HB1.out.size)
  have HD2 := hide ((Row.after hb2 HD1.out).alloc (.cells #[.string t, .int .i64 0, .int .i64 0] 103))
  have HB2a := hide (b2.alloc b2.size (.cells #[.string t, .int .i64 0, .int .i64 0] 103))
  have HX2 := hide (row_new w2 [.string t, .int .i64 0, .int .i64 0] 103)
  clear b2 hb2 HD1
  go_wp2_with fail
  refine (St3.specGetNum_any t 0 _ _ ht (by omega) HA).mono ?_
  rintro e w3 ⟨rfl, hb3⟩
  have b3 := HB2a.out.trans (hb3.mono HB2a.out.size)
  have HX3 := hide (Row.after hb3 HX2.out)
  have HD3 := hide ((Row.after hb3 HD2.out).alloc (.cells #[.int .i64 A1, .int .i64 n1, .int .i64 A3] 106))
  have HB3a := hide (b3.alloc b3.size (.cells #[.int .i64 A1, .int .i64 n1, .int .i64 A3] 106))
  have HX3a := hide (HX3.out.alloc (.cells #[.int .i64 A1, .int .i64 n1, .int .i64 A3] 106))
  have HG3 := hide (row_new w3 [.int .i64 A1, .int .i64 n1, .int .i64 A3] 106)
  have q0 : w3.cell? ⟨w2.heap.size, 0, none⟩ = some (.string t) := HX3.out.cell 0
  have l3 : w2.heap.size < w3.heap.size := HX3.out.lt
  clear hb3 b3 HB2a HX2 HD2
  go_wp2_with fail
  refine (St3.specGetNum_any t n1 _ _ ht (by omega) HB).mono ?_
  rintro e w4 ⟨rfl, hb4⟩
  have b4 := HB3a.out.trans (hb4.mono HB3a.out.size)
  have HX4 := hide (Row.after hb4 HX3a.out)
  have HG4 := hide (Row.after hb4 HG3.out)
  have HD4 := hide ((Row.after hb4 HD3.out).alloc (.cells #[.int .i64 B1, .int .i64 n2, .int .i64 B3] 106))
  have HB4a := hide (b4.alloc b4.size (.cells #[.int .i64 B1, .int .i64 n2, .int .i64 B3] 106))
  have HX4a := hide (HX4.out.alloc (.cells #[.int .i64 B1, .int .i64 n2, .int .i64 B3] 106))
  have HG4a := hide (HG4.out.alloc (.cells #[.int .i64 B1, .int .i64 n2, .int .i64 B3] 106))
  have HS4 := hide (row_new w4 [.int .i64 B1, .int .i64 n2, .int .i64 B3] 106)
  have r0 : w4.cell? ⟨w2.heap.size, 0, none⟩ = some (.string t) := HX4.out.cell 0
  have l4 : w2.heap.size < w4.heap.size := HX4.out.lt
  clear hb4 b4 HB3a HX3a HG3 q0 l3 HX3 HD3
  go_wp2_with fail
  refine (St3.specGetNum_any t n2 _ _ ht (by omega) HC).mono ?_
  rintro e w5 ⟨rfl, hb5⟩
  obtain ⟨W, hW⟩ : ∃ W, W = w5.alloc (.cells #[.int .i64 C1, .int .i64 n3, .int .i64 C3] 106) := ⟨_, rfl⟩
  have b5 := HB4a.out.trans (hb5.mono HB4a.out.size)
  have HBW := hide (show Below w.heap.size w W by rw [hW]; exact b5.alloc b5.size _)
  have HGW := hide (show Row W w3.heap.size 106 [.int .i64 A1, .int .i64 n1, .int .i64 A3] by rw [hW]; exact (Row.after hb5 HG4a.out).alloc _)
  have HSW := hide (show Row W w4.heap.size 106 [.int .i64 B1, .int .i64 n2, .int .i64 B3] by rw [hW]; exact (Row.after hb5 HS4.out).alloc _)
  have HZW := hide (show Row W w5.heap.size 106 [.int .i64 C1, .int .i64 n3, .int .i64 C3] by rw [hW]; exact row_new w5 _ _)
  have HDW := hide (show Row W w.heap.size 26 [.slice p1 xs.length c1, .slice p2 ps.length c2] by rw [hW]; exact (Row.after hb5 HD4.out).alloc _)
  clear hb5 b5 HB4a HX4a HG4a HS4 r0 l4 HX4 HG4 HD4
  have HA1 := hide hA1
  have HB1' := hide hB1
  have HC1 := hide hC1
  clear hA1 hB1 hC1
  have bA : (A3 != 0) = false := by rw [H0_.out]; rfl
  have bB : (B3 != 0) = false := by rw [H1_.out]; rfl
  have bC : (C3 != 0) = false := by rw [H2_.out]; rfl
  have bH : ((headOf A1 B1 C1).toList == (headText xs ps).toList) = true := by rw [H3_.out]; simp
  have bN : decide (A1 < 0) = false := decide_eq_false (by have := H4_.out; omega)
  have HS1 := H5_
  have HS2 := H6_
  have hh : 0 ≤ half xs.length ∧ half xs.length ≤ 1048576 := by unfold half; omega
  have hw : IntKind.i64.wrap (64 * half xs.length) = 64 * half xs.length := by rw [IntKind.wrap_i64]; omega
  go_wp2_with fail
  rw [← hW]
  clear hW
  refine wp_region_held (S := fun x : World => x.cell? ⟨w3.heap.size, 0, none⟩ = some (.int .i64 A1) ∧ x.cell? ⟨w3.heap.size, 2, none⟩ = some (.int .i64 A3) ∧ x.cell? ⟨w4.heap.size, 0, none⟩ = some (.int .i64 B1) ∧ x.cell? ⟨w4.heap.size, 2, none⟩ = some (.int .i64 B3) ∧ x.cell? ⟨w5.heap.size, 0, none⟩ = some (.int .i64 C1) ∧ x.cell? ⟨w5.heap.size, 2, none⟩ = some (.int .i64 C3) ∧ x.cell? ⟨w.heap.size, 0, none⟩ = some (.slice p1 xs.length c1) ∧ x.cell? ⟨w.heap.size, 1, none⟩ = some (.slice p2 ps.length c2)) (by kernel_rfl) ?_
  have HSS := hide (show ∀ x, Below W.heap.size W x → (fun x : World => x.cell? ⟨w3.heap.size, 0, none⟩ = some (.int .i64 A1) ∧ x.cell? ⟨w3.heap.size, 2, none⟩ = some (.int .i64 A3) ∧ x.cell? ⟨w4.heap.size, 0, none⟩ = some (.int .i64 B1) ∧ x.cell? ⟨w4.heap.size, 2, none⟩ = some (.int .i64 B3) ∧ x.cell? ⟨w5.heap.size, 0, none⟩ = some (.int .i64 C1) ∧ x.cell? ⟨w5.heap.size, 2, none⟩ = some (.int .i64 C3) ∧ x.cell? ⟨w.heap.size, 0, none⟩ = some (.slice p1 xs.length c1) ∧ x.cell? ⟨w.heap.size, 1, none⟩ = some (.slice p2 ps.length c2)) x from fun x h => ⟨(Row.after h HGW.out).cell 0, (Row.after h HGW.out).cell 2, (Row.after h HSW.out).cell 0, (Row.after h HSW.out).cell 2, (Row.after h HZW.out).cell 0, (Row.after h HZW.out).cell 2, (Row.after h HDW.out).cell 0, (Row.after h HDW.out).cell 1⟩)
  have HS := hide (HSS.out { W with drawn := W.drawn + 1 } (Below.refl _ _).drew)
  refine wpAnyH_take (i := 0) (oi := _) (v := .pointer (some ⟨w3.heap.size, 2, none⟩)) rfl (by kernel_rfl) (by kernel_rfl) (by kernel_rfl) (fun _ _ _ h => h) (Or.inl ⟨by rfl, by intro w hSw; go_split_ands; go_simp⟩) HS.out ?_
  simp only [Act.put, List.getElem_toArray, List.getElem_cons_zero, List.setIfInBounds_toArray, List.set_cons_zero, List.set_cons_succ]
  refine wpAnyH_take (i := 1) (oi := _) (v := .int .i64 A3) rfl (by kernel_rfl) (by kernel_rfl) (by kernel_rfl) (fun _ _ _ h => h) (Or.inl ⟨by rfl, by intro w hSw; go_split_ands; go_simp⟩) HS.out ?_
  simp only [Act.put, List.getElem_toArray, List.getElem_cons_zero, List.getElem_cons_succ, List.setIfInBounds_toArray, List.set_cons_zero, List.set_cons_succ]
  refine wpAnyH_take (i := 2) (oi := _) (v := .bool false) rfl (by kernel_rfl) (by kernel_rfl) (by kernel_rfl) (fun _ _ _ h => h) (Or.inl ⟨by rfl, by intro w hSw; go_split_ands; go_simp⟩) HS.out ?_
  simp only [Act.put, List.getElem_toArray, List.getElem_cons_zero, List.getElem_cons_succ, List.setIfInBounds_toArray, List.set_cons_zero, List.set_cons_succ]
  refine wpAnyH_take (i := 3) (oi := _) (v := .bool false) rfl (by kernel_rfl) (by kernel_rfl) (by kernel_rfl) (fun _ _ _ h => h) (Or.inl ⟨by rfl, by intro w hSw; go_split_ands; go_simp⟩) HS.out ?_
  simp only [Act.put, List.getElem_toArray, List.getElem_cons_zero, List.getElem_cons_succ, List.setIfInBounds_toArray, List.set_cons_zero, List.set_cons_succ]
  refine wpAnyH_take (i := 4) (oi := _) (v := .pointer (some ⟨w4.heap.size, 2, none⟩)) rfl (by kernel_rfl) (by kernel_rfl) (by kernel_rfl) (fun _ _ _ h => h) (Or.inl ⟨by rfl, by intro w hSw; go_split_ands; go_simp⟩) HS.out ?_
  simp only [Act.put, List.getElem_toArray, List.getElem_cons_zero, List.getElem_cons_succ, List.setIfInBounds_toArray, List.set_cons_zero, List.set_cons_succ]
  refine wpAnyH_take (i := 5) (oi := _) (v := .int .i64 B3) rfl (by kernel_rfl) (by kernel_rfl) (by kernel_rfl) (fun _ _ _ h => h) (Or.inl ⟨by rfl, by intro w hSw; go_split_ands; go_simp⟩) HS.out ?_
  simp only [Act.put, List.getElem_toArray, List.getElem_cons_zero, List.getElem_cons_succ, List.setIfInBounds_toArray, List.set_cons_zero, List.set_cons_succ]
  refine wpAnyH_take (i := 6) (oi := _) (v := .bool false) rfl (by kernel_rfl) (by kernel_rfl) (by kernel_rfl) (fun _ _ _ h => h) (Or.inl ⟨by rfl, by intro w hSw; go_split_ands; go_simp⟩) HS.out ?_
  simp only [Act.put, List.getElem_toArray, List.getElem_cons_zero, List.getElem_cons_succ, List.setIfInBounds_toArray, List.set_cons_zero, List.set_cons_succ]
  refine wpAnyH_take (i := 7) (oi := _) (v := .bool false) rfl (by kernel_rfl) (by kernel_rfl) (by kernel_rfl) (fun _ _ _ h => h) (Or.inl ⟨by rfl, by intro w hSw; go_split_ands; go_simp⟩) HS.out ?_
  simp only [Act.put, List.getElem_toArray, List.getElem_cons_zero, List.getElem_cons_succ, List.setIfInBounds_toArray, List.set_cons_zero, List.set_cons_succ]
  refine wpAnyH_take (i := 8) (oi := _) (v := .bool false) rfl (by kernel_rfl) (by kernel_rfl) (by kernel_rfl) (fun _ _ _ h => h) (Or.inl ⟨by rfl, by intro w hSw; go_split_ands; go_simp⟩) HS.out ?_
  simp only [Act.put, List.getElem_toArray, List.getElem_cons_zero, List.getElem_cons_succ, List.setIfInBounds_toArray, List.set_cons_zero, List.set_cons_succ]
  refine wpAnyH_take (i := 9) (oi := _) (v := .pointer (some ⟨w5.heap.size, 2, none⟩)) rfl (by kernel_rfl) (by kernel_rfl) (by kernel_rfl) (fun _ _ _ h => h) (Or.inl ⟨by rfl, by intro w hSw; go_split_ands; go_simp⟩) HS.out ?_
  simp only [Act.put, List.getElem_toArray, List.getElem_cons_zero, List.getElem_cons_succ, List.setIfInBounds_toArray, List.set_cons_zero, List.set_cons_succ]
  refine wpAnyH_take (i := 10) (oi := _) (v := .int .i64 C3) rfl (by kernel_rfl) (by kernel_rfl) (by kernel_rfl) (fun _ _ _ h => h) (Or.inl ⟨by rfl, by intro w hSw; go_split_ands; go_simp⟩) HS.out ?_
  simp only [Act.put, List.getElem_toArray, List.getElem_cons_zero, List.getElem_cons_succ, List.setIfInBounds_toArray, List.set_cons_zero, List.set_cons_succ]
  refine wpAnyH_take (i := 11) (oi := _) (v := .bool false) rfl (by kernel_rfl) (by kernel_rfl) (by kernel_rfl) (fun _ _ _ h => h) (Or.inl ⟨by rfl, by intro w hSw; go_split_ands; go_simp⟩) HS.out ?_
  simp only [Act.put, List.getElem_toArray, List.getElem_cons_zero, List.getElem_cons_succ, List.setIfInBounds_toArray, List.set_cons_zero, List.set_cons_succ]
  refine wpAnyH_take (i := 12) (oi := _) (v := .bool false) rfl (by kernel_rfl) (by kernel_rfl) (by kernel_rfl) (fun _ _ _ h => h) (Or.inl ⟨by rfl, by intro w hSw; go_split_ands; go_simp⟩) HS.out ?_
  simp only [Act.put, List.getElem_toArray, List.getElem_cons_zero, List.getElem_cons_succ, List.setIfInBounds_toArray, List.set_cons_zero, List.set_cons_succ]
  refine wpAnyH_take (i := 13) (oi := _) (v := .bool false) rfl (by kernel_rfl) (by kernel_rfl) (by kernel_rfl) (fun _ _ _ h => h) (Or.inl ⟨by rfl, by intro w hSw; go_split_ands; go_simp⟩) HS.out ?_
  simp only [Act.put, List.getElem_toArray, List.getElem_cons_zero, List.getElem_cons_succ, List.setIfInBounds_toArray, List.set_cons_zero, List.set_cons_succ]
  refine wpAnyH_take (i := 14) (oi := _) (v := .pointer (some ⟨w3.heap.size, 0, none⟩)) rfl (by kernel_rfl) (by kernel_rfl) (by kernel_rfl) (fun _ _ _ h => h) (Or.inl ⟨by rfl, by intro w hSw; go_split_ands; go_simp⟩) HS.out ?_
  simp only [Act.put, List.getElem_toArray, List.getElem_cons_zero, List.getElem_cons_succ, List.setIfInBounds_toArray, List.set_cons_zero, List.set_cons_succ]
  refine wpAnyH_take (i := 15) (oi := _) (v := .int .i64 A1) rfl (by kernel_rfl) (by kernel_rfl) (by kernel_rfl) (fun _ _ _ h => h) (Or.inl ⟨by rfl, by intro w hSw; go_split_ands; go_simp⟩) HS.out ?_
  simp only [Act.put, List.getElem_toArray, List.getElem_cons_zero, List.getElem_cons_succ, List.setIfInBounds_toArray, List.set_cons_zero, List.set_cons_succ]
  refine wpAnyH_take (i := 16) (oi := _) (v := .pointer (some ⟨w4.heap.size, 0, none⟩)) rfl (by kernel_rfl) (by kernel_rfl) (by kernel_rfl) (fun _ _ _ h => h) (Or.inl ⟨by rfl, by intro w hSw; go_split_ands; go_simp⟩) HS.out ?_
  simp only [Act.put, List.getElem_toArray, List.getElem_cons_zero, List.getElem_cons_succ, List.setIfInBounds_toArray, List.set_cons_zero, List.set_cons_succ]
  refine wpAnyH_take (i := 17) (oi := _) (v := .int .i64 B1) rfl (by kernel_rfl) (by kernel_rfl) (by kernel_rfl) (fun _ _ _ h => h) (Or.inl ⟨by rfl, by intro w hSw; go_split_ands; go_simp⟩) HS.out ?_
  simp only [Act.put, List.getElem_toArray, List.getElem_cons_zero, List.getElem_cons_succ, List.setIfInBounds_toArray, List.set_cons_zero, List.set_cons_succ]
  refine wpAnyH_take (i := 18) (oi := _) (v := .pointer (some ⟨w5.heap.size, 0, none⟩)) rfl (by kernel_rfl) (by kernel_rfl) (by kernel_rfl) (fun _ _ _ h => h) (Or.inl ⟨by rfl, by intro w hSw; go_split_ands; go_simp⟩) HS.out ?_
  simp only [Act.put, List.getElem_toArray, List.getElem_cons_zero, List.getElem_cons_succ, List.setIfInBounds_toArray, List.set_cons_zero, List.set_cons_succ]
  refine wpAnyH_take (i := 19) (oi := _) (v := .int .i64 C1) rfl (by kernel_rfl) (by kernel_rfl) (by kernel_rfl) (fun _ _ _ h => h) (Or.inl ⟨by rfl, by intro w hSw; go_split_ands; go_simp⟩) HS.out ?_
  simp only [Act.put, List.getElem_toArray, List.getElem_cons_zero, List.getElem_cons_succ, List.setIfInBounds_toArray, List.set_cons_zero, List.set_cons_succ]
  refine wpAnyH_take (i := 21) (oi := _) (v := .agg #[.slice p1 xs.length c1, .slice p2 ps.length c2]) rfl (by kernel_rfl) (by kernel_rfl) (by kernel_rfl) (fun _ _ _ h => h) (Or.inl ⟨by rfl, by intro w hSw; go_split_ands; go_simp⟩) HS.out ?_
  simp only [Act.put, List.getElem_toArray, List.getElem_cons_zero, List.getElem_cons_succ, List.setIfInBounds_toArray, List.set_cons_zero, List.set_cons_succ]
  refine wpAnyH_ready (rs := [20]) (by kernel_rfl) (by simp) ?_
  refine AllReadyH.cons (o := _) rfl (fun K hK => ?_) AllReadyH.nil
  go_simp
  refine (l03Head_any A1 B1 C1 _ HA1.out HB1'.out HC1.out).mono ?_
  rintro e w6 ⟨rfl, hb6⟩
  have HB6 := hide (below_drew hb6)
  clear hb6
  refine hK.out _ _ (HSS.out _ HB6.out) (fun _ => ?_)
  clear hK K
  have hR6 := hide (HRw.out.below (HBW.out.trans (HB6.out.mono HBW.out.size)) (Nat.le_refl _))
  have hP6 := hide (HPw.out.below (HBW.out.trans (HB6.out.mono HBW.out.size)) (Nat.le_refl _))
  have HS := hide (HSS.out _ HB6.out)
  refine wpAnyH_ready (rs := [22]) (by kernel_rfl) (by simp) ?_
  refine AllReadyH.cons (o := _) rfl (fun K hK => ?_) AllReadyH.nil
  go_simp
  refine (specRead_any _ _ xs ps 0 _ hn hn2 hR6.out hP6.out).mono ?_
  rw [HO.out]
  rintro e w7 ⟨⟨us, up, rfl, o1, o2, dd⟩, hb7⟩
  obtain ⟨s1, s2, s3, rfl⟩ := o1.isSlice
  obtain ⟨s4, s5, s6, rfl⟩ := o2.isSlice
  have HB7 := hide (HB6.out.trans (hb7.mono HB6.out.size))
  clear hb7 o1 o2 dd
  refine hK.out _ _ (HSS.out _ HB7.out) (fun _ => ?_)
  clear hK K
  have HS := hide (HSS.out _ HB7.out)
  refine wpAnyH_take (i := 23) (oi := _) (v := .string (headText xs ps)) rfl (by kernel_rfl) (by kernel_rfl) (by kernel_rfl) (fun _ _ _ h => h) (Or.inl ⟨by rfl, by intro w hSw; go_split_ands; go_simp⟩) HS.out ?_
  simp only [Act.put, List.getElem_toArray, List.getElem_cons_zero, List.getElem_cons_succ, List.setIfInBounds_toArray, List.set_cons_zero, List.set_cons_succ]
  refine wpAnyH_take (i := 24) (oi := _) (v := .bool false) rfl (by kernel_rfl) (by kernel_rfl) (by kernel_rfl) (fun _ _ _ h => h) (Or.inl ⟨by rfl, by intro w hSw; go_split_ands; go_simp⟩) HS.out ?_
  simp only [Act.put, List.getElem_toArray, List.getElem_cons_zero, List.getElem_cons_succ, List.setIfInBounds_toArray, List.set_cons_zero, List.set_cons_succ]
  refine wpAnyH_take (i := 25) (oi := _) (v := .bool false) rfl (by kernel_rfl) (by kernel_rfl) (by kernel_rfl) (fun _ _ _ h => h) (Or.inl ⟨by rfl, by intro w hSw; go_split_ands; go_simp⟩) HS.out ?_
  simp only [Act.put, List.getElem_toArray, List.getElem_cons_zero, List.getElem_cons_succ, List.setIfInBounds_toArray, List.set_cons_zero, List.set_cons_succ]
  refine wpAnyH_take (i := 26) (oi := _) (v := .bool false) rfl (by kernel_rfl) (by kernel_rfl) (by kernel_rfl) (fun _ _ _ h => h) (Or.inl ⟨by rfl, by intro w hSw; go_split_ands; go_simp⟩) HS.out ?_
  simp only [Act.put, List.getElem_toArray, List.getElem_cons_zero, List.getElem_cons_succ, List.setIfInBounds_toArray, List.set_cons_zero, List.set_cons_succ]
  refine wpAnyH_take (i := 27) (oi := _) (v := .pointer (some ⟨w3.heap.size, 0, none⟩)) rfl (by kernel_rfl) (by kernel_rfl) (by kernel_rfl) (fun _ _ _ h => h) (Or.inl ⟨by rfl, by intro w hSw; go_split_ands; go_simp⟩) HS.out ?_
  simp only [Act.put, List.getElem_toArray, List.getElem_cons_zero, List.getElem_cons_succ, List.setIfInBounds_toArray, List.set_cons_zero, List.set_cons_succ]
  refine wpAnyH_take (i := 28) (oi := _) (v := .int .i64 A1) rfl (by kernel_rfl) (by kernel_rfl) (by kernel_rfl) (fun _ _ _ h => h) (Or.inl ⟨by rfl, by intro w hSw; go_split_ands; go_simp⟩) HS.out ?_
  simp only [Act.put, List.getElem_toArray, List.getElem_cons_zero, List.getElem_cons_succ, List.setIfInBounds_toArray, List.set_cons_zero, List.set_cons_succ]
  refine wpAnyH_take (i := 29) (oi := _) (v := .bool false) rfl (by kernel_rfl) (by kernel_rfl) (by kernel_rfl) (fun _ _ _ h => h) (Or.inl ⟨by rfl, by intro w hSw; go_split_ands; go_simp⟩) HS.out ?_
  simp only [Act.put, List.getElem_toArray, List.getElem_cons_zero, List.getElem_cons_succ, List.setIfInBounds_toArray, List.set_cons_zero, List.set_cons_succ]
  refine wpAnyH_take (i := 30) (oi := _) (v := .bool false) rfl (by kernel_rfl) (by kernel_rfl) (by kernel_rfl) (fun _ _ _ h => h) (Or.inl ⟨by rfl, by intro w hSw; go_split_ands; go_simp⟩) HS.out ?_
  simp only [Act.put, List.getElem_toArray, List.getElem_cons_zero, List.getElem_cons_succ, List.setIfInBounds_toArray, List.set_cons_zero, List.set_cons_succ]
  refine wpAnyH_take (i := 31) (oi := _) (v := .bool false) rfl (by kernel_rfl) (by kernel_rfl) (by kernel_rfl) (fun _ _ _ h => h) (Or.inl ⟨by rfl, by intro w hSw; go_split_ands; go_simp⟩) HS.out ?_
  simp only [Act.put, List.getElem_toArray, List.getElem_cons_zero, List.getElem_cons_succ, List.setIfInBounds_toArray, List.set_cons_zero, List.set_cons_succ]
  refine wpAnyH_take (i := 32) (oi := _) (v := .pointer (some ⟨w4.heap.size, 0, none⟩)) rfl (by kernel_rfl) (by kernel_rfl) (by kernel_rfl) (fun _ _ _ h => h) (Or.inl ⟨by rfl, by intro w hSw; go_split_ands; go_simp⟩) HS.out ?_
  simp only [Act.put, List.getElem_toArray, List.getElem_cons_zero, List.getElem_cons_succ, List.setIfInBounds_toArray, List.set_cons_zero, List.set_cons_succ]
  refine wpAnyH_take (i := 33) (oi := _) (v := .int .i64 B1) rfl (by kernel_rfl) (by kernel_rfl) (by kernel_rfl) (fun _ _ _ h => h) (Or.inl ⟨by rfl, by intro w hSw; go_split_ands; go_simp⟩) HS.out ?_
  simp only [Act.put, List.getElem_toArray, List.getElem_cons_zero, List.getElem_cons_succ, List.setIfInBounds_toArray, List.set_cons_zero, List.set_cons_succ]
  refine wpAnyH_ready (rs := [34]) (by kernel_rfl) (by simp) ?_
  refine AllReadyH.cons (o := _) rfl (fun K hK => ?_) AllReadyH.nil
  go_simp
  refine (l02Is_yes B1 0 1 _ HS1.out.1 HS1.out.2).mono ?_
  rintro e w8 ⟨rfl, rfl⟩
  refine hK.out _ _ HS.out (fun _ => ?_)
  clear hK K
  refine wpAnyH_take (i := 35) (oi := _) (v := .bool false) rfl (by kernel_rfl) (by kernel_rfl) (by kernel_rfl) (fun _ _ _ h => h) (Or.inl ⟨by rfl, by intro w hSw; go_split_ands; go_simp⟩) HS.out ?_
  simp only [Act.put, List.getElem_toArray, List.getElem_cons_zero, List.getElem_cons_succ, List.setIfInBounds_toArray, List.set_cons_zero, List.set_cons_succ]
  refine wpAnyH_take (i := 36) (oi := _) (v := .bool false) rfl (by kernel_rfl) (by kernel_rfl) (by kernel_rfl) (fun _ _ _ h => h) (Or.inl ⟨by rfl, by intro w hSw; go_split_ands; go_simp⟩) HS.out ?_
  simp only [Act.put, List.getElem_toArray, List.getElem_cons_zero, List.getElem_cons_succ, List.setIfInBounds_toArray, List.set_cons_zero, List.set_cons_succ]
  refine wpAnyH_take (i := 37) (oi := _) (v := .bool false) rfl (by kernel_rfl) (by kernel_rfl) (by kernel_rfl) (fun _ _ _ h => h) (Or.inl ⟨by rfl, by intro w hSw; go_split_ands; go_simp⟩) HS.out ?_
  simp only [Act.put, List.getElem_toArray, List.getElem_cons_zero, List.getElem_cons_succ, List.setIfInBounds_toArray, List.set_cons_zero, List.set_cons_succ]
  refine wpAnyH_take (i := 38) (oi := _) (v := .pointer (some ⟨w5.heap.size, 0, none⟩)) rfl (by kernel_rfl) (by kernel_rfl) (by kernel_rfl) (fun _ _ _ h => h) (Or.inl ⟨by rfl, by intro w hSw; go_split_ands; go_simp⟩) HS.out ?_
  simp only [Act.put, List.getElem_toArray, List.getElem_cons_zero, List.getElem_cons_succ, List.setIfInBounds_toArray, List.set_cons_zero, List.set_cons_succ]
  refine wpAnyH_take (i := 39) (oi := _) (v := .int .i64 C1) rfl (by kernel_rfl) (by kernel_rfl) (by kernel_rfl) (fun _ _ _ h => h) (Or.inl ⟨by rfl, by intro w hSw; go_split_ands; go_simp⟩) HS.out ?_
  simp only [Act.put, List.getElem_toArray, List.getElem_cons_zero, List.getElem_cons_succ, List.setIfInBounds_toArray, List.set_cons_zero, List.set_cons_succ]
  refine wpAnyH_take (i := 40) (oi := _) (v := .agg #[.slice p1 xs.length c1, .slice p2 ps.length c2]) rfl (by kernel_rfl) (by kernel_rfl) (by kernel_rfl) (fun _ _ _ h => h) (Or.inl ⟨by rfl, by intro w hSw; go_split_ands; go_simp⟩) HS.out ?_
  simp only [Act.put, List.getElem_toArray, List.getElem_cons_zero, List.getElem_cons_succ, List.setIfInBounds_toArray, List.set_cons_zero, List.set_cons_succ]
  have hR8 := hide (HRw.out.below (HBW.out.trans (HB7.out.mono HBW.out.size)) (Nat.le_refl _))
  refine wpAnyH_ready (rs := [41]) (by kernel_rfl) (by simp) ?_
  refine AllReadyH.cons (o := _) rfl (fun K hK => ?_) AllReadyH.nil
  go_simp
  refine (l03Half_any _ _ xs _ hx hn hR8.out).mono ?_
  rintro e w9 ⟨rfl, hb9⟩
  have HB9 := hide (HB7.out.trans (hb9.mono HB7.out.size))
  clear hb9
  refine hK.out _ _ (HSS.out _ HB9.out) (fun _ => ?_)
  clear hK K
  have HS := hide (HSS.out _ HB9.out)
  refine wpAnyH_take (i := 42) (oi := _) (v := .int .i64 (64 * half xs.length)) rfl (by kernel_rfl) (by kernel_rfl) (by kernel_rfl) (fun _ _ _ h => h) (Or.inl ⟨by rfl, by intro w hSw; go_split_ands; go_simp⟩) HS.out ?_
  simp only [Act.put, List.getElem_toArray, List.getElem_cons_zero, List.getElem_cons_succ, List.setIfInBounds_toArray, List.set_cons_zero, List.set_cons_succ]
  refine wpAnyH_ready (rs := [43]) (by kernel_rfl) (by simp) ?_
  refine AllReadyH.cons (o := _) rfl (fun K hK => ?_) AllReadyH.nil
  go_simp
  refine (l02Is_yes C1 0 (64 * half xs.length) _ HS2.out.1 HS2.out.2).mono ?_
  rintro e w10 ⟨rfl, rfl⟩
  refine hK.out _ _ HS.out (fun _ => ?_)
  clear hK K
  refine wpAnyH_take (i := 44) (oi := _) (v := .bool false) rfl (by kernel_rfl) (by kernel_rfl) (by kernel_rfl) (fun _ _ _ h => h) (Or.inl ⟨by rfl, by intro w hSw; go_split_ands; go_simp⟩) HS.out ?_
  simp only [Act.put, List.getElem_toArray, List.getElem_cons_zero, List.getElem_cons_succ, List.setIfInBounds_toArray, List.set_cons_zero, List.set_cons_succ]
  refine wpAnyH_take (i := 45) (oi := _) (v := .bool false) rfl (by kernel_rfl) (by kernel_rfl) (by kernel_rfl) (fun _ _ _ h => h) (Or.inl ⟨by rfl, by intro w hSw; go_split_ands; go_simp⟩) HS.out ?_
  simp only [Act.put, List.getElem_toArray, List.getElem_cons_zero, List.getElem_cons_succ, List.setIfInBounds_toArray, List.set_cons_zero, List.set_cons_succ]
  refine wpAnyH_done (by kernel_rfl) ?_ _
  obtain ⟨e1, e2, e3, e4, e5, e6, e7, e8⟩ := HS.out
  have HBE := hide (HBW.out.trans (HB9.out.mono HBW.out.size))
  clear HSS HS e2 e4 e6 e7 e8
  go_wp2_with fail
  go_region
  go_wp2
  exact bodyPost_ret (v := .tuple #[.int .i64 A1, .int .i64 B1, .int .i64 C1, .int .i64 0]) (by simp [results, Tryz.results40, go_sem]) rfl ⟨rfl, HBE.out.drew⟩
end Go.Proofs.YtkmehbgepkilkaaGreatDoor

/- The specification's l03Seen, whole: what the head of a right disk tells. -/
namespace Go.Proofs.YtkmehbgepkilkaaGreatDoor
open Go.RowKit

theorem bytesOf_append (a b : List Int) : St2.bytesOf (a ++ b) = St2.bytesOf a ++ St2.bytesOf b := by
  apply ByteArray.ext
  simp [St2.bytesOf]
theorem bytesOf_len (L : List Int) : (St2.bytesOf L).size = L.length := by simp [St2.bytesOf, ByteArray.size]
theorem eq_bytesOf {t : ByteArray} {L : List Int} (hl : t.size = L.length) (h : ∀ j (h1 : j < t.size) (h2 : j < L.length), ((t[j]'h1).toNat : Int) = L[j]) : t = St2.bytesOf L := by
  apply ByteArray.ext
  apply Array.ext
  · show t.size = _; rw [hl]; simp [St2.bytesOf]
  · intro i h1 h2
    have h1' : i < t.size := h1
    have := h i h1' (by omega)
    simp only [St2.bytesOf, List.getElem_toArray, List.getElem_map]
    rw [← this]
    show t[i] = _
    apply UInt8.toNat.inj
    simp

/-- What is read of a text at a place: the number, the place behind it, the code. -/
def nums (t : ByteArray) : (Int × Int × Int) × (Int × Int × Int) × (Int × Int × Int) :=
  let a := St3.scan t 0 10 0 0
  let b := St3.scan t a.2.1.toNat 10 0 0
  (a, b, St3.scan t b.2.1.toNat 10 0 0)
theorem scan_codeP (s : ByteArray) (a : Nat) : ∀ (f k : Nat) (u : Int), (St3.scan s a f k u).2.2 = 0 ∨ St3.scan s a f k u = (0, 0, 3) ∨ St3.scan s a f k u = (0, 0, 4)
  | 0, _, _ => .inr (.inl rfl)
  | f + 1, k, u => by
    rw [St3.scan]
    split
    · split
      · split
        · exact .inr (.inl rfl)
        · exact .inl rfl
      · exact scan_codeP s a f _ _
    · exact .inr (.inr rfl)
theorem scan_at (t : ByteArray) (a : Nat) : 0 ≤ (St3.scan t a 10 0 0).2.1 ∧ (St3.scan t a 10 0 0).2.1 ≤ t.size ∧ (-9223372036854775808 ≤ (St3.scan t a 10 0 0).1 ∧ (St3.scan t a 10 0 0).1 ≤ 9223372036854775807) := by
  rcases scan_codeP t a 10 0 0 with h | h | h
  · obtain ⟨r, e⟩ : ∃ r, r = St3.scan t a 10 0 0 := ⟨_, rfl⟩
    obtain ⟨n, p, c⟩ := r
    rw [← e] at h ⊢
    simp only at h
    subst h
    obtain ⟨h1, h2, h3, h4, _⟩ := scan_enc e.symm
    simp only
    exact ⟨by omega, by omega, h3, h4⟩
  · rw [h]; simp
  · rw [h]; simp

theorem head_iff {t : ByteArray} {A1 B1 C1 p1 p2 p3 : Int} (h1 : St3.scan t 0 10 0 0 = (A1, p1, 0)) (h2 : St3.scan t p1.toNat 10 0 0 = (B1, p2, 0)) (h3 : St3.scan t p2.toNat 10 0 0 = (C1, p3, 0)) :
    headOf A1 B1 C1 = St1.sealOf t ↔ p3 = t.size := by
  obtain ⟨a1, a2, _, _, a5⟩ := scan_enc h1
  obtain ⟨b1, b2, _, _, b5⟩ := scan_enc h2
  obtain ⟨c1, c2, _, _, c5⟩ := scan_enc h3
  have e : numText A1 ++ numText B1 ++ numText C1 = St2.bytesOf (St2.enc A1 ++ St2.enc B1 ++ St2.enc C1) := by
    rw [bytesOf_append, bytesOf_append]; rfl
  constructor
  · intro h
    have hs := congrArg ByteArray.size h
    unfold headOf St1.sealOf at hs
    rw [e] at hs
    have h4 : ∀ c : Int, (St1.four c).size = 4 := fun c => rfl
    simp only [ByteArray.size_append, h4, bytesOf_len, List.length_append] at hs
    omega
  · intro h
    unfold headOf
    rw [e]
    congr 1
    symm
    apply eq_bytesOf
    · simp only [List.length_append]; omega
    · intro j h1 h2
      by_cases hj : j < (St2.enc A1).length
      · have := a5 j hj (by omega)
        simp only [Nat.zero_add] at this
        rw [this, List.getElem_append_left (by simp; omega), List.getElem_append_left hj]
      · by_cases hk : j < (St2.enc A1).length + (St2.enc B1).length
        · have := b5 (j - (St2.enc A1).length) (by omega) (by omega)
          rw [List.getElem_append_left (by simp; omega), List.getElem_append_right (by omega), ← this]
          congr 2
          congr 1
          omega
        · simp only [List.length_append] at h2
          have := c5 (j - ((St2.enc A1).length + (St2.enc B1).length)) (by omega) (by omega)
          rw [List.getElem_append_right (by simp; omega)]
          simp only [List.length_append]
          rw [← this]
          congr 2
          congr 1
          omega

/-- What the head of a right disk tells: the number, the side, the bytes, the code. -/
def seen (xs : List ByteArray) (ps : List (Int × ByteArray)) : Int × Int × Int × Int :=
  let s := headText xs ps
  if s.size < 4 then (0, 0, 0, 4)
  else if ¬ St1.sealOf (s.extract 0 (s.size - 4)) = s then (0, 0, 0, 5)
  else
    let r := nums (s.extract 0 (s.size - 4))
    if r.1.2.2 = 0 ∧ r.2.1.2.2 = 0 ∧ r.2.2.2.2 = 0 ∧ headOf r.1.1 r.2.1.1 r.2.2.1 = s ∧ 0 ≤ r.1.1 ∧ (0 ≤ r.2.1.1 ∧ r.2.1.1 ≤ 1) ∧ (0 ≤ r.2.2.1 ∧ r.2.2.1 ≤ 64 * half xs.length) then (r.1.1, r.2.1.1, r.2.2.1, 0) else (0, 0, 0, 3)
def seenV (r : Int × Int × Int × Int) : Value := .tuple #[.int .i64 r.1, .int .i64 r.2.1, .int .i64 r.2.2.1, .int .i64 r.2.2.2]

theorem headText_size {xs : List ByteArray} {ps : List (Int × ByteArray)} (hok : right xs ps = true) : (headText xs ps).size ≤ 64 := by
  have hl := right_ge hok
  have hs : ∀ x ∈ xs, x.size ≤ 64 := by
    intro x hx
    unfold right at hok
    simp only [Bool.and_eq_true] at hok
    have := hok.1.2
    unfold okS at this
    simpa using (List.all_eq_true.1 this) x hx
  have hq : ∀ x ∈ ps, x.2.size ≤ 64 := by
    intro x hx
    unfold right at hok
    simp only [Bool.and_eq_true] at hok
    have := hok.2
    unfold okP at this
    have := (List.all_eq_true.1 this) x hx
    simp at this
    omega
  unfold headText
  have h0 : (xs.getD 0 ⟨#[]⟩).size ≤ 64 := by
    cases xs with
    | nil => simp at hl
    | cons x r => exact hs x (by simp)
  have key : ∀ (qs : List (Int × ByteArray)) (t : ByteArray), (∀ x ∈ qs, x.2.size ≤ 64) → t.size ≤ 64 → (lastAt 0 qs t).size ≤ 64 := by
    intro qs
    induction qs with
    | nil => intro t _ h; exact h
    | cons x r ih =>
      intro t hx ht
      unfold lastAt
      refine ih _ (fun y hy => hx y (by simp [hy])) ?_
      split
      · exact hx x (by simp)
      · exact ht
  exact key ps _ hq h0

theorem specSeen_any (vs vp : Value) (xs : List ByteArray) (ps : List (Int × ByteArray)) (w : World) (hok : right xs ps = true) (hn : xs.length ≤ 1048576) (hn2 : ps.length ≤ 1048576) (hr : Reads w vs xs) (hp : ReadsP w vp ps) :
    Calls Tryz.prog 40 #[.agg #[vs, vp]] w fun e w' => e = .returned (seenV (seen xs ps)) ∧ Below w.heap.size w w' := by
  have hx := (right_ge hok).1
  have hsz := headText_size hok
  unfold seen
  simp only
  by_cases h4 : (headText xs ps).size < 4
  · rw [if_pos h4]
    exact specSeen_bad vs vp xs ps 4 w hok hx hn hn2 hr hp (by omega) (fun W => St1.specUnseal_short _ W h4)
  · rw [if_neg h4]
    by_cases h5 : St1.sealOf ((headText xs ps).extract 0 ((headText xs ps).size - 4)) = headText xs ps
    · rw [if_neg (fun h => h h5)]
      have hU := fun W => St1.specUnseal_ok (headText xs ps) W (by omega) (by omega) h5
      obtain ⟨t, ht⟩ : ∃ t, t = (headText xs ps).extract 0 ((headText xs ps).size - 4) := ⟨_, rfl⟩
      have hts : t.size ≤ 64 := by rw [ht]; simp; omega
      rw [← ht] at hU ⊢
      obtain ⟨s1, s2, s3⟩ := scan_at t 0
      obtain ⟨R1, e1⟩ : ∃ R, R = St3.scan t 0 10 0 0 := ⟨_, rfl⟩
      obtain ⟨A1, q1, A3⟩ := R1
      rw [← e1] at s1 s2 s3
      obtain ⟨n1, rfl⟩ := Int.eq_ofNat_of_zero_le s1
      obtain ⟨R2, e2⟩ : ∃ R, R = St3.scan t n1 10 0 0 := ⟨_, rfl⟩
      obtain ⟨B1, q2, B3⟩ := R2
      obtain ⟨r1, r2, r3⟩ := scan_at t n1
      rw [← e2] at r1 r2 r3
      obtain ⟨n2, rfl⟩ := Int.eq_ofNat_of_zero_le r1
      obtain ⟨R3, e3⟩ : ∃ R, R = St3.scan t n2 10 0 0 := ⟨_, rfl⟩
      obtain ⟨C1, n3, C3⟩ := R3
      obtain ⟨_, _, u3⟩ := scan_at t n2
      rw [← e3] at u3
      have en : nums t = ((A1, (n1 : Int), A3), (B1, (n2 : Int), B3), (C1, n3, C3)) := by
        unfold nums
        simp only [← e1, Int.toNat_natCast, ← e2, ← e3]
      rw [en]
      simp only at s2 s3 r2 r3 u3 ⊢
      have HA := hide e1.symm
      have HB := hide e2.symm
      have HC := hide e3.symm
      by_cases c1 : A3 = 0
      · by_cases c2 : B3 = 0
        · by_cases c3 : C3 = 0
          · by_cases c4 : headOf A1 B1 C1 = headText xs ps
            · by_cases c5 : 0 ≤ A1
              · by_cases c6 : 0 ≤ B1 ∧ B1 ≤ 1
                · by_cases c7 : 0 ≤ C1 ∧ C1 ≤ 64 * half xs.length
                  · rw [if_pos ⟨c1, c2, c3, c4, c5, c6, c7⟩]
                    exact specSeen_c8 vs vp xs ps t A1 A3 B1 B3 C1 C3 n3 n1 n2 w hok hx hn hn2 hr hp (by omega) (by omega) (by omega) HA HB HC s3 r3 u3 c1 c2 c3 c4 c5 c6 c7 hU
                  · rw [if_neg (fun h => c7 h.2.2.2.2.2.2)]
                    exact specSeen_c7 vs vp xs ps t A1 A3 B1 B3 C1 C3 n3 n1 n2 w hok hx hn hn2 hr hp (by omega) (by omega) (by omega) HA HB HC s3 r3 u3 c1 c2 c3 c4 c5 c6 c7 hU
                · rw [if_neg (fun h => c6 h.2.2.2.2.2.1)]
                  exact specSeen_c6 vs vp xs ps t A1 A3 B1 B3 C1 C3 n3 n1 n2 w hok hx hn hn2 hr hp (by omega) (by omega) (by omega) HA HB HC s3 r3 u3 c1 c2 c3 c4 c5 c6 hU
              · rw [if_neg (fun h => c5 h.2.2.2.2.1)]
                exact specSeen_c5 vs vp xs ps t A1 A3 B1 B3 C1 C3 n3 n1 n2 w hok hx hn hn2 hr hp (by omega) (by omega) (by omega) HA HB HC s3 r3 u3 c1 c2 c3 c4 (by omega) hU
            · rw [if_neg (fun h => c4 h.2.2.2.1)]
              exact specSeen_c4 vs vp xs ps t A1 A3 B1 B3 C1 C3 n3 n1 n2 w hok hx hn hn2 hr hp (by omega) (by omega) (by omega) HA HB HC s3 r3 u3 c1 c2 c3 c4 hU
          · rw [if_neg (fun h => c3 h.2.2.1)]
            exact specSeen_c3 vs vp xs ps t A1 A3 B1 B3 C1 C3 n3 n1 n2 w hok hx hn hn2 hr hp (by omega) (by omega) (by omega) HA HB HC c1 c2 c3 hU
        · rw [if_neg (fun h => c2 h.2.1)]
          exact specSeen_c2 vs vp xs ps t A1 A3 B1 B3 C1 C3 n3 n1 n2 w hok hx hn hn2 hr hp (by omega) (by omega) (by omega) HA HB HC c1 c2 hU
      · rw [if_neg (fun h => c1 h.1)]
        exact specSeen_c1 vs vp xs ps t A1 A3 B1 B3 C1 C3 n3 n1 n2 w hok hx hn hn2 hr hp (by omega) (by omega) (by omega) HA HB HC c1 hU
    · rw [if_pos h5]
      exact specSeen_bad vs vp xs ps 5 w hok hx hn hn2 hr hp (by omega) (fun W => St1.specUnseal_sum _ W (by omega) (by omega) h5)
end Go.Proofs.YtkmehbgepkilkaaGreatDoor
