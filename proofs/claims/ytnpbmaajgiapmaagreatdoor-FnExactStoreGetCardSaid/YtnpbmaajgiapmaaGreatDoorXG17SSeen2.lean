/- l03Seen, case 2. -/
import Derived.Test.YtnpbmaajgiapmaaGreatDoorXG16CUnseal
import Derived.OrdersHeld
import Derived.Deep.RegionHeld3
import Derived.Test.YtnpbmaajgiapmaaGreatDoorXG15Copy
namespace Go.Proofs.YtnpbmaajgiapmaaGreatDoor
open Go.RowKit

set_option maxRecDepth 100000 in
set_option maxHeartbeats 8000000 in
theorem specSeen_c2 (vs vp : Value) (xs : List ByteArray) (ps : List (Int × ByteArray)) (t : ByteArray) (A1 A3 B1 B3 C1 C3 n3 : Int) (n1 n2 : Nat) (w : World) (hok : right xs ps = true) (hx : 1 ≤ xs.length) (hn : xs.length ≤ 1048576) (hn2 : ps.length ≤ 1048576) (hr : Reads w vs xs) (hp : ReadsP w vp ps)
    (ht : t.size ≤ 8000) (hn1 : n1 ≤ 8000) (hn2' : n2 ≤ 8000) (HA : Hid (St3.scan t 0 10 0 0 = (A1, (n1 : Int), A3))) (HB : Hid (St3.scan t n1 10 0 0 = (B1, (n2 : Int), B3))) (HC : Hid (St3.scan t n2 10 0 0 = (C1, n3, C3))) (h0 : A3 = 0) (h1 : B3 ≠ 0)
    (hU : ∀ W : World, Calls Tryz.prog 95 #[.string (headText xs ps)] W fun e w' => e = .returned (.agg #[.string t, .int .i64 0, .int .i64 0]) ∧ Below W.heap.size W w') :
    Calls Tryz.prog 67 #[.agg #[vs, vp]] w fun e w' => e = .returned (.tuple #[.int .i64 0, .int .i64 0, .int .i64 0, .int .i64 3]) ∧ Below w.heap.size w w' := by
  have H0_ := hide h0
  clear h0
  have H1_ := hide h1
  clear h1
  have hb0 : Below w.heap.size w (w.alloc (.cells #[vs, vp] 30)) := (Below.refl _ _).alloc (Nat.le_refl _) _
  have HR := hide (hr.below hb0 (Nat.le_refl _))
  have HP := hide (hp.below hb0 (Nat.le_refl _))
  have HRw := hide hr
  have HPw := hide hp
  have HB0 := hide hb0
  have HU := hide hU
  have HO := hide (show readOut xs ps 0 = ⟨xs, ps, headText xs ps, 0⟩ by unfold readOut headText; rw [if_pos hok, if_pos (by omega)]; rfl)
  obtain ⟨p1, c1, rfl, hq⟩ := hr
  obtain ⟨p2, c2, rfl, hq2⟩ := hp
  have HD := hide (row_new w [.slice p1 xs.length c1, .slice p2 ps.length c2] 30)
  clear hb0 hq hq2 hU
  have hfd := Tryz.outData
  go_enter Tryz.func67, Tryz.ntmps67
  go_wp2_with fail
  refine (specRead_any _ _ xs ps 0 _ hn hn2 HR.out HP.out).mono ?_
  rw [HO.out]
  rintro e w1 ⟨⟨us, up, rfl, o1, o2, dd⟩, hb1⟩
  have HB1 := hide (HB0.out.trans (hb1.mono HB0.out.size))
  have HD1 := hide (Row.after hb1 HD.out)
  clear o1 o2 dd hb1 HD
  go_wp2_with fail
  refine (HU.out _).mono ?_
  rintro e w2 ⟨rfl, hb2⟩
  have b2 := HB1.out.trans (hb2.mono HB1.out.size)
  have HD2 := hide ((Row.after hb2 HD1.out).alloc (.cells #[.string t, .int .i64 0, .int .i64 0] 89))
  have HB2a := hide (b2.alloc b2.size (.cells #[.string t, .int .i64 0, .int .i64 0] 89))
  have HX2 := hide (row_new w2 [.string t, .int .i64 0, .int .i64 0] 89)
  clear b2 hb2 HD1
  go_wp2_with fail
  refine (St3.specGetNum_any t 0 _ _ ht (by omega) HA).mono ?_
  rintro e w3 ⟨rfl, hb3⟩
  have b3 := HB2a.out.trans (hb3.mono HB2a.out.size)
  have HX3 := hide (Row.after hb3 HX2.out)
  have HD3 := hide ((Row.after hb3 HD2.out).alloc (.cells #[.int .i64 A1, .int .i64 n1, .int .i64 A3] 86))
  have HB3a := hide (b3.alloc b3.size (.cells #[.int .i64 A1, .int .i64 n1, .int .i64 A3] 86))
  have HX3a := hide (HX3.out.alloc (.cells #[.int .i64 A1, .int .i64 n1, .int .i64 A3] 86))
  have HG3 := hide (row_new w3 [.int .i64 A1, .int .i64 n1, .int .i64 A3] 86)
  have q0 : w3.cell? ⟨w2.heap.size, 0, none⟩ = some (.string t) := HX3.out.cell 0
  have l3 : w2.heap.size < w3.heap.size := HX3.out.lt
  clear hb3 b3 HB2a HX2 HD2
  go_wp2_with fail
  refine (St3.specGetNum_any t n1 _ _ ht (by omega) HB).mono ?_
  rintro e w4 ⟨rfl, hb4⟩
  have b4 := HB3a.out.trans (hb4.mono HB3a.out.size)
  have HX4 := hide (Row.after hb4 HX3a.out)
  have HG4 := hide (Row.after hb4 HG3.out)
  have HD4 := hide ((Row.after hb4 HD3.out).alloc (.cells #[.int .i64 B1, .int .i64 n2, .int .i64 B3] 86))
  have HB4a := hide (b4.alloc b4.size (.cells #[.int .i64 B1, .int .i64 n2, .int .i64 B3] 86))
  have HX4a := hide (HX4.out.alloc (.cells #[.int .i64 B1, .int .i64 n2, .int .i64 B3] 86))
  have HG4a := hide (HG4.out.alloc (.cells #[.int .i64 B1, .int .i64 n2, .int .i64 B3] 86))
  have HS4 := hide (row_new w4 [.int .i64 B1, .int .i64 n2, .int .i64 B3] 86)
  have r0 : w4.cell? ⟨w2.heap.size, 0, none⟩ = some (.string t) := HX4.out.cell 0
  have l4 : w2.heap.size < w4.heap.size := HX4.out.lt
  clear hb4 b4 HB3a HX3a HG3 q0 l3 HX3 HD3
  go_wp2_with fail
  refine (St3.specGetNum_any t n2 _ _ ht (by omega) HC).mono ?_
  rintro e w5 ⟨rfl, hb5⟩
  obtain ⟨W, hW⟩ : ∃ W, W = w5.alloc (.cells #[.int .i64 C1, .int .i64 n3, .int .i64 C3] 86) := ⟨_, rfl⟩
  have b5 := HB4a.out.trans (hb5.mono HB4a.out.size)
  have HBW := hide (show Below w.heap.size w W by rw [hW]; exact b5.alloc b5.size _)
  have HGW := hide (show Row W w3.heap.size 86 [.int .i64 A1, .int .i64 n1, .int .i64 A3] by rw [hW]; exact (Row.after hb5 HG4a.out).alloc _)
  have HSW := hide (show Row W w4.heap.size 86 [.int .i64 B1, .int .i64 n2, .int .i64 B3] by rw [hW]; exact (Row.after hb5 HS4.out).alloc _)
  have HZW := hide (show Row W w5.heap.size 86 [.int .i64 C1, .int .i64 n3, .int .i64 C3] by rw [hW]; exact row_new w5 _ _)
  have HDW := hide (show Row W w.heap.size 30 [.slice p1 xs.length c1, .slice p2 ps.length c2] by rw [hW]; exact (Row.after hb5 HD4.out).alloc _)
  clear hb5 b5 HB4a HX4a HG4a HS4 r0 l4 HX4 HG4 HD4
  have bA : (A3 != 0) = false := by rw [H0_.out]; rfl
  have bB : (B3 != 0) = true := by simpa using H1_.out
  go_wp2_with fail
  rw [← hW]
  clear hW
  refine wp_region_held (S := fun x : World => x.cell? ⟨w3.heap.size, 0, none⟩ = some (.int .i64 A1) ∧ x.cell? ⟨w3.heap.size, 2, none⟩ = some (.int .i64 A3) ∧ x.cell? ⟨w4.heap.size, 0, none⟩ = some (.int .i64 B1) ∧ x.cell? ⟨w4.heap.size, 2, none⟩ = some (.int .i64 B3) ∧ x.cell? ⟨w5.heap.size, 0, none⟩ = some (.int .i64 C1) ∧ x.cell? ⟨w5.heap.size, 2, none⟩ = some (.int .i64 C3) ∧ x.cell? ⟨w.heap.size, 0, none⟩ = some (.slice p1 xs.length c1) ∧ x.cell? ⟨w.heap.size, 1, none⟩ = some (.slice p2 ps.length c2)) (by kernel_rfl) ?_
  have HSS := hide (show ∀ x, Below W.heap.size W x → (fun x : World => x.cell? ⟨w3.heap.size, 0, none⟩ = some (.int .i64 A1) ∧ x.cell? ⟨w3.heap.size, 2, none⟩ = some (.int .i64 A3) ∧ x.cell? ⟨w4.heap.size, 0, none⟩ = some (.int .i64 B1) ∧ x.cell? ⟨w4.heap.size, 2, none⟩ = some (.int .i64 B3) ∧ x.cell? ⟨w5.heap.size, 0, none⟩ = some (.int .i64 C1) ∧ x.cell? ⟨w5.heap.size, 2, none⟩ = some (.int .i64 C3) ∧ x.cell? ⟨w.heap.size, 0, none⟩ = some (.slice p1 xs.length c1) ∧ x.cell? ⟨w.heap.size, 1, none⟩ = some (.slice p2 ps.length c2)) x from fun x h => ⟨(Row.after h HGW.out).cell 0, (Row.after h HGW.out).cell 2, (Row.after h HSW.out).cell 0, (Row.after h HSW.out).cell 2, (Row.after h HZW.out).cell 0, (Row.after h HZW.out).cell 2, (Row.after h HDW.out).cell 0, (Row.after h HDW.out).cell 1⟩)
  have HS := hide (HSS.out { W with drawn := W.drawn + 1 } (Below.refl _ _).drew)
  refine wpAnyH_take (i := 0) (oi := _) (v := .pointer (some ⟨w3.heap.size, 2, none⟩)) rfl (by kernel_rfl) (by kernel_rfl) (by kernel_rfl) (fun _ _ _ h => h) (Or.inl ⟨by rfl, by intro w hSw; go_split_ands; go_simp⟩) HS.out ?_
  simp only [Act.put, List.getElem_toArray, List.getElem_cons_zero, List.setIfInBounds_toArray, List.set_cons_zero, List.set_cons_succ]
  refine wpAnyH_take (i := 1) (oi := _) (v := .int .i64 A3) rfl (by kernel_rfl) (by kernel_rfl) (by kernel_rfl) (fun _ _ _ h => h) (Or.inl ⟨by rfl, by intro w hSw; go_split_ands; go_simp⟩) HS.out ?_
  simp only [Act.put, List.getElem_toArray, List.getElem_cons_zero, List.getElem_cons_succ, List.setIfInBounds_toArray, List.set_cons_zero, List.set_cons_succ]
  refine wpAnyH_take (i := 2) (oi := _) (v := .bool false) rfl (by kernel_rfl) (by kernel_rfl) (by kernel_rfl) (fun _ _ _ h => h) (Or.inl ⟨by rfl, by intro w hSw; go_split_ands; go_simp⟩) HS.out ?_
  simp only [Act.put, List.getElem_toArray, List.getElem_cons_zero, List.getElem_cons_succ, List.setIfInBounds_toArray, List.set_cons_zero, List.set_cons_succ]
  refine wpAnyH_take (i := 3) (oi := _) (v := .bool false) rfl (by kernel_rfl) (by kernel_rfl) (by kernel_rfl) (fun _ _ _ h => h) (Or.inl ⟨by rfl, by intro w hSw; go_split_ands; go_simp⟩) HS.out ?_
  simp only [Act.put, List.getElem_toArray, List.getElem_cons_zero, List.getElem_cons_succ, List.setIfInBounds_toArray, List.set_cons_zero, List.set_cons_succ]
  refine wpAnyH_take (i := 4) (oi := _) (v := .pointer (some ⟨w4.heap.size, 2, none⟩)) rfl (by kernel_rfl) (by kernel_rfl) (by kernel_rfl) (fun _ _ _ h => h) (Or.inl ⟨by rfl, by intro w hSw; go_split_ands; go_simp⟩) HS.out ?_
  simp only [Act.put, List.getElem_toArray, List.getElem_cons_zero, List.getElem_cons_succ, List.setIfInBounds_toArray, List.set_cons_zero, List.set_cons_succ]
  refine wpAnyH_take (i := 5) (oi := _) (v := .int .i64 B3) rfl (by kernel_rfl) (by kernel_rfl) (by kernel_rfl) (fun _ _ _ h => h) (Or.inl ⟨by rfl, by intro w hSw; go_split_ands; go_simp⟩) HS.out ?_
  simp only [Act.put, List.getElem_toArray, List.getElem_cons_zero, List.getElem_cons_succ, List.setIfInBounds_toArray, List.set_cons_zero, List.set_cons_succ]
  refine wpAnyH_take (i := 6) (oi := _) (v := .bool true) rfl (by kernel_rfl) (by kernel_rfl) (by kernel_rfl) (fun _ _ _ h => h) (Or.inl ⟨by rfl, by intro w hSw; go_split_ands; go_simp⟩) HS.out ?_
  simp only [Act.put, List.getElem_toArray, List.getElem_cons_zero, List.getElem_cons_succ, List.setIfInBounds_toArray, List.set_cons_zero, List.set_cons_succ]
  refine wpAnyH_take (i := 7) (oi := _) (v := .bool true) rfl (by kernel_rfl) (by kernel_rfl) (by kernel_rfl) (fun _ _ _ h => h) (Or.inl ⟨by rfl, by intro w hSw; go_split_ands; go_simp⟩) HS.out ?_
  simp only [Act.put, List.getElem_toArray, List.getElem_cons_zero, List.getElem_cons_succ, List.setIfInBounds_toArray, List.set_cons_zero, List.set_cons_succ]
  refine wpAnyH_take (i := 8) (oi := _) (v := .bool true) rfl (by kernel_rfl) (by kernel_rfl) (by kernel_rfl) (fun _ _ _ h => h) (Or.inl ⟨by rfl, by intro w hSw; go_split_ands; go_simp⟩) HS.out ?_
  simp only [Act.put, List.getElem_toArray, List.getElem_cons_zero, List.getElem_cons_succ, List.setIfInBounds_toArray, List.set_cons_zero, List.set_cons_succ]
  refine wpAnyH_take (i := 9) (oi := _) (v := undef) rfl (by kernel_rfl) (by kernel_rfl) (by kernel_rfl) (fun _ _ _ h => h) (Or.inr ⟨by rfl, rfl⟩) HS.out ?_
  simp only [Act.put, List.getElem_toArray, List.getElem_cons_zero, List.getElem_cons_succ, List.setIfInBounds_toArray, List.set_cons_zero, List.set_cons_succ]
  refine wpAnyH_take (i := 10) (oi := _) (v := undef) rfl (by kernel_rfl) (by kernel_rfl) (by kernel_rfl) (fun _ _ _ h => h) (Or.inr ⟨by rfl, rfl⟩) HS.out ?_
  simp only [Act.put, List.getElem_toArray, List.getElem_cons_zero, List.getElem_cons_succ, List.setIfInBounds_toArray, List.set_cons_zero, List.set_cons_succ]
  refine wpAnyH_take (i := 11) (oi := _) (v := undef) rfl (by kernel_rfl) (by kernel_rfl) (by kernel_rfl) (fun _ _ _ h => h) (Or.inr ⟨by rfl, rfl⟩) HS.out ?_
  simp only [Act.put, List.getElem_toArray, List.getElem_cons_zero, List.getElem_cons_succ, List.setIfInBounds_toArray, List.set_cons_zero, List.set_cons_succ]
  refine wpAnyH_take (i := 12) (oi := _) (v := .bool true) rfl (by kernel_rfl) (by kernel_rfl) (by kernel_rfl) (fun _ _ _ h => h) (Or.inl ⟨by rfl, by intro w hSw; go_split_ands; go_simp⟩) HS.out ?_
  simp only [Act.put, List.getElem_toArray, List.getElem_cons_zero, List.getElem_cons_succ, List.setIfInBounds_toArray, List.set_cons_zero, List.set_cons_succ]
  refine wpAnyH_take (i := 13) (oi := _) (v := .bool true) rfl (by kernel_rfl) (by kernel_rfl) (by kernel_rfl) (fun _ _ _ h => h) (Or.inl ⟨by rfl, by intro w hSw; go_split_ands; go_simp⟩) HS.out ?_
  simp only [Act.put, List.getElem_toArray, List.getElem_cons_zero, List.getElem_cons_succ, List.setIfInBounds_toArray, List.set_cons_zero, List.set_cons_succ]
  refine wpAnyH_take (i := 14) (oi := _) (v := undef) rfl (by kernel_rfl) (by kernel_rfl) (by kernel_rfl) (fun _ _ _ h => h) (Or.inr ⟨by rfl, rfl⟩) HS.out ?_
  simp only [Act.put, List.getElem_toArray, List.getElem_cons_zero, List.getElem_cons_succ, List.setIfInBounds_toArray, List.set_cons_zero, List.set_cons_succ]
  refine wpAnyH_take (i := 15) (oi := _) (v := undef) rfl (by kernel_rfl) (by kernel_rfl) (by kernel_rfl) (fun _ _ _ h => h) (Or.inr ⟨by rfl, rfl⟩) HS.out ?_
  simp only [Act.put, List.getElem_toArray, List.getElem_cons_zero, List.getElem_cons_succ, List.setIfInBounds_toArray, List.set_cons_zero, List.set_cons_succ]
  refine wpAnyH_take (i := 16) (oi := _) (v := undef) rfl (by kernel_rfl) (by kernel_rfl) (by kernel_rfl) (fun _ _ _ h => h) (Or.inr ⟨by rfl, rfl⟩) HS.out ?_
  simp only [Act.put, List.getElem_toArray, List.getElem_cons_zero, List.getElem_cons_succ, List.setIfInBounds_toArray, List.set_cons_zero, List.set_cons_succ]
  refine wpAnyH_take (i := 17) (oi := _) (v := undef) rfl (by kernel_rfl) (by kernel_rfl) (by kernel_rfl) (fun _ _ _ h => h) (Or.inr ⟨by rfl, rfl⟩) HS.out ?_
  simp only [Act.put, List.getElem_toArray, List.getElem_cons_zero, List.getElem_cons_succ, List.setIfInBounds_toArray, List.set_cons_zero, List.set_cons_succ]
  refine wpAnyH_take (i := 18) (oi := _) (v := undef) rfl (by kernel_rfl) (by kernel_rfl) (by kernel_rfl) (fun _ _ _ h => h) (Or.inr ⟨by rfl, rfl⟩) HS.out ?_
  simp only [Act.put, List.getElem_toArray, List.getElem_cons_zero, List.getElem_cons_succ, List.setIfInBounds_toArray, List.set_cons_zero, List.set_cons_succ]
  refine wpAnyH_take (i := 19) (oi := _) (v := undef) rfl (by kernel_rfl) (by kernel_rfl) (by kernel_rfl) (fun _ _ _ h => h) (Or.inr ⟨by rfl, rfl⟩) HS.out ?_
  simp only [Act.put, List.getElem_toArray, List.getElem_cons_zero, List.getElem_cons_succ, List.setIfInBounds_toArray, List.set_cons_zero, List.set_cons_succ]
  refine wpAnyH_take (i := 20) (oi := _) (v := undef) rfl (by kernel_rfl) (by kernel_rfl) (by kernel_rfl) (fun _ _ _ h => h) (Or.inr ⟨by rfl, rfl⟩) HS.out ?_
  simp only [Act.put, List.getElem_toArray, List.getElem_cons_zero, List.getElem_cons_succ, List.setIfInBounds_toArray, List.set_cons_zero, List.set_cons_succ]
  refine wpAnyH_take (i := 21) (oi := _) (v := undef) rfl (by kernel_rfl) (by kernel_rfl) (by kernel_rfl) (fun _ _ _ h => h) (Or.inr ⟨by rfl, rfl⟩) HS.out ?_
  simp only [Act.put, List.getElem_toArray, List.getElem_cons_zero, List.getElem_cons_succ, List.setIfInBounds_toArray, List.set_cons_zero, List.set_cons_succ]
  refine wpAnyH_take (i := 22) (oi := _) (v := undef) rfl (by kernel_rfl) (by kernel_rfl) (by kernel_rfl) (fun _ _ _ h => h) (Or.inr ⟨by rfl, rfl⟩) HS.out ?_
  simp only [Act.put, List.getElem_toArray, List.getElem_cons_zero, List.getElem_cons_succ, List.setIfInBounds_toArray, List.set_cons_zero, List.set_cons_succ]
  refine wpAnyH_take (i := 23) (oi := _) (v := undef) rfl (by kernel_rfl) (by kernel_rfl) (by kernel_rfl) (fun _ _ _ h => h) (Or.inr ⟨by rfl, rfl⟩) HS.out ?_
  simp only [Act.put, List.getElem_toArray, List.getElem_cons_zero, List.getElem_cons_succ, List.setIfInBounds_toArray, List.set_cons_zero, List.set_cons_succ]
  refine wpAnyH_take (i := 24) (oi := _) (v := undef) rfl (by kernel_rfl) (by kernel_rfl) (by kernel_rfl) (fun _ _ _ h => h) (Or.inr ⟨by rfl, rfl⟩) HS.out ?_
  simp only [Act.put, List.getElem_toArray, List.getElem_cons_zero, List.getElem_cons_succ, List.setIfInBounds_toArray, List.set_cons_zero, List.set_cons_succ]
  refine wpAnyH_take (i := 25) (oi := _) (v := .bool true) rfl (by kernel_rfl) (by kernel_rfl) (by kernel_rfl) (fun _ _ _ h => h) (Or.inl ⟨by rfl, by intro w hSw; go_split_ands; go_simp⟩) HS.out ?_
  simp only [Act.put, List.getElem_toArray, List.getElem_cons_zero, List.getElem_cons_succ, List.setIfInBounds_toArray, List.set_cons_zero, List.set_cons_succ]
  refine wpAnyH_take (i := 26) (oi := _) (v := .bool true) rfl (by kernel_rfl) (by kernel_rfl) (by kernel_rfl) (fun _ _ _ h => h) (Or.inl ⟨by rfl, by intro w hSw; go_split_ands; go_simp⟩) HS.out ?_
  simp only [Act.put, List.getElem_toArray, List.getElem_cons_zero, List.getElem_cons_succ, List.setIfInBounds_toArray, List.set_cons_zero, List.set_cons_succ]
  refine wpAnyH_take (i := 27) (oi := _) (v := undef) rfl (by kernel_rfl) (by kernel_rfl) (by kernel_rfl) (fun _ _ _ h => h) (Or.inr ⟨by rfl, rfl⟩) HS.out ?_
  simp only [Act.put, List.getElem_toArray, List.getElem_cons_zero, List.getElem_cons_succ, List.setIfInBounds_toArray, List.set_cons_zero, List.set_cons_succ]
  refine wpAnyH_take (i := 28) (oi := _) (v := undef) rfl (by kernel_rfl) (by kernel_rfl) (by kernel_rfl) (fun _ _ _ h => h) (Or.inr ⟨by rfl, rfl⟩) HS.out ?_
  simp only [Act.put, List.getElem_toArray, List.getElem_cons_zero, List.getElem_cons_succ, List.setIfInBounds_toArray, List.set_cons_zero, List.set_cons_succ]
  refine wpAnyH_take (i := 29) (oi := _) (v := undef) rfl (by kernel_rfl) (by kernel_rfl) (by kernel_rfl) (fun _ _ _ h => h) (Or.inr ⟨by rfl, rfl⟩) HS.out ?_
  simp only [Act.put, List.getElem_toArray, List.getElem_cons_zero, List.getElem_cons_succ, List.setIfInBounds_toArray, List.set_cons_zero, List.set_cons_succ]
  refine wpAnyH_take (i := 30) (oi := _) (v := .bool true) rfl (by kernel_rfl) (by kernel_rfl) (by kernel_rfl) (fun _ _ _ h => h) (Or.inl ⟨by rfl, by intro w hSw; go_split_ands; go_simp⟩) HS.out ?_
  simp only [Act.put, List.getElem_toArray, List.getElem_cons_zero, List.getElem_cons_succ, List.setIfInBounds_toArray, List.set_cons_zero, List.set_cons_succ]
  refine wpAnyH_take (i := 31) (oi := _) (v := .bool true) rfl (by kernel_rfl) (by kernel_rfl) (by kernel_rfl) (fun _ _ _ h => h) (Or.inl ⟨by rfl, by intro w hSw; go_split_ands; go_simp⟩) HS.out ?_
  simp only [Act.put, List.getElem_toArray, List.getElem_cons_zero, List.getElem_cons_succ, List.setIfInBounds_toArray, List.set_cons_zero, List.set_cons_succ]
  refine wpAnyH_take (i := 32) (oi := _) (v := undef) rfl (by kernel_rfl) (by kernel_rfl) (by kernel_rfl) (fun _ _ _ h => h) (Or.inr ⟨by rfl, rfl⟩) HS.out ?_
  simp only [Act.put, List.getElem_toArray, List.getElem_cons_zero, List.getElem_cons_succ, List.setIfInBounds_toArray, List.set_cons_zero, List.set_cons_succ]
  refine wpAnyH_take (i := 33) (oi := _) (v := undef) rfl (by kernel_rfl) (by kernel_rfl) (by kernel_rfl) (fun _ _ _ h => h) (Or.inr ⟨by rfl, rfl⟩) HS.out ?_
  simp only [Act.put, List.getElem_toArray, List.getElem_cons_zero, List.getElem_cons_succ, List.setIfInBounds_toArray, List.set_cons_zero, List.set_cons_succ]
  refine wpAnyH_take (i := 34) (oi := _) (v := undef) rfl (by kernel_rfl) (by kernel_rfl) (by kernel_rfl) (fun _ _ _ h => h) (Or.inr ⟨by rfl, rfl⟩) HS.out ?_
  simp only [Act.put, List.getElem_toArray, List.getElem_cons_zero, List.getElem_cons_succ, List.setIfInBounds_toArray, List.set_cons_zero, List.set_cons_succ]
  refine wpAnyH_take (i := 35) (oi := _) (v := undef) rfl (by kernel_rfl) (by kernel_rfl) (by kernel_rfl) (fun _ _ _ h => h) (Or.inr ⟨by rfl, rfl⟩) HS.out ?_
  simp only [Act.put, List.getElem_toArray, List.getElem_cons_zero, List.getElem_cons_succ, List.setIfInBounds_toArray, List.set_cons_zero, List.set_cons_succ]
  refine wpAnyH_take (i := 36) (oi := _) (v := .bool true) rfl (by kernel_rfl) (by kernel_rfl) (by kernel_rfl) (fun _ _ _ h => h) (Or.inl ⟨by rfl, by intro w hSw; go_split_ands; go_simp⟩) HS.out ?_
  simp only [Act.put, List.getElem_toArray, List.getElem_cons_zero, List.getElem_cons_succ, List.setIfInBounds_toArray, List.set_cons_zero, List.set_cons_succ]
  refine wpAnyH_take (i := 37) (oi := _) (v := .bool true) rfl (by kernel_rfl) (by kernel_rfl) (by kernel_rfl) (fun _ _ _ h => h) (Or.inl ⟨by rfl, by intro w hSw; go_split_ands; go_simp⟩) HS.out ?_
  simp only [Act.put, List.getElem_toArray, List.getElem_cons_zero, List.getElem_cons_succ, List.setIfInBounds_toArray, List.set_cons_zero, List.set_cons_succ]
  refine wpAnyH_take (i := 38) (oi := _) (v := undef) rfl (by kernel_rfl) (by kernel_rfl) (by kernel_rfl) (fun _ _ _ h => h) (Or.inr ⟨by rfl, rfl⟩) HS.out ?_
  simp only [Act.put, List.getElem_toArray, List.getElem_cons_zero, List.getElem_cons_succ, List.setIfInBounds_toArray, List.set_cons_zero, List.set_cons_succ]
  refine wpAnyH_take (i := 39) (oi := _) (v := undef) rfl (by kernel_rfl) (by kernel_rfl) (by kernel_rfl) (fun _ _ _ h => h) (Or.inr ⟨by rfl, rfl⟩) HS.out ?_
  simp only [Act.put, List.getElem_toArray, List.getElem_cons_zero, List.getElem_cons_succ, List.setIfInBounds_toArray, List.set_cons_zero, List.set_cons_succ]
  refine wpAnyH_take (i := 40) (oi := _) (v := undef) rfl (by kernel_rfl) (by kernel_rfl) (by kernel_rfl) (fun _ _ _ h => h) (Or.inr ⟨by rfl, rfl⟩) HS.out ?_
  simp only [Act.put, List.getElem_toArray, List.getElem_cons_zero, List.getElem_cons_succ, List.setIfInBounds_toArray, List.set_cons_zero, List.set_cons_succ]
  refine wpAnyH_take (i := 41) (oi := _) (v := undef) rfl (by kernel_rfl) (by kernel_rfl) (by kernel_rfl) (fun _ _ _ h => h) (Or.inr ⟨by rfl, rfl⟩) HS.out ?_
  simp only [Act.put, List.getElem_toArray, List.getElem_cons_zero, List.getElem_cons_succ, List.setIfInBounds_toArray, List.set_cons_zero, List.set_cons_succ]
  refine wpAnyH_take (i := 42) (oi := _) (v := undef) rfl (by kernel_rfl) (by kernel_rfl) (by kernel_rfl) (fun _ _ _ h => h) (Or.inr ⟨by rfl, rfl⟩) HS.out ?_
  simp only [Act.put, List.getElem_toArray, List.getElem_cons_zero, List.getElem_cons_succ, List.setIfInBounds_toArray, List.set_cons_zero, List.set_cons_succ]
  refine wpAnyH_take (i := 43) (oi := _) (v := undef) rfl (by kernel_rfl) (by kernel_rfl) (by kernel_rfl) (fun _ _ _ h => h) (Or.inr ⟨by rfl, rfl⟩) HS.out ?_
  simp only [Act.put, List.getElem_toArray, List.getElem_cons_zero, List.getElem_cons_succ, List.setIfInBounds_toArray, List.set_cons_zero, List.set_cons_succ]
  refine wpAnyH_take (i := 44) (oi := _) (v := undef) rfl (by kernel_rfl) (by kernel_rfl) (by kernel_rfl) (fun _ _ _ h => h) (Or.inr ⟨by rfl, rfl⟩) HS.out ?_
  simp only [Act.put, List.getElem_toArray, List.getElem_cons_zero, List.getElem_cons_succ, List.setIfInBounds_toArray, List.set_cons_zero, List.set_cons_succ]
  refine wpAnyH_take (i := 45) (oi := _) (v := .bool true) rfl (by kernel_rfl) (by kernel_rfl) (by kernel_rfl) (fun _ _ _ h => h) (Or.inl ⟨by rfl, by intro w hSw; go_split_ands; go_simp⟩) HS.out ?_
  simp only [Act.put, List.getElem_toArray, List.getElem_cons_zero, List.getElem_cons_succ, List.setIfInBounds_toArray, List.set_cons_zero, List.set_cons_succ]
  refine wpAnyH_done (by kernel_rfl) ?_ _
  clear HSS HS
  go_wp2
  exact bodyPost_ret (v := .tuple #[.int .i64 0, .int .i64 0, .int .i64 0, .int .i64 3]) (by simp [results, Tryz.results67, go_sem]) rfl ⟨rfl, HBW.out.drew⟩
end Go.Proofs.YtnpbmaajgiapmaaGreatDoor
/- l03Seen, case 3. -/
namespace Go.Proofs.YtnpbmaajgiapmaaGreatDoor
open Go.RowKit

set_option maxRecDepth 100000 in
set_option maxHeartbeats 8000000 in
theorem specSeen_c3 (vs vp : Value) (xs : List ByteArray) (ps : List (Int × ByteArray)) (t : ByteArray) (A1 A3 B1 B3 C1 C3 n3 : Int) (n1 n2 : Nat) (w : World) (hok : right xs ps = true) (hx : 1 ≤ xs.length) (hn : xs.length ≤ 1048576) (hn2 : ps.length ≤ 1048576) (hr : Reads w vs xs) (hp : ReadsP w vp ps)
    (ht : t.size ≤ 8000) (hn1 : n1 ≤ 8000) (hn2' : n2 ≤ 8000) (HA : Hid (St3.scan t 0 10 0 0 = (A1, (n1 : Int), A3))) (HB : Hid (St3.scan t n1 10 0 0 = (B1, (n2 : Int), B3))) (HC : Hid (St3.scan t n2 10 0 0 = (C1, n3, C3))) (h0 : A3 = 0) (h1 : B3 = 0) (h2 : C3 ≠ 0)
    (hU : ∀ W : World, Calls Tryz.prog 95 #[.string (headText xs ps)] W fun e w' => e = .returned (.agg #[.string t, .int .i64 0, .int .i64 0]) ∧ Below W.heap.size W w') :
    Calls Tryz.prog 67 #[.agg #[vs, vp]] w fun e w' => e = .returned (.tuple #[.int .i64 0, .int .i64 0, .int .i64 0, .int .i64 3]) ∧ Below w.heap.size w w' := by
  have H0_ := hide h0
  clear h0
  have H1_ := hide h1
  clear h1
  have H2_ := hide h2
  clear h2
  have hb0 : Below w.heap.size w (w.alloc (.cells #[vs, vp] 30)) := (Below.refl _ _).alloc (Nat.le_refl _) _
  have HR := hide (hr.below hb0 (Nat.le_refl _))
  have HP := hide (hp.below hb0 (Nat.le_refl _))
  have HRw := hide hr
  have HPw := hide hp
  have HB0 := hide hb0
  have HU := hide hU
  have HO := hide (show readOut xs ps 0 = ⟨xs, ps, headText xs ps, 0⟩ by unfold readOut headText; rw [if_pos hok, if_pos (by omega)]; rfl)
  obtain ⟨p1, c1, rfl, hq⟩ := hr
  obtain ⟨p2, c2, rfl, hq2⟩ := hp
  have HD := hide (row_new w [.slice p1 xs.length c1, .slice p2 ps.length c2] 30)
  clear hb0 hq hq2 hU
  have hfd := Tryz.outData
  go_enter Tryz.func67, Tryz.ntmps67
  go_wp2_with fail
  refine (specRead_any _ _ xs ps 0 _ hn hn2 HR.out HP.out).mono ?_
  rw [HO.out]
  rintro e w1 ⟨⟨us, up, rfl, o1, o2, dd⟩, hb1⟩
  have HB1 := hide (HB0.out.trans (hb1.mono HB0.out.size))
  have HD1 := hide (Row.after hb1 HD.out)
  clear o1 o2 dd hb1 HD
  go_wp2_with fail
  refine (HU.out _).mono ?_
  rintro e w2 ⟨rfl, hb2⟩
  have b2 := HB1.out.trans (hb2.mono HB1.out.size)
  have HD2 := hide ((Row.after hb2 HD1.out).alloc (.cells #[.string t, .int .i64 0, .int .i64 0] 89))
  have HB2a := hide (b2.alloc b2.size (.cells #[.string t, .int .i64 0, .int .i64 0] 89))
  have HX2 := hide (row_new w2 [.string t, .int .i64 0, .int .i64 0] 89)
  clear b2 hb2 HD1
  go_wp2_with fail
  refine (St3.specGetNum_any t 0 _ _ ht (by omega) HA).mono ?_
  rintro e w3 ⟨rfl, hb3⟩
  have b3 := HB2a.out.trans (hb3.mono HB2a.out.size)
  have HX3 := hide (Row.after hb3 HX2.out)
  have HD3 := hide ((Row.after hb3 HD2.out).alloc (.cells #[.int .i64 A1, .int .i64 n1, .int .i64 A3] 86))
  have HB3a := hide (b3.alloc b3.size (.cells #[.int .i64 A1, .int .i64 n1, .int .i64 A3] 86))
  have HX3a := hide (HX3.out.alloc (.cells #[.int .i64 A1, .int .i64 n1, .int .i64 A3] 86))
  have HG3 := hide (row_new w3 [.int .i64 A1, .int .i64 n1, .int .i64 A3] 86)
  have q0 : w3.cell? ⟨w2.heap.size, 0, none⟩ = some (.string t) := HX3.out.cell 0
  have l3 : w2.heap.size < w3.heap.size := HX3.out.lt
  clear hb3 b3 HB2a HX2 HD2
  go_wp2_with fail
  refine (St3.specGetNum_any t n1 _ _ ht (by omega) HB).mono ?_
  rintro e w4 ⟨rfl, hb4⟩
  have b4 := HB3a.out.trans (hb4.mono HB3a.out.size)
  have HX4 := hide (Row.after hb4 HX3a.out)
  have HG4 := hide (Row.after hb4 HG3.out)
  have HD4 := hide ((Row.after hb4 HD3.out).alloc (.cells #[.int .i64 B1, .int .i64 n2, .int .i64 B3] 86))
  have HB4a := hide (b4.alloc b4.size (.cells #[.int .i64 B1, .int .i64 n2, .int .i64 B3] 86))
  have HX4a := hide (HX4.out.alloc (.cells #[.int .i64 B1, .int .i64 n2, .int .i64 B3] 86))
  have HG4a := hide (HG4.out.alloc (.cells #[.int .i64 B1, .int .i64 n2, .int .i64 B3] 86))
  have HS4 := hide (row_new w4 [.int .i64 B1, .int .i64 n2, .int .i64 B3] 86)
  have r0 : w4.cell? ⟨w2.heap.size, 0, none⟩ = some (.string t) := HX4.out.cell 0
  have l4 : w2.heap.size < w4.heap.size := HX4.out.lt
  clear hb4 b4 HB3a HX3a HG3 q0 l3 HX3 HD3
  go_wp2_with fail
  refine (St3.specGetNum_any t n2 _ _ ht (by omega) HC).mono ?_
  rintro e w5 ⟨rfl, hb5⟩
  obtain ⟨W, hW⟩ : ∃ W, W = w5.alloc (.cells #[.int .i64 C1, .int .i64 n3, .int .i64 C3] 86) := ⟨_, rfl⟩
  have b5 := HB4a.out.trans (hb5.mono HB4a.out.size)
  have HBW := hide (show Below w.heap.size w W by rw [hW]; exact b5.alloc b5.size _)
  have HGW := hide (show Row W w3.heap.size 86 [.int .i64 A1, .int .i64 n1, .int .i64 A3] by rw [hW]; exact (Row.after hb5 HG4a.out).alloc _)
  have HSW := hide (show Row W w4.heap.size 86 [.int .i64 B1, .int .i64 n2, .int .i64 B3] by rw [hW]; exact (Row.after hb5 HS4.out).alloc _)
  have HZW := hide (show Row W w5.heap.size 86 [.int .i64 C1, .int .i64 n3, .int .i64 C3] by rw [hW]; exact row_new w5 _ _)
  have HDW := hide (show Row W w.heap.size 30 [.slice p1 xs.length c1, .slice p2 ps.length c2] by rw [hW]; exact (Row.after hb5 HD4.out).alloc _)
  clear hb5 b5 HB4a HX4a HG4a HS4 r0 l4 HX4 HG4 HD4
  have bA : (A3 != 0) = false := by rw [H0_.out]; rfl
  have bB : (B3 != 0) = false := by rw [H1_.out]; rfl
  have bC : (C3 != 0) = true := by simpa using H2_.out
  go_wp2_with fail
  rw [← hW]
  clear hW
  refine wp_region_held (S := fun x : World => x.cell? ⟨w3.heap.size, 0, none⟩ = some (.int .i64 A1) ∧ x.cell? ⟨w3.heap.size, 2, none⟩ = some (.int .i64 A3) ∧ x.cell? ⟨w4.heap.size, 0, none⟩ = some (.int .i64 B1) ∧ x.cell? ⟨w4.heap.size, 2, none⟩ = some (.int .i64 B3) ∧ x.cell? ⟨w5.heap.size, 0, none⟩ = some (.int .i64 C1) ∧ x.cell? ⟨w5.heap.size, 2, none⟩ = some (.int .i64 C3) ∧ x.cell? ⟨w.heap.size, 0, none⟩ = some (.slice p1 xs.length c1) ∧ x.cell? ⟨w.heap.size, 1, none⟩ = some (.slice p2 ps.length c2)) (by kernel_rfl) ?_
  have HSS := hide (show ∀ x, Below W.heap.size W x → (fun x : World => x.cell? ⟨w3.heap.size, 0, none⟩ = some (.int .i64 A1) ∧ x.cell? ⟨w3.heap.size, 2, none⟩ = some (.int .i64 A3) ∧ x.cell? ⟨w4.heap.size, 0, none⟩ = some (.int .i64 B1) ∧ x.cell? ⟨w4.heap.size, 2, none⟩ = some (.int .i64 B3) ∧ x.cell? ⟨w5.heap.size, 0, none⟩ = some (.int .i64 C1) ∧ x.cell? ⟨w5.heap.size, 2, none⟩ = some (.int .i64 C3) ∧ x.cell? ⟨w.heap.size, 0, none⟩ = some (.slice p1 xs.length c1) ∧ x.cell? ⟨w.heap.size, 1, none⟩ = some (.slice p2 ps.length c2)) x from fun x h => ⟨(Row.after h HGW.out).cell 0, (Row.after h HGW.out).cell 2, (Row.after h HSW.out).cell 0, (Row.after h HSW.out).cell 2, (Row.after h HZW.out).cell 0, (Row.after h HZW.out).cell 2, (Row.after h HDW.out).cell 0, (Row.after h HDW.out).cell 1⟩)
  have HS := hide (HSS.out { W with drawn := W.drawn + 1 } (Below.refl _ _).drew)
  refine wpAnyH_take (i := 0) (oi := _) (v := .pointer (some ⟨w3.heap.size, 2, none⟩)) rfl (by kernel_rfl) (by kernel_rfl) (by kernel_rfl) (fun _ _ _ h => h) (Or.inl ⟨by rfl, by intro w hSw; go_split_ands; go_simp⟩) HS.out ?_
  simp only [Act.put, List.getElem_toArray, List.getElem_cons_zero, List.setIfInBounds_toArray, List.set_cons_zero, List.set_cons_succ]
  refine wpAnyH_take (i := 1) (oi := _) (v := .int .i64 A3) rfl (by kernel_rfl) (by kernel_rfl) (by kernel_rfl) (fun _ _ _ h => h) (Or.inl ⟨by rfl, by intro w hSw; go_split_ands; go_simp⟩) HS.out ?_
  simp only [Act.put, List.getElem_toArray, List.getElem_cons_zero, List.getElem_cons_succ, List.setIfInBounds_toArray, List.set_cons_zero, List.set_cons_succ]
  refine wpAnyH_take (i := 2) (oi := _) (v := .bool false) rfl (by kernel_rfl) (by kernel_rfl) (by kernel_rfl) (fun _ _ _ h => h) (Or.inl ⟨by rfl, by intro w hSw; go_split_ands; go_simp⟩) HS.out ?_
  simp only [Act.put, List.getElem_toArray, List.getElem_cons_zero, List.getElem_cons_succ, List.setIfInBounds_toArray, List.set_cons_zero, List.set_cons_succ]
  refine wpAnyH_take (i := 3) (oi := _) (v := .bool false) rfl (by kernel_rfl) (by kernel_rfl) (by kernel_rfl) (fun _ _ _ h => h) (Or.inl ⟨by rfl, by intro w hSw; go_split_ands; go_simp⟩) HS.out ?_
  simp only [Act.put, List.getElem_toArray, List.getElem_cons_zero, List.getElem_cons_succ, List.setIfInBounds_toArray, List.set_cons_zero, List.set_cons_succ]
  refine wpAnyH_take (i := 4) (oi := _) (v := .pointer (some ⟨w4.heap.size, 2, none⟩)) rfl (by kernel_rfl) (by kernel_rfl) (by kernel_rfl) (fun _ _ _ h => h) (Or.inl ⟨by rfl, by intro w hSw; go_split_ands; go_simp⟩) HS.out ?_
  simp only [Act.put, List.getElem_toArray, List.getElem_cons_zero, List.getElem_cons_succ, List.setIfInBounds_toArray, List.set_cons_zero, List.set_cons_succ]
  refine wpAnyH_take (i := 5) (oi := _) (v := .int .i64 B3) rfl (by kernel_rfl) (by kernel_rfl) (by kernel_rfl) (fun _ _ _ h => h) (Or.inl ⟨by rfl, by intro w hSw; go_split_ands; go_simp⟩) HS.out ?_
  simp only [Act.put, List.getElem_toArray, List.getElem_cons_zero, List.getElem_cons_succ, List.setIfInBounds_toArray, List.set_cons_zero, List.set_cons_succ]
  refine wpAnyH_take (i := 6) (oi := _) (v := .bool false) rfl (by kernel_rfl) (by kernel_rfl) (by kernel_rfl) (fun _ _ _ h => h) (Or.inl ⟨by rfl, by intro w hSw; go_split_ands; go_simp⟩) HS.out ?_
  simp only [Act.put, List.getElem_toArray, List.getElem_cons_zero, List.getElem_cons_succ, List.setIfInBounds_toArray, List.set_cons_zero, List.set_cons_succ]
  refine wpAnyH_take (i := 7) (oi := _) (v := .bool false) rfl (by kernel_rfl) (by kernel_rfl) (by kernel_rfl) (fun _ _ _ h => h) (Or.inl ⟨by rfl, by intro w hSw; go_split_ands; go_simp⟩) HS.out ?_
  simp only [Act.put, List.getElem_toArray, List.getElem_cons_zero, List.getElem_cons_succ, List.setIfInBounds_toArray, List.set_cons_zero, List.set_cons_succ]
  refine wpAnyH_take (i := 8) (oi := _) (v := .bool false) rfl (by kernel_rfl) (by kernel_rfl) (by kernel_rfl) (fun _ _ _ h => h) (Or.inl ⟨by rfl, by intro w hSw; go_split_ands; go_simp⟩) HS.out ?_
  simp only [Act.put, List.getElem_toArray, List.getElem_cons_zero, List.getElem_cons_succ, List.setIfInBounds_toArray, List.set_cons_zero, List.set_cons_succ]
  refine wpAnyH_take (i := 9) (oi := _) (v := .pointer (some ⟨w5.heap.size, 2, none⟩)) rfl (by kernel_rfl) (by kernel_rfl) (by kernel_rfl) (fun _ _ _ h => h) (Or.inl ⟨by rfl, by intro w hSw; go_split_ands; go_simp⟩) HS.out ?_
  simp only [Act.put, List.getElem_toArray, List.getElem_cons_zero, List.getElem_cons_succ, List.setIfInBounds_toArray, List.set_cons_zero, List.set_cons_succ]
  refine wpAnyH_take (i := 10) (oi := _) (v := .int .i64 C3) rfl (by kernel_rfl) (by kernel_rfl) (by kernel_rfl) (fun _ _ _ h => h) (Or.inl ⟨by rfl, by intro w hSw; go_split_ands; go_simp⟩) HS.out ?_
  simp only [Act.put, List.getElem_toArray, List.getElem_cons_zero, List.getElem_cons_succ, List.setIfInBounds_toArray, List.set_cons_zero, List.set_cons_succ]
  refine wpAnyH_take (i := 11) (oi := _) (v := .bool true) rfl (by kernel_rfl) (by kernel_rfl) (by kernel_rfl) (fun _ _ _ h => h) (Or.inl ⟨by rfl, by intro w hSw; go_split_ands; go_simp⟩) HS.out ?_
  simp only [Act.put, List.getElem_toArray, List.getElem_cons_zero, List.getElem_cons_succ, List.setIfInBounds_toArray, List.set_cons_zero, List.set_cons_succ]
  refine wpAnyH_take (i := 12) (oi := _) (v := .bool true) rfl (by kernel_rfl) (by kernel_rfl) (by kernel_rfl) (fun _ _ _ h => h) (Or.inl ⟨by rfl, by intro w hSw; go_split_ands; go_simp⟩) HS.out ?_
  simp only [Act.put, List.getElem_toArray, List.getElem_cons_zero, List.getElem_cons_succ, List.setIfInBounds_toArray, List.set_cons_zero, List.set_cons_succ]
  refine wpAnyH_take (i := 13) (oi := _) (v := .bool true) rfl (by kernel_rfl) (by kernel_rfl) (by kernel_rfl) (fun _ _ _ h => h) (Or.inl ⟨by rfl, by intro w hSw; go_split_ands; go_simp⟩) HS.out ?_
  simp only [Act.put, List.getElem_toArray, List.getElem_cons_zero, List.getElem_cons_succ, List.setIfInBounds_toArray, List.set_cons_zero, List.set_cons_succ]
  refine wpAnyH_take (i := 14) (oi := _) (v := undef) rfl (by kernel_rfl) (by kernel_rfl) (by kernel_rfl) (fun _ _ _ h => h) (Or.inr ⟨by rfl, rfl⟩) HS.out ?_
  simp only [Act.put, List.getElem_toArray, List.getElem_cons_zero, List.getElem_cons_succ, List.setIfInBounds_toArray, List.set_cons_zero, List.set_cons_succ]
  refine wpAnyH_take (i := 15) (oi := _) (v := undef) rfl (by kernel_rfl) (by kernel_rfl) (by kernel_rfl) (fun _ _ _ h => h) (Or.inr ⟨by rfl, rfl⟩) HS.out ?_
  simp only [Act.put, List.getElem_toArray, List.getElem_cons_zero, List.getElem_cons_succ, List.setIfInBounds_toArray, List.set_cons_zero, List.set_cons_succ]
  refine wpAnyH_take (i := 16) (oi := _) (v := undef) rfl (by kernel_rfl) (by kernel_rfl) (by kernel_rfl) (fun _ _ _ h => h) (Or.inr ⟨by rfl, rfl⟩) HS.out ?_
  simp only [Act.put, List.getElem_toArray, List.getElem_cons_zero, List.getElem_cons_succ, List.setIfInBounds_toArray, List.set_cons_zero, List.set_cons_succ]
  refine wpAnyH_take (i := 17) (oi := _) (v := undef) rfl (by kernel_rfl) (by kernel_rfl) (by kernel_rfl) (fun _ _ _ h => h) (Or.inr ⟨by rfl, rfl⟩) HS.out ?_
  simp only [Act.put, List.getElem_toArray, List.getElem_cons_zero, List.getElem_cons_succ, List.setIfInBounds_toArray, List.set_cons_zero, List.set_cons_succ]
  refine wpAnyH_take (i := 18) (oi := _) (v := undef) rfl (by kernel_rfl) (by kernel_rfl) (by kernel_rfl) (fun _ _ _ h => h) (Or.inr ⟨by rfl, rfl⟩) HS.out ?_
  simp only [Act.put, List.getElem_toArray, List.getElem_cons_zero, List.getElem_cons_succ, List.setIfInBounds_toArray, List.set_cons_zero, List.set_cons_succ]
  refine wpAnyH_take (i := 19) (oi := _) (v := undef) rfl (by kernel_rfl) (by kernel_rfl) (by kernel_rfl) (fun _ _ _ h => h) (Or.inr ⟨by rfl, rfl⟩) HS.out ?_
  simp only [Act.put, List.getElem_toArray, List.getElem_cons_zero, List.getElem_cons_succ, List.setIfInBounds_toArray, List.set_cons_zero, List.set_cons_succ]
  refine wpAnyH_take (i := 20) (oi := _) (v := undef) rfl (by kernel_rfl) (by kernel_rfl) (by kernel_rfl) (fun _ _ _ h => h) (Or.inr ⟨by rfl, rfl⟩) HS.out ?_
  simp only [Act.put, List.getElem_toArray, List.getElem_cons_zero, List.getElem_cons_succ, List.setIfInBounds_toArray, List.set_cons_zero, List.set_cons_succ]
  refine wpAnyH_take (i := 21) (oi := _) (v := undef) rfl (by kernel_rfl) (by kernel_rfl) (by kernel_rfl) (fun _ _ _ h => h) (Or.inr ⟨by rfl, rfl⟩) HS.out ?_
  simp only [Act.put, List.getElem_toArray, List.getElem_cons_zero, List.getElem_cons_succ, List.setIfInBounds_toArray, List.set_cons_zero, List.set_cons_succ]
  refine wpAnyH_take (i := 22) (oi := _) (v := undef) rfl (by kernel_rfl) (by kernel_rfl) (by kernel_rfl) (fun _ _ _ h => h) (Or.inr ⟨by rfl, rfl⟩) HS.out ?_
  simp only [Act.put, List.getElem_toArray, List.getElem_cons_zero, List.getElem_cons_succ, List.setIfInBounds_toArray, List.set_cons_zero, List.set_cons_succ]
  refine wpAnyH_take (i := 23) (oi := _) (v := undef) rfl (by kernel_rfl) (by kernel_rfl) (by kernel_rfl) (fun _ _ _ h => h) (Or.inr ⟨by rfl, rfl⟩) HS.out ?_
  simp only [Act.put, List.getElem_toArray, List.getElem_cons_zero, List.getElem_cons_succ, List.setIfInBounds_toArray, List.set_cons_zero, List.set_cons_succ]
  refine wpAnyH_take (i := 24) (oi := _) (v := undef) rfl (by kernel_rfl) (by kernel_rfl) (by kernel_rfl) (fun _ _ _ h => h) (Or.inr ⟨by rfl, rfl⟩) HS.out ?_
  simp only [Act.put, List.getElem_toArray, List.getElem_cons_zero, List.getElem_cons_succ, List.setIfInBounds_toArray, List.set_cons_zero, List.set_cons_succ]
  refine wpAnyH_take (i := 25) (oi := _) (v := .bool true) rfl (by kernel_rfl) (by kernel_rfl) (by kernel_rfl) (fun _ _ _ h => h) (Or.inl ⟨by rfl, by intro w hSw; go_split_ands; go_simp⟩) HS.out ?_
  simp only [Act.put, List.getElem_toArray, List.getElem_cons_zero, List.getElem_cons_succ, List.setIfInBounds_toArray, List.set_cons_zero, List.set_cons_succ]
  refine wpAnyH_take (i := 26) (oi := _) (v := .bool true) rfl (by kernel_rfl) (by kernel_rfl) (by kernel_rfl) (fun _ _ _ h => h) (Or.inl ⟨by rfl, by intro w hSw; go_split_ands; go_simp⟩) HS.out ?_
  simp only [Act.put, List.getElem_toArray, List.getElem_cons_zero, List.getElem_cons_succ, List.setIfInBounds_toArray, List.set_cons_zero, List.set_cons_succ]
  refine wpAnyH_take (i := 27) (oi := _) (v := undef) rfl (by kernel_rfl) (by kernel_rfl) (by kernel_rfl) (fun _ _ _ h => h) (Or.inr ⟨by rfl, rfl⟩) HS.out ?_
  simp only [Act.put, List.getElem_toArray, List.getElem_cons_zero, List.getElem_cons_succ, List.setIfInBounds_toArray, List.set_cons_zero, List.set_cons_succ]
  refine wpAnyH_take (i := 28) (oi := _) (v := undef) rfl (by kernel_rfl) (by kernel_rfl) (by kernel_rfl) (fun _ _ _ h => h) (Or.inr ⟨by rfl, rfl⟩) HS.out ?_
  simp only [Act.put, List.getElem_toArray, List.getElem_cons_zero, List.getElem_cons_succ, List.setIfInBounds_toArray, List.set_cons_zero, List.set_cons_succ]
  refine wpAnyH_take (i := 29) (oi := _) (v := undef) rfl (by kernel_rfl) (by kernel_rfl) (by kernel_rfl) (fun _ _ _ h => h) (Or.inr ⟨by rfl, rfl⟩) HS.out ?_
  simp only [Act.put, List.getElem_toArray, List.getElem_cons_zero, List.getElem_cons_succ, List.setIfInBounds_toArray, List.set_cons_zero, List.set_cons_succ]
  refine wpAnyH_take (i := 30) (oi := _) (v := .bool true) rfl (by kernel_rfl) (by kernel_rfl) (by kernel_rfl) (fun _ _ _ h => h) (Or.inl ⟨by rfl, by intro w hSw; go_split_ands; go_simp⟩) HS.out ?_
  simp only [Act.put, List.getElem_toArray, List.getElem_cons_zero, List.getElem_cons_succ, List.setIfInBounds_toArray, List.set_cons_zero, List.set_cons_succ]
  refine wpAnyH_take (i := 31) (oi := _) (v := .bool true) rfl (by kernel_rfl) (by kernel_rfl) (by kernel_rfl) (fun _ _ _ h => h) (Or.inl ⟨by rfl, by intro w hSw; go_split_ands; go_simp⟩) HS.out ?_
  simp only [Act.put, List.getElem_toArray, List.getElem_cons_zero, List.getElem_cons_succ, List.setIfInBounds_toArray, List.set_cons_zero, List.set_cons_succ]
  refine wpAnyH_take (i := 32) (oi := _) (v := undef) rfl (by kernel_rfl) (by kernel_rfl) (by kernel_rfl) (fun _ _ _ h => h) (Or.inr ⟨by rfl, rfl⟩) HS.out ?_
  simp only [Act.put, List.getElem_toArray, List.getElem_cons_zero, List.getElem_cons_succ, List.setIfInBounds_toArray, List.set_cons_zero, List.set_cons_succ]
  refine wpAnyH_take (i := 33) (oi := _) (v := undef) rfl (by kernel_rfl) (by kernel_rfl) (by kernel_rfl) (fun _ _ _ h => h) (Or.inr ⟨by rfl, rfl⟩) HS.out ?_
  simp only [Act.put, List.getElem_toArray, List.getElem_cons_zero, List.getElem_cons_succ, List.setIfInBounds_toArray, List.set_cons_zero, List.set_cons_succ]
  refine wpAnyH_take (i := 34) (oi := _) (v := undef) rfl (by kernel_rfl) (by kernel_rfl) (by kernel_rfl) (fun _ _ _ h => h) (Or.inr ⟨by rfl, rfl⟩) HS.out ?_
  simp only [Act.put, List.getElem_toArray, List.getElem_cons_zero, List.getElem_cons_succ, List.setIfInBounds_toArray, List.set_cons_zero, List.set_cons_succ]
  refine wpAnyH_take (i := 35) (oi := _) (v := undef) rfl (by kernel_rfl) (by kernel_rfl) (by kernel_rfl) (fun _ _ _ h => h) (Or.inr ⟨by rfl, rfl⟩) HS.out ?_
  simp only [Act.put, List.getElem_toArray, List.getElem_cons_zero, List.getElem_cons_succ, List.setIfInBounds_toArray, List.set_cons_zero, List.set_cons_succ]
  refine wpAnyH_take (i := 36) (oi := _) (v := .bool true) rfl (by kernel_rfl) (by kernel_rfl) (by kernel_rfl) (fun _ _ _ h => h) (Or.inl ⟨by rfl, by intro w hSw; go_split_ands; go_simp⟩) HS.out ?_
  simp only [Act.put, List.getElem_toArray, List.getElem_cons_zero, List.getElem_cons_succ, List.setIfInBounds_toArray, List.set_cons_zero, List.set_cons_succ]
  refine wpAnyH_take (i := 37) (oi := _) (v := .bool true) rfl (by kernel_rfl) (by kernel_rfl) (by kernel_rfl) (fun _ _ _ h => h) (Or.inl ⟨by rfl, by intro w hSw; go_split_ands; go_simp⟩) HS.out ?_
  simp only [Act.put, List.getElem_toArray, List.getElem_cons_zero, List.getElem_cons_succ, List.setIfInBounds_toArray, List.set_cons_zero, List.set_cons_succ]
  refine wpAnyH_take (i := 38) (oi := _) (v := undef) rfl (by kernel_rfl) (by kernel_rfl) (by kernel_rfl) (fun _ _ _ h => h) (Or.inr ⟨by rfl, rfl⟩) HS.out ?_
  simp only [Act.put, List.getElem_toArray, List.getElem_cons_zero, List.getElem_cons_succ, List.setIfInBounds_toArray, List.set_cons_zero, List.set_cons_succ]
  refine wpAnyH_take (i := 39) (oi := _) (v := undef) rfl (by kernel_rfl) (by kernel_rfl) (by kernel_rfl) (fun _ _ _ h => h) (Or.inr ⟨by rfl, rfl⟩) HS.out ?_
  simp only [Act.put, List.getElem_toArray, List.getElem_cons_zero, List.getElem_cons_succ, List.setIfInBounds_toArray, List.set_cons_zero, List.set_cons_succ]
  refine wpAnyH_take (i := 40) (oi := _) (v := undef) rfl (by kernel_rfl) (by kernel_rfl) (by kernel_rfl) (fun _ _ _ h => h) (Or.inr ⟨by rfl, rfl⟩) HS.out ?_
  simp only [Act.put, List.getElem_toArray, List.getElem_cons_zero, List.getElem_cons_succ, List.setIfInBounds_toArray, List.set_cons_zero, List.set_cons_succ]
  refine wpAnyH_take (i := 41) (oi := _) (v := undef) rfl (by kernel_rfl) (by kernel_rfl) (by kernel_rfl) (fun _ _ _ h => h) (Or.inr ⟨by rfl, rfl⟩) HS.out ?_
  simp only [Act.put, List.getElem_toArray, List.getElem_cons_zero, List.getElem_cons_succ, List.setIfInBounds_toArray, List.set_cons_zero, List.set_cons_succ]
  refine wpAnyH_take (i := 42) (oi := _) (v := undef) rfl (by kernel_rfl) (by kernel_rfl) (by kernel_rfl) (fun _ _ _ h => h) (Or.inr ⟨by rfl, rfl⟩) HS.out ?_
  simp only [Act.put, List.getElem_toArray, List.getElem_cons_zero, List.getElem_cons_succ, List.setIfInBounds_toArray, List.set_cons_zero, List.set_cons_succ]
  refine wpAnyH_take (i := 43) (oi := _) (v := undef) rfl (by kernel_rfl) (by kernel_rfl) (by kernel_rfl) (fun _ _ _ h => h) (Or.inr ⟨by rfl, rfl⟩) HS.out ?_
  simp only [Act.put, List.getElem_toArray, List.getElem_cons_zero, List.getElem_cons_succ, List.setIfInBounds_toArray, List.set_cons_zero, List.set_cons_succ]
  refine wpAnyH_take (i := 44) (oi := _) (v := undef) rfl (by kernel_rfl) (by kernel_rfl) (by kernel_rfl) (fun _ _ _ h => h) (Or.inr ⟨by rfl, rfl⟩) HS.out ?_
  simp only [Act.put, List.getElem_toArray, List.getElem_cons_zero, List.getElem_cons_succ, List.setIfInBounds_toArray, List.set_cons_zero, List.set_cons_succ]
  refine wpAnyH_take (i := 45) (oi := _) (v := .bool true) rfl (by kernel_rfl) (by kernel_rfl) (by kernel_rfl) (fun _ _ _ h => h) (Or.inl ⟨by rfl, by intro w hSw; go_split_ands; go_simp⟩) HS.out ?_
  simp only [Act.put, List.getElem_toArray, List.getElem_cons_zero, List.getElem_cons_succ, List.setIfInBounds_toArray, List.set_cons_zero, List.set_cons_succ]
  refine wpAnyH_done (by kernel_rfl) ?_ _
  clear HSS HS
  go_wp2
  exact bodyPost_ret (v := .tuple #[.int .i64 0, .int .i64 0, .int .i64 0, .int .i64 3]) (by simp [results, Tryz.results67, go_sem]) rfl ⟨rfl, HBW.out.drew⟩
end Go.Proofs.YtnpbmaajgiapmaaGreatDoor
/- What is held of a world stays when new memory is made: facts gone on with at one stroke. -/
namespace Go.Proofs.YtnpbmaajgiapmaaGreatDoor
open Go.RowKit

class Stab (P : World → Prop) : Prop where
  go : ∀ {w w' : World}, Below w.heap.size w w' → P w → P w'
instance stab_and (P Q : World → Prop) [Stab P] [Stab Q] : Stab (fun w => P w ∧ Q w) := ⟨fun hb h => ⟨Stab.go hb h.1, Stab.go hb h.2⟩⟩
instance stab_reads (v : Value) (xs : List ByteArray) : Stab (fun w => Reads w v xs) := ⟨fun hb h => h.below hb (Nat.le_refl _)⟩
instance stab_readsP (v : Value) (ps : List (Int × ByteArray)) : Stab (fun w => ReadsP w v ps) := ⟨fun hb h => h.below hb (Nat.le_refl _)⟩
instance stab_ownS (T : TypeId) (B : Nat) (v : Value) (xs : List ByteArray) : Stab (fun w => OwnS T B w v xs) := ⟨fun hb h => h.below hb (Nat.le_refl _)⟩
instance stab_ownP (T : TypeId) (B : Nat) (v : Value) (ps : List (Int × ByteArray)) : Stab (fun w => OwnP T B w v ps) := ⟨fun hb h => h.below hb (Nat.le_refl _)⟩
instance stab_row (g : Nat) (T : TypeId) (cs : List Value) : Stab (fun w => Row w g T cs) := ⟨fun hb h => Row.after hb h⟩
instance stab_below (w0 : World) : Stab (fun w => Below w0.heap.size w0 w) := ⟨fun hb h => h.trans (hb.mono h.size)⟩
instance stab_le (k : Nat) : Stab (fun w => k ≤ w.heap.size) := ⟨fun hb h => Nat.le_trans h hb.size⟩
theorem below_new (w : World) (o : Obj) : Below w.heap.size w (w.alloc o) := (Below.refl _ _).alloc (Nat.le_refl _) _

/-- What the slice v leads to lies from block lo on, ahead of block hi. -/
def In (v : Value) (lo hi : Nat) : Prop := ∀ x ∈ leads v, lo ≤ x ∧ x < hi
theorem OwnS.isIn {T : TypeId} {B : Nat} {w : World} {v : Value} {xs : List ByteArray} (h : OwnS T B w v xs) : In v B w.heap.size := h.leads
theorem OwnP.isIn {T : TypeId} {B : Nat} {w : World} {v : Value} {xs : List (Int × ByteArray)} (h : OwnP T B w v xs) : In v B w.heap.size := h.leads
theorem Reads.isIn {w : World} {v : Value} {xs : List ByteArray} (h : Reads w v xs) : In v 0 w.heap.size := fun x hx => ⟨Nat.zero_le _, h.leads x hx⟩
theorem ReadsP.isIn {w : World} {v : Value} {xs : List (Int × ByteArray)} (h : ReadsP w v xs) : In v 0 w.heap.size := fun x hx => ⟨Nat.zero_le _, h.leads x hx⟩
theorem In.apart {v a b : Value} {lo hi lo2 hi2 : Nat} (h1 : In v lo hi) (h2 : In a lo2 hi2) (h3 : In b lo2 hi2) (h : hi ≤ lo2 ∨ hi2 ≤ lo) : ∀ x ∈ leads v, x ∉ leads a ++ leads b := by
  intro x hx hm
  have := h1 x hx
  rcases List.mem_append.1 hm with h' | h'
  · have := h2 x h'; omega
  · have := h3 x h'; omega
theorem In.far {g : Nat} {a b : Value} {lo2 hi2 : Nat} (h2 : In a lo2 hi2) (h3 : In b lo2 hi2) (h : g < lo2 ∨ hi2 ≤ g) : g ∉ leads a ++ leads b := by
  intro hm
  rcases List.mem_append.1 hm with h' | h'
  · have := h2 g h'; omega
  · have := h3 g h'; omega
theorem In.all {a b : Value} {lo hi : Nat} (h2 : In a lo hi) (h3 : In b lo hi) : ∀ x ∈ leads a ++ leads b, lo ≤ x := by
  intro x hm
  rcases List.mem_append.1 hm with h' | h'
  · exact (h2 x h').1
  · exact (h3 x h').1
theorem Kept.onBelow {S : List Nat} {w0 w w' : World} (h : Kept S w w') (hb : Below w0.heap.size w0 w) (hS : ∀ x ∈ S, w0.heap.size ≤ x) : Below w0.heap.size w0 w' := h.toBelow hb hb.size hS
theorem OwnS.isSlice {T : TypeId} {B : Nat} {w : World} {v : Value} {xs : List ByteArray} (h : OwnS T B w v xs) : ∃ p n c, v = .slice p n c := by obtain ⟨p, c, e, _⟩ := h.reads; exact ⟨_, _, _, e⟩
theorem OwnP.isSlice {T : TypeId} {B : Nat} {w : World} {v : Value} {xs : List (Int × ByteArray)} (h : OwnP T B w v xs) : ∃ p n c, v = .slice p n c := by obtain ⟨p, c, e, _⟩ := h.reads; exact ⟨_, _, _, e⟩
end Go.Proofs.YtnpbmaajgiapmaaGreatDoor
