/- DiskWrite, as the specification does it. -/
import Derived.Test.YtnpbmaajgiapmaaGreatDoorXG13SCopy
namespace Go.Proofs.YtnpbmaajgiapmaaGreatDoor
open Go.RowKit

def writeOut (xs : List ByteArray) (ps : List (Int × ByteArray)) (a : Int) (d : ByteArray) : Out :=
  if 8000 < d.size then illOut 2 else if right xs ps = false ∨ 64 < d.size then illOut 1 else if 0 ≤ a ∧ a ≤ (xs.length : Int) - 1 then (if 200 ≤ ps.length then illOut 9 else ⟨xs, ps ++ [(a, d)], ⟨#[]⟩, 0⟩) else illOut 8

set_option maxRecDepth 100000 in
set_option maxHeartbeats 4000000 in
theorem specWrite_size (vs vp : Value) (xs : List ByteArray) (ps : List (Int × ByteArray)) (a : Int) (d : ByteArray) (w : World) (hd : d.size ≤ 1048576) (hr : Reads w vs xs) (hp : ReadsP w vp ps) (hz : 8000 < d.size) :
    Calls Tryz.prog 69 #[.agg #[vs, vp], .int .i64 a, .string d] w fun e w' => OutIs w.heap.size e w' (illOut 2) ∧ Below w.heap.size w w' := by
  have t1 : (8000 : Int) < (d.size : Int) := by omega
  have hb0 : Below w.heap.size w ((w.alloc (.cells #[vs, vp] 30)).alloc (.cells #[.slice none 0 0, .slice none 0 0, .string ⟨#[]⟩, .int .i64 0] 101)) :=
    ((Below.refl _ _).alloc (Nat.le_refl _) _).alloc (by simp) _
  have HR := hide (hr.below hb0 (Nat.le_refl _))
  have HP := hide (hp.below hb0 (Nat.le_refl _))
  have HB0 := hide hb0
  obtain ⟨p1, c1, rfl, hq⟩ := hr
  obtain ⟨p2, c2, rfl, hq2⟩ := hp
  have R0 := (row_new w [.slice p1 xs.length c1, .slice p2 ps.length c2] 30).alloc (.cells #[.slice none 0 0, .slice none 0 0, .string ⟨#[]⟩, .int .i64 0] 101)
  have R1 := row_new (w.alloc (.cells #[.slice p1 xs.length c1, .slice p2 ps.length c2] 30)) [.slice none 0 0, .slice none 0 0, .string ⟨#[]⟩, .int .i64 0] 101
  simp only [World.size_alloc] at R1
  have HR0 := hide R0
  have HR1 := hide R1
  clear hb0 hq hq2 R1 R0
  go_enter Tryz.func69, Tryz.ntmps69
  go_wp2_with fail
  refine (l02Ill_any _ _).mono ?_
  rintro e w2 ⟨rfl, hb2⟩
  have R3 := HR1.out.below hb2 HR1.out.lt
  have HB2 := hide (HB0.out.trans (hb2.mono HB0.out.size))
  have c0 : w2.cell? ⟨w.heap.size + 1, 0, none⟩ = some (.slice none 0 0) := R3.cell 0
  have c1' : w2.cell? ⟨w.heap.size + 1, 1, none⟩ = some (.slice none 0 0) := R3.cell 1
  have c2' : w2.cell? ⟨w.heap.size + 1, 2, none⟩ = some (.string ⟨#[]⟩) := R3.cell 2
  have c3 : w2.cell? ⟨w.heap.size + 1, 3, none⟩ = some (.int .i64 0) := R3.cell 3
  have f0 := R3.free 0
  have f1 := R3.free 1
  have f2 := R3.free 2
  have f3 := R3.free 3
  have HR3 := hide R3
  clear hb2 R3
  go_wp2
  obtain ⟨q0, q1, q2, q3, KF⟩ := four HR3.out (.slice none 0 0) (.slice none 0 0) (.string ⟨#[]⟩) (.int .i64 2)
  exact bodyPost_ret (v := .agg #[.slice none 0 0, .slice none 0 0, .string ⟨#[]⟩, .int .i64 2]) (by simp [results, Tryz.results69, go_sem, q0, q1, q2, q3]) rfl
    ⟨⟨_, _, rfl, OwnS.none _ _ _, OwnP.none _ _ _, fun _ h => by cases h⟩, KF.toBelow HB2.out HB2.out.size (by simp)⟩

set_option maxRecDepth 100000 in
set_option maxHeartbeats 4000000 in
theorem specWrite_ill (vs vp : Value) (xs : List ByteArray) (ps : List (Int × ByteArray)) (a : Int) (d : ByteArray) (w : World) (hn : xs.length ≤ 1048576) (hn2 : ps.length ≤ 1048576) (hd : d.size ≤ 1048576) (hr : Reads w vs xs) (hp : ReadsP w vp ps) (hz : d.size ≤ 8000) (hok : right xs ps = false) :
    Calls Tryz.prog 69 #[.agg #[vs, vp], .int .i64 a, .string d] w fun e w' => OutIs w.heap.size e w' (illOut 1) ∧ Below w.heap.size w w' := by
  have t1 : ¬ (8000 : Int) < (d.size : Int) := by omega
  have hb0 : Below w.heap.size w ((w.alloc (.cells #[vs, vp] 30)).alloc (.cells #[.slice none 0 0, .slice none 0 0, .string ⟨#[]⟩, .int .i64 0] 101)) :=
    ((Below.refl _ _).alloc (Nat.le_refl _) _).alloc (by simp) _
  have HR := hide (hr.below hb0 (Nat.le_refl _))
  have HP := hide (hp.below hb0 (Nat.le_refl _))
  have HB0 := hide hb0
  obtain ⟨p1, c1, rfl, hq⟩ := hr
  obtain ⟨p2, c2, rfl, hq2⟩ := hp
  have R0 := (row_new w [.slice p1 xs.length c1, .slice p2 ps.length c2] 30).alloc (.cells #[.slice none 0 0, .slice none 0 0, .string ⟨#[]⟩, .int .i64 0] 101)
  have R1 := row_new (w.alloc (.cells #[.slice p1 xs.length c1, .slice p2 ps.length c2] 30)) [.slice none 0 0, .slice none 0 0, .string ⟨#[]⟩, .int .i64 0] 101
  simp only [World.size_alloc] at R1
  have HR0 := hide R0
  have HR1 := hide R1
  clear hb0 hq hq2 R1 R0
  go_enter Tryz.func69, Tryz.ntmps69
  go_wp2_with fail
  refine (specRight_any _ _ xs ps _ hn hn2 HR.out HP.out).mono ?_
  rw [hok]
  rintro e w1 ⟨rfl, hb1⟩
  have HB1 := hide (HB0.out.trans (hb1.mono HB0.out.size))
  have HX1 := hide (HR1.out.below hb1 (by simp))
  have HX0 := hide (HR0.out.below hb1 (by simp; omega))
  have HRa := hide (HR.out.below hb1 (Nat.le_refl _))
  have HPa := hide (HP.out.below hb1 (Nat.le_refl _))
  have a0 : w1.cell? ⟨w.heap.size, 0, none⟩ = some (.slice p1 xs.length c1) := HX0.out.cell 0
  have a1 : w1.cell? ⟨w.heap.size, 1, none⟩ = some (.slice p2 ps.length c2) := HX0.out.cell 1
  have e1 : IntKind.i64.wrap ((xs.length : Int) - 1) = (xs.length : Int) - 1 := by rw [IntKind.wrap_i64]; omega
  clear hb1 HR HP HR0 HR1 HB0
  go_wp2_with fail
  refine (l02Ill_any _ _).mono ?_
  rintro e w2 ⟨rfl, hb2⟩
  have R3 := HX1.out.below hb2 HX1.out.lt
  have HB2 := hide (HB1.out.trans (hb2.mono HB1.out.size))
  have c0 : w2.cell? ⟨w.heap.size + 1, 0, none⟩ = some (.slice none 0 0) := R3.cell 0
  have c1' : w2.cell? ⟨w.heap.size + 1, 1, none⟩ = some (.slice none 0 0) := R3.cell 1
  have c2' : w2.cell? ⟨w.heap.size + 1, 2, none⟩ = some (.string ⟨#[]⟩) := R3.cell 2
  have c3 : w2.cell? ⟨w.heap.size + 1, 3, none⟩ = some (.int .i64 0) := R3.cell 3
  have f0 := R3.free 0
  have f1 := R3.free 1
  have f2 := R3.free 2
  have f3 := R3.free 3
  have HR3 := hide R3
  clear hb2 R3
  go_wp2
  obtain ⟨q0, q1, q2, q3, KF⟩ := four HR3.out (.slice none 0 0) (.slice none 0 0) (.string ⟨#[]⟩) (.int .i64 1)
  exact bodyPost_ret (v := .agg #[.slice none 0 0, .slice none 0 0, .string ⟨#[]⟩, .int .i64 1]) (by simp [results, Tryz.results69, go_sem, q0, q1, q2, q3]) rfl
    ⟨⟨_, _, rfl, OwnS.none _ _ _, OwnP.none _ _ _, fun _ h => by cases h⟩, KF.toBelow HB2.out HB2.out.size (by simp)⟩

set_option maxRecDepth 100000 in
set_option maxHeartbeats 4000000 in
theorem specWrite_long (vs vp : Value) (xs : List ByteArray) (ps : List (Int × ByteArray)) (a : Int) (d : ByteArray) (w : World) (hn : xs.length ≤ 1048576) (hn2 : ps.length ≤ 1048576) (hd : d.size ≤ 1048576) (hr : Reads w vs xs) (hp : ReadsP w vp ps) (hz : d.size ≤ 8000) (hok : right xs ps = true) (hl : 64 < d.size) :
    Calls Tryz.prog 69 #[.agg #[vs, vp], .int .i64 a, .string d] w fun e w' => OutIs w.heap.size e w' (illOut 1) ∧ Below w.heap.size w w' := by
  have t1 : ¬ (8000 : Int) < (d.size : Int) := by omega
  have t2 : (64 : Int) < (d.size : Int) := by omega
  have hb0 : Below w.heap.size w ((w.alloc (.cells #[vs, vp] 30)).alloc (.cells #[.slice none 0 0, .slice none 0 0, .string ⟨#[]⟩, .int .i64 0] 101)) :=
    ((Below.refl _ _).alloc (Nat.le_refl _) _).alloc (by simp) _
  have HR := hide (hr.below hb0 (Nat.le_refl _))
  have HP := hide (hp.below hb0 (Nat.le_refl _))
  have HB0 := hide hb0
  obtain ⟨p1, c1, rfl, hq⟩ := hr
  obtain ⟨p2, c2, rfl, hq2⟩ := hp
  have R0 := (row_new w [.slice p1 xs.length c1, .slice p2 ps.length c2] 30).alloc (.cells #[.slice none 0 0, .slice none 0 0, .string ⟨#[]⟩, .int .i64 0] 101)
  have R1 := row_new (w.alloc (.cells #[.slice p1 xs.length c1, .slice p2 ps.length c2] 30)) [.slice none 0 0, .slice none 0 0, .string ⟨#[]⟩, .int .i64 0] 101
  simp only [World.size_alloc] at R1
  have HR0 := hide R0
  have HR1 := hide R1
  clear hb0 hq hq2 R1 R0
  go_enter Tryz.func69, Tryz.ntmps69
  go_wp2_with fail
  refine (specRight_any _ _ xs ps _ hn hn2 HR.out HP.out).mono ?_
  rw [hok]
  rintro e w1 ⟨rfl, hb1⟩
  have HB1 := hide (HB0.out.trans (hb1.mono HB0.out.size))
  have HX1 := hide (HR1.out.below hb1 (by simp))
  have HX0 := hide (HR0.out.below hb1 (by simp; omega))
  have HRa := hide (HR.out.below hb1 (Nat.le_refl _))
  have HPa := hide (HP.out.below hb1 (Nat.le_refl _))
  have a0 : w1.cell? ⟨w.heap.size, 0, none⟩ = some (.slice p1 xs.length c1) := HX0.out.cell 0
  have a1 : w1.cell? ⟨w.heap.size, 1, none⟩ = some (.slice p2 ps.length c2) := HX0.out.cell 1
  have e1 : IntKind.i64.wrap ((xs.length : Int) - 1) = (xs.length : Int) - 1 := by rw [IntKind.wrap_i64]; omega
  clear hb1 HR HP HR0 HR1 HB0
  go_wp2_with fail
  refine (l02Ill_any _ _).mono ?_
  rintro e w2 ⟨rfl, hb2⟩
  have R3 := HX1.out.below hb2 HX1.out.lt
  have HB2 := hide (HB1.out.trans (hb2.mono HB1.out.size))
  have c0 : w2.cell? ⟨w.heap.size + 1, 0, none⟩ = some (.slice none 0 0) := R3.cell 0
  have c1' : w2.cell? ⟨w.heap.size + 1, 1, none⟩ = some (.slice none 0 0) := R3.cell 1
  have c2' : w2.cell? ⟨w.heap.size + 1, 2, none⟩ = some (.string ⟨#[]⟩) := R3.cell 2
  have c3 : w2.cell? ⟨w.heap.size + 1, 3, none⟩ = some (.int .i64 0) := R3.cell 3
  have f0 := R3.free 0
  have f1 := R3.free 1
  have f2 := R3.free 2
  have f3 := R3.free 3
  have HR3 := hide R3
  clear hb2 R3
  go_wp2
  obtain ⟨q0, q1, q2, q3, KF⟩ := four HR3.out (.slice none 0 0) (.slice none 0 0) (.string ⟨#[]⟩) (.int .i64 1)
  exact bodyPost_ret (v := .agg #[.slice none 0 0, .slice none 0 0, .string ⟨#[]⟩, .int .i64 1]) (by simp [results, Tryz.results69, go_sem, q0, q1, q2, q3]) rfl
    ⟨⟨_, _, rfl, OwnS.none _ _ _, OwnP.none _ _ _, fun _ h => by cases h⟩, KF.toBelow HB2.out HB2.out.size (by simp)⟩

set_option maxRecDepth 100000 in
set_option maxHeartbeats 4000000 in
theorem specWrite_far (vs vp : Value) (xs : List ByteArray) (ps : List (Int × ByteArray)) (a : Int) (d : ByteArray) (w : World) (hn : xs.length ≤ 1048576) (hn2 : ps.length ≤ 1048576) (hd : d.size ≤ 1048576) (hr : Reads w vs xs) (hp : ReadsP w vp ps) (hl : d.size ≤ 64) (hok : right xs ps = true) (hfar : ¬ (0 ≤ a ∧ a ≤ (xs.length : Int) - 1)) :
    Calls Tryz.prog 69 #[.agg #[vs, vp], .int .i64 a, .string d] w fun e w' => OutIs w.heap.size e w' (illOut 8) ∧ Below w.heap.size w w' := by
  have t1 : ¬ (8000 : Int) < (d.size : Int) := by omega
  have t2 : ¬ (64 : Int) < (d.size : Int) := by omega
  have hb0 : Below w.heap.size w ((w.alloc (.cells #[vs, vp] 30)).alloc (.cells #[.slice none 0 0, .slice none 0 0, .string ⟨#[]⟩, .int .i64 0] 101)) :=
    ((Below.refl _ _).alloc (Nat.le_refl _) _).alloc (by simp) _
  have HR := hide (hr.below hb0 (Nat.le_refl _))
  have HP := hide (hp.below hb0 (Nat.le_refl _))
  have HB0 := hide hb0
  obtain ⟨p1, c1, rfl, hq⟩ := hr
  obtain ⟨p2, c2, rfl, hq2⟩ := hp
  have R0 := (row_new w [.slice p1 xs.length c1, .slice p2 ps.length c2] 30).alloc (.cells #[.slice none 0 0, .slice none 0 0, .string ⟨#[]⟩, .int .i64 0] 101)
  have R1 := row_new (w.alloc (.cells #[.slice p1 xs.length c1, .slice p2 ps.length c2] 30)) [.slice none 0 0, .slice none 0 0, .string ⟨#[]⟩, .int .i64 0] 101
  simp only [World.size_alloc] at R1
  have HR0 := hide R0
  have HR1 := hide R1
  clear hb0 hq hq2 R1 R0
  go_enter Tryz.func69, Tryz.ntmps69
  go_wp2_with fail
  refine (specRight_any _ _ xs ps _ hn hn2 HR.out HP.out).mono ?_
  rw [hok]
  rintro e w1 ⟨rfl, hb1⟩
  have HB1 := hide (HB0.out.trans (hb1.mono HB0.out.size))
  have HX1 := hide (HR1.out.below hb1 (by simp))
  have HX0 := hide (HR0.out.below hb1 (by simp; omega))
  have HRa := hide (HR.out.below hb1 (Nat.le_refl _))
  have HPa := hide (HP.out.below hb1 (Nat.le_refl _))
  have a0 : w1.cell? ⟨w.heap.size, 0, none⟩ = some (.slice p1 xs.length c1) := HX0.out.cell 0
  have a1 : w1.cell? ⟨w.heap.size, 1, none⟩ = some (.slice p2 ps.length c2) := HX0.out.cell 1
  have e1 : IntKind.i64.wrap ((xs.length : Int) - 1) = (xs.length : Int) - 1 := by rw [IntKind.wrap_i64]; omega
  clear hb1 HR HP HR0 HR1 HB0
  go_wp2_with fail
  refine (l02Is_no _ _ _ _ hfar).mono ?_
  rintro e w1' ⟨rfl, rfl⟩
  go_wp2_with fail
  refine (l02Ill_any _ _).mono ?_
  rintro e w2 ⟨rfl, hb2⟩
  have R3 := HX1.out.below hb2 HX1.out.lt
  have HB2 := hide (HB1.out.trans (hb2.mono HB1.out.size))
  have c0 : w2.cell? ⟨w.heap.size + 1, 0, none⟩ = some (.slice none 0 0) := R3.cell 0
  have c1' : w2.cell? ⟨w.heap.size + 1, 1, none⟩ = some (.slice none 0 0) := R3.cell 1
  have c2' : w2.cell? ⟨w.heap.size + 1, 2, none⟩ = some (.string ⟨#[]⟩) := R3.cell 2
  have c3 : w2.cell? ⟨w.heap.size + 1, 3, none⟩ = some (.int .i64 0) := R3.cell 3
  have f0 := R3.free 0
  have f1 := R3.free 1
  have f2 := R3.free 2
  have f3 := R3.free 3
  have HR3 := hide R3
  clear hb2 R3
  go_wp2
  obtain ⟨q0, q1, q2, q3, KF⟩ := four HR3.out (.slice none 0 0) (.slice none 0 0) (.string ⟨#[]⟩) (.int .i64 8)
  exact bodyPost_ret (v := .agg #[.slice none 0 0, .slice none 0 0, .string ⟨#[]⟩, .int .i64 8]) (by simp [results, Tryz.results69, go_sem, q0, q1, q2, q3]) rfl
    ⟨⟨_, _, rfl, OwnS.none _ _ _, OwnP.none _ _ _, fun _ h => by cases h⟩, KF.toBelow HB2.out HB2.out.size (by simp)⟩

set_option maxRecDepth 100000 in
set_option maxHeartbeats 4000000 in
theorem specWrite_full (vs vp : Value) (xs : List ByteArray) (ps : List (Int × ByteArray)) (a : Int) (d : ByteArray) (w : World) (hn : xs.length ≤ 1048576) (hn2 : ps.length ≤ 1048576) (hd : d.size ≤ 1048576) (hr : Reads w vs xs) (hp : ReadsP w vp ps) (hl : d.size ≤ 64) (hok : right xs ps = true) (hin : 0 ≤ a ∧ a ≤ (xs.length : Int) - 1) (hf : 200 ≤ ps.length) :
    Calls Tryz.prog 69 #[.agg #[vs, vp], .int .i64 a, .string d] w fun e w' => OutIs w.heap.size e w' (illOut 9) ∧ Below w.heap.size w w' := by
  have t1 : ¬ (8000 : Int) < (d.size : Int) := by omega
  have t2 : ¬ (64 : Int) < (d.size : Int) := by omega
  have t3 : (200 : Int) ≤ (ps.length : Int) := by omega
  have hb0 : Below w.heap.size w ((w.alloc (.cells #[vs, vp] 30)).alloc (.cells #[.slice none 0 0, .slice none 0 0, .string ⟨#[]⟩, .int .i64 0] 101)) :=
    ((Below.refl _ _).alloc (Nat.le_refl _) _).alloc (by simp) _
  have HR := hide (hr.below hb0 (Nat.le_refl _))
  have HP := hide (hp.below hb0 (Nat.le_refl _))
  have HB0 := hide hb0
  obtain ⟨p1, c1, rfl, hq⟩ := hr
  obtain ⟨p2, c2, rfl, hq2⟩ := hp
  have R0 := (row_new w [.slice p1 xs.length c1, .slice p2 ps.length c2] 30).alloc (.cells #[.slice none 0 0, .slice none 0 0, .string ⟨#[]⟩, .int .i64 0] 101)
  have R1 := row_new (w.alloc (.cells #[.slice p1 xs.length c1, .slice p2 ps.length c2] 30)) [.slice none 0 0, .slice none 0 0, .string ⟨#[]⟩, .int .i64 0] 101
  simp only [World.size_alloc] at R1
  have HR0 := hide R0
  have HR1 := hide R1
  clear hb0 hq hq2 R1 R0
  go_enter Tryz.func69, Tryz.ntmps69
  go_wp2_with fail
  refine (specRight_any _ _ xs ps _ hn hn2 HR.out HP.out).mono ?_
  rw [hok]
  rintro e w1 ⟨rfl, hb1⟩
  have HB1 := hide (HB0.out.trans (hb1.mono HB0.out.size))
  have HX1 := hide (HR1.out.below hb1 (by simp))
  have HX0 := hide (HR0.out.below hb1 (by simp; omega))
  have HRa := hide (HR.out.below hb1 (Nat.le_refl _))
  have HPa := hide (HP.out.below hb1 (Nat.le_refl _))
  have a0 : w1.cell? ⟨w.heap.size, 0, none⟩ = some (.slice p1 xs.length c1) := HX0.out.cell 0
  have a1 : w1.cell? ⟨w.heap.size, 1, none⟩ = some (.slice p2 ps.length c2) := HX0.out.cell 1
  have e1 : IntKind.i64.wrap ((xs.length : Int) - 1) = (xs.length : Int) - 1 := by rw [IntKind.wrap_i64]; omega
  clear hb1 HR HP HR0 HR1 HB0
  go_wp2_with fail
  refine (l02Is_yes _ _ _ _ hin.1 hin.2).mono ?_
  rintro e w1' ⟨rfl, rfl⟩
  go_wp2_with fail
  refine (l02Ill_any _ _).mono ?_
  rintro e w2 ⟨rfl, hb2⟩
  have R3 := HX1.out.below hb2 HX1.out.lt
  have HB2 := hide (HB1.out.trans (hb2.mono HB1.out.size))
  have c0 : w2.cell? ⟨w.heap.size + 1, 0, none⟩ = some (.slice none 0 0) := R3.cell 0
  have c1' : w2.cell? ⟨w.heap.size + 1, 1, none⟩ = some (.slice none 0 0) := R3.cell 1
  have c2' : w2.cell? ⟨w.heap.size + 1, 2, none⟩ = some (.string ⟨#[]⟩) := R3.cell 2
  have c3 : w2.cell? ⟨w.heap.size + 1, 3, none⟩ = some (.int .i64 0) := R3.cell 3
  have f0 := R3.free 0
  have f1 := R3.free 1
  have f2 := R3.free 2
  have f3 := R3.free 3
  have HR3 := hide R3
  clear hb2 R3
  go_wp2
  obtain ⟨q0, q1, q2, q3, KF⟩ := four HR3.out (.slice none 0 0) (.slice none 0 0) (.string ⟨#[]⟩) (.int .i64 9)
  exact bodyPost_ret (v := .agg #[.slice none 0 0, .slice none 0 0, .string ⟨#[]⟩, .int .i64 9]) (by simp [results, Tryz.results69, go_sem, q0, q1, q2, q3]) rfl
    ⟨⟨_, _, rfl, OwnS.none _ _ _, OwnP.none _ _ _, fun _ h => by cases h⟩, KF.toBelow HB2.out HB2.out.size (by simp)⟩

set_option maxRecDepth 100000 in
set_option maxHeartbeats 4000000 in
theorem specWrite_good (vs vp : Value) (xs : List ByteArray) (ps : List (Int × ByteArray)) (a : Int) (d : ByteArray) (w : World) (hn : xs.length ≤ 1048576) (hn2 : ps.length ≤ 1048576) (hd : d.size ≤ 1048576) (hr : Reads w vs xs) (hp : ReadsP w vp ps) (hl : d.size ≤ 64) (hok : right xs ps = true) (hin : 0 ≤ a ∧ a ≤ (xs.length : Int) - 1) (hf : ps.length < 200) :
    Calls Tryz.prog 69 #[.agg #[vs, vp], .int .i64 a, .string d] w fun e w' => OutIs w.heap.size e w' (⟨xs, ps ++ [(a, d)], ⟨#[]⟩, 0⟩) ∧ Below w.heap.size w w' := by
  obtain ⟨j0, hj, hy0, hy1, hy2⟩ := info_parts Tryz.infoPend
  have t1 : ¬ (8000 : Int) < (d.size : Int) := by omega
  have t2 : ¬ (64 : Int) < (d.size : Int) := by omega
  have t3 : ¬ (200 : Int) ≤ (ps.length : Int) := by omega
  have hb0 : Below w.heap.size w ((w.alloc (.cells #[vs, vp] 30)).alloc (.cells #[.slice none 0 0, .slice none 0 0, .string ⟨#[]⟩, .int .i64 0] 101)) :=
    ((Below.refl _ _).alloc (Nat.le_refl _) _).alloc (by simp) _
  have HR := hide (hr.below hb0 (Nat.le_refl _))
  have HP := hide (hp.below hb0 (Nat.le_refl _))
  have HB0 := hide hb0
  obtain ⟨p1, c1, rfl, hq⟩ := hr
  obtain ⟨p2, c2, rfl, hq2⟩ := hp
  have R0 := (row_new w [.slice p1 xs.length c1, .slice p2 ps.length c2] 30).alloc (.cells #[.slice none 0 0, .slice none 0 0, .string ⟨#[]⟩, .int .i64 0] 101)
  have R1 := row_new (w.alloc (.cells #[.slice p1 xs.length c1, .slice p2 ps.length c2] 30)) [.slice none 0 0, .slice none 0 0, .string ⟨#[]⟩, .int .i64 0] 101
  simp only [World.size_alloc] at R1
  have HR0 := hide R0
  have HR1 := hide R1
  clear hb0 hq hq2 R1 R0
  go_enter Tryz.func69, Tryz.ntmps69
  go_wp2_with fail
  refine (specRight_any _ _ xs ps _ hn hn2 HR.out HP.out).mono ?_
  rw [hok]
  rintro e w1 ⟨rfl, hb1⟩
  have HB1 := hide (HB0.out.trans (hb1.mono HB0.out.size))
  have HX1 := hide (HR1.out.below hb1 (by simp))
  have HX0 := hide (HR0.out.below hb1 (by simp; omega))
  have HRa := hide (HR.out.below hb1 (Nat.le_refl _))
  have HPa := hide (HP.out.below hb1 (Nat.le_refl _))
  have a0 : w1.cell? ⟨w.heap.size, 0, none⟩ = some (.slice p1 xs.length c1) := HX0.out.cell 0
  have a1 : w1.cell? ⟨w.heap.size, 1, none⟩ = some (.slice p2 ps.length c2) := HX0.out.cell 1
  have e1 : IntKind.i64.wrap ((xs.length : Int) - 1) = (xs.length : Int) - 1 := by rw [IntKind.wrap_i64]; omega
  clear hb1 HR HP HR0 HR1 HB0
  go_wp2_with fail
  refine (l02Is_yes _ _ _ _ hin.1 hin.2).mono ?_
  rintro e w1' ⟨rfl, rfl⟩
  go_wp2_with fail
  refine (l02Copy_any _ _ xs ps _ hn hn2 HRa.out HPa.out).mono ?_
  rintro e w2 ⟨us, up, rfl, ow1, ow2, dd, he, hb2⟩
  have hl1 := HX1.out.lt
  have R3 := HX1.out.below hb2 hl1
  have HB2 := hide (HB1.out.trans (hb2.mono HB1.out.size))
  have HO1 := hide ow1
  have HO2 := hide ow2
  have HD := hide dd
  have HE := hide he
  have HR3 := hide R3
  have hz2 : w.heap.size + 2 ≤ w2.heap.size := by have := hb2.size; omega
  obtain ⟨q1, m1, d1, rfl⟩ : ∃ p n c, us = .slice p n c := by obtain ⟨p, c, e, _⟩ := ow1.reads; exact ⟨_, _, _, e⟩
  obtain ⟨q2, m2, d2, rfl⟩ : ∃ p n c, up = .slice p n c := by obtain ⟨p, c, e, _⟩ := ow2.reads; exact ⟨_, _, _, e⟩
  clear ow1 ow2 dd hb2 R3 he
  have hzp : (Value.agg #[.int .i64 0, .string ⟨#[]⟩]).cells.size = 2 := by simp [Value.cells]
  have bx : Below w2.heap.size w2 ((w2.alloc (.cells #[.slice q1 m1 d1, .slice q2 m2 d2] 30)).alloc (.cells #[.int .i64 a, .string d] 92)) :=
    ((Below.refl _ _).alloc (Nat.le_refl _) _).alloc (by simp) _
  have HOX := hide ((HO2.out.mono (B' := w.heap.size) (by omega)).below bx (Nat.le_refl _))
  have HOS := hide ((HO1.out.mono (B' := w.heap.size) (by omega)).below bx (Nat.le_refl _))
  have RX := row_new (w2.alloc (.cells #[.slice q1 m1 d1, .slice q2 m2 d2] 30)) [.int .i64 a, .string d] 92
  simp only [World.size_alloc] at RX
  have HRX := hide RX
  have HG := hide ((row_new w2 [.slice q1 m1 d1, .slice q2 m2 d2] 30).alloc (.cells #[.int .i64 a, .string d] 92))
  have HN := hide ((HR3.out.alloc (.cells #[.slice q1 m1 d1, .slice q2 m2 d2] 30)).alloc (.cells #[.int .i64 a, .string d] 92))
  have HBX := hide (HB2.out.trans (bx.mono HB2.out.size))
  have hBX : w.heap.size ≤ ((w2.alloc (.cells #[.slice q1 m1 d1, .slice q2 m2 d2] 30)).alloc (.cells #[.int .i64 a, .string d] 92)).heap.size := HBX.out.size
  have hdm : d.size ≤ maxLen := by unfold maxLen; omega
  have hne1 : ¬ w2.heap.size = w.heap.size + 1 := by omega
  have hne2 : ¬ w.heap.size + 1 = w2.heap.size := by omega
  clear bx RX
  go_wp2_with (at_builtin; refine wpList_pushP _ rfl _ _ 28 rfl w.heap.size 92 j0 (.agg #[.int .i64 0, .string ⟨#[]⟩]) Tryz.underlying28 hj hy0 hy1 hy2 hzp (.slice q2 m2 d2) rfl ps HOX.out HE.out hn2 hBX a d hdm (w2.heap.size + 1) 1 rfl HRX.out ?_
               intro q3 d3 w3 ho3 hk3 hl3
               have HO3 := hide ho3
               have HK3 := hide hk3
               have HL3 := hide hl3
               have G3 := hk3.row HG.out (fun h => absurd (HO2.out.leads _ h).2 (Nat.lt_irrefl _))
               have N3 := hk3.row HN.out (fun h => absurd (HO2.out.leads _ h).1 (by omega))
               have o0 : w3.cell? ⟨w2.heap.size, 0, none⟩ = some (.slice q1 m1 d1) := G3.cell 0
               have o1 : w3.cell? ⟨w2.heap.size, 1, none⟩ = some (.slice q2 m2 d2) := G3.cell 1
               have o2 := G3.free 1
               have c0 : w3.cell? ⟨w.heap.size + 1, 0, none⟩ = some (.slice none 0 0) := N3.cell 0
               have c1' : w3.cell? ⟨w.heap.size + 1, 1, none⟩ = some (.slice none 0 0) := N3.cell 1
               have c2' : w3.cell? ⟨w.heap.size + 1, 2, none⟩ = some (.string ⟨#[]⟩) := N3.cell 2
               have c3 : w3.cell? ⟨w.heap.size + 1, 3, none⟩ = some (.int .i64 0) := N3.cell 3
               have f0 := N3.free 0
               have f1 := N3.free 1
               have f2 := N3.free 2
               have f3 := N3.free 3
               have HN3 := hide N3
               clear ho3 hk3 hl3 N3 G3)
  have KS := Kept.ofSet w3 w2.heap.size 1 (.slice q3 (ps.length + 1) d3)
  have R4 := HN3.out.other (b := w2.heap.size) (j := 1) (by omega) (.slice q3 (ps.length + 1) d3)
  obtain ⟨z0, z1, z2, z3, KF⟩ := four R4 (.slice q1 m1 d1) (.slice q3 (ps.length + 1) d3) (.string ⟨#[]⟩) (.int .i64 0)
  have LU : ∀ x ∈ leads (.slice q1 m1 d1), w.heap.size + 2 ≤ x ∧ x < w2.heap.size := fun x hx => by
    have := HO1.out.leads x hx
    omega
  have LP : ∀ x ∈ leads (.slice q2 m2 d2), w.heap.size + 2 ≤ x ∧ x < w2.heap.size := fun x hx => by
    have := HO2.out.leads x hx
    omega
  have LQ : ∀ x ∈ leads (.slice q3 (ps.length + 1) d3), x ∈ leads (.slice q2 m2 d2) ∨ w2.heap.size + 2 ≤ x := fun x hx => by
    rcases HL3.out x hx with h | h
    · exact .inl h
    · exact .inr (by simpa using h)
  have LR : ∀ x ∈ leads (.slice q3 (ps.length + 1) d3), x ≠ w2.heap.size ∧ w.heap.size + 2 ≤ x := fun x hx => by
    rcases LQ x hx with h | h
    · have := LP x h; omega
    · omega
  have k3 := HK3.out.toBelow HBX.out hBX (fun x hx => by have := LP x hx; omega)
  have k4 := KS.toBelow k3 k3.size (by simp; have := HB2.out.size; omega)
  have k5 := KF.toBelow k4 k4.size (by simp)
  have O1 := ((HOS.out.kept HK3.out HD.out).kept KS (fun x hx => by have := LU x hx; simp; omega)).kept KF (fun x hx => by have := LU x hx; simp; omega)
  have O2 := (HO3.out.kept KS (fun x hx => by have := LR x hx; simp; omega)).kept KF (fun x hx => by have := LR x hx; simp; omega)
  exact bodyPost_ret (v := .agg #[(.slice q1 m1 d1), (.slice q3 (ps.length + 1) d3), .string ⟨#[]⟩, .int .i64 0]) (by simp [results, Tryz.results69, go_sem, z0, z1, z2, z3]) rfl
    ⟨⟨_, _, rfl, O1, O2, fun x hx hy => by
      rcases LQ x hy with h | h
      · exact HD.out x hx h
      · have := LU x hx; omega⟩, k5⟩

theorem specWrite_any (vs vp : Value) (xs : List ByteArray) (ps : List (Int × ByteArray)) (a : Int) (d : ByteArray) (w : World) (hn : xs.length ≤ 1048576) (hn2 : ps.length ≤ 1048576) (hd : d.size ≤ 1048576) (hr : Reads w vs xs) (hp : ReadsP w vp ps) :
    Calls Tryz.prog 69 #[.agg #[vs, vp], .int .i64 a, .string d] w fun e w' => OutIs w.heap.size e w' (writeOut xs ps a d) ∧ Below w.heap.size w w' := by
  unfold writeOut
  split
  · rename_i h; exact specWrite_size vs vp xs ps a d w hd hr hp h
  · rename_i hz
    split
    · rename_i h
      cases hok : right xs ps with
      | false => exact specWrite_ill vs vp xs ps a d w hn hn2 hd hr hp (by omega) hok
      | true => exact specWrite_long vs vp xs ps a d w hn hn2 hd hr hp (by omega) hok (by rcases h with h | h; · rw [hok] at h; cases h
                                                                                          · exact h)
    · rename_i h
      have hok : right xs ps = true := by
        cases hr' : right xs ps with
        | false => exact absurd (.inl hr') h
        | true => rfl
      have hl : d.size ≤ 64 := by
        by_cases h' : 64 < d.size
        · exact absurd (.inr h') h
        · omega
      split
      · rename_i hin
        split
        · rename_i hf; exact specWrite_full vs vp xs ps a d w hn hn2 hd hr hp hl hok hin hf
        · rename_i hf; exact specWrite_good vs vp xs ps a d w hn hn2 hd hr hp hl hok hin (by omega)
      · rename_i hin; exact specWrite_far vs vp xs ps a d w hn hn2 hd hr hp hl hok hin
end Go.Proofs.YtnpbmaajgiapmaaGreatDoor
/- DiskNew, as the specification does it. -/
namespace Go.Proofs.YtnpbmaajgiapmaaGreatDoor
open Go.RowKit

/-- The call ended with the disk xs, ps, in memory of its own. -/
def DiskIs (B : Nat) (e : Ending) (w : World) (xs : List ByteArray) (ps : List (Int × ByteArray)) : Prop :=
  ∃ us up, e = .returned (.agg #[us, up]) ∧ OwnS 9 B w us xs ∧ OwnP 92 B w up ps ∧ ∀ x ∈ leads us, x ∉ leads up
def newDisk (n : Int) : List ByteArray := if 1 ≤ n ∧ n ≤ 64 then List.replicate n.toNat ⟨#[]⟩ else []

theorem two {w : World} {G : Nat} {T : TypeId} {a b : Value} (R : Row w G T [a, b]) (A B : Value) :
    ((w.setCell ⟨G, 0, none⟩ A).setCell ⟨G, 1, none⟩ B).cell? ⟨G, 0, none⟩ = some A ∧ ((w.setCell ⟨G, 0, none⟩ A).setCell ⟨G, 1, none⟩ B).cell? ⟨G, 1, none⟩ = some B ∧
    Kept [G] w ((w.setCell ⟨G, 0, none⟩ A).setCell ⟨G, 1, none⟩ B) := by
  have R4 := (R.set (j := 0) A).set (j := 1) B
  exact ⟨R4.cell 0, R4.cell 1, ((Kept.refl _ _).set (by simp) _).set (by simp) _⟩

set_option maxHeartbeats 2000000 in
theorem specNew_nil (n : Int) (w : World) :
    Calls Tryz.prog 37 #[.int .i64 n] w fun e w' => (∃ us, e = .returned (.agg #[us, .slice none 0 0]) ∧ OwnS 9 w.heap.size w' us (newDisk n)) ∧ Below w.heap.size w w' := by
  obtain ⟨i0, hi, hz0, hz1, hz2⟩ := info_parts Tryz.infoStr
  have hb0 : Below w.heap.size w (w.alloc (.cells #[.slice none 0 0, .slice none 0 0] 30)) := (Below.refl _ _).alloc (Nat.le_refl _) _
  by_cases hin : 1 ≤ n ∧ n ≤ 64
  · obtain ⟨k, rfl⟩ := Int.eq_ofNat_of_zero_le (by omega : 0 ≤ n)
    have HF := hide (show newDisk (k : Int) = List.replicate k ⟨#[]⟩ by unfold newDisk; rw [if_pos hin]; rfl)
    rw [HF.out]
    have HB0 := hide hb0
    have HR0 := hide (row_new w [.slice none 0 0, .slice none 0 0] 30)
    have hsz := World.size_alloc w (.cells #[.slice none 0 0, .slice none 0 0] 30)
    clear hb0
    go_enter Tryz.func37, Tryz.ntmps37
    go_wp2_with fail
    refine (l02Is_yes _ _ _ _ hin.1 hin.2).mono ?_
    rintro e w1 ⟨rfl, rfl⟩
    go_wp2_with (at_make; refine wpList_make_full _ rfl _ _ 22 rfl (w.heap.size + 1) 9 i0 (.string ⟨#[]⟩) 1 Tryz.underlying22 hi hz0 hz1 _ _ _ _ k rfl rfl rfl rfl ?b2 ?b3 (by simp) ?_)
    case b2 => rw [hz2]; omega
    case b3 => unfold maxLen; omega
    intro w2 hown hgrow
    rw [toList_madeCells_one] at hown
    have ho : OwnS 9 (w.heap.size + 1) w2 (.slice (some ⟨w.heap.size + 1, 0, none⟩) k k) (List.replicate k ⟨#[]⟩) :=
      OwnS.ofRow (fun x hx => by rw [(List.mem_replicate.1 hx).2]; exact Nat.zero_le _) (by simp; omega) (by simpa [strs] using hown)
    have hb2 := below_ofGrown hgrow
    have R2 := HR0.out.below hb2 HR0.out.lt
    have HO := hide ho
    have HB2 := hide (HB0.out.trans (hb2.mono HB0.out.size))
    have c0 : w2.cell? ⟨w.heap.size, 0, none⟩ = some (.slice none 0 0) := R2.cell 0
    have c1 : w2.cell? ⟨w.heap.size, 1, none⟩ = some (.slice none 0 0) := R2.cell 1
    have f0 := R2.free 0
    have f1 := R2.free 1
    have HR2 := hide R2
    clear hown hgrow hb2 R2 ho
    go_wp2
    obtain ⟨z0, z1, KF⟩ := two HR2.out (.slice (some ⟨w.heap.size + 1, 0, none⟩) k k) (.slice none 0 0)
    exact bodyPost_ret (v := .agg #[.slice (some ⟨w.heap.size + 1, 0, none⟩) k k, .slice none 0 0]) (by simp [results, Tryz.results37, go_sem, z0, z1]) rfl
      ⟨⟨_, rfl, (HO.out.kept KF (fun x hx => by have := (HO.out.leads x hx).1; simp; omega)).mono (by omega)⟩, KF.toBelow HB2.out HB2.out.size (by simp)⟩
  · have HF := hide (show newDisk n = [] by unfold newDisk; rw [if_neg hin])
    rw [HF.out]
    have HB0 := hide hb0
    clear hb0 hi hz0 hz1 hz2
    go_enter Tryz.func37, Tryz.ntmps37
    go_wp2_with fail
    refine (l02Is_no _ _ _ _ hin).mono ?_
    rintro e w1 ⟨rfl, rfl⟩
    go_wp2
    exact bodyPost_ret (v := .agg #[.slice none 0 0, .slice none 0 0]) (by simp [results, Tryz.results37, go_sem]) rfl
      ⟨⟨_, rfl, OwnS.none _ _ _⟩, HB0.out⟩
theorem specNew_any (n : Int) (w : World) :
    Calls Tryz.prog 37 #[.int .i64 n] w fun e w' => DiskIs w.heap.size e w' (newDisk n) [] ∧ Below w.heap.size w w' :=
  (specNew_nil n w).mono fun _ _ ⟨⟨us, e, o⟩, hb⟩ => ⟨⟨us, _, e, o, OwnP.none _ _ _, fun _ _ h => by cases h⟩, hb⟩
end Go.Proofs.YtnpbmaajgiapmaaGreatDoor
/- DiskFlush, as the specification does it. -/
namespace Go.Proofs.YtnpbmaajgiapmaaGreatDoor
open Go.RowKit

theorem wpList_copyS {P : Program} (w : World) {ops : Array Oper} {rest : List Oper} {o : Oper} {a : Act} {Q : Exit → Act → World → Prop} (hgd : o.guard = none) (s x : Operand) (t : TypeId)
    (hop : o.op = Op.call { callee := Callee.builtin Builtin.append, args := #[s, x], argTypes := #[t, t] })
    (e : TypeId) (i : TypeInfo) (z : Value) (ht : P.underlying t = some (.slice e)) (hi : P.info? e = some i) (hz : i.zero = some z) (hs : i.size = 1) (hb : i.bytes = 16) (hzs : z.cells.size = 1)
    (b : Addr) (h1 : a.eval s = .slice (some b) 0 0) (v : Value) (h2 : a.eval x = v) (xs : List ByteArray) (hr : Reads w v xs) (hn : xs.length ≤ 1048576)
    (hK : ∀ p c w', OwnS e w.heap.size w' (.slice p xs.length c) xs → Below w.heap.size w w' → wpList P ops Q rest (a.put o.dst (.slice p xs.length c)) w') : wpList P ops Q (o :: rest) a w := by
  refine wpList_plain hgd fun K hK' => ?_
  obtain ⟨p, c, w', hrun, r1, r2⟩ := run_copyS (P := P) w t o.type e i z ht hi hz hs hb hzs b v xs hr hn
  unfold Oper.wp
  simp [execOp, hop, resolve, invoke, builtin, h1, h2, hrun, Result.andThen]
  exact hK' _ _ (hK p c w' r1 r2)

/-- The sectors with all of ps written to them, in order. -/
def applyP : List (Int × ByteArray) → List ByteArray → List ByteArray
  | [], xs => xs
  | x :: r, xs => applyP r (xs.set x.1.toNat x.2)
theorem applyP_step (ps : List (Int × ByteArray)) (k : Nat) (h : k < ps.length) (xs : List ByteArray) : applyP (ps.drop k) xs = applyP (ps.drop (k + 1)) (xs.set (ps[k]'h).1.toNat (ps[k]'h).2) := by
  rw [List.drop_eq_getElem_cons h]; rfl
def flushOut (xs : List ByteArray) (ps : List (Int × ByteArray)) : Out := if right xs ps then ⟨applyP ps xs, [], ⟨#[]⟩, 0⟩ else illOut 1
theorem right_at {xs : List ByteArray} {ps : List (Int × ByteArray)} (h : right xs ps = true) (j : Nat) (hj : j < ps.length) : 0 ≤ (ps[j]'hj).1 ∧ (ps[j]'hj).1 ≤ (xs.length : Int) - 1 ∧ (ps[j]'hj).2.size ≤ 64 := by
  unfold right at h
  simp only [Bool.and_eq_true] at h
  have := h.2
  unfold okP at this
  rw [List.all_eq_true] at this
  have := this _ (List.getElem_mem hj)
  simp at this
  omega
theorem right_len {xs : List ByteArray} {ps : List (Int × ByteArray)} (h : right xs ps = true) : 1 ≤ xs.length ∧ xs.length ≤ 64 ∧ ps.length ≤ 200 := by
  unfold right at h
  simp at h
  omega

theorem strs_set (ys : List ByteArray) (rest : List Value) (m : Nat) (d : ByteArray) (h : m < ys.length) : (strs ys ++ rest).set m (.string d) = strs (ys.set m d) ++ rest := by
  rw [List.set_append_left _ _ (by rw [strs_len]; exact h)]
  unfold strs
  rw [List.map_set]

set_option maxRecDepth 100000 in
set_option maxHeartbeats 4000000 in
theorem specFlush_nil (vs vp : Value) (xs : List ByteArray) (ps : List (Int × ByteArray)) (w : World) (hn : xs.length ≤ 1048576) (hn2 : ps.length ≤ 1048576) (hr : Reads w vs xs) (hp : ReadsP w vp ps) (hok : right xs ps = true) :
    Calls Tryz.prog 73 #[.agg #[vs, vp]] w fun e w' => (∃ us, e = .returned (.agg #[us, .slice none 0 0, .string ⟨#[]⟩, .int .i64 0]) ∧ OwnS 9 w.heap.size w' us (applyP ps xs)) ∧ Below w.heap.size w w' := by
  obtain ⟨i0, hi, hz0, hz1, hz2⟩ := info_parts Tryz.infoStr
  have hb0 : Below w.heap.size w ((w.alloc (.cells #[vs, vp] 30)).alloc (.cells #[.slice none 0 0, .slice none 0 0, .string ⟨#[]⟩, .int .i64 0] 101)) :=
    ((Below.refl _ _).alloc (Nat.le_refl _) _).alloc (by simp) _
  have HR := hide (hr.below hb0 (Nat.le_refl _))
  have HP := hide (hp.below hb0 (Nat.le_refl _))
  have HB0 := hide hb0
  obtain ⟨p1, c1, rfl, hq⟩ := hr
  obtain ⟨p2, c2, rfl, hq2⟩ := hp
  have R0 := (row_new w [.slice p1 xs.length c1, .slice p2 ps.length c2] 30).alloc (.cells #[.slice none 0 0, .slice none 0 0, .string ⟨#[]⟩, .int .i64 0] 101)
  have R1 := row_new (w.alloc (.cells #[.slice p1 xs.length c1, .slice p2 ps.length c2] 30)) [.slice none 0 0, .slice none 0 0, .string ⟨#[]⟩, .int .i64 0] 101
  simp only [World.size_alloc] at R1
  have HR0 := hide R0
  have HR1 := hide R1
  clear hb0 hq hq2 R1 R0
  go_enter Tryz.func73, Tryz.ntmps73
  go_wp2_with fail
  refine (specRight_any _ _ xs ps _ hn hn2 HR.out HP.out).mono ?_
  rw [hok]
  rintro e w1 ⟨rfl, hb1⟩
  have HB1 := hide (HB0.out.trans (hb1.mono HB0.out.size))
  have HX1 := hide (HR1.out.below hb1 (by simp))
  have HX0 := hide (HR0.out.below hb1 (by simp; omega))
  have HRa := hide (HR.out.below hb1 (Nat.le_refl _))
  have HPa := hide (HP.out.below hb1 (Nat.le_refl _))
  have a0 : w1.cell? ⟨w.heap.size, 0, none⟩ = some (.slice p1 xs.length c1) := HX0.out.cell 0
  have hl1 := HX1.out.lt
  clear hb1 HR HP HR0 HR1 HB0
  have ba : Below w1.heap.size w1 (w1.alloc (.cells #[] 9)) := (Below.refl _ _).alloc (Nat.le_refl _) _
  have HRb := hide (HRa.out.below ba (Nat.le_refl _))
  have a0' : (w1.alloc (.cells #[] 9)).cell? ⟨w.heap.size, 0, none⟩ = some (.slice p1 xs.length c1) := (HX0.out.alloc _).cell 0
  have HBa := hide ba
  clear ba
  go_wp2_with (at_builtin; refine wpList_copyS _ rfl _ _ 22 rfl 9 i0 (.string ⟨#[]⟩) Tryz.underlying22 hi hz0 hz1 hz2 rfl ⟨w1.heap.size, 0, none⟩ rfl (.slice p1 xs.length c1) rfl xs HRb.out hn ?_
               intro q1 d1 w2 ho1 hb2
               have HO1 := hide ho1
               have HB2 := hide hb2
               clear ho1 hb2)
  obtain ⟨l1, l2, l3⟩ := right_len hok
  obtain ⟨hx, ⟨_, _, _, _, hnil⟩ | ⟨U, rest, heq, hmx, hU, hrowU⟩⟩ := HO1.out
  · rw [hnil] at l1; cases l1
  cases heq
  have hU1 : w1.heap.size + 1 ≤ U := by simpa using hU
  have hU2 := hrowU.lt
  have hz : w1.heap.size + 1 ≤ w2.heap.size := by have := HB2.out.size; simpa using this
  obtain ⟨W, hW⟩ : ∃ W, W = w2.alloc (.cells #[.slice (some ⟨U, 0, none⟩) xs.length (xs.length + rest.length), .slice none 0 0] 30) := ⟨_, rfl⟩
  have b12 : Below w1.heap.size w1 W := by
    rw [hW]
    exact (HBa.out.trans (HB2.out.mono HBa.out.size)).alloc (by omega) _
  have RU : Row W U 9 (strs xs ++ rest) := by rw [hW]; exact hrowU.alloc _
  have RG : Row W w2.heap.size 30 [.slice (some ⟨U, 0, none⟩) xs.length (xs.length + rest.length), .slice none 0 0] := by rw [hW]; exact row_new w2 _ _
  have RN := HX1.out.below b12 hl1
  have R0' := HX0.out.below b12 HX0.out.lt
  have HPb := hide (HPa.out.below b12 (Nat.le_refl _))
  have LP := hide HPa.out.leads
  have HBW := hide (HB1.out.trans (b12.mono HB1.out.size))
  have HU := hide RU
  have HG := hide RG
  have HN := hide RN
  have H0 := hide R0'
  have hl0 := HX0.out.lt
  rw [← hW]
  clear hW RU RG RN R0' b12 HO1 HB2 HBa HRa HRb a0 a0' HX0 HX1 HPa HB1 hrowU hU hi hz0 hz1 hz2
  go_loopw [4] (fun i wr => ∃ (k : Nat) (ys : List ByteArray), k ≤ ps.length ∧ i = .int .i64 k ∧ ys.length = xs.length ∧ Hid (∀ y ∈ ys, y.size ≤ maxLen) ∧ Hid (applyP ps xs = applyP (ps.drop k) ys) ∧ Hid (Row wr U 9 (strs ys ++ rest)) ∧ Hid (Kept [U] W wr)) (fun i _ => ps.length - (intOf i).toNat)
  case atStart => exact ⟨0, xs, Nat.zero_le _, rfl, rfl, hx, rfl, HU.out, Kept.refl _ _⟩
  case round =>
    obtain ⟨j, ys, hj, rfl, hyl, HY, HS, HRow, HK⟩ := hrel
    have g0 : wr.cell? ⟨w2.heap.size, 0, none⟩ = some (.slice (some ⟨U, 0, none⟩) xs.length (xs.length + rest.length)) := (HK.out.row HG.out (by simp; omega)).cell 0
    have g1 : wr.cell? ⟨w2.heap.size, 1, none⟩ = some (.slice none 0 0) := (HK.out.row HG.out (by simp; omega)).cell 1
    have n1 : wr.cell? ⟨w.heap.size, 1, none⟩ = some (.slice p2 ps.length c2) := (HK.out.row H0.out (by simp; omega)).cell 1
    by_cases hlt2 : j < ps.length
    · have hpr := HK.out.readsP HPb.out (fun x hx => by have := LP.out x hx; simp; omega)
      obtain ⟨p, cap, he, _, _, _, h4⟩ := hpr
      cases he
      obtain ⟨g2, o2, rfl, hg2, hc2⟩ := h4 (by omega)
      obtain ⟨hk0, hk1⟩ := hc2 j hlt2
      have hgU : g2 < w1.heap.size := LP.out g2 (by obtain ⟨m, hm⟩ : ∃ m, ps.length = m + 1 := ⟨ps.length - 1, by omega⟩; rw [hm]; exact List.mem_singleton.2 rfl)
      have HT := hide (applyP_step ps j hlt2 ys)
      obtain ⟨s1, s2, s3⟩ := right_at hok j hlt2
      have hki : (j : Int) < (ps.length : Int) := by omega
      obtain ⟨A, hA⟩ : ∃ A, A = (ps[j]'hlt2).1 := ⟨_, rfl⟩
      obtain ⟨D, hD⟩ : ∃ D, D = (ps[j]'hlt2).2 := ⟨_, rfl⟩
      rw [← hA] at hk0 s1 s2
      rw [← hD] at hk1 s3
      rw [← hA, ← hD] at HT
      clear hA hD hc2 hg2 h4
      obtain ⟨m, rfl⟩ := Int.eq_ofNat_of_zero_le s1
      have hm : m < ys.length := by omega
      have hmi : (m : Int) < (xs.length : Int) := by omega
      have cU : wr.cell? ⟨U, m, none⟩ = some (.string (ys[m]'hm)) := by
        rw [HRow.out.cell, List.getElem?_append_left (by rw [strs_len]; exact hm)]
        simp [strs, hm]
      have fU := HRow.out.free m
      have HSS := hide (show ∀ x, Kept [U] wr x → x.cell? ⟨w2.heap.size, 0, none⟩ = some (.slice (some ⟨U, 0, none⟩) xs.length (xs.length + rest.length)) ∧ x.cell? ⟨w.heap.size, 1, none⟩ = some (.slice (some ⟨g2, o2, none⟩) ps.length c2) ∧ x.cell? ⟨g2, o2 + j * 2, none⟩ = some (.int .i64 (m : Int)) ∧ x.cell? ⟨g2, o2 + j * 2 + 1, none⟩ = some (.string D) from
        fun x h => ⟨h.cell g0 (by simp; omega), h.cell n1 (by simp; omega), h.cell hk0 (by simp; omega), h.cell hk1 (by simp; omega)⟩)
      go_wp2_with fail
      go_region_held3 (fun x => x.cell? ⟨w2.heap.size, 0, none⟩ = some (.slice (some ⟨U, 0, none⟩) xs.length (xs.length + rest.length)) ∧ x.cell? ⟨w.heap.size, 1, none⟩ = some (.slice (some ⟨g2, o2, none⟩) ps.length c2) ∧ x.cell? ⟨g2, o2 + j * 2, none⟩ = some (.int .i64 (m : Int)) ∧ x.cell? ⟨g2, o2 + j * 2 + 1, none⟩ = some (.string D))
        ((go_split_ands; refine HSS.out _ ?_; repeat (first | with_reducible exact Kept.refl _ _ | with_reducible refine Kept.drew ?_ | with_reducible refine Kept.set ?_ (by simp) _)))
        (fail)
      have HU1 := hide (show applyP ps xs = applyP (ps.drop (j + 1)) (ys.set m D) by rw [HS.out.trans HT.out]; rfl)
      have HR1 := hide (show Row (wr.setCell ⟨U, m, none⟩ (.string D)).drew U 9 (strs (ys.set m D) ++ rest) by rw [← strs_set ys rest m D hm]; exact (HRow.out.set (j := m) (.string D)).drew)
      have HK1 := hide ((HK.out.set (G := U) (j := m) (by simp) (.string D)).drew)
      have HY1 := hide (show ∀ y ∈ ys.set m D, y.size ≤ maxLen from fun y hy => by
        rcases List.mem_or_eq_of_mem_set hy with h | h
        · exact HY.out y h
        · rw [h]; unfold maxLen; omega)
      clear cU fU hk0 hk1
      go_wp2
      go_roundw
      case rel => exact ⟨j + 1, ys.set m D, by omega, by go_num, by rw [List.length_set]; exact hyl, HY1, HU1, HR1, HK1⟩
      case measure => simp [intOf]; omega
    · have HU1 := hide (show applyP ps xs = ys by rw [HS.out, List.drop_eq_nil_of_le (by omega)]; rfl)
      have N3 := HK.out.row HN.out (by simp; omega)
      have c0 : wr.cell? ⟨w.heap.size + 1, 0, none⟩ = some (.slice none 0 0) := N3.cell 0
      have c1' : wr.cell? ⟨w.heap.size + 1, 1, none⟩ = some (.slice none 0 0) := N3.cell 1
      have c2' : wr.cell? ⟨w.heap.size + 1, 2, none⟩ = some (.string ⟨#[]⟩) := N3.cell 2
      have c3 : wr.cell? ⟨w.heap.size + 1, 3, none⟩ = some (.int .i64 0) := N3.cell 3
      have f0 := N3.free 0
      have f1 := N3.free 1
      have f2 := N3.free 2
      have f3 := N3.free 3
      have HN3 := hide N3
      clear N3
      go_wp2
      obtain ⟨z0, z1, z2, z3, KF⟩ := four HN3.out (.slice (some ⟨U, 0, none⟩) xs.length (xs.length + rest.length)) (.slice none 0 0) (.string ⟨#[]⟩) (.int .i64 0)
      have k3 := HK.out.toBelow HBW.out HBW.out.size (by simp; omega)
      have k5 := KF.toBelow k3 k3.size (by simp)
      have RF := KF.row HRow.out (by simp; omega)
      exact bodyPost_ret (v := .agg #[(.slice (some ⟨U, 0, none⟩) xs.length (xs.length + rest.length)), .slice none 0 0, .string ⟨#[]⟩, .int .i64 0]) (by simp [results, Tryz.results73, go_sem, z0, z1, z2, z3]) rfl
        ⟨⟨_, rfl, by rw [HU1.out]; exact ⟨HY.out, .inr ⟨U, rest, by rw [hyl], by rw [hyl]; exact hmx, by omega, RF⟩⟩⟩, k5⟩

theorem specFlush_good (vs vp : Value) (xs : List ByteArray) (ps : List (Int × ByteArray)) (w : World) (hn : xs.length ≤ 1048576) (hn2 : ps.length ≤ 1048576) (hr : Reads w vs xs) (hp : ReadsP w vp ps) (hok : right xs ps = true) :
    Calls Tryz.prog 73 #[.agg #[vs, vp]] w fun e w' => OutIs w.heap.size e w' ⟨applyP ps xs, [], ⟨#[]⟩, 0⟩ ∧ Below w.heap.size w w' :=
  (specFlush_nil vs vp xs ps w hn hn2 hr hp hok).mono fun _ _ ⟨⟨us, e, o⟩, hb⟩ => ⟨⟨us, _, e, o, OwnP.none _ _ _, fun _ _ h => by cases h⟩, hb⟩

set_option maxHeartbeats 4000000 in
theorem specFlush_ill (vs vp : Value) (xs : List ByteArray) (ps : List (Int × ByteArray)) (w : World) (hn : xs.length ≤ 1048576) (hn2 : ps.length ≤ 1048576) (hr : Reads w vs xs) (hp : ReadsP w vp ps) (hok : right xs ps = false) :
    Calls Tryz.prog 73 #[.agg #[vs, vp]] w fun e w' => OutIs w.heap.size e w' (illOut 1) ∧ Below w.heap.size w w' := by
  have hb0 : Below w.heap.size w ((w.alloc (.cells #[vs, vp] 30)).alloc (.cells #[.slice none 0 0, .slice none 0 0, .string ⟨#[]⟩, .int .i64 0] 101)) :=
    ((Below.refl _ _).alloc (Nat.le_refl _) _).alloc (by simp) _
  have HR := hide (hr.below hb0 (Nat.le_refl _))
  have HP := hide (hp.below hb0 (Nat.le_refl _))
  have HB0 := hide hb0
  obtain ⟨p1, c1, rfl, hq⟩ := hr
  obtain ⟨p2, c2, rfl, hq2⟩ := hp
  have R0 := (row_new w [.slice p1 xs.length c1, .slice p2 ps.length c2] 30).alloc (.cells #[.slice none 0 0, .slice none 0 0, .string ⟨#[]⟩, .int .i64 0] 101)
  have R1 := row_new (w.alloc (.cells #[.slice p1 xs.length c1, .slice p2 ps.length c2] 30)) [.slice none 0 0, .slice none 0 0, .string ⟨#[]⟩, .int .i64 0] 101
  simp only [World.size_alloc] at R1
  have HR0 := hide R0
  have HR1 := hide R1
  clear hb0 hq hq2 R1 R0
  go_enter Tryz.func73, Tryz.ntmps73
  go_wp2_with fail
  refine (specRight_any _ _ xs ps _ hn hn2 HR.out HP.out).mono ?_
  rw [hok]
  rintro e w1 ⟨rfl, hb1⟩
  have HB1 := hide (HB0.out.trans (hb1.mono HB0.out.size))
  have HX1 := hide (HR1.out.below hb1 (by simp))
  clear hb1 HR HP HR0 HR1 HB0
  go_wp2_with fail
  refine (l02Ill_any _ _).mono ?_
  rintro e w2 ⟨rfl, hb2⟩
  have R3 := HX1.out.below hb2 HX1.out.lt
  have HB2 := hide (HB1.out.trans (hb2.mono HB1.out.size))
  have c0 : w2.cell? ⟨w.heap.size + 1, 0, none⟩ = some (.slice none 0 0) := R3.cell 0
  have c1' : w2.cell? ⟨w.heap.size + 1, 1, none⟩ = some (.slice none 0 0) := R3.cell 1
  have c2' : w2.cell? ⟨w.heap.size + 1, 2, none⟩ = some (.string ⟨#[]⟩) := R3.cell 2
  have c3 : w2.cell? ⟨w.heap.size + 1, 3, none⟩ = some (.int .i64 0) := R3.cell 3
  have f0 := R3.free 0
  have f1 := R3.free 1
  have f2 := R3.free 2
  have f3 := R3.free 3
  have HR3 := hide R3
  clear hb2 R3
  go_wp2
  obtain ⟨q0, q1, q2, q3, KF⟩ := four HR3.out (.slice none 0 0) (.slice none 0 0) (.string ⟨#[]⟩) (.int .i64 1)
  exact bodyPost_ret (v := .agg #[.slice none 0 0, .slice none 0 0, .string ⟨#[]⟩, .int .i64 1]) (by simp [results, Tryz.results73, go_sem, q0, q1, q2, q3]) rfl
    ⟨⟨_, _, rfl, OwnS.none _ _ _, OwnP.none _ _ _, fun _ h => by cases h⟩, KF.toBelow HB2.out HB2.out.size (by simp)⟩

theorem specFlush_any (vs vp : Value) (xs : List ByteArray) (ps : List (Int × ByteArray)) (w : World) (hn : xs.length ≤ 1048576) (hn2 : ps.length ≤ 1048576) (hr : Reads w vs xs) (hp : ReadsP w vp ps) :
    Calls Tryz.prog 73 #[.agg #[vs, vp]] w fun e w' => OutIs w.heap.size e w' (flushOut xs ps) ∧ Below w.heap.size w w' := by
  unfold flushOut
  cases hok : right xs ps with
  | false => exact specFlush_ill vs vp xs ps w hn hn2 hr hp hok
  | true => exact specFlush_good vs vp xs ps w hn hn2 hr hp hok
end Go.Proofs.YtnpbmaajgiapmaaGreatDoor
