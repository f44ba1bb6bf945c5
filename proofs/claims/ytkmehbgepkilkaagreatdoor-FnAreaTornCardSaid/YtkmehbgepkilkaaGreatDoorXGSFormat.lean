/- The specification's AreaFormat. -/
import Derived.Test.YtkmehbgepkilkaaGreatDoorXGSCopy
import Derived.Test.YtkmehbgepkilkaaGreatDoorXGSSeen
import Derived.Deep.RegionHeld3
import Derived.Deep.DeepCutAuto
namespace Go.Proofs.YtkmehbgepkilkaaGreatDoor
open Go.RowKit

theorem headOf_size (g s z : Int) : (headOf g s z).size ≤ 34 := by
  have h1 := numText_size g
  have h2 := numText_size s
  have h3 := numText_size z
  unfold headOf
  have h4 : ∀ c : Int, (St1.four c).size = 4 := fun c => rfl
  unfold St1.sealOf
  simp only [ByteArray.size_append, h4]
  omega
theorem stored4 {T TS TP : TypeId} {b g : Nat} {w1 w8 : World} {us up t c x0 x1 x2 x3 : Value} {xs : List ByteArray} {ps : List (Int × ByteArray)} (R : Row w8 g T [x0, x1, x2, x3]) (hg : w1.heap.size ≤ g) (O1 : OwnS TS b w8 us xs) (O2 : OwnP TP b w8 up ps)
    (L1 : ∀ x ∈ leads us, x ≠ g) (L2 : ∀ x ∈ leads up, x ≠ g) (hB : Below w1.heap.size w1 w8) :
    Row ((((w8.setCell ⟨g, 0, none⟩ us).setCell ⟨g, 1, none⟩ up).setCell ⟨g, 2, none⟩ t).setCell ⟨g, 3, none⟩ c) g T [us, up, t, c] ∧
    OwnS TS b ((((w8.setCell ⟨g, 0, none⟩ us).setCell ⟨g, 1, none⟩ up).setCell ⟨g, 2, none⟩ t).setCell ⟨g, 3, none⟩ c) us xs ∧
    OwnP TP b ((((w8.setCell ⟨g, 0, none⟩ us).setCell ⟨g, 1, none⟩ up).setCell ⟨g, 2, none⟩ t).setCell ⟨g, 3, none⟩ c) up ps ∧
    Below w1.heap.size w1 ((((w8.setCell ⟨g, 0, none⟩ us).setCell ⟨g, 1, none⟩ up).setCell ⟨g, 2, none⟩ t).setCell ⟨g, 3, none⟩ c) := by
  have K : Kept [g] w8 ((((w8.setCell ⟨g, 0, none⟩ us).setCell ⟨g, 1, none⟩ up).setCell ⟨g, 2, none⟩ t).setCell ⟨g, 3, none⟩ c) :=
    ((((Kept.refl _ _).set (by simp) _).set (by simp) _).set (by simp) _).set (by simp) _
  exact ⟨(((R.set (j := 0) us).set (j := 1) up).set (j := 2) t).set (j := 3) c, O1.kept K (fun x hx => by simpa using L1 x hx), O2.kept K (fun x hx => by simpa using L2 x hx), K.toBelow hB hB.size (by simpa using hg)⟩
theorem alloc4 {T TS TP : TypeId} {b : Nat} {w1 w8 : World} {us up t c : Value} {xs : List ByteArray} {ps : List (Int × ByteArray)} (O1 : OwnS TS b w8 us xs) (O2 : OwnP TP b w8 up ps) (hB : Below w1.heap.size w1 w8) :
    Row (w8.alloc (.cells #[us, up, t, c] T)) w8.heap.size T [us, up, t, c] ∧ OwnS TS b (w8.alloc (.cells #[us, up, t, c] T)) us xs ∧ OwnP TP b (w8.alloc (.cells #[us, up, t, c] T)) up ps ∧ Below w1.heap.size w1 (w8.alloc (.cells #[us, up, t, c] T)) :=
  have bn := below_new w8 (.cells #[us, up, t, c] T)
  ⟨row_new w8 _ _, O1.below bn (Nat.le_refl _), O2.below bn (Nat.le_refl _), hB.trans (bn.mono hB.size)⟩
def formatOut (xs : List ByteArray) (ps : List (Int × ByteArray)) : AOut :=
  if right xs ps = false then aill 1 else if xs.length < 3 ∨ 200 ≤ ps.length then aill 9 else ⟨applyP (ps ++ [(0, headOf 0 0 0)]) xs, [], ⟨#[]⟩, 0, 0⟩

theorem l03Ill_any (c : Int) (w : World) :
    Calls Tryz.prog 39 #[.int .i64 c] w fun e w' => e = .returned (.agg #[.slice none 0 0, .slice none 0 0, .string ⟨#[]⟩, .int .i64 0, .int .i64 c]) ∧ Below w.heap.size w w' := by
  go_enter Tryz.func39, Tryz.ntmps39
  go_wp2
  exact bodyPost_ret (v := .agg #[.slice none 0 0, .slice none 0 0, .string ⟨#[]⟩, .int .i64 0, .int .i64 c]) (by simp [results, Tryz.results39, go_sem]) rfl ⟨rfl, (Below.refl _ _).alloc (Nat.le_refl _) _⟩

set_option maxHeartbeats 4000000 in
theorem specFormat_ill (vs vp : Value) (xs : List ByteArray) (ps : List (Int × ByteArray)) (w : World) (hn : xs.length ≤ 1048576) (hn2 : ps.length ≤ 1048576) (hr : Reads w vs xs) (hp : ReadsP w vp ps) (hok : right xs ps = false) :
    Calls Tryz.prog 14 #[.agg #[vs, vp]] w fun e w' => AOutIs w.heap.size e w' (aill 1) ∧ Below w.heap.size w w' := by
  have hb0 : Below w.heap.size w ((w.alloc (.cells #[vs, vp] 26)).alloc (.cells #[.slice none 0 0, .slice none 0 0, .string ⟨#[]⟩, .int .i64 0, .int .i64 0] 31)) :=
    ((Below.refl _ _).alloc (Nat.le_refl _) _).alloc (by simp) _
  have HR := hide (hr.below hb0 (Nat.le_refl _))
  have HP := hide (hp.below hb0 (Nat.le_refl _))
  have HB0 := hide hb0
  obtain ⟨p1, c1, rfl, hq⟩ := hr
  obtain ⟨p2, c2, rfl, hq2⟩ := hp
  have R1 := row_new (w.alloc (.cells #[.slice p1 xs.length c1, .slice p2 ps.length c2] 26)) [.slice none 0 0, .slice none 0 0, .string ⟨#[]⟩, .int .i64 0, .int .i64 0] 31
  simp only [World.size_alloc] at R1
  have HR1 := hide R1
  clear hb0 hq hq2 R1
  go_enter Tryz.func14, Tryz.ntmps14
  go_wp2_with fail
  refine (specRight_any _ _ xs ps _ hn hn2 HR.out HP.out).mono ?_
  rw [hok]
  rintro e w1 ⟨rfl, hb1⟩
  have HB1 := hide (HB0.out.trans (hb1.mono HB0.out.size))
  have HX1 := hide (HR1.out.below hb1 (by simp))
  clear hb1 HR HP HR1 HB0
  go_wp2_with fail
  refine (l03Ill_any _ _).mono ?_
  rintro e w2 ⟨rfl, hb2⟩
  have R3 := HX1.out.below hb2 HX1.out.lt
  have HB2 := hide (HB1.out.trans (hb2.mono HB1.out.size))
  have c0 : w2.cell? ⟨w.heap.size + 1, 0, none⟩ = some (.slice none 0 0) := R3.cell 0
  have c1' : w2.cell? ⟨w.heap.size + 1, 1, none⟩ = some (.slice none 0 0) := R3.cell 1
  have c2' : w2.cell? ⟨w.heap.size + 1, 2, none⟩ = some (.string ⟨#[]⟩) := R3.cell 2
  have c3 : w2.cell? ⟨w.heap.size + 1, 3, none⟩ = some (.int .i64 0) := R3.cell 3
  have c4 : w2.cell? ⟨w.heap.size + 1, 4, none⟩ = some (.int .i64 0) := R3.cell 4
  have f0 := R3.free 0
  have f1 := R3.free 1
  have f2 := R3.free 2
  have f3 := R3.free 3
  have f4 := R3.free 4
  have HR3 := hide R3
  clear hb2 R3
  go_wp2
  obtain ⟨q0, q1, q2, q3, q4, KF⟩ := five HR3.out (.slice none 0 0) (.slice none 0 0) (.string ⟨#[]⟩) (.int .i64 0) (.int .i64 1)
  exact bodyPost_ret (v := .agg #[.slice none 0 0, .slice none 0 0, .string ⟨#[]⟩, .int .i64 0, .int .i64 1]) (by simp [results, Tryz.results14, go_sem, q0, q1, q2, q3, q4]) rfl
    ⟨AOutIs.ill _ _ _, KF.toBelow HB2.out HB2.out.size (by simp)⟩

set_option maxHeartbeats 4000000 in
theorem specFormat_few (vs vp : Value) (xs : List ByteArray) (ps : List (Int × ByteArray)) (w : World) (hn : xs.length ≤ 1048576) (hn2 : ps.length ≤ 1048576) (hr : Reads w vs xs) (hp : ReadsP w vp ps) (hok : right xs ps = true) (hf : xs.length < 3) :
    Calls Tryz.prog 14 #[.agg #[vs, vp]] w fun e w' => AOutIs w.heap.size e w' (aill 9) ∧ Below w.heap.size w w' := by
  have t1 : (xs.length : Int) < 3 := by omega
  have hb0 : Below w.heap.size w ((w.alloc (.cells #[vs, vp] 26)).alloc (.cells #[.slice none 0 0, .slice none 0 0, .string ⟨#[]⟩, .int .i64 0, .int .i64 0] 31)) :=
    ((Below.refl _ _).alloc (Nat.le_refl _) _).alloc (by simp) _
  have HR := hide (hr.below hb0 (Nat.le_refl _))
  have HP := hide (hp.below hb0 (Nat.le_refl _))
  have HB0 := hide hb0
  obtain ⟨p1, c1, rfl, hq⟩ := hr
  obtain ⟨p2, c2, rfl, hq2⟩ := hp
  have R0 := (row_new w [.slice p1 xs.length c1, .slice p2 ps.length c2] 26).alloc (.cells #[.slice none 0 0, .slice none 0 0, .string ⟨#[]⟩, .int .i64 0, .int .i64 0] 31)
  have R1 := row_new (w.alloc (.cells #[.slice p1 xs.length c1, .slice p2 ps.length c2] 26)) [.slice none 0 0, .slice none 0 0, .string ⟨#[]⟩, .int .i64 0, .int .i64 0] 31
  simp only [World.size_alloc] at R1
  have HR0 := hide R0
  have HR1 := hide R1
  clear hb0 hq hq2 R1 R0
  go_enter Tryz.func14, Tryz.ntmps14
  go_wp2_with fail
  refine (specRight_any _ _ xs ps _ hn hn2 HR.out HP.out).mono ?_
  rw [hok]
  rintro e w1 ⟨rfl, hb1⟩
  have HB1 := hide (HB0.out.trans (hb1.mono HB0.out.size))
  have HX1 := hide (HR1.out.below hb1 (by simp))
  have HX0 := hide (HR0.out.below hb1 (by simp; omega))
  have a0 : w1.cell? ⟨w.heap.size, 0, none⟩ = some (.slice p1 xs.length c1) := HX0.out.cell 0
  clear hb1 HR HP HR1 HB0
  go_wp2_with fail
  refine (l03Ill_any _ _).mono ?_
  rintro e w2 ⟨rfl, hb2⟩
  have R3 := HX1.out.below hb2 HX1.out.lt
  have HB2 := hide (HB1.out.trans (hb2.mono HB1.out.size))
  have c0 : w2.cell? ⟨w.heap.size + 1, 0, none⟩ = some (.slice none 0 0) := R3.cell 0
  have c1' : w2.cell? ⟨w.heap.size + 1, 1, none⟩ = some (.slice none 0 0) := R3.cell 1
  have c2' : w2.cell? ⟨w.heap.size + 1, 2, none⟩ = some (.string ⟨#[]⟩) := R3.cell 2
  have c3 : w2.cell? ⟨w.heap.size + 1, 3, none⟩ = some (.int .i64 0) := R3.cell 3
  have c4 : w2.cell? ⟨w.heap.size + 1, 4, none⟩ = some (.int .i64 0) := R3.cell 4
  have f0 := R3.free 0
  have f1 := R3.free 1
  have f2 := R3.free 2
  have f3 := R3.free 3
  have f4 := R3.free 4
  have HR3 := hide R3
  clear hb2 R3 a0
  go_wp2
  obtain ⟨q0, q1, q2, q3, q4, KF⟩ := five HR3.out (.slice none 0 0) (.slice none 0 0) (.string ⟨#[]⟩) (.int .i64 0) (.int .i64 9)
  exact bodyPost_ret (v := .agg #[.slice none 0 0, .slice none 0 0, .string ⟨#[]⟩, .int .i64 0, .int .i64 9]) (by simp [results, Tryz.results14, go_sem, q0, q1, q2, q3, q4]) rfl
    ⟨AOutIs.ill _ _ _, KF.toBelow HB2.out HB2.out.size (by simp)⟩

set_option maxRecDepth 100000 in
set_option maxHeartbeats 4000000 in
theorem specFormat_rest (vs vp : Value) (xs : List ByteArray) (ps : List (Int × ByteArray)) (w : World) (hn : xs.length ≤ 1048576) (hn2 : ps.length ≤ 1048576) (hr : Reads w vs xs) (hp : ReadsP w vp ps) (hok : right xs ps = true) (hf : 3 ≤ xs.length) :
    Calls Tryz.prog 14 #[.agg #[vs, vp]] w fun e w' => AOutIs w.heap.size e w' (formatOut xs ps) ∧ Below w.heap.size w w' := by
  have t1 : ¬ (xs.length : Int) < 3 := by omega
  have hb0 : Below w.heap.size w ((w.alloc (.cells #[vs, vp] 26)).alloc (.cells #[.slice none 0 0, .slice none 0 0, .string ⟨#[]⟩, .int .i64 0, .int .i64 0] 31)) :=
    ((Below.refl _ _).alloc (Nat.le_refl _) _).alloc (by simp) _
  have HR := hide (hr.below hb0 (Nat.le_refl _))
  have HP := hide (hp.below hb0 (Nat.le_refl _))
  have HB0 := hide hb0
  obtain ⟨p1, c1, rfl, hq⟩ := hr
  obtain ⟨p2, c2, rfl, hq2⟩ := hp
  have R0 := (row_new w [.slice p1 xs.length c1, .slice p2 ps.length c2] 26).alloc (.cells #[.slice none 0 0, .slice none 0 0, .string ⟨#[]⟩, .int .i64 0, .int .i64 0] 31)
  have R1 := row_new (w.alloc (.cells #[.slice p1 xs.length c1, .slice p2 ps.length c2] 26)) [.slice none 0 0, .slice none 0 0, .string ⟨#[]⟩, .int .i64 0, .int .i64 0] 31
  simp only [World.size_alloc] at R1
  have HR0 := hide R0
  have HR1 := hide R1
  clear hb0 hq hq2 R1 R0
  go_enter Tryz.func14, Tryz.ntmps14
  go_wp2_with fail
  refine (specRight_any _ _ xs ps _ hn hn2 HR.out HP.out).mono ?_
  rw [hok]
  rintro e w1 ⟨rfl, hb1⟩
  have H1 := hide (Stab.go hb1 (P := fun w' => Row w' w.heap.size 26 [.slice p1 xs.length c1, .slice p2 ps.length c2] ∧ Reads w' (.slice p1 xs.length c1) xs ∧ ReadsP w' (.slice p2 ps.length c2) ps) ⟨HR0.out, HR.out, HP.out⟩)
  have HB1 := hide (HB0.out.trans (hb1.mono HB0.out.size))
  have HX1 := hide (HR1.out.below hb1 (by simp))
  have a0 : w1.cell? ⟨w.heap.size, 0, none⟩ = some (.slice p1 xs.length c1) := H1.out.1.cell 0
  clear hb1 HR HP HR1 HR0 HB0
  go_wp2_with fail
  obtain ⟨h, Hh⟩ : ∃ h, Hid (h = headOf 0 0 0) := ⟨_, rfl⟩
  have hsz : h.size ≤ 34 := by rw [Hh.out]; exact headOf_size 0 0 0
  obtain ⟨o, Ho⟩ : ∃ o, Hid (o = writeOut xs ps 0 h) := ⟨_, rfl⟩
  go_cut [3] (fun t3 wx => ∃ (B : Nat) (us up : Value), t3 = .pointer (some ⟨B, 0, none⟩) ∧ Hid (w1.heap.size ≤ B) ∧ Hid (Row wx B 69 [us, up, .string o.t, .int .i64 o.c]) ∧ Hid (OwnS 9 w1.heap.size wx us o.xs) ∧ Hid (OwnP 61 w1.heap.size wx up o.ps) ∧ Hid (Below w1.heap.size w1 wx))
  case first =>
    have HSS := hide (show ∀ x, Below w1.heap.size w1 x → x.cell? ⟨w.heap.size, 0, none⟩ = some (.slice p1 xs.length c1) ∧ x.cell? ⟨w.heap.size, 1, none⟩ = some (.slice p2 ps.length c2) ∧ Below w1.heap.size w1 x from
      fun x h => ⟨(Row.after h H1.out.1).cell 0, (Row.after h H1.out.1).cell 1, h⟩)
    go_region_held3 (fun x => x.cell? ⟨w.heap.size, 0, none⟩ = some (.slice p1 xs.length c1) ∧ x.cell? ⟨w.heap.size, 1, none⟩ = some (.slice p2 ps.length c2) ∧ Below w1.heap.size w1 x)
      ((go_split_ands; refine HSS.out _ ?_; repeat (first | with_reducible assumption | with_reducible exact Below.refl _ _ | with_reducible refine Below.drew ?_ | with_reducible refine Below.alloc ?_ (by first | exact Nat.le_refl _ | exact Below.size (by assumption) | (simp; omega)) _ | with_reducible refine Below.setCell ?_ (by simp; try omega) _)))
      ((first
        | (go_at_call 47; go_split_ands; refine (l03Head_any 0 0 0 _ (by omega) (by omega) (by omega)).mono ?_; rw [← Hh.out]; rintro e w7 ⟨rfl, hb7⟩
           have hB7 : Below w1.heap.size w1 w7 := Below.trans (by assumption) (hb7.mono (Below.size (by assumption)))
           have hz7 := hB7.size
           first
             | have R7 : Row w7 w1.heap.size 69 [.slice none 0 0, .slice none 0 0, .string ⟨#[]⟩, .int .i64 0] := Row.after hb7 (row_new w1 [.slice none 0 0, .slice none 0 0, .string ⟨#[]⟩, .int .i64 0] 69).drew
             | skip
           clear hb7)
        | (go_at_call 46; go_split_ands; refine (specWrite_any _ _ xs ps 0 h _ hn hn2 (by omega) (H1.out.2.1.below (by assumption) (Nat.le_refl _)) (H1.out.2.2.below (by assumption) (Nat.le_refl _))).mono ?_; rw [← Ho.out]; rintro e w8 ⟨⟨us, up, rfl, o1, o2, dd⟩, hb8⟩
           have hB8 : Below w1.heap.size w1 w8 := Below.trans (by assumption) (hb8.mono (Below.size (by assumption)))
           have hz8 := hB8.size
           have L1 := hide (fun x hx => (o1.leads x hx).1)
           have L2 := hide (fun x hx => (o2.leads x hx).1)
           have O1 := hide (o1.mono (B' := w1.heap.size) (Below.size (by assumption)))
           have O2 := hide (o2.mono (B' := w1.heap.size) (Below.size (by assumption)))
           obtain ⟨i1, j1, k1, rfl⟩ := o1.isSlice
           obtain ⟨i2, j2, k2, rfl⟩ := o2.isSlice
           first
             | (have R8 := Row.after hb8 R7; have g0 : w8.cell? ⟨w1.heap.size, 0, none⟩ = some (.slice none 0 0) := R8.cell 0; have g1 : w8.cell? ⟨w1.heap.size, 1, none⟩ = some (.slice none 0 0) := R8.cell 1; have g2 : w8.cell? ⟨w1.heap.size, 2, none⟩ = some (.string ⟨#[]⟩) := R8.cell 2; have g3 : w8.cell? ⟨w1.heap.size, 3, none⟩ = some (.int .i64 0) := R8.cell 3; have e0 := R8.free 0; have e1 := R8.free 1; have e2 := R8.free 2; have e3 := R8.free 3)
             | (have R8 : Row w8 w7.heap.size 69 [.slice none 0 0, .slice none 0 0, .string ⟨#[]⟩, .int .i64 0] := Row.after hb8 (row_new w7 [.slice none 0 0, .slice none 0 0, .string ⟨#[]⟩, .int .i64 0] 69); have g0 : w8.cell? ⟨w7.heap.size, 0, none⟩ = some (.slice none 0 0) := R8.cell 0; have g1 : w8.cell? ⟨w7.heap.size, 1, none⟩ = some (.slice none 0 0) := R8.cell 1; have g2 : w8.cell? ⟨w7.heap.size, 2, none⟩ = some (.string ⟨#[]⟩) := R8.cell 2; have g3 : w8.cell? ⟨w7.heap.size, 3, none⟩ = some (.int .i64 0) := R8.cell 3; have e0 := R8.free 0; have e1 := R8.free 1; have e2 := R8.free 2; have e3 := R8.free 3)
             | skip
           clear hb8 o1 o2 dd)))
    all_goals go_wp2_with fail
    all_goals go_meet
    · obtain ⟨r1, r2, r3, r4⟩ := alloc4 (T := 69) (t := .string o.t) (c := .int .i64 o.c) O1.out O2.out hB8
      exact ⟨_, _, _, rfl, hz8, r1, r2, r3, r4⟩
    all_goals
      obtain ⟨r1, r2, r3, r4⟩ := stored4 (t := .string o.t) (c := .int .i64 o.c) R8 (by omega) O1.out O2.out (fun x hx => by have h1 := L1.out x hx; have h2 := R8.lt; first | (have h3 := R7.lt; (try simp at h1); omega) | ((try simp at h1); omega)) (fun x hx => by have h1 := L2.out x hx; have h2 := R8.lt; first | (have h3 := R7.lt; (try simp at h1); omega) | ((try simp at h1); omega)) hB8
      exact ⟨_, _, _, rfl, (by first | exact hz7 | exact Nat.le_refl _), r1, r2, r3, r4⟩
  case rest =>
    obtain ⟨B, us, up, rfl, HBB, HRB, HO1, HO2, HBw⟩ := hcut
    obtain ⟨i1, j1, k1, rfl⟩ := HO1.out.isSlice
    obtain ⟨i2, j2, k2, rfl⟩ := HO2.out.isSlice
    have HBc := hide (HB1.out.trans (HBw.out.mono HB1.out.size))
    have HXc := hide (Row.after HBw.out HX1.out)
    have hXl := HX1.out.lt
    have hBB := HBB.out
    have hbl := HRB.out.lt
    by_cases hfull : 200 ≤ ps.length
    · have ho : o = illOut 9 := by rw [Ho.out]; unfold writeOut; rw [if_neg (by omega), if_neg (by rw [hok]; simp; omega), if_pos (by omega), if_pos hfull]
      subst ho
      have b3 : wc.cell? ⟨B, 3, none⟩ = some (.int .i64 9) := HRB.out.cell 3
      have HF := hide (show formatOut xs ps = aill 9 by unfold formatOut; rw [hok, if_neg (by simp), if_pos (.inr hfull)])
      clear a0
      go_wp2_with fail
      refine (l03Ill_any _ _).mono ?_
      rintro e w2 ⟨rfl, hb2⟩
      have R3 := HXc.out.below hb2 HXc.out.lt
      have HB2 := hide (HBc.out.trans (hb2.mono HBc.out.size))
      have c0 : w2.cell? ⟨w.heap.size + 1, 0, none⟩ = some (.slice none 0 0) := R3.cell 0
      have c1' : w2.cell? ⟨w.heap.size + 1, 1, none⟩ = some (.slice none 0 0) := R3.cell 1
      have c2' : w2.cell? ⟨w.heap.size + 1, 2, none⟩ = some (.string ⟨#[]⟩) := R3.cell 2
      have c3 : w2.cell? ⟨w.heap.size + 1, 3, none⟩ = some (.int .i64 0) := R3.cell 3
      have c4 : w2.cell? ⟨w.heap.size + 1, 4, none⟩ = some (.int .i64 0) := R3.cell 4
      have f0 := R3.free 0
      have f1 := R3.free 1
      have f2 := R3.free 2
      have f3 := R3.free 3
      have f4 := R3.free 4
      have HR3 := hide R3
      clear hb2 R3 b3
      go_wp2
      obtain ⟨q0, q1, q2, q3, q4, KF⟩ := five HR3.out (.slice none 0 0) (.slice none 0 0) (.string ⟨#[]⟩) (.int .i64 0) (.int .i64 9)
      exact bodyPost_ret (v := .agg #[.slice none 0 0, .slice none 0 0, .string ⟨#[]⟩, .int .i64 0, .int .i64 9]) (by simp [results, Tryz.results14, go_sem, q0, q1, q2, q3, q4]) rfl
        ⟨by rw [HF.out]; exact AOutIs.ill _ _ _, KF.toBelow HB2.out HB2.out.size (by simp)⟩
    · have ho : o = ⟨xs, ps ++ [(0, h)], ⟨#[]⟩, 0⟩ := by rw [Ho.out]; unfold writeOut; rw [if_neg (by omega), if_neg (by rw [hok]; simp; omega), if_pos (by omega), if_neg hfull]
      subst ho
      have HOK := hide (rightPush (a := 0) (d := h) hok (by omega) (by omega) (by omega) (by omega))
      have HFO := hide (show flushOut xs (ps ++ [(0, h)]) = ⟨applyP (ps ++ [(0, h)]) xs, [], ⟨#[]⟩, 0⟩ by unfold flushOut; rw [HOK.out]; rfl)
      have HF := hide (show formatOut xs ps = ⟨applyP (ps ++ [(0, h)]) xs, [], ⟨#[]⟩, 0, 0⟩ by unfold formatOut; rw [hok, if_neg (by simp), if_neg (by omega), Hh.out])
      have b0 : wc.cell? ⟨B, 0, none⟩ = some (.slice i1 j1 k1) := HRB.out.cell 0
      have b1 : wc.cell? ⟨B, 1, none⟩ = some (.slice i2 j2 k2) := HRB.out.cell 1
      have b3 : wc.cell? ⟨B, 3, none⟩ = some (.int .i64 0) := HRB.out.cell 3
      clear a0
      go_wp2_with fail
      refine (specFlush_any _ _ xs (ps ++ [(0, h)]) _ hn (by simp; omega) HO1.out.reads HO2.out.reads).mono ?_
      rw [HFO.out]
      rintro e w2 ⟨⟨fs, fp, rfl, o1, o2, dd⟩, hb2⟩
      obtain ⟨l1, m1, n1, rfl⟩ := o1.isSlice
      obtain ⟨l2, m2, n2, rfl⟩ := o2.isSlice
      have R3 := HXc.out.below hb2 HXc.out.lt
      have HB2 := hide (HBc.out.trans (hb2.mono HBc.out.size))
      have HO3 := hide (o1.mono (B' := w.heap.size) HBc.out.size)
      have HO4 := hide (o2.mono (B' := w.heap.size) HBc.out.size)
      have HL := hide (And.intro (fun x hx => (o1.leads x hx).1) (fun x hx => (o2.leads x hx).1))
      have HD := hide dd
      have c0 : w2.cell? ⟨w.heap.size + 1, 0, none⟩ = some (.slice none 0 0) := R3.cell 0
      have c1' : w2.cell? ⟨w.heap.size + 1, 1, none⟩ = some (.slice none 0 0) := R3.cell 1
      have c2' : w2.cell? ⟨w.heap.size + 1, 2, none⟩ = some (.string ⟨#[]⟩) := R3.cell 2
      have c3 : w2.cell? ⟨w.heap.size + 1, 3, none⟩ = some (.int .i64 0) := R3.cell 3
      have c4 : w2.cell? ⟨w.heap.size + 1, 4, none⟩ = some (.int .i64 0) := R3.cell 4
      have f0 := R3.free 0
      have f1 := R3.free 1
      have f2 := R3.free 2
      have f3 := R3.free 3
      have f4 := R3.free 4
      have HR3 := hide R3
      have hxl2 : w.heap.size + 1 < w2.heap.size := Nat.lt_of_lt_of_le HXc.out.lt hb2.size
      clear hb2 o1 o2 dd R3 b0 b1 b3
      go_wp2
      obtain ⟨q0, q1, q2, q3, q4, KF⟩ := five HR3.out (.slice l1 m1 n1) (.slice l2 m2 n2) (.string ⟨#[]⟩) (.int .i64 0) (.int .i64 0)
      have bn := below_new (((((w2.setCell ⟨w.heap.size + 1, 0, none⟩ (.slice l1 m1 n1)).setCell ⟨w.heap.size + 1, 1, none⟩ (.slice l2 m2 n2)).setCell ⟨w.heap.size + 1, 2, none⟩ (.string ⟨#[]⟩)).setCell ⟨w.heap.size + 1, 3, none⟩ (.int .i64 0)).setCell ⟨w.heap.size + 1, 4, none⟩ (.int .i64 0)) (.cells #[.slice l1 m1 n1, .slice l2 m2 n2, .string ⟨#[]⟩, .int .i64 0] 69)
      have hx2 := HXc.out.lt
      have k1 := KF.toBelow HB2.out HB2.out.size (by simp)
      exact bodyPost_ret (v := .agg #[.slice l1 m1 n1, .slice l2 m2 n2, .string ⟨#[]⟩, .int .i64 0, .int .i64 0]) (by simp [results, Tryz.results14, go_sem, q0, q1, q2, q3, q4, hxl2]) rfl
        ⟨by rw [HF.out]; exact ⟨_, _, rfl, (HO3.out.kept KF (fun x hx => by have h1 := HL.out.1 x hx; simp; omega)).below bn (Nat.le_refl _), (HO4.out.kept KF (fun x hx => by have h1 := HL.out.2 x hx; simp; omega)).below bn (Nat.le_refl _), HD.out⟩, k1.trans (bn.mono k1.size)⟩

theorem specFormat_any (vs vp : Value) (xs : List ByteArray) (ps : List (Int × ByteArray)) (w : World) (hn : xs.length ≤ 1048576) (hn2 : ps.length ≤ 1048576) (hr : Reads w vs xs) (hp : ReadsP w vp ps) :
    Calls Tryz.prog 14 #[.agg #[vs, vp]] w fun e w' => AOutIs w.heap.size e w' (formatOut xs ps) ∧ Below w.heap.size w w' := by
  cases hok : right xs ps with
  | false =>
    have h : formatOut xs ps = aill 1 := by unfold formatOut; rw [if_pos hok]
    rw [h]; exact specFormat_ill vs vp xs ps w hn hn2 hr hp hok
  | true =>
    by_cases hf : xs.length < 3
    · have h : formatOut xs ps = aill 9 := by unfold formatOut; rw [hok, if_neg (by simp), if_pos (.inl hf)]
      rw [h]; exact specFormat_few vs vp xs ps w hn hn2 hr hp hok hf
    · exact specFormat_rest vs vp xs ps w hn hn2 hr hp hok (by omega)
end Go.Proofs.YtkmehbgepkilkaaGreatDoor
