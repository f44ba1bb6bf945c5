/- The specification's AreaFormat. -/
import Derived.Test.YtnpbmaajgiapmaaGreatDoorXG19Apply
import Derived.Test.YtnpbmaajgiapmaaGreatDoorXG18SWrite
import Derived.Test.YtnpbmaajgiapmaaGreatDoorXG17SSeen8
import Derived.Test.YtnpbmaajgiapmaaGreatDoorXG15SSeen3
import Derived.Deep.RegionHeld3
import Derived.Deep.DeepCutAuto
import Derived.Laws.IdiomStrings
import Derived.Lib.AppendStr
namespace Go.Proofs.YtnpbmaajgiapmaaGreatDoor
open Go.RowKit

theorem headOf_size (g s z : Int) : (headOf g s z).size ≤ 34 := by
  have h1 := numText_size g
  have h2 := numText_size s
  have h3 := numText_size z
  unfold headOf
  have h4 : ∀ c : Int, (St1.four c).size = 4 := fun c => rfl
  unfold St1.sealOf
  simp only [ByteArray.size_append, h4]
  omega
theorem stored4 {T TS TP : TypeId} {b g : Nat} {w1 w8 : World} {us up t c x0 x1 x2 x3 : Value} {xs : List ByteArray} {ps : List (Int × ByteArray)} (R : Row w8 g T [x0, x1, x2, x3]) (hg : w1.heap.size ≤ g) (O1 : OwnS TS b w8 us xs) (O2 : OwnP TP b w8 up ps)
    (L1 : ∀ x ∈ leads us, x ≠ g) (L2 : ∀ x ∈ leads up, x ≠ g) (hB : Below w1.heap.size w1 w8) :
    Row ((((w8.setCell ⟨g, 0, none⟩ us).setCell ⟨g, 1, none⟩ up).setCell ⟨g, 2, none⟩ t).setCell ⟨g, 3, none⟩ c) g T [us, up, t, c] ∧
    OwnS TS b ((((w8.setCell ⟨g, 0, none⟩ us).setCell ⟨g, 1, none⟩ up).setCell ⟨g, 2, none⟩ t).setCell ⟨g, 3, none⟩ c) us xs ∧
    OwnP TP b ((((w8.setCell ⟨g, 0, none⟩ us).setCell ⟨g, 1, none⟩ up).setCell ⟨g, 2, none⟩ t).setCell ⟨g, 3, none⟩ c) up ps ∧
    Below w1.heap.size w1 ((((w8.setCell ⟨g, 0, none⟩ us).setCell ⟨g, 1, none⟩ up).setCell ⟨g, 2, none⟩ t).setCell ⟨g, 3, none⟩ c) := by
  have K : Kept [g] w8 ((((w8.setCell ⟨g, 0, none⟩ us).setCell ⟨g, 1, none⟩ up).setCell ⟨g, 2, none⟩ t).setCell ⟨g, 3, none⟩ c) :=
    ((((Kept.refl _ _).set (by simp) _).set (by simp) _).set (by simp) _).set (by simp) _
  exact ⟨(((R.set (j := 0) us).set (j := 1) up).set (j := 2) t).set (j := 3) c, O1.kept K (fun x hx => by simpa using L1 x hx), O2.kept K (fun x hx => by simpa using L2 x hx), K.toBelow hB hB.size (by simpa using hg)⟩
theorem alloc4 {T TS TP : TypeId} {b : Nat} {w1 w8 : World} {us up t c : Value} {xs : List ByteArray} {ps : List (Int × ByteArray)} (O1 : OwnS TS b w8 us xs) (O2 : OwnP TP b w8 up ps) (hB : Below w1.heap.size w1 w8) :
    Row (w8.alloc (.cells #[us, up, t, c] T)) w8.heap.size T [us, up, t, c] ∧ OwnS TS b (w8.alloc (.cells #[us, up, t, c] T)) us xs ∧ OwnP TP b (w8.alloc (.cells #[us, up, t, c] T)) up ps ∧ Below w1.heap.size w1 (w8.alloc (.cells #[us, up, t, c] T)) :=
  have bn := below_new w8 (.cells #[us, up, t, c] T)
  ⟨row_new w8 _ _, O1.below bn (Nat.le_refl _), O2.below bn (Nat.le_refl _), hB.trans (bn.mono hB.size)⟩
def formatOut (xs : List ByteArray) (ps : List (Int × ByteArray)) : AOut :=
  if right xs ps = false then aill 1 else if xs.length < 3 ∨ 200 ≤ ps.length then aill 9 else ⟨applyP (ps ++ [(0, headOf 0 0 0)]) xs, [], ⟨#[]⟩, 0, 0⟩

theorem l03Ill_any (c : Int) (w : World) :
    Calls Tryz.prog 65 #[.int .i64 c] w fun e w' => e = .returned (.agg #[.slice none 0 0, .slice none 0 0, .string ⟨#[]⟩, .int .i64 0, .int .i64 c]) ∧ Below w.heap.size w w' := by
  go_enter Tryz.func65, Tryz.ntmps65
  go_wp2
  exact bodyPost_ret (v := .agg #[.slice none 0 0, .slice none 0 0, .string ⟨#[]⟩, .int .i64 0, .int .i64 c]) (by simp [results, Tryz.results65, go_sem]) rfl ⟨rfl, (Below.refl _ _).alloc (Nat.le_refl _) _⟩

set_option maxHeartbeats 4000000 in
theorem specFormat_ill (vs vp : Value) (xs : List ByteArray) (ps : List (Int × ByteArray)) (w : World) (hn : xs.length ≤ 1048576) (hn2 : ps.length ≤ 1048576) (hr : Reads w vs xs) (hp : ReadsP w vp ps) (hok : right xs ps = false) :
    Calls Tryz.prog 36 #[.agg #[vs, vp]] w fun e w' => AOutIs w.heap.size e w' (aill 1) ∧ Below w.heap.size w w' := by
  have hb0 : Below w.heap.size w ((w.alloc (.cells #[vs, vp] 30)).alloc (.cells #[.slice none 0 0, .slice none 0 0, .string ⟨#[]⟩, .int .i64 0, .int .i64 0] 63)) :=
    ((Below.refl _ _).alloc (Nat.le_refl _) _).alloc (by simp) _
  have HR := hide (hr.below hb0 (Nat.le_refl _))
  have HP := hide (hp.below hb0 (Nat.le_refl _))
  have HB0 := hide hb0
  obtain ⟨p1, c1, rfl, hq⟩ := hr
  obtain ⟨p2, c2, rfl, hq2⟩ := hp
  have R1 := row_new (w.alloc (.cells #[.slice p1 xs.length c1, .slice p2 ps.length c2] 30)) [.slice none 0 0, .slice none 0 0, .string ⟨#[]⟩, .int .i64 0, .int .i64 0] 63
  simp only [World.size_alloc] at R1
  have HR1 := hide R1
  clear hb0 hq hq2 R1
  go_enter Tryz.func36, Tryz.ntmps36
  go_wp2_with fail
  refine (specRight_any _ _ xs ps _ hn hn2 HR.out HP.out).mono ?_
  rw [hok]
  rintro e w1 ⟨rfl, hb1⟩
  have HB1 := hide (HB0.out.trans (hb1.mono HB0.out.size))
  have HX1 := hide (HR1.out.below hb1 (by simp))
  clear hb1 HR HP HR1 HB0
  go_wp2_with fail
  refine (l03Ill_any _ _).mono ?_
  rintro e w2 ⟨rfl, hb2⟩
  have R3 := HX1.out.below hb2 HX1.out.lt
  have HB2 := hide (HB1.out.trans (hb2.mono HB1.out.size))
  have c0 : w2.cell? ⟨w.heap.size + 1, 0, none⟩ = some (.slice none 0 0) := R3.cell 0
  have c1' : w2.cell? ⟨w.heap.size + 1, 1, none⟩ = some (.slice none 0 0) := R3.cell 1
  have c2' : w2.cell? ⟨w.heap.size + 1, 2, none⟩ = some (.string ⟨#[]⟩) := R3.cell 2
  have c3 : w2.cell? ⟨w.heap.size + 1, 3, none⟩ = some (.int .i64 0) := R3.cell 3
  have c4 : w2.cell? ⟨w.heap.size + 1, 4, none⟩ = some (.int .i64 0) := R3.cell 4
  have f0 := R3.free 0
  have f1 := R3.free 1
  have f2 := R3.free 2
  have f3 := R3.free 3
  have f4 := R3.free 4
  have HR3 := hide R3
  clear hb2 R3
  go_wp2
  obtain ⟨q0, q1, q2, q3, q4, KF⟩ := five HR3.out (.slice none 0 0) (.slice none 0 0) (.string ⟨#[]⟩) (.int .i64 0) (.int .i64 1)
  exact bodyPost_ret (v := .agg #[.slice none 0 0, .slice none 0 0, .string ⟨#[]⟩, .int .i64 0, .int .i64 1]) (by simp [results, Tryz.results36, go_sem, q0, q1, q2, q3, q4]) rfl
    ⟨AOutIs.ill _ _ _, KF.toBelow HB2.out HB2.out.size (by simp)⟩

set_option maxHeartbeats 4000000 in
theorem specFormat_few (vs vp : Value) (xs : List ByteArray) (ps : List (Int × ByteArray)) (w : World) (hn : xs.length ≤ 1048576) (hn2 : ps.length ≤ 1048576) (hr : Reads w vs xs) (hp : ReadsP w vp ps) (hok : right xs ps = true) (hf : xs.length < 3) :
    Calls Tryz.prog 36 #[.agg #[vs, vp]] w fun e w' => AOutIs w.heap.size e w' (aill 9) ∧ Below w.heap.size w w' := by
  have t1 : (xs.length : Int) < 3 := by omega
  have hb0 : Below w.heap.size w ((w.alloc (.cells #[vs, vp] 30)).alloc (.cells #[.slice none 0 0, .slice none 0 0, .string ⟨#[]⟩, .int .i64 0, .int .i64 0] 63)) :=
    ((Below.refl _ _).alloc (Nat.le_refl _) _).alloc (by simp) _
  have HR := hide (hr.below hb0 (Nat.le_refl _))
  have HP := hide (hp.below hb0 (Nat.le_refl _))
  have HB0 := hide hb0
  obtain ⟨p1, c1, rfl, hq⟩ := hr
  obtain ⟨p2, c2, rfl, hq2⟩ := hp
  have R0 := (row_new w [.slice p1 xs.length c1, .slice p2 ps.length c2] 30).alloc (.cells #[.slice none 0 0, .slice none 0 0, .string ⟨#[]⟩, .int .i64 0, .int .i64 0] 63)
  have R1 := row_new (w.alloc (.cells #[.slice p1 xs.length c1, .slice p2 ps.length c2] 30)) [.slice none 0 0, .slice none 0 0, .string ⟨#[]⟩, .int .i64 0, .int .i64 0] 63
  simp only [World.size_alloc] at R1
  have HR0 := hide R0
  have HR1 := hide R1
  clear hb0 hq hq2 R1 R0
  go_enter Tryz.func36, Tryz.ntmps36
  go_wp2_with fail
  refine (specRight_any _ _ xs ps _ hn hn2 HR.out HP.out).mono ?_
  rw [hok]
  rintro e w1 ⟨rfl, hb1⟩
  have HB1 := hide (HB0.out.trans (hb1.mono HB0.out.size))
  have HX1 := hide (HR1.out.below hb1 (by simp))
  have HX0 := hide (HR0.out.below hb1 (by simp; omega))
  have a0 : w1.cell? ⟨w.heap.size, 0, none⟩ = some (.slice p1 xs.length c1) := HX0.out.cell 0
  clear hb1 HR HP HR1 HB0
  go_wp2_with fail
  refine (l03Ill_any _ _).mono ?_
  rintro e w2 ⟨rfl, hb2⟩
  have R3 := HX1.out.below hb2 HX1.out.lt
  have HB2 := hide (HB1.out.trans (hb2.mono HB1.out.size))
  have c0 : w2.cell? ⟨w.heap.size + 1, 0, none⟩ = some (.slice none 0 0) := R3.cell 0
  have c1' : w2.cell? ⟨w.heap.size + 1, 1, none⟩ = some (.slice none 0 0) := R3.cell 1
  have c2' : w2.cell? ⟨w.heap.size + 1, 2, none⟩ = some (.string ⟨#[]⟩) := R3.cell 2
  have c3 : w2.cell? ⟨w.heap.size + 1, 3, none⟩ = some (.int .i64 0) := R3.cell 3
  have c4 : w2.cell? ⟨w.heap.size + 1, 4, none⟩ = some (.int .i64 0) := R3.cell 4
  have f0 := R3.free 0
  have f1 := R3.free 1
  have f2 := R3.free 2
  have f3 := R3.free 3
  have f4 := R3.free 4
  have HR3 := hide R3
  clear hb2 R3 a0
  go_wp2
  obtain ⟨q0, q1, q2, q3, q4, KF⟩ := five HR3.out (.slice none 0 0) (.slice none 0 0) (.string ⟨#[]⟩) (.int .i64 0) (.int .i64 9)
  exact bodyPost_ret (v := .agg #[.slice none 0 0, .slice none 0 0, .string ⟨#[]⟩, .int .i64 0, .int .i64 9]) (by simp [results, Tryz.results36, go_sem, q0, q1, q2, q3, q4]) rfl
    ⟨AOutIs.ill _ _ _, KF.toBelow HB2.out HB2.out.size (by simp)⟩

set_option maxRecDepth 100000 in
set_option maxHeartbeats 4000000 in
theorem specFormat_rest (vs vp : Value) (xs : List ByteArray) (ps : List (Int × ByteArray)) (w : World) (hn : xs.length ≤ 1048576) (hn2 : ps.length ≤ 1048576) (hr : Reads w vs xs) (hp : ReadsP w vp ps) (hok : right xs ps = true) (hf : 3 ≤ xs.length) :
    Calls Tryz.prog 36 #[.agg #[vs, vp]] w fun e w' => AOutIs w.heap.size e w' (formatOut xs ps) ∧ Below w.heap.size w w' := by
  have t1 : ¬ (xs.length : Int) < 3 := by omega
  have hb0 : Below w.heap.size w ((w.alloc (.cells #[vs, vp] 30)).alloc (.cells #[.slice none 0 0, .slice none 0 0, .string ⟨#[]⟩, .int .i64 0, .int .i64 0] 63)) :=
    ((Below.refl _ _).alloc (Nat.le_refl _) _).alloc (by simp) _
  have HR := hide (hr.below hb0 (Nat.le_refl _))
  have HP := hide (hp.below hb0 (Nat.le_refl _))
  have HB0 := hide hb0
  obtain ⟨p1, c1, rfl, hq⟩ := hr
  obtain ⟨p2, c2, rfl, hq2⟩ := hp
  have R0 := (row_new w [.slice p1 xs.length c1, .slice p2 ps.length c2] 30).alloc (.cells #[.slice none 0 0, .slice none 0 0, .string ⟨#[]⟩, .int .i64 0, .int .i64 0] 63)
  have R1 := row_new (w.alloc (.cells #[.slice p1 xs.length c1, .slice p2 ps.length c2] 30)) [.slice none 0 0, .slice none 0 0, .string ⟨#[]⟩, .int .i64 0, .int .i64 0] 63
  simp only [World.size_alloc] at R1
  have HR0 := hide R0
  have HR1 := hide R1
  clear hb0 hq hq2 R1 R0
  go_enter Tryz.func36, Tryz.ntmps36
  go_wp2_with fail
  refine (specRight_any _ _ xs ps _ hn hn2 HR.out HP.out).mono ?_
  rw [hok]
  rintro e w1 ⟨rfl, hb1⟩
  have H1 := hide (Stab.go hb1 (P := fun w' => Row w' w.heap.size 30 [.slice p1 xs.length c1, .slice p2 ps.length c2] ∧ Reads w' (.slice p1 xs.length c1) xs ∧ ReadsP w' (.slice p2 ps.length c2) ps) ⟨HR0.out, HR.out, HP.out⟩)
  have HB1 := hide (HB0.out.trans (hb1.mono HB0.out.size))
  have HX1 := hide (HR1.out.below hb1 (by simp))
  have a0 : w1.cell? ⟨w.heap.size, 0, none⟩ = some (.slice p1 xs.length c1) := H1.out.1.cell 0
  clear hb1 HR HP HR1 HR0 HB0
  go_wp2_with fail
  obtain ⟨h, Hh⟩ : ∃ h, Hid (h = headOf 0 0 0) := ⟨_, rfl⟩
  have hsz : h.size ≤ 34 := by rw [Hh.out]; exact headOf_size 0 0 0
  obtain ⟨o, Ho⟩ : ∃ o, Hid (o = writeOut xs ps 0 h) := ⟨_, rfl⟩
  go_cut [3] (fun t3 wx => ∃ (B : Nat) (us up : Value), t3 = .pointer (some ⟨B, 0, none⟩) ∧ Hid (w1.heap.size ≤ B) ∧ Hid (Row wx B 101 [us, up, .string o.t, .int .i64 o.c]) ∧ Hid (OwnS 9 w1.heap.size wx us o.xs) ∧ Hid (OwnP 92 w1.heap.size wx up o.ps) ∧ Hid (Below w1.heap.size w1 wx))
  case first =>
    have HSS := hide (show ∀ x, Below w1.heap.size w1 x → x.cell? ⟨w.heap.size, 0, none⟩ = some (.slice p1 xs.length c1) ∧ x.cell? ⟨w.heap.size, 1, none⟩ = some (.slice p2 ps.length c2) ∧ Below w1.heap.size w1 x from
      fun x h => ⟨(Row.after h H1.out.1).cell 0, (Row.after h H1.out.1).cell 1, h⟩)
    go_region_held3 (fun x => x.cell? ⟨w.heap.size, 0, none⟩ = some (.slice p1 xs.length c1) ∧ x.cell? ⟨w.heap.size, 1, none⟩ = some (.slice p2 ps.length c2) ∧ Below w1.heap.size w1 x)
      ((go_split_ands; refine HSS.out _ ?_; repeat (first | with_reducible assumption | with_reducible exact Below.refl _ _ | with_reducible refine Below.drew ?_ | with_reducible refine Below.alloc ?_ (by first | exact Nat.le_refl _ | exact Below.size (by assumption) | (simp; omega)) _ | with_reducible refine Below.setCell ?_ (by simp; try omega) _)))
      ((first
        | (go_at_call 72; go_split_ands; refine (l03Head_any 0 0 0 _ (by omega) (by omega) (by omega)).mono ?_; rw [← Hh.out]; rintro e w7 ⟨rfl, hb7⟩
           have hB7 : Below w1.heap.size w1 w7 := Below.trans (by assumption) (hb7.mono (Below.size (by assumption)))
           have hz7 := hB7.size
           first
             | have R7 : Row w7 w1.heap.size 101 [.slice none 0 0, .slice none 0 0, .string ⟨#[]⟩, .int .i64 0] := Row.after hb7 (row_new w1 [.slice none 0 0, .slice none 0 0, .string ⟨#[]⟩, .int .i64 0] 101).drew
             | skip
           clear hb7)
        | (go_at_call 69; go_split_ands; refine (specWrite_any _ _ xs ps 0 h _ hn hn2 (by omega) (H1.out.2.1.below (by assumption) (Nat.le_refl _)) (H1.out.2.2.below (by assumption) (Nat.le_refl _))).mono ?_; rw [← Ho.out]; rintro e w8 ⟨⟨us, up, rfl, o1, o2, dd⟩, hb8⟩
           have hB8 : Below w1.heap.size w1 w8 := Below.trans (by assumption) (hb8.mono (Below.size (by assumption)))
           have hz8 := hB8.size
           have L1 := hide (fun x hx => (o1.leads x hx).1)
           have L2 := hide (fun x hx => (o2.leads x hx).1)
           have O1 := hide (o1.mono (B' := w1.heap.size) (Below.size (by assumption)))
           have O2 := hide (o2.mono (B' := w1.heap.size) (Below.size (by assumption)))
           obtain ⟨i1, j1, k1, rfl⟩ := o1.isSlice
           obtain ⟨i2, j2, k2, rfl⟩ := o2.isSlice
           first
             | (have R8 := Row.after hb8 R7; have g0 : w8.cell? ⟨w1.heap.size, 0, none⟩ = some (.slice none 0 0) := R8.cell 0; have g1 : w8.cell? ⟨w1.heap.size, 1, none⟩ = some (.slice none 0 0) := R8.cell 1; have g2 : w8.cell? ⟨w1.heap.size, 2, none⟩ = some (.string ⟨#[]⟩) := R8.cell 2; have g3 : w8.cell? ⟨w1.heap.size, 3, none⟩ = some (.int .i64 0) := R8.cell 3; have e0 := R8.free 0; have e1 := R8.free 1; have e2 := R8.free 2; have e3 := R8.free 3)
             | (have R8 : Row w8 w7.heap.size 101 [.slice none 0 0, .slice none 0 0, .string ⟨#[]⟩, .int .i64 0] := Row.after hb8 (row_new w7 [.slice none 0 0, .slice none 0 0, .string ⟨#[]⟩, .int .i64 0] 101); have g0 : w8.cell? ⟨w7.heap.size, 0, none⟩ = some (.slice none 0 0) := R8.cell 0; have g1 : w8.cell? ⟨w7.heap.size, 1, none⟩ = some (.slice none 0 0) := R8.cell 1; have g2 : w8.cell? ⟨w7.heap.size, 2, none⟩ = some (.string ⟨#[]⟩) := R8.cell 2; have g3 : w8.cell? ⟨w7.heap.size, 3, none⟩ = some (.int .i64 0) := R8.cell 3; have e0 := R8.free 0; have e1 := R8.free 1; have e2 := R8.free 2; have e3 := R8.free 3)
             | skip
           clear hb8 o1 o2 dd)))
    all_goals go_wp2_with fail
    all_goals go_meet
    · obtain ⟨r1, r2, r3, r4⟩ := alloc4 (T := 101) (t := .string o.t) (c := .int .i64 o.c) O1.out O2.out hB8
      exact ⟨_, _, _, rfl, hz8, r1, r2, r3, r4⟩
    all_goals
      obtain ⟨r1, r2, r3, r4⟩ := stored4 (t := .string o.t) (c := .int .i64 o.c) R8 (by omega) O1.out O2.out (fun x hx => by have h1 := L1.out x hx; have h2 := R8.lt; first | (have h3 := R7.lt; (try simp at h1); omega) | ((try simp at h1); omega)) (fun x hx => by have h1 := L2.out x hx; have h2 := R8.lt; first | (have h3 := R7.lt; (try simp at h1); omega) | ((try simp at h1); omega)) hB8
      exact ⟨_, _, _, rfl, (by first | exact hz7 | exact Nat.le_refl _), r1, r2, r3, r4⟩
  case rest =>
    obtain ⟨B, us, up, rfl, HBB, HRB, HO1, HO2, HBw⟩ := hcut
    obtain ⟨i1, j1, k1, rfl⟩ := HO1.out.isSlice
    obtain ⟨i2, j2, k2, rfl⟩ := HO2.out.isSlice
    have HBc := hide (HB1.out.trans (HBw.out.mono HB1.out.size))
    have HXc := hide (Row.after HBw.out HX1.out)
    have hXl := HX1.out.lt
    have hBB := HBB.out
    have hbl := HRB.out.lt
    by_cases hfull : 200 ≤ ps.length
    · have ho : o = illOut 9 := by rw [Ho.out]; unfold writeOut; rw [if_neg (by omega), if_neg (by rw [hok]; simp; omega), if_pos (by omega), if_pos hfull]
      subst ho
      have b3 : wc.cell? ⟨B, 3, none⟩ = some (.int .i64 9) := HRB.out.cell 3
      have HF := hide (show formatOut xs ps = aill 9 by unfold formatOut; rw [hok, if_neg (by simp), if_pos (.inr hfull)])
      clear a0
      go_wp2_with fail
      refine (l03Ill_any _ _).mono ?_
      rintro e w2 ⟨rfl, hb2⟩
      have R3 := HXc.out.below hb2 HXc.out.lt
      have HB2 := hide (HBc.out.trans (hb2.mono HBc.out.size))
      have c0 : w2.cell? ⟨w.heap.size + 1, 0, none⟩ = some (.slice none 0 0) := R3.cell 0
      have c1' : w2.cell? ⟨w.heap.size + 1, 1, none⟩ = some (.slice none 0 0) := R3.cell 1
      have c2' : w2.cell? ⟨w.heap.size + 1, 2, none⟩ = some (.string ⟨#[]⟩) := R3.cell 2
      have c3 : w2.cell? ⟨w.heap.size + 1, 3, none⟩ = some (.int .i64 0) := R3.cell 3
      have c4 : w2.cell? ⟨w.heap.size + 1, 4, none⟩ = some (.int .i64 0) := R3.cell 4
      have f0 := R3.free 0
      have f1 := R3.free 1
      have f2 := R3.free 2
      have f3 := R3.free 3
      have f4 := R3.free 4
      have HR3 := hide R3
      clear hb2 R3 b3
      go_wp2
      obtain ⟨q0, q1, q2, q3, q4, KF⟩ := five HR3.out (.slice none 0 0) (.slice none 0 0) (.string ⟨#[]⟩) (.int .i64 0) (.int .i64 9)
      exact bodyPost_ret (v := .agg #[.slice none 0 0, .slice none 0 0, .string ⟨#[]⟩, .int .i64 0, .int .i64 9]) (by simp [results, Tryz.results36, go_sem, q0, q1, q2, q3, q4]) rfl
        ⟨by rw [HF.out]; exact AOutIs.ill _ _ _, KF.toBelow HB2.out HB2.out.size (by simp)⟩
    · have ho : o = ⟨xs, ps ++ [(0, h)], ⟨#[]⟩, 0⟩ := by rw [Ho.out]; unfold writeOut; rw [if_neg (by omega), if_neg (by rw [hok]; simp; omega), if_pos (by omega), if_neg hfull]
      subst ho
      have HOK := hide (rightPush (a := 0) (d := h) hok (by omega) (by omega) (by omega) (by omega))
      have HFO := hide (show flushOut xs (ps ++ [(0, h)]) = ⟨applyP (ps ++ [(0, h)]) xs, [], ⟨#[]⟩, 0⟩ by unfold flushOut; rw [HOK.out]; rfl)
      have HF := hide (show formatOut xs ps = ⟨applyP (ps ++ [(0, h)]) xs, [], ⟨#[]⟩, 0, 0⟩ by unfold formatOut; rw [hok, if_neg (by simp), if_neg (by omega), Hh.out])
      have b0 : wc.cell? ⟨B, 0, none⟩ = some (.slice i1 j1 k1) := HRB.out.cell 0
      have b1 : wc.cell? ⟨B, 1, none⟩ = some (.slice i2 j2 k2) := HRB.out.cell 1
      have b3 : wc.cell? ⟨B, 3, none⟩ = some (.int .i64 0) := HRB.out.cell 3
      clear a0
      go_wp2_with fail
      refine (specFlush_any _ _ xs (ps ++ [(0, h)]) _ hn (by simp; omega) HO1.out.reads HO2.out.reads).mono ?_
      rw [HFO.out]
      rintro e w2 ⟨⟨fs, fp, rfl, o1, o2, dd⟩, hb2⟩
      obtain ⟨l1, m1, n1, rfl⟩ := o1.isSlice
      obtain ⟨l2, m2, n2, rfl⟩ := o2.isSlice
      have R3 := HXc.out.below hb2 HXc.out.lt
      have HB2 := hide (HBc.out.trans (hb2.mono HBc.out.size))
      have HO3 := hide (o1.mono (B' := w.heap.size) HBc.out.size)
      have HO4 := hide (o2.mono (B' := w.heap.size) HBc.out.size)
      have HL := hide (And.intro (fun x hx => (o1.leads x hx).1) (fun x hx => (o2.leads x hx).1))
      have HD := hide dd
      have c0 : w2.cell? ⟨w.heap.size + 1, 0, none⟩ = some (.slice none 0 0) := R3.cell 0
      have c1' : w2.cell? ⟨w.heap.size + 1, 1, none⟩ = some (.slice none 0 0) := R3.cell 1
      have c2' : w2.cell? ⟨w.heap.size + 1, 2, none⟩ = some (.string ⟨#[]⟩) := R3.cell 2
      have c3 : w2.cell? ⟨w.heap.size + 1, 3, none⟩ = some (.int .i64 0) := R3.cell 3
      have c4 : w2.cell? ⟨w.heap.size + 1, 4, none⟩ = some (.int .i64 0) := R3.cell 4
      have f0 := R3.free 0
      have f1 := R3.free 1
      have f2 := R3.free 2
      have f3 := R3.free 3
      have f4 := R3.free 4
      have HR3 := hide R3
      have hxl2 : w.heap.size + 1 < w2.heap.size := Nat.lt_of_lt_of_le HXc.out.lt hb2.size
      clear hb2 o1 o2 dd R3 b0 b1 b3
      go_wp2
      obtain ⟨q0, q1, q2, q3, q4, KF⟩ := five HR3.out (.slice l1 m1 n1) (.slice l2 m2 n2) (.string ⟨#[]⟩) (.int .i64 0) (.int .i64 0)
      have bn := below_new (((((w2.setCell ⟨w.heap.size + 1, 0, none⟩ (.slice l1 m1 n1)).setCell ⟨w.heap.size + 1, 1, none⟩ (.slice l2 m2 n2)).setCell ⟨w.heap.size + 1, 2, none⟩ (.string ⟨#[]⟩)).setCell ⟨w.heap.size + 1, 3, none⟩ (.int .i64 0)).setCell ⟨w.heap.size + 1, 4, none⟩ (.int .i64 0)) (.cells #[.slice l1 m1 n1, .slice l2 m2 n2, .string ⟨#[]⟩, .int .i64 0] 101)
      have hx2 := HXc.out.lt
      have k1 := KF.toBelow HB2.out HB2.out.size (by simp)
      exact bodyPost_ret (v := .agg #[.slice l1 m1 n1, .slice l2 m2 n2, .string ⟨#[]⟩, .int .i64 0, .int .i64 0]) (by simp [results, Tryz.results36, go_sem, q0, q1, q2, q3, q4, hxl2]) rfl
        ⟨by rw [HF.out]; exact ⟨_, _, rfl, (HO3.out.kept KF (fun x hx => by have h1 := HL.out.1 x hx; simp; omega)).below bn (Nat.le_refl _), (HO4.out.kept KF (fun x hx => by have h1 := HL.out.2 x hx; simp; omega)).below bn (Nat.le_refl _), HD.out⟩, k1.trans (bn.mono k1.size)⟩

theorem specFormat_any (vs vp : Value) (xs : List ByteArray) (ps : List (Int × ByteArray)) (w : World) (hn : xs.length ≤ 1048576) (hn2 : ps.length ≤ 1048576) (hr : Reads w vs xs) (hp : ReadsP w vp ps) :
    Calls Tryz.prog 36 #[.agg #[vs, vp]] w fun e w' => AOutIs w.heap.size e w' (formatOut xs ps) ∧ Below w.heap.size w w' := by
  cases hok : right xs ps with
  | false =>
    have h : formatOut xs ps = aill 1 := by unfold formatOut; rw [if_pos hok]
    rw [h]; exact specFormat_ill vs vp xs ps w hn hn2 hr hp hok
  | true =>
    by_cases hf : xs.length < 3
    · have h : formatOut xs ps = aill 9 := by unfold formatOut; rw [hok, if_neg (by simp), if_pos (.inl hf)]
      rw [h]; exact specFormat_few vs vp xs ps w hn hn2 hr hp hok hf
    · exact specFormat_rest vs vp xs ps w hn hn2 hr hp hok (by omega)
end Go.Proofs.YtnpbmaajgiapmaaGreatDoor
/- The specification's AreaRead. -/
namespace Go.Proofs.YtnpbmaajgiapmaaGreatDoor
open Go.RowKit

theorem Tryz.infoB : (Tryz.prog.info? 5).map (fun i => (i.zero, i.size, i.bytes)) = some (some (.int .u8 0), 1, 1) := by kernel_rfl
/-- What was last written to the sector k. -/
def secAt (xs : List ByteArray) (ps : List (Int × ByteArray)) (k : Nat) : ByteArray := lastAt (k : Int) ps (xs.getD k ⟨#[]⟩)
/-- How many bytes of a text stand in its sector j. -/
def want (size j : Nat) : Nat := min 64 (size - 64 * j)
def gath (f : Nat → ByteArray) (size : Nat) : Nat → ByteArray
  | 0 => ⟨#[]⟩
  | k + 1 => gath f size k ++ (f k).extract 0 (want size k)
def full (f : Nat → ByteArray) (size m : Nat) : Bool := (List.range m).all fun j => decide (want size j ≤ (f j).size)
theorem full_step (f : Nat → ByteArray) (size m : Nat) : full f size (m + 1) = (full f size m && decide (want size m ≤ (f m).size)) := by
  unfold full; rw [List.range_succ, List.all_append]; simp
theorem full_not {f : Nat → ByteArray} {size k m : Nat} (h : k < m) (hk : ¬ want size k ≤ (f k).size) : full f size m = false := by
  unfold full
  rw [← Bool.not_eq_true, List.all_eq_true]
  intro h2
  have := h2 k (by simpa using h)
  simp at this
  exact hk this
theorem gath_size {f : Nat → ByteArray} {size : Nat} : ∀ k, full f size k = true → (gath f size k).size = min (64 * k) size
  | 0 => fun _ => by simp [gath, ByteArray.size]
  | k + 1 => fun h => by
    rw [full_step, Bool.and_eq_true] at h
    have h1 := gath_size k h.1
    have h2 : want size k ≤ (f k).size := by simpa using h.2
    rw [gath, ByteArray.size_append, h1, ByteArray.size_extract]
    unfold want at h2 ⊢
    omega
/-- The sectors of the side that the head names. -/
def sideAt (xs : List ByteArray) (ps : List (Int × ByteArray)) (side : Int) (j : Nat) : ByteArray := secAt xs ps (1 + side.toNat * (half xs.length).toNat + j)
def areaOut (xs : List ByteArray) (ps : List (Int × ByteArray)) : AOut :=
  if right xs ps = false then aill 1
  else if (seen xs ps).2.2.2 ≠ 0 then aill (seen xs ps).2.2.2
  else if full (sideAt xs ps (seen xs ps).2.1) (seen xs ps).2.2.1.toNat (((seen xs ps).2.2.1.toNat + 63) / 64) then ⟨xs, ps, gath (sideAt xs ps (seen xs ps).2.1) (seen xs ps).2.2.1.toNat (((seen xs ps).2.2.1.toNat + 63) / 64), (seen xs ps).1, 0⟩
  else aill 5
theorem seen_ok {xs : List ByteArray} {ps : List (Int × ByteArray)} (h : (seen xs ps).2.2.2 = 0) : 0 ≤ (seen xs ps).1 ∧ (0 ≤ (seen xs ps).2.1 ∧ (seen xs ps).2.1 ≤ 1) ∧ (0 ≤ (seen xs ps).2.2.1 ∧ (seen xs ps).2.2.1 ≤ 64 * half xs.length) := by
  unfold seen at h ⊢
  simp only at h ⊢
  split
  · rename_i h4; rw [if_pos h4] at h; simp at h
  · rename_i h4
    rw [if_neg h4] at h
    split
    · rename_i h5; rw [if_pos h5] at h; simp at h
    · rename_i h5
      rw [if_neg h5] at h
      split
      · rename_i h6; exact ⟨h6.2.2.2.2.1, h6.2.2.2.2.2.1, h6.2.2.2.2.2.2⟩
      · rename_i h6; rw [if_neg h6] at h; simp at h
theorem text_of_row {P : Program} {e t T B : Nat} {w : World} {v : Value} {b : ByteArray} (h : w.ownsRow B e 1 v b.size (Lib.strCells b)) (hne : v ≠ .slice none 0 0)
    (ht : P.underlying t = some (.slice e)) (he : P.underlying e = some (.int .u8)) (hT : P.underlying T = some .string) : (convert t T v).run P w = .ok (.string b) w := by
  obtain ⟨h0, hv⟩ := h
  rcases hv with ⟨rfl, hn⟩ | ⟨g, cap, cur, rfl, _, hh, hnc, _, hcs, htk⟩
  · exact absurd rfl hne
  · have hbl : b.data.toList.length = b.size := by rw [Array.length_toList]; rfl
    have := run_convert_bytes_back (P := P) w t T e ⟨g, 0, none⟩ cap b.data.toList ht he hT (fun j hj => by
      rw [Addr.add_lit, Nat.zero_add, cell_of_row w g j _ e (0, 0) hh]
      have e1 : cur[j]? = (cur.toList.take (b.size * 1))[j]? := by
        rw [List.getElem?_take_of_lt (by omega)]; simp
      rw [e1, htk, Lib.strCells, List.getElem?_map, List.getElem?_eq_getElem hj]
      simp)
    rw [hbl] at this
    exact this

set_option maxHeartbeats 400000 in
theorem l03First_any (vs vp : Value) (xs : List ByteArray) (s : Int) (w : World) (hx : 1 ≤ xs.length) (hn : xs.length ≤ 1048576) (hs : 0 ≤ s ∧ s ≤ 1) (hr : Reads w vs xs) (hv : ∃ p n k, vp = .slice p n k) :
    Calls Tryz.prog 70 #[.agg #[vs, vp], .int .i64 s] w fun e w' => e = .returned (.int .i64 (1 + s * half xs.length)) ∧ Below w.heap.size w w' := by
  have hb0 : Below w.heap.size w (w.alloc (.cells #[vs, vp] 30)) := (Below.refl _ _).alloc (Nat.le_refl _) _
  have HR := hide (hr.below hb0 (Nat.le_refl _))
  have HB0 := hide hb0
  obtain ⟨p1, c1, rfl, hq⟩ := hr
  obtain ⟨p2, m2, c2, rfl⟩ := hv
  clear hq hb0
  have hh : 0 ≤ half xs.length ∧ half xs.length ≤ 1048576 := by unfold half; omega
  have hm : s * half xs.length = 0 ∨ s * half xs.length = half xs.length := by
    rcases (show s = 0 ∨ s = 1 by omega) with rfl | rfl
    · left; simp
    · right; simp
  have hw1 : IntKind.i64.wrap (s * half xs.length) = s * half xs.length := by rw [IntKind.wrap_i64]; omega
  have hw2 : IntKind.i64.wrap (1 + s * half xs.length) = 1 + s * half xs.length := by rw [IntKind.wrap_i64]; omega
  clear hm hs
  go_enter Tryz.func70, Tryz.ntmps70
  go_wp2_with fail
  refine (l03Half_any _ _ xs _ hx hn HR.out).mono ?_
  rintro e w2 ⟨rfl, hb2⟩
  have HB2 := hide (HB0.out.trans (hb2.mono HB0.out.size))
  clear hb2
  go_wp2
  go_ret
  exact ⟨rfl, HB2.out⟩
theorem l01Min_any (a b : Int) (w : World) :
    Calls Tryz.prog 71 #[.int .i64 a, .int .i64 b] w fun e w' => e = .returned (.int .i64 (min a b)) ∧ w' = w := by
  by_cases h : a < b
  · go_enter Tryz.func71, Tryz.ntmps71
    go_wp2
    go_ret
    exact ⟨ret_int (by omega), rfl⟩
  · go_enter Tryz.func71, Tryz.ntmps71
    go_wp2
    go_ret
    exact ⟨ret_int (by omega), rfl⟩
end Go.Proofs.YtnpbmaajgiapmaaGreatDoor
/- The specification's AreaRead: the walk. -/
namespace Go.Proofs.YtnpbmaajgiapmaaGreatDoor
open Go.RowKit

theorem row_form {w : World} {B n : Nat} {e : TypeId} {v : Value} {xs : List Value} (h : w.ownsRow B e 1 v n xs) (hne : v ≠ .slice none 0 0) : ∃ g cap, v = .slice (some ⟨g, 0, none⟩) n cap ∧ B ≤ g := by
  obtain ⟨_, ⟨rfl, _⟩ | ⟨g, cap, cur, rfl, hB, _⟩⟩ := h
  · exact absurd rfl hne
  · exact ⟨g, cap, rfl, hB⟩
theorem below_grown {B : Nat} {w0 w w' : World} {row : Option Nat} (h : Below B w0 w) (hB : B ≤ w.heap.size) (hg : w.grownBy w' row) (hr : ∀ k, row = some k → B ≤ k) : Below B w0 w' :=
  ⟨hg.os.trans h.os, hg.tape.trans h.tape, hg.output.trans h.output, Nat.le_trans h.size hg.size, fun k hk => (hg.block k (Nat.lt_of_lt_of_le hk hB) (fun e => absurd (hr k e.symm) (by omega))).trans (h.block k hk)⟩
theorem row_grown {w w' : World} {g : Nat} {T : TypeId} {cs : List Value} {row : Option Nat} (h : Row w g T cs) (hg : w.grownBy w' row) (hr : row ≠ some g) : Row w' g T cs := by
  unfold Row; rw [hg.block g h.lt (fun e => hr e.symm)]; exact h
theorem ownsRow_after {w w' : World} {B n : Nat} {e : TypeId} {v : Value} {xs : List Value} (h : w.ownsRow B e 1 v n xs) (hb : Below w.heap.size w w') : w'.ownsRow B e 1 v n xs := by
  obtain ⟨h0, h1 | ⟨g, cap, cur, hv, hB, hh, hr⟩⟩ := h
  · exact ⟨h0, .inl h1⟩
  · have hlt : g < w.heap.size := (Array.getElem?_eq_some_iff.1 hh).1
    exact ⟨h0, .inr ⟨g, cap, cur, hv, hB, by rw [hb.block g hlt]; exact hh, hr⟩⟩
theorem ownsRow_keptN {S : List Nat} {w w' : World} {B n : Nat} {e : TypeId} {v : Value} {xs : List Value} (h : w.ownsRow B e 1 v n xs) (hk : Kept S w w') (hS : ∀ g c, v = .slice (some ⟨g, 0, none⟩) n c → g ∉ S) : w'.ownsRow B e 1 v n xs := by
  obtain ⟨h0, h1 | ⟨g, cap, cur, hv, hB, hh, hr⟩⟩ := h
  · exact ⟨h0, .inl h1⟩
  · have hlt : g < w.heap.size := (Array.getElem?_eq_some_iff.1 hh).1
    exact ⟨h0, .inr ⟨g, cap, cur, hv, hB, by rw [hk.block g hlt (hS g cap hv)]; exact hh, hr⟩⟩
theorem strCells_append (a b : ByteArray) : Lib.strCells (a ++ b) = Lib.strCells a ++ Lib.strCells b := by
  unfold Lib.strCells; simp
set_option maxHeartbeats 4000000 in
theorem specAreaRead_ill (vs vp : Value) (xs : List ByteArray) (ps : List (Int × ByteArray)) (w : World) (hn : xs.length ≤ 1048576) (hn2 : ps.length ≤ 1048576) (hr : Reads w vs xs) (hp : ReadsP w vp ps) (hok : right xs ps = false) :
    Calls Tryz.prog 57 #[.agg #[vs, vp]] w fun e w' => AOutIs w.heap.size e w' (aill 1) ∧ Below w.heap.size w w' := by
  have hb0 : Below w.heap.size w ((w.alloc (.cells #[vs, vp] 30)).alloc (.cells #[.slice none 0 0, .slice none 0 0, .string ⟨#[]⟩, .int .i64 0, .int .i64 0] 63)) :=
    ((Below.refl _ _).alloc (Nat.le_refl _) _).alloc (by simp) _
  have HR := hide (hr.below hb0 (Nat.le_refl _))
  have HP := hide (hp.below hb0 (Nat.le_refl _))
  have HB0 := hide hb0
  obtain ⟨p1, c1, rfl, hq⟩ := hr
  obtain ⟨p2, c2, rfl, hq2⟩ := hp
  have R1 := row_new (w.alloc (.cells #[.slice p1 xs.length c1, .slice p2 ps.length c2] 30)) [.slice none 0 0, .slice none 0 0, .string ⟨#[]⟩, .int .i64 0, .int .i64 0] 63
  simp only [World.size_alloc] at R1
  have HR1 := hide R1
  clear hb0 hq hq2 R1
  go_enter Tryz.func57, Tryz.ntmps57
  go_wp2_with fail
  refine (specRight_any _ _ xs ps _ hn hn2 HR.out HP.out).mono ?_
  rw [hok]
  rintro e w1 ⟨rfl, hb1⟩
  have HB1 := hide (HB0.out.trans (hb1.mono HB0.out.size))
  have HX1 := hide (HR1.out.below hb1 (by simp))
  clear hb1 HR HP HR1 HB0
  go_wp2_with fail
  refine (l03Ill_any _ _).mono ?_
  rintro e w2 ⟨rfl, hb2⟩
  have R3 := HX1.out.below hb2 HX1.out.lt
  have HB2 := hide (HB1.out.trans (hb2.mono HB1.out.size))
  have c0 : w2.cell? ⟨w.heap.size + 1, 0, none⟩ = some (.slice none 0 0) := R3.cell 0
  have c1' : w2.cell? ⟨w.heap.size + 1, 1, none⟩ = some (.slice none 0 0) := R3.cell 1
  have c2' : w2.cell? ⟨w.heap.size + 1, 2, none⟩ = some (.string ⟨#[]⟩) := R3.cell 2
  have c3 : w2.cell? ⟨w.heap.size + 1, 3, none⟩ = some (.int .i64 0) := R3.cell 3
  have c4 : w2.cell? ⟨w.heap.size + 1, 4, none⟩ = some (.int .i64 0) := R3.cell 4
  have f0 := R3.free 0
  have f1 := R3.free 1
  have f2 := R3.free 2
  have f3 := R3.free 3
  have f4 := R3.free 4
  have HR3 := hide R3
  clear hb2 R3
  go_wp2
  obtain ⟨q0, q1, q2, q3, q4, KF⟩ := five HR3.out (.slice none 0 0) (.slice none 0 0) (.string ⟨#[]⟩) (.int .i64 0) (.int .i64 1)
  exact bodyPost_ret (v := .agg #[.slice none 0 0, .slice none 0 0, .string ⟨#[]⟩, .int .i64 0, .int .i64 1]) (by simp [results, Tryz.results57, go_sem, q0, q1, q2, q3, q4]) rfl
    ⟨AOutIs.ill _ _ _, KF.toBelow HB2.out HB2.out.size (by simp)⟩

set_option maxRecDepth 100000 in
set_option maxHeartbeats 8000000 in
theorem specAreaRead_rest (vs vp : Value) (xs : List ByteArray) (ps : List (Int × ByteArray)) (w : World) (hn : xs.length ≤ 1048576) (hn2 : ps.length ≤ 1048576) (hr : Reads w vs xs) (hp : ReadsP w vp ps) (hok : right xs ps = true) :
    Calls Tryz.prog 57 #[.agg #[vs, vp]] w fun e w' => AOutIs w.heap.size e w' (areaOut xs ps) ∧ Below w.heap.size w w' := by
  obtain ⟨i0, hi, hz0, hz1, hz2⟩ := info_parts Tryz.infoB
  have hb0 : Below w.heap.size w ((w.alloc (.cells #[vs, vp] 30)).alloc (.cells #[.slice none 0 0, .slice none 0 0, .string ⟨#[]⟩, .int .i64 0, .int .i64 0] 63)) :=
    ((Below.refl _ _).alloc (Nat.le_refl _) _).alloc (by simp) _
  have HR := hide (hr.below hb0 (Nat.le_refl _))
  have HP := hide (hp.below hb0 (Nat.le_refl _))
  have HRw := hide hr
  have HPw := hide hp
  have HB0 := hide hb0
  have HOK := hide hok
  have hlen := right_ge hok
  obtain ⟨p1, c1, rfl, hq⟩ := hr
  obtain ⟨p2, c2, rfl, hq2⟩ := hp
  have R0 := (row_new w [.slice p1 xs.length c1, .slice p2 ps.length c2] 30).alloc (.cells #[.slice none 0 0, .slice none 0 0, .string ⟨#[]⟩, .int .i64 0, .int .i64 0] 63)
  have R1 := row_new (w.alloc (.cells #[.slice p1 xs.length c1, .slice p2 ps.length c2] 30)) [.slice none 0 0, .slice none 0 0, .string ⟨#[]⟩, .int .i64 0, .int .i64 0] 63
  simp only [World.size_alloc] at R1
  have HR0 := hide R0
  have HR1 := hide R1
  clear hb0 hq hq2 R1 R0
  go_enter Tryz.func57, Tryz.ntmps57
  go_wp2_with fail
  refine (specRight_any _ _ xs ps _ hn hn2 HR.out HP.out).mono ?_
  rw [hok]
  rintro e w1 ⟨rfl, hb1⟩
  have HB1 := hide (HB0.out.trans (hb1.mono HB0.out.size))
  have HX1 := hide (HR1.out.below hb1 (by simp))
  have HX0 := hide (HR0.out.below hb1 (by simp; omega))
  have HRa := hide (HR.out.below hb1 (Nat.le_refl _))
  have HPa := hide (HP.out.below hb1 (Nat.le_refl _))
  have a0 : w1.cell? ⟨w.heap.size, 0, none⟩ = some (.slice p1 xs.length c1) := HX0.out.cell 0
  have a1 : w1.cell? ⟨w.heap.size, 1, none⟩ = some (.slice p2 ps.length c2) := HX0.out.cell 1
  clear hb1 HR HP HR1 HR0 HB0 hok
  go_wp2_with fail
  obtain ⟨r, Hr⟩ : ∃ r, Hid (r = seen xs ps) := ⟨_, rfl⟩
  refine (specSeen_any _ _ xs ps _ HOK.out hn hn2 HRa.out HPa.out).mono ?_
  rw [← Hr.out]
  obtain ⟨gen, side, size, code⟩ := r
  rintro e w2 ⟨he, hb2⟩
  rw [show seenV (gen, side, size, code) = .tuple #[.int .i64 gen, .int .i64 side, .int .i64 size, .int .i64 code] from rfl] at he
  subst he
  have HB2 := hide (HB1.out.trans (hb2.mono HB1.out.size))
  have HX2 := hide (Row.after hb2 HX1.out)
  have HY2 := hide (Row.after hb2 HX0.out)
  clear hb2 a0 a1 HX1 HX0 HRa HPa
  by_cases hc : code = 0
  · subst hc
    have hsk := seen_ok (xs := xs) (ps := ps) (by rw [← Hr.out])
    rw [← Hr.out] at hsk
    obtain ⟨hg0, ⟨hs0, hs1⟩, hz0', hz1'⟩ := hsk
    simp only at hg0 hs0 hs1 hz0' hz1'
    obtain ⟨sz, rfl⟩ := Int.eq_ofNat_of_zero_le hz0'
    have hh : 0 ≤ half xs.length ∧ half xs.length ≤ 1048576 ∧ 2 * half xs.length ≤ (xs.length : Int) - 1 := by unfold half; omega
    obtain ⟨f, Hf⟩ : ∃ f, Hid (f = sideAt xs ps side) := ⟨_, rfl⟩
    obtain ⟨m, Hm⟩ : ∃ m, m = (sz + 63) / 64 := ⟨_, rfl⟩
    have hm64 : sz ≤ 64 * m ∧ 64 * m ≤ sz + 63 := by omega
    have hmh : (m : Int) ≤ half xs.length := by omega
    have HFO := hide (show areaOut xs ps = if full f sz m then ⟨xs, ps, gath f sz m, gen, 0⟩ else aill 5 by
      unfold areaOut; rw [HOK.out, ← Hr.out, if_neg (by simp), if_neg (by simp), Hf.out, Hm]; rfl)
    have hsx : side * half xs.length = 0 ∨ side * half xs.length = half xs.length := by
      rcases (show side = 0 ∨ side = 1 by omega) with rfl | rfl
      · left; simp
      · right; simp
    have HRD := hide (show ∀ k : Nat, k < m → readOut xs ps (1 + side * half xs.length + k) = ⟨xs, ps, f k, 0⟩ from fun k hk => by
      have hcast : (1 + side * half xs.length + (k : Int)) = ((1 + side.toNat * (half xs.length).toNat + k : Nat) : Int) := by
        have e1 : ((side.toNat * (half xs.length).toNat : Nat) : Int) = side * half xs.length := by
          rw [Int.natCast_mul, Int.toNat_of_nonneg hs0, Int.toNat_of_nonneg hh.1]
        rw [Int.natCast_add, Int.natCast_add, e1]; rfl
      unfold readOut
      rw [HOK.out, if_pos rfl, if_pos (by omega), hcast, Hf.out]
      rfl)
    clear Hm Hr Hf
    have HBn := hide (HB2.out.alloc HB2.out.size (.cells #[] 5))
    have HXn := hide (HX2.out.alloc (.cells #[] 5))
    have HYn := hide (HY2.out.alloc (.cells #[] 5))
    have HOn := hide (World.ownsRow_made (e := 5) (base := w2.heap.size) (size := 1) w2 #[] 0 (Nat.le_refl _) (by unfold maxLen; omega) rfl)
    have hbase := HX2.out.lt
    go_wp2_with fail
    go_loopw [7, 8] (fun u i wr => ∃ (k : Nat), k ≤ m ∧ i = .int .i64 k ∧ Hid (full f sz k = true) ∧ Hid (wr.ownsRow w2.heap.size 5 1 u (gath f sz k).size (Lib.strCells (gath f sz k))) ∧ Hid (u ≠ .slice none 0 0) ∧ Hid (Below w.heap.size w wr) ∧ Hid (Row wr w.heap.size 30 [.slice p1 xs.length c1, .slice p2 ps.length c2]) ∧ Hid (Row wr (w.heap.size + 1) 63 [.slice none 0 0, .slice none 0 0, .string ⟨#[]⟩, .int .i64 0, .int .i64 0]) ∧ w2.heap.size ≤ wr.heap.size) (fun _ i _ => m - (intOf i).toNat)
    case atStart => exact ⟨0, Nat.zero_le _, rfl, rfl, HOn, hide (by simp), HBn, HYn, HXn, by simp⟩
    case round =>
      obtain ⟨k, hk, rfl, HFk, HOw, HNe, HBr, HYr, HXr, hwz⟩ := hrel
      obtain ⟨g, cap, rfl, hgB⟩ := row_form HOw.out HNe.out
      have hgs := gath_size k HFk.out
      obtain ⟨b, Hb⟩ : ∃ b, Hid (b = gath f sz k) := ⟨_, rfl⟩
      rw [← Hb.out] at hgs HOw
      obtain ⟨N, hN⟩ : ∃ N, N = b.size := ⟨_, rfl⟩
      rw [← Hb.out, ← hN]
      rw [← hN] at hgs HOw
      have HNN := hide hN
      clear hN
      have hNw : IntKind.i64.wrap ((sz : Int) - (N : Int)) = (sz : Int) - (N : Int) := by rw [IntKind.wrap_i64]; omega
      by_cases hlt : k < m
      · have hNk : N = 64 * k := by omega
        have hl1 : (N : Int) < (sz : Int) := by omega
        have c0 : wr.cell? ⟨w.heap.size, 0, none⟩ = some (.slice p1 xs.length c1) := HYr.out.cell 0
        have c1' : wr.cell? ⟨w.heap.size, 1, none⟩ = some (.slice p2 ps.length c2) := HYr.out.cell 1
        have hkw : IntKind.i64.wrap (1 + side * half xs.length + (k : Int)) = 1 + side * half xs.length + (k : Int) := by rw [IntKind.wrap_i64]; omega
        have HWT := hide (show min (64 : Int) ((sz : Int) - (N : Int)) = ((want sz k : Nat) : Int) by unfold want; omega)
        have hwt : want sz k ≤ 64 := by unfold want; omega
        have HG := hide (show gath f sz (k + 1) = b ++ (f k).extract 0 (want sz k) by rw [Hb.out]; rfl)
        have HRk := hide (HRD.out k hlt)
        have HFS := hide (full_step f sz k)
        have HSS := hide (show ∀ x, Below wr.heap.size wr x → x.cell? ⟨w.heap.size, 0, none⟩ = some (.slice p1 xs.length c1) ∧ x.cell? ⟨w.heap.size, 1, none⟩ = some (.slice p2 ps.length c2) ∧ Below wr.heap.size wr x from
          fun x h => ⟨(Row.after h HYr.out).cell 0, (Row.after h HYr.out).cell 1, h⟩)
        have HSI := hide (And.intro hs0 hs1)
        have hfd := Tryz.outData
        have hszb : (sz : Int) ≤ 100000000 := by omega
        have HNk := hide hNk
        clear hz0' hz1' hm64 hgs hs0 hs1 hNk
        go_wp2_with fail
        go_region_held3 (fun x => x.cell? ⟨w.heap.size, 0, none⟩ = some (.slice p1 xs.length c1) ∧ x.cell? ⟨w.heap.size, 1, none⟩ = some (.slice p2 ps.length c2) ∧ Below wr.heap.size wr x)
          ((go_split_ands; refine HSS.out _ ?_; repeat (first | with_reducible assumption | with_reducible exact Below.refl _ _ | with_reducible refine Below.drew ?_)))
          ((first
            | (go_at_call 70; go_split_ands; refine (l03First_any _ _ xs side _ (by omega) hn HSI.out (HRw.out.below (HBr.out.trans (Below.mono (by assumption) HBr.out.size)) (Nat.le_refl _)) ⟨_, _, _, rfl⟩).mono ?_; rintro e w3 ⟨rfl, hb3⟩
               have hB3 : Below wr.heap.size wr w3 := Below.trans (by assumption) (hb3.mono (Below.size (by assumption))); clear hb3)
            | (go_at_call 90; go_split_ands; refine (specRead_any _ _ xs ps _ _ hn hn2 (HRw.out.below (HBr.out.trans (Below.mono (by assumption) HBr.out.size)) (Nat.le_refl _)) (HPw.out.below (HBr.out.trans (Below.mono (by assumption) HBr.out.size)) (Nat.le_refl _))).mono ?_; rw [HRk.out]; rintro e w4 ⟨⟨us, up, rfl, o1, o2, dd⟩, hb4⟩
               have hB4 : Below wr.heap.size wr w4 := Below.trans (by assumption) (hb4.mono (Below.size (by assumption)))
               obtain ⟨s1, s2, s3, rfl⟩ := o1.isSlice
               obtain ⟨s4, s5, s6, rfl⟩ := o2.isSlice
               clear hb4 o1 o2 dd)))
        have HB4 := hide (HBr.out.trans (hB4.mono HBr.out.size))
        have HY4 := hide (Row.after hB4 HYr.out)
        have HX4 := hide (Row.after hB4 HXr.out)
        have hz4 := Nat.le_trans hwz hB4.size
        have HO4 := hide (ownsRow_after HOw.out hB4)
        clear hB3 hB4
        go_wp2_with fail
        refine (l01Min_any _ _ _).mono ?_
        rw [HWT.out]
        rintro e w5 ⟨rfl, rfl⟩
        by_cases hshort : (f k).size < want sz k
        · have hsi : ((f k).size : Int) < ((want sz k : Nat) : Int) := by omega
          have HF5 := hide (show areaOut xs ps = aill 5 by rw [HFO.out, full_not hlt (by omega)]; rfl)
          go_wp2_with fail
          refine (l03Ill_any _ _).mono ?_
          rintro e w3 ⟨rfl, hb3⟩
          have R3 := Row.after hb3 HX4.out
          have HB3 := hide (HB4.out.trans (hb3.mono HB4.out.size))
          have d0 : w3.cell? ⟨w.heap.size + 1, 0, none⟩ = some (.slice none 0 0) := R3.cell 0
          have d1 : w3.cell? ⟨w.heap.size + 1, 1, none⟩ = some (.slice none 0 0) := R3.cell 1
          have d2 : w3.cell? ⟨w.heap.size + 1, 2, none⟩ = some (.string ⟨#[]⟩) := R3.cell 2
          have d3 : w3.cell? ⟨w.heap.size + 1, 3, none⟩ = some (.int .i64 0) := R3.cell 3
          have d4 : w3.cell? ⟨w.heap.size + 1, 4, none⟩ = some (.int .i64 0) := R3.cell 4
          have f0 := R3.free 0
          have f1 := R3.free 1
          have f2 := R3.free 2
          have f3 := R3.free 3
          have f4 := R3.free 4
          have HR3 := hide R3
          clear hb3 R3
          go_wp2
          obtain ⟨q0, q1, q2, q3, q4, KF⟩ := five HR3.out (.slice none 0 0) (.slice none 0 0) (.string ⟨#[]⟩) (.int .i64 0) (.int .i64 5)
          exact bodyPost_ret (v := .agg #[.slice none 0 0, .slice none 0 0, .string ⟨#[]⟩, .int .i64 0, .int .i64 5]) (by simp [results, Tryz.results57, go_sem, q0, q1, q2, q3, q4]) rfl
            ⟨by rw [HF5.out]; exact AOutIs.ill _ _ _, KF.toBelow HB3.out HB3.out.size (by simp)⟩
        · have hsi : ¬ ((f k).size : Int) < ((want sz k : Nat) : Int) := by omega
          have hle : ((want sz k : Nat) : Int) ≤ ((f k).size : Int) := by omega
          have hpos : (0 : Int) ≤ ((want sz k : Nat) : Int) := by omega
          have hts : ((f k).extract 0 (want sz k)).size = want sz k := by rw [ByteArray.size_extract]; omega
          go_wp2_with (at_builtin; refine Lib.wpList_append_own_string _ rfl _ _ 126 9 rfl w2.heap.size 5 i0 Tryz.underlying126 Tryz.underlying9 hi hz0 hz1 hz2 (.slice (some ⟨g, 0, none⟩) N cap) N (Lib.strCells b) rfl HO4.out ((f k).extract 0 (want sz k)) rfl (by unfold maxLen; omega) (by omega) hz4 ?_
                       intro v' w6 ho6 hg6 hn6
                       have HO6 := hide ho6
                       have HG6 : Hid (World.grownBy _ w6 (some g)) := hide hg6
                       have HN6 := hide hn6
                       clear ho6 hg6 hn6)
          have HE := hide (show (gath f sz (k + 1)).size = N + ((f k).extract 0 (want sz k)).size ∧ Lib.strCells (gath f sz (k + 1)) = Lib.strCells b ++ Lib.strCells ((f k).extract 0 (want sz k)) by rw [HG.out, ByteArray.size_append, strCells_append, HNN.out]; exact ⟨rfl, rfl⟩)
          go_roundw
          case rel =>
            refine ⟨k + 1, by omega, by go_num, by rw [HFS.out, HFk.out]; simp [Hid]; omega, by rw [HE.out.1, HE.out.2]; exact HO6, ?_, ?_, ?_, ?_, Nat.le_trans hz4 HG6.out.size⟩
            · intro hv
              have := (HN6.out.1 hv).1
              cases this
            · exact below_grown HB4.out HB4.out.size HG6.out (fun j hj => by cases hj; omega)
            · exact row_grown HY4.out HG6.out (fun hj => by cases hj; omega)
            · exact row_grown HX4.out HG6.out (fun hj => by cases hj; omega)
          case measure => simp [intOf]; omega
      · have hNs : ¬ (N : Int) < (sz : Int) := by omega
        have hkm : k = m := by omega
        subst hkm
        have HF5 := hide (show areaOut xs ps = ⟨xs, ps, b, gen, 0⟩ by rw [HFO.out, HFk.out, Hb.out]; rfl)
        have hgl : g ≠ w.heap.size + 1 := by omega
        have HSS := hide (show ∀ x, Kept [w.heap.size + 1] wr x → x.cell? ⟨w.heap.size, 0, none⟩ = some (.slice p1 xs.length c1) ∧ x.cell? ⟨w.heap.size, 1, none⟩ = some (.slice p2 ps.length c2) ∧ (convert 126 9 (.slice (some ⟨g, 0, none⟩) N cap)).run Tryz.prog x = .ok (.string b) x ∧ Kept [w.heap.size + 1] wr x from
          fun x h => ⟨(h.row HYr.out (by simp)).cell 0, (h.row HYr.out (by simp)).cell 1, text_of_row (by rw [← HNN.out]; exact ownsRow_keptN HOw.out h (fun j c hj => by cases hj; simpa using hgl)) (by intro hv; cases hv) Tryz.underlying126 Tryz.underlying5 Tryz.underlying9, h⟩)
        clear hz0' hz1' hm64 hgs hs0 hs1 hgl
        go_wp2_with fail
        go_region_held3 (fun x => x.cell? ⟨w.heap.size, 0, none⟩ = some (.slice p1 xs.length c1) ∧ x.cell? ⟨w.heap.size, 1, none⟩ = some (.slice p2 ps.length c2) ∧ (convert 126 9 (.slice (some ⟨g, 0, none⟩) N cap)).run Tryz.prog x = .ok (.string b) x ∧ Kept [w.heap.size + 1] wr x)
          ((go_split_ands; refine HSS.out _ ?_; repeat (first | with_reducible assumption | with_reducible exact Kept.refl _ _ | with_reducible refine Kept.drew ?_ | with_reducible refine Kept.set ?_ (by simp) _)))
          ((first
            | (go_at_call 49; go_split_ands; refine (l02Copy_any _ _ xs ps _ hn hn2 (Kept.reads (S := [w.heap.size + 1]) (by assumption) (HRw.out.below HBr.out (Nat.le_refl _)) (fun x hx => by have := HRw.out.leads x hx; simp; omega)) (Kept.readsP (S := [w.heap.size + 1]) (by assumption) (HPw.out.below HBr.out (Nat.le_refl _)) (fun x hx => by have := HPw.out.leads x hx; simp; omega))).mono ?_; rintro e w7 ⟨us, up, rfl, o1, o2, dd, _, hb7⟩
               have hK7 : Kept [w.heap.size + 1] wr w7 := Kept.below (by assumption) hb7
               obtain ⟨s1, s2, s3, rfl⟩ := o1.isSlice
               obtain ⟨s4, s5, s6, rfl⟩ := o2.isSlice
               have r7 : Row w7 (w.heap.size + 1) 63 [.slice none 0 0, .slice none 0 0, .string ⟨#[]⟩, .int .i64 0, .int .i64 0] := Row.after hb7 HXr.out.drew
               have d0 : w7.cell? ⟨w.heap.size + 1, 0, none⟩ = some (.slice none 0 0) := r7.cell 0
               have d1 : w7.cell? ⟨w.heap.size + 1, 1, none⟩ = some (.slice none 0 0) := r7.cell 1
               have d2 : w7.cell? ⟨w.heap.size + 1, 2, none⟩ = some (.string ⟨#[]⟩) := r7.cell 2
               have d3 : w7.cell? ⟨w.heap.size + 1, 3, none⟩ = some (.int .i64 0) := r7.cell 3
               have d4 : w7.cell? ⟨w.heap.size + 1, 4, none⟩ = some (.int .i64 0) := r7.cell 4
               have f0 := r7.free 0
               have f1 := r7.free 1
               have f2 := r7.free 2
               have f3 := r7.free 3
               have f4 := r7.free 4
               have HR7 := hide r7
               have HB7 := hide (HBr.out.trans ((below_drew hb7).mono HBr.out.size))
               have O1 := hide o1
               have O2 := hide o2
               have DD := hide dd
               clear hb7 r7 o1 o2 dd)))
        all_goals
          obtain ⟨q0, q1, q2, q3, q4, KF⟩ := five HR7.out (.slice s1 s2 s3) (.slice s4 s5 s6) (.string b) (.int .i64 gen) (.int .i64 0)
          have hwl := HXr.out.lt
          clear d0 d1 d2 d3 d4 f0 f1 f2 f3 f4
          go_wp2
          exact bodyPost_ret (v := .agg #[.slice s1 s2 s3, .slice s4 s5 s6, .string b, .int .i64 gen, .int .i64 0]) (by simp [results, Tryz.results57, go_sem, q0, q1, q2, q3, q4]) rfl
            ⟨by rw [HF5.out]; exact ⟨_, _, rfl, (O1.out.kept KF (fun x hx => by have := (O1.out.leads x hx).1; simp at this ⊢; omega)).mono HBr.out.size, (O2.out.kept KF (fun x hx => by have := (O2.out.leads x hx).1; simp at this ⊢; omega)).mono HBr.out.size, DD.out⟩, KF.toBelow HB7.out HB7.out.size (by simp)⟩
  · have HF := hide (show areaOut xs ps = aill code by unfold areaOut; rw [HOK.out, ← Hr.out, if_neg (by simp), if_pos hc])
    have hc' : (code != 0) = true := by simpa using hc
    go_wp2_with fail
    refine (l03Ill_any _ _).mono ?_
    rintro e w3 ⟨rfl, hb3⟩
    have R3 := Row.after hb3 HX2.out
    have HB3 := hide (HB2.out.trans (hb3.mono HB2.out.size))
    have c0 : w3.cell? ⟨w.heap.size + 1, 0, none⟩ = some (.slice none 0 0) := R3.cell 0
    have c1' : w3.cell? ⟨w.heap.size + 1, 1, none⟩ = some (.slice none 0 0) := R3.cell 1
    have c2' : w3.cell? ⟨w.heap.size + 1, 2, none⟩ = some (.string ⟨#[]⟩) := R3.cell 2
    have c3 : w3.cell? ⟨w.heap.size + 1, 3, none⟩ = some (.int .i64 0) := R3.cell 3
    have c4 : w3.cell? ⟨w.heap.size + 1, 4, none⟩ = some (.int .i64 0) := R3.cell 4
    have f0 := R3.free 0
    have f1 := R3.free 1
    have f2 := R3.free 2
    have f3 := R3.free 3
    have f4 := R3.free 4
    have HR3 := hide R3
    clear hb3 R3
    go_wp2
    obtain ⟨q0, q1, q2, q3, q4, KF⟩ := five HR3.out (.slice none 0 0) (.slice none 0 0) (.string ⟨#[]⟩) (.int .i64 0) (.int .i64 code)
    exact bodyPost_ret (v := .agg #[.slice none 0 0, .slice none 0 0, .string ⟨#[]⟩, .int .i64 0, .int .i64 code]) (by simp [results, Tryz.results57, go_sem, q0, q1, q2, q3, q4]) rfl
      ⟨by rw [HF.out]; exact AOutIs.ill _ _ _, KF.toBelow HB3.out HB3.out.size (by simp)⟩

theorem specAreaRead_any (vs vp : Value) (xs : List ByteArray) (ps : List (Int × ByteArray)) (w : World) (hn : xs.length ≤ 1048576) (hn2 : ps.length ≤ 1048576) (hr : Reads w vs xs) (hp : ReadsP w vp ps) :
    Calls Tryz.prog 57 #[.agg #[vs, vp]] w fun e w' => AOutIs w.heap.size e w' (areaOut xs ps) ∧ Below w.heap.size w w' := by
  cases hok : right xs ps with
  | false =>
    have h : areaOut xs ps = aill 1 := by unfold areaOut; rw [if_pos hok]
    rw [h]; exact specAreaRead_ill vs vp xs ps w hn hn2 hr hp hok
  | true => exact specAreaRead_rest vs vp xs ps w hn hn2 hr hp hok
end Go.Proofs.YtnpbmaajgiapmaaGreatDoor
