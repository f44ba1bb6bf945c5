/- The program's AreaRead, from what its readArea does. -/
import Derived.Test.YtkmehbgepkilkaaGreatDoorXGIFace
import Derived.Test.YtkmehbgepkilkaaGreatDoorXGSARead
import Derived.Defers
import Derived.Deep.RegionHeld3
namespace Go.Proofs.YtkmehbgepkilkaaGreatDoor
open Go.RowKit

/-- readArea ended with the head and the text that the disk tells, or with the panic of the code. -/
def AreaIs (e : Ending) (xs : List ByteArray) (ps : List (Int × ByteArray)) : Prop :=
  ((areaOut xs ps).c = 0 ∧ e = .returned (.tuple #[.agg #[.int .i64 (seen xs ps).1, .int .i64 (seen xs ps).2.1, .int .i64 (seen xs ps).2.2.1], .string (areaOut xs ps).t])) ∨ ((areaOut xs ps).c ≠ 0 ∧ e = .panicked (fault (areaOut xs ps).c))

theorem areaOut_bad {xs : List ByteArray} {ps : List (Int × ByteArray)} (h : (areaOut xs ps).c ≠ 0) : areaOut xs ps = aill (areaOut xs ps).c := by
  unfold areaOut at h ⊢
  split
  · rfl
  · rename_i h1
    rw [if_neg h1] at h
    split
    · rfl
    · rename_i h2
      rw [if_neg h2] at h
      split
      · rename_i h3; rw [if_pos h3] at h; exact absurd rfl h
      · rfl
set_option maxRecDepth 100000 in
set_option maxHeartbeats 4000000 in
theorem implARead_ill (vs vp : Value) (xs : List ByteArray) (ps : List (Int × ByteArray)) (aF aR aU : Addr) (w : World) (hn : xs.length ≤ 1048576) (hn2 : ps.length ≤ 1048576) (hr : Reads w vs xs) (hp : ReadsP w vp ps) (hS : Sents aF aR aU w) (hok : right xs ps = false) :
    Calls Tryz.prog 8 #[.agg #[vs, vp]] w fun e w' => AOutIs w.heap.size e w' (aill 1) ∧ Below w.heap.size w w' := by
  have hmf : ∀ (fn : Fn) (first cap : Array Value) (w : World), (Instr.makeFunc fn first cap).run Tryz.prog w = .ok (.func fn first cap) w := fun _ _ _ _ => rfl
  have hb0 : Below w.heap.size w ((w.alloc (.cells #[vs, vp] 26)).alloc (.cells #[.slice none 0 0, .slice none 0 0, .string ⟨#[]⟩, .int .i64 0, .int .i64 0] 31)) :=
    ((Below.refl _ _).alloc (Nat.le_refl _) _).alloc (by simp) _
  have HR := hide (hr.below hb0 (Nat.le_refl _))
  have HP := hide (hp.below hb0 (Nat.le_refl _))
  have HS := hide (Stab.go hb0 hS)
  have HB0 := hide hb0
  obtain ⟨p1, c1, rfl, hq⟩ := hr
  obtain ⟨p2, c2, rfl, hq2⟩ := hp
  have R0 := (row_new w [.slice p1 xs.length c1, .slice p2 ps.length c2] 26).alloc (.cells #[.slice none 0 0, .slice none 0 0, .string ⟨#[]⟩, .int .i64 0, .int .i64 0] 31)
  have R1 := row_new (w.alloc (.cells #[.slice p1 xs.length c1, .slice p2 ps.length c2] 26)) [.slice none 0 0, .slice none 0 0, .string ⟨#[]⟩, .int .i64 0, .int .i64 0] 31
  simp only [World.size_alloc] at R1
  have HR0 := hide R0
  have HR1 := hide R1
  clear hb0 hq hq2 R1 R0 hS
  go_enter_defers Tryz.func8, Tryz.ntmps8
  go_wp2_with fail
  refine (refuseDisk_any _ _ xs ps aF aR aU _ hn hn2 HR.out HP.out HS.out).mono ?_
  rw [hok]
  rintro e w1 ⟨he, hb1⟩
  simp only [Bool.false_eq_true, if_false] at he
  subst he
  have HB1 := hide (HB0.out.trans (hb1.mono HB0.out.size))
  have HX1 := hide (HR1.out.below hb1 (by simp))
  clear hb1
  go_wp2
  refine leaves_cons (f := 26) (args := #[.pointer (some ⟨w.heap.size + 1, 0, none⟩)]) (by simp) (by simp [go_sem]) ?_
  refine (readCatch_panic _ _ _ _ _ _ _ _ _ _ 1 [] _ HX1.out).mono ?_
  rintro e u' wd ⟨rfl, rfl, hrow, hk⟩
  have b0 : wd.cell? ⟨w.heap.size + 1, 0, none⟩ = some (.slice none 0 0) := hrow.cell 0
  have b1 : wd.cell? ⟨w.heap.size + 1, 1, none⟩ = some (.slice none 0 0) := hrow.cell 1
  have b2 : wd.cell? ⟨w.heap.size + 1, 2, none⟩ = some (.string ⟨#[]⟩) := hrow.cell 2
  have b3 : wd.cell? ⟨w.heap.size + 1, 3, none⟩ = some (.int .i64 0) := hrow.cell 3
  have b4 : wd.cell? ⟨w.heap.size + 1, 4, none⟩ = some (.int .i64 1) := hrow.cell 4
  simp [Leaves, settle, results, Tryz.results8, go_sem, b0, b1, b2, b3, b4]
  exact ⟨AOutIs.ill _ _ _, hk.toBelow HB1.out HB1.out.size (by simp)⟩

set_option maxRecDepth 100000 in
set_option maxHeartbeats 4000000 in
theorem implARead_rest (vs vp : Value) (xs : List ByteArray) (ps : List (Int × ByteArray)) (aF aR aU : Addr) (w : World) (hn : xs.length ≤ 1048576) (hn2 : ps.length ≤ 1048576) (hr : Reads w vs xs) (hp : ReadsP w vp ps) (hS : Sents aF aR aU w) (hok : right xs ps = true)
    (HRA : ∀ (vs vp : Value) (w' : World), Below w.heap.size w w' → Reads w' vs xs → ReadsP w' vp ps → Calls Tryz.prog 29 #[.agg #[vs, vp]] w' fun e w'' => AreaIs e xs ps ∧ Below w'.heap.size w' w'') :
    Calls Tryz.prog 8 #[.agg #[vs, vp]] w fun e w' => AOutIs w.heap.size e w' (areaOut xs ps) ∧ Below w.heap.size w w' := by
  have HRAh := hide HRA
  have HOK := hide hok
  clear HRA hok
  have hmf : ∀ (fn : Fn) (first cap : Array Value) (w : World), (Instr.makeFunc fn first cap).run Tryz.prog w = .ok (.func fn first cap) w := fun _ _ _ _ => rfl
  have hb0 : Below w.heap.size w ((w.alloc (.cells #[vs, vp] 26)).alloc (.cells #[.slice none 0 0, .slice none 0 0, .string ⟨#[]⟩, .int .i64 0, .int .i64 0] 31)) :=
    ((Below.refl _ _).alloc (Nat.le_refl _) _).alloc (by simp) _
  have HR := hide (hr.below hb0 (Nat.le_refl _))
  have HP := hide (hp.below hb0 (Nat.le_refl _))
  have HRw := hide hr
  have HPw := hide hp
  have HS := hide (Stab.go hb0 hS)
  have HB0 := hide hb0
  obtain ⟨p1, c1, rfl, hq⟩ := hr
  obtain ⟨p2, c2, rfl, hq2⟩ := hp
  have R0 := (row_new w [.slice p1 xs.length c1, .slice p2 ps.length c2] 26).alloc (.cells #[.slice none 0 0, .slice none 0 0, .string ⟨#[]⟩, .int .i64 0, .int .i64 0] 31)
  have R1 := row_new (w.alloc (.cells #[.slice p1 xs.length c1, .slice p2 ps.length c2] 26)) [.slice none 0 0, .slice none 0 0, .string ⟨#[]⟩, .int .i64 0, .int .i64 0] 31
  simp only [World.size_alloc] at R1
  have HR0 := hide R0
  have HR1 := hide R1
  clear hb0 hq hq2 R1 R0 hS
  obtain ⟨x, Hx⟩ : ∃ x, Hid (x = areaOut xs ps) := ⟨_, rfl⟩
  rw [← Hx.out]
  go_enter_defers Tryz.func8, Tryz.ntmps8
  go_wp2_with fail
  refine (refuseDisk_any _ _ xs ps aF aR aU _ hn hn2 HR.out HP.out HS.out).mono ?_
  rw [HOK.out]
  rintro e w1 ⟨he, hb1⟩
  simp only [if_true] at he
  subst he
  have HB1 := hide (HB0.out.trans (hb1.mono HB0.out.size))
  have HX1 := hide (HR1.out.below hb1 (by simp))
  have HY1 := hide (HR0.out.below hb1 (by simp; omega))
  clear hb1
  have a0 : w1.cell? ⟨w.heap.size, 0, none⟩ = some (.slice p1 xs.length c1) := HY1.out.cell 0
  have a1 : w1.cell? ⟨w.heap.size, 1, none⟩ = some (.slice p2 ps.length c2) := HY1.out.cell 1
  go_wp2_with fail
  refine (HRAh.out _ _ _ HB1.out (HRw.out.below HB1.out (Nat.le_refl _)) (HPw.out.below HB1.out (Nat.le_refl _))).mono ?_
  rintro e w2 ⟨hA, hb2⟩
  unfold AreaIs at hA
  rw [← Hx.out] at hA
  have HB2 := hide (HB1.out.trans (hb2.mono HB1.out.size))
  have HX2 := hide (Row.after hb2 HX1.out)
  have HY2 := hide (Row.after hb2 HY1.out)
  clear hb2 a0 a1
  rcases hA with ⟨hc, rfl⟩ | ⟨hc, rfl⟩
  · obtain ⟨_, hg, hxx, hpp⟩ := areaOut_ok HOK.out (by rw [← Hx.out]; exact hc)
    rw [← Hx.out] at hg hxx hpp
    obtain ⟨gen, Hgen⟩ : ∃ gen, Hid (gen = (seen xs ps).1) := ⟨_, rfl⟩
    rw [← Hgen.out] at hg ⊢
    have HXE := hide (show x = ⟨xs, ps, x.t, gen, 0⟩ by cases x; simp only at hg hxx hpp hc; subst hg hxx hpp hc; rfl)
    obtain ⟨sd, hsd⟩ : ∃ s, s = (seen xs ps).2.1 := ⟨_, rfl⟩
    obtain ⟨sz, hsz⟩ : ∃ s, s = (seen xs ps).2.2.1 := ⟨_, rfl⟩
    rw [← hsd, ← hsz]
    obtain ⟨W, hW⟩ : ∃ W, W = w2.alloc (.cells #[.int .i64 gen, .int .i64 sd, .int .i64 sz] 51) := ⟨_, rfl⟩
    have HBW := hide (show Below w.heap.size w W by rw [hW]; exact HB2.out.alloc HB2.out.size _)
    have HXW := hide (show Row W (w.heap.size + 1) 31 [.slice none 0 0, .slice none 0 0, .string ⟨#[]⟩, .int .i64 0, .int .i64 0] by rw [hW]; exact HX2.out.alloc _)
    have HYW := hide (show Row W w.heap.size 26 [.slice p1 xs.length c1, .slice p2 ps.length c2] by rw [hW]; exact HY2.out.alloc _)
    have HHW := hide (show Row W w2.heap.size 51 [.int .i64 gen, .int .i64 sd, .int .i64 sz] by rw [hW]; exact row_new w2 _ _)
    have hlt := HX2.out.lt
    have HSS := hide (show ∀ x', Kept [w.heap.size + 1] W x' → x'.cell? ⟨w.heap.size, 0, none⟩ = some (.slice p1 xs.length c1) ∧ x'.cell? ⟨w.heap.size, 1, none⟩ = some (.slice p2 ps.length c2) ∧ x'.cell? ⟨w2.heap.size, 0, none⟩ = some (.int .i64 gen) ∧ Kept [w.heap.size + 1] W x' from
      fun x' h => ⟨(h.row HYW.out (by simp)).cell 0, (h.row HYW.out (by simp)).cell 1, (h.row HHW.out (by simp; omega)).cell 0, h⟩)
    clear hsd hsz hg hxx hpp hc
    go_wp2_with fail
    rw [← hW]
    clear hW
    go_region_held3 (fun x' => x'.cell? ⟨w.heap.size, 0, none⟩ = some (.slice p1 xs.length c1) ∧ x'.cell? ⟨w.heap.size, 1, none⟩ = some (.slice p2 ps.length c2) ∧ x'.cell? ⟨w2.heap.size, 0, none⟩ = some (.int .i64 gen) ∧ Kept [w.heap.size + 1] W x')
      ((go_split_ands; refine HSS.out _ ?_; repeat (first | with_reducible assumption | with_reducible exact Kept.refl _ _ | with_reducible refine Kept.drew ?_ | with_reducible refine Kept.set ?_ (by simp) _)))
      ((first
        | (go_at_call 30; go_split_ands; refine (copyDisk_any _ _ xs ps _ (HRw.out.below HBW.out.drew (Nat.le_refl _)) (HPw.out.below HBW.out.drew (Nat.le_refl _)) (small_of_right HOK.out)).mono ?_; rintro e w7 ⟨⟨us, up, rfl, o1, o2, dd⟩, hb7⟩
           have hK7 : Kept [w.heap.size + 1] W w7 := (Kept.ofBelow (below_drew hb7)).mono (by simp)
           obtain ⟨s1, s2, s3, rfl⟩ := o1.isSlice
           obtain ⟨s4, s5, s6, rfl⟩ := o2.isSlice
           have r7 : Row w7 (w.heap.size + 1) 31 [.slice none 0 0, .slice none 0 0, .string ⟨#[]⟩, .int .i64 0, .int .i64 0] := Row.after hb7 HXW.out.drew
           have d0 : w7.cell? ⟨w.heap.size + 1, 0, none⟩ = some (.slice none 0 0) := r7.cell 0
           have d1 : w7.cell? ⟨w.heap.size + 1, 1, none⟩ = some (.slice none 0 0) := r7.cell 1
           have d2 : w7.cell? ⟨w.heap.size + 1, 2, none⟩ = some (.string ⟨#[]⟩) := r7.cell 2
           have d3 : w7.cell? ⟨w.heap.size + 1, 3, none⟩ = some (.int .i64 0) := r7.cell 3
           have d4 : w7.cell? ⟨w.heap.size + 1, 4, none⟩ = some (.int .i64 0) := r7.cell 4
           have f0 := r7.free 0
           have f1 := r7.free 1
           have f2 := r7.free 2
           have f3 := r7.free 3
           have f4 := r7.free 4
           have HR7 := hide r7
           have HB7 := hide (HBW.out.trans ((below_drew hb7).mono HBW.out.size))
           have O1 := hide o1
           have O2 := hide o2
           have DD := hide dd
           clear hb7 r7 o1 o2 dd)))
    all_goals
      obtain ⟨q0, q1, q2, q3, q4, KF⟩ := five HR7.out (.slice s1 s2 s3) (.slice s4 s5 s6) (.string x.t) (.int .i64 gen) (.int .i64 0)
      have HRow := hide (((((HR7.out.set (j := 0) (.slice s1 s2 s3)).set (j := 1) (.slice s4 s5 s6)).set (j := 2) (.string x.t)).set (j := 3) (.int .i64 gen)).set (j := 4) (.int .i64 0))
      have hwl := HXW.out.lt
      clear d0 d1 d2 d3 d4 f0 f1 f2 f3 f4
      go_wp2
      refine leaves_cons (f := 26) (args := #[.pointer (some ⟨w.heap.size + 1, 0, none⟩)]) (by simp) (by simp [go_sem]) ?_
      refine (readCatch_idle (w.heap.size + 1) s1 s4 s2 s3 s5 s6 x.t gen 0 _ HRow.out).mono ?_
      rintro e u' wd ⟨rfl, rfl, hrow, hk⟩
      have b0 : wd.cell? ⟨w.heap.size + 1, 0, none⟩ = some (.slice s1 s2 s3) := hrow.cell 0
      have b1 : wd.cell? ⟨w.heap.size + 1, 1, none⟩ = some (.slice s4 s5 s6) := hrow.cell 1
      have b2 : wd.cell? ⟨w.heap.size + 1, 2, none⟩ = some (.string x.t) := hrow.cell 2
      have b3 : wd.cell? ⟨w.heap.size + 1, 3, none⟩ = some (.int .i64 gen) := hrow.cell 3
      have b4 : wd.cell? ⟨w.heap.size + 1, 4, none⟩ = some (.int .i64 0) := hrow.cell 4
      have K2 := KF.trans hk
      simp [Leaves, settle, results, Tryz.results8, go_sem, b0, b1, b2, b3, b4]
      refine ⟨?_, K2.toBelow HB7.out HB7.out.size (by simp)⟩
      rw [HXE.out]
      exact ⟨_, _, rfl, (O1.out.kept K2 (fun y hy => by have := (O1.out.leads y hy).1; simp at this ⊢; omega)).mono HBW.out.size, (O2.out.kept K2 (fun y hy => by have := (O2.out.leads y hy).1; simp at this ⊢; omega)).mono HBW.out.size, DD.out⟩
  · have HF := hide (show x = aill x.c by have := areaOut_bad (xs := xs) (ps := ps) (by rw [← Hx.out]; exact hc); rw [← Hx.out] at this; exact this)
    obtain ⟨c, hcc⟩ : ∃ c, c = x.c := ⟨_, rfl⟩
    rw [← hcc] at HF hc ⊢
    clear hcc
    go_wp2
    refine leaves_cons (f := 26) (args := #[.pointer (some ⟨w.heap.size + 1, 0, none⟩)]) (by simp) (by simp [go_sem]) ?_
    refine (readCatch_panic _ _ _ _ _ _ _ _ _ _ c [] _ HX2.out).mono ?_
    rintro e u' wd ⟨rfl, rfl, hrow, hk⟩
    have b0 : wd.cell? ⟨w.heap.size + 1, 0, none⟩ = some (.slice none 0 0) := hrow.cell 0
    have b1 : wd.cell? ⟨w.heap.size + 1, 1, none⟩ = some (.slice none 0 0) := hrow.cell 1
    have b2 : wd.cell? ⟨w.heap.size + 1, 2, none⟩ = some (.string ⟨#[]⟩) := hrow.cell 2
    have b3 : wd.cell? ⟨w.heap.size + 1, 3, none⟩ = some (.int .i64 0) := hrow.cell 3
    have b4 : wd.cell? ⟨w.heap.size + 1, 4, none⟩ = some (.int .i64 c) := hrow.cell 4
    simp [Leaves, settle, results, Tryz.results8, go_sem, b0, b1, b2, b3, b4]
    exact ⟨by rw [HF.out]; exact AOutIs.ill _ _ _, hk.toBelow HB2.out HB2.out.size (by simp)⟩

theorem implARead_any (vs vp : Value) (xs : List ByteArray) (ps : List (Int × ByteArray)) (aF aR aU : Addr) (w : World) (hn : xs.length ≤ 1048576) (hn2 : ps.length ≤ 1048576) (hr : Reads w vs xs) (hp : ReadsP w vp ps) (hS : Sents aF aR aU w)
    (HRA : right xs ps = true → ∀ (vs vp : Value) (w' : World), Below w.heap.size w w' → Reads w' vs xs → ReadsP w' vp ps → Calls Tryz.prog 29 #[.agg #[vs, vp]] w' fun e w'' => AreaIs e xs ps ∧ Below w'.heap.size w' w'') :
    Calls Tryz.prog 8 #[.agg #[vs, vp]] w fun e w' => AOutIs w.heap.size e w' (areaOut xs ps) ∧ Below w.heap.size w w' := by
  cases hok : right xs ps with
  | false =>
    have h : areaOut xs ps = aill 1 := by unfold areaOut; rw [if_pos hok]
    rw [h]; exact implARead_ill vs vp xs ps aF aR aU w hn hn2 hr hp hS hok
  | true => exact implARead_rest vs vp xs ps aF aR aU w hn hn2 hr hp hS hok (HRA hok)
end Go.Proofs.YtkmehbgepkilkaaGreatDoor
