/- The program's AreaRead, from what its readArea does. -/
import Derived.Test.YtnpbmaajgiapmaaGreatDoorXG25IRight
import Derived.Test.YtnpbmaajgiapmaaGreatDoorXG20SFormat
import Derived.Test.YtnpbmaajgiapmaaGreatDoorXG21SAPut
import Derived.Defers
import Derived.Deep.RegionHeld3
import Derived.Laws.IdiomStrings
import Derived.Maps.AppendAt
import Derived.Test.YtnpbmaajgiapmaaGreatDoorXG2NNum
import Derived.Laws.Concat
import Derived.Deep.DeepCutAuto
namespace Go.Proofs.YtnpbmaajgiapmaaGreatDoor
open Go.RowKit

/-- readArea ended with the head and the text that the disk tells, or with the panic of the code. -/
def AreaIs (e : Ending) (xs : List ByteArray) (ps : List (Int × ByteArray)) : Prop :=
  ((areaOut xs ps).c = 0 ∧ e = .returned (.tuple #[.agg #[.int .i64 (seen xs ps).1, .int .i64 (seen xs ps).2.1, .int .i64 (seen xs ps).2.2.1], .string (areaOut xs ps).t])) ∨ ((areaOut xs ps).c ≠ 0 ∧ e = .panicked (fault (areaOut xs ps).c))

theorem areaOut_bad {xs : List ByteArray} {ps : List (Int × ByteArray)} (h : (areaOut xs ps).c ≠ 0) : areaOut xs ps = aill (areaOut xs ps).c := by
  unfold areaOut at h ⊢
  split
  · rfl
  · rename_i h1
    rw [if_neg h1] at h
    split
    · rfl
    · rename_i h2
      rw [if_neg h2] at h
      split
      · rename_i h3; rw [if_pos h3] at h; exact absurd rfl h
      · rfl
set_option maxRecDepth 100000 in
set_option maxHeartbeats 4000000 in
theorem implARead_ill (vs vp : Value) (xs : List ByteArray) (ps : List (Int × ByteArray)) (aF aR aU : Addr) (w : World) (hn : xs.length ≤ 1048576) (hn2 : ps.length ≤ 1048576) (hr : Reads w vs xs) (hp : ReadsP w vp ps) (hS : Sents aF aR aU w) (hok : right xs ps = false) :
    Calls Tryz.prog 63 #[.agg #[vs, vp]] w fun e w' => AOutIs w.heap.size e w' (aill 1) ∧ Below w.heap.size w w' := by
  have hmf : ∀ (fn : Fn) (first cap : Array Value) (w : World), (Instr.makeFunc fn first cap).run Tryz.prog w = .ok (.func fn first cap) w := fun _ _ _ _ => rfl
  have hb0 : Below w.heap.size w ((w.alloc (.cells #[vs, vp] 30)).alloc (.cells #[.slice none 0 0, .slice none 0 0, .string ⟨#[]⟩, .int .i64 0, .int .i64 0] 63)) :=
    ((Below.refl _ _).alloc (Nat.le_refl _) _).alloc (by simp) _
  have HR := hide (hr.below hb0 (Nat.le_refl _))
  have HP := hide (hp.below hb0 (Nat.le_refl _))
  have HS := hide (Stab.go hb0 hS)
  have HB0 := hide hb0
  obtain ⟨p1, c1, rfl, hq⟩ := hr
  obtain ⟨p2, c2, rfl, hq2⟩ := hp
  have R0 := (row_new w [.slice p1 xs.length c1, .slice p2 ps.length c2] 30).alloc (.cells #[.slice none 0 0, .slice none 0 0, .string ⟨#[]⟩, .int .i64 0, .int .i64 0] 63)
  have R1 := row_new (w.alloc (.cells #[.slice p1 xs.length c1, .slice p2 ps.length c2] 30)) [.slice none 0 0, .slice none 0 0, .string ⟨#[]⟩, .int .i64 0, .int .i64 0] 63
  simp only [World.size_alloc] at R1
  have HR0 := hide R0
  have HR1 := hide R1
  clear hb0 hq hq2 R1 R0 hS
  go_enter_defers Tryz.func63, Tryz.ntmps63
  go_wp2_with fail
  refine (refuseDisk_any _ _ xs ps aF aR aU _ hn hn2 HR.out HP.out HS.out).mono ?_
  rw [hok]
  rintro e w1 ⟨he, hb1⟩
  simp only [Bool.false_eq_true, if_false] at he
  subst he
  have HB1 := hide (HB0.out.trans (hb1.mono HB0.out.size))
  have HX1 := hide (HR1.out.below hb1 (by simp))
  clear hb1
  go_wp2
  refine leaves_cons (f := 93) (args := #[.pointer (some ⟨w.heap.size + 1, 0, none⟩)]) (by simp) (by simp [go_sem]) ?_
  refine (readCatch_panic _ _ _ _ _ _ _ _ _ _ 1 [] _ HX1.out).mono ?_
  rintro e u' wd ⟨rfl, rfl, hrow, hk⟩
  have b0 : wd.cell? ⟨w.heap.size + 1, 0, none⟩ = some (.slice none 0 0) := hrow.cell 0
  have b1 : wd.cell? ⟨w.heap.size + 1, 1, none⟩ = some (.slice none 0 0) := hrow.cell 1
  have b2 : wd.cell? ⟨w.heap.size + 1, 2, none⟩ = some (.string ⟨#[]⟩) := hrow.cell 2
  have b3 : wd.cell? ⟨w.heap.size + 1, 3, none⟩ = some (.int .i64 0) := hrow.cell 3
  have b4 : wd.cell? ⟨w.heap.size + 1, 4, none⟩ = some (.int .i64 1) := hrow.cell 4
  simp [Leaves, settle, results, Tryz.results63, go_sem, b0, b1, b2, b3, b4]
  exact ⟨AOutIs.ill _ _ _, hk.toBelow HB1.out HB1.out.size (by simp)⟩

set_option maxRecDepth 100000 in
set_option maxHeartbeats 4000000 in
theorem implARead_rest (vs vp : Value) (xs : List ByteArray) (ps : List (Int × ByteArray)) (aF aR aU : Addr) (w : World) (hn : xs.length ≤ 1048576) (hn2 : ps.length ≤ 1048576) (hr : Reads w vs xs) (hp : ReadsP w vp ps) (hS : Sents aF aR aU w) (hok : right xs ps = true)
    (HRA : ∀ (vs vp : Value) (w' : World), Below w.heap.size w w' → Reads w' vs xs → ReadsP w' vp ps → Calls Tryz.prog 94 #[.agg #[vs, vp]] w' fun e w'' => AreaIs e xs ps ∧ Below w'.heap.size w' w'') :
    Calls Tryz.prog 63 #[.agg #[vs, vp]] w fun e w' => AOutIs w.heap.size e w' (areaOut xs ps) ∧ Below w.heap.size w w' := by
  have HRAh := hide HRA
  have HOK := hide hok
  clear HRA hok
  have hmf : ∀ (fn : Fn) (first cap : Array Value) (w : World), (Instr.makeFunc fn first cap).run Tryz.prog w = .ok (.func fn first cap) w := fun _ _ _ _ => rfl
  have hb0 : Below w.heap.size w ((w.alloc (.cells #[vs, vp] 30)).alloc (.cells #[.slice none 0 0, .slice none 0 0, .string ⟨#[]⟩, .int .i64 0, .int .i64 0] 63)) :=
    ((Below.refl _ _).alloc (Nat.le_refl _) _).alloc (by simp) _
  have HR := hide (hr.below hb0 (Nat.le_refl _))
  have HP := hide (hp.below hb0 (Nat.le_refl _))
  have HRw := hide hr
  have HPw := hide hp
  have HS := hide (Stab.go hb0 hS)
  have HB0 := hide hb0
  obtain ⟨p1, c1, rfl, hq⟩ := hr
  obtain ⟨p2, c2, rfl, hq2⟩ := hp
  have R0 := (row_new w [.slice p1 xs.length c1, .slice p2 ps.length c2] 30).alloc (.cells #[.slice none 0 0, .slice none 0 0, .string ⟨#[]⟩, .int .i64 0, .int .i64 0] 63)
  have R1 := row_new (w.alloc (.cells #[.slice p1 xs.length c1, .slice p2 ps.length c2] 30)) [.slice none 0 0, .slice none 0 0, .string ⟨#[]⟩, .int .i64 0, .int .i64 0] 63
  simp only [World.size_alloc] at R1
  have HR0 := hide R0
  have HR1 := hide R1
  clear hb0 hq hq2 R1 R0 hS
  obtain ⟨x, Hx⟩ : ∃ x, Hid (x = areaOut xs ps) := ⟨_, rfl⟩
  rw [← Hx.out]
  go_enter_defers Tryz.func63, Tryz.ntmps63
  go_wp2_with fail
  refine (refuseDisk_any _ _ xs ps aF aR aU _ hn hn2 HR.out HP.out HS.out).mono ?_
  rw [HOK.out]
  rintro e w1 ⟨he, hb1⟩
  simp only [if_true] at he
  subst he
  have HB1 := hide (HB0.out.trans (hb1.mono HB0.out.size))
  have HX1 := hide (HR1.out.below hb1 (by simp))
  have HY1 := hide (HR0.out.below hb1 (by simp; omega))
  clear hb1
  have a0 : w1.cell? ⟨w.heap.size, 0, none⟩ = some (.slice p1 xs.length c1) := HY1.out.cell 0
  have a1 : w1.cell? ⟨w.heap.size, 1, none⟩ = some (.slice p2 ps.length c2) := HY1.out.cell 1
  go_wp2_with fail
  refine (HRAh.out _ _ _ HB1.out (HRw.out.below HB1.out (Nat.le_refl _)) (HPw.out.below HB1.out (Nat.le_refl _))).mono ?_
  rintro e w2 ⟨hA, hb2⟩
  unfold AreaIs at hA
  rw [← Hx.out] at hA
  have HB2 := hide (HB1.out.trans (hb2.mono HB1.out.size))
  have HX2 := hide (Row.after hb2 HX1.out)
  have HY2 := hide (Row.after hb2 HY1.out)
  clear hb2 a0 a1
  rcases hA with ⟨hc, rfl⟩ | ⟨hc, rfl⟩
  · obtain ⟨_, hg, hxx, hpp⟩ := areaOut_ok HOK.out (by rw [← Hx.out]; exact hc)
    rw [← Hx.out] at hg hxx hpp
    obtain ⟨gen, Hgen⟩ : ∃ gen, Hid (gen = (seen xs ps).1) := ⟨_, rfl⟩
    rw [← Hgen.out] at hg ⊢
    have HXE := hide (show x = ⟨xs, ps, x.t, gen, 0⟩ by cases x; simp only at hg hxx hpp hc; subst hg hxx hpp hc; rfl)
    obtain ⟨sd, hsd⟩ : ∃ s, s = (seen xs ps).2.1 := ⟨_, rfl⟩
    obtain ⟨sz, hsz⟩ : ∃ s, s = (seen xs ps).2.2.1 := ⟨_, rfl⟩
    rw [← hsd, ← hsz]
    obtain ⟨W, hW⟩ : ∃ W, W = w2.alloc (.cells #[.int .i64 gen, .int .i64 sd, .int .i64 sz] 114) := ⟨_, rfl⟩
    have HBW := hide (show Below w.heap.size w W by rw [hW]; exact HB2.out.alloc HB2.out.size _)
    have HXW := hide (show Row W (w.heap.size + 1) 63 [.slice none 0 0, .slice none 0 0, .string ⟨#[]⟩, .int .i64 0, .int .i64 0] by rw [hW]; exact HX2.out.alloc _)
    have HYW := hide (show Row W w.heap.size 30 [.slice p1 xs.length c1, .slice p2 ps.length c2] by rw [hW]; exact HY2.out.alloc _)
    have HHW := hide (show Row W w2.heap.size 114 [.int .i64 gen, .int .i64 sd, .int .i64 sz] by rw [hW]; exact row_new w2 _ _)
    have hlt := HX2.out.lt
    have HSS := hide (show ∀ x', Kept [w.heap.size + 1] W x' → x'.cell? ⟨w.heap.size, 0, none⟩ = some (.slice p1 xs.length c1) ∧ x'.cell? ⟨w.heap.size, 1, none⟩ = some (.slice p2 ps.length c2) ∧ x'.cell? ⟨w2.heap.size, 0, none⟩ = some (.int .i64 gen) ∧ Kept [w.heap.size + 1] W x' from
      fun x' h => ⟨(h.row HYW.out (by simp)).cell 0, (h.row HYW.out (by simp)).cell 1, (h.row HHW.out (by simp; omega)).cell 0, h⟩)
    clear hsd hsz hg hxx hpp hc
    go_wp2_with fail
    rw [← hW]
    clear hW
    go_region_held3 (fun x' => x'.cell? ⟨w.heap.size, 0, none⟩ = some (.slice p1 xs.length c1) ∧ x'.cell? ⟨w.heap.size, 1, none⟩ = some (.slice p2 ps.length c2) ∧ x'.cell? ⟨w2.heap.size, 0, none⟩ = some (.int .i64 gen) ∧ Kept [w.heap.size + 1] W x')
      ((go_split_ands; refine HSS.out _ ?_; repeat (first | with_reducible assumption | with_reducible exact Kept.refl _ _ | with_reducible refine Kept.drew ?_ | with_reducible refine Kept.set ?_ (by simp) _)))
      ((first
        | (go_at_call 52; go_split_ands; refine (copyDisk_any _ _ xs ps _ (HRw.out.below HBW.out.drew (Nat.le_refl _)) (HPw.out.below HBW.out.drew (Nat.le_refl _)) (small_of_right HOK.out)).mono ?_; rintro e w7 ⟨⟨us, up, rfl, o1, o2, dd⟩, hb7⟩
           have hK7 : Kept [w.heap.size + 1] W w7 := (Kept.ofBelow (below_drew hb7)).mono (by simp)
           obtain ⟨s1, s2, s3, rfl⟩ := o1.isSlice
           obtain ⟨s4, s5, s6, rfl⟩ := o2.isSlice
           have r7 : Row w7 (w.heap.size + 1) 63 [.slice none 0 0, .slice none 0 0, .string ⟨#[]⟩, .int .i64 0, .int .i64 0] := Row.after hb7 HXW.out.drew
           have d0 : w7.cell? ⟨w.heap.size + 1, 0, none⟩ = some (.slice none 0 0) := r7.cell 0
           have d1 : w7.cell? ⟨w.heap.size + 1, 1, none⟩ = some (.slice none 0 0) := r7.cell 1
           have d2 : w7.cell? ⟨w.heap.size + 1, 2, none⟩ = some (.string ⟨#[]⟩) := r7.cell 2
           have d3 : w7.cell? ⟨w.heap.size + 1, 3, none⟩ = some (.int .i64 0) := r7.cell 3
           have d4 : w7.cell? ⟨w.heap.size + 1, 4, none⟩ = some (.int .i64 0) := r7.cell 4
           have f0 := r7.free 0
           have f1 := r7.free 1
           have f2 := r7.free 2
           have f3 := r7.free 3
           have f4 := r7.free 4
           have HR7 := hide r7
           have HB7 := hide (HBW.out.trans ((below_drew hb7).mono HBW.out.size))
           have O1 := hide o1
           have O2 := hide o2
           have DD := hide dd
           clear hb7 r7 o1 o2 dd)))
    all_goals
      obtain ⟨q0, q1, q2, q3, q4, KF⟩ := five HR7.out (.slice s1 s2 s3) (.slice s4 s5 s6) (.string x.t) (.int .i64 gen) (.int .i64 0)
      have HRow := hide (((((HR7.out.set (j := 0) (.slice s1 s2 s3)).set (j := 1) (.slice s4 s5 s6)).set (j := 2) (.string x.t)).set (j := 3) (.int .i64 gen)).set (j := 4) (.int .i64 0))
      have hwl := HXW.out.lt
      clear d0 d1 d2 d3 d4 f0 f1 f2 f3 f4
      go_wp2
      refine leaves_cons (f := 93) (args := #[.pointer (some ⟨w.heap.size + 1, 0, none⟩)]) (by simp) (by simp [go_sem]) ?_
      refine (readCatch_idle (w.heap.size + 1) s1 s4 s2 s3 s5 s6 x.t gen 0 _ HRow.out).mono ?_
      rintro e u' wd ⟨rfl, rfl, hrow, hk⟩
      have b0 : wd.cell? ⟨w.heap.size + 1, 0, none⟩ = some (.slice s1 s2 s3) := hrow.cell 0
      have b1 : wd.cell? ⟨w.heap.size + 1, 1, none⟩ = some (.slice s4 s5 s6) := hrow.cell 1
      have b2 : wd.cell? ⟨w.heap.size + 1, 2, none⟩ = some (.string x.t) := hrow.cell 2
      have b3 : wd.cell? ⟨w.heap.size + 1, 3, none⟩ = some (.int .i64 gen) := hrow.cell 3
      have b4 : wd.cell? ⟨w.heap.size + 1, 4, none⟩ = some (.int .i64 0) := hrow.cell 4
      have K2 := KF.trans hk
      simp [Leaves, settle, results, Tryz.results63, go_sem, b0, b1, b2, b3, b4]
      refine ⟨?_, K2.toBelow HB7.out HB7.out.size (by simp)⟩
      rw [HXE.out]
      exact ⟨_, _, rfl, (O1.out.kept K2 (fun y hy => by have := (O1.out.leads y hy).1; simp at this ⊢; omega)).mono HBW.out.size, (O2.out.kept K2 (fun y hy => by have := (O2.out.leads y hy).1; simp at this ⊢; omega)).mono HBW.out.size, DD.out⟩
  · have HF := hide (show x = aill x.c by have := areaOut_bad (xs := xs) (ps := ps) (by rw [← Hx.out]; exact hc); rw [← Hx.out] at this; exact this)
    obtain ⟨c, hcc⟩ : ∃ c, c = x.c := ⟨_, rfl⟩
    rw [← hcc] at HF hc ⊢
    clear hcc
    go_wp2
    refine leaves_cons (f := 93) (args := #[.pointer (some ⟨w.heap.size + 1, 0, none⟩)]) (by simp) (by simp [go_sem]) ?_
    refine (readCatch_panic _ _ _ _ _ _ _ _ _ _ c [] _ HX2.out).mono ?_
    rintro e u' wd ⟨rfl, rfl, hrow, hk⟩
    have b0 : wd.cell? ⟨w.heap.size + 1, 0, none⟩ = some (.slice none 0 0) := hrow.cell 0
    have b1 : wd.cell? ⟨w.heap.size + 1, 1, none⟩ = some (.slice none 0 0) := hrow.cell 1
    have b2 : wd.cell? ⟨w.heap.size + 1, 2, none⟩ = some (.string ⟨#[]⟩) := hrow.cell 2
    have b3 : wd.cell? ⟨w.heap.size + 1, 3, none⟩ = some (.int .i64 0) := hrow.cell 3
    have b4 : wd.cell? ⟨w.heap.size + 1, 4, none⟩ = some (.int .i64 c) := hrow.cell 4
    simp [Leaves, settle, results, Tryz.results63, go_sem, b0, b1, b2, b3, b4]
    exact ⟨by rw [HF.out]; exact AOutIs.ill _ _ _, hk.toBelow HB2.out HB2.out.size (by simp)⟩

theorem implARead_any (vs vp : Value) (xs : List ByteArray) (ps : List (Int × ByteArray)) (aF aR aU : Addr) (w : World) (hn : xs.length ≤ 1048576) (hn2 : ps.length ≤ 1048576) (hr : Reads w vs xs) (hp : ReadsP w vp ps) (hS : Sents aF aR aU w)
    (HRA : right xs ps = true → ∀ (vs vp : Value) (w' : World), Below w.heap.size w w' → Reads w' vs xs → ReadsP w' vp ps → Calls Tryz.prog 94 #[.agg #[vs, vp]] w' fun e w'' => AreaIs e xs ps ∧ Below w'.heap.size w' w'') :
    Calls Tryz.prog 63 #[.agg #[vs, vp]] w fun e w' => AOutIs w.heap.size e w' (areaOut xs ps) ∧ Below w.heap.size w w' := by
  cases hok : right xs ps with
  | false =>
    have h : areaOut xs ps = aill 1 := by unfold areaOut; rw [if_pos hok]
    rw [h]; exact implARead_ill vs vp xs ps aF aR aU w hn hn2 hr hp hS hok
  | true => exact implARead_rest vs vp xs ps aF aR aU w hn hn2 hr hp hS hok (HRA hok)
end Go.Proofs.YtnpbmaajgiapmaaGreatDoor
/- How the program cuts a text into what each sector takes. -/
namespace Go.Proofs.YtnpbmaajgiapmaaGreatDoor
open Go.RowKit

theorem own_ge {w : World} {B n : Nat} {e : TypeId} {v : Value} {xs : List Value} (h : w.ownsRow B e 1 v n xs) {j : Nat} (hj : v.ownBlock = some j) : B ≤ j := by
  obtain ⟨_, ⟨rfl, _⟩ | ⟨g, cap, cur, rfl, hB, _⟩⟩ := h
  · cases hj
  · cases hj; exact hB
def pieces (d : ByteArray) (k : Nat) : List ByteArray := (List.range k).map (piece d)
theorem pieces_len (d : ByteArray) (k : Nat) : (pieces d k).length = k := by simp [pieces]
theorem pieces_snoc (d : ByteArray) (k : Nat) : pieces d (k + 1) = pieces d k ++ [piece d k] := by simp [pieces, List.range_succ]
theorem pieces_size (d : ByteArray) (k : Nat) : ∀ x ∈ pieces d k, x.size ≤ 64 := by
  intro x hx
  obtain ⟨j, _, rfl⟩ := List.mem_map.1 hx
  unfold piece
  rw [ByteArray.size_extract]
  omega
theorem reads_of_row {w : World} {B : Nat} {v : Value} {xs : List ByteArray} (hx : ∀ x ∈ xs, x.size ≤ maxLen) (h : w.ownsRow B 9 1 v xs.length (strs xs)) : Reads w v xs := by
  by_cases h0 : 0 < xs.length
  · exact (OwnS.ofRow hx h0 h).reads
  · have e : xs = [] := List.eq_nil_of_length_eq_zero (by omega)
    subst e
    obtain ⟨_, ⟨rfl, _⟩ | ⟨g, cap, cur, rfl, _, _, h1, h2, _⟩⟩ := h
    · exact ⟨_, _, rfl, Nat.le_refl _, by unfold maxLen; omega, by simp, fun h => by simp at h⟩
    · exact ⟨_, _, rfl, h1, h2, by simp, fun h => by simp at h⟩

/-- The bytes of a text, in a row of their own. -/
theorem raw_cell (w : World) (d : ByteArray) (e : TypeId) (j : Nat) (hj : j < d.size) :
    (w.drew.alloc (.cells (bytesRow d (grownCap w d.size 0 e)) e ((bytesRow d (grownCap w d.size 0 e)).size, (bytesRow d (grownCap w d.size 0 e)).size + 1))).cell? ⟨w.heap.size, j, none⟩ = some (.int .u8 ((d[j]'hj).toNat : Int)) := by
  refine (cell_of_row _ w.heap.size j _ e _ (heap_alloc_new w.drew _)).trans ?_
  unfold bytesRow
  have hj' : j < d.data.size := hj
  rw [Array.getElem?_append_left (by simpa using hj'), Array.getElem?_map, Array.getElem?_eq_getElem hj']
  rfl
theorem piece_list (d : ByteArray) (k M : Nat) (hM : M = min d.size (64 * (k + 1))) : (⟨((d.data.toList.drop (64 * k)).take (M - 64 * k)).toArray⟩ : ByteArray) = piece d k := by
  unfold piece
  rw [← hM]
  apply ByteArray.ext
  apply Array.ext'
  simp [ByteArray.data_extract, Array.toList_extract]

set_option maxRecDepth 100000 in
set_option maxHeartbeats 4000000 in
theorem cutSectors_any (d : ByteArray) (w : World) (hd : d.size ≤ 8000) :
    Calls Tryz.prog 133 #[.string d] w fun e w' => (∃ v, e = .returned v ∧ Reads w' v (pieces d (cuts d))) ∧ Below w.heap.size w w' := by
  obtain ⟨i0, hi, hz0, hz1, hz2⟩ := info_parts Tryz.infoStr
  have hcv := run_bytes_of_string (P := Tryz.prog) w 9 126 5 d Tryz.underlying9 Tryz.underlying126 Tryz.underlying5
  obtain ⟨C, hC⟩ : ∃ C, C = grownCap w d.size 0 5 := ⟨_, rfl⟩
  obtain ⟨W, hW⟩ : ∃ W, W = w.drew.alloc (.cells (bytesRow d (grownCap w d.size 0 5)) 5 ((bytesRow d (grownCap w d.size 0 5)).size, (bytesRow d (grownCap w d.size 0 5)).size + 1)) := ⟨_, rfl⟩
  have HCELL := hide (show ∀ j (hj : j < d.size), W.cell? ⟨w.heap.size, j, none⟩ = some (.int .u8 ((d[j]'hj).toNat : Int)) from fun j hj => by rw [hW]; exact raw_cell w d _ j hj)
  have HBW := hide (show Below w.heap.size w W by rw [hW]; exact ((Below.refl _ _).drew).alloc (Nat.le_refl _) _)
  have hWs : w.heap.size < W.heap.size := by rw [hW]; simp
  have hCd : d.size ≤ C := by rw [hC]; exact grownCap_ge _ _ _ _
  rw [← hW, ← hC] at hcv
  clear hW hC
  have HO0 := hide (show W.ownsRow W.heap.size 9 1 (.slice none 0 0) 0 (strs (pieces d 0)) from ⟨rfl, .inl ⟨rfl, rfl⟩⟩)
  have hcd : cuts d ≤ 200 := by unfold cuts; omega
  go_enter Tryz.func133, Tryz.ntmps133
  go_wp2_with fail
  go_loopw [4, 5] (fun u i wr => ∃ k : Nat, k ≤ cuts d ∧ i = .int .i64 ((64 * k : Nat) : Int) ∧ Hid (wr.ownsRow W.heap.size 9 1 u k (strs (pieces d k))) ∧ Hid (Below W.heap.size W wr)) (fun _ i _ => 64 * cuts d - (intOf i).toNat)
  case atStart => exact ⟨0, Nat.zero_le _, rfl, HO0, Below.refl _ _⟩
  case round =>
    obtain ⟨k, hk, rfl, HOw, HB⟩ := hrel
    obtain ⟨F, hF⟩ : ∃ F : Nat, F = 64 * k := ⟨_, rfl⟩
    rw [← hF]
    by_cases hlt : k < cuts d
    · have hfd : F < d.size := by rw [hF]; unfold cuts at hlt; omega
      have hfi : (F : Int) < (d.size : Int) := by omega
      obtain ⟨M, hM⟩ : ∃ M, M = min d.size (64 * (k + 1)) := ⟨_, rfl⟩
      have hMi : min ((F : Int) + 64) (d.size : Int) = (M : Int) := by omega
      have HM := hide hM
      have HF := hide hF
      have hm1 : (F : Int) ≤ (M : Int) := by omega
      have hm2 : (M : Int) ≤ (C : Int) := by omega
      have hm0 : (0 : Int) ≤ (F : Int) := by omega
      clear hM hF
      by_cases hfl : F + 64 ≤ d.size
      · have hx1 : (F : Int) + 64 ≤ (d.size : Int) := by omega
        have hto : ((F : Int) + 64).toNat = F + 64 := by omega
        have hcb : (convert 126 9 (.slice (some ⟨w.heap.size, F, none⟩) (64) (64))).run Tryz.prog wr = .ok (.string (piece d k)) wr := by
          have hl : ((d.data.toList.drop F).take (64)).length = 64 := by
            rw [List.length_take, List.length_drop, Array.length_toList]
            have : d.data.size = d.size := rfl
            omega
          have h := run_convert_bytes_back (P := Tryz.prog) wr 126 9 5 ⟨w.heap.size, F, none⟩ (64) ((d.data.toList.drop F).take (64)) Tryz.underlying126 Tryz.underlying5 Tryz.underlying9 (fun j hj => by
            rw [hl] at hj
            rw [add_addr, HB.out.cell (p := ⟨w.heap.size, F + j, none⟩) hWs, HCELL.out (F + j) (by omega)]
            simp
            rfl)
          rw [hl] at h
          rw [h, ← piece_list d k M HM.out, ← HF.out, show M - F = 64 by have := HM.out; have := HF.out; omega]
        have HNL := hide (show ∀ j u, ([Value.string (piece d k)] : List Value)[j]? = some u → (wr.alloc (.cells #[.string (piece d k)] 9)).cell? ((⟨wr.heap.size, 0, none⟩ : Addr).add j) = some u from fun j u hu => by
          rw [add_addr, Nat.zero_add, (row_new wr [.string (piece d k)] 9).cell]; exact hu)
        have HOA := hide (HOw.out.alloc (.cells #[.string (piece d k)] 9))
        have HBA := hide (HB.out.alloc HB.out.size (.cells #[.string (piece d k)] 9))
        go_wp2_with (at_builtin; refine wpList_append_own_at _ rfl _ _ 22 rfl W.heap.size 9 i0 (.string ⟨#[]⟩) 1 16 Tryz.underlying22 hi hz0 hz1 hz2 rfl (by omega) _ k (strs (pieces d k)) rfl HOA.out ⟨wr.heap.size, 0, none⟩ 1 1 [.string (piece d k)] rfl rfl HNL.out (by simp [Value.oneCell']) (by unfold maxLen; omega) (by omega) (by have := HB.out.size; simp; omega) ?_
                     intro v' w1 ho1 hg1 _ _
                     have HO1 := hide ho1
                     have HG1 := hide hg1
                     clear ho1 hg1)
        have HP := hide (show strs (pieces d (k + 1)) = strs (pieces d k) ++ [.string (piece d k)] by rw [pieces_snoc]; simp [strs])
        go_roundw
        case rel =>
          refine ⟨k + 1, by omega, by have := HF.out; rw [this]; go_num, by rw [HP.out]; exact HO1, ?_⟩
          exact below_grown HBA.out HBA.out.size HG1.out (fun j hj => own_ge HOA.out hj)
        case measure => have := HF.out; simp [intOf]; omega
      · have hx1 : (d.size : Int) < (F : Int) + 64 := by omega
        have hcb : (convert 126 9 (.slice (some ⟨w.heap.size, F, none⟩) (d.size - F) (d.size - F))).run Tryz.prog wr = .ok (.string (piece d k)) wr := by
          have hl : ((d.data.toList.drop F).take (d.size - F)).length = d.size - F := by
            rw [List.length_take, List.length_drop, Array.length_toList]
            have : d.data.size = d.size := rfl
            omega
          have h := run_convert_bytes_back (P := Tryz.prog) wr 126 9 5 ⟨w.heap.size, F, none⟩ (d.size - F) ((d.data.toList.drop F).take (d.size - F)) Tryz.underlying126 Tryz.underlying5 Tryz.underlying9 (fun j hj => by
            rw [hl] at hj
            rw [add_addr, HB.out.cell (p := ⟨w.heap.size, F + j, none⟩) hWs, HCELL.out (F + j) (by omega)]
            simp
            rfl)
          rw [hl] at h
          rw [h, ← piece_list d k M HM.out, ← HF.out, show M - F = d.size - F by have := HM.out; have := HF.out; omega]
        have HNL := hide (show ∀ j u, ([Value.string (piece d k)] : List Value)[j]? = some u → (wr.alloc (.cells #[.string (piece d k)] 9)).cell? ((⟨wr.heap.size, 0, none⟩ : Addr).add j) = some u from fun j u hu => by
          rw [add_addr, Nat.zero_add, (row_new wr [.string (piece d k)] 9).cell]; exact hu)
        have HOA := hide (HOw.out.alloc (.cells #[.string (piece d k)] 9))
        have HBA := hide (HB.out.alloc HB.out.size (.cells #[.string (piece d k)] 9))
        go_wp2_with (at_builtin; refine wpList_append_own_at _ rfl _ _ 22 rfl W.heap.size 9 i0 (.string ⟨#[]⟩) 1 16 Tryz.underlying22 hi hz0 hz1 hz2 rfl (by omega) _ k (strs (pieces d k)) rfl HOA.out ⟨wr.heap.size, 0, none⟩ 1 1 [.string (piece d k)] rfl rfl HNL.out (by simp [Value.oneCell']) (by unfold maxLen; omega) (by omega) (by have := HB.out.size; simp; omega) ?_
                     intro v' w1 ho1 hg1 _ _
                     have HO1 := hide ho1
                     have HG1 := hide hg1
                     clear ho1 hg1)
        have HP := hide (show strs (pieces d (k + 1)) = strs (pieces d k) ++ [.string (piece d k)] by rw [pieces_snoc]; simp [strs])
        go_roundw
        case rel =>
          refine ⟨k + 1, by omega, by have := HF.out; rw [this]; go_num, by rw [HP.out]; exact HO1, ?_⟩
          exact below_grown HBA.out HBA.out.size HG1.out (fun j hj => own_ge HOA.out hj)
        case measure => have := HF.out; simp [intOf]; omega
    · have hfi : ¬ (F : Int) < (d.size : Int) := by rw [hF]; unfold cuts at hlt; omega
      have hkc : k = cuts d := by omega
      have HR := hide (reads_of_row (fun x hx => by have := pieces_size d k x hx; unfold maxLen; omega) (by rw [pieces_len]; exact HOw.out))
      have HBB := hide (HBW.out.trans (HB.out.mono HBW.out.size))
      clear hF
      go_wp2
      go_ret
      exact ⟨⟨_, rfl, by rw [← hkc]; exact HR.out⟩, HBB.out⟩
end Go.Proofs.YtnpbmaajgiapmaaGreatDoor
/- The program's text of a head. -/
namespace Go.Proofs.YtnpbmaajgiapmaaGreatDoor
open Go.RowKit

set_option maxRecDepth 100000 in
set_option maxHeartbeats 4000000 in
theorem headText_any (g s z : Int) (w : World) (hg : -9223372036854775808 ≤ g ∧ g ≤ 9223372036854775807) (hs : -9223372036854775808 ≤ s ∧ s ≤ 9223372036854775807) (hz : -9223372036854775808 ≤ z ∧ z ≤ 9223372036854775807) :
    Calls Tryz.prog 80 #[.agg #[.int .i64 g, .int .i64 s, .int .i64 z]] w fun e w' => e = .returned (.string (headOf g s z)) ∧ Below w.heap.size w w' := by
  have HG := hide hg
  have HS := hide hs
  have HZ := hide hz
  clear hg hs hz
  have e1 : (St2.bytesOf (St2.enc g)).size ≤ 10 := numText_size g
  have e2 : (St2.bytesOf (St2.enc s)).size ≤ 10 := numText_size s
  have e3 : (St2.bytesOf (St2.enc z)).size ≤ 10 := numText_size z
  have ad1 : ∀ w : World, (Op.stringOp .add (St2.bytesOf (St2.enc g)) (St2.bytesOf (St2.enc s))).run Tryz.prog w = .ok (.string (St2.bytesOf (St2.enc g) ++ St2.bytesOf (St2.enc s))) w := fun w => run_string_add_sum w _ _ (by omega)
  have ad2 : ∀ w : World, (Op.stringOp .add (St2.bytesOf (St2.enc g) ++ St2.bytesOf (St2.enc s)) (St2.bytesOf (St2.enc z))).run Tryz.prog w = .ok (.string (St2.bytesOf (St2.enc g) ++ St2.bytesOf (St2.enc s) ++ St2.bytesOf (St2.enc z))) w := fun w => run_string_add_sum w _ _ (by simp only [ByteArray.size_append]; omega)
  have hb0 : Below w.heap.size w (w.alloc (.cells #[.int .i64 g, .int .i64 s, .int .i64 z] 114)) := (Below.refl _ _).alloc (Nat.le_refl _) _
  have HN := hide (row_new w [.int .i64 g, .int .i64 s, .int .i64 z] 114)
  have HB0 := hide hb0
  obtain ⟨W, hW⟩ : ∃ W, W = w.alloc (.cells #[.int .i64 g, .int .i64 s, .int .i64 z] 114) := ⟨_, rfl⟩
  rw [← hW] at HN HB0
  have HSS := hide (show ∀ x, Below W.heap.size W x → x.cell? ⟨w.heap.size, 0, none⟩ = some (.int .i64 g) ∧ x.cell? ⟨w.heap.size, 1, none⟩ = some (.int .i64 s) ∧ x.cell? ⟨w.heap.size, 2, none⟩ = some (.int .i64 z) ∧ Below W.heap.size W x from
    fun x h => ⟨(Row.after h HN.out).cell 0, (Row.after h HN.out).cell 1, (Row.after h HN.out).cell 2, h⟩)
  clear hb0
  go_enter Tryz.func80, Tryz.ntmps80
  go_wp2_with fail
  rw [← hW]
  clear hW
  go_region_held3 (fun x => x.cell? ⟨w.heap.size, 0, none⟩ = some (.int .i64 g) ∧ x.cell? ⟨w.heap.size, 1, none⟩ = some (.int .i64 s) ∧ x.cell? ⟨w.heap.size, 2, none⟩ = some (.int .i64 z) ∧ Below W.heap.size W x)
    ((go_split_ands; refine HSS.out _ ?_; repeat (first | with_reducible assumption | with_reducible exact Below.refl _ _ | with_reducible refine Below.drew ?_)))
    ((first
      | (go_at_call 103; go_split_ands; refine (St2.implPutNum_any _ _ (by first | exact HG.out.1 | exact HS.out.1 | exact HZ.out.1) (by first | exact HG.out.2 | exact HS.out.2 | exact HZ.out.2)).mono ?_; rintro e w1 ⟨rfl, hb1⟩; have hB1 : Below W.heap.size W w1 := Below.trans (by assumption) (hb1.mono (Below.size (by assumption))); clear hb1)
      | (go_at_call 102; go_split_ands; refine (St1.implSeal_any _ _ (by simp only [ByteArray.size_append]; omega)).mono ?_; rintro e w1 ⟨rfl, hb1⟩; have hB1 : Below W.heap.size W w1 := Below.trans (by assumption) (hb1.mono (Below.size (by assumption))); clear hb1)))
  all_goals
    have HB1 := hide (HB0.out.trans (hB1.mono HB0.out.size))
    go_wp2
    go_ret
    exact ⟨rfl, HB1.out⟩
end Go.Proofs.YtnpbmaajgiapmaaGreatDoor
