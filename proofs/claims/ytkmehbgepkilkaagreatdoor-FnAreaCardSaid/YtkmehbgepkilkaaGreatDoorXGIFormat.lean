/- The program's AreaFormat. -/
import Derived.Test.YtkmehbgepkilkaaGreatDoorXGIFace
import Derived.Test.YtkmehbgepkilkaaGreatDoorXGIHead
import Derived.Test.YtkmehbgepkilkaaGreatDoorXGIRun
import Derived.Test.YtkmehbgepkilkaaGreatDoorXGSFormat
import Derived.Defers
namespace Go.Proofs.YtkmehbgepkilkaaGreatDoor
open Go.RowKit

theorem formatRun {xs : List ByteArray} {ps : List (Int × ByteArray)} {h : ByteArray} (hok : right xs ps = true) (hx : 3 ≤ xs.length) (hs : h.size ≤ 64) :
    runOut [(false, 0, h), (true, 0, ⟨#[]⟩)] xs ps = if 200 ≤ ps.length then illOut 9 else ⟨applyP (ps ++ [(0, h)]) xs, [], ⟨#[]⟩, 0⟩ := by
  have e1 : stepOut (false, 0, h) xs ps = if 200 ≤ ps.length then illOut 9 else ⟨xs, ps ++ [(0, h)], ⟨#[]⟩, 0⟩ := by
    unfold stepOut writeOut
    rw [if_neg (by simp), if_neg (by simp; omega), if_neg (by rw [hok]; simp; omega), if_pos (by simp; omega)]
  unfold runOut
  rw [e1]
  by_cases hf : 200 ≤ ps.length
  · rw [if_pos hf, if_pos hf, if_neg (by simp [illOut])]; rfl
  · rw [if_neg hf, if_neg hf, if_pos rfl]
    have e2 : stepOut (true, 0, ⟨#[]⟩) xs (ps ++ [(0, h)]) = ⟨applyP (ps ++ [(0, h)]) xs, [], ⟨#[]⟩, 0⟩ := by
      unfold stepOut flushOut
      rw [if_pos rfl, rightPush hok (by omega) (by omega) (by omega) hs]; rfl
    unfold runOut
    simp only [e2]
    rfl
theorem listTwo (w : World) (h : ByteArray) (hs : h.size ≤ 64) : ReadsT (w.alloc (.cells #[.bool false, .int .i64 0, .string h, .bool true, .int .i64 0, .string ⟨#[]⟩] 63)) (.slice (some ⟨w.heap.size, 0, none⟩) 2 2) [(false, 0, h), (true, 0, ⟨#[]⟩)] := by
  have r := row_new w [.bool false, .int .i64 0, .string h, .bool true, .int .i64 0, .string ⟨#[]⟩] 63
  refine ⟨_, 2, rfl, Nat.le_refl _, by unfold maxLen; omega, ?_, fun _ => ⟨w.heap.size, 0, rfl, by simp, ?_⟩⟩
  · intro x hx
    simp only [List.mem_cons, List.not_mem_nil, or_false] at hx
    rcases hx with rfl | rfl
    · show h.size ≤ 1048576; omega
    · show (0 : Nat) ≤ 1048576; omega
  · intro i hi
    match i, hi with
    | 0, _ => exact ⟨r.cell 0, r.cell 1, r.cell 2⟩
    | 1, _ => exact ⟨r.cell 3, r.cell 4, r.cell 5⟩
    | i + 2, hi => exact absurd hi (by simp)

set_option maxRecDepth 100000 in
set_option maxHeartbeats 4000000 in
theorem implFormat_ill (vs vp : Value) (xs : List ByteArray) (ps : List (Int × ByteArray)) (aF aR aU : Addr) (w : World) (hn : xs.length ≤ 1048576) (hn2 : ps.length ≤ 1048576) (hr : Reads w vs xs) (hp : ReadsP w vp ps) (hS : Sents aF aR aU w) (hok : right xs ps = false) :
    Calls Tryz.prog 10 #[.agg #[vs, vp]] w fun e w' => AOutIs w.heap.size e w' (aill 1) ∧ Below w.heap.size w w' := by
  have hmf : ∀ (fn : Fn) (first cap : Array Value) (w : World), (Instr.makeFunc fn first cap).run Tryz.prog w = .ok (.func fn first cap) w := fun _ _ _ _ => rfl
  have hb0 : Below w.heap.size w ((w.alloc (.cells #[vs, vp] 26)).alloc (.cells #[.slice none 0 0, .slice none 0 0, .string ⟨#[]⟩, .int .i64 0, .int .i64 0] 31)) :=
    ((Below.refl _ _).alloc (Nat.le_refl _) _).alloc (by simp) _
  have HR := hide (hr.below hb0 (Nat.le_refl _))
  have HP := hide (hp.below hb0 (Nat.le_refl _))
  have HS := hide (Stab.go hb0 hS)
  have HB0 := hide hb0
  obtain ⟨p1, c1, rfl, hq⟩ := hr
  obtain ⟨p2, c2, rfl, hq2⟩ := hp
  have R1 := row_new (w.alloc (.cells #[.slice p1 xs.length c1, .slice p2 ps.length c2] 26)) [.slice none 0 0, .slice none 0 0, .string ⟨#[]⟩, .int .i64 0, .int .i64 0] 31
  simp only [World.size_alloc] at R1
  have HR1 := hide R1
  clear hb0 hq hq2 R1 hS
  go_enter_defers Tryz.func10, Tryz.ntmps10
  go_wp2_with fail
  refine (refuseDisk_any _ _ xs ps aF aR aU _ hn hn2 HR.out HP.out HS.out).mono ?_
  rw [hok]
  rintro e w1 ⟨he, hb1⟩
  simp only [Bool.false_eq_true, if_false] at he
  subst he
  have HB1 := hide (HB0.out.trans (hb1.mono HB0.out.size))
  have HX1 := hide (HR1.out.below hb1 (by simp))
  clear hb1
  go_wp2
  refine leaves_cons (f := 36) (args := #[.pointer (some ⟨w.heap.size + 1, 0, none⟩)]) (by simp) (by simp [go_sem]) ?_
  refine (formatCatch_panic _ _ _ _ _ _ _ _ _ _ 1 [] _ HX1.out).mono ?_
  rintro e u' w2 ⟨rfl, rfl, hrow, hk⟩
  have b0 : w2.cell? ⟨w.heap.size + 1, 0, none⟩ = some (.slice none 0 0) := hrow.cell 0
  have b1 : w2.cell? ⟨w.heap.size + 1, 1, none⟩ = some (.slice none 0 0) := hrow.cell 1
  have b2 : w2.cell? ⟨w.heap.size + 1, 2, none⟩ = some (.string ⟨#[]⟩) := hrow.cell 2
  have b3 : w2.cell? ⟨w.heap.size + 1, 3, none⟩ = some (.int .i64 0) := hrow.cell 3
  have b4 : w2.cell? ⟨w.heap.size + 1, 4, none⟩ = some (.int .i64 1) := hrow.cell 4
  simp [Leaves, settle, results, Tryz.results10, go_sem, b0, b1, b2, b3, b4]
  exact ⟨AOutIs.ill _ _ _, hk.toBelow HB1.out HB1.out.size (by simp)⟩
set_option maxRecDepth 100000 in
set_option maxHeartbeats 4000000 in
theorem implFormat_few (vs vp : Value) (xs : List ByteArray) (ps : List (Int × ByteArray)) (aF aR aU : Addr) (w : World) (hn : xs.length ≤ 1048576) (hn2 : ps.length ≤ 1048576) (hr : Reads w vs xs) (hp : ReadsP w vp ps) (hS : Sents aF aR aU w) (hok : right xs ps = true) (hf : xs.length < 3) :
    Calls Tryz.prog 10 #[.agg #[vs, vp]] w fun e w' => AOutIs w.heap.size e w' (aill 9) ∧ Below w.heap.size w w' := by
  have hmf : ∀ (fn : Fn) (first cap : Array Value) (w : World), (Instr.makeFunc fn first cap).run Tryz.prog w = .ok (.func fn first cap) w := fun _ _ _ _ => rfl
  have hb0 : Below w.heap.size w ((w.alloc (.cells #[vs, vp] 26)).alloc (.cells #[.slice none 0 0, .slice none 0 0, .string ⟨#[]⟩, .int .i64 0, .int .i64 0] 31)) :=
    ((Below.refl _ _).alloc (Nat.le_refl _) _).alloc (by simp) _
  have HR := hide (hr.below hb0 (Nat.le_refl _))
  have HP := hide (hp.below hb0 (Nat.le_refl _))
  have HS := hide (Stab.go hb0 hS)
  have HB0 := hide hb0
  obtain ⟨p1, c1, rfl, hq⟩ := hr
  obtain ⟨p2, c2, rfl, hq2⟩ := hp
  have R1 := row_new (w.alloc (.cells #[.slice p1 xs.length c1, .slice p2 ps.length c2] 26)) [.slice none 0 0, .slice none 0 0, .string ⟨#[]⟩, .int .i64 0, .int .i64 0] 31
  simp only [World.size_alloc] at R1
  have R0 := (row_new w [.slice p1 xs.length c1, .slice p2 ps.length c2] 26).alloc (.cells #[.slice none 0 0, .slice none 0 0, .string ⟨#[]⟩, .int .i64 0, .int .i64 0] 31)
  have HR0 := hide R0
  have HR1 := hide R1
  have t1 : (xs.length : Int) < 3 := by omega
  clear hb0 hq hq2 R1 R0 hS
  go_enter_defers Tryz.func10, Tryz.ntmps10
  go_wp2_with fail
  refine (refuseDisk_any _ _ xs ps aF aR aU _ hn hn2 HR.out HP.out HS.out).mono ?_
  rw [hok]
  rintro e w1 ⟨he, hb1⟩
  simp only [if_true] at he
  subst he
  have HB1 := hide (HB0.out.trans (hb1.mono HB0.out.size))
  have HX1 := hide (HR1.out.below hb1 (by simp))
  have HX0 := hide (HR0.out.below hb1 (by simp; omega))
  have HS1 := hide (Stab.go hb1 HS.out)
  have HRa := hide (HR.out.below hb1 (Nat.le_refl _))
  have HPa := hide (HP.out.below hb1 (Nat.le_refl _))
  have a0 : w1.cell? ⟨w.heap.size, 0, none⟩ = some (.slice p1 xs.length c1) := HX0.out.cell 0
  have a1 : w1.cell? ⟨w.heap.size, 1, none⟩ = some (.slice p2 ps.length c2) := HX0.out.cell 1
  clear hb1
  go_wp2_with fail
  refine (refuse_yes 9 _).mono ?_
  rintro e w1' ⟨rfl, rfl⟩
  go_wp2
  refine leaves_cons (f := 36) (args := #[.pointer (some ⟨w.heap.size + 1, 0, none⟩)]) (by simp) (by simp [go_sem]) ?_
  refine (formatCatch_panic _ _ _ _ _ _ _ _ _ _ 9 [] _ HX1.out).mono ?_
  rintro e u' w2 ⟨rfl, rfl, hrow, hk⟩
  have b0 : w2.cell? ⟨w.heap.size + 1, 0, none⟩ = some (.slice none 0 0) := hrow.cell 0
  have b1 : w2.cell? ⟨w.heap.size + 1, 1, none⟩ = some (.slice none 0 0) := hrow.cell 1
  have b2 : w2.cell? ⟨w.heap.size + 1, 2, none⟩ = some (.string ⟨#[]⟩) := hrow.cell 2
  have b3 : w2.cell? ⟨w.heap.size + 1, 3, none⟩ = some (.int .i64 0) := hrow.cell 3
  have b4 : w2.cell? ⟨w.heap.size + 1, 4, none⟩ = some (.int .i64 9) := hrow.cell 4
  simp [Leaves, settle, results, Tryz.results10, go_sem, b0, b1, b2, b3, b4]
  exact ⟨AOutIs.ill _ _ _, hk.toBelow HB1.out HB1.out.size (by simp)⟩
set_option maxRecDepth 100000 in
set_option maxHeartbeats 4000000 in
theorem implFormat_rest (vs vp : Value) (xs : List ByteArray) (ps : List (Int × ByteArray)) (aF aR aU : Addr) (w : World) (hn : xs.length ≤ 1048576) (hn2 : ps.length ≤ 1048576) (hr : Reads w vs xs) (hp : ReadsP w vp ps) (hS : Sents aF aR aU w) (hok : right xs ps = true) (hf : 3 ≤ xs.length) :
    Calls Tryz.prog 10 #[.agg #[vs, vp]] w fun e w' => AOutIs w.heap.size e w' (formatOut xs ps) ∧ Below w.heap.size w w' := by
  have hmf : ∀ (fn : Fn) (first cap : Array Value) (w : World), (Instr.makeFunc fn first cap).run Tryz.prog w = .ok (.func fn first cap) w := fun _ _ _ _ => rfl
  have hb0 : Below w.heap.size w ((w.alloc (.cells #[vs, vp] 26)).alloc (.cells #[.slice none 0 0, .slice none 0 0, .string ⟨#[]⟩, .int .i64 0, .int .i64 0] 31)) :=
    ((Below.refl _ _).alloc (Nat.le_refl _) _).alloc (by simp) _
  have HR := hide (hr.below hb0 (Nat.le_refl _))
  have HP := hide (hp.below hb0 (Nat.le_refl _))
  have HS := hide (Stab.go hb0 hS)
  have HB0 := hide hb0
  obtain ⟨p1, c1, rfl, hq⟩ := hr
  obtain ⟨p2, c2, rfl, hq2⟩ := hp
  have R1 := row_new (w.alloc (.cells #[.slice p1 xs.length c1, .slice p2 ps.length c2] 26)) [.slice none 0 0, .slice none 0 0, .string ⟨#[]⟩, .int .i64 0, .int .i64 0] 31
  simp only [World.size_alloc] at R1
  have R0 := (row_new w [.slice p1 xs.length c1, .slice p2 ps.length c2] 26).alloc (.cells #[.slice none 0 0, .slice none 0 0, .string ⟨#[]⟩, .int .i64 0, .int .i64 0] 31)
  have HR0 := hide R0
  have HR1 := hide R1
  have t1 : decide ((xs.length : Int) < 3) = false := decide_eq_false (by omega)
  clear hb0 hq hq2 R1 R0 hS
  go_enter_defers Tryz.func10, Tryz.ntmps10
  go_wp2_with fail
  refine (refuseDisk_any _ _ xs ps aF aR aU _ hn hn2 HR.out HP.out HS.out).mono ?_
  rw [hok]
  rintro e w1 ⟨he, hb1⟩
  simp only [if_true] at he
  subst he
  have HB1 := hide (HB0.out.trans (hb1.mono HB0.out.size))
  have HX1 := hide (HR1.out.below hb1 (by simp))
  have HX0 := hide (HR0.out.below hb1 (by simp; omega))
  have HS1 := hide (Stab.go hb1 HS.out)
  have HRa := hide (HR.out.below hb1 (Nat.le_refl _))
  have HPa := hide (HP.out.below hb1 (Nat.le_refl _))
  have a0 : w1.cell? ⟨w.heap.size, 0, none⟩ = some (.slice p1 xs.length c1) := HX0.out.cell 0
  have a1 : w1.cell? ⟨w.heap.size, 1, none⟩ = some (.slice p2 ps.length c2) := HX0.out.cell 1
  clear hb1
  go_wp2_with fail
  refine (refuse_no 9 _).mono ?_
  rintro e w1' ⟨rfl, rfl⟩
  go_wp2_with fail
  obtain ⟨h, Hh⟩ : ∃ h, Hid (h = headOf 0 0 0) := ⟨_, rfl⟩
  have hsz : h.size ≤ 34 := by rw [Hh.out]; exact headOf_size 0 0 0
  refine (headText_any 0 0 0 _ (by omega) (by omega) (by omega)).mono ?_
  rw [← Hh.out]
  rintro e w2 ⟨rfl, hb2⟩
  have HB2 := hide (HB1.out.trans (hb2.mono HB1.out.size))
  have HX2 := hide (Row.after hb2 HX1.out)
  have HY2 := hide (Row.after hb2 HX0.out)
  have HS2 := hide (Stab.go hb2 HS1.out)
  have HRb := hide (HRa.out.below hb2 (Nat.le_refl _))
  have HPb := hide (HPa.out.below hb2 (Nat.le_refl _))
  have b0 : w2.cell? ⟨w.heap.size, 0, none⟩ = some (.slice p1 xs.length c1) := HY2.out.cell 0
  have b1 : w2.cell? ⟨w.heap.size, 1, none⟩ = some (.slice p2 ps.length c2) := HY2.out.cell 1
  have bn := below_new w2 (.cells #[.bool false, .int .i64 0, .string h, .bool true, .int .i64 0, .string ⟨#[]⟩] 63)
  have HT := hide (listTwo w2 h (by omega))
  have HB3 := hide (HB2.out.trans (bn.mono HB2.out.size))
  have HX3 := hide (Row.after bn HX2.out)
  have HY3 := hide (Row.after bn HY2.out)
  have HS3 := hide (Stab.go bn HS2.out)
  have HRc := hide (HRb.out.below bn (Nat.le_refl _))
  have HPc := hide (HPb.out.below bn (Nat.le_refl _))
  have d0 : (w2.alloc (.cells #[.bool false, .int .i64 0, .string h, .bool true, .int .i64 0, .string ⟨#[]⟩] 63)).cell? ⟨w.heap.size, 0, none⟩ = some (.slice p1 xs.length c1) := HY3.out.cell 0
  have d1 : (w2.alloc (.cells #[.bool false, .int .i64 0, .string h, .bool true, .int .i64 0, .string ⟨#[]⟩] 63)).cell? ⟨w.heap.size, 1, none⟩ = some (.slice p2 ps.length c2) := HY3.out.cell 1
  have HRO := hide (formatRun (h := h) hok hf (by omega))
  clear hb2 a0 a1 bn b0 b1
  go_wp2_with fail
  refine (runSteps_any _ _ _ xs ps [(false, 0, h), (true, 0, ⟨#[]⟩)] aF aR aU _ hok (by simp) HRc.out HPc.out HT.out HS3.out).mono ?_
  rw [HRO.out]
  rintro e w3 ⟨hst, hb3⟩
  have HB4 := hide (HB3.out.trans (hb3.mono HB3.out.size))
  have HX4 := hide (Row.after hb3 HX3.out)
  by_cases hfull : 200 ≤ ps.length
  · rw [if_pos hfull] at hst
    have HF := hide (show formatOut xs ps = aill 9 by unfold formatOut; rw [hok, if_neg (by simp), if_pos (.inr hfull)])
    rcases hst with ⟨hc, _⟩ | ⟨_, rfl⟩
    · exact absurd hc (by simp [illOut])
    clear hb3 d0 d1
    go_wp2
    refine leaves_cons (f := 36) (args := #[.pointer (some ⟨w.heap.size + 1, 0, none⟩)]) (by simp) (by simp [go_sem]) ?_
    refine (formatCatch_panic _ _ _ _ _ _ _ _ _ _ 9 [] _ HX4.out).mono ?_
    rintro e u' w5 ⟨rfl, rfl, hrow, hk⟩
    have b0 : w5.cell? ⟨w.heap.size + 1, 0, none⟩ = some (.slice none 0 0) := hrow.cell 0
    have b1 : w5.cell? ⟨w.heap.size + 1, 1, none⟩ = some (.slice none 0 0) := hrow.cell 1
    have b2 : w5.cell? ⟨w.heap.size + 1, 2, none⟩ = some (.string ⟨#[]⟩) := hrow.cell 2
    have b3 : w5.cell? ⟨w.heap.size + 1, 3, none⟩ = some (.int .i64 0) := hrow.cell 3
    have b4 : w5.cell? ⟨w.heap.size + 1, 4, none⟩ = some (.int .i64 9) := hrow.cell 4
    simp [Leaves, settle, results, Tryz.results10, go_sem, b0, b1, b2, b3, b4]
    exact ⟨by rw [HF.out]; exact AOutIs.ill _ _ _, hk.toBelow HB4.out HB4.out.size (by simp)⟩
  · rw [if_neg hfull] at hst
    have HF := hide (show formatOut xs ps = ⟨applyP (ps ++ [(0, h)]) xs, [], ⟨#[]⟩, 0, 0⟩ by unfold formatOut; rw [hok, if_neg (by simp), if_neg (by omega), Hh.out])
    obtain ⟨_, us, up, rfl, o1, o2, dd⟩ := Or.resolve_right hst (fun h => h.1 rfl)
    obtain ⟨i1, j1, k1, rfl⟩ := o1.isSlice
    obtain ⟨i2, j2, k2, rfl⟩ := o2.isSlice
    have hz2 := HX2.out.lt
    have O1 := hide o1
    have O2 := hide o2
    have DD := hide dd
    have c0 : w3.cell? ⟨w.heap.size + 1, 0, none⟩ = some (.slice none 0 0) := HX4.out.cell 0
    have c1' : w3.cell? ⟨w.heap.size + 1, 1, none⟩ = some (.slice none 0 0) := HX4.out.cell 1
    have c2' : w3.cell? ⟨w.heap.size + 1, 2, none⟩ = some (.string ⟨#[]⟩) := HX4.out.cell 2
    have c3 : w3.cell? ⟨w.heap.size + 1, 3, none⟩ = some (.int .i64 0) := HX4.out.cell 3
    have c4 : w3.cell? ⟨w.heap.size + 1, 4, none⟩ = some (.int .i64 0) := HX4.out.cell 4
    have f0 := HX4.out.free 0
    have f1 := HX4.out.free 1
    have f2 := HX4.out.free 2
    have f3 := HX4.out.free 3
    have f4 := HX4.out.free 4
    clear hb3 d0 d1 o1 o2 dd
    go_wp2
    obtain ⟨q0, q1, q2, q3, q4, KF⟩ := five HX4.out (.slice i1 j1 k1) (.slice i2 j2 k2) (.string ⟨#[]⟩) (.int .i64 0) (.int .i64 0)
    have HRow := hide (((((HX4.out.set (j := 0) (.slice i1 j1 k1)).set (j := 1) (.slice i2 j2 k2)).set (j := 2) (.string ⟨#[]⟩)).set (j := 3) (.int .i64 0)).set (j := 4) (.int .i64 0))
    refine leaves_cons (f := 36) (args := #[.pointer (some ⟨w.heap.size + 1, 0, none⟩)]) (by simp) (by simp [go_sem]) ?_
    refine (formatCatch_idle (w.heap.size + 1) i1 i2 j1 k1 j2 k2 ⟨#[]⟩ 0 0 _ HRow.out).mono ?_
    rintro e u' w5 ⟨rfl, rfl, hrow, hk⟩
    have b0 : w5.cell? ⟨w.heap.size + 1, 0, none⟩ = some (.slice i1 j1 k1) := hrow.cell 0
    have b1 : w5.cell? ⟨w.heap.size + 1, 1, none⟩ = some (.slice i2 j2 k2) := hrow.cell 1
    have b2 : w5.cell? ⟨w.heap.size + 1, 2, none⟩ = some (.string ⟨#[]⟩) := hrow.cell 2
    have b3 : w5.cell? ⟨w.heap.size + 1, 3, none⟩ = some (.int .i64 0) := hrow.cell 3
    have b4 : w5.cell? ⟨w.heap.size + 1, 4, none⟩ = some (.int .i64 0) := hrow.cell 4
    have K2 := KF.trans hk
    simp [Leaves, settle, results, Tryz.results10, go_sem, b0, b1, b2, b3, b4]
    refine ⟨?_, K2.toBelow HB4.out HB4.out.size (by simp)⟩
    rw [HF.out]
    exact ⟨_, _, rfl, (O1.out.kept K2 (fun x hx => by have := (O1.out.leads x hx).1; simp at this ⊢; omega)).mono HB3.out.size, (O2.out.kept K2 (fun x hx => by have := (O2.out.leads x hx).1; simp at this ⊢; omega)).mono HB3.out.size, DD.out⟩

theorem implFormat_any (vs vp : Value) (xs : List ByteArray) (ps : List (Int × ByteArray)) (aF aR aU : Addr) (w : World) (hn : xs.length ≤ 1048576) (hn2 : ps.length ≤ 1048576) (hr : Reads w vs xs) (hp : ReadsP w vp ps) (hS : Sents aF aR aU w) :
    Calls Tryz.prog 10 #[.agg #[vs, vp]] w fun e w' => AOutIs w.heap.size e w' (formatOut xs ps) ∧ Below w.heap.size w w' := by
  cases hok : right xs ps with
  | false =>
    have h : formatOut xs ps = aill 1 := by unfold formatOut; rw [if_pos hok]
    rw [h]; exact implFormat_ill vs vp xs ps aF aR aU w hn hn2 hr hp hS hok
  | true =>
    by_cases hf : xs.length < 3
    · have h : formatOut xs ps = aill 9 := by unfold formatOut; rw [hok, if_neg (by simp), if_pos (.inl hf)]
      rw [h]; exact implFormat_few vs vp xs ps aF aR aU w hn hn2 hr hp hS hok hf
    · exact implFormat_rest vs vp xs ps aF aR aU w hn hn2 hr hp hS hok (by omega)
end Go.Proofs.YtkmehbgepkilkaaGreatDoor
