/- The program's AreaFormat. -/
import Derived.Test.YtnpbmaajgiapmaaGreatDoorXG20IFace
import Derived.Test.YtnpbmaajgiapmaaGreatDoorXG21IHead
import Derived.Test.YtnpbmaajgiapmaaGreatDoorXG22IStep
import Derived.Test.YtnpbmaajgiapmaaGreatDoorXG14AOut
import Derived.Defers
import Derived.Test.YtnpbmaajgiapmaaGreatDoorXG26IRArea
import Derived.Test.YtnpbmaajgiapmaaGreatDoorXG31QStText
import Derived.Test.YtnpbmaajgiapmaaGreatDoorXG9SSeen2
namespace Go.Proofs.YtnpbmaajgiapmaaGreatDoor
open Go.RowKit

theorem formatRun {xs : List ByteArray} {ps : List (Int × ByteArray)} {h : ByteArray} (hok : right xs ps = true) (hx : 3 ≤ xs.length) (hs : h.size ≤ 64) :
    runOut [(false, 0, h), (true, 0, ⟨#[]⟩)] xs ps = if 200 ≤ ps.length then illOut 9 else ⟨applyP (ps ++ [(0, h)]) xs, [], ⟨#[]⟩, 0⟩ := by
  have e1 : stepOut (false, 0, h) xs ps = if 200 ≤ ps.length then illOut 9 else ⟨xs, ps ++ [(0, h)], ⟨#[]⟩, 0⟩ := by
    unfold stepOut writeOut
    rw [if_neg (by simp), if_neg (by simp; omega), if_neg (by rw [hok]; simp; omega), if_pos (by simp; omega)]
  unfold runOut
  rw [e1]
  by_cases hf : 200 ≤ ps.length
  · rw [if_pos hf, if_pos hf, if_neg (by simp [illOut])]; rfl
  · rw [if_neg hf, if_neg hf, if_pos rfl]
    have e2 : stepOut (true, 0, ⟨#[]⟩) xs (ps ++ [(0, h)]) = ⟨applyP (ps ++ [(0, h)]) xs, [], ⟨#[]⟩, 0⟩ := by
      unfold stepOut flushOut
      rw [if_pos rfl, rightPush hok (by omega) (by omega) (by omega) hs]; rfl
    unfold runOut
    simp only [e2]
    rfl
theorem listTwo (w : World) (h : ByteArray) (hs : h.size ≤ 64) : ReadsT (w.alloc (.cells #[.bool false, .int .i64 0, .string h, .bool true, .int .i64 0, .string ⟨#[]⟩] 116)) (.slice (some ⟨w.heap.size, 0, none⟩) 2 2) [(false, 0, h), (true, 0, ⟨#[]⟩)] := by
  have r := row_new w [.bool false, .int .i64 0, .string h, .bool true, .int .i64 0, .string ⟨#[]⟩] 116
  refine ⟨_, 2, rfl, Nat.le_refl _, by unfold maxLen; omega, ?_, fun _ => ⟨w.heap.size, 0, rfl, by simp, ?_⟩⟩
  · intro x hx
    simp only [List.mem_cons, List.not_mem_nil, or_false] at hx
    rcases hx with rfl | rfl
    · show h.size ≤ 1048576; omega
    · show (0 : Nat) ≤ 1048576; omega
  · intro i hi
    match i, hi with
    | 0, _ => exact ⟨r.cell 0, r.cell 1, r.cell 2⟩
    | 1, _ => exact ⟨r.cell 3, r.cell 4, r.cell 5⟩
    | i + 2, hi => exact absurd hi (by simp)

set_option maxRecDepth 100000 in
set_option maxHeartbeats 4000000 in
theorem implFormat_ill (vs vp : Value) (xs : List ByteArray) (ps : List (Int × ByteArray)) (aF aR aU : Addr) (w : World) (hn : xs.length ≤ 1048576) (hn2 : ps.length ≤ 1048576) (hr : Reads w vs xs) (hp : ReadsP w vp ps) (hS : Sents aF aR aU w) (hok : right xs ps = false) :
    Calls Tryz.prog 39 #[.agg #[vs, vp]] w fun e w' => AOutIs w.heap.size e w' (aill 1) ∧ Below w.heap.size w w' := by
  have hmf : ∀ (fn : Fn) (first cap : Array Value) (w : World), (Instr.makeFunc fn first cap).run Tryz.prog w = .ok (.func fn first cap) w := fun _ _ _ _ => rfl
  have hb0 : Below w.heap.size w ((w.alloc (.cells #[vs, vp] 30)).alloc (.cells #[.slice none 0 0, .slice none 0 0, .string ⟨#[]⟩, .int .i64 0, .int .i64 0] 63)) :=
    ((Below.refl _ _).alloc (Nat.le_refl _) _).alloc (by simp) _
  have HR := hide (hr.below hb0 (Nat.le_refl _))
  have HP := hide (hp.below hb0 (Nat.le_refl _))
  have HS := hide (Stab.go hb0 hS)
  have HB0 := hide hb0
  obtain ⟨p1, c1, rfl, hq⟩ := hr
  obtain ⟨p2, c2, rfl, hq2⟩ := hp
  have R1 := row_new (w.alloc (.cells #[.slice p1 xs.length c1, .slice p2 ps.length c2] 30)) [.slice none 0 0, .slice none 0 0, .string ⟨#[]⟩, .int .i64 0, .int .i64 0] 63
  simp only [World.size_alloc] at R1
  have HR1 := hide R1
  clear hb0 hq hq2 R1 hS
  go_enter_defers Tryz.func39, Tryz.ntmps39
  go_wp2_with fail
  refine (refuseDisk_any _ _ xs ps aF aR aU _ hn hn2 HR.out HP.out HS.out).mono ?_
  rw [hok]
  rintro e w1 ⟨he, hb1⟩
  simp only [Bool.false_eq_true, if_false] at he
  subst he
  have HB1 := hide (HB0.out.trans (hb1.mono HB0.out.size))
  have HX1 := hide (HR1.out.below hb1 (by simp))
  clear hb1
  go_wp2
  refine leaves_cons (f := 76) (args := #[.pointer (some ⟨w.heap.size + 1, 0, none⟩)]) (by simp) (by simp [go_sem]) ?_
  refine (formatCatch_panic _ _ _ _ _ _ _ _ _ _ 1 [] _ HX1.out).mono ?_
  rintro e u' w2 ⟨rfl, rfl, hrow, hk⟩
  have b0 : w2.cell? ⟨w.heap.size + 1, 0, none⟩ = some (.slice none 0 0) := hrow.cell 0
  have b1 : w2.cell? ⟨w.heap.size + 1, 1, none⟩ = some (.slice none 0 0) := hrow.cell 1
  have b2 : w2.cell? ⟨w.heap.size + 1, 2, none⟩ = some (.string ⟨#[]⟩) := hrow.cell 2
  have b3 : w2.cell? ⟨w.heap.size + 1, 3, none⟩ = some (.int .i64 0) := hrow.cell 3
  have b4 : w2.cell? ⟨w.heap.size + 1, 4, none⟩ = some (.int .i64 1) := hrow.cell 4
  simp [Leaves, settle, results, Tryz.results39, go_sem, b0, b1, b2, b3, b4]
  exact ⟨AOutIs.ill _ _ _, hk.toBelow HB1.out HB1.out.size (by simp)⟩
set_option maxRecDepth 100000 in
set_option maxHeartbeats 4000000 in
theorem implFormat_few (vs vp : Value) (xs : List ByteArray) (ps : List (Int × ByteArray)) (aF aR aU : Addr) (w : World) (hn : xs.length ≤ 1048576) (hn2 : ps.length ≤ 1048576) (hr : Reads w vs xs) (hp : ReadsP w vp ps) (hS : Sents aF aR aU w) (hok : right xs ps = true) (hf : xs.length < 3) :
    Calls Tryz.prog 39 #[.agg #[vs, vp]] w fun e w' => AOutIs w.heap.size e w' (aill 9) ∧ Below w.heap.size w w' := by
  have hmf : ∀ (fn : Fn) (first cap : Array Value) (w : World), (Instr.makeFunc fn first cap).run Tryz.prog w = .ok (.func fn first cap) w := fun _ _ _ _ => rfl
  have hb0 : Below w.heap.size w ((w.alloc (.cells #[vs, vp] 30)).alloc (.cells #[.slice none 0 0, .slice none 0 0, .string ⟨#[]⟩, .int .i64 0, .int .i64 0] 63)) :=
    ((Below.refl _ _).alloc (Nat.le_refl _) _).alloc (by simp) _
  have HR := hide (hr.below hb0 (Nat.le_refl _))
  have HP := hide (hp.below hb0 (Nat.le_refl _))
  have HS := hide (Stab.go hb0 hS)
  have HB0 := hide hb0
  obtain ⟨p1, c1, rfl, hq⟩ := hr
  obtain ⟨p2, c2, rfl, hq2⟩ := hp
  have R1 := row_new (w.alloc (.cells #[.slice p1 xs.length c1, .slice p2 ps.length c2] 30)) [.slice none 0 0, .slice none 0 0, .string ⟨#[]⟩, .int .i64 0, .int .i64 0] 63
  simp only [World.size_alloc] at R1
  have R0 := (row_new w [.slice p1 xs.length c1, .slice p2 ps.length c2] 30).alloc (.cells #[.slice none 0 0, .slice none 0 0, .string ⟨#[]⟩, .int .i64 0, .int .i64 0] 63)
  have HR0 := hide R0
  have HR1 := hide R1
  have t1 : (xs.length : Int) < 3 := by omega
  clear hb0 hq hq2 R1 R0 hS
  go_enter_defers Tryz.func39, Tryz.ntmps39
  go_wp2_with fail
  refine (refuseDisk_any _ _ xs ps aF aR aU _ hn hn2 HR.out HP.out HS.out).mono ?_
  rw [hok]
  rintro e w1 ⟨he, hb1⟩
  simp only [if_true] at he
  subst he
  have HB1 := hide (HB0.out.trans (hb1.mono HB0.out.size))
  have HX1 := hide (HR1.out.below hb1 (by simp))
  have HX0 := hide (HR0.out.below hb1 (by simp; omega))
  have HS1 := hide (Stab.go hb1 HS.out)
  have HRa := hide (HR.out.below hb1 (Nat.le_refl _))
  have HPa := hide (HP.out.below hb1 (Nat.le_refl _))
  have a0 : w1.cell? ⟨w.heap.size, 0, none⟩ = some (.slice p1 xs.length c1) := HX0.out.cell 0
  have a1 : w1.cell? ⟨w.heap.size, 1, none⟩ = some (.slice p2 ps.length c2) := HX0.out.cell 1
  clear hb1
  go_wp2_with fail
  refine (refuse_yes 9 _).mono ?_
  rintro e w1' ⟨rfl, rfl⟩
  go_wp2
  refine leaves_cons (f := 76) (args := #[.pointer (some ⟨w.heap.size + 1, 0, none⟩)]) (by simp) (by simp [go_sem]) ?_
  refine (formatCatch_panic _ _ _ _ _ _ _ _ _ _ 9 [] _ HX1.out).mono ?_
  rintro e u' w2 ⟨rfl, rfl, hrow, hk⟩
  have b0 : w2.cell? ⟨w.heap.size + 1, 0, none⟩ = some (.slice none 0 0) := hrow.cell 0
  have b1 : w2.cell? ⟨w.heap.size + 1, 1, none⟩ = some (.slice none 0 0) := hrow.cell 1
  have b2 : w2.cell? ⟨w.heap.size + 1, 2, none⟩ = some (.string ⟨#[]⟩) := hrow.cell 2
  have b3 : w2.cell? ⟨w.heap.size + 1, 3, none⟩ = some (.int .i64 0) := hrow.cell 3
  have b4 : w2.cell? ⟨w.heap.size + 1, 4, none⟩ = some (.int .i64 9) := hrow.cell 4
  simp [Leaves, settle, results, Tryz.results39, go_sem, b0, b1, b2, b3, b4]
  exact ⟨AOutIs.ill _ _ _, hk.toBelow HB1.out HB1.out.size (by simp)⟩
set_option maxRecDepth 100000 in
set_option maxHeartbeats 4000000 in
theorem implFormat_rest (vs vp : Value) (xs : List ByteArray) (ps : List (Int × ByteArray)) (aF aR aU : Addr) (w : World) (hn : xs.length ≤ 1048576) (hn2 : ps.length ≤ 1048576) (hr : Reads w vs xs) (hp : ReadsP w vp ps) (hS : Sents aF aR aU w) (hok : right xs ps = true) (hf : 3 ≤ xs.length) :
    Calls Tryz.prog 39 #[.agg #[vs, vp]] w fun e w' => AOutIs w.heap.size e w' (formatOut xs ps) ∧ Below w.heap.size w w' := by
  have hmf : ∀ (fn : Fn) (first cap : Array Value) (w : World), (Instr.makeFunc fn first cap).run Tryz.prog w = .ok (.func fn first cap) w := fun _ _ _ _ => rfl
  have hb0 : Below w.heap.size w ((w.alloc (.cells #[vs, vp] 30)).alloc (.cells #[.slice none 0 0, .slice none 0 0, .string ⟨#[]⟩, .int .i64 0, .int .i64 0] 63)) :=
    ((Below.refl _ _).alloc (Nat.le_refl _) _).alloc (by simp) _
  have HR := hide (hr.below hb0 (Nat.le_refl _))
  have HP := hide (hp.below hb0 (Nat.le_refl _))
  have HS := hide (Stab.go hb0 hS)
  have HB0 := hide hb0
  obtain ⟨p1, c1, rfl, hq⟩ := hr
  obtain ⟨p2, c2, rfl, hq2⟩ := hp
  have R1 := row_new (w.alloc (.cells #[.slice p1 xs.length c1, .slice p2 ps.length c2] 30)) [.slice none 0 0, .slice none 0 0, .string ⟨#[]⟩, .int .i64 0, .int .i64 0] 63
  simp only [World.size_alloc] at R1
  have R0 := (row_new w [.slice p1 xs.length c1, .slice p2 ps.length c2] 30).alloc (.cells #[.slice none 0 0, .slice none 0 0, .string ⟨#[]⟩, .int .i64 0, .int .i64 0] 63)
  have HR0 := hide R0
  have HR1 := hide R1
  have t1 : decide ((xs.length : Int) < 3) = false := decide_eq_false (by omega)
  clear hb0 hq hq2 R1 R0 hS
  go_enter_defers Tryz.func39, Tryz.ntmps39
  go_wp2_with fail
  refine (refuseDisk_any _ _ xs ps aF aR aU _ hn hn2 HR.out HP.out HS.out).mono ?_
  rw [hok]
  rintro e w1 ⟨he, hb1⟩
  simp only [if_true] at he
  subst he
  have HB1 := hide (HB0.out.trans (hb1.mono HB0.out.size))
  have HX1 := hide (HR1.out.below hb1 (by simp))
  have HX0 := hide (HR0.out.below hb1 (by simp; omega))
  have HS1 := hide (Stab.go hb1 HS.out)
  have HRa := hide (HR.out.below hb1 (Nat.le_refl _))
  have HPa := hide (HP.out.below hb1 (Nat.le_refl _))
  have a0 : w1.cell? ⟨w.heap.size, 0, none⟩ = some (.slice p1 xs.length c1) := HX0.out.cell 0
  have a1 : w1.cell? ⟨w.heap.size, 1, none⟩ = some (.slice p2 ps.length c2) := HX0.out.cell 1
  clear hb1
  go_wp2_with fail
  refine (refuse_no 9 _).mono ?_
  rintro e w1' ⟨rfl, rfl⟩
  go_wp2_with fail
  obtain ⟨h, Hh⟩ : ∃ h, Hid (h = headOf 0 0 0) := ⟨_, rfl⟩
  have hsz : h.size ≤ 34 := by rw [Hh.out]; exact headOf_size 0 0 0
  refine (headText_any 0 0 0 _ (by omega) (by omega) (by omega)).mono ?_
  rw [← Hh.out]
  rintro e w2 ⟨rfl, hb2⟩
  have HB2 := hide (HB1.out.trans (hb2.mono HB1.out.size))
  have HX2 := hide (Row.after hb2 HX1.out)
  have HY2 := hide (Row.after hb2 HX0.out)
  have HS2 := hide (Stab.go hb2 HS1.out)
  have HRb := hide (HRa.out.below hb2 (Nat.le_refl _))
  have HPb := hide (HPa.out.below hb2 (Nat.le_refl _))
  have b0 : w2.cell? ⟨w.heap.size, 0, none⟩ = some (.slice p1 xs.length c1) := HY2.out.cell 0
  have b1 : w2.cell? ⟨w.heap.size, 1, none⟩ = some (.slice p2 ps.length c2) := HY2.out.cell 1
  have bn := below_new w2 (.cells #[.bool false, .int .i64 0, .string h, .bool true, .int .i64 0, .string ⟨#[]⟩] 116)
  have HT := hide (listTwo w2 h (by omega))
  have HB3 := hide (HB2.out.trans (bn.mono HB2.out.size))
  have HX3 := hide (Row.after bn HX2.out)
  have HY3 := hide (Row.after bn HY2.out)
  have HS3 := hide (Stab.go bn HS2.out)
  have HRc := hide (HRb.out.below bn (Nat.le_refl _))
  have HPc := hide (HPb.out.below bn (Nat.le_refl _))
  have d0 : (w2.alloc (.cells #[.bool false, .int .i64 0, .string h, .bool true, .int .i64 0, .string ⟨#[]⟩] 116)).cell? ⟨w.heap.size, 0, none⟩ = some (.slice p1 xs.length c1) := HY3.out.cell 0
  have d1 : (w2.alloc (.cells #[.bool false, .int .i64 0, .string h, .bool true, .int .i64 0, .string ⟨#[]⟩] 116)).cell? ⟨w.heap.size, 1, none⟩ = some (.slice p2 ps.length c2) := HY3.out.cell 1
  have HRO := hide (formatRun (h := h) hok hf (by omega))
  clear hb2 a0 a1 bn b0 b1
  go_wp2_with fail
  refine (runSteps_any _ _ _ xs ps [(false, 0, h), (true, 0, ⟨#[]⟩)] aF aR aU _ hok (by simp) HRc.out HPc.out HT.out HS3.out).mono ?_
  rw [HRO.out]
  rintro e w3 ⟨hst, hb3⟩
  have HB4 := hide (HB3.out.trans (hb3.mono HB3.out.size))
  have HX4 := hide (Row.after hb3 HX3.out)
  by_cases hfull : 200 ≤ ps.length
  · rw [if_pos hfull] at hst
    have HF := hide (show formatOut xs ps = aill 9 by unfold formatOut; rw [hok, if_neg (by simp), if_pos (.inr hfull)])
    rcases hst with ⟨hc, _⟩ | ⟨_, rfl⟩
    · exact absurd hc (by simp [illOut])
    clear hb3 d0 d1
    go_wp2
    refine leaves_cons (f := 76) (args := #[.pointer (some ⟨w.heap.size + 1, 0, none⟩)]) (by simp) (by simp [go_sem]) ?_
    refine (formatCatch_panic _ _ _ _ _ _ _ _ _ _ 9 [] _ HX4.out).mono ?_
    rintro e u' w5 ⟨rfl, rfl, hrow, hk⟩
    have b0 : w5.cell? ⟨w.heap.size + 1, 0, none⟩ = some (.slice none 0 0) := hrow.cell 0
    have b1 : w5.cell? ⟨w.heap.size + 1, 1, none⟩ = some (.slice none 0 0) := hrow.cell 1
    have b2 : w5.cell? ⟨w.heap.size + 1, 2, none⟩ = some (.string ⟨#[]⟩) := hrow.cell 2
    have b3 : w5.cell? ⟨w.heap.size + 1, 3, none⟩ = some (.int .i64 0) := hrow.cell 3
    have b4 : w5.cell? ⟨w.heap.size + 1, 4, none⟩ = some (.int .i64 9) := hrow.cell 4
    simp [Leaves, settle, results, Tryz.results39, go_sem, b0, b1, b2, b3, b4]
    exact ⟨by rw [HF.out]; exact AOutIs.ill _ _ _, hk.toBelow HB4.out HB4.out.size (by simp)⟩
  · rw [if_neg hfull] at hst
    have HF := hide (show formatOut xs ps = ⟨applyP (ps ++ [(0, h)]) xs, [], ⟨#[]⟩, 0, 0⟩ by unfold formatOut; rw [hok, if_neg (by simp), if_neg (by omega), Hh.out])
    obtain ⟨_, us, up, rfl, o1, o2, dd⟩ := Or.resolve_right hst (fun h => h.1 rfl)
    obtain ⟨i1, j1, k1, rfl⟩ := o1.isSlice
    obtain ⟨i2, j2, k2, rfl⟩ := o2.isSlice
    have hz2 := HX2.out.lt
    have O1 := hide o1
    have O2 := hide o2
    have DD := hide dd
    have c0 : w3.cell? ⟨w.heap.size + 1, 0, none⟩ = some (.slice none 0 0) := HX4.out.cell 0
    have c1' : w3.cell? ⟨w.heap.size + 1, 1, none⟩ = some (.slice none 0 0) := HX4.out.cell 1
    have c2' : w3.cell? ⟨w.heap.size + 1, 2, none⟩ = some (.string ⟨#[]⟩) := HX4.out.cell 2
    have c3 : w3.cell? ⟨w.heap.size + 1, 3, none⟩ = some (.int .i64 0) := HX4.out.cell 3
    have c4 : w3.cell? ⟨w.heap.size + 1, 4, none⟩ = some (.int .i64 0) := HX4.out.cell 4
    have f0 := HX4.out.free 0
    have f1 := HX4.out.free 1
    have f2 := HX4.out.free 2
    have f3 := HX4.out.free 3
    have f4 := HX4.out.free 4
    clear hb3 d0 d1 o1 o2 dd
    go_wp2
    obtain ⟨q0, q1, q2, q3, q4, KF⟩ := five HX4.out (.slice i1 j1 k1) (.slice i2 j2 k2) (.string ⟨#[]⟩) (.int .i64 0) (.int .i64 0)
    have HRow := hide (((((HX4.out.set (j := 0) (.slice i1 j1 k1)).set (j := 1) (.slice i2 j2 k2)).set (j := 2) (.string ⟨#[]⟩)).set (j := 3) (.int .i64 0)).set (j := 4) (.int .i64 0))
    refine leaves_cons (f := 76) (args := #[.pointer (some ⟨w.heap.size + 1, 0, none⟩)]) (by simp) (by simp [go_sem]) ?_
    refine (formatCatch_idle (w.heap.size + 1) i1 i2 j1 k1 j2 k2 ⟨#[]⟩ 0 0 _ HRow.out).mono ?_
    rintro e u' w5 ⟨rfl, rfl, hrow, hk⟩
    have b0 : w5.cell? ⟨w.heap.size + 1, 0, none⟩ = some (.slice i1 j1 k1) := hrow.cell 0
    have b1 : w5.cell? ⟨w.heap.size + 1, 1, none⟩ = some (.slice i2 j2 k2) := hrow.cell 1
    have b2 : w5.cell? ⟨w.heap.size + 1, 2, none⟩ = some (.string ⟨#[]⟩) := hrow.cell 2
    have b3 : w5.cell? ⟨w.heap.size + 1, 3, none⟩ = some (.int .i64 0) := hrow.cell 3
    have b4 : w5.cell? ⟨w.heap.size + 1, 4, none⟩ = some (.int .i64 0) := hrow.cell 4
    have K2 := KF.trans hk
    simp [Leaves, settle, results, Tryz.results39, go_sem, b0, b1, b2, b3, b4]
    refine ⟨?_, K2.toBelow HB4.out HB4.out.size (by simp)⟩
    rw [HF.out]
    exact ⟨_, _, rfl, (O1.out.kept K2 (fun x hx => by have := (O1.out.leads x hx).1; simp at this ⊢; omega)).mono HB3.out.size, (O2.out.kept K2 (fun x hx => by have := (O2.out.leads x hx).1; simp at this ⊢; omega)).mono HB3.out.size, DD.out⟩

theorem implFormat_any (vs vp : Value) (xs : List ByteArray) (ps : List (Int × ByteArray)) (aF aR aU : Addr) (w : World) (hn : xs.length ≤ 1048576) (hn2 : ps.length ≤ 1048576) (hr : Reads w vs xs) (hp : ReadsP w vp ps) (hS : Sents aF aR aU w) :
    Calls Tryz.prog 39 #[.agg #[vs, vp]] w fun e w' => AOutIs w.heap.size e w' (formatOut xs ps) ∧ Below w.heap.size w w' := by
  cases hok : right xs ps with
  | false =>
    have h : formatOut xs ps = aill 1 := by unfold formatOut; rw [if_pos hok]
    rw [h]; exact implFormat_ill vs vp xs ps aF aR aU w hn hn2 hr hp hS hok
  | true =>
    by_cases hf : xs.length < 3
    · have h : formatOut xs ps = aill 9 := by unfold formatOut; rw [hok, if_neg (by simp), if_pos (.inl hf)]
      rw [h]; exact implFormat_few vs vp xs ps aF aR aU w hn hn2 hr hp hS hok hf
    · exact implFormat_rest vs vp xs ps aF aR aU w hn hn2 hr hp hS hok (by omega)
end Go.Proofs.YtnpbmaajgiapmaaGreatDoor
/- StoreNew, of the program and of the model. -/
namespace Go.Proofs.YtnpbmaajgiapmaaGreatDoor
open Go.RowKit

theorem newDisk_len' (n : Int) : (newDisk n).length ≤ 64 := by
  unfold newDisk
  split
  · rw [List.length_replicate]; omega
  · simp
theorem fieldAD (a b c d e : Value) (w : World) : (Instr.field 63 (.agg #[a, b, c, d, e]) 0).run Tryz.prog w = .ok (.agg #[a, b]) w := by kernel_rfl
theorem fieldKD (a b c d : Value) (w : World) : (Instr.field 38 (.agg #[a, b, c, d]) 0).run Tryz.prog w = .ok (.agg #[a, b]) w := by kernel_rfl
def newF (n : Int) : AOut := formatOut (newDisk n) []
def newS (n : Int) : AOut := putOut (newF n).xs (newF n).ps (storeB []) 100
theorem store0_size : (storeB []).size ≤ 10 := numText_size 0
theorem putOut_steps (xs : List ByteArray) (ps : List (Int × ByteArray)) {d : ByteArray} (hd : d.size ≤ 10) {a b : Int} (ha : 100 ≤ a) (hb : 100 ≤ b) : putOut xs ps d a = putOut xs ps d b := by
  have hc : cuts d ≤ 1 := by unfold cuts; omega
  have h : ∀ (h side gen : Int) (a : Int), 100 ≤ a → (putList h side gen d).take a.toNat = putList h side gen d := fun h side gen a ha => List.take_of_length_le (by rw [putList_len]; omega)
  unfold putOut
  rw [h _ _ _ a ha, h _ _ _ b hb]
theorem newF_len (n : Int) : (newF n).xs.length ≤ 1048576 ∧ (newF n).ps.length ≤ 1048576 := by
  unfold newF formatOut
  split
  · simp [aill]
  · split
    · simp [aill]
    · rename_i h1 h2
      have hr : right (newDisk n) [] = true := by simpa using h1
      have := (right_len hr)
      constructor
      · simp only
        rw [applyP_len]
        unfold newDisk
        split
        · rw [List.length_replicate]; omega
        · simp
      · simp
theorem newS_out (n : Int) (h : ¬ (3 ≤ n ∧ n ≤ 64)) : (newS n).xs = [] ∧ (newS n).ps = [] := by
  have hf : (newF n).xs = [] ∧ (newF n).ps = [] := by
    unfold newF formatOut
    split
    · exact ⟨rfl, rfl⟩
    · rename_i h1
      rw [if_pos]
      · exact ⟨rfl, rfl⟩
      · refine .inl ?_
        unfold newDisk
        split
        · rw [List.length_replicate]; omega
        · simp
  unfold newS
  rw [hf.1, hf.2]
  unfold putOut
  rw [if_neg (by have := store0_size; omega), if_pos (by rfl)]
  exact ⟨rfl, rfl⟩
theorem newS_len (n : Int) : (newS n).xs.length ≤ 1048576 ∧ (newS n).ps.length ≤ 1048576 := putOut_len _ _

set_option maxHeartbeats 4000000 in
theorem specStoreNew_any (n : Int) (w : World) :
    Calls Tryz.prog 13 #[.int .i64 n] w fun e w' => DiskIs w.heap.size e w' (newS n).xs (newS n).ps ∧ Below w.heap.size w w' := by
  have hb0 : Below w.heap.size w (w.alloc (.cells #[.slice none 0 0, .slice none 0 0] 30)) := (Below.refl _ _).alloc (Nat.le_refl _) _
  by_cases hin : 3 ≤ n ∧ n ≤ 64
  · have HB0 := hide hb0
    have HR0 := hide (row_new w [.slice none 0 0, .slice none 0 0] 30)
    have HFL := hide (newF_len n)
    have HXS : Hid (∃ X, X = newF n) := ⟨_, rfl⟩
    obtain ⟨X, hX⟩ := HXS.out
    have HX := hide (show formatOut (newDisk n) [] = X from hX.symm)
    have HN := hide (show newS n = putOut X.xs X.ps (storeB []) 100 by rw [hX]; rfl)
    rw [← hX] at HFL
    have hl := newDisk_len' n
    clear hb0 hX HXS
    obtain ⟨D, hD⟩ : ∃ D, D = newDisk n := ⟨_, rfl⟩
    have HDD := hide hD
    rw [← hD] at hl HX
    clear hD
    go_enter Tryz.func13, Tryz.ntmps13
    go_wp2_with fail
    refine (l02Is_yes _ _ _ _ hin.1 hin.2).mono ?_
    rintro e w1 ⟨rfl, rfl⟩
    go_wp2_with fail
    refine (specNew_any n _).mono ?_
    rw [← HDD.out]
    rintro e w2 ⟨⟨us, up, rfl, o1, o2, _⟩, hb2⟩
    obtain ⟨p1, n1, c1, rfl⟩ := o1.isSlice
    obtain ⟨p2, n2, c2, rfl⟩ := o2.isSlice
    have HB2 := hide (HB0.out.trans (hb2.mono HB0.out.size))
    have HR2 := hide (HR0.out.below hb2 HR0.out.lt)
    have H1 := hide o1.reads
    have H2 := hide o2.reads
    clear hb2 o1 o2
    go_wp2_with fail
    refine (specFormat_any _ _ D [] _ (by omega) (by simp) H1.out H2.out).mono ?_
    rw [HX.out]
    rintro e w3 ⟨⟨us, up, rfl, o1, o2, _⟩, hb3⟩
    obtain ⟨q1, m1, d1, rfl⟩ := o1.isSlice
    obtain ⟨q2, m2, d2, rfl⟩ := o2.isSlice
    have HB3 := hide (HB2.out.trans (hb3.mono HB2.out.size))
    have HR3 := hide (HR2.out.below hb3 HR2.out.lt)
    have H3 := hide o1.reads
    have H4 := hide o2.reads
    clear hb3 o1 o2 H1 H2
    have hfd := fieldAD (.slice q1 m1 d1) (.slice q2 m2 d2) (.string X.t) (.int .i64 X.g) (.int .i64 X.c) w3
    go_wp2_with fail
    refine (specBytes_any _ [] _ (ReadsIt.none _) (by simp) (by simp)).mono ?_
    rintro e w4 ⟨rfl, hb4⟩
    have HB4 := hide (HB3.out.trans (hb4.mono HB3.out.size))
    have HR4 := hide (HR3.out.below hb4 HR3.out.lt)
    have H5 := hide (H3.out.below hb4 (Nat.le_refl _))
    have H6 := hide (H4.out.below hb4 (Nat.le_refl _))
    clear hb4 H3 H4 hfd
    go_wp2_with fail
    refine (specAreaPut_any _ _ X.xs X.ps (storeB []) 100 _ HFL.out.1 HFL.out.2 (by have := store0_size; omega) H5.out H6.out).mono ?_
    rw [← HN.out]
    rintro e w5 ⟨⟨us, up, rfl, o1, o2, dd⟩, hb5⟩
    obtain ⟨r1, k1, e1, rfl⟩ := o1.isSlice
    obtain ⟨r2, k2, e2, rfl⟩ := o2.isSlice
    have HB5 := hide (HB4.out.trans (hb5.mono HB4.out.size))
    have R5 := HR4.out.below hb5 HR4.out.lt
    have HR5 := hide R5
    have HO1 := hide (o1.mono HB4.out.size)
    have HO2 := hide (o2.mono HB4.out.size)
    have HL1 := hide (show ∀ x ∈ leads (.slice r1 k1 e1), x ≠ w.heap.size from fun x hx => by have := (o1.leads x hx).1; have := HR4.out.lt; omega)
    have HL2 := hide (show ∀ x ∈ leads (.slice r2 k2 e2), x ≠ w.heap.size from fun x hx => by have := (o2.leads x hx).1; have := HR4.out.lt; omega)
    have HD := hide dd
    have c0 : w5.cell? ⟨w.heap.size, 0, none⟩ = some (.slice none 0 0) := R5.cell 0
    have c1 : w5.cell? ⟨w.heap.size, 1, none⟩ = some (.slice none 0 0) := R5.cell 1
    have f0 := R5.free 0
    have f1 := R5.free 1
    have hfd := fieldAD (.slice r1 k1 e1) (.slice r2 k2 e2) (.string (newS n).t) (.int .i64 (newS n).g) (.int .i64 (newS n).c) w5
    clear hb5 R5 o1 o2 dd H5 H6
    go_wp2
    obtain ⟨z0, z1, KF⟩ := two HR5.out (.slice r1 k1 e1) (.slice r2 k2 e2)
    exact bodyPost_ret (v := .agg #[.slice r1 k1 e1, .slice r2 k2 e2]) (by simp [results, Tryz.results13, go_sem, z0, z1]) rfl
      ⟨⟨_, _, rfl, HO1.out.kept KF (fun x hx => by simpa using HL1.out x hx), HO2.out.kept KF (fun x hx => by simpa using HL2.out x hx), HD.out⟩, KF.toBelow HB5.out HB5.out.size (by simp)⟩
  · obtain ⟨e1, e2⟩ := newS_out n hin
    rw [e1, e2]
    have HB0 := hide hb0
    clear hb0 e1 e2
    go_enter Tryz.func13, Tryz.ntmps13
    go_wp2_with fail
    refine (l02Is_no _ _ _ _ hin).mono ?_
    rintro e w1 ⟨rfl, rfl⟩
    go_wp2
    exact bodyPost_ret (v := .agg #[.slice none 0 0, .slice none 0 0]) (by simp [results, Tryz.results13, go_sem]) rfl
      ⟨⟨_, _, rfl, OwnS.none _ _ _, OwnP.none _ _ _, fun _ h => by cases h⟩, HB0.out⟩

set_option maxHeartbeats 4000000 in
theorem implStoreNew_any (n : Int) (aF aR aU : Addr) (w : World) (hS : Sents aF aR aU w) (hG : St3.Laid w) :
    Calls Tryz.prog 14 #[.int .i64 n] w fun e w' => DiskIs w.heap.size e w' (newS n).xs (newS n).ps ∧ Below w.heap.size w w' := by
  have hb0 : Below w.heap.size w (w.alloc (.cells #[.slice none 0 0, .slice none 0 0] 30)) := (Below.refl _ _).alloc (Nat.le_refl _) _
  have HB0 := hide hb0
  have HS := hide hS
  have HG := hide hG
  have HR0 := hide (row_new w [.slice none 0 0, .slice none 0 0] 30)
  have HFL := hide (newF_len n)
  obtain ⟨X, hX⟩ : ∃ X, X = newF n := ⟨_, rfl⟩
  have HX := hide (show formatOut (newDisk n) [] = X from hX.symm)
  have HN := hide (show newS n = putOut X.xs X.ps (storeB []) 9223372036854775807 by rw [hX]; exact putOut_steps _ _ store0_size (by omega) (by omega))
  rw [← hX] at HFL
  have hl := newDisk_len' n
  clear hb0 hX hS hG
  obtain ⟨D, hD⟩ : ∃ D, D = newDisk n := ⟨_, rfl⟩
  have HDD := hide hD
  rw [← hD] at hl HX
  clear hD
  go_enter Tryz.func14, Tryz.ntmps14
  go_wp2_with fail
  refine (implNew_any n _).mono ?_
  rw [← HDD.out]
  rintro e w2 ⟨⟨us, up, rfl, o1, o2, _⟩, hb2⟩
  obtain ⟨p1, n1, c1, rfl⟩ := o1.isSlice
  obtain ⟨p2, n2, c2, rfl⟩ := o2.isSlice
  have HB2 := hide (HB0.out.trans (hb2.mono HB0.out.size))
  have HR2 := hide (HR0.out.below hb2 HR0.out.lt)
  have H1 := hide o1.reads
  have H2 := hide o2.reads
  clear hb2 o1 o2
  go_wp2_with fail
  refine (implFormat_any _ _ D [] aF aR aU _ (by omega) (by simp) H1.out H2.out (Stab.go HB2.out HS.out)).mono ?_
  rw [HX.out]
  rintro e w3 ⟨⟨us, up, rfl, o1, o2, _⟩, hb3⟩
  obtain ⟨q1, m1, d1, rfl⟩ := o1.isSlice
  obtain ⟨q2, m2, d2, rfl⟩ := o2.isSlice
  have HB3 := hide (HB2.out.trans (hb3.mono HB2.out.size))
  have HR3 := hide (HR2.out.below hb3 HR2.out.lt)
  have bn := below_new w3 (.cells #[.slice q1 m1 d1, .slice q2 m2 d2] 30)
  have HB4 := hide (HB3.out.trans (bn.mono HB3.out.size))
  have HR4 := hide (HR3.out.below bn HR3.out.lt)
  have H5 := hide (o1.reads.below bn (Nat.le_refl _))
  have H6 := hide (o2.reads.below bn (Nat.le_refl _))
  have hfd := fieldAD (.slice q1 m1 d1) (.slice q2 m2 d2) (.string X.t) (.int .i64 X.g) (.int .i64 X.c) w3
  clear hb3 o1 o2 H1 H2 bn
  go_wp2_with fail
  refine (putStore_any (storeB []) (.map none) _ _ X.xs X.ps 9223372036854775807 aF aR aU _ HFL.out.1 HFL.out.2 (by have := store0_size; omega) H5.out H6.out (Stab.go HB4.out HS.out) (Stab.go HB4.out HG.out) (fun w' _ => storeText_nil w')).mono ?_
  unfold kput
  rw [← HN.out]
  rintro e w5 ⟨⟨us, up, rfl, o1, o2, dd⟩, hb5⟩
  obtain ⟨r1, k1, e1, rfl⟩ := o1.isSlice
  obtain ⟨r2, k2, e2, rfl⟩ := o2.isSlice
  have HB5 := hide (HB4.out.trans (hb5.mono HB4.out.size))
  have R5 := HR4.out.below hb5 HR4.out.lt
  have HR5 := hide R5
  have HO1 := hide (o1.mono HB4.out.size)
  have HO2 := hide (o2.mono HB4.out.size)
  have HL1 := hide (show ∀ x ∈ leads (.slice r1 k1 e1), x ≠ w.heap.size from fun x hx => by have := (o1.leads x hx).1; have := HR4.out.lt; omega)
  have HL2 := hide (show ∀ x ∈ leads (.slice r2 k2 e2), x ≠ w.heap.size from fun x hx => by have := (o2.leads x hx).1; have := HR4.out.lt; omega)
  have HD := hide dd
  have c0 : w5.cell? ⟨w.heap.size, 0, none⟩ = some (.slice none 0 0) := R5.cell 0
  have c1 : w5.cell? ⟨w.heap.size, 1, none⟩ = some (.slice none 0 0) := R5.cell 1
  have f0 := R5.free 0
  have f1 := R5.free 1
  have hfd := fieldKD (.slice r1 k1 e1) (.slice r2 k2 e2) (.string ⟨#[]⟩) (.int .i64 (newS n).c) w5
  clear hb5 R5 o1 o2 dd H5 H6
  go_wp2
  obtain ⟨z0, z1, KF⟩ := two HR5.out (.slice r1 k1 e1) (.slice r2 k2 e2)
  exact bodyPost_ret (v := .agg #[.slice r1 k1 e1, .slice r2 k2 e2]) (by simp [results, Tryz.results14, go_sem, z0, z1]) rfl
    ⟨⟨_, _, rfl, HO1.out.kept KF (fun x hx => by simpa using HL1.out x hx), HO2.out.kept KF (fun x hx => by simpa using HL2.out x hx), HD.out⟩, KF.toBelow HB5.out HB5.out.size (by simp)⟩
end Go.Proofs.YtnpbmaajgiapmaaGreatDoor
/- The law of StoreNew. -/
namespace Go.Proofs.YtnpbmaajgiapmaaGreatDoor
open Go.RowKit
set_option maxRecDepth 100000 in
set_option maxHeartbeats 4000000 in
theorem lawNewS (n : Int) (aF aR aU : Addr) (w : World) (hS : Sents aF aR aU w) (hG : St3.Laid w) :
    Calls Tryz.prog 4 #[.int .i64 n] w fun e w' => e = .returned (.bool true) ∧ Below w.heap.size w w' := by
  have hl := (newS_len n).1
  have hl2 := (newS_len n).2
  have HS := hide hS
  have HG := hide hG
  clear hS hG
  obtain ⟨xs, hxs⟩ : ∃ xs, (newS n).xs = xs := ⟨_, rfl⟩
  obtain ⟨ps, hps⟩ : ∃ ps, (newS n).ps = ps := ⟨_, rfl⟩
  have HX := hide hxs
  have HPS := hide hps
  rw [hxs] at hl
  rw [hps] at hl2
  clear hxs hps
  go_enter Tryz.func4, Tryz.ntmps4
  go_wp2_with fail
  refine (specStoreNew_any n _).mono ?_
  rw [HX.out, HPS.out]
  rintro e w1 ⟨⟨us, up, rfl, o1, o2, dd⟩, hb1⟩
  obtain ⟨p1, n1, c1, rfl⟩ := o1.isSlice
  obtain ⟨p2, n2, c2, rfl⟩ := o2.isSlice
  have H2 := hide (Stab.go (P := fun w' => Below w.heap.size w w' ∧ Reads w' (.slice p1 n1 c1) xs ∧ ReadsP w' (.slice p2 n2 c2) ps) (below_new w1 (.cells #[.slice p1 n1 c1, .slice p2 n2 c2] 30)) ⟨hb1, o1.reads, o2.reads⟩)
  have HN2 := hide (row_new w1 [.slice p1 n1 c1, .slice p2 n2 c2] 30)
  have I1 := hide (And.intro o1.isIn o2.isIn)
  have S1 := hide hb1.size
  clear o1 o2 dd hb1
  go_wp2_with fail
  refine (implStoreNew_any n aF aR aU _ (Stab.go H2.out.1 HS.out) (Stab.go H2.out.1 HG.out)).mono ?_
  rw [HX.out, HPS.out]
  rintro e w3 ⟨⟨vs, vp, rfl, o1, o2, dd⟩, hb3⟩
  obtain ⟨q1, m1, d1, rfl⟩ := o1.isSlice
  obtain ⟨q2, m2, d2, rfl⟩ := o2.isSlice
  have bn := below_new w3 (.cells #[.slice q1 m1 d1, .slice q2 m2 d2] 30)
  have H4 := hide (Stab.go (hb3.trans (bn.mono hb3.size)) (P := fun w' => (Below w.heap.size w w' ∧ Reads w' (.slice p1 n1 c1) xs ∧ ReadsP w' (.slice p2 n2 c2) ps) ∧ Row w' w1.heap.size 30 [.slice p1 n1 c1, .slice p2 n2 c2]) ⟨H2.out, HN2.out⟩)
  obtain ⟨B3, hB3⟩ : ∃ b, b = w1.heap.size + 1 := ⟨_, rfl⟩
  simp only [World.size_alloc] at o1 o2
  rw [← hB3] at o1 o2
  have HO4 := hide (Stab.go bn (P := fun w' => OwnS 9 B3 w' (.slice q1 m1 d1) xs ∧ OwnP 92 B3 w' (.slice q2 m2 d2) ps) ⟨o1, o2⟩)
  have HG4 := hide (row_new w3 [.slice q1 m1 d1, .slice q2 m2 d2] 30)
  have I3 := hide (And.intro o1.isIn o2.isIn)
  have S3 := hide (show w1.heap.size + 1 ≤ w3.heap.size by have := hb3.size; simpa using this)
  have HD := hide dd
  have a0 : (w3.alloc (.cells #[.slice q1 m1 d1, .slice q2 m2 d2] 30)).cell? ⟨w1.heap.size, 0, none⟩ = some (.slice p1 n1 c1) := H4.out.2.cell 0
  have a1 : (w3.alloc (.cells #[.slice q1 m1 d1, .slice q2 m2 d2] 30)).cell? ⟨w1.heap.size, 1, none⟩ = some (.slice p2 n2 c2) := H4.out.2.cell 1
  clear o1 o2 dd bn hb3 H2 HN2
  go_wp2_with fail
  refine (eqDisk_same _ _ _ _ xs ps _ (by omega) (by omega) HO4.out.1.reads HO4.out.2.reads H4.out.1.2.1 H4.out.1.2.2).mono ?_
  rintro e w5 ⟨rfl, hb5⟩
  have H5 := hide (Stab.go hb5 (P := fun w' => ((Below w.heap.size w w' ∧ Reads w' (.slice p1 n1 c1) xs ∧ ReadsP w' (.slice p2 n2 c2) ps) ∧ Row w' w1.heap.size 30 [.slice p1 n1 c1, .slice p2 n2 c2]) ∧ (OwnS 9 B3 w' (.slice q1 m1 d1) xs ∧ OwnP 92 B3 w' (.slice q2 m2 d2) ps) ∧ Row w' w3.heap.size 30 [.slice q1 m1 d1, .slice q2 m2 d2]) ⟨H4.out, HO4.out, HG4.out⟩)
  have g0 : w5.cell? ⟨w3.heap.size, 0, none⟩ = some (.slice q1 m1 d1) := H5.out.2.2.cell 0
  have g1 : w5.cell? ⟨w3.heap.size, 1, none⟩ = some (.slice q2 m2 d2) := H5.out.2.2.cell 1
  clear hb5 H4 HO4 HG4 a0 a1
  go_wp2_with fail
  refine (markDisk_own _ _ _ xs ps 1 _ (by omega) (by omega) (by omega) H5.out.2.1.1 H5.out.2.1.2 HD.out).mono ?_
  rintro e w6 ⟨rfl, o1, o2, hk6⟩
  have i1 : In (.slice q1 m1 d1) B3 w3.heap.size := I3.out.1
  have i2 : In (.slice q2 m2 d2) B3 w3.heap.size := I3.out.2
  have H6 := hide (show (Below w.heap.size w w6 ∧ Reads w6 (.slice p1 n1 c1) xs ∧ ReadsP w6 (.slice p2 n2 c2) ps) ∧ Row w6 w1.heap.size 30 [.slice p1 n1 c1, .slice p2 n2 c2] ∧ (Reads w6 (.slice q1 m1 d1) (marks 1 xs.length) ∧ ReadsP w6 (.slice q2 m2 d2) (marksP (1 + xs.length) ps.length)) ∧ Row w6 w3.heap.size 30 [.slice q1 m1 d1, .slice q2 m2 d2] from
    ⟨⟨hk6.onBelow H5.out.1.1.1 (fun x hx => by have := i1.all i2 x hx; have := S1.out; omega), hk6.reads H5.out.1.1.2.1 (I1.out.1.apart i1 i2 (.inl (by omega))), hk6.readsP H5.out.1.1.2.2 (I1.out.2.apart i1 i2 (.inl (by omega)))⟩,
      hk6.row H5.out.1.2 (i1.far i2 (.inl (by omega))), ⟨o1.reads, o2.reads⟩, hk6.row H5.out.2.2 (i1.far i2 (.inr (Nat.le_refl _)))⟩)
  have g0 : w6.cell? ⟨w3.heap.size, 0, none⟩ = some (.slice q1 m1 d1) := H6.out.2.2.2.cell 0
  have g1 : w6.cell? ⟨w3.heap.size, 1, none⟩ = some (.slice q2 m2 d2) := H6.out.2.2.2.cell 1
  clear o1 o2 hk6 i1 i2 H5
  go_wp2_with fail
  refine (heldDisk_any _ _ 1 xs.length ps.length _ (by omega) (by omega) (by omega) H6.out.2.2.1.1 H6.out.2.2.1.2).mono ?_
  rintro e w7 ⟨rfl, hb7⟩
  have H7 := hide (Stab.go hb7 (P := fun w' => (Below w.heap.size w w' ∧ Reads w' (.slice p1 n1 c1) xs ∧ ReadsP w' (.slice p2 n2 c2) ps) ∧ Row w' w1.heap.size 30 [.slice p1 n1 c1, .slice p2 n2 c2] ∧ (Reads w' (.slice q1 m1 d1) (marks 1 xs.length) ∧ ReadsP w' (.slice q2 m2 d2) (marksP (1 + xs.length) ps.length)) ∧ Row w' w3.heap.size 30 [.slice q1 m1 d1, .slice q2 m2 d2]) H6.out)
  have t1 : ¬ (((1 + xs.length + ps.length * 2 : Nat) : Int) < 0) := by omega
  clear hb7 H6 g0 g1
  go_wp2_with fail
  refine (implStoreNew_any n aF aR aU _ (Stab.go H7.out.1.1 HS.out) (Stab.go H7.out.1.1 HG.out)).mono ?_
  rw [HX.out, HPS.out]
  rintro e w8 ⟨⟨zs, zp, rfl, o1, o2, dd⟩, hb8⟩
  obtain ⟨r1, k1, e1, rfl⟩ := o1.isSlice
  obtain ⟨r2, k2, e2, rfl⟩ := o2.isSlice
  have bn := below_new w8 (.cells #[.slice r1 k1 e1, .slice r2 k2 e2] 30)
  have H9 := hide (Stab.go (hb8.trans (bn.mono hb8.size)) (P := fun w' => (Below w.heap.size w w' ∧ Reads w' (.slice p1 n1 c1) xs ∧ ReadsP w' (.slice p2 n2 c2) ps) ∧ Row w' w1.heap.size 30 [.slice p1 n1 c1, .slice p2 n2 c2] ∧ (Reads w' (.slice q1 m1 d1) (marks 1 xs.length) ∧ ReadsP w' (.slice q2 m2 d2) (marksP (1 + xs.length) ps.length)) ∧ Row w' w3.heap.size 30 [.slice q1 m1 d1, .slice q2 m2 d2]) H7.out)
  have HZ := hide (Stab.go bn (P := fun w' => Reads w' (.slice r1 k1 e1) xs ∧ ReadsP w' (.slice r2 k2 e2) ps) ⟨o1.reads, o2.reads⟩)
  have a0 : (w8.alloc (.cells #[.slice r1 k1 e1, .slice r2 k2 e2] 30)).cell? ⟨w1.heap.size, 0, none⟩ = some (.slice p1 n1 c1) := H9.out.2.1.cell 0
  have a1 : (w8.alloc (.cells #[.slice r1 k1 e1, .slice r2 k2 e2] 30)).cell? ⟨w1.heap.size, 1, none⟩ = some (.slice p2 n2 c2) := H9.out.2.1.cell 1
  clear hb8 H7 bn o1 o2 dd
  go_wp2_with fail
  refine (eqDisk_same _ _ _ _ xs ps _ (by omega) (by omega) HZ.out.1 HZ.out.2 H9.out.1.2.1 H9.out.1.2.2).mono ?_
  rintro e w10 ⟨rfl, hb10⟩
  have H10 := hide (Stab.go hb10 (P := fun w' => (Below w.heap.size w w' ∧ Reads w' (.slice p1 n1 c1) xs ∧ ReadsP w' (.slice p2 n2 c2) ps) ∧ Row w' w1.heap.size 30 [.slice p1 n1 c1, .slice p2 n2 c2] ∧ (Reads w' (.slice q1 m1 d1) (marks 1 xs.length) ∧ ReadsP w' (.slice q2 m2 d2) (marksP (1 + xs.length) ps.length)) ∧ Row w' w3.heap.size 30 [.slice q1 m1 d1, .slice q2 m2 d2]) H9.out)
  have g0 : w10.cell? ⟨w3.heap.size, 0, none⟩ = some (.slice q1 m1 d1) := H10.out.2.2.2.cell 0
  have g1 : w10.cell? ⟨w3.heap.size, 1, none⟩ = some (.slice q2 m2 d2) := H10.out.2.2.2.cell 1
  clear hb10 HZ H9 a0 a1
  go_wp2_with fail
  refine (heldDisk_any _ _ 1 xs.length ps.length _ (by omega) (by omega) (by omega) H10.out.2.2.1.1 H10.out.2.2.1.2).mono ?_
  rintro e w11 ⟨rfl, hb11⟩
  have HB := hide (H10.out.1.1.trans (hb11.mono H10.out.1.1.size))
  clear hb11 H10 g0 g1
  go_wp2
  go_ret
  exact ⟨rfl, HB.out⟩
end Go.Proofs.YtnpbmaajgiapmaaGreatDoor
