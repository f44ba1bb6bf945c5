/- DiskRead and DiskFlush, as the program does them. -/
import Derived.Test.YtdnbfnahhkmmnaaDoorICode
import Derived.Test.YtdnbfnahhkmmnaaDoorApply
namespace Go.Proofs.YtdnbfnahhkmmnaaDoor
open Go.RowKit

set_option maxHeartbeats 4000000 in
theorem implRead_ill (vs vp : Value) (xs : List ByteArray) (ps : List (Int × ByteArray)) (a : Int) (aF aR aU b : Addr) (c : Int) (w : World) (hn : xs.length ≤ 1048576) (hn2 : ps.length ≤ 1048576) (hr : Reads w vs xs) (hp : ReadsP w vp ps) (hS : Sents aF aR aU w)
    (hf : readFaultOf (errV aF) (errV aR) xs ps a = errV b) (hc : CodeIs aF aR aU b c) :
    Calls Tryd.prog 18 #[.agg #[vs, vp], .int .i64 a] w fun e w' => OutIs w.heap.size e w' (illOut c) ∧ Below w.heap.size w w' := by
  have hb0 : Below w.heap.size w ((w.alloc (.cells #[vs, vp] 26)).alloc (.cells #[.slice none 0 0, .slice none 0 0, .string ⟨#[]⟩, .int .i64 0] 30)) :=
    ((Below.refl _ _).alloc (Nat.le_refl _) _).alloc (by simp) _
  have HR := hide (hr.below hb0 (Nat.le_refl _))
  have HP := hide (hp.below hb0 (Nat.le_refl _))
  have HS := hide (Stab.go hb0 hS)
  have HB0 := hide hb0
  have HF := hide hf
  have HC := hide hc
  obtain ⟨p1, c1, rfl, hq⟩ := hr
  obtain ⟨p2, c2, rfl, hq2⟩ := hp
  have R1 := row_new (w.alloc (.cells #[.slice p1 xs.length c1, .slice p2 ps.length c2] 26)) [.slice none 0 0, .slice none 0 0, .string ⟨#[]⟩, .int .i64 0] 30
  simp only [World.size_alloc] at R1
  have HR1 := hide R1
  clear hb0 hq hq2 R1 hf hc hS
  go_enter Tryd.func18, Tryd.ntmps18
  go_wp2_with fail
  refine (readFault_any _ _ xs ps a _ _ _ _ _ hn hn2 HR.out HP.out HS.out.1.1 HS.out.1.2).mono ?_
  rw [show readFaultOf _ _ xs ps a = Value.iface 97 (.pointer (some b)) from HF.out]
  rintro e w1 ⟨rfl, hb1⟩
  have HB1 := hide (HB0.out.trans (hb1.mono HB0.out.size))
  have HX1 := hide (Row.after hb1 HR1.out)
  have HS1 := hide (Stab.go hb1 HS.out)
  clear hb1
  go_wp2_with fail
  refine (code_any aF aR aU b c _ HS1.out HC.out).mono ?_
  rintro e w2 ⟨rfl, rfl⟩
  have c0 : w2.cell? ⟨w.heap.size + 1, 0, none⟩ = some (.slice none 0 0) := HX1.out.cell 0
  have c1' : w2.cell? ⟨w.heap.size + 1, 1, none⟩ = some (.slice none 0 0) := HX1.out.cell 1
  have c2' : w2.cell? ⟨w.heap.size + 1, 2, none⟩ = some (.string ⟨#[]⟩) := HX1.out.cell 2
  have c3 : w2.cell? ⟨w.heap.size + 1, 3, none⟩ = some (.int .i64 0) := HX1.out.cell 3
  have f0 := HX1.out.free 0
  have f1 := HX1.out.free 1
  have f2 := HX1.out.free 2
  have f3 := HX1.out.free 3
  go_wp2
  obtain ⟨q0, q1, q2, q3, KF⟩ := four HX1.out (.slice none 0 0) (.slice none 0 0) (.string ⟨#[]⟩) (.int .i64 c)
  exact bodyPost_ret (v := .agg #[.slice none 0 0, .slice none 0 0, .string ⟨#[]⟩, .int .i64 c]) (by simp [results, Tryd.results18, go_sem, q0, q1, q2, q3]) rfl
    ⟨⟨_, _, rfl, OwnS.none _ _ _, OwnP.none _ _ _, fun _ h => by cases h⟩, KF.toBelow HB1.out HB1.out.size (by simp)⟩

set_option maxRecDepth 100000 in
set_option maxHeartbeats 4000000 in
theorem implFlush_any (vs vp : Value) (xs : List ByteArray) (ps : List (Int × ByteArray)) (aF aR aU : Addr) (w : World) (hn : xs.length ≤ 1048576) (hn2 : ps.length ≤ 1048576) (hr : Reads w vs xs) (hp : ReadsP w vp ps) (hS : Sents aF aR aU w) :
    Calls Tryd.prog 8 #[.agg #[vs, vp]] w fun e w' => OutIs w.heap.size e w' (flushOut xs ps) ∧ Below w.heap.size w w' := by
  have hb0 : Below w.heap.size w ((w.alloc (.cells #[vs, vp] 26)).alloc (.cells #[.slice none 0 0, .slice none 0 0, .string ⟨#[]⟩, .int .i64 0] 30)) :=
    ((Below.refl _ _).alloc (Nat.le_refl _) _).alloc (by simp) _
  have HR := hide (hr.below hb0 (Nat.le_refl _))
  have HP := hide (hp.below hb0 (Nat.le_refl _))
  have HS := hide (Stab.go hb0 hS)
  have HB0 := hide hb0
  obtain ⟨p1, c1, rfl, hq⟩ := hr
  obtain ⟨p2, c2, rfl, hq2⟩ := hp
  have HN0 := hide ((row_new w [.slice p1 xs.length c1, .slice p2 ps.length c2] 26).alloc (.cells #[.slice none 0 0, .slice none 0 0, .string ⟨#[]⟩, .int .i64 0] 30))
  have R1 := row_new (w.alloc (.cells #[.slice p1 xs.length c1, .slice p2 ps.length c2] 26)) [.slice none 0 0, .slice none 0 0, .string ⟨#[]⟩, .int .i64 0] 30
  simp only [World.size_alloc] at R1
  have HR1 := hide R1
  clear hb0 hq hq2 R1 hS
  cases hok : right xs ps with
  | false =>
    have HE := hide (show diskFaultOf (errV aF) xs ps = .iface 97 (.pointer (some aF)) by unfold diskFaultOf; rw [hok]; rfl)
    have HF := hide (show flushOut xs ps = illOut 1 by unfold flushOut; rw [hok]; rfl)
    rw [HF.out]
    go_enter Tryd.func8, Tryd.ntmps8
    go_wp2_with fail
    refine (diskFault_any _ _ xs ps _ _ _ _ _ hn hn2 HR.out HP.out HS.out.1.1 HS.out.1.2).mono ?_
    rw [show diskFaultOf _ xs ps = Value.iface 97 (.pointer (some aF)) from HE.out]
    rintro e w1 ⟨rfl, hb1⟩
    have HB1 := hide (HB0.out.trans (hb1.mono HB0.out.size))
    have HX1 := hide (Row.after hb1 HR1.out)
    have HS1 := hide (Stab.go hb1 HS.out)
    clear hb1
    go_wp2_with fail
    refine (code_form aF aR aU _ HS1.out).mono ?_
    rintro e w2 ⟨rfl, rfl⟩
    have c0 : w2.cell? ⟨w.heap.size + 1, 0, none⟩ = some (.slice none 0 0) := HX1.out.cell 0
    have c1' : w2.cell? ⟨w.heap.size + 1, 1, none⟩ = some (.slice none 0 0) := HX1.out.cell 1
    have c2' : w2.cell? ⟨w.heap.size + 1, 2, none⟩ = some (.string ⟨#[]⟩) := HX1.out.cell 2
    have c3 : w2.cell? ⟨w.heap.size + 1, 3, none⟩ = some (.int .i64 0) := HX1.out.cell 3
    have f0 := HX1.out.free 0
    have f1 := HX1.out.free 1
    have f2 := HX1.out.free 2
    have f3 := HX1.out.free 3
    go_wp2
    obtain ⟨q0, q1, q2, q3, KF⟩ := four HX1.out (.slice none 0 0) (.slice none 0 0) (.string ⟨#[]⟩) (.int .i64 1)
    exact bodyPost_ret (v := .agg #[.slice none 0 0, .slice none 0 0, .string ⟨#[]⟩, .int .i64 1]) (by simp [results, Tryd.results8, go_sem, q0, q1, q2, q3]) rfl
      ⟨⟨_, _, rfl, OwnS.none _ _ _, OwnP.none _ _ _, fun _ h => by cases h⟩, KF.toBelow HB1.out HB1.out.size (by simp)⟩
  | true =>
    obtain ⟨l1, l2, l3⟩ := right_len hok
    have HSM := hide (small_of_right hok)
    have HAT := hide (fun j hj => And.intro (right_at hok j hj).1 (right_at hok j hj).2.1)
    have HE := hide (show diskFaultOf (errV aF) xs ps = .nilIface by unfold diskFaultOf; rw [hok]; rfl)
    have HF := hide (show flushOut xs ps = ⟨applyP ps xs, [], ⟨#[]⟩, 0⟩ by unfold flushOut; rw [hok]; rfl)
    rw [HF.out]
    go_enter Tryd.func8, Tryd.ntmps8
    go_wp2_with fail
    refine (diskFault_any _ _ xs ps _ _ _ _ _ hn hn2 HR.out HP.out HS.out.1.1 HS.out.1.2).mono ?_
    rw [show diskFaultOf _ xs ps = Value.nilIface from HE.out]
    rintro e w1 ⟨rfl, hb1⟩
    have HB1 := hide (HB0.out.trans (hb1.mono HB0.out.size))
    have HX1 := hide (Row.after hb1 HR1.out)
    have a0 : w1.cell? ⟨w.heap.size, 0, none⟩ = some (.slice p1 xs.length c1) := (Row.after hb1 HN0.out).cell 0
    have a1 : w1.cell? ⟨w.heap.size, 1, none⟩ = some (.slice p2 ps.length c2) := (Row.after hb1 HN0.out).cell 1
    have HRa := hide (HR.out.below hb1 (Nat.le_refl _))
    have HPa := hide (HP.out.below hb1 (Nat.le_refl _))
    clear hb1 hok
    go_wp2_with fail
    refine (settle_any _ _ xs ps _ HRa.out HPa.out l1 l2 l3 HAT.out).mono ?_
    rintro e w2 ⟨rfl, hb2⟩
    have HB2 := hide (HB1.out.trans (hb2.mono HB1.out.size))
    have HX2 := hide (Row.after hb2 HX1.out)
    clear hb2 a0 a1
    go_wp2_with fail
    refine (bankDisk_any (applyP ps xs) _ (by rw [applyP_len]; exact l2) (applyP_mem ps xs _ HSM.out.2.1 HSM.out.2.2.2)).mono ?_
    rintro e w3 ⟨⟨us, up, rfl, o1, o2, dd⟩, hb3⟩
    obtain ⟨q1, m1, d1, rfl⟩ := o1.isSlice
    obtain ⟨q2, m2, d2, rfl⟩ := o2.isSlice
    have hl2 := HX2.out.lt
    have HB3 := hide (HB2.out.trans (hb3.mono HB2.out.size))
    have R3 := Row.after hb3 HX2.out
    have c0 : w3.cell? ⟨w.heap.size + 1, 0, none⟩ = some (.slice none 0 0) := R3.cell 0
    have c1' : w3.cell? ⟨w.heap.size + 1, 1, none⟩ = some (.slice none 0 0) := R3.cell 1
    have c2' : w3.cell? ⟨w.heap.size + 1, 2, none⟩ = some (.string ⟨#[]⟩) := R3.cell 2
    have c3 : w3.cell? ⟨w.heap.size + 1, 3, none⟩ = some (.int .i64 0) := R3.cell 3
    have f0 := R3.free 0
    have f1 := R3.free 1
    have f2 := R3.free 2
    have f3 := R3.free 3
    have HR3 := hide R3
    have HO1 := hide o1
    have HO2 := hide o2
    have HD := hide dd
    clear hb3 R3 o1 o2 dd
    go_wp2
    obtain ⟨z0, z1, z2, z3, KF⟩ := four HR3.out (.slice q1 m1 d1) (.slice q2 m2 d2) (.string ⟨#[]⟩) (.int .i64 0)
    exact bodyPost_ret (v := .agg #[.slice q1 m1 d1, .slice q2 m2 d2, .string ⟨#[]⟩, .int .i64 0]) (by simp [results, Tryd.results8, go_sem, z0, z1, z2, z3]) rfl
      ⟨⟨_, _, rfl, (HO1.out.kept KF (fun x hx => by have := HO1.out.leads x hx; simp; omega)).mono (by omega), (HO2.out.kept KF (fun x hx => by have := HO2.out.leads x hx; simp; omega)).mono (by omega), HD.out⟩, KF.toBelow HB3.out HB3.out.size (by simp)⟩
end Go.Proofs.YtdnbfnahhkmmnaaDoor
