/- The program's text of a head. -/
import Derived.Test.YtnpbmaajgiapmaaGreatDoorXG30IPanic
import Derived.Test.YtnpbmaajgiapmaaGreatDoorXG2NNum
import Derived.Laws.Concat
import Derived.Deep.RegionHeld3
import Derived.Deep.DeepCutAuto
import Derived.Test.YtnpbmaajgiapmaaGreatDoorXG28Sents
import Derived.Test.YtnpbmaajgiapmaaGreatDoorXG21SFlush
import Derived.Test.YtnpbmaajgiapmaaGreatDoorXG20SSeenAll
namespace Go.Proofs.YtnpbmaajgiapmaaGreatDoor
open Go.RowKit

set_option maxRecDepth 100000 in
set_option maxHeartbeats 4000000 in
theorem headText_any (g s z : Int) (w : World) (hg : -9223372036854775808 ≤ g ∧ g ≤ 9223372036854775807) (hs : -9223372036854775808 ≤ s ∧ s ≤ 9223372036854775807) (hz : -9223372036854775808 ≤ z ∧ z ≤ 9223372036854775807) :
    Calls Tryz.prog 80 #[.agg #[.int .i64 g, .int .i64 s, .int .i64 z]] w fun e w' => e = .returned (.string (headOf g s z)) ∧ Below w.heap.size w w' := by
  have HG := hide hg
  have HS := hide hs
  have HZ := hide hz
  clear hg hs hz
  have e1 : (St2.bytesOf (St2.enc g)).size ≤ 10 := numText_size g
  have e2 : (St2.bytesOf (St2.enc s)).size ≤ 10 := numText_size s
  have e3 : (St2.bytesOf (St2.enc z)).size ≤ 10 := numText_size z
  have ad1 : ∀ w : World, (Op.stringOp .add (St2.bytesOf (St2.enc g)) (St2.bytesOf (St2.enc s))).run Tryz.prog w = .ok (.string (St2.bytesOf (St2.enc g) ++ St2.bytesOf (St2.enc s))) w := fun w => run_string_add_sum w _ _ (by omega)
  have ad2 : ∀ w : World, (Op.stringOp .add (St2.bytesOf (St2.enc g) ++ St2.bytesOf (St2.enc s)) (St2.bytesOf (St2.enc z))).run Tryz.prog w = .ok (.string (St2.bytesOf (St2.enc g) ++ St2.bytesOf (St2.enc s) ++ St2.bytesOf (St2.enc z))) w := fun w => run_string_add_sum w _ _ (by simp only [ByteArray.size_append]; omega)
  have hb0 : Below w.heap.size w (w.alloc (.cells #[.int .i64 g, .int .i64 s, .int .i64 z] 114)) := (Below.refl _ _).alloc (Nat.le_refl _) _
  have HN := hide (row_new w [.int .i64 g, .int .i64 s, .int .i64 z] 114)
  have HB0 := hide hb0
  obtain ⟨W, hW⟩ : ∃ W, W = w.alloc (.cells #[.int .i64 g, .int .i64 s, .int .i64 z] 114) := ⟨_, rfl⟩
  rw [← hW] at HN HB0
  have HSS := hide (show ∀ x, Below W.heap.size W x → x.cell? ⟨w.heap.size, 0, none⟩ = some (.int .i64 g) ∧ x.cell? ⟨w.heap.size, 1, none⟩ = some (.int .i64 s) ∧ x.cell? ⟨w.heap.size, 2, none⟩ = some (.int .i64 z) ∧ Below W.heap.size W x from
    fun x h => ⟨(Row.after h HN.out).cell 0, (Row.after h HN.out).cell 1, (Row.after h HN.out).cell 2, h⟩)
  clear hb0
  go_enter Tryz.func80, Tryz.ntmps80
  go_wp2_with fail
  rw [← hW]
  clear hW
  go_region_held3 (fun x => x.cell? ⟨w.heap.size, 0, none⟩ = some (.int .i64 g) ∧ x.cell? ⟨w.heap.size, 1, none⟩ = some (.int .i64 s) ∧ x.cell? ⟨w.heap.size, 2, none⟩ = some (.int .i64 z) ∧ Below W.heap.size W x)
    ((go_split_ands; refine HSS.out _ ?_; repeat (first | with_reducible assumption | with_reducible exact Below.refl _ _ | with_reducible refine Below.drew ?_)))
    ((first
      | (go_at_call 103; go_split_ands; refine (St2.implPutNum_any _ _ (by first | exact HG.out.1 | exact HS.out.1 | exact HZ.out.1) (by first | exact HG.out.2 | exact HS.out.2 | exact HZ.out.2)).mono ?_; rintro e w1 ⟨rfl, hb1⟩; have hB1 : Below W.heap.size W w1 := Below.trans (by assumption) (hb1.mono (Below.size (by assumption))); clear hb1)
      | (go_at_call 102; go_split_ands; refine (St1.implSeal_any _ _ (by simp only [ByteArray.size_append]; omega)).mono ?_; rintro e w1 ⟨rfl, hb1⟩; have hB1 : Below W.heap.size W w1 := Below.trans (by assumption) (hb1.mono (Below.size (by assumption))); clear hb1)))
  all_goals
    have HB1 := hide (HB0.out.trans (hB1.mono HB0.out.size))
    go_wp2
    go_ret
    exact ⟨rfl, HB1.out⟩
end Go.Proofs.YtnpbmaajgiapmaaGreatDoor
/- DiskRead and DiskFlush, as the program does them. -/
namespace Go.Proofs.YtnpbmaajgiapmaaGreatDoor
open Go.RowKit

set_option maxRecDepth 100000 in
set_option maxHeartbeats 4000000 in
theorem implFlush_any (vs vp : Value) (xs : List ByteArray) (ps : List (Int × ByteArray)) (aF aR aU : Addr) (w : World) (hn : xs.length ≤ 1048576) (hn2 : ps.length ≤ 1048576) (hr : Reads w vs xs) (hp : ReadsP w vp ps) (hS : Sents aF aR aU w) :
    Calls Tryz.prog 131 #[.agg #[vs, vp]] w fun e w' => OutIs w.heap.size e w' (flushOut xs ps) ∧ Below w.heap.size w w' := by
  have hb0 : Below w.heap.size w ((w.alloc (.cells #[vs, vp] 30)).alloc (.cells #[.slice none 0 0, .slice none 0 0, .string ⟨#[]⟩, .int .i64 0] 101)) :=
    ((Below.refl _ _).alloc (Nat.le_refl _) _).alloc (by simp) _
  have HR := hide (hr.below hb0 (Nat.le_refl _))
  have HP := hide (hp.below hb0 (Nat.le_refl _))
  have HS := hide (Stab.go hb0 hS)
  have HB0 := hide hb0
  obtain ⟨p1, c1, rfl, hq⟩ := hr
  obtain ⟨p2, c2, rfl, hq2⟩ := hp
  have HN0 := hide ((row_new w [.slice p1 xs.length c1, .slice p2 ps.length c2] 30).alloc (.cells #[.slice none 0 0, .slice none 0 0, .string ⟨#[]⟩, .int .i64 0] 101))
  have R1 := row_new (w.alloc (.cells #[.slice p1 xs.length c1, .slice p2 ps.length c2] 30)) [.slice none 0 0, .slice none 0 0, .string ⟨#[]⟩, .int .i64 0] 101
  simp only [World.size_alloc] at R1
  have HR1 := hide R1
  clear hb0 hq hq2 R1 hS
  cases hok : right xs ps with
  | false =>
    have HE := hide (show diskFaultOf (errV aF) xs ps = .iface 245 (.pointer (some aF)) by unfold diskFaultOf; rw [hok]; rfl)
    have HF := hide (show flushOut xs ps = illOut 1 by unfold flushOut; rw [hok]; rfl)
    rw [HF.out]
    go_enter Tryz.func131, Tryz.ntmps131
    go_wp2_with fail
    refine (diskFault_any _ _ xs ps _ _ _ _ _ hn hn2 HR.out HP.out HS.out.1.1 HS.out.1.2).mono ?_
    rw [show diskFaultOf _ xs ps = Value.iface 245 (.pointer (some aF)) from HE.out]
    rintro e w1 ⟨rfl, hb1⟩
    have HB1 := hide (HB0.out.trans (hb1.mono HB0.out.size))
    have HX1 := hide (Row.after hb1 HR1.out)
    have HS1 := hide (Stab.go hb1 HS.out)
    clear hb1
    go_wp2_with fail
    refine (code_form aF aR aU _ HS1.out).mono ?_
    rintro e w2 ⟨rfl, rfl⟩
    have c0 : w2.cell? ⟨w.heap.size + 1, 0, none⟩ = some (.slice none 0 0) := HX1.out.cell 0
    have c1' : w2.cell? ⟨w.heap.size + 1, 1, none⟩ = some (.slice none 0 0) := HX1.out.cell 1
    have c2' : w2.cell? ⟨w.heap.size + 1, 2, none⟩ = some (.string ⟨#[]⟩) := HX1.out.cell 2
    have c3 : w2.cell? ⟨w.heap.size + 1, 3, none⟩ = some (.int .i64 0) := HX1.out.cell 3
    have f0 := HX1.out.free 0
    have f1 := HX1.out.free 1
    have f2 := HX1.out.free 2
    have f3 := HX1.out.free 3
    go_wp2
    obtain ⟨q0, q1, q2, q3, KF⟩ := four HX1.out (.slice none 0 0) (.slice none 0 0) (.string ⟨#[]⟩) (.int .i64 1)
    exact bodyPost_ret (v := .agg #[.slice none 0 0, .slice none 0 0, .string ⟨#[]⟩, .int .i64 1]) (by simp [results, Tryz.results131, go_sem, q0, q1, q2, q3]) rfl
      ⟨⟨_, _, rfl, OwnS.none _ _ _, OwnP.none _ _ _, fun _ h => by cases h⟩, KF.toBelow HB1.out HB1.out.size (by simp)⟩
  | true =>
    obtain ⟨l1, l2, l3⟩ := right_len hok
    have HSM := hide (small_of_right hok)
    have HAT := hide (fun j hj => And.intro (right_at hok j hj).1 (right_at hok j hj).2.1)
    have HE := hide (show diskFaultOf (errV aF) xs ps = .nilIface by unfold diskFaultOf; rw [hok]; rfl)
    have HF := hide (show flushOut xs ps = ⟨applyP ps xs, [], ⟨#[]⟩, 0⟩ by unfold flushOut; rw [hok]; rfl)
    rw [HF.out]
    go_enter Tryz.func131, Tryz.ntmps131
    go_wp2_with fail
    refine (diskFault_any _ _ xs ps _ _ _ _ _ hn hn2 HR.out HP.out HS.out.1.1 HS.out.1.2).mono ?_
    rw [show diskFaultOf _ xs ps = Value.nilIface from HE.out]
    rintro e w1 ⟨rfl, hb1⟩
    have HB1 := hide (HB0.out.trans (hb1.mono HB0.out.size))
    have HX1 := hide (Row.after hb1 HR1.out)
    have a0 : w1.cell? ⟨w.heap.size, 0, none⟩ = some (.slice p1 xs.length c1) := (Row.after hb1 HN0.out).cell 0
    have a1 : w1.cell? ⟨w.heap.size, 1, none⟩ = some (.slice p2 ps.length c2) := (Row.after hb1 HN0.out).cell 1
    have HRa := hide (HR.out.below hb1 (Nat.le_refl _))
    have HPa := hide (HP.out.below hb1 (Nat.le_refl _))
    clear hb1 hok
    go_wp2_with fail
    refine (settle_any _ _ xs ps _ HRa.out HPa.out l1 l2 l3 HAT.out).mono ?_
    rintro e w2 ⟨rfl, hb2⟩
    have HB2 := hide (HB1.out.trans (hb2.mono HB1.out.size))
    have HX2 := hide (Row.after hb2 HX1.out)
    clear hb2 a0 a1
    go_wp2_with fail
    refine (bankDisk_any (applyP ps xs) _ (by rw [applyP_len]; exact l2) (applyP_mem ps xs _ HSM.out.2.1 HSM.out.2.2.2)).mono ?_
    rintro e w3 ⟨⟨us, up, rfl, o1, o2, dd⟩, hb3⟩
    obtain ⟨q1, m1, d1, rfl⟩ := o1.isSlice
    obtain ⟨q2, m2, d2, rfl⟩ := o2.isSlice
    have hl2 := HX2.out.lt
    have HB3 := hide (HB2.out.trans (hb3.mono HB2.out.size))
    have R3 := Row.after hb3 HX2.out
    have c0 : w3.cell? ⟨w.heap.size + 1, 0, none⟩ = some (.slice none 0 0) := R3.cell 0
    have c1' : w3.cell? ⟨w.heap.size + 1, 1, none⟩ = some (.slice none 0 0) := R3.cell 1
    have c2' : w3.cell? ⟨w.heap.size + 1, 2, none⟩ = some (.string ⟨#[]⟩) := R3.cell 2
    have c3 : w3.cell? ⟨w.heap.size + 1, 3, none⟩ = some (.int .i64 0) := R3.cell 3
    have f0 := R3.free 0
    have f1 := R3.free 1
    have f2 := R3.free 2
    have f3 := R3.free 3
    have HR3 := hide R3
    have HO1 := hide o1
    have HO2 := hide o2
    have HD := hide dd
    clear hb3 R3 o1 o2 dd
    go_wp2
    obtain ⟨z0, z1, z2, z3, KF⟩ := four HR3.out (.slice q1 m1 d1) (.slice q2 m2 d2) (.string ⟨#[]⟩) (.int .i64 0)
    exact bodyPost_ret (v := .agg #[.slice q1 m1 d1, .slice q2 m2 d2, .string ⟨#[]⟩, .int .i64 0]) (by simp [results, Tryz.results131, go_sem, z0, z1, z2, z3]) rfl
      ⟨⟨_, _, rfl, (HO1.out.kept KF (fun x hx => by have := HO1.out.leads x hx; simp; omega)).mono (by omega), (HO2.out.kept KF (fun x hx => by have := HO2.out.leads x hx; simp; omega)).mono (by omega), HD.out⟩, KF.toBelow HB3.out HB3.out.size (by simp)⟩
end Go.Proofs.YtnpbmaajgiapmaaGreatDoor
/- DiskWrite, as the program does it. -/
namespace Go.Proofs.YtnpbmaajgiapmaaGreatDoor
open Go.RowKit

set_option maxHeartbeats 4000000 in
theorem implWrite_size (vs vp : Value) (xs : List ByteArray) (ps : List (Int × ByteArray)) (a : Int) (d : ByteArray) (w : World) (hr : Reads w vs xs) (hp : ReadsP w vp ps) (hd : d.size ≤ 1048576) (hz : 8000 < d.size) :
    Calls Tryz.prog 132 #[.agg #[vs, vp], .int .i64 a, .string d] w fun e w' => OutIs w.heap.size e w' (illOut 2) ∧ Below w.heap.size w w' := by
  have HB0 := hide (show Below w.heap.size w ((w.alloc (.cells #[vs, vp] 30)).alloc (.cells #[.slice none 0 0, .slice none 0 0, .string ⟨#[]⟩, .int .i64 2] 101)) from ((Below.refl _ _).alloc (Nat.le_refl _) _).alloc (by simp) _)
  obtain ⟨p1, c1, rfl, hq⟩ := hr
  obtain ⟨p2, c2, rfl, hq2⟩ := hp
  have t1 : (8000 : Int) < (d.size : Int) := by omega
  clear hq hq2
  go_enter Tryz.func132, Tryz.ntmps132
  go_wp2
  exact bodyPost_ret (v := .agg #[.slice none 0 0, .slice none 0 0, .string ⟨#[]⟩, .int .i64 2]) (by simp [results, Tryz.results132, go_sem]) rfl
    ⟨⟨_, _, rfl, OwnS.none _ _ _, OwnP.none _ _ _, fun _ h => by cases h⟩, HB0.out⟩

set_option maxHeartbeats 4000000 in
theorem implWrite_ill (vs vp : Value) (xs : List ByteArray) (ps : List (Int × ByteArray)) (a : Int) (d : ByteArray) (aF aR aU b : Addr) (c : Int) (w : World) (hn : xs.length ≤ 1048576) (hn2 : ps.length ≤ 1048576) (hz : d.size ≤ 8000) (hr : Reads w vs xs) (hp : ReadsP w vp ps) (hS : Sents aF aR aU w)
    (hf : writeFaultOf (errV aF) (errV aR) (errV aU) xs ps a d = errV b) (hc : CodeIs aF aR aU b c) :
    Calls Tryz.prog 132 #[.agg #[vs, vp], .int .i64 a, .string d] w fun e w' => OutIs w.heap.size e w' (illOut c) ∧ Below w.heap.size w w' := by
  have hb0 : Below w.heap.size w ((w.alloc (.cells #[vs, vp] 30)).alloc (.cells #[.slice none 0 0, .slice none 0 0, .string ⟨#[]⟩, .int .i64 0] 101)) :=
    ((Below.refl _ _).alloc (Nat.le_refl _) _).alloc (by simp) _
  have HR := hide (hr.below hb0 (Nat.le_refl _))
  have HP := hide (hp.below hb0 (Nat.le_refl _))
  have HS := hide (Stab.go hb0 hS)
  have HB0 := hide hb0
  have HF := hide hf
  have HC := hide hc
  have HZ := hide hz
  obtain ⟨p1, c1, rfl, hq⟩ := hr
  obtain ⟨p2, c2, rfl, hq2⟩ := hp
  have HN0 := hide ((row_new w [.slice p1 xs.length c1, .slice p2 ps.length c2] 30).alloc (.cells #[.slice none 0 0, .slice none 0 0, .string ⟨#[]⟩, .int .i64 0] 101))
  have R1 := row_new (w.alloc (.cells #[.slice p1 xs.length c1, .slice p2 ps.length c2] 30)) [.slice none 0 0, .slice none 0 0, .string ⟨#[]⟩, .int .i64 0] 101
  simp only [World.size_alloc] at R1
  have HR1 := hide R1
  have t1 : ¬ ((8000 : Int) < (d.size : Int)) := by omega
  clear hb0 hq hq2 R1 hf hc hS hz
  go_enter Tryz.func132, Tryz.ntmps132
  go_wp2_with fail
  refine (clone_any d _ (by have := HZ.out; omega)).mono ?_
  rintro e w1 ⟨rfl, hb1⟩
  have bn := below_new w1 (.cells #[.int .i64 a, .string d] 92)
  have hb2 := hb1.trans (bn.mono hb1.size)
  have HB2 := hide (HB0.out.trans (hb2.mono HB0.out.size))
  have HM2 := hide (Row.after hb2 HN0.out)
  have HX2 := hide (Row.after hb2 HR1.out)
  have HS2 := hide (Stab.go hb2 HS.out)
  have HRa := hide (HR.out.below hb2 (Nat.le_refl _))
  have HPa := hide (HP.out.below hb2 (Nat.le_refl _))
  have a0 : (w1.alloc (.cells #[.int .i64 a, .string d] 92)).cell? ⟨w.heap.size, 0, none⟩ = some (.slice p1 xs.length c1) := HM2.out.cell 0
  have a1 : (w1.alloc (.cells #[.int .i64 a, .string d] 92)).cell? ⟨w.heap.size, 1, none⟩ = some (.slice p2 ps.length c2) := HM2.out.cell 1
  clear hb1 bn hb2 HN0 HR1 HS HR HP HM2
  go_wp2_with fail
  refine (writeFault_any _ _ xs ps a d _ _ _ _ _ _ _ hn hn2 (by have := HZ.out; unfold maxLen; omega) HRa.out HPa.out HS2.out.1.1 HS2.out.1.2 HS2.out.2.1).mono ?_
  rw [show writeFaultOf _ _ _ xs ps a d = Value.iface 245 (.pointer (some b)) from HF.out]
  rintro e w3 ⟨rfl, hb3⟩
  have HB3 := hide (HB2.out.trans (hb3.mono HB2.out.size))
  have HX3 := hide (Row.after hb3 HX2.out)
  have HS3 := hide (Stab.go hb3 HS2.out)
  clear hb3 a0 a1
  go_wp2_with fail
  refine (code_any aF aR aU b c _ HS3.out HC.out).mono ?_
  rintro e w4 ⟨rfl, rfl⟩
  have c0 : w4.cell? ⟨w.heap.size + 1, 0, none⟩ = some (.slice none 0 0) := HX3.out.cell 0
  have c1' : w4.cell? ⟨w.heap.size + 1, 1, none⟩ = some (.slice none 0 0) := HX3.out.cell 1
  have c2' : w4.cell? ⟨w.heap.size + 1, 2, none⟩ = some (.string ⟨#[]⟩) := HX3.out.cell 2
  have c3 : w4.cell? ⟨w.heap.size + 1, 3, none⟩ = some (.int .i64 0) := HX3.out.cell 3
  have f0 := HX3.out.free 0
  have f1 := HX3.out.free 1
  have f2 := HX3.out.free 2
  have f3 := HX3.out.free 3
  go_wp2
  obtain ⟨q0, q1, q2, q3, KF⟩ := four HX3.out (.slice none 0 0) (.slice none 0 0) (.string ⟨#[]⟩) (.int .i64 c)
  exact bodyPost_ret (v := .agg #[.slice none 0 0, .slice none 0 0, .string ⟨#[]⟩, .int .i64 c]) (by simp [results, Tryz.results132, go_sem, q0, q1, q2, q3]) rfl
    ⟨⟨_, _, rfl, OwnS.none _ _ _, OwnP.none _ _ _, fun _ h => by cases h⟩, KF.toBelow HB3.out HB3.out.size (by simp)⟩

set_option maxRecDepth 100000 in
set_option maxHeartbeats 4000000 in
theorem implWrite_good (vs vp : Value) (xs : List ByteArray) (ps : List (Int × ByteArray)) (a : Int) (d : ByteArray) (aF aR aU : Addr) (w : World) (hn : xs.length ≤ 1048576) (hn2 : ps.length ≤ 1048576) (hz : d.size ≤ 64) (hr : Reads w vs xs) (hp : ReadsP w vp ps) (hS : Sents aF aR aU w)
    (hok : right xs ps = true) (hf : writeFaultOf (errV aF) (errV aR) (errV aU) xs ps a d = .nilIface) :
    Calls Tryz.prog 132 #[.agg #[vs, vp], .int .i64 a, .string d] w fun e w' => OutIs w.heap.size e w' ⟨xs, ps ++ [(a, d)], ⟨#[]⟩, 0⟩ ∧ Below w.heap.size w w' := by
  obtain ⟨j0, hj, hy0, hy1, hy2⟩ := info_parts Tryz.infoPend
  have HSM := hide (small_of_right hok)
  have hb0 : Below w.heap.size w ((w.alloc (.cells #[vs, vp] 30)).alloc (.cells #[.slice none 0 0, .slice none 0 0, .string ⟨#[]⟩, .int .i64 0] 101)) :=
    ((Below.refl _ _).alloc (Nat.le_refl _) _).alloc (by simp) _
  have HR := hide (hr.below hb0 (Nat.le_refl _))
  have HP := hide (hp.below hb0 (Nat.le_refl _))
  have HS := hide (Stab.go hb0 hS)
  have HB0 := hide hb0
  have HF := hide hf
  have HZ := hide hz
  obtain ⟨p1, c1, rfl, hq⟩ := hr
  obtain ⟨p2, c2, rfl, hq2⟩ := hp
  have HN0 := hide ((row_new w [.slice p1 xs.length c1, .slice p2 ps.length c2] 30).alloc (.cells #[.slice none 0 0, .slice none 0 0, .string ⟨#[]⟩, .int .i64 0] 101))
  have R1 := row_new (w.alloc (.cells #[.slice p1 xs.length c1, .slice p2 ps.length c2] 30)) [.slice none 0 0, .slice none 0 0, .string ⟨#[]⟩, .int .i64 0] 101
  simp only [World.size_alloc] at R1
  have HR1 := hide R1
  have t1 : ¬ ((8000 : Int) < (d.size : Int)) := by omega
  clear hb0 hq hq2 R1 hf hS hz hok
  go_enter Tryz.func132, Tryz.ntmps132
  go_wp2_with fail
  refine (clone_any d _ (by have := HZ.out; omega)).mono ?_
  rintro e w1 ⟨rfl, hb1⟩
  have bn := below_new w1 (.cells #[.int .i64 a, .string d] 92)
  have hb2 := hb1.trans (bn.mono hb1.size)
  have HB2 := hide (HB0.out.trans (hb2.mono HB0.out.size))
  have HM2 := hide (Row.after hb2 HN0.out)
  have HX2 := hide (Row.after hb2 HR1.out)
  have HD2 := hide (row_new w1 [.int .i64 a, .string d] 92)
  have HS2 := hide (Stab.go hb2 HS.out)
  have HRa := hide (HR.out.below hb2 (Nat.le_refl _))
  have HPa := hide (HP.out.below hb2 (Nat.le_refl _))
  have a0 : (w1.alloc (.cells #[.int .i64 a, .string d] 92)).cell? ⟨w.heap.size, 0, none⟩ = some (.slice p1 xs.length c1) := HM2.out.cell 0
  have a1 : (w1.alloc (.cells #[.int .i64 a, .string d] 92)).cell? ⟨w.heap.size, 1, none⟩ = some (.slice p2 ps.length c2) := HM2.out.cell 1
  have HS1 := hide (show w.heap.size + 2 ≤ w1.heap.size by have := hb1.size; simpa using this)
  clear hb1 bn hb2 HN0 HR1 HS HR HP
  go_wp2_with fail
  refine (writeFault_any _ _ xs ps a d _ _ _ _ _ _ _ hn hn2 (by have := HZ.out; unfold maxLen; omega) HRa.out HPa.out HS2.out.1.1 HS2.out.1.2 HS2.out.2.1).mono ?_
  rw [show writeFaultOf _ _ _ xs ps a d = Value.nilIface from HF.out]
  rintro e w3 ⟨rfl, hb3⟩
  have HB3 := hide (HB2.out.trans (hb3.mono HB2.out.size))
  have HX3 := hide (Row.after hb3 HX2.out)
  have HM3 := hide (Row.after hb3 HM2.out)
  have HD3 := hide (Row.after hb3 HD2.out)
  have HRb := hide (HRa.out.below hb3 (Nat.le_refl _))
  have HPb := hide (HPa.out.below hb3 (Nat.le_refl _))
  have a0 : w3.cell? ⟨w.heap.size, 0, none⟩ = some (.slice p1 xs.length c1) := HM3.out.cell 0
  have a1 : w3.cell? ⟨w.heap.size, 1, none⟩ = some (.slice p2 ps.length c2) := HM3.out.cell 1
  clear hb3 HRa HPa HX2 HM2 HD2 HB2 HS2
  go_wp2_with fail
  refine (copyDisk_own _ _ xs ps _ HRb.out HPb.out HSM.out).mono ?_
  rintro e w2 ⟨⟨us, up, rfl, ow1, ow2, dd, he⟩, hb2⟩
  have HB4 := hide (HB3.out.trans (hb2.mono HB3.out.size))
  have HX4 := hide (Row.after hb2 HX3.out)
  have HD4 := hide (Row.after hb2 HD3.out)
  have HO1 := hide ow1
  have HO2 := hide ow2
  have HD := hide dd
  have HE := hide he
  have S3 := HD3.out.lt
  have S2 := hb2.size
  have hs1 := HS1.out
  obtain ⟨q1, m1, d1, rfl⟩ := ow1.isSlice
  obtain ⟨q2, m2, d2, rfl⟩ := ow2.isSlice
  clear ow1 ow2 dd hb2 he a0 a1
  have hzp : (Value.agg #[.int .i64 0, .string ⟨#[]⟩]).cells.size = 2 := by simp [Value.cells]
  have bx : Below w2.heap.size w2 ((w2.alloc (.cells #[.slice q1 m1 d1, .slice q2 m2 d2] 30)).alloc (.cells #[.int .i64 a, .string d] 92)) :=
    ((Below.refl _ _).alloc (Nat.le_refl _) _).alloc (by simp) _
  have HOX := hide ((HO2.out.mono (B' := w.heap.size) (by omega)).below bx (Nat.le_refl _))
  have HOS := hide ((HO1.out.mono (B' := w.heap.size) (by omega)).below bx (Nat.le_refl _))
  have RX := row_new (w2.alloc (.cells #[.slice q1 m1 d1, .slice q2 m2 d2] 30)) [.int .i64 a, .string d] 92
  simp only [World.size_alloc] at RX
  have HRX := hide RX
  have HG := hide ((row_new w2 [.slice q1 m1 d1, .slice q2 m2 d2] 30).alloc (.cells #[.int .i64 a, .string d] 92))
  have HN := hide ((HX4.out.alloc (.cells #[.slice q1 m1 d1, .slice q2 m2 d2] 30)).alloc (.cells #[.int .i64 a, .string d] 92))
  have HBX := hide (HB4.out.trans (bx.mono HB4.out.size))
  have hBX : w.heap.size ≤ ((w2.alloc (.cells #[.slice q1 m1 d1, .slice q2 m2 d2] 30)).alloc (.cells #[.int .i64 a, .string d] 92)).heap.size := HBX.out.size
  have hdm : d.size ≤ maxLen := by have := HZ.out; unfold maxLen; omega
  have e0 : (w2.alloc (.cells #[.slice q1 m1 d1, .slice q2 m2 d2] 30)).cell? ⟨w1.heap.size, 0, none⟩ = some (.int .i64 a) := (HD4.out.alloc _).cell 0
  have e1 : (w2.alloc (.cells #[.slice q1 m1 d1, .slice q2 m2 d2] 30)).cell? ⟨w1.heap.size, 1, none⟩ = some (.string d) := (HD4.out.alloc _).cell 1
  have hne1 : ¬ w2.heap.size = w.heap.size + 1 := by omega
  have hne2 : ¬ w.heap.size + 1 = w2.heap.size := by omega
  clear bx RX
  go_wp2_with (at_builtin; refine wpList_pushP _ rfl _ _ 28 rfl w.heap.size 92 j0 (.agg #[.int .i64 0, .string ⟨#[]⟩]) Tryz.underlying28 hj hy0 hy1 hy2 hzp (.slice q2 m2 d2) rfl ps HOX.out HE.out hn2 hBX a d hdm (w2.heap.size + 1) 1 rfl HRX.out ?_
               intro q3 d3 w4 ho3 hk3 hl3
               have HO3 := hide ho3
               have HK3 := hide hk3
               have HL3 := hide hl3
               have G3 := hk3.row HG.out (fun h => absurd (HO2.out.leads _ h).2 (Nat.lt_irrefl _))
               have N3 := hk3.row HN.out (fun h => absurd (HO2.out.leads _ h).1 (by omega))
               have o0 : w4.cell? ⟨w2.heap.size, 0, none⟩ = some (.slice q1 m1 d1) := G3.cell 0
               have o1 : w4.cell? ⟨w2.heap.size, 1, none⟩ = some (.slice q2 m2 d2) := G3.cell 1
               have o2 := G3.free 1
               have c0 : w4.cell? ⟨w.heap.size + 1, 0, none⟩ = some (.slice none 0 0) := N3.cell 0
               have c1' : w4.cell? ⟨w.heap.size + 1, 1, none⟩ = some (.slice none 0 0) := N3.cell 1
               have c2' : w4.cell? ⟨w.heap.size + 1, 2, none⟩ = some (.string ⟨#[]⟩) := N3.cell 2
               have c3 : w4.cell? ⟨w.heap.size + 1, 3, none⟩ = some (.int .i64 0) := N3.cell 3
               have f0 := N3.free 0
               have f1 := N3.free 1
               have f2 := N3.free 2
               have f3 := N3.free 3
               have HN3 := hide N3
               clear ho3 hk3 hl3 N3 G3)
  have KS := Kept.ofSet w4 w2.heap.size 1 (.slice q3 (ps.length + 1) d3)
  have R4 := HN3.out.other (b := w2.heap.size) (j := 1) (by omega) (.slice q3 (ps.length + 1) d3)
  obtain ⟨z0, z1, z2, z3, KF⟩ := four R4 (.slice q1 m1 d1) (.slice q3 (ps.length + 1) d3) (.string ⟨#[]⟩) (.int .i64 0)
  have LU : ∀ x ∈ leads (.slice q1 m1 d1), w.heap.size + 2 ≤ x ∧ x < w2.heap.size := fun x hx => by
    have := HO1.out.leads x hx
    omega
  have LP : ∀ x ∈ leads (.slice q2 m2 d2), w.heap.size + 2 ≤ x ∧ x < w2.heap.size := fun x hx => by
    have := HO2.out.leads x hx
    omega
  have LQ : ∀ x ∈ leads (.slice q3 (ps.length + 1) d3), x ∈ leads (.slice q2 m2 d2) ∨ w2.heap.size + 2 ≤ x := fun x hx => by
    rcases HL3.out x hx with h | h
    · exact .inl h
    · exact .inr (by simpa using h)
  have LR : ∀ x ∈ leads (.slice q3 (ps.length + 1) d3), x ≠ w2.heap.size ∧ w.heap.size + 2 ≤ x := fun x hx => by
    rcases LQ x hx with h | h
    · have := LP x h; omega
    · omega
  have k3 := HK3.out.toBelow HBX.out hBX (fun x hx => by have := LP x hx; omega)
  have k4 := KS.toBelow k3 k3.size (by simp; have := HB4.out.size; omega)
  have k5 := KF.toBelow k4 k4.size (by simp)
  have O1 := ((HOS.out.kept HK3.out HD.out).kept KS (fun x hx => by have := LU x hx; simp; omega)).kept KF (fun x hx => by have := LU x hx; simp; omega)
  have O2 := (HO3.out.kept KS (fun x hx => by have := LR x hx; simp; omega)).kept KF (fun x hx => by have := LR x hx; simp; omega)
  exact bodyPost_ret (v := .agg #[(.slice q1 m1 d1), (.slice q3 (ps.length + 1) d3), .string ⟨#[]⟩, .int .i64 0]) (by simp [results, Tryz.results132, go_sem, z0, z1, z2, z3]) rfl
    ⟨⟨_, _, rfl, O1, O2, fun x hx hy => by
      rcases LQ x hy with h | h
      · exact HD.out x hx h
      · have := LU x hx; omega⟩, k5⟩

theorem implWrite_any (vs vp : Value) (xs : List ByteArray) (ps : List (Int × ByteArray)) (a : Int) (d : ByteArray) (aF aR aU : Addr) (w : World) (hn : xs.length ≤ 1048576) (hn2 : ps.length ≤ 1048576) (hd : d.size ≤ 1048576) (hr : Reads w vs xs) (hp : ReadsP w vp ps) (hS : Sents aF aR aU w) :
    Calls Tryz.prog 132 #[.agg #[vs, vp], .int .i64 a, .string d] w fun e w' => OutIs w.heap.size e w' (writeOut xs ps a d) ∧ Below w.heap.size w w' := by
  by_cases h8 : 8000 < d.size
  · rw [show writeOut xs ps a d = illOut 2 by unfold writeOut; rw [if_pos h8]]
    exact implWrite_size vs vp xs ps a d w hr hp hd h8
  have h8' : d.size ≤ 8000 := by omega
  cases hok : right xs ps with
  | false =>
    rw [show writeOut xs ps a d = illOut 1 by unfold writeOut; rw [if_neg h8, if_pos (.inl hok)]]
    exact implWrite_ill vs vp xs ps a d aF aR aU aF 1 w hn hn2 h8' hr hp hS (by unfold writeFaultOf; rw [hok]; rfl) (.inl ⟨rfl, rfl⟩)
  | true =>
    obtain ⟨l1, l2, l3⟩ := right_len hok
    by_cases hz : d.size ≤ 64
    · have hno : ¬ (right xs ps = false ∨ 64 < d.size) := by
        rw [hok]
        rintro (h | h)
        · cases h
        · omega
      by_cases hin : 0 ≤ a ∧ a ≤ (xs.length : Int) - 1
      · by_cases h2 : ps.length = 200
        · rw [show writeOut xs ps a d = illOut 9 by unfold writeOut; rw [if_neg h8, if_neg hno, if_pos hin, if_pos (by omega)]]
          exact implWrite_ill vs vp xs ps a d aF aR aU aU 9 w hn hn2 h8' hr hp hS (by unfold writeFaultOf; rw [hok, if_pos rfl, if_pos hz, if_pos hin, if_pos h2]) (.inr (.inr ⟨rfl, rfl⟩))
        · rw [show writeOut xs ps a d = ⟨xs, ps ++ [(a, d)], ⟨#[]⟩, 0⟩ by unfold writeOut; rw [if_neg h8, if_neg hno, if_pos hin, if_neg (by omega)]]
          exact implWrite_good vs vp xs ps a d aF aR aU w hn hn2 hz hr hp hS hok (by unfold writeFaultOf; rw [hok, if_pos rfl, if_pos hz, if_pos hin, if_neg h2])
      · rw [show writeOut xs ps a d = illOut 8 by unfold writeOut; rw [if_neg h8, if_neg hno, if_neg hin]]
        exact implWrite_ill vs vp xs ps a d aF aR aU aR 8 w hn hn2 h8' hr hp hS (by unfold writeFaultOf; rw [hok, if_pos rfl, if_pos hz, if_neg hin]) (.inr (.inl ⟨rfl, rfl⟩))
    · rw [show writeOut xs ps a d = illOut 1 by unfold writeOut; rw [if_neg h8, if_pos (.inr (by omega))]]
      exact implWrite_ill vs vp xs ps a d aF aR aU aF 1 w hn hn2 h8' hr hp hS (by unfold writeFaultOf; rw [hok, if_pos rfl, if_neg hz]) (.inl ⟨rfl, rfl⟩)
end Go.Proofs.YtnpbmaajgiapmaaGreatDoor
