/- DiskRead of a sector that is there, as the program does it. -/
import Derived.Test.YtdnbfnahhkmmnaaDoorIRead
import Derived.Deep.RegionWith
namespace Go.Proofs.YtdnbfnahhkmmnaaDoor
open Go.RowKit

set_option maxRecDepth 100000 in
set_option maxHeartbeats 4000000 in
theorem implRead_good (vs vp : Value) (xs : List ByteArray) (ps : List (Int × ByteArray)) (n : Nat) (aF aR aU : Addr) (w : World) (hn : xs.length ≤ 1048576) (hn2 : ps.length ≤ 1048576) (hr : Reads w vs xs) (hp : ReadsP w vp ps) (hS : Sents aF aR aU w)
    (hok : right xs ps = true) (hlt : n < xs.length) :
    Calls Tryd.prog 18 #[.agg #[vs, vp], .int .i64 (n : Int)] w fun e w' => OutIs w.heap.size e w' ⟨xs, ps, lastAt n ps (xs.getD n ⟨#[]⟩), 0⟩ ∧ Below w.heap.size w w' := by
  obtain ⟨l1, l2, l3⟩ := right_len hok
  have HSM := hide (small_of_right hok)
  have HAT := hide (fun j hj => And.intro (right_at hok j hj).1 (right_at hok j hj).2.1)
  have HFT := hide (show readFaultOf (errV aF) (errV aR) xs ps n = .nilIface by unfold readFaultOf; rw [hok, if_pos rfl, if_pos (by omega)])
  have hal : n < (applyP ps xs).length := by rw [applyP_len]; exact hlt
  have HT0 := hide (show (applyP ps xs)[n]'hal = lastAt n ps (xs.getD n ⟨#[]⟩) by
    have := applyP_at ps xs n hlt (fun x hx => by obtain ⟨j, hj, rfl⟩ := List.getElem_of_mem hx; exact (right_at hok j hj).1)
    rw [← this]
    simp [List.getD, hal])
  have HTS := hide (applyP_mem ps xs _ HSM.out.2.1 HSM.out.2.2.2 _ (List.getElem_mem hal))
  obtain ⟨T, hT⟩ : ∃ T, T = lastAt n ps (xs.getD n ⟨#[]⟩) := ⟨_, rfl⟩
  have HBA := hide (bank_at (applyP ps xs) n hal)
  rw [← hT]
  rw [HT0.out, ← hT] at HBA HTS
  have hbl := bank_len (ys := applyP ps xs) (by rw [applyP_len]; exact l2)
  obtain ⟨L, hL⟩ : ∃ L, L = bank (applyP ps xs) := ⟨_, rfl⟩
  have HL1 := hide (show ∀ v ∈ L, v.oneCell' = true by rw [hL]; exact bank_one _)
  have HLE := hide hL
  rw [← hL] at hbl HBA
  have hb0 : Below w.heap.size w ((w.alloc (.cells #[vs, vp] 26)).alloc (.cells #[.slice none 0 0, .slice none 0 0, .string ⟨#[]⟩, .int .i64 0] 30)) :=
    ((Below.refl _ _).alloc (Nat.le_refl _) _).alloc (by simp) _
  have HR := hide (hr.below hb0 (Nat.le_refl _))
  have HP := hide (hp.below hb0 (Nat.le_refl _))
  have HS := hide (Stab.go hb0 hS)
  have HB0 := hide hb0
  obtain ⟨p1, c1, rfl, hq⟩ := hr
  obtain ⟨p2, c2, rfl, hq2⟩ := hp
  have HN0 := hide ((row_new w [.slice p1 xs.length c1, .slice p2 ps.length c2] 26).alloc (.cells #[.slice none 0 0, .slice none 0 0, .string ⟨#[]⟩, .int .i64 0] 30))
  have R1 := row_new (w.alloc (.cells #[.slice p1 xs.length c1, .slice p2 ps.length c2] 26)) [.slice none 0 0, .slice none 0 0, .string ⟨#[]⟩, .int .i64 0] 30
  simp only [World.size_alloc] at R1
  have HR1 := hide R1
  have n64 : (n : Int) < 64 := by omega
  clear hb0 hq hq2 R1 hS hok HT0 hT hL
  go_enter Tryd.func18, Tryd.ntmps18
  go_wp2_with fail
  refine (readFault_any _ _ xs ps n _ _ _ _ _ hn hn2 HR.out HP.out HS.out.1.1 HS.out.1.2).mono ?_
  rw [show readFaultOf _ _ xs ps n = Value.nilIface from HFT.out]
  rintro e w1 ⟨rfl, hb1⟩
  have HB1 := hide (HB0.out.trans (hb1.mono HB0.out.size))
  have HX1 := hide (Row.after hb1 HR1.out)
  have HM1 := hide (Row.after hb1 HN0.out)
  have a0 : w1.cell? ⟨w.heap.size, 0, none⟩ = some (.slice p1 xs.length c1) := HM1.out.cell 0
  have a1 : w1.cell? ⟨w.heap.size, 1, none⟩ = some (.slice p2 ps.length c2) := HM1.out.cell 1
  have HRa := hide (HR.out.below hb1 (Nat.le_refl _))
  have HPa := hide (HP.out.below hb1 (Nat.le_refl _))
  clear hb1 HR HP HN0 HR1 HB0 HS
  go_wp2_with fail
  refine (settle_any _ _ xs ps _ HRa.out HPa.out l1 l2 l3 HAT.out).mono ?_
  rw [← HLE.out]
  rintro e w2 ⟨rfl, hb2⟩
  have hst := new_store Tryd.prog w2 63 Tryd.zeroCells63 L (by rw [hbl, ← Array.length_toList, Tryd.zeroBank]; simp [strs_len]) HL1.out
  have bn := below_new w2 (.cells L.toArray 63)
  have hb3 := hb2.trans (bn.mono hb2.size)
  have HB3 := hide (HB1.out.trans (hb3.mono HB1.out.size))
  have HX3 := hide (Row.after hb3 HX1.out)
  have HM3 := hide (Row.after hb3 HM1.out)
  have HRb := hide (HRa.out.below hb3 (Nat.le_refl _))
  have HPb := hide (HPa.out.below hb3 (Nat.le_refl _))
  have HK3 := hide (row_new w2 L 63)
  have a0 : (w2.alloc (.cells L.toArray 63)).cell? ⟨w.heap.size, 0, none⟩ = some (.slice p1 xs.length c1) := HM3.out.cell 0
  have a1 : (w2.alloc (.cells L.toArray 63)).cell? ⟨w.heap.size, 1, none⟩ = some (.slice p2 ps.length c2) := HM3.out.cell 1
  have k0 : (w2.alloc (.cells L.toArray 63)).cell? ⟨w2.heap.size, n, none⟩ = some (.string T) := by rw [HK3.out.cell n]; exact HBA.out
  have HLT := hide (show w.heap.size + 1 < (w2.alloc (.cells L.toArray 63)).heap.size from HX3.out.lt)
  have HRd := hide (HRb.out.below ((Below.refl _ _).drew) (Nat.le_refl _))
  have HPd := hide (HPb.out.below ((Below.refl _ _).drew) (Nat.le_refl _))
  clear hb2 hb3 bn HX1 HM1 HRa HPa
  go_wp2_with fail
  go_region_with (first
    | (go_at_call 30; refine (copyDisk_any _ _ xs ps _ HRd.out HPd.out HSM.out).mono ?_; rintro e w4 ⟨⟨us, up, rfl, o1, o2, dd⟩, hb4⟩; obtain ⟨q1, m1, d1, rfl⟩ := o1.isSlice; obtain ⟨q2, m2, d2, rfl⟩ := o2.isSlice; have k4 : w4.cell? ⟨w2.heap.size, n, none⟩ = some (.string T) := ((Row.after hb4 HK3.out).cell n).trans HBA.out; have HO1 := hide o1; have HO2 := hide o2; have HD := hide dd; clear o1 o2 dd)
    | (go_at_call 27; refine (clone_any T _ (by have := HTS.out; omega)).mono ?_; rintro e w5 ⟨rfl, hb5⟩; have R5 := Row.after hb5 (Row.after hb4 HX3.out); have c0 : w5.cell? ⟨w.heap.size + 1, 0, none⟩ = some (.slice none 0 0) := R5.cell 0; have c1' : w5.cell? ⟨w.heap.size + 1, 1, none⟩ = some (.slice none 0 0) := R5.cell 1; have c2' : w5.cell? ⟨w.heap.size + 1, 2, none⟩ = some (.string ⟨#[]⟩) := R5.cell 2; have c3 : w5.cell? ⟨w.heap.size + 1, 3, none⟩ = some (.int .i64 0) := R5.cell 3; have f0 := R5.free 0; have f1 := R5.free 1; have f2 := R5.free 2; have f3 := R5.free 3; have HR5 := hide R5; clear R5))
  all_goals
    go_wp2
    obtain ⟨z0, z1, z2, z3, KF⟩ := four HR5.out (.slice q1 m1 d1) (.slice q2 m2 d2) (.string T) (.int .i64 0)
    have B4 := HB3.out.trans ((below_drew hb4).mono HB3.out.size)
    have B5 := B4.trans (hb5.mono B4.size)
    have L1 := HO1.out.leads
    have L2 := HO2.out.leads
    have hlt' := HLT.out
    have O1 := (HO1.out.below hb5 (Nat.le_refl _)).kept KF (fun x hx => by have h' := (L1 x hx).1; have h2 : (w2.alloc (.cells L.toArray 63)).heap.size ≤ x := h'; simp; omega)
    have O2 := (HO2.out.below hb5 (Nat.le_refl _)).kept KF (fun x hx => by have h' := (L2 x hx).1; have h2 : (w2.alloc (.cells L.toArray 63)).heap.size ≤ x := h'; simp; omega)
    exact bodyPost_ret (v := .agg #[.slice q1 m1 d1, .slice q2 m2 d2, .string T, .int .i64 0]) (by simp [results, Tryd.results18, go_sem, z0, z1, z2, z3]) rfl
      ⟨⟨_, _, rfl, O1.mono HB3.out.size, O2.mono HB3.out.size, HD.out⟩, KF.toBelow B5 B5.size (by simp)⟩

theorem implRead_any (vs vp : Value) (xs : List ByteArray) (ps : List (Int × ByteArray)) (a : Int) (aF aR aU : Addr) (w : World) (hn : xs.length ≤ 1048576) (hn2 : ps.length ≤ 1048576) (hr : Reads w vs xs) (hp : ReadsP w vp ps) (hS : Sents aF aR aU w) :
    Calls Tryd.prog 18 #[.agg #[vs, vp], .int .i64 a] w fun e w' => OutIs w.heap.size e w' (readOut xs ps a) ∧ Below w.heap.size w w' := by
  cases hok : right xs ps with
  | false =>
    rw [show readOut xs ps a = illOut 1 by unfold readOut; rw [hok]; rfl]
    exact implRead_ill vs vp xs ps a aF aR aU aF 1 w hn hn2 hr hp hS (by unfold readFaultOf; rw [hok]; rfl) (.inl ⟨rfl, rfl⟩)
  | true =>
    by_cases hin : 0 ≤ a ∧ a ≤ (xs.length : Int) - 1
    · obtain ⟨n, rfl⟩ := Int.eq_ofNat_of_zero_le hin.1
      rw [show readOut xs ps n = ⟨xs, ps, lastAt n ps (xs.getD n ⟨#[]⟩), 0⟩ by unfold readOut; rw [hok, if_pos rfl, if_pos hin]; rfl]
      exact implRead_good vs vp xs ps n aF aR aU w hn hn2 hr hp hS hok (by omega)
    · rw [show readOut xs ps a = illOut 8 by unfold readOut; rw [hok, if_pos rfl, if_neg hin]]
      exact implRead_ill vs vp xs ps a aF aR aU aR 8 w hn hn2 hr hp hS (by unfold readFaultOf; rw [hok, if_pos rfl, if_neg hin]) (.inr (.inl ⟨rfl, rfl⟩))
end Go.Proofs.YtdnbfnahhkmmnaaDoor
