/- StoreDrop of the program. -/
import Derived.Test.YtbhdbkffejlfmaaGreatDoorXGQSWrite
import Derived.Test.YtbhdbkffejlfmaaGreatDoorXGQGet
namespace Go.Proofs.YtbhdbkffejlfmaaGreatDoor
open Go.RowKit
theorem dropO_with (xs : List ByteArray) (ps : List (Int × ByteArray)) (i : ByteArray) (a : Int) : dropO xs ps i a = if withC xs ps i ≠ 0 then kill (withC xs ps i) else kput xs ps (storeB (delL (itemsO xs ps) i)) a := by
  unfold dropO withC
  by_cases h : forC xs ps i ≠ 0
  · rw [if_pos h, if_pos h, if_pos h]
  · rw [if_neg h, if_neg h, find_any]
    cases hf : (itemsO xs ps).find? (sameId i) with
    | none => simp
    | some p => simp
theorem withC_for {xs : List ByteArray} {ps : List (Int × ByteArray)} {i : ByteArray} (h : withC xs ps i = 0) : forC xs ps i = 0 := by
  unfold withC at h
  split at h
  · rename_i h1; exact absurd h h1
  · rename_i h1; simpa using h1
set_option maxHeartbeats 8000000 in
set_option maxRecDepth 100000 in
theorem implStoreDrop_any (vs vp : Value) (xs : List ByteArray) (ps : List (Int × ByteArray)) (d : ByteArray) (a : Int) (aF aR aU : Addr) (w : World) (hn : xs.length ≤ 1048576) (hn2 : ps.length ≤ 1048576) (hd : d.size ≤ 1048576) (hr : Reads w vs xs) (hp : ReadsP w vp ps) (hS : Sents aF aR aU w) (hG : St3.Laid w) :
    Calls Tryz.prog 36 #[.agg #[vs, vp], .string d, .int .i64 a] w fun e w' => KOutIs w.heap.size e w' (dropO xs ps d a) ∧ Below w.heap.size w w' := by
  have HR := hide hr
  have HP := hide hp
  have HS0 := hide hS
  have HG := hide hG
  clear hS hG
  have hdm : d.size ≤ maxLen := by unfold maxLen; omega
  obtain ⟨p1, c1, rfl, _⟩ := hr
  obtain ⟨p2, c2, rfl, _⟩ := hp
  obtain ⟨W, hW⟩ : ∃ W, W = (w.alloc (.cells #[.slice p1 xs.length c1, .slice p2 ps.length c2] 29)).alloc (.cells #[.slice none 0 0, .slice none 0 0, .string ⟨#[]⟩, .int .i64 0] 51) := ⟨_, rfl⟩
  have HB0 := hide (show Below w.heap.size w W by rw [hW]; exact ((Below.refl _ _).alloc (Nat.le_refl _) _).alloc (by simp) _)
  have HWS := hide (show w.heap.size + 2 = W.heap.size by rw [hW]; simp)
  have HRD := hide (show Row W w.heap.size 29 [.slice p1 xs.length c1, .slice p2 ps.length c2] by rw [hW]; exact (row_new w _ _).alloc _)
  have HRO := hide (show Row W (w.heap.size + 1) 51 [.slice none 0 0, .slice none 0 0, .string ⟨#[]⟩, .int .i64 0] by
    rw [hW]
    have := row_new (w.alloc (.cells #[.slice p1 xs.length c1, .slice p2 ps.length c2] 29)) [.slice none 0 0, .slice none 0 0, .string ⟨#[]⟩, .int .i64 0] 51
    simpa using this)
  have HR1 := hide (HR.out.below HB0.out (Nat.le_refl _))
  have HP1 := hide (HP.out.below HB0.out (Nat.le_refl _))
  obtain ⟨C, hC⟩ : ∃ C, C = withC xs ps d := ⟨_, rfl⟩
  have HCE := hide hC
  obtain ⟨o, ho⟩ : ∃ o, o = dropO xs ps d a := ⟨_, rfl⟩
  have HOE := hide ho
  rw [← ho]
  obtain ⟨L, hL⟩ : ∃ L, L = itemsO xs ps := ⟨_, rfl⟩
  have HLE := hide hL
  clear hC ho hL
  have HGO := hide (dropO_with xs ps d a)
  go_enter Tryz.func36, Tryz.ntmps36
  go_wp2_with fail
  rw [← hW]
  clear hW
  refine (storeWith_any _ _ xs ps d aF aR aU _ hn hn2 hd HR1.out HP1.out (Stab.go HB0.out HS0.out) (Stab.go HB0.out HG.out)).mono ?_
  rw [← HCE.out, ← HLE.out]
  rintro e X ⟨⟨v, err, rfl, hE1, hE2⟩, hb1⟩
  have HX0 := hide hb1
  have HBX := hide (HB0.out.trans (hb1.mono HB0.out.size))
  have HROX := hide (HRO.out.below hb1 HRO.out.lt)
  have H1 := hide hE1
  have H2 := hide hE2
  clear hb1 hE1 hE2
  by_cases hc : C = 0
  rotate_left
  · have HE := hide (show o = kill C by rw [HOE.out, HGO.out, ← HCE.out, if_pos hc])
    obtain rfl := H1.out hc
    clear hc H1 H2
    go_wp2_with fail
    refine (storeRefused_any C _ (Stab.go HBX.out HG.out)).mono ?_
    rintro e w2 ⟨rfl, hb2⟩
    have HB2 := hide (HBX.out.trans (hb2.mono HBX.out.size))
    have HRO2 := hide (HROX.out.below hb2 HROX.out.lt)
    clear hb2
    have g0 : w2.cell? ⟨w.heap.size + 1, 0, none⟩ = some (.slice none 0 0) := HRO2.out.cell 0
    have h0 := HRO2.out.free 0
    have g1 : w2.cell? ⟨w.heap.size + 1, 1, none⟩ = some (.slice none 0 0) := HRO2.out.cell 1
    have h1 := HRO2.out.free 1
    have g2 : w2.cell? ⟨w.heap.size + 1, 2, none⟩ = some (.string ⟨#[]⟩) := HRO2.out.cell 2
    have h2 := HRO2.out.free 2
    have g3 : w2.cell? ⟨w.heap.size + 1, 3, none⟩ = some (.int .i64 0) := HRO2.out.cell 3
    have h3 := HRO2.out.free 3
    go_wp2
    obtain ⟨r0, r1, r2, r3, KG⟩ := four HRO2.out (.slice none 0 0) (.slice none 0 0) (.string ⟨#[]⟩) (.int .i64 C)
    exact bodyPost_ret (v := .agg #[.slice none 0 0, .slice none 0 0, .string ⟨#[]⟩, .int .i64 C]) (by simp [results, Tryz.results36, go_sem, r0, r1, r2, r3]) rfl ⟨by rw [HE.out]; exact KOutIs.ill _ _ _, KG.toBelow HB2.out HB2.out.size (by simp)⟩
  subst hc
  obtain ⟨rfl, b, n, rfl, hbb, hm⟩ := H2.out rfl
  have hf0 := withC_for HCE.out.symm
  have HSMALL := hide (drop_small (d := d) hf0)
  obtain ⟨hRS, hOK, hlen⟩ := keptO_items (forC_ok hf0).2.1
  rw [← HLE.out] at HSMALL hRS hOK hlen
  obtain ⟨M, hM⟩ : ∃ M, M = delL L d := ⟨_, rfl⟩
  have HRM := hide (show Rises M by rw [hM]; exact delL_rises hRS d)
  have HOKM := hide (show ∀ x ∈ M, OkI x by rw [hM]; exact delL_ok hOK d)
  have HLM := hide (show M.length ≤ 20 by rw [hM]; have := delL_len (L := L) d; omega)
  have HE := hide (show o = kput xs ps (storeB M) a by rw [HOE.out, HGO.out, ← HCE.out, if_neg (by simp), ← HLE.out, hM])
  rw [← hM] at HSMALL
  have HDL := hide (show (datL L).del (keyD d) = datL M by rw [hM]; exact datL_del L d)
  have HMB := hide hbb
  have HMM := hide hm
  have HKY := hide (keyOf_mk d hdm)
  clear hf0 hRS hOK hlen hM hbb hm H1 H2
  go_wp2_with (at_delete; refine wpList_delete_own _ rfl _ _ 75 9 rfl 82 keyed Tryz.underlying75 keptR b n (datL L) rfl HMM.out _ (keyD d) rfl HKY.out ?_)
  intro Y hown hturn
  rw [HDL.out] at hown
  have HMY := hide (show MapIs Y b n M from hown)
  have HY0 := hide (HX0.out.grown hturn.grown HX0.out.size (fun g hg => by cases hg; exact HMB.out))
  have HBY := hide (HB0.out.trans (HY0.out.mono HB0.out.size))
  have HROY := hide (HRO.out.below HY0.out HRO.out.lt)
  have HRDY := hide (HRD.out.below HY0.out HRD.out.lt)
  have a0 : Y.cell? ⟨w.heap.size, 0, none⟩ = some (.slice p1 xs.length c1) := HRDY.out.cell 0
  have a1 : Y.cell? ⟨w.heap.size, 1, none⟩ = some (.slice p2 ps.length c2) := HRDY.out.cell 1
  clear hown hturn
  go_wp2_with fail
  refine (putStore_any (storeB M) (.map (some b)) _ _ xs ps a aF aR aU _ hn hn2 (by have := HSMALL.out; omega) (HR.out.below HBY.out (Nat.le_refl _)) (HP.out.below HBY.out (Nat.le_refl _)) (Stab.go HBY.out HS0.out) (Stab.go HBY.out HG.out)
    (fun w' hb' => storeText_own b n M w' (HMY.out.below hb' HMY.out.lt) HRM.out HOKM.out HLM.out)).mono ?_
  rw [← HE.out]
  rintro e Z ⟨⟨us, up, rfl, o1, o2, dd⟩, hb2⟩
  obtain ⟨s1, s2, s3, rfl⟩ := o1.isSlice
  obtain ⟨s4, s5, s6, rfl⟩ := o2.isSlice
  have hge : w.heap.size + 2 ≤ Y.heap.size := by have := HWS.out; have := HY0.out.size; omega
  have O1 := hide (o1.mono hge)
  have O2 := hide (o2.mono hge)
  have DD := hide dd
  have HZW := hide (HY0.out.trans (hb2.mono HY0.out.size))
  have HRZ := hide (HRO.out.below HZW.out HRO.out.lt)
  clear o1 o2 dd hge hb2 a0 a1
  have g0 : Z.cell? ⟨w.heap.size + 1, 0, none⟩ = some (.slice none 0 0) := HRZ.out.cell 0
  have h0 := HRZ.out.free 0
  have g1 : Z.cell? ⟨w.heap.size + 1, 1, none⟩ = some (.slice none 0 0) := HRZ.out.cell 1
  have h1 := HRZ.out.free 1
  have g2 : Z.cell? ⟨w.heap.size + 1, 2, none⟩ = some (.string ⟨#[]⟩) := HRZ.out.cell 2
  have h2 := HRZ.out.free 2
  have g3 : Z.cell? ⟨w.heap.size + 1, 3, none⟩ = some (.int .i64 0) := HRZ.out.cell 3
  have h3 := HRZ.out.free 3
  go_wp2
  obtain ⟨r0, r1, r2, r3, KG⟩ := four HRZ.out (.slice s1 s2 s3) (.slice s4 s5 s6) (.string o.t) (.int .i64 o.c)
  exact bodyPost_ret (v := .agg #[.slice s1 s2 s3, .slice s4 s5 s6, .string o.t, .int .i64 o.c]) (by simp [results, Tryz.results36, go_sem, r0, r1, r2, r3]) rfl (kendK HB0.out HZW.out HWS.out KG O1.out O2.out DD.out)
end Go.Proofs.YtbhdbkffejlfmaaGreatDoor
