/- DiskCrash, as the program does it. -/
import Derived.Test.YtdnbfnahhkmmnaaDoorIKept
import Derived.Test.YtdnbfnahhkmmnaaDoorApply
import Derived.Deep.RegionWith
namespace Go.Proofs.YtdnbfnahhkmmnaaDoor
open Go.RowKit

set_option maxHeartbeats 4000000 in
theorem implCrash_size (vs vp vk : Value) (xs : List ByteArray) (ps : List (Int × ByteArray)) (ks : List Int) (w : World) (hr : Reads w vs xs) (hp : ReadsP w vp ps) (hk : ReadsI w vk ks) (hz : 400 < ks.length) :
    Calls Tryd.prog 7 #[.agg #[vs, vp], vk] w fun e w' => DiskIs w.heap.size e w' [] [] ∧ Below w.heap.size w w' := by
  have HB0 := hide (show Below w.heap.size w ((w.alloc (.cells #[vs, vp] 26)).alloc (.cells #[.slice none 0 0, .slice none 0 0] 26)) from ((Below.refl _ _).alloc (Nat.le_refl _) _).alloc (by simp) _)
  obtain ⟨p1, c1, rfl, hq⟩ := hr
  obtain ⟨p2, c2, rfl, hq2⟩ := hp
  obtain ⟨p3, c3, rfl, h3, h4, hq3⟩ := hk
  unfold maxLen at h4
  have t1 : (400 : Int) < (ks.length : Int) := by omega
  clear hq hq2 hq3
  go_enter Tryd.func7, Tryd.ntmps7
  go_wp2
  exact bodyPost_ret (v := .agg #[.slice none 0 0, .slice none 0 0]) (by simp [results, Tryd.results7, go_sem]) rfl
    ⟨⟨_, _, rfl, OwnS.none _ _ _, OwnP.none _ _ _, fun _ h => by cases h⟩, HB0.out⟩

set_option maxRecDepth 100000 in
set_option maxHeartbeats 4000000 in
theorem implCrash_any (vs vp vk : Value) (xs : List ByteArray) (ps : List (Int × ByteArray)) (ks : List Int) (tF : TypeId) (uF : Value) (tR : TypeId) (uR : Value) (w : World) (hr : Reads w vs xs) (hp : ReadsP w vp ps) (hk : ReadsI w vk ks) (hs : Small xs ps)
    (hF : w.cell? ⟨1, 0, none⟩ = some (.iface tF uF)) (hR : w.cell? ⟨2, 0, none⟩ = some (.iface tR uR)) :
    Calls Tryd.prog 7 #[.agg #[vs, vp], vk] w fun e w' => DiskIs w.heap.size e w' (crashXs xs ps ks) (crashPs xs ps ks) ∧ Below w.heap.size w w' := by
  by_cases h4 : 400 < ks.length
  · rw [show crashXs xs ps ks = [] by unfold crashXs; rw [if_pos h4], show crashPs xs ps ks = [] by unfold crashPs; rw [if_pos h4]]
    exact implCrash_size vs vp vk xs ps ks w hr hp hk h4
  have hb0 : Below w.heap.size w ((w.alloc (.cells #[vs, vp] 26)).alloc (.cells #[.slice none 0 0, .slice none 0 0] 26)) :=
    ((Below.refl _ _).alloc (Nat.le_refl _) _).alloc (by simp) _
  have HR := hide (hr.below hb0 (Nat.le_refl _))
  have HP := hide (hp.below hb0 (Nat.le_refl _))
  have HK := hide (hk.below hb0 (Nat.le_refl _))
  have HSM := hide hs
  have HCF := hide (cell_old hb0 hF)
  have HCR := hide (cell_old hb0 hR)
  have HB0 := hide hb0
  obtain ⟨p1, c1, rfl, hq⟩ := hr
  obtain ⟨p2, c2, rfl, hq2⟩ := hp
  obtain ⟨p3, c3, rfl, h3a, h3b, hq3⟩ := hk
  have HN0 := hide ((row_new w [.slice p1 xs.length c1, .slice p2 ps.length c2] 26).alloc (.cells #[.slice none 0 0, .slice none 0 0] 26))
  have R1 := row_new (w.alloc (.cells #[.slice p1 xs.length c1, .slice p2 ps.length c2] 26)) [.slice none 0 0, .slice none 0 0] 26
  simp only [World.size_alloc] at R1
  have HR1 := hide R1
  have t1 : ¬ ((400 : Int) < (ks.length : Int)) := by omega
  obtain ⟨s1, s2, s3, s4⟩ := hs
  clear hb0 hq hq2 hq3 R1 hF hR s2 s4 h3a h3b
  cases hok : right xs ps with
  | false =>
    rw [show crashXs xs ps ks = xs by unfold crashXs; rw [if_neg h4, hok]; rfl, show crashPs xs ps ks = ps by unfold crashPs; rw [if_neg h4, hok]; rfl]
    go_enter Tryd.func7, Tryd.ntmps7
    go_wp2_with fail
    refine (implRight_any _ _ xs ps _ _ _ _ _ s1 s3 HR.out HP.out HCF.out HCR.out).mono ?_
    rw [hok]
    rintro e w1 ⟨rfl, hb1⟩
    have HB1 := hide (HB0.out.trans (hb1.mono HB0.out.size))
    have HX1 := hide (Row.after hb1 HR1.out)
    have a0 : w1.cell? ⟨w.heap.size, 0, none⟩ = some (.slice p1 xs.length c1) := (Row.after hb1 HN0.out).cell 0
    have a1 : w1.cell? ⟨w.heap.size, 1, none⟩ = some (.slice p2 ps.length c2) := (Row.after hb1 HN0.out).cell 1
    have HRa := hide (HR.out.below hb1 (Nat.le_refl _))
    have HPa := hide (HP.out.below hb1 (Nat.le_refl _))
    clear hb1
    go_wp2_with fail
    refine (copyDisk_any _ _ xs ps _ HRa.out HPa.out HSM.out).mono ?_
    rintro e w3 ⟨⟨us, up, rfl, o1, o2, dd⟩, hb3⟩
    obtain ⟨q1, m1, d1, rfl⟩ := o1.isSlice
    obtain ⟨q2, m2, d2, rfl⟩ := o2.isSlice
    have hl2 := HX1.out.lt
    have HB3 := hide (HB1.out.trans (hb3.mono HB1.out.size))
    have R3 := Row.after hb3 HX1.out
    have c0 : w3.cell? ⟨w.heap.size + 1, 0, none⟩ = some (.slice none 0 0) := R3.cell 0
    have c1' : w3.cell? ⟨w.heap.size + 1, 1, none⟩ = some (.slice none 0 0) := R3.cell 1
    have f0 := R3.free 0
    have f1 := R3.free 1
    have HR3 := hide R3
    have HO1 := hide o1
    have HO2 := hide o2
    have HD := hide dd
    clear hb3 R3 o1 o2 dd a0 a1
    go_wp2
    obtain ⟨z0, z1, KF⟩ := two HR3.out (.slice q1 m1 d1) (.slice q2 m2 d2)
    exact bodyPost_ret (v := .agg #[.slice q1 m1 d1, .slice q2 m2 d2]) (by simp [results, Tryd.results7, go_sem, z0, z1]) rfl
      ⟨⟨_, _, rfl, (HO1.out.kept KF (fun x hx => by have := HO1.out.leads x hx; simp; omega)).mono (by omega), (HO2.out.kept KF (fun x hx => by have := HO2.out.leads x hx; simp; omega)).mono (by omega), HD.out⟩, KF.toBelow HB3.out HB3.out.size (by simp)⟩
  | true =>
    obtain ⟨l1, l2, l3⟩ := right_len hok
    have HAT := hide (show ∀ j (hj : j < (keptOf ks ps).length), 0 ≤ ((keptOf ks ps)[j]'hj).1 ∧ ((keptOf ks ps)[j]'hj).1 ≤ (xs.length : Int) - 1 from fun j hj => by
      obtain ⟨i, hi, e⟩ := List.getElem_of_mem (keptOf_mem ks ps _ (List.getElem_mem hj))
      rw [← e]
      exact ⟨(right_at hok i hi).1, (right_at hok i hi).2.1⟩)
    have HKL := hide (Nat.le_trans (keptOf_len ks ps) l3)
    have HMM := hide (applyP_mem (keptOf ks ps) xs 1048576 HSM.out.2.1 (fun x hx => HSM.out.2.2.2 x (keptOf_mem ks ps x hx)))
    rw [show crashXs xs ps ks = applyP (keptOf ks ps) xs by unfold crashXs; rw [if_neg h4, hok, if_pos rfl, applyK_kept], show crashPs xs ps ks = [] by unfold crashPs; rw [if_neg h4, hok]; rfl]
    go_enter Tryd.func7, Tryd.ntmps7
    go_wp2_with fail
    refine (implRight_any _ _ xs ps _ _ _ _ _ s1 s3 HR.out HP.out HCF.out HCR.out).mono ?_
    rw [hok]
    rintro e w1 ⟨rfl, hb1⟩
    have HB1 := hide (HB0.out.trans (hb1.mono HB0.out.size))
    have HX1 := hide (Row.after hb1 HR1.out)
    have HM1 := hide (Row.after hb1 HN0.out)
    have a0 : w1.cell? ⟨w.heap.size, 0, none⟩ = some (.slice p1 xs.length c1) := HM1.out.cell 0
    have a1 : w1.cell? ⟨w.heap.size, 1, none⟩ = some (.slice p2 ps.length c2) := HM1.out.cell 1
    have hbd := hb1.drew
    have HRd := hide (HR.out.below hbd (Nat.le_refl _))
    have HPd := hide (HP.out.below hbd (Nat.le_refl _))
    have HKd := hide (HK.out.below hbd (Nat.le_refl _))
    clear hb1 hbd
    go_wp2_with fail
    go_region_with (first
      | (go_at_call 33; refine (keptPending_any _ _ ps ks _ HPd.out HKd.out l3 (by omega)).mono ?_; rintro e w2 ⟨⟨up, rfl, o1⟩, hb2⟩; obtain ⟨q1, m1, d1, rfl⟩ := o1.isSlice; have HU := hide o1; have a2 : w2.cell? ⟨w.heap.size, 0, none⟩ = some (.slice p1 xs.length c1) := (Row.after hb2 HM1.out).cell 0; have HR2 := hide (HRd.out.below hb2 (Nat.le_refl _)); clear o1)
      | (go_at_call 32; refine (settle_any _ _ xs (keptOf ks ps) _ HR2.out HU.out.reads l1 l2 HKL.out HAT.out).mono ?_; rintro e w3 ⟨rfl, hb3⟩)
      | (go_at_call 34; refine (bankDisk_any (applyP (keptOf ks ps) xs) _ (by rw [applyP_len]; exact l2) HMM.out).mono ?_; rintro e w4 ⟨⟨us, up', rfl, o1, o2, dd⟩, hb4⟩; obtain ⟨q2, m2, d2, rfl⟩ := o1.isSlice; obtain ⟨q3, m3, d3, rfl⟩ := o2.isSlice; have R4 := Row.after hb4 (Row.after hb3 (Row.after hb2 HX1.out)); have c0 : w4.cell? ⟨w.heap.size + 1, 0, none⟩ = some (.slice none 0 0) := R4.cell 0; have c1' : w4.cell? ⟨w.heap.size + 1, 1, none⟩ = some (.slice none 0 0) := R4.cell 1; have f0 := R4.free 0; have f1 := R4.free 1; have HR4 := hide R4; have HO1 := hide o1; have HO2 := hide o2; have HD := hide dd; clear R4 o1 o2 dd))
    all_goals
      go_wp2
      have hl1 := HX1.out.lt
      have B2 := HB1.out.trans ((below_drew hb2).mono HB1.out.size)
      have B3 := B2.trans (hb3.mono B2.size)
      have B4 := B3.trans (hb4.mono B3.size)
      have S2 := (below_drew hb2).size
      have S3 := hb3.size
      obtain ⟨z0, z1, KF⟩ := two HR4.out (.slice q2 m2 d2) (.slice q3 m3 d3)
      exact bodyPost_ret (v := .agg #[.slice q2 m2 d2, .slice q3 m3 d3]) (by simp [results, Tryd.results7, go_sem, z0, z1]) rfl
        ⟨⟨_, _, rfl, (HO1.out.kept KF (fun x hx => by have := HO1.out.leads x hx; simp; omega)).mono B3.size, (HO2.out.kept KF (fun x hx => by have := HO2.out.leads x hx; simp; omega)).mono B3.size, HD.out⟩, KF.toBelow B4 B4.size (by simp)⟩
end Go.Proofs.YtdnbfnahhkmmnaaDoor
