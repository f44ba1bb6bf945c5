/- StoreRight, of the program and of the model. -/
import Derived.Test.YtnpbmaajgiapmaaGreatDoorXG40QReadT
import Derived.Test.YtnpbmaajgiapmaaGreatDoorXG37IRArea
import Derived.Test.YtnpbmaajgiapmaaGreatDoorXG42LAOutR
import Derived.Test.YtnpbmaajgiapmaaGreatDoorXG13Pend
import Derived.Test.YtnpbmaajgiapmaaGreatDoorXG14DiskEq
import Derived.Test.YtnpbmaajgiapmaaGreatDoorXG15Copy
import Derived.Deep.RegionHeld3
namespace Go.Proofs.YtnpbmaajgiapmaaGreatDoor
open Go.RowKit
theorem fieldAT (a b c d e : Value) (w : World) : (Instr.field 63 (.agg #[a, b, c, d, e]) 1).run Tryz.prog w = .ok c w := by kernel_rfl
theorem keptI_empty : keptI ⟨#[]⟩ = none := by
  unfold keptI
  rw [show St3.scan ⟨#[]⟩ 0 10 0 0 = (0, 0, 4) from St3.scan_short _ 0 9 0 0 (by decide)]
  rfl
theorem keptO_eq (xs : List ByteArray) (ps : List (Int × ByteArray)) : keptI (areaOut xs ps).t = keptO xs ps := by
  unfold keptO
  by_cases h : (areaOut xs ps).c = 0
  · rw [if_neg (by simp [h]), kept_same]
  · rw [if_pos h, areaOut_bad h]
    exact keptI_empty
theorem keptO_ok {xs : List ByteArray} {ps : List (Int × ByteArray)} {L : List Item} (h : keptO xs ps = some L) : Rises L ∧ (∀ x ∈ L, OkI x) ∧ L.length ≤ 12 := by
  unfold keptO at h
  split at h
  · cases h
  · obtain ⟨h1, h2, h3, _⟩ := keptS_ok h
    exact ⟨h1, h2, h3⟩
set_option maxHeartbeats 4000000 in
theorem readStore_any (vs vp : Value) (xs : List ByteArray) (ps : List (Int × ByteArray)) (aF aR aU : Addr) (w : World) (hn : xs.length ≤ 1048576) (hn2 : ps.length ≤ 1048576) (hr : Reads w vs xs) (hp : ReadsP w vp ps) (hS : Sents aF aR aU w) (hG : St3.Laid w) :
    Calls Tryz.prog 31 #[.agg #[vs, vp]] w fun e w' => RdM w.heap.size e w' (keptO xs ps) ∧ Below w.heap.size w w' := by
  have hb0 : Below w.heap.size w (w.alloc (.cells #[vs, vp] 30)) := (Below.refl _ _).alloc (Nat.le_refl _) _
  have HB0 := hide hb0
  have HR := hide (hr.below hb0 (Nat.le_refl _))
  have HP := hide (hp.below hb0 (Nat.le_refl _))
  have HS := hide hS
  have HG := hide hG
  have htz := areaOut_t xs ps
  have HKO := hide (keptO_eq xs ps)
  obtain ⟨Y, hY⟩ : ∃ Y, Y = areaOut xs ps := ⟨_, rfl⟩
  have HY := hide hY
  rw [← hY] at htz HKO
  obtain ⟨p1, c1, rfl, _⟩ := hr
  obtain ⟨p2, c2, rfl, _⟩ := hp
  clear hb0 hY hS hG
  obtain ⟨K, hK⟩ : ∃ K, K = keptO xs ps := ⟨_, rfl⟩
  rw [← hK] at HKO ⊢
  clear hK
  go_enter Tryz.func31, Tryz.ntmps31
  go_wp2_with fail
  refine (implARead_any _ _ xs ps aF aR aU _ hn hn2 HR.out HP.out (Stab.go HB0.out HS.out) (fun hok vs vp w'' hb' hr hp => readArea_any vs vp xs ps w'' hr hp hok (Stab.go hb' (Stab.go HB0.out HG.out)))).mono ?_
  rw [← HY.out]
  rintro e w1 ⟨⟨us, up, rfl, o1, o2, _⟩, hb1⟩
  obtain ⟨s1, s2, s3, rfl⟩ := o1.isSlice
  obtain ⟨s4, s5, s6, rfl⟩ := o2.isSlice
  have HB1 := hide (HB0.out.trans (hb1.mono HB0.out.size))
  have hfd := fieldAT (.slice s1 s2 s3) (.slice s4 s5 s6) (.string Y.t) (.int .i64 Y.g) (.int .i64 Y.c) w1
  have HT := hide (show Y.t.size ≤ 8000 by omega)
  clear hb1 o1 o2 htz
  go_wp2_with fail
  refine (readStoreText_any Y.t _ HT.out (Stab.go HB1.out HG.out)).mono ?_
  rw [HKO.out]
  rintro e w2 ⟨⟨v, err, rfl, h1, h2⟩, hb2⟩
  have HB2 := hide (HB1.out.trans (hb2.mono HB1.out.size))
  have H1 := hide h1
  have H2 := hide (show ∀ L, K = some L → err = .nilIface ∧ ∃ b n, v = .map (some b) ∧ w.heap.size ≤ b ∧ MapIs w2 b n L from fun L hL => by
    obtain ⟨g1, b, n, g2, g3, g4⟩ := h2 L hL
    exact ⟨g1, b, n, g2, Nat.le_trans HB1.out.size g3, g4⟩)
  clear hb2 h1 h2 hfd
  go_wp2
  go_ret2
  exact ⟨⟨_, _, rfl, H1.out, H2.out⟩, HB2.out⟩
set_option maxHeartbeats 4000000 in
theorem implStoreRight_any (vs vp : Value) (xs : List ByteArray) (ps : List (Int × ByteArray)) (aF aR aU : Addr) (w : World) (hn : xs.length ≤ 1048576) (hn2 : ps.length ≤ 1048576) (hr : Reads w vs xs) (hp : ReadsP w vp ps) (hS : Sents aF aR aU w) (hG : St3.Laid w) :
    Calls Tryz.prog 11 #[.agg #[vs, vp]] w fun e w' => e = .returned (.bool (keptO xs ps).isSome) ∧ Below w.heap.size w w' := by
  have hb0 : Below w.heap.size w (w.alloc (.cells #[vs, vp] 30)) := (Below.refl _ _).alloc (Nat.le_refl _) _
  have HB0 := hide hb0
  have HR := hide (hr.below hb0 (Nat.le_refl _))
  have HP := hide (hp.below hb0 (Nat.le_refl _))
  have HS := hide hS
  have HG := hide hG
  obtain ⟨p1, c1, rfl, _⟩ := hr
  obtain ⟨p2, c2, rfl, _⟩ := hp
  clear hb0 hS hG
  have HC := hide (readStore_any (.slice p1 xs.length c1) (.slice p2 ps.length c2) xs ps aF aR aU _ hn hn2 HR.out HP.out (Stab.go HB0.out HS.out) (Stab.go HB0.out HG.out))
  cases hk : keptO xs ps with
  | none =>
    rw [hk] at HC
    clear hk
    go_enter Tryz.func11, Tryz.ntmps11
    go_wp2_with fail
    refine HC.out.mono ?_
    rintro e w1 ⟨⟨v, err, rfl, h1, _⟩, hb1⟩
    obtain rfl := h1 rfl
    have HB1 := hide (HB0.out.trans (hb1.mono HB0.out.size))
    clear hb1 h1
    go_wp2
    go_ret
    exact ⟨rfl, HB1.out⟩
  | some L =>
    rw [hk] at HC
    clear hk
    go_enter Tryz.func11, Tryz.ntmps11
    go_wp2_with fail
    refine HC.out.mono ?_
    rintro e w1 ⟨⟨v, err, rfl, _, h2⟩, hb1⟩
    obtain ⟨rfl, b, n, rfl, _, _⟩ := h2 L rfl
    have HB1 := hide (HB0.out.trans (hb1.mono HB0.out.size))
    clear hb1 h2
    go_wp2
    go_ret
    exact ⟨rfl, HB1.out⟩
set_option maxHeartbeats 4000000 in
theorem specStoreRight_any (vs vp : Value) (xs : List ByteArray) (ps : List (Int × ByteArray)) (w : World) (hn : xs.length ≤ 1048576) (hn2 : ps.length ≤ 1048576) (hr : Reads w vs xs) (hp : ReadsP w vp ps) :
    Calls Tryz.prog 9 #[.agg #[vs, vp]] w fun e w' => e = .returned (.bool (keptO xs ps).isSome) ∧ Below w.heap.size w w' := by
  have hb0 : Below w.heap.size w (w.alloc (.cells #[vs, vp] 30)) := (Below.refl _ _).alloc (Nat.le_refl _) _
  have HB0 := hide hb0
  have HR := hide (hr.below hb0 (Nat.le_refl _))
  have HP := hide (hp.below hb0 (Nat.le_refl _))
  obtain ⟨p1, c1, rfl, _⟩ := hr
  obtain ⟨p2, c2, rfl, _⟩ := hp
  clear hb0
  obtain ⟨k, hk⟩ : ∃ k, k = (keptO xs ps).isSome := ⟨_, rfl⟩
  have HK := hide hk
  rw [← hk]
  clear hk
  go_enter Tryz.func9, Tryz.ntmps9
  go_wp2_with fail
  refine (l09Read_any _ _ xs ps _ hn hn2 HR.out HP.out).mono ?_
  unfold RdIs
  rw [← HK.out]
  rintro e w1 ⟨⟨v, rfl, _⟩, hb1⟩
  have HB1 := hide (HB0.out.trans (hb1.mono HB0.out.size))
  clear hb1
  go_wp2
  go_ret
  exact ⟨rfl, HB1.out⟩
end Go.Proofs.YtnpbmaajgiapmaaGreatDoor
/- The law of StoreRight. -/
namespace Go.Proofs.YtnpbmaajgiapmaaGreatDoor
open Go.RowKit

set_option maxRecDepth 100000 in
set_option maxHeartbeats 4000000 in
theorem lawStoreRight (w : World) (HI : ∀ (vs vp : Value) (xs : List ByteArray) (ps : List (Int × ByteArray)) (w' : World), Below w.heap.size w w' → xs.length ≤ 1048576 → ps.length ≤ 1048576 → Reads w' vs xs → ReadsP w' vp ps →
      Calls Tryz.prog 11 #[.agg #[vs, vp]] w' fun e w'' => e = .returned (.bool (keptO xs ps).isSome) ∧ Below w'.heap.size w' w'')
    (vs vp : Value) (xs : List ByteArray) (ps : List (Int × ByteArray)) (hr : Reads w vs xs) (hp : ReadsP w vp ps) :
    Calls Tryz.prog 3 #[.agg #[vs, vp]] w fun e w' => e = .returned (.bool true) ∧ Below w.heap.size w w' := by
  have hb0 : Below w.heap.size w (w.alloc (.cells #[vs, vp] 25)) := (Below.refl _ _).alloc (Nat.le_refl _) _
  have HR0 := hide (hr.below hb0 (Nat.le_refl _))
  have HP0 := hide (hp.below hb0 (Nat.le_refl _))
  have HB0 := hide hb0
  have HII := hide HI
  obtain ⟨p1, c1, rfl, hq⟩ := hr
  obtain ⟨p2, c2, rfl, hq2⟩ := hp
  have HN0 := hide (row_new w [.slice p1 xs.length c1, .slice p2 ps.length c2] 25)
  clear hb0 hq hq2 HI
  go_enter Tryz.func3, Tryz.ntmps3
  go_wp2_with fail
  refine (szDisk_any _ _ xs ps _ HR0.out HP0.out).mono ?_
  rintro e w1 ⟨r, rfl, hsm, hb1⟩
  have HB1 := hide (HB0.out.trans (hb1.mono HB0.out.size))
  rcases hsm with hneg | ⟨hpos, hsm⟩
  · clear hb1
    go_wp2
    go_ret
    exact ⟨rfl, HB1.out⟩
  have hneg : ¬ r < 0 := by omega
  have HR1 := hide (HR0.out.below hb1 (Nat.le_refl _))
  have HP1 := hide (HP0.out.below hb1 (Nat.le_refl _))
  have HN1 := hide (Row.after hb1 HN0.out)
  have a0 : w1.cell? ⟨w.heap.size, 0, none⟩ = some (.slice p1 xs.length c1) := HN1.out.cell 0
  have a1 : w1.cell? ⟨w.heap.size, 1, none⟩ = some (.slice p2 ps.length c2) := HN1.out.cell 1
  have HSM := hide hsm
  clear hb1 HR0 HP0 HN0 HB0 hsm
  go_wp2_with fail
  refine (toDisk_any _ _ xs ps _ HR1.out HP1.out HSM.out).mono ?_
  rintro e w2 ⟨us, up, rfl, o1, o2, dd, hb2⟩
  have HB2 := hide (HB1.out.trans (hb2.mono HB1.out.size))
  have HRu := hide o1.reads
  have HPu := hide o2.reads
  have HR2 := hide (HR1.out.below hb2 (Nat.le_refl _))
  have HP2 := hide (HP1.out.below hb2 (Nat.le_refl _))
  have HN2 := hide (Row.after hb2 HN1.out)
  obtain ⟨x1, x2, x3, x4⟩ := HSM.out
  clear o1 o2 dd hb2 HR1 HP1 HN1 HB1 x2 x4 a0 a1
  go_wp2_with fail
  refine (specStoreRight_any _ _ xs ps _ x1 x3 HRu.out HPu.out).mono ?_
  rintro e w3 ⟨rfl, hb3⟩
  have HB3 := hide (HB2.out.trans (hb3.mono HB2.out.size))
  have HR3 := hide (HR2.out.below hb3 (Nat.le_refl _))
  have HP3 := hide (HP2.out.below hb3 (Nat.le_refl _))
  have HN3 := hide (Row.after hb3 HN2.out)
  have a0 : w3.cell? ⟨w.heap.size, 0, none⟩ = some (.slice p1 xs.length c1) := HN3.out.cell 0
  have a1 : w3.cell? ⟨w.heap.size, 1, none⟩ = some (.slice p2 ps.length c2) := HN3.out.cell 1
  clear hb3 HR2 HP2 HN2 HB2 HRu HPu
  obtain ⟨b, Hb⟩ : ∃ b, Hid (b = (keptO xs ps).isSome) := ⟨_, rfl⟩
  rw [← Hb.out]
  go_wp2_with fail
  refine (toDisk_any _ _ xs ps _ HR3.out HP3.out HSM.out).mono ?_
  rintro e w4 ⟨us2, up2, rfl, o1, o2, dd, hb4⟩
  have HB4 := hide (HB3.out.trans (hb4.mono HB3.out.size))
  have HR4 := hide (HR3.out.below hb4 (Nat.le_refl _))
  have HP4 := hide (HP3.out.below hb4 (Nat.le_refl _))
  have HN4 := hide (Row.after hb4 HN3.out)
  have HRu := hide o1.reads
  have HPu := hide o2.reads
  obtain ⟨q1, m1, d1, rfl⟩ : ∃ p n c, us2 = .slice p n c := by obtain ⟨p, c, e, _⟩ := o1.reads; exact ⟨_, _, _, e⟩
  obtain ⟨q2, m2, d2, rfl⟩ : ∃ p n c, up2 = .slice p n c := by obtain ⟨p, c, e, _⟩ := o2.reads; exact ⟨_, _, _, e⟩
  clear o1 o2 dd hb4 HR3 HP3 HN3 HB3 a0 a1
  have b5 : Below w4.heap.size w4 (w4.alloc (.cells #[.slice q1 m1 d1, .slice q2 m2 d2] 30)) := (Below.refl _ _).alloc (Nat.le_refl _) _
  have HB5 := hide (HB4.out.trans (b5.mono HB4.out.size))
  have HR5 := hide (HR4.out.below b5 (Nat.le_refl _))
  have HP5 := hide (HP4.out.below b5 (Nat.le_refl _))
  have HN5 := hide (Row.after b5 HN4.out)
  have HRv := hide (HRu.out.below b5 (Nat.le_refl _))
  have HPv := hide (HPu.out.below b5 (Nat.le_refl _))
  have HG5 := hide (row_new w4 [.slice q1 m1 d1, .slice q2 m2 d2] 30)
  clear b5 HRu HPu HR4 HP4 HN4 HB4
  go_wp2_with fail
  refine (HII.out _ _ xs ps _ HB5.out x1 x3 HRv.out HPv.out).mono ?_
  rw [← Hb.out]
  rintro e w6 ⟨rfl, hb6⟩
  have HB6 := hide (HB5.out.trans (hb6.mono HB5.out.size))
  have HR6 := hide (HR5.out.below hb6 (Nat.le_refl _))
  have HP6 := hide (HP5.out.below hb6 (Nat.le_refl _))
  have HN6 := hide (Row.after hb6 HN5.out)
  have HG6 := hide (Row.after hb6 HG5.out)
  have HRx := hide (HRv.out.below hb6 (Nat.le_refl _))
  have HPx := hide (HPv.out.below hb6 (Nat.le_refl _))
  clear hb6 HR5 HP5 HN5 HG5 HRv HPv HB5 HII
  go_wp2_with fail
  have HSS := hide (show ∀ x, Below w6.heap.size w6 x → x.cell? ⟨w.heap.size, 0, none⟩ = some (.slice p1 xs.length c1) ∧ x.cell? ⟨w.heap.size, 1, none⟩ = some (.slice p2 ps.length c2) ∧ x.cell? ⟨w4.heap.size, 0, none⟩ = some (.slice q1 m1 d1) ∧ x.cell? ⟨w4.heap.size, 1, none⟩ = some (.slice q2 m2 d2) ∧ Below w6.heap.size w6 x from
    fun x h => ⟨(Row.after h HN6.out).cell 0, (Row.after h HN6.out).cell 1, (Row.after h HG6.out).cell 0, (Row.after h HG6.out).cell 1, h⟩)
  go_region_held3 (fun x => x.cell? ⟨w.heap.size, 0, none⟩ = some (.slice p1 xs.length c1) ∧ x.cell? ⟨w.heap.size, 1, none⟩ = some (.slice p2 ps.length c2) ∧ x.cell? ⟨w4.heap.size, 0, none⟩ = some (.slice q1 m1 d1) ∧ x.cell? ⟨w4.heap.size, 1, none⟩ = some (.slice q2 m2 d2) ∧ Below w6.heap.size w6 x)
    ((go_split_ands; refine HSS.out _ ?_; repeat (first | with_reducible assumption | with_reducible exact Below.refl _ _ | with_reducible refine Below.drew ?_)))
    ((first
      | (go_at_call 10; go_split_ands; refine (toDisk_any _ _ xs ps _ (HR6.out.below (by assumption) (Nat.le_refl _)) (HP6.out.below (by assumption) (Nat.le_refl _)) HSM.out).mono ?_; rintro e w7 ⟨us3, up3, rfl, o5, o6, d5, hb7⟩; have HRy := hide o5.reads; have HPy := hide o6.reads
         have hB7 : Below w6.heap.size w6 w7 := Below.trans (by assumption) (hb7.mono (Below.size (by assumption))); clear o5 o6 d5 hb7)
      | (go_at_call 12; go_split_ands; refine (eqDisk_same _ _ _ _ xs ps _ x1 x3 (HRx.out.below hB7 (Nat.le_refl _)) (HPx.out.below hB7 (Nat.le_refl _)) HRy.out HPy.out).mono ?_; rintro e w8 ⟨rfl, hb8⟩
         have hB8 : Below w6.heap.size w6 w8 := hB7.trans (hb8.mono hB7.size); clear hb8)))
  have HB8 := hide (HB6.out.trans (hB8.mono HB6.out.size))
  clear hB7 hB8
  go_wp2
  go_ret
  exact ⟨rfl, HB8.out⟩
theorem storeRightLaw (aF aR aU : Addr) (w : World) (hS : Sents aF aR aU w) (hG : St3.Laid w) (vs vp : Value) (xs : List ByteArray) (ps : List (Int × ByteArray)) (hr : Reads w vs xs) (hp : ReadsP w vp ps) :
    Calls Tryz.prog 3 #[.agg #[vs, vp]] w fun e w' => e = .returned (.bool true) ∧ Below w.heap.size w w' :=
  lawStoreRight w (fun vs vp xs ps w' hb h1 h2 h3 h4 => implStoreRight_any vs vp xs ps aF aR aU w' h1 h2 h3 h4 (Stab.go hb hS) (Stab.go hb hG)) vs vp xs ps hr hp
end Go.Proofs.YtnpbmaajgiapmaaGreatDoor
