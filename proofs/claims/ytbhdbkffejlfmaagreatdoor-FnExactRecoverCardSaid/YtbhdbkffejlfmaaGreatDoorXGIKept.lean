/- What is kept of the pending things, and DiskCrash, as the program does them. -/
import Derived.Test.YtbhdbkffejlfmaaGreatDoorXGIBank
import Derived.Test.YtbhdbkffejlfmaaGreatDoorXGSCrash
import Derived.Test.YtbhdbkffejlfmaaGreatDoorXGIFit
import Derived.Test.YtbhdbkffejlfmaaGreatDoorXGSCopy
import Derived.Deep.RegionWith
namespace Go.Proofs.YtbhdbkffejlfmaaGreatDoor
open Go.RowKit

/-- What is kept of ps. -/
def keptOf : List Int → List (Int × ByteArray) → List (Int × ByteArray)
  | _, [] => []
  | ks, x :: r => (if 0 < ks.getD 0 0 then [x] else []) ++ keptOf (ks.drop 1) r
theorem keptOf_step (ks : List Int) (ps : List (Int × ByteArray)) (k : Nat) (h : k < ps.length) :
    keptOf (ks.drop k) (ps.drop k) = (if 0 < ks.getD k 0 then [ps[k]'h] else []) ++ keptOf (ks.drop (k + 1)) (ps.drop (k + 1)) := by
  rw [List.drop_eq_getElem_cons h, keptOf, List.drop_drop]
  simp
theorem keptOf_mem : ∀ (ks : List Int) (ps : List (Int × ByteArray)) (x : Int × ByteArray), x ∈ keptOf ks ps → x ∈ ps
  | _, [], _, h => h
  | ks, y :: r, x, h => by
    rw [keptOf] at h
    rcases List.mem_append.1 h with h | h
    · split at h
      · rw [List.mem_singleton.1 h]; exact List.mem_cons_self ..
      · cases h
    · exact List.mem_cons_of_mem _ (keptOf_mem _ r x h)
theorem keptOf_len : ∀ (ks : List Int) (ps : List (Int × ByteArray)), (keptOf ks ps).length ≤ ps.length
  | _, [] => Nat.le_refl _
  | ks, y :: r => by
    rw [keptOf, List.length_append]
    have := keptOf_len (ks.drop 1) r
    split
    · simp only [List.length_cons, List.length_nil]; omega
    · simp only [List.length_cons, List.length_nil]; omega
theorem applyP_append : ∀ (a b : List (Int × ByteArray)) (xs : List ByteArray), applyP (a ++ b) xs = applyP b (applyP a xs)
  | [], _, _ => rfl
  | x :: r, b, xs => by rw [List.cons_append, applyP, applyP_append r b, applyP]
theorem applyK_kept : ∀ (ks : List Int) (ps : List (Int × ByteArray)) (xs : List ByteArray), applyK ks ps xs = applyP (keptOf ks ps) xs
  | _, [], _ => rfl
  | ks, x :: r, xs => by
    rw [applyK, keptOf, applyP_append, applyK_kept (ks.drop 1) r]
    congr 1
    split <;> rfl

set_option maxRecDepth 100000 in
set_option maxHeartbeats 4000000 in
theorem keptPending_any (vp vk : Value) (ps : List (Int × ByteArray)) (ks : List Int) (w : World) (hp : ReadsP w vp ps) (hk : ReadsI w vk ks) (hn : ps.length ≤ 200) (hn2 : ks.length ≤ 400) :
    Calls Tryz.prog 62 #[vp, vk] w fun e w' => (∃ up, e = .returned up ∧ OwnP 73 w.heap.size w' up (keptOf ks ps)) ∧ Below w.heap.size w w' := by
  obtain ⟨j0, hj, hy0, hy1, hy2⟩ := info_parts Tryz.infoPend
  have hzp : (Value.agg #[.int .i64 0, .string ⟨#[]⟩]).cells.size = 2 := by simp [Value.cells]
  have HP := hide hp
  have HK := hide hk
  obtain ⟨p2, c2, rfl, h2r⟩ := hp
  obtain ⟨p3, c3, rfl, h3r⟩ := hk
  clear h2r h3r
  go_enter Tryz.func62, Tryz.ntmps62
  go_wp2_with fail
  go_loopw [5, 10] (fun v i wr => ∃ (k : Nat) (qs : List (Int × ByteArray)), k ≤ ps.length ∧ i = .int .i64 k ∧ qs.length ≤ k ∧ Hid (keptOf ks ps = qs ++ keptOf (ks.drop k) (ps.drop k)) ∧ Hid (OwnP 73 w.heap.size wr v qs) ∧ Hid (qs = [] → v = .slice none 0 0) ∧ Hid (Below w.heap.size w wr)) (fun _ i _ => ps.length - (intOf i).toNat)
  case atStart => exact ⟨0, [], Nat.zero_le _, rfl, Nat.le_refl _, rfl, OwnP.none _ _ _, fun _ => rfl, Below.refl _ _⟩
  case round =>
    obtain ⟨k, qs, hk, rfl, hql, HA, HO, HE, HB⟩ := hrel
    obtain ⟨q1, m1, d1, rfl⟩ := HO.out.isSlice
    by_cases hlt : k < ps.length
    · obtain ⟨g, off, hp, hg, hc⟩ : ∃ g off, p2 = some ⟨g, off, none⟩ ∧ _ := by
        obtain ⟨p, cap, he, _, _, _, h4⟩ := HP.out
        cases he
        exact h4 (by omega)
      subst hp
      obtain ⟨hc0, hc1⟩ := hc k hlt
      have hk0 := (HB.out.cell (p := ⟨g, off + k * 2, none⟩) hg).trans hc0
      have hk1 := (HB.out.cell (p := ⟨g, off + k * 2 + 1, none⟩) hg).trans hc1
      have hki : (k : Int) < (ps.length : Int) := by omega
      have HST := hide (keptOf_step ks ps k hlt)
      have hsz : (ps[k]'hlt).2.size ≤ maxLen := by obtain ⟨p, cap, he, _, _, h3, _⟩ := HP.out; exact h3 _ (List.getElem_mem hlt)
      obtain ⟨A, hA⟩ : ∃ A, A = (ps[k]'hlt).1 := ⟨_, rfl⟩
      obtain ⟨D, hD⟩ : ∃ D, D = (ps[k]'hlt).2 := ⟨_, rfl⟩
      have HAD := hide (show ps[k]'hlt = (A, D) by rw [hA, hD])
      rw [← hA] at hk0
      rw [← hD] at hk1 hsz
      rw [HAD.out] at HST
      have bn := below_new wr (.cells #[.int .i64 A, .string D] 73)
      have HPn := hide (row_new wr [.int .i64 A, .string D] 73)
      have HBn := hide (HB.out.trans (bn.mono HB.out.size))
      have HOn := hide (HO.out.below bn (Nat.le_refl _))
      have HSZ := hide hsz
      clear hA hD hc hc0 hc1 bn hsz hg
      by_cases hkk : k < ks.length ∧ 0 < ks.getD k 0
      · obtain ⟨g3, o3, rfl, hg3, hc3⟩ : ∃ g off, p3 = some ⟨g, off, none⟩ ∧ _ := by
          obtain ⟨p, cap, he, _, _, h4⟩ := HK.out
          cases he
          exact h4 (by omega)
        have hck := (HBn.out.cell (p := ⟨g3, o3 + k, none⟩) hg3).trans (hc3 k hkk.1)
        have e1 : ks.getD k 0 = ks[k]'hkk.1 := by simp [List.getD, hkk.1]
        have tpos : 0 < ks[k]'hkk.1 := by rw [← e1]; exact hkk.2
        obtain ⟨z, hz⟩ : ∃ z, z = ks[k]'hkk.1 := ⟨_, rfl⟩
        rw [← hz] at hck tpos
        have HU := hide (show keptOf ks ps = (qs ++ [(A, D)]) ++ keptOf (ks.drop (k + 1)) (ps.drop (k + 1)) by rw [HA.out, HST.out, if_pos hkk.2, List.append_assoc])
        have tk : (k : Int) < (ks.length : Int) := by omega
        have bx := below_new (wr.alloc (.cells #[.int .i64 A, .string D] 73)) (.cells #[.int .i64 A, .string D] 73)
        have HOX := hide (HOn.out.below bx (Nat.le_refl _))
        have HBX := hide (HBn.out.trans (bx.mono HBn.out.size))
        have RX := row_new (wr.alloc (.cells #[.int .i64 A, .string D] 73)) [.int .i64 A, .string D] 73
        simp only [World.size_alloc] at RX
        have HRX := hide RX
        clear hz e1 hc3 hg3 hkk bx RX
        go_wp2_with (at_builtin; refine wpList_pushQ _ rfl _ _ 27 rfl w.heap.size 73 j0 (.agg #[.int .i64 0, .string ⟨#[]⟩]) Tryz.underlying27 hj hy0 hy1 hy2 hzp (.slice q1 m1 d1) rfl qs HOX.out HE.out (by omega) HBX.out.size A D HSZ.out (wr.heap.size + 1) 1 rfl HRX.out ?_
                     intro q3 d3 w4 ho3 hk3 hl3
                     have HO3 := hide ho3
                     have HB4 := hide (hk3.toBelow HBX.out HBX.out.size (fun x hx => (HO.out.leads x hx).1))
                     clear ho3 hk3 hl3)
        go_roundw
        case rel => exact ⟨k + 1, qs ++ [(A, D)], by omega, by go_num, by simp; omega, HU, by simpa using HO3, hide (fun h => by simp at h), HB4⟩
        case measure => simp [intOf]; omega
      · have HU := hide (show keptOf ks ps = qs ++ keptOf (ks.drop (k + 1)) (ps.drop (k + 1)) by
          rw [HA.out, HST.out, if_neg (fun h => hkk ⟨by
            rcases Nat.lt_or_ge k ks.length with h' | h'
            · exact h'
            · simp [List.getD, List.getElem?_eq_none h'] at h, h⟩), List.nil_append])
        by_cases hlk : k < ks.length
        · obtain ⟨g3, o3, rfl, hg3, hc3⟩ : ∃ g off, p3 = some ⟨g, off, none⟩ ∧ _ := by
            obtain ⟨p, cap, he, _, _, h4⟩ := HK.out
            cases he
            exact h4 (by omega)
          have hck := (HBn.out.cell (p := ⟨g3, o3 + k, none⟩) hg3).trans (hc3 k hlk)
          have tneg : ¬ 0 < ks[k]'hlk := fun h => hkk ⟨hlk, by simpa [List.getD, hlk] using h⟩
          obtain ⟨z, hz⟩ : ∃ z, z = ks[k]'hlk := ⟨_, rfl⟩
          rw [← hz] at hck tneg
          have tk : (k : Int) < (ks.length : Int) := by omega
          clear hz hc3 hg3 hkk
          go_wp2
          go_roundw
          case rel => exact ⟨k + 1, qs, by omega, by go_num, by omega, HU, HOn, HE, HBn⟩
          case measure => simp [intOf]; omega
        · have tk : decide ((k : Int) < (ks.length : Int)) = false := decide_eq_false (by omega)
          clear hkk
          go_wp2
          go_roundw
          case rel => exact ⟨k + 1, qs, by omega, by go_num, by omega, HU, HOn, HE, HBn⟩
          case measure => simp [intOf]; omega
    · have HF := hide (show keptOf ks ps = qs by
        have e : ps.drop k = [] := List.drop_eq_nil_of_le (by omega)
        rw [HA.out, e]; simp [keptOf])
      go_wp2
      go_ret
      exact ⟨⟨_, rfl, by rw [HF.out]; exact HO.out⟩, HB.out⟩
end Go.Proofs.YtbhdbkffejlfmaaGreatDoor

/- DiskCrash, as the program does it. -/
namespace Go.Proofs.YtbhdbkffejlfmaaGreatDoor
open Go.RowKit

set_option maxHeartbeats 4000000 in
theorem implCrash_size (vs vp vk : Value) (xs : List ByteArray) (ps : List (Int × ByteArray)) (ks : List Int) (w : World) (hr : Reads w vs xs) (hp : ReadsP w vp ps) (hk : ReadsI w vk ks) (hz : 400 < ks.length) :
    Calls Tryz.prog 41 #[.agg #[vs, vp], vk] w fun e w' => DiskIs w.heap.size e w' [] [] ∧ Below w.heap.size w w' := by
  have HB0 := hide (show Below w.heap.size w ((w.alloc (.cells #[vs, vp] 29)).alloc (.cells #[.slice none 0 0, .slice none 0 0] 29)) from ((Below.refl _ _).alloc (Nat.le_refl _) _).alloc (by simp) _)
  obtain ⟨p1, c1, rfl, hq⟩ := hr
  obtain ⟨p2, c2, rfl, hq2⟩ := hp
  obtain ⟨p3, c3, rfl, h3, h4, hq3⟩ := hk
  unfold maxLen at h4
  have t1 : (400 : Int) < (ks.length : Int) := by omega
  clear hq hq2 hq3
  go_enter Tryz.func41, Tryz.ntmps41
  go_wp2
  exact bodyPost_ret (v := .agg #[.slice none 0 0, .slice none 0 0]) (by simp [results, Tryz.results41, go_sem]) rfl
    ⟨⟨_, _, rfl, OwnS.none _ _ _, OwnP.none _ _ _, fun _ h => by cases h⟩, HB0.out⟩

set_option maxRecDepth 100000 in
set_option maxHeartbeats 4000000 in
theorem implCrash_any (vs vp vk : Value) (xs : List ByteArray) (ps : List (Int × ByteArray)) (ks : List Int) (tF : TypeId) (uF : Value) (tR : TypeId) (uR : Value) (w : World) (hr : Reads w vs xs) (hp : ReadsP w vp ps) (hk : ReadsI w vk ks) (hs : Small xs ps)
    (hF : w.cell? ⟨0, 0, none⟩ = some (.iface tF uF)) (hR : w.cell? ⟨2, 0, none⟩ = some (.iface tR uR)) :
    Calls Tryz.prog 41 #[.agg #[vs, vp], vk] w fun e w' => DiskIs w.heap.size e w' (crashXs xs ps ks) (crashPs xs ps ks) ∧ Below w.heap.size w w' := by
  by_cases h4 : 400 < ks.length
  · rw [show crashXs xs ps ks = [] by unfold crashXs; rw [if_pos h4], show crashPs xs ps ks = [] by unfold crashPs; rw [if_pos h4]]
    exact implCrash_size vs vp vk xs ps ks w hr hp hk h4
  have hb0 : Below w.heap.size w ((w.alloc (.cells #[vs, vp] 29)).alloc (.cells #[.slice none 0 0, .slice none 0 0] 29)) :=
    ((Below.refl _ _).alloc (Nat.le_refl _) _).alloc (by simp) _
  have HR := hide (hr.below hb0 (Nat.le_refl _))
  have HP := hide (hp.below hb0 (Nat.le_refl _))
  have HK := hide (hk.below hb0 (Nat.le_refl _))
  have HSM := hide hs
  have HCF := hide (cell_old hb0 hF)
  have HCR := hide (cell_old hb0 hR)
  have HB0 := hide hb0
  obtain ⟨p1, c1, rfl, hq⟩ := hr
  obtain ⟨p2, c2, rfl, hq2⟩ := hp
  obtain ⟨p3, c3, rfl, h3a, h3b, hq3⟩ := hk
  have HN0 := hide ((row_new w [.slice p1 xs.length c1, .slice p2 ps.length c2] 29).alloc (.cells #[.slice none 0 0, .slice none 0 0] 29))
  have R1 := row_new (w.alloc (.cells #[.slice p1 xs.length c1, .slice p2 ps.length c2] 29)) [.slice none 0 0, .slice none 0 0] 29
  simp only [World.size_alloc] at R1
  have HR1 := hide R1
  have t1 : ¬ ((400 : Int) < (ks.length : Int)) := by omega
  obtain ⟨s1, s2, s3, s4⟩ := hs
  clear hb0 hq hq2 hq3 R1 hF hR s2 s4 h3a h3b
  cases hok : right xs ps with
  | false =>
    rw [show crashXs xs ps ks = xs by unfold crashXs; rw [if_neg h4, hok]; rfl, show crashPs xs ps ks = ps by unfold crashPs; rw [if_neg h4, hok]; rfl]
    go_enter Tryz.func41, Tryz.ntmps41
    go_wp2_with fail
    refine (implRight_any _ _ xs ps _ _ _ _ _ s1 s3 HR.out HP.out HCF.out HCR.out).mono ?_
    rw [hok]
    rintro e w1 ⟨rfl, hb1⟩
    have HB1 := hide (HB0.out.trans (hb1.mono HB0.out.size))
    have HX1 := hide (Row.after hb1 HR1.out)
    have a0 : w1.cell? ⟨w.heap.size, 0, none⟩ = some (.slice p1 xs.length c1) := (Row.after hb1 HN0.out).cell 0
    have a1 : w1.cell? ⟨w.heap.size, 1, none⟩ = some (.slice p2 ps.length c2) := (Row.after hb1 HN0.out).cell 1
    have HRa := hide (HR.out.below hb1 (Nat.le_refl _))
    have HPa := hide (HP.out.below hb1 (Nat.le_refl _))
    clear hb1
    go_wp2_with fail
    refine (copyDisk_any _ _ xs ps _ HRa.out HPa.out HSM.out).mono ?_
    rintro e w3 ⟨⟨us, up, rfl, o1, o2, dd⟩, hb3⟩
    obtain ⟨q1, m1, d1, rfl⟩ := o1.isSlice
    obtain ⟨q2, m2, d2, rfl⟩ := o2.isSlice
    have hl2 := HX1.out.lt
    have HB3 := hide (HB1.out.trans (hb3.mono HB1.out.size))
    have R3 := Row.after hb3 HX1.out
    have c0 : w3.cell? ⟨w.heap.size + 1, 0, none⟩ = some (.slice none 0 0) := R3.cell 0
    have c1' : w3.cell? ⟨w.heap.size + 1, 1, none⟩ = some (.slice none 0 0) := R3.cell 1
    have f0 := R3.free 0
    have f1 := R3.free 1
    have HR3 := hide R3
    have HO1 := hide o1
    have HO2 := hide o2
    have HD := hide dd
    clear hb3 R3 o1 o2 dd a0 a1
    go_wp2
    obtain ⟨z0, z1, KF⟩ := two HR3.out (.slice q1 m1 d1) (.slice q2 m2 d2)
    exact bodyPost_ret (v := .agg #[.slice q1 m1 d1, .slice q2 m2 d2]) (by simp [results, Tryz.results41, go_sem, z0, z1]) rfl
      ⟨⟨_, _, rfl, (HO1.out.kept KF (fun x hx => by have := HO1.out.leads x hx; simp; omega)).mono (by omega), (HO2.out.kept KF (fun x hx => by have := HO2.out.leads x hx; simp; omega)).mono (by omega), HD.out⟩, KF.toBelow HB3.out HB3.out.size (by simp)⟩
  | true =>
    obtain ⟨l1, l2, l3⟩ := right_len hok
    have HAT := hide (show ∀ j (hj : j < (keptOf ks ps).length), 0 ≤ ((keptOf ks ps)[j]'hj).1 ∧ ((keptOf ks ps)[j]'hj).1 ≤ (xs.length : Int) - 1 from fun j hj => by
      obtain ⟨i, hi, e⟩ := List.getElem_of_mem (keptOf_mem ks ps _ (List.getElem_mem hj))
      rw [← e]
      exact ⟨(right_at hok i hi).1, (right_at hok i hi).2.1⟩)
    have HKL := hide (Nat.le_trans (keptOf_len ks ps) l3)
    have HMM := hide (applyP_mem (keptOf ks ps) xs 1048576 HSM.out.2.1 (fun x hx => HSM.out.2.2.2 x (keptOf_mem ks ps x hx)))
    rw [show crashXs xs ps ks = applyP (keptOf ks ps) xs by unfold crashXs; rw [if_neg h4, hok, if_pos rfl, applyK_kept], show crashPs xs ps ks = [] by unfold crashPs; rw [if_neg h4, hok]; rfl]
    go_enter Tryz.func41, Tryz.ntmps41
    go_wp2_with fail
    refine (implRight_any _ _ xs ps _ _ _ _ _ s1 s3 HR.out HP.out HCF.out HCR.out).mono ?_
    rw [hok]
    rintro e w1 ⟨rfl, hb1⟩
    have HB1 := hide (HB0.out.trans (hb1.mono HB0.out.size))
    have HX1 := hide (Row.after hb1 HR1.out)
    have HM1 := hide (Row.after hb1 HN0.out)
    have a0 : w1.cell? ⟨w.heap.size, 0, none⟩ = some (.slice p1 xs.length c1) := HM1.out.cell 0
    have a1 : w1.cell? ⟨w.heap.size, 1, none⟩ = some (.slice p2 ps.length c2) := HM1.out.cell 1
    have hbd := hb1.drew
    have HRd := hide (HR.out.below hbd (Nat.le_refl _))
    have HPd := hide (HP.out.below hbd (Nat.le_refl _))
    have HKd := hide (HK.out.below hbd (Nat.le_refl _))
    clear hb1 hbd
    go_wp2_with fail
    go_region_with (first
      | (go_at_call 62; refine (keptPending_any _ _ ps ks _ HPd.out HKd.out l3 (by omega)).mono ?_; rintro e w2 ⟨⟨up, rfl, o1⟩, hb2⟩; obtain ⟨q1, m1, d1, rfl⟩ := o1.isSlice; have HU := hide o1; have a2 : w2.cell? ⟨w.heap.size, 0, none⟩ = some (.slice p1 xs.length c1) := (Row.after hb2 HM1.out).cell 0; have HR2 := hide (HRd.out.below hb2 (Nat.le_refl _)); clear o1)
      | (go_at_call 61; refine (settle_any _ _ xs (keptOf ks ps) _ HR2.out HU.out.reads l1 l2 HKL.out HAT.out).mono ?_; rintro e w3 ⟨rfl, hb3⟩)
      | (go_at_call 63; refine (bankDisk_any (applyP (keptOf ks ps) xs) _ (by rw [applyP_len]; exact l2) HMM.out).mono ?_; rintro e w4 ⟨⟨us, up', rfl, o1, o2, dd⟩, hb4⟩; obtain ⟨q2, m2, d2, rfl⟩ := o1.isSlice; obtain ⟨q3, m3, d3, rfl⟩ := o2.isSlice; have R4 := Row.after hb4 (Row.after hb3 (Row.after hb2 HX1.out)); have c0 : w4.cell? ⟨w.heap.size + 1, 0, none⟩ = some (.slice none 0 0) := R4.cell 0; have c1' : w4.cell? ⟨w.heap.size + 1, 1, none⟩ = some (.slice none 0 0) := R4.cell 1; have f0 := R4.free 0; have f1 := R4.free 1; have HR4 := hide R4; have HO1 := hide o1; have HO2 := hide o2; have HD := hide dd; clear R4 o1 o2 dd))
    all_goals
      go_wp2
      have hl1 := HX1.out.lt
      have B2 := HB1.out.trans ((below_drew hb2).mono HB1.out.size)
      have B3 := B2.trans (hb3.mono B2.size)
      have B4 := B3.trans (hb4.mono B3.size)
      have S2 := (below_drew hb2).size
      have S3 := hb3.size
      obtain ⟨z0, z1, KF⟩ := two HR4.out (.slice q2 m2 d2) (.slice q3 m3 d3)
      exact bodyPost_ret (v := .agg #[.slice q2 m2 d2, .slice q3 m3 d3]) (by simp [results, Tryz.results41, go_sem, z0, z1]) rfl
        ⟨⟨_, _, rfl, (HO1.out.kept KF (fun x hx => by have := HO1.out.leads x hx; simp; omega)).mono B3.size, (HO2.out.kept KF (fun x hx => by have := HO2.out.leads x hx; simp; omega)).mono B3.size, HD.out⟩, KF.toBelow B4 B4.size (by simp)⟩
end Go.Proofs.YtbhdbkffejlfmaaGreatDoor
