/- DiskCrash, as the specification does it. -/
import Derived.Test.YtbhdbkffejlfmaaGreatDoorXGSCopy
namespace Go.Proofs.YtbhdbkffejlfmaaGreatDoor
open Go.RowKit

/-- The slice v reads as the numbers ks. -/
def ReadsI (w : World) (v : Value) (ks : List Int) : Prop :=
  ∃ p cap, v = .slice p ks.length cap ∧ ks.length ≤ cap ∧ cap ≤ maxLen ∧
    (0 < ks.length → ∃ g off, p = some ⟨g, off, none⟩ ∧ g < w.heap.size ∧ ∀ i (h : i < ks.length), w.cell? ⟨g, off + i, none⟩ = some (.int .i64 ks[i]))
theorem Kept.readsI {S : List Nat} {w w' : World} {v : Value} {ks : List Int} (h : Kept S w w') (hr : ReadsI w v ks) (hn : ∀ x ∈ leads v, x ∉ S) : ReadsI w' v ks := by
  obtain ⟨p, cap, rfl, h1, h2, h4⟩ := hr
  refine ⟨p, cap, rfl, h1, h2, fun h0 => ?_⟩
  obtain ⟨g, off, rfl, hg, hc⟩ := h4 h0
  have hgS : g ∉ S := hn g (by obtain ⟨m, hm⟩ : ∃ m, ks.length = m + 1 := ⟨ks.length - 1, by omega⟩; rw [hm]; exact List.mem_singleton.2 rfl)
  exact ⟨g, off, rfl, Nat.lt_of_lt_of_le hg h.size, fun i hi => h.cell (hc i hi) hgS⟩
theorem ReadsI.below {w w' : World} {v : Value} {ks : List Int} {B : Nat} (h : ReadsI w v ks) (hb : Below B w w') (hB : w.heap.size ≤ B) : ReadsI w' v ks := (Kept.ofBelow (hb.mono hB)).readsI h (by simp)
theorem ReadsI.leads {w : World} {v : Value} {ks : List Int} (h : ReadsI w v ks) : ∀ x ∈ Go.Proofs.YtbhdbkffejlfmaaGreatDoor.leads v, x < w.heap.size := by
  obtain ⟨p, cap, rfl, _, _, h4⟩ := h
  intro x hx
  cases hn : ks.length with
  | zero => rw [hn] at hx; cases p <;> cases hx
  | succ m =>
    obtain ⟨g, off, rfl, hg, _⟩ := h4 (by omega)
    rw [hn] at hx
    obtain rfl := List.mem_singleton.1 hx
    exact hg

/-- The sectors with those of ps written to them that are kept. -/
def applyK : List Int → List (Int × ByteArray) → List ByteArray → List ByteArray
  | _, [], xs => xs
  | ks, x :: r, xs => applyK (ks.drop 1) r (if 0 < ks.getD 0 0 then xs.set x.1.toNat x.2 else xs)
theorem applyK_step (ks : List Int) (ps : List (Int × ByteArray)) (k : Nat) (h : k < ps.length) (xs : List ByteArray) :
    applyK (ks.drop k) (ps.drop k) xs = applyK (ks.drop (k + 1)) (ps.drop (k + 1)) (if 0 < ks.getD k 0 then xs.set (ps[k]'h).1.toNat (ps[k]'h).2 else xs) := by
  rw [List.drop_eq_getElem_cons h, applyK, List.drop_drop]
  simp

set_option maxRecDepth 100000 in
set_option maxHeartbeats 4000000 in
theorem specCrash_good (vs vp : Value) (xs : List ByteArray) (ps : List (Int × ByteArray)) (w : World) (hn : xs.length ≤ 1048576) (hn2 : ps.length ≤ 1048576) (vk : Value) (ks : List Int) (hk400 : ks.length ≤ 400) (hr : Reads w vs xs) (hp : ReadsP w vp ps) (hkk : ReadsI w vk ks) (hok : right xs ps = true) :
    Calls Tryz.prog 38 #[.agg #[vs, vp], vk] w fun e w' => DiskIs w.heap.size e w' (applyK ks ps xs) [] ∧ Below w.heap.size w w' := by
  obtain ⟨i0, hi, hz0, hz1, hz2⟩ := info_parts Tryz.infoStr
  have hb0 : Below w.heap.size w ((w.alloc (.cells #[vs, vp] 29)).alloc (.cells #[.slice none 0 0, .slice none 0 0] 29)) :=
    ((Below.refl _ _).alloc (Nat.le_refl _) _).alloc (by simp) _
  have HR := hide (hr.below hb0 (Nat.le_refl _))
  have HP := hide (hp.below hb0 (Nat.le_refl _))
  have HB0 := hide hb0
  have HI := hide (hkk.below hb0 (Nat.le_refl _))
  obtain ⟨p5, c5, rfl, hq5⟩ := hkk
  have t400 : ¬ (400 : Int) < (ks.length : Int) := by omega
  obtain ⟨p1, c1, rfl, hq⟩ := hr
  obtain ⟨p2, c2, rfl, hq2⟩ := hp
  have R0 := (row_new w [.slice p1 xs.length c1, .slice p2 ps.length c2] 29).alloc (.cells #[.slice none 0 0, .slice none 0 0] 29)
  have R1 := row_new (w.alloc (.cells #[.slice p1 xs.length c1, .slice p2 ps.length c2] 29)) [.slice none 0 0, .slice none 0 0] 29
  simp only [World.size_alloc] at R1
  have HR0 := hide R0
  have HR1 := hide R1
  clear hb0 hq hq2 hq5 R1 R0
  go_enter Tryz.func38, Tryz.ntmps38
  go_wp2_with fail
  refine (specRight_any _ _ xs ps _ hn hn2 HR.out HP.out).mono ?_
  rw [hok]
  rintro e w1 ⟨rfl, hb1⟩
  have HB1 := hide (HB0.out.trans (hb1.mono HB0.out.size))
  have HX1 := hide (HR1.out.below hb1 (by simp))
  have HX0 := hide (HR0.out.below hb1 (by simp; omega))
  have HRa := hide (HR.out.below hb1 (Nat.le_refl _))
  have HPa := hide (HP.out.below hb1 (Nat.le_refl _))
  have HIa := hide (HI.out.below hb1 (Nat.le_refl _))
  have a0 : w1.cell? ⟨w.heap.size, 0, none⟩ = some (.slice p1 xs.length c1) := HX0.out.cell 0
  have hl1 := HX1.out.lt
  clear hb1 HR HP HI HR0 HR1 HB0
  have ba : Below w1.heap.size w1 (w1.alloc (.cells #[] 9)) := (Below.refl _ _).alloc (Nat.le_refl _) _
  have HRb := hide (HRa.out.below ba (Nat.le_refl _))
  have a0' : (w1.alloc (.cells #[] 9)).cell? ⟨w.heap.size, 0, none⟩ = some (.slice p1 xs.length c1) := (HX0.out.alloc _).cell 0
  have HBa := hide ba
  clear ba
  go_wp2_with (at_builtin; refine wpList_copyS _ rfl _ _ 22 rfl 9 i0 (.string ⟨#[]⟩) Tryz.underlying22 hi hz0 hz1 hz2 rfl ⟨w1.heap.size, 0, none⟩ rfl (.slice p1 xs.length c1) rfl xs HRb.out hn ?_
               intro q1 d1 w2 ho1 hb2
               have HO1 := hide ho1
               have HB2 := hide hb2
               clear ho1 hb2)
  obtain ⟨l1, l2, l3⟩ := right_len hok
  obtain ⟨hx, ⟨_, _, _, _, hnil⟩ | ⟨U, rest, heq, hmx, hU, hrowU⟩⟩ := HO1.out
  · rw [hnil] at l1; cases l1
  cases heq
  have hU1 : w1.heap.size + 1 ≤ U := by simpa using hU
  have hU2 := hrowU.lt
  have hz : w1.heap.size + 1 ≤ w2.heap.size := by have := HB2.out.size; simpa using this
  obtain ⟨W, hW⟩ : ∃ W, W = w2.alloc (.cells #[.slice (some ⟨U, 0, none⟩) xs.length (xs.length + rest.length), .slice none 0 0] 29) := ⟨_, rfl⟩
  have b12 : Below w1.heap.size w1 W := by
    rw [hW]
    exact (HBa.out.trans (HB2.out.mono HBa.out.size)).alloc (by omega) _
  have RU : Row W U 9 (strs xs ++ rest) := by rw [hW]; exact hrowU.alloc _
  have RG : Row W w2.heap.size 29 [.slice (some ⟨U, 0, none⟩) xs.length (xs.length + rest.length), .slice none 0 0] := by rw [hW]; exact row_new w2 _ _
  have RN := HX1.out.below b12 hl1
  have R0' := HX0.out.below b12 HX0.out.lt
  have HPb := hide (HPa.out.below b12 (Nat.le_refl _))
  have LP := hide HPa.out.leads
  have HIb := hide (HIa.out.below b12 (Nat.le_refl _))
  have LI := hide HIa.out.leads
  have HBW := hide (HB1.out.trans (b12.mono HB1.out.size))
  have HU := hide RU
  have HG := hide RG
  have HN := hide RN
  have H0 := hide R0'
  have hl0 := HX0.out.lt
  rw [← hW]
  clear hW RU RG RN R0' b12 HO1 HB2 HBa HRa HRb a0 a0' HX0 HX1 HPa HIa HB1 hrowU hU hi hz0 hz1 hz2
  go_loopw [6] (fun i wr => ∃ (k : Nat) (ys : List ByteArray), k ≤ ps.length ∧ i = .int .i64 k ∧ ys.length = xs.length ∧ Hid (∀ y ∈ ys, y.size ≤ maxLen) ∧ Hid (applyK ks ps xs = applyK (ks.drop k) (ps.drop k) ys) ∧ Hid (Row wr U 9 (strs ys ++ rest)) ∧ Hid (Kept [U] W wr)) (fun i _ => ps.length - (intOf i).toNat)
  case atStart => exact ⟨0, xs, Nat.zero_le _, rfl, rfl, hx, rfl, HU.out, Kept.refl _ _⟩
  case round =>
    obtain ⟨j, ys, hj, rfl, hyl, HY, HS, HRow, HK⟩ := hrel
    have g0 : wr.cell? ⟨w2.heap.size, 0, none⟩ = some (.slice (some ⟨U, 0, none⟩) xs.length (xs.length + rest.length)) := (HK.out.row HG.out (by simp; omega)).cell 0
    have g1 : wr.cell? ⟨w2.heap.size, 1, none⟩ = some (.slice none 0 0) := (HK.out.row HG.out (by simp; omega)).cell 1
    have n1 : wr.cell? ⟨w.heap.size, 1, none⟩ = some (.slice p2 ps.length c2) := (HK.out.row H0.out (by simp; omega)).cell 1
    by_cases hlt2 : j < ps.length
    · have hpr := HK.out.readsP HPb.out (fun x hx => by have := LP.out x hx; simp; omega)
      obtain ⟨p, cap, he, _, _, _, h4⟩ := hpr
      cases he
      obtain ⟨g2, o2, rfl, hg2, hc2⟩ := h4 (by omega)
      obtain ⟨hk0, hk1⟩ := hc2 j hlt2
      have hgU : g2 < w1.heap.size := LP.out g2 (by obtain ⟨m, hm⟩ : ∃ m, ps.length = m + 1 := ⟨ps.length - 1, by omega⟩; rw [hm]; exact List.mem_singleton.2 rfl)
      have HT := hide (applyK_step ks ps j hlt2 ys)
      obtain ⟨s1, s2, s3⟩ := right_at hok j hlt2
      have hki : (j : Int) < (ps.length : Int) := by omega
      obtain ⟨A, hA⟩ : ∃ A, A = (ps[j]'hlt2).1 := ⟨_, rfl⟩
      obtain ⟨D, hD⟩ : ∃ D, D = (ps[j]'hlt2).2 := ⟨_, rfl⟩
      rw [← hA] at hk0 s1 s2
      rw [← hD] at hk1 s3
      rw [← hA, ← hD] at HT
      clear hA hD hc2 hg2 h4
      obtain ⟨m, rfl⟩ := Int.eq_ofNat_of_zero_le s1
      have hm : m < ys.length := by omega
      have hmi : (m : Int) < (xs.length : Int) := by omega
      have cU : wr.cell? ⟨U, m, none⟩ = some (.string (ys[m]'hm)) := by
        rw [HRow.out.cell, List.getElem?_append_left (by rw [strs_len]; exact hm)]
        simp [strs, hm]
      have fU := HRow.out.free m
      by_cases hkl : j < ks.length
      · have hpi := HK.out.readsI HIb.out (fun x hx => by have := LI.out x hx; simp; omega)
        obtain ⟨p, cap, he, _, _, h4⟩ := hpi
        cases he
        obtain ⟨g5, o5, rfl, hg5, hc5⟩ := h4 (by omega)
        have kk := hc5 j hkl
        have gk : (ks.getD j 0) = ks[j]'hkl := by simp [hkl]
        rw [gk] at HT
        obtain ⟨Kj, hKj⟩ : ∃ Kj, Kj = ks[j]'hkl := ⟨_, rfl⟩
        rw [← hKj] at kk HT
        clear hKj hc5 hg5 h4 gk
        have tk : decide ((j : Int) < (ks.length : Int)) = true := by simp; omega
        have tki : (j : Int) < (ks.length : Int) := by omega
        by_cases hpos : 0 < Kj
        · skip
          have HSS := hide (show ∀ x, Kept [U] wr x → x.cell? ⟨w2.heap.size, 0, none⟩ = some (.slice (some ⟨U, 0, none⟩) xs.length (xs.length + rest.length)) ∧ x.cell? ⟨w.heap.size, 1, none⟩ = some (.slice (some ⟨g2, o2, none⟩) ps.length c2) ∧ x.cell? ⟨g2, o2 + j * 2, none⟩ = some (.int .i64 (m : Int)) ∧ x.cell? ⟨g2, o2 + j * 2 + 1, none⟩ = some (.string D) from
            fun x h => ⟨h.cell g0 (by simp; omega), h.cell n1 (by simp; omega), h.cell hk0 (by simp; omega), h.cell hk1 (by simp; omega)⟩)
          go_wp2_with fail
          go_region_held3 (fun x => x.cell? ⟨w2.heap.size, 0, none⟩ = some (.slice (some ⟨U, 0, none⟩) xs.length (xs.length + rest.length)) ∧ x.cell? ⟨w.heap.size, 1, none⟩ = some (.slice (some ⟨g2, o2, none⟩) ps.length c2) ∧ x.cell? ⟨g2, o2 + j * 2, none⟩ = some (.int .i64 (m : Int)) ∧ x.cell? ⟨g2, o2 + j * 2 + 1, none⟩ = some (.string D))
            ((go_split_ands; refine HSS.out _ ?_; repeat (first | with_reducible exact Kept.refl _ _ | with_reducible refine Kept.drew ?_ | with_reducible refine Kept.set ?_ (by simp) _)))
            (fail)
          have HU1 := hide (show applyK ks ps xs = applyK (ks.drop (j + 1)) (ps.drop (j + 1)) (ys.set m D) by rw [HS.out.trans HT.out, if_pos hpos]; rfl)
          have HR1 := hide (show Row (wr.setCell ⟨U, m, none⟩ (.string D)).drew U 9 (strs (ys.set m D) ++ rest) by rw [← strs_set ys rest m D hm]; exact (HRow.out.set (j := m) (.string D)).drew)
          have HK1 := hide ((HK.out.set (G := U) (j := m) (by simp) (.string D)).drew)
          have HY1 := hide (show ∀ y ∈ ys.set m D, y.size ≤ maxLen from fun y hy => by
            rcases List.mem_or_eq_of_mem_set hy with h | h
            · exact HY.out y h
            · rw [h]; unfold maxLen; omega)
          clear cU fU hk0 hk1 kk
          go_wp2
          go_roundw
          case rel => exact ⟨j + 1, ys.set m D, by omega, by go_num, by rw [List.length_set]; exact hyl, HY1, HU1, HR1, HK1⟩
          case measure => simp [intOf]; omega
        · have hneg : ¬ 0 < Kj := hpos
          have HU1 := hide (show applyK ks ps xs = applyK (ks.drop (j + 1)) (ps.drop (j + 1)) ys by rw [HS.out.trans HT.out, if_neg hpos])
          clear cU fU hk0 hk1
          go_wp2
          go_roundw
          case rel => exact ⟨j + 1, ys, by omega, by go_num, hyl, HY, HU1, HRow, HK⟩
          case measure => simp [intOf]; omega
      · have gk : (ks.getD j 0) = 0 := by rw [List.getD_eq_getElem?_getD, List.getElem?_eq_none (by omega)]; rfl
        rw [gk] at HT
        have HU1 := hide (show applyK ks ps xs = applyK (ks.drop (j + 1)) (ps.drop (j + 1)) ys by rw [HS.out.trans HT.out, if_neg (by omega)])
        have tk : decide ((j : Int) < (ks.length : Int)) = false := by simp; omega
        have tki : ¬ (j : Int) < (ks.length : Int) := by omega
        clear cU fU hk0 hk1 gk
        go_wp2
        go_roundw
        case rel => exact ⟨j + 1, ys, by omega, by go_num, hyl, HY, HU1, HRow, HK⟩
        case measure => simp [intOf]; omega
    · have HU1 := hide (show applyK ks ps xs = ys by rw [HS.out, (List.drop_eq_nil_of_le (by omega) : ps.drop j = []), applyK])
      have N3 := HK.out.row HN.out (by simp; omega)
      have c0 : wr.cell? ⟨w.heap.size + 1, 0, none⟩ = some (.slice none 0 0) := N3.cell 0
      have c1' : wr.cell? ⟨w.heap.size + 1, 1, none⟩ = some (.slice none 0 0) := N3.cell 1
      have f0 := N3.free 0
      have f1 := N3.free 1
      have HN3 := hide N3
      clear N3
      go_wp2
      obtain ⟨z0, z1, KF⟩ := two HN3.out (.slice (some ⟨U, 0, none⟩) xs.length (xs.length + rest.length)) (.slice none 0 0)
      have k3 := HK.out.toBelow HBW.out HBW.out.size (by simp; omega)
      have k5 := KF.toBelow k3 k3.size (by simp)
      have RF := KF.row HRow.out (by simp; omega)
      exact bodyPost_ret (v := .agg #[(.slice (some ⟨U, 0, none⟩) xs.length (xs.length + rest.length)), .slice none 0 0]) (by simp [results, Tryz.results38, go_sem, z0, z1]) rfl
        ⟨⟨_, _, rfl, by rw [HU1.out]; exact ⟨HY.out, .inr ⟨U, rest, by rw [hyl], by rw [hyl]; exact hmx, by omega, RF⟩⟩, OwnP.none _ _ _, fun _ _ h => by cases h⟩, k5⟩


set_option maxHeartbeats 4000000 in
theorem specCrash_many (vs vp : Value) (xs : List ByteArray) (ps : List (Int × ByteArray)) (w : World) (vk : Value) (ks : List Int) (hr : Reads w vs xs) (hp : ReadsP w vp ps) (hkk : ReadsI w vk ks) (hk400 : 400 < ks.length) :
    Calls Tryz.prog 38 #[.agg #[vs, vp], vk] w fun e w' => DiskIs w.heap.size e w' [] [] ∧ Below w.heap.size w w' := by
  obtain ⟨p5, c5, rfl, hq5⟩ := hkk
  clear hq5
  have t400 : (400 : Int) < (ks.length : Int) := by omega
  have hb0 : Below w.heap.size w ((w.alloc (.cells #[vs, vp] 29)).alloc (.cells #[.slice none 0 0, .slice none 0 0] 29)) :=
    ((Below.refl _ _).alloc (Nat.le_refl _) _).alloc (by simp) _
  have HR := hide (hr.below hb0 (Nat.le_refl _))
  have HP := hide (hp.below hb0 (Nat.le_refl _))
  have HB0 := hide hb0
  obtain ⟨p1, c1, rfl, hq⟩ := hr
  obtain ⟨p2, c2, rfl, hq2⟩ := hp
  have R0 := (row_new w [.slice p1 xs.length c1, .slice p2 ps.length c2] 29).alloc (.cells #[.slice none 0 0, .slice none 0 0] 29)
  have R1 := row_new (w.alloc (.cells #[.slice p1 xs.length c1, .slice p2 ps.length c2] 29)) [.slice none 0 0, .slice none 0 0] 29
  simp only [World.size_alloc] at R1
  have HR0 := hide R0
  have HR1 := hide R1
  clear hb0 hq hq2 R1 R0
  go_enter Tryz.func38, Tryz.ntmps38
  go_wp2
  exact bodyPost_ret (v := .agg #[.slice none 0 0, .slice none 0 0]) (by simp [results, Tryz.results38, go_sem]) rfl
    ⟨⟨_, _, rfl, OwnS.none _ _ _, OwnP.none _ _ _, fun _ h => by cases h⟩, HB0.out⟩

set_option maxHeartbeats 4000000 in
theorem specCrash_bad (vs vp : Value) (xs : List ByteArray) (ps : List (Int × ByteArray)) (w : World) (hn : xs.length ≤ 1048576) (hn2 : ps.length ≤ 1048576) (vk : Value) (ks : List Int) (hr : Reads w vs xs) (hp : ReadsP w vp ps) (hkk : ReadsI w vk ks) (hk400 : ks.length ≤ 400) (hok : right xs ps = false) :
    Calls Tryz.prog 38 #[.agg #[vs, vp], vk] w fun e w' => DiskIs w.heap.size e w' xs ps ∧ Below w.heap.size w w' := by
  obtain ⟨p5, c5, rfl, hq5⟩ := hkk
  clear hq5
  have t400 : ¬ (400 : Int) < (ks.length : Int) := by omega
  have hb0 : Below w.heap.size w ((w.alloc (.cells #[vs, vp] 29)).alloc (.cells #[.slice none 0 0, .slice none 0 0] 29)) :=
    ((Below.refl _ _).alloc (Nat.le_refl _) _).alloc (by simp) _
  have HR := hide (hr.below hb0 (Nat.le_refl _))
  have HP := hide (hp.below hb0 (Nat.le_refl _))
  have HB0 := hide hb0
  obtain ⟨p1, c1, rfl, hq⟩ := hr
  obtain ⟨p2, c2, rfl, hq2⟩ := hp
  have R0 := (row_new w [.slice p1 xs.length c1, .slice p2 ps.length c2] 29).alloc (.cells #[.slice none 0 0, .slice none 0 0] 29)
  have R1 := row_new (w.alloc (.cells #[.slice p1 xs.length c1, .slice p2 ps.length c2] 29)) [.slice none 0 0, .slice none 0 0] 29
  simp only [World.size_alloc] at R1
  have HR0 := hide R0
  have HR1 := hide R1
  clear hb0 hq hq2 R1 R0
  go_enter Tryz.func38, Tryz.ntmps38
  go_wp2_with fail
  refine (specRight_any _ _ xs ps _ hn hn2 HR.out HP.out).mono ?_
  rw [hok]
  rintro e w1 ⟨rfl, hb1⟩
  have HB1 := hide (HB0.out.trans (hb1.mono HB0.out.size))
  have HX1 := hide (HR1.out.below hb1 (by simp))
  have HX0 := hide (HR0.out.below hb1 (by simp; omega))
  have HRa := hide (HR.out.below hb1 (Nat.le_refl _))
  have HPa := hide (HP.out.below hb1 (Nat.le_refl _))
  have a0 : w1.cell? ⟨w.heap.size, 0, none⟩ = some (.slice p1 xs.length c1) := HX0.out.cell 0
  have a1 : w1.cell? ⟨w.heap.size, 1, none⟩ = some (.slice p2 ps.length c2) := HX0.out.cell 1
  have hl1 := HX1.out.lt
  clear hb1 HR HP HR0 HR1 HB0
  go_wp2_with fail
  refine (l02Copy_any _ _ xs ps _ hn hn2 HRa.out HPa.out).mono ?_
  rintro e w2 ⟨us, up, rfl, ow1, ow2, dd, _, hb2⟩
  have R3 := HX1.out.below hb2 hl1
  have c0 : w2.cell? ⟨w.heap.size + 1, 0, none⟩ = some (.slice none 0 0) := R3.cell 0
  have c1' : w2.cell? ⟨w.heap.size + 1, 1, none⟩ = some (.slice none 0 0) := R3.cell 1
  have f0 := R3.free 0
  have f1 := R3.free 1
  have HR3 := hide R3
  have HB2 := hide (HB1.out.trans (hb2.mono HB1.out.size))
  have HO1 := hide ow1
  have HO2 := hide ow2
  have HD := hide dd
  obtain ⟨q1, m1, d1, rfl⟩ : ∃ p n c, us = .slice p n c := by obtain ⟨p, c, e, _⟩ := ow1.reads; exact ⟨_, _, _, e⟩
  obtain ⟨q2, m2, d2, rfl⟩ : ∃ p n c, up = .slice p n c := by obtain ⟨p, c, e, _⟩ := ow2.reads; exact ⟨_, _, _, e⟩
  clear ow1 ow2 dd hb2 R3
  go_wp2
  obtain ⟨z0, z1, KF⟩ := two HR3.out (.slice q1 m1 d1) (.slice q2 m2 d2)
  exact bodyPost_ret (v := .agg #[.slice q1 m1 d1, .slice q2 m2 d2]) (by simp [results, Tryz.results38, go_sem, z0, z1]) rfl
    ⟨⟨_, _, rfl, (HO1.out.kept KF (fun x hx => by have := HO1.out.leads x hx; simp; omega)).mono (by omega), (HO2.out.kept KF (fun x hx => by have := HO2.out.leads x hx; simp; omega)).mono (by omega), HD.out⟩, KF.toBelow HB2.out HB2.out.size (by simp)⟩

/-- What a crash leaves. -/
def crashXs (xs : List ByteArray) (ps : List (Int × ByteArray)) (ks : List Int) : List ByteArray := if 400 < ks.length then [] else if right xs ps then applyK ks ps xs else xs
def crashPs (xs : List ByteArray) (ps : List (Int × ByteArray)) (ks : List Int) : List (Int × ByteArray) := if 400 < ks.length then [] else if right xs ps then [] else ps
theorem specCrash_any (vs vp : Value) (xs : List ByteArray) (ps : List (Int × ByteArray)) (w : World) (hn : xs.length ≤ 1048576) (hn2 : ps.length ≤ 1048576) (vk : Value) (ks : List Int) (hr : Reads w vs xs) (hp : ReadsP w vp ps) (hkk : ReadsI w vk ks) :
    Calls Tryz.prog 38 #[.agg #[vs, vp], vk] w fun e w' => DiskIs w.heap.size e w' (crashXs xs ps ks) (crashPs xs ps ks) ∧ Below w.heap.size w w' := by
  unfold crashXs crashPs
  by_cases h : 400 < ks.length
  · rw [if_pos h, if_pos h]; exact specCrash_many vs vp xs ps w vk ks hr hp hkk h
  · rw [if_neg h, if_neg h]
    cases hok : right xs ps with
    | false => exact specCrash_bad vs vp xs ps w hn hn2 vk ks hr hp hkk (by omega) hok
    | true => exact specCrash_good vs vp xs ps w hn hn2 vk ks (by omega) hr hp hkk hok
end Go.Proofs.YtbhdbkffejlfmaaGreatDoor

/- One more pair behind a list of the call's own, or behind none. -/
namespace Go.Proofs.YtbhdbkffejlfmaaGreatDoor
open Go.RowKit

theorem below_ofNone {w w' : World} (h : w.grownBy w' (Value.slice none 0 0).ownBlock) : Below w.heap.size w w' := below_ofGrown h
/-- One more pair behind a list of the call's own, or behind none. -/
theorem run_pushQ {P : Program} (w : World) (B : Nat) (t ty e : TypeId) (i : TypeInfo) (z : Value) (ht : P.underlying t = some (.slice e)) (hi : P.info? e = some i) (hz : i.zero = some z) (hs : i.size = 2) (hb : i.bytes = 24) (hzs : z.cells.size = 2)
    (v : Value) (ps : List (Int × ByteArray)) (ho : OwnP e B w v ps) (he : ps = [] → v = .slice none 0 0) (hn : ps.length ≤ 1048576) (hB : B ≤ w.heap.size) (a : Int) (d : ByteArray) (hd : d.size ≤ maxLen) (g c : Nat) (hr : Row w g e [.int .i64 a, .string d]) :
    ∃ p c' w', (Builtin.append_ #[t, t] ty #[v, .slice (some ⟨g, 0, none⟩) 1 c]).run P w = .ok (.slice p (ps.length + 1) c') w' ∧ OwnP e B w' (.slice p (ps.length + 1) c') (ps ++ [(a, d)]) ∧ Kept (leads v) w w' ∧ (∀ x ∈ leads (.slice p (ps.length + 1) c'), x ∈ leads v ∨ w.heap.size ≤ x) := by
  cases hps : ps with
  | nil =>
    subst hps
    obtain rfl := he rfl
    have hnews : ∀ j u, ([Value.int .i64 a, Value.string d] : List Value)[j]? = some u → w.cell? ((⟨g, 0, none⟩ : Addr).add j) = some u := fun j u hu => by
      rw [add_addr, Nat.zero_add, hr.cell]; exact hu
    have hown : w.ownsRow w.heap.size e 2 (.slice none 0 0) 0 [] := ⟨rfl, .inl ⟨rfl, rfl⟩⟩
    obtain ⟨v', w', hrun, r1, r2, _, r4⟩ := run_append_own_at (P := P) w w.heap.size t ty e i z 2 24 ht hi hz hs hb hzs (by omega) _ 0 [] hown ⟨g, 0, none⟩ 1 c [.int .i64 a, .string d] rfl hnews (by simp [Value.oneCell']) (by unfold maxLen; omega) (by omega) (Nat.le_refl _)
    have hxd : ∀ x ∈ ([] ++ [(a, d)] : List (Int × ByteArray)), x.2.size ≤ maxLen := fun x hx => by
      have e : x = (a, d) := by simpa using hx
      rw [e]; exact hd
    have hown' : OwnP e w.heap.size w' v' ([] ++ [(a, d)]) := OwnP.ofRow hxd (by simp) r1
    obtain ⟨p', c', e', _⟩ := hown'.reads
    subst e'
    exact ⟨p', c', w', hrun, hown'.mono hB, (Kept.ofBelow (below_ofNone r2)).mono (by simp), fun x hx => .inr (hown'.leads x hx).1⟩
  | cons x r =>
    rw [← hps]
    exact run_pushP w B t ty e i z ht hi hz hs hb hzs v ps ho (fun h => by rw [hps] at h; cases h) hn hB a d hd g c hr
theorem wpList_pushQ {P : Program} (w : World) {ops : Array Oper} {rest : List Oper} {o : Oper} {a : Act} {Q : Exit → Act → World → Prop} (hgd : o.guard = none) (s x : Operand) (t : TypeId)
    (hop : o.op = Op.call { callee := Callee.builtin Builtin.append, args := #[s, x], argTypes := #[t, t] })
    (B : Nat) (e : TypeId) (i : TypeInfo) (z : Value) (ht : P.underlying t = some (.slice e)) (hi : P.info? e = some i) (hz : i.zero = some z) (hs : i.size = 2) (hb : i.bytes = 24) (hzs : z.cells.size = 2)
    (v : Value) (h1 : a.eval s = v) (ps : List (Int × ByteArray)) (ho : OwnP e B w v ps) (he : ps = [] → v = .slice none 0 0) (hn : ps.length ≤ 1048576) (hB : B ≤ w.heap.size) (n : Int) (d : ByteArray) (hd : d.size ≤ maxLen) (g c : Nat)
    (h2 : a.eval x = .slice (some ⟨g, 0, none⟩) 1 c) (hr : Row w g e [.int .i64 n, .string d])
    (hK : ∀ p c' w', OwnP e B w' (.slice p (ps.length + 1) c') (ps ++ [(n, d)]) → Kept (leads v) w w' → (∀ x ∈ leads (.slice p (ps.length + 1) c'), x ∈ leads v ∨ w.heap.size ≤ x) → wpList P ops Q rest (a.put o.dst (.slice p (ps.length + 1) c')) w') : wpList P ops Q (o :: rest) a w := by
  refine wpList_plain hgd fun K hK' => ?_
  obtain ⟨p, c', w', hrun, r1, r2, r3⟩ := run_pushQ (P := P) w B t o.type e i z ht hi hz hs hb hzs v ps ho he hn hB n d hd g c hr
  unfold Oper.wp
  simp [execOp, hop, resolve, invoke, builtin, h1, h2, hrun, Result.andThen]
  exact hK' _ _ (hK p c' w' r1 r2 r3)
end Go.Proofs.YtbhdbkffejlfmaaGreatDoor
