/- SegmentRight of the model and of the program. -/
import Derived.Test.YtolgjdnhhbbebaaGreatDoorXGFRightS
import Derived.Test.YtolgjdnhhbbebaaGreatDoorXGFNestE
import Derived.Test.YtolgjdnhhbbebaaGreatDoorXGFIdx
import Derived.Deep.RegionHeld3
import Derived.BigQuiet
import Derived.OrdersHeld
namespace Go.Proofs.YtolgjdnhhbbebaaGreatDoor
open Go.RowKit
def msh : ByteArray := ⟨#[77, 83, 72]⟩
/-- A right Segment: its Name, and its Fields. -/
def segB (n : ByteArray) (fs : List (List (List (List ByteArray)))) : Bool := name3 n && rightB fldB empL 30 fs && !(decide (n = msh) && decide (fs.length = 0))
abbrev Flds := List (List (List (List ByteArray)))
theorem segB_name {n : ByteArray} {fs : Flds} (h : name3 n = false) : segB n fs = false := by simp [segB, h]
theorem segB_flds {n : ByteArray} {fs : Flds} (h : rightB fldB empL 30 fs = false) : segB n fs = false := by simp [segB, h]
theorem segB_msh {n : ByteArray} {fs : Flds} (h1 : n = msh) (h2 : fs.length = 0) : segB n fs = false := by simp [segB, h1, h2]
theorem segB_yes {n : ByteArray} {fs : Flds} (h1 : name3 n = true) (h2 : rightB fldB empL 30 fs = true) (h3 : ¬ (n = msh ∧ fs.length = 0)) : segB n fs = true := by
  simp only [segB, h1, h2, Bool.true_and, Bool.not_eq_true', Bool.and_eq_false_iff, decide_eq_false_iff_not]
  by_cases e : n = msh
  · exact .inr fun h => h3 ⟨e, h⟩
  · exact .inl e
/-- How great the lists of Fields are that the contracts take. -/
def Fits (fs : Flds) : Prop := fs.length ≤ 1048576 ∧ ∀ i (h : i < fs.length), fs[i].length ≤ 1048576 ∧ (∀ j (hj : j < fs[i].length), fs[i][j].length ≤ 1048576) ∧ ∀ j (hj : j < fs[i].length) l (hl : l < fs[i][j].length), fs[i][j][l].length ≤ 1048576
theorem fits_of {fs : Flds} (h : wFlds fs ≤ 1048576) : Fits fs := by
  refine ⟨Nat.le_trans (wL_len _ fs) h, fun i hi => ?_⟩
  have h1 := wL_mem wFld (List.getElem_mem hi)
  have h0 : wL wFld fs ≤ 1048576 := h
  have hx : wFld fs[i] ≤ 1048576 := by omega
  generalize fs[i] = x at hx
  refine ⟨Nat.le_trans (wL_len _ x) hx, fun j hj => ?_, fun j hj l hl => ?_⟩
  · have h1 := wL_mem wRep (List.getElem_mem hj)
    have h2 := wL_len wComp x[j]
    have : wL wRep x ≤ 1048576 := hx
    have : wRep x[j] = wL wComp x[j] := rfl
    omega
  · have h1 := wL_mem wRep (List.getElem_mem hj)
    have h2 := wL_mem wComp (List.getElem_mem hl)
    have h3 := wL_len ByteArray.size x[j][l]
    have : wL wRep x ≤ 1048576 := hx
    have : wRep x[j] = wL wComp x[j] := rfl
    have : wComp x[j][l] = wL ByteArray.size x[j][l] := rfl
    omega

set_option maxHeartbeats 1000000 in
set_option maxRecDepth 100000 in
theorem emptyField (u : Value) (x : List (List (List ByteArray))) (w : World) (hn : x.length ≤ 1048576) (hr : PField w u x) :
    Calls Tryz.prog 99 #[u] w fun e w' => e = .returned (.bool (empL x)) ∧ Below w.heap.size w w' := by
  obtain ⟨v, rfl, hv⟩ := hr
  have a1 := Tryz.asFieldsubPart
  have a2 := Tryz.innerField
  go_enter Tryz.func99, Tryz.ntmps99
  go_wp2_with fail
  refine (innerField_any _ x _ hn hv).mono ?_
  rintro e w1 ⟨p1, c1, rfl, hr1, hb1⟩
  have HB := hide hb1
  clear hb1 hr1
  by_cases he : x.length = 0
  · have he' : ((x.length : Int) == 0) = true := by simp [he]
    have HE := hide (show empL x = true by simp [empL, he])
    clear he
    go_wp2
    go_ret
    exact ⟨ret_boolF (by rw [HE.out]; first | done | exact he'), HB.out⟩
  · have he' : ((x.length : Int) == 0) = false := by simpa using he
    have HE := hide (show empL x = false by simp [empL, he])
    clear he
    go_wp2
    go_ret
    exact ⟨ret_boolF (by rw [HE.out]; first | done | exact he'), HB.out⟩

set_option maxHeartbeats 2000000 in
set_option maxRecDepth 100000 in
theorem leaveOutF_any (xs : Flds) (hf : Fits xs) (v : Value) (w : World) (hr : RFlds 0 w v xs) :
    Calls Tryz.prog 83 #[v] w fun e w' => (∃ p c k, e = .returned (.slice p k c) ∧ k ≤ xs.length ∧ (k = xs.length ↔ endEmpty empL xs = false)) ∧ Below w.heap.size w w' := by
  have HF := hide hf
  clear hf
  obtain ⟨p, cap, rfl, h1, h2, h4⟩ := hr
  have H4 := hide h4
  clear h4
  unfold maxLen at h2
  go_enter Tryz.func83, Tryz.ntmps83
  go_wp2
  go_loopw [0] (fun l wr => ∃ (X : World) (k : Nat), X = wr ∧ k ≤ xs.length ∧ l = .slice p k cap ∧ Hid (Below w.heap.size w X) ∧ Hid (k < xs.length → endEmpty empL xs = true)) (fun l _ => lenOf l)
  case atStart => exact ⟨_, _, rfl, Nat.le_refl _, rfl, Below.refl _ _, fun h => absurd h (by omega)⟩
  case round =>
    obtain ⟨X, k, rfl, hk, rfl, HB, HK⟩ := hrel
    by_cases h0 : k = 0
    · subst h0
      have HZ := hide (show (0 = xs.length ↔ endEmpty empL xs = false) from ⟨fun h => endEmpty_nil h.symm, fun h => by
        rcases Nat.eq_zero_or_pos xs.length with e | e
        · exact e.symm
        · rw [HK.out e] at h; cases h⟩)
      go_wp2
      go_ret
      exact ⟨⟨_, _, _, rfl, hk, HZ.out⟩, HB.out⟩
    · obtain ⟨n, rfl⟩ : ∃ n, k = n + 1 := ⟨k - 1, by omega⟩
      obtain ⟨g, off, hp, hg, _, hc⟩ := H4.out (by omega)
      subst hp
      have hnl : n < xs.length := by omega
      obtain ⟨u, hu, hru⟩ := hc n hnl
      have hck : X.cell? ⟨g, off + n, none⟩ = some u := by rw [HB.out.cell (p := ⟨g, off + n, none⟩) hg]; exact hu
      have HRU : Hid (RFld 0 X u xs[n]) := Lasts.go (B := 0) (Same.of HB.out) hru
      have hw1 : IntKind.i64.wrap (((n + 1 : Nat) : Int) - 1) = (n : Int) := by rw [show (((n + 1 : Nat) : Int) - 1) = (n : Int) by omega]; exact wrap_small _ (by omega) (by omega)
      have hpos : (0 : Int) < ((n + 1 : Nat) : Int) := by omega
      clear hu hru hc h0
      go_wp2_with fail
      refine (emptyField _ (xs[n]'hnl) _ (HF.out.2 n hnl).1 ⟨_, rfl, HRU.out⟩).mono ?_
      rintro e w2 ⟨rfl, hb2⟩
      have HB2 := hide (HB.out.trans (hb2.mono HB.out.size))
      clear hb2
      cases he : empL (xs[n]'hnl)
      · have HZ := hide (show (n + 1 = xs.length ↔ endEmpty empL xs = false) from ⟨fun h => by rw [endEmpty_last n hnl h.symm]; exact he, fun h => by
          rcases Nat.lt_or_ge (n + 1) xs.length with e | e
          · rw [HK.out e] at h; cases h
          · omega⟩)
        go_wp2
        go_ret
        exact ⟨⟨_, _, _, rfl, hk, HZ.out⟩, HB2.out⟩
      · have HK2 : Hid (n < xs.length → endEmpty empL xs = true) := fun _ => by
          rcases Nat.lt_or_ge (n + 1) xs.length with e | e
          · exact HK.out e
          · rw [endEmpty_last n hnl (by omega)]; exact he
        go_wp2
        go_roundw
        case rel => exact ⟨_, n, rfl, by omega, rfl, HB2, HK2⟩
        case measure => simp [lenOf]

set_option maxHeartbeats 4000000 in
set_option maxRecDepth 100000 in
theorem specSegment_any (n : ByteArray) (u : Value) (x : Flds) (B : Nat) (w : World) (hf : Fits x) (hr : RFlds B w u x) :
    Calls Tryz.prog 55 #[.agg #[.string n, u]] w fun e w' => e = .returned (.bool (segB n x)) ∧ Below w.heap.size w w' := by
  obtain ⟨R, hR⟩ : ∃ R, R = segB n x := ⟨_, rfl⟩
  rw [← hR]
  have HR := hide hR
  have HF := hide hf
  clear hR hf
  obtain ⟨p, cap, rfl, h1, h2, h4⟩ := hr
  unfold maxLen at h2
  have H4 := hide h4
  clear h4
  go_enter Tryz.func55, Tryz.ntmps55
  go_wp2
  go_loopw [4] (fun i wr => ∃ (X : World) (k : Nat), X = wr ∧ k ≤ x.length ∧ i = .int .i64 k ∧ Hid (Below w.heap.size w X) ∧ Hid (Row X w.heap.size 62 [.string n, .slice p x.length cap]) ∧ Hid (∀ j (hj : j < x.length), j < k → fldB x[j] = true)) (fun i _ => x.length - (intOf i).toNat)
  case atStart => exact ⟨_, 0, rfl, Nat.zero_le _, rfl, (Below.refl _ _).alloc (Nat.le_refl _) _, row_new w [.string n, .slice p x.length cap] 62, fun j _ h => absurd h (by omega)⟩
  case round =>
    obtain ⟨X, k, rfl, hk, rfl, HB, HRow, HA⟩ := hrel
    have c0 : X.cell? ⟨w.heap.size, 0, none⟩ = some (.string n) := HRow.out.cell 0
    have c1 : X.cell? ⟨w.heap.size, 1, none⟩ = some (.slice p x.length cap) := HRow.out.cell 1
    by_cases hlt : k < x.length
    · obtain ⟨g, off, hp, hg, _, hc⟩ := H4.out (by omega)
      subst hp
      obtain ⟨v, hv, hrv⟩ := hc k hlt
      have hck : X.cell? ⟨g, off + k, none⟩ = some v := by rw [HB.out.cell (p := ⟨g, off + k, none⟩) hg]; exact hv
      have HRV := hide (hrv.below HB.out)
      obtain ⟨vp, vc, rfl⟩ := hrv.isSlice
      clear hv hrv hc
      go_wp2_with fail
      refine (specField_any _ (x[k]'hlt) B _ (HF.out.2 k hlt).1 (HF.out.2 k hlt).2.1 (HF.out.2 k hlt).2.2 HRV.out).mono ?_
      rintro e w2 ⟨rfl, hb2⟩
      have HB2 := hide (HB.out.trans (hb2.mono HB.out.size))
      have HRow2 := hide (HRow.out.below hb2 HRow.out.lt)
      clear hb2
      cases ho : fldB (x[k]'hlt)
      · have HN := hide (show R = false by rw [HR.out]; exact segB_flds (right_no k hlt ho))
        go_wp2
        go_ret
        exact ⟨ret_boolF HN.out.symm, HB2.out⟩
      · have HA2 := hide (all_succ HA.out (fun _ => ho))
        go_wp2
        go_roundw
        case rel => exact ⟨_, k + 1, rfl, by omega, by go_num, HB2, HRow2, HA2⟩
        case measure => simp [intOf]; omega
    · have HALL := hide (show rightB fldB empL 30 x = (decide (x.length ≤ 30) && !endEmpty empL x) from right_all (fun j hj => HA.out j hj (by omega)))
      go_wp2_with fail
      refine (l04Name_any n _).mono ?_
      rintro e w2 ⟨rfl, rfl⟩
      cases hnm : name3 n
      · have HN := hide (show R = false by rw [HR.out]; exact segB_name hnm)
        go_wp2
        go_ret
        exact ⟨ret_boolF HN.out.symm, HB.out⟩
      by_cases h30 : (x.length : Int) ≤ 30
      · have h30' : x.length ≤ 30 := by omega
        by_cases h0 : (0 : Int) < (x.length : Int)
        · have hz : ((x.length : Int) == 0) = false := beq_eq_false_iff_ne.2 (by omega)
          have h0n : 0 < x.length := by omega
          obtain ⟨q, hq1⟩ : ∃ q, x.length = q + 1 := ⟨x.length - 1, by omega⟩
          have hql : q < x.length := by omega
          have HE := hide (endEmpty_last (emp := empL) q hql hq1)
          obtain ⟨g, off, hp, hg, _, hc⟩ := H4.out (by omega)
          subst hp
          obtain ⟨v, hv, hrv⟩ := hc q hql
          have hck : w2.cell? ⟨g, off + q, none⟩ = some v := by rw [HB.out.cell (p := ⟨g, off + q, none⟩) hg]; exact hv
          have hw1 : IntKind.i64.wrap ((x.length : Int) - 1) = (q : Int) := by rw [show ((x.length : Int) - 1) = (q : Int) by omega]; exact wrap_small _ (by omega) (by omega)
          have hlt1 : (q : Int) < (x.length : Int) := by omega
          obtain ⟨vp, vc, rfl⟩ := hrv.isSlice
          have HNE := hide (show ¬ (n = msh ∧ x.length = 0) from fun h => by omega)
          clear hv hrv hc hq1
          by_cases he : (x[q]'hql).length = 0
          · have he' : ¬ 0 < ((x[q]'hql).length : Int) := by omega
            have HX := hide (show R = false by rw [HR.out]; exact segB_flds (by rw [HALL.out, HE.out]; simp [empL, he]))
            clear he
            go_wp2
            go_ret
            exact ⟨ret_boolF (by rw [HX.out]; first | done | exact decide_eq_false (by omega)), HB.out⟩
          · have he' : 0 < ((x[q]'hql).length : Int) := by omega
            have HX := hide (show R = true by rw [HR.out]; exact segB_yes hnm (by rw [HALL.out, HE.out]; simp [empL, he, h30']) HNE.out)
            clear he
            go_wp2
            go_ret
            exact ⟨ret_boolF (by rw [HX.out]; first | done | exact decide_eq_true (by omega)), HB.out⟩
        · have hz : ((x.length : Int) == 0) = true := beq_iff_eq.2 (by omega)
          have h0n : ¬ 0 < x.length := by omega
          have hx0 : x.length = 0 := by omega
          have HE := hide (endEmpty_nil (emp := empL) hx0)
          by_cases hM : n = msh
          · have HN := hide (show R = false by rw [HR.out]; exact segB_msh hM hx0)
            subst hM
            unfold msh at c0
            clear hx0
            go_wp2
            go_ret
            exact ⟨ret_boolF HN.out.symm, HB.out⟩
          · have hne0 := toList_neF (show n ≠ (⟨#[77, 83, 72]⟩ : ByteArray) from hM)
            have hne : (n.toList == [77, 83, 72]) = false := by simpa using hne0
            clear hne0
            have HX := hide (show R = true by rw [HR.out]; exact segB_yes hnm (by rw [HALL.out, HE.out]; simp [h30']) (fun h => hM h.1))
            clear hx0 hM
            go_wp2
            go_ret
            exact ⟨ret_boolF (by rw [HX.out]; first | done | simpa using hne), HB.out⟩
      · have h30' : ¬ x.length ≤ 30 := by omega
        have HN := hide (show R = false by rw [HR.out]; exact segB_flds (by rw [HALL.out]; simp [h30']))
        go_wp2
        go_ret
        exact ⟨ret_boolF HN.out.symm, HB.out⟩

set_option maxHeartbeats 4000000 in
set_option maxRecDepth 100000 in
theorem implSegment_any (n : ByteArray) (u : Value) (x : Flds) (w : World) (hf : Fits x) (hr : RFlds 0 w u x) :
    Calls Tryz.prog 65 #[.agg #[.string n, u]] w fun e w' => e = .returned (.bool (segB n x)) ∧ Below w.heap.size w w' := by
  obtain ⟨R, hR⟩ : ∃ R, R = segB n x := ⟨_, rfl⟩
  rw [← hR]
  have HR := hide hR
  have HF := hide hf
  clear hR hf
  have HL0 := hide hr
  obtain ⟨p, cap, rfl, h1, h2, h4⟩ := hr
  unfold maxLen at h2
  have H4 := hide h4
  clear h4
  have HB0 := hide ((Below.refl w.heap.size w).alloc (Nat.le_refl _) (.cells #[.string n, .slice p x.length cap] 62))
  have HRow0 := hide (row_new w [.string n, .slice p x.length cap] 62)
  go_enter Tryz.func65, Tryz.ntmps65
  go_wp2_with fail
  refine (nameRight3_any n _).mono ?_
  rintro e w1 ⟨rfl, hb1⟩
  have HB1 := hide (HB0.out.trans (hb1.mono (by simp)))
  have row1 := HRow0.out.below hb1 HRow0.out.lt
  have c0 : w1.cell? ⟨w.heap.size, 0, none⟩ = some (.string n) := row1.cell 0
  have c1 : w1.cell? ⟨w.heap.size, 1, none⟩ = some (.slice p x.length cap) := row1.cell 1
  have HRow1 := hide row1
  have HL1 := hide (HL0.out.below HB1.out)
  clear hb1 row1
  cases hnm : name3 n
  · have HN := hide (show R = false by rw [HR.out]; exact segB_name hnm)
    go_wp2
    go_ret
    exact ⟨ret_boolF HN.out.symm, HB1.out⟩
  by_cases h30 : 30 < (x.length : Int)
  · have HN := hide (show R = false by rw [HR.out]; exact segB_flds (right_many (by omega)))
    go_wp2
    go_ret
    exact ⟨ret_boolF HN.out.symm, HB1.out⟩
  have HSS := hide (show ∀ y, Below w1.heap.size w1 y → y.cell? ⟨w.heap.size, 0, none⟩ = some (.string n) ∧ y.cell? ⟨w.heap.size, 1, none⟩ = some (.slice p x.length cap) ∧ Below w1.heap.size w1 y from
    fun y h => ⟨(HRow1.out.below h HRow1.out.lt).cell 0, (HRow1.out.below h HRow1.out.lt).cell 1, h⟩)
  have HNM := hide hnm
  clear hnm
  by_cases hM : n = msh
  · by_cases hx0 : x.length = 0
    · have HN := hide (show R = false by rw [HR.out]; exact segB_msh hM hx0)
      subst hM
      rw [hx0] at c1 HSS
      unfold msh at *
      go_wp2_with fail
      go_quiet (fail)
      go_wp2
      go_ret
      exact ⟨ret_boolF HN.out.symm, ⟨HB1.out.os, HB1.out.tape, HB1.out.output, HB1.out.size, HB1.out.block⟩⟩
    · have HNE := hide (show ¬ (n = msh ∧ x.length = 0) from fun h => hx0 h.2)
      have hz : ((x.length : Int) == 0) = false := beq_eq_false_iff_ne.2 (by omega)
      subst hM
      unfold msh at c0 HSS HL1
      clear hx0
      go_wp2_with fail
      refine wp_region_held (S := fun y : World => y.cell? ⟨w.heap.size, 0, none⟩ = some (.string ⟨#[77, 83, 72]⟩) ∧ y.cell? ⟨w.heap.size, 1, none⟩ = some (.slice p x.length cap)) (by kernel_rfl) ?_
      have HS := hide (show (fun y : World => y.cell? ⟨w.heap.size, 0, none⟩ = some (.string ⟨#[77, 83, 72]⟩) ∧ y.cell? ⟨w.heap.size, 1, none⟩ = some (.slice p x.length cap)) { w1 with drawn := w1.drawn + 1 } from ⟨(HSS.out _ (Below.refl _ _).drew).1, (HSS.out _ (Below.refl _ _).drew).2.1⟩)
      refine wpAnyH_take (i := 0) (oi := _) (v := .pointer (some ⟨w.heap.size, 0, none⟩)) rfl (by kernel_rfl) (by kernel_rfl) (by kernel_rfl) (fun _ _ _ h => h) (Or.inl ⟨by rfl, by intro w hSw; go_split_ands; go_simp⟩) HS.out ?_
      simp only [Act.put, List.getElem_toArray, List.getElem_cons_zero, List.setIfInBounds_toArray, List.set_cons_zero, List.set_cons_succ]
      refine wpAnyH_take (i := 1) (oi := _) (v := .string ⟨#[77, 83, 72]⟩) rfl (by kernel_rfl) (by kernel_rfl) (by kernel_rfl) (fun _ _ _ h => h) (Or.inl ⟨by rfl, by intro w hSw; go_split_ands; go_simp⟩) HS.out ?_
      simp only [Act.put, List.getElem_toArray, List.getElem_cons_zero, List.getElem_cons_succ, List.setIfInBounds_toArray, List.set_cons_zero, List.set_cons_succ]
      refine wpAnyH_take (i := 2) (oi := _) (v := .bool true) rfl (by kernel_rfl) (by kernel_rfl) (by kernel_rfl) (fun _ _ _ h => h) (Or.inl ⟨by rfl, by intro w hSw; go_split_ands; go_simp⟩) HS.out ?_
      simp only [Act.put, List.getElem_toArray, List.getElem_cons_zero, List.getElem_cons_succ, List.setIfInBounds_toArray, List.set_cons_zero, List.set_cons_succ]
      refine wpAnyH_take (i := 3) (oi := _) (v := .bool true) rfl (by kernel_rfl) (by kernel_rfl) (by kernel_rfl) (fun _ _ _ h => h) (Or.inl ⟨by rfl, by intro w hSw; go_split_ands; go_simp⟩) HS.out ?_
      simp only [Act.put, List.getElem_toArray, List.getElem_cons_zero, List.getElem_cons_succ, List.setIfInBounds_toArray, List.set_cons_zero, List.set_cons_succ]
      refine wpAnyH_take (i := 4) (oi := _) (v := .pointer (some ⟨w.heap.size, 1, none⟩)) rfl (by kernel_rfl) (by kernel_rfl) (by kernel_rfl) (fun _ _ _ h => h) (Or.inl ⟨by rfl, by intro w hSw; go_split_ands; go_simp⟩) HS.out ?_
      simp only [Act.put, List.getElem_toArray, List.getElem_cons_zero, List.getElem_cons_succ, List.setIfInBounds_toArray, List.set_cons_zero, List.set_cons_succ]
      refine wpAnyH_take (i := 5) (oi := _) (v := .slice p x.length cap) rfl (by kernel_rfl) (by kernel_rfl) (by kernel_rfl) (fun _ _ _ h => h) (Or.inl ⟨by rfl, by intro w hSw; go_split_ands; go_simp⟩) HS.out ?_
      simp only [Act.put, List.getElem_toArray, List.getElem_cons_zero, List.getElem_cons_succ, List.setIfInBounds_toArray, List.set_cons_zero, List.set_cons_succ]
      refine wpAnyH_take (i := 6) (oi := _) (v := .int .i64 (x.length : Int)) rfl (by kernel_rfl) (by kernel_rfl) (by kernel_rfl) (fun _ _ _ h => h) (Or.inl ⟨by rfl, by intro w hSw; go_split_ands; go_simp⟩) HS.out ?_
      simp only [Act.put, List.getElem_toArray, List.getElem_cons_zero, List.getElem_cons_succ, List.setIfInBounds_toArray, List.set_cons_zero, List.set_cons_succ]
      refine wpAnyH_take (i := 7) (oi := _) (v := .bool false) rfl (by kernel_rfl) (by kernel_rfl) (by kernel_rfl) (fun _ _ _ h => h) (Or.inl ⟨by rfl, by intro w hSw; go_split_ands; go_simp⟩) HS.out ?_
      simp only [Act.put, List.getElem_toArray, List.getElem_cons_zero, List.getElem_cons_succ, List.setIfInBounds_toArray, List.set_cons_zero, List.set_cons_succ]
      refine wpAnyH_take (i := 8) (oi := _) (v := .bool false) rfl (by kernel_rfl) (by kernel_rfl) (by kernel_rfl) (fun _ _ _ h => h) (Or.inl ⟨by rfl, by intro w hSw; go_split_ands; go_simp⟩) HS.out ?_
      simp only [Act.put, List.getElem_toArray, List.getElem_cons_zero, List.getElem_cons_succ, List.setIfInBounds_toArray, List.set_cons_zero, List.set_cons_succ]
      refine wpAnyH_take (i := 9) (oi := _) (v := .bool false) rfl (by kernel_rfl) (by kernel_rfl) (by kernel_rfl) (fun _ _ _ h => h) (Or.inl ⟨by rfl, by intro w hSw; go_split_ands; go_simp⟩) HS.out ?_
      simp only [Act.put, List.getElem_toArray, List.getElem_cons_zero, List.getElem_cons_succ, List.setIfInBounds_toArray, List.set_cons_zero, List.set_cons_succ]
      refine wpAnyH_take (i := 10) (oi := _) (v := .pointer (some ⟨w.heap.size, 1, none⟩)) rfl (by kernel_rfl) (by kernel_rfl) (by kernel_rfl) (fun _ _ _ h => h) (Or.inl ⟨by rfl, by intro w hSw; go_split_ands; go_simp⟩) HS.out ?_
      simp only [Act.put, List.getElem_toArray, List.getElem_cons_zero, List.getElem_cons_succ, List.setIfInBounds_toArray, List.set_cons_zero, List.set_cons_succ]
      refine wpAnyH_take (i := 11) (oi := _) (v := .slice p x.length cap) rfl (by kernel_rfl) (by kernel_rfl) (by kernel_rfl) (fun _ _ _ h => h) (Or.inl ⟨by rfl, by intro w hSw; go_split_ands; go_simp⟩) HS.out ?_
      simp only [Act.put, List.getElem_toArray, List.getElem_cons_zero, List.getElem_cons_succ, List.setIfInBounds_toArray, List.set_cons_zero, List.set_cons_succ]
      refine wpAnyH_take (i := 12) (oi := _) (v := .int .i64 (x.length : Int)) rfl (by kernel_rfl) (by kernel_rfl) (by kernel_rfl) (fun _ _ _ h => h) (Or.inl ⟨by rfl, by intro w hSw; go_split_ands; go_simp⟩) HS.out ?_
      simp only [Act.put, List.getElem_toArray, List.getElem_cons_zero, List.getElem_cons_succ, List.setIfInBounds_toArray, List.set_cons_zero, List.set_cons_succ]
      refine wpAnyH_take (i := 13) (oi := _) (v := .pointer (some ⟨w.heap.size, 1, none⟩)) rfl (by kernel_rfl) (by kernel_rfl) (by kernel_rfl) (fun _ _ _ h => h) (Or.inl ⟨by rfl, by intro w hSw; go_split_ands; go_simp⟩) HS.out ?_
      simp only [Act.put, List.getElem_toArray, List.getElem_cons_zero, List.getElem_cons_succ, List.setIfInBounds_toArray, List.set_cons_zero, List.set_cons_succ]
      refine wpAnyH_take (i := 14) (oi := _) (v := .slice p x.length cap) rfl (by kernel_rfl) (by kernel_rfl) (by kernel_rfl) (fun _ _ _ h => h) (Or.inl ⟨by rfl, by intro w hSw; go_split_ands; go_simp⟩) HS.out ?_
      simp only [Act.put, List.getElem_toArray, List.getElem_cons_zero, List.getElem_cons_succ, List.setIfInBounds_toArray, List.set_cons_zero, List.set_cons_succ]
      refine wpAnyH_ready (rs := [15]) (by kernel_rfl) (by simp) ?_
      refine AllReadyH.cons (o := _) rfl (fun K hK => ?_) AllReadyH.nil
      go_simp
      refine (leaveOutF_any x HF.out _ _ (HL1.out.below ((Below.refl _ _).drew))).mono ?_
      rintro e w2 ⟨⟨p2, c2, k2, rfl, hk2, hiff⟩, hb2⟩
      have HI := hide hiff
      have HB12 := hide (below_drew hb2)
      have HS2 := hide (show (fun y : World => y.cell? ⟨w.heap.size, 0, none⟩ = some (.string ⟨#[77, 83, 72]⟩) ∧ y.cell? ⟨w.heap.size, 1, none⟩ = some (.slice p x.length cap)) w2 from ⟨(HSS.out _ HB12.out).1, (HSS.out _ HB12.out).2.1⟩)
      clear hiff hb2
      refine hK.out _ _ HS2.out (fun _ => ?_)
      clear hK K
      clear HS
      have HS := HS2
      clear HS2
      refine wpAnyH_take (i := 16) (oi := _) (v := .int .i64 (k2 : Int)) rfl (by kernel_rfl) (by kernel_rfl) (by kernel_rfl) (fun _ _ _ h => h) (Or.inl ⟨by rfl, by intro w hSw; go_split_ands; go_simp⟩) HS.out ?_
      simp only [Act.put, List.getElem_toArray, List.getElem_cons_zero, List.getElem_cons_succ, List.setIfInBounds_toArray, List.set_cons_zero, List.set_cons_succ]
      by_cases hke : k2 = x.length
      · have HEE := hide (HI.out.1 hke)
        have hnb : ((x.length : Int) != (k2 : Int)) = false := by rw [hke]; simp
        refine wpAnyH_take (i := 17) (oi := _) (v := .bool false) rfl (by kernel_rfl) (by kernel_rfl) (by kernel_rfl) (fun _ _ _ h => h) (Or.inl ⟨by rfl, by intro w hSw; go_split_ands; go_simp⟩) HS.out ?_
        simp only [Act.put, List.getElem_toArray, List.getElem_cons_zero, List.getElem_cons_succ, List.setIfInBounds_toArray, List.set_cons_zero, List.set_cons_succ]
        refine wpAnyH_take (i := 18) (oi := _) (v := .bool false) rfl (by kernel_rfl) (by kernel_rfl) (by kernel_rfl) (fun _ _ _ h => h) (Or.inl ⟨by rfl, by intro w hSw; go_split_ands; go_simp⟩) HS.out ?_
        simp only [Act.put, List.getElem_toArray, List.getElem_cons_zero, List.getElem_cons_succ, List.setIfInBounds_toArray, List.set_cons_zero, List.set_cons_succ]
        refine wpAnyH_done (by kernel_rfl) ?_ _
        have HB2 := hide (HB1.out.trans (HB12.out.mono HB1.out.size))
        have row2 := HRow1.out.below HB12.out HRow1.out.lt
        have d1 : w2.cell? ⟨w.heap.size, 1, none⟩ = some (.slice p x.length cap) := row2.cell 1
        have hl30 : x.length ≤ 30 := by omega
        clear hke hnb HS row2 c0 c1
        go_wp2_with fail
        go_loopw [37] (fun i wr => ∃ (X : World) (k : Nat), X = wr ∧ k ≤ x.length ∧ i = .int .i64 k ∧ Hid (Below w.heap.size w X) ∧ Hid (∀ j (hj : j < x.length), j < k → fldB x[j] = true)) (fun i _ => x.length - (intOf i).toNat)
        case atStart => exact ⟨_, 0, rfl, Nat.zero_le _, rfl, HB2, fun j _ h => absurd h (by omega)⟩
        case round =>
          obtain ⟨X, k, rfl, hk, rfl, HB, HA⟩ := hrel
          by_cases hlt : k < x.length
          · obtain ⟨g, off, hp, hg, _, hc⟩ := H4.out (by omega)
            subst hp
            obtain ⟨v, hv, hrv⟩ := hc k hlt
            have hck : X.cell? ⟨g, off + k, none⟩ = some v := by rw [HB.out.cell (p := ⟨g, off + k, none⟩) hg]; exact hv
            obtain ⟨vp, vc, rfl⟩ := hrv.isSlice
            have hXa : Below w.heap.size w (X.alloc (.cells #[.slice vp (x[k]'hlt).length vc] 76)) := HB.out.alloc HB.out.size _
            have HXA := hide hXa
            have HRV := hide (hrv.below hXa)
            clear hv hrv hc hXa
            go_wp2_with fail
            refine (implFieldRight_any _ (x[k]'hlt) _ (HF.out.2 k hlt).1 (HF.out.2 k hlt).2.1 (HF.out.2 k hlt).2.2 HRV.out).mono ?_
            rintro e w3 ⟨rfl, hb3⟩
            have HB3 := hide (HXA.out.trans (hb3.mono HXA.out.size))
            clear hb3
            cases ho : fldB (x[k]'hlt)
            · have HN := hide (show R = false by rw [HR.out]; exact segB_flds (right_no k hlt ho))
              go_wp2
              go_ret
              exact ⟨ret_boolF HN.out.symm, HB3.out⟩
            · have HA2 := hide (all_succ HA.out (fun _ => ho))
              go_wp2
              go_roundw
              case rel => exact ⟨_, k + 1, rfl, by omega, by go_num, HB3, HA2⟩
              case measure => simp [intOf]; omega
          · have HY := hide (show R = true by rw [HR.out]; exact segB_yes HNM.out (right_yes hl30 HEE.out (fun j hj => HA.out j hj (by omega))) (by first | exact HNE.out | simpa using HNE.out))
            go_wp2
            go_ret
            exact ⟨ret_boolF HY.out.symm, HB.out⟩
      · have hnb : ((x.length : Int) != (k2 : Int)) = true := by simp; omega
        refine wpAnyH_take (i := 17) (oi := _) (v := .bool true) rfl (by kernel_rfl) (by kernel_rfl) (by kernel_rfl) (fun _ _ _ h => h) (Or.inl ⟨by rfl, by intro w hSw; go_split_ands; go_simp⟩) HS.out ?_
        simp only [Act.put, List.getElem_toArray, List.getElem_cons_zero, List.getElem_cons_succ, List.setIfInBounds_toArray, List.set_cons_zero, List.set_cons_succ]
        refine wpAnyH_take (i := 18) (oi := _) (v := .bool true) rfl (by kernel_rfl) (by kernel_rfl) (by kernel_rfl) (fun _ _ _ h => h) (Or.inl ⟨by rfl, by intro w hSw; go_split_ands; go_simp⟩) HS.out ?_
        simp only [Act.put, List.getElem_toArray, List.getElem_cons_zero, List.getElem_cons_succ, List.setIfInBounds_toArray, List.set_cons_zero, List.set_cons_succ]
        refine wpAnyH_done (by kernel_rfl) ?_ _
        have HN := hide (show R = false by
          rw [HR.out]
          refine segB_flds (right_end ?_)
          cases h : endEmpty empL x
          · exact absurd (HI.out.2 h) hke
          · rfl)
        clear hke hnb HS
        go_wp2
        go_ret
        exact ⟨ret_boolF HN.out.symm, HB1.out.trans (HB12.out.mono HB1.out.size)⟩
  · have HNE := hide (show ¬ (n = msh ∧ x.length = 0) from fun h => hM h.1)
    have hne0 := toList_neF (show n ≠ (⟨#[77, 83, 72]⟩ : ByteArray) from hM)
    have hne : (n.toList == [77, 83, 72]) = false := by simpa using hne0
    clear hne0 hM
    go_wp2_with fail
    refine wp_region_held (S := fun y : World => y.cell? ⟨w.heap.size, 0, none⟩ = some (.string n) ∧ y.cell? ⟨w.heap.size, 1, none⟩ = some (.slice p x.length cap)) (by kernel_rfl) ?_
    have HS := hide (show (fun y : World => y.cell? ⟨w.heap.size, 0, none⟩ = some (.string n) ∧ y.cell? ⟨w.heap.size, 1, none⟩ = some (.slice p x.length cap)) { w1 with drawn := w1.drawn + 1 } from ⟨(HSS.out _ (Below.refl _ _).drew).1, (HSS.out _ (Below.refl _ _).drew).2.1⟩)
    refine wpAnyH_take (i := 0) (oi := _) (v := .pointer (some ⟨w.heap.size, 0, none⟩)) rfl (by kernel_rfl) (by kernel_rfl) (by kernel_rfl) (fun _ _ _ h => h) (Or.inl ⟨by rfl, by intro w hSw; go_split_ands; go_simp⟩) HS.out ?_
    simp only [Act.put, List.getElem_toArray, List.getElem_cons_zero, List.setIfInBounds_toArray, List.set_cons_zero, List.set_cons_succ]
    refine wpAnyH_take (i := 1) (oi := _) (v := .string n) rfl (by kernel_rfl) (by kernel_rfl) (by kernel_rfl) (fun _ _ _ h => h) (Or.inl ⟨by rfl, by intro w hSw; go_split_ands; go_simp⟩) HS.out ?_
    simp only [Act.put, List.getElem_toArray, List.getElem_cons_zero, List.getElem_cons_succ, List.setIfInBounds_toArray, List.set_cons_zero, List.set_cons_succ]
    refine wpAnyH_take (i := 2) (oi := _) (v := .bool false) rfl (by kernel_rfl) (by kernel_rfl) (by kernel_rfl) (fun _ _ _ h => h) (Or.inl ⟨by rfl, by intro w hSw; go_split_ands; go_simp⟩) HS.out ?_
    simp only [Act.put, List.getElem_toArray, List.getElem_cons_zero, List.getElem_cons_succ, List.setIfInBounds_toArray, List.set_cons_zero, List.set_cons_succ]
    refine wpAnyH_take (i := 3) (oi := _) (v := .bool false) rfl (by kernel_rfl) (by kernel_rfl) (by kernel_rfl) (fun _ _ _ h => h) (Or.inl ⟨by rfl, by intro w hSw; go_split_ands; go_simp⟩) HS.out ?_
    simp only [Act.put, List.getElem_toArray, List.getElem_cons_zero, List.getElem_cons_succ, List.setIfInBounds_toArray, List.set_cons_zero, List.set_cons_succ]
    refine wpAnyH_take (i := 4) (oi := _) (v := undef) rfl (by kernel_rfl) (by kernel_rfl) (by kernel_rfl) (fun _ _ _ h => h) (Or.inr ⟨by rfl, rfl⟩) HS.out ?_
    simp only [Act.put, List.getElem_toArray, List.getElem_cons_zero, List.getElem_cons_succ, List.setIfInBounds_toArray, List.set_cons_zero, List.set_cons_succ]
    refine wpAnyH_take (i := 5) (oi := _) (v := undef) rfl (by kernel_rfl) (by kernel_rfl) (by kernel_rfl) (fun _ _ _ h => h) (Or.inr ⟨by rfl, rfl⟩) HS.out ?_
    simp only [Act.put, List.getElem_toArray, List.getElem_cons_zero, List.getElem_cons_succ, List.setIfInBounds_toArray, List.set_cons_zero, List.set_cons_succ]
    refine wpAnyH_take (i := 6) (oi := _) (v := undef) rfl (by kernel_rfl) (by kernel_rfl) (by kernel_rfl) (fun _ _ _ h => h) (Or.inr ⟨by rfl, rfl⟩) HS.out ?_
    simp only [Act.put, List.getElem_toArray, List.getElem_cons_zero, List.getElem_cons_succ, List.setIfInBounds_toArray, List.set_cons_zero, List.set_cons_succ]
    refine wpAnyH_take (i := 7) (oi := _) (v := undef) rfl (by kernel_rfl) (by kernel_rfl) (by kernel_rfl) (fun _ _ _ h => h) (Or.inr ⟨by rfl, rfl⟩) HS.out ?_
    simp only [Act.put, List.getElem_toArray, List.getElem_cons_zero, List.getElem_cons_succ, List.setIfInBounds_toArray, List.set_cons_zero, List.set_cons_succ]
    refine wpAnyH_take (i := 8) (oi := _) (v := .bool false) rfl (by kernel_rfl) (by kernel_rfl) (by kernel_rfl) (fun _ _ _ h => h) (Or.inl ⟨by rfl, by intro w hSw; go_split_ands; go_simp⟩) HS.out ?_
    simp only [Act.put, List.getElem_toArray, List.getElem_cons_zero, List.getElem_cons_succ, List.setIfInBounds_toArray, List.set_cons_zero, List.set_cons_succ]
    refine wpAnyH_take (i := 9) (oi := _) (v := .bool false) rfl (by kernel_rfl) (by kernel_rfl) (by kernel_rfl) (fun _ _ _ h => h) (Or.inl ⟨by rfl, by intro w hSw; go_split_ands; go_simp⟩) HS.out ?_
    simp only [Act.put, List.getElem_toArray, List.getElem_cons_zero, List.getElem_cons_succ, List.setIfInBounds_toArray, List.set_cons_zero, List.set_cons_succ]
    refine wpAnyH_take (i := 10) (oi := _) (v := .pointer (some ⟨w.heap.size, 1, none⟩)) rfl (by kernel_rfl) (by kernel_rfl) (by kernel_rfl) (fun _ _ _ h => h) (Or.inl ⟨by rfl, by intro w hSw; go_split_ands; go_simp⟩) HS.out ?_
    simp only [Act.put, List.getElem_toArray, List.getElem_cons_zero, List.getElem_cons_succ, List.setIfInBounds_toArray, List.set_cons_zero, List.set_cons_succ]
    refine wpAnyH_take (i := 11) (oi := _) (v := .slice p x.length cap) rfl (by kernel_rfl) (by kernel_rfl) (by kernel_rfl) (fun _ _ _ h => h) (Or.inl ⟨by rfl, by intro w hSw; go_split_ands; go_simp⟩) HS.out ?_
    simp only [Act.put, List.getElem_toArray, List.getElem_cons_zero, List.getElem_cons_succ, List.setIfInBounds_toArray, List.set_cons_zero, List.set_cons_succ]
    refine wpAnyH_take (i := 12) (oi := _) (v := .int .i64 (x.length : Int)) rfl (by kernel_rfl) (by kernel_rfl) (by kernel_rfl) (fun _ _ _ h => h) (Or.inl ⟨by rfl, by intro w hSw; go_split_ands; go_simp⟩) HS.out ?_
    simp only [Act.put, List.getElem_toArray, List.getElem_cons_zero, List.getElem_cons_succ, List.setIfInBounds_toArray, List.set_cons_zero, List.set_cons_succ]
    refine wpAnyH_take (i := 13) (oi := _) (v := .pointer (some ⟨w.heap.size, 1, none⟩)) rfl (by kernel_rfl) (by kernel_rfl) (by kernel_rfl) (fun _ _ _ h => h) (Or.inl ⟨by rfl, by intro w hSw; go_split_ands; go_simp⟩) HS.out ?_
    simp only [Act.put, List.getElem_toArray, List.getElem_cons_zero, List.getElem_cons_succ, List.setIfInBounds_toArray, List.set_cons_zero, List.set_cons_succ]
    refine wpAnyH_take (i := 14) (oi := _) (v := .slice p x.length cap) rfl (by kernel_rfl) (by kernel_rfl) (by kernel_rfl) (fun _ _ _ h => h) (Or.inl ⟨by rfl, by intro w hSw; go_split_ands; go_simp⟩) HS.out ?_
    simp only [Act.put, List.getElem_toArray, List.getElem_cons_zero, List.getElem_cons_succ, List.setIfInBounds_toArray, List.set_cons_zero, List.set_cons_succ]
    refine wpAnyH_ready (rs := [15]) (by kernel_rfl) (by simp) ?_
    refine AllReadyH.cons (o := _) rfl (fun K hK => ?_) AllReadyH.nil
    go_simp
    refine (leaveOutF_any x HF.out _ _ (HL1.out.below ((Below.refl _ _).drew))).mono ?_
    rintro e w2 ⟨⟨p2, c2, k2, rfl, hk2, hiff⟩, hb2⟩
    have HI := hide hiff
    have HB12 := hide (below_drew hb2)
    have HS2 := hide (show (fun y : World => y.cell? ⟨w.heap.size, 0, none⟩ = some (.string n) ∧ y.cell? ⟨w.heap.size, 1, none⟩ = some (.slice p x.length cap)) w2 from ⟨(HSS.out _ HB12.out).1, (HSS.out _ HB12.out).2.1⟩)
    clear hiff hb2
    refine hK.out _ _ HS2.out (fun _ => ?_)
    clear hK K
    clear HS
    have HS := HS2
    clear HS2
    refine wpAnyH_take (i := 16) (oi := _) (v := .int .i64 (k2 : Int)) rfl (by kernel_rfl) (by kernel_rfl) (by kernel_rfl) (fun _ _ _ h => h) (Or.inl ⟨by rfl, by intro w hSw; go_split_ands; go_simp⟩) HS.out ?_
    simp only [Act.put, List.getElem_toArray, List.getElem_cons_zero, List.getElem_cons_succ, List.setIfInBounds_toArray, List.set_cons_zero, List.set_cons_succ]
    by_cases hke : k2 = x.length
    · have HEE := hide (HI.out.1 hke)
      have hnb : ((x.length : Int) != (k2 : Int)) = false := by rw [hke]; simp
      refine wpAnyH_take (i := 17) (oi := _) (v := .bool false) rfl (by kernel_rfl) (by kernel_rfl) (by kernel_rfl) (fun _ _ _ h => h) (Or.inl ⟨by rfl, by intro w hSw; go_split_ands; go_simp⟩) HS.out ?_
      simp only [Act.put, List.getElem_toArray, List.getElem_cons_zero, List.getElem_cons_succ, List.setIfInBounds_toArray, List.set_cons_zero, List.set_cons_succ]
      refine wpAnyH_take (i := 18) (oi := _) (v := .bool false) rfl (by kernel_rfl) (by kernel_rfl) (by kernel_rfl) (fun _ _ _ h => h) (Or.inl ⟨by rfl, by intro w hSw; go_split_ands; go_simp⟩) HS.out ?_
      simp only [Act.put, List.getElem_toArray, List.getElem_cons_zero, List.getElem_cons_succ, List.setIfInBounds_toArray, List.set_cons_zero, List.set_cons_succ]
      refine wpAnyH_done (by kernel_rfl) ?_ _
      have HB2 := hide (HB1.out.trans (HB12.out.mono HB1.out.size))
      have row2 := HRow1.out.below HB12.out HRow1.out.lt
      have d1 : w2.cell? ⟨w.heap.size, 1, none⟩ = some (.slice p x.length cap) := row2.cell 1
      have hl30 : x.length ≤ 30 := by omega
      clear hke hnb HS row2 c0 c1
      go_wp2_with fail
      go_loopw [37] (fun i wr => ∃ (X : World) (k : Nat), X = wr ∧ k ≤ x.length ∧ i = .int .i64 k ∧ Hid (Below w.heap.size w X) ∧ Hid (∀ j (hj : j < x.length), j < k → fldB x[j] = true)) (fun i _ => x.length - (intOf i).toNat)
      case atStart => exact ⟨_, 0, rfl, Nat.zero_le _, rfl, HB2, fun j _ h => absurd h (by omega)⟩
      case round =>
        obtain ⟨X, k, rfl, hk, rfl, HB, HA⟩ := hrel
        by_cases hlt : k < x.length
        · obtain ⟨g, off, hp, hg, _, hc⟩ := H4.out (by omega)
          subst hp
          obtain ⟨v, hv, hrv⟩ := hc k hlt
          have hck : X.cell? ⟨g, off + k, none⟩ = some v := by rw [HB.out.cell (p := ⟨g, off + k, none⟩) hg]; exact hv
          obtain ⟨vp, vc, rfl⟩ := hrv.isSlice
          have hXa : Below w.heap.size w (X.alloc (.cells #[.slice vp (x[k]'hlt).length vc] 76)) := HB.out.alloc HB.out.size _
          have HXA := hide hXa
          have HRV := hide (hrv.below hXa)
          clear hv hrv hc hXa
          go_wp2_with fail
          refine (implFieldRight_any _ (x[k]'hlt) _ (HF.out.2 k hlt).1 (HF.out.2 k hlt).2.1 (HF.out.2 k hlt).2.2 HRV.out).mono ?_
          rintro e w3 ⟨rfl, hb3⟩
          have HB3 := hide (HXA.out.trans (hb3.mono HXA.out.size))
          clear hb3
          cases ho : fldB (x[k]'hlt)
          · have HN := hide (show R = false by rw [HR.out]; exact segB_flds (right_no k hlt ho))
            go_wp2
            go_ret
            exact ⟨ret_boolF HN.out.symm, HB3.out⟩
          · have HA2 := hide (all_succ HA.out (fun _ => ho))
            go_wp2
            go_roundw
            case rel => exact ⟨_, k + 1, rfl, by omega, by go_num, HB3, HA2⟩
            case measure => simp [intOf]; omega
        · have HY := hide (show R = true by rw [HR.out]; exact segB_yes HNM.out (right_yes hl30 HEE.out (fun j hj => HA.out j hj (by omega))) (by first | exact HNE.out | simpa using HNE.out))
          go_wp2
          go_ret
          exact ⟨ret_boolF HY.out.symm, HB.out⟩
    · have hnb : ((x.length : Int) != (k2 : Int)) = true := by simp; omega
      refine wpAnyH_take (i := 17) (oi := _) (v := .bool true) rfl (by kernel_rfl) (by kernel_rfl) (by kernel_rfl) (fun _ _ _ h => h) (Or.inl ⟨by rfl, by intro w hSw; go_split_ands; go_simp⟩) HS.out ?_
      simp only [Act.put, List.getElem_toArray, List.getElem_cons_zero, List.getElem_cons_succ, List.setIfInBounds_toArray, List.set_cons_zero, List.set_cons_succ]
      refine wpAnyH_take (i := 18) (oi := _) (v := .bool true) rfl (by kernel_rfl) (by kernel_rfl) (by kernel_rfl) (fun _ _ _ h => h) (Or.inl ⟨by rfl, by intro w hSw; go_split_ands; go_simp⟩) HS.out ?_
      simp only [Act.put, List.getElem_toArray, List.getElem_cons_zero, List.getElem_cons_succ, List.setIfInBounds_toArray, List.set_cons_zero, List.set_cons_succ]
      refine wpAnyH_done (by kernel_rfl) ?_ _
      have HN := hide (show R = false by
        rw [HR.out]
        refine segB_flds (right_end ?_)
        cases h : endEmpty empL x
        · exact absurd (HI.out.2 h) hke
        · rfl)
      clear hke hnb HS
      go_wp2
      go_ret
      exact ⟨ret_boolF HN.out.symm, HB1.out.trans (HB12.out.mono HB1.out.size)⟩
end Go.Proofs.YtolgjdnhhbbebaaGreatDoor
/- MessageRight of the model and of the program. -/
namespace Go.Proofs.YtolgjdnhhbbebaaGreatDoor
open Go.RowKit
/-- Is the Segment at k right, and MSH just if it is the first one? -/
def okSeg (xs : List Seg) (k : Nat) : Bool := if h : k < xs.length then segB xs[k].1 xs[k].2 && (decide (xs[k].1 = msh) == decide (k = 0)) else true
def msgB (m : ByteArray) (xs : List Seg) : Bool := marksB m && decide (1 ≤ xs.length ∧ xs.length ≤ 20) && (List.range xs.length).all (okSeg xs)
theorem msgB_marks {m : ByteArray} {xs : List Seg} (h : marksB m = false) : msgB m xs = false := by simp [msgB, h]
theorem msgB_len {m : ByteArray} {xs : List Seg} (h : ¬ (1 ≤ xs.length ∧ xs.length ≤ 20)) : msgB m xs = false := by
  have : decide (1 ≤ xs.length ∧ xs.length ≤ 20) = false := decide_eq_false h
  simp only [msgB, this, Bool.and_false, Bool.false_and]
theorem msgB_no {m : ByteArray} {xs : List Seg} (k : Nat) (hk : k < xs.length) (h : okSeg xs k = false) : msgB m xs = false := by
  have : (List.range xs.length).all (okSeg xs) = false := List.all_eq_false.2 ⟨k, List.mem_range.2 hk, by simp [h]⟩
  simp [msgB, this]
theorem msgB_yes {m : ByteArray} {xs : List Seg} (h1 : marksB m = true) (h2 : 1 ≤ xs.length ∧ xs.length ≤ 20) (h : ∀ j, j < xs.length → okSeg xs j = true) : msgB m xs = true := by
  have : (List.range xs.length).all (okSeg xs) = true := List.all_eq_true.2 fun j hj => h j (List.mem_range.1 hj)
  simp [msgB, this, h1, h2]
theorem okSeg_eq (xs : List Seg) (k : Nat) (h : k < xs.length) : okSeg xs k = (segB xs[k].1 xs[k].2 && (decide (xs[k].1 = msh) == decide (k = 0))) := by simp [okSeg, h]
theorem okSeg_succ (xs : List Seg) (k : Nat) (h : ∀ j, j < k → okSeg xs j = true) (hk : okSeg xs k = true) : ∀ j, j < k + 1 → okSeg xs j = true := by
  intro j hj
  by_cases e : j = k
  · rw [e]; exact hk
  · exact h j (by omega)
def FitsM (xs : List Seg) : Prop := xs.length ≤ 1048576 ∧ ∀ i (h : i < xs.length), Fits xs[i].2
theorem fitsM_of {xs : List Seg} (h : wSegs xs ≤ 1048576) : FitsM xs := ⟨(wSegs_mem h).1, fun i hi => fits_of ((wSegs_mem h).2 i hi).1⟩
/-- The two tests of a Segment's Name, as the walks meet them. -/
theorem name_tests (n : ByteArray) (k : Nat) : ∃ x y : Bool, (n.toList == [77, 83, 72]) = x ∧ ((k : Int) == 0) = y ∧ (decide (n = msh) == decide (k = 0)) = (x == y) := by
  refine ⟨_, _, rfl, rfl, ?_⟩
  have e1 : (n.toList == [77, 83, 72]) = decide (n = msh) := by
    by_cases h : n = msh
    · subst h; unfold msh; simp
    · have h0 := toList_neF (show n ≠ (⟨#[77, 83, 72]⟩ : ByteArray) from h)
      have h1 : (n.toList == [77, 83, 72]) = false := by simpa using h0
      rw [h1, decide_eq_false h]
  have e2 : ((k : Int) == 0) = decide (k = 0) := by
    by_cases h : k = 0
    · subst h; simp
    · rw [decide_eq_false h]; exact beq_eq_false_iff_ne.2 (by omega)
  rw [e1, e2]

set_option maxHeartbeats 4000000 in
set_option maxRecDepth 100000 in
theorem specMessage_any (m : ByteArray) (u : Value) (x : List Seg) (B : Nat) (w : World) (hm : m.size ≤ maxLen) (hf : FitsM x) (hr : RSegs B w u x) :
    Calls Tryz.prog 36 #[.agg #[.string m, u]] w fun e w' => e = .returned (.bool (msgB m x)) ∧ Below w.heap.size w w' := by
  obtain ⟨R, hR⟩ : ∃ R, R = msgB m x := ⟨_, rfl⟩
  rw [← hR]
  have HR := hide hR
  have HF := hide hf
  clear hR hf
  obtain ⟨p, cap, rfl, h1, h2, h4⟩ := hr
  unfold maxLen at h2
  have H4 := hide h4
  clear h4
  have HB0 := hide ((Below.refl w.heap.size w).alloc (Nat.le_refl _) (.cells #[.string m, .slice p x.length cap] 42))
  have HRow0 := hide (row_new w [.string m, .slice p x.length cap] 42)
  go_enter Tryz.func36, Tryz.ntmps36
  go_wp2_with fail
  refine (specMarksRight_any _ _ hm).mono ?_
  rintro e w' ⟨rfl, rfl⟩
  cases hq : marksB m
  · have HN := hide (show R = false by rw [HR.out]; exact msgB_marks hq)
    go_wp2
    go_ret
    exact ⟨ret_boolF HN.out.symm, HB0.out⟩
  by_cases hl1 : (x.length : Int) < 1
  · have HN := hide (show R = false by rw [HR.out]; exact msgB_len (by omega))
    go_wp2
    go_ret
    exact ⟨ret_boolF HN.out.symm, HB0.out⟩
  by_cases hl2 : 20 < (x.length : Int)
  · have HN := hide (show R = false by rw [HR.out]; exact msgB_len (by omega))
    go_wp2
    go_ret
    exact ⟨ret_boolF HN.out.symm, HB0.out⟩
  have HLL := hide (show 1 ≤ x.length ∧ x.length ≤ 20 by omega)
  go_wp2
  go_loopw [4] (fun i wr => ∃ (X : World) (k : Nat), X = wr ∧ k ≤ x.length ∧ i = .int .i64 k ∧ Hid (Below w.heap.size w X) ∧ Hid (Row X w.heap.size 42 [.string m, .slice p x.length cap]) ∧ Hid (∀ j, j < k → okSeg x j = true)) (fun i _ => x.length - (intOf i).toNat)
  case atStart => exact ⟨_, 0, rfl, Nat.zero_le _, rfl, HB0, HRow0, fun j h => absurd h (by omega)⟩
  case round =>
    obtain ⟨X, k, rfl, hk, rfl, HB, HRow, HA⟩ := hrel
    have c1 : X.cell? ⟨w.heap.size, 1, none⟩ = some (.slice p x.length cap) := HRow.out.cell 1
    by_cases hlt : k < x.length
    · obtain ⟨g, off, hp, hg, _, hc⟩ := H4.out (by omega)
      subst hp
      obtain ⟨ha, _, v, hv, hrv⟩ := hc k hlt
      have hk0 := (HB.out.cell (p := ⟨g, off + k * 2, none⟩) hg).trans ha
      have hk1 := (HB.out.cell (p := ⟨g, off + k * 2 + 1, none⟩) hg).trans hv
      have HAA := hide ha
      have HRV := hide (hrv.below HB.out)
      obtain ⟨vp, vc, rfl⟩ := hrv.isSlice
      have HO := hide (okSeg_eq x k hlt)
      clear hv hrv hc ha
      go_wp2_with fail
      refine (specSegment_any (x[k]'hlt).1 _ (x[k]'hlt).2 B _ (HF.out.2 k hlt) HRV.out).mono ?_
      rintro e w2 ⟨rfl, hb2⟩
      have HB2 := hide (HB.out.trans (hb2.mono HB.out.size))
      have HRow2 := hide (HRow.out.below hb2 HRow.out.lt)
      have d1 : w2.cell? ⟨w.heap.size, 1, none⟩ = some (.slice (some ⟨g, off, none⟩) x.length cap) := HRow2.out.cell 1
      have e0 := (HB2.out.cell (p := ⟨g, off + k * 2, none⟩) hg).trans HAA.out
      clear hb2 hk0 hk1 c1
      cases ho : segB (x[k]'hlt).1 (x[k]'hlt).2
      · have HN := hide (show R = false by rw [HR.out]; exact msgB_no k hlt (by rw [HO.out, ho]; rfl))
        go_wp2
        go_ret
        exact ⟨ret_boolF HN.out.symm, HB2.out⟩
      · obtain ⟨tx, ty, t1, t2, t3⟩ := name_tests (x[k]'hlt).1 k
        have HT3 := hide (show okSeg x k = (tx == ty) by rw [HO.out, ho, t3]; rfl)
        clear t3
        cases tx <;> cases ty
        · have HA2 := hide (okSeg_succ x k HA.out (by rw [HT3.out]; rfl))
          go_wp2
          go_roundw
          case rel => exact ⟨_, k + 1, rfl, by omega, by go_num, HB2, HRow2, HA2⟩
          case measure => simp [intOf]; omega
        · have HN := hide (show R = false by rw [HR.out]; exact msgB_no k hlt (by rw [HT3.out]; rfl))
          go_wp2
          go_ret
          exact ⟨ret_boolF HN.out.symm, HB2.out⟩
        · have HN := hide (show R = false by rw [HR.out]; exact msgB_no k hlt (by rw [HT3.out]; rfl))
          go_wp2
          go_ret
          exact ⟨ret_boolF HN.out.symm, HB2.out⟩
        · have HA2 := hide (okSeg_succ x k HA.out (by rw [HT3.out]; rfl))
          go_wp2
          go_roundw
          case rel => exact ⟨_, k + 1, rfl, by omega, by go_num, HB2, HRow2, HA2⟩
          case measure => simp [intOf]; omega
    · have HY := hide (show R = true by rw [HR.out]; exact msgB_yes hq HLL.out (fun j hj => HA.out j (by omega)))
      go_wp2
      go_ret
      exact ⟨ret_boolF HY.out.symm, HB.out⟩

set_option maxHeartbeats 4000000 in
set_option maxRecDepth 100000 in
theorem implMessage_any (m : ByteArray) (u : Value) (x : List Seg) (w : World) (hm : m.size ≤ maxLen) (hf : FitsM x) (hr : RSegs 0 w u x) :
    Calls Tryz.prog 46 #[.agg #[.string m, u]] w fun e w' => e = .returned (.bool (msgB m x)) ∧ Below w.heap.size w w' := by
  obtain ⟨R, hR⟩ : ∃ R, R = msgB m x := ⟨_, rfl⟩
  rw [← hR]
  have HR := hide hR
  have HF := hide hf
  clear hR hf
  obtain ⟨p, cap, rfl, h1, h2, h4⟩ := hr
  unfold maxLen at h2
  have H4 := hide h4
  clear h4
  have HB0 := hide ((Below.refl w.heap.size w).alloc (Nat.le_refl _) (.cells #[.string m, .slice p x.length cap] 42))
  have HRow0 := hide (row_new w [.string m, .slice p x.length cap] 42)
  go_enter Tryz.func46, Tryz.ntmps46
  go_wp2_with fail
  refine (implMarksRight_any _ _ hm).mono ?_
  rintro e w1 ⟨rfl, hb1⟩
  have HB1 := hide (HB0.out.trans (hb1.mono (by simp)))
  have row1 := HRow0.out.below hb1 HRow0.out.lt
  have c1 : w1.cell? ⟨w.heap.size, 1, none⟩ = some (.slice p x.length cap) := row1.cell 1
  clear hb1 row1
  cases hq : marksB m
  · have HN := hide (show R = false by rw [HR.out]; exact msgB_marks hq)
    go_wp2
    go_ret
    exact ⟨ret_boolF HN.out.symm, HB1.out⟩
  by_cases hl1 : (x.length : Int) < 1
  · have HN := hide (show R = false by rw [HR.out]; exact msgB_len (by omega))
    go_wp2
    go_ret
    exact ⟨ret_boolF HN.out.symm, HB1.out⟩
  by_cases hl2 : 20 < (x.length : Int)
  · have HN := hide (show R = false by rw [HR.out]; exact msgB_len (by omega))
    go_wp2
    go_ret
    exact ⟨ret_boolF HN.out.symm, HB1.out⟩
  have HLL := hide (show 1 ≤ x.length ∧ x.length ≤ 20 by omega)
  go_wp2_with fail
  go_loopw [24] (fun i wr => ∃ (X : World) (k : Nat), X = wr ∧ k ≤ x.length ∧ i = .int .i64 k ∧ Hid (Below w.heap.size w X) ∧ Hid (∀ j, j < k → okSeg x j = true)) (fun i _ => x.length - (intOf i).toNat)
  case atStart => exact ⟨_, 0, rfl, Nat.zero_le _, rfl, HB1, fun j h => absurd h (by omega)⟩
  case round =>
    obtain ⟨X, k, rfl, hk, rfl, HB, HA⟩ := hrel
    by_cases hlt : k < x.length
    · obtain ⟨g, off, hp, hg, _, hc⟩ := H4.out (by omega)
      subst hp
      obtain ⟨ha, _, v, hv, hrv⟩ := hc k hlt
      have hk0 := (HB.out.cell (p := ⟨g, off + k * 2, none⟩) hg).trans ha
      have hk1 := (HB.out.cell (p := ⟨g, off + k * 2 + 1, none⟩) hg).trans hv
      obtain ⟨vp, vc, rfl⟩ := hrv.isSlice
      have hXa : Below w.heap.size w (X.alloc (.cells #[.string (x[k]'hlt).1, .slice vp (x[k]'hlt).2.length vc] 62)) := HB.out.alloc HB.out.size _
      have HXA := hide hXa
      have HRV := hide (hrv.below hXa)
      have HO := hide (okSeg_eq x k hlt)
      clear hv hrv hc ha hXa
      obtain ⟨tx, ty, t1, t2, t3⟩ := name_tests (x[k]'hlt).1 k
      have HT3 := hide t3
      clear t3
      by_cases hxy : tx = ty
      · have hnb : (tx != ty) = false := by rw [hxy]; simp
        subst hxy
        cases tx
        all_goals
          go_wp2_with fail
          refine (implSegment_any (x[k]'hlt).1 _ (x[k]'hlt).2 _ (HF.out.2 k hlt) HRV.out).mono ?_
          rintro e w3 ⟨rfl, hb3⟩
          have HB3 := hide (HXA.out.trans (hb3.mono HXA.out.size))
          clear hb3 hk0 hk1
          cases ho : segB (x[k]'hlt).1 (x[k]'hlt).2
          · have HN := hide (show R = false by rw [HR.out]; exact msgB_no k hlt (by rw [HO.out, ho]; rfl))
            go_wp2
            go_ret
            exact ⟨ret_boolF HN.out.symm, HB3.out⟩
          · have HA2 := hide (okSeg_succ x k HA.out (by rw [HO.out, ho, HT3.out]; rfl))
            go_wp2
            go_roundw
            case rel => exact ⟨_, k + 1, rfl, by omega, by go_num, HB3, HA2⟩
            case measure => simp [intOf]; omega
      · have HN := hide (show R = false by rw [HR.out]; exact msgB_no k hlt (by rw [HO.out, HT3.out]; cases tx <;> cases ty <;> simp_all))
        cases tx <;> cases ty
        · exact absurd rfl hxy
        · go_wp2
          go_ret
          exact ⟨ret_boolF HN.out.symm, HXA.out⟩
        · go_wp2
          go_ret
          exact ⟨ret_boolF HN.out.symm, HXA.out⟩
        · exact absurd rfl hxy
    · have HY := hide (show R = true by rw [HR.out]; exact msgB_yes hq HLL.out (fun j hj => HA.out j (by omega)))
      go_wp2
      go_ret
      exact ⟨ret_boolF HY.out.symm, HB.out⟩
end Go.Proofs.YtolgjdnhhbbebaaGreatDoor
/- Files: when a Message may stand in one, when a Batch and when a File is right. -/
namespace Go.Proofs.YtolgjdnhhbbebaaGreatDoor
open Go.RowKit
def lineB (n : ByteArray) : Bool := (n.toList == [70, 72, 83]) || ((n.toList == [66, 72, 83]) || ((n.toList == [66, 84, 83]) || (n.toList == [70, 84, 83])))
def usualB (m : ByteArray) : Bool := m.toList == [124, 94, 126, 92, 38]
def noLines (x : List Seg) : Bool := x.all fun s => !lineB s.1
def fmB (m : Msg) : Bool := (usualB m.1 && msgB m.1 m.2) && noLines m.2
def batB (b : Bat) : Bool := (idB b.1 && decide (b.2.length ≤ 30)) && b.2.all fmB
def filB (n : ByteArray) (xs : List Bat) : Bool := (idB n && decide (xs.length ≤ 10)) && xs.all batB
def FitsB (xs : List Msg) : Prop := xs.length ≤ 1048576 ∧ ∀ i (h : i < xs.length), FitsM xs[i].2
def FitsF (xs : List Bat) : Prop := xs.length ≤ 1048576 ∧ ∀ i (h : i < xs.length), FitsB xs[i].2
theorem fitsB_of {xs : List Msg} (h : wMsgs xs ≤ 1048576) : FitsB xs := ⟨(wMsgs_mem h).1, fun i hi => fitsM_of ((wMsgs_mem h).2 i hi).1⟩
theorem fitsF_of {xs : List Bat} (h : wBats xs ≤ 1048576) : FitsF xs := ⟨(wBats_mem h).1, fun i hi => fitsB_of ((wBats_mem h).2 i hi).1⟩
theorem allF_no {α : Type} {f : α → Bool} {xs : List α} (k : Nat) (hk : k < xs.length) (h : f xs[k] = false) : xs.all f = false := List.all_eq_false.2 ⟨xs[k], List.getElem_mem hk, by simp [h]⟩
theorem allF_yes {α : Type} {f : α → Bool} {xs : List α} (h : ∀ j (hj : j < xs.length), f xs[j] = true) : xs.all f = true := List.all_eq_true.2 fun x hx => by
  obtain ⟨j, hj, rfl⟩ := List.getElem_of_mem hx
  exact h j hj
/-- What holds of the items ahead of k holds with the one at k ahead of k + 1. -/
theorem allF_succ {α : Type} {f : α → Bool} {xs : List α} (k : Nat) (h : ∀ j (hj : j < xs.length), j < k → f xs[j] = true) (hk : ∀ hk : k < xs.length, f xs[k] = true) : ∀ j (hj : j < xs.length), j < k + 1 → f xs[j] = true := by
  intro j hj hjk
  by_cases e : j = k
  · subst e; exact hk hj
  · exact h j hj (by omega)
theorem fmB_marks {m : Msg} (h : usualB m.1 = false) : fmB m = false := by simp [fmB, h]
theorem fmB_right {m : Msg} (h : msgB m.1 m.2 = false) : fmB m = false := by simp [fmB, h]
theorem fmB_line {m : Msg} (k : Nat) (hk : k < m.2.length) (h : lineB m.2[k].1 = true) : fmB m = false := by
  have : noLines m.2 = false := allF_no k hk (by simp [h])
  simp [fmB, this]
theorem fmB_yes {m : Msg} (h1 : usualB m.1 = true) (h2 : msgB m.1 m.2 = true) (h : ∀ j (hj : j < m.2.length), lineB m.2[j].1 = false) : fmB m = true := by
  have : noLines m.2 = true := allF_yes fun j hj => by simp [h j hj]
  simp [fmB, h1, h2, this]
theorem batB_id {b : Bat} (h : idB b.1 = false) : batB b = false := by simp [batB, h]
theorem batB_len {b : Bat} (h : ¬ b.2.length ≤ 30) : batB b = false := by simp only [batB, decide_eq_false h, Bool.and_false, Bool.false_and]
theorem batB_no {b : Bat} (k : Nat) (hk : k < b.2.length) (h : fmB b.2[k] = false) : batB b = false := by simp [batB, allF_no k hk h]
theorem batB_yes {b : Bat} (h1 : idB b.1 = true) (h2 : b.2.length ≤ 30) (h : ∀ j (hj : j < b.2.length), fmB b.2[j] = true) : batB b = true := by simp [batB, h1, h2, allF_yes h]
theorem filB_id {n : ByteArray} {xs : List Bat} (h : idB n = false) : filB n xs = false := by simp [filB, h]
theorem filB_len {n : ByteArray} {xs : List Bat} (h : ¬ xs.length ≤ 10) : filB n xs = false := by simp only [filB, decide_eq_false h, Bool.and_false, Bool.false_and]
theorem filB_no {n : ByteArray} {xs : List Bat} (k : Nat) (hk : k < xs.length) (h : batB xs[k] = false) : filB n xs = false := by simp [filB, allF_no k hk h]
theorem filB_yes {n : ByteArray} {xs : List Bat} (h1 : idB n = true) (h2 : xs.length ≤ 10) (h : ∀ j (hj : j < xs.length), batB xs[j] = true) : filB n xs = true := by simp [filB, h1, h2, allF_yes h]
end Go.Proofs.YtolgjdnhhbbebaaGreatDoor
/- FileRight of the model. -/
namespace Go.Proofs.YtolgjdnhhbbebaaGreatDoor
open Go.RowKit
set_option maxHeartbeats 1000000 in
theorem l08Own_any (n : ByteArray) (w : World) :
    Calls Tryz.prog 37 #[.string n] w fun e w' => e = .returned (.bool (lineB n)) ∧ w' = w := by
  unfold lineB
  cases h1 : (n.toList == [70, 72, 83])
  case true =>
    go_enter Tryz.func37, Tryz.ntmps37
    go_wp2
    go_ret
    exact ⟨rfl, rfl⟩
  cases h2 : (n.toList == [66, 72, 83])
  case true =>
    go_enter Tryz.func37, Tryz.ntmps37
    go_wp2
    go_ret
    exact ⟨rfl, rfl⟩
  cases h3 : (n.toList == [66, 84, 83])
  case true =>
    go_enter Tryz.func37, Tryz.ntmps37
    go_wp2
    go_ret
    exact ⟨rfl, rfl⟩
  cases h4 : (n.toList == [70, 84, 83])
  all_goals
    go_enter Tryz.func37, Tryz.ntmps37
    go_wp2
    go_ret
    exact ⟨rfl, rfl⟩
theorem l08Marks_any (w : World) :
    Calls Tryz.prog 24 #[] w fun e w' => e = .returned (.string ⟨#[124, 94, 126, 92, 38]⟩) ∧ w' = w := by
  go_enter Tryz.func24, Tryz.ntmps24
  go_wp2
  go_ret
  exact ⟨rfl, rfl⟩
set_option maxHeartbeats 4000000 in
theorem l08Message_any (m : ByteArray) (u : Value) (x : List Seg) (w : World) (hm : m.size ≤ maxLen) (hf : FitsM x) (hr : RSegs 0 w u x) :
    Calls Tryz.prog 23 #[.agg #[.string m, u]] w fun e w' => e = .returned (.bool (fmB (m, x))) ∧ Below w.heap.size w w' := by
  obtain ⟨R, hR⟩ : ∃ R, R = fmB (m, x) := ⟨_, rfl⟩
  rw [← hR]
  have HR := hideF hR
  clear hR
  have HX := hideF hr
  have hl := hf.1
  have HF := hideF hf
  obtain ⟨p, cap, rfl, h1, h2, h4⟩ := hr
  have H4 := hideF h4
  unfold maxLen at h2
  clear h4 hf
  obtain ⟨W, hW⟩ : ∃ W, W = w.alloc (.cells #[.string m, .slice p x.length cap] 42) := ⟨_, rfl⟩
  have hb0 : Below w.heap.size w W := by rw [hW]; exact (Below.refl _ _).alloc (Nat.le_refl _) _
  have HB0 := hideF hb0
  have HRow0 : Hid (Row W w.heap.size 42 [.string m, .slice p x.length cap]) := by rw [hW]; exact row_new w [.string m, .slice p x.length cap] 42
  have HSS := hideF (show ∀ y, Below W.heap.size W y → y.cell? ⟨w.heap.size, 0, none⟩ = some (.string m) ∧ y.cell? ⟨w.heap.size, 1, none⟩ = some (.slice p x.length cap) from
    fun y h => ⟨(HRow0.out.below h HRow0.out.lt).cell 0, (HRow0.out.below h HRow0.out.lt).cell 1⟩)
  clear hb0
  -- @GEN
  cases hq : msgB m x
  · have HC := hideF (fun (X : World) (hX : Below W.heap.size W X) => by
      have := specMessage_any m _ x 0 X hm HF.out (HX.out.below (HB0.out.trans (hX.mono HB0.out.size)))
      rw [hq] at this
      exact this)
    have HN := hideF (show false = R by rw [HR.out]; exact (fmB_right (m := (m, x)) hq).symm)
    clear hq
    go_enter Tryz.func23, Tryz.ntmps23
    go_wp2_with fail
    rw [← hW]
    clear hW
    refine wp_region_held (S := (fun y : World => y.cell? ⟨w.heap.size, 0, none⟩ = some (.string m) ∧ y.cell? ⟨w.heap.size, 1, none⟩ = some (.slice p x.length cap))) (by kernel_rfl) ?_
    have HX0 : Hid (Below W.heap.size W { W with drawn := W.drawn + 1 }) := (Below.refl _ _).drew
    generalize ({ W with drawn := W.drawn + 1 } : World) = X0 at HX0 ⊢
    have HS := hideF (HSS.out _ HX0.out)
    refine wpAnyH_take (i := 0) (oi := _) (v := .agg #[.string m, .slice p x.length cap]) rfl (by kernel_rfl) (by kernel_rfl) (by kernel_rfl) (fun _ _ _ h => h) (Or.inl ⟨by rfl, by intro w hSw; go_split_ands; go_simp⟩) HS.out ?_
    simp only [Act.put, List.getElem_toArray, List.getElem_cons_zero, List.setIfInBounds_toArray, List.set_cons_zero, List.set_cons_succ]
    refine wpAnyH_ready (rs := [1]) (by kernel_rfl) (by simp) ?_
    refine AllReadyH.cons (o := _) rfl (fun K hK => ?_) AllReadyH.nil
    go_simp
    refine (HC.out X0 HX0.out).mono ?_
    rintro e X1 ⟨rfl, hb1⟩
    have HX1 := hideF (HX0.out.trans (hb1.mono HX0.out.size))
    refine hK.out _ _ (HSS.out _ HX1.out) (fun _ => ?_)
    clear hK K HS hb1 HX0
    have HS := hideF (HSS.out _ HX1.out)
    try simp only [Act.put, List.getElem_toArray, List.getElem_cons_zero, List.getElem_cons_succ, List.setIfInBounds_toArray, List.set_cons_zero, List.set_cons_succ]
    refine wpAnyH_take (i := 2) (oi := _) (v := .bool true) rfl (by kernel_rfl) (by kernel_rfl) (by kernel_rfl) (fun _ _ _ h => h) (Or.inl ⟨by rfl, by intro w hSw; go_split_ands; go_simp⟩) HS.out ?_
    simp only [Act.put, List.getElem_toArray, List.getElem_cons_zero, List.getElem_cons_succ, List.setIfInBounds_toArray, List.set_cons_zero, List.set_cons_succ]
    refine wpAnyH_take (i := 3) (oi := _) (v := .bool true) rfl (by kernel_rfl) (by kernel_rfl) (by kernel_rfl) (fun _ _ _ h => h) (Or.inl ⟨by rfl, by intro w hSw; go_split_ands; go_simp⟩) HS.out ?_
    simp only [Act.put, List.getElem_toArray, List.getElem_cons_zero, List.getElem_cons_succ, List.setIfInBounds_toArray, List.set_cons_zero, List.set_cons_succ]
    refine wpAnyH_take (i := 4) (oi := _) (v := undef) rfl (by kernel_rfl) (by kernel_rfl) (by kernel_rfl) (fun _ _ _ h => h) (Or.inr ⟨by rfl, rfl⟩) HS.out ?_
    simp only [Act.put, List.getElem_toArray, List.getElem_cons_zero, List.getElem_cons_succ, List.setIfInBounds_toArray, List.set_cons_zero, List.set_cons_succ]
    refine wpAnyH_take (i := 5) (oi := _) (v := undef) rfl (by kernel_rfl) (by kernel_rfl) (by kernel_rfl) (fun _ _ _ h => h) (Or.inr ⟨by rfl, rfl⟩) HS.out ?_
    simp only [Act.put, List.getElem_toArray, List.getElem_cons_zero, List.getElem_cons_succ, List.setIfInBounds_toArray, List.set_cons_zero, List.set_cons_succ]
    refine wpAnyH_take (i := 6) (oi := _) (v := undef) rfl (by kernel_rfl) (by kernel_rfl) (by kernel_rfl) (fun _ _ _ h => h) (Or.inr ⟨by rfl, rfl⟩) HS.out ?_
    simp only [Act.put, List.getElem_toArray, List.getElem_cons_zero, List.getElem_cons_succ, List.setIfInBounds_toArray, List.set_cons_zero, List.set_cons_succ]
    refine wpAnyH_take (i := 7) (oi := _) (v := undef) rfl (by kernel_rfl) (by kernel_rfl) (by kernel_rfl) (fun _ _ _ h => h) (Or.inr ⟨by rfl, rfl⟩) HS.out ?_
    simp only [Act.put, List.getElem_toArray, List.getElem_cons_zero, List.getElem_cons_succ, List.setIfInBounds_toArray, List.set_cons_zero, List.set_cons_succ]
    refine wpAnyH_take (i := 8) (oi := _) (v := .bool true) rfl (by kernel_rfl) (by kernel_rfl) (by kernel_rfl) (fun _ _ _ h => h) (Or.inl ⟨by rfl, by intro w hSw; go_split_ands; go_simp⟩) HS.out ?_
    simp only [Act.put, List.getElem_toArray, List.getElem_cons_zero, List.getElem_cons_succ, List.setIfInBounds_toArray, List.set_cons_zero, List.set_cons_succ]
    refine wpAnyH_done (by kernel_rfl) ?_ _
    have HB6 := hideF (HB0.out.trans (HX1.out.mono HB0.out.size))
    go_wp2
    go_ret
    exact ⟨ret_boolF HN.out, HB6.out⟩
  · have HC := hideF (fun (X : World) (hX : Below W.heap.size W X) => by
      have := specMessage_any m _ x 0 X hm HF.out (HX.out.below (HB0.out.trans (hX.mono HB0.out.size)))
      rw [hq] at this
      exact this)
    have HQ := hideF hq
    clear hq
    cases hu : (m.toList == [124, 94, 126, 92, 38])
    · have HN := hideF (show false = R by rw [HR.out]; exact (fmB_marks (m := (m, x)) hu).symm)
      go_enter Tryz.func23, Tryz.ntmps23
      go_wp2_with fail
      rw [← hW]
      clear hW
      refine wp_region_held (S := (fun y : World => y.cell? ⟨w.heap.size, 0, none⟩ = some (.string m) ∧ y.cell? ⟨w.heap.size, 1, none⟩ = some (.slice p x.length cap))) (by kernel_rfl) ?_
      have HX0 : Hid (Below W.heap.size W { W with drawn := W.drawn + 1 }) := (Below.refl _ _).drew
      generalize ({ W with drawn := W.drawn + 1 } : World) = X0 at HX0 ⊢
      have HS := hideF (HSS.out _ HX0.out)
      refine wpAnyH_take (i := 0) (oi := _) (v := .agg #[.string m, .slice p x.length cap]) rfl (by kernel_rfl) (by kernel_rfl) (by kernel_rfl) (fun _ _ _ h => h) (Or.inl ⟨by rfl, by intro w hSw; go_split_ands; go_simp⟩) HS.out ?_
      simp only [Act.put, List.getElem_toArray, List.getElem_cons_zero, List.setIfInBounds_toArray, List.set_cons_zero, List.set_cons_succ]
      refine wpAnyH_ready (rs := [1]) (by kernel_rfl) (by simp) ?_
      refine AllReadyH.cons (o := _) rfl (fun K hK => ?_) AllReadyH.nil
      go_simp
      refine (HC.out X0 HX0.out).mono ?_
      rintro e X1 ⟨rfl, hb1⟩
      have HX1 := hideF (HX0.out.trans (hb1.mono HX0.out.size))
      refine hK.out _ _ (HSS.out _ HX1.out) (fun _ => ?_)
      clear hK K HS hb1 HX0
      have HS := hideF (HSS.out _ HX1.out)
      try simp only [Act.put, List.getElem_toArray, List.getElem_cons_zero, List.getElem_cons_succ, List.setIfInBounds_toArray, List.set_cons_zero, List.set_cons_succ]
      refine wpAnyH_take (i := 2) (oi := _) (v := .bool false) rfl (by kernel_rfl) (by kernel_rfl) (by kernel_rfl) (fun _ _ _ h => h) (Or.inl ⟨by rfl, by intro w hSw; go_split_ands; go_simp⟩) HS.out ?_
      simp only [Act.put, List.getElem_toArray, List.getElem_cons_zero, List.getElem_cons_succ, List.setIfInBounds_toArray, List.set_cons_zero, List.set_cons_succ]
      refine wpAnyH_take (i := 3) (oi := _) (v := .bool false) rfl (by kernel_rfl) (by kernel_rfl) (by kernel_rfl) (fun _ _ _ h => h) (Or.inl ⟨by rfl, by intro w hSw; go_split_ands; go_simp⟩) HS.out ?_
      simp only [Act.put, List.getElem_toArray, List.getElem_cons_zero, List.getElem_cons_succ, List.setIfInBounds_toArray, List.set_cons_zero, List.set_cons_succ]
      refine wpAnyH_take (i := 4) (oi := _) (v := .pointer (some ⟨w.heap.size, 0, none⟩)) rfl (by kernel_rfl) (by kernel_rfl) (by kernel_rfl) (fun _ _ _ h => h) (Or.inl ⟨by rfl, by intro w hSw; go_split_ands; go_simp⟩) HS.out ?_
      simp only [Act.put, List.getElem_toArray, List.getElem_cons_zero, List.getElem_cons_succ, List.setIfInBounds_toArray, List.set_cons_zero, List.set_cons_succ]
      refine wpAnyH_take (i := 5) (oi := _) (v := .string m) rfl (by kernel_rfl) (by kernel_rfl) (by kernel_rfl) (fun _ _ _ h => h) (Or.inl ⟨by rfl, by intro w hSw; go_split_ands; go_simp⟩) HS.out ?_
      simp only [Act.put, List.getElem_toArray, List.getElem_cons_zero, List.getElem_cons_succ, List.setIfInBounds_toArray, List.set_cons_zero, List.set_cons_succ]
      refine wpAnyH_ready (rs := [6]) (by kernel_rfl) (by simp) ?_
      refine AllReadyH.cons (o := _) rfl (fun K hK => ?_) AllReadyH.nil
      go_simp
      refine (l08Marks_any _).mono ?_
      rintro e _ ⟨rfl, rfl⟩
      refine hK.out _ _ HS.out (fun _ => ?_)
      clear hK K
      try simp only [Act.put, List.getElem_toArray, List.getElem_cons_zero, List.getElem_cons_succ, List.setIfInBounds_toArray, List.set_cons_zero, List.set_cons_succ]
      refine wpAnyH_take (i := 7) (oi := _) (v := .bool true) rfl (by kernel_rfl) (by kernel_rfl) (by kernel_rfl) (fun _ _ _ h => h) (Or.inl ⟨by rfl, by intro w hSw; go_split_ands; go_simp⟩) HS.out ?_
      simp only [Act.put, List.getElem_toArray, List.getElem_cons_zero, List.getElem_cons_succ, List.setIfInBounds_toArray, List.set_cons_zero, List.set_cons_succ]
      refine wpAnyH_take (i := 8) (oi := _) (v := .bool true) rfl (by kernel_rfl) (by kernel_rfl) (by kernel_rfl) (fun _ _ _ h => h) (Or.inl ⟨by rfl, by intro w hSw; go_split_ands; go_simp⟩) HS.out ?_
      simp only [Act.put, List.getElem_toArray, List.getElem_cons_zero, List.getElem_cons_succ, List.setIfInBounds_toArray, List.set_cons_zero, List.set_cons_succ]
      refine wpAnyH_done (by kernel_rfl) ?_ _
      have HB6 := hideF (HB0.out.trans (HX1.out.mono HB0.out.size))
      go_wp2
      go_ret
      exact ⟨ret_boolF HN.out, HB6.out⟩
    · have HU := hideF hu
      go_enter Tryz.func23, Tryz.ntmps23
      go_wp2_with fail
      rw [← hW]
      clear hW
      refine wp_region_held (S := (fun y : World => y.cell? ⟨w.heap.size, 0, none⟩ = some (.string m) ∧ y.cell? ⟨w.heap.size, 1, none⟩ = some (.slice p x.length cap))) (by kernel_rfl) ?_
      have HX0 : Hid (Below W.heap.size W { W with drawn := W.drawn + 1 }) := (Below.refl _ _).drew
      generalize ({ W with drawn := W.drawn + 1 } : World) = X0 at HX0 ⊢
      have HS := hideF (HSS.out _ HX0.out)
      refine wpAnyH_take (i := 0) (oi := _) (v := .agg #[.string m, .slice p x.length cap]) rfl (by kernel_rfl) (by kernel_rfl) (by kernel_rfl) (fun _ _ _ h => h) (Or.inl ⟨by rfl, by intro w hSw; go_split_ands; go_simp⟩) HS.out ?_
      simp only [Act.put, List.getElem_toArray, List.getElem_cons_zero, List.setIfInBounds_toArray, List.set_cons_zero, List.set_cons_succ]
      refine wpAnyH_ready (rs := [1]) (by kernel_rfl) (by simp) ?_
      refine AllReadyH.cons (o := _) rfl (fun K hK => ?_) AllReadyH.nil
      go_simp
      refine (HC.out X0 HX0.out).mono ?_
      rintro e X1 ⟨rfl, hb1⟩
      have HX1 := hideF (HX0.out.trans (hb1.mono HX0.out.size))
      refine hK.out _ _ (HSS.out _ HX1.out) (fun _ => ?_)
      clear hK K HS hb1 HX0
      have HS := hideF (HSS.out _ HX1.out)
      try simp only [Act.put, List.getElem_toArray, List.getElem_cons_zero, List.getElem_cons_succ, List.setIfInBounds_toArray, List.set_cons_zero, List.set_cons_succ]
      refine wpAnyH_take (i := 2) (oi := _) (v := .bool false) rfl (by kernel_rfl) (by kernel_rfl) (by kernel_rfl) (fun _ _ _ h => h) (Or.inl ⟨by rfl, by intro w hSw; go_split_ands; go_simp⟩) HS.out ?_
      simp only [Act.put, List.getElem_toArray, List.getElem_cons_zero, List.getElem_cons_succ, List.setIfInBounds_toArray, List.set_cons_zero, List.set_cons_succ]
      refine wpAnyH_take (i := 3) (oi := _) (v := .bool false) rfl (by kernel_rfl) (by kernel_rfl) (by kernel_rfl) (fun _ _ _ h => h) (Or.inl ⟨by rfl, by intro w hSw; go_split_ands; go_simp⟩) HS.out ?_
      simp only [Act.put, List.getElem_toArray, List.getElem_cons_zero, List.getElem_cons_succ, List.setIfInBounds_toArray, List.set_cons_zero, List.set_cons_succ]
      refine wpAnyH_take (i := 4) (oi := _) (v := .pointer (some ⟨w.heap.size, 0, none⟩)) rfl (by kernel_rfl) (by kernel_rfl) (by kernel_rfl) (fun _ _ _ h => h) (Or.inl ⟨by rfl, by intro w hSw; go_split_ands; go_simp⟩) HS.out ?_
      simp only [Act.put, List.getElem_toArray, List.getElem_cons_zero, List.getElem_cons_succ, List.setIfInBounds_toArray, List.set_cons_zero, List.set_cons_succ]
      refine wpAnyH_take (i := 5) (oi := _) (v := .string m) rfl (by kernel_rfl) (by kernel_rfl) (by kernel_rfl) (fun _ _ _ h => h) (Or.inl ⟨by rfl, by intro w hSw; go_split_ands; go_simp⟩) HS.out ?_
      simp only [Act.put, List.getElem_toArray, List.getElem_cons_zero, List.getElem_cons_succ, List.setIfInBounds_toArray, List.set_cons_zero, List.set_cons_succ]
      refine wpAnyH_ready (rs := [6]) (by kernel_rfl) (by simp) ?_
      refine AllReadyH.cons (o := _) rfl (fun K hK => ?_) AllReadyH.nil
      go_simp
      refine (l08Marks_any _).mono ?_
      rintro e _ ⟨rfl, rfl⟩
      refine hK.out _ _ HS.out (fun _ => ?_)
      clear hK K
      try simp only [Act.put, List.getElem_toArray, List.getElem_cons_zero, List.getElem_cons_succ, List.setIfInBounds_toArray, List.set_cons_zero, List.set_cons_succ]
      refine wpAnyH_take (i := 7) (oi := _) (v := .bool false) rfl (by kernel_rfl) (by kernel_rfl) (by kernel_rfl) (fun _ _ _ h => h) (Or.inl ⟨by rfl, by intro w hSw; go_split_ands; go_simp⟩) HS.out ?_
      simp only [Act.put, List.getElem_toArray, List.getElem_cons_zero, List.getElem_cons_succ, List.setIfInBounds_toArray, List.set_cons_zero, List.set_cons_succ]
      refine wpAnyH_take (i := 8) (oi := _) (v := .bool false) rfl (by kernel_rfl) (by kernel_rfl) (by kernel_rfl) (fun _ _ _ h => h) (Or.inl ⟨by rfl, by intro w hSw; go_split_ands; go_simp⟩) HS.out ?_
      simp only [Act.put, List.getElem_toArray, List.getElem_cons_zero, List.getElem_cons_succ, List.setIfInBounds_toArray, List.set_cons_zero, List.set_cons_succ]
      refine wpAnyH_done (by kernel_rfl) ?_ _
      have HB1 := hideF (HB0.out.trans (HX1.out.mono HB0.out.size))
      have HRow1 := hideF (HRow0.out.below HX1.out HRow0.out.lt)
      clear HX1 HS hu HC HSS
      go_wp2_with fail
      go_loopw [3] (fun i wr => ∃ (X : World) (k : Nat), X = wr ∧ k ≤ x.length ∧ i = .int .i64 k ∧ Hid (Row X w.heap.size 42 [.string m, .slice p x.length cap]) ∧ Hid (∀ j (hj : j < x.length), j < k → lineB x[j].1 = false) ∧ Hid (Below w.heap.size w X)) (fun i _ => x.length - (intOf i).toNat)
      case atStart => exact ⟨_, 0, rfl, Nat.zero_le _, rfl, HRow1, fun j _ h => absurd h (by omega), HB1⟩
      case round =>
        obtain ⟨X, k, rfl, hk, rfl, HRow, HA, HB⟩ := hrel
        have c1 : X.cell? ⟨w.heap.size, 1, none⟩ = some (.slice p x.length cap) := HRow.out.cell 1
        by_cases hlt : k < x.length
        · obtain ⟨g, off, hp, hg, _, hc⟩ := H4.out (by omega)
          subst hp
          obtain ⟨ha, _, v, hv, hrv⟩ := hc k hlt
          have hk0 := (HB.out.cell (p := ⟨g, off + k * 2, none⟩) hg).trans ha
          clear hv hrv hc ha
          go_wp2_with fail
          refine (l08Own_any (x[k]'hlt).1 _).mono ?_
          rintro e w2 ⟨rfl, rfl⟩
          cases ho : lineB (x[k]'hlt).1
          · have HA2 : Hid (∀ j (hj : j < x.length), j < k + 1 → lineB x[j].1 = false) := by
              intro j hj hjk
              by_cases e : j = k
              · subst e; exact ho
              · exact HA.out j hj (by omega)
            go_wp2
            go_roundw
            case rel => exact ⟨_, k + 1, rfl, by omega, by go_num, HRow, HA2, HB⟩
            case measure => simp [intOf]; omega
          · have HN := hideF (show false = R by rw [HR.out]; exact (fmB_line (m := (m, x)) k hlt ho).symm)
            go_wp2
            go_ret
            exact ⟨ret_boolF HN.out, HB.out⟩
        · have HY := hideF (show true = R by rw [HR.out]; exact (fmB_yes (m := (m, x)) HU.out HQ.out (fun j hj => HA.out j hj (by have hj2 : j < x.length := hj; omega))).symm)
          go_wp2
          go_ret
          exact ⟨ret_boolF HY.out, HB.out⟩

set_option maxHeartbeats 4000000 in
theorem specFileRight_any (n : ByteArray) (u : Value) (x : List Bat) (w : World) (hm : n.size ≤ maxLen) (hf : FitsF x) (hr : RBats 0 w u x) :
    Calls Tryz.prog 10 #[.agg #[.string n, u]] w fun e w' => e = .returned (.bool (filB n x)) ∧ Below w.heap.size w w' := by
  obtain ⟨R, hR⟩ : ∃ R, R = filB n x := ⟨_, rfl⟩
  rw [← hR]
  have HR := hideF hR
  clear hR
  have hl := hf.1
  have HF := hideF hf
  obtain ⟨p, cap, rfl, h1, h2, h4⟩ := hr
  have H4 := hideF h4
  unfold maxLen at h2
  clear h4 hf
  have HB0 := hideF ((Below.refl w.heap.size w).alloc (Nat.le_refl _) (.cells #[.string n, .slice p x.length cap] 29))
  have HRow0 := hideF (row_new w [.string n, .slice p x.length cap] 29)
  go_enter Tryz.func10, Tryz.ntmps10
  go_wp2_with fail
  refine (specNameRight_any n _ hm).mono ?_
  rintro e w1 ⟨rfl, rfl⟩
  cases hq : idB n
  · have HN := hideF (show false = R by rw [HR.out]; exact (filB_id hq).symm)
    go_wp2
    go_ret
    exact ⟨ret_boolF HN.out, HB0.out⟩
  by_cases hl2 : 10 < (x.length : Int)
  · have HN := hideF (show false = R by rw [HR.out]; exact (filB_len (by omega)).symm)
    go_wp2
    go_ret
    exact ⟨ret_boolF HN.out, HB0.out⟩
  have hl10 : x.length ≤ 10 := by omega
  have HQ := hideF hq
  clear hq
  go_wp2_with fail
  go_loopw [3] (fun i wr => ∃ (X : World) (k : Nat), X = wr ∧ k ≤ x.length ∧ i = .int .i64 k ∧ Hid (Row X w.heap.size 29 [.string n, .slice p x.length cap]) ∧ Hid (∀ j (hj : j < x.length), j < k → batB x[j] = true) ∧ Hid (Below w.heap.size w X)) (fun i _ => x.length - (intOf i).toNat)
  case atStart => exact ⟨_, 0, rfl, Nat.zero_le _, rfl, HRow0, fun j _ h => absurd h (by omega), HB0⟩
  case round =>
    obtain ⟨X, k, rfl, hk, rfl, HRow, HA, HB⟩ := hrel
    have c1 : X.cell? ⟨w.heap.size, 1, none⟩ = some (.slice p x.length cap) := HRow.out.cell 1
    by_cases hlt : k < x.length
    · obtain ⟨g, off, hp, hg, _, hc⟩ := H4.out (by omega)
      subst hp
      obtain ⟨ha, hns, v, hv, hrv⟩ := hc k hlt
      have hk0 := (HB.out.cell (p := ⟨g, off + k * 2, none⟩) hg).trans ha
      have hk1 := (HB.out.cell (p := ⟨g, off + k * 2 + 1, none⟩) hg).trans hv
      obtain ⟨vp, vc, rfl⟩ := hrv.isSlice
      obtain ⟨bat, hbat⟩ : ∃ bat, bat = x[k]'hlt := ⟨_, rfl⟩
      rw [← hbat] at hk0 hk1 hns hrv
      have hfb : FitsB bat.2 := by rw [hbat]; exact HF.out.2 k hlt
      have HBAT := hideF hbat
      have hXa : Below w.heap.size w (X.alloc (.cells #[.string bat.1, .slice vp bat.2.length vc] 38)) := HB.out.alloc HB.out.size _
      have HXA := hideF hXa
      have HRV := hideF hrv
      have HRowX := hideF (HRow.out.alloc (.cells #[.string bat.1, .slice vp bat.2.length vc] 38))
      have HRowB := hideF (row_new X [.string bat.1, .slice vp bat.2.length vc] 38)
      have HXB := hideF HB.out.size
      clear hv hrv hc ha hXa hbat
      go_wp2_with fail
      generalize hY : X.alloc (.cells #[.string bat.1, .slice vp bat.2.length vc] 38) = Y at *
      generalize hB : X.heap.size = GB at *
      clear hY hB hk0 hk1 c1
      refine (specNameRight_any bat.1 _ hns).mono ?_
      rintro e w2 ⟨rfl, rfl⟩
      cases hq : idB bat.1
      · have HN := hideF (show false = R by rw [HR.out]; exact (filB_no k hlt (by rw [← HBAT.out]; exact batB_id hq)).symm)
        go_wp2
        go_ret
        exact ⟨ret_boolF HN.out, HXA.out⟩
      by_cases hl3 : 30 < (bat.2.length : Int)
      · have d1 : w2.cell? ⟨GB, 1, none⟩ = some (.slice vp bat.2.length vc) := HRowB.out.cell 1
        have HN := hideF (show false = R by rw [HR.out]; exact (filB_no k hlt (by rw [← HBAT.out]; exact batB_len (by omega))).symm)
        go_wp2
        go_ret
        exact ⟨ret_boolF HN.out, HXA.out⟩
      have hl30 : bat.2.length ≤ 30 := by omega
      have d1 : w2.cell? ⟨GB, 1, none⟩ = some (.slice vp bat.2.length vc) := HRowB.out.cell 1
      have HQB := hideF hq
      clear hq
      go_wp2_with fail
      clear d1
      go_loopw [5] (fun i wr => ∃ (Z : World) (j : Nat), Z = wr ∧ j ≤ bat.2.length ∧ i = .int .i64 j ∧ Hid (Row Z w.heap.size 29 [.string n, .slice (some ⟨g, off, none⟩) x.length cap]) ∧ Hid (Row Z GB 38 [.string bat.1, .slice vp bat.2.length vc]) ∧ Hid (∀ i (hi : i < bat.2.length), i < j → fmB bat.2[i] = true) ∧ Hid (Below w.heap.size w Z)) (fun i _ => bat.2.length - (intOf i).toNat)
      case atStart => exact ⟨_, 0, rfl, Nat.zero_le _, rfl, HRowX, HRowB, fun j _ h => absurd h (by omega), HXA⟩
      case round =>
        obtain ⟨Z, j, rfl, hj, rfl, HRowZ, HRowZB, HAZ, HBZ⟩ := hrel
        have d1 : Z.cell? ⟨GB, 1, none⟩ = some (.slice vp bat.2.length vc) := HRowZB.out.cell 1
        have HRZ := hideF (HRV.out.below HBZ.out)
        by_cases hjl : j < bat.2.length
        · obtain ⟨q, qc, he, _, _, hq4⟩ := HRZ.out
          cases he
          obtain ⟨g2, off2, rfl, hg2, _, hc2⟩ := hq4 (by omega)
          obtain ⟨ha2, hns2, v2, hv2, hrv2⟩ := hc2 j hjl
          obtain ⟨vp2, vc2, rfl⟩ := hrv2.isSlice
          have HNS2 := hideF hns2
          have HRV2 := hideF hrv2
          have hfm := hfb.2 j hjl
          clear hc2 hrv2 hq4 hns2
          go_wp2_with fail
          refine (l08Message_any (bat.2[j]'hjl).1 _ (bat.2[j]'hjl).2 _ HNS2.out hfm HRV2.out).mono ?_
          rintro e w3 ⟨rfl, hb3⟩
          have HB3 := hideF (HBZ.out.trans (hb3.mono HBZ.out.size))
          have HRow3 := hideF (HRowZ.out.below hb3 HRowZ.out.lt)
          have HRowB3 := hideF (HRowZB.out.below hb3 HRowZB.out.lt)
          clear hb3 ha2 hv2 d1
          cases ho : fmB ((bat.2[j]'hjl).1, (bat.2[j]'hjl).2)
          · have HN := hideF (show false = R by rw [HR.out]; exact (filB_no k hlt (by rw [← HBAT.out]; exact batB_no j hjl ho)).symm)
            go_wp2
            go_ret
            exact ⟨ret_boolF HN.out, HB3.out⟩
          · have HA3 := hideF (allF_succ (f := fmB) j HAZ.out (fun _ => ho))
            go_wp2
            go_roundw
            case rel => exact ⟨_, j + 1, rfl, by omega, by go_num, HRow3, HRowB3, HA3, HB3⟩
            case measure => simp [intOf]; omega
        · have hbt : batB (x[k]'hlt) = true := by rw [← HBAT.out]; exact batB_yes HQB.out hl30 (fun i hi => HAZ.out i hi (by omega))
          have HA3 := hideF (allF_succ (f := batB) k HA.out (fun _ => hbt))
          clear hbt
          go_wp2
          go_roundw
          case rel => exact ⟨_, k + 1, rfl, by omega, by go_num, HRowZ, HA3, HBZ⟩
          case measure => simp [intOf]; omega
    · have HY := hideF (show true = R by rw [HR.out]; exact (filB_yes HQ.out hl10 (fun j hj => HA.out j hj (by omega))).symm)
      go_wp2
      go_ret
      exact ⟨ret_boolF HY.out, HB.out⟩
end Go.Proofs.YtolgjdnhhbbebaaGreatDoor
/- The text of a Segment: of the program and of the model. -/
namespace Go.Proofs.YtolgjdnhhbbebaaGreatDoor
open Go.RowKit

/-- What stands of a Segment's Fields: ahead of each the first mark. -/
def fldsT (m : ByteArray) (fs : Flds) : List UInt8 := fs.flatMap fun f => bAt m 0 :: fldT m f
def headT (m n : ByteArray) : List UInt8 := n.data.toList ++ (if n = msh then m.data.toList else [])
def segT (m n : ByteArray) (fs : Flds) : List UInt8 := headT m n ++ fldsT m fs
theorem fldsT_snoc (m : ByteArray) (fs : Flds) (k : Nat) (h : k < fs.length) : fldsT m (fs.take (k + 1)) = fldsT m (fs.take k) ++ (bAt m 0 :: fldT m fs[k]) := by
  unfold fldsT
  rw [List.take_succ_eq_append_getElem h, List.flatMap_append]
  simp
theorem fldsT_len (m : ByteArray) : ∀ fs : Flds, (∀ i (h : i < fs.length), fldB fs[i] = true) → (fldsT m fs).length ≤ fs.length * 45306
  | [], _ => by simp [fldsT]
  | f :: r, h => by
    have h1 := fldsT_len m r (fun i hi => h (i + 1) (by simpa using hi))
    have h2 := fldT_len (m := m) (h 0 (by simp))
    simp only [fldsT, List.flatMap_cons, List.length_append, List.length_cons] at h1 h2 ⊢
    simp only [List.getElem_cons_zero] at h2
    omega
theorem headT_len (m n : ByteArray) (hm : m.size = 5) (hn : n.size = 3) : (headT m n).length ≤ 8 := by
  unfold headT
  split <;> simp [hm, hn]
theorem segB_parts {n : ByteArray} {fs : Flds} (h : segB n fs = true) : n.size = 3 ∧ (∀ i (hi : i < fs.length), fldB fs[i] = true) ∧ fs.length ≤ 30 := by
  simp only [segB, Bool.and_eq_true] at h
  refine ⟨?_, (right_mem h.1.2).1, (right_mem h.1.2).2⟩
  have := h.1.1
  simp only [name3, Bool.and_eq_true, decide_eq_true_eq] at this
  exact this.1
theorem take_fldB {fs : Flds} (h : ∀ i (hi : i < fs.length), fldB fs[i] = true) (k : Nat) : ∀ i (hi : i < (fs.take k).length), fldB (fs.take k)[i] = true := by
  intro i hi
  rw [List.getElem_take]
  exact h i (by rw [List.length_take] at hi; omega)

theorem Row.drewF {w : World} {g : Nat} {T : TypeId} {cs : List Value} (h : Row w g T cs) : Row w.drew g T cs := h
theorem segRow_kept {B : Nat} {w w' : World} {v : Value} {L : List UInt8} {g : Nat} {vs : List Value} (h : Buf 5 B w w' v L) (hr : Row w g 62 vs) : Row w' g 62 vs :=
  h.kept g _ hr (by simp) (fun _ _ e1 => by simp at e1)
abbrev UFlds (U : Nat) : World → Value → Flds → Prop := RU U (UFld U)
theorem flds_under {w : World} {v : Value} {x : Flds} (h : RFlds 0 w v x) : UFlds w.heap.size w v x := RL.ru h fun _ _ h => fld_under h

set_option maxHeartbeats 8000000 in
set_option maxRecDepth 100000 in
theorem appSegment (v : Value) (L : List UInt8) (B : Nat) (m n : ByteArray) (u : Value) (x : Flds) (w : World) (hm : m.size = 5) (hx : segB n x = true) (hL : L.length ≤ 40000000) (hB : B ≤ w.heap.size) (ho : w.ownsRow B 5 1 v L.length (u8s L)) (hr : UFlds B w u x) :
    Calls Tryz.prog 47 #[v, .string m, .agg #[.string n, u]] w fun e w' => ∃ v', e = .returned v' ∧ Buf 5 B w w' v' (L ++ segT m n x) := by
  obtain ⟨hn3, hxe, hxl⟩ := segB_parts hx
  have HXE := hide hxe
  have HHL := hide (headT_len m n hm hn3)
  have HFL : Hid (∀ k, (fldsT m (x.take k)).length ≤ 30 * 45306) := fun k => by
    have h1 := fldsT_len m (x.take k) (take_fldB hxe k)
    have h2 : (x.take k).length ≤ 30 := by rw [List.length_take]; omega
    exact Nat.le_trans h1 (Nat.mul_le_mul h2 (Nat.le_refl _))
  have hm0 : 0 < m.size := by omega
  have HM0 := hide (bAt_get m 0 hm0)
  obtain ⟨p, cap, rfl, h1, h2, h4⟩ := hr
  have H4 := hide h4
  clear h4 hxe
  unfold maxLen at h2
  have HRow := hide (row_new w [.string n, .slice p x.length cap] 62)
  have HB0 := hide ((Buf.start ho hB).alloc (.cells #[.string n, .slice p x.length cap] 62))
  have HBs := hide (Buf.start HB0.out.own HB0.out.size)
  have HL1 := hide (show L.length + n.size ≤ 100000000 by omega)
  clear ho
  have e0 : (w.alloc (.cells #[.string n, .slice p x.length cap] 62)).cell? ⟨w.heap.size, 0, none⟩ = some (.string n) := HRow.out.cell 0
  go_enter Tryz.func47, Tryz.ntmps47
  go_wp2_with (at_builtin; refine wpList_bufS (w0 := w.alloc (.cells #[.string n, .slice p x.length cap] 62)) rfl (.tmp 9) (.tmp 11) 63 9 rfl B 5 Tryz.underlying63 Tryz.underlying9 Tryz.infoByte _ L rfl HBs.out n rfl HL1.out ?_)
  intro v1 w1 hb1
  have HB1 := hide (HB0.out.trans hb1)
  have HR1 := hide (segRow_kept hb1 HRow.out)
  have c0 : w1.cell? ⟨w.heap.size, 0, none⟩ = some (.string n) := HR1.out.cell 0
  have c1 : w1.cell? ⟨w.heap.size, 1, none⟩ = some (.slice p x.length cap) := HR1.out.cell 1
  clear hb1 HB0 HBs e0
  by_cases hM : n = msh
  · have hh : headT m n = n.data.toList ++ m.data.toList := by unfold headT; rw [if_pos hM]
    have hc0 : w1.cell? ⟨w.heap.size, 0, none⟩ = some (.string ⟨#[77, 83, 72]⟩) := by rw [c0, hM]; rfl
    have HBs1 := hide (Buf.start HB1.out.own HB1.out.size)
    have HL2 := hide (show (L ++ n.data.toList).length + m.size ≤ 100000000 by rw [List.length_append, bytes_len]; omega)
    have HHH := hide hh
    clear c0 hM hh
    go_wp2_with (at_builtin; refine wpList_bufS (w0 := w1) rfl (.tmp 16) (.tmp 17) 63 9 rfl B 5 Tryz.underlying63 Tryz.underlying9 Tryz.infoByte _ (L ++ n.data.toList) rfl HBs1.out m rfl HL2.out ?_)
    intro v2 w2 hb2
    obtain ⟨A0, hA0⟩ : ∃ A0, A0 = L ++ headT m n := ⟨_, rfl⟩
    have HAE := hide hA0
    have HB2 : Hid (Buf 5 B w w2 v2 A0) := by rw [hA0, HHH.out]; exact HB1.out.trans hb2
    have HA0 := hide (show A0.length ≤ 40000008 by have := HHL.out; rw [hA0, List.length_append]; omega)
    have d1 : w2.cell? ⟨w.heap.size, 1, none⟩ = some (.slice p x.length cap) := (segRow_kept hb2 HR1.out).cell 1
    clear hb2 hA0 HBs1 HB1 HR1 c1 hc0
    go_wp2_with fail
    go_loopw [0, 22] (fun v' i wr => ∃ (X : World) (k : Nat), X = wr ∧ k ≤ x.length ∧ i = .int .i64 k ∧ Hid (Buf 5 B w X v' (A0 ++ fldsT m (x.take k)))) (fun _ i _ => x.length - (intOf i).toNat)
    case atStart => exact ⟨_, 0, rfl, Nat.zero_le _, rfl, by rw [List.take_zero]; simpa [fldsT] using HB2⟩
    case round =>
      obtain ⟨X, k, rfl, hk, rfl, HBf⟩ := hrel
      by_cases hlt : k < x.length
      · obtain ⟨g, off, hp, hg, hc⟩ := H4.out (by omega)
        subst hp
        obtain ⟨uk, huk, hruk⟩ := hc k hlt
        have HUK := hide hruk
        obtain ⟨vp, vc, rfl⟩ := hruk.isSlice
        have hck : X.cell? ⟨g, off + k, none⟩ = some (.slice vp (x[k]'hlt).length vc) := by rw [HBf.out.below.cell (p := ⟨g, off + k, none⟩) hg]; exact huk
        have HSN := hide (fldsT_snoc m x k hlt)
        have HFK := hide (fldT_len (m := m) (HXE.out k hlt))
        have HOK := hide (HXE.out k hlt)
        have HX1 := hide (HBf.out.alloc (.cells #[.slice vp (x[k]'hlt).length vc] 76))
        have HRX := hide (row_new X [.slice vp (x[k]'hlt).length vc] 76)
        have HLA := hide (show (A0 ++ fldsT m (x.take k)).length ≤ 41400000 by have h1 := HFL.out k; have h2 := HA0.out; rw [List.length_append]; omega)
        clear huk hruk hc
        obtain ⟨A1, hA1⟩ : ∃ A1, A1 = A0 ++ fldsT m (x.take k) := ⟨_, rfl⟩
        have HSN2 : Hid (A0 ++ fldsT m (x.take (k + 1)) = A1 ++ [bAt m 0] ++ fldT m (x[k]'hlt)) := by rw [hA1, HSN.out]; exact (by simp : A0 ++ (fldsT m (x.take k) ++ (bAt m 0 :: fldT m (x[k]'hlt))) = A0 ++ fldsT m (x.take k) ++ [bAt m 0] ++ fldT m (x[k]'hlt))
        rw [← hA1] at HX1 HLA
        clear hA1 HSN
        go_wp2_with fail
        generalize hX1 : X.alloc (.cells #[.slice vp (x[k]'hlt).length vc] 76) = X1 at *
        generalize hG : X.heap.size = G at *
        clear hX1 hG
        have HXs := hide (Buf.start HX1.out.own HX1.out.size)
        have HL3 := hide (show A1.length + [m[0]'hm0].length ≤ 100000000 by have h1 := HLA.out; simp only [List.length_cons, List.length_nil]; omega)
        have HSS := hide (show ∀ y, Row y G 76 [.slice vp (x[k]'hlt).length vc] → y.cell? ⟨G, 0, none⟩ = some (.slice vp (x[k]'hlt).length vc) ∧ Row y G 76 [.slice vp (x[k]'hlt).length vc] from fun y h => ⟨h.cell 0, h⟩)
        go_region_held3 (fun y => y.cell? ⟨G, 0, none⟩ = some (.slice vp (x[k]'hlt).length vc) ∧ Row y G 76 [.slice vp (x[k]'hlt).length vc])
          ((go_split_ands; refine HSS.out _ ?_; repeat (first | with_reducible assumption | with_reducible exact HRX.out | with_reducible refine Row.drewF ?_ | with_reducible refine Row.alloc ?_ _)))
          ((first
            | (refine step_buf (w0 := X1) ?_ (.tmp 26) (.tmp 29) 63 ?_ B 5 Tryz.underlying63 Tryz.infoByte u0 A1 ?_ ?_ X1.heap.size 1 [m[0]'hm0] ?_ ?_ ?_ ?_ ?_; rfl; rfl; rfl; (repeat (first | with_reducible exact HXs.out | with_reducible refine Buf.drew ?_ | with_reducible refine Buf.alloc ?_ _)); rfl; rfl; (first | exact ⟨_, alloc_drew_new _ _⟩ | exact ⟨_, heap_alloc_new _ _⟩); exact HL3.out; intro v5 w5 hb5; have HB5 := hide hb5; have hrow5 : Row w5 G 76 [.slice vp (x[k]'hlt).length vc] := fieldRow_kept hb5 HRX.out; clear hb5)
            | (go_at_call 66; go_split_ands; refine (appField v5 (A1 ++ [m[0]'hm0]) B m (.iface 76 (.agg #[.slice vp (x[k]'hlt).length vc])) (x[k]'hlt) _ hm HOK.out (by have h1 := HLA.out; have h2 := HFK.out; rw [List.length_append]; simp only [List.length_cons, List.length_nil]; omega) (by first | exact HB5.out.size | exact HB5.out.drew.size) (by first | exact HB5.out.own | exact HB5.out.drew.own) ⟨_, rfl, Under.go (by first | exact (HX1.out.trans HB5.out).below | exact (HX1.out.trans HB5.out.drew).below) HUK.out⟩).mono ?_; rintro e w6 ⟨v6, rfl, hb6⟩; have HB6 := hide hb6; have hrow6 : Row w6 G 76 [.slice vp (x[k]'hlt).length vc] := fieldRow_kept hb6 (by assumption); clear hb6)))
        all_goals
          have HB7 : Hid (Buf 5 B w w6 v6 (A1 ++ [m[0]'hm0] ++ fldT m (x[k]'hlt))) := HX1.out.trans (Buf.trans (by first | exact HB5.out | exact HB5.out.drew) HB6.out)
          rw [← HM0.out, ← HSN2.out] at HB7
          clear HB5 HB6 hrow6
          go_wp2
          go_roundw
          case rel => exact ⟨_, k + 1, rfl, by omega, by go_num, HB7⟩
          case measure => simp [intOf]; omega
      · have e1 : x.take k = x := List.take_of_length_le (by omega)
        have HE : Hid (Buf 5 B w X u0 (L ++ segT m n x)) := by
          rw [e1, HAE.out] at HBf
          have := HBf.out
          unfold segT
          rw [← List.append_assoc]
          exact this
        go_wp2
        go_ret
        exact ⟨_, rfl, HE.out⟩
  · have hh : headT m n = n.data.toList := by unfold headT; rw [if_neg hM, List.append_nil]
    have hne0 := toList_neF (show n ≠ (⟨#[77, 83, 72]⟩ : ByteArray) from hM)
    have hne : (n.toList == [77, 83, 72]) = false := by simpa using hne0
    obtain ⟨A0, hA0⟩ : ∃ A0, A0 = L ++ headT m n := ⟨_, rfl⟩
    have HAE := hide hA0
    have HB2 : Hid (Buf 5 B w w1 v1 A0) := by rw [hA0, hh]; exact HB1
    have HA0 := hide (show A0.length ≤ 40000008 by have := HHL.out; rw [hA0, List.length_append]; omega)
    clear hne0 hM hA0 hh HB1
    go_wp2_with fail
    go_loopw [0, 22] (fun v' i wr => ∃ (X : World) (k : Nat), X = wr ∧ k ≤ x.length ∧ i = .int .i64 k ∧ Hid (Buf 5 B w X v' (A0 ++ fldsT m (x.take k)))) (fun _ i _ => x.length - (intOf i).toNat)
    case atStart => exact ⟨_, 0, rfl, Nat.zero_le _, rfl, by rw [List.take_zero]; simpa [fldsT] using HB2⟩
    case round =>
      obtain ⟨X, k, rfl, hk, rfl, HBf⟩ := hrel
      by_cases hlt : k < x.length
      · obtain ⟨g, off, hp, hg, hc⟩ := H4.out (by omega)
        subst hp
        obtain ⟨uk, huk, hruk⟩ := hc k hlt
        have HUK := hide hruk
        obtain ⟨vp, vc, rfl⟩ := hruk.isSlice
        have hck : X.cell? ⟨g, off + k, none⟩ = some (.slice vp (x[k]'hlt).length vc) := by rw [HBf.out.below.cell (p := ⟨g, off + k, none⟩) hg]; exact huk
        have HSN := hide (fldsT_snoc m x k hlt)
        have HFK := hide (fldT_len (m := m) (HXE.out k hlt))
        have HOK := hide (HXE.out k hlt)
        have HX1 := hide (HBf.out.alloc (.cells #[.slice vp (x[k]'hlt).length vc] 76))
        have HRX := hide (row_new X [.slice vp (x[k]'hlt).length vc] 76)
        have HLA := hide (show (A0 ++ fldsT m (x.take k)).length ≤ 41400000 by have h1 := HFL.out k; have h2 := HA0.out; rw [List.length_append]; omega)
        clear huk hruk hc
        obtain ⟨A1, hA1⟩ : ∃ A1, A1 = A0 ++ fldsT m (x.take k) := ⟨_, rfl⟩
        have HSN2 : Hid (A0 ++ fldsT m (x.take (k + 1)) = A1 ++ [bAt m 0] ++ fldT m (x[k]'hlt)) := by rw [hA1, HSN.out]; exact (by simp : A0 ++ (fldsT m (x.take k) ++ (bAt m 0 :: fldT m (x[k]'hlt))) = A0 ++ fldsT m (x.take k) ++ [bAt m 0] ++ fldT m (x[k]'hlt))
        rw [← hA1] at HX1 HLA
        clear hA1 HSN
        go_wp2_with fail
        generalize hX1 : X.alloc (.cells #[.slice vp (x[k]'hlt).length vc] 76) = X1 at *
        generalize hG : X.heap.size = G at *
        clear hX1 hG
        have HXs := hide (Buf.start HX1.out.own HX1.out.size)
        have HL3 := hide (show A1.length + [m[0]'hm0].length ≤ 100000000 by have h1 := HLA.out; simp only [List.length_cons, List.length_nil]; omega)
        have HSS := hide (show ∀ y, Row y G 76 [.slice vp (x[k]'hlt).length vc] → y.cell? ⟨G, 0, none⟩ = some (.slice vp (x[k]'hlt).length vc) ∧ Row y G 76 [.slice vp (x[k]'hlt).length vc] from fun y h => ⟨h.cell 0, h⟩)
        go_region_held3 (fun y => y.cell? ⟨G, 0, none⟩ = some (.slice vp (x[k]'hlt).length vc) ∧ Row y G 76 [.slice vp (x[k]'hlt).length vc])
          ((go_split_ands; refine HSS.out _ ?_; repeat (first | with_reducible assumption | with_reducible exact HRX.out | with_reducible refine Row.drewF ?_ | with_reducible refine Row.alloc ?_ _)))
          ((first
            | (refine step_buf (w0 := X1) ?_ (.tmp 26) (.tmp 29) 63 ?_ B 5 Tryz.underlying63 Tryz.infoByte u0 A1 ?_ ?_ X1.heap.size 1 [m[0]'hm0] ?_ ?_ ?_ ?_ ?_; rfl; rfl; rfl; (repeat (first | with_reducible exact HXs.out | with_reducible refine Buf.drew ?_ | with_reducible refine Buf.alloc ?_ _)); rfl; rfl; (first | exact ⟨_, alloc_drew_new _ _⟩ | exact ⟨_, heap_alloc_new _ _⟩); exact HL3.out; intro v5 w5 hb5; have HB5 := hide hb5; have hrow5 : Row w5 G 76 [.slice vp (x[k]'hlt).length vc] := fieldRow_kept hb5 HRX.out; clear hb5)
            | (go_at_call 66; go_split_ands; refine (appField v5 (A1 ++ [m[0]'hm0]) B m (.iface 76 (.agg #[.slice vp (x[k]'hlt).length vc])) (x[k]'hlt) _ hm HOK.out (by have h1 := HLA.out; have h2 := HFK.out; rw [List.length_append]; simp only [List.length_cons, List.length_nil]; omega) (by first | exact HB5.out.size | exact HB5.out.drew.size) (by first | exact HB5.out.own | exact HB5.out.drew.own) ⟨_, rfl, Under.go (by first | exact (HX1.out.trans HB5.out).below | exact (HX1.out.trans HB5.out.drew).below) HUK.out⟩).mono ?_; rintro e w6 ⟨v6, rfl, hb6⟩; have HB6 := hide hb6; have hrow6 : Row w6 G 76 [.slice vp (x[k]'hlt).length vc] := fieldRow_kept hb6 (by assumption); clear hb6)))
        all_goals
          have HB7 : Hid (Buf 5 B w w6 v6 (A1 ++ [m[0]'hm0] ++ fldT m (x[k]'hlt))) := HX1.out.trans (Buf.trans (by first | exact HB5.out | exact HB5.out.drew) HB6.out)
          rw [← HM0.out, ← HSN2.out] at HB7
          clear HB5 HB6 hrow6
          go_wp2
          go_roundw
          case rel => exact ⟨_, k + 1, rfl, by omega, by go_num, HB7⟩
          case measure => simp [intOf]; omega
      · have e1 : x.take k = x := List.take_of_length_le (by omega)
        have HE : Hid (Buf 5 B w X u0 (L ++ segT m n x)) := by
          rw [e1, HAE.out] at HBf
          have := HBf.out
          unfold segT
          rw [← List.append_assoc]
          exact this
        go_wp2
        go_ret
        exact ⟨_, rfl, HE.out⟩
end Go.Proofs.YtolgjdnhhbbebaaGreatDoor
/- The law of SegmentRight out of the two contracts. -/
namespace Go.Proofs.YtolgjdnhhbbebaaGreatDoor
open Go.RowKit
end Go.Proofs.YtolgjdnhhbbebaaGreatDoor
