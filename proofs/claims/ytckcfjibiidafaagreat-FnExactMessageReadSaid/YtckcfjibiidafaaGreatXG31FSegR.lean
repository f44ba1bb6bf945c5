/- SegmentRight of the model and of the program. -/
import Derived.Test.YtckcfjibiidafaaGreatXG26FPartR
import Derived.Test.YtckcfjibiidafaaGreatXG16FSegS
import Derived.Test.YtckcfjibiidafaaGreatXG30OReadH
import Derived.Deep.RegionHeld3
import Derived.BigQuiet
import Derived.OrdersHeld
import Derived.Test.YtckcfjibiidafaaGreatXG4FTextM
import Derived.Test.YtckcfjibiidafaaGreatXG25OReadL
namespace Go.Proofs.YtckcfjibiidafaaGreat
open Go.RowKit
def msh : ByteArray := ⟨#[77, 83, 72]⟩
/-- A right Segment: its Name, and its Fields. -/
def segB (n : ByteArray) (fs : List (List (List (List ByteArray)))) : Bool := name3 n && rightB fldB empL 30 fs && !(decide (n = msh) && decide (fs.length = 0))
abbrev Flds := List (List (List (List ByteArray)))
theorem segB_name {n : ByteArray} {fs : Flds} (h : name3 n = false) : segB n fs = false := by simp [segB, h]
theorem segB_flds {n : ByteArray} {fs : Flds} (h : rightB fldB empL 30 fs = false) : segB n fs = false := by simp [segB, h]
theorem segB_msh {n : ByteArray} {fs : Flds} (h1 : n = msh) (h2 : fs.length = 0) : segB n fs = false := by simp [segB, h1, h2]
theorem segB_yes {n : ByteArray} {fs : Flds} (h1 : name3 n = true) (h2 : rightB fldB empL 30 fs = true) (h3 : ¬ (n = msh ∧ fs.length = 0)) : segB n fs = true := by
  simp only [segB, h1, h2, Bool.true_and, Bool.not_eq_true', Bool.and_eq_false_iff, decide_eq_false_iff_not]
  by_cases e : n = msh
  · exact .inr fun h => h3 ⟨e, h⟩
  · exact .inl e
/-- How great the lists of Fields are that the contracts take. -/
def Fits (fs : Flds) : Prop := fs.length ≤ 1048576 ∧ ∀ i (h : i < fs.length), fs[i].length ≤ 1048576 ∧ (∀ j (hj : j < fs[i].length), fs[i][j].length ≤ 1048576) ∧ ∀ j (hj : j < fs[i].length) l (hl : l < fs[i][j].length), fs[i][j][l].length ≤ 1048576
theorem fits_of {fs : Flds} (h : wFlds fs ≤ 1048576) : Fits fs := by
  refine ⟨Nat.le_trans (wL_len _ fs) h, fun i hi => ?_⟩
  have h1 := wL_mem wFld (List.getElem_mem hi)
  have h0 : wL wFld fs ≤ 1048576 := h
  have hx : wFld fs[i] ≤ 1048576 := by omega
  generalize fs[i] = x at hx
  refine ⟨Nat.le_trans (wL_len _ x) hx, fun j hj => ?_, fun j hj l hl => ?_⟩
  · have h1 := wL_mem wRep (List.getElem_mem hj)
    have h2 := wL_len wComp x[j]
    have : wL wRep x ≤ 1048576 := hx
    have : wRep x[j] = wL wComp x[j] := rfl
    omega
  · have h1 := wL_mem wRep (List.getElem_mem hj)
    have h2 := wL_mem wComp (List.getElem_mem hl)
    have h3 := wL_len ByteArray.size x[j][l]
    have : wL wRep x ≤ 1048576 := hx
    have : wRep x[j] = wL wComp x[j] := rfl
    have : wComp x[j][l] = wL ByteArray.size x[j][l] := rfl
    omega

set_option maxHeartbeats 1000000 in
set_option maxRecDepth 100000 in
theorem emptyField (u : Value) (x : List (List (List ByteArray))) (w : World) (hn : x.length ≤ 1048576) (hr : PField w u x) :
    Calls Tryz.prog 79 #[u] w fun e w' => e = .returned (.bool (empL x)) ∧ Below w.heap.size w w' := by
  obtain ⟨v, rfl, hv⟩ := hr
  have a1 := Tryz.asFieldsubPart
  have a2 := Tryz.innerField
  go_enter Tryz.func79, Tryz.ntmps79
  go_wp2_with fail
  refine (innerField_any _ x _ hn hv).mono ?_
  rintro e w1 ⟨p1, c1, rfl, hr1, hb1⟩
  have HB := hide hb1
  clear hb1 hr1
  by_cases he : x.length = 0
  · have he' : ((x.length : Int) == 0) = true := by simp [he]
    have HE := hide (show empL x = true by simp [empL, he])
    clear he
    go_wp2
    go_ret
    exact ⟨ret_boolF (by rw [HE.out]; first | done | exact he'), HB.out⟩
  · have he' : ((x.length : Int) == 0) = false := by simpa using he
    have HE := hide (show empL x = false by simp [empL, he])
    clear he
    go_wp2
    go_ret
    exact ⟨ret_boolF (by rw [HE.out]; first | done | exact he'), HB.out⟩

set_option maxHeartbeats 2000000 in
set_option maxRecDepth 100000 in
theorem leaveOutF_any (xs : Flds) (hf : Fits xs) (v : Value) (w : World) (hr : RFlds 0 w v xs) :
    Calls Tryz.prog 67 #[v] w fun e w' => (∃ p c k, e = .returned (.slice p k c) ∧ k ≤ xs.length ∧ (k = xs.length ↔ endEmpty empL xs = false)) ∧ Below w.heap.size w w' := by
  have HF := hide hf
  clear hf
  obtain ⟨p, cap, rfl, h1, h2, h4⟩ := hr
  have H4 := hide h4
  clear h4
  unfold maxLen at h2
  go_enter Tryz.func67, Tryz.ntmps67
  go_wp2
  go_loopw [0] (fun l wr => ∃ (X : World) (k : Nat), X = wr ∧ k ≤ xs.length ∧ l = .slice p k cap ∧ Hid (Below w.heap.size w X) ∧ Hid (k < xs.length → endEmpty empL xs = true)) (fun l _ => lenOf l)
  case atStart => exact ⟨_, _, rfl, Nat.le_refl _, rfl, Below.refl _ _, fun h => absurd h (by omega)⟩
  case round =>
    obtain ⟨X, k, rfl, hk, rfl, HB, HK⟩ := hrel
    by_cases h0 : k = 0
    · subst h0
      have HZ := hide (show (0 = xs.length ↔ endEmpty empL xs = false) from ⟨fun h => endEmpty_nil h.symm, fun h => by
        rcases Nat.eq_zero_or_pos xs.length with e | e
        · exact e.symm
        · rw [HK.out e] at h; cases h⟩)
      go_wp2
      go_ret
      exact ⟨⟨_, _, _, rfl, hk, HZ.out⟩, HB.out⟩
    · obtain ⟨n, rfl⟩ : ∃ n, k = n + 1 := ⟨k - 1, by omega⟩
      obtain ⟨g, off, hp, hg, _, hc⟩ := H4.out (by omega)
      subst hp
      have hnl : n < xs.length := by omega
      obtain ⟨u, hu, hru⟩ := hc n hnl
      have hck : X.cell? ⟨g, off + n, none⟩ = some u := by rw [HB.out.cell (p := ⟨g, off + n, none⟩) hg]; exact hu
      have HRU : Hid (RFld 0 X u xs[n]) := Lasts.go (B := 0) (Same.of HB.out) hru
      have hw1 : IntKind.i64.wrap (((n + 1 : Nat) : Int) - 1) = (n : Int) := by rw [show (((n + 1 : Nat) : Int) - 1) = (n : Int) by omega]; exact wrap_small _ (by omega) (by omega)
      have hpos : (0 : Int) < ((n + 1 : Nat) : Int) := by omega
      clear hu hru hc h0
      go_wp2_with fail
      refine (emptyField _ (xs[n]'hnl) _ (HF.out.2 n hnl).1 ⟨_, rfl, HRU.out⟩).mono ?_
      rintro e w2 ⟨rfl, hb2⟩
      have HB2 := hide (HB.out.trans (hb2.mono HB.out.size))
      clear hb2
      cases he : empL (xs[n]'hnl)
      · have HZ := hide (show (n + 1 = xs.length ↔ endEmpty empL xs = false) from ⟨fun h => by rw [endEmpty_last n hnl h.symm]; exact he, fun h => by
          rcases Nat.lt_or_ge (n + 1) xs.length with e | e
          · rw [HK.out e] at h; cases h
          · omega⟩)
        go_wp2
        go_ret
        exact ⟨⟨_, _, _, rfl, hk, HZ.out⟩, HB2.out⟩
      · have HK2 : Hid (n < xs.length → endEmpty empL xs = true) := fun _ => by
          rcases Nat.lt_or_ge (n + 1) xs.length with e | e
          · exact HK.out e
          · rw [endEmpty_last n hnl (by omega)]; exact he
        go_wp2
        go_roundw
        case rel => exact ⟨_, n, rfl, by omega, rfl, HB2, HK2⟩
        case measure => simp [lenOf]

set_option maxHeartbeats 4000000 in
set_option maxRecDepth 100000 in
theorem specSegment_any (n : ByteArray) (u : Value) (x : Flds) (B : Nat) (w : World) (hf : Fits x) (hr : RFlds B w u x) :
    Calls Tryz.prog 28 #[.agg #[.string n, u]] w fun e w' => e = .returned (.bool (segB n x)) ∧ Below w.heap.size w w' := by
  obtain ⟨R, hR⟩ : ∃ R, R = segB n x := ⟨_, rfl⟩
  rw [← hR]
  have HR := hide hR
  have HF := hide hf
  clear hR hf
  obtain ⟨p, cap, rfl, h1, h2, h4⟩ := hr
  unfold maxLen at h2
  have H4 := hide h4
  clear h4
  go_enter Tryz.func28, Tryz.ntmps28
  go_wp2
  go_loopw [4] (fun i wr => ∃ (X : World) (k : Nat), X = wr ∧ k ≤ x.length ∧ i = .int .i64 k ∧ Hid (Below w.heap.size w X) ∧ Hid (Row X w.heap.size 41 [.string n, .slice p x.length cap]) ∧ Hid (∀ j (hj : j < x.length), j < k → fldB x[j] = true)) (fun i _ => x.length - (intOf i).toNat)
  case atStart => exact ⟨_, 0, rfl, Nat.zero_le _, rfl, (Below.refl _ _).alloc (Nat.le_refl _) _, row_new w [.string n, .slice p x.length cap] 41, fun j _ h => absurd h (by omega)⟩
  case round =>
    obtain ⟨X, k, rfl, hk, rfl, HB, HRow, HA⟩ := hrel
    have c0 : X.cell? ⟨w.heap.size, 0, none⟩ = some (.string n) := HRow.out.cell 0
    have c1 : X.cell? ⟨w.heap.size, 1, none⟩ = some (.slice p x.length cap) := HRow.out.cell 1
    by_cases hlt : k < x.length
    · obtain ⟨g, off, hp, hg, _, hc⟩ := H4.out (by omega)
      subst hp
      obtain ⟨v, hv, hrv⟩ := hc k hlt
      have hck : X.cell? ⟨g, off + k, none⟩ = some v := by rw [HB.out.cell (p := ⟨g, off + k, none⟩) hg]; exact hv
      have HRV := hide (hrv.below HB.out)
      obtain ⟨vp, vc, rfl⟩ := hrv.isSlice
      clear hv hrv hc
      go_wp2_with fail
      refine (specField_any _ (x[k]'hlt) B _ (HF.out.2 k hlt).1 (HF.out.2 k hlt).2.1 (HF.out.2 k hlt).2.2 HRV.out).mono ?_
      rintro e w2 ⟨rfl, hb2⟩
      have HB2 := hide (HB.out.trans (hb2.mono HB.out.size))
      have HRow2 := hide (HRow.out.below hb2 HRow.out.lt)
      clear hb2
      cases ho : fldB (x[k]'hlt)
      · have HN := hide (show R = false by rw [HR.out]; exact segB_flds (right_no k hlt ho))
        go_wp2
        go_ret
        exact ⟨ret_boolF HN.out.symm, HB2.out⟩
      · have HA2 := hide (all_succ HA.out (fun _ => ho))
        go_wp2
        go_roundw
        case rel => exact ⟨_, k + 1, rfl, by omega, by go_num, HB2, HRow2, HA2⟩
        case measure => simp [intOf]; omega
    · have HALL := hide (show rightB fldB empL 30 x = (decide (x.length ≤ 30) && !endEmpty empL x) from right_all (fun j hj => HA.out j hj (by omega)))
      go_wp2_with fail
      refine (l04Name_any n _).mono ?_
      rintro e w2 ⟨rfl, rfl⟩
      cases hnm : name3 n
      · have HN := hide (show R = false by rw [HR.out]; exact segB_name hnm)
        go_wp2
        go_ret
        exact ⟨ret_boolF HN.out.symm, HB.out⟩
      by_cases h30 : (x.length : Int) ≤ 30
      · have h30' : x.length ≤ 30 := by omega
        by_cases h0 : (0 : Int) < (x.length : Int)
        · have hz : ((x.length : Int) == 0) = false := beq_eq_false_iff_ne.2 (by omega)
          have h0n : 0 < x.length := by omega
          obtain ⟨q, hq1⟩ : ∃ q, x.length = q + 1 := ⟨x.length - 1, by omega⟩
          have hql : q < x.length := by omega
          have HE := hide (endEmpty_last (emp := empL) q hql hq1)
          obtain ⟨g, off, hp, hg, _, hc⟩ := H4.out (by omega)
          subst hp
          obtain ⟨v, hv, hrv⟩ := hc q hql
          have hck : w2.cell? ⟨g, off + q, none⟩ = some v := by rw [HB.out.cell (p := ⟨g, off + q, none⟩) hg]; exact hv
          have hw1 : IntKind.i64.wrap ((x.length : Int) - 1) = (q : Int) := by rw [show ((x.length : Int) - 1) = (q : Int) by omega]; exact wrap_small _ (by omega) (by omega)
          have hlt1 : (q : Int) < (x.length : Int) := by omega
          obtain ⟨vp, vc, rfl⟩ := hrv.isSlice
          have HNE := hide (show ¬ (n = msh ∧ x.length = 0) from fun h => by omega)
          clear hv hrv hc hq1
          by_cases he : (x[q]'hql).length = 0
          · have he' : ¬ 0 < ((x[q]'hql).length : Int) := by omega
            have HX := hide (show R = false by rw [HR.out]; exact segB_flds (by rw [HALL.out, HE.out]; simp [empL, he]))
            clear he
            go_wp2
            go_ret
            exact ⟨ret_boolF (by rw [HX.out]; first | done | exact decide_eq_false (by omega)), HB.out⟩
          · have he' : 0 < ((x[q]'hql).length : Int) := by omega
            have HX := hide (show R = true by rw [HR.out]; exact segB_yes hnm (by rw [HALL.out, HE.out]; simp [empL, he, h30']) HNE.out)
            clear he
            go_wp2
            go_ret
            exact ⟨ret_boolF (by rw [HX.out]; first | done | exact decide_eq_true (by omega)), HB.out⟩
        · have hz : ((x.length : Int) == 0) = true := beq_iff_eq.2 (by omega)
          have h0n : ¬ 0 < x.length := by omega
          have hx0 : x.length = 0 := by omega
          have HE := hide (endEmpty_nil (emp := empL) hx0)
          by_cases hM : n = msh
          · have HN := hide (show R = false by rw [HR.out]; exact segB_msh hM hx0)
            subst hM
            unfold msh at c0
            clear hx0
            go_wp2
            go_ret
            exact ⟨ret_boolF HN.out.symm, HB.out⟩
          · have hne0 := toList_neF (show n ≠ (⟨#[77, 83, 72]⟩ : ByteArray) from hM)
            have hne : (n.toList == [77, 83, 72]) = false := by simpa using hne0
            clear hne0
            have HX := hide (show R = true by rw [HR.out]; exact segB_yes hnm (by rw [HALL.out, HE.out]; simp [h30']) (fun h => hM h.1))
            clear hx0 hM
            go_wp2
            go_ret
            exact ⟨ret_boolF (by rw [HX.out]; first | done | simpa using hne), HB.out⟩
      · have h30' : ¬ x.length ≤ 30 := by omega
        have HN := hide (show R = false by rw [HR.out]; exact segB_flds (by rw [HALL.out]; simp [h30']))
        go_wp2
        go_ret
        exact ⟨ret_boolF HN.out.symm, HB.out⟩

set_option maxHeartbeats 4000000 in
set_option maxRecDepth 100000 in
theorem implSegment_any (n : ByteArray) (u : Value) (x : Flds) (w : World) (hf : Fits x) (hr : RFlds 0 w u x) :
    Calls Tryz.prog 51 #[.agg #[.string n, u]] w fun e w' => e = .returned (.bool (segB n x)) ∧ Below w.heap.size w w' := by
  obtain ⟨R, hR⟩ : ∃ R, R = segB n x := ⟨_, rfl⟩
  rw [← hR]
  have HR := hide hR
  have HF := hide hf
  clear hR hf
  have HL0 := hide hr
  obtain ⟨p, cap, rfl, h1, h2, h4⟩ := hr
  unfold maxLen at h2
  have H4 := hide h4
  clear h4
  have HB0 := hide ((Below.refl w.heap.size w).alloc (Nat.le_refl _) (.cells #[.string n, .slice p x.length cap] 41))
  have HRow0 := hide (row_new w [.string n, .slice p x.length cap] 41)
  go_enter Tryz.func51, Tryz.ntmps51
  go_wp2_with fail
  refine (nameRight3_any n _).mono ?_
  rintro e w1 ⟨rfl, hb1⟩
  have HB1 := hide (HB0.out.trans (hb1.mono (by simp)))
  have row1 := HRow0.out.below hb1 HRow0.out.lt
  have c0 : w1.cell? ⟨w.heap.size, 0, none⟩ = some (.string n) := row1.cell 0
  have c1 : w1.cell? ⟨w.heap.size, 1, none⟩ = some (.slice p x.length cap) := row1.cell 1
  have HRow1 := hide row1
  have HL1 := hide (HL0.out.below HB1.out)
  clear hb1 row1
  cases hnm : name3 n
  · have HN := hide (show R = false by rw [HR.out]; exact segB_name hnm)
    go_wp2
    go_ret
    exact ⟨ret_boolF HN.out.symm, HB1.out⟩
  by_cases h30 : 30 < (x.length : Int)
  · have HN := hide (show R = false by rw [HR.out]; exact segB_flds (right_many (by omega)))
    go_wp2
    go_ret
    exact ⟨ret_boolF HN.out.symm, HB1.out⟩
  have HSS := hide (show ∀ y, Below w1.heap.size w1 y → y.cell? ⟨w.heap.size, 0, none⟩ = some (.string n) ∧ y.cell? ⟨w.heap.size, 1, none⟩ = some (.slice p x.length cap) ∧ Below w1.heap.size w1 y from
    fun y h => ⟨(HRow1.out.below h HRow1.out.lt).cell 0, (HRow1.out.below h HRow1.out.lt).cell 1, h⟩)
  have HNM := hide hnm
  clear hnm
  by_cases hM : n = msh
  · by_cases hx0 : x.length = 0
    · have HN := hide (show R = false by rw [HR.out]; exact segB_msh hM hx0)
      subst hM
      rw [hx0] at c1 HSS
      unfold msh at *
      go_wp2_with fail
      go_quiet (fail)
      go_wp2
      go_ret
      exact ⟨ret_boolF HN.out.symm, ⟨HB1.out.os, HB1.out.tape, HB1.out.output, HB1.out.size, HB1.out.block⟩⟩
    · have HNE := hide (show ¬ (n = msh ∧ x.length = 0) from fun h => hx0 h.2)
      have hz : ((x.length : Int) == 0) = false := beq_eq_false_iff_ne.2 (by omega)
      subst hM
      unfold msh at c0 HSS HL1
      clear hx0
      go_wp2_with fail
      refine wp_region_held (S := fun y : World => y.cell? ⟨w.heap.size, 0, none⟩ = some (.string ⟨#[77, 83, 72]⟩) ∧ y.cell? ⟨w.heap.size, 1, none⟩ = some (.slice p x.length cap)) (by kernel_rfl) ?_
      have HS := hide (show (fun y : World => y.cell? ⟨w.heap.size, 0, none⟩ = some (.string ⟨#[77, 83, 72]⟩) ∧ y.cell? ⟨w.heap.size, 1, none⟩ = some (.slice p x.length cap)) { w1 with drawn := w1.drawn + 1 } from ⟨(HSS.out _ (Below.refl _ _).drew).1, (HSS.out _ (Below.refl _ _).drew).2.1⟩)
      refine wpAnyH_take (i := 0) (oi := _) (v := .pointer (some ⟨w.heap.size, 0, none⟩)) rfl (by kernel_rfl) (by kernel_rfl) (by kernel_rfl) (fun _ _ _ h => h) (Or.inl ⟨by rfl, by intro w hSw; go_split_ands; go_simp⟩) HS.out ?_
      simp only [Act.put, List.getElem_toArray, List.getElem_cons_zero, List.setIfInBounds_toArray, List.set_cons_zero, List.set_cons_succ]
      refine wpAnyH_take (i := 1) (oi := _) (v := .string ⟨#[77, 83, 72]⟩) rfl (by kernel_rfl) (by kernel_rfl) (by kernel_rfl) (fun _ _ _ h => h) (Or.inl ⟨by rfl, by intro w hSw; go_split_ands; go_simp⟩) HS.out ?_
      simp only [Act.put, List.getElem_toArray, List.getElem_cons_zero, List.getElem_cons_succ, List.setIfInBounds_toArray, List.set_cons_zero, List.set_cons_succ]
      refine wpAnyH_take (i := 2) (oi := _) (v := .bool true) rfl (by kernel_rfl) (by kernel_rfl) (by kernel_rfl) (fun _ _ _ h => h) (Or.inl ⟨by rfl, by intro w hSw; go_split_ands; go_simp⟩) HS.out ?_
      simp only [Act.put, List.getElem_toArray, List.getElem_cons_zero, List.getElem_cons_succ, List.setIfInBounds_toArray, List.set_cons_zero, List.set_cons_succ]
      refine wpAnyH_take (i := 3) (oi := _) (v := .bool true) rfl (by kernel_rfl) (by kernel_rfl) (by kernel_rfl) (fun _ _ _ h => h) (Or.inl ⟨by rfl, by intro w hSw; go_split_ands; go_simp⟩) HS.out ?_
      simp only [Act.put, List.getElem_toArray, List.getElem_cons_zero, List.getElem_cons_succ, List.setIfInBounds_toArray, List.set_cons_zero, List.set_cons_succ]
      refine wpAnyH_take (i := 4) (oi := _) (v := .pointer (some ⟨w.heap.size, 1, none⟩)) rfl (by kernel_rfl) (by kernel_rfl) (by kernel_rfl) (fun _ _ _ h => h) (Or.inl ⟨by rfl, by intro w hSw; go_split_ands; go_simp⟩) HS.out ?_
      simp only [Act.put, List.getElem_toArray, List.getElem_cons_zero, List.getElem_cons_succ, List.setIfInBounds_toArray, List.set_cons_zero, List.set_cons_succ]
      refine wpAnyH_take (i := 5) (oi := _) (v := .slice p x.length cap) rfl (by kernel_rfl) (by kernel_rfl) (by kernel_rfl) (fun _ _ _ h => h) (Or.inl ⟨by rfl, by intro w hSw; go_split_ands; go_simp⟩) HS.out ?_
      simp only [Act.put, List.getElem_toArray, List.getElem_cons_zero, List.getElem_cons_succ, List.setIfInBounds_toArray, List.set_cons_zero, List.set_cons_succ]
      refine wpAnyH_take (i := 6) (oi := _) (v := .int .i64 (x.length : Int)) rfl (by kernel_rfl) (by kernel_rfl) (by kernel_rfl) (fun _ _ _ h => h) (Or.inl ⟨by rfl, by intro w hSw; go_split_ands; go_simp⟩) HS.out ?_
      simp only [Act.put, List.getElem_toArray, List.getElem_cons_zero, List.getElem_cons_succ, List.setIfInBounds_toArray, List.set_cons_zero, List.set_cons_succ]
      refine wpAnyH_take (i := 7) (oi := _) (v := .bool false) rfl (by kernel_rfl) (by kernel_rfl) (by kernel_rfl) (fun _ _ _ h => h) (Or.inl ⟨by rfl, by intro w hSw; go_split_ands; go_simp⟩) HS.out ?_
      simp only [Act.put, List.getElem_toArray, List.getElem_cons_zero, List.getElem_cons_succ, List.setIfInBounds_toArray, List.set_cons_zero, List.set_cons_succ]
      refine wpAnyH_take (i := 8) (oi := _) (v := .bool false) rfl (by kernel_rfl) (by kernel_rfl) (by kernel_rfl) (fun _ _ _ h => h) (Or.inl ⟨by rfl, by intro w hSw; go_split_ands; go_simp⟩) HS.out ?_
      simp only [Act.put, List.getElem_toArray, List.getElem_cons_zero, List.getElem_cons_succ, List.setIfInBounds_toArray, List.set_cons_zero, List.set_cons_succ]
      refine wpAnyH_take (i := 9) (oi := _) (v := .bool false) rfl (by kernel_rfl) (by kernel_rfl) (by kernel_rfl) (fun _ _ _ h => h) (Or.inl ⟨by rfl, by intro w hSw; go_split_ands; go_simp⟩) HS.out ?_
      simp only [Act.put, List.getElem_toArray, List.getElem_cons_zero, List.getElem_cons_succ, List.setIfInBounds_toArray, List.set_cons_zero, List.set_cons_succ]
      refine wpAnyH_take (i := 10) (oi := _) (v := .pointer (some ⟨w.heap.size, 1, none⟩)) rfl (by kernel_rfl) (by kernel_rfl) (by kernel_rfl) (fun _ _ _ h => h) (Or.inl ⟨by rfl, by intro w hSw; go_split_ands; go_simp⟩) HS.out ?_
      simp only [Act.put, List.getElem_toArray, List.getElem_cons_zero, List.getElem_cons_succ, List.setIfInBounds_toArray, List.set_cons_zero, List.set_cons_succ]
      refine wpAnyH_take (i := 11) (oi := _) (v := .slice p x.length cap) rfl (by kernel_rfl) (by kernel_rfl) (by kernel_rfl) (fun _ _ _ h => h) (Or.inl ⟨by rfl, by intro w hSw; go_split_ands; go_simp⟩) HS.out ?_
      simp only [Act.put, List.getElem_toArray, List.getElem_cons_zero, List.getElem_cons_succ, List.setIfInBounds_toArray, List.set_cons_zero, List.set_cons_succ]
      refine wpAnyH_take (i := 12) (oi := _) (v := .int .i64 (x.length : Int)) rfl (by kernel_rfl) (by kernel_rfl) (by kernel_rfl) (fun _ _ _ h => h) (Or.inl ⟨by rfl, by intro w hSw; go_split_ands; go_simp⟩) HS.out ?_
      simp only [Act.put, List.getElem_toArray, List.getElem_cons_zero, List.getElem_cons_succ, List.setIfInBounds_toArray, List.set_cons_zero, List.set_cons_succ]
      refine wpAnyH_take (i := 13) (oi := _) (v := .pointer (some ⟨w.heap.size, 1, none⟩)) rfl (by kernel_rfl) (by kernel_rfl) (by kernel_rfl) (fun _ _ _ h => h) (Or.inl ⟨by rfl, by intro w hSw; go_split_ands; go_simp⟩) HS.out ?_
      simp only [Act.put, List.getElem_toArray, List.getElem_cons_zero, List.getElem_cons_succ, List.setIfInBounds_toArray, List.set_cons_zero, List.set_cons_succ]
      refine wpAnyH_take (i := 14) (oi := _) (v := .slice p x.length cap) rfl (by kernel_rfl) (by kernel_rfl) (by kernel_rfl) (fun _ _ _ h => h) (Or.inl ⟨by rfl, by intro w hSw; go_split_ands; go_simp⟩) HS.out ?_
      simp only [Act.put, List.getElem_toArray, List.getElem_cons_zero, List.getElem_cons_succ, List.setIfInBounds_toArray, List.set_cons_zero, List.set_cons_succ]
      refine wpAnyH_ready (rs := [15]) (by kernel_rfl) (by simp) ?_
      refine AllReadyH.cons (o := _) rfl (fun K hK => ?_) AllReadyH.nil
      go_simp
      refine (leaveOutF_any x HF.out _ _ (HL1.out.below ((Below.refl _ _).drew))).mono ?_
      rintro e w2 ⟨⟨p2, c2, k2, rfl, hk2, hiff⟩, hb2⟩
      have HI := hide hiff
      have HB12 := hide (below_drew hb2)
      have HS2 := hide (show (fun y : World => y.cell? ⟨w.heap.size, 0, none⟩ = some (.string ⟨#[77, 83, 72]⟩) ∧ y.cell? ⟨w.heap.size, 1, none⟩ = some (.slice p x.length cap)) w2 from ⟨(HSS.out _ HB12.out).1, (HSS.out _ HB12.out).2.1⟩)
      clear hiff hb2
      refine hK.out _ _ HS2.out (fun _ => ?_)
      clear hK K
      clear HS
      have HS := HS2
      clear HS2
      refine wpAnyH_take (i := 16) (oi := _) (v := .int .i64 (k2 : Int)) rfl (by kernel_rfl) (by kernel_rfl) (by kernel_rfl) (fun _ _ _ h => h) (Or.inl ⟨by rfl, by intro w hSw; go_split_ands; go_simp⟩) HS.out ?_
      simp only [Act.put, List.getElem_toArray, List.getElem_cons_zero, List.getElem_cons_succ, List.setIfInBounds_toArray, List.set_cons_zero, List.set_cons_succ]
      by_cases hke : k2 = x.length
      · have HEE := hide (HI.out.1 hke)
        have hnb : ((x.length : Int) != (k2 : Int)) = false := by rw [hke]; simp
        refine wpAnyH_take (i := 17) (oi := _) (v := .bool false) rfl (by kernel_rfl) (by kernel_rfl) (by kernel_rfl) (fun _ _ _ h => h) (Or.inl ⟨by rfl, by intro w hSw; go_split_ands; go_simp⟩) HS.out ?_
        simp only [Act.put, List.getElem_toArray, List.getElem_cons_zero, List.getElem_cons_succ, List.setIfInBounds_toArray, List.set_cons_zero, List.set_cons_succ]
        refine wpAnyH_take (i := 18) (oi := _) (v := .bool false) rfl (by kernel_rfl) (by kernel_rfl) (by kernel_rfl) (fun _ _ _ h => h) (Or.inl ⟨by rfl, by intro w hSw; go_split_ands; go_simp⟩) HS.out ?_
        simp only [Act.put, List.getElem_toArray, List.getElem_cons_zero, List.getElem_cons_succ, List.setIfInBounds_toArray, List.set_cons_zero, List.set_cons_succ]
        refine wpAnyH_done (by kernel_rfl) ?_ _
        have HB2 := hide (HB1.out.trans (HB12.out.mono HB1.out.size))
        have row2 := HRow1.out.below HB12.out HRow1.out.lt
        have d1 : w2.cell? ⟨w.heap.size, 1, none⟩ = some (.slice p x.length cap) := row2.cell 1
        have hl30 : x.length ≤ 30 := by omega
        clear hke hnb HS row2 c0 c1
        go_wp2_with fail
        go_loopw [37] (fun i wr => ∃ (X : World) (k : Nat), X = wr ∧ k ≤ x.length ∧ i = .int .i64 k ∧ Hid (Below w.heap.size w X) ∧ Hid (∀ j (hj : j < x.length), j < k → fldB x[j] = true)) (fun i _ => x.length - (intOf i).toNat)
        case atStart => exact ⟨_, 0, rfl, Nat.zero_le _, rfl, HB2, fun j _ h => absurd h (by omega)⟩
        case round =>
          obtain ⟨X, k, rfl, hk, rfl, HB, HA⟩ := hrel
          by_cases hlt : k < x.length
          · obtain ⟨g, off, hp, hg, _, hc⟩ := H4.out (by omega)
            subst hp
            obtain ⟨v, hv, hrv⟩ := hc k hlt
            have hck : X.cell? ⟨g, off + k, none⟩ = some v := by rw [HB.out.cell (p := ⟨g, off + k, none⟩) hg]; exact hv
            obtain ⟨vp, vc, rfl⟩ := hrv.isSlice
            have hXa : Below w.heap.size w (X.alloc (.cells #[.slice vp (x[k]'hlt).length vc] 54)) := HB.out.alloc HB.out.size _
            have HXA := hide hXa
            have HRV := hide (hrv.below hXa)
            clear hv hrv hc hXa
            go_wp2_with fail
            refine (implFieldRight_any _ (x[k]'hlt) _ (HF.out.2 k hlt).1 (HF.out.2 k hlt).2.1 (HF.out.2 k hlt).2.2 HRV.out).mono ?_
            rintro e w3 ⟨rfl, hb3⟩
            have HB3 := hide (HXA.out.trans (hb3.mono HXA.out.size))
            clear hb3
            cases ho : fldB (x[k]'hlt)
            · have HN := hide (show R = false by rw [HR.out]; exact segB_flds (right_no k hlt ho))
              go_wp2
              go_ret
              exact ⟨ret_boolF HN.out.symm, HB3.out⟩
            · have HA2 := hide (all_succ HA.out (fun _ => ho))
              go_wp2
              go_roundw
              case rel => exact ⟨_, k + 1, rfl, by omega, by go_num, HB3, HA2⟩
              case measure => simp [intOf]; omega
          · have HY := hide (show R = true by rw [HR.out]; exact segB_yes HNM.out (right_yes hl30 HEE.out (fun j hj => HA.out j hj (by omega))) (by first | exact HNE.out | simpa using HNE.out))
            go_wp2
            go_ret
            exact ⟨ret_boolF HY.out.symm, HB.out⟩
      · have hnb : ((x.length : Int) != (k2 : Int)) = true := by simp; omega
        refine wpAnyH_take (i := 17) (oi := _) (v := .bool true) rfl (by kernel_rfl) (by kernel_rfl) (by kernel_rfl) (fun _ _ _ h => h) (Or.inl ⟨by rfl, by intro w hSw; go_split_ands; go_simp⟩) HS.out ?_
        simp only [Act.put, List.getElem_toArray, List.getElem_cons_zero, List.getElem_cons_succ, List.setIfInBounds_toArray, List.set_cons_zero, List.set_cons_succ]
        refine wpAnyH_take (i := 18) (oi := _) (v := .bool true) rfl (by kernel_rfl) (by kernel_rfl) (by kernel_rfl) (fun _ _ _ h => h) (Or.inl ⟨by rfl, by intro w hSw; go_split_ands; go_simp⟩) HS.out ?_
        simp only [Act.put, List.getElem_toArray, List.getElem_cons_zero, List.getElem_cons_succ, List.setIfInBounds_toArray, List.set_cons_zero, List.set_cons_succ]
        refine wpAnyH_done (by kernel_rfl) ?_ _
        have HN := hide (show R = false by
          rw [HR.out]
          refine segB_flds (right_end ?_)
          cases h : endEmpty empL x
          · exact absurd (HI.out.2 h) hke
          · rfl)
        clear hke hnb HS
        go_wp2
        go_ret
        exact ⟨ret_boolF HN.out.symm, HB1.out.trans (HB12.out.mono HB1.out.size)⟩
  · have HNE := hide (show ¬ (n = msh ∧ x.length = 0) from fun h => hM h.1)
    have hne0 := toList_neF (show n ≠ (⟨#[77, 83, 72]⟩ : ByteArray) from hM)
    have hne : (n.toList == [77, 83, 72]) = false := by simpa using hne0
    clear hne0 hM
    go_wp2_with fail
    refine wp_region_held (S := fun y : World => y.cell? ⟨w.heap.size, 0, none⟩ = some (.string n) ∧ y.cell? ⟨w.heap.size, 1, none⟩ = some (.slice p x.length cap)) (by kernel_rfl) ?_
    have HS := hide (show (fun y : World => y.cell? ⟨w.heap.size, 0, none⟩ = some (.string n) ∧ y.cell? ⟨w.heap.size, 1, none⟩ = some (.slice p x.length cap)) { w1 with drawn := w1.drawn + 1 } from ⟨(HSS.out _ (Below.refl _ _).drew).1, (HSS.out _ (Below.refl _ _).drew).2.1⟩)
    refine wpAnyH_take (i := 0) (oi := _) (v := .pointer (some ⟨w.heap.size, 0, none⟩)) rfl (by kernel_rfl) (by kernel_rfl) (by kernel_rfl) (fun _ _ _ h => h) (Or.inl ⟨by rfl, by intro w hSw; go_split_ands; go_simp⟩) HS.out ?_
    simp only [Act.put, List.getElem_toArray, List.getElem_cons_zero, List.setIfInBounds_toArray, List.set_cons_zero, List.set_cons_succ]
    refine wpAnyH_take (i := 1) (oi := _) (v := .string n) rfl (by kernel_rfl) (by kernel_rfl) (by kernel_rfl) (fun _ _ _ h => h) (Or.inl ⟨by rfl, by intro w hSw; go_split_ands; go_simp⟩) HS.out ?_
    simp only [Act.put, List.getElem_toArray, List.getElem_cons_zero, List.getElem_cons_succ, List.setIfInBounds_toArray, List.set_cons_zero, List.set_cons_succ]
    refine wpAnyH_take (i := 2) (oi := _) (v := .bool false) rfl (by kernel_rfl) (by kernel_rfl) (by kernel_rfl) (fun _ _ _ h => h) (Or.inl ⟨by rfl, by intro w hSw; go_split_ands; go_simp⟩) HS.out ?_
    simp only [Act.put, List.getElem_toArray, List.getElem_cons_zero, List.getElem_cons_succ, List.setIfInBounds_toArray, List.set_cons_zero, List.set_cons_succ]
    refine wpAnyH_take (i := 3) (oi := _) (v := .bool false) rfl (by kernel_rfl) (by kernel_rfl) (by kernel_rfl) (fun _ _ _ h => h) (Or.inl ⟨by rfl, by intro w hSw; go_split_ands; go_simp⟩) HS.out ?_
    simp only [Act.put, List.getElem_toArray, List.getElem_cons_zero, List.getElem_cons_succ, List.setIfInBounds_toArray, List.set_cons_zero, List.set_cons_succ]
    refine wpAnyH_take (i := 4) (oi := _) (v := undef) rfl (by kernel_rfl) (by kernel_rfl) (by kernel_rfl) (fun _ _ _ h => h) (Or.inr ⟨by rfl, rfl⟩) HS.out ?_
    simp only [Act.put, List.getElem_toArray, List.getElem_cons_zero, List.getElem_cons_succ, List.setIfInBounds_toArray, List.set_cons_zero, List.set_cons_succ]
    refine wpAnyH_take (i := 5) (oi := _) (v := undef) rfl (by kernel_rfl) (by kernel_rfl) (by kernel_rfl) (fun _ _ _ h => h) (Or.inr ⟨by rfl, rfl⟩) HS.out ?_
    simp only [Act.put, List.getElem_toArray, List.getElem_cons_zero, List.getElem_cons_succ, List.setIfInBounds_toArray, List.set_cons_zero, List.set_cons_succ]
    refine wpAnyH_take (i := 6) (oi := _) (v := undef) rfl (by kernel_rfl) (by kernel_rfl) (by kernel_rfl) (fun _ _ _ h => h) (Or.inr ⟨by rfl, rfl⟩) HS.out ?_
    simp only [Act.put, List.getElem_toArray, List.getElem_cons_zero, List.getElem_cons_succ, List.setIfInBounds_toArray, List.set_cons_zero, List.set_cons_succ]
    refine wpAnyH_take (i := 7) (oi := _) (v := undef) rfl (by kernel_rfl) (by kernel_rfl) (by kernel_rfl) (fun _ _ _ h => h) (Or.inr ⟨by rfl, rfl⟩) HS.out ?_
    simp only [Act.put, List.getElem_toArray, List.getElem_cons_zero, List.getElem_cons_succ, List.setIfInBounds_toArray, List.set_cons_zero, List.set_cons_succ]
    refine wpAnyH_take (i := 8) (oi := _) (v := .bool false) rfl (by kernel_rfl) (by kernel_rfl) (by kernel_rfl) (fun _ _ _ h => h) (Or.inl ⟨by rfl, by intro w hSw; go_split_ands; go_simp⟩) HS.out ?_
    simp only [Act.put, List.getElem_toArray, List.getElem_cons_zero, List.getElem_cons_succ, List.setIfInBounds_toArray, List.set_cons_zero, List.set_cons_succ]
    refine wpAnyH_take (i := 9) (oi := _) (v := .bool false) rfl (by kernel_rfl) (by kernel_rfl) (by kernel_rfl) (fun _ _ _ h => h) (Or.inl ⟨by rfl, by intro w hSw; go_split_ands; go_simp⟩) HS.out ?_
    simp only [Act.put, List.getElem_toArray, List.getElem_cons_zero, List.getElem_cons_succ, List.setIfInBounds_toArray, List.set_cons_zero, List.set_cons_succ]
    refine wpAnyH_take (i := 10) (oi := _) (v := .pointer (some ⟨w.heap.size, 1, none⟩)) rfl (by kernel_rfl) (by kernel_rfl) (by kernel_rfl) (fun _ _ _ h => h) (Or.inl ⟨by rfl, by intro w hSw; go_split_ands; go_simp⟩) HS.out ?_
    simp only [Act.put, List.getElem_toArray, List.getElem_cons_zero, List.getElem_cons_succ, List.setIfInBounds_toArray, List.set_cons_zero, List.set_cons_succ]
    refine wpAnyH_take (i := 11) (oi := _) (v := .slice p x.length cap) rfl (by kernel_rfl) (by kernel_rfl) (by kernel_rfl) (fun _ _ _ h => h) (Or.inl ⟨by rfl, by intro w hSw; go_split_ands; go_simp⟩) HS.out ?_
    simp only [Act.put, List.getElem_toArray, List.getElem_cons_zero, List.getElem_cons_succ, List.setIfInBounds_toArray, List.set_cons_zero, List.set_cons_succ]
    refine wpAnyH_take (i := 12) (oi := _) (v := .int .i64 (x.length : Int)) rfl (by kernel_rfl) (by kernel_rfl) (by kernel_rfl) (fun _ _ _ h => h) (Or.inl ⟨by rfl, by intro w hSw; go_split_ands; go_simp⟩) HS.out ?_
    simp only [Act.put, List.getElem_toArray, List.getElem_cons_zero, List.getElem_cons_succ, List.setIfInBounds_toArray, List.set_cons_zero, List.set_cons_succ]
    refine wpAnyH_take (i := 13) (oi := _) (v := .pointer (some ⟨w.heap.size, 1, none⟩)) rfl (by kernel_rfl) (by kernel_rfl) (by kernel_rfl) (fun _ _ _ h => h) (Or.inl ⟨by rfl, by intro w hSw; go_split_ands; go_simp⟩) HS.out ?_
    simp only [Act.put, List.getElem_toArray, List.getElem_cons_zero, List.getElem_cons_succ, List.setIfInBounds_toArray, List.set_cons_zero, List.set_cons_succ]
    refine wpAnyH_take (i := 14) (oi := _) (v := .slice p x.length cap) rfl (by kernel_rfl) (by kernel_rfl) (by kernel_rfl) (fun _ _ _ h => h) (Or.inl ⟨by rfl, by intro w hSw; go_split_ands; go_simp⟩) HS.out ?_
    simp only [Act.put, List.getElem_toArray, List.getElem_cons_zero, List.getElem_cons_succ, List.setIfInBounds_toArray, List.set_cons_zero, List.set_cons_succ]
    refine wpAnyH_ready (rs := [15]) (by kernel_rfl) (by simp) ?_
    refine AllReadyH.cons (o := _) rfl (fun K hK => ?_) AllReadyH.nil
    go_simp
    refine (leaveOutF_any x HF.out _ _ (HL1.out.below ((Below.refl _ _).drew))).mono ?_
    rintro e w2 ⟨⟨p2, c2, k2, rfl, hk2, hiff⟩, hb2⟩
    have HI := hide hiff
    have HB12 := hide (below_drew hb2)
    have HS2 := hide (show (fun y : World => y.cell? ⟨w.heap.size, 0, none⟩ = some (.string n) ∧ y.cell? ⟨w.heap.size, 1, none⟩ = some (.slice p x.length cap)) w2 from ⟨(HSS.out _ HB12.out).1, (HSS.out _ HB12.out).2.1⟩)
    clear hiff hb2
    refine hK.out _ _ HS2.out (fun _ => ?_)
    clear hK K
    clear HS
    have HS := HS2
    clear HS2
    refine wpAnyH_take (i := 16) (oi := _) (v := .int .i64 (k2 : Int)) rfl (by kernel_rfl) (by kernel_rfl) (by kernel_rfl) (fun _ _ _ h => h) (Or.inl ⟨by rfl, by intro w hSw; go_split_ands; go_simp⟩) HS.out ?_
    simp only [Act.put, List.getElem_toArray, List.getElem_cons_zero, List.getElem_cons_succ, List.setIfInBounds_toArray, List.set_cons_zero, List.set_cons_succ]
    by_cases hke : k2 = x.length
    · have HEE := hide (HI.out.1 hke)
      have hnb : ((x.length : Int) != (k2 : Int)) = false := by rw [hke]; simp
      refine wpAnyH_take (i := 17) (oi := _) (v := .bool false) rfl (by kernel_rfl) (by kernel_rfl) (by kernel_rfl) (fun _ _ _ h => h) (Or.inl ⟨by rfl, by intro w hSw; go_split_ands; go_simp⟩) HS.out ?_
      simp only [Act.put, List.getElem_toArray, List.getElem_cons_zero, List.getElem_cons_succ, List.setIfInBounds_toArray, List.set_cons_zero, List.set_cons_succ]
      refine wpAnyH_take (i := 18) (oi := _) (v := .bool false) rfl (by kernel_rfl) (by kernel_rfl) (by kernel_rfl) (fun _ _ _ h => h) (Or.inl ⟨by rfl, by intro w hSw; go_split_ands; go_simp⟩) HS.out ?_
      simp only [Act.put, List.getElem_toArray, List.getElem_cons_zero, List.getElem_cons_succ, List.setIfInBounds_toArray, List.set_cons_zero, List.set_cons_succ]
      refine wpAnyH_done (by kernel_rfl) ?_ _
      have HB2 := hide (HB1.out.trans (HB12.out.mono HB1.out.size))
      have row2 := HRow1.out.below HB12.out HRow1.out.lt
      have d1 : w2.cell? ⟨w.heap.size, 1, none⟩ = some (.slice p x.length cap) := row2.cell 1
      have hl30 : x.length ≤ 30 := by omega
      clear hke hnb HS row2 c0 c1
      go_wp2_with fail
      go_loopw [37] (fun i wr => ∃ (X : World) (k : Nat), X = wr ∧ k ≤ x.length ∧ i = .int .i64 k ∧ Hid (Below w.heap.size w X) ∧ Hid (∀ j (hj : j < x.length), j < k → fldB x[j] = true)) (fun i _ => x.length - (intOf i).toNat)
      case atStart => exact ⟨_, 0, rfl, Nat.zero_le _, rfl, HB2, fun j _ h => absurd h (by omega)⟩
      case round =>
        obtain ⟨X, k, rfl, hk, rfl, HB, HA⟩ := hrel
        by_cases hlt : k < x.length
        · obtain ⟨g, off, hp, hg, _, hc⟩ := H4.out (by omega)
          subst hp
          obtain ⟨v, hv, hrv⟩ := hc k hlt
          have hck : X.cell? ⟨g, off + k, none⟩ = some v := by rw [HB.out.cell (p := ⟨g, off + k, none⟩) hg]; exact hv
          obtain ⟨vp, vc, rfl⟩ := hrv.isSlice
          have hXa : Below w.heap.size w (X.alloc (.cells #[.slice vp (x[k]'hlt).length vc] 54)) := HB.out.alloc HB.out.size _
          have HXA := hide hXa
          have HRV := hide (hrv.below hXa)
          clear hv hrv hc hXa
          go_wp2_with fail
          refine (implFieldRight_any _ (x[k]'hlt) _ (HF.out.2 k hlt).1 (HF.out.2 k hlt).2.1 (HF.out.2 k hlt).2.2 HRV.out).mono ?_
          rintro e w3 ⟨rfl, hb3⟩
          have HB3 := hide (HXA.out.trans (hb3.mono HXA.out.size))
          clear hb3
          cases ho : fldB (x[k]'hlt)
          · have HN := hide (show R = false by rw [HR.out]; exact segB_flds (right_no k hlt ho))
            go_wp2
            go_ret
            exact ⟨ret_boolF HN.out.symm, HB3.out⟩
          · have HA2 := hide (all_succ HA.out (fun _ => ho))
            go_wp2
            go_roundw
            case rel => exact ⟨_, k + 1, rfl, by omega, by go_num, HB3, HA2⟩
            case measure => simp [intOf]; omega
        · have HY := hide (show R = true by rw [HR.out]; exact segB_yes HNM.out (right_yes hl30 HEE.out (fun j hj => HA.out j hj (by omega))) (by first | exact HNE.out | simpa using HNE.out))
          go_wp2
          go_ret
          exact ⟨ret_boolF HY.out.symm, HB.out⟩
    · have hnb : ((x.length : Int) != (k2 : Int)) = true := by simp; omega
      refine wpAnyH_take (i := 17) (oi := _) (v := .bool true) rfl (by kernel_rfl) (by kernel_rfl) (by kernel_rfl) (fun _ _ _ h => h) (Or.inl ⟨by rfl, by intro w hSw; go_split_ands; go_simp⟩) HS.out ?_
      simp only [Act.put, List.getElem_toArray, List.getElem_cons_zero, List.getElem_cons_succ, List.setIfInBounds_toArray, List.set_cons_zero, List.set_cons_succ]
      refine wpAnyH_take (i := 18) (oi := _) (v := .bool true) rfl (by kernel_rfl) (by kernel_rfl) (by kernel_rfl) (fun _ _ _ h => h) (Or.inl ⟨by rfl, by intro w hSw; go_split_ands; go_simp⟩) HS.out ?_
      simp only [Act.put, List.getElem_toArray, List.getElem_cons_zero, List.getElem_cons_succ, List.setIfInBounds_toArray, List.set_cons_zero, List.set_cons_succ]
      refine wpAnyH_done (by kernel_rfl) ?_ _
      have HN := hide (show R = false by
        rw [HR.out]
        refine segB_flds (right_end ?_)
        cases h : endEmpty empL x
        · exact absurd (HI.out.2 h) hke
        · rfl)
      clear hke hnb HS
      go_wp2
      go_ret
      exact ⟨ret_boolF HN.out.symm, HB1.out.trans (HB12.out.mono HB1.out.size)⟩
end Go.Proofs.YtckcfjibiidafaaGreat
/- The program's appendPart. -/
namespace Go.Proofs.YtckcfjibiidafaaGreat
open Go.RowKit
instance {α : Type} (U : Nat) (T : TypeId) (R : World → Value → α → Prop) [Under U R] : Under U (RI T R) := ⟨fun hb ⟨u, e, h⟩ => ⟨u, e, Under.go hb h⟩⟩
instance (U : Nat) : Under U RIs := ⟨fun _ h => h⟩
abbrev VSub (_ : Nat) : World → Value → ByteArray → Prop := RIs
abbrev VComp (U : Nat) : World → Value → List ByteArray → Prop := RI 71 (UComp U)
abbrev VRep (U : Nat) : World → Value → List (List ByteArray) → Prop := RI 69 (URep U)
abbrev VField (U : Nat) : World → Value → List (List (List ByteArray)) → Prop := RI 54 (UFld U)
theorem part_kept {B : Nat} {w w' : World} {v : Value} {L : List UInt8} {g : Nat} {vs : List Value} (h : Buf 5 B w w' v L) (hr : Row w g 104 vs) : Row w' g 104 vs :=
  h.kept g _ hr (by simp) (fun _ _ e1 => by simp at e1)

set_option maxHeartbeats 1000000 in
set_option maxRecDepth 100000 in
theorem appSub (v : Value) (L : List UInt8) (B : Nat) (m : ByteArray) (u : Value) (x : ByteArray) (w : World) (hm : m.size = 5) (hx : subB x = true) (hL : L.length + (subT m x).length + 45305 ≤ 80000000) (hB : B ≤ w.heap.size) (ho : w.ownsRow B 5 1 v L.length (u8s L)) (hr : VSub B w u x) :
    Calls Tryz.prog 69 #[v, .string m, u] w fun e w' => ∃ v', e = .returned v' ∧ Buf 5 B w w' v' (L ++ subT m x) := by
  obtain ⟨rfl, _⟩ := hr
  have HO := hide ho
  clear ho
  obtain ⟨hp, h6⟩ := subB_plain hx
  have a1 := Tryz.assubPartsubPart
  go_enter Tryz.func69, Tryz.ntmps69
  go_wp2_with fail
  refine (appendEscaped_any v L B m x _ hm hp (by omega) hB HO.out).mono ?_
  rintro e w1 ⟨v1, rfl, hb1⟩
  have HB := hide hb1
  clear hb1
  go_wp2
  go_ret
  exact ⟨_, rfl, HB.out⟩

set_option maxHeartbeats 4000000 in
set_option maxRecDepth 100000 in
theorem appComp (v : Value) (L : List UInt8) (B : Nat) (m : ByteArray) (u : Value) (x : List (ByteArray)) (w : World) (hm : m.size = 5) (hx : compB x = true) (hL : L.length + (compT m x).length + 45305 ≤ 80000000) (hB : B ≤ w.heap.size) (ho : w.ownsRow B 5 1 v L.length (u8s L)) (hr : VComp B w u x) :
    Calls Tryz.prog 69 #[v, .string m, u] w fun e w' => ∃ v', e = .returned v' ∧ Buf 5 B w w' v' (L ++ compT m x) := by
  obtain ⟨y, rfl, hy⟩ := hr
  have HY := hide hy
  obtain ⟨yp, yc, rfl⟩ := hy.isSlice
  clear hy
  have HO := hide ho
  clear ho
  obtain ⟨hxe, hxl⟩ := right_mem hx
  have HXE := hide hxe
  have hn : x.length ≤ 1048576 := by omega
  clear hxe hx
  have HLL := hide (show L.length + (jnF (bAt m 4) (subT m) 0 x).length + 45305 ≤ 80000000 from hL)
  clear hL
  have hmk : 4 < m.size := by omega
  have HMK := hide (bAt_get m 4 hmk)
  have a1 := Tryz.asCompsubPart
  have a2 := Tryz.innerComp
  go_enter Tryz.func69, Tryz.ntmps69
  go_wp2_with fail
  refine (limitsComp _ _).mono ?_
  rintro e w1 ⟨rfl, rfl⟩
  go_wp2_with fail
  refine (innerComp_row _ x _ hn HY.out.rl).mono ?_
  rintro e w2 ⟨g, vs, rfl, hrow, _, hvl, hel, hb2⟩
  have HBf0 := hide ((Buf.start HO.out hB).onBelow hb2)
  have HROW := hide hrow
  have HVL := hide hvl
  have HEL := hide hel
  clear hrow hvl hel hb2
  go_wp2_with fail
  go_loopw [0, 31] (fun v' i wr => ∃ (X : World) (k : Nat) (D : List UInt8), X = wr ∧ k ≤ x.length ∧ i = .int .i64 k ∧ Hid (Buf 5 B w1 X v' (L ++ D)) ∧ Hid (Row X g 104 vs) ∧ Hid (Done (bAt m 4) (subT m) x k D) ∧ Hid (Below B w2 X)) (fun _ i _ => x.length - (intOf i).toNat)
  case atStart => exact ⟨_, 0, [], rfl, Nat.zero_le _, rfl, by rw [List.append_nil]; exact HBf0, HROW, Done.zero _ _ _, Below.refl _ _⟩
  case round =>
    obtain ⟨X, k, D, rfl, hk, rfl, HBf, HRw, HD, HW2⟩ := hrel
    by_cases hlt : k < x.length
    · have hck : X.cell? ⟨g, k, none⟩ = some (vs[k]'(by rw [HVL.out]; exact hlt)) := HRw.out.at k (by rw [HVL.out]; exact hlt)
      have HRU : Hid (VSub B X (vs[k]'(by rw [HVL.out]; exact hlt)) x[k]) := Under.go HW2.out (HEL.out k (by rw [HVL.out]; exact hlt) hlt)
      generalize vs[k]'(by rw [HVL.out]; exact hlt) = uk at hck HRU
      have HRM := hide (HD.out.room hlt)
      have HOK := hide (HXE.out k hlt)
      by_cases h0 : k = 0
      · subst h0
        have HD1 := hide (HD.out.first hlt)
        go_wp2_with fail
        refine (appSub _ (L ++ D) B m uk (x[0]'hlt) _ hm HOK.out (by have h1 := HRM.out; have h2 := HLL.out; simp only [List.length_append] at *; simp at h1; omega) HBf.out.size HBf.out.own HRU.out).mono ?_
        rintro e w3 ⟨v3, rfl, hb3⟩
        have HB3 := hide (HBf.out.trans hb3)
        have HRw3 := hide (part_kept hb3 HRw.out)
        have HW3 := hide (HW2.out.trans hb3.below)
        clear hb3
        go_wp2
        go_roundw
        case rel => exact ⟨_, 1, _, rfl, by omega, by go_num, by rw [← List.append_assoc]; exact HB3, HRw3, HD1, HW3⟩
        case measure => simp [intOf]; omega
      · have hpos : (0 : Int) < (k : Int) := by omega
        have hk0 : 0 < k := by omega
        have HD1 := hide (HD.out.next hk0 hlt)
        have HBs := hide ((Buf.start HBf.out.own HBf.out.size).alloc (.cells #[.int .u8 ((m[4]'hmk).toNat : Int)] 5))
        have HC := hide (heap_alloc_new X (.cells #[.int .u8 ((m[4]'hmk).toNat : Int)] 5))
        have HL3 := hide (show (L ++ D).length + [m[4]'hmk].length ≤ 100000000 by have h1 := HRM.out; have h2 := HLL.out; rw [if_pos hk0] at h1; simp only [List.length_append, List.length_cons, List.length_nil] at *; omega)
        go_wp2_with (at_builtin; refine wpList_buf (w0 := X) rfl (.tmp 38) (.tmp 42) 74 rfl B 5 Tryz.underlying74 Tryz.infoByte u0 (L ++ D) rfl HBs.out X.heap.size 1 [m[4]'hmk] rfl rfl ⟨_, HC.out⟩ HL3.out ?_)
        intro v3 w3 hb3
        have HB3 := hide (HBf.out.trans hb3)
        have HRw3 := hide (part_kept hb3 HRw.out)
        have HW3 := hide (HW2.out.trans hb3.below)
        have HRU3 : Hid (VSub B w3 uk x[k]) := Under.go hb3.below HRU.out
        clear hb3
        go_wp2_with fail
        refine (appSub _ (L ++ (D ++ [m[4]'hmk])) B m uk (x[k]'hlt) _ hm HOK.out (by have h1 := HRM.out; have h2 := HLL.out; rw [if_pos hk0] at h1; simp only [List.length_append, List.length_cons, List.length_nil] at *; omega) HB3.out.size HB3.out.own HRU3.out).mono ?_
        rintro e w4 ⟨v4, rfl, hb4⟩
        have HB4 := hide (HB3.out.trans hb4)
        have HRw4 := hide (part_kept hb4 HRw3.out)
        have HW4 := hide (HW3.out.trans hb4.below)
        clear hb4
        go_wp2
        go_roundw
        case rel =>
          refine ⟨_, k + 1, _, rfl, by omega, by go_num, ?_, HRw4, HD1, HW4⟩
          rw [HMK.out]
          have := HB4.out
          simp only [List.append_assoc] at this ⊢
          exact this
        case measure => simp [intOf]; omega
    · have HA := hide (HD.out.all (by omega))
      rw [HA.out] at HBf
      go_wp2
      go_ret
      exact ⟨_, rfl, HBf.out⟩

set_option maxHeartbeats 4000000 in
set_option maxRecDepth 100000 in
theorem appRep (v : Value) (L : List UInt8) (B : Nat) (m : ByteArray) (u : Value) (x : List (List ByteArray)) (w : World) (hm : m.size = 5) (hx : repB x = true) (hL : L.length + (repT m x).length + 45305 ≤ 80000000) (hB : B ≤ w.heap.size) (ho : w.ownsRow B 5 1 v L.length (u8s L)) (hr : VRep B w u x) :
    Calls Tryz.prog 69 #[v, .string m, u] w fun e w' => ∃ v', e = .returned v' ∧ Buf 5 B w w' v' (L ++ repT m x) := by
  obtain ⟨y, rfl, hy⟩ := hr
  have HY := hide hy
  obtain ⟨yp, yc, rfl⟩ := hy.isSlice
  clear hy
  have HO := hide ho
  clear ho
  obtain ⟨hxe, hxl⟩ := right_mem hx
  have HXE := hide hxe
  have hn : x.length ≤ 1048576 := by omega
  clear hxe hx
  have HLL := hide (show L.length + (jnF (bAt m 1) (compT m) 0 x).length + 45305 ≤ 80000000 from hL)
  clear hL
  have hmk : 1 < m.size := by omega
  have HMK := hide (bAt_get m 1 hmk)
  have a1 := Tryz.asRepsubPart
  have a2 := Tryz.innerRep
  go_enter Tryz.func69, Tryz.ntmps69
  go_wp2_with fail
  refine (limitsRep _ _).mono ?_
  rintro e w1 ⟨rfl, rfl⟩
  go_wp2_with fail
  refine (innerRep_row (R := UComp B) (fun _ _ _ h => RU.isSlice h) _ x _ hn HY.out.rl).mono ?_
  rintro e w2 ⟨g, vs, rfl, hrow, _, hvl, hel, hb2⟩
  have HBf0 := hide ((Buf.start HO.out hB).onBelow hb2)
  have HROW := hide hrow
  have HVL := hide hvl
  have HEL := hide hel
  clear hrow hvl hel hb2
  go_wp2_with fail
  go_loopw [0, 31] (fun v' i wr => ∃ (X : World) (k : Nat) (D : List UInt8), X = wr ∧ k ≤ x.length ∧ i = .int .i64 k ∧ Hid (Buf 5 B w1 X v' (L ++ D)) ∧ Hid (Row X g 104 vs) ∧ Hid (Done (bAt m 1) (compT m) x k D) ∧ Hid (Below B w2 X)) (fun _ i _ => x.length - (intOf i).toNat)
  case atStart => exact ⟨_, 0, [], rfl, Nat.zero_le _, rfl, by rw [List.append_nil]; exact HBf0, HROW, Done.zero _ _ _, Below.refl _ _⟩
  case round =>
    obtain ⟨X, k, D, rfl, hk, rfl, HBf, HRw, HD, HW2⟩ := hrel
    by_cases hlt : k < x.length
    · have hck : X.cell? ⟨g, k, none⟩ = some (vs[k]'(by rw [HVL.out]; exact hlt)) := HRw.out.at k (by rw [HVL.out]; exact hlt)
      have HRU : Hid (VComp B X (vs[k]'(by rw [HVL.out]; exact hlt)) x[k]) := Under.go HW2.out (HEL.out k (by rw [HVL.out]; exact hlt) hlt)
      generalize vs[k]'(by rw [HVL.out]; exact hlt) = uk at hck HRU
      have HRM := hide (HD.out.room hlt)
      have HOK := hide (HXE.out k hlt)
      by_cases h0 : k = 0
      · subst h0
        have HD1 := hide (HD.out.first hlt)
        go_wp2_with fail
        refine (appComp _ (L ++ D) B m uk (x[0]'hlt) _ hm HOK.out (by have h1 := HRM.out; have h2 := HLL.out; simp only [List.length_append] at *; simp at h1; omega) HBf.out.size HBf.out.own HRU.out).mono ?_
        rintro e w3 ⟨v3, rfl, hb3⟩
        have HB3 := hide (HBf.out.trans hb3)
        have HRw3 := hide (part_kept hb3 HRw.out)
        have HW3 := hide (HW2.out.trans hb3.below)
        clear hb3
        go_wp2
        go_roundw
        case rel => exact ⟨_, 1, _, rfl, by omega, by go_num, by rw [← List.append_assoc]; exact HB3, HRw3, HD1, HW3⟩
        case measure => simp [intOf]; omega
      · have hpos : (0 : Int) < (k : Int) := by omega
        have hk0 : 0 < k := by omega
        have HD1 := hide (HD.out.next hk0 hlt)
        have HBs := hide ((Buf.start HBf.out.own HBf.out.size).alloc (.cells #[.int .u8 ((m[1]'hmk).toNat : Int)] 5))
        have HC := hide (heap_alloc_new X (.cells #[.int .u8 ((m[1]'hmk).toNat : Int)] 5))
        have HL3 := hide (show (L ++ D).length + [m[1]'hmk].length ≤ 100000000 by have h1 := HRM.out; have h2 := HLL.out; rw [if_pos hk0] at h1; simp only [List.length_append, List.length_cons, List.length_nil] at *; omega)
        go_wp2_with (at_builtin; refine wpList_buf (w0 := X) rfl (.tmp 38) (.tmp 42) 74 rfl B 5 Tryz.underlying74 Tryz.infoByte u0 (L ++ D) rfl HBs.out X.heap.size 1 [m[1]'hmk] rfl rfl ⟨_, HC.out⟩ HL3.out ?_)
        intro v3 w3 hb3
        have HB3 := hide (HBf.out.trans hb3)
        have HRw3 := hide (part_kept hb3 HRw.out)
        have HW3 := hide (HW2.out.trans hb3.below)
        have HRU3 : Hid (VComp B w3 uk x[k]) := Under.go hb3.below HRU.out
        clear hb3
        go_wp2_with fail
        refine (appComp _ (L ++ (D ++ [m[1]'hmk])) B m uk (x[k]'hlt) _ hm HOK.out (by have h1 := HRM.out; have h2 := HLL.out; rw [if_pos hk0] at h1; simp only [List.length_append, List.length_cons, List.length_nil] at *; omega) HB3.out.size HB3.out.own HRU3.out).mono ?_
        rintro e w4 ⟨v4, rfl, hb4⟩
        have HB4 := hide (HB3.out.trans hb4)
        have HRw4 := hide (part_kept hb4 HRw3.out)
        have HW4 := hide (HW3.out.trans hb4.below)
        clear hb4
        go_wp2
        go_roundw
        case rel =>
          refine ⟨_, k + 1, _, rfl, by omega, by go_num, ?_, HRw4, HD1, HW4⟩
          rw [HMK.out]
          have := HB4.out
          simp only [List.append_assoc] at this ⊢
          exact this
        case measure => simp [intOf]; omega
    · have HA := hide (HD.out.all (by omega))
      rw [HA.out] at HBf
      go_wp2
      go_ret
      exact ⟨_, rfl, HBf.out⟩

set_option maxHeartbeats 4000000 in
set_option maxRecDepth 100000 in
theorem appField (v : Value) (L : List UInt8) (B : Nat) (m : ByteArray) (u : Value) (x : List (List (List ByteArray))) (w : World) (hm : m.size = 5) (hx : fldB x = true) (hL : L.length + (fldT m x).length + 45305 ≤ 80000000) (hB : B ≤ w.heap.size) (ho : w.ownsRow B 5 1 v L.length (u8s L)) (hr : VField B w u x) :
    Calls Tryz.prog 69 #[v, .string m, u] w fun e w' => ∃ v', e = .returned v' ∧ Buf 5 B w w' v' (L ++ fldT m x) := by
  obtain ⟨y, rfl, hy⟩ := hr
  have HY := hide hy
  obtain ⟨yp, yc, rfl⟩ := hy.isSlice
  clear hy
  have HO := hide ho
  clear ho
  obtain ⟨hxe, hxl⟩ := right_mem hx
  have HXE := hide hxe
  have hn : x.length ≤ 1048576 := by omega
  clear hxe hx
  have HLL := hide (show L.length + (jnF (bAt m 2) (repT m) 0 x).length + 45305 ≤ 80000000 from hL)
  clear hL
  have hmk : 2 < m.size := by omega
  have HMK := hide (bAt_get m 2 hmk)
  have a1 := Tryz.asFieldsubPart
  have a2 := Tryz.innerField
  go_enter Tryz.func69, Tryz.ntmps69
  go_wp2_with fail
  refine (limitsField _ _).mono ?_
  rintro e w1 ⟨rfl, rfl⟩
  go_wp2_with fail
  refine (innerField_row (R := URep B) (fun _ _ _ h => RU.isSlice h) _ x _ hn HY.out.rl).mono ?_
  rintro e w2 ⟨g, vs, rfl, hrow, _, hvl, hel, hb2⟩
  have HBf0 := hide ((Buf.start HO.out hB).onBelow hb2)
  have HROW := hide hrow
  have HVL := hide hvl
  have HEL := hide hel
  clear hrow hvl hel hb2
  go_wp2_with fail
  go_loopw [0, 31] (fun v' i wr => ∃ (X : World) (k : Nat) (D : List UInt8), X = wr ∧ k ≤ x.length ∧ i = .int .i64 k ∧ Hid (Buf 5 B w1 X v' (L ++ D)) ∧ Hid (Row X g 104 vs) ∧ Hid (Done (bAt m 2) (repT m) x k D) ∧ Hid (Below B w2 X)) (fun _ i _ => x.length - (intOf i).toNat)
  case atStart => exact ⟨_, 0, [], rfl, Nat.zero_le _, rfl, by rw [List.append_nil]; exact HBf0, HROW, Done.zero _ _ _, Below.refl _ _⟩
  case round =>
    obtain ⟨X, k, D, rfl, hk, rfl, HBf, HRw, HD, HW2⟩ := hrel
    by_cases hlt : k < x.length
    · have hck : X.cell? ⟨g, k, none⟩ = some (vs[k]'(by rw [HVL.out]; exact hlt)) := HRw.out.at k (by rw [HVL.out]; exact hlt)
      have HRU : Hid (VRep B X (vs[k]'(by rw [HVL.out]; exact hlt)) x[k]) := Under.go HW2.out (HEL.out k (by rw [HVL.out]; exact hlt) hlt)
      generalize vs[k]'(by rw [HVL.out]; exact hlt) = uk at hck HRU
      have HRM := hide (HD.out.room hlt)
      have HOK := hide (HXE.out k hlt)
      by_cases h0 : k = 0
      · subst h0
        have HD1 := hide (HD.out.first hlt)
        go_wp2_with fail
        refine (appRep _ (L ++ D) B m uk (x[0]'hlt) _ hm HOK.out (by have h1 := HRM.out; have h2 := HLL.out; simp only [List.length_append] at *; simp at h1; omega) HBf.out.size HBf.out.own HRU.out).mono ?_
        rintro e w3 ⟨v3, rfl, hb3⟩
        have HB3 := hide (HBf.out.trans hb3)
        have HRw3 := hide (part_kept hb3 HRw.out)
        have HW3 := hide (HW2.out.trans hb3.below)
        clear hb3
        go_wp2
        go_roundw
        case rel => exact ⟨_, 1, _, rfl, by omega, by go_num, by rw [← List.append_assoc]; exact HB3, HRw3, HD1, HW3⟩
        case measure => simp [intOf]; omega
      · have hpos : (0 : Int) < (k : Int) := by omega
        have hk0 : 0 < k := by omega
        have HD1 := hide (HD.out.next hk0 hlt)
        have HBs := hide ((Buf.start HBf.out.own HBf.out.size).alloc (.cells #[.int .u8 ((m[2]'hmk).toNat : Int)] 5))
        have HC := hide (heap_alloc_new X (.cells #[.int .u8 ((m[2]'hmk).toNat : Int)] 5))
        have HL3 := hide (show (L ++ D).length + [m[2]'hmk].length ≤ 100000000 by have h1 := HRM.out; have h2 := HLL.out; rw [if_pos hk0] at h1; simp only [List.length_append, List.length_cons, List.length_nil] at *; omega)
        go_wp2_with (at_builtin; refine wpList_buf (w0 := X) rfl (.tmp 38) (.tmp 42) 74 rfl B 5 Tryz.underlying74 Tryz.infoByte u0 (L ++ D) rfl HBs.out X.heap.size 1 [m[2]'hmk] rfl rfl ⟨_, HC.out⟩ HL3.out ?_)
        intro v3 w3 hb3
        have HB3 := hide (HBf.out.trans hb3)
        have HRw3 := hide (part_kept hb3 HRw.out)
        have HW3 := hide (HW2.out.trans hb3.below)
        have HRU3 : Hid (VRep B w3 uk x[k]) := Under.go hb3.below HRU.out
        clear hb3
        go_wp2_with fail
        refine (appRep _ (L ++ (D ++ [m[2]'hmk])) B m uk (x[k]'hlt) _ hm HOK.out (by have h1 := HRM.out; have h2 := HLL.out; rw [if_pos hk0] at h1; simp only [List.length_append, List.length_cons, List.length_nil] at *; omega) HB3.out.size HB3.out.own HRU3.out).mono ?_
        rintro e w4 ⟨v4, rfl, hb4⟩
        have HB4 := hide (HB3.out.trans hb4)
        have HRw4 := hide (part_kept hb4 HRw3.out)
        have HW4 := hide (HW3.out.trans hb4.below)
        clear hb4
        go_wp2
        go_roundw
        case rel =>
          refine ⟨_, k + 1, _, rfl, by omega, by go_num, ?_, HRw4, HD1, HW4⟩
          rw [HMK.out]
          have := HB4.out
          simp only [List.append_assoc] at this ⊢
          exact this
        case measure => simp [intOf]; omega
    · have HA := hide (HD.out.all (by omega))
      rw [HA.out] at HBf
      go_wp2
      go_ret
      exact ⟨_, rfl, HBf.out⟩
end Go.Proofs.YtckcfjibiidafaaGreat
