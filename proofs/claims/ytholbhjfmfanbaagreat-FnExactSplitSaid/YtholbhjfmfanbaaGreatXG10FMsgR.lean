/- MessageRight of the model and of the program. -/
import Derived.Test.YtholbhjfmfanbaaGreatXG4FMsgS
import Derived.Test.YtholbhjfmfanbaaGreatXG9FSegN
import Derived.Test.YtholbhjfmfanbaaGreatXG5FIdx
namespace Go.Proofs.YtholbhjfmfanbaaGreat
open Go.RowKit
/-- Is the Segment at k right, and MSH just if it is the first one? -/
def okSeg (xs : List Seg) (k : Nat) : Bool := if h : k < xs.length then segB xs[k].1 xs[k].2 && (decide (xs[k].1 = msh) == decide (k = 0)) else true
def msgB (m : ByteArray) (xs : List Seg) : Bool := marksB m && decide (1 ≤ xs.length ∧ xs.length ≤ 20) && (List.range xs.length).all (okSeg xs)
theorem msgB_marks {m : ByteArray} {xs : List Seg} (h : marksB m = false) : msgB m xs = false := by simp [msgB, h]
theorem msgB_len {m : ByteArray} {xs : List Seg} (h : ¬ (1 ≤ xs.length ∧ xs.length ≤ 20)) : msgB m xs = false := by
  have : decide (1 ≤ xs.length ∧ xs.length ≤ 20) = false := decide_eq_false h
  simp only [msgB, this, Bool.and_false, Bool.false_and]
theorem msgB_no {m : ByteArray} {xs : List Seg} (k : Nat) (hk : k < xs.length) (h : okSeg xs k = false) : msgB m xs = false := by
  have : (List.range xs.length).all (okSeg xs) = false := List.all_eq_false.2 ⟨k, List.mem_range.2 hk, by simp [h]⟩
  simp [msgB, this]
theorem msgB_yes {m : ByteArray} {xs : List Seg} (h1 : marksB m = true) (h2 : 1 ≤ xs.length ∧ xs.length ≤ 20) (h : ∀ j, j < xs.length → okSeg xs j = true) : msgB m xs = true := by
  have : (List.range xs.length).all (okSeg xs) = true := List.all_eq_true.2 fun j hj => h j (List.mem_range.1 hj)
  simp [msgB, this, h1, h2]
theorem okSeg_eq (xs : List Seg) (k : Nat) (h : k < xs.length) : okSeg xs k = (segB xs[k].1 xs[k].2 && (decide (xs[k].1 = msh) == decide (k = 0))) := by simp [okSeg, h]
theorem okSeg_succ (xs : List Seg) (k : Nat) (h : ∀ j, j < k → okSeg xs j = true) (hk : okSeg xs k = true) : ∀ j, j < k + 1 → okSeg xs j = true := by
  intro j hj
  by_cases e : j = k
  · rw [e]; exact hk
  · exact h j (by omega)
def FitsM (xs : List Seg) : Prop := xs.length ≤ 1048576 ∧ ∀ i (h : i < xs.length), Fits xs[i].2
theorem fitsM_of {xs : List Seg} (h : wSegs xs ≤ 1048576) : FitsM xs := ⟨(wSegs_mem h).1, fun i hi => fits_of ((wSegs_mem h).2 i hi).1⟩
/-- The two tests of a Segment's Name, as the walks meet them. -/
theorem name_tests (n : ByteArray) (k : Nat) : ∃ x y : Bool, (n.toList == [77, 83, 72]) = x ∧ ((k : Int) == 0) = y ∧ (decide (n = msh) == decide (k = 0)) = (x == y) := by
  refine ⟨_, _, rfl, rfl, ?_⟩
  have e1 : (n.toList == [77, 83, 72]) = decide (n = msh) := by
    by_cases h : n = msh
    · subst h; unfold msh; simp
    · have h0 := toList_neF (show n ≠ (⟨#[77, 83, 72]⟩ : ByteArray) from h)
      have h1 : (n.toList == [77, 83, 72]) = false := by simpa using h0
      rw [h1, decide_eq_false h]
  have e2 : ((k : Int) == 0) = decide (k = 0) := by
    by_cases h : k = 0
    · subst h; simp
    · rw [decide_eq_false h]; exact beq_eq_false_iff_ne.2 (by omega)
  rw [e1, e2]

set_option maxHeartbeats 4000000 in
set_option maxRecDepth 100000 in
theorem specMessage_any (m : ByteArray) (u : Value) (x : List Seg) (B : Nat) (w : World) (hm : m.size ≤ maxLen) (hf : FitsM x) (hr : RSegs B w u x) :
    Calls Tryz.prog 56 #[.agg #[.string m, u]] w fun e w' => e = .returned (.bool (msgB m x)) ∧ Below w.heap.size w w' := by
  obtain ⟨R, hR⟩ : ∃ R, R = msgB m x := ⟨_, rfl⟩
  rw [← hR]
  have HR := hide hR
  have HF := hide hf
  clear hR hf
  obtain ⟨p, cap, rfl, h1, h2, h4⟩ := hr
  unfold maxLen at h2
  have H4 := hide h4
  clear h4
  have HB0 := hide ((Below.refl w.heap.size w).alloc (Nat.le_refl _) (.cells #[.string m, .slice p x.length cap] 53))
  have HRow0 := hide (row_new w [.string m, .slice p x.length cap] 53)
  go_enter Tryz.func56, Tryz.ntmps56
  go_wp2_with fail
  refine (specMarksRight_any _ _ hm).mono ?_
  rintro e w' ⟨rfl, rfl⟩
  cases hq : marksB m
  · have HN := hide (show R = false by rw [HR.out]; exact msgB_marks hq)
    go_wp2
    go_ret
    exact ⟨ret_boolF HN.out.symm, HB0.out⟩
  by_cases hl1 : (x.length : Int) < 1
  · have HN := hide (show R = false by rw [HR.out]; exact msgB_len (by omega))
    go_wp2
    go_ret
    exact ⟨ret_boolF HN.out.symm, HB0.out⟩
  by_cases hl2 : 20 < (x.length : Int)
  · have HN := hide (show R = false by rw [HR.out]; exact msgB_len (by omega))
    go_wp2
    go_ret
    exact ⟨ret_boolF HN.out.symm, HB0.out⟩
  have HLL := hide (show 1 ≤ x.length ∧ x.length ≤ 20 by omega)
  go_wp2
  go_loopw [4] (fun i wr => ∃ (X : World) (k : Nat), X = wr ∧ k ≤ x.length ∧ i = .int .i64 k ∧ Hid (Below w.heap.size w X) ∧ Hid (Row X w.heap.size 53 [.string m, .slice p x.length cap]) ∧ Hid (∀ j, j < k → okSeg x j = true)) (fun i _ => x.length - (intOf i).toNat)
  case atStart => exact ⟨_, 0, rfl, Nat.zero_le _, rfl, HB0, HRow0, fun j h => absurd h (by omega)⟩
  case round =>
    obtain ⟨X, k, rfl, hk, rfl, HB, HRow, HA⟩ := hrel
    have c1 : X.cell? ⟨w.heap.size, 1, none⟩ = some (.slice p x.length cap) := HRow.out.cell 1
    by_cases hlt : k < x.length
    · obtain ⟨g, off, hp, hg, _, hc⟩ := H4.out (by omega)
      subst hp
      obtain ⟨ha, _, v, hv, hrv⟩ := hc k hlt
      have hk0 := (HB.out.cell (p := ⟨g, off + k * 2, none⟩) hg).trans ha
      have hk1 := (HB.out.cell (p := ⟨g, off + k * 2 + 1, none⟩) hg).trans hv
      have HAA := hide ha
      have HRV := hide (hrv.below HB.out)
      obtain ⟨vp, vc, rfl⟩ := hrv.isSlice
      have HO := hide (okSeg_eq x k hlt)
      clear hv hrv hc ha
      go_wp2_with fail
      refine (specSegment_any (x[k]'hlt).1 _ (x[k]'hlt).2 B _ (HF.out.2 k hlt) HRV.out).mono ?_
      rintro e w2 ⟨rfl, hb2⟩
      have HB2 := hide (HB.out.trans (hb2.mono HB.out.size))
      have HRow2 := hide (HRow.out.below hb2 HRow.out.lt)
      have d1 : w2.cell? ⟨w.heap.size, 1, none⟩ = some (.slice (some ⟨g, off, none⟩) x.length cap) := HRow2.out.cell 1
      have e0 := (HB2.out.cell (p := ⟨g, off + k * 2, none⟩) hg).trans HAA.out
      clear hb2 hk0 hk1 c1
      cases ho : segB (x[k]'hlt).1 (x[k]'hlt).2
      · have HN := hide (show R = false by rw [HR.out]; exact msgB_no k hlt (by rw [HO.out, ho]; rfl))
        go_wp2
        go_ret
        exact ⟨ret_boolF HN.out.symm, HB2.out⟩
      · obtain ⟨tx, ty, t1, t2, t3⟩ := name_tests (x[k]'hlt).1 k
        have HT3 := hide (show okSeg x k = (tx == ty) by rw [HO.out, ho, t3]; rfl)
        clear t3
        cases tx <;> cases ty
        · have HA2 := hide (okSeg_succ x k HA.out (by rw [HT3.out]; rfl))
          go_wp2
          go_roundw
          case rel => exact ⟨_, k + 1, rfl, by omega, by go_num, HB2, HRow2, HA2⟩
          case measure => simp [intOf]; omega
        · have HN := hide (show R = false by rw [HR.out]; exact msgB_no k hlt (by rw [HT3.out]; rfl))
          go_wp2
          go_ret
          exact ⟨ret_boolF HN.out.symm, HB2.out⟩
        · have HN := hide (show R = false by rw [HR.out]; exact msgB_no k hlt (by rw [HT3.out]; rfl))
          go_wp2
          go_ret
          exact ⟨ret_boolF HN.out.symm, HB2.out⟩
        · have HA2 := hide (okSeg_succ x k HA.out (by rw [HT3.out]; rfl))
          go_wp2
          go_roundw
          case rel => exact ⟨_, k + 1, rfl, by omega, by go_num, HB2, HRow2, HA2⟩
          case measure => simp [intOf]; omega
    · have HY := hide (show R = true by rw [HR.out]; exact msgB_yes hq HLL.out (fun j hj => HA.out j (by omega)))
      go_wp2
      go_ret
      exact ⟨ret_boolF HY.out.symm, HB.out⟩

set_option maxHeartbeats 4000000 in
set_option maxRecDepth 100000 in
theorem implMessage_any (m : ByteArray) (u : Value) (x : List Seg) (w : World) (hm : m.size ≤ maxLen) (hf : FitsM x) (hr : RSegs 0 w u x) :
    Calls Tryz.prog 84 #[.agg #[.string m, u]] w fun e w' => e = .returned (.bool (msgB m x)) ∧ Below w.heap.size w w' := by
  obtain ⟨R, hR⟩ : ∃ R, R = msgB m x := ⟨_, rfl⟩
  rw [← hR]
  have HR := hide hR
  have HF := hide hf
  clear hR hf
  obtain ⟨p, cap, rfl, h1, h2, h4⟩ := hr
  unfold maxLen at h2
  have H4 := hide h4
  clear h4
  have HB0 := hide ((Below.refl w.heap.size w).alloc (Nat.le_refl _) (.cells #[.string m, .slice p x.length cap] 53))
  have HRow0 := hide (row_new w [.string m, .slice p x.length cap] 53)
  go_enter Tryz.func84, Tryz.ntmps84
  go_wp2_with fail
  refine (implMarksRight_any _ _ hm).mono ?_
  rintro e w1 ⟨rfl, hb1⟩
  have HB1 := hide (HB0.out.trans (hb1.mono (by simp)))
  have row1 := HRow0.out.below hb1 HRow0.out.lt
  have c1 : w1.cell? ⟨w.heap.size, 1, none⟩ = some (.slice p x.length cap) := row1.cell 1
  clear hb1 row1
  cases hq : marksB m
  · have HN := hide (show R = false by rw [HR.out]; exact msgB_marks hq)
    go_wp2
    go_ret
    exact ⟨ret_boolF HN.out.symm, HB1.out⟩
  by_cases hl1 : (x.length : Int) < 1
  · have HN := hide (show R = false by rw [HR.out]; exact msgB_len (by omega))
    go_wp2
    go_ret
    exact ⟨ret_boolF HN.out.symm, HB1.out⟩
  by_cases hl2 : 20 < (x.length : Int)
  · have HN := hide (show R = false by rw [HR.out]; exact msgB_len (by omega))
    go_wp2
    go_ret
    exact ⟨ret_boolF HN.out.symm, HB1.out⟩
  have HLL := hide (show 1 ≤ x.length ∧ x.length ≤ 20 by omega)
  go_wp2_with fail
  go_loopw [24] (fun i wr => ∃ (X : World) (k : Nat), X = wr ∧ k ≤ x.length ∧ i = .int .i64 k ∧ Hid (Below w.heap.size w X) ∧ Hid (∀ j, j < k → okSeg x j = true)) (fun i _ => x.length - (intOf i).toNat)
  case atStart => exact ⟨_, 0, rfl, Nat.zero_le _, rfl, HB1, fun j h => absurd h (by omega)⟩
  case round =>
    obtain ⟨X, k, rfl, hk, rfl, HB, HA⟩ := hrel
    by_cases hlt : k < x.length
    · obtain ⟨g, off, hp, hg, _, hc⟩ := H4.out (by omega)
      subst hp
      obtain ⟨ha, _, v, hv, hrv⟩ := hc k hlt
      have hk0 := (HB.out.cell (p := ⟨g, off + k * 2, none⟩) hg).trans ha
      have hk1 := (HB.out.cell (p := ⟨g, off + k * 2 + 1, none⟩) hg).trans hv
      obtain ⟨vp, vc, rfl⟩ := hrv.isSlice
      have hXa : Below w.heap.size w (X.alloc (.cells #[.string (x[k]'hlt).1, .slice vp (x[k]'hlt).2.length vc] 85)) := HB.out.alloc HB.out.size _
      have HXA := hide hXa
      have HRV := hide (hrv.below hXa)
      have HO := hide (okSeg_eq x k hlt)
      clear hv hrv hc ha hXa
      obtain ⟨tx, ty, t1, t2, t3⟩ := name_tests (x[k]'hlt).1 k
      have HT3 := hide t3
      clear t3
      by_cases hxy : tx = ty
      · have hnb : (tx != ty) = false := by rw [hxy]; simp
        subst hxy
        cases tx
        all_goals
          go_wp2_with fail
          refine (implSegment_any (x[k]'hlt).1 _ (x[k]'hlt).2 _ (HF.out.2 k hlt) HRV.out).mono ?_
          rintro e w3 ⟨rfl, hb3⟩
          have HB3 := hide (HXA.out.trans (hb3.mono HXA.out.size))
          clear hb3 hk0 hk1
          cases ho : segB (x[k]'hlt).1 (x[k]'hlt).2
          · have HN := hide (show R = false by rw [HR.out]; exact msgB_no k hlt (by rw [HO.out, ho]; rfl))
            go_wp2
            go_ret
            exact ⟨ret_boolF HN.out.symm, HB3.out⟩
          · have HA2 := hide (okSeg_succ x k HA.out (by rw [HO.out, ho, HT3.out]; rfl))
            go_wp2
            go_roundw
            case rel => exact ⟨_, k + 1, rfl, by omega, by go_num, HB3, HA2⟩
            case measure => simp [intOf]; omega
      · have HN := hide (show R = false by rw [HR.out]; exact msgB_no k hlt (by rw [HO.out, HT3.out]; cases tx <;> cases ty <;> simp_all))
        cases tx <;> cases ty
        · exact absurd rfl hxy
        · go_wp2
          go_ret
          exact ⟨ret_boolF HN.out.symm, HXA.out⟩
        · go_wp2
          go_ret
          exact ⟨ret_boolF HN.out.symm, HXA.out⟩
        · exact absurd rfl hxy
    · have HY := hide (show R = true by rw [HR.out]; exact msgB_yes hq HLL.out (fun j hj => HA.out j (by omega)))
      go_wp2
      go_ret
      exact ⟨ret_boolF HY.out.symm, HB.out⟩
end Go.Proofs.YtholbhjfmfanbaaGreat
/- A byte that a name may have, and NameRight of the program and of the model: both answer the same Lean function of the text's bytes. -/
namespace Go.Proofs.YtholbhjfmfanbaaGreat
open Go.RowKit

/-- May a byte stand in a name (at its head, if 'first')? -/
def idByte (c : Int) (first : Bool) : Bool := decide (97 ≤ c ∧ c ≤ 122) || (!first && (decide (48 ≤ c ∧ c ≤ 57) || decide (c = 95)))

theorem id_parts2 (c : Int) : (c < 48 ∧ (c != 95) = true) ∨ (48 ≤ c ∧ c ≤ 57) ∨ (58 ≤ c ∧ c ≤ 94 ∧ decide (c ≤ 57) = false ∧ (c != 95) = true) ∨ c = 95 ∨ c = 96 ∨ (97 ≤ c ∧ c ≤ 122) ∨
    (123 ≤ c ∧ decide (c ≤ 122) = false ∧ decide (c ≤ 57) = false ∧ (c != 95) = true) := by
  simp
  omega
theorem id_parts (c : Int) : c < 48 ∨ (48 ≤ c ∧ c ≤ 57) ∨ (58 ≤ c ∧ c ≤ 94) ∨ c = 95 ∨ c = 96 ∨ (97 ≤ c ∧ c ≤ 122) ∨ 123 ≤ c := by omega

set_option maxHeartbeats 400000 in
theorem isNameByte_any (c : Int) (first : Bool) (w : World) (h0 : 0 ≤ c) (h1 : c ≤ 255) :
    Calls Tryz.prog 60 #[.int .u8 c, .bool first] w fun e w' => e = .returned (.bool (idByte c first)) ∧ w' = w := by
  rcases id_parts c with h | ⟨h, h'⟩ | ⟨h, h'⟩ | h | h | ⟨h, h'⟩ | h
  all_goals try subst h
  all_goals cases first
  all_goals
    go_enter Tryz.func60, Tryz.ntmps60
    go_wp2
    go_ret
    refine ⟨ret_boolF ?_, rfl⟩
    rw [Bool.eq_iff_iff]
    simp [idByte] <;> omega

def idAt (s : ByteArray) (j : Nat) : Bool := if h : j < s.size then idByte ((s[j]'h).toNat : Int) ((j : Int) == 0) else true

def idB (s : ByteArray) : Bool := decide (1 ≤ s.size) && decide (s.size ≤ 20) && (List.range s.size).all (idAt s)

theorem idB_short (s : ByteArray) (h : s.size < 1) : idB s = false := by
  have : ¬ 1 ≤ s.size := by omega
  simp [idB, this]
theorem idB_long (s : ByteArray) (h : 20 < s.size) : idB s = false := by
  have : ¬ s.size ≤ 20 := by omega
  simp [idB, this]
theorem idB_yes (s : ByteArray) (h1 : 1 ≤ s.size) (h2 : s.size ≤ 20) (h : ∀ j, j < s.size → idAt s j = true) : idB s = true := by
  simp [idB, h1, h2, List.all_eq_true]
  exact h
theorem idB_no (s : ByteArray) (k : Nat) (hk : k < s.size) (h : idAt s k = false) : idB s = false := by
  simp only [idB, Bool.and_eq_false_iff]
  exact .inr (List.all_eq_false.2 ⟨k, List.mem_range.2 hk, by simp [h]⟩)

theorem idAt_eq (s : ByteArray) (k : Nat) (hk : k < s.size) : idAt s k = idByte ((s[k]'hk).toNat : Int) ((k : Int) == 0) := by
  simp [idAt, hk]


theorem idAt_succ (s : ByteArray) (k : Nat) (h : ∀ j, j < k → idAt s j = true) (hk : idAt s k = true) : ∀ j, j < k + 1 → idAt s j = true := by
  intro j hj
  by_cases e : j = k
  · rw [e]; exact hk
  · exact h j (by omega)

set_option maxHeartbeats 1000000 in
theorem implNameRight_any (s : ByteArray) (w : World) (hs : s.size ≤ maxLen) :
    Calls Tryz.prog 32 #[.string s] w fun e w' => e = .returned (.bool (idB s)) ∧ w' = w := by
  unfold maxLen at hs
  by_cases h1 : s.size < 1
  · go_enter Tryz.func32, Tryz.ntmps32
    go_wp2
    go_ret
    exact ⟨ret_boolF (idB_short s h1).symm, rfl⟩
  by_cases h2 : 20 < s.size
  · go_enter Tryz.func32, Tryz.ntmps32
    go_wp2
    go_ret
    exact ⟨ret_boolF (idB_long s h2).symm, rfl⟩
  go_enter Tryz.func32, Tryz.ntmps32
  go_wp2
  go_loop [3] (fun i => ∃ k : Nat, k ≤ s.size ∧ i = .int .i64 k ∧ ∀ j, j < k → idAt s j = true) (fun i => s.size - (intOf i).toNat)
  case atStart => exact ⟨0, Nat.zero_le _, rfl, fun j hj => absurd hj (by omega)⟩
  case round =>
    obtain ⟨k, hk, rfl, hall⟩ := hrel
    have HA := hideF hall
    clear hall
    by_cases hlt : k < s.size
    · have hc := idAt_eq s k hlt
      have hb : ((s[k]'hlt).toNat : Int) ≤ 255 := by have := (s[k]'hlt).toNat_lt; omega
      have HO := hideF hc
      clear hc
      go_wp2_with fail
      refine (isNameByte_any _ _ _ (by omega) hb).mono ?_
      rintro e w' ⟨rfl, rfl⟩
      cases hv : idByte ((s[k]'hlt).toNat : Int) ((k : Int) == 0)
      · rw [hv] at HO
        clear hv
        go_wp2
        go_ret
        exact ⟨ret_boolF (idB_no s k hlt HO.out).symm, rfl⟩
      · rw [hv] at HO
        clear hv
        go_wp2
        go_round
        case rel => exact ⟨k + 1, by omega, by go_num, idAt_succ s k HA.out HO.out⟩
        case measure => simp [intOf]; omega
    · go_wp2
      go_ret
      exact ⟨ret_boolF (idB_yes s (by omega) (by omega) (fun j hj => HA.out j (by omega))).symm, rfl⟩

set_option maxHeartbeats 1000000 in
theorem specNameRight_any (s : ByteArray) (w : World) (hs : s.size ≤ maxLen) :
    Calls Tryz.prog 29 #[.string s] w fun e w' => e = .returned (.bool (idB s)) ∧ w' = w := by
  unfold maxLen at hs
  by_cases h1 : s.size < 1
  · go_enter Tryz.func29, Tryz.ntmps29
    go_wp2
    go_ret
    exact ⟨ret_boolF (idB_short s h1).symm, rfl⟩
  by_cases h2 : 20 < s.size
  · go_enter Tryz.func29, Tryz.ntmps29
    go_wp2
    go_ret
    exact ⟨ret_boolF (idB_long s h2).symm, rfl⟩
  go_enter Tryz.func29, Tryz.ntmps29
  go_wp2
  go_loop [3] (fun i => ∃ k : Nat, k ≤ s.size ∧ i = .int .i64 k ∧ ∀ j, j < k → idAt s j = true) (fun i => s.size - (intOf i).toNat)
  case atStart => exact ⟨0, Nat.zero_le _, rfl, fun j hj => absurd hj (by omega)⟩
  case round =>
    obtain ⟨k, hk, rfl, hall⟩ := hrel
    have HA := hideF hall
    clear hall
    by_cases hlt : k < s.size
    · have hc := idAt_eq s k hlt
      have hb : ((s[k]'hlt).toNat : Int) ≤ 255 := by have := (s[k]'hlt).toNat_lt; omega
      have HO := hideF hc
      clear hc
      rcases (show k = 0 ∨ 0 < k by omega) with rfl | hk0
      · rcases id_parts2 ((s[0]'hlt).toNat : Int) with ⟨h, h2⟩ | ⟨h, h'⟩ | ⟨h, h', h2, h3⟩ | h | h | ⟨h, h'⟩ | ⟨h, h2, h3, h4⟩
        all_goals go_wp2
        all_goals first
          | (go_ret; exact ⟨ret_boolF (idB_no s 0 hlt (by rw [HO.out]; simp [idByte]; omega)).symm, rfl⟩)
          | (go_round
             case rel => exact ⟨1, by omega, rfl, idAt_succ s 0 HA.out (by rw [HO.out]; simp [idByte]; omega)⟩
             case measure => simp [intOf]; omega)
          | (exfalso; simp at *; omega)
      · have hk1 : ((k : Int) == 0) = false := by simp; omega
        rcases id_parts2 ((s[k]'hlt).toNat : Int) with ⟨h, h2⟩ | ⟨h, h'⟩ | ⟨h, h', h2, h3⟩ | h | h | ⟨h, h'⟩ | ⟨h, h2, h3, h4⟩
        all_goals go_wp2
        all_goals first
          | (go_ret; exact ⟨ret_boolF (idB_no s k hlt (by rw [HO.out]; simp [idByte]; omega)).symm, rfl⟩)
          | (go_round
             case rel => exact ⟨k + 1, by omega, by go_num, idAt_succ s k HA.out (by rw [HO.out]; simp [idByte]; omega)⟩
             case measure => simp [intOf]; omega)
          | (exfalso; simp at *; omega)
    · go_wp2
      go_ret
      exact ⟨ret_boolF (idB_yes s (by omega) (by omega) (fun j hj => HA.out j (by omega))).symm, rfl⟩
end Go.Proofs.YtholbhjfmfanbaaGreat
