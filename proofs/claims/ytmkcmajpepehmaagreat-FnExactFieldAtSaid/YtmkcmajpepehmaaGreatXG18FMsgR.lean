/- MessageRight of the model and of the program. -/
import Derived.Test.YtmkcmajpepehmaaGreatXG6FMsgT
import Derived.Test.YtmkcmajpepehmaaGreatXG17FSegN
import Derived.Test.YtmkcmajpepehmaaGreatXG0Mem
import Derived.BigQuiet
import Derived.OrdersHeld
namespace Go.Proofs.YtmkcmajpepehmaaGreat
open Go.RowKit
/-- Is the Segment at k right, and MSH just if it is the first one? -/
def okSeg (xs : List Seg) (k : Nat) : Bool := if h : k < xs.length then segB xs[k].1 xs[k].2 && (decide (xs[k].1 = msh) == decide (k = 0)) else true
def msgB (m : ByteArray) (xs : List Seg) : Bool := marksB m && decide (1 ≤ xs.length ∧ xs.length ≤ 20) && (List.range xs.length).all (okSeg xs)
theorem msgB_marks {m : ByteArray} {xs : List Seg} (h : marksB m = false) : msgB m xs = false := by simp [msgB, h]
theorem msgB_len {m : ByteArray} {xs : List Seg} (h : ¬ (1 ≤ xs.length ∧ xs.length ≤ 20)) : msgB m xs = false := by
  have : decide (1 ≤ xs.length ∧ xs.length ≤ 20) = false := decide_eq_false h
  simp only [msgB, this, Bool.and_false, Bool.false_and]
theorem msgB_no {m : ByteArray} {xs : List Seg} (k : Nat) (hk : k < xs.length) (h : okSeg xs k = false) : msgB m xs = false := by
  have : (List.range xs.length).all (okSeg xs) = false := List.all_eq_false.2 ⟨k, List.mem_range.2 hk, by simp [h]⟩
  simp [msgB, this]
theorem msgB_yes {m : ByteArray} {xs : List Seg} (h1 : marksB m = true) (h2 : 1 ≤ xs.length ∧ xs.length ≤ 20) (h : ∀ j, j < xs.length → okSeg xs j = true) : msgB m xs = true := by
  have : (List.range xs.length).all (okSeg xs) = true := List.all_eq_true.2 fun j hj => h j (List.mem_range.1 hj)
  simp [msgB, this, h1, h2]
theorem okSeg_eq (xs : List Seg) (k : Nat) (h : k < xs.length) : okSeg xs k = (segB xs[k].1 xs[k].2 && (decide (xs[k].1 = msh) == decide (k = 0))) := by simp [okSeg, h]
theorem okSeg_succ (xs : List Seg) (k : Nat) (h : ∀ j, j < k → okSeg xs j = true) (hk : okSeg xs k = true) : ∀ j, j < k + 1 → okSeg xs j = true := by
  intro j hj
  by_cases e : j = k
  · rw [e]; exact hk
  · exact h j (by omega)
def FitsM (xs : List Seg) : Prop := xs.length ≤ 1048576 ∧ ∀ i (h : i < xs.length), Fits xs[i].2
theorem fitsM_of {xs : List Seg} (h : wSegs xs ≤ 1048576) : FitsM xs := ⟨(wSegs_mem h).1, fun i hi => fits_of ((wSegs_mem h).2 i hi).1⟩
/-- The two tests of a Segment's Name, as the walks meet them. -/
theorem name_tests (n : ByteArray) (k : Nat) : ∃ x y : Bool, (n.toList == [77, 83, 72]) = x ∧ ((k : Int) == 0) = y ∧ (decide (n = msh) == decide (k = 0)) = (x == y) := by
  refine ⟨_, _, rfl, rfl, ?_⟩
  have e1 : (n.toList == [77, 83, 72]) = decide (n = msh) := by
    by_cases h : n = msh
    · subst h; unfold msh; simp
    · have h0 := toList_neF (show n ≠ (⟨#[77, 83, 72]⟩ : ByteArray) from h)
      have h1 : (n.toList == [77, 83, 72]) = false := by simpa using h0
      rw [h1, decide_eq_false h]
  have e2 : ((k : Int) == 0) = decide (k = 0) := by
    by_cases h : k = 0
    · subst h; simp
    · rw [decide_eq_false h]; exact beq_eq_false_iff_ne.2 (by omega)
  rw [e1, e2]

set_option maxHeartbeats 4000000 in
set_option maxRecDepth 100000 in
theorem specMessage_any (m : ByteArray) (u : Value) (x : List Seg) (B : Nat) (w : World) (hm : m.size ≤ maxLen) (hf : FitsM x) (hr : RSegs B w u x) :
    Calls Tryz.prog 27 #[.agg #[.string m, u]] w fun e w' => e = .returned (.bool (msgB m x)) ∧ Below w.heap.size w w' := by
  obtain ⟨R, hR⟩ : ∃ R, R = msgB m x := ⟨_, rfl⟩
  rw [← hR]
  have HR := hide hR
  have HF := hide hf
  clear hR hf
  obtain ⟨p, cap, rfl, h1, h2, h4⟩ := hr
  unfold maxLen at h2
  have H4 := hide h4
  clear h4
  have HB0 := hide ((Below.refl w.heap.size w).alloc (Nat.le_refl _) (.cells #[.string m, .slice p x.length cap] 35))
  have HRow0 := hide (row_new w [.string m, .slice p x.length cap] 35)
  go_enter Tryz.func27, Tryz.ntmps27
  go_wp2_with fail
  refine (specMarksRight_any _ _ hm).mono ?_
  rintro e w' ⟨rfl, rfl⟩
  cases hq : marksB m
  · have HN := hide (show R = false by rw [HR.out]; exact msgB_marks hq)
    go_wp2
    go_ret
    exact ⟨ret_boolF HN.out.symm, HB0.out⟩
  by_cases hl1 : (x.length : Int) < 1
  · have HN := hide (show R = false by rw [HR.out]; exact msgB_len (by omega))
    go_wp2
    go_ret
    exact ⟨ret_boolF HN.out.symm, HB0.out⟩
  by_cases hl2 : 20 < (x.length : Int)
  · have HN := hide (show R = false by rw [HR.out]; exact msgB_len (by omega))
    go_wp2
    go_ret
    exact ⟨ret_boolF HN.out.symm, HB0.out⟩
  have HLL := hide (show 1 ≤ x.length ∧ x.length ≤ 20 by omega)
  go_wp2
  go_loopw [4] (fun i wr => ∃ (X : World) (k : Nat), X = wr ∧ k ≤ x.length ∧ i = .int .i64 k ∧ Hid (Below w.heap.size w X) ∧ Hid (Row X w.heap.size 35 [.string m, .slice p x.length cap]) ∧ Hid (∀ j, j < k → okSeg x j = true)) (fun i _ => x.length - (intOf i).toNat)
  case atStart => exact ⟨_, 0, rfl, Nat.zero_le _, rfl, HB0, HRow0, fun j h => absurd h (by omega)⟩
  case round =>
    obtain ⟨X, k, rfl, hk, rfl, HB, HRow, HA⟩ := hrel
    have c1 : X.cell? ⟨w.heap.size, 1, none⟩ = some (.slice p x.length cap) := HRow.out.cell 1
    by_cases hlt : k < x.length
    · obtain ⟨g, off, hp, hg, _, hc⟩ := H4.out (by omega)
      subst hp
      obtain ⟨ha, _, v, hv, hrv⟩ := hc k hlt
      have hk0 := (HB.out.cell (p := ⟨g, off + k * 2, none⟩) hg).trans ha
      have hk1 := (HB.out.cell (p := ⟨g, off + k * 2 + 1, none⟩) hg).trans hv
      have HAA := hide ha
      have HRV := hide (hrv.below HB.out)
      obtain ⟨vp, vc, rfl⟩ := hrv.isSlice
      have HO := hide (okSeg_eq x k hlt)
      clear hv hrv hc ha
      go_wp2_with fail
      refine (specSegment_any (x[k]'hlt).1 _ (x[k]'hlt).2 B _ (HF.out.2 k hlt) HRV.out).mono ?_
      rintro e w2 ⟨rfl, hb2⟩
      have HB2 := hide (HB.out.trans (hb2.mono HB.out.size))
      have HRow2 := hide (HRow.out.below hb2 HRow.out.lt)
      have d1 : w2.cell? ⟨w.heap.size, 1, none⟩ = some (.slice (some ⟨g, off, none⟩) x.length cap) := HRow2.out.cell 1
      have e0 := (HB2.out.cell (p := ⟨g, off + k * 2, none⟩) hg).trans HAA.out
      clear hb2 hk0 hk1 c1
      cases ho : segB (x[k]'hlt).1 (x[k]'hlt).2
      · have HN := hide (show R = false by rw [HR.out]; exact msgB_no k hlt (by rw [HO.out, ho]; rfl))
        go_wp2
        go_ret
        exact ⟨ret_boolF HN.out.symm, HB2.out⟩
      · obtain ⟨tx, ty, t1, t2, t3⟩ := name_tests (x[k]'hlt).1 k
        have HT3 := hide (show okSeg x k = (tx == ty) by rw [HO.out, ho, t3]; rfl)
        clear t3
        cases tx <;> cases ty
        · have HA2 := hide (okSeg_succ x k HA.out (by rw [HT3.out]; rfl))
          go_wp2
          go_roundw
          case rel => exact ⟨_, k + 1, rfl, by omega, by go_num, HB2, HRow2, HA2⟩
          case measure => simp [intOf]; omega
        · have HN := hide (show R = false by rw [HR.out]; exact msgB_no k hlt (by rw [HT3.out]; rfl))
          go_wp2
          go_ret
          exact ⟨ret_boolF HN.out.symm, HB2.out⟩
        · have HN := hide (show R = false by rw [HR.out]; exact msgB_no k hlt (by rw [HT3.out]; rfl))
          go_wp2
          go_ret
          exact ⟨ret_boolF HN.out.symm, HB2.out⟩
        · have HA2 := hide (okSeg_succ x k HA.out (by rw [HT3.out]; rfl))
          go_wp2
          go_roundw
          case rel => exact ⟨_, k + 1, rfl, by omega, by go_num, HB2, HRow2, HA2⟩
          case measure => simp [intOf]; omega
    · have HY := hide (show R = true by rw [HR.out]; exact msgB_yes hq HLL.out (fun j hj => HA.out j (by omega)))
      go_wp2
      go_ret
      exact ⟨ret_boolF HY.out.symm, HB.out⟩

set_option maxHeartbeats 4000000 in
set_option maxRecDepth 100000 in
theorem implMessage_any (m : ByteArray) (u : Value) (x : List Seg) (w : World) (hm : m.size ≤ maxLen) (hf : FitsM x) (hr : RSegs 0 w u x) :
    Calls Tryz.prog 32 #[.agg #[.string m, u]] w fun e w' => e = .returned (.bool (msgB m x)) ∧ Below w.heap.size w w' := by
  obtain ⟨R, hR⟩ : ∃ R, R = msgB m x := ⟨_, rfl⟩
  rw [← hR]
  have HR := hide hR
  have HF := hide hf
  clear hR hf
  obtain ⟨p, cap, rfl, h1, h2, h4⟩ := hr
  unfold maxLen at h2
  have H4 := hide h4
  clear h4
  have HB0 := hide ((Below.refl w.heap.size w).alloc (Nat.le_refl _) (.cells #[.string m, .slice p x.length cap] 35))
  have HRow0 := hide (row_new w [.string m, .slice p x.length cap] 35)
  go_enter Tryz.func32, Tryz.ntmps32
  go_wp2_with fail
  refine (implMarksRight_any _ _ hm).mono ?_
  rintro e w1 ⟨rfl, hb1⟩
  have HB1 := hide (HB0.out.trans (hb1.mono (by simp)))
  have row1 := HRow0.out.below hb1 HRow0.out.lt
  have c1 : w1.cell? ⟨w.heap.size, 1, none⟩ = some (.slice p x.length cap) := row1.cell 1
  clear hb1 row1
  cases hq : marksB m
  · have HN := hide (show R = false by rw [HR.out]; exact msgB_marks hq)
    go_wp2
    go_ret
    exact ⟨ret_boolF HN.out.symm, HB1.out⟩
  by_cases hl1 : (x.length : Int) < 1
  · have HN := hide (show R = false by rw [HR.out]; exact msgB_len (by omega))
    go_wp2
    go_ret
    exact ⟨ret_boolF HN.out.symm, HB1.out⟩
  by_cases hl2 : 20 < (x.length : Int)
  · have HN := hide (show R = false by rw [HR.out]; exact msgB_len (by omega))
    go_wp2
    go_ret
    exact ⟨ret_boolF HN.out.symm, HB1.out⟩
  have HLL := hide (show 1 ≤ x.length ∧ x.length ≤ 20 by omega)
  go_wp2_with fail
  go_loopw [24] (fun i wr => ∃ (X : World) (k : Nat), X = wr ∧ k ≤ x.length ∧ i = .int .i64 k ∧ Hid (Below w.heap.size w X) ∧ Hid (∀ j, j < k → okSeg x j = true)) (fun i _ => x.length - (intOf i).toNat)
  case atStart => exact ⟨_, 0, rfl, Nat.zero_le _, rfl, HB1, fun j h => absurd h (by omega)⟩
  case round =>
    obtain ⟨X, k, rfl, hk, rfl, HB, HA⟩ := hrel
    by_cases hlt : k < x.length
    · obtain ⟨g, off, hp, hg, _, hc⟩ := H4.out (by omega)
      subst hp
      obtain ⟨ha, _, v, hv, hrv⟩ := hc k hlt
      have hk0 := (HB.out.cell (p := ⟨g, off + k * 2, none⟩) hg).trans ha
      have hk1 := (HB.out.cell (p := ⟨g, off + k * 2 + 1, none⟩) hg).trans hv
      obtain ⟨vp, vc, rfl⟩ := hrv.isSlice
      have hXa : Below w.heap.size w (X.alloc (.cells #[.string (x[k]'hlt).1, .slice vp (x[k]'hlt).2.length vc] 83)) := HB.out.alloc HB.out.size _
      have HXA := hide hXa
      have HRV := hide (hrv.below hXa)
      have HO := hide (okSeg_eq x k hlt)
      clear hv hrv hc ha hXa
      obtain ⟨tx, ty, t1, t2, t3⟩ := name_tests (x[k]'hlt).1 k
      have HT3 := hide t3
      clear t3
      by_cases hxy : tx = ty
      · have hnb : (tx != ty) = false := by rw [hxy]; simp
        subst hxy
        cases tx
        all_goals
          go_wp2_with fail
          refine (implSegment_any (x[k]'hlt).1 _ (x[k]'hlt).2 _ (HF.out.2 k hlt) HRV.out).mono ?_
          rintro e w3 ⟨rfl, hb3⟩
          have HB3 := hide (HXA.out.trans (hb3.mono HXA.out.size))
          clear hb3 hk0 hk1
          cases ho : segB (x[k]'hlt).1 (x[k]'hlt).2
          · have HN := hide (show R = false by rw [HR.out]; exact msgB_no k hlt (by rw [HO.out, ho]; rfl))
            go_wp2
            go_ret
            exact ⟨ret_boolF HN.out.symm, HB3.out⟩
          · have HA2 := hide (okSeg_succ x k HA.out (by rw [HO.out, ho, HT3.out]; rfl))
            go_wp2
            go_roundw
            case rel => exact ⟨_, k + 1, rfl, by omega, by go_num, HB3, HA2⟩
            case measure => simp [intOf]; omega
      · have HN := hide (show R = false by rw [HR.out]; exact msgB_no k hlt (by rw [HO.out, HT3.out]; cases tx <;> cases ty <;> simp_all))
        cases tx <;> cases ty
        · exact absurd rfl hxy
        · go_wp2
          go_ret
          exact ⟨ret_boolF HN.out.symm, HXA.out⟩
        · go_wp2
          go_ret
          exact ⟨ret_boolF HN.out.symm, HXA.out⟩
        · exact absurd rfl hxy
    · have HY := hide (show R = true by rw [HR.out]; exact msgB_yes hq HLL.out (fun j hj => HA.out j (by omega)))
      go_wp2
      go_ret
      exact ⟨ret_boolF HY.out.symm, HB.out⟩
end Go.Proofs.YtmkcmajpepehmaaGreat
/- A Path: what is right of it, of the model and of the program. -/
namespace Go.Proofs.YtmkcmajpepehmaaGreat
open Go.RowKit

def shiftB (s : ByteArray) : Int := if s.toList == [77, 83, 72] then 3 else 1
def placeB (n : Int) : Bool := decide (1 ≤ n) && decide (n ≤ 20)
structure PathM where
  seg : ByteArray
  nth : Int
  fld : Int
  rep : Int
  comp : Int
  sub : Int
def PathM.v (p : PathM) : Value := .agg #[.string p.seg, .int .i64 p.nth, .int .i64 p.fld, .int .i64 p.rep, .int .i64 p.comp, .int .i64 p.sub]
def PathM.cells (p : PathM) : List Value := [.string p.seg, .int .i64 p.nth, .int .i64 p.fld, .int .i64 p.rep, .int .i64 p.comp, .int .i64 p.sub]
def PathM.right (p : PathM) : Bool := name3 p.seg && placeB p.nth && (decide (shiftB p.seg ≤ p.fld) && decide (p.fld < shiftB p.seg + 30)) && placeB p.rep && placeB p.comp && placeB p.sub

theorem shift_any (s : ByteArray) (w : World) : Calls Tryz.prog 58 #[.string s] w fun e w' => e = .returned (.int .i64 (shiftB s)) ∧ w' = w := by
  unfold shiftB
  cases h : s.toList == [77, 83, 72]
  · go_enter Tryz.func58, Tryz.ntmps58
    go_wp2
    go_ret
    exact ⟨rfl, rfl⟩
  · go_enter Tryz.func58, Tryz.ntmps58
    go_wp2
    go_ret
    exact ⟨rfl, rfl⟩
theorem firstField_any (s : ByteArray) (w : World) : Calls Tryz.prog 65 #[.string s] w fun e w' => e = .returned (.int .i64 (shiftB s)) ∧ w' = w := by
  unfold shiftB
  cases h : s.toList == [77, 83, 72]
  · go_enter Tryz.func65, Tryz.ntmps65
    go_wp2
    go_ret
    exact ⟨rfl, rfl⟩
  · go_enter Tryz.func65, Tryz.ntmps65
    go_wp2
    go_ret
    exact ⟨rfl, rfl⟩
theorem l02Is_b (n lo hi : Int) (w : World) : Calls Tryz.prog 60 #[.int .i64 n, .int .i64 lo, .int .i64 hi] w fun e w' => e = .returned (.bool (decide (lo ≤ n) && decide (n ≤ hi))) ∧ w' = w := by
  by_cases h1 : lo ≤ n
  · by_cases h2 : n ≤ hi
    · go_enter Tryz.func60, Tryz.ntmps60
      go_wp2
      go_ret
      exact ⟨ret_boolF (by rw [decide_eq_true h1, decide_eq_true h2]; rfl), rfl⟩
    · go_enter Tryz.func60, Tryz.ntmps60
      go_wp2
      go_ret
      exact ⟨ret_boolF (by rw [decide_eq_false (by omega : ¬ n ≤ hi)]; first | done | rfl | simp), rfl⟩
  · go_enter Tryz.func60, Tryz.ntmps60
    go_wp2
    go_ret
    exact ⟨ret_boolF (by rw [decide_eq_false (by omega : ¬ lo ≤ n)]; rfl), rfl⟩
theorem placeRight_any (n : Int) (w : World) : Calls Tryz.prog 67 #[.int .i64 n] w fun e w' => e = .returned (.bool (placeB n)) ∧ w' = w := by
  unfold placeB
  by_cases h1 : 1 ≤ n
  · by_cases h2 : n ≤ 20
    · go_enter Tryz.func67, Tryz.ntmps67
      go_wp2
      go_ret
      exact ⟨ret_boolF (by rw [decide_eq_true h1, decide_eq_true h2]; rfl), rfl⟩
    · go_enter Tryz.func67, Tryz.ntmps67
      go_wp2
      go_ret
      exact ⟨ret_boolF (by rw [decide_eq_false (by omega : ¬ n ≤ 20)]; first | done | rfl | simp), rfl⟩
  · go_enter Tryz.func67, Tryz.ntmps67
    go_wp2
    go_ret
    exact ⟨ret_boolF (by rw [decide_eq_false (by omega : ¬ 1 ≤ n)]; rfl), rfl⟩

set_option maxHeartbeats 4000000 in
theorem specPathRight_any (p : PathM) (w : World) : Calls Tryz.prog 28 #[p.v] w fun e w' => e = .returned (.bool p.right) ∧ Below w.heap.size w w' := by
  obtain ⟨R, hR⟩ : ∃ R, R = p.right := ⟨_, rfl⟩
  rw [← hR]
  have HR := hide hR
  clear hR
  obtain ⟨s, n, f, r, c, b⟩ := p
  unfold PathM.v
  unfold PathM.right at HR
  simp only at HR ⊢
  obtain ⟨W, hW⟩ : ∃ W, W = w.alloc (.cells #[.string s, .int .i64 n, .int .i64 f, .int .i64 r, .int .i64 c, .int .i64 b] 37) := ⟨_, rfl⟩
  have hb0 : Below w.heap.size w W := by rw [hW]; exact (Below.refl _ _).alloc (Nat.le_refl _) _
  have HB0 := hide hb0
  have RW : Row W w.heap.size 37 [.string s, .int .i64 n, .int .i64 f, .int .i64 r, .int .i64 c, .int .i64 b] := by rw [hW]; exact row_new w [.string s, .int .i64 n, .int .i64 f, .int .i64 r, .int .i64 c, .int .i64 b] 37
  have HRW := hide RW
  have c0 : W.cell? ⟨w.heap.size, 0, none⟩ = some (.string s) := RW.cell 0
  clear RW hb0
  go_enter Tryz.func28, Tryz.ntmps28
  go_wp2_with fail
  rw [← hW]
  refine (shift_any s _).mono ?_
  rintro e w1 ⟨rfl, rfl⟩
  clear hW
  have hk : shiftB s = 1 ∨ shiftB s = 3 := by unfold shiftB; split <;> simp
  generalize shiftB s = K at *
  have hwr : IntKind.i64.wrap (K + 29) = K + 29 := wrap_small _ (by omega) (by omega)
  clear hk
  go_wp2_with fail
  refine (l04Name_any s _).mono ?_
  rintro e w2 ⟨rfl, rfl⟩
  have HB := HB0
  have RX := HRW.out
  have x1 : w2.cell? ⟨w.heap.size, 1, none⟩ = some (.int .i64 n) := RX.cell 1
  have x2 : w2.cell? ⟨w.heap.size, 2, none⟩ = some (.int .i64 f) := RX.cell 2
  have x3 : w2.cell? ⟨w.heap.size, 3, none⟩ = some (.int .i64 r) := RX.cell 3
  have x4 : w2.cell? ⟨w.heap.size, 4, none⟩ = some (.int .i64 c) := RX.cell 4
  have x5 : w2.cell? ⟨w.heap.size, 5, none⟩ = some (.int .i64 b) := RX.cell 5
  clear RX c0
  cases h0 : name3 s
  · have HN := hide (show R = false by rw [HR.out]; simp [h0])
    go_wp2
    go_ret
    exact ⟨ret_boolF HN.out.symm, HB.out⟩
  · go_wp2_with fail
    refine (l02Is_b n 1 20 _).mono ?_
    rw [show (decide (1 ≤ n) && decide (n ≤ 20)) = placeB n from rfl]
    rintro e w3 ⟨rfl, rfl⟩
    cases h1 : placeB n
    · have HN := hide (show R = false by rw [HR.out]; simp [h1])
      go_wp2
      go_ret
      exact ⟨ret_boolF HN.out.symm, HB.out⟩
    · have hb' : (decide (K ≤ f) && decide (f ≤ K + 29)) = (decide (K ≤ f) && decide (f < K + 30)) := by congr 1; exact decide_eq_decide.2 (by omega)
      go_wp2_with fail
      refine (l02Is_b f K (K + 29) _).mono ?_
      rw [hb']
      clear hb'
      rintro e w3 ⟨rfl, rfl⟩
      cases h2 : (decide (K ≤ f) && decide (f < K + 30))
      · have HN := hide (show R = false by rw [HR.out]; simp [h2])
        go_wp2
        go_ret
        exact ⟨ret_boolF HN.out.symm, HB.out⟩
      · go_wp2_with fail
        refine (l02Is_b r 1 20 _).mono ?_
        rw [show (decide (1 ≤ r) && decide (r ≤ 20)) = placeB r from rfl]
        rintro e w3 ⟨rfl, rfl⟩
        cases h3 : placeB r
        · have HN := hide (show R = false by rw [HR.out]; simp [h3])
          go_wp2
          go_ret
          exact ⟨ret_boolF HN.out.symm, HB.out⟩
        · go_wp2_with fail
          refine (l02Is_b c 1 20 _).mono ?_
          rw [show (decide (1 ≤ c) && decide (c ≤ 20)) = placeB c from rfl]
          rintro e w3 ⟨rfl, rfl⟩
          cases h4 : placeB c
          · have HN := hide (show R = false by rw [HR.out]; simp [h4])
            go_wp2
            go_ret
            exact ⟨ret_boolF HN.out.symm, HB.out⟩
          · go_wp2_with fail
            refine (l02Is_b b 1 20 _).mono ?_
            rw [show (decide (1 ≤ b) && decide (b ≤ 20)) = placeB b from rfl]
            rintro e w3 ⟨rfl, rfl⟩
            have HY := hide (show R = placeB b by rw [HR.out]; simp [h0, h1, h2, h3, h4])
            go_wp2
            go_ret
            exact ⟨ret_boolF HY.out.symm, HB.out⟩

set_option maxHeartbeats 4000000 in
theorem implPathRight_any (p : PathM) (w : World) : Calls Tryz.prog 33 #[p.v] w fun e w' => e = .returned (.bool p.right) ∧ Below w.heap.size w w' := by
  obtain ⟨R, hR⟩ : ∃ R, R = p.right := ⟨_, rfl⟩
  rw [← hR]
  have HR := hide hR
  clear hR
  obtain ⟨s, n, f, r, c, b⟩ := p
  unfold PathM.v
  unfold PathM.right at HR
  simp only at HR ⊢
  obtain ⟨W, hW⟩ : ∃ W, W = w.alloc (.cells #[.string s, .int .i64 n, .int .i64 f, .int .i64 r, .int .i64 c, .int .i64 b] 37) := ⟨_, rfl⟩
  have hb0 : Below w.heap.size w W := by rw [hW]; exact (Below.refl _ _).alloc (Nat.le_refl _) _
  have HB0 := hide hb0
  have RW : Row W w.heap.size 37 [.string s, .int .i64 n, .int .i64 f, .int .i64 r, .int .i64 c, .int .i64 b] := by rw [hW]; exact row_new w [.string s, .int .i64 n, .int .i64 f, .int .i64 r, .int .i64 c, .int .i64 b] 37
  have HRW := hide RW
  have c0 : W.cell? ⟨w.heap.size, 0, none⟩ = some (.string s) := RW.cell 0
  clear RW hb0
  go_enter Tryz.func33, Tryz.ntmps33
  go_wp2_with fail
  rw [← hW]
  refine (firstField_any s _).mono ?_
  rintro e w1 ⟨rfl, rfl⟩
  clear hW
  have hk : shiftB s = 1 ∨ shiftB s = 3 := by unfold shiftB; split <;> simp
  generalize shiftB s = K at *
  have hwr : IntKind.i64.wrap (K + 30) = K + 30 := wrap_small _ (by omega) (by omega)
  clear hk
  go_wp2_with fail
  refine (nameRight3_any s _).mono ?_
  rintro e w2 ⟨rfl, hb2⟩
  have HB := hide (HB0.out.trans (hb2.mono HB0.out.size))
  have RX := HRW.out.below hb2 HRW.out.lt
  clear hb2
  have x1 : w2.cell? ⟨w.heap.size, 1, none⟩ = some (.int .i64 n) := RX.cell 1
  have x2 : w2.cell? ⟨w.heap.size, 2, none⟩ = some (.int .i64 f) := RX.cell 2
  have x3 : w2.cell? ⟨w.heap.size, 3, none⟩ = some (.int .i64 r) := RX.cell 3
  have x4 : w2.cell? ⟨w.heap.size, 4, none⟩ = some (.int .i64 c) := RX.cell 4
  have x5 : w2.cell? ⟨w.heap.size, 5, none⟩ = some (.int .i64 b) := RX.cell 5
  clear RX c0
  cases h0 : name3 s
  · have HN := hide (show R = false by rw [HR.out]; simp [h0])
    go_wp2
    go_ret
    exact ⟨ret_boolF HN.out.symm, HB.out⟩
  · go_wp2_with fail
    refine (placeRight_any n _).mono ?_
    rintro e w3 ⟨rfl, rfl⟩
    cases h1 : placeB n
    · have HN := hide (show R = false by rw [HR.out]; simp [h1])
      go_wp2
      go_ret
      exact ⟨ret_boolF HN.out.symm, HB.out⟩
    · by_cases h2 : K ≤ f
      · by_cases h2b : f < K + 30
        · go_wp2_with fail
          refine (placeRight_any r _).mono ?_
          rintro e w3 ⟨rfl, rfl⟩
          cases h3 : placeB r
          · have HN := hide (show R = false by rw [HR.out]; simp [h3])
            go_wp2
            go_ret
            exact ⟨ret_boolF HN.out.symm, HB.out⟩
          · go_wp2_with fail
            refine (placeRight_any c _).mono ?_
            rintro e w3 ⟨rfl, rfl⟩
            cases h4 : placeB c
            · have HN := hide (show R = false by rw [HR.out]; simp [h4])
              go_wp2
              go_ret
              exact ⟨ret_boolF HN.out.symm, HB.out⟩
            · go_wp2_with fail
              refine (placeRight_any b _).mono ?_
              rintro e w3 ⟨rfl, rfl⟩
              have HY := hide (show R = placeB b by rw [HR.out]; simp [h0, h1, h2, h2b, h3, h4])
              go_wp2
              go_ret
              exact ⟨ret_boolF HY.out.symm, HB.out⟩
        · have HN := hide (show R = false by rw [HR.out]; simp [show ¬ (f < K + 30) from h2b])
          go_wp2
          go_ret
          exact ⟨ret_boolF HN.out.symm, HB.out⟩
      · have HN := hide (show R = false by rw [HR.out]; simp [show ¬ (K ≤ f) from h2])
        go_wp2
        go_ret
        exact ⟨ret_boolF HN.out.symm, HB.out⟩
end Go.Proofs.YtmkcmajpepehmaaGreat
