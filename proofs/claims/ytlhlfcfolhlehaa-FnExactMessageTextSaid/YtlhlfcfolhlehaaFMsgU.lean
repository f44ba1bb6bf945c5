/- The model's text of a Message. -/
import Derived.Test.YtlhlfcfolhlehaaFMsgR
import Derived.Test.YtlhlfcfolhlehaaFSegV
namespace Go.Proofs.Ytlhlfcfolhlehaa
open Go.RowKit
def wholeT (m : ByteArray) (xs : List Seg) : List UInt8 := xs.flatMap fun s => segT m s.1 s.2 ++ [13]
theorem wholeT_snoc (m : ByteArray) (xs : List Seg) (k : Nat) (h : k < xs.length) : wholeT m (xs.take (k + 1)) = wholeT m (xs.take k) ++ (segT m xs[k].1 xs[k].2 ++ [13]) := by
  unfold wholeT
  rw [List.take_succ_eq_append_getElem h, List.flatMap_append]
  simp
theorem segT_len {m n : ByteArray} {x : Flds} (hm : m.size = 5) (hx : segB n x = true) : (segT m n x).length ≤ 1400000 := by
  obtain ⟨hn3, hxe, hxl⟩ := segB_parts hx
  have h1 := fldsT_len m x hxe
  have h2 := headT_len m n hm hn3
  have h3 : x.length * 45306 ≤ 30 * 45306 := Nat.mul_le_mul hxl (Nat.le_refl _)
  unfold segT
  rw [List.length_append]
  omega
theorem wholeT_len (m : ByteArray) (hm : m.size = 5) : ∀ xs : List Seg, (∀ i (h : i < xs.length), segB xs[i].1 xs[i].2 = true) → (wholeT m xs).length ≤ xs.length * 1400001
  | [], _ => by simp [wholeT]
  | s :: r, h => by
    have h1 := wholeT_len m hm r (fun i hi => h (i + 1) (by simpa using hi))
    have h2 : (segT m s.1 s.2).length ≤ 1400000 := segT_len hm (h 0 (by simp))
    simp only [wholeT, List.flatMap_cons, List.length_append, List.length_cons, List.length_nil] at h1 h2 ⊢
    omega
theorem wholeT_pre (m : ByteArray) (xs : List Seg) (k : Nat) : (wholeT m (xs.take k)).length ≤ (wholeT m xs).length := by
  have e : wholeT m xs = wholeT m (xs.take k) ++ wholeT m (xs.drop k) := by
    unfold wholeT
    rw [← List.flatMap_append, List.take_append_drop]
  rw [e, List.length_append]
  omega
theorem wholeT_takes (m : ByteArray) (xs : List Seg) (hm : m.size = 5) (hl : xs.length ≤ 20) (h : ∀ i (h : i < xs.length), segB xs[i].1 xs[i].2 = true) (k : Nat) : (wholeT m (xs.take k)).length ≤ 28000020 := by
  have h1 := wholeT_pre m xs k
  have h2 := wholeT_len m hm xs h
  omega
theorem msgB_parts {m : ByteArray} {xs : List Seg} (h : msgB m xs = true) : marksB m = true ∧ xs.length ≤ 20 ∧ ∀ i (h : i < xs.length), segB xs[i].1 xs[i].2 = true := by
  simp only [msgB, Bool.and_eq_true, decide_eq_true_eq] at h
  refine ⟨h.1.1, h.1.2.2, fun i hi => ?_⟩
  have h1 := List.all_eq_true.1 h.2 i (List.mem_range.2 hi)
  rw [okSeg_eq xs i hi, Bool.and_eq_true] at h1
  exact h1.1
def msgT (m : ByteArray) (xs : List Seg) : ByteArray := if msgB m xs && decide ((wholeT m xs).length ≤ 8000) then ⟨(wholeT m xs).toArray⟩ else ⟨#[]⟩
theorem msgT_yes {m : ByteArray} {xs : List Seg} (h : msgB m xs = true) (h2 : (wholeT m xs).length ≤ 8000) : msgT m xs = ⟨(wholeT m xs).toArray⟩ := by simp [msgT, h, h2]
theorem msgT_no {m : ByteArray} {xs : List Seg} (h : msgB m xs = false) : msgT m xs = ⟨#[]⟩ := by simp [msgT, h]
theorem msgT_long {m : ByteArray} {xs : List Seg} (h : 8000 < (wholeT m xs).length) : msgT m xs = ⟨#[]⟩ := by
  have : decide ((wholeT m xs).length ≤ 8000) = false := decide_eq_false (by omega)
  simp only [msgT, this, Bool.and_false]
  rfl

set_option maxHeartbeats 8000000 in
set_option maxRecDepth 100000 in
theorem l04Whole_any (m : ByteArray) (u : Value) (x : List Seg) (w : World) (hm : m.size = 5) (hxl : x.length ≤ 20) (hx : ∀ i (h : i < x.length), segB x[i].1 x[i].2 = true) (hr : RSegs 0 w u x) :
    Calls Try.prog 36 #[.agg #[.string m, u]] w fun e w' => e = .returned (.string ⟨(wholeT m x).toArray⟩) ∧ Below w.heap.size w w' := by
  have HXE := hide hx
  have HFL := hide (wholeT_takes m x hm hxl hx)
  clear hx
  obtain ⟨p, cap, rfl, h1, h2, h4⟩ := hr
  have H4 := hide h4
  clear h4
  unfold maxLen at h2
  have HRow := hide (row_new w [.string m, .slice p x.length cap] 42)
  have HB0 := hide ((Below.refl w.heap.size w).alloc (Nat.le_refl _) (.cells #[.string m, .slice p x.length cap] 42))
  go_enter Try.func36, Try.ntmps36
  go_wp2_with fail
  go_loopw [3, 4] (fun tv i wr => ∃ (X : World) (k : Nat) (T : ByteArray), X = wr ∧ k ≤ x.length ∧ i = .int .i64 k ∧ tv = .string T ∧ Hid (T = ⟨(wholeT m (x.take k)).toArray⟩) ∧ Hid (Below w.heap.size w X) ∧ Hid (Row X w.heap.size 42 [.string m, .slice p x.length cap])) (fun _ i _ => x.length - (intOf i).toNat)
  case atStart => exact ⟨_, 0, _, rfl, Nat.zero_le _, rfl, rfl, by rw [List.take_zero]; exact (by simp [wholeT] : (⟨#[]⟩ : ByteArray) = ⟨(wholeT m []).toArray⟩), HB0, HRow⟩
  case round =>
    obtain ⟨X, k, T, rfl, hk, rfl, rfl, HT, HB, HRw⟩ := hrel
    have c1 : X.cell? ⟨w.heap.size, 1, none⟩ = some (.slice p x.length cap) := HRw.out.cell 1
    by_cases hlt : k < x.length
    · obtain ⟨g, off, hp, hg, _, hc⟩ := H4.out (by omega)
      subst hp
      obtain ⟨ha, _, v, hv, hrv⟩ := hc k hlt
      have HUK := hide hrv
      obtain ⟨vp, vc, rfl⟩ := hrv.isSlice
      have HSN := hide (wholeT_snoc m x k hlt)
      have HOK := hide (HXE.out k hlt)
      have HFK := hide (segT_len (m := m) hm (HXE.out k hlt))
      have hTs : T.size ≤ 28000020 := by have h1 := HFL.out k; rw [HT.out, bsize]; exact h1
      have ad1 : ∀ w : World, (Op.stringOp .add T ⟨(segT m (x[k]'hlt).1 (x[k]'hlt).2).toArray⟩).run Try.prog w = .ok (.string (T ++ ⟨(segT m (x[k]'hlt).1 (x[k]'hlt).2).toArray⟩)) w := fun w => run_string_add_sum w _ _ (by have := HFK.out; simp only [bsize]; omega)
      have ad2 : ∀ w : World, (Op.stringOp .add (T ++ ⟨(segT m (x[k]'hlt).1 (x[k]'hlt).2).toArray⟩) ⟨#[13]⟩).run Try.prog w = .ok (.string (T ++ ⟨(segT m (x[k]'hlt).1 (x[k]'hlt).2).toArray⟩ ++ ⟨#[13]⟩)) w := fun w => run_string_add_sum w _ _ (by have := HFK.out; have e13 : (⟨#[13]⟩ : ByteArray).size = 1 := rfl; simp only [ByteArray.size_append, bsize, e13]; omega)
      have HNX : Hid (T ++ ⟨(segT m (x[k]'hlt).1 (x[k]'hlt).2).toArray⟩ ++ ⟨#[13]⟩ = ⟨(wholeT m (x.take (k + 1))).toArray⟩) := by
        have e13 : (⟨#[13]⟩ : ByteArray) = ⟨[13].toArray⟩ := rfl
        rw [HT.out, e13, bcat, bcat, HSN.out, List.append_assoc]
        exact rfl
      have HSS := hide (show ∀ y, Below X.heap.size X y → y.cell? ⟨w.heap.size, 0, none⟩ = some (.string m) ∧ y.cell? ⟨w.heap.size, 1, none⟩ = some (.slice (some ⟨g, off, none⟩) x.length cap) ∧ y.cell? ⟨g, off + k * 2, none⟩ = some (.string (x[k]'hlt).1) ∧ y.cell? ⟨g, off + k * 2 + 1, none⟩ = some (.slice vp (x[k]'hlt).2.length vc) ∧ Below X.heap.size X y from
        fun y h => by
          have hb := HB.out.trans (h.mono HB.out.size)
          have hw := HRw.out.below h HRw.out.lt
          exact ⟨hw.cell 0, hw.cell 1, (hb.cell (p := ⟨g, off + k * 2, none⟩) hg).trans ha, (hb.cell (p := ⟨g, off + k * 2 + 1, none⟩) hg).trans hv, h⟩)
      have hki : (k : Int) < (x.length : Int) := by omega
      clear ha hv hrv hc hTs HSN
      go_wp2_with fail
      go_region_held3 (fun y => y.cell? ⟨w.heap.size, 0, none⟩ = some (.string m) ∧ y.cell? ⟨w.heap.size, 1, none⟩ = some (.slice (some ⟨g, off, none⟩) x.length cap) ∧ y.cell? ⟨g, off + k * 2, none⟩ = some (.string (x[k]'hlt).1) ∧ y.cell? ⟨g, off + k * 2 + 1, none⟩ = some (.slice vp (x[k]'hlt).2.length vc) ∧ Below X.heap.size X y)
        ((go_split_ands; refine HSS.out _ ?_; repeat (first | with_reducible assumption | with_reducible exact Below.refl _ _ | with_reducible refine Below.drew ?_)))
        ((go_at_call 30; go_split_ands; refine (l04Seg_any m (x[k]'hlt).1 _ (x[k]'hlt).2 _ hm HOK.out (Lasts.go (B := 0) (Same.of (HB.out.trans (Below.mono (by assumption) HB.out.size))) HUK.out)).mono ?_; rintro e w3 ⟨rfl, hb3⟩; have hB3 : Below X.heap.size X w3 := Below.trans (by assumption) (hb3.mono (Below.size (by assumption))); clear hb3))
      all_goals
        have HB3 := hide (HB.out.trans (hB3.mono HB.out.size))
        have HR3 := hide (HRw.out.below hB3 HRw.out.lt)
        clear hB3
        go_wp2
        go_roundw
        case rel => exact ⟨_, k + 1, _, rfl, by omega, by go_num, rfl, HNX, HB3, HR3⟩
        case measure => simp [intOf]; omega
    · have e1 : x.take k = x := List.take_of_length_le (by omega)
      have HE : Hid (T = ⟨(wholeT m x).toArray⟩) := by rw [e1] at HT; exact HT
      go_wp2
      go_ret
      exact ⟨ret_str HE.out, HB.out⟩

set_option maxHeartbeats 2000000 in
theorem specMessageText_any (m : ByteArray) (u : Value) (x : List Seg) (w : World) (hm : m.size ≤ maxLen) (hn : wSegs x ≤ 1048576) (hr : RSegs 0 w u x) :
    Calls Try.prog 19 #[.agg #[.string m, u]] w fun e w' => e = .returned (.string (msgT m x)) ∧ Below w.heap.size w w' := by
  have HSZ := hide (fitsM_of hn)
  obtain ⟨p, c, rfl⟩ := hr.isSlice
  have HB0 := hide ((Below.refl w.heap.size w).alloc (Nat.le_refl _) (.cells #[.string m, .slice p x.length c] 42))
  have HR0 := hide (hr.below HB0.out)
  have HRow0 := hide (row_new w [.string m, .slice p x.length c] 42)
  clear hr
  go_enter Try.func19, Try.ntmps19
  go_wp2_with fail
  refine (specMessage_any m _ x 0 _ hm HSZ.out HR0.out).mono ?_
  rintro e w1 ⟨rfl, hb1⟩
  have HB1 := hide (HB0.out.trans (hb1.mono (by simp)))
  have HR1 := hide (HR0.out.below hb1)
  have row1 := HRow0.out.below hb1 HRow0.out.lt
  have c1 : w1.cell? ⟨w.heap.size, 1, none⟩ = some (.slice p x.length c) := row1.cell 1
  have b1 : w1.cell? ⟨w.heap.size, 0, none⟩ = some (.string m) := row1.cell 0
  clear hb1 row1
  cases hp : msgB m x
  · go_wp2
    go_ret
    exact ⟨ret_str (msgT_no hp).symm, HB1.out⟩
  obtain ⟨hmk, hl, hok⟩ := msgB_parts hp
  have HOKS := hide hok
  clear hok
  go_wp2_with fail
  refine (l04Whole_any m _ x _ (marksB_five hmk) hl HOKS.out HR1.out).mono ?_
  rintro e w2 ⟨rfl, hb2⟩
  have HB2 := hide (HB1.out.trans (hb2.mono HB1.out.size))
  clear hb2
  by_cases h8 : (wholeT m x).length ≤ 8000
  · have h8' : ¬ 8000 < (((⟨(wholeT m x).toArray⟩ : ByteArray).size : Nat) : Int) := by rw [bsize]; omega
    have HE := hide (msgT_yes hp h8)
    generalize (⟨(wholeT m x).toArray⟩ : ByteArray) = TT at *
    go_wp2
    go_ret
    exact ⟨ret_str HE.out.symm, HB2.out⟩
  · have h8' : 8000 < (((⟨(wholeT m x).toArray⟩ : ByteArray).size : Nat) : Int) := by rw [bsize]; omega
    have HE := hide (msgT_long (m := m) (xs := x) (by omega))
    generalize (⟨(wholeT m x).toArray⟩ : ByteArray) = TT at *
    go_wp2
    go_ret
    exact ⟨ret_str HE.out.symm, HB2.out⟩
end Go.Proofs.Ytlhlfcfolhlehaa
