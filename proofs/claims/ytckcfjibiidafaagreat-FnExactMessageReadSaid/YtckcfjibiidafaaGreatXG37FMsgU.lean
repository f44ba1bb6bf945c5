/- The model's text of a Message. -/
import Derived.Test.YtckcfjibiidafaaGreatXG35OSegR
import Derived.Test.YtckcfjibiidafaaGreatXG36FLSeg
namespace Go.Proofs.YtckcfjibiidafaaGreat
open Go.RowKit
def wholeT (m : ByteArray) (xs : List Seg) : List UInt8 := xs.flatMap fun s => segT m s.1 s.2 ++ [13]
theorem wholeT_snoc (m : ByteArray) (xs : List Seg) (k : Nat) (h : k < xs.length) : wholeT m (xs.take (k + 1)) = wholeT m (xs.take k) ++ (segT m xs[k].1 xs[k].2 ++ [13]) := by
  unfold wholeT
  rw [List.take_succ_eq_append_getElem h, List.flatMap_append]
  simp
theorem segT_len {m n : ByteArray} {x : Flds} (hm : m.size = 5) (hx : segB n x = true) : (segT m n x).length ≤ 1400000 := by
  obtain ⟨hn3, hxe, hxl⟩ := segB_parts hx
  have h1 := fldsT_len m x hxe
  have h2 := headT_len m n hm hn3
  have h3 : x.length * 45306 ≤ 30 * 45306 := Nat.mul_le_mul hxl (Nat.le_refl _)
  unfold segT
  rw [List.length_append]
  omega
theorem wholeT_len (m : ByteArray) (hm : m.size = 5) : ∀ xs : List Seg, (∀ i (h : i < xs.length), segB xs[i].1 xs[i].2 = true) → (wholeT m xs).length ≤ xs.length * 1400001
  | [], _ => by simp [wholeT]
  | s :: r, h => by
    have h1 := wholeT_len m hm r (fun i hi => h (i + 1) (by simpa using hi))
    have h2 : (segT m s.1 s.2).length ≤ 1400000 := segT_len hm (h 0 (by simp))
    simp only [wholeT, List.flatMap_cons, List.length_append, List.length_cons, List.length_nil] at h1 h2 ⊢
    omega
theorem wholeT_pre (m : ByteArray) (xs : List Seg) (k : Nat) : (wholeT m (xs.take k)).length ≤ (wholeT m xs).length := by
  have e : wholeT m xs = wholeT m (xs.take k) ++ wholeT m (xs.drop k) := by
    unfold wholeT
    rw [← List.flatMap_append, List.take_append_drop]
  rw [e, List.length_append]
  omega
theorem wholeT_takes (m : ByteArray) (xs : List Seg) (hm : m.size = 5) (hl : xs.length ≤ 20) (h : ∀ i (h : i < xs.length), segB xs[i].1 xs[i].2 = true) (k : Nat) : (wholeT m (xs.take k)).length ≤ 28000020 := by
  have h1 := wholeT_pre m xs k
  have h2 := wholeT_len m hm xs h
  omega
theorem msgB_parts {m : ByteArray} {xs : List Seg} (h : msgB m xs = true) : marksB m = true ∧ xs.length ≤ 20 ∧ ∀ i (h : i < xs.length), segB xs[i].1 xs[i].2 = true := by
  simp only [msgB, Bool.and_eq_true, decide_eq_true_eq] at h
  refine ⟨h.1.1, h.1.2.2, fun i hi => ?_⟩
  have h1 := List.all_eq_true.1 h.2 i (List.mem_range.2 hi)
  rw [okSeg_eq xs i hi, Bool.and_eq_true] at h1
  exact h1.1
def msgT (m : ByteArray) (xs : List Seg) : ByteArray := if msgB m xs && decide ((wholeT m xs).length ≤ 8000) then ⟨(wholeT m xs).toArray⟩ else ⟨#[]⟩
theorem msgT_yes {m : ByteArray} {xs : List Seg} (h : msgB m xs = true) (h2 : (wholeT m xs).length ≤ 8000) : msgT m xs = ⟨(wholeT m xs).toArray⟩ := by simp [msgT, h, h2]
theorem msgT_no {m : ByteArray} {xs : List Seg} (h : msgB m xs = false) : msgT m xs = ⟨#[]⟩ := by simp [msgT, h]
theorem msgT_long {m : ByteArray} {xs : List Seg} (h : 8000 < (wholeT m xs).length) : msgT m xs = ⟨#[]⟩ := by
  have : decide ((wholeT m xs).length ≤ 8000) = false := decide_eq_false (by omega)
  simp only [msgT, this, Bool.and_false]
  rfl

set_option maxHeartbeats 8000000 in
set_option maxRecDepth 100000 in
theorem l04Whole_any (m : ByteArray) (u : Value) (x : List Seg) (w : World) (hm : m.size = 5) (hxl : x.length ≤ 20) (hx : ∀ i (h : i < x.length), segB x[i].1 x[i].2 = true) (hr : RSegs 0 w u x) :
    Calls Tryz.prog 10 #[.agg #[.string m, u]] w fun e w' => e = .returned (.string ⟨(wholeT m x).toArray⟩) ∧ Below w.heap.size w w' := by
  have HXE := hide hx
  have HFL := hide (wholeT_takes m x hm hxl hx)
  clear hx
  obtain ⟨p, cap, rfl, h1, h2, h4⟩ := hr
  have H4 := hide h4
  clear h4
  unfold maxLen at h2
  have HRow := hide (row_new w [.string m, .slice p x.length cap] 24)
  have HB0 := hide ((Below.refl w.heap.size w).alloc (Nat.le_refl _) (.cells #[.string m, .slice p x.length cap] 24))
  go_enter Tryz.func10, Tryz.ntmps10
  go_wp2_with fail
  go_loopw [3, 4] (fun tv i wr => ∃ (X : World) (k : Nat) (T : ByteArray), X = wr ∧ k ≤ x.length ∧ i = .int .i64 k ∧ tv = .string T ∧ Hid (T = ⟨(wholeT m (x.take k)).toArray⟩) ∧ Hid (Below w.heap.size w X) ∧ Hid (Row X w.heap.size 24 [.string m, .slice p x.length cap])) (fun _ i _ => x.length - (intOf i).toNat)
  case atStart => exact ⟨_, 0, _, rfl, Nat.zero_le _, rfl, rfl, by rw [List.take_zero]; exact (by simp [wholeT] : (⟨#[]⟩ : ByteArray) = ⟨(wholeT m []).toArray⟩), HB0, HRow⟩
  case round =>
    obtain ⟨X, k, T, rfl, hk, rfl, rfl, HT, HB, HRw⟩ := hrel
    have c1 : X.cell? ⟨w.heap.size, 1, none⟩ = some (.slice p x.length cap) := HRw.out.cell 1
    by_cases hlt : k < x.length
    · obtain ⟨g, off, hp, hg, _, hc⟩ := H4.out (by omega)
      subst hp
      obtain ⟨ha, _, v, hv, hrv⟩ := hc k hlt
      have HUK := hide hrv
      obtain ⟨vp, vc, rfl⟩ := hrv.isSlice
      have HSN := hide (wholeT_snoc m x k hlt)
      have HOK := hide (HXE.out k hlt)
      have HFK := hide (segT_len (m := m) hm (HXE.out k hlt))
      have hTs : T.size ≤ 28000020 := by have h1 := HFL.out k; rw [HT.out, bsize]; exact h1
      have ad1 : ∀ w : World, (Op.stringOp .add T ⟨(segT m (x[k]'hlt).1 (x[k]'hlt).2).toArray⟩).run Tryz.prog w = .ok (.string (T ++ ⟨(segT m (x[k]'hlt).1 (x[k]'hlt).2).toArray⟩)) w := fun w => run_string_add_sum w _ _ (by have := HFK.out; simp only [bsize]; omega)
      have ad2 : ∀ w : World, (Op.stringOp .add (T ++ ⟨(segT m (x[k]'hlt).1 (x[k]'hlt).2).toArray⟩) ⟨#[13]⟩).run Tryz.prog w = .ok (.string (T ++ ⟨(segT m (x[k]'hlt).1 (x[k]'hlt).2).toArray⟩ ++ ⟨#[13]⟩)) w := fun w => run_string_add_sum w _ _ (by have := HFK.out; have e13 : (⟨#[13]⟩ : ByteArray).size = 1 := rfl; simp only [ByteArray.size_append, bsize, e13]; omega)
      have HNX : Hid (T ++ ⟨(segT m (x[k]'hlt).1 (x[k]'hlt).2).toArray⟩ ++ ⟨#[13]⟩ = ⟨(wholeT m (x.take (k + 1))).toArray⟩) := by
        have e13 : (⟨#[13]⟩ : ByteArray) = ⟨[13].toArray⟩ := rfl
        rw [HT.out, e13, bcat, bcat, HSN.out, List.append_assoc]
        exact rfl
      have HSS := hide (show ∀ y, Below X.heap.size X y → y.cell? ⟨w.heap.size, 0, none⟩ = some (.string m) ∧ y.cell? ⟨w.heap.size, 1, none⟩ = some (.slice (some ⟨g, off, none⟩) x.length cap) ∧ y.cell? ⟨g, off + k * 2, none⟩ = some (.string (x[k]'hlt).1) ∧ y.cell? ⟨g, off + k * 2 + 1, none⟩ = some (.slice vp (x[k]'hlt).2.length vc) ∧ Below X.heap.size X y from
        fun y h => by
          have hb := HB.out.trans (h.mono HB.out.size)
          have hw := HRw.out.below h HRw.out.lt
          exact ⟨hw.cell 0, hw.cell 1, (hb.cell (p := ⟨g, off + k * 2, none⟩) hg).trans ha, (hb.cell (p := ⟨g, off + k * 2 + 1, none⟩) hg).trans hv, h⟩)
      have hki : (k : Int) < (x.length : Int) := by omega
      clear ha hv hrv hc hTs HSN
      go_wp2_with fail
      go_region_held3 (fun y => y.cell? ⟨w.heap.size, 0, none⟩ = some (.string m) ∧ y.cell? ⟨w.heap.size, 1, none⟩ = some (.slice (some ⟨g, off, none⟩) x.length cap) ∧ y.cell? ⟨g, off + k * 2, none⟩ = some (.string (x[k]'hlt).1) ∧ y.cell? ⟨g, off + k * 2 + 1, none⟩ = some (.slice vp (x[k]'hlt).2.length vc) ∧ Below X.heap.size X y)
        ((go_split_ands; refine HSS.out _ ?_; repeat (first | with_reducible assumption | with_reducible exact Below.refl _ _ | with_reducible refine Below.drew ?_)))
        ((go_at_call 19; go_split_ands; refine (l04Seg_any m (x[k]'hlt).1 _ (x[k]'hlt).2 _ hm HOK.out (Lasts.go (B := 0) (Same.of (HB.out.trans (Below.mono (by assumption) HB.out.size))) HUK.out)).mono ?_; rintro e w3 ⟨rfl, hb3⟩; have hB3 : Below X.heap.size X w3 := Below.trans (by assumption) (hb3.mono (Below.size (by assumption))); clear hb3))
      all_goals
        have HB3 := hide (HB.out.trans (hB3.mono HB.out.size))
        have HR3 := hide (HRw.out.below hB3 HRw.out.lt)
        clear hB3
        go_wp2
        go_roundw
        case rel => exact ⟨_, k + 1, _, rfl, by omega, by go_num, rfl, HNX, HB3, HR3⟩
        case measure => simp [intOf]; omega
    · have e1 : x.take k = x := List.take_of_length_le (by omega)
      have HE : Hid (T = ⟨(wholeT m x).toArray⟩) := by rw [e1] at HT; exact HT
      go_wp2
      go_ret
      exact ⟨ret_str HE.out, HB.out⟩

end Go.Proofs.YtckcfjibiidafaaGreat
/- The program's text of a Message; the law of MessageText. -/
namespace Go.Proofs.YtckcfjibiidafaaGreat
open Go.RowKit
theorem msgRow_kept {B : Nat} {w w' : World} {v : Value} {L : List UInt8} {g : Nat} {vs : List Value} (h : Buf 5 B w w' v L) (hr : Row w g 24 vs) : Row w' g 24 vs :=
  h.kept g _ hr (by simp) (fun _ _ e1 => by simp at e1)
theorem Buf.shape {e B : Nat} {w0 w : World} {v : Value} {L : List UInt8} (h : Buf e B w0 w v L) : ∃ p c, v = .slice p L.length c := by
  rcases h.own.2 with ⟨rfl, hn⟩ | ⟨g, cap, cur, rfl, _⟩
  · exact ⟨none, 0, by rw [hn]⟩
  · exact ⟨_, _, rfl⟩

set_option maxHeartbeats 8000000 in
set_option maxRecDepth 100000 in
theorem implMessageText_any (m : ByteArray) (u : Value) (x : List Seg) (w : World) (hm : m.size ≤ maxLen) (hn : wSegs x ≤ 1048576) (hr : RSegs 0 w u x) :
    Calls Tryz.prog 35 #[.agg #[.string m, u]] w fun e w' => e = .returned (.string (msgT m x)) ∧ Below w.heap.size w w' := by
  have HSZ := hide (fitsM_of hn)
  have HR := hide hr
  obtain ⟨p, cap, rfl, h1, h2, h4⟩ := hr
  have H4 := hide h4
  clear h4
  unfold maxLen at h2
  have HB0 := hide ((Below.refl w.heap.size w).alloc (Nat.le_refl _) (.cells #[.string m, .slice p x.length cap] 24))
  have HR0 := hide (HR.out.below HB0.out)
  have HRow0 := hide (row_new w [.string m, .slice p x.length cap] 24)
  clear HR
  go_enter Tryz.func35, Tryz.ntmps35
  go_wp2_with fail
  refine (implMessage_any m _ x _ hm HSZ.out HR0.out).mono ?_
  rintro e w1 ⟨rfl, hb1⟩
  have HB1 := hide (HB0.out.trans (hb1.mono (by simp)))
  have row1 := HRow0.out.below hb1 HRow0.out.lt
  have c1 : w1.cell? ⟨w.heap.size, 1, none⟩ = some (.slice p x.length cap) := row1.cell 1
  have b1 : w1.cell? ⟨w.heap.size, 0, none⟩ = some (.string m) := row1.cell 0
  have HRow1 := hide row1
  clear hb1 row1
  cases hp : msgB m x
  · go_wp2
    go_ret
    exact ⟨ret_str (msgT_no hp).symm, HB1.out⟩
  obtain ⟨hmk, hl, hok⟩ := msgB_parts hp
  have hm5 := marksB_five hmk
  have HOKS := hide hok
  clear hok hmk
  go_wp2_with fail
  go_loopw [3, 12] (fun v' i wr => ∃ (X : World) (k : Nat), X = wr ∧ k ≤ x.length ∧ i = .int .i64 k ∧ Hid (Buf 5 w1.heap.size w1 X v' (wholeT m (x.take k))) ∧ Hid ((wholeT m (x.take k)).length ≤ 8000)) (fun _ i _ => x.length - (intOf i).toNat)
  case atStart => exact ⟨_, 0, rfl, Nat.zero_le _, rfl, by rw [List.take_zero]; exact hide (Buf.nil _ (Nat.le_refl _)), by rw [List.take_zero]; exact (by simp [wholeT] : (wholeT m []).length ≤ 8000)⟩
  case round =>
    obtain ⟨X, k, rfl, hk, rfl, HBf, HL8⟩ := hrel
    by_cases hlt : k < x.length
    · obtain ⟨g, off, hpp, hg, _, hc⟩ := H4.out (by omega)
      subst hpp
      obtain ⟨ha, _, v, hv, hrv⟩ := hc k hlt
      have hXB : Below w.heap.size w X := HB1.out.trans (HBf.out.below.mono HB1.out.size)
      have hk0 := (hXB.cell (p := ⟨g, off + k * 2, none⟩) hg).trans ha
      have hk1 := (hXB.cell (p := ⟨g, off + k * 2 + 1, none⟩) hg).trans hv
      have HUV := hide (flds_under (hrv.below HB1.out))
      obtain ⟨vp, vc, rfl⟩ := hrv.isSlice
      have HX1 := hide (HBf.out.alloc (.cells #[.string (x[k]'hlt).1, .slice vp (x[k]'hlt).2.length vc] 41))
      have rowM := (msgRow_kept HBf.out HRow1.out).alloc (.cells #[.string (x[k]'hlt).1, .slice vp (x[k]'hlt).2.length vc] 41)
      have b2 : (X.alloc (.cells #[.string (x[k]'hlt).1, .slice vp (x[k]'hlt).2.length vc] 41)).cell? ⟨w.heap.size, 0, none⟩ = some (.string m) := rowM.cell 0
      have HOK := hide (HOKS.out k hlt)
      have HSN := hide (wholeT_snoc m x k hlt)
      have HSL := hide (segT_len (m := m) hm5 (HOKS.out k hlt))
      have HPR := hide (wholeT_pre m x (k + 1))
      clear ha hv hrv hc hXB rowM
      go_wp2_with fail
      refine (appSegment _ (wholeT m (x.take k)) w1.heap.size m (x[k]'hlt).1 _ (x[k]'hlt).2 _ hm5 HOK.out (by have := HL8.out; omega) HX1.out.size HX1.out.own (Under.go HX1.out.below HUV.out)).mono ?_
      rintro e w5 ⟨v5, rfl, hb5⟩
      obtain ⟨A1, hA1⟩ : ∃ A1, A1 = wholeT m (x.take k) ++ segT m (x[k]'hlt).1 (x[k]'hlt).2 := ⟨_, rfl⟩
      have HAN : Hid (wholeT m (x.take (k + 1)) = A1 ++ [13]) := by rw [HSN.out, hA1, List.append_assoc]; exact rfl
      have HAL := hide (show A1.length ≤ 1408000 by have h1 := HL8.out; have h2 := HSL.out; rw [hA1, List.length_append]; omega)
      rw [← hA1] at hb5
      have HB5 := hide (HX1.out.trans hb5)
      have HBs := hide ((Buf.start hb5.own hb5.size).alloc (.cells #[.int .u8 13] 5))
      have HC := hide (heap_alloc_new w5 (.cells #[.int .u8 13] 5))
      have HL3 := hide (show A1.length + [(13 : UInt8)].length ≤ 100000000 by have h1 := HAL.out; simp only [List.length_cons, List.length_nil]; omega)
      clear hb5 hA1 HSN hk0 hk1 b2
      go_wp2_with (at_builtin; refine wpList_buf (w0 := w5) rfl (.tmp 20) (.tmp 21) 74 rfl w1.heap.size 5 Tryz.underlying74 Tryz.infoByte v5 A1 rfl HBs.out w5.heap.size 1 [13] rfl rfl ⟨_, HC.out⟩ HL3.out ?_)
      intro v6 w6 hb6
      have HB6 : Hid (Buf 5 w1.heap.size w1 w6 v6 (wholeT m (x.take (k + 1)))) := by rw [HAN.out]; exact HB5.out.trans hb6
      obtain ⟨q6, c6, rfl⟩ := HB6.out.shape
      clear hb6
      by_cases h8 : (wholeT m (x.take (k + 1))).length ≤ 8000
      · have h8' : ¬ 8000 < (((wholeT m (x.take (k + 1))).length : Nat) : Int) := by omega
        have H8 := hide h8
        go_wp2
        go_roundw
        case rel => exact ⟨_, k + 1, rfl, by omega, by go_num, HB6, H8⟩
        case measure => simp [intOf]; omega
      · have h8' : 8000 < (((wholeT m (x.take (k + 1))).length : Nat) : Int) := by omega
        have HE := hide (msgT_long (m := m) (xs := x) (by have := HPR.out; omega))
        have HBE := hide (HB1.out.trans (HB6.out.below.mono HB1.out.size))
        go_wp2
        go_ret
        exact ⟨ret_str HE.out.symm, HBE.out⟩
    · have e1 : x.take k = x := List.take_of_length_le (by omega)
      rw [e1] at HBf HL8
      have HE := hide (msgT_yes hp HL8.out)
      have hcv := HBf.out.text (P := Tryz.prog) Tryz.underlying74 Tryz.underlying5 Tryz.underlying9
      have HBE := hide (HB1.out.trans (HBf.out.below.mono HB1.out.size))
      go_wp2
      go_ret
      exact ⟨ret_str HE.out.symm, HBE.out⟩

end Go.Proofs.YtckcfjibiidafaaGreat
