/- The model's l04Seg and SegmentText; the program's SegmentText. -/
import Derived.Test.YtolgjdnhhbbebaaGreatDoorXGFSegR
import Derived.Laws.Concat
import Derived.Test.YtolgjdnhhbbebaaGreatDoorXGPRight
import Derived.BigQuiet
import Derived.OrdersHeld
namespace Go.Proofs.YtolgjdnhhbbebaaGreatDoor
open Go.RowKit
theorem bcat (a b : List UInt8) : (⟨a.toArray⟩ : ByteArray) ++ ⟨b.toArray⟩ = ⟨(a ++ b).toArray⟩ := by
  apply ByteArray.ext
  simp [ByteArray.data_append]
theorem barr (a : ByteArray) : (⟨a.data.toList.toArray⟩ : ByteArray) = a := by simp
theorem bsize (a : List UInt8) : (⟨a.toArray⟩ : ByteArray).size = a.length := by simp [ByteArray.size]
theorem drop_consS (s : ByteArray) (k : Nat) (h : k < s.size) : s.data.toList.drop k = s[k]'h :: s.data.toList.drop (k + 1) := by
  rw [List.drop_eq_getElem_cons (by simpa using h), data_get s k h]
theorem first_mark (m : ByteArray) (h : 0 < m.size) : m.extract 0 1 = ⟨[bAt m 0].toArray⟩ := by
  have e : (m.extract 0 1).data.toList = [bAt m 0] := by
    rw [ByteArray.data_extract, Array.toList_extract, List.extract_eq_take_drop]
    have := drop_consS m 0 h
    rw [List.drop_zero] at this
    rw [List.drop_zero, this, bAt_get m 0 h]
    rfl
  rw [← barr (m.extract 0 1), e]

set_option maxHeartbeats 8000000 in
set_option maxRecDepth 100000 in
theorem l04Seg_any (m n : ByteArray) (u : Value) (x : Flds) (w : World) (hm : m.size = 5) (hx : segB n x = true) (hr : RFlds 0 w u x) :
    Calls Tryz.prog 25 #[.string m, .agg #[.string n, u]] w fun e w' => e = .returned (.string ⟨(segT m n x).toArray⟩) ∧ Below w.heap.size w w' := by
  obtain ⟨hn3, hxe, hxl⟩ := segB_parts hx
  have HXE := hide hxe
  have HHL := hide (headT_len m n hm hn3)
  have HFL : Hid (∀ k, (fldsT m (x.take k)).length ≤ 30 * 45306) := fun k => by
    have h1 := fldsT_len m (x.take k) (take_fldB hxe k)
    have h2 : (x.take k).length ≤ 30 := by rw [List.length_take]; omega
    exact Nat.le_trans h1 (Nat.mul_le_mul h2 (Nat.le_refl _))
  have hm0 : 0 < m.size := by omega
  have HFM := hide (first_mark m hm0)
  obtain ⟨p, cap, rfl, h1, h2, h4⟩ := hr
  have H4 := hide h4
  clear h4 hxe
  unfold maxLen at h2
  have HRow := hide (row_new w [.string n, .slice p x.length cap] 62)
  have HB0 := hide ((Below.refl w.heap.size w).alloc (Nat.le_refl _) (.cells #[.string n, .slice p x.length cap] 62))
  have key : ∀ (T0 : ByteArray), T0 = ⟨(headT m n).toArray⟩ → True := fun _ _ => trivial
  clear key
  by_cases hM : n = msh
  · have hh : (⟨(headT m n).toArray⟩ : ByteArray) = n ++ m := by unfold headT; rw [if_pos hM, ← bcat, barr, barr]
    have HHH := hide hh
    have hne : (n.toList == [77, 83, 72]) = true := by rw [hM]; unfold msh; simp
    have ad0 : ∀ w : World, (Op.stringOp .add n m).run Tryz.prog w = .ok (.string (n ++ m)) w := fun w => run_string_add_sum w _ _ (by omega)
    clear hM hh
    go_enter Tryz.func25, Tryz.ntmps25
    go_wp2_with fail
    rw [← HHH.out]
    go_loopw [5, 6] (fun tv i wr => ∃ (X : World) (k : Nat) (T : ByteArray), X = wr ∧ k ≤ x.length ∧ i = .int .i64 k ∧ tv = .string T ∧ Hid (T = ⟨(headT m n ++ fldsT m (x.take k)).toArray⟩) ∧ Hid (Below w.heap.size w X) ∧ Hid (Row X w.heap.size 62 [.string n, .slice p x.length cap])) (fun _ i _ => x.length - (intOf i).toNat)
    case atStart => exact ⟨_, 0, _, rfl, Nat.zero_le _, rfl, rfl, by rw [List.take_zero]; exact (by simp [fldsT] : (⟨(headT m n).toArray⟩ : ByteArray) = ⟨(headT m n ++ fldsT m []).toArray⟩), HB0, HRow⟩
    case round =>
      obtain ⟨X, k, T, rfl, hk, rfl, rfl, HT, HB, HRw⟩ := hrel
      have c1 : X.cell? ⟨w.heap.size, 1, none⟩ = some (.slice p x.length cap) := HRw.out.cell 1
      by_cases hlt : k < x.length
      · obtain ⟨g, off, hp, hg, _, hc⟩ := H4.out (by omega)
        subst hp
        obtain ⟨uk, huk, hruk⟩ := hc k hlt
        have HUK := hide hruk
        obtain ⟨vp, vc, rfl⟩ := hruk.isSlice
        have HSN := hide (fldsT_snoc m x k hlt)
        have HOK := hide (HXE.out k hlt)
        have HFK := hide (fldT_len (m := m) (HXE.out k hlt))
        have hTs : T.size ≤ 1400000 := by have h1 := HFL.out k; have h2 := HHL.out; rw [HT.out, bsize, List.length_append]; omega
        have hEs : (m.extract 0 1).size = 1 := by rw [HFM.out, bsize]; rfl
        have ad1 : ∀ w : World, (Op.stringOp .add T (m.extract 0 1)).run Tryz.prog w = .ok (.string (T ++ m.extract 0 1)) w := fun w => run_string_add_sum w _ _ (by omega)
        have ad2 : ∀ w : World, (Op.stringOp .add (T ++ m.extract 0 1) ⟨(fldT m (x[k]'hlt)).toArray⟩).run Tryz.prog w = .ok (.string (T ++ m.extract 0 1 ++ ⟨(fldT m (x[k]'hlt)).toArray⟩)) w := fun w => run_string_add_sum w _ _ (by have := HFK.out; simp only [ByteArray.size_append, bsize]; omega)
        have HNX : Hid (T ++ m.extract 0 1 ++ ⟨(fldT m (x[k]'hlt)).toArray⟩ = ⟨(headT m n ++ fldsT m (x.take (k + 1))).toArray⟩) := by
          rw [HT.out, HFM.out, bcat, bcat, HSN.out]
          exact (by simp : (⟨(headT m n ++ fldsT m (x.take k) ++ [bAt m 0] ++ fldT m (x[k]'hlt)).toArray⟩ : ByteArray) = ⟨(headT m n ++ (fldsT m (x.take k) ++ (bAt m 0 :: fldT m (x[k]'hlt)))).toArray⟩)
        have HSS := hide (show ∀ y, Below X.heap.size X y → y.cell? ⟨w.heap.size, 1, none⟩ = some (.slice (some ⟨g, off, none⟩) x.length cap) ∧ y.cell? ⟨g, off + k, none⟩ = some (.slice vp (x[k]'hlt).length vc) ∧ Below X.heap.size X y from
          fun y h => ⟨(HRw.out.below h HRw.out.lt).cell 1, by rw [(HB.out.trans (h.mono HB.out.size)).cell (p := ⟨g, off + k, none⟩) hg]; exact huk, h⟩)
        have hki : (k : Int) < (x.length : Int) := by omega
        clear huk hruk hc hTs hEs HSN
        go_wp2_with fail
        go_region_held3 (fun y => y.cell? ⟨w.heap.size, 1, none⟩ = some (.slice (some ⟨g, off, none⟩) x.length cap) ∧ y.cell? ⟨g, off + k, none⟩ = some (.slice vp (x[k]'hlt).length vc) ∧ Below X.heap.size X y)
          ((go_split_ands; refine HSS.out _ ?_; repeat (first | with_reducible assumption | with_reducible exact Below.refl _ _ | with_reducible refine Below.drew ?_)))
          ((go_at_call 38; go_split_ands; refine (l04Text_any m _ (x[k]'hlt) _ hm HOK.out (Lasts.go (B := 0) (Same.of (HB.out.trans (Below.mono (by assumption) HB.out.size))) HUK.out)).mono ?_; rintro e w3 ⟨rfl, hb3⟩; have hB3 : Below X.heap.size X w3 := Below.trans (by assumption) (hb3.mono (Below.size (by assumption))); clear hb3))
        all_goals
          have HB3 := hide (HB.out.trans (hB3.mono HB.out.size))
          have HR3 := hide (HRw.out.below hB3 HRw.out.lt)
          clear hB3
          go_wp2
          go_roundw
          case rel => exact ⟨_, k + 1, _, rfl, by omega, by go_num, rfl, HNX, HB3, HR3⟩
          case measure => simp [intOf]; omega
      · have e1 : x.take k = x := List.take_of_length_le (by omega)
        have HE : Hid (T = ⟨(segT m n x).toArray⟩) := by rw [e1] at HT; exact HT
        go_wp2
        go_ret
        exact ⟨ret_str HE.out, HB.out⟩
  · have hh : (⟨(headT m n).toArray⟩ : ByteArray) = n := by unfold headT; rw [if_neg hM, List.append_nil, barr]
    have HHH := hide hh
    have hne0 := toList_neF (show n ≠ (⟨#[77, 83, 72]⟩ : ByteArray) from hM)
    have hne : (n.toList == [77, 83, 72]) = false := by simpa using hne0
    clear hne0 hM hh
    go_enter Tryz.func25, Tryz.ntmps25
    go_wp2_with fail
    go_loopw [5, 6] (fun tv i wr => ∃ (X : World) (k : Nat) (T : ByteArray), X = wr ∧ k ≤ x.length ∧ i = .int .i64 k ∧ tv = .string T ∧ Hid (T = ⟨(headT m n ++ fldsT m (x.take k)).toArray⟩) ∧ Hid (Below w.heap.size w X) ∧ Hid (Row X w.heap.size 62 [.string n, .slice p x.length cap])) (fun _ i _ => x.length - (intOf i).toNat)
    case atStart => exact ⟨_, 0, _, rfl, Nat.zero_le _, rfl, rfl, by rw [List.take_zero]; exact (by simp only [fldsT, List.flatMap_nil, List.append_nil]; exact HHH.out.symm : n = ⟨(headT m n ++ fldsT m []).toArray⟩), HB0, HRow⟩
    case round =>
      obtain ⟨X, k, T, rfl, hk, rfl, rfl, HT, HB, HRw⟩ := hrel
      have c1 : X.cell? ⟨w.heap.size, 1, none⟩ = some (.slice p x.length cap) := HRw.out.cell 1
      by_cases hlt : k < x.length
      · obtain ⟨g, off, hp, hg, _, hc⟩ := H4.out (by omega)
        subst hp
        obtain ⟨uk, huk, hruk⟩ := hc k hlt
        have HUK := hide hruk
        obtain ⟨vp, vc, rfl⟩ := hruk.isSlice
        have HSN := hide (fldsT_snoc m x k hlt)
        have HOK := hide (HXE.out k hlt)
        have HFK := hide (fldT_len (m := m) (HXE.out k hlt))
        have hTs : T.size ≤ 1400000 := by have h1 := HFL.out k; have h2 := HHL.out; rw [HT.out, bsize, List.length_append]; omega
        have hEs : (m.extract 0 1).size = 1 := by rw [HFM.out, bsize]; rfl
        have ad1 : ∀ w : World, (Op.stringOp .add T (m.extract 0 1)).run Tryz.prog w = .ok (.string (T ++ m.extract 0 1)) w := fun w => run_string_add_sum w _ _ (by omega)
        have ad2 : ∀ w : World, (Op.stringOp .add (T ++ m.extract 0 1) ⟨(fldT m (x[k]'hlt)).toArray⟩).run Tryz.prog w = .ok (.string (T ++ m.extract 0 1 ++ ⟨(fldT m (x[k]'hlt)).toArray⟩)) w := fun w => run_string_add_sum w _ _ (by have := HFK.out; simp only [ByteArray.size_append, bsize]; omega)
        have HNX : Hid (T ++ m.extract 0 1 ++ ⟨(fldT m (x[k]'hlt)).toArray⟩ = ⟨(headT m n ++ fldsT m (x.take (k + 1))).toArray⟩) := by
          rw [HT.out, HFM.out, bcat, bcat, HSN.out]
          exact (by simp : (⟨(headT m n ++ fldsT m (x.take k) ++ [bAt m 0] ++ fldT m (x[k]'hlt)).toArray⟩ : ByteArray) = ⟨(headT m n ++ (fldsT m (x.take k) ++ (bAt m 0 :: fldT m (x[k]'hlt)))).toArray⟩)
        have HSS := hide (show ∀ y, Below X.heap.size X y → y.cell? ⟨w.heap.size, 1, none⟩ = some (.slice (some ⟨g, off, none⟩) x.length cap) ∧ y.cell? ⟨g, off + k, none⟩ = some (.slice vp (x[k]'hlt).length vc) ∧ Below X.heap.size X y from
          fun y h => ⟨(HRw.out.below h HRw.out.lt).cell 1, by rw [(HB.out.trans (h.mono HB.out.size)).cell (p := ⟨g, off + k, none⟩) hg]; exact huk, h⟩)
        have hki : (k : Int) < (x.length : Int) := by omega
        clear huk hruk hc hTs hEs HSN
        go_wp2_with fail
        go_region_held3 (fun y => y.cell? ⟨w.heap.size, 1, none⟩ = some (.slice (some ⟨g, off, none⟩) x.length cap) ∧ y.cell? ⟨g, off + k, none⟩ = some (.slice vp (x[k]'hlt).length vc) ∧ Below X.heap.size X y)
          ((go_split_ands; refine HSS.out _ ?_; repeat (first | with_reducible assumption | with_reducible exact Below.refl _ _ | with_reducible refine Below.drew ?_)))
          ((go_at_call 38; go_split_ands; refine (l04Text_any m _ (x[k]'hlt) _ hm HOK.out (Lasts.go (B := 0) (Same.of (HB.out.trans (Below.mono (by assumption) HB.out.size))) HUK.out)).mono ?_; rintro e w3 ⟨rfl, hb3⟩; have hB3 : Below X.heap.size X w3 := Below.trans (by assumption) (hb3.mono (Below.size (by assumption))); clear hb3))
        all_goals
          have HB3 := hide (HB.out.trans (hB3.mono HB.out.size))
          have HR3 := hide (HRw.out.below hB3 HRw.out.lt)
          clear hB3
          go_wp2
          go_roundw
          case rel => exact ⟨_, k + 1, _, rfl, by omega, by go_num, rfl, HNX, HB3, HR3⟩
          case measure => simp [intOf]; omega
      · have e1 : x.take k = x := List.take_of_length_le (by omega)
        have HE : Hid (T = ⟨(segT m n x).toArray⟩) := by rw [e1] at HT; exact HT
        go_wp2
        go_ret
        exact ⟨ret_str HE.out, HB.out⟩
end Go.Proofs.YtolgjdnhhbbebaaGreatDoor
/- SegmentText of the model and of the program; its law. -/
namespace Go.Proofs.YtolgjdnhhbbebaaGreatDoor
open Go.RowKit

def segTB (m n : ByteArray) (x : Flds) : ByteArray := if marksB m && segB n x then ⟨(segT m n x).toArray⟩ else ⟨#[]⟩
theorem segTB_yes {m n : ByteArray} {x : Flds} (h1 : marksB m = true) (h2 : segB n x = true) : segTB m n x = ⟨(segT m n x).toArray⟩ := by simp [segTB, h1, h2]
theorem segTB_marks {m n : ByteArray} {x : Flds} (h1 : marksB m = false) : segTB m n x = ⟨#[]⟩ := by simp [segTB, h1]
theorem segTB_seg {m n : ByteArray} {x : Flds} (h1 : segB n x = false) : segTB m n x = ⟨#[]⟩ := by simp [segTB, h1]

end Go.Proofs.YtolgjdnhhbbebaaGreatDoor
/- The model's text of a Message. -/
namespace Go.Proofs.YtolgjdnhhbbebaaGreatDoor
open Go.RowKit
def wholeT (m : ByteArray) (xs : List Seg) : List UInt8 := xs.flatMap fun s => segT m s.1 s.2 ++ [13]
theorem wholeT_snoc (m : ByteArray) (xs : List Seg) (k : Nat) (h : k < xs.length) : wholeT m (xs.take (k + 1)) = wholeT m (xs.take k) ++ (segT m xs[k].1 xs[k].2 ++ [13]) := by
  unfold wholeT
  rw [List.take_succ_eq_append_getElem h, List.flatMap_append]
  simp
theorem segT_len {m n : ByteArray} {x : Flds} (hm : m.size = 5) (hx : segB n x = true) : (segT m n x).length ≤ 1400000 := by
  obtain ⟨hn3, hxe, hxl⟩ := segB_parts hx
  have h1 := fldsT_len m x hxe
  have h2 := headT_len m n hm hn3
  have h3 : x.length * 45306 ≤ 30 * 45306 := Nat.mul_le_mul hxl (Nat.le_refl _)
  unfold segT
  rw [List.length_append]
  omega
theorem wholeT_len (m : ByteArray) (hm : m.size = 5) : ∀ xs : List Seg, (∀ i (h : i < xs.length), segB xs[i].1 xs[i].2 = true) → (wholeT m xs).length ≤ xs.length * 1400001
  | [], _ => by simp [wholeT]
  | s :: r, h => by
    have h1 := wholeT_len m hm r (fun i hi => h (i + 1) (by simpa using hi))
    have h2 : (segT m s.1 s.2).length ≤ 1400000 := segT_len hm (h 0 (by simp))
    simp only [wholeT, List.flatMap_cons, List.length_append, List.length_cons, List.length_nil] at h1 h2 ⊢
    omega
theorem wholeT_pre (m : ByteArray) (xs : List Seg) (k : Nat) : (wholeT m (xs.take k)).length ≤ (wholeT m xs).length := by
  have e : wholeT m xs = wholeT m (xs.take k) ++ wholeT m (xs.drop k) := by
    unfold wholeT
    rw [← List.flatMap_append, List.take_append_drop]
  rw [e, List.length_append]
  omega
theorem wholeT_takes (m : ByteArray) (xs : List Seg) (hm : m.size = 5) (hl : xs.length ≤ 20) (h : ∀ i (h : i < xs.length), segB xs[i].1 xs[i].2 = true) (k : Nat) : (wholeT m (xs.take k)).length ≤ 28000020 := by
  have h1 := wholeT_pre m xs k
  have h2 := wholeT_len m hm xs h
  omega
theorem msgB_parts {m : ByteArray} {xs : List Seg} (h : msgB m xs = true) : marksB m = true ∧ xs.length ≤ 20 ∧ ∀ i (h : i < xs.length), segB xs[i].1 xs[i].2 = true := by
  simp only [msgB, Bool.and_eq_true, decide_eq_true_eq] at h
  refine ⟨h.1.1, h.1.2.2, fun i hi => ?_⟩
  have h1 := List.all_eq_true.1 h.2 i (List.mem_range.2 hi)
  rw [okSeg_eq xs i hi, Bool.and_eq_true] at h1
  exact h1.1
def msgT (m : ByteArray) (xs : List Seg) : ByteArray := if msgB m xs && decide ((wholeT m xs).length ≤ 8000) then ⟨(wholeT m xs).toArray⟩ else ⟨#[]⟩
theorem msgT_yes {m : ByteArray} {xs : List Seg} (h : msgB m xs = true) (h2 : (wholeT m xs).length ≤ 8000) : msgT m xs = ⟨(wholeT m xs).toArray⟩ := by simp [msgT, h, h2]
theorem msgT_no {m : ByteArray} {xs : List Seg} (h : msgB m xs = false) : msgT m xs = ⟨#[]⟩ := by simp [msgT, h]
theorem msgT_long {m : ByteArray} {xs : List Seg} (h : 8000 < (wholeT m xs).length) : msgT m xs = ⟨#[]⟩ := by
  have : decide ((wholeT m xs).length ≤ 8000) = false := decide_eq_false (by omega)
  simp only [msgT, this, Bool.and_false]
  rfl

set_option maxHeartbeats 8000000 in
set_option maxRecDepth 100000 in
theorem l04Whole_any (m : ByteArray) (u : Value) (x : List Seg) (w : World) (hm : m.size = 5) (hxl : x.length ≤ 20) (hx : ∀ i (h : i < x.length), segB x[i].1 x[i].2 = true) (hr : RSegs 0 w u x) :
    Calls Tryz.prog 12 #[.agg #[.string m, u]] w fun e w' => e = .returned (.string ⟨(wholeT m x).toArray⟩) ∧ Below w.heap.size w w' := by
  have HXE := hide hx
  have HFL := hide (wholeT_takes m x hm hxl hx)
  clear hx
  obtain ⟨p, cap, rfl, h1, h2, h4⟩ := hr
  have H4 := hide h4
  clear h4
  unfold maxLen at h2
  have HRow := hide (row_new w [.string m, .slice p x.length cap] 42)
  have HB0 := hide ((Below.refl w.heap.size w).alloc (Nat.le_refl _) (.cells #[.string m, .slice p x.length cap] 42))
  go_enter Tryz.func12, Tryz.ntmps12
  go_wp2_with fail
  go_loopw [3, 4] (fun tv i wr => ∃ (X : World) (k : Nat) (T : ByteArray), X = wr ∧ k ≤ x.length ∧ i = .int .i64 k ∧ tv = .string T ∧ Hid (T = ⟨(wholeT m (x.take k)).toArray⟩) ∧ Hid (Below w.heap.size w X) ∧ Hid (Row X w.heap.size 42 [.string m, .slice p x.length cap])) (fun _ i _ => x.length - (intOf i).toNat)
  case atStart => exact ⟨_, 0, _, rfl, Nat.zero_le _, rfl, rfl, by rw [List.take_zero]; exact (by simp [wholeT] : (⟨#[]⟩ : ByteArray) = ⟨(wholeT m []).toArray⟩), HB0, HRow⟩
  case round =>
    obtain ⟨X, k, T, rfl, hk, rfl, rfl, HT, HB, HRw⟩ := hrel
    have c1 : X.cell? ⟨w.heap.size, 1, none⟩ = some (.slice p x.length cap) := HRw.out.cell 1
    by_cases hlt : k < x.length
    · obtain ⟨g, off, hp, hg, _, hc⟩ := H4.out (by omega)
      subst hp
      obtain ⟨ha, _, v, hv, hrv⟩ := hc k hlt
      have HUK := hide hrv
      obtain ⟨vp, vc, rfl⟩ := hrv.isSlice
      have HSN := hide (wholeT_snoc m x k hlt)
      have HOK := hide (HXE.out k hlt)
      have HFK := hide (segT_len (m := m) hm (HXE.out k hlt))
      have hTs : T.size ≤ 28000020 := by have h1 := HFL.out k; rw [HT.out, bsize]; exact h1
      have ad1 : ∀ w : World, (Op.stringOp .add T ⟨(segT m (x[k]'hlt).1 (x[k]'hlt).2).toArray⟩).run Tryz.prog w = .ok (.string (T ++ ⟨(segT m (x[k]'hlt).1 (x[k]'hlt).2).toArray⟩)) w := fun w => run_string_add_sum w _ _ (by have := HFK.out; simp only [bsize]; omega)
      have ad2 : ∀ w : World, (Op.stringOp .add (T ++ ⟨(segT m (x[k]'hlt).1 (x[k]'hlt).2).toArray⟩) ⟨#[13]⟩).run Tryz.prog w = .ok (.string (T ++ ⟨(segT m (x[k]'hlt).1 (x[k]'hlt).2).toArray⟩ ++ ⟨#[13]⟩)) w := fun w => run_string_add_sum w _ _ (by have := HFK.out; have e13 : (⟨#[13]⟩ : ByteArray).size = 1 := rfl; simp only [ByteArray.size_append, bsize, e13]; omega)
      have HNX : Hid (T ++ ⟨(segT m (x[k]'hlt).1 (x[k]'hlt).2).toArray⟩ ++ ⟨#[13]⟩ = ⟨(wholeT m (x.take (k + 1))).toArray⟩) := by
        have e13 : (⟨#[13]⟩ : ByteArray) = ⟨[13].toArray⟩ := rfl
        rw [HT.out, e13, bcat, bcat, HSN.out, List.append_assoc]
        exact rfl
      have HSS := hide (show ∀ y, Below X.heap.size X y → y.cell? ⟨w.heap.size, 0, none⟩ = some (.string m) ∧ y.cell? ⟨w.heap.size, 1, none⟩ = some (.slice (some ⟨g, off, none⟩) x.length cap) ∧ y.cell? ⟨g, off + k * 2, none⟩ = some (.string (x[k]'hlt).1) ∧ y.cell? ⟨g, off + k * 2 + 1, none⟩ = some (.slice vp (x[k]'hlt).2.length vc) ∧ Below X.heap.size X y from
        fun y h => by
          have hb := HB.out.trans (h.mono HB.out.size)
          have hw := HRw.out.below h HRw.out.lt
          exact ⟨hw.cell 0, hw.cell 1, (hb.cell (p := ⟨g, off + k * 2, none⟩) hg).trans ha, (hb.cell (p := ⟨g, off + k * 2 + 1, none⟩) hg).trans hv, h⟩)
      have hki : (k : Int) < (x.length : Int) := by omega
      clear ha hv hrv hc hTs HSN
      go_wp2_with fail
      go_region_held3 (fun y => y.cell? ⟨w.heap.size, 0, none⟩ = some (.string m) ∧ y.cell? ⟨w.heap.size, 1, none⟩ = some (.slice (some ⟨g, off, none⟩) x.length cap) ∧ y.cell? ⟨g, off + k * 2, none⟩ = some (.string (x[k]'hlt).1) ∧ y.cell? ⟨g, off + k * 2 + 1, none⟩ = some (.slice vp (x[k]'hlt).2.length vc) ∧ Below X.heap.size X y)
        ((go_split_ands; refine HSS.out _ ?_; repeat (first | with_reducible assumption | with_reducible exact Below.refl _ _ | with_reducible refine Below.drew ?_)))
        ((go_at_call 25; go_split_ands; refine (l04Seg_any m (x[k]'hlt).1 _ (x[k]'hlt).2 _ hm HOK.out (Lasts.go (B := 0) (Same.of (HB.out.trans (Below.mono (by assumption) HB.out.size))) HUK.out)).mono ?_; rintro e w3 ⟨rfl, hb3⟩; have hB3 : Below X.heap.size X w3 := Below.trans (by assumption) (hb3.mono (Below.size (by assumption))); clear hb3))
      all_goals
        have HB3 := hide (HB.out.trans (hB3.mono HB.out.size))
        have HR3 := hide (HRw.out.below hB3 HRw.out.lt)
        clear hB3
        go_wp2
        go_roundw
        case rel => exact ⟨_, k + 1, _, rfl, by omega, by go_num, rfl, HNX, HB3, HR3⟩
        case measure => simp [intOf]; omega
    · have e1 : x.take k = x := List.take_of_length_le (by omega)
      have HE : Hid (T = ⟨(wholeT m x).toArray⟩) := by rw [e1] at HT; exact HT
      go_wp2
      go_ret
      exact ⟨ret_str HE.out, HB.out⟩

end Go.Proofs.YtolgjdnhhbbebaaGreatDoor
/- The text of a File, of the model. -/
namespace Go.Proofs.YtolgjdnhhbbebaaGreatDoor
open Go.RowKit
/-- A number below 100, written out. -/
def nbL (n : Nat) : List UInt8 := if n = 0 then [48] else digs n
theorem nbL_len (n : Nat) (h : n < 100) : (nbL n).length ≤ 2 := by
  unfold nbL
  split
  · simp
  · exact digs_len n h
def hdL (h : List UInt8) (n : ByteArray) : List UInt8 := h ++ [124, 94, 126, 92, 38] ++ [124] ++ n.data.toList ++ [13]
def ftL (h : List UInt8) (n : Nat) : List UInt8 := h ++ nbL n ++ [13]
def msgsL (ms : List Msg) : List UInt8 := ms.flatMap fun m => wholeT m.1 m.2
def batL (b : Bat) : List UInt8 := hdL [66, 72, 83] b.1 ++ msgsL b.2 ++ ftL [66, 84, 83, 124] b.2.length
def batsL (xs : List Bat) : List UInt8 := xs.flatMap batL
def filL (n : ByteArray) (xs : List Bat) : List UInt8 := hdL [70, 72, 83] n ++ batsL xs ++ ftL [70, 84, 83, 124] xs.length
def filT (n : ByteArray) (xs : List Bat) : ByteArray := if filB n xs = true ∧ (filL n xs).length ≤ 8000 then ⟨(filL n xs).toArray⟩ else ⟨#[]⟩
theorem filT_no {n : ByteArray} {xs : List Bat} (h : filB n xs = false) : filT n xs = ⟨#[]⟩ := by simp [filT, h]
theorem filT_long {n : ByteArray} {xs : List Bat} (h : 8000 < (filL n xs).length) : filT n xs = ⟨#[]⟩ := by
  unfold filT
  rw [if_neg]
  rintro ⟨_, h2⟩
  omega
theorem filT_yes {n : ByteArray} {xs : List Bat} (h : filB n xs = true) (h2 : (filL n xs).length ≤ 8000) : filT n xs = ⟨(filL n xs).toArray⟩ := by simp [filT, h, h2]
theorem msgsL_snoc (ms : List Msg) (k : Nat) (h : k < ms.length) : msgsL (ms.take (k + 1)) = msgsL (ms.take k) ++ wholeT ms[k].1 ms[k].2 := by
  unfold msgsL
  rw [List.take_succ_eq_append_getElem h, List.flatMap_append]
  simp
theorem batsL_snoc (xs : List Bat) (k : Nat) (h : k < xs.length) : batsL (xs.take (k + 1)) = batsL (xs.take k) ++ batL xs[k] := by
  unfold batsL
  rw [List.take_succ_eq_append_getElem h, List.flatMap_append]
  simp
theorem fmB_parts {m : Msg} (h : fmB m = true) : m.1.size = 5 ∧ m.1.size ≤ maxLen ∧ m.2.length ≤ 20 ∧ (∀ i (h : i < m.2.length), segB m.2[i].1 m.2[i].2 = true) ∧ msgB m.1 m.2 = true := by
  simp only [fmB, Bool.and_eq_true] at h
  obtain ⟨h1, h2, h3⟩ := msgB_parts h.1.2
  have := marksB_five h1
  exact ⟨this, by unfold maxLen; omega, h2, h3, h.1.2⟩
theorem batB_parts {b : Bat} (h : batB b = true) : b.1.size ≤ 20 ∧ b.2.length ≤ 30 ∧ ∀ i (h : i < b.2.length), fmB b.2[i] = true := by
  simp only [batB, idB, Bool.and_eq_true, decide_eq_true_eq] at h
  exact ⟨h.1.1.1.2, h.1.2, fun i hi => List.all_eq_true.1 h.2 _ (List.getElem_mem hi)⟩
theorem filB_parts {n : ByteArray} {xs : List Bat} (h : filB n xs = true) : n.size ≤ 20 ∧ xs.length ≤ 10 ∧ ∀ i (h : i < xs.length), batB xs[i] = true := by
  simp only [filB, idB, Bool.and_eq_true, decide_eq_true_eq] at h
  exact ⟨h.1.1.1.2, h.1.2, fun i hi => List.all_eq_true.1 h.2 _ (List.getElem_mem hi)⟩
theorem bytesZ_len (s : ByteArray) : s.data.toList.length = s.size := rfl
theorem hdL_len (h : List UInt8) (n : ByteArray) : (hdL h n).length = h.length + n.size + 7 := by
  simp only [hdL, List.length_append, bytesZ_len, List.length_cons, List.length_nil]; omega
theorem ftL_len (h : List UInt8) (n : Nat) (hn : n < 100) : (ftL h n).length ≤ h.length + 3 := by
  have := nbL_len n hn
  simp [ftL]; omega
theorem whole_len {m : Msg} (h : fmB m = true) : (wholeT m.1 m.2).length ≤ 28000020 := by
  obtain ⟨h1, _, h2, h3, _⟩ := fmB_parts h
  have := wholeT_takes m.1 m.2 h1 h2 h3 m.2.length
  rwa [List.take_length] at this
theorem msgsL_len : ∀ ms : List Msg, (∀ m ∈ ms, fmB m = true) → (msgsL ms).length ≤ ms.length * 28000020
  | [], _ => by simp [msgsL]
  | m :: r, h => by
    have i := msgsL_len r fun x hx => h x (List.mem_cons_of_mem _ hx)
    have e : msgsL (m :: r) = wholeT m.1 m.2 ++ msgsL r := by simp [msgsL]
    have := whole_len (h m List.mem_cons_self)
    rw [e, List.length_append, List.length_cons]
    omega
theorem msgsL_takes {b : Bat} (h : batB b = true) (k : Nat) : (msgsL (b.2.take k)).length ≤ 840000600 := by
  obtain ⟨_, hl, ha⟩ := batB_parts h
  have := msgsL_len (b.2.take k) fun m hm => by
    obtain ⟨i, hi, rfl⟩ := List.getElem_of_mem (List.mem_of_mem_take hm)
    exact ha i hi
  have h2 : (b.2.take k).length ≤ 30 := by rw [List.length_take]; omega
  have h3 := Nat.mul_le_mul_right 28000020 h2
  omega
theorem batL_len {b : Bat} (h : batB b = true) : (batL b).length ≤ 840001000 := by
  obtain ⟨hn, hl, _⟩ := batB_parts h
  have h1 := msgsL_takes h b.2.length
  rw [List.take_length] at h1
  have h2 := hdL_len [66, 72, 83] b.1
  have h3 := ftL_len [66, 84, 83, 124] b.2.length (by omega)
  simp only [batL, List.length_append]
  simp only [List.length_cons, List.length_nil] at h2 h3
  omega
theorem batsL_len : ∀ xs : List Bat, (∀ b ∈ xs, batB b = true) → (batsL xs).length ≤ xs.length * 840001000
  | [], _ => by simp [batsL]
  | b :: r, h => by
    have i := batsL_len r fun x hx => h x (List.mem_cons_of_mem _ hx)
    have e : batsL (b :: r) = batL b ++ batsL r := by simp [batsL]
    have := batL_len (h b List.mem_cons_self)
    rw [e, List.length_append, List.length_cons]
    omega
theorem batsL_takes {n : ByteArray} {xs : List Bat} (h : filB n xs = true) (k : Nat) : (batsL (xs.take k)).length ≤ 8400010000 := by
  obtain ⟨_, hl, ha⟩ := filB_parts h
  have := batsL_len (xs.take k) fun m hm => by
    obtain ⟨i, hi, rfl⟩ := List.getElem_of_mem (List.mem_of_mem_take hm)
    exact ha i hi
  have h2 : (xs.take k).length ≤ 10 := by rw [List.length_take]; omega
  have h3 := Nat.mul_le_mul_right 840001000 h2
  omega
set_option maxHeartbeats 2000000 in
theorem specNb_any (n : Nat) (w : World) (h1 : n < 100) :
    Calls Tryz.prog 13 #[.int .i64 (n : Int)] w fun e w' => e = .returned (.string ⟨(nbL n).toArray⟩) ∧ Below w.heap.size w w' := by
  by_cases h0 : n = 0
  · subst h0
    go_enter Tryz.func13, Tryz.ntmps13
    go_wp2
    go_ret
    exact ⟨rfl, Below.refl _ _⟩
  · have e : nbL n = digs n := by simp [nbL, h0]
    rw [e]
    exact l01Dec_any n w h0 h1
set_option maxHeartbeats 2000000 in
theorem l08Head_any (h : List UInt8) (w : World) (hl : h.length ≤ 3) :
    Calls Tryz.prog 11 #[.string ⟨h.toArray⟩] w fun e w' => e = .returned (.string ⟨(h ++ [124, 94, 126, 92, 38] ++ [124]).toArray⟩) ∧ w' = w := by
  have ad1 : ∀ w : World, (Op.stringOp .add ⟨h.toArray⟩ ⟨#[124, 94, 126, 92, 38]⟩).run Tryz.prog w = .ok (.string (⟨h.toArray⟩ ++ ⟨#[124, 94, 126, 92, 38]⟩)) w := fun w => run_string_add_sum w _ _ (by rw [bsize]; have : (⟨#[124, 94, 126, 92, 38]⟩ : ByteArray).size = 5 := rfl; omega)
  have ad2 : ∀ w : World, (Op.stringOp .add (⟨h.toArray⟩ ++ ⟨#[124, 94, 126, 92, 38]⟩) ⟨#[124]⟩).run Tryz.prog w = .ok (.string (⟨h.toArray⟩ ++ ⟨#[124, 94, 126, 92, 38]⟩ ++ ⟨#[124]⟩)) w := fun w => run_string_add_sum w _ _ (by rw [ByteArray.size_append, bsize]; have : (⟨#[124, 94, 126, 92, 38]⟩ : ByteArray).size = 5 := rfl; have : (⟨#[124]⟩ : ByteArray).size = 1 := rfl; omega)
  have HE := hide (show (⟨h.toArray⟩ : ByteArray) ++ ⟨#[124, 94, 126, 92, 38]⟩ ++ ⟨#[124]⟩ = ⟨(h ++ [124, 94, 126, 92, 38] ++ [124]).toArray⟩ by
    have e1 : (⟨#[124, 94, 126, 92, 38]⟩ : ByteArray) = ⟨[124, 94, 126, 92, 38].toArray⟩ := rfl
    have e2 : (⟨#[124]⟩ : ByteArray) = ⟨[124].toArray⟩ := rfl
    rw [e1, e2, bcat, bcat])
  go_enter Tryz.func11, Tryz.ntmps11
  go_wp2_with fail
  first
  | (go_quiet ((go_at_call 24; exact Calls.quiet_of_same (l08Marks_any _))))
  | (refine (l08Marks_any _).mono ?_; rintro e w1 ⟨rfl, rfl⟩)
  go_wp2
  go_ret
  exact ⟨ret_str HE.out, by first | rfl | trivial⟩
end Go.Proofs.YtolgjdnhhbbebaaGreatDoor
/- The program's text of a Message; the law of MessageText. -/
namespace Go.Proofs.YtolgjdnhhbbebaaGreatDoor
open Go.RowKit
theorem msgRow_kept {B : Nat} {w w' : World} {v : Value} {L : List UInt8} {g : Nat} {vs : List Value} (h : Buf 5 B w w' v L) (hr : Row w g 42 vs) : Row w' g 42 vs :=
  h.kept g _ hr (by simp) (fun _ _ e1 => by simp at e1)
theorem Buf.shape {e B : Nat} {w0 w : World} {v : Value} {L : List UInt8} (h : Buf e B w0 w v L) : ∃ p c, v = .slice p L.length c := by
  rcases h.own.2 with ⟨rfl, hn⟩ | ⟨g, cap, cur, rfl, _⟩
  · exact ⟨none, 0, by rw [hn]⟩
  · exact ⟨_, _, rfl⟩

set_option maxHeartbeats 8000000 in
set_option maxRecDepth 100000 in
theorem implMessageText_any (m : ByteArray) (u : Value) (x : List Seg) (w : World) (hm : m.size ≤ maxLen) (hn : wSegs x ≤ 1048576) (hr : RSegs 0 w u x) :
    Calls Tryz.prog 31 #[.agg #[.string m, u]] w fun e w' => e = .returned (.string (msgT m x)) ∧ Below w.heap.size w w' := by
  have HSZ := hide (fitsM_of hn)
  have HR := hide hr
  obtain ⟨p, cap, rfl, h1, h2, h4⟩ := hr
  have H4 := hide h4
  clear h4
  unfold maxLen at h2
  have HB0 := hide ((Below.refl w.heap.size w).alloc (Nat.le_refl _) (.cells #[.string m, .slice p x.length cap] 42))
  have HR0 := hide (HR.out.below HB0.out)
  have HRow0 := hide (row_new w [.string m, .slice p x.length cap] 42)
  clear HR
  go_enter Tryz.func31, Tryz.ntmps31
  go_wp2_with fail
  refine (implMessage_any m _ x _ hm HSZ.out HR0.out).mono ?_
  rintro e w1 ⟨rfl, hb1⟩
  have HB1 := hide (HB0.out.trans (hb1.mono (by simp)))
  have row1 := HRow0.out.below hb1 HRow0.out.lt
  have c1 : w1.cell? ⟨w.heap.size, 1, none⟩ = some (.slice p x.length cap) := row1.cell 1
  have b1 : w1.cell? ⟨w.heap.size, 0, none⟩ = some (.string m) := row1.cell 0
  have HRow1 := hide row1
  clear hb1 row1
  cases hp : msgB m x
  · go_wp2
    go_ret
    exact ⟨ret_str (msgT_no hp).symm, HB1.out⟩
  obtain ⟨hmk, hl, hok⟩ := msgB_parts hp
  have hm5 := marksB_five hmk
  have HOKS := hide hok
  clear hok hmk
  go_wp2_with fail
  go_loopw [3, 12] (fun v' i wr => ∃ (X : World) (k : Nat), X = wr ∧ k ≤ x.length ∧ i = .int .i64 k ∧ Hid (Buf 5 w1.heap.size w1 X v' (wholeT m (x.take k))) ∧ Hid ((wholeT m (x.take k)).length ≤ 8000)) (fun _ i _ => x.length - (intOf i).toNat)
  case atStart => exact ⟨_, 0, rfl, Nat.zero_le _, rfl, by rw [List.take_zero]; exact hide (Buf.nil _ (Nat.le_refl _)), by rw [List.take_zero]; exact (by simp [wholeT] : (wholeT m []).length ≤ 8000)⟩
  case round =>
    obtain ⟨X, k, rfl, hk, rfl, HBf, HL8⟩ := hrel
    by_cases hlt : k < x.length
    · obtain ⟨g, off, hpp, hg, _, hc⟩ := H4.out (by omega)
      subst hpp
      obtain ⟨ha, _, v, hv, hrv⟩ := hc k hlt
      have hXB : Below w.heap.size w X := HB1.out.trans (HBf.out.below.mono HB1.out.size)
      have hk0 := (hXB.cell (p := ⟨g, off + k * 2, none⟩) hg).trans ha
      have hk1 := (hXB.cell (p := ⟨g, off + k * 2 + 1, none⟩) hg).trans hv
      have HUV := hide (flds_under (hrv.below HB1.out))
      obtain ⟨vp, vc, rfl⟩ := hrv.isSlice
      have HX1 := hide (HBf.out.alloc (.cells #[.string (x[k]'hlt).1, .slice vp (x[k]'hlt).2.length vc] 62))
      have rowM := (msgRow_kept HBf.out HRow1.out).alloc (.cells #[.string (x[k]'hlt).1, .slice vp (x[k]'hlt).2.length vc] 62)
      have b2 : (X.alloc (.cells #[.string (x[k]'hlt).1, .slice vp (x[k]'hlt).2.length vc] 62)).cell? ⟨w.heap.size, 0, none⟩ = some (.string m) := rowM.cell 0
      have HOK := hide (HOKS.out k hlt)
      have HSN := hide (wholeT_snoc m x k hlt)
      have HSL := hide (segT_len (m := m) hm5 (HOKS.out k hlt))
      have HPR := hide (wholeT_pre m x (k + 1))
      clear ha hv hrv hc hXB rowM
      go_wp2_with fail
      refine (appSegment _ (wholeT m (x.take k)) w1.heap.size m (x[k]'hlt).1 _ (x[k]'hlt).2 _ hm5 HOK.out (by have := HL8.out; omega) HX1.out.size HX1.out.own (Under.go HX1.out.below HUV.out)).mono ?_
      rintro e w5 ⟨v5, rfl, hb5⟩
      obtain ⟨A1, hA1⟩ : ∃ A1, A1 = wholeT m (x.take k) ++ segT m (x[k]'hlt).1 (x[k]'hlt).2 := ⟨_, rfl⟩
      have HAN : Hid (wholeT m (x.take (k + 1)) = A1 ++ [13]) := by rw [HSN.out, hA1, List.append_assoc]; exact rfl
      have HAL := hide (show A1.length ≤ 1408000 by have h1 := HL8.out; have h2 := HSL.out; rw [hA1, List.length_append]; omega)
      rw [← hA1] at hb5
      have HB5 := hide (HX1.out.trans hb5)
      have HBs := hide ((Buf.start hb5.own hb5.size).alloc (.cells #[.int .u8 13] 5))
      have HC := hide (heap_alloc_new w5 (.cells #[.int .u8 13] 5))
      have HL3 := hide (show A1.length + [(13 : UInt8)].length ≤ 100000000 by have h1 := HAL.out; simp only [List.length_cons, List.length_nil]; omega)
      clear hb5 hA1 HSN hk0 hk1 b2
      go_wp2_with (at_builtin; refine wpList_buf (w0 := w5) rfl (.tmp 20) (.tmp 21) 63 rfl w1.heap.size 5 Tryz.underlying63 Tryz.infoByte v5 A1 rfl HBs.out w5.heap.size 1 [13] rfl rfl ⟨_, HC.out⟩ HL3.out ?_)
      intro v6 w6 hb6
      have HB6 : Hid (Buf 5 w1.heap.size w1 w6 v6 (wholeT m (x.take (k + 1)))) := by rw [HAN.out]; exact HB5.out.trans hb6
      obtain ⟨q6, c6, rfl⟩ := HB6.out.shape
      clear hb6
      by_cases h8 : (wholeT m (x.take (k + 1))).length ≤ 8000
      · have h8' : ¬ 8000 < (((wholeT m (x.take (k + 1))).length : Nat) : Int) := by omega
        have H8 := hide h8
        go_wp2
        go_roundw
        case rel => exact ⟨_, k + 1, rfl, by omega, by go_num, HB6, H8⟩
        case measure => simp [intOf]; omega
      · have h8' : 8000 < (((wholeT m (x.take (k + 1))).length : Nat) : Int) := by omega
        have HE := hide (msgT_long (m := m) (xs := x) (by have := HPR.out; omega))
        have HBE := hide (HB1.out.trans (HB6.out.below.mono HB1.out.size))
        go_wp2
        go_ret
        exact ⟨ret_str HE.out.symm, HBE.out⟩
    · have e1 : x.take k = x := List.take_of_length_le (by omega)
      rw [e1] at HBf HL8
      have HE := hide (msgT_yes hp HL8.out)
      have hcv := HBf.out.text (P := Tryz.prog) Tryz.underlying63 Tryz.underlying5 Tryz.underlying9
      have HBE := hide (HB1.out.trans (HBf.out.below.mono HB1.out.size))
      go_wp2
      go_ret
      exact ⟨ret_str HE.out.symm, HBE.out⟩

end Go.Proofs.YtolgjdnhhbbebaaGreatDoor
/- FileText of the model. -/
namespace Go.Proofs.YtolgjdnhhbbebaaGreatDoor
open Go.RowKit
theorem below_drewNF {B : Nat} {w w' : World} (h : Below B w w') (n : Nat) : Below B w (w'.drewN n) := ⟨h.os, h.tape, h.output, h.size, h.block⟩
theorem adds {P : Program} {a b c : ByteArray} (h : c = a ++ b) (hs : a.size + b.size ≤ 100000000000) : ∀ w : World, (Op.stringOp .add a b).run P w = .ok (.string c) w := fun w => by
  rw [h]
  exact run_string_add_sum w a b (by omega)
/-- The text as far as the batches ahead of k. -/
def preL (n : ByteArray) (x : List Bat) (k : Nat) : List UInt8 := hdL [70, 72, 83] n ++ batsL (x.take k)
theorem preL_len {n : ByteArray} {x : List Bat} (h : filB n x = true) (k : Nat) : (preL n x k).length ≤ 8400010100 := by
  have h1 := batsL_takes h k
  have h2 := hdL_len [70, 72, 83] n
  have h3 := (filB_parts h).1
  simp only [preL, List.length_append]
  simp only [List.length_cons, List.length_nil] at h2
  omega
/-- As far as the messages ahead of j of batch k. -/
def midL (n : ByteArray) (x : List Bat) (k : Nat) (b : Bat) (j : Nat) : List UInt8 := preL n x k ++ hdL [66, 72, 83] b.1 ++ msgsL (b.2.take j)
theorem midL_len {n : ByteArray} {x : List Bat} (h : filB n x = true) (k : Nat) {b : Bat} (hb : batB b = true) (j : Nat) : (midL n x k b j).length ≤ 9400010100 := by
  have h1 := preL_len h k
  have h2 := hdL_len [66, 72, 83] b.1
  have h3 := (batB_parts hb).1
  have h4 := msgsL_takes hb j
  simp only [midL, List.length_append]
  simp only [List.length_cons, List.length_nil] at h2
  omega
theorem preL_next (n : ByteArray) (x : List Bat) (k : Nat) (hk : k < x.length) : preL n x (k + 1) = midL n x k (x[k]'hk) (x[k]'hk).2.length ++ ftL [66, 84, 83, 124] (x[k]'hk).2.length := by
  simp only [preL, midL, batsL_snoc x k hk, batL, List.take_length, List.append_assoc]
theorem midL_next (n : ByteArray) (x : List Bat) (k : Nat) (b : Bat) (j : Nat) (hj : j < b.2.length) : midL n x k b (j + 1) = midL n x k b j ++ wholeT (b.2[j]'hj).1 (b.2[j]'hj).2 := by
  simp only [midL, msgsL_snoc b.2 j hj, List.append_assoc]
theorem preL_end (n : ByteArray) (x : List Bat) : preL n x x.length ++ ftL [70, 84, 83, 124] x.length = filL n x := by
  simp only [preL, filL, List.take_length]
theorem head_sizes (n : ByteArray) (T : ByteArray) (h1 : n.size ≤ 20) (h2 : T.size ≤ 9400010100) (c : List UInt8) (hc : c.length ≤ 3) :
    ∃ (H B1 B2 B3 : ByteArray), H = ⟨(c ++ [124, 94, 126, 92, 38] ++ [124]).toArray⟩ ∧ B1 = T ++ H ∧ B2 = B1 ++ n ∧ B3 = B2 ++ ⟨#[13]⟩ ∧ T.size + H.size ≤ 100000000000 ∧ B1.size + n.size ≤ 100000000000 ∧ B2.size + (⟨#[13]⟩ : ByteArray).size ≤ 100000000000 ∧ B3.data.toList = T.data.toList ++ hdL c n := by
  refine ⟨_, _, _, _, rfl, rfl, rfl, rfl, ?_, ?_, ?_, ?_⟩
  · simp only [bsize, List.length_append, List.length_cons, List.length_nil]; omega
  · simp only [ByteArray.size_append, bsize, List.length_append, List.length_cons, List.length_nil]; omega
  · have e13 : (⟨#[13]⟩ : ByteArray).size = 1 := rfl
    simp only [ByteArray.size_append, bsize, e13, List.length_append, List.length_cons, List.length_nil]; omega
  · simp [hdL]
theorem foot_sizes (T : ByteArray) (h2 : T.size ≤ 9400010100) (c : List UInt8) (hc : c.length ≤ 4) (m : Nat) (hm : m < 100) :
    ∃ (B1 B2 B3 : ByteArray), B1 = T ++ ⟨c.toArray⟩ ∧ B2 = B1 ++ ⟨(nbL m).toArray⟩ ∧ B3 = B2 ++ ⟨#[13]⟩ ∧ T.size + (⟨c.toArray⟩ : ByteArray).size ≤ 100000000000 ∧ B1.size + (⟨(nbL m).toArray⟩ : ByteArray).size ≤ 100000000000 ∧ B2.size + (⟨#[13]⟩ : ByteArray).size ≤ 100000000000 ∧ B3.data.toList = T.data.toList ++ ftL c m := by
  have := nbL_len m hm
  refine ⟨_, _, _, rfl, rfl, rfl, ?_, ?_, ?_, ?_⟩
  · simp only [bsize]; omega
  · simp only [ByteArray.size_append, bsize]; omega
  · have e13 : (⟨#[13]⟩ : ByteArray).size = 1 := rfl
    simp only [ByteArray.size_append, bsize, e13]; omega
  · simp [ftL]
set_option maxHeartbeats 16000000 in
set_option maxRecDepth 100000 in
theorem specFileText_any (n : ByteArray) (u : Value) (x : List Bat) (w : World) (hm : n.size ≤ maxLen) (hf : FitsF x) (hr : RBats 0 w u x) :
    Calls Tryz.prog 5 #[.agg #[.string n, u]] w fun e w' => e = .returned (.string (filT n x)) ∧ Below w.heap.size w w' := by
  have HX := hideF hr
  have HF := hideF hf
  have hl := hf.1
  obtain ⟨p, cap, rfl, h1, h2, h4⟩ := hr
  have H4 := hideF h4
  unfold maxLen at h2
  clear h4 hf
  have HB0 := hideF ((Below.refl w.heap.size w).alloc (Nat.le_refl _) (.cells #[.string n, .slice p x.length cap] 29))
  have HRow0 := hideF (row_new w [.string n, .slice p x.length cap] 29)
  have HXR := hideF (HX.out.below HB0.out)
  go_enter Tryz.func5, Tryz.ntmps5
  go_wp2_with fail
  refine (specFileRight_any n _ x _ hm HF.out HXR.out).mono ?_
  rintro e w1 ⟨rfl, hb1⟩
  have HB1 := hideF (HB0.out.trans (hb1.mono HB0.out.size))
  have HRow1 := hideF (HRow0.out.below hb1 HRow0.out.lt)
  clear hb1 HXR
  cases hq : filB n x
  · have HN := hideF (filT_no hq)
    clear hq
    go_wp2
    go_ret
    exact ⟨ret_str HN.out.symm, HB1.out⟩
  obtain ⟨hn20, hx10, hbat⟩ := filB_parts hq
  have HQ := hideF hq
  have HBAT := hideF hbat
  clear hq hbat
  have c0 : w1.cell? ⟨w.heap.size, 0, none⟩ = some (.string n) := HRow1.out.cell 0
  obtain ⟨H0, A1, A2, A3, q0, q1, q2, q3, s1, s2, s3, s4⟩ := head_sizes n ⟨#[]⟩ hn20 (by decide) [70, 72, 83] (by decide)
  have e1 : A1 = H0 := by rw [q1]; apply ByteArray.ext; simp
  have ad2 := adds (P := Tryz.prog) (show A2 = H0 ++ n by rw [q2, e1]) (by rw [← e1]; exact s2)
  have ad3 := adds (P := Tryz.prog) q3 s3
  have HA3 : Hid (A3 = ⟨(preL n x 0).toArray⟩) := of_bytes (by rw [s4]; simp [preL, batsL])
  have HH0 := hideF (fun y : World => by
    have := l08Head_any [70, 72, 83] y (by decide)
    rw [← q0] at this
    exact this)
  clear q0 q1 q2 q3 s1 s2 s3 s4 e1
  go_wp2_with fail
  go_quiet ((go_at_call 11; exact Calls.quiet_of_same (HH0.out _)))
  clear c0
  go_wp2_with fail
  have HB1d := HB1
  go_loopw [3, 4] (fun tv i wr => ∃ (X : World) (k : Nat) (T : ByteArray), X = wr ∧ k ≤ x.length ∧ i = .int .i64 k ∧ tv = .string T ∧ Hid (T = ⟨(preL n x k).toArray⟩) ∧ Hid (Row X w.heap.size 29 [.string n, .slice p x.length cap]) ∧ Hid (Below w.heap.size w X)) (fun _ i _ => x.length - (intOf i).toNat)
  case atStart => exact ⟨_, 0, _, rfl, Nat.zero_le _, rfl, rfl, HA3, by first | exact HRow1 | exact hideF (HRow1.out.below (below_drewNF (Below.refl _ _) _) HRow1.out.lt), by first | exact HB1 | exact hideF (below_drewNF HB1.out _)⟩
  case round =>
    obtain ⟨X, k, T, rfl, hk, rfl, rfl, HT, HRow, HB⟩ := hrel
    have c1 : X.cell? ⟨w.heap.size, 1, none⟩ = some (.slice p x.length cap) := HRow.out.cell 1
    have hTs : T.size ≤ 9400010100 := by have := preL_len HQ.out k; rw [HT.out, bsize]; omega
    by_cases hlt : k < x.length
    · obtain ⟨g, off, hp, hg, _, hc⟩ := H4.out (by omega)
      subst hp
      obtain ⟨ha, hns, v, hv, hrv⟩ := hc k hlt
      have hk0 := (HB.out.cell (p := ⟨g, off + k * 2, none⟩) hg).trans ha
      have hk1 := (HB.out.cell (p := ⟨g, off + k * 2 + 1, none⟩) hg).trans hv
      obtain ⟨vp, vc, rfl⟩ := hrv.isSlice
      have HNX := hideF (preL_next n x k hlt)
      have hbt := HBAT.out k hlt
      have hfb : FitsB (x[k]'hlt).2 := HF.out.2 k hlt
      obtain ⟨bat, hbat⟩ : ∃ bat, bat = x[k]'hlt := ⟨_, rfl⟩
      rw [← hbat] at hk0 hk1 hns hrv hbt hfb HNX
      obtain ⟨hb20, hb30, hms⟩ := batB_parts hbt
      have HMS := hideF hms
      have HBT := hideF hbt
      have hXa : Below w.heap.size w (X.alloc (.cells #[.string bat.1, .slice vp bat.2.length vc] 38)) := HB.out.alloc HB.out.size _
      have HXA := hideF hXa
      have HRV := hideF hrv
      have HRowX := hideF (HRow.out.alloc (.cells #[.string bat.1, .slice vp bat.2.length vc] 38))
      have HRowB := hideF (row_new X [.string bat.1, .slice vp bat.2.length vc] 38)
      have HXB := hideF HB.out.size
      obtain ⟨H0b, B1, B2, B3, q0, q1, q2, q3, s1, s2, s3, s4⟩ := head_sizes bat.1 T hb20 hTs [66, 72, 83] (by decide)
      have bd1 := adds (P := Tryz.prog) q1 s1
      have bd2 := adds (P := Tryz.prog) q2 s2
      have bd3 := adds (P := Tryz.prog) q3 s3
      have HB3e : Hid (B3 = ⟨(midL n x k bat 0).toArray⟩) := of_bytes (by rw [s4, HT.out]; simp [midL, msgsL])
      have HHb := hideF (fun y : World => by
        have := l08Head_any [66, 72, 83] y (by decide)
        rw [← q0] at this
        exact this)
      clear q0 q1 q2 q3 s1 s2 s3 s4 hv hrv hc ha hXa hbat hms hbt
      go_wp2_with fail
      generalize hY : X.alloc (.cells #[.string bat.1, .slice vp bat.2.length vc] 38) = Y at *
      generalize hB : X.heap.size = GB at *
      clear hY hB hk0 hk1 c1
      have d0 : Y.cell? ⟨GB, 0, none⟩ = some (.string bat.1) := HRowB.out.cell 0
      go_quiet ((go_at_call 11; exact Calls.quiet_of_same (HHb.out _)))
      clear d0
      go_wp2_with fail
      clear bd1 bd2 bd3
      go_loopw [3, 6] (fun tv i wr => ∃ (Z : World) (j : Nat) (T : ByteArray), Z = wr ∧ j ≤ bat.2.length ∧ i = .int .i64 j ∧ tv = .string T ∧ Hid (T = ⟨(midL n x k bat j).toArray⟩) ∧ Hid (Row Z w.heap.size 29 [.string n, .slice (some ⟨g, off, none⟩) x.length cap]) ∧ Hid (Row Z GB 38 [.string bat.1, .slice vp bat.2.length vc]) ∧ Hid (Below w.heap.size w Z)) (fun _ i _ => bat.2.length - (intOf i).toNat)
      case atStart => exact ⟨_, 0, _, rfl, Nat.zero_le _, rfl, rfl, HB3e, by first | exact HRowX | exact hideF (HRowX.out.below (below_drewNF (Below.refl _ _) _) HRowX.out.lt), by first | exact HRowB | exact hideF (HRowB.out.below (below_drewNF (Below.refl _ _) _) HRowB.out.lt), by first | exact HXA | exact hideF (below_drewNF HXA.out _)⟩
      case round =>
        obtain ⟨Z, j, T2, rfl, hj, rfl, rfl, HT2, HRowZ, HRowZB, HBZ⟩ := hrel
        have d1 : Z.cell? ⟨GB, 1, none⟩ = some (.slice vp bat.2.length vc) := HRowZB.out.cell 1
        have HRZ := hideF (HRV.out.below HBZ.out)
        have hT2s : T2.size ≤ 9400010100 := by have := midL_len HQ.out k HBT.out j; rw [HT2.out, bsize]; omega
        by_cases hjl : j < bat.2.length
        · obtain ⟨q, qc, he, _, _, hq4⟩ := HRZ.out
          cases he
          obtain ⟨g2, off2, rfl, hg2, _, hc2⟩ := hq4 (by omega)
          obtain ⟨ha2, hns2, v2, hv2, hrv2⟩ := hc2 j hjl
          obtain ⟨vp2, vc2, rfl⟩ := hrv2.isSlice
          have HRV2 := hideF hrv2
          obtain ⟨hm5, _, hm20, hmok, _⟩ := fmB_parts (HMS.out j hjl)
          have HMOK := hideF hmok
          have hwl := whole_len (HMS.out j hjl)
          obtain ⟨W2, hW2⟩ : ∃ W2 : ByteArray, W2 = ⟨(wholeT (bat.2[j]'hjl).1 (bat.2[j]'hjl).2).toArray⟩ := ⟨_, rfl⟩
          have hW2s : W2.size ≤ 28000020 := by rw [hW2, bsize]; exact hwl
          obtain ⟨C1, hC1⟩ : ∃ C1, C1 = T2 ++ W2 := ⟨_, rfl⟩
          have cd1 := adds (P := Tryz.prog) hC1 (by omega)
          have HC1 : Hid (C1 = ⟨(midL n x k bat (j + 1)).toArray⟩) := of_bytes (by rw [hC1, HT2.out, hW2, midL_next n x k bat j hjl]; simp)
          have HCW := hideF (fun (y : World) (hr : RSegs 0 y (.slice vp2 (bat.2[j]'hjl).2.length vc2) (bat.2[j]'hjl).2) => by
            have := l04Whole_any (bat.2[j]'hjl).1 _ (bat.2[j]'hjl).2 y hm5 hm20 HMOK.out hr
            rw [← hW2] at this
            exact this)
          clear hc2 hrv2 hq4 hns2 hmok hwl hW2 hC1
          go_wp2_with fail
          refine (HCW.out _ HRV2.out).mono ?_
          rintro e w3 ⟨rfl, hb3⟩
          have HB3 := hideF (HBZ.out.trans (hb3.mono HBZ.out.size))
          have HRow3 := hideF (HRowZ.out.below hb3 HRowZ.out.lt)
          have HRowB3 := hideF (HRowZB.out.below hb3 HRowZB.out.lt)
          clear hb3 ha2 hv2 d1
          go_wp2
          go_roundw
          case rel => exact ⟨_, j + 1, _, rfl, by omega, by go_num, rfl, HC1, HRow3, HRowB3, HB3⟩
          case measure => simp [intOf]; omega
        · obtain ⟨D1, D2, D3, q1, q2, q3, s1, s2, s3, s4⟩ := foot_sizes T2 hT2s [66, 84, 83, 124] (by decide) bat.2.length (by omega)
          obtain ⟨NB, hNB⟩ : ∃ NB : ByteArray, NB = ⟨(nbL bat.2.length).toArray⟩ := ⟨_, rfl⟩
          rw [← hNB] at q2 s2
          have dd1 := adds (P := Tryz.prog) q1 s1
          have dd2 := adds (P := Tryz.prog) q2 s2
          have dd3 := adds (P := Tryz.prog) q3 s3
          have hje : j = bat.2.length := by omega
          have HD3 : Hid (D3 = ⟨(preL n x (k + 1)).toArray⟩) := of_bytes (by rw [s4, HT2.out, HNX.out, hje])
          have HCN := hideF (fun (y : World) => by
            have := specNb_any bat.2.length y (by omega)
            rw [← hNB] at this
            exact this)
          clear q1 q2 q3 s1 s2 s3 s4 hNB hje
          go_wp2_with fail
          refine (HCN.out _).mono ?_
          rintro e w3 ⟨rfl, hb3⟩
          have HB3 := hideF (HBZ.out.trans (hb3.mono HBZ.out.size))
          have HRow3 := hideF (HRowZ.out.below hb3 HRowZ.out.lt)
          clear hb3 d1
          go_wp2
          go_roundw
          case rel => exact ⟨_, k + 1, _, rfl, by omega, by go_num, rfl, HD3, HRow3, HB3⟩
          case measure => simp [intOf]; omega
    · obtain ⟨D1, D2, D3, q1, q2, q3, s1, s2, s3, s4⟩ := foot_sizes T hTs [70, 84, 83, 124] (by decide) x.length (by omega)
      obtain ⟨NB, hNB⟩ : ∃ NB : ByteArray, NB = ⟨(nbL x.length).toArray⟩ := ⟨_, rfl⟩
      rw [← hNB] at q2 s2
      have dd1 := adds (P := Tryz.prog) q1 s1
      have dd2 := adds (P := Tryz.prog) q2 s2
      have dd3 := adds (P := Tryz.prog) q3 s3
      have hje : k = x.length := by omega
      have HD3 : Hid (D3 = ⟨(filL n x).toArray⟩) := of_bytes (by rw [s4, HT.out, ← preL_end n x, hje])
      have HCN := hideF (fun (y : World) => by
        have := specNb_any x.length y (by omega)
        rw [← hNB] at this
        exact this)
      clear q1 q2 q3 s1 s2 s3 s4 hNB hje
      go_wp2_with fail
      refine (HCN.out _).mono ?_
      rintro e w3 ⟨rfl, hb3⟩
      have HB3 := hideF (HB.out.trans (hb3.mono HB.out.size))
      clear hb3
      by_cases hbig : 8000 < (D3.size : Int)
      · have HN := hideF (show filT n x = ⟨#[]⟩ from filT_long (by rw [HD3.out, bsize] at hbig; omega))
        go_wp2
        go_ret
        exact ⟨ret_str HN.out.symm, HB3.out⟩
      · have HN := hideF (show filT n x = D3 by rw [HD3.out]; exact filT_yes HQ.out (by rw [HD3.out, bsize] at hbig; omega))
        go_wp2
        go_ret
        exact ⟨ret_str HN.out.symm, HB3.out⟩
end Go.Proofs.YtolgjdnhhbbebaaGreatDoor
