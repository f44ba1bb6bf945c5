/- The text of a Segment: of the program and of the model. -/
import Derived.Test.YtckcfjibiidafaaGreatXG31FSegR
import Derived.Test.YtckcfjibiidafaaGreatXG28OSpecR
import Derived.Laws.Concat
namespace Go.Proofs.YtckcfjibiidafaaGreat
open Go.RowKit

/-- What stands of a Segment's Fields: ahead of each the first mark. -/
def fldsT (m : ByteArray) (fs : Flds) : List UInt8 := fs.flatMap fun f => bAt m 0 :: fldT m f
def headT (m n : ByteArray) : List UInt8 := n.data.toList ++ (if n = msh then m.data.toList else [])
def segT (m n : ByteArray) (fs : Flds) : List UInt8 := headT m n ++ fldsT m fs
theorem fldsT_snoc (m : ByteArray) (fs : Flds) (k : Nat) (h : k < fs.length) : fldsT m (fs.take (k + 1)) = fldsT m (fs.take k) ++ (bAt m 0 :: fldT m fs[k]) := by
  unfold fldsT
  rw [List.take_succ_eq_append_getElem h, List.flatMap_append]
  simp
theorem fldsT_len (m : ByteArray) : ∀ fs : Flds, (∀ i (h : i < fs.length), fldB fs[i] = true) → (fldsT m fs).length ≤ fs.length * 45306
  | [], _ => by simp [fldsT]
  | f :: r, h => by
    have h1 := fldsT_len m r (fun i hi => h (i + 1) (by simpa using hi))
    have h2 := fldT_len (m := m) (h 0 (by simp))
    simp only [fldsT, List.flatMap_cons, List.length_append, List.length_cons] at h1 h2 ⊢
    simp only [List.getElem_cons_zero] at h2
    omega
theorem headT_len (m n : ByteArray) (hm : m.size = 5) (hn : n.size = 3) : (headT m n).length ≤ 8 := by
  unfold headT
  split <;> simp [hm, hn]
theorem segB_parts {n : ByteArray} {fs : Flds} (h : segB n fs = true) : n.size = 3 ∧ (∀ i (hi : i < fs.length), fldB fs[i] = true) ∧ fs.length ≤ 30 := by
  simp only [segB, Bool.and_eq_true] at h
  refine ⟨?_, (right_mem h.1.2).1, (right_mem h.1.2).2⟩
  have := h.1.1
  simp only [name3, Bool.and_eq_true, decide_eq_true_eq] at this
  exact this.1
theorem take_fldB {fs : Flds} (h : ∀ i (hi : i < fs.length), fldB fs[i] = true) (k : Nat) : ∀ i (hi : i < (fs.take k).length), fldB (fs.take k)[i] = true := by
  intro i hi
  rw [List.getElem_take]
  exact h i (by rw [List.length_take] at hi; omega)

theorem Row.drewF {w : World} {g : Nat} {T : TypeId} {cs : List Value} (h : Row w g T cs) : Row w.drew g T cs := h
theorem segRow_kept {B : Nat} {w w' : World} {v : Value} {L : List UInt8} {g : Nat} {vs : List Value} (h : Buf 5 B w w' v L) (hr : Row w g 41 vs) : Row w' g 41 vs :=
  h.kept g _ hr (by simp) (fun _ _ e1 => by simp at e1)
abbrev UFlds (U : Nat) : World → Value → Flds → Prop := RU U (UFld U)
theorem flds_under {w : World} {v : Value} {x : Flds} (h : RFlds 0 w v x) : UFlds w.heap.size w v x := RL.ru h fun _ _ h => fld_under h

set_option maxHeartbeats 8000000 in
set_option maxRecDepth 100000 in
theorem appSegment (v : Value) (L : List UInt8) (B : Nat) (m n : ByteArray) (u : Value) (x : Flds) (w : World) (hm : m.size = 5) (hx : segB n x = true) (hL : L.length ≤ 40000000) (hB : B ≤ w.heap.size) (ho : w.ownsRow B 5 1 v L.length (u8s L)) (hr : UFlds B w u x) :
    Calls Tryz.prog 53 #[v, .string m, .agg #[.string n, u]] w fun e w' => ∃ v', e = .returned v' ∧ Buf 5 B w w' v' (L ++ segT m n x) := by
  obtain ⟨hn3, hxe, hxl⟩ := segB_parts hx
  have HXE := hide hxe
  have HHL := hide (headT_len m n hm hn3)
  have HFL : Hid (∀ k, (fldsT m (x.take k)).length ≤ 30 * 45306) := fun k => by
    have h1 := fldsT_len m (x.take k) (take_fldB hxe k)
    have h2 : (x.take k).length ≤ 30 := by rw [List.length_take]; omega
    exact Nat.le_trans h1 (Nat.mul_le_mul h2 (Nat.le_refl _))
  have hm0 : 0 < m.size := by omega
  have HM0 := hide (bAt_get m 0 hm0)
  obtain ⟨p, cap, rfl, h1, h2, h4⟩ := hr
  have H4 := hide h4
  clear h4 hxe
  unfold maxLen at h2
  have HRow := hide (row_new w [.string n, .slice p x.length cap] 41)
  have HB0 := hide ((Buf.start ho hB).alloc (.cells #[.string n, .slice p x.length cap] 41))
  have HBs := hide (Buf.start HB0.out.own HB0.out.size)
  have HL1 := hide (show L.length + n.size ≤ 100000000 by omega)
  clear ho
  have e0 : (w.alloc (.cells #[.string n, .slice p x.length cap] 41)).cell? ⟨w.heap.size, 0, none⟩ = some (.string n) := HRow.out.cell 0
  go_enter Tryz.func53, Tryz.ntmps53
  go_wp2_with (at_builtin; refine wpList_bufS (w0 := w.alloc (.cells #[.string n, .slice p x.length cap] 41)) rfl (.tmp 9) (.tmp 11) 74 9 rfl B 5 Tryz.underlying74 Tryz.underlying9 Tryz.infoByte _ L rfl HBs.out n rfl HL1.out ?_)
  intro v1 w1 hb1
  have HB1 := hide (HB0.out.trans hb1)
  have HR1 := hide (segRow_kept hb1 HRow.out)
  have c0 : w1.cell? ⟨w.heap.size, 0, none⟩ = some (.string n) := HR1.out.cell 0
  have c1 : w1.cell? ⟨w.heap.size, 1, none⟩ = some (.slice p x.length cap) := HR1.out.cell 1
  clear hb1 HB0 HBs e0
  by_cases hM : n = msh
  · have hh : headT m n = n.data.toList ++ m.data.toList := by unfold headT; rw [if_pos hM]
    have hc0 : w1.cell? ⟨w.heap.size, 0, none⟩ = some (.string ⟨#[77, 83, 72]⟩) := by rw [c0, hM]; rfl
    have HBs1 := hide (Buf.start HB1.out.own HB1.out.size)
    have HL2 := hide (show (L ++ n.data.toList).length + m.size ≤ 100000000 by rw [List.length_append, bytes_len]; omega)
    have HHH := hide hh
    clear c0 hM hh
    go_wp2_with (at_builtin; refine wpList_bufS (w0 := w1) rfl (.tmp 16) (.tmp 17) 74 9 rfl B 5 Tryz.underlying74 Tryz.underlying9 Tryz.infoByte _ (L ++ n.data.toList) rfl HBs1.out m rfl HL2.out ?_)
    intro v2 w2 hb2
    obtain ⟨A0, hA0⟩ : ∃ A0, A0 = L ++ headT m n := ⟨_, rfl⟩
    have HAE := hide hA0
    have HB2 : Hid (Buf 5 B w w2 v2 A0) := by rw [hA0, HHH.out]; exact HB1.out.trans hb2
    have HA0 := hide (show A0.length ≤ 40000008 by have := HHL.out; rw [hA0, List.length_append]; omega)
    have d1 : w2.cell? ⟨w.heap.size, 1, none⟩ = some (.slice p x.length cap) := (segRow_kept hb2 HR1.out).cell 1
    clear hb2 hA0 HBs1 HB1 HR1 c1 hc0
    go_wp2_with fail
    go_loopw [0, 22] (fun v' i wr => ∃ (X : World) (k : Nat), X = wr ∧ k ≤ x.length ∧ i = .int .i64 k ∧ Hid (Buf 5 B w X v' (A0 ++ fldsT m (x.take k)))) (fun _ i _ => x.length - (intOf i).toNat)
    case atStart => exact ⟨_, 0, rfl, Nat.zero_le _, rfl, by rw [List.take_zero]; simpa [fldsT] using HB2⟩
    case round =>
      obtain ⟨X, k, rfl, hk, rfl, HBf⟩ := hrel
      by_cases hlt : k < x.length
      · obtain ⟨g, off, hp, hg, hc⟩ := H4.out (by omega)
        subst hp
        obtain ⟨uk, huk, hruk⟩ := hc k hlt
        have HUK := hide hruk
        obtain ⟨vp, vc, rfl⟩ := hruk.isSlice
        have hck : X.cell? ⟨g, off + k, none⟩ = some (.slice vp (x[k]'hlt).length vc) := by rw [HBf.out.below.cell (p := ⟨g, off + k, none⟩) hg]; exact huk
        have HSN := hide (fldsT_snoc m x k hlt)
        have HFK := hide (fldT_len (m := m) (HXE.out k hlt))
        have HOK := hide (HXE.out k hlt)
        have HX1 := hide (HBf.out.alloc (.cells #[.slice vp (x[k]'hlt).length vc] 54))
        have HRX := hide (row_new X [.slice vp (x[k]'hlt).length vc] 54)
        have HLA := hide (show (A0 ++ fldsT m (x.take k)).length ≤ 41400000 by have h1 := HFL.out k; have h2 := HA0.out; rw [List.length_append]; omega)
        clear huk hruk hc
        obtain ⟨A1, hA1⟩ : ∃ A1, A1 = A0 ++ fldsT m (x.take k) := ⟨_, rfl⟩
        have HSN2 : Hid (A0 ++ fldsT m (x.take (k + 1)) = A1 ++ [bAt m 0] ++ fldT m (x[k]'hlt)) := by rw [hA1, HSN.out]; exact (by simp : A0 ++ (fldsT m (x.take k) ++ (bAt m 0 :: fldT m (x[k]'hlt))) = A0 ++ fldsT m (x.take k) ++ [bAt m 0] ++ fldT m (x[k]'hlt))
        rw [← hA1] at HX1 HLA
        clear hA1 HSN
        go_wp2_with fail
        generalize hX1 : X.alloc (.cells #[.slice vp (x[k]'hlt).length vc] 54) = X1 at *
        generalize hG : X.heap.size = G at *
        clear hX1 hG
        have HXs := hide (Buf.start HX1.out.own HX1.out.size)
        have HL3 := hide (show A1.length + [m[0]'hm0].length ≤ 100000000 by have h1 := HLA.out; simp only [List.length_cons, List.length_nil]; omega)
        have HSS := hide (show ∀ y, Row y G 54 [.slice vp (x[k]'hlt).length vc] → y.cell? ⟨G, 0, none⟩ = some (.slice vp (x[k]'hlt).length vc) ∧ Row y G 54 [.slice vp (x[k]'hlt).length vc] from fun y h => ⟨h.cell 0, h⟩)
        go_region_held3 (fun y => y.cell? ⟨G, 0, none⟩ = some (.slice vp (x[k]'hlt).length vc) ∧ Row y G 54 [.slice vp (x[k]'hlt).length vc])
          ((go_split_ands; refine HSS.out _ ?_; repeat (first | with_reducible assumption | with_reducible exact HRX.out | with_reducible refine Row.drewF ?_ | with_reducible refine Row.alloc ?_ _)))
          ((first
            | (refine step_buf (w0 := X1) ?_ (.tmp 26) (.tmp 29) 74 ?_ B 5 Tryz.underlying74 Tryz.infoByte u0 A1 ?_ ?_ X1.heap.size 1 [m[0]'hm0] ?_ ?_ ?_ ?_ ?_; rfl; rfl; rfl; (repeat (first | with_reducible exact HXs.out | with_reducible refine Buf.drew ?_ | with_reducible refine Buf.alloc ?_ _)); rfl; rfl; (first | exact ⟨_, alloc_drew_new _ _⟩ | exact ⟨_, heap_alloc_new _ _⟩); exact HL3.out; intro v5 w5 hb5; have HB5 := hide hb5; have hrow5 : Row w5 G 54 [.slice vp (x[k]'hlt).length vc] := fieldRow_kept hb5 HRX.out; clear hb5)
            | (go_at_call 69; go_split_ands; refine (appField v5 (A1 ++ [m[0]'hm0]) B m (.iface 54 (.agg #[.slice vp (x[k]'hlt).length vc])) (x[k]'hlt) _ hm HOK.out (by have h1 := HLA.out; have h2 := HFK.out; rw [List.length_append]; simp only [List.length_cons, List.length_nil]; omega) (by first | exact HB5.out.size | exact HB5.out.drew.size) (by first | exact HB5.out.own | exact HB5.out.drew.own) ⟨_, rfl, Under.go (by first | exact (HX1.out.trans HB5.out).below | exact (HX1.out.trans HB5.out.drew).below) HUK.out⟩).mono ?_; rintro e w6 ⟨v6, rfl, hb6⟩; have HB6 := hide hb6; have hrow6 : Row w6 G 54 [.slice vp (x[k]'hlt).length vc] := fieldRow_kept hb6 (by assumption); clear hb6)))
        all_goals
          have HB7 : Hid (Buf 5 B w w6 v6 (A1 ++ [m[0]'hm0] ++ fldT m (x[k]'hlt))) := HX1.out.trans (Buf.trans (by first | exact HB5.out | exact HB5.out.drew) HB6.out)
          rw [← HM0.out, ← HSN2.out] at HB7
          clear HB5 HB6 hrow6
          go_wp2
          go_roundw
          case rel => exact ⟨_, k + 1, rfl, by omega, by go_num, HB7⟩
          case measure => simp [intOf]; omega
      · have e1 : x.take k = x := List.take_of_length_le (by omega)
        have HE : Hid (Buf 5 B w X u0 (L ++ segT m n x)) := by
          rw [e1, HAE.out] at HBf
          have := HBf.out
          unfold segT
          rw [← List.append_assoc]
          exact this
        go_wp2
        go_ret
        exact ⟨_, rfl, HE.out⟩
  · have hh : headT m n = n.data.toList := by unfold headT; rw [if_neg hM, List.append_nil]
    have hne0 := toList_neF (show n ≠ (⟨#[77, 83, 72]⟩ : ByteArray) from hM)
    have hne : (n.toList == [77, 83, 72]) = false := by simpa using hne0
    obtain ⟨A0, hA0⟩ : ∃ A0, A0 = L ++ headT m n := ⟨_, rfl⟩
    have HAE := hide hA0
    have HB2 : Hid (Buf 5 B w w1 v1 A0) := by rw [hA0, hh]; exact HB1
    have HA0 := hide (show A0.length ≤ 40000008 by have := HHL.out; rw [hA0, List.length_append]; omega)
    clear hne0 hM hA0 hh HB1
    go_wp2_with fail
    go_loopw [0, 22] (fun v' i wr => ∃ (X : World) (k : Nat), X = wr ∧ k ≤ x.length ∧ i = .int .i64 k ∧ Hid (Buf 5 B w X v' (A0 ++ fldsT m (x.take k)))) (fun _ i _ => x.length - (intOf i).toNat)
    case atStart => exact ⟨_, 0, rfl, Nat.zero_le _, rfl, by rw [List.take_zero]; simpa [fldsT] using HB2⟩
    case round =>
      obtain ⟨X, k, rfl, hk, rfl, HBf⟩ := hrel
      by_cases hlt : k < x.length
      · obtain ⟨g, off, hp, hg, hc⟩ := H4.out (by omega)
        subst hp
        obtain ⟨uk, huk, hruk⟩ := hc k hlt
        have HUK := hide hruk
        obtain ⟨vp, vc, rfl⟩ := hruk.isSlice
        have hck : X.cell? ⟨g, off + k, none⟩ = some (.slice vp (x[k]'hlt).length vc) := by rw [HBf.out.below.cell (p := ⟨g, off + k, none⟩) hg]; exact huk
        have HSN := hide (fldsT_snoc m x k hlt)
        have HFK := hide (fldT_len (m := m) (HXE.out k hlt))
        have HOK := hide (HXE.out k hlt)
        have HX1 := hide (HBf.out.alloc (.cells #[.slice vp (x[k]'hlt).length vc] 54))
        have HRX := hide (row_new X [.slice vp (x[k]'hlt).length vc] 54)
        have HLA := hide (show (A0 ++ fldsT m (x.take k)).length ≤ 41400000 by have h1 := HFL.out k; have h2 := HA0.out; rw [List.length_append]; omega)
        clear huk hruk hc
        obtain ⟨A1, hA1⟩ : ∃ A1, A1 = A0 ++ fldsT m (x.take k) := ⟨_, rfl⟩
        have HSN2 : Hid (A0 ++ fldsT m (x.take (k + 1)) = A1 ++ [bAt m 0] ++ fldT m (x[k]'hlt)) := by rw [hA1, HSN.out]; exact (by simp : A0 ++ (fldsT m (x.take k) ++ (bAt m 0 :: fldT m (x[k]'hlt))) = A0 ++ fldsT m (x.take k) ++ [bAt m 0] ++ fldT m (x[k]'hlt))
        rw [← hA1] at HX1 HLA
        clear hA1 HSN
        go_wp2_with fail
        generalize hX1 : X.alloc (.cells #[.slice vp (x[k]'hlt).length vc] 54) = X1 at *
        generalize hG : X.heap.size = G at *
        clear hX1 hG
        have HXs := hide (Buf.start HX1.out.own HX1.out.size)
        have HL3 := hide (show A1.length + [m[0]'hm0].length ≤ 100000000 by have h1 := HLA.out; simp only [List.length_cons, List.length_nil]; omega)
        have HSS := hide (show ∀ y, Row y G 54 [.slice vp (x[k]'hlt).length vc] → y.cell? ⟨G, 0, none⟩ = some (.slice vp (x[k]'hlt).length vc) ∧ Row y G 54 [.slice vp (x[k]'hlt).length vc] from fun y h => ⟨h.cell 0, h⟩)
        go_region_held3 (fun y => y.cell? ⟨G, 0, none⟩ = some (.slice vp (x[k]'hlt).length vc) ∧ Row y G 54 [.slice vp (x[k]'hlt).length vc])
          ((go_split_ands; refine HSS.out _ ?_; repeat (first | with_reducible assumption | with_reducible exact HRX.out | with_reducible refine Row.drewF ?_ | with_reducible refine Row.alloc ?_ _)))
          ((first
            | (refine step_buf (w0 := X1) ?_ (.tmp 26) (.tmp 29) 74 ?_ B 5 Tryz.underlying74 Tryz.infoByte u0 A1 ?_ ?_ X1.heap.size 1 [m[0]'hm0] ?_ ?_ ?_ ?_ ?_; rfl; rfl; rfl; (repeat (first | with_reducible exact HXs.out | with_reducible refine Buf.drew ?_ | with_reducible refine Buf.alloc ?_ _)); rfl; rfl; (first | exact ⟨_, alloc_drew_new _ _⟩ | exact ⟨_, heap_alloc_new _ _⟩); exact HL3.out; intro v5 w5 hb5; have HB5 := hide hb5; have hrow5 : Row w5 G 54 [.slice vp (x[k]'hlt).length vc] := fieldRow_kept hb5 HRX.out; clear hb5)
            | (go_at_call 69; go_split_ands; refine (appField v5 (A1 ++ [m[0]'hm0]) B m (.iface 54 (.agg #[.slice vp (x[k]'hlt).length vc])) (x[k]'hlt) _ hm HOK.out (by have h1 := HLA.out; have h2 := HFK.out; rw [List.length_append]; simp only [List.length_cons, List.length_nil]; omega) (by first | exact HB5.out.size | exact HB5.out.drew.size) (by first | exact HB5.out.own | exact HB5.out.drew.own) ⟨_, rfl, Under.go (by first | exact (HX1.out.trans HB5.out).below | exact (HX1.out.trans HB5.out.drew).below) HUK.out⟩).mono ?_; rintro e w6 ⟨v6, rfl, hb6⟩; have HB6 := hide hb6; have hrow6 : Row w6 G 54 [.slice vp (x[k]'hlt).length vc] := fieldRow_kept hb6 (by assumption); clear hb6)))
        all_goals
          have HB7 : Hid (Buf 5 B w w6 v6 (A1 ++ [m[0]'hm0] ++ fldT m (x[k]'hlt))) := HX1.out.trans (Buf.trans (by first | exact HB5.out | exact HB5.out.drew) HB6.out)
          rw [← HM0.out, ← HSN2.out] at HB7
          clear HB5 HB6 hrow6
          go_wp2
          go_roundw
          case rel => exact ⟨_, k + 1, rfl, by omega, by go_num, HB7⟩
          case measure => simp [intOf]; omega
      · have e1 : x.take k = x := List.take_of_length_le (by omega)
        have HE : Hid (Buf 5 B w X u0 (L ++ segT m n x)) := by
          rw [e1, HAE.out] at HBf
          have := HBf.out
          unfold segT
          rw [← List.append_assoc]
          exact this
        go_wp2
        go_ret
        exact ⟨_, rfl, HE.out⟩
end Go.Proofs.YtckcfjibiidafaaGreat
/- The model's l04Seg and SegmentText; the program's SegmentText. -/
namespace Go.Proofs.YtckcfjibiidafaaGreat
open Go.RowKit
theorem bcat (a b : List UInt8) : (⟨a.toArray⟩ : ByteArray) ++ ⟨b.toArray⟩ = ⟨(a ++ b).toArray⟩ := by
  apply ByteArray.ext
  simp [ByteArray.data_append]
theorem barr (a : ByteArray) : (⟨a.data.toList.toArray⟩ : ByteArray) = a := by simp
theorem bsize (a : List UInt8) : (⟨a.toArray⟩ : ByteArray).size = a.length := by simp [ByteArray.size]
theorem drop_consS (s : ByteArray) (k : Nat) (h : k < s.size) : s.data.toList.drop k = s[k]'h :: s.data.toList.drop (k + 1) := by
  rw [List.drop_eq_getElem_cons (by simpa using h), data_get s k h]
theorem first_mark (m : ByteArray) (h : 0 < m.size) : m.extract 0 1 = ⟨[bAt m 0].toArray⟩ := by
  have e : (m.extract 0 1).data.toList = [bAt m 0] := by
    rw [ByteArray.data_extract, Array.toList_extract, List.extract_eq_take_drop]
    have := drop_consS m 0 h
    rw [List.drop_zero] at this
    rw [List.drop_zero, this, bAt_get m 0 h]
    rfl
  rw [← barr (m.extract 0 1), e]

set_option maxHeartbeats 8000000 in
set_option maxRecDepth 100000 in
theorem l04Seg_any (m n : ByteArray) (u : Value) (x : Flds) (w : World) (hm : m.size = 5) (hx : segB n x = true) (hr : RFlds 0 w u x) :
    Calls Tryz.prog 19 #[.string m, .agg #[.string n, u]] w fun e w' => e = .returned (.string ⟨(segT m n x).toArray⟩) ∧ Below w.heap.size w w' := by
  obtain ⟨hn3, hxe, hxl⟩ := segB_parts hx
  have HXE := hide hxe
  have HHL := hide (headT_len m n hm hn3)
  have HFL : Hid (∀ k, (fldsT m (x.take k)).length ≤ 30 * 45306) := fun k => by
    have h1 := fldsT_len m (x.take k) (take_fldB hxe k)
    have h2 : (x.take k).length ≤ 30 := by rw [List.length_take]; omega
    exact Nat.le_trans h1 (Nat.mul_le_mul h2 (Nat.le_refl _))
  have hm0 : 0 < m.size := by omega
  have HFM := hide (first_mark m hm0)
  obtain ⟨p, cap, rfl, h1, h2, h4⟩ := hr
  have H4 := hide h4
  clear h4 hxe
  unfold maxLen at h2
  have HRow := hide (row_new w [.string n, .slice p x.length cap] 41)
  have HB0 := hide ((Below.refl w.heap.size w).alloc (Nat.le_refl _) (.cells #[.string n, .slice p x.length cap] 41))
  have key : ∀ (T0 : ByteArray), T0 = ⟨(headT m n).toArray⟩ → True := fun _ _ => trivial
  clear key
  by_cases hM : n = msh
  · have hh : (⟨(headT m n).toArray⟩ : ByteArray) = n ++ m := by unfold headT; rw [if_pos hM, ← bcat, barr, barr]
    have HHH := hide hh
    have hne : (n.toList == [77, 83, 72]) = true := by rw [hM]; unfold msh; simp
    have ad0 : ∀ w : World, (Op.stringOp .add n m).run Tryz.prog w = .ok (.string (n ++ m)) w := fun w => run_string_add_sum w _ _ (by omega)
    clear hM hh
    go_enter Tryz.func19, Tryz.ntmps19
    go_wp2_with fail
    rw [← HHH.out]
    go_loopw [5, 6] (fun tv i wr => ∃ (X : World) (k : Nat) (T : ByteArray), X = wr ∧ k ≤ x.length ∧ i = .int .i64 k ∧ tv = .string T ∧ Hid (T = ⟨(headT m n ++ fldsT m (x.take k)).toArray⟩) ∧ Hid (Below w.heap.size w X) ∧ Hid (Row X w.heap.size 41 [.string n, .slice p x.length cap])) (fun _ i _ => x.length - (intOf i).toNat)
    case atStart => exact ⟨_, 0, _, rfl, Nat.zero_le _, rfl, rfl, by rw [List.take_zero]; exact (by simp [fldsT] : (⟨(headT m n).toArray⟩ : ByteArray) = ⟨(headT m n ++ fldsT m []).toArray⟩), HB0, HRow⟩
    case round =>
      obtain ⟨X, k, T, rfl, hk, rfl, rfl, HT, HB, HRw⟩ := hrel
      have c1 : X.cell? ⟨w.heap.size, 1, none⟩ = some (.slice p x.length cap) := HRw.out.cell 1
      by_cases hlt : k < x.length
      · obtain ⟨g, off, hp, hg, _, hc⟩ := H4.out (by omega)
        subst hp
        obtain ⟨uk, huk, hruk⟩ := hc k hlt
        have HUK := hide hruk
        obtain ⟨vp, vc, rfl⟩ := hruk.isSlice
        have HSN := hide (fldsT_snoc m x k hlt)
        have HOK := hide (HXE.out k hlt)
        have HFK := hide (fldT_len (m := m) (HXE.out k hlt))
        have hTs : T.size ≤ 1400000 := by have h1 := HFL.out k; have h2 := HHL.out; rw [HT.out, bsize, List.length_append]; omega
        have hEs : (m.extract 0 1).size = 1 := by rw [HFM.out, bsize]; rfl
        have ad1 : ∀ w : World, (Op.stringOp .add T (m.extract 0 1)).run Tryz.prog w = .ok (.string (T ++ m.extract 0 1)) w := fun w => run_string_add_sum w _ _ (by omega)
        have ad2 : ∀ w : World, (Op.stringOp .add (T ++ m.extract 0 1) ⟨(fldT m (x[k]'hlt)).toArray⟩).run Tryz.prog w = .ok (.string (T ++ m.extract 0 1 ++ ⟨(fldT m (x[k]'hlt)).toArray⟩)) w := fun w => run_string_add_sum w _ _ (by have := HFK.out; simp only [ByteArray.size_append, bsize]; omega)
        have HNX : Hid (T ++ m.extract 0 1 ++ ⟨(fldT m (x[k]'hlt)).toArray⟩ = ⟨(headT m n ++ fldsT m (x.take (k + 1))).toArray⟩) := by
          rw [HT.out, HFM.out, bcat, bcat, HSN.out]
          exact (by simp : (⟨(headT m n ++ fldsT m (x.take k) ++ [bAt m 0] ++ fldT m (x[k]'hlt)).toArray⟩ : ByteArray) = ⟨(headT m n ++ (fldsT m (x.take k) ++ (bAt m 0 :: fldT m (x[k]'hlt)))).toArray⟩)
        have HSS := hide (show ∀ y, Below X.heap.size X y → y.cell? ⟨w.heap.size, 1, none⟩ = some (.slice (some ⟨g, off, none⟩) x.length cap) ∧ y.cell? ⟨g, off + k, none⟩ = some (.slice vp (x[k]'hlt).length vc) ∧ Below X.heap.size X y from
          fun y h => ⟨(HRw.out.below h HRw.out.lt).cell 1, by rw [(HB.out.trans (h.mono HB.out.size)).cell (p := ⟨g, off + k, none⟩) hg]; exact huk, h⟩)
        have hki : (k : Int) < (x.length : Int) := by omega
        clear huk hruk hc hTs hEs HSN
        go_wp2_with fail
        go_region_held3 (fun y => y.cell? ⟨w.heap.size, 1, none⟩ = some (.slice (some ⟨g, off, none⟩) x.length cap) ∧ y.cell? ⟨g, off + k, none⟩ = some (.slice vp (x[k]'hlt).length vc) ∧ Below X.heap.size X y)
          ((go_split_ands; refine HSS.out _ ?_; repeat (first | with_reducible assumption | with_reducible exact Below.refl _ _ | with_reducible refine Below.drew ?_)))
          ((go_at_call 29; go_split_ands; refine (l04Text_any m _ (x[k]'hlt) _ hm HOK.out (Lasts.go (B := 0) (Same.of (HB.out.trans (Below.mono (by assumption) HB.out.size))) HUK.out)).mono ?_; rintro e w3 ⟨rfl, hb3⟩; have hB3 : Below X.heap.size X w3 := Below.trans (by assumption) (hb3.mono (Below.size (by assumption))); clear hb3))
        all_goals
          have HB3 := hide (HB.out.trans (hB3.mono HB.out.size))
          have HR3 := hide (HRw.out.below hB3 HRw.out.lt)
          clear hB3
          go_wp2
          go_roundw
          case rel => exact ⟨_, k + 1, _, rfl, by omega, by go_num, rfl, HNX, HB3, HR3⟩
          case measure => simp [intOf]; omega
      · have e1 : x.take k = x := List.take_of_length_le (by omega)
        have HE : Hid (T = ⟨(segT m n x).toArray⟩) := by rw [e1] at HT; exact HT
        go_wp2
        go_ret
        exact ⟨ret_str HE.out, HB.out⟩
  · have hh : (⟨(headT m n).toArray⟩ : ByteArray) = n := by unfold headT; rw [if_neg hM, List.append_nil, barr]
    have HHH := hide hh
    have hne0 := toList_neF (show n ≠ (⟨#[77, 83, 72]⟩ : ByteArray) from hM)
    have hne : (n.toList == [77, 83, 72]) = false := by simpa using hne0
    clear hne0 hM hh
    go_enter Tryz.func19, Tryz.ntmps19
    go_wp2_with fail
    go_loopw [5, 6] (fun tv i wr => ∃ (X : World) (k : Nat) (T : ByteArray), X = wr ∧ k ≤ x.length ∧ i = .int .i64 k ∧ tv = .string T ∧ Hid (T = ⟨(headT m n ++ fldsT m (x.take k)).toArray⟩) ∧ Hid (Below w.heap.size w X) ∧ Hid (Row X w.heap.size 41 [.string n, .slice p x.length cap])) (fun _ i _ => x.length - (intOf i).toNat)
    case atStart => exact ⟨_, 0, _, rfl, Nat.zero_le _, rfl, rfl, by rw [List.take_zero]; exact (by simp only [fldsT, List.flatMap_nil, List.append_nil]; exact HHH.out.symm : n = ⟨(headT m n ++ fldsT m []).toArray⟩), HB0, HRow⟩
    case round =>
      obtain ⟨X, k, T, rfl, hk, rfl, rfl, HT, HB, HRw⟩ := hrel
      have c1 : X.cell? ⟨w.heap.size, 1, none⟩ = some (.slice p x.length cap) := HRw.out.cell 1
      by_cases hlt : k < x.length
      · obtain ⟨g, off, hp, hg, _, hc⟩ := H4.out (by omega)
        subst hp
        obtain ⟨uk, huk, hruk⟩ := hc k hlt
        have HUK := hide hruk
        obtain ⟨vp, vc, rfl⟩ := hruk.isSlice
        have HSN := hide (fldsT_snoc m x k hlt)
        have HOK := hide (HXE.out k hlt)
        have HFK := hide (fldT_len (m := m) (HXE.out k hlt))
        have hTs : T.size ≤ 1400000 := by have h1 := HFL.out k; have h2 := HHL.out; rw [HT.out, bsize, List.length_append]; omega
        have hEs : (m.extract 0 1).size = 1 := by rw [HFM.out, bsize]; rfl
        have ad1 : ∀ w : World, (Op.stringOp .add T (m.extract 0 1)).run Tryz.prog w = .ok (.string (T ++ m.extract 0 1)) w := fun w => run_string_add_sum w _ _ (by omega)
        have ad2 : ∀ w : World, (Op.stringOp .add (T ++ m.extract 0 1) ⟨(fldT m (x[k]'hlt)).toArray⟩).run Tryz.prog w = .ok (.string (T ++ m.extract 0 1 ++ ⟨(fldT m (x[k]'hlt)).toArray⟩)) w := fun w => run_string_add_sum w _ _ (by have := HFK.out; simp only [ByteArray.size_append, bsize]; omega)
        have HNX : Hid (T ++ m.extract 0 1 ++ ⟨(fldT m (x[k]'hlt)).toArray⟩ = ⟨(headT m n ++ fldsT m (x.take (k + 1))).toArray⟩) := by
          rw [HT.out, HFM.out, bcat, bcat, HSN.out]
          exact (by simp : (⟨(headT m n ++ fldsT m (x.take k) ++ [bAt m 0] ++ fldT m (x[k]'hlt)).toArray⟩ : ByteArray) = ⟨(headT m n ++ (fldsT m (x.take k) ++ (bAt m 0 :: fldT m (x[k]'hlt)))).toArray⟩)
        have HSS := hide (show ∀ y, Below X.heap.size X y → y.cell? ⟨w.heap.size, 1, none⟩ = some (.slice (some ⟨g, off, none⟩) x.length cap) ∧ y.cell? ⟨g, off + k, none⟩ = some (.slice vp (x[k]'hlt).length vc) ∧ Below X.heap.size X y from
          fun y h => ⟨(HRw.out.below h HRw.out.lt).cell 1, by rw [(HB.out.trans (h.mono HB.out.size)).cell (p := ⟨g, off + k, none⟩) hg]; exact huk, h⟩)
        have hki : (k : Int) < (x.length : Int) := by omega
        clear huk hruk hc hTs hEs HSN
        go_wp2_with fail
        go_region_held3 (fun y => y.cell? ⟨w.heap.size, 1, none⟩ = some (.slice (some ⟨g, off, none⟩) x.length cap) ∧ y.cell? ⟨g, off + k, none⟩ = some (.slice vp (x[k]'hlt).length vc) ∧ Below X.heap.size X y)
          ((go_split_ands; refine HSS.out _ ?_; repeat (first | with_reducible assumption | with_reducible exact Below.refl _ _ | with_reducible refine Below.drew ?_)))
          ((go_at_call 29; go_split_ands; refine (l04Text_any m _ (x[k]'hlt) _ hm HOK.out (Lasts.go (B := 0) (Same.of (HB.out.trans (Below.mono (by assumption) HB.out.size))) HUK.out)).mono ?_; rintro e w3 ⟨rfl, hb3⟩; have hB3 : Below X.heap.size X w3 := Below.trans (by assumption) (hb3.mono (Below.size (by assumption))); clear hb3))
        all_goals
          have HB3 := hide (HB.out.trans (hB3.mono HB.out.size))
          have HR3 := hide (HRw.out.below hB3 HRw.out.lt)
          clear hB3
          go_wp2
          go_roundw
          case rel => exact ⟨_, k + 1, _, rfl, by omega, by go_num, rfl, HNX, HB3, HR3⟩
          case measure => simp [intOf]; omega
      · have e1 : x.take k = x := List.take_of_length_le (by omega)
        have HE : Hid (T = ⟨(segT m n x).toArray⟩) := by rw [e1] at HT; exact HT
        go_wp2
        go_ret
        exact ⟨ret_str HE.out, HB.out⟩
end Go.Proofs.YtckcfjibiidafaaGreat
