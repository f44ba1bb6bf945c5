/- The program's text of a Message; the law of MessageText. -/
import Derived.Test.YtlhlfcfolhlehaaFMsgU
namespace Go.Proofs.Ytlhlfcfolhlehaa
open Go.RowKit
theorem msgRow_kept {B : Nat} {w w' : World} {v : Value} {L : List UInt8} {g : Nat} {vs : List Value} (h : Buf 5 B w w' v L) (hr : Row w g 42 vs) : Row w' g 42 vs :=
  h.kept g _ hr (by simp) (fun _ _ e1 => by simp at e1)
theorem Buf.shape {e B : Nat} {w0 w : World} {v : Value} {L : List UInt8} (h : Buf e B w0 w v L) : ∃ p c, v = .slice p L.length c := by
  rcases h.own.2 with ⟨rfl, hn⟩ | ⟨g, cap, cur, rfl, _⟩
  · exact ⟨none, 0, by rw [hn]⟩
  · exact ⟨_, _, rfl⟩

set_option maxHeartbeats 8000000 in
set_option maxRecDepth 100000 in
theorem implMessageText_any (m : ByteArray) (u : Value) (x : List Seg) (w : World) (hm : m.size ≤ maxLen) (hn : wSegs x ≤ 1048576) (hr : RSegs 0 w u x) :
    Calls Try.prog 20 #[.agg #[.string m, u]] w fun e w' => e = .returned (.string (msgT m x)) ∧ Below w.heap.size w w' := by
  have HSZ := hide (fitsM_of hn)
  have HR := hide hr
  obtain ⟨p, cap, rfl, h1, h2, h4⟩ := hr
  have H4 := hide h4
  clear h4
  unfold maxLen at h2
  have HB0 := hide ((Below.refl w.heap.size w).alloc (Nat.le_refl _) (.cells #[.string m, .slice p x.length cap] 42))
  have HR0 := hide (HR.out.below HB0.out)
  have HRow0 := hide (row_new w [.string m, .slice p x.length cap] 42)
  clear HR
  go_enter Try.func20, Try.ntmps20
  go_wp2_with fail
  refine (implMessage_any m _ x _ hm HSZ.out HR0.out).mono ?_
  rintro e w1 ⟨rfl, hb1⟩
  have HB1 := hide (HB0.out.trans (hb1.mono (by simp)))
  have row1 := HRow0.out.below hb1 HRow0.out.lt
  have c1 : w1.cell? ⟨w.heap.size, 1, none⟩ = some (.slice p x.length cap) := row1.cell 1
  have b1 : w1.cell? ⟨w.heap.size, 0, none⟩ = some (.string m) := row1.cell 0
  have HRow1 := hide row1
  clear hb1 row1
  cases hp : msgB m x
  · go_wp2
    go_ret
    exact ⟨ret_str (msgT_no hp).symm, HB1.out⟩
  obtain ⟨hmk, hl, hok⟩ := msgB_parts hp
  have hm5 := marksB_five hmk
  have HOKS := hide hok
  clear hok hmk
  go_wp2_with fail
  go_loopw [3, 12] (fun v' i wr => ∃ (X : World) (k : Nat), X = wr ∧ k ≤ x.length ∧ i = .int .i64 k ∧ Hid (Buf 5 w1.heap.size w1 X v' (wholeT m (x.take k))) ∧ Hid ((wholeT m (x.take k)).length ≤ 8000)) (fun _ i _ => x.length - (intOf i).toNat)
  case atStart => exact ⟨_, 0, rfl, Nat.zero_le _, rfl, by rw [List.take_zero]; exact hide (Buf.nil _ (Nat.le_refl _)), by rw [List.take_zero]; exact (by simp [wholeT] : (wholeT m []).length ≤ 8000)⟩
  case round =>
    obtain ⟨X, k, rfl, hk, rfl, HBf, HL8⟩ := hrel
    by_cases hlt : k < x.length
    · obtain ⟨g, off, hpp, hg, _, hc⟩ := H4.out (by omega)
      subst hpp
      obtain ⟨ha, _, v, hv, hrv⟩ := hc k hlt
      have hXB : Below w.heap.size w X := HB1.out.trans (HBf.out.below.mono HB1.out.size)
      have hk0 := (hXB.cell (p := ⟨g, off + k * 2, none⟩) hg).trans ha
      have hk1 := (hXB.cell (p := ⟨g, off + k * 2 + 1, none⟩) hg).trans hv
      have HUV := hide (flds_under (hrv.below HB1.out))
      obtain ⟨vp, vc, rfl⟩ := hrv.isSlice
      have HX1 := hide (HBf.out.alloc (.cells #[.string (x[k]'hlt).1, .slice vp (x[k]'hlt).2.length vc] 29))
      have rowM := (msgRow_kept HBf.out HRow1.out).alloc (.cells #[.string (x[k]'hlt).1, .slice vp (x[k]'hlt).2.length vc] 29)
      have b2 : (X.alloc (.cells #[.string (x[k]'hlt).1, .slice vp (x[k]'hlt).2.length vc] 29)).cell? ⟨w.heap.size, 0, none⟩ = some (.string m) := rowM.cell 0
      have HOK := hide (HOKS.out k hlt)
      have HSN := hide (wholeT_snoc m x k hlt)
      have HSL := hide (segT_len (m := m) hm5 (HOKS.out k hlt))
      have HPR := hide (wholeT_pre m x (k + 1))
      clear ha hv hrv hc hXB rowM
      go_wp2_with fail
      refine (appSegment _ (wholeT m (x.take k)) w1.heap.size m (x[k]'hlt).1 _ (x[k]'hlt).2 _ hm5 HOK.out (by have := HL8.out; omega) HX1.out.size HX1.out.own (Under.go HX1.out.below HUV.out)).mono ?_
      rintro e w5 ⟨v5, rfl, hb5⟩
      obtain ⟨A1, hA1⟩ : ∃ A1, A1 = wholeT m (x.take k) ++ segT m (x[k]'hlt).1 (x[k]'hlt).2 := ⟨_, rfl⟩
      have HAN : Hid (wholeT m (x.take (k + 1)) = A1 ++ [13]) := by rw [HSN.out, hA1, List.append_assoc]; exact rfl
      have HAL := hide (show A1.length ≤ 1408000 by have h1 := HL8.out; have h2 := HSL.out; rw [hA1, List.length_append]; omega)
      rw [← hA1] at hb5
      have HB5 := hide (HX1.out.trans hb5)
      have HBs := hide ((Buf.start hb5.own hb5.size).alloc (.cells #[.int .u8 13] 5))
      have HC := hide (heap_alloc_new w5 (.cells #[.int .u8 13] 5))
      have HL3 := hide (show A1.length + [(13 : UInt8)].length ≤ 100000000 by have h1 := HAL.out; simp only [List.length_cons, List.length_nil]; omega)
      clear hb5 hA1 HSN hk0 hk1 b2
      go_wp2_with (at_builtin; refine wpList_buf (w0 := w5) rfl (.tmp 20) (.tmp 21) 56 rfl w1.heap.size 5 Try.underlying56 Try.infoByte v5 A1 rfl HBs.out w5.heap.size 1 [13] rfl rfl ⟨_, HC.out⟩ HL3.out ?_)
      intro v6 w6 hb6
      have HB6 : Hid (Buf 5 w1.heap.size w1 w6 v6 (wholeT m (x.take (k + 1)))) := by rw [HAN.out]; exact HB5.out.trans hb6
      obtain ⟨q6, c6, rfl⟩ := HB6.out.shape
      clear hb6
      by_cases h8 : (wholeT m (x.take (k + 1))).length ≤ 8000
      · have h8' : ¬ 8000 < (((wholeT m (x.take (k + 1))).length : Nat) : Int) := by omega
        have H8 := hide h8
        go_wp2
        go_roundw
        case rel => exact ⟨_, k + 1, rfl, by omega, by go_num, HB6, H8⟩
        case measure => simp [intOf]; omega
      · have h8' : 8000 < (((wholeT m (x.take (k + 1))).length : Nat) : Int) := by omega
        have HE := hide (msgT_long (m := m) (xs := x) (by have := HPR.out; omega))
        have HBE := hide (HB1.out.trans (HB6.out.below.mono HB1.out.size))
        go_wp2
        go_ret
        exact ⟨ret_str HE.out.symm, HBE.out⟩
    · have e1 : x.take k = x := List.take_of_length_le (by omega)
      rw [e1] at HBf HL8
      have HE := hide (msgT_yes hp HL8.out)
      have hcv := HBf.out.text (P := Try.prog) Try.underlying56 Try.underlying5 Try.underlying9
      have HBE := hide (HB1.out.trans (HBf.out.below.mono HB1.out.size))
      go_wp2
      go_ret
      exact ⟨ret_str HE.out.symm, HBE.out⟩

set_option maxHeartbeats 4000000 in
theorem lawMessageText (n : ByteArray) (u : Value) (x : List Seg) (w : World) (hnl : n.size ≤ maxLen) (hr : RSegs 0 w u x) :
    Calls Try.prog 6 #[.agg #[.string n, u]] w fun e w' => e = .returned (.bool true) ∧ Below w.heap.size w w' := by
  obtain ⟨p, c, rfl⟩ := hr.isSlice
  obtain ⟨W, hW⟩ : ∃ W, W = w.alloc (.cells #[.string n, .slice p x.length c] 37) := ⟨_, rfl⟩
  have hb0 : Below w.heap.size w W := by rw [hW]; exact (Below.refl _ _).alloc (Nat.le_refl _) _
  have HR := hide (hr.below hb0)
  have HB0 := hide hb0
  have RW : Row W w.heap.size 37 [.string n, .slice p x.length c] := by rw [hW]; exact row_new w [.string n, .slice p x.length c] 37
  have HRW := hide RW
  clear RW hb0 hr
  go_enter Try.func6, Try.ntmps6
  go_wp2_with fail
  rw [← hW]
  refine (szMessage_any n _ x 1048576 _ hnl (by omega) (by omega) HR.out).mono ?_
  rintro e w1 ⟨rfl, hb1⟩
  clear hW
  have HB1 := hide (HB0.out.trans (hb1.mono HB0.out.size))
  have HR1 := hide (HR.out.below hb1)
  have row1 := HRW.out.below hb1 HRW.out.lt
  have c1 : w1.cell? ⟨w.heap.size, 1, none⟩ = some (.slice p x.length c) := row1.cell 1
  have b1 : w1.cell? ⟨w.heap.size, 0, none⟩ = some (.string n) := row1.cell 0
  have HRow1 := hide row1
  clear hb1 row1
  by_cases hsz : (((n.size + wSegs x) : Nat) : Int) ≤ 1048576
  · rw [szOf_yes hsz]
    have hsz' : wSegs x ≤ 1048576 := by omega
    have HS := hide hsz'
    have h0 : ¬ (1048576 - (((n.size + wSegs x) : Nat) : Int)) < 0 := by omega
    clear hsz hsz'
    generalize (1048576 - (((n.size + wSegs x) : Nat) : Int)) = L at h0
    go_wp2_with fail
    refine (toMessage_any n _ x _ HS.out HR1.out).mono ?_
    rintro e w2 ⟨p2, c2, rfl, hr2, hb2⟩
    have HB2 := hide (HB1.out.trans (hb2.mono HB1.out.size))
    have HR2 := hide (HR1.out.below hb2)
    have HC2 := hide (RSegs.mono hr2 (Nat.zero_le _))
    have HRow2 := hide (HRow1.out.below hb2 HRow1.out.lt)
    clear hr2 hb2 c1 b1
    go_wp2_with fail
    refine (specMessageText_any n _ x _ hnl HS.out HC2.out).mono ?_
    rintro e w3 ⟨rfl, hb3⟩
    have HB3 := hide (HB2.out.trans (hb3.mono HB2.out.size))
    have HR3 := hide (HR2.out.below hb3)
    have row3 := HRow2.out.below hb3 HRow2.out.lt
    have c3 : w3.cell? ⟨w.heap.size, 1, none⟩ = some (.slice p x.length c) := row3.cell 1
    have b3 : w3.cell? ⟨w.heap.size, 0, none⟩ = some (.string n) := row3.cell 0
    have HRow3 := hide row3
    clear hb3 row3
    go_wp2_with fail
    refine (toMessage_any n _ x _ HS.out HR3.out).mono ?_
    rintro e w4 ⟨p4, c4, rfl, hr4, hb4⟩
    have hbn : Below w4.heap.size w4 (w4.alloc (.cells #[.string n, .slice p4 x.length c4] 42)) := (Below.refl _ _).alloc (Nat.le_refl _) _
    have HB4 := hide ((HB3.out.trans (hb4.mono HB3.out.size)).trans (hbn.mono (HB3.out.trans (hb4.mono HB3.out.size)).size))
    have HR4 := hide ((HR3.out.below hb4).below hbn)
    have HC4 := hide ((RSegs.mono hr4 (Nat.zero_le _)).below hbn)
    have HRow4 := hide ((HRow3.out.below hb4 HRow3.out.lt).alloc (.cells #[.string n, .slice p4 x.length c4] 42))
    have HRowX := hide (row_new w4 [.string n, .slice p4 x.length c4] 42)
    clear hr4 hb4 hbn c3 b3
    go_wp2_with fail
    generalize hV : w4.alloc (.cells #[.string n, .slice p4 x.length c4] 42) = V at *
    generalize hG : w4.heap.size = G at *
    clear hV hG
    refine (implMessageText_any n _ x _ hnl HS.out HC4.out).mono ?_
    rintro e w5 ⟨rfl, hb5⟩
    have HB5 := hide (HB4.out.trans (hb5.mono HB4.out.size))
    have HR5 := hide (HR4.out.below hb5)
    have HC5 := hide (HC4.out.below hb5)
    have HRow5 := hide (HRow4.out.below hb5 HRow4.out.lt)
    have HRowX5 := hide (HRowX.out.below hb5 HRowX.out.lt)
    clear hb5
    have HSS := hide (show ∀ y, Below w5.heap.size w5 y → y.cell? ⟨w.heap.size, 0, none⟩ = some (.string n) ∧ y.cell? ⟨w.heap.size, 1, none⟩ = some (.slice p x.length c) ∧ y.cell? ⟨G, 0, none⟩ = some (.string n) ∧ y.cell? ⟨G, 1, none⟩ = some (.slice p4 x.length c4) ∧ Below w5.heap.size w5 y from
      fun y h => ⟨(HRow5.out.below h HRow5.out.lt).cell 0, (HRow5.out.below h HRow5.out.lt).cell 1, (HRowX5.out.below h HRowX5.out.lt).cell 0, (HRowX5.out.below h HRowX5.out.lt).cell 1, h⟩)
    generalize msgT n x = FB
    go_wp2_with fail
    go_region_held3 (fun y => y.cell? ⟨w.heap.size, 0, none⟩ = some (.string n) ∧ y.cell? ⟨w.heap.size, 1, none⟩ = some (.slice p x.length c) ∧ y.cell? ⟨G, 0, none⟩ = some (.string n) ∧ y.cell? ⟨G, 1, none⟩ = some (.slice p4 x.length c4) ∧ Below w5.heap.size w5 y)
      ((go_split_ands; refine HSS.out _ ?_; repeat (first | with_reducible assumption | with_reducible exact Below.refl _ _ | with_reducible refine Below.drew ?_)))
      ((first
        | (go_at_call 16; go_split_ands; refine (toMessage_any n _ x _ HS.out (HR5.out.below (by assumption))).mono ?_; rintro e w6 ⟨p6, c6, rfl, hr6, hb6⟩; have HC6 := hide (RSegs.mono hr6 (Nat.zero_le _)); have hB6 : Below w5.heap.size w5 w6 := Below.trans (by assumption) (hb6.mono (Below.size (by assumption))); clear hr6 hb6)
        | (go_at_call 18; go_split_ands; refine (eqMessage_same n _ _ x 0 0 _ HS.out (HC5.out.below (by assumption)) (by first | exact HC6.out | exact HC6.out.below ((Below.refl _ _).drew))).mono ?_; rintro e w7 ⟨rfl, hb7⟩; have hB7 : Below w5.heap.size w5 w7 := Below.trans (by assumption) (hb7.mono (Below.size (by assumption))); clear hb7)))
    all_goals
      have HB7 := hide (HB5.out.trans (hB7.mono HB5.out.size))
      clear hB7
      go_wp2
      go_ret
      exact ⟨rfl, HB7.out⟩
  · rw [szOf_no hsz]
    go_wp2
    go_ret
    exact ⟨rfl, HB1.out⟩
end Go.Proofs.Ytlhlfcfolhlehaa
