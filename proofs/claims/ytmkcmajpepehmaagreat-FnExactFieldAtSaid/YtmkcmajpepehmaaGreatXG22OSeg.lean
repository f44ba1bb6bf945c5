/- Segments and Messages in memory of one's own; their marks; the laws' own copies of them. -/
import Derived.Test.YtmkcmajpepehmaaGreatXG6FMsgT
import Derived.Test.YtmkcmajpepehmaaGreatXG12OCopy
import Derived.Test.YtmkcmajpepehmaaGreatXG21PVal2
namespace Go.Proofs.YtmkcmajpepehmaaGreat
open Go.RowKit
def OSegs (lo hi : Nat) (w : World) (v : Value) (xs : List Seg) : Prop :=
  ∃ p cap, v = .slice p xs.length cap ∧ xs.length ≤ cap ∧ cap ≤ maxLen ∧
    (0 < xs.length → ∃ (g : Nat) (cs : List Value) (A B : Nat → Nat), p = some ⟨g, 0, none⟩ ∧ lo ≤ g ∧ g < hi ∧ Row w g 83 cs ∧ xs.length * 2 ≤ cs.length ∧
      (∀ j (h2 : j < xs.length), cs[j * 2]? = some (.string xs[j].1) ∧ xs[j].1.size ≤ maxLen ∧ lo ≤ A j ∧ B j ≤ hi ∧ (B j ≤ g ∨ g < A j) ∧ ∃ u, cs[j * 2 + 1]? = some u ∧ OFlds (A j) (B j) w u xs[j].2) ∧ (∀ i j, i < j → j < xs.length → B i ≤ A j))
theorem OSegs.keep {lo hi : Nat} {w w' : World} {v : Value} {xs : List Seg} (h : OSegs lo hi w v xs) (hs : SameIn lo hi w w') : OSegs lo hi w' v xs := by
  obtain ⟨p, cap, rfl, h1, h2, h4⟩ := h
  refine ⟨p, cap, rfl, h1, h2, fun h0 => ?_⟩
  obtain ⟨g, cs, A, B, rfl, a, b, hr, hl, hE, hD⟩ := h4 h0
  refine ⟨g, cs, A, B, rfl, a, b, hs.row hr a b, hl, fun i k2 => ?_, hD⟩
  obtain ⟨e0, e1, e2, e3, e4, u, e5, e6⟩ := hE i k2
  exact ⟨e0, e1, e2, e3, e4, u, e5, Keeps.go (hs.mono e2 e3) e6⟩
theorem OSegs.wide {lo hi lo' hi' : Nat} {w : World} {v : Value} {xs : List Seg} (h : OSegs lo hi w v xs) (hl : lo' ≤ lo) (hh : hi ≤ hi') : OSegs lo' hi' w v xs := by
  obtain ⟨p, cap, rfl, h1, h2, h4⟩ := h
  refine ⟨p, cap, rfl, h1, h2, fun h0 => ?_⟩
  obtain ⟨g, cs, A, B, rfl, a, b, hr, hln, hE, hD⟩ := h4 h0
  refine ⟨g, cs, A, B, rfl, by omega, by omega, hr, hln, fun i k2 => ?_, hD⟩
  obtain ⟨e0, e1, e2, e3, e4, u, e5, e6⟩ := hE i k2
  exact ⟨e0, e1, by omega, by omega, e4, u, e5, e6⟩
theorem OSegs.isSlice {lo hi : Nat} {w : World} {v : Value} {xs : List Seg} (h : OSegs lo hi w v xs) : ∃ p c, v = .slice p xs.length c := by
  obtain ⟨p, c, e, _⟩ := h
  exact ⟨p, c, e⟩
theorem OFlds.rl {lo hi : Nat} {w : World} {v : Value} {xs : List (List (List (List ByteArray)))} (h : OFlds lo hi w v xs) : RFlds lo w v xs := OL.rl h fun _ _ _ _ ha h => RFld.mono (OFld.rl h) ha
theorem OSegs.rl {lo hi : Nat} {w : World} {v : Value} {xs : List Seg} (h : OSegs lo hi w v xs) : RSegs lo w v xs := by
  obtain ⟨p, cap, rfl, h1, h2, h4⟩ := h
  refine ⟨p, cap, rfl, h1, h2, fun h0 => ?_⟩
  obtain ⟨g, cs, A, B, rfl, a, b, hr, hl, hE, hD⟩ := h4 h0
  refine ⟨g, 0, rfl, hr.lt, a, fun i hi => ?_⟩
  obtain ⟨e0, e1, e2, e3, e4, u, e5, e6⟩ := hE i hi
  exact ⟨by rw [Nat.zero_add, hr.cell]; exact e0, e1, u, by rw [Nat.zero_add, hr.cell]; exact e5, RFlds.mono (OFlds.rl e6) e2⟩
def cntSeg (x : Seg) : Nat := 1 + cntFs x.2
def mkSeg (k : Nat) (x : Seg) : Seg := (markOf k, mkFs (k + 1) x.2)
def cntSegs : List Seg → Nat := cntL cntSeg
def mkSegs : Nat → List Seg → List Seg := mkL cntSeg mkSeg
theorem cntFs_le (x : List (List (List (List ByteArray)))) : cntFs x ≤ wFlds x := cntL_le _ _ cntF_le x
theorem seg_step : ∀ (xs : List Seg) (i : Nat) (hi : i < xs.length), cntL cntSeg (xs.take i) + 1 + wFlds xs[i].2 ≤ wSegs xs
  | x :: r, 0, _ => by
    simp only [List.take_zero, cntL, List.map_nil, List.sum_nil, List.getElem_cons_zero, wSegs, wL, List.map_cons, List.sum_cons, List.length_cons, wSeg]
    omega
  | x :: r, i + 1, hi => by
    have h1 := cntFs_le x.2
    have h2 := seg_step r i (by simpa using hi)
    simp only [List.take_succ_cons, cntL, List.map_cons, List.sum_cons, List.getElem_cons_succ, wSegs, wL, List.length_cons, wSeg, cntSeg] at h2 ⊢
    omega
theorem markOf_small (k : Nat) (h : k ≤ 10000000) : (markOf k).size ≤ maxLen := by
  have := markOf_sizeO k
  unfold maxLen; omega
set_option maxHeartbeats 4000000 in
theorem markSegmentS_own (lo hi : Nat) (v : Value) (xs : List Seg) (k : Nat) (w : World) (hn : wSegs xs ≤ 1048576) (hk : k + wSegs xs ≤ 4000000) (hr : OSegs lo hi w v xs) :
    Calls Tryz.prog 38 #[v, .int .i64 (k : Int)] w fun e w' => e = .returned (.int .i64 ((k + cntSegs xs : Nat) : Int)) ∧ OSegs lo hi w' v (mkSegs k xs) ∧ Within lo hi w w' := by
  have hl : xs.length ≤ 1048576 := Nat.le_trans (wL_len _ xs) hn
  have HC := hide (fun i h => seg_step xs i h)
  have HSN := hide (fun i h => cntL_snoc cntSeg xs i h)
  have HM := hide (wSegs_mem hn).2
  obtain ⟨p, cap, rfl, h1, h2, h4⟩ := hr
  by_cases h0 : xs.length = 0
  · obtain rfl : xs = [] := List.eq_nil_of_length_eq_zero h0
    clear h4 HC HM HSN
    go_enter Tryz.func38, Tryz.ntmps38
    go_wp2
    refine wp_loop_rounds 1 ?_
    rw [rounds_succ]
    go_wp2
    go_ret
    exact ⟨rfl, ⟨p, cap, rfl, h1, h2, fun h => absurd h (by simp [mkSegs, mkL])⟩, Within.refl _ _ _⟩
  obtain ⟨g, cs0, A, B, rfl, ga, gb, hrow, hcl, hE, hD⟩ := h4 (by omega)
  have HK := hide hk
  have HN := hide hn
  have HR := hide hrow
  have HCL := hide hcl
  have HE := hide hE
  have HD := hide hD
  have HG := hide (show lo ≤ g ∧ g < hi from ⟨ga, gb⟩)
  have HCP := hide (show xs.length ≤ cap ∧ cap ≤ maxLen from ⟨h1, h2⟩)
  unfold maxLen at h2
  clear h4 hrow hcl hE hD hk hn ga gb
  go_enter Tryz.func38, Tryz.ntmps38
  go_wp2
  go_loopw [1, 5] (fun x i wr => ∃ (X : World) (j K : Nat) (cs : List Value), X = wr ∧ j ≤ xs.length ∧ i = .int .i64 (j : Int) ∧ x = .int .i64 (K : Int) ∧ Hid (K = k + cntL cntSeg (xs.take j)) ∧ Hid (Row X g 83 cs) ∧ Hid (xs.length * 2 ≤ cs.length) ∧ Hid (∀ i (h2 : i < xs.length), cs[i * 2]? = some (.string (if i < j then markOf (k + cntL cntSeg (xs.take i)) else xs[i].1)) ∧ lo ≤ A i ∧ B i ≤ hi ∧ (B i ≤ g ∨ g < A i) ∧ ∃ u, cs[i * 2 + 1]? = some u ∧ OFlds (A i) (B i) X u (if i < j then mkFs (k + cntL cntSeg (xs.take i) + 1) xs[i].2 else xs[i].2)) ∧ Hid (Within lo hi w X)) (fun _ i _ => xs.length - (intOf i).toNat)
  case atStart => exact ⟨_, 0, k, cs0, rfl, Nat.zero_le _, rfl, rfl, hide (by simp [cntL]), HR, HCL, hide (fun i h2 => by
    obtain ⟨e0, e1, e2, e3, e4, u, e5, e6⟩ := HE.out i h2
    rw [if_neg (by omega), if_neg (by omega)]
    exact ⟨e0, e2, e3, e4, u, e5, e6⟩), hide (Within.refl _ _ _)⟩
  case round =>
    obtain ⟨X, j, K, cs, rfl, hj, rfl, rfl, HKE, HRX, HLX, HEX, HW⟩ := hrel
    by_cases hlt : j < xs.length
    · obtain ⟨e0, e2, e3, e4, u, e5, e6⟩ := HEX.out j hlt
      rw [if_neg (by omega)] at e0
      rw [if_neg (by omega)] at e6
      have hKb : K + 1 + wFlds (xs[j]'hlt).2 ≤ 4000000 := by have h1 := HC.out j hlt; have h2 := HK.out; rw [HKE.out]; omega
      have hwb : wFlds (xs[j]'hlt).2 ≤ 1048576 := (HM.out j hlt).1
      have HEB := hide (show lo ≤ A j ∧ B j ≤ hi ∧ (B j ≤ g ∨ g < A j) from ⟨e2, e3, e4⟩)
      obtain ⟨up, uc, rfl⟩ := e6.isSlice
      have HU := hide e5
      have HOK := hide e6
      clear e0 e2 e3 e4 e5 e6
      go_wp2_with fail
      refine (markText_any K _ (by omega)).mono ?_
      rintro e w2 ⟨rfl, hb2⟩
      have row2 := HRX.out.below hb2 HRX.out.lt
      obtain ⟨z0, hz0⟩ := row2.some (j * 2) (by have := HLX.out; omega)
      have hf0 := row2.free (j * 2)
      have row3 := row2.set (j := j * 2) (.string (markOf K))
      have c31 : (w2.setCell ⟨g, j * 2, none⟩ (.string (markOf K))).cell? ⟨g, j * 2 + 1, none⟩ = some (.slice up (xs[j]'hlt).2.length uc) := by rw [row3.cell, List.getElem?_set_ne (by omega)]; exact HU.out
      have hw3 : Within lo hi X (w2.setCell ⟨g, j * 2, none⟩ (.string (markOf K))) := Within.ofOnly (((Only.refl g X).below hb2).set (.string (markOf K))) HG.out.1 HG.out.2
      have hs3 : ∀ a b, (b ≤ g ∨ g < a) → SameIn a b X (w2.setCell ⟨g, j * 2, none⟩ (.string (markOf K))) := fun a b h k h1 h2 hk => (((Only.refl g X).below hb2).set (j := j * 2) (.string (markOf K))).block k hk (fun e => by cases e; omega)
      have HR3 := hide row3
      have HW3 := hide hw3
      have HS3 := hide hs3
      have HOK3 := hide (Keeps.go (HS3.out (A j) (B j) HEB.out.2.2) HOK.out)
      clear row2 row3 hw3 hs3 hb2 HOK
      go_wp2_with fail
      have ek : ((K : Int) + 1) = ((K + 1 : Nat) : Int) := by simp
      rw [ek]
      refine (markFieldS_own (A j) (B j) _ (xs[j]'hlt).2 (K + 1) _ hwb hKb HOK3.out).mono ?_
      rintro e w4 ⟨rfl, hok, hw⟩
      clear ek
      have HK2 : Hid (K + 1 + cntL cntF (xs[j]'hlt).2 = k + cntL cntSeg (xs.take (j + 1))) := by rw [HSN.out j hlt, HKE.out]; exact (by unfold cntSeg cntFs; omega : k + cntL cntSeg (xs.take j) + 1 + cntL cntF (xs[j]'hlt).2 = k + (cntL cntSeg (xs.take j) + cntSeg (xs[j]'hlt)))
      have HR4 := hide (hw.row HR3.out (by have := HEB.out.2.2; omega))
      have HW4 := hide ((HW.out.trans HW3.out).trans (hw.mono HEB.out.1 HEB.out.2.1))
      have HL4 : Hid (xs.length * 2 ≤ (cs.set (j * 2) (.string (markOf K))).length) := hide (by rw [List.length_set]; exact HLX.out)
      have HE4 : Hid (∀ i (h2 : i < xs.length), (cs.set (j * 2) (.string (markOf K)))[i * 2]? = some (.string (if i < j + 1 then markOf (k + cntL cntSeg (xs.take i)) else xs[i].1)) ∧ lo ≤ A i ∧ B i ≤ hi ∧ (B i ≤ g ∨ g < A i) ∧ ∃ u, (cs.set (j * 2) (.string (markOf K)))[i * 2 + 1]? = some u ∧ OFlds (A i) (B i) w4 u (if i < j + 1 then mkFs (k + cntL cntSeg (xs.take i) + 1) xs[i].2 else xs[i].2)) := by
        intro i h2
        obtain ⟨f0, f1, f2, f3, u, f4, f5⟩ := HEX.out i h2
        have hlx := HLX.out
        by_cases hij : i = j
        · subst hij
          rw [if_pos (by omega), if_pos (by omega), List.getElem?_set_self (by omega), List.getElem?_set_ne (by omega)]
          rw [← HKE.out]
          exact ⟨rfl, f1, f2, f3, _, HU.out, hok⟩
        · have hd : B i ≤ A j ∨ B j ≤ A i := by
            rcases Nat.lt_or_gt_of_ne hij with h | h
            · exact .inl (HD.out i j h hlt)
            · exact .inr (HD.out j i h h2)
          rw [List.getElem?_set_ne (by omega), List.getElem?_set_ne (by omega)]
          have hk5 := Keeps.go (hw.same hd) (Keeps.go (HS3.out (A i) (B i) f3) f5)
          by_cases h : i < j
          · rw [if_pos h] at f0 hk5
            rw [if_pos (by omega), if_pos (by omega)]
            exact ⟨f0, f1, f2, f3, u, f4, hk5⟩
          · rw [if_neg h] at f0 hk5
            rw [if_neg (by omega), if_neg (by omega)]
            exact ⟨f0, f1, f2, f3, u, f4, hk5⟩
      clear hok hw
      go_wp2
      go_roundw
      case rel => exact ⟨_, j + 1, _, _, rfl, by omega, by go_num, rfl, HK2, HR4, HL4, HE4, HW4⟩
      case measure => simp [intOf]; omega
    · have hje : j = xs.length := by omega
      have HKF : Hid (K = k + cntSegs xs) := by have := HKE.out; rw [List.take_of_length_le (by omega)] at this; exact this
      have hml := mkL_len cntSeg mkSeg xs k
      have HF : Hid (OSegs lo hi X (.slice (some ⟨g, 0, none⟩) xs.length cap) (mkSegs k xs)) := by
        refine ⟨_, cap, ?_, ?_, HCP.out.2, fun _ => ⟨g, cs, A, B, rfl, HG.out.1, HG.out.2, HRX.out, ?_, fun i h2 => ?_, fun i j h1 h2 => HD.out i j h1 (by unfold mkSegs at h2; rw [hml] at h2; exact h2)⟩⟩
        · unfold mkSegs; rw [hml]
        · unfold mkSegs; rw [hml]; exact HCP.out.1
        · unfold mkSegs; rw [hml]; exact HLX.out
        · have h3 : i < xs.length := by unfold mkSegs at h2; rw [hml] at h2; exact h2
          obtain ⟨f0, f1, f2, f3, u, f4, f5⟩ := HEX.out i h3
          rw [if_pos (by omega)] at f0 f5
          have e : (mkSegs k xs)[i] = mkSeg (k + cntL cntSeg (xs.take i)) xs[i] := mkL_get cntSeg mkSeg xs k i h3 h2
          rw [e]
          refine ⟨f0, markOf_small _ ?_, f1, f2, f3, u, f4, f5⟩
          have h5 := HC.out i h3
          have h6 := HK.out
          omega
      clear hml
      go_wp2
      go_ret
      exact ⟨ret_int (by rw [HKF.out]), HF.out, HW.out⟩
set_option maxHeartbeats 1000000 in
theorem markMessage_own (lo hi : Nat) (n : ByteArray) (v : Value) (xs : List Seg) (k : Nat) (w : World) (hn : wSegs xs ≤ 1048576) (hk : k + wSegs xs ≤ 4000000) (hr : OSegs lo hi w v xs) :
    Calls Tryz.prog 14 #[.agg #[.string n, v], .int .i64 (k : Int)] w fun e w' => e = .returned (.int .i64 ((k + cntSegs xs : Nat) : Int)) ∧ OSegs lo hi w' v (mkSegs k xs) ∧ Within lo hi w w' := by
  obtain ⟨p, c, rfl⟩ := hr.isSlice
  have hb0 : Below w.heap.size w (w.alloc (.cells #[.string n, .slice p xs.length c] 35)) := (Below.refl _ _).alloc (Nat.le_refl _) _
  have HB0 := hide hb0
  have HR := hide (hr.keep (SameIn.ofBelow hb0))
  clear hr hb0
  go_enter Tryz.func14, Tryz.ntmps14
  go_wp2_with fail
  refine (markSegmentS_own lo hi _ xs k _ hn hk HR.out).mono ?_
  rintro e w1 ⟨rfl, hok, hw⟩
  have HO := hide hok
  have HW := hide ((Within.ofBelow HB0.out).trans hw)
  clear hok hw
  go_wp2
  go_ret
  exact ⟨rfl, HO.out, HW.out⟩
set_option maxHeartbeats 2000000 in
theorem toSegment_own (n : ByteArray) (u : Value) (x : List (List (List (List ByteArray)))) (w : World) (hn : wFlds x ≤ 1048576) (hr : RFlds 0 w u x) :
    Calls Tryz.prog 62 #[.agg #[.string n, u]] w fun e w' => ∃ p c, e = .returned (.agg #[.string n, .slice p x.length c]) ∧ OFlds w.heap.size w'.heap.size w' (.slice p x.length c) x ∧ Below w.heap.size w w' := by
  obtain ⟨p, c, rfl⟩ := hr.isSlice
  obtain ⟨W, hW⟩ : ∃ W, W = (((w.alloc (.cells #[.string n, .slice p x.length c] 79)).alloc (.cells #[.string ⟨#[]⟩, .slice none 0 0] 83)).alloc (.cells #[.string n, .slice none 0 0] 83)) := ⟨_, rfl⟩
  have hb0 : Below w.heap.size w W := by rw [hW]; exact (((Below.refl _ _).alloc (Nat.le_refl _) _).alloc (by simp) _).alloc (by simp; omega) _
  have HR := hide (hr.below hb0)
  have HB0 := hide hb0
  have R1 : Row W (w.heap.size + 1) 83 [.string ⟨#[]⟩, .slice none 0 0] := by
    rw [hW]
    have := (row_new (w.alloc (.cells #[.string n, .slice p x.length c] 79)) [.string ⟨#[]⟩, .slice none 0 0] 83).alloc (.cells #[.string n, .slice none 0 0] 83)
    simpa using this
  have R2 : Row W (w.heap.size + 2) 83 [.string n, .slice none 0 0] := by
    rw [hW]
    have := row_new ((w.alloc (.cells #[.string n, .slice p x.length c] 79)).alloc (.cells #[.string ⟨#[]⟩, .slice none 0 0] 83)) [.string n, .slice none 0 0] 83
    simpa using this
  have hsz : W.heap.size = w.heap.size + 3 := by rw [hW]; simp
  clear hr hb0
  go_enter Tryz.func62, Tryz.ntmps62
  go_wp2_with fail
  rw [← hW]
  refine (toFieldS_own _ x _ hn HR.out).mono ?_
  rintro e w1 ⟨p1, c1, rfl, hr1, hb1⟩
  clear hW
  have r1 := R1.below hb1 (by omega)
  have r2 := R2.below hb1 (by omega)
  have f2 : w1.cell? ⟨w.heap.size + 2, 1, none⟩ = some (.slice none 0 0) := r2.cell 1
  have z2 := r2.free 1
  have s2 := r2.set (j := 1) (.slice p1 x.length c1)
  have s1 := r1.other (b := w.heap.size + 2) (j := 1) (by omega) (.slice p1 x.length c1)
  have g2 : (w1.setCell ⟨w.heap.size + 2, 1, none⟩ (.slice p1 x.length c1)).cell? ⟨w.heap.size + 2, 1, none⟩ = some (.slice p1 x.length c1) := s2.cell 1
  have g20 : (w1.setCell ⟨w.heap.size + 2, 1, none⟩ (.slice p1 x.length c1)).cell? ⟨w.heap.size + 2, 0, none⟩ = some (.string n) := s2.cell 0
  have g1 : (w1.setCell ⟨w.heap.size + 2, 1, none⟩ (.slice p1 x.length c1)).cell? ⟨w.heap.size + 1, 0, none⟩ = some (.string ⟨#[]⟩) := s1.cell 0
  have g11 : (w1.setCell ⟨w.heap.size + 2, 1, none⟩ (.slice p1 x.length c1)).cell? ⟨w.heap.size + 1, 1, none⟩ = some (.slice none 0 0) := s1.cell 1
  have z1 := s1.free 0
  have z11 := s1.free 1
  have t1 := (s1.set (j := 0) (.string n)).set (j := 1) (.slice p1 x.length c1)
  have q0 : (((w1.setCell ⟨w.heap.size + 2, 1, none⟩ (.slice p1 x.length c1)).setCell ⟨w.heap.size + 1, 0, none⟩ (.string n)).setCell ⟨w.heap.size + 1, 1, none⟩ (.slice p1 x.length c1)).cell? ⟨w.heap.size + 1, 0, none⟩ = some (.string n) := t1.cell 0
  have q1 : (((w1.setCell ⟨w.heap.size + 2, 1, none⟩ (.slice p1 x.length c1)).setCell ⟨w.heap.size + 1, 0, none⟩ (.string n)).setCell ⟨w.heap.size + 1, 1, none⟩ (.slice p1 x.length c1)).cell? ⟨w.heap.size + 1, 1, none⟩ = some (.slice p1 x.length c1) := t1.cell 1
  rw [hsz] at hr1
  have hw1 : w.heap.size + 3 ≤ w1.heap.size := by rw [← hsz]; exact hb1.size
  have es : (((w1.setCell ⟨w.heap.size + 2, 1, none⟩ (.slice p1 x.length c1)).setCell ⟨w.heap.size + 1, 0, none⟩ (.string n)).setCell ⟨w.heap.size + 1, 1, none⟩ (.slice p1 x.length c1)).heap.size = w1.heap.size := by simp [World.setCell]
  have HRE : Hid (OFlds w.heap.size (((w1.setCell ⟨w.heap.size + 2, 1, none⟩ (.slice p1 x.length c1)).setCell ⟨w.heap.size + 1, 0, none⟩ (.string n)).setCell ⟨w.heap.size + 1, 1, none⟩ (.slice p1 x.length c1)).heap.size (((w1.setCell ⟨w.heap.size + 2, 1, none⟩ (.slice p1 x.length c1)).setCell ⟨w.heap.size + 1, 0, none⟩ (.string n)).setCell ⟨w.heap.size + 1, 1, none⟩ (.slice p1 x.length c1)) (.slice p1 x.length c1) x) := hide (by
    rw [es]
    exact Keeps.wide (by omega : w.heap.size ≤ w.heap.size + 3) (Nat.le_refl _) (Keeps.go (SameIn.set _ _ (by omega)) (Keeps.go (SameIn.set _ _ (by omega)) (Keeps.go (SameIn.set w1 (g := w.heap.size + 2) (j := 1) (.slice p1 x.length c1) (by omega)) hr1))))
  have HBE := hide ((((HB0.out.trans (hb1.mono (by omega))).setCell (p := ⟨w.heap.size + 2, 1, none⟩) (by show w.heap.size ≤ w.heap.size + 2; omega) (.slice p1 x.length c1)).setCell (p := ⟨w.heap.size + 1, 0, none⟩) (by show w.heap.size ≤ w.heap.size + 1; omega) (.string n)).setCell (p := ⟨w.heap.size + 1, 1, none⟩) (by show w.heap.size ≤ w.heap.size + 1; omega) (.slice p1 x.length c1))
  clear hr1 hb1 r1 r2 s1 s2 t1 es hw1
  go_wp2
  exact bodyPost_ret (v := .agg #[.string n, .slice p1 x.length c1]) (by simp [results, Tryz.results62, go_sem, q0, q1]) rfl ⟨_, _, rfl, HRE.out, HBE.out⟩

set_option maxHeartbeats 4000000 in
theorem toSegmentS_own (v : Value) (xs : List Seg) (w : World) (hn : wSegs xs ≤ 1048576) (hr : RSegs 0 w v xs) :
    Calls Tryz.prog 31 #[v] w fun e w' => ∃ p c, e = .returned (.slice p xs.length c) ∧ OSegs w.heap.size w'.heap.size w' (.slice p xs.length c) xs ∧ Below w.heap.size w w' := by
  obtain ⟨i0, hi, hz0, hz1, hz2⟩ := info_parts Tryz.infoSegment
  obtain ⟨hl, hm⟩ := wSegs_mem hn
  have HM := hide hm
  clear hn hm
  obtain ⟨p, cap, rfl, h1, h2, h4⟩ := hr
  have H4 := hide h4
  clear h4
  go_enter Tryz.func31, Tryz.ntmps31
  go_wp2_with (at_make; refine wpList_make_full _ rfl _ _ 33 rfl w.heap.size 83 i0 (.agg #[.string ⟨#[]⟩, .slice none 0 0]) 2 Tryz.underlying33 hi hz0 hz1 _ _ _ _ xs.length rfl rfl rfl rfl ?b2 ?b3 (Nat.le_refl _) ?_)
  case b2 => rw [hz2]; omega
  case b3 => unfold maxLen; omega
  intro w1 hown hgrow
  obtain ⟨Z, hZ, hZl⟩ := own_row hown
  have hb1 : Below w.heap.size w w1 := (Below.refl _ _).grown hgrow (Nat.le_refl _) (by simp)
  have HZ := hide hZ
  have HB := hide hb1
  have HL := hide hZl
  clear hZ hown hgrow hb1 hZl
  go_wp2_with fail
  go_loopw [4] (fun i wr => ∃ (X : World) (k : Nat) (cs : List Value), X = wr ∧ k ≤ xs.length ∧ i = .int .i64 k ∧ Hid (Row X w.heap.size 83 cs) ∧ Hid (Below w.heap.size w X) ∧ Hid (cs.length = xs.length * 2) ∧ Hid (w.heap.size + 1 ≤ X.heap.size) ∧ Hid (∃ A B : Nat → Nat, (∀ j (h2 : j < xs.length), j < k → cs[j * 2]? = some (.string xs[j].1) ∧ xs[j].1.size ≤ maxLen ∧ w.heap.size + 1 ≤ A j ∧ B j ≤ X.heap.size ∧ ∃ u, cs[j * 2 + 1]? = some u ∧ OFlds (A j) (B j) X u xs[j].2) ∧ ∀ i j, i < j → j < k → B i ≤ A j)) (fun i _ => xs.length - (intOf i).toNat)
  case atStart => exact ⟨_, 0, Z, rfl, Nat.zero_le _, rfl, HZ, HB, HL, hide (by have := HZ.out.lt; exact this), hide ⟨fun _ => 0, fun _ => 0, fun j _ h1 => absurd h1 (by omega), fun i j _ h => absurd h (by omega)⟩⟩
  case round =>
    obtain ⟨X, k, cs, rfl, hk, rfl, HRow, HBel, HLn, HSz, HEl⟩ := hrel
    by_cases hlt : k < xs.length
    · obtain ⟨g, off, hp, hg, _, hc⟩ := H4.out (by omega)
      subst hp
      obtain ⟨ha, hns, u, hu, hru⟩ := hc k hlt
      have hk0 := (HBel.out.cell (p := ⟨g, off + k * 2, none⟩) hg).trans ha
      have hk1 := (HBel.out.cell (p := ⟨g, off + k * 2 + 1, none⟩) hg).trans hu
      have HRU := hide (hru.below HBel.out)
      obtain ⟨up, uc, rfl⟩ := hru.isSlice
      have HNS := hide hns
      have hlt0 := HRow.out.lt
      clear hu hru hc ha hns
      go_wp2_with fail
      refine (toSegment_own (xs[k]'hlt).1 _ (xs[k]'hlt).2 _ (HM.out k hlt).1 HRU.out).mono ?_
      rintro e w2 ⟨p2, c2, rfl, hr2, hb2⟩
      have row2 := HRow.out.below hb2 hlt0
      obtain ⟨z0, hz0'⟩ := row2.some (k * 2) (by rw [HLn.out]; omega)
      obtain ⟨z1, hz1'⟩ := row2.some (k * 2 + 1) (by rw [HLn.out]; omega)
      have hf0 := row2.free (k * 2)
      have hf1 := row2.free (k * 2 + 1)
      have hnext := (row2.set (j := k * 2) (.string (xs[k]'hlt).1)).set (j := k * 2 + 1) (.slice p2 (xs[k]'hlt).2.length c2)
      have HN := hide hnext
      have HMB := hide (((HBel.out.trans (hb2.mono HBel.out.size)).setCell (p := ⟨w.heap.size, k * 2, none⟩) (Nat.le_refl _) (.string (xs[k]'hlt).1)).setCell (p := ⟨w.heap.size, k * 2 + 1, none⟩) (Nat.le_refl _) (.slice p2 (xs[k]'hlt).2.length c2))
      have HLn2 : Hid (((cs.set (k * 2) (.string (xs[k]'hlt).1)).set (k * 2 + 1) (.slice p2 (xs[k]'hlt).2.length c2)).length = xs.length * 2) := by rw [List.length_set, List.length_set]; exact HLn
      have es : ((w2.setCell ⟨w.heap.size, k * 2, none⟩ (.string (xs[k]'hlt).1)).setCell ⟨w.heap.size, k * 2 + 1, none⟩ (.slice p2 (xs[k]'hlt).2.length c2)).heap.size = w2.heap.size := by simp [World.setCell]
      have hXs := HSz.out
      have hXw := hb2.size
      have HSz2 : Hid (w.heap.size + 1 ≤ ((w2.setCell ⟨w.heap.size, k * 2, none⟩ (.string (xs[k]'hlt).1)).setCell ⟨w.heap.size, k * 2 + 1, none⟩ (.slice p2 (xs[k]'hlt).2.length c2)).heap.size) := hide (by rw [es]; omega)
      have HEl2 : Hid (∃ A B : Nat → Nat, (∀ j (h2 : j < xs.length), j < k + 1 → ((cs.set (k * 2) (.string (xs[k]'hlt).1)).set (k * 2 + 1) (.slice p2 (xs[k]'hlt).2.length c2))[j * 2]? = some (.string xs[j].1) ∧ xs[j].1.size ≤ maxLen ∧ w.heap.size + 1 ≤ A j ∧ B j ≤ ((w2.setCell ⟨w.heap.size, k * 2, none⟩ (.string (xs[k]'hlt).1)).setCell ⟨w.heap.size, k * 2 + 1, none⟩ (.slice p2 (xs[k]'hlt).2.length c2)).heap.size ∧ ∃ u, ((cs.set (k * 2) (.string (xs[k]'hlt).1)).set (k * 2 + 1) (.slice p2 (xs[k]'hlt).2.length c2))[j * 2 + 1]? = some u ∧ OFlds (A j) (B j) ((w2.setCell ⟨w.heap.size, k * 2, none⟩ (.string (xs[k]'hlt).1)).setCell ⟨w.heap.size, k * 2 + 1, none⟩ (.slice p2 (xs[k]'hlt).2.length c2)) u xs[j].2) ∧ ∀ i j, i < j → j < k + 1 → B i ≤ A j) := by
        obtain ⟨A, B, hE, hD⟩ := HEl.out
        have hll := HLn.out
        refine ⟨fun i => if i = k then X.heap.size else A i, fun i => if i = k then w2.heap.size else B i, fun j h2 h3 => ?_, fun i j hij hj => ?_⟩
        · rw [es]
          dsimp only
          by_cases hj : j = k
          · subst hj
            rw [if_pos rfl, if_pos rfl]
            refine ⟨?_, HNS.out, hXs, Nat.le_refl _, .slice p2 (xs[j]'hlt).2.length c2, ?_, Keeps.go (SameIn.set _ _ (by omega)) (Keeps.go (SameIn.set _ _ (by omega)) hr2)⟩
            · rw [List.getElem?_set_ne (by omega), List.getElem?_set_self (by omega)]
            · rw [List.getElem?_set_self (by rw [List.length_set]; omega)]
          · obtain ⟨e1, e2, f1, f2, u, e3, e4⟩ := hE j h2 (by omega)
            rw [if_neg hj, if_neg hj]
            refine ⟨?_, e2, f1, by omega, u, ?_, Keeps.go (SameIn.set _ _ (by omega)) (Keeps.go (SameIn.set _ _ (by omega)) (Keeps.go (SameIn.ofBelow hb2) e4))⟩
            · rw [List.getElem?_set_ne (by omega), List.getElem?_set_ne (by omega)]; exact e1
            · rw [List.getElem?_set_ne (by omega), List.getElem?_set_ne (by omega)]; exact e3
        · obtain ⟨e1, e2, f1, f2, u, e3, e4⟩ := hE i (by omega) (by omega)
          dsimp only
          by_cases hjk : j = k
          · rw [if_pos hjk, if_neg (by omega)]; omega
          · rw [if_neg hjk, if_neg (by omega)]; exact hD i j hij (by omega)
      clear hnext row2 hr2 hb2 hlt0 hk0 hk1 es hXs hXw
      go_wp2
      go_roundw
      case rel => exact ⟨_, k + 1, _, rfl, by omega, by go_num, HN, HMB, HLn2, HSz2, HEl2⟩
      case measure => simp [intOf]; omega
    · have HE : Hid (OSegs w.heap.size X.heap.size X (.slice (some ⟨w.heap.size, 0, none⟩) xs.length xs.length) xs) := by
        obtain ⟨A, B, hE, hD⟩ := HEl.out
        refine ⟨_, _, rfl, Nat.le_refl _, by unfold maxLen; omega, fun _ => ⟨w.heap.size, cs, A, B, rfl, Nat.le_refl _, HSz.out, HRow.out, by rw [HLn.out]; omega, fun i hi => ?_, fun i j h1 h2 => hD i j h1 (by omega)⟩⟩
        obtain ⟨e1, e2, f1, f2, u, e3, e4⟩ := hE i hi (by omega)
        exact ⟨e1, e2, by omega, f2, .inr (by omega), u, e3, e4⟩
      go_wp2
      go_ret
      exact ⟨_, _, rfl, HE.out, HBel.out⟩
set_option maxHeartbeats 2000000 in
theorem toMessage_own (n : ByteArray) (u : Value) (x : List Seg) (w : World) (hn : wSegs x ≤ 1048576) (hr : RSegs 0 w u x) :
    Calls Tryz.prog 9 #[.agg #[.string n, u]] w fun e w' => ∃ p c, e = .returned (.agg #[.string n, .slice p x.length c]) ∧ OSegs w.heap.size w'.heap.size w' (.slice p x.length c) x ∧ Below w.heap.size w w' := by
  obtain ⟨p, c, rfl⟩ := hr.isSlice
  obtain ⟨W, hW⟩ : ∃ W, W = (((w.alloc (.cells #[.string n, .slice p x.length c] 24)).alloc (.cells #[.string ⟨#[]⟩, .slice none 0 0] 35)).alloc (.cells #[.string n, .slice none 0 0] 35)) := ⟨_, rfl⟩
  have hb0 : Below w.heap.size w W := by rw [hW]; exact (((Below.refl _ _).alloc (Nat.le_refl _) _).alloc (by simp) _).alloc (by simp; omega) _
  have HR := hide (hr.below hb0)
  have HB0 := hide hb0
  have R1 : Row W (w.heap.size + 1) 35 [.string ⟨#[]⟩, .slice none 0 0] := by
    rw [hW]
    have := (row_new (w.alloc (.cells #[.string n, .slice p x.length c] 24)) [.string ⟨#[]⟩, .slice none 0 0] 35).alloc (.cells #[.string n, .slice none 0 0] 35)
    simpa using this
  have R2 : Row W (w.heap.size + 2) 35 [.string n, .slice none 0 0] := by
    rw [hW]
    have := row_new ((w.alloc (.cells #[.string n, .slice p x.length c] 24)).alloc (.cells #[.string ⟨#[]⟩, .slice none 0 0] 35)) [.string n, .slice none 0 0] 35
    simpa using this
  have hsz : W.heap.size = w.heap.size + 3 := by rw [hW]; simp
  clear hr hb0
  go_enter Tryz.func9, Tryz.ntmps9
  go_wp2_with fail
  rw [← hW]
  refine (toSegmentS_own _ x _ hn HR.out).mono ?_
  rintro e w1 ⟨p1, c1, rfl, hr1, hb1⟩
  clear hW
  have r1 := R1.below hb1 (by omega)
  have r2 := R2.below hb1 (by omega)
  have f2 : w1.cell? ⟨w.heap.size + 2, 1, none⟩ = some (.slice none 0 0) := r2.cell 1
  have z2 := r2.free 1
  have s2 := r2.set (j := 1) (.slice p1 x.length c1)
  have s1 := r1.other (b := w.heap.size + 2) (j := 1) (by omega) (.slice p1 x.length c1)
  have g2 : (w1.setCell ⟨w.heap.size + 2, 1, none⟩ (.slice p1 x.length c1)).cell? ⟨w.heap.size + 2, 1, none⟩ = some (.slice p1 x.length c1) := s2.cell 1
  have g20 : (w1.setCell ⟨w.heap.size + 2, 1, none⟩ (.slice p1 x.length c1)).cell? ⟨w.heap.size + 2, 0, none⟩ = some (.string n) := s2.cell 0
  have g1 : (w1.setCell ⟨w.heap.size + 2, 1, none⟩ (.slice p1 x.length c1)).cell? ⟨w.heap.size + 1, 0, none⟩ = some (.string ⟨#[]⟩) := s1.cell 0
  have g11 : (w1.setCell ⟨w.heap.size + 2, 1, none⟩ (.slice p1 x.length c1)).cell? ⟨w.heap.size + 1, 1, none⟩ = some (.slice none 0 0) := s1.cell 1
  have z1 := s1.free 0
  have z11 := s1.free 1
  have t1 := (s1.set (j := 0) (.string n)).set (j := 1) (.slice p1 x.length c1)
  have q0 : (((w1.setCell ⟨w.heap.size + 2, 1, none⟩ (.slice p1 x.length c1)).setCell ⟨w.heap.size + 1, 0, none⟩ (.string n)).setCell ⟨w.heap.size + 1, 1, none⟩ (.slice p1 x.length c1)).cell? ⟨w.heap.size + 1, 0, none⟩ = some (.string n) := t1.cell 0
  have q1 : (((w1.setCell ⟨w.heap.size + 2, 1, none⟩ (.slice p1 x.length c1)).setCell ⟨w.heap.size + 1, 0, none⟩ (.string n)).setCell ⟨w.heap.size + 1, 1, none⟩ (.slice p1 x.length c1)).cell? ⟨w.heap.size + 1, 1, none⟩ = some (.slice p1 x.length c1) := t1.cell 1
  rw [hsz] at hr1
  have hw1 : w.heap.size + 3 ≤ w1.heap.size := by rw [← hsz]; exact hb1.size
  have es : (((w1.setCell ⟨w.heap.size + 2, 1, none⟩ (.slice p1 x.length c1)).setCell ⟨w.heap.size + 1, 0, none⟩ (.string n)).setCell ⟨w.heap.size + 1, 1, none⟩ (.slice p1 x.length c1)).heap.size = w1.heap.size := by simp [World.setCell]
  have HRE : Hid (OSegs w.heap.size (((w1.setCell ⟨w.heap.size + 2, 1, none⟩ (.slice p1 x.length c1)).setCell ⟨w.heap.size + 1, 0, none⟩ (.string n)).setCell ⟨w.heap.size + 1, 1, none⟩ (.slice p1 x.length c1)).heap.size (((w1.setCell ⟨w.heap.size + 2, 1, none⟩ (.slice p1 x.length c1)).setCell ⟨w.heap.size + 1, 0, none⟩ (.string n)).setCell ⟨w.heap.size + 1, 1, none⟩ (.slice p1 x.length c1)) (.slice p1 x.length c1) x) := hide (by
    rw [es]
    exact OSegs.wide (((hr1.keep (SameIn.set w1 (g := w.heap.size + 2) (j := 1) (.slice p1 x.length c1) (by omega))).keep (SameIn.set _ _ (by omega))).keep (SameIn.set _ _ (by omega))) (by omega : w.heap.size ≤ w.heap.size + 3) (Nat.le_refl _))
  have HBE := hide ((((HB0.out.trans (hb1.mono (by omega))).setCell (p := ⟨w.heap.size + 2, 1, none⟩) (by show w.heap.size ≤ w.heap.size + 2; omega) (.slice p1 x.length c1)).setCell (p := ⟨w.heap.size + 1, 0, none⟩) (by show w.heap.size ≤ w.heap.size + 1; omega) (.string n)).setCell (p := ⟨w.heap.size + 1, 1, none⟩) (by show w.heap.size ≤ w.heap.size + 1; omega) (.slice p1 x.length c1))
  clear hr1 hb1 r1 r2 s1 s2 t1 es hw1
  go_wp2
  exact bodyPost_ret (v := .agg #[.string n, .slice p1 x.length c1]) (by simp [results, Tryz.results9, go_sem, q0, q1]) rfl ⟨_, _, rfl, HRE.out, HBE.out⟩

end Go.Proofs.YtmkcmajpepehmaaGreat
/- FieldAt of the program and of the model. -/
namespace Go.Proofs.YtmkcmajpepehmaaGreat
open Go.RowKit
def fldOut (m : ByteArray) (x : List Seg) (q : PathM) : List (List (List ByteArray)) := if msgB m x && q.right then fldAt x q else []
theorem fldAt_small {x : List Seg} (h : wSegs x ≤ 1048576) (q : PathM) : wFld (fldAt x q) ≤ 1048576 := by
  have h1 : wFlds (fldsAt x (segIx x q.seg q.nth 0)) ≤ wSegs x := by
    unfold fldsAt
    rcases itemL_cases (x.map (·.2)) (segIx x q.seg q.nth 0) with e | e
    · rw [e]; exact Nat.zero_le _
    · obtain ⟨s, hs, e2⟩ := List.mem_map.1 e
      rw [← e2]
      have := wL_mem wSeg hs
      have h3 : wSegs x = wL wSeg x := rfl
      have h4 : wSeg s = s.1.size + wFlds s.2 := rfl
      omega
  have h2 : wFld (fldAt x q) ≤ wFlds (fldsAt x (segIx x q.seg q.nth 0)) := itemL_w wFld rfl _ _
  omega
theorem fldOut_small {m : ByteArray} {x : List Seg} (h : wSegs x ≤ 1048576) (q : PathM) : wFld (fldOut m x q) ≤ 1048576 := by
  unfold fldOut
  split
  · exact fldAt_small h q
  · exact Nat.zero_le _
set_option maxHeartbeats 4000000 in
set_option maxRecDepth 100000 in
theorem implFieldAt_any (m : ByteArray) (u : Value) (x : List Seg) (q : PathM) (w : World) (hm : m.size ≤ maxLen) (hw : wSegs x ≤ 1048576) (hr : RSegs 0 w u x) :
    Calls Tryz.prog 11 #[.agg #[.string m, u], q.v] w fun e w' => ∃ v, e = .returned (.agg #[v]) ∧ OFld w.heap.size w'.heap.size w' v (fldOut m x q) ∧ Below w.heap.size w w' := by
  have HR := hide hr
  have HMm := hide hm
  have HFF := hide (fitsM_of hw)
  have HWW := hide hw
  obtain ⟨p, c, rfl⟩ := hr.isSlice
  clear hr hm hw
  obtain ⟨W, hW⟩ : ∃ W, W = ((w.alloc (.cells #[.string m, .slice p x.length c] 35)).alloc (.cells #[.string q.seg, .int .i64 q.nth, .int .i64 q.fld, .int .i64 q.rep, .int .i64 q.comp, .int .i64 q.sub] 37)).alloc (.cells #[.slice none 0 0] 31) := ⟨_, rfl⟩
  have hB0 : Below w.heap.size w W := by rw [hW]; exact (((Below.refl _ _).alloc (Nat.le_refl _) _).alloc (by simp) _).alloc (by simp; omega) _
  have HB0 := hide hB0
  have HM : Hid (Row W w.heap.size 35 [.string m, .slice p x.length c]) := by rw [hW]; exact ((row_new w [.string m, .slice p x.length c] 35).alloc _).alloc _
  have HP : Hid (Row W (w.heap.size + 1) 37 [.string q.seg, .int .i64 q.nth, .int .i64 q.fld, .int .i64 q.rep, .int .i64 q.comp, .int .i64 q.sub]) := by
    rw [hW]
    have := (row_new (w.alloc (.cells #[.string m, .slice p x.length c] 35)) [.string q.seg, .int .i64 q.nth, .int .i64 q.fld, .int .i64 q.rep, .int .i64 q.comp, .int .i64 q.sub] 37).alloc (.cells #[.slice none 0 0] 31)
    exact hide (by simpa using this)
  have HZ : Hid (Row W (w.heap.size + 2) 31 [.slice none 0 0]) := by
    rw [hW]
    have := row_new ((w.alloc (.cells #[.string m, .slice p x.length c] 35)).alloc (.cells #[.string q.seg, .int .i64 q.nth, .int .i64 q.fld, .int .i64 q.rep, .int .i64 q.comp, .int .i64 q.sub] 37)) [.slice none 0 0] 31
    exact hide (by simpa using this)
  clear hB0
  have HV : Hid (q.v = .agg #[.string q.seg, .int .i64 q.nth, .int .i64 q.fld, .int .i64 q.rep, .int .i64 q.comp, .int .i64 q.sub]) := rfl
  rw [HV.out]
  go_enter Tryz.func11, Tryz.ntmps11
  go_wp2_with fail
  rw [← hW]
  clear hW
  obtain ⟨K1, hK1⟩ : ∃ K1, K1 = w.heap.size + 1 := ⟨_, rfl⟩
  obtain ⟨K2, hK2⟩ : ∃ K2, K2 = w.heap.size + 2 := ⟨_, rfl⟩
  have HKN := hide (show w.heap.size < K1 ∧ w.heap.size < K2 ∧ K1 ≠ K2 by omega)
  rw [show w.heap.size + 1 + 1 = w.heap.size + 2 from rfl]
  rw [← hK1] at HP ⊢
  rw [← hK2] at HZ ⊢
  clear hK1 hK2
  refine (implMessage_any m _ x _ HMm.out HFF.out (HR.out.below HB0.out)).mono ?_
  rintro e w1 ⟨rfl, hb1⟩
  have HB1 := hide (HB0.out.trans (hb1.mono HB0.out.size))
  have HM1 := hide (HM.out.below hb1 HM.out.lt)
  have HP1 := hide (HP.out.below hb1 HP.out.lt)
  have HZ1 := hide (HZ.out.below hb1 HZ.out.lt)
  clear hb1
  cases hmb : msgB m x
  · have HN := hide (show fldOut m x q = [] by simp [fldOut, hmb])
    have z0 : w1.cell? ⟨K2, 0, none⟩ = some (.slice none 0 0) := HZ1.out.cell 0
    have zf := HZ1.out.free 0
    have q1 : (w1.setCell ⟨K2, 0, none⟩ (.slice none 0 0)).cell? ⟨K2, 0, none⟩ = some (.slice none 0 0) := (HZ1.out.set (j := 0) (.slice none 0 0)).cell 0
    have HBE := hide (HB1.out.setCell (p := ⟨K2, 0, none⟩) (Nat.le_of_lt HKN.out.2.1) (.slice none 0 0))
    go_wp2
    exact bodyPost_ret (v := .agg #[.slice none 0 0]) (by simp [results, Tryz.results11, go_sem, q1]) rfl ⟨_, rfl, by rw [HN.out]; exact ⟨none, 0, rfl, Nat.le_refl _, by unfold maxLen; omega, fun h => absurd h (by simp)⟩, HBE.out⟩
  have a0 : w1.cell? ⟨K1, 0, none⟩ = some (.string q.seg) := HP1.out.cell 0
  have a1 : w1.cell? ⟨K1, 1, none⟩ = some (.int .i64 q.nth) := HP1.out.cell 1
  have a2 : w1.cell? ⟨K1, 2, none⟩ = some (.int .i64 q.fld) := HP1.out.cell 2
  have a3 : w1.cell? ⟨K1, 3, none⟩ = some (.int .i64 q.rep) := HP1.out.cell 3
  have a4 : w1.cell? ⟨K1, 4, none⟩ = some (.int .i64 q.comp) := HP1.out.cell 4
  have a5 : w1.cell? ⟨K1, 5, none⟩ = some (.int .i64 q.sub) := HP1.out.cell 5
  go_wp2_with fail
  rw [← HV.out]
  refine (implPathRight_any q _).mono ?_
  rintro e w2 ⟨rfl, hb2⟩
  have HB2 := hide (HB1.out.trans (hb2.mono HB1.out.size))
  have HM2 := hide (HM1.out.below hb2 HM1.out.lt)
  have HP2 := hide (HP1.out.below hb2 HP1.out.lt)
  have HZ2 := hide (HZ1.out.below hb2 HZ1.out.lt)
  clear hb2 a0 a1 a2 a3 a4 a5 HM1 HP1 HB1
  cases hq : q.right
  · have HN := hide (show fldOut m x q = [] by simp [fldOut, hq])
    have z0 : w2.cell? ⟨K2, 0, none⟩ = some (.slice none 0 0) := HZ2.out.cell 0
    have zf := HZ2.out.free 0
    have q1 : (w2.setCell ⟨K2, 0, none⟩ (.slice none 0 0)).cell? ⟨K2, 0, none⟩ = some (.slice none 0 0) := (HZ2.out.set (j := 0) (.slice none 0 0)).cell 0
    have HBE := hide (HB2.out.setCell (p := ⟨K2, 0, none⟩) (Nat.le_of_lt HKN.out.2.1) (.slice none 0 0))
    go_wp2
    exact bodyPost_ret (v := .agg #[.slice none 0 0]) (by simp [results, Tryz.results11, go_sem, q1]) rfl ⟨_, rfl, by rw [HN.out]; exact ⟨none, 0, rfl, Nat.le_refl _, by unfold maxLen; omega, fun h => absurd h (by simp)⟩, HBE.out⟩
  have HY := hide (show fldOut m x q = fldAt x q by simp [fldOut, hq, hmb])
  have HQ := hide hq
  clear hmb hq
  have b0 : w2.cell? ⟨w.heap.size, 0, none⟩ = some (.string m) := HM2.out.cell 0
  have b1 : w2.cell? ⟨w.heap.size, 1, none⟩ = some (.slice p x.length c) := HM2.out.cell 1
  have e0 : w2.cell? ⟨K1, 0, none⟩ = some (.string q.seg) := HP2.out.cell 0
  have e1 : w2.cell? ⟨K1, 1, none⟩ = some (.int .i64 q.nth) := HP2.out.cell 1
  have e2 : w2.cell? ⟨K1, 2, none⟩ = some (.int .i64 q.fld) := HP2.out.cell 2
  have e3 : w2.cell? ⟨K1, 3, none⟩ = some (.int .i64 q.rep) := HP2.out.cell 3
  have e4 : w2.cell? ⟨K1, 4, none⟩ = some (.int .i64 q.comp) := HP2.out.cell 4
  have e5 : w2.cell? ⟨K1, 5, none⟩ = some (.int .i64 q.sub) := HP2.out.cell 5
  go_wp2_with fail
  rw [← HV.out]
  refine (fieldThere_from m _ x q w _ HB2.out HQ.out HFF.out.1 HR.out).mono ?_
  rintro e w3 ⟨⟨p3, c3, rfl, hf3⟩, hb3⟩
  have HB3 := hide (HB2.out.trans (hb3.mono HB2.out.size))
  have HZ3 := hide (HZ2.out.below hb3 HZ2.out.lt)
  have HF3 := hide (show RFld 0 w3 (.slice p3 (fldAt x q).length c3) (fldAt x q) from RL.below hf3 HB3.out)
  clear hb3 hf3 b0 b1 e0 e1 e2 e3 e4 e5
  go_wp2_with fail
  refine (copyField_any _ (fldAt x q) _ (fldAt_small HWW.out q) HF3.out).mono ?_
  rintro e w4 ⟨p4, c4, rfl, ho4, hb4⟩
  have row4 := HZ3.out.below hb4 HZ3.out.lt
  have z0 : w4.cell? ⟨K2, 0, none⟩ = some (.slice none 0 0) := row4.cell 0
  have zf := row4.free 0
  have q1 : (w4.setCell ⟨K2, 0, none⟩ (.slice p4 (fldAt x q).length c4)).cell? ⟨K2, 0, none⟩ = some (.slice p4 (fldAt x q).length c4) := (row4.set (j := 0) (.slice p4 (fldAt x q).length c4)).cell 0
  have hk3 := HZ3.out.lt
  have es : (w4.setCell ⟨K2, 0, none⟩ (.slice p4 (fldAt x q).length c4)).heap.size = w4.heap.size := by simp [World.setCell]
  have HBE := hide ((HB3.out.trans (hb4.mono HB3.out.size)).setCell (p := ⟨K2, 0, none⟩) (Nat.le_of_lt HKN.out.2.1) (.slice p4 (fldAt x q).length c4))
  have HOE : Hid (OFld w.heap.size (w4.setCell ⟨K2, 0, none⟩ (.slice p4 (fldAt x q).length c4)).heap.size (w4.setCell ⟨K2, 0, none⟩ (.slice p4 (fldAt x q).length c4)) (.slice p4 (fldAt x q).length c4) (fldOut m x q)) := hide (by
    rw [es, HY.out]
    exact Keeps.wide HB3.out.size (Nat.le_refl _) (Keeps.go (SameIn.set _ _ (by omega)) ho4))
  clear ho4 hb4 row4 es
  go_wp2
  exact bodyPost_ret (v := .agg #[.slice p4 (fldAt x q).length c4]) (by simp [results, Tryz.results11, go_sem, q1]) rfl ⟨_, rfl, HOE.out, HBE.out⟩
set_option maxHeartbeats 4000000 in
set_option maxRecDepth 100000 in
theorem specFieldAt_any (m : ByteArray) (u : Value) (x : List Seg) (q : PathM) (w : World) (hm : m.size ≤ maxLen) (hw : wSegs x ≤ 1048576) (hr : RSegs 0 w u x) :
    Calls Tryz.prog 8 #[.agg #[.string m, u], q.v] w fun e w' => ∃ v, e = .returned (.agg #[v]) ∧ OFld w.heap.size w'.heap.size w' v (fldOut m x q) ∧ Below w.heap.size w w' := by
  have HR := hide hr
  have HMm := hide hm
  have HFF := hide (fitsM_of hw)
  have HWW := hide hw
  obtain ⟨p, c, rfl⟩ := hr.isSlice
  clear hr hm hw
  obtain ⟨W, hW⟩ : ∃ W, W = ((w.alloc (.cells #[.string m, .slice p x.length c] 35)).alloc (.cells #[.string q.seg, .int .i64 q.nth, .int .i64 q.fld, .int .i64 q.rep, .int .i64 q.comp, .int .i64 q.sub] 37)).alloc (.cells #[.slice none 0 0] 31) := ⟨_, rfl⟩
  have hB0 : Below w.heap.size w W := by rw [hW]; exact (((Below.refl _ _).alloc (Nat.le_refl _) _).alloc (by simp) _).alloc (by simp; omega) _
  have HB0 := hide hB0
  have HM : Hid (Row W w.heap.size 35 [.string m, .slice p x.length c]) := by rw [hW]; exact ((row_new w [.string m, .slice p x.length c] 35).alloc _).alloc _
  have HP : Hid (Row W (w.heap.size + 1) 37 [.string q.seg, .int .i64 q.nth, .int .i64 q.fld, .int .i64 q.rep, .int .i64 q.comp, .int .i64 q.sub]) := by
    rw [hW]
    have := (row_new (w.alloc (.cells #[.string m, .slice p x.length c] 35)) [.string q.seg, .int .i64 q.nth, .int .i64 q.fld, .int .i64 q.rep, .int .i64 q.comp, .int .i64 q.sub] 37).alloc (.cells #[.slice none 0 0] 31)
    exact hide (by simpa using this)
  have HZ : Hid (Row W (w.heap.size + 2) 31 [.slice none 0 0]) := by
    rw [hW]
    have := row_new ((w.alloc (.cells #[.string m, .slice p x.length c] 35)).alloc (.cells #[.string q.seg, .int .i64 q.nth, .int .i64 q.fld, .int .i64 q.rep, .int .i64 q.comp, .int .i64 q.sub] 37)) [.slice none 0 0] 31
    exact hide (by simpa using this)
  clear hB0
  have HV : Hid (q.v = .agg #[.string q.seg, .int .i64 q.nth, .int .i64 q.fld, .int .i64 q.rep, .int .i64 q.comp, .int .i64 q.sub]) := rfl
  rw [HV.out]
  go_enter Tryz.func8, Tryz.ntmps8
  go_wp2_with fail
  rw [← hW]
  clear hW
  obtain ⟨K1, hK1⟩ : ∃ K1, K1 = w.heap.size + 1 := ⟨_, rfl⟩
  obtain ⟨K2, hK2⟩ : ∃ K2, K2 = w.heap.size + 2 := ⟨_, rfl⟩
  have HKN := hide (show w.heap.size < K1 ∧ w.heap.size < K2 ∧ K1 ≠ K2 by omega)
  rw [show w.heap.size + 1 + 1 = w.heap.size + 2 from rfl]
  rw [← hK1] at HP ⊢
  rw [← hK2] at HZ ⊢
  clear hK1 hK2
  refine (specMessage_any m _ x 0 _ HMm.out HFF.out (HR.out.below HB0.out)).mono ?_
  rintro e w1 ⟨rfl, hb1⟩
  have HB1 := hide (HB0.out.trans (hb1.mono HB0.out.size))
  have HM1 := hide (HM.out.below hb1 HM.out.lt)
  have HP1 := hide (HP.out.below hb1 HP.out.lt)
  have HZ1 := hide (HZ.out.below hb1 HZ.out.lt)
  clear hb1
  cases hmb : msgB m x
  · have HN := hide (show fldOut m x q = [] by simp [fldOut, hmb])
    have z0 : w1.cell? ⟨K2, 0, none⟩ = some (.slice none 0 0) := HZ1.out.cell 0
    have zf := HZ1.out.free 0
    have q1 : (w1.setCell ⟨K2, 0, none⟩ (.slice none 0 0)).cell? ⟨K2, 0, none⟩ = some (.slice none 0 0) := (HZ1.out.set (j := 0) (.slice none 0 0)).cell 0
    have HBE := hide (HB1.out.setCell (p := ⟨K2, 0, none⟩) (Nat.le_of_lt HKN.out.2.1) (.slice none 0 0))
    go_wp2
    exact bodyPost_ret (v := .agg #[.slice none 0 0]) (by simp [results, Tryz.results8, go_sem, q1]) rfl ⟨_, rfl, by rw [HN.out]; exact ⟨none, 0, rfl, Nat.le_refl _, by unfold maxLen; omega, fun h => absurd h (by simp)⟩, HBE.out⟩
  have a0 : w1.cell? ⟨K1, 0, none⟩ = some (.string q.seg) := HP1.out.cell 0
  have a1 : w1.cell? ⟨K1, 1, none⟩ = some (.int .i64 q.nth) := HP1.out.cell 1
  have a2 : w1.cell? ⟨K1, 2, none⟩ = some (.int .i64 q.fld) := HP1.out.cell 2
  have a3 : w1.cell? ⟨K1, 3, none⟩ = some (.int .i64 q.rep) := HP1.out.cell 3
  have a4 : w1.cell? ⟨K1, 4, none⟩ = some (.int .i64 q.comp) := HP1.out.cell 4
  have a5 : w1.cell? ⟨K1, 5, none⟩ = some (.int .i64 q.sub) := HP1.out.cell 5
  go_wp2_with fail
  rw [← HV.out]
  refine (specPathRight_any q _).mono ?_
  rintro e w2 ⟨rfl, hb2⟩
  have HB2 := hide (HB1.out.trans (hb2.mono HB1.out.size))
  have HM2 := hide (HM1.out.below hb2 HM1.out.lt)
  have HP2 := hide (HP1.out.below hb2 HP1.out.lt)
  have HZ2 := hide (HZ1.out.below hb2 HZ1.out.lt)
  clear hb2 a0 a1 a2 a3 a4 a5 HM1 HP1 HB1
  cases hq : q.right
  · have HN := hide (show fldOut m x q = [] by simp [fldOut, hq])
    have z0 : w2.cell? ⟨K2, 0, none⟩ = some (.slice none 0 0) := HZ2.out.cell 0
    have zf := HZ2.out.free 0
    have q1 : (w2.setCell ⟨K2, 0, none⟩ (.slice none 0 0)).cell? ⟨K2, 0, none⟩ = some (.slice none 0 0) := (HZ2.out.set (j := 0) (.slice none 0 0)).cell 0
    have HBE := hide (HB2.out.setCell (p := ⟨K2, 0, none⟩) (Nat.le_of_lt HKN.out.2.1) (.slice none 0 0))
    go_wp2
    exact bodyPost_ret (v := .agg #[.slice none 0 0]) (by simp [results, Tryz.results8, go_sem, q1]) rfl ⟨_, rfl, by rw [HN.out]; exact ⟨none, 0, rfl, Nat.le_refl _, by unfold maxLen; omega, fun h => absurd h (by simp)⟩, HBE.out⟩
  have HY := hide (show fldOut m x q = fldAt x q by simp [fldOut, hq, hmb])
  have HQ := hide hq
  clear hmb hq
  have b0 : w2.cell? ⟨w.heap.size, 0, none⟩ = some (.string m) := HM2.out.cell 0
  have b1 : w2.cell? ⟨w.heap.size, 1, none⟩ = some (.slice p x.length c) := HM2.out.cell 1
  have e0 : w2.cell? ⟨K1, 0, none⟩ = some (.string q.seg) := HP2.out.cell 0
  have e1 : w2.cell? ⟨K1, 1, none⟩ = some (.int .i64 q.nth) := HP2.out.cell 1
  have e2 : w2.cell? ⟨K1, 2, none⟩ = some (.int .i64 q.fld) := HP2.out.cell 2
  have e3 : w2.cell? ⟨K1, 3, none⟩ = some (.int .i64 q.rep) := HP2.out.cell 3
  have e4 : w2.cell? ⟨K1, 4, none⟩ = some (.int .i64 q.comp) := HP2.out.cell 4
  have e5 : w2.cell? ⟨K1, 5, none⟩ = some (.int .i64 q.sub) := HP2.out.cell 5
  go_wp2_with fail
  rw [← HV.out]
  refine (l05At_from m _ x q w _ HB2.out HQ.out HFF.out.1 HR.out).mono ?_
  rintro e w3 ⟨⟨p3, c3, rfl, hf3⟩, hb3⟩
  have HB3 := hide (HB2.out.trans (hb3.mono HB2.out.size))
  have HZ3 := hide (HZ2.out.below hb3 HZ2.out.lt)
  have HF3 := hide (show RFld 0 w3 (.slice p3 (fldAt x q).length c3) (fldAt x q) from RL.below hf3 HB3.out)
  clear hb3 hf3 b0 b1 e0 e1 e2 e3 e4 e5
  go_wp2_with fail
  refine (l05CopyField_any _ (fldAt x q) _ (fldAt_small HWW.out q) HF3.out).mono ?_
  rintro e w4 ⟨p4, c4, rfl, ho4, hb4⟩
  have row4 := HZ3.out.below hb4 HZ3.out.lt
  have z0 : w4.cell? ⟨K2, 0, none⟩ = some (.slice none 0 0) := row4.cell 0
  have zf := row4.free 0
  have q1 : (w4.setCell ⟨K2, 0, none⟩ (.slice p4 (fldAt x q).length c4)).cell? ⟨K2, 0, none⟩ = some (.slice p4 (fldAt x q).length c4) := (row4.set (j := 0) (.slice p4 (fldAt x q).length c4)).cell 0
  have hk3 := HZ3.out.lt
  have es : (w4.setCell ⟨K2, 0, none⟩ (.slice p4 (fldAt x q).length c4)).heap.size = w4.heap.size := by simp [World.setCell]
  have HBE := hide ((HB3.out.trans (hb4.mono HB3.out.size)).setCell (p := ⟨K2, 0, none⟩) (Nat.le_of_lt HKN.out.2.1) (.slice p4 (fldAt x q).length c4))
  have HOE : Hid (OFld w.heap.size (w4.setCell ⟨K2, 0, none⟩ (.slice p4 (fldAt x q).length c4)).heap.size (w4.setCell ⟨K2, 0, none⟩ (.slice p4 (fldAt x q).length c4)) (.slice p4 (fldAt x q).length c4) (fldOut m x q)) := hide (by
    rw [es, HY.out]
    exact Keeps.wide HB3.out.size (Nat.le_refl _) (Keeps.go (SameIn.set _ _ (by omega)) ho4))
  clear ho4 hb4 row4 es
  go_wp2
  exact bodyPost_ret (v := .agg #[.slice p4 (fldAt x q).length c4]) (by simp [results, Tryz.results8, go_sem, q1]) rfl ⟨_, rfl, HOE.out, HBE.out⟩
end Go.Proofs.YtmkcmajpepehmaaGreat
