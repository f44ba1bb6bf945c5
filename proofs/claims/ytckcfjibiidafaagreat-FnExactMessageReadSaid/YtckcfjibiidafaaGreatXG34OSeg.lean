/- Segments and Messages in memory of one's own; their marks; the laws' own copies of them. -/
import Derived.Test.YtckcfjibiidafaaGreatXG17FMsgT
import Derived.Test.YtckcfjibiidafaaGreatXG33OSegM
import Derived.Test.YtckcfjibiidafaaGreatXG22Stab
import Derived.Deep.DeepCutAuto
import Derived.OrdersHeld
namespace Go.Proofs.YtckcfjibiidafaaGreat
open Go.RowKit
def OSegs (lo hi : Nat) (w : World) (v : Value) (xs : List Seg) : Prop :=
  ∃ p cap, v = .slice p xs.length cap ∧ xs.length ≤ cap ∧ cap ≤ maxLen ∧
    (0 < xs.length → ∃ (g : Nat) (cs : List Value) (A B : Nat → Nat), p = some ⟨g, 0, none⟩ ∧ lo ≤ g ∧ g < hi ∧ Row w g 41 cs ∧ xs.length * 2 ≤ cs.length ∧
      (∀ j (h2 : j < xs.length), cs[j * 2]? = some (.string xs[j].1) ∧ xs[j].1.size ≤ maxLen ∧ lo ≤ A j ∧ B j ≤ hi ∧ (B j ≤ g ∨ g < A j) ∧ ∃ u, cs[j * 2 + 1]? = some u ∧ OFlds (A j) (B j) w u xs[j].2) ∧ (∀ i j, i < j → j < xs.length → B i ≤ A j))
theorem OSegs.keep {lo hi : Nat} {w w' : World} {v : Value} {xs : List Seg} (h : OSegs lo hi w v xs) (hs : SameIn lo hi w w') : OSegs lo hi w' v xs := by
  obtain ⟨p, cap, rfl, h1, h2, h4⟩ := h
  refine ⟨p, cap, rfl, h1, h2, fun h0 => ?_⟩
  obtain ⟨g, cs, A, B, rfl, a, b, hr, hl, hE, hD⟩ := h4 h0
  refine ⟨g, cs, A, B, rfl, a, b, hs.row hr a b, hl, fun i k2 => ?_, hD⟩
  obtain ⟨e0, e1, e2, e3, e4, u, e5, e6⟩ := hE i k2
  exact ⟨e0, e1, e2, e3, e4, u, e5, Keeps.go (hs.mono e2 e3) e6⟩
theorem OSegs.wide {lo hi lo' hi' : Nat} {w : World} {v : Value} {xs : List Seg} (h : OSegs lo hi w v xs) (hl : lo' ≤ lo) (hh : hi ≤ hi') : OSegs lo' hi' w v xs := by
  obtain ⟨p, cap, rfl, h1, h2, h4⟩ := h
  refine ⟨p, cap, rfl, h1, h2, fun h0 => ?_⟩
  obtain ⟨g, cs, A, B, rfl, a, b, hr, hln, hE, hD⟩ := h4 h0
  refine ⟨g, cs, A, B, rfl, by omega, by omega, hr, hln, fun i k2 => ?_, hD⟩
  obtain ⟨e0, e1, e2, e3, e4, u, e5, e6⟩ := hE i k2
  exact ⟨e0, e1, by omega, by omega, e4, u, e5, e6⟩
theorem OSegs.isSlice {lo hi : Nat} {w : World} {v : Value} {xs : List Seg} (h : OSegs lo hi w v xs) : ∃ p c, v = .slice p xs.length c := by
  obtain ⟨p, c, e, _⟩ := h
  exact ⟨p, c, e⟩
theorem OFlds.rl {lo hi : Nat} {w : World} {v : Value} {xs : List (List (List (List ByteArray)))} (h : OFlds lo hi w v xs) : RFlds lo w v xs := OL.rl h fun _ _ _ _ ha h => RFld.mono (OFld.rl h) ha
theorem OSegs.rl {lo hi : Nat} {w : World} {v : Value} {xs : List Seg} (h : OSegs lo hi w v xs) : RSegs lo w v xs := by
  obtain ⟨p, cap, rfl, h1, h2, h4⟩ := h
  refine ⟨p, cap, rfl, h1, h2, fun h0 => ?_⟩
  obtain ⟨g, cs, A, B, rfl, a, b, hr, hl, hE, hD⟩ := h4 h0
  refine ⟨g, 0, rfl, hr.lt, a, fun i hi => ?_⟩
  obtain ⟨e0, e1, e2, e3, e4, u, e5, e6⟩ := hE i hi
  exact ⟨by rw [Nat.zero_add, hr.cell]; exact e0, e1, u, by rw [Nat.zero_add, hr.cell]; exact e5, RFlds.mono (OFlds.rl e6) e2⟩
def cntSeg (x : Seg) : Nat := 1 + cntFs x.2
def mkSeg (k : Nat) (x : Seg) : Seg := (markOf k, mkFs (k + 1) x.2)
def cntSegs : List Seg → Nat := cntL cntSeg
def mkSegs : Nat → List Seg → List Seg := mkL cntSeg mkSeg
theorem cntFs_le (x : List (List (List (List ByteArray)))) : cntFs x ≤ wFlds x := cntL_le _ _ cntF_le x
theorem seg_step : ∀ (xs : List Seg) (i : Nat) (hi : i < xs.length), cntL cntSeg (xs.take i) + 1 + wFlds xs[i].2 ≤ wSegs xs
  | x :: r, 0, _ => by
    simp only [List.take_zero, cntL, List.map_nil, List.sum_nil, List.getElem_cons_zero, wSegs, wL, List.map_cons, List.sum_cons, List.length_cons, wSeg]
    omega
  | x :: r, i + 1, hi => by
    have h1 := cntFs_le x.2
    have h2 := seg_step r i (by simpa using hi)
    simp only [List.take_succ_cons, cntL, List.map_cons, List.sum_cons, List.getElem_cons_succ, wSegs, wL, List.length_cons, wSeg, cntSeg] at h2 ⊢
    omega
theorem markOf_small (k : Nat) (h : k ≤ 10000000) : (markOf k).size ≤ maxLen := by
  have := markOf_sizeO k
  unfold maxLen; omega
set_option maxHeartbeats 4000000 in
theorem markSegmentS_own (lo hi : Nat) (v : Value) (xs : List Seg) (k : Nat) (w : World) (hn : wSegs xs ≤ 1048576) (hk : k + wSegs xs ≤ 4000000) (hr : OSegs lo hi w v xs) :
    Calls Tryz.prog 23 #[v, .int .i64 (k : Int)] w fun e w' => e = .returned (.int .i64 ((k + cntSegs xs : Nat) : Int)) ∧ OSegs lo hi w' v (mkSegs k xs) ∧ Within lo hi w w' := by
  have hl : xs.length ≤ 1048576 := Nat.le_trans (wL_len _ xs) hn
  have HC := hide (fun i h => seg_step xs i h)
  have HSN := hide (fun i h => cntL_snoc cntSeg xs i h)
  have HM := hide (wSegs_mem hn).2
  obtain ⟨p, cap, rfl, h1, h2, h4⟩ := hr
  by_cases h0 : xs.length = 0
  · obtain rfl : xs = [] := List.eq_nil_of_length_eq_zero h0
    clear h4 HC HM HSN
    go_enter Tryz.func23, Tryz.ntmps23
    go_wp2
    refine wp_loop_rounds 1 ?_
    rw [rounds_succ]
    go_wp2
    go_ret
    exact ⟨rfl, ⟨p, cap, rfl, h1, h2, fun h => absurd h (by simp [mkSegs, mkL])⟩, Within.refl _ _ _⟩
  obtain ⟨g, cs0, A, B, rfl, ga, gb, hrow, hcl, hE, hD⟩ := h4 (by omega)
  have HK := hide hk
  have HN := hide hn
  have HR := hide hrow
  have HCL := hide hcl
  have HE := hide hE
  have HD := hide hD
  have HG := hide (show lo ≤ g ∧ g < hi from ⟨ga, gb⟩)
  have HCP := hide (show xs.length ≤ cap ∧ cap ≤ maxLen from ⟨h1, h2⟩)
  unfold maxLen at h2
  clear h4 hrow hcl hE hD hk hn ga gb
  go_enter Tryz.func23, Tryz.ntmps23
  go_wp2
  go_loopw [1, 5] (fun x i wr => ∃ (X : World) (j K : Nat) (cs : List Value), X = wr ∧ j ≤ xs.length ∧ i = .int .i64 (j : Int) ∧ x = .int .i64 (K : Int) ∧ Hid (K = k + cntL cntSeg (xs.take j)) ∧ Hid (Row X g 41 cs) ∧ Hid (xs.length * 2 ≤ cs.length) ∧ Hid (∀ i (h2 : i < xs.length), cs[i * 2]? = some (.string (if i < j then markOf (k + cntL cntSeg (xs.take i)) else xs[i].1)) ∧ lo ≤ A i ∧ B i ≤ hi ∧ (B i ≤ g ∨ g < A i) ∧ ∃ u, cs[i * 2 + 1]? = some u ∧ OFlds (A i) (B i) X u (if i < j then mkFs (k + cntL cntSeg (xs.take i) + 1) xs[i].2 else xs[i].2)) ∧ Hid (Within lo hi w X)) (fun _ i _ => xs.length - (intOf i).toNat)
  case atStart => exact ⟨_, 0, k, cs0, rfl, Nat.zero_le _, rfl, rfl, hide (by simp [cntL]), HR, HCL, hide (fun i h2 => by
    obtain ⟨e0, e1, e2, e3, e4, u, e5, e6⟩ := HE.out i h2
    rw [if_neg (by omega), if_neg (by omega)]
    exact ⟨e0, e2, e3, e4, u, e5, e6⟩), hide (Within.refl _ _ _)⟩
  case round =>
    obtain ⟨X, j, K, cs, rfl, hj, rfl, rfl, HKE, HRX, HLX, HEX, HW⟩ := hrel
    by_cases hlt : j < xs.length
    · obtain ⟨e0, e2, e3, e4, u, e5, e6⟩ := HEX.out j hlt
      rw [if_neg (by omega)] at e0
      rw [if_neg (by omega)] at e6
      have hKb : K + 1 + wFlds (xs[j]'hlt).2 ≤ 4000000 := by have h1 := HC.out j hlt; have h2 := HK.out; rw [HKE.out]; omega
      have hwb : wFlds (xs[j]'hlt).2 ≤ 1048576 := (HM.out j hlt).1
      have HEB := hide (show lo ≤ A j ∧ B j ≤ hi ∧ (B j ≤ g ∨ g < A j) from ⟨e2, e3, e4⟩)
      obtain ⟨up, uc, rfl⟩ := e6.isSlice
      have HU := hide e5
      have HOK := hide e6
      clear e0 e2 e3 e4 e5 e6
      go_wp2_with fail
      refine (markText_any K _ (by omega)).mono ?_
      rintro e w2 ⟨rfl, hb2⟩
      have row2 := HRX.out.below hb2 HRX.out.lt
      obtain ⟨z0, hz0⟩ := row2.some (j * 2) (by have := HLX.out; omega)
      have hf0 := row2.free (j * 2)
      have row3 := row2.set (j := j * 2) (.string (markOf K))
      have c31 : (w2.setCell ⟨g, j * 2, none⟩ (.string (markOf K))).cell? ⟨g, j * 2 + 1, none⟩ = some (.slice up (xs[j]'hlt).2.length uc) := by rw [row3.cell, List.getElem?_set_ne (by omega)]; exact HU.out
      have hw3 : Within lo hi X (w2.setCell ⟨g, j * 2, none⟩ (.string (markOf K))) := Within.ofOnly (((Only.refl g X).below hb2).set (.string (markOf K))) HG.out.1 HG.out.2
      have hs3 : ∀ a b, (b ≤ g ∨ g < a) → SameIn a b X (w2.setCell ⟨g, j * 2, none⟩ (.string (markOf K))) := fun a b h k h1 h2 hk => (((Only.refl g X).below hb2).set (j := j * 2) (.string (markOf K))).block k hk (fun e => by cases e; omega)
      have HR3 := hide row3
      have HW3 := hide hw3
      have HS3 := hide hs3
      have HOK3 := hide (Keeps.go (HS3.out (A j) (B j) HEB.out.2.2) HOK.out)
      clear row2 row3 hw3 hs3 hb2 HOK
      go_wp2_with fail
      have ek : ((K : Int) + 1) = ((K + 1 : Nat) : Int) := by simp
      rw [ek]
      refine (markFieldS_own (A j) (B j) _ (xs[j]'hlt).2 (K + 1) _ hwb hKb HOK3.out).mono ?_
      rintro e w4 ⟨rfl, hok, hw⟩
      clear ek
      have HK2 : Hid (K + 1 + cntL cntF (xs[j]'hlt).2 = k + cntL cntSeg (xs.take (j + 1))) := by rw [HSN.out j hlt, HKE.out]; exact (by unfold cntSeg cntFs; omega : k + cntL cntSeg (xs.take j) + 1 + cntL cntF (xs[j]'hlt).2 = k + (cntL cntSeg (xs.take j) + cntSeg (xs[j]'hlt)))
      have HR4 := hide (hw.row HR3.out (by have := HEB.out.2.2; omega))
      have HW4 := hide ((HW.out.trans HW3.out).trans (hw.mono HEB.out.1 HEB.out.2.1))
      have HL4 : Hid (xs.length * 2 ≤ (cs.set (j * 2) (.string (markOf K))).length) := hide (by rw [List.length_set]; exact HLX.out)
      have HE4 : Hid (∀ i (h2 : i < xs.length), (cs.set (j * 2) (.string (markOf K)))[i * 2]? = some (.string (if i < j + 1 then markOf (k + cntL cntSeg (xs.take i)) else xs[i].1)) ∧ lo ≤ A i ∧ B i ≤ hi ∧ (B i ≤ g ∨ g < A i) ∧ ∃ u, (cs.set (j * 2) (.string (markOf K)))[i * 2 + 1]? = some u ∧ OFlds (A i) (B i) w4 u (if i < j + 1 then mkFs (k + cntL cntSeg (xs.take i) + 1) xs[i].2 else xs[i].2)) := by
        intro i h2
        obtain ⟨f0, f1, f2, f3, u, f4, f5⟩ := HEX.out i h2
        have hlx := HLX.out
        by_cases hij : i = j
        · subst hij
          rw [if_pos (by omega), if_pos (by omega), List.getElem?_set_self (by omega), List.getElem?_set_ne (by omega)]
          rw [← HKE.out]
          exact ⟨rfl, f1, f2, f3, _, HU.out, hok⟩
        · have hd : B i ≤ A j ∨ B j ≤ A i := by
            rcases Nat.lt_or_gt_of_ne hij with h | h
            · exact .inl (HD.out i j h hlt)
            · exact .inr (HD.out j i h h2)
          rw [List.getElem?_set_ne (by omega), List.getElem?_set_ne (by omega)]
          have hk5 := Keeps.go (hw.same hd) (Keeps.go (HS3.out (A i) (B i) f3) f5)
          by_cases h : i < j
          · rw [if_pos h] at f0 hk5
            rw [if_pos (by omega), if_pos (by omega)]
            exact ⟨f0, f1, f2, f3, u, f4, hk5⟩
          · rw [if_neg h] at f0 hk5
            rw [if_neg (by omega), if_neg (by omega)]
            exact ⟨f0, f1, f2, f3, u, f4, hk5⟩
      clear hok hw
      go_wp2
      go_roundw
      case rel => exact ⟨_, j + 1, _, _, rfl, by omega, by go_num, rfl, HK2, HR4, HL4, HE4, HW4⟩
      case measure => simp [intOf]; omega
    · have hje : j = xs.length := by omega
      have HKF : Hid (K = k + cntSegs xs) := by have := HKE.out; rw [List.take_of_length_le (by omega)] at this; exact this
      have hml := mkL_len cntSeg mkSeg xs k
      have HF : Hid (OSegs lo hi X (.slice (some ⟨g, 0, none⟩) xs.length cap) (mkSegs k xs)) := by
        refine ⟨_, cap, ?_, ?_, HCP.out.2, fun _ => ⟨g, cs, A, B, rfl, HG.out.1, HG.out.2, HRX.out, ?_, fun i h2 => ?_, fun i j h1 h2 => HD.out i j h1 (by unfold mkSegs at h2; rw [hml] at h2; exact h2)⟩⟩
        · unfold mkSegs; rw [hml]
        · unfold mkSegs; rw [hml]; exact HCP.out.1
        · unfold mkSegs; rw [hml]; exact HLX.out
        · have h3 : i < xs.length := by unfold mkSegs at h2; rw [hml] at h2; exact h2
          obtain ⟨f0, f1, f2, f3, u, f4, f5⟩ := HEX.out i h3
          rw [if_pos (by omega)] at f0 f5
          have e : (mkSegs k xs)[i] = mkSeg (k + cntL cntSeg (xs.take i)) xs[i] := mkL_get cntSeg mkSeg xs k i h3 h2
          rw [e]
          refine ⟨f0, markOf_small _ ?_, f1, f2, f3, u, f4, f5⟩
          have h5 := HC.out i h3
          have h6 := HK.out
          omega
      clear hml
      go_wp2
      go_ret
      exact ⟨ret_int (by rw [HKF.out]), HF.out, HW.out⟩
set_option maxHeartbeats 1000000 in
theorem markMessage_own (lo hi : Nat) (n : ByteArray) (v : Value) (xs : List Seg) (k : Nat) (w : World) (hn : wSegs xs ≤ 1048576) (hk : k + wSegs xs ≤ 4000000) (hr : OSegs lo hi w v xs) :
    Calls Tryz.prog 13 #[.agg #[.string n, v], .int .i64 (k : Int)] w fun e w' => e = .returned (.int .i64 ((k + cntSegs xs : Nat) : Int)) ∧ OSegs lo hi w' v (mkSegs k xs) ∧ Within lo hi w w' := by
  obtain ⟨p, c, rfl⟩ := hr.isSlice
  have hb0 : Below w.heap.size w (w.alloc (.cells #[.string n, .slice p xs.length c] 24)) := (Below.refl _ _).alloc (Nat.le_refl _) _
  have HB0 := hide hb0
  have HR := hide (hr.keep (SameIn.ofBelow hb0))
  clear hr hb0
  go_enter Tryz.func13, Tryz.ntmps13
  go_wp2_with fail
  refine (markSegmentS_own lo hi _ xs k _ hn hk HR.out).mono ?_
  rintro e w1 ⟨rfl, hok, hw⟩
  have HO := hide hok
  have HW := hide ((Within.ofBelow HB0.out).trans hw)
  clear hok hw
  go_wp2
  go_ret
  exact ⟨rfl, HO.out, HW.out⟩
end Go.Proofs.YtckcfjibiidafaaGreat
/- A Segment that is read: of the program. -/
namespace Go.Proofs.YtckcfjibiidafaaGreat
open Go.RowKit
def SegResP (lo : Nat) (R : Option (ByteArray × Flds)) (e : Ending) (w' : World) : Prop :=
  ∃ n u b xs, e = .returned (.tuple #[.agg #[.string n, u], .bool b]) ∧ OFlds lo w'.heap.size w' u xs ∧ n.size ≤ 3 ∧ R = (if b then some (n, xs) else none)
theorem fldQ_small {m : ByteArray} {p : List UInt8} {x : List (List (List ByteArray))} (hp : p.length ≤ 900000) (h : fldQ m p = some x) :
    x.length ≤ 1048576 ∧ (∀ i (h : i < x.length), x[i].length ≤ 1048576) ∧ ∀ i (h : i < x.length) j (hj : j < x[i].length), x[i][j].length ≤ 1048576 := by
  unfold fldQ at h
  obtain ⟨g, hg, hb⟩ := Option.bind_eq_some_iff.1 h
  by_cases hf : fldB g = true
  · rw [if_pos hf] at hb
    cases hb
    exact fldP_small m p _ hp hg
  · rw [if_neg hf] at hb
    cases hb
theorem fldsP_fits {m : ByteArray} {L : List UInt8} {xs : Flds} (hL : L.length ≤ 900000) (h : fldsP m L = some xs) : Fits xs := by
  have h2 := piecesL_len (bAt m 0) L
  unfold fldsP at h
  split at h
  · cases h
    exact ⟨by simp, fun i hi => by simp at hi⟩
  · rename_i p r e
    by_cases hp : p = []
    · rw [if_pos hp] at h
      have hl := mapO_len _ _ h
      rw [e] at h2
      have h3 := h2.1
      simp only [List.length_cons] at h3
      refine ⟨by omega, fun i hi => ?_⟩
      obtain ⟨q, hq, e2⟩ := mapO_mem _ _ h _ (List.getElem_mem hi)
      have h4 := h2.2 q (List.mem_cons_of_mem _ hq)
      have := fldQ_small (by omega) e2
      exact this
    · rw [if_neg hp] at h
      cases h

set_option maxHeartbeats 16000000 in
set_option maxRecDepth 100000 in
theorem segmentR_any (m s : ByteArray) (w : World) (hm : marksB m = true) (hs : s.size ≤ 8000) :
    Calls Tryz.prog 34 #[.agg #[.string m, .bool false], .string s] w fun e w' => SegResP w.heap.size (segQ m s.data.toList) e w' ∧ Below w.heap.size w w' := by
  have hm5 : m.size = 5 := marks_five hm
  have HMB := hide hm
  have htl : s.data.toList.length = s.size := by simp
  obtain ⟨R, hR⟩ : ∃ R, R = segQ m s.data.toList := ⟨_, rfl⟩
  rw [← hR]
  have HRX := hide hR
  clear hR hm
  obtain ⟨W, hW⟩ : ∃ W, W = (w.alloc (.cells #[.string m, .bool false] 47)).alloc (.cells #[.string ⟨#[]⟩, .slice none 0 0] 41) := ⟨_, rfl⟩
  have HBW := hide (show Below w.heap.size w W by rw [hW]; exact ((Below.refl _ _).alloc (Nat.le_refl _) _).alloc (by simp) _)
  have HWs := hide (show W.heap.size = w.heap.size + 2 by rw [hW]; simp)
  have HR1 := hide (show Row W w.heap.size 47 [.string m, .bool false] by rw [hW]; exact (row_new w [.string m, .bool false] 47).alloc _)
  have HR2 := hide (show Row W (w.heap.size + 1) 41 [.string ⟨#[]⟩, .slice none 0 0] by
    rw [hW]
    have := row_new (w.alloc (.cells #[.string m, .bool false] 47)) [.string ⟨#[]⟩, .slice none 0 0] 41
    simpa using this)
  by_cases h3 : s.size < 3
  · have HSM0 := hide (show segQ m s.data.toList = none by unfold segQ headR; rw [if_pos (by omega)]; rfl)
    have h3i : (s.size : Int) < 3 := by omega
    obtain rfl : R = none := by rw [HRX.out]; exact HSM0.out
    clear HWs HR1 HR2
    subst hW
    go_enter Tryz.func34, Tryz.ntmps34
    go_wp2
    exact bodyPost_ret (v := .tuple #[.agg #[.string ⟨#[]⟩, .slice none 0 0], .bool false]) (by simp [results, Tryz.results34, go_sem]) rfl ⟨⟨⟨#[]⟩, _, false, [], rfl, ⟨none, 0, rfl, Nat.le_refl _, Nat.zero_le _, fun h => absurd h (Nat.lt_irrefl 0)⟩, Nat.zero_le 3, rfl⟩, HBW.out⟩
  have h3i : ¬ (s.size : Int) < 3 := by omega
  have h3j : (3 : Int) ≤ (s.size : Int) := by omega
  have HN3a := hide (show (s.extract 0 3 : ByteArray) = ⟨(s.data.toList.take 3).toArray⟩ by rw [extract_list]; rfl)
  have HN3b := hide (show (s.extract 0 3 : ByteArray).size ≤ 3 by rw [ByteArray.size_extract]; omega)
  have HRS3 := hide (show (s.extract 3 s.size : ByteArray).data.toList = s.data.toList.drop 3 by rw [extract_listE])
  have HRSs := hide (show (s.extract 3 s.size : ByteArray).size ≤ 8000 by rw [ByteArray.size_extract]; omega)
  go_enter Tryz.func34, Tryz.ntmps34
  go_wp2_with fail
  rw [← hW]
  refine wp_region_held (S := (fun _ : World => True)) (by kernel_rfl) ?_
  have HZ0 := hide (show Below W.heap.size W { W with drawn := W.drawn + 1 } from (Below.refl _ _).drew)
  obtain ⟨WA, hWA⟩ : ∃ WA : World, WA = { W with drawn := W.drawn + 1 } := ⟨_, rfl⟩
  rw [← hWA] at HZ0 ⊢
  have HBWA := hide (HBW.out.trans (HZ0.out.mono HBW.out.size))
  have HWAs := hide (show WA.heap.size = w.heap.size + 2 by rw [hWA]; exact HWs.out)
  have HR1A := hide (HR1.out.below HZ0.out HR1.out.lt)
  have HR2A := hide (HR2.out.below HZ0.out HR2.out.lt)
  clear hWA hW HBW HWs HR1 HR2 HZ0
  clear W
  have HBW := HBWA
  have HWs := HWAs
  have HR1 := HR1A
  have HR2 := HR2A
  clear HBWA HWAs HR1A HR2A
  obtain ⟨W, hWW⟩ : ∃ W, W = WA := ⟨_, rfl⟩
  rw [← hWW] at HBW HWs HR1 HR2 ⊢
  clear hWW
  clear WA
  have HS : Hid True := trivial
  refine wpAnyH_take (i := 0) (oi := _) (v := .string s) rfl (by kernel_rfl) (by kernel_rfl) (by kernel_rfl) (fun _ _ _ h => h) (Or.inl ⟨by rfl, by intro w hSw; go_split_ands; go_simp⟩) HS.out ?_
  simp only [Act.put, List.getElem_toArray, List.getElem_cons_zero, List.setIfInBounds_toArray, List.set_cons_zero, List.set_cons_succ]
  refine wpAnyH_take (i := 1) (oi := _) (v := .string (s.extract 0 3)) rfl (by kernel_rfl) (by kernel_rfl) (by kernel_rfl) (fun _ _ _ h => h) (Or.inl ⟨by rfl, by intro w hSw; go_split_ands; go_simp⟩) HS.out ?_
  simp only [Act.put, List.getElem_toArray, List.getElem_cons_zero, List.getElem_cons_succ, List.setIfInBounds_toArray, List.set_cons_zero, List.set_cons_succ]
  refine wpAnyH_take (i := 2) (oi := _) (v := .string s) rfl (by kernel_rfl) (by kernel_rfl) (by kernel_rfl) (fun _ _ _ h => h) (Or.inl ⟨by rfl, by intro w hSw; go_split_ands; go_simp⟩) HS.out ?_
  simp only [Act.put, List.getElem_toArray, List.getElem_cons_zero, List.getElem_cons_succ, List.setIfInBounds_toArray, List.set_cons_zero, List.set_cons_succ]
  refine wpAnyH_take (i := 3) (oi := _) (v := .string (s.extract 3 s.size)) rfl (by kernel_rfl) (by kernel_rfl) (by kernel_rfl) (fun _ _ _ h => h) (Or.inl ⟨by rfl, by intro w hSw; go_split_ands; go_simp⟩) HS.out ?_
  simp only [Act.put, List.getElem_toArray, List.getElem_cons_zero, List.getElem_cons_succ, List.setIfInBounds_toArray, List.set_cons_zero, List.set_cons_succ]
  refine wpAnyH_take (i := 4) (oi := _) (v := .string (s.extract 0 3)) rfl (by kernel_rfl) (by kernel_rfl) (by kernel_rfl) (fun _ _ _ h => h) (Or.inl ⟨by rfl, by intro w hSw; go_split_ands; go_simp⟩) HS.out ?_
  simp only [Act.put, List.getElem_toArray, List.getElem_cons_zero, List.getElem_cons_succ, List.setIfInBounds_toArray, List.set_cons_zero, List.set_cons_succ]
  refine wpAnyH_take (i := 5) (oi := _) (v := .string (s.extract 3 s.size)) rfl (by kernel_rfl) (by kernel_rfl) (by kernel_rfl) (fun _ _ _ h => h) (Or.inl ⟨by rfl, by intro w hSw; go_split_ands; go_simp⟩) HS.out ?_
  simp only [Act.put, List.getElem_toArray, List.getElem_cons_zero, List.getElem_cons_succ, List.setIfInBounds_toArray, List.set_cons_zero, List.set_cons_succ]
  refine wpAnyH_done (by kernel_rfl) ?_ _
  clear HS
  obtain ⟨N3, hN3⟩ : ∃ N3, N3 = s.extract 0 3 := ⟨_, rfl⟩
  obtain ⟨RS, hRS⟩ : ∃ RS, RS = s.extract 3 s.size := ⟨_, rfl⟩
  rw [← hN3] at HN3a HN3b
  rw [← hRS] at HRS3 HRSs
  rw [← hN3, ← hRS]
  have HN3s := HN3b
  clear hN3 hRS
  have g0 : W.cell? ⟨w.heap.size, 0, none⟩ = some (.string m) := HR1.out.cell 0
  have g1 : W.cell? ⟨w.heap.size, 1, none⟩ = some (.bool false) := HR1.out.cell 1
  have k0 : W.cell? ⟨w.heap.size + 1, 0, none⟩ = some (.string ⟨#[]⟩) := HR2.out.cell 0
  have k1 : W.cell? ⟨w.heap.size + 1, 1, none⟩ = some (.slice none 0 0) := HR2.out.cell 1
  by_cases hmsh : N3 = msh
  · have hb : (N3.toList == [77, 83, 72]) = true := by rw [hmsh]; unfold msh; simp
    have HMS := hide hmsh
    clear hmsh
    by_cases hp : m.size ≤ RS.size ∧ (RS.extract 0 m.size : ByteArray) = m
    case neg =>
      have HHD := hide (show headR m s.data.toList = none by
        unfold headR
        rw [if_neg (by omega), ← HN3a.out, if_pos HMS.out, ← HRS3.out, if_neg (fun e => hp (by
          have hl : RS.data.toList.length = RS.size := by simp
          have hl2 : m.data.toList.length = m.size := by simp
          have h9 := congrArg List.length e
          rw [List.length_take] at h9
          refine ⟨by omega, ?_⟩
          rw [extract_list]
          apply ByteArray.ext
          apply Array.ext'
          simpa using e))])
      obtain rfl : R = none := by rw [HRX.out]; unfold segQ; rw [HHD.out]; rfl
      go_wp2_with fail
      refine (cutPre_no RS m _ hp).mono ?_
      rintro e w1 ⟨rfl, h9⟩
      obtain rfl := h9.symm
      clear h9
      have q2 := HR2.out.free 0
      have q3 := HR2.out.free 1
      have t2 := (HR2.out.set (j := 0) (.string ⟨#[]⟩)).set (j := 1) (.slice none 0 0)
      have HBF := hide ((HBW.out.setCell (p := ⟨w.heap.size + 1, 0, none⟩) (by show w.heap.size ≤ w.heap.size + 1; omega) (.string ⟨#[]⟩)).setCell (p := ⟨w.heap.size + 1, 1, none⟩) (by show w.heap.size ≤ w.heap.size + 1; omega) (.slice none 0 0))
      have q0 : ((W.setCell ⟨w.heap.size + 1, 0, none⟩ (.string ⟨#[]⟩)).setCell ⟨w.heap.size + 1, 1, none⟩ (.slice none 0 0)).cell? ⟨w.heap.size + 1, 0, none⟩ = some (.string ⟨#[]⟩) := t2.cell 0
      have q1 : ((W.setCell ⟨w.heap.size + 1, 0, none⟩ (.string ⟨#[]⟩)).setCell ⟨w.heap.size + 1, 1, none⟩ (.slice none 0 0)).cell? ⟨w.heap.size + 1, 1, none⟩ = some (.slice none 0 0) := t2.cell 1
      clear t2 hp hb
      go_wp2
      exact bodyPost_ret (v := .tuple #[.agg #[.string ⟨#[]⟩, .slice none 0 0], .bool false]) (by simp [results, Tryz.results34, go_sem, q0, q1]) rfl ⟨⟨⟨#[]⟩, _, false, [], rfl, ⟨none, 0, rfl, Nat.le_refl _, Nat.zero_le _, fun h => absurd h (Nat.lt_irrefl 0)⟩, Nat.zero_le 3, rfl⟩, HBF.out⟩
    have HHDa := hide (show headR m s.data.toList = some (N3, (RS.extract m.size RS.size).data.toList) by
      unfold headR
      rw [if_neg (by omega), ← HN3a.out, if_pos HMS.out, ← HRS3.out, if_pos (by
        have e := congrArg (fun b : ByteArray => b.data.toList) hp.2
        rw [extract_list] at e
        simpa using e), extract_listE])
    go_wp2_with fail
    refine (cutPre_yes RS m _ hp).mono ?_
    rintro e w1 ⟨rfl, h9⟩
    obtain rfl := h9.symm
    clear h9
    have HRV1 := hide (show (RS.extract m.size RS.size : ByteArray).size ≤ 8000 by rw [ByteArray.size_extract]; have := HRSs.out; omega)
    obtain ⟨RV, hRV⟩ : ∃ RV, RV = RS.extract m.size RS.size := ⟨_, rfl⟩
    rw [← hRV] at HHDa HRV1 ⊢
    have HHD := HHDa
    have HRVs0 := HRV1
    have HRVl := hide (show RV.data.toList.length ≤ 8000 by have h9 : RV.data.toList.length = RV.size := by simp
                                                            rw [h9]; exact HRV1.out)
    clear hRV hp hb
    go_wp2_with fail
    refine (fieldsR_any m RV _ HMB.out (by have := HRVs0.out; omega)).mono ?_
    rintro e Z1 ⟨⟨u, b, xs, rfl, hxs, hRb⟩, hb1⟩
    obtain ⟨p3, c3, rfl⟩ := OL.isSlice hxs
    have HX1 := hide hb1
    have HXS := hide (show OFlds W.heap.size Z1.heap.size Z1 (.slice p3 xs.length c3) xs from hxs)
    have HRB := hide (show fldsP m RV.data.toList = (if b then some xs else none) from hRb)
    clear hb1 hxs hRb
    go_wp2_with fail
    refine (clone_any N3 _ (by have := HN3s.out; omega)).mono ?_
    rintro e Z2 ⟨rfl, hb2⟩
    have HX2 := hide (HX1.out.trans (hb2.mono HX1.out.size))
    have HXT := hide (Keeps.go (SameIn.ofBelow hb2) HXS.out)
    have HZ12 := hide hb2.size
    clear hb2 HXS
    have HROZ := hide (HR2.out.below HX2.out HR2.out.lt)
    have hzs := HX2.out.size
    have hws := HWs.out
    obtain ⟨Y, hY⟩ : ∃ Y, Y = Z2.alloc (.cells #[.string N3, .slice p3 xs.length c3] 41) := ⟨_, rfl⟩
    have hba : Below Z2.heap.size Z2 Y := by rw [hY]; exact (Below.refl _ _).alloc (Nat.le_refl _) _
    have HBY := hide (HX2.out.trans (hba.mono HX2.out.size))
    have HRF := hide (show Row Y Z2.heap.size 41 [.string N3, .slice p3 xs.length c3] by rw [hY]; exact row_new Z2 [.string N3, .slice p3 xs.length c3] _)
    have HROY := hide (HROZ.out.below hba HROZ.out.lt)
    have HOY := hide (show OFlds W.heap.size Y.heap.size Y (.slice p3 xs.length c3) xs from Keeps.wide (Nat.le_refl _) (Nat.le_trans HZ12.out hba.size) (Keeps.go (SameIn.ofBelow hba) HXT.out))
    clear hba
    go_wp2_with fail
    rw [← hY]
    clear hY HX2 HROZ HXT HZ12
    generalize Z2.heap.size = FB at *
    refine wp_region_held (S := (fun y : World => y.cell? ⟨FB, 0, none⟩ = some (.string N3) ∧ y.cell? ⟨FB, 1, none⟩ = some (.slice p3 xs.length c3))) (by kernel_rfl) ?_
    have HD := hide (show Below Y.heap.size Y { Y with drawn := Y.drawn + 1 } from (Below.refl _ _).drew)
    generalize ({ Y with drawn := Y.drawn + 1 } : World) = Z at HD ⊢
    have HSY := hide (show ∀ y, Below Y.heap.size Y y → (fun y : World => y.cell? ⟨FB, 0, none⟩ = some (.string N3) ∧ y.cell? ⟨FB, 1, none⟩ = some (.slice p3 xs.length c3)) y from fun y h => ⟨(HRF.out.below h HRF.out.lt).cell 0, (HRF.out.below h HRF.out.lt).cell 1⟩)
    have HRL := hide (show ∀ y, Below Y.heap.size Y y → RFlds 0 y (.slice p3 xs.length c3) xs from fun y h => RFlds.mono (OFlds.rl (Keeps.go (SameIn.ofBelow h) HOY.out)) (Nat.zero_le _))
    obtain ⟨FP, hFP⟩ : ∃ FP : World → Prop, FP = (fun V => Row V (w.heap.size + 1) 41 [.string N3, .slice p3 xs.length c3] ∧ Below w.heap.size w V ∧ OFlds w.heap.size V.heap.size V (.slice p3 xs.length c3) xs ∧ Row V FB 41 [.string N3, .slice p3 xs.length c3]) := ⟨_, rfl⟩
    have HF1 : Hid (∀ Z, Below Y.heap.size Y Z → FP ((Z.setCell ⟨w.heap.size + 1, 0, none⟩ (.string N3)).setCell ⟨w.heap.size + 1, 1, none⟩ (.slice p3 xs.length c3))) := hide (by
      rw [hFP]
      intro Z h
      have hsz := h.size
      have hfl := HRF.out.lt
      have es : ((Z.setCell ⟨w.heap.size + 1, 0, none⟩ (.string N3)).setCell ⟨w.heap.size + 1, 1, none⟩ (.slice p3 xs.length c3)).heap.size = Z.heap.size := by simp [World.setCell]
      refine ⟨((HROY.out.below h HROY.out.lt).set (j := 0) _).set (j := 1) _, ((HBW.out.trans ((HBY.out.trans (h.mono HBY.out.size)).mono HBW.out.size)).setCell (p := ⟨w.heap.size + 1, 0, none⟩) (by show w.heap.size ≤ w.heap.size + 1; omega) _).setCell (p := ⟨w.heap.size + 1, 1, none⟩) (by show w.heap.size ≤ w.heap.size + 1; omega) _, ?_, ((HRF.out.below h HRF.out.lt).other (b := w.heap.size + 1) (j := 0) (by omega) _).other (b := w.heap.size + 1) (j := 1) (by omega) _⟩
      rw [es]
      exact Keeps.wide (by omega : w.heap.size ≤ W.heap.size) (by omega) (Keeps.go (SameIn.set _ (.slice p3 xs.length c3) (by omega)) (Keeps.go (SameIn.set Z (.string N3) (by omega)) (Keeps.go (SameIn.ofBelow h) HOY.out))))
    have HF2 : Hid (∀ V, FP V → (fun y : World => y.cell? ⟨FB, 0, none⟩ = some (.string N3) ∧ y.cell? ⟨FB, 1, none⟩ = some (.slice p3 xs.length c3)) V) := hide (by rw [hFP]; exact fun V h => ⟨h.2.2.2.cell 0, h.2.2.2.cell 1⟩)
    have HFS := HF2
    have HF0 : Hid (∀ V, FP V → Row V (w.heap.size + 1) 41 [.string N3, .slice p3 xs.length c3] ∧ Below w.heap.size w V ∧ OFlds w.heap.size V.heap.size V (.slice p3 xs.length c3) xs) := hide (by rw [hFP]; exact fun V h => ⟨h.1, h.2.1, h.2.2.1⟩)
    clear hFP HOY HRF
    have HS := hide (HSY.out _ HD.out)
    cases b with
    | false =>
      refine wpAnyH_take (i := 0) (oi := _) (v := .agg #[.string N3, .slice p3 xs.length c3]) rfl (by kernel_rfl) (by kernel_rfl) (by kernel_rfl) (fun _ _ _ h => h) (Or.inl ⟨by rfl, by intro w hSw; go_split_ands; go_simp⟩) HS.out ?_
      simp only [Act.put, List.getElem_toArray, List.getElem_cons_zero, List.setIfInBounds_toArray, List.set_cons_zero, List.set_cons_succ]
      refine wpAnyH_take (i := 1) (oi := _) (v := .bool false) rfl (by kernel_rfl) (by kernel_rfl) (by kernel_rfl) (fun _ _ _ h => h) (Or.inl ⟨by rfl, by intro w hSw; go_split_ands; go_simp⟩) HS.out ?_
      simp only [Act.put, List.getElem_toArray, List.getElem_cons_zero, List.getElem_cons_succ, List.setIfInBounds_toArray, List.set_cons_zero, List.set_cons_succ]
      refine wpAnyH_take (i := 2) (oi := _) (v := .bool false) rfl (by kernel_rfl) (by kernel_rfl) (by kernel_rfl) (fun _ _ _ h => h) (Or.inl ⟨by rfl, by intro w hSw; go_split_ands; go_simp⟩) HS.out ?_
      simp only [Act.put, List.getElem_toArray, List.getElem_cons_zero, List.getElem_cons_succ, List.setIfInBounds_toArray, List.set_cons_zero, List.set_cons_succ]
      refine wpAnyH_take (i := 3) (oi := _) (v := undef) rfl (by kernel_rfl) (by kernel_rfl) (by kernel_rfl) (fun _ _ _ h => h) (Or.inr ⟨by rfl, rfl⟩) HS.out ?_
      simp only [Act.put, List.getElem_toArray, List.getElem_cons_zero, List.getElem_cons_succ, List.setIfInBounds_toArray, List.set_cons_zero, List.set_cons_succ]
      refine wpAnyH_take (i := 4) (oi := _) (v := undef) rfl (by kernel_rfl) (by kernel_rfl) (by kernel_rfl) (fun _ _ _ h => h) (Or.inr ⟨by rfl, rfl⟩) HS.out ?_
      simp only [Act.put, List.getElem_toArray, List.getElem_cons_zero, List.getElem_cons_succ, List.setIfInBounds_toArray, List.set_cons_zero, List.set_cons_succ]
      refine wpAnyH_take (i := 5) (oi := _) (v := .bool false) rfl (by kernel_rfl) (by kernel_rfl) (by kernel_rfl) (fun _ _ _ h => h) (Or.inl ⟨by rfl, by intro w hSw; go_split_ands; go_simp⟩) HS.out ?_
      simp only [Act.put, List.getElem_toArray, List.getElem_cons_zero, List.getElem_cons_succ, List.setIfInBounds_toArray, List.set_cons_zero, List.set_cons_succ]
      refine wpAnyH_ready (rs := [6]) (by kernel_rfl) (by simp) ?_
      refine AllReadyH.cons (o := _) rfl (fun K hK => ?_) AllReadyH.nil
      have c5 : Z.cell? ⟨w.heap.size + 1, 0, none⟩ = some (.string ⟨#[]⟩) := (HROY.out.below HD.out HROY.out.lt).cell 0
      have f5 := (HROY.out.below HD.out HROY.out.lt).free 0
      have c6 : Z.cell? ⟨w.heap.size + 1, 1, none⟩ = some (.slice none 0 0) := (HROY.out.below HD.out HROY.out.lt).cell 1
      have f6 := (HROY.out.below HD.out HROY.out.lt).free 1
      go_simp
      have HFP := hide (HF1.out _ HD.out)
      obtain ⟨V, hV⟩ : ∃ V, V = (Z.setCell ⟨w.heap.size + 1, 0, none⟩ (.string N3)).setCell ⟨w.heap.size + 1, 1, none⟩ (.slice p3 xs.length c3) := ⟨_, rfl⟩
      rw [← hV] at HFP
      try rw [← hV]
      clear hV
      refine hK.out _ _ (HFS.out _ HFP.out) (fun _ => ?_)
      clear hK K HS c5 f5 c6 f6
      have HS := hide (HFS.out _ HFP.out)
      refine wpAnyH_take (i := 7) (oi := _) (v := .bool false) rfl (by kernel_rfl) (by kernel_rfl) (by kernel_rfl) (fun _ _ _ h => h) (Or.inl ⟨by rfl, by intro w hSw; go_split_ands; go_simp⟩) HS.out ?_
      simp only [Act.put, List.getElem_toArray, List.getElem_cons_zero, List.getElem_cons_succ, List.setIfInBounds_toArray, List.set_cons_zero, List.set_cons_succ]
      refine wpAnyH_done (by kernel_rfl) ?_ _
      obtain ⟨e1, e2, e3⟩ := HF0.out _ HFP.out
      have HE2 := hide e2
      have HE3 := hide e3
      have v0 : V.cell? ⟨w.heap.size + 1, 0, none⟩ = some (.string N3) := e1.cell 0
      have v1 : V.cell? ⟨w.heap.size + 1, 1, none⟩ = some (.slice p3 xs.length c3) := e1.cell 1
      clear e1 e2 e3
      go_wp2
      exact bodyPost_ret (v := .tuple #[.agg #[.string N3, .slice p3 xs.length c3], .bool false]) (by simp [results, Tryz.results34, go_sem, v0, v1]) rfl ⟨⟨N3, _, false, xs, rfl, HE3.out, HN3s.out, by rw [HRX.out]; unfold segQ; rw [HHD.out]; show (fldsP m RV.data.toList).bind _ = _; rw [HRB.out]; rfl⟩, HE2.out⟩
    | true =>
      refine wpAnyH_take (i := 0) (oi := _) (v := .agg #[.string N3, .slice p3 xs.length c3]) rfl (by kernel_rfl) (by kernel_rfl) (by kernel_rfl) (fun _ _ _ h => h) (Or.inl ⟨by rfl, by intro w hSw; go_split_ands; go_simp⟩) HS.out ?_
      simp only [Act.put, List.getElem_toArray, List.getElem_cons_zero, List.setIfInBounds_toArray, List.set_cons_zero, List.set_cons_succ]
      refine wpAnyH_take (i := 1) (oi := _) (v := .bool true) rfl (by kernel_rfl) (by kernel_rfl) (by kernel_rfl) (fun _ _ _ h => h) (Or.inl ⟨by rfl, by intro w hSw; go_split_ands; go_simp⟩) HS.out ?_
      simp only [Act.put, List.getElem_toArray, List.getElem_cons_zero, List.getElem_cons_succ, List.setIfInBounds_toArray, List.set_cons_zero, List.set_cons_succ]
      refine wpAnyH_take (i := 2) (oi := _) (v := .bool true) rfl (by kernel_rfl) (by kernel_rfl) (by kernel_rfl) (fun _ _ _ h => h) (Or.inl ⟨by rfl, by intro w hSw; go_split_ands; go_simp⟩) HS.out ?_
      simp only [Act.put, List.getElem_toArray, List.getElem_cons_zero, List.getElem_cons_succ, List.setIfInBounds_toArray, List.set_cons_zero, List.set_cons_succ]
      refine wpAnyH_take (i := 3) (oi := _) (v := .agg #[.string N3, .slice p3 xs.length c3]) rfl (by kernel_rfl) (by kernel_rfl) (by kernel_rfl) (fun _ _ _ h => h) (Or.inl ⟨by rfl, by intro w hSw; go_split_ands; go_simp⟩) HS.out ?_
      simp only [Act.put, List.getElem_toArray, List.getElem_cons_zero, List.getElem_cons_succ, List.setIfInBounds_toArray, List.set_cons_zero, List.set_cons_succ]
      have HFT := hide (show Fits xs from fldsP_fits (by have := HRVl.out; omega) (show fldsP m RV.data.toList = some xs by rw [HRB.out]; rfl))
      refine wpAnyH_ready (rs := [4]) (by kernel_rfl) (by simp) ?_
      refine AllReadyH.cons (o := _) rfl (fun K hK => ?_) AllReadyH.nil
      go_simp
      refine (implSegment_any N3 _ xs _ HFT.out (HRL.out _ HD.out)).mono ?_
      rintro e Z1 ⟨rfl, hb1⟩
      have HD1 := hide (HD.out.trans (hb1.mono HD.out.size))
      clear hb1
      refine hK.out _ _ (HSY.out _ HD1.out) (fun _ => ?_)
      clear hK K HS
      have HS := hide (HSY.out _ HD1.out)
      refine wpAnyH_take (i := 5) (oi := _) (v := .bool (segB N3 xs)) rfl (by kernel_rfl) (by kernel_rfl) (by kernel_rfl) (fun _ _ _ h => h) (Or.inl ⟨by rfl, by intro w hSw; go_split_ands; go_simp⟩) HS.out ?_
      simp only [Act.put, List.getElem_toArray, List.getElem_cons_zero, List.getElem_cons_succ, List.setIfInBounds_toArray, List.set_cons_zero, List.set_cons_succ]
      refine wpAnyH_ready (rs := [6]) (by kernel_rfl) (by simp) ?_
      refine AllReadyH.cons (o := _) rfl (fun K hK => ?_) AllReadyH.nil
      have c5 : Z1.cell? ⟨w.heap.size + 1, 0, none⟩ = some (.string ⟨#[]⟩) := (HROY.out.below HD1.out HROY.out.lt).cell 0
      have f5 := (HROY.out.below HD1.out HROY.out.lt).free 0
      have c6 : Z1.cell? ⟨w.heap.size + 1, 1, none⟩ = some (.slice none 0 0) := (HROY.out.below HD1.out HROY.out.lt).cell 1
      have f6 := (HROY.out.below HD1.out HROY.out.lt).free 1
      go_simp
      have HFP := hide (HF1.out _ HD1.out)
      obtain ⟨V, hV⟩ : ∃ V, V = (Z1.setCell ⟨w.heap.size + 1, 0, none⟩ (.string N3)).setCell ⟨w.heap.size + 1, 1, none⟩ (.slice p3 xs.length c3) := ⟨_, rfl⟩
      rw [← hV] at HFP
      try rw [← hV]
      clear hV
      refine hK.out _ _ (HFS.out _ HFP.out) (fun _ => ?_)
      clear hK K HS c5 f5 c6 f6
      have HS := hide (HFS.out _ HFP.out)
      refine wpAnyH_take (i := 7) (oi := _) (v := .bool (segB N3 xs)) rfl (by kernel_rfl) (by kernel_rfl) (by kernel_rfl) (fun _ _ _ h => h) (Or.inl ⟨by rfl, by intro w hSw; go_split_ands; go_simp⟩) HS.out ?_
      simp only [Act.put, List.getElem_toArray, List.getElem_cons_zero, List.getElem_cons_succ, List.setIfInBounds_toArray, List.set_cons_zero, List.set_cons_succ]
      refine wpAnyH_done (by kernel_rfl) ?_ _
      obtain ⟨e1, e2, e3⟩ := HF0.out _ HFP.out
      have HE2 := hide e2
      have HE3 := hide e3
      have v0 : V.cell? ⟨w.heap.size + 1, 0, none⟩ = some (.string N3) := e1.cell 0
      have v1 : V.cell? ⟨w.heap.size + 1, 1, none⟩ = some (.slice p3 xs.length c3) := e1.cell 1
      clear e1 e2 e3
      go_wp2
      exact bodyPost_ret (v := .tuple #[.agg #[.string N3, .slice p3 xs.length c3], .bool (segB N3 xs)]) (by simp [results, Tryz.results34, go_sem, v0, v1]) rfl ⟨⟨N3, _, (segB N3 xs), xs, rfl, HE3.out, HN3s.out, by rw [HRX.out]; unfold segQ; rw [HHD.out]; show (fldsP m RV.data.toList).bind _ = _; rw [HRB.out]; rfl⟩, HE2.out⟩

  · have hb : (N3.toList == [77, 83, 72]) = false := by simpa [msh] using toList_neF hmsh
    have HMS := hide hmsh
    clear hmsh
    have HHD := hide (show headR m s.data.toList = some (N3, RS.data.toList) by
      unfold headR
      rw [if_neg (by omega), ← HN3a.out, if_neg HMS.out, ← HRS3.out])
    obtain ⟨RV, hRV⟩ : ∃ RV, RV = RS := ⟨_, rfl⟩
    rw [← hRV] at HHD HRSs ⊢
    have HRVs0 := HRSs
    have HRVl := hide (show RV.data.toList.length ≤ 8000 by have h9 : RV.data.toList.length = RV.size := by simp
                                                            rw [h9]; exact HRSs.out)
    clear hRV
    go_wp2_with fail
    refine (fieldsR_any m RV _ HMB.out (by have := HRVs0.out; omega)).mono ?_
    rintro e Z1 ⟨⟨u, b, xs, rfl, hxs, hRb⟩, hb1⟩
    obtain ⟨p3, c3, rfl⟩ := OL.isSlice hxs
    have HX1 := hide hb1
    have HXS := hide (show OFlds W.heap.size Z1.heap.size Z1 (.slice p3 xs.length c3) xs from hxs)
    have HRB := hide (show fldsP m RV.data.toList = (if b then some xs else none) from hRb)
    clear hb1 hxs hRb
    go_wp2_with fail
    refine (clone_any N3 _ (by have := HN3s.out; omega)).mono ?_
    rintro e Z2 ⟨rfl, hb2⟩
    have HX2 := hide (HX1.out.trans (hb2.mono HX1.out.size))
    have HXT := hide (Keeps.go (SameIn.ofBelow hb2) HXS.out)
    have HZ12 := hide hb2.size
    clear hb2 HXS
    have HROZ := hide (HR2.out.below HX2.out HR2.out.lt)
    have hzs := HX2.out.size
    have hws := HWs.out
    obtain ⟨Y, hY⟩ : ∃ Y, Y = Z2.alloc (.cells #[.string N3, .slice p3 xs.length c3] 41) := ⟨_, rfl⟩
    have hba : Below Z2.heap.size Z2 Y := by rw [hY]; exact (Below.refl _ _).alloc (Nat.le_refl _) _
    have HBY := hide (HX2.out.trans (hba.mono HX2.out.size))
    have HRF := hide (show Row Y Z2.heap.size 41 [.string N3, .slice p3 xs.length c3] by rw [hY]; exact row_new Z2 [.string N3, .slice p3 xs.length c3] _)
    have HROY := hide (HROZ.out.below hba HROZ.out.lt)
    have HOY := hide (show OFlds W.heap.size Y.heap.size Y (.slice p3 xs.length c3) xs from Keeps.wide (Nat.le_refl _) (Nat.le_trans HZ12.out hba.size) (Keeps.go (SameIn.ofBelow hba) HXT.out))
    clear hba
    go_wp2_with fail
    rw [← hY]
    clear hY HX2 HROZ HXT HZ12
    generalize Z2.heap.size = FB at *
    refine wp_region_held (S := (fun y : World => y.cell? ⟨FB, 0, none⟩ = some (.string N3) ∧ y.cell? ⟨FB, 1, none⟩ = some (.slice p3 xs.length c3))) (by kernel_rfl) ?_
    have HD := hide (show Below Y.heap.size Y { Y with drawn := Y.drawn + 1 } from (Below.refl _ _).drew)
    generalize ({ Y with drawn := Y.drawn + 1 } : World) = Z at HD ⊢
    have HSY := hide (show ∀ y, Below Y.heap.size Y y → (fun y : World => y.cell? ⟨FB, 0, none⟩ = some (.string N3) ∧ y.cell? ⟨FB, 1, none⟩ = some (.slice p3 xs.length c3)) y from fun y h => ⟨(HRF.out.below h HRF.out.lt).cell 0, (HRF.out.below h HRF.out.lt).cell 1⟩)
    have HRL := hide (show ∀ y, Below Y.heap.size Y y → RFlds 0 y (.slice p3 xs.length c3) xs from fun y h => RFlds.mono (OFlds.rl (Keeps.go (SameIn.ofBelow h) HOY.out)) (Nat.zero_le _))
    obtain ⟨FP, hFP⟩ : ∃ FP : World → Prop, FP = (fun V => Row V (w.heap.size + 1) 41 [.string N3, .slice p3 xs.length c3] ∧ Below w.heap.size w V ∧ OFlds w.heap.size V.heap.size V (.slice p3 xs.length c3) xs ∧ Row V FB 41 [.string N3, .slice p3 xs.length c3]) := ⟨_, rfl⟩
    have HF1 : Hid (∀ Z, Below Y.heap.size Y Z → FP ((Z.setCell ⟨w.heap.size + 1, 0, none⟩ (.string N3)).setCell ⟨w.heap.size + 1, 1, none⟩ (.slice p3 xs.length c3))) := hide (by
      rw [hFP]
      intro Z h
      have hsz := h.size
      have hfl := HRF.out.lt
      have es : ((Z.setCell ⟨w.heap.size + 1, 0, none⟩ (.string N3)).setCell ⟨w.heap.size + 1, 1, none⟩ (.slice p3 xs.length c3)).heap.size = Z.heap.size := by simp [World.setCell]
      refine ⟨((HROY.out.below h HROY.out.lt).set (j := 0) _).set (j := 1) _, ((HBW.out.trans ((HBY.out.trans (h.mono HBY.out.size)).mono HBW.out.size)).setCell (p := ⟨w.heap.size + 1, 0, none⟩) (by show w.heap.size ≤ w.heap.size + 1; omega) _).setCell (p := ⟨w.heap.size + 1, 1, none⟩) (by show w.heap.size ≤ w.heap.size + 1; omega) _, ?_, ((HRF.out.below h HRF.out.lt).other (b := w.heap.size + 1) (j := 0) (by omega) _).other (b := w.heap.size + 1) (j := 1) (by omega) _⟩
      rw [es]
      exact Keeps.wide (by omega : w.heap.size ≤ W.heap.size) (by omega) (Keeps.go (SameIn.set _ (.slice p3 xs.length c3) (by omega)) (Keeps.go (SameIn.set Z (.string N3) (by omega)) (Keeps.go (SameIn.ofBelow h) HOY.out))))
    have HF2 : Hid (∀ V, FP V → (fun y : World => y.cell? ⟨FB, 0, none⟩ = some (.string N3) ∧ y.cell? ⟨FB, 1, none⟩ = some (.slice p3 xs.length c3)) V) := hide (by rw [hFP]; exact fun V h => ⟨h.2.2.2.cell 0, h.2.2.2.cell 1⟩)
    have HFS := HF2
    have HF0 : Hid (∀ V, FP V → Row V (w.heap.size + 1) 41 [.string N3, .slice p3 xs.length c3] ∧ Below w.heap.size w V ∧ OFlds w.heap.size V.heap.size V (.slice p3 xs.length c3) xs) := hide (by rw [hFP]; exact fun V h => ⟨h.1, h.2.1, h.2.2.1⟩)
    clear hFP HOY HRF
    have HS := hide (HSY.out _ HD.out)
    cases b with
    | false =>
      refine wpAnyH_take (i := 0) (oi := _) (v := .agg #[.string N3, .slice p3 xs.length c3]) rfl (by kernel_rfl) (by kernel_rfl) (by kernel_rfl) (fun _ _ _ h => h) (Or.inl ⟨by rfl, by intro w hSw; go_split_ands; go_simp⟩) HS.out ?_
      simp only [Act.put, List.getElem_toArray, List.getElem_cons_zero, List.setIfInBounds_toArray, List.set_cons_zero, List.set_cons_succ]
      refine wpAnyH_take (i := 1) (oi := _) (v := .bool false) rfl (by kernel_rfl) (by kernel_rfl) (by kernel_rfl) (fun _ _ _ h => h) (Or.inl ⟨by rfl, by intro w hSw; go_split_ands; go_simp⟩) HS.out ?_
      simp only [Act.put, List.getElem_toArray, List.getElem_cons_zero, List.getElem_cons_succ, List.setIfInBounds_toArray, List.set_cons_zero, List.set_cons_succ]
      refine wpAnyH_take (i := 2) (oi := _) (v := .bool false) rfl (by kernel_rfl) (by kernel_rfl) (by kernel_rfl) (fun _ _ _ h => h) (Or.inl ⟨by rfl, by intro w hSw; go_split_ands; go_simp⟩) HS.out ?_
      simp only [Act.put, List.getElem_toArray, List.getElem_cons_zero, List.getElem_cons_succ, List.setIfInBounds_toArray, List.set_cons_zero, List.set_cons_succ]
      refine wpAnyH_take (i := 3) (oi := _) (v := undef) rfl (by kernel_rfl) (by kernel_rfl) (by kernel_rfl) (fun _ _ _ h => h) (Or.inr ⟨by rfl, rfl⟩) HS.out ?_
      simp only [Act.put, List.getElem_toArray, List.getElem_cons_zero, List.getElem_cons_succ, List.setIfInBounds_toArray, List.set_cons_zero, List.set_cons_succ]
      refine wpAnyH_take (i := 4) (oi := _) (v := undef) rfl (by kernel_rfl) (by kernel_rfl) (by kernel_rfl) (fun _ _ _ h => h) (Or.inr ⟨by rfl, rfl⟩) HS.out ?_
      simp only [Act.put, List.getElem_toArray, List.getElem_cons_zero, List.getElem_cons_succ, List.setIfInBounds_toArray, List.set_cons_zero, List.set_cons_succ]
      refine wpAnyH_take (i := 5) (oi := _) (v := .bool false) rfl (by kernel_rfl) (by kernel_rfl) (by kernel_rfl) (fun _ _ _ h => h) (Or.inl ⟨by rfl, by intro w hSw; go_split_ands; go_simp⟩) HS.out ?_
      simp only [Act.put, List.getElem_toArray, List.getElem_cons_zero, List.getElem_cons_succ, List.setIfInBounds_toArray, List.set_cons_zero, List.set_cons_succ]
      refine wpAnyH_ready (rs := [6]) (by kernel_rfl) (by simp) ?_
      refine AllReadyH.cons (o := _) rfl (fun K hK => ?_) AllReadyH.nil
      have c5 : Z.cell? ⟨w.heap.size + 1, 0, none⟩ = some (.string ⟨#[]⟩) := (HROY.out.below HD.out HROY.out.lt).cell 0
      have f5 := (HROY.out.below HD.out HROY.out.lt).free 0
      have c6 : Z.cell? ⟨w.heap.size + 1, 1, none⟩ = some (.slice none 0 0) := (HROY.out.below HD.out HROY.out.lt).cell 1
      have f6 := (HROY.out.below HD.out HROY.out.lt).free 1
      go_simp
      have HFP := hide (HF1.out _ HD.out)
      obtain ⟨V, hV⟩ : ∃ V, V = (Z.setCell ⟨w.heap.size + 1, 0, none⟩ (.string N3)).setCell ⟨w.heap.size + 1, 1, none⟩ (.slice p3 xs.length c3) := ⟨_, rfl⟩
      rw [← hV] at HFP
      try rw [← hV]
      clear hV
      refine hK.out _ _ (HFS.out _ HFP.out) (fun _ => ?_)
      clear hK K HS c5 f5 c6 f6
      have HS := hide (HFS.out _ HFP.out)
      refine wpAnyH_take (i := 7) (oi := _) (v := .bool false) rfl (by kernel_rfl) (by kernel_rfl) (by kernel_rfl) (fun _ _ _ h => h) (Or.inl ⟨by rfl, by intro w hSw; go_split_ands; go_simp⟩) HS.out ?_
      simp only [Act.put, List.getElem_toArray, List.getElem_cons_zero, List.getElem_cons_succ, List.setIfInBounds_toArray, List.set_cons_zero, List.set_cons_succ]
      refine wpAnyH_done (by kernel_rfl) ?_ _
      obtain ⟨e1, e2, e3⟩ := HF0.out _ HFP.out
      have HE2 := hide e2
      have HE3 := hide e3
      have v0 : V.cell? ⟨w.heap.size + 1, 0, none⟩ = some (.string N3) := e1.cell 0
      have v1 : V.cell? ⟨w.heap.size + 1, 1, none⟩ = some (.slice p3 xs.length c3) := e1.cell 1
      clear e1 e2 e3
      go_wp2
      exact bodyPost_ret (v := .tuple #[.agg #[.string N3, .slice p3 xs.length c3], .bool false]) (by simp [results, Tryz.results34, go_sem, v0, v1]) rfl ⟨⟨N3, _, false, xs, rfl, HE3.out, HN3s.out, by rw [HRX.out]; unfold segQ; rw [HHD.out]; show (fldsP m RV.data.toList).bind _ = _; rw [HRB.out]; rfl⟩, HE2.out⟩
    | true =>
      refine wpAnyH_take (i := 0) (oi := _) (v := .agg #[.string N3, .slice p3 xs.length c3]) rfl (by kernel_rfl) (by kernel_rfl) (by kernel_rfl) (fun _ _ _ h => h) (Or.inl ⟨by rfl, by intro w hSw; go_split_ands; go_simp⟩) HS.out ?_
      simp only [Act.put, List.getElem_toArray, List.getElem_cons_zero, List.setIfInBounds_toArray, List.set_cons_zero, List.set_cons_succ]
      refine wpAnyH_take (i := 1) (oi := _) (v := .bool true) rfl (by kernel_rfl) (by kernel_rfl) (by kernel_rfl) (fun _ _ _ h => h) (Or.inl ⟨by rfl, by intro w hSw; go_split_ands; go_simp⟩) HS.out ?_
      simp only [Act.put, List.getElem_toArray, List.getElem_cons_zero, List.getElem_cons_succ, List.setIfInBounds_toArray, List.set_cons_zero, List.set_cons_succ]
      refine wpAnyH_take (i := 2) (oi := _) (v := .bool true) rfl (by kernel_rfl) (by kernel_rfl) (by kernel_rfl) (fun _ _ _ h => h) (Or.inl ⟨by rfl, by intro w hSw; go_split_ands; go_simp⟩) HS.out ?_
      simp only [Act.put, List.getElem_toArray, List.getElem_cons_zero, List.getElem_cons_succ, List.setIfInBounds_toArray, List.set_cons_zero, List.set_cons_succ]
      refine wpAnyH_take (i := 3) (oi := _) (v := .agg #[.string N3, .slice p3 xs.length c3]) rfl (by kernel_rfl) (by kernel_rfl) (by kernel_rfl) (fun _ _ _ h => h) (Or.inl ⟨by rfl, by intro w hSw; go_split_ands; go_simp⟩) HS.out ?_
      simp only [Act.put, List.getElem_toArray, List.getElem_cons_zero, List.getElem_cons_succ, List.setIfInBounds_toArray, List.set_cons_zero, List.set_cons_succ]
      have HFT := hide (show Fits xs from fldsP_fits (by have := HRVl.out; omega) (show fldsP m RV.data.toList = some xs by rw [HRB.out]; rfl))
      refine wpAnyH_ready (rs := [4]) (by kernel_rfl) (by simp) ?_
      refine AllReadyH.cons (o := _) rfl (fun K hK => ?_) AllReadyH.nil
      go_simp
      refine (implSegment_any N3 _ xs _ HFT.out (HRL.out _ HD.out)).mono ?_
      rintro e Z1 ⟨rfl, hb1⟩
      have HD1 := hide (HD.out.trans (hb1.mono HD.out.size))
      clear hb1
      refine hK.out _ _ (HSY.out _ HD1.out) (fun _ => ?_)
      clear hK K HS
      have HS := hide (HSY.out _ HD1.out)
      refine wpAnyH_take (i := 5) (oi := _) (v := .bool (segB N3 xs)) rfl (by kernel_rfl) (by kernel_rfl) (by kernel_rfl) (fun _ _ _ h => h) (Or.inl ⟨by rfl, by intro w hSw; go_split_ands; go_simp⟩) HS.out ?_
      simp only [Act.put, List.getElem_toArray, List.getElem_cons_zero, List.getElem_cons_succ, List.setIfInBounds_toArray, List.set_cons_zero, List.set_cons_succ]
      refine wpAnyH_ready (rs := [6]) (by kernel_rfl) (by simp) ?_
      refine AllReadyH.cons (o := _) rfl (fun K hK => ?_) AllReadyH.nil
      have c5 : Z1.cell? ⟨w.heap.size + 1, 0, none⟩ = some (.string ⟨#[]⟩) := (HROY.out.below HD1.out HROY.out.lt).cell 0
      have f5 := (HROY.out.below HD1.out HROY.out.lt).free 0
      have c6 : Z1.cell? ⟨w.heap.size + 1, 1, none⟩ = some (.slice none 0 0) := (HROY.out.below HD1.out HROY.out.lt).cell 1
      have f6 := (HROY.out.below HD1.out HROY.out.lt).free 1
      go_simp
      have HFP := hide (HF1.out _ HD1.out)
      obtain ⟨V, hV⟩ : ∃ V, V = (Z1.setCell ⟨w.heap.size + 1, 0, none⟩ (.string N3)).setCell ⟨w.heap.size + 1, 1, none⟩ (.slice p3 xs.length c3) := ⟨_, rfl⟩
      rw [← hV] at HFP
      try rw [← hV]
      clear hV
      refine hK.out _ _ (HFS.out _ HFP.out) (fun _ => ?_)
      clear hK K HS c5 f5 c6 f6
      have HS := hide (HFS.out _ HFP.out)
      refine wpAnyH_take (i := 7) (oi := _) (v := .bool (segB N3 xs)) rfl (by kernel_rfl) (by kernel_rfl) (by kernel_rfl) (fun _ _ _ h => h) (Or.inl ⟨by rfl, by intro w hSw; go_split_ands; go_simp⟩) HS.out ?_
      simp only [Act.put, List.getElem_toArray, List.getElem_cons_zero, List.getElem_cons_succ, List.setIfInBounds_toArray, List.set_cons_zero, List.set_cons_succ]
      refine wpAnyH_done (by kernel_rfl) ?_ _
      obtain ⟨e1, e2, e3⟩ := HF0.out _ HFP.out
      have HE2 := hide e2
      have HE3 := hide e3
      have v0 : V.cell? ⟨w.heap.size + 1, 0, none⟩ = some (.string N3) := e1.cell 0
      have v1 : V.cell? ⟨w.heap.size + 1, 1, none⟩ = some (.slice p3 xs.length c3) := e1.cell 1
      clear e1 e2 e3
      go_wp2
      exact bodyPost_ret (v := .tuple #[.agg #[.string N3, .slice p3 xs.length c3], .bool (segB N3 xs)]) (by simp [results, Tryz.results34, go_sem, v0, v1]) rfl ⟨⟨N3, _, (segB N3 xs), xs, rfl, HE3.out, HN3s.out, by rw [HRX.out]; unfold segQ; rw [HHD.out]; show (fldsP m RV.data.toList).bind _ = _; rw [HRB.out]; rfl⟩, HE2.out⟩

end Go.Proofs.YtckcfjibiidafaaGreat
