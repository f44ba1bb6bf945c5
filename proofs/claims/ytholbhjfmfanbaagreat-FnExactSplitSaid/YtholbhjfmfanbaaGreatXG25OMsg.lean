/- Lists of Messages and of Batches in memory of one's own; their marks; the laws' own copies of them. -/
import Derived.Test.YtholbhjfmfanbaaGreatXG21OCopyS
import Derived.Test.YtholbhjfmfanbaaGreatXG12FFilS
import Derived.Test.YtholbhjfmfanbaaGreatXG22OCopyM
namespace Go.Proofs.YtholbhjfmfanbaaGreat
open Go.RowKit
instance : Keeps OSegs := ⟨fun hs h => h.keep hs, fun hl hh h => h.wide hl hh⟩
def OMsgs (lo hi : Nat) (w : World) (v : Value) (xs : List Msg) : Prop :=
  ∃ p cap, v = .slice p xs.length cap ∧ xs.length ≤ cap ∧ cap ≤ maxLen ∧
    (0 < xs.length → ∃ (g : Nat) (cs : List Value) (A B : Nat → Nat), p = some ⟨g, 0, none⟩ ∧ lo ≤ g ∧ g < hi ∧ Row w g 53 cs ∧ xs.length * 2 ≤ cs.length ∧
      (∀ j (h2 : j < xs.length), cs[j * 2]? = some (.string xs[j].1) ∧ xs[j].1.size ≤ maxLen ∧ lo ≤ A j ∧ B j ≤ hi ∧ (B j ≤ g ∨ g < A j) ∧ ∃ u, cs[j * 2 + 1]? = some u ∧ OSegs (A j) (B j) w u xs[j].2) ∧ (∀ i j, i < j → j < xs.length → B i ≤ A j))
theorem OMsgs.keep {lo hi : Nat} {w w' : World} {v : Value} {xs : List Msg} (h : OMsgs lo hi w v xs) (hs : SameIn lo hi w w') : OMsgs lo hi w' v xs := by
  obtain ⟨p, cap, rfl, h1, h2, h4⟩ := h
  refine ⟨p, cap, rfl, h1, h2, fun h0 => ?_⟩
  obtain ⟨g, cs, A, B, rfl, a, b, hr, hl, hE, hD⟩ := h4 h0
  refine ⟨g, cs, A, B, rfl, a, b, hs.row hr a b, hl, fun i k2 => ?_, hD⟩
  obtain ⟨e0, e1, e2, e3, e4, u, e5, e6⟩ := hE i k2
  exact ⟨e0, e1, e2, e3, e4, u, e5, Keeps.go (hs.mono e2 e3) e6⟩
theorem OMsgs.wide {lo hi lo' hi' : Nat} {w : World} {v : Value} {xs : List Msg} (h : OMsgs lo hi w v xs) (hl : lo' ≤ lo) (hh : hi ≤ hi') : OMsgs lo' hi' w v xs := by
  obtain ⟨p, cap, rfl, h1, h2, h4⟩ := h
  refine ⟨p, cap, rfl, h1, h2, fun h0 => ?_⟩
  obtain ⟨g, cs, A, B, rfl, a, b, hr, hln, hE, hD⟩ := h4 h0
  refine ⟨g, cs, A, B, rfl, by omega, by omega, hr, hln, fun i k2 => ?_, hD⟩
  obtain ⟨e0, e1, e2, e3, e4, u, e5, e6⟩ := hE i k2
  exact ⟨e0, e1, by omega, by omega, e4, u, e5, e6⟩
theorem OMsgs.isSlice {lo hi : Nat} {w : World} {v : Value} {xs : List Msg} (h : OMsgs lo hi w v xs) : ∃ p c, v = .slice p xs.length c := by
  obtain ⟨p, c, e, _⟩ := h
  exact ⟨p, c, e⟩
theorem OMsgs.rl {lo hi : Nat} {w : World} {v : Value} {xs : List Msg} (h : OMsgs lo hi w v xs) : RMsgs lo w v xs := by
  obtain ⟨p, cap, rfl, h1, h2, h4⟩ := h
  refine ⟨p, cap, rfl, h1, h2, fun h0 => ?_⟩
  obtain ⟨g, cs, A, B, rfl, a, b, hr, hl, hE, hD⟩ := h4 h0
  refine ⟨g, 0, rfl, hr.lt, a, fun i hi => ?_⟩
  obtain ⟨e0, e1, e2, e3, e4, u, e5, e6⟩ := hE i hi
  exact ⟨by rw [Nat.zero_add, hr.cell]; exact e0, e1, u, by rw [Nat.zero_add, hr.cell]; exact e5, RSegs.mono (OSegs.rl e6) e2⟩
def cntMsg (x : Msg) : Nat := 1 + cntSegs x.2
def mkMsg (k : Nat) (x : Msg) : Msg := (markOf k, mkSegs (k + 1) x.2)
def cntMsgs : List Msg → Nat := cntL cntMsg
def mkMsgs : Nat → List Msg → List Msg := mkL cntMsg mkMsg
theorem cntSegs_le : ∀ x : List Seg, cntSegs x ≤ wSegs x
  | [] => by simp [cntSegs, cntL, wSegs, wL]
  | y :: r => by
    have h1 := cntFs_le y.2
    have h2 := cntSegs_le r
    simp only [cntSegs, cntL, wSegs, wL, wSeg, cntSeg, List.map_cons, List.sum_cons, List.length_cons] at h2 ⊢
    omega
theorem msg_step : ∀ (xs : List Msg) (i : Nat) (hi : i < xs.length), cntL cntMsg (xs.take i) + 1 + wSegs xs[i].2 ≤ wMsgs xs
  | x :: r, 0, _ => by
    simp only [List.take_zero, cntL, List.map_nil, List.sum_nil, List.getElem_cons_zero, wMsgs, wL, List.map_cons, List.sum_cons, List.length_cons, wMsg]
    omega
  | x :: r, i + 1, hi => by
    have h1 := cntSegs_le x.2
    have h2 := msg_step r i (by simpa using hi)
    simp only [List.take_succ_cons, cntL, List.map_cons, List.sum_cons, List.getElem_cons_succ, wMsgs, wL, List.length_cons, wMsg, cntMsg] at h2 ⊢
    omega
set_option maxHeartbeats 4000000 in
theorem markMessageS_own (lo hi : Nat) (v : Value) (xs : List Msg) (k : Nat) (w : World) (hn : wMsgs xs ≤ 1048576) (hk : k + wMsgs xs ≤ 4000000) (hr : OMsgs lo hi w v xs) :
    Calls Tryz.prog 19 #[v, .int .i64 (k : Int)] w fun e w' => e = .returned (.int .i64 ((k + cntMsgs xs : Nat) : Int)) ∧ OMsgs lo hi w' v (mkMsgs k xs) ∧ Within lo hi w w' := by
  have hl : xs.length ≤ 1048576 := Nat.le_trans (wL_len _ xs) hn
  have HC := hide (fun i h => msg_step xs i h)
  have HSN := hide (fun i h => cntL_snoc cntMsg xs i h)
  have HM := hide (wMsgs_mem hn).2
  obtain ⟨p, cap, rfl, h1, h2, h4⟩ := hr
  by_cases h0 : xs.length = 0
  · obtain rfl : xs = [] := List.eq_nil_of_length_eq_zero h0
    clear h4 HC HM HSN
    go_enter Tryz.func19, Tryz.ntmps19
    go_wp2
    refine wp_loop_rounds 1 ?_
    rw [rounds_succ]
    go_wp2
    go_ret
    exact ⟨rfl, ⟨p, cap, rfl, h1, h2, fun h => absurd h (by simp [mkMsgs, mkL])⟩, Within.refl _ _ _⟩
  obtain ⟨g, cs0, A, B, rfl, ga, gb, hrow, hcl, hE, hD⟩ := h4 (by omega)
  have HK := hide hk
  have HN := hide hn
  have HR := hide hrow
  have HCL := hide hcl
  have HE := hide hE
  have HD := hide hD
  have HG := hide (show lo ≤ g ∧ g < hi from ⟨ga, gb⟩)
  have HCP := hide (show xs.length ≤ cap ∧ cap ≤ maxLen from ⟨h1, h2⟩)
  unfold maxLen at h2
  clear h4 hrow hcl hE hD hk hn ga gb
  go_enter Tryz.func19, Tryz.ntmps19
  go_wp2
  go_loopw [1, 5] (fun x i wr => ∃ (X : World) (j K : Nat) (cs : List Value), X = wr ∧ j ≤ xs.length ∧ i = .int .i64 (j : Int) ∧ x = .int .i64 (K : Int) ∧ Hid (K = k + cntL cntMsg (xs.take j)) ∧ Hid (Row X g 53 cs) ∧ Hid (xs.length * 2 ≤ cs.length) ∧ Hid (∀ i (h2 : i < xs.length), cs[i * 2]? = some (.string (if i < j then markOf (k + cntL cntMsg (xs.take i)) else xs[i].1)) ∧ lo ≤ A i ∧ B i ≤ hi ∧ (B i ≤ g ∨ g < A i) ∧ ∃ u, cs[i * 2 + 1]? = some u ∧ OSegs (A i) (B i) X u (if i < j then mkSegs (k + cntL cntMsg (xs.take i) + 1) xs[i].2 else xs[i].2)) ∧ Hid (Within lo hi w X)) (fun _ i _ => xs.length - (intOf i).toNat)
  case atStart => exact ⟨_, 0, k, cs0, rfl, Nat.zero_le _, rfl, rfl, hide (by simp [cntL]), HR, HCL, hide (fun i h2 => by
    obtain ⟨e0, e1, e2, e3, e4, u, e5, e6⟩ := HE.out i h2
    rw [if_neg (by omega), if_neg (by omega)]
    exact ⟨e0, e2, e3, e4, u, e5, e6⟩), hide (Within.refl _ _ _)⟩
  case round =>
    obtain ⟨X, j, K, cs, rfl, hj, rfl, rfl, HKE, HRX, HLX, HEX, HW⟩ := hrel
    by_cases hlt : j < xs.length
    · obtain ⟨e0, e2, e3, e4, u, e5, e6⟩ := HEX.out j hlt
      rw [if_neg (by omega)] at e0
      rw [if_neg (by omega)] at e6
      have hKb : K + 1 + wSegs (xs[j]'hlt).2 ≤ 4000000 := by have h1 := HC.out j hlt; have h2 := HK.out; rw [HKE.out]; omega
      have hwb : wSegs (xs[j]'hlt).2 ≤ 1048576 := (HM.out j hlt).1
      have HEB := hide (show lo ≤ A j ∧ B j ≤ hi ∧ (B j ≤ g ∨ g < A j) from ⟨e2, e3, e4⟩)
      obtain ⟨up, uc, rfl⟩ := e6.isSlice
      have HU := hide e5
      have HOK := hide e6
      clear e0 e2 e3 e4 e5 e6
      go_wp2_with fail
      refine (markText_any K _ (by omega)).mono ?_
      rintro e w2 ⟨rfl, hb2⟩
      have row2 := HRX.out.below hb2 HRX.out.lt
      obtain ⟨z0, hz0⟩ := row2.some (j * 2) (by have := HLX.out; omega)
      have hf0 := row2.free (j * 2)
      have row3 := row2.set (j := j * 2) (.string (markOf K))
      have c31 : (w2.setCell ⟨g, j * 2, none⟩ (.string (markOf K))).cell? ⟨g, j * 2 + 1, none⟩ = some (.slice up (xs[j]'hlt).2.length uc) := by rw [row3.cell, List.getElem?_set_ne (by omega)]; exact HU.out
      have hw3 : Within lo hi X (w2.setCell ⟨g, j * 2, none⟩ (.string (markOf K))) := Within.ofOnly (((Only.refl g X).below hb2).set (.string (markOf K))) HG.out.1 HG.out.2
      have hs3 : ∀ a b, (b ≤ g ∨ g < a) → SameIn a b X (w2.setCell ⟨g, j * 2, none⟩ (.string (markOf K))) := fun a b h k h1 h2 hk => (((Only.refl g X).below hb2).set (j := j * 2) (.string (markOf K))).block k hk (fun e => by cases e; omega)
      have HR3 := hide row3
      have HW3 := hide hw3
      have HS3 := hide hs3
      have HOK3 := hide (Keeps.go (HS3.out (A j) (B j) HEB.out.2.2) HOK.out)
      clear row2 row3 hw3 hs3 hb2 HOK
      go_wp2_with fail
      have ek : ((K : Int) + 1) = ((K + 1 : Nat) : Int) := by simp
      rw [ek]
      refine (markSegmentS_own (A j) (B j) _ (xs[j]'hlt).2 (K + 1) _ hwb hKb HOK3.out).mono ?_
      rintro e w4 ⟨rfl, hok, hw⟩
      clear ek
      have HK2 : Hid (K + 1 + cntSegs (xs[j]'hlt).2 = k + cntL cntMsg (xs.take (j + 1))) := by rw [HSN.out j hlt, HKE.out]; exact (by unfold cntMsg cntSegs; omega : k + cntL cntMsg (xs.take j) + 1 + cntSegs (xs[j]'hlt).2 = k + (cntL cntMsg (xs.take j) + cntMsg (xs[j]'hlt)))
      have HR4 := hide (hw.row HR3.out (by have := HEB.out.2.2; omega))
      have HW4 := hide ((HW.out.trans HW3.out).trans (hw.mono HEB.out.1 HEB.out.2.1))
      have HL4 : Hid (xs.length * 2 ≤ (cs.set (j * 2) (.string (markOf K))).length) := hide (by rw [List.length_set]; exact HLX.out)
      have HE4 : Hid (∀ i (h2 : i < xs.length), (cs.set (j * 2) (.string (markOf K)))[i * 2]? = some (.string (if i < j + 1 then markOf (k + cntL cntMsg (xs.take i)) else xs[i].1)) ∧ lo ≤ A i ∧ B i ≤ hi ∧ (B i ≤ g ∨ g < A i) ∧ ∃ u, (cs.set (j * 2) (.string (markOf K)))[i * 2 + 1]? = some u ∧ OSegs (A i) (B i) w4 u (if i < j + 1 then mkSegs (k + cntL cntMsg (xs.take i) + 1) xs[i].2 else xs[i].2)) := by
        intro i h2
        obtain ⟨f0, f1, f2, f3, u, f4, f5⟩ := HEX.out i h2
        have hlx := HLX.out
        by_cases hij : i = j
        · subst hij
          rw [if_pos (by omega), if_pos (by omega), List.getElem?_set_self (by omega), List.getElem?_set_ne (by omega)]
          rw [← HKE.out]
          exact ⟨rfl, f1, f2, f3, _, HU.out, hok⟩
        · have hd : B i ≤ A j ∨ B j ≤ A i := by
            rcases Nat.lt_or_gt_of_ne hij with h | h
            · exact .inl (HD.out i j h hlt)
            · exact .inr (HD.out j i h h2)
          rw [List.getElem?_set_ne (by omega), List.getElem?_set_ne (by omega)]
          have hk5 := Keeps.go (hw.same hd) (Keeps.go (HS3.out (A i) (B i) f3) f5)
          by_cases h : i < j
          · rw [if_pos h] at f0 hk5
            rw [if_pos (by omega), if_pos (by omega)]
            exact ⟨f0, f1, f2, f3, u, f4, hk5⟩
          · rw [if_neg h] at f0 hk5
            rw [if_neg (by omega), if_neg (by omega)]
            exact ⟨f0, f1, f2, f3, u, f4, hk5⟩
      clear hok hw
      go_wp2
      go_roundw
      case rel => exact ⟨_, j + 1, _, _, rfl, by omega, by go_num, rfl, HK2, HR4, HL4, HE4, HW4⟩
      case measure => simp [intOf]; omega
    · have hje : j = xs.length := by omega
      have HKF : Hid (K = k + cntMsgs xs) := by have := HKE.out; rw [List.take_of_length_le (by omega)] at this; exact this
      have hml := mkL_len cntMsg mkMsg xs k
      have HF : Hid (OMsgs lo hi X (.slice (some ⟨g, 0, none⟩) xs.length cap) (mkMsgs k xs)) := by
        refine ⟨_, cap, ?_, ?_, HCP.out.2, fun _ => ⟨g, cs, A, B, rfl, HG.out.1, HG.out.2, HRX.out, ?_, fun i h2 => ?_, fun i j h1 h2 => HD.out i j h1 (by unfold mkMsgs at h2; rw [hml] at h2; exact h2)⟩⟩
        · unfold mkMsgs; rw [hml]
        · unfold mkMsgs; rw [hml]; exact HCP.out.1
        · unfold mkMsgs; rw [hml]; exact HLX.out
        · have h3 : i < xs.length := by unfold mkMsgs at h2; rw [hml] at h2; exact h2
          obtain ⟨f0, f1, f2, f3, u, f4, f5⟩ := HEX.out i h3
          rw [if_pos (by omega)] at f0 f5
          have e : (mkMsgs k xs)[i] = mkMsg (k + cntL cntMsg (xs.take i)) xs[i] := mkL_get cntMsg mkMsg xs k i h3 h2
          rw [e]
          refine ⟨f0, markOf_small _ ?_, f1, f2, f3, u, f4, f5⟩
          have h5 := HC.out i h3
          have h6 := HK.out
          omega
      clear hml
      go_wp2
      go_ret
      exact ⟨ret_int (by rw [HKF.out]), HF.out, HW.out⟩
set_option maxHeartbeats 4000000 in
theorem toMessageS_own (v : Value) (xs : List Msg) (w : World) (hn : wMsgs xs ≤ 1048576) (hr : RMsgs 0 w v xs) :
    Calls Tryz.prog 78 #[v] w fun e w' => ∃ p c, e = .returned (.slice p xs.length c) ∧ OMsgs w.heap.size w'.heap.size w' (.slice p xs.length c) xs ∧ Below w.heap.size w w' := by
  obtain ⟨i0, hi, hz0, hz1, hz2⟩ := info_parts Tryz.infoMessage
  obtain ⟨hl, hm⟩ := wMsgs_mem hn
  have HM := hide hm
  clear hn hm
  obtain ⟨p, cap, rfl, h1, h2, h4⟩ := hr
  have H4 := hide h4
  clear h4
  go_enter Tryz.func78, Tryz.ntmps78
  go_wp2_with (at_make; refine wpList_make_full _ rfl _ _ 34 rfl w.heap.size 53 i0 (.agg #[.string ⟨#[]⟩, .slice none 0 0]) 2 Tryz.underlying34 hi hz0 hz1 _ _ _ _ xs.length rfl rfl rfl rfl ?b2 ?b3 (Nat.le_refl _) ?_)
  case b2 => rw [hz2]; omega
  case b3 => unfold maxLen; omega
  intro w1 hown hgrow
  obtain ⟨Z, hZ, hZl⟩ := own_row hown
  have hb1 : Below w.heap.size w w1 := (Below.refl _ _).grown hgrow (Nat.le_refl _) (by simp)
  have HZ := hide hZ
  have HB := hide hb1
  have HL := hide hZl
  clear hZ hown hgrow hb1 hZl
  go_wp2_with fail
  go_loopw [4] (fun i wr => ∃ (X : World) (k : Nat) (cs : List Value), X = wr ∧ k ≤ xs.length ∧ i = .int .i64 k ∧ Hid (Row X w.heap.size 53 cs) ∧ Hid (Below w.heap.size w X) ∧ Hid (cs.length = xs.length * 2) ∧ Hid (w.heap.size + 1 ≤ X.heap.size) ∧ Hid (∃ A B : Nat → Nat, (∀ j (h2 : j < xs.length), j < k → cs[j * 2]? = some (.string xs[j].1) ∧ xs[j].1.size ≤ maxLen ∧ w.heap.size + 1 ≤ A j ∧ B j ≤ X.heap.size ∧ ∃ u, cs[j * 2 + 1]? = some u ∧ OSegs (A j) (B j) X u xs[j].2) ∧ ∀ i j, i < j → j < k → B i ≤ A j)) (fun i _ => xs.length - (intOf i).toNat)
  case atStart => exact ⟨_, 0, Z, rfl, Nat.zero_le _, rfl, HZ, HB, HL, hide (by have := HZ.out.lt; exact this), hide ⟨fun _ => 0, fun _ => 0, fun j _ h1 => absurd h1 (by omega), fun i j _ h => absurd h (by omega)⟩⟩
  case round =>
    obtain ⟨X, k, cs, rfl, hk, rfl, HRow, HBel, HLn, HSz, HEl⟩ := hrel
    by_cases hlt : k < xs.length
    · obtain ⟨g, off, hp, hg, _, hc⟩ := H4.out (by omega)
      subst hp
      obtain ⟨ha, hns, u, hu, hru⟩ := hc k hlt
      have hk0 := (HBel.out.cell (p := ⟨g, off + k * 2, none⟩) hg).trans ha
      have hk1 := (HBel.out.cell (p := ⟨g, off + k * 2 + 1, none⟩) hg).trans hu
      have HRU := hide (hru.below HBel.out)
      obtain ⟨up, uc, rfl⟩ := hru.isSlice
      have HNS := hide hns
      have hlt0 := HRow.out.lt
      clear hu hru hc ha hns
      go_wp2_with fail
      refine (toMessage_own (xs[k]'hlt).1 _ (xs[k]'hlt).2 _ (HM.out k hlt).1 HRU.out).mono ?_
      rintro e w2 ⟨p2, c2, rfl, hr2, hb2⟩
      have row2 := HRow.out.below hb2 hlt0
      obtain ⟨z0, hz0'⟩ := row2.some (k * 2) (by rw [HLn.out]; omega)
      obtain ⟨z1, hz1'⟩ := row2.some (k * 2 + 1) (by rw [HLn.out]; omega)
      have hf0 := row2.free (k * 2)
      have hf1 := row2.free (k * 2 + 1)
      have hnext := (row2.set (j := k * 2) (.string (xs[k]'hlt).1)).set (j := k * 2 + 1) (.slice p2 (xs[k]'hlt).2.length c2)
      have HN := hide hnext
      have HMB := hide (((HBel.out.trans (hb2.mono HBel.out.size)).setCell (p := ⟨w.heap.size, k * 2, none⟩) (Nat.le_refl _) (.string (xs[k]'hlt).1)).setCell (p := ⟨w.heap.size, k * 2 + 1, none⟩) (Nat.le_refl _) (.slice p2 (xs[k]'hlt).2.length c2))
      have HLn2 : Hid (((cs.set (k * 2) (.string (xs[k]'hlt).1)).set (k * 2 + 1) (.slice p2 (xs[k]'hlt).2.length c2)).length = xs.length * 2) := by rw [List.length_set, List.length_set]; exact HLn
      have es : ((w2.setCell ⟨w.heap.size, k * 2, none⟩ (.string (xs[k]'hlt).1)).setCell ⟨w.heap.size, k * 2 + 1, none⟩ (.slice p2 (xs[k]'hlt).2.length c2)).heap.size = w2.heap.size := by simp [World.setCell]
      have hXs := HSz.out
      have hXw := hb2.size
      have HSz2 : Hid (w.heap.size + 1 ≤ ((w2.setCell ⟨w.heap.size, k * 2, none⟩ (.string (xs[k]'hlt).1)).setCell ⟨w.heap.size, k * 2 + 1, none⟩ (.slice p2 (xs[k]'hlt).2.length c2)).heap.size) := hide (by rw [es]; omega)
      have HEl2 : Hid (∃ A B : Nat → Nat, (∀ j (h2 : j < xs.length), j < k + 1 → ((cs.set (k * 2) (.string (xs[k]'hlt).1)).set (k * 2 + 1) (.slice p2 (xs[k]'hlt).2.length c2))[j * 2]? = some (.string xs[j].1) ∧ xs[j].1.size ≤ maxLen ∧ w.heap.size + 1 ≤ A j ∧ B j ≤ ((w2.setCell ⟨w.heap.size, k * 2, none⟩ (.string (xs[k]'hlt).1)).setCell ⟨w.heap.size, k * 2 + 1, none⟩ (.slice p2 (xs[k]'hlt).2.length c2)).heap.size ∧ ∃ u, ((cs.set (k * 2) (.string (xs[k]'hlt).1)).set (k * 2 + 1) (.slice p2 (xs[k]'hlt).2.length c2))[j * 2 + 1]? = some u ∧ OSegs (A j) (B j) ((w2.setCell ⟨w.heap.size, k * 2, none⟩ (.string (xs[k]'hlt).1)).setCell ⟨w.heap.size, k * 2 + 1, none⟩ (.slice p2 (xs[k]'hlt).2.length c2)) u xs[j].2) ∧ ∀ i j, i < j → j < k + 1 → B i ≤ A j) := by
        obtain ⟨A, B, hE, hD⟩ := HEl.out
        have hll := HLn.out
        refine ⟨fun i => if i = k then X.heap.size else A i, fun i => if i = k then w2.heap.size else B i, fun j h2 h3 => ?_, fun i j hij hj => ?_⟩
        · rw [es]
          dsimp only
          by_cases hj : j = k
          · subst hj
            rw [if_pos rfl, if_pos rfl]
            refine ⟨?_, HNS.out, hXs, Nat.le_refl _, .slice p2 (xs[j]'hlt).2.length c2, ?_, Keeps.go (SameIn.set _ _ (by omega)) (Keeps.go (SameIn.set _ _ (by omega)) hr2)⟩
            · rw [List.getElem?_set_ne (by omega), List.getElem?_set_self (by omega)]
            · rw [List.getElem?_set_self (by rw [List.length_set]; omega)]
          · obtain ⟨e1, e2, f1, f2, u, e3, e4⟩ := hE j h2 (by omega)
            rw [if_neg hj, if_neg hj]
            refine ⟨?_, e2, f1, by omega, u, ?_, Keeps.go (SameIn.set _ _ (by omega)) (Keeps.go (SameIn.set _ _ (by omega)) (Keeps.go (SameIn.ofBelow hb2) e4))⟩
            · rw [List.getElem?_set_ne (by omega), List.getElem?_set_ne (by omega)]; exact e1
            · rw [List.getElem?_set_ne (by omega), List.getElem?_set_ne (by omega)]; exact e3
        · obtain ⟨e1, e2, f1, f2, u, e3, e4⟩ := hE i (by omega) (by omega)
          dsimp only
          by_cases hjk : j = k
          · rw [if_pos hjk, if_neg (by omega)]; omega
          · rw [if_neg hjk, if_neg (by omega)]; exact hD i j hij (by omega)
      clear hnext row2 hr2 hb2 hlt0 hk0 hk1 es hXs hXw
      go_wp2
      go_roundw
      case rel => exact ⟨_, k + 1, _, rfl, by omega, by go_num, HN, HMB, HLn2, HSz2, HEl2⟩
      case measure => simp [intOf]; omega
    · have HE : Hid (OMsgs w.heap.size X.heap.size X (.slice (some ⟨w.heap.size, 0, none⟩) xs.length xs.length) xs) := by
        obtain ⟨A, B, hE, hD⟩ := HEl.out
        refine ⟨_, _, rfl, Nat.le_refl _, by unfold maxLen; omega, fun _ => ⟨w.heap.size, cs, A, B, rfl, Nat.le_refl _, HSz.out, HRow.out, by rw [HLn.out]; omega, fun i hi => ?_, fun i j h1 h2 => hD i j h1 (by omega)⟩⟩
        obtain ⟨e1, e2, f1, f2, u, e3, e4⟩ := hE i hi (by omega)
        exact ⟨e1, e2, by omega, f2, .inr (by omega), u, e3, e4⟩
      go_wp2
      go_ret
      exact ⟨_, _, rfl, HE.out, HBel.out⟩
set_option maxHeartbeats 2000000 in
theorem toBatch_own (n : ByteArray) (u : Value) (x : List Msg) (w : World) (hn : wMsgs x ≤ 1048576) (hr : RMsgs 0 w u x) :
    Calls Tryz.prog 59 #[.agg #[.string n, u]] w fun e w' => ∃ p c, e = .returned (.agg #[.string n, .slice p x.length c]) ∧ OMsgs w.heap.size w'.heap.size w' (.slice p x.length c) x ∧ Below w.heap.size w w' := by
  obtain ⟨p, c, rfl⟩ := hr.isSlice
  obtain ⟨W, hW⟩ : ∃ W, W = (((w.alloc (.cells #[.string n, .slice p x.length c] 81)).alloc (.cells #[.string ⟨#[]⟩, .slice none 0 0] 49)).alloc (.cells #[.string n, .slice none 0 0] 49)) := ⟨_, rfl⟩
  have hb0 : Below w.heap.size w W := by rw [hW]; exact (((Below.refl _ _).alloc (Nat.le_refl _) _).alloc (by simp) _).alloc (by simp; omega) _
  have HR := hide (hr.below hb0)
  have HB0 := hide hb0
  have R1 : Row W (w.heap.size + 1) 49 [.string ⟨#[]⟩, .slice none 0 0] := by
    rw [hW]
    have := (row_new (w.alloc (.cells #[.string n, .slice p x.length c] 81)) [.string ⟨#[]⟩, .slice none 0 0] 49).alloc (.cells #[.string n, .slice none 0 0] 49)
    simpa using this
  have R2 : Row W (w.heap.size + 2) 49 [.string n, .slice none 0 0] := by
    rw [hW]
    have := row_new ((w.alloc (.cells #[.string n, .slice p x.length c] 81)).alloc (.cells #[.string ⟨#[]⟩, .slice none 0 0] 49)) [.string n, .slice none 0 0] 49
    simpa using this
  have hsz : W.heap.size = w.heap.size + 3 := by rw [hW]; simp
  clear hr hb0
  go_enter Tryz.func59, Tryz.ntmps59
  go_wp2_with fail
  rw [← hW]
  refine (toMessageS_own _ x _ hn HR.out).mono ?_
  rintro e w1 ⟨p1, c1, rfl, hr1, hb1⟩
  clear hW
  have r1 := R1.below hb1 (by omega)
  have r2 := R2.below hb1 (by omega)
  have f2 : w1.cell? ⟨w.heap.size + 2, 1, none⟩ = some (.slice none 0 0) := r2.cell 1
  have z2 := r2.free 1
  have s2 := r2.set (j := 1) (.slice p1 x.length c1)
  have s1 := r1.other (b := w.heap.size + 2) (j := 1) (by omega) (.slice p1 x.length c1)
  have g2 : (w1.setCell ⟨w.heap.size + 2, 1, none⟩ (.slice p1 x.length c1)).cell? ⟨w.heap.size + 2, 1, none⟩ = some (.slice p1 x.length c1) := s2.cell 1
  have g20 : (w1.setCell ⟨w.heap.size + 2, 1, none⟩ (.slice p1 x.length c1)).cell? ⟨w.heap.size + 2, 0, none⟩ = some (.string n) := s2.cell 0
  have g1 : (w1.setCell ⟨w.heap.size + 2, 1, none⟩ (.slice p1 x.length c1)).cell? ⟨w.heap.size + 1, 0, none⟩ = some (.string ⟨#[]⟩) := s1.cell 0
  have g11 : (w1.setCell ⟨w.heap.size + 2, 1, none⟩ (.slice p1 x.length c1)).cell? ⟨w.heap.size + 1, 1, none⟩ = some (.slice none 0 0) := s1.cell 1
  have z1 := s1.free 0
  have z11 := s1.free 1
  have t1 := (s1.set (j := 0) (.string n)).set (j := 1) (.slice p1 x.length c1)
  have q0 : (((w1.setCell ⟨w.heap.size + 2, 1, none⟩ (.slice p1 x.length c1)).setCell ⟨w.heap.size + 1, 0, none⟩ (.string n)).setCell ⟨w.heap.size + 1, 1, none⟩ (.slice p1 x.length c1)).cell? ⟨w.heap.size + 1, 0, none⟩ = some (.string n) := t1.cell 0
  have q1 : (((w1.setCell ⟨w.heap.size + 2, 1, none⟩ (.slice p1 x.length c1)).setCell ⟨w.heap.size + 1, 0, none⟩ (.string n)).setCell ⟨w.heap.size + 1, 1, none⟩ (.slice p1 x.length c1)).cell? ⟨w.heap.size + 1, 1, none⟩ = some (.slice p1 x.length c1) := t1.cell 1
  rw [hsz] at hr1
  have hw1 : w.heap.size + 3 ≤ w1.heap.size := by rw [← hsz]; exact hb1.size
  have es : (((w1.setCell ⟨w.heap.size + 2, 1, none⟩ (.slice p1 x.length c1)).setCell ⟨w.heap.size + 1, 0, none⟩ (.string n)).setCell ⟨w.heap.size + 1, 1, none⟩ (.slice p1 x.length c1)).heap.size = w1.heap.size := by simp [World.setCell]
  have HRE : Hid (OMsgs w.heap.size (((w1.setCell ⟨w.heap.size + 2, 1, none⟩ (.slice p1 x.length c1)).setCell ⟨w.heap.size + 1, 0, none⟩ (.string n)).setCell ⟨w.heap.size + 1, 1, none⟩ (.slice p1 x.length c1)).heap.size (((w1.setCell ⟨w.heap.size + 2, 1, none⟩ (.slice p1 x.length c1)).setCell ⟨w.heap.size + 1, 0, none⟩ (.string n)).setCell ⟨w.heap.size + 1, 1, none⟩ (.slice p1 x.length c1)) (.slice p1 x.length c1) x) := hide (by
    rw [es]
    exact OMsgs.wide (((hr1.keep (SameIn.set w1 (g := w.heap.size + 2) (j := 1) (.slice p1 x.length c1) (by omega))).keep (SameIn.set _ _ (by omega))).keep (SameIn.set _ _ (by omega))) (by omega : w.heap.size ≤ w.heap.size + 3) (Nat.le_refl _))
  have HBE := hide ((((HB0.out.trans (hb1.mono (by omega))).setCell (p := ⟨w.heap.size + 2, 1, none⟩) (by show w.heap.size ≤ w.heap.size + 2; omega) (.slice p1 x.length c1)).setCell (p := ⟨w.heap.size + 1, 0, none⟩) (by show w.heap.size ≤ w.heap.size + 1; omega) (.string n)).setCell (p := ⟨w.heap.size + 1, 1, none⟩) (by show w.heap.size ≤ w.heap.size + 1; omega) (.slice p1 x.length c1))
  clear hr1 hb1 r1 r2 s1 s2 t1 es hw1
  go_wp2
  exact bodyPost_ret (v := .agg #[.string n, .slice p1 x.length c1]) (by simp [results, Tryz.results59, go_sem, q0, q1]) rfl ⟨_, _, rfl, HRE.out, HBE.out⟩

instance : Keeps OMsgs := ⟨fun hs h => h.keep hs, fun hl hh h => h.wide hl hh⟩
def OBats (lo hi : Nat) (w : World) (v : Value) (xs : List Bat) : Prop :=
  ∃ p cap, v = .slice p xs.length cap ∧ xs.length ≤ cap ∧ cap ≤ maxLen ∧
    (0 < xs.length → ∃ (g : Nat) (cs : List Value) (A B : Nat → Nat), p = some ⟨g, 0, none⟩ ∧ lo ≤ g ∧ g < hi ∧ Row w g 49 cs ∧ xs.length * 2 ≤ cs.length ∧
      (∀ j (h2 : j < xs.length), cs[j * 2]? = some (.string xs[j].1) ∧ xs[j].1.size ≤ maxLen ∧ lo ≤ A j ∧ B j ≤ hi ∧ (B j ≤ g ∨ g < A j) ∧ ∃ u, cs[j * 2 + 1]? = some u ∧ OMsgs (A j) (B j) w u xs[j].2) ∧ (∀ i j, i < j → j < xs.length → B i ≤ A j))
theorem OBats.keep {lo hi : Nat} {w w' : World} {v : Value} {xs : List Bat} (h : OBats lo hi w v xs) (hs : SameIn lo hi w w') : OBats lo hi w' v xs := by
  obtain ⟨p, cap, rfl, h1, h2, h4⟩ := h
  refine ⟨p, cap, rfl, h1, h2, fun h0 => ?_⟩
  obtain ⟨g, cs, A, B, rfl, a, b, hr, hl, hE, hD⟩ := h4 h0
  refine ⟨g, cs, A, B, rfl, a, b, hs.row hr a b, hl, fun i k2 => ?_, hD⟩
  obtain ⟨e0, e1, e2, e3, e4, u, e5, e6⟩ := hE i k2
  exact ⟨e0, e1, e2, e3, e4, u, e5, Keeps.go (hs.mono e2 e3) e6⟩
theorem OBats.wide {lo hi lo' hi' : Nat} {w : World} {v : Value} {xs : List Bat} (h : OBats lo hi w v xs) (hl : lo' ≤ lo) (hh : hi ≤ hi') : OBats lo' hi' w v xs := by
  obtain ⟨p, cap, rfl, h1, h2, h4⟩ := h
  refine ⟨p, cap, rfl, h1, h2, fun h0 => ?_⟩
  obtain ⟨g, cs, A, B, rfl, a, b, hr, hln, hE, hD⟩ := h4 h0
  refine ⟨g, cs, A, B, rfl, by omega, by omega, hr, hln, fun i k2 => ?_, hD⟩
  obtain ⟨e0, e1, e2, e3, e4, u, e5, e6⟩ := hE i k2
  exact ⟨e0, e1, by omega, by omega, e4, u, e5, e6⟩
theorem OBats.isSlice {lo hi : Nat} {w : World} {v : Value} {xs : List Bat} (h : OBats lo hi w v xs) : ∃ p c, v = .slice p xs.length c := by
  obtain ⟨p, c, e, _⟩ := h
  exact ⟨p, c, e⟩
theorem OBats.rl {lo hi : Nat} {w : World} {v : Value} {xs : List Bat} (h : OBats lo hi w v xs) : RBats lo w v xs := by
  obtain ⟨p, cap, rfl, h1, h2, h4⟩ := h
  refine ⟨p, cap, rfl, h1, h2, fun h0 => ?_⟩
  obtain ⟨g, cs, A, B, rfl, a, b, hr, hl, hE, hD⟩ := h4 h0
  refine ⟨g, 0, rfl, hr.lt, a, fun i hi => ?_⟩
  obtain ⟨e0, e1, e2, e3, e4, u, e5, e6⟩ := hE i hi
  exact ⟨by rw [Nat.zero_add, hr.cell]; exact e0, e1, u, by rw [Nat.zero_add, hr.cell]; exact e5, RMsgs.mono (OMsgs.rl e6) e2⟩
def cntBat (x : Bat) : Nat := 1 + cntMsgs x.2
def mkBat (k : Nat) (x : Bat) : Bat := (markOf k, mkMsgs (k + 1) x.2)
def cntBats : List Bat → Nat := cntL cntBat
def mkBats : Nat → List Bat → List Bat := mkL cntBat mkBat
theorem cntMsgs_le : ∀ x : List Msg, cntMsgs x ≤ wMsgs x
  | [] => by simp [cntMsgs, cntL, wMsgs, wL]
  | y :: r => by
    have h1 := cntSegs_le y.2
    have h2 := cntMsgs_le r
    simp only [cntMsgs, cntL, wMsgs, wL, wMsg, cntMsg, List.map_cons, List.sum_cons, List.length_cons] at h2 ⊢
    omega
theorem bat_step : ∀ (xs : List Bat) (i : Nat) (hi : i < xs.length), cntL cntBat (xs.take i) + 1 + wMsgs xs[i].2 ≤ wBats xs
  | x :: r, 0, _ => by
    simp only [List.take_zero, cntL, List.map_nil, List.sum_nil, List.getElem_cons_zero, wBats, wL, List.map_cons, List.sum_cons, List.length_cons, wBat]
    omega
  | x :: r, i + 1, hi => by
    have h1 := cntMsgs_le x.2
    have h2 := bat_step r i (by simpa using hi)
    simp only [List.take_succ_cons, cntL, List.map_cons, List.sum_cons, List.getElem_cons_succ, wBats, wL, List.length_cons, wBat, cntBat] at h2 ⊢
    omega
set_option maxHeartbeats 4000000 in
theorem markBatchS_own (lo hi : Nat) (v : Value) (xs : List Bat) (k : Nat) (w : World) (hn : wBats xs ≤ 1048576) (hk : k + wBats xs ≤ 4000000) (hr : OBats lo hi w v xs) :
    Calls Tryz.prog 42 #[v, .int .i64 (k : Int)] w fun e w' => e = .returned (.int .i64 ((k + cntBats xs : Nat) : Int)) ∧ OBats lo hi w' v (mkBats k xs) ∧ Within lo hi w w' := by
  have hl : xs.length ≤ 1048576 := Nat.le_trans (wL_len _ xs) hn
  have HC := hide (fun i h => bat_step xs i h)
  have HSN := hide (fun i h => cntL_snoc cntBat xs i h)
  have HM := hide (wBats_mem hn).2
  obtain ⟨p, cap, rfl, h1, h2, h4⟩ := hr
  by_cases h0 : xs.length = 0
  · obtain rfl : xs = [] := List.eq_nil_of_length_eq_zero h0
    clear h4 HC HM HSN
    go_enter Tryz.func42, Tryz.ntmps42
    go_wp2
    refine wp_loop_rounds 1 ?_
    rw [rounds_succ]
    go_wp2
    go_ret
    exact ⟨rfl, ⟨p, cap, rfl, h1, h2, fun h => absurd h (by simp [mkBats, mkL])⟩, Within.refl _ _ _⟩
  obtain ⟨g, cs0, A, B, rfl, ga, gb, hrow, hcl, hE, hD⟩ := h4 (by omega)
  have HK := hide hk
  have HN := hide hn
  have HR := hide hrow
  have HCL := hide hcl
  have HE := hide hE
  have HD := hide hD
  have HG := hide (show lo ≤ g ∧ g < hi from ⟨ga, gb⟩)
  have HCP := hide (show xs.length ≤ cap ∧ cap ≤ maxLen from ⟨h1, h2⟩)
  unfold maxLen at h2
  clear h4 hrow hcl hE hD hk hn ga gb
  go_enter Tryz.func42, Tryz.ntmps42
  go_wp2
  go_loopw [1, 5] (fun x i wr => ∃ (X : World) (j K : Nat) (cs : List Value), X = wr ∧ j ≤ xs.length ∧ i = .int .i64 (j : Int) ∧ x = .int .i64 (K : Int) ∧ Hid (K = k + cntL cntBat (xs.take j)) ∧ Hid (Row X g 49 cs) ∧ Hid (xs.length * 2 ≤ cs.length) ∧ Hid (∀ i (h2 : i < xs.length), cs[i * 2]? = some (.string (if i < j then markOf (k + cntL cntBat (xs.take i)) else xs[i].1)) ∧ lo ≤ A i ∧ B i ≤ hi ∧ (B i ≤ g ∨ g < A i) ∧ ∃ u, cs[i * 2 + 1]? = some u ∧ OMsgs (A i) (B i) X u (if i < j then mkMsgs (k + cntL cntBat (xs.take i) + 1) xs[i].2 else xs[i].2)) ∧ Hid (Within lo hi w X)) (fun _ i _ => xs.length - (intOf i).toNat)
  case atStart => exact ⟨_, 0, k, cs0, rfl, Nat.zero_le _, rfl, rfl, hide (by simp [cntL]), HR, HCL, hide (fun i h2 => by
    obtain ⟨e0, e1, e2, e3, e4, u, e5, e6⟩ := HE.out i h2
    rw [if_neg (by omega), if_neg (by omega)]
    exact ⟨e0, e2, e3, e4, u, e5, e6⟩), hide (Within.refl _ _ _)⟩
  case round =>
    obtain ⟨X, j, K, cs, rfl, hj, rfl, rfl, HKE, HRX, HLX, HEX, HW⟩ := hrel
    by_cases hlt : j < xs.length
    · obtain ⟨e0, e2, e3, e4, u, e5, e6⟩ := HEX.out j hlt
      rw [if_neg (by omega)] at e0
      rw [if_neg (by omega)] at e6
      have hKb : K + 1 + wMsgs (xs[j]'hlt).2 ≤ 4000000 := by have h1 := HC.out j hlt; have h2 := HK.out; rw [HKE.out]; omega
      have hwb : wMsgs (xs[j]'hlt).2 ≤ 1048576 := (HM.out j hlt).1
      have HEB := hide (show lo ≤ A j ∧ B j ≤ hi ∧ (B j ≤ g ∨ g < A j) from ⟨e2, e3, e4⟩)
      obtain ⟨up, uc, rfl⟩ := e6.isSlice
      have HU := hide e5
      have HOK := hide e6
      clear e0 e2 e3 e4 e5 e6
      go_wp2_with fail
      refine (markText_any K _ (by omega)).mono ?_
      rintro e w2 ⟨rfl, hb2⟩
      have row2 := HRX.out.below hb2 HRX.out.lt
      obtain ⟨z0, hz0⟩ := row2.some (j * 2) (by have := HLX.out; omega)
      have hf0 := row2.free (j * 2)
      have row3 := row2.set (j := j * 2) (.string (markOf K))
      have c31 : (w2.setCell ⟨g, j * 2, none⟩ (.string (markOf K))).cell? ⟨g, j * 2 + 1, none⟩ = some (.slice up (xs[j]'hlt).2.length uc) := by rw [row3.cell, List.getElem?_set_ne (by omega)]; exact HU.out
      have hw3 : Within lo hi X (w2.setCell ⟨g, j * 2, none⟩ (.string (markOf K))) := Within.ofOnly (((Only.refl g X).below hb2).set (.string (markOf K))) HG.out.1 HG.out.2
      have hs3 : ∀ a b, (b ≤ g ∨ g < a) → SameIn a b X (w2.setCell ⟨g, j * 2, none⟩ (.string (markOf K))) := fun a b h k h1 h2 hk => (((Only.refl g X).below hb2).set (j := j * 2) (.string (markOf K))).block k hk (fun e => by cases e; omega)
      have HR3 := hide row3
      have HW3 := hide hw3
      have HS3 := hide hs3
      have HOK3 := hide (Keeps.go (HS3.out (A j) (B j) HEB.out.2.2) HOK.out)
      clear row2 row3 hw3 hs3 hb2 HOK
      go_wp2_with fail
      have ek : ((K : Int) + 1) = ((K + 1 : Nat) : Int) := by simp
      rw [ek]
      refine (markMessageS_own (A j) (B j) _ (xs[j]'hlt).2 (K + 1) _ hwb hKb HOK3.out).mono ?_
      rintro e w4 ⟨rfl, hok, hw⟩
      clear ek
      have HK2 : Hid (K + 1 + cntMsgs (xs[j]'hlt).2 = k + cntL cntBat (xs.take (j + 1))) := by rw [HSN.out j hlt, HKE.out]; exact (by unfold cntBat cntMsgs; omega : k + cntL cntBat (xs.take j) + 1 + cntMsgs (xs[j]'hlt).2 = k + (cntL cntBat (xs.take j) + cntBat (xs[j]'hlt)))
      have HR4 := hide (hw.row HR3.out (by have := HEB.out.2.2; omega))
      have HW4 := hide ((HW.out.trans HW3.out).trans (hw.mono HEB.out.1 HEB.out.2.1))
      have HL4 : Hid (xs.length * 2 ≤ (cs.set (j * 2) (.string (markOf K))).length) := hide (by rw [List.length_set]; exact HLX.out)
      have HE4 : Hid (∀ i (h2 : i < xs.length), (cs.set (j * 2) (.string (markOf K)))[i * 2]? = some (.string (if i < j + 1 then markOf (k + cntL cntBat (xs.take i)) else xs[i].1)) ∧ lo ≤ A i ∧ B i ≤ hi ∧ (B i ≤ g ∨ g < A i) ∧ ∃ u, (cs.set (j * 2) (.string (markOf K)))[i * 2 + 1]? = some u ∧ OMsgs (A i) (B i) w4 u (if i < j + 1 then mkMsgs (k + cntL cntBat (xs.take i) + 1) xs[i].2 else xs[i].2)) := by
        intro i h2
        obtain ⟨f0, f1, f2, f3, u, f4, f5⟩ := HEX.out i h2
        have hlx := HLX.out
        by_cases hij : i = j
        · subst hij
          rw [if_pos (by omega), if_pos (by omega), List.getElem?_set_self (by omega), List.getElem?_set_ne (by omega)]
          rw [← HKE.out]
          exact ⟨rfl, f1, f2, f3, _, HU.out, hok⟩
        · have hd : B i ≤ A j ∨ B j ≤ A i := by
            rcases Nat.lt_or_gt_of_ne hij with h | h
            · exact .inl (HD.out i j h hlt)
            · exact .inr (HD.out j i h h2)
          rw [List.getElem?_set_ne (by omega), List.getElem?_set_ne (by omega)]
          have hk5 := Keeps.go (hw.same hd) (Keeps.go (HS3.out (A i) (B i) f3) f5)
          by_cases h : i < j
          · rw [if_pos h] at f0 hk5
            rw [if_pos (by omega), if_pos (by omega)]
            exact ⟨f0, f1, f2, f3, u, f4, hk5⟩
          · rw [if_neg h] at f0 hk5
            rw [if_neg (by omega), if_neg (by omega)]
            exact ⟨f0, f1, f2, f3, u, f4, hk5⟩
      clear hok hw
      go_wp2
      go_roundw
      case rel => exact ⟨_, j + 1, _, _, rfl, by omega, by go_num, rfl, HK2, HR4, HL4, HE4, HW4⟩
      case measure => simp [intOf]; omega
    · have hje : j = xs.length := by omega
      have HKF : Hid (K = k + cntBats xs) := by have := HKE.out; rw [List.take_of_length_le (by omega)] at this; exact this
      have hml := mkL_len cntBat mkBat xs k
      have HF : Hid (OBats lo hi X (.slice (some ⟨g, 0, none⟩) xs.length cap) (mkBats k xs)) := by
        refine ⟨_, cap, ?_, ?_, HCP.out.2, fun _ => ⟨g, cs, A, B, rfl, HG.out.1, HG.out.2, HRX.out, ?_, fun i h2 => ?_, fun i j h1 h2 => HD.out i j h1 (by unfold mkBats at h2; rw [hml] at h2; exact h2)⟩⟩
        · unfold mkBats; rw [hml]
        · unfold mkBats; rw [hml]; exact HCP.out.1
        · unfold mkBats; rw [hml]; exact HLX.out
        · have h3 : i < xs.length := by unfold mkBats at h2; rw [hml] at h2; exact h2
          obtain ⟨f0, f1, f2, f3, u, f4, f5⟩ := HEX.out i h3
          rw [if_pos (by omega)] at f0 f5
          have e : (mkBats k xs)[i] = mkBat (k + cntL cntBat (xs.take i)) xs[i] := mkL_get cntBat mkBat xs k i h3 h2
          rw [e]
          refine ⟨f0, markOf_small _ ?_, f1, f2, f3, u, f4, f5⟩
          have h5 := HC.out i h3
          have h6 := HK.out
          omega
      clear hml
      go_wp2
      go_ret
      exact ⟨ret_int (by rw [HKF.out]), HF.out, HW.out⟩
set_option maxHeartbeats 1000000 in
theorem markFile_own (lo hi : Nat) (n : ByteArray) (v : Value) (xs : List Bat) (k : Nat) (w : World) (hn : wBats xs ≤ 1048576) (hk : k + wBats xs ≤ 4000000) (hr : OBats lo hi w v xs) :
    Calls Tryz.prog 18 #[.agg #[.string n, v], .int .i64 (k : Int)] w fun e w' => e = .returned (.int .i64 ((k + cntBats xs : Nat) : Int)) ∧ OBats lo hi w' v (mkBats k xs) ∧ Within lo hi w w' := by
  obtain ⟨p, c, rfl⟩ := hr.isSlice
  have hb0 : Below w.heap.size w (w.alloc (.cells #[.string n, .slice p xs.length c] 29)) := (Below.refl _ _).alloc (Nat.le_refl _) _
  have HB0 := hide hb0
  have HR := hide (hr.keep (SameIn.ofBelow hb0))
  clear hr hb0
  go_enter Tryz.func18, Tryz.ntmps18
  go_wp2_with fail
  refine (markBatchS_own lo hi _ xs k _ hn hk HR.out).mono ?_
  rintro e w1 ⟨rfl, hok, hw⟩
  have HO := hide hok
  have HW := hide ((Within.ofBelow HB0.out).trans hw)
  clear hok hw
  go_wp2
  go_ret
  exact ⟨rfl, HO.out, HW.out⟩
set_option maxHeartbeats 4000000 in
theorem toBatchS_own (v : Value) (xs : List Bat) (w : World) (hn : wBats xs ≤ 1048576) (hr : RBats 0 w v xs) :
    Calls Tryz.prog 31 #[v] w fun e w' => ∃ p c, e = .returned (.slice p xs.length c) ∧ OBats w.heap.size w'.heap.size w' (.slice p xs.length c) xs ∧ Below w.heap.size w w' := by
  obtain ⟨i0, hi, hz0, hz1, hz2⟩ := info_parts Tryz.infoBatch
  obtain ⟨hl, hm⟩ := wBats_mem hn
  have HM := hide hm
  clear hn hm
  obtain ⟨p, cap, rfl, h1, h2, h4⟩ := hr
  have H4 := hide h4
  clear h4
  go_enter Tryz.func31, Tryz.ntmps31
  go_wp2_with (at_make; refine wpList_make_full _ rfl _ _ 27 rfl w.heap.size 49 i0 (.agg #[.string ⟨#[]⟩, .slice none 0 0]) 2 Tryz.underlying27 hi hz0 hz1 _ _ _ _ xs.length rfl rfl rfl rfl ?b2 ?b3 (Nat.le_refl _) ?_)
  case b2 => rw [hz2]; omega
  case b3 => unfold maxLen; omega
  intro w1 hown hgrow
  obtain ⟨Z, hZ, hZl⟩ := own_row hown
  have hb1 : Below w.heap.size w w1 := (Below.refl _ _).grown hgrow (Nat.le_refl _) (by simp)
  have HZ := hide hZ
  have HB := hide hb1
  have HL := hide hZl
  clear hZ hown hgrow hb1 hZl
  go_wp2_with fail
  go_loopw [4] (fun i wr => ∃ (X : World) (k : Nat) (cs : List Value), X = wr ∧ k ≤ xs.length ∧ i = .int .i64 k ∧ Hid (Row X w.heap.size 49 cs) ∧ Hid (Below w.heap.size w X) ∧ Hid (cs.length = xs.length * 2) ∧ Hid (w.heap.size + 1 ≤ X.heap.size) ∧ Hid (∃ A B : Nat → Nat, (∀ j (h2 : j < xs.length), j < k → cs[j * 2]? = some (.string xs[j].1) ∧ xs[j].1.size ≤ maxLen ∧ w.heap.size + 1 ≤ A j ∧ B j ≤ X.heap.size ∧ ∃ u, cs[j * 2 + 1]? = some u ∧ OMsgs (A j) (B j) X u xs[j].2) ∧ ∀ i j, i < j → j < k → B i ≤ A j)) (fun i _ => xs.length - (intOf i).toNat)
  case atStart => exact ⟨_, 0, Z, rfl, Nat.zero_le _, rfl, HZ, HB, HL, hide (by have := HZ.out.lt; exact this), hide ⟨fun _ => 0, fun _ => 0, fun j _ h1 => absurd h1 (by omega), fun i j _ h => absurd h (by omega)⟩⟩
  case round =>
    obtain ⟨X, k, cs, rfl, hk, rfl, HRow, HBel, HLn, HSz, HEl⟩ := hrel
    by_cases hlt : k < xs.length
    · obtain ⟨g, off, hp, hg, _, hc⟩ := H4.out (by omega)
      subst hp
      obtain ⟨ha, hns, u, hu, hru⟩ := hc k hlt
      have hk0 := (HBel.out.cell (p := ⟨g, off + k * 2, none⟩) hg).trans ha
      have hk1 := (HBel.out.cell (p := ⟨g, off + k * 2 + 1, none⟩) hg).trans hu
      have HRU := hide (hru.below HBel.out)
      obtain ⟨up, uc, rfl⟩ := hru.isSlice
      have HNS := hide hns
      have hlt0 := HRow.out.lt
      clear hu hru hc ha hns
      go_wp2_with fail
      refine (toBatch_own (xs[k]'hlt).1 _ (xs[k]'hlt).2 _ (HM.out k hlt).1 HRU.out).mono ?_
      rintro e w2 ⟨p2, c2, rfl, hr2, hb2⟩
      have row2 := HRow.out.below hb2 hlt0
      obtain ⟨z0, hz0'⟩ := row2.some (k * 2) (by rw [HLn.out]; omega)
      obtain ⟨z1, hz1'⟩ := row2.some (k * 2 + 1) (by rw [HLn.out]; omega)
      have hf0 := row2.free (k * 2)
      have hf1 := row2.free (k * 2 + 1)
      have hnext := (row2.set (j := k * 2) (.string (xs[k]'hlt).1)).set (j := k * 2 + 1) (.slice p2 (xs[k]'hlt).2.length c2)
      have HN := hide hnext
      have HMB := hide (((HBel.out.trans (hb2.mono HBel.out.size)).setCell (p := ⟨w.heap.size, k * 2, none⟩) (Nat.le_refl _) (.string (xs[k]'hlt).1)).setCell (p := ⟨w.heap.size, k * 2 + 1, none⟩) (Nat.le_refl _) (.slice p2 (xs[k]'hlt).2.length c2))
      have HLn2 : Hid (((cs.set (k * 2) (.string (xs[k]'hlt).1)).set (k * 2 + 1) (.slice p2 (xs[k]'hlt).2.length c2)).length = xs.length * 2) := by rw [List.length_set, List.length_set]; exact HLn
      have es : ((w2.setCell ⟨w.heap.size, k * 2, none⟩ (.string (xs[k]'hlt).1)).setCell ⟨w.heap.size, k * 2 + 1, none⟩ (.slice p2 (xs[k]'hlt).2.length c2)).heap.size = w2.heap.size := by simp [World.setCell]
      have hXs := HSz.out
      have hXw := hb2.size
      have HSz2 : Hid (w.heap.size + 1 ≤ ((w2.setCell ⟨w.heap.size, k * 2, none⟩ (.string (xs[k]'hlt).1)).setCell ⟨w.heap.size, k * 2 + 1, none⟩ (.slice p2 (xs[k]'hlt).2.length c2)).heap.size) := hide (by rw [es]; omega)
      have HEl2 : Hid (∃ A B : Nat → Nat, (∀ j (h2 : j < xs.length), j < k + 1 → ((cs.set (k * 2) (.string (xs[k]'hlt).1)).set (k * 2 + 1) (.slice p2 (xs[k]'hlt).2.length c2))[j * 2]? = some (.string xs[j].1) ∧ xs[j].1.size ≤ maxLen ∧ w.heap.size + 1 ≤ A j ∧ B j ≤ ((w2.setCell ⟨w.heap.size, k * 2, none⟩ (.string (xs[k]'hlt).1)).setCell ⟨w.heap.size, k * 2 + 1, none⟩ (.slice p2 (xs[k]'hlt).2.length c2)).heap.size ∧ ∃ u, ((cs.set (k * 2) (.string (xs[k]'hlt).1)).set (k * 2 + 1) (.slice p2 (xs[k]'hlt).2.length c2))[j * 2 + 1]? = some u ∧ OMsgs (A j) (B j) ((w2.setCell ⟨w.heap.size, k * 2, none⟩ (.string (xs[k]'hlt).1)).setCell ⟨w.heap.size, k * 2 + 1, none⟩ (.slice p2 (xs[k]'hlt).2.length c2)) u xs[j].2) ∧ ∀ i j, i < j → j < k + 1 → B i ≤ A j) := by
        obtain ⟨A, B, hE, hD⟩ := HEl.out
        have hll := HLn.out
        refine ⟨fun i => if i = k then X.heap.size else A i, fun i => if i = k then w2.heap.size else B i, fun j h2 h3 => ?_, fun i j hij hj => ?_⟩
        · rw [es]
          dsimp only
          by_cases hj : j = k
          · subst hj
            rw [if_pos rfl, if_pos rfl]
            refine ⟨?_, HNS.out, hXs, Nat.le_refl _, .slice p2 (xs[j]'hlt).2.length c2, ?_, Keeps.go (SameIn.set _ _ (by omega)) (Keeps.go (SameIn.set _ _ (by omega)) hr2)⟩
            · rw [List.getElem?_set_ne (by omega), List.getElem?_set_self (by omega)]
            · rw [List.getElem?_set_self (by rw [List.length_set]; omega)]
          · obtain ⟨e1, e2, f1, f2, u, e3, e4⟩ := hE j h2 (by omega)
            rw [if_neg hj, if_neg hj]
            refine ⟨?_, e2, f1, by omega, u, ?_, Keeps.go (SameIn.set _ _ (by omega)) (Keeps.go (SameIn.set _ _ (by omega)) (Keeps.go (SameIn.ofBelow hb2) e4))⟩
            · rw [List.getElem?_set_ne (by omega), List.getElem?_set_ne (by omega)]; exact e1
            · rw [List.getElem?_set_ne (by omega), List.getElem?_set_ne (by omega)]; exact e3
        · obtain ⟨e1, e2, f1, f2, u, e3, e4⟩ := hE i (by omega) (by omega)
          dsimp only
          by_cases hjk : j = k
          · rw [if_pos hjk, if_neg (by omega)]; omega
          · rw [if_neg hjk, if_neg (by omega)]; exact hD i j hij (by omega)
      clear hnext row2 hr2 hb2 hlt0 hk0 hk1 es hXs hXw
      go_wp2
      go_roundw
      case rel => exact ⟨_, k + 1, _, rfl, by omega, by go_num, HN, HMB, HLn2, HSz2, HEl2⟩
      case measure => simp [intOf]; omega
    · have HE : Hid (OBats w.heap.size X.heap.size X (.slice (some ⟨w.heap.size, 0, none⟩) xs.length xs.length) xs) := by
        obtain ⟨A, B, hE, hD⟩ := HEl.out
        refine ⟨_, _, rfl, Nat.le_refl _, by unfold maxLen; omega, fun _ => ⟨w.heap.size, cs, A, B, rfl, Nat.le_refl _, HSz.out, HRow.out, by rw [HLn.out]; omega, fun i hi => ?_, fun i j h1 h2 => hD i j h1 (by omega)⟩⟩
        obtain ⟨e1, e2, f1, f2, u, e3, e4⟩ := hE i hi (by omega)
        exact ⟨e1, e2, by omega, f2, .inr (by omega), u, e3, e4⟩
      go_wp2
      go_ret
      exact ⟨_, _, rfl, HE.out, HBel.out⟩
set_option maxHeartbeats 2000000 in
theorem toFile_own (n : ByteArray) (u : Value) (x : List Bat) (w : World) (hn : wBats x ≤ 1048576) (hr : RBats 0 w u x) :
    Calls Tryz.prog 10 #[.agg #[.string n, u]] w fun e w' => ∃ p c, e = .returned (.agg #[.string n, .slice p x.length c]) ∧ OBats w.heap.size w'.heap.size w' (.slice p x.length c) x ∧ Below w.heap.size w w' := by
  obtain ⟨p, c, rfl⟩ := hr.isSlice
  obtain ⟨W, hW⟩ : ∃ W, W = (((w.alloc (.cells #[.string n, .slice p x.length c] 24)).alloc (.cells #[.string ⟨#[]⟩, .slice none 0 0] 29)).alloc (.cells #[.string n, .slice none 0 0] 29)) := ⟨_, rfl⟩
  have hb0 : Below w.heap.size w W := by rw [hW]; exact (((Below.refl _ _).alloc (Nat.le_refl _) _).alloc (by simp) _).alloc (by simp; omega) _
  have HR := hide (hr.below hb0)
  have HB0 := hide hb0
  have R1 : Row W (w.heap.size + 1) 29 [.string ⟨#[]⟩, .slice none 0 0] := by
    rw [hW]
    have := (row_new (w.alloc (.cells #[.string n, .slice p x.length c] 24)) [.string ⟨#[]⟩, .slice none 0 0] 29).alloc (.cells #[.string n, .slice none 0 0] 29)
    simpa using this
  have R2 : Row W (w.heap.size + 2) 29 [.string n, .slice none 0 0] := by
    rw [hW]
    have := row_new ((w.alloc (.cells #[.string n, .slice p x.length c] 24)).alloc (.cells #[.string ⟨#[]⟩, .slice none 0 0] 29)) [.string n, .slice none 0 0] 29
    simpa using this
  have hsz : W.heap.size = w.heap.size + 3 := by rw [hW]; simp
  clear hr hb0
  go_enter Tryz.func10, Tryz.ntmps10
  go_wp2_with fail
  rw [← hW]
  refine (toBatchS_own _ x _ hn HR.out).mono ?_
  rintro e w1 ⟨p1, c1, rfl, hr1, hb1⟩
  clear hW
  have r1 := R1.below hb1 (by omega)
  have r2 := R2.below hb1 (by omega)
  have f2 : w1.cell? ⟨w.heap.size + 2, 1, none⟩ = some (.slice none 0 0) := r2.cell 1
  have z2 := r2.free 1
  have s2 := r2.set (j := 1) (.slice p1 x.length c1)
  have s1 := r1.other (b := w.heap.size + 2) (j := 1) (by omega) (.slice p1 x.length c1)
  have g2 : (w1.setCell ⟨w.heap.size + 2, 1, none⟩ (.slice p1 x.length c1)).cell? ⟨w.heap.size + 2, 1, none⟩ = some (.slice p1 x.length c1) := s2.cell 1
  have g20 : (w1.setCell ⟨w.heap.size + 2, 1, none⟩ (.slice p1 x.length c1)).cell? ⟨w.heap.size + 2, 0, none⟩ = some (.string n) := s2.cell 0
  have g1 : (w1.setCell ⟨w.heap.size + 2, 1, none⟩ (.slice p1 x.length c1)).cell? ⟨w.heap.size + 1, 0, none⟩ = some (.string ⟨#[]⟩) := s1.cell 0
  have g11 : (w1.setCell ⟨w.heap.size + 2, 1, none⟩ (.slice p1 x.length c1)).cell? ⟨w.heap.size + 1, 1, none⟩ = some (.slice none 0 0) := s1.cell 1
  have z1 := s1.free 0
  have z11 := s1.free 1
  have t1 := (s1.set (j := 0) (.string n)).set (j := 1) (.slice p1 x.length c1)
  have q0 : (((w1.setCell ⟨w.heap.size + 2, 1, none⟩ (.slice p1 x.length c1)).setCell ⟨w.heap.size + 1, 0, none⟩ (.string n)).setCell ⟨w.heap.size + 1, 1, none⟩ (.slice p1 x.length c1)).cell? ⟨w.heap.size + 1, 0, none⟩ = some (.string n) := t1.cell 0
  have q1 : (((w1.setCell ⟨w.heap.size + 2, 1, none⟩ (.slice p1 x.length c1)).setCell ⟨w.heap.size + 1, 0, none⟩ (.string n)).setCell ⟨w.heap.size + 1, 1, none⟩ (.slice p1 x.length c1)).cell? ⟨w.heap.size + 1, 1, none⟩ = some (.slice p1 x.length c1) := t1.cell 1
  rw [hsz] at hr1
  have hw1 : w.heap.size + 3 ≤ w1.heap.size := by rw [← hsz]; exact hb1.size
  have es : (((w1.setCell ⟨w.heap.size + 2, 1, none⟩ (.slice p1 x.length c1)).setCell ⟨w.heap.size + 1, 0, none⟩ (.string n)).setCell ⟨w.heap.size + 1, 1, none⟩ (.slice p1 x.length c1)).heap.size = w1.heap.size := by simp [World.setCell]
  have HRE : Hid (OBats w.heap.size (((w1.setCell ⟨w.heap.size + 2, 1, none⟩ (.slice p1 x.length c1)).setCell ⟨w.heap.size + 1, 0, none⟩ (.string n)).setCell ⟨w.heap.size + 1, 1, none⟩ (.slice p1 x.length c1)).heap.size (((w1.setCell ⟨w.heap.size + 2, 1, none⟩ (.slice p1 x.length c1)).setCell ⟨w.heap.size + 1, 0, none⟩ (.string n)).setCell ⟨w.heap.size + 1, 1, none⟩ (.slice p1 x.length c1)) (.slice p1 x.length c1) x) := hide (by
    rw [es]
    exact OBats.wide (((hr1.keep (SameIn.set w1 (g := w.heap.size + 2) (j := 1) (.slice p1 x.length c1) (by omega))).keep (SameIn.set _ _ (by omega))).keep (SameIn.set _ _ (by omega))) (by omega : w.heap.size ≤ w.heap.size + 3) (Nat.le_refl _))
  have HBE := hide ((((HB0.out.trans (hb1.mono (by omega))).setCell (p := ⟨w.heap.size + 2, 1, none⟩) (by show w.heap.size ≤ w.heap.size + 2; omega) (.slice p1 x.length c1)).setCell (p := ⟨w.heap.size + 1, 0, none⟩) (by show w.heap.size ≤ w.heap.size + 1; omega) (.string n)).setCell (p := ⟨w.heap.size + 1, 1, none⟩) (by show w.heap.size ≤ w.heap.size + 1; omega) (.slice p1 x.length c1))
  clear hr1 hb1 r1 r2 s1 s2 t1 es hw1
  go_wp2
  exact bodyPost_ret (v := .agg #[.string n, .slice p1 x.length c1]) (by simp [results, Tryz.results10, go_sem, q0, q1]) rfl ⟨_, _, rfl, HRE.out, HBE.out⟩

end Go.Proofs.YtholbhjfmfanbaaGreat
/- The program's copies of lists of Messages. -/
namespace Go.Proofs.YtholbhjfmfanbaaGreat
open Go.RowKit
theorem omsgs_of_own {w : World} {B k : Nat} {l : Value} {cs : List Value} {xs : List Msg} (h : w.ownsRow B 53 2 l k cs) (hk : k = xs.length)
    (hE : ∃ A B' : Nat → Nat, (∀ j (h2 : j < xs.length), j < k → cs[j * 2]? = some (.string xs[j].1) ∧ xs[j].1.size ≤ maxLen ∧ B ≤ A j ∧ B' j ≤ w.heap.size ∧ (∀ g, l.ownBlock = some g → B' j ≤ g ∨ g < A j) ∧ ∃ u, cs[j * 2 + 1]? = some u ∧ OSegs (A j) (B' j) w u xs[j].2) ∧ ∀ i j, i < j → j < k → B' i ≤ A j) : OMsgs B w.heap.size w l xs := by
  obtain ⟨A, B', hE, hD⟩ := hE
  have hcl := h.1
  rcases own_block2 h with ⟨hn, rfl⟩ | ⟨g, cap2, rest, rfl, hbg, hgs, hnc, hcm, hrow⟩
  · exact ⟨none, 0, by rw [← hk, hn], by omega, by unfold maxLen; omega, fun h => by omega⟩
  · refine ⟨_, _, by rw [hk], by omega, hcm, fun _ => ⟨g, cs ++ rest, A, B', rfl, hbg, hgs, hrow, by rw [List.length_append]; omega, fun i h2 => ?_, fun i j h1 h2 => hD i j h1 (by omega)⟩⟩
    obtain ⟨f1, f2, f3, f4, f5, u, f6, f7⟩ := hE i h2 (by omega)
    refine ⟨?_, f2, f3, f4, f5 g rfl, u, ?_, f7⟩
    · rw [List.getElem?_append_left (by omega)]; exact f1
    · rw [List.getElem?_append_left (by omega)]; exact f6
set_option maxHeartbeats 8000000 in
set_option maxRecDepth 100000 in
theorem copyEachMessage_any (v : Value) (xs : List Msg) (w : World) (hn : wMsgs xs ≤ 1048576) (hr : RMsgs 0 w v xs) :
    Calls Tryz.prog 39 #[v, .func (.func 40) #[] #[]] w fun e w' => ∃ p c, e = .returned (.slice p xs.length c) ∧ OMsgs w.heap.size w'.heap.size w' (.slice p xs.length c) xs ∧ Below w.heap.size w w' := by
  obtain ⟨i0, hi, hz0, hz1, hz2⟩ := info_parts Tryz.infoMessage
  obtain ⟨hl, hm⟩ := wMsgs_mem hn
  have HM := hide hm
  have HMN := hide (fun i (h : i < xs.length) => (show xs[i].1.size ≤ 1048576 by
    have := wL_mem wMsg (List.getElem_mem h)
    have h2 : wMsgs xs = wL wMsg xs := rfl
    have h3 : wMsg xs[i] = xs[i].1.size + wSegs xs[i].2 := rfl
    omega))
  clear hn hm
  obtain ⟨p, cap, rfl, h1, h2, h4⟩ := hr
  have H4 := hide h4
  unfold maxLen at h2
  clear h4
  have HO := hide (World.ownsRow_nil w w.heap.size 53 2)
  have HZC := hide (show (Value.agg #[.string ⟨#[]⟩, .slice none 0 0]).cells.size = 2 from rfl)
  go_enter Tryz.func39, Tryz.ntmps39
  go_wp2_with fail
  go_loopw [5, 10] (fun l i wr => ∃ (X : World) (k : Nat) (cs : List Value), X = wr ∧ k ≤ xs.length ∧ i = .int .i64 (k : Int) ∧ Hid (X.ownsRow w.heap.size 53 2 l k cs) ∧ Hid (Below w.heap.size w X) ∧ Hid (∃ A B : Nat → Nat, (∀ j (h2 : j < xs.length), j < k → cs[j * 2]? = some (.string xs[j].1) ∧ xs[j].1.size ≤ maxLen ∧ w.heap.size ≤ A j ∧ B j ≤ X.heap.size ∧ (∀ g, l.ownBlock = some g → B j ≤ g ∨ g < A j) ∧ ∃ u, cs[j * 2 + 1]? = some u ∧ OSegs (A j) (B j) X u xs[j].2) ∧ ∀ i j, i < j → j < k → B i ≤ A j)) (fun _ i _ => xs.length - (intOf i).toNat)
  case atStart => exact ⟨_, 0, [], rfl, Nat.zero_le _, rfl, HO, hide (Below.refl _ _), hide ⟨fun _ => 0, fun _ => 0, fun j _ h1 => absurd h1 (by omega), fun i j _ h => absurd h (by omega)⟩⟩
  case round =>
    obtain ⟨X, k, cs, rfl, hk, rfl, HOw, HB, HEl⟩ := hrel
    by_cases hlt : k < xs.length
    · obtain ⟨g, off, hp, hg, _, hc⟩ := H4.out (by omega)
      subst hp
      obtain ⟨ha, hns, u, hu, hru⟩ := hc k hlt
      have hk0 := (HB.out.cell (p := ⟨g, off + k * 2, none⟩) hg).trans ha
      have hk1 := (HB.out.cell (p := ⟨g, off + k * 2 + 1, none⟩) hg).trans hu
      have HRU := hide (hru.below HB.out)
      obtain ⟨up, uc, rfl⟩ := hru.isSlice
      have HXM := hide (HM.out k hlt).1
      have HXN := hide (HMN.out k hlt)
      have HCL := hide HOw.out.1
      have hbA : Below X.heap.size X (X.alloc (.cells #[.string (xs[k]'hlt).1, .slice up (xs[k]'hlt).2.length uc] 53)) := (Below.refl _ _).alloc (Nat.le_refl _) _
      have HBA := hide (HB.out.trans (hbA.mono HB.out.size))
      have HRA := hide (HRU.out.below hbA)
      have HOA := hide (HOw.out.alloc (.cells #[.string (xs[k]'hlt).1, .slice up (xs[k]'hlt).2.length uc] 53))
      have HSA : Hid ((X.alloc (.cells #[.string (xs[k]'hlt).1, .slice up (xs[k]'hlt).2.length uc] 53)).heap.size = X.heap.size + 1) := hide (by simp)
      have HSI : Hid (∀ a b, SameIn a b X (X.alloc (.cells #[.string (xs[k]'hlt).1, .slice up (xs[k]'hlt).2.length uc] 53))) := hide (fun a b => SameIn.ofBelow hbA)
      have HLT := hide HOw.out.lt
      clear ha hu hru hc hbA hns
      obtain ⟨sg, hsg⟩ : ∃ sg, sg = xs[k]'hlt := ⟨_, rfl⟩
      rw [← hsg] at hk0 hk1 HRU HXM HXN HBA HRA HOA HSA HSI
      have HSG := hide hsg
      clear hsg
      go_wp2_with fail
      obtain ⟨X1, hX1⟩ : ∃ X1, X1 = X.alloc (.cells #[.string sg.1, .slice up sg.2.length uc] 53) := ⟨_, rfl⟩
      rw [← hX1] at HBA HRA HOA HSA HSI ⊢
      clear hX1 hk0 hk1
      refine (copyMessage_any sg.1 _ sg.2 _ (by have := HXN.out; omega) HXM.out HRA.out).mono ?_
      rintro e w2 ⟨p2, c2, rfl, hr2, hb2⟩
      have HR2 := hide hr2
      have HO2 := hide ((own_below HOA.out hb2).alloc (.cells #[.string sg.1, .slice p2 sg.2.length c2] 53))
      have HBm := hide (HBA.out.trans (hb2.mono HBA.out.size))
      have HB2 := hide (HBm.out.alloc HBm.out.size (.cells #[.string sg.1, .slice p2 sg.2.length c2] 53))
      have HB22 := hide hb2
      have HROW := hide (row_new w2 [.string sg.1, .slice p2 sg.2.length c2] 53)
      clear hb2 hr2
      go_wp2_with (at_builtin; refine wpList_append_own_at (w2.alloc (.cells #[.string sg.1, .slice p2 sg.2.length c2] 53)) rfl (.tmp 14) (.tmp 18) 34 rfl w.heap.size 53 i0 _ 2 40 Tryz.underlying34 hi hz0 hz1 hz2 HZC.out (by omega) _ k cs rfl HO2.out ⟨w2.heap.size, 0, none⟩ 1 _ [.string sg.1, .slice p2 sg.2.length c2] rfl rfl (row_cellsM HROW.out) (by simp [Value.oneCell']) (by unfold maxLen; omega) (by omega) (by have := HB2.out.size; exact this) ?_)
      intro v' w3 hown hgrow _ hat
      have HO3 := hide hown
      have HB3 := hide (HB2.out.grown hgrow HB2.out.size (fun k hk => (HO2.out.lt k hk).1))
      have HEl2 : Hid (∃ A B : Nat → Nat, (∀ j (h2 : j < xs.length), j < k + 1 → (cs ++ [.string sg.1, .slice p2 sg.2.length c2])[j * 2]? = some (.string xs[j].1) ∧ xs[j].1.size ≤ maxLen ∧ w.heap.size ≤ A j ∧ B j ≤ w3.heap.size ∧ (∀ g, v'.ownBlock = some g → B j ≤ g ∨ g < A j) ∧ ∃ u, (cs ++ [.string sg.1, .slice p2 sg.2.length c2])[j * 2 + 1]? = some u ∧ OSegs (A j) (B j) w3 u xs[j].2) ∧ ∀ i j, i < j → j < k + 1 → B i ≤ A j) := hide (by
        obtain ⟨A, B, hE, hD⟩ := HEl.out
        have hs2 := HB22.out.size
        have hs3 := hgrow.size
        have hsa : (w2.alloc (.cells #[.string sg.1, .slice p2 sg.2.length c2] 53)).heap.size = w2.heap.size + 1 := by simp
        have hwX := HB.out.size
        have hsX := HSA.out
        have hcl := HCL.out
        refine ⟨fun i => if i = k then X.heap.size + 1 else A i, fun i => if i = k then w2.heap.size else B i, fun j h2 h3 => ?_, fun i j hij hj => ?_⟩
        · dsimp only
          by_cases hj : j = k
          · subst hj
            rw [if_pos rfl, if_pos rfl, ← HSG.out]
            refine ⟨?_, by have := HXN.out; unfold maxLen; omega, by omega, by omega, fun g hg => ?_, .slice p2 sg.2.length c2, ?_, ?_⟩
            · rw [List.getElem?_append_right (by omega)]
              have e : j * 2 - cs.length = 0 := by omega
              rw [e]; rfl
            · rcases hat with h | h
              · rw [h] at hg
                exact .inr (by have := (HLT.out g hg).2; omega)
              · rw [h] at hg
                cases hg
                exact .inl (by first | omega | (rw [hsa]; omega))
            · rw [List.getElem?_append_right (by omega)]
              have e : j * 2 + 1 - cs.length = 1 := by omega
              rw [e]; rfl
            · rw [hsX] at HR2
              exact Keeps.go (grown_in hgrow (fun g hg => .inr (by have := (HLT.out g hg).2; omega))) (Keeps.go (SameIn.ofBelow ((Below.refl _ _).alloc (Nat.le_refl _) _)) HR2.out)
          · obtain ⟨f1, f2, f3, f4, f5, u, f6, f7⟩ := hE j h2 (by omega)
            rw [if_neg hj, if_neg hj]
            refine ⟨?_, f2, f3, by omega, fun g hg => ?_, u, ?_, Keeps.go (grown_in hgrow f5) (Keeps.go (SameIn.ofBelow ((Below.refl _ _).alloc (Nat.le_refl _) _)) (Keeps.go (SameIn.ofBelow HB22.out) (Keeps.go (HSI.out _ _) f7)))⟩
            · rw [List.getElem?_append_left (by omega)]; exact f1
            · rcases hat with h | h
              · rw [h] at hg
                exact f5 g hg
              · rw [h] at hg
                cases hg
                exact .inl (by first | omega | (rw [hsa]; omega))
            · rw [List.getElem?_append_left (by omega)]; exact f6
        · obtain ⟨f1, f2, f3, f4, f5, u, f6, f7⟩ := hE i (by omega) (by omega)
          dsimp only
          by_cases hjk : j = k
          · rw [if_pos hjk, if_neg (by omega)]; omega
          · rw [if_neg hjk, if_neg (by omega)]; exact hD i j hij (by omega))
      clear hown hgrow hat
      go_wp2
      go_roundw
      case rel => exact ⟨_, k + 1, _, rfl, by omega, by go_num, HO3, HB3, HEl2⟩
      case measure => simp [intOf]; omega
    · have ek : k = xs.length := by omega
      have HF := hide (omsgs_of_own HOw.out ek HEl.out)
      obtain ⟨pl, cl, hpl⟩ : ∃ p c, u5 = .slice p k c := by
        rcases own_block2 HOw.out with ⟨hn, h⟩ | ⟨g, cap2, rest, h, _⟩
        · exact ⟨none, 0, by rw [h, hn]⟩
        · exact ⟨_, _, h⟩
      subst hpl
      have HK := hide ek
      clear ek
      go_wp2
      go_ret
      exact ⟨pl, cl, by rw [← HK.out]; rfl, by rw [← HK.out]; exact HF.out, HB.out⟩
end Go.Proofs.YtholbhjfmfanbaaGreat
