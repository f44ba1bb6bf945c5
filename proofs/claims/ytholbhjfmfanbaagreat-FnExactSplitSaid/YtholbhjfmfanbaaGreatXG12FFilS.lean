/- Batches and Files in memory, and the laws' own helpers over them. -/
import Derived.Test.YtholbhjfmfanbaaGreatXG11FBatS
import Derived.Deep.RegionHeld3
namespace Go.Proofs.YtholbhjfmfanbaaGreat
open Go.RowKit
instance (B : Nat) : Lasts B (RMsgs B) := ⟨fun hs h => RMsgs.same h hs⟩
abbrev Bat := ByteArray × List Msg
/-- The slice v reads as Batchs; its cells lie in a block from B on. -/
def RBats (B : Nat) (w : World) (v : Value) (xs : List Bat) : Prop :=
  ∃ p cap, v = .slice p xs.length cap ∧ xs.length ≤ cap ∧ cap ≤ maxLen ∧
    (0 < xs.length → ∃ g off, p = some ⟨g, off, none⟩ ∧ g < w.heap.size ∧ B ≤ g ∧ ∀ i (h : i < xs.length), w.cell? ⟨g, off + i * 2, none⟩ = some (.string xs[i].1) ∧ xs[i].1.size ≤ maxLen ∧ ∃ u, w.cell? ⟨g, off + i * 2 + 1, none⟩ = some u ∧ RMsgs B w u xs[i].2)
theorem RBats.same {B : Nat} {w w' : World} {v : Value} {xs : List Bat} (h : RBats B w v xs) (hs : Same B w w') : RBats B w' v xs := by
  obtain ⟨p, cap, rfl, h1, h2, h4⟩ := h
  refine ⟨p, cap, rfl, h1, h2, fun h0 => ?_⟩
  obtain ⟨g, off, rfl, hg, hB, hc⟩ := h4 h0
  refine ⟨g, off, rfl, Nat.lt_of_lt_of_le hg hs.size, hB, fun i hi => ?_⟩
  obtain ⟨a, b, u, hu, hR⟩ := hc i hi
  exact ⟨by rw [hs.cell hB hg]; exact a, b, u, by rw [hs.cell hB hg]; exact hu, Lasts.go hs hR⟩
theorem RBats.below {B : Nat} {w w' : World} {v : Value} {xs : List Bat} (h : RBats B w v xs) (hb : Below w.heap.size w w') : RBats B w' v xs := h.same (Same.of hb)
theorem RBats.mono {B B' : Nat} {w : World} {v : Value} {xs : List Bat} (h : RBats B w v xs) (hB : B' ≤ B) : RBats B' w v xs := by
  obtain ⟨p, cap, rfl, h1, h2, h4⟩ := h
  refine ⟨p, cap, rfl, h1, h2, fun h0 => ?_⟩
  obtain ⟨g, off, rfl, hg, hB2, hc⟩ := h4 h0
  refine ⟨g, off, rfl, hg, Nat.le_trans hB hB2, fun i hi => ?_⟩
  obtain ⟨a, b, u, hu, hR⟩ := hc i hi
  exact ⟨a, b, u, hu, RMsgs.mono hR hB⟩
theorem RBats.isSlice {B : Nat} {w : World} {v : Value} {xs : List Bat} (h : RBats B w v xs) : ∃ p c, v = .slice p xs.length c := by
  obtain ⟨p, c, e, _⟩ := h
  exact ⟨p, c, e⟩
def wBat (x : Bat) : Nat := x.1.size + wMsgs x.2
def wBats : List Bat → Nat := wL wBat

set_option maxHeartbeats 2000000 in
theorem szBatchS_any (v : Value) (xs : List Bat) (left : Int) (w : World) (hl0 : 0 ≤ left) (hl : left ≤ 1048576) (hr : RBats 0 w v xs) :
    Calls Tryz.prog 28 #[v, .int .i64 left] w fun e w' => e = .returned (.int .i64 (szOf (wBats xs) left)) ∧ Below w.heap.size w w' := by
  obtain ⟨p, cap, rfl, h1, h2, h4⟩ := hr
  unfold maxLen at h2
  have hW : wBats xs = xs.length + (xs.map wBat).sum := rfl
  obtain ⟨R, hR⟩ : ∃ R, R = szOf (wBats xs) left := ⟨_, rfl⟩
  rw [← hR]
  by_cases h0 : left - xs.length < 0
  · have HF : Hid (R = -1) := by rw [hR]; exact szOf_no (by rw [hW]; omega)
    have hx : 0 < xs.length := by omega
    clear h4 hR hW
    go_enter Tryz.func28, Tryz.ntmps28
    go_wp2
    go_ret
    exact ⟨ret_int HF.out.symm, Below.refl _ _⟩
  · have HF : Hid (R = szOf ((xs.drop 0).map wBat).sum (left - xs.length)) := by
      rw [hR, List.drop_zero, hW]
      by_cases hc : ((xs.length + (xs.map wBat).sum : Nat) : Int) ≤ left
      · rw [szOf_yes hc, szOf_yes (by omega)]
        show _ = _
        omega
      · rw [szOf_no hc, szOf_no (by omega)]
        exact rfl
    clear hR hW
    by_cases hn : xs.length = 0
    · have hxs : xs = [] := List.eq_nil_of_length_eq_zero hn
      subst hxs
      clear h4
      go_enter Tryz.func28, Tryz.ntmps28
      go_wp2
      refine wp_loop_rounds 1 ?_
      rw [rounds_succ]
      go_wp2
      go_ret
      exact ⟨ret_int (by rw [HF.out]; simp [szOf, hl0]), Below.refl _ _⟩
    · obtain ⟨g, off, rfl, hg, _, hc⟩ := h4 (by omega)
      have HC := hide hc
      clear hc h4
      go_enter Tryz.func28, Tryz.ntmps28
      go_wp2
      go_loopw [1, 5] (fun l i wr => ∃ (X : World) (k : Nat) (L : Int), X = wr ∧ k ≤ xs.length ∧ i = .int .i64 k ∧ l = .int .i64 L ∧ 0 ≤ L ∧ L ≤ 1048576 ∧ Hid (R = szOf ((xs.drop k).map wBat).sum L) ∧ Hid (Below w.heap.size w X)) (fun _ i _ => xs.length - (intOf i).toNat)
      case atStart => exact ⟨_, 0, _, rfl, Nat.zero_le _, rfl, rfl, by omega, by omega, HF.out, Below.refl _ _⟩
      case round =>
        obtain ⟨X, k, L, rfl, hk, rfl, rfl, hL0, hL1, HS, HB⟩ := hrel
        by_cases hlt : k < xs.length
        · obtain ⟨ha, hns, u, hu, hru⟩ := HC.out k hlt
          have hk0 := (HB.out.cell (p := ⟨g, off + k * 2, none⟩) hg).trans ha
          have hk1 := (HB.out.cell (p := ⟨g, off + k * 2 + 1, none⟩) hg).trans hu
          have HRU := hide (hru.below HB.out)
          obtain ⟨up, uc, rfl⟩ := hru.isSlice
          have HT := hide (szOf_step wBat xs k hlt L)
          have HNS := hide hns
          clear hu hru ha hns
          go_wp2_with fail
          refine (szBatch_any (xs[k]'hlt).1 _ (xs[k]'hlt).2 L _ HNS.out hL0 hL1 HRU.out).mono ?_
          rintro e w1 ⟨rfl, hb1⟩
          have HB1 := hide (HB.out.trans (hb1.mono HB.out.size))
          clear hb1
          rw [show (xs[k]'hlt).1.size + wMsgs (xs[k]'hlt).2 = wBat (xs[k]'hlt) from rfl]
          by_cases hneg : ((wBat (xs[k]'hlt) : Nat) : Int) ≤ L
          · rw [szOf_yes hneg]
            have HU : Hid (R = szOf ((xs.drop (k + 1)).map wBat).sum (L - ((wBat (xs[k]'hlt) : Nat) : Int))) := by rw [HS.out, HT.out]; exact if_pos hneg
            clear hk0 hk1
            go_wp2
            go_roundw
            case rel => exact ⟨_, k + 1, _, rfl, by omega, by go_num, rfl, by omega, by omega, HU, HB1⟩
            case measure => simp [intOf]; omega
          · rw [szOf_no hneg]
            have HU : Hid (R = -1) := by rw [HS.out, HT.out]; exact if_neg hneg
            clear hk0 hk1
            go_wp2
            go_ret
            exact ⟨ret_int HU.out.symm, HB1.out⟩
        · have HU : Hid (R = L) := by rw [HS.out, List.drop_eq_nil_of_le (by omega)]; exact szOf_zero hL0
          go_wp2
          go_ret
          exact ⟨ret_int HU.out.symm, HB.out⟩

theorem wBats_mem {xs : List Bat} {N : Nat} (h : wBats xs ≤ N) : xs.length ≤ N ∧ ∀ i (hi : i < xs.length), wMsgs xs[i].2 ≤ N ∧ xs[i].1.size ≤ N := by
  refine ⟨Nat.le_trans (wL_len _ xs) h, fun i hi => ?_⟩
  have h1 := wL_mem wBat (List.getElem_mem hi)
  have h0 : wL wBat xs ≤ N := h
  have h2 : wBat xs[i] = xs[i].1.size + wMsgs xs[i].2 := rfl
  omega

theorem Tryz.infoBatch : (Tryz.prog.info? 49).map (fun i => (i.zero, i.size, i.bytes)) = some (some (.agg #[.string ⟨#[]⟩, .slice none 0 0]), 2, 40) := by kernel_rfl
set_option maxHeartbeats 4000000 in
theorem toBatchS_any (v : Value) (xs : List Bat) (w : World) (hn : wBats xs ≤ 1048576) (hr : RBats 0 w v xs) :
    Calls Tryz.prog 31 #[v] w fun e w' => ∃ p c, e = .returned (.slice p xs.length c) ∧ RBats w.heap.size w' (.slice p xs.length c) xs ∧ Below w.heap.size w w' := by
  obtain ⟨i0, hi, hz0, hz1, hz2⟩ := info_parts Tryz.infoBatch
  obtain ⟨hl, hm⟩ := wBats_mem hn
  have HM := hide hm
  clear hn hm
  obtain ⟨p, cap, rfl, h1, h2, h4⟩ := hr
  have H4 := hide h4
  clear h4
  go_enter Tryz.func31, Tryz.ntmps31
  go_wp2_with (at_make; refine wpList_make_full _ rfl _ _ 27 rfl w.heap.size 49 i0 (.agg #[.string ⟨#[]⟩, .slice none 0 0]) 2 Tryz.underlying27 hi hz0 hz1 _ _ _ _ xs.length rfl rfl rfl rfl ?b2 ?b3 (Nat.le_refl _) ?_)
  case b2 => rw [hz2]; omega
  case b3 => unfold maxLen; omega
  intro w1 hown hgrow
  obtain ⟨Z, hZ, hZl⟩ := own_row hown
  have hb1 : Below w.heap.size w w1 := (Below.refl _ _).grown hgrow (Nat.le_refl _) (by simp)
  have HZ := hide hZ
  have HB := hide hb1
  have HL := hide hZl
  clear hZ hown hgrow hb1 hZl
  go_wp2_with fail
  go_loopw [4] (fun i wr => ∃ (X : World) (k : Nat) (cs : List Value), X = wr ∧ k ≤ xs.length ∧ i = .int .i64 k ∧ Hid (Row X w.heap.size 49 cs) ∧ Hid (Below w.heap.size w X) ∧ Hid (cs.length = xs.length * 2) ∧ Hid (∀ j (h2 : j < xs.length), j < k → cs[j * 2]? = some (.string xs[j].1) ∧ xs[j].1.size ≤ maxLen ∧ ∃ u, cs[j * 2 + 1]? = some u ∧ RMsgs (w.heap.size + 1) X u xs[j].2)) (fun i _ => xs.length - (intOf i).toNat)
  case atStart => exact ⟨_, 0, Z, rfl, Nat.zero_le _, rfl, HZ, HB, HL, hide (fun j _ h1 => absurd h1 (by omega))⟩
  case round =>
    obtain ⟨X, k, cs, rfl, hk, rfl, HRow, HBel, HLn, HEl⟩ := hrel
    by_cases hlt : k < xs.length
    · obtain ⟨g, off, hp, hg, _, hc⟩ := H4.out (by omega)
      subst hp
      obtain ⟨ha, hns, u, hu, hru⟩ := hc k hlt
      have hk0 := (HBel.out.cell (p := ⟨g, off + k * 2, none⟩) hg).trans ha
      have hk1 := (HBel.out.cell (p := ⟨g, off + k * 2 + 1, none⟩) hg).trans hu
      have HRU := hide (hru.below HBel.out)
      obtain ⟨up, uc, rfl⟩ := hru.isSlice
      have HNS := hide hns
      have hlt0 := HRow.out.lt
      clear hu hru hc ha hns
      go_wp2_with fail
      refine (toBatch_any (xs[k]'hlt).1 _ (xs[k]'hlt).2 _ (HM.out k hlt).1 HRU.out).mono ?_
      rintro e w2 ⟨p2, c2, rfl, hr2, hb2⟩
      have row2 := HRow.out.below hb2 hlt0
      obtain ⟨z0, hz0'⟩ := row2.some (k * 2) (by rw [HLn.out]; omega)
      obtain ⟨z1, hz1'⟩ := row2.some (k * 2 + 1) (by rw [HLn.out]; omega)
      have hf0 := row2.free (k * 2)
      have hf1 := row2.free (k * 2 + 1)
      have hnext := (row2.set (j := k * 2) (.string (xs[k]'hlt).1)).set (j := k * 2 + 1) (.slice p2 (xs[k]'hlt).2.length c2)
      have HN := hide hnext
      have HMB := hide (((HBel.out.trans (hb2.mono HBel.out.size)).setCell (p := ⟨w.heap.size, k * 2, none⟩) (Nat.le_refl _) (.string (xs[k]'hlt).1)).setCell (p := ⟨w.heap.size, k * 2 + 1, none⟩) (Nat.le_refl _) (.slice p2 (xs[k]'hlt).2.length c2))
      have HLn2 : Hid (((cs.set (k * 2) (.string (xs[k]'hlt).1)).set (k * 2 + 1) (.slice p2 (xs[k]'hlt).2.length c2)).length = xs.length * 2) := by rw [List.length_set, List.length_set]; exact HLn
      have HEl2 : Hid (∀ j (h2 : j < xs.length), j < k + 1 → ((cs.set (k * 2) (.string (xs[k]'hlt).1)).set (k * 2 + 1) (.slice p2 (xs[k]'hlt).2.length c2))[j * 2]? = some (.string xs[j].1) ∧ xs[j].1.size ≤ maxLen ∧ ∃ u, ((cs.set (k * 2) (.string (xs[k]'hlt).1)).set (k * 2 + 1) (.slice p2 (xs[k]'hlt).2.length c2))[j * 2 + 1]? = some u ∧ RMsgs (w.heap.size + 1) ((w2.setCell ⟨w.heap.size, k * 2, none⟩ (.string (xs[k]'hlt).1)).setCell ⟨w.heap.size, k * 2 + 1, none⟩ (.slice p2 (xs[k]'hlt).2.length c2)) u xs[j].2) := by
        intro j h2 h3
        have hll := HLn.out
        by_cases hj : j < k
        · obtain ⟨e1, e2, u, e3, e4⟩ := HEl.out j h2 hj
          refine ⟨?_, e2, u, ?_, Lasts.go (B := w.heap.size + 1) (Same.set _ _ (by omega)) (Lasts.go (B := w.heap.size + 1) (Same.set _ _ (by omega)) (Lasts.go (B := w.heap.size + 1) (Same.of hb2) e4))⟩
          · rw [List.getElem?_set_ne (by omega), List.getElem?_set_ne (by omega)]; exact e1
          · rw [List.getElem?_set_ne (by omega), List.getElem?_set_ne (by omega)]; exact e3
        · have e : j = k := by omega
          subst e
          refine ⟨?_, HNS.out, .slice p2 (xs[j]'hlt).2.length c2, ?_, Lasts.go (B := w.heap.size + 1) (Same.set _ _ (by omega)) (Lasts.go (B := w.heap.size + 1) (Same.set _ _ (by omega)) (RMsgs.mono hr2 (by omega)))⟩
          · rw [List.getElem?_set_ne (by omega), List.getElem?_set_self (by omega)]
          · rw [List.getElem?_set_self (by rw [List.length_set]; omega)]
      clear hnext row2 hr2 hb2 hlt0 hk0 hk1
      go_wp2
      go_roundw
      case rel => exact ⟨_, k + 1, _, rfl, by omega, by go_num, HN, HMB, HLn2, HEl2⟩
      case measure => simp [intOf]; omega
    · have HE : Hid (RBats w.heap.size X (.slice (some ⟨w.heap.size, 0, none⟩) xs.length xs.length) xs) := by
        refine ⟨_, _, rfl, Nat.le_refl _, by unfold maxLen; omega, fun _ => ⟨w.heap.size, 0, rfl, HRow.out.lt, Nat.le_refl _, fun i hi => ?_⟩⟩
        obtain ⟨e1, e2, u, e3, e4⟩ := HEl.out i hi (by omega)
        refine ⟨by rw [Nat.zero_add, HRow.out.cell]; exact e1, e2, u, by rw [Nat.zero_add, HRow.out.cell]; exact e3, RMsgs.mono e4 (by omega)⟩
      go_wp2
      go_ret
      exact ⟨_, _, rfl, HE.out, HBel.out⟩
end Go.Proofs.YtholbhjfmfanbaaGreat
/- Batches and Files in memory, and the laws' own helpers over them. -/
namespace Go.Proofs.YtholbhjfmfanbaaGreat
open Go.RowKit
set_option maxHeartbeats 2000000 in
theorem eqBatchS_same (v v' : Value) (xs : List Bat) (B B' : Nat) (w : World) (hn : wBats xs ≤ 1048576) (hr : RBats B w v xs) (hr' : RBats B' w v' xs) :
    Calls Tryz.prog 36 #[v, v'] w fun e w' => e = .returned (.bool true) ∧ Below w.heap.size w w' := by
  obtain ⟨hl, hm⟩ := wBats_mem hn
  have HM := hide hm
  clear hn hm
  obtain ⟨p, cap, rfl, h1, h2, h4⟩ := hr
  obtain ⟨p', cap', rfl, h1', h2', h4'⟩ := hr'
  have H4 := hide h4
  have H4' := hide h4'
  clear h4 h4'
  unfold maxLen at h2 h2'
  by_cases hx : xs.length = 0
  · have hxs : xs = [] := List.eq_nil_of_length_eq_zero hx
    subst hxs
    go_enter Tryz.func36, Tryz.ntmps36
    go_wp2
    refine wp_loop_rounds 1 ?_
    rw [rounds_succ]
    go_wp2
    go_ret
    exact ⟨rfl, Below.refl _ _⟩
  obtain ⟨g, off, hp, hg, _, hc⟩ := H4.out (by omega)
  obtain ⟨g', off', hp', hg', _, hc'⟩ := H4'.out (by omega)
  subst hp hp'
  have HC := hide hc
  have HC' := hide hc'
  clear hc hc'
  go_enter Tryz.func36, Tryz.ntmps36
  go_wp2
  go_loopw [5] (fun i wr => ∃ (X : World) (k : Nat), X = wr ∧ k ≤ xs.length ∧ i = .int .i64 k ∧ Hid (Below w.heap.size w X)) (fun i _ => xs.length - (intOf i).toNat)
  case atStart => exact ⟨_, 0, rfl, Nat.zero_le _, rfl, Below.refl _ _⟩
  case round =>
    obtain ⟨X, k, rfl, hk, rfl, HBel⟩ := hrel
    by_cases hlt : k < xs.length
    · obtain ⟨ha, hns, u, hu, hru⟩ := HC.out k hlt
      obtain ⟨ha', _, u', hu', hru'⟩ := HC'.out k hlt
      have HU := hide hru
      have HU' := hide hru'
      obtain ⟨up, uc, rfl⟩ := hru.isSlice
      obtain ⟨up', uc', rfl⟩ := hru'.isSlice
      have hki : (k : Int) < (xs.length : Int) := by omega
      have HS := hide (show ∀ x, Below X.heap.size X x → x.cell? ⟨g, off + k * 2, none⟩ = some (.string (xs[k]'hlt).1) ∧ x.cell? ⟨g, off + k * 2 + 1, none⟩ = some (.slice up (xs[k]'hlt).2.length uc) ∧ x.cell? ⟨g', off' + k * 2, none⟩ = some (.string (xs[k]'hlt).1) ∧ x.cell? ⟨g', off' + k * 2 + 1, none⟩ = some (.slice up' (xs[k]'hlt).2.length uc') ∧ Below X.heap.size X x from
        fun x h => by
          have hb := HBel.out.trans (h.mono HBel.out.size)
          exact ⟨(hb.cell (p := ⟨g, off + k * 2, none⟩) hg).trans ha, (hb.cell (p := ⟨g, off + k * 2 + 1, none⟩) hg).trans hu, (hb.cell (p := ⟨g', off' + k * 2, none⟩) hg').trans ha', (hb.cell (p := ⟨g', off' + k * 2 + 1, none⟩) hg').trans hu', h⟩)
      clear hu hu' hru hru' ha ha' hns
      go_wp2_with fail
      go_region_held3 (fun x => x.cell? ⟨g, off + k * 2, none⟩ = some (.string (xs[k]'hlt).1) ∧ x.cell? ⟨g, off + k * 2 + 1, none⟩ = some (.slice up (xs[k]'hlt).2.length uc) ∧ x.cell? ⟨g', off' + k * 2, none⟩ = some (.string (xs[k]'hlt).1) ∧ x.cell? ⟨g', off' + k * 2 + 1, none⟩ = some (.slice up' (xs[k]'hlt).2.length uc') ∧ Below X.heap.size X x)
        ((go_split_ands; refine HS.out _ ?_; repeat (first | with_reducible assumption | with_reducible exact Below.refl _ _ | with_reducible refine Below.drew ?_)))
        ((go_at_call 65; go_split_ands; refine (eqBatch_same (xs[k]'hlt).1 _ _ (xs[k]'hlt).2 B B' _ (HM.out k hlt).1 (Lasts.go (B := B) (Same.of (HBel.out.trans (Below.mono (by assumption) HBel.out.size))) HU.out) (Lasts.go (B := B') (Same.of (HBel.out.trans (Below.mono (by assumption) HBel.out.size))) HU'.out)).mono ?_; rintro e w3 ⟨rfl, hb3⟩; have hB3 : Below X.heap.size X w3 := Below.trans (by assumption) (hb3.mono (Below.size (by assumption))); clear hb3))
      all_goals
        have HB3 := hide (HBel.out.trans (hB3.mono HBel.out.size))
        clear hB3
        go_wp2
        go_roundw
        case rel => exact ⟨_, k + 1, rfl, by omega, by go_num, HB3⟩
        case measure => simp [intOf]; omega
    · go_wp2
      go_ret
      exact ⟨rfl, HBel.out⟩
set_option maxHeartbeats 2000000 in
theorem szFile_any (n : ByteArray) (u : Value) (x : List Bat) (left : Int) (w : World) (hn : n.size ≤ maxLen) (hl0 : 0 ≤ left) (hl : left ≤ 1048576) (hr : RBats 0 w u x) :
    Calls Tryz.prog 8 #[.agg #[.string n, u], .int .i64 left] w fun e w' => e = .returned (.int .i64 (szOf (n.size + wBats x) left)) ∧ Below w.heap.size w w' := by
  unfold maxLen at hn
  have HB0 : Hid (∀ p c, Below w.heap.size w (w.alloc (.cells #[.string n, .slice p x.length c] 24))) := fun p c => (Below.refl _ _).alloc (Nat.le_refl _) _
  have HR := hide hr
  obtain ⟨p, c, rfl⟩ := hr.isSlice
  clear hr
  by_cases h0 : left - (n.size : Int) < 0
  · have HS := hide (show szOf (n.size + wBats x) left = -1 from szOf_no (by omega))
    go_enter Tryz.func8, Tryz.ntmps8
    go_wp2
    go_ret
    exact ⟨ret_int HS.out.symm, HB0.out _ _⟩
  · go_enter Tryz.func8, Tryz.ntmps8
    go_wp2_with fail
    refine (szBatchS_any _ x (left - (n.size : Int)) _ (by omega) (by omega) (HR.out.below (HB0.out _ _))).mono ?_
    rintro e w1 ⟨rfl, hb1⟩
    have HB := hide ((HB0.out p c).trans (hb1.mono (by simp)))
    clear hb1
    by_cases h : ((wBats x : Nat) : Int) ≤ left - (n.size : Int)
    · have HS := hide (show szOf (n.size + wBats x) left = left - (n.size : Int) - ((wBats x : Nat) : Int) by rw [szOf_yes (by omega)]; omega)
      rw [szOf_yes h]
      go_wp2
      go_ret
      exact ⟨ret_int HS.out.symm, HB.out⟩
    · have HS := hide (show szOf (n.size + wBats x) left = -1 from szOf_no (by omega))
      rw [szOf_no h]
      go_wp2
      go_ret
      exact ⟨ret_int HS.out.symm, HB.out⟩

set_option maxHeartbeats 2000000 in
theorem toFile_any (n : ByteArray) (u : Value) (x : List Bat) (w : World) (hn : wBats x ≤ 1048576) (hr : RBats 0 w u x) :
    Calls Tryz.prog 10 #[.agg #[.string n, u]] w fun e w' => ∃ p c, e = .returned (.agg #[.string n, .slice p x.length c]) ∧ RBats w.heap.size w' (.slice p x.length c) x ∧ Below w.heap.size w w' := by
  obtain ⟨p, c, rfl⟩ := hr.isSlice
  obtain ⟨W, hW⟩ : ∃ W, W = (((w.alloc (.cells #[.string n, .slice p x.length c] 24)).alloc (.cells #[.string ⟨#[]⟩, .slice none 0 0] 29)).alloc (.cells #[.string n, .slice none 0 0] 29)) := ⟨_, rfl⟩
  have hb0 : Below w.heap.size w W := by rw [hW]; exact (((Below.refl _ _).alloc (Nat.le_refl _) _).alloc (by simp) _).alloc (by simp; omega) _
  have HR := hide (hr.below hb0)
  have HB0 := hide hb0
  have R1 : Row W (w.heap.size + 1) 29 [.string ⟨#[]⟩, .slice none 0 0] := by
    rw [hW]
    have := (row_new (w.alloc (.cells #[.string n, .slice p x.length c] 24)) [.string ⟨#[]⟩, .slice none 0 0] 29).alloc (.cells #[.string n, .slice none 0 0] 29)
    simpa using this
  have R2 : Row W (w.heap.size + 2) 29 [.string n, .slice none 0 0] := by
    rw [hW]
    have := row_new ((w.alloc (.cells #[.string n, .slice p x.length c] 24)).alloc (.cells #[.string ⟨#[]⟩, .slice none 0 0] 29)) [.string n, .slice none 0 0] 29
    simpa using this
  have hsz : W.heap.size = w.heap.size + 3 := by rw [hW]; simp
  clear hr hb0
  go_enter Tryz.func10, Tryz.ntmps10
  go_wp2_with fail
  rw [← hW]
  refine (toBatchS_any _ x _ hn HR.out).mono ?_
  rintro e w1 ⟨p1, c1, rfl, hr1, hb1⟩
  clear hW
  have r1 := R1.below hb1 (by omega)
  have r2 := R2.below hb1 (by omega)
  have f2 : w1.cell? ⟨w.heap.size + 2, 1, none⟩ = some (.slice none 0 0) := r2.cell 1
  have z2 := r2.free 1
  have s2 := r2.set (j := 1) (.slice p1 x.length c1)
  have s1 := r1.other (b := w.heap.size + 2) (j := 1) (by omega) (.slice p1 x.length c1)
  have g2 : (w1.setCell ⟨w.heap.size + 2, 1, none⟩ (.slice p1 x.length c1)).cell? ⟨w.heap.size + 2, 1, none⟩ = some (.slice p1 x.length c1) := s2.cell 1
  have g20 : (w1.setCell ⟨w.heap.size + 2, 1, none⟩ (.slice p1 x.length c1)).cell? ⟨w.heap.size + 2, 0, none⟩ = some (.string n) := s2.cell 0
  have g1 : (w1.setCell ⟨w.heap.size + 2, 1, none⟩ (.slice p1 x.length c1)).cell? ⟨w.heap.size + 1, 0, none⟩ = some (.string ⟨#[]⟩) := s1.cell 0
  have g11 : (w1.setCell ⟨w.heap.size + 2, 1, none⟩ (.slice p1 x.length c1)).cell? ⟨w.heap.size + 1, 1, none⟩ = some (.slice none 0 0) := s1.cell 1
  have z1 := s1.free 0
  have z11 := s1.free 1
  have t1 := (s1.set (j := 0) (.string n)).set (j := 1) (.slice p1 x.length c1)
  have q0 : (((w1.setCell ⟨w.heap.size + 2, 1, none⟩ (.slice p1 x.length c1)).setCell ⟨w.heap.size + 1, 0, none⟩ (.string n)).setCell ⟨w.heap.size + 1, 1, none⟩ (.slice p1 x.length c1)).cell? ⟨w.heap.size + 1, 0, none⟩ = some (.string n) := t1.cell 0
  have q1 : (((w1.setCell ⟨w.heap.size + 2, 1, none⟩ (.slice p1 x.length c1)).setCell ⟨w.heap.size + 1, 0, none⟩ (.string n)).setCell ⟨w.heap.size + 1, 1, none⟩ (.slice p1 x.length c1)).cell? ⟨w.heap.size + 1, 1, none⟩ = some (.slice p1 x.length c1) := t1.cell 1
  rw [hsz] at hr1
  have HRE := hide (RBats.mono (((hr1.same (Same.set w1 (g := w.heap.size + 2) (j := 1) (.slice p1 x.length c1) (by omega))).same (Same.set _ _ (by omega))).same (Same.set _ _ (by omega))) (by omega : w.heap.size ≤ w.heap.size + 3) : RBats w.heap.size (((w1.setCell ⟨w.heap.size + 2, 1, none⟩ (.slice p1 x.length c1)).setCell ⟨w.heap.size + 1, 0, none⟩ (.string n)).setCell ⟨w.heap.size + 1, 1, none⟩ (.slice p1 x.length c1)) (.slice p1 x.length c1) x)
  have HBE := hide ((((HB0.out.trans (hb1.mono (by omega))).setCell (p := ⟨w.heap.size + 2, 1, none⟩) (by show w.heap.size ≤ w.heap.size + 2; omega) (.slice p1 x.length c1)).setCell (p := ⟨w.heap.size + 1, 0, none⟩) (by show w.heap.size ≤ w.heap.size + 1; omega) (.string n)).setCell (p := ⟨w.heap.size + 1, 1, none⟩) (by show w.heap.size ≤ w.heap.size + 1; omega) (.slice p1 x.length c1))
  clear hr1 hb1 r1 r2 s1 s2 t1
  go_wp2
  exact bodyPost_ret (v := .agg #[.string n, .slice p1 x.length c1]) (by simp [results, Tryz.results10, go_sem, q0, q1]) rfl ⟨_, _, rfl, HRE.out, HBE.out⟩

set_option maxHeartbeats 1000000 in
theorem eqFile_same (n : ByteArray) (u u' : Value) (x : List Bat) (B B' : Nat) (w : World) (hn : wBats x ≤ 1048576) (hr : RBats B w u x) (hr' : RBats B' w u' x) :
    Calls Tryz.prog 12 #[.agg #[.string n, u], .agg #[.string n, u']] w fun e w' => e = .returned (.bool true) ∧ Below w.heap.size w w' := by
  have HR := hide hr
  have HR' := hide hr'
  obtain ⟨p, c, rfl⟩ := hr.isSlice
  obtain ⟨p', c', rfl⟩ := hr'.isSlice
  clear hr hr'
  have HB0 := hide (((Below.refl w.heap.size w).alloc (Nat.le_refl _) (.cells #[.string n, .slice p x.length c] 29)).alloc (by simp) (.cells #[.string n, .slice p' x.length c'] 29))
  go_enter Tryz.func12, Tryz.ntmps12
  go_wp2_with fail
  refine (eqBatchS_same _ _ x B B' _ hn (HR.out.below HB0.out) (HR'.out.below HB0.out)).mono ?_
  rintro e w1 ⟨rfl, hb1⟩
  have HB := hide (HB0.out.trans (hb1.mono (by simp; omega)))
  clear hb1
  go_wp2
  go_ret
  exact ⟨rfl, HB.out⟩
end Go.Proofs.YtholbhjfmfanbaaGreat
