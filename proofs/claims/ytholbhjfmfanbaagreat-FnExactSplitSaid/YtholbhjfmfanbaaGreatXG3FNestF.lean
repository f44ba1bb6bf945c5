/- The laws' own helpers over lists of Fields. -/
import Derived.Test.YtholbhjfmfanbaaGreatXG1Str
import Derived.Test.YtholbhjfmfanbaaGreatXG2FNestT
namespace Go.Proofs.YtholbhjfmfanbaaGreat
open Go.RowKit
def wFlds : List (List (List (List ByteArray))) → Nat := wL wFld

set_option maxHeartbeats 2000000 in
theorem szFieldS_any (v : Value) (xs : List (List (List (List ByteArray)))) (left : Int) (w : World) (hl0 : 0 ≤ left) (hl : left ≤ 1048576) (hr : RL 0 (RFld 0) w v xs) :
    Calls Tryz.prog 131 #[v, .int .i64 left] w fun e w' => e = .returned (.int .i64 (szOf (wFlds xs) left)) ∧ Below w.heap.size w w' := by
  obtain ⟨p, cap, rfl, h1, h2, h4⟩ := hr
  unfold maxLen at h2
  have hW : wFlds xs = xs.length + (xs.map wFld).sum := rfl
  obtain ⟨R, hR⟩ : ∃ R, R = szOf (wFlds xs) left := ⟨_, rfl⟩
  rw [← hR]
  by_cases h0 : left - xs.length < 0
  · have HF : Hid (R = -1) := by rw [hR]; exact szOf_no (by rw [hW]; omega)
    have hx : 0 < xs.length := by omega
    clear h4 hR hW
    go_enter Tryz.func131, Tryz.ntmps131
    go_wp2
    go_ret
    exact ⟨ret_int HF.out.symm, Below.refl _ _⟩
  · have HF : Hid (R = szOf ((xs.drop 0).map wFld).sum (left - xs.length)) := by
      rw [hR, List.drop_zero, hW]
      by_cases hc : ((xs.length + (xs.map wFld).sum : Nat) : Int) ≤ left
      · rw [szOf_yes hc, szOf_yes (by omega)]
        show _ = _
        omega
      · rw [szOf_no hc, szOf_no (by omega)]
        exact rfl
    clear hR hW
    by_cases hn : xs.length = 0
    · have hxs : xs = [] := List.eq_nil_of_length_eq_zero hn
      subst hxs
      clear h4
      go_enter Tryz.func131, Tryz.ntmps131
      go_wp2
      refine wp_loop_rounds 1 ?_
      rw [rounds_succ]
      go_wp2
      go_ret
      exact ⟨ret_int (by rw [HF.out]; simp [szOf, hl0]), Below.refl _ _⟩
    · obtain ⟨g, off, rfl, hg, _, hc⟩ := h4 (by omega)
      have HC := hide hc
      clear hc h4
      go_enter Tryz.func131, Tryz.ntmps131
      go_wp2
      go_loopw [1, 5] (fun l i wr => ∃ (X : World) (k : Nat) (L : Int), X = wr ∧ k ≤ xs.length ∧ i = .int .i64 k ∧ l = .int .i64 L ∧ 0 ≤ L ∧ L ≤ 1048576 ∧ Hid (R = szOf ((xs.drop k).map wFld).sum L) ∧ Hid (Below w.heap.size w X)) (fun _ i _ => xs.length - (intOf i).toNat)
      case atStart => exact ⟨_, 0, _, rfl, Nat.zero_le _, rfl, rfl, by omega, by omega, HF.out, Below.refl _ _⟩
      case round =>
        obtain ⟨X, k, L, rfl, hk, rfl, rfl, hL0, hL1, HS, HB⟩ := hrel
        by_cases hlt : k < xs.length
        · obtain ⟨u, hu, hru⟩ := HC.out k hlt
          have hck : X.cell? ⟨g, off + k, none⟩ = some u := by rw [HB.out.cell (p := ⟨g, off + k, none⟩) hg]; exact hu
          have HRU := hide (hru.below HB.out)
          obtain ⟨up, uc, rfl⟩ := hru.isSlice
          have HT := hide (szOf_step wFld xs k hlt L)
          clear hu hru
          go_wp2_with fail
          refine (szField_any _ (xs[k]'hlt) L _ hL0 hL1 HRU.out).mono ?_
          rintro e w1 ⟨rfl, hb1⟩
          have HB1 := hide (HB.out.trans (hb1.mono HB.out.size))
          clear hb1
          by_cases hneg : ((wFld (xs[k]'hlt) : Nat) : Int) ≤ L
          · rw [szOf_yes hneg]
            have HU : Hid (R = szOf ((xs.drop (k + 1)).map wFld).sum (L - ((wFld (xs[k]'hlt) : Nat) : Int))) := by rw [HS.out, HT.out]; exact if_pos hneg
            go_wp2
            go_roundw
            case rel => exact ⟨_, k + 1, _, rfl, by omega, by go_num, rfl, by omega, by omega, HU, HB1⟩
            case measure => simp [intOf]; omega
          · rw [szOf_no hneg]
            have HU : Hid (R = -1) := by rw [HS.out, HT.out]; exact if_neg hneg
            go_wp2
            go_ret
            exact ⟨ret_int HU.out.symm, HB1.out⟩
        · have HU : Hid (R = L) := by rw [HS.out, List.drop_eq_nil_of_le (by omega)]; exact szOf_zero hL0
          go_wp2
          go_ret
          exact ⟨ret_int HU.out.symm, HB.out⟩

theorem Tryz.infoField : (Tryz.prog.info? 108).map (fun i => (i.zero, i.size, i.bytes)) = some (some (.agg #[.slice none 0 0]), 1, 24) := by kernel_rfl
set_option maxHeartbeats 2000000 in
theorem toFieldS_any (v : Value) (xs : List (List (List (List ByteArray)))) (w : World) (hn : wFlds xs ≤ 1048576) (hr : RL 0 (RFld 0) w v xs) :
    Calls Tryz.prog 133 #[v] w fun e w' => ∃ p c, e = .returned (.slice p xs.length c) ∧ RL w.heap.size (RFld w.heap.size) w' (.slice p xs.length c) xs ∧ Below w.heap.size w w' := by
  obtain ⟨i0, hi, hz0, hz1, hz2⟩ := info_parts Tryz.infoField
  have hl : xs.length ≤ 1048576 := Nat.le_trans (wL_len _ xs) hn
  have HM : Hid (∀ i (h : i < xs.length), wFld xs[i] ≤ 1048576) := fun i h => by have := wL_mem wFld (List.getElem_mem h); have : wL wFld xs ≤ 1048576 := hn; omega
  clear hn
  obtain ⟨p, cap, rfl, h1, h2, h4⟩ := hr
  have H4 := hide h4
  clear h4
  have hzc : (Value.agg #[.slice none 0 0]).cells.size = 1 := by simp [Value.cells]
  go_enter Tryz.func133, Tryz.ntmps133
  go_wp2_with (at_make; refine wpList_make_full _ rfl _ _ 83 rfl w.heap.size 108 i0 (.agg #[.slice none 0 0]) 1 Tryz.underlying83 hi hz0 hz1 _ _ _ _ xs.length rfl rfl rfl rfl ?b2 ?b3 (Nat.le_refl _) ?_)
  case b2 => rw [hz2]; omega
  case b3 => unfold maxLen; omega
  intro w1 hown hgrow
  obtain ⟨Z, hZ, hZl⟩ := own_row hown
  rw [Nat.mul_one] at hZl
  have hb1 : Below w.heap.size w w1 := (Below.refl _ _).grown hgrow (Nat.le_refl _) (by simp)
  have HZ := hide hZ
  have HB := hide hb1
  have HL := hide hZl
  clear hZ hown hgrow hb1 hZl
  go_wp2_with fail
  go_loopw [4] (fun i wr => ∃ (X : World) (k : Nat) (vs : List Value), X = wr ∧ k ≤ xs.length ∧ i = .int .i64 k ∧ Hid (Row X w.heap.size 108 (vs ++ Z.drop k)) ∧ Hid (Below w.heap.size w X) ∧ Hid (vs.length = k) ∧ Hid (∀ j (h1 : j < vs.length) (h2 : j < xs.length), RFld (w.heap.size + 1) X vs[j] xs[j])) (fun i _ => xs.length - (intOf i).toNat)
  case atStart => exact ⟨_, 0, [], rfl, Nat.zero_le _, rfl, hide (by simpa using HZ.out), HB, hide rfl, hide (fun j h1 _ => absurd h1 (by simp))⟩
  case round =>
    obtain ⟨X, k, vs, rfl, hk, rfl, HRow, HBel, HLn, HEl⟩ := hrel
    by_cases hlt : k < xs.length
    · obtain ⟨g, off, hp, hg, _, hc⟩ := H4.out (by omega)
      subst hp
      obtain ⟨u, hu, hru⟩ := hc k hlt
      have hck : X.cell? ⟨g, off + k, none⟩ = some u := by rw [HBel.out.cell (p := ⟨g, off + k, none⟩) hg]; exact hu
      have HRU := hide (hru.below HBel.out)
      obtain ⟨up, uc, rfl⟩ := hru.isSlice
      have hlt0 := HRow.out.lt
      clear hu hru hc
      go_wp2_with fail
      refine (toField_any _ (xs[k]'hlt) _ (HM.out k hlt) HRU.out).mono ?_
      rintro e w2 ⟨p2, c2, rfl, hr2, hb2⟩
      have row2 := HRow.out.below hb2 hlt0
      have hll : (vs ++ Z.drop k).length = xs.length := by rw [List.length_append, HLn.out, List.length_drop, HL.out]; omega
      obtain ⟨z, hz⟩ := row2.some k (by rw [hll]; exact hlt)
      have hf := row2.free k
      have hnext := row2.set (j := k) (.slice p2 (xs[k]'hlt).length c2)
      rw [set_snoc vs Z k xs.length _ HLn.out hlt HL.out] at hnext
      have HN := hide hnext
      have HMB := hide ((HBel.out.trans (hb2.mono HBel.out.size)).setCell (p := ⟨w.heap.size, k, none⟩) (Nat.le_refl _) (.slice p2 (xs[k]'hlt).length c2))
      have HLn2 : Hid ((vs ++ [Value.slice p2 (xs[k]'hlt).length c2]).length = k + 1) := by rw [List.length_append, HLn.out]; exact rfl
      have HEl2 : Hid (∀ j (h1 : j < (vs ++ [Value.slice p2 (xs[k]'hlt).length c2]).length) (h2 : j < xs.length), RFld (w.heap.size + 1) (w2.setCell ⟨w.heap.size, k, none⟩ (.slice p2 (xs[k]'hlt).length c2)) (vs ++ [Value.slice p2 (xs[k]'hlt).length c2])[j] xs[j]) := by
        intro j h1 h2
        refine Lasts.go (B := w.heap.size + 1) (Same.set _ _ (by omega)) ?_
        rw [HLn2.out] at h1
        by_cases hj : j < k
        · rw [List.getElem_append_left (by rw [HLn.out]; exact hj)]
          exact Lasts.go (B := w.heap.size + 1) (Same.of hb2) (HEl.out j (by rw [HLn.out]; exact hj) h2)
        · have e : j = k := by omega
          subst e
          rw [List.getElem_append_right (by rw [HLn.out]; exact Nat.le_refl _)]
          simp only [HLn.out, Nat.sub_self, List.getElem_cons_zero]
          exact RFld.mono hr2 (by omega)
      clear hnext row2 hr2 hb2 hlt0 hll
      go_wp2
      go_roundw
      case rel => exact ⟨_, k + 1, _, rfl, by omega, by go_num, HN, HMB, HLn2, HEl2⟩
      case measure => simp [intOf]; omega
    · have HE : Hid (Row X w.heap.size 108 vs) := by
        have := HRow.out
        rw [List.drop_eq_nil_of_le (by rw [HL.out]; omega), List.append_nil] at this
        exact this
      have HLn3 : Hid (vs.length = xs.length) := by rw [HLn.out]; exact (show k = xs.length by omega)
      go_wp2
      go_ret
      refine ⟨_, _, rfl, rl_row HE.out HLn3.out (by unfold maxLen; omega) (Nat.le_refl _) (fun i hi => RFld.mono (HEl.out i (by rw [HLn3.out]; exact hi) hi) (by omega)), HBel.out⟩

set_option maxHeartbeats 2000000 in
theorem eqFieldS_same (v v' : Value) (xs : List (List (List (List ByteArray)))) (B B' : Nat) (w : World) (hn : wFlds xs ≤ 1048576) (hr : RL B (RFld B) w v xs) (hr' : RL B' (RFld B') w v' xs) :
    Calls Tryz.prog 106 #[v, v'] w fun e w' => e = .returned (.bool true) ∧ Below w.heap.size w w' := by
  have hl : xs.length ≤ 1048576 := Nat.le_trans (wL_len _ xs) hn
  have HM : Hid (∀ i (h : i < xs.length), wFld xs[i] ≤ 1048576) := fun i h => by have := wL_mem wFld (List.getElem_mem h); have : wL wFld xs ≤ 1048576 := hn; omega
  clear hn
  obtain ⟨p, cap, rfl, h1, h2, h4⟩ := hr
  obtain ⟨p', cap', rfl, h1', h2', h4'⟩ := hr'
  have H4 := hide h4
  have H4' := hide h4'
  clear h4 h4'
  unfold maxLen at h2 h2'
  by_cases hx : xs.length = 0
  · have hxs : xs = [] := List.eq_nil_of_length_eq_zero hx
    subst hxs
    go_enter Tryz.func106, Tryz.ntmps106
    go_wp2
    refine wp_loop_rounds 1 ?_
    rw [rounds_succ]
    go_wp2
    go_ret
    exact ⟨rfl, Below.refl _ _⟩
  obtain ⟨g, off, hp, hg, _, hc⟩ := H4.out (by omega)
  obtain ⟨g', off', hp', hg', _, hc'⟩ := H4'.out (by omega)
  subst hp hp'
  have HC := hide hc
  have HC' := hide hc'
  clear hc hc'
  go_enter Tryz.func106, Tryz.ntmps106
  go_wp2
  go_loopw [5] (fun i wr => ∃ (X : World) (k : Nat), X = wr ∧ k ≤ xs.length ∧ i = .int .i64 k ∧ Hid (Below w.heap.size w X)) (fun i _ => xs.length - (intOf i).toNat)
  case atStart => exact ⟨_, 0, rfl, Nat.zero_le _, rfl, Below.refl _ _⟩
  case round =>
    obtain ⟨X, k, rfl, hk, rfl, HBel⟩ := hrel
    by_cases hlt : k < xs.length
    · obtain ⟨u, hu, hru⟩ := HC.out k hlt
      obtain ⟨u', hu', hru'⟩ := HC'.out k hlt
      have HU := hide hru
      have HU' := hide hru'
      obtain ⟨up, uc, rfl⟩ := hru.isSlice
      obtain ⟨up', uc', rfl⟩ := hru'.isSlice
      have hki : (k : Int) < (xs.length : Int) := by omega
      have HS := hide (show ∀ x, Below X.heap.size X x → x.cell? ⟨g, off + k, none⟩ = some (.slice up (xs[k]'hlt).length uc) ∧ x.cell? ⟨g', off' + k, none⟩ = some (.slice up' (xs[k]'hlt).length uc') ∧ Below X.heap.size X x from
        fun x h => by
          have hb := HBel.out.trans (h.mono HBel.out.size)
          exact ⟨by rw [hb.cell (p := ⟨g, off + k, none⟩) hg]; exact hu, by rw [hb.cell (p := ⟨g', off' + k, none⟩) hg']; exact hu', h⟩)
      clear hu hu' hru hru'
      go_wp2_with fail
      go_region_held3 (fun x => x.cell? ⟨g, off + k, none⟩ = some (.slice up (xs[k]'hlt).length uc) ∧ x.cell? ⟨g', off' + k, none⟩ = some (.slice up' (xs[k]'hlt).length uc') ∧ Below X.heap.size X x)
        ((go_split_ands; refine HS.out _ ?_; repeat (first | with_reducible assumption | with_reducible exact Below.refl _ _ | with_reducible refine Below.drew ?_)))
        ((go_at_call 119; go_split_ands; refine (eqField_same _ _ (xs[k]'hlt) B B' _ (HM.out k hlt) (Lasts.go (B := B) (Same.of (HBel.out.trans (Below.mono (by assumption) HBel.out.size))) HU.out) (Lasts.go (B := B') (Same.of (HBel.out.trans (Below.mono (by assumption) HBel.out.size))) HU'.out)).mono ?_; rintro e w3 ⟨rfl, hb3⟩; have hB3 : Below X.heap.size X w3 := Below.trans (by assumption) (hb3.mono (Below.size (by assumption))); clear hb3))
      all_goals
        have HB3 := hide (HBel.out.trans (hB3.mono HBel.out.size))
        clear hB3
        go_wp2
        go_roundw
        case rel => exact ⟨_, k + 1, rfl, by omega, by go_num, HB3⟩
        case measure => simp [intOf]; omega
    · go_wp2
      go_ret
      exact ⟨rfl, HBel.out⟩
end Go.Proofs.YtholbhjfmfanbaaGreat
/- The laws' own helpers over a Segment: how much it takes, a copy, are two alike. -/
namespace Go.Proofs.YtholbhjfmfanbaaGreat
open Go.RowKit
abbrev RFlds (B : Nat) : World → Value → List (List (List (List ByteArray))) → Prop := RL B (RFld B)
theorem RFlds.mono {B B' : Nat} {w : World} {v : Value} {x : List (List (List (List ByteArray)))} (h : RFlds B w v x) (hB : B' ≤ B) : RFlds B' w v x := RL.mono h hB fun _ _ h => RFld.mono h hB

set_option maxHeartbeats 2000000 in
theorem szSegment_any (n : ByteArray) (u : Value) (x : List (List (List (List ByteArray)))) (left : Int) (w : World) (hn : n.size ≤ maxLen) (hl0 : 0 ≤ left) (hl : left ≤ 1048576) (hr : RFlds 0 w u x) :
    Calls Tryz.prog 122 #[.agg #[.string n, u], .int .i64 left] w fun e w' => e = .returned (.int .i64 (szOf (n.size + wFlds x) left)) ∧ Below w.heap.size w w' := by
  unfold maxLen at hn
  have HB0 : Hid (∀ p c, Below w.heap.size w (w.alloc (.cells #[.string n, .slice p x.length c] 146))) := fun p c => (Below.refl _ _).alloc (Nat.le_refl _) _
  have HR := hide hr
  obtain ⟨p, c, rfl⟩ := hr.isSlice
  clear hr
  by_cases h0 : left - (n.size : Int) < 0
  · have HS := hide (show szOf (n.size + wFlds x) left = -1 from szOf_no (by omega))
    go_enter Tryz.func122, Tryz.ntmps122
    go_wp2
    go_ret
    exact ⟨ret_int HS.out.symm, HB0.out _ _⟩
  · go_enter Tryz.func122, Tryz.ntmps122
    go_wp2_with fail
    refine (szFieldS_any _ x (left - (n.size : Int)) _ (by omega) (by omega) (HR.out.below (HB0.out _ _))).mono ?_
    rintro e w1 ⟨rfl, hb1⟩
    have HB := hide ((HB0.out p c).trans (hb1.mono (by simp)))
    clear hb1
    by_cases h : ((wFlds x : Nat) : Int) ≤ left - (n.size : Int)
    · have HS := hide (show szOf (n.size + wFlds x) left = left - (n.size : Int) - ((wFlds x : Nat) : Int) by rw [szOf_yes (by omega)]; omega)
      rw [szOf_yes h]
      go_wp2
      go_ret
      exact ⟨ret_int HS.out.symm, HB.out⟩
    · have HS := hide (show szOf (n.size + wFlds x) left = -1 from szOf_no (by omega))
      rw [szOf_no h]
      go_wp2
      go_ret
      exact ⟨ret_int HS.out.symm, HB.out⟩

set_option maxHeartbeats 2000000 in
theorem toSegment_any (n : ByteArray) (u : Value) (x : List (List (List (List ByteArray)))) (w : World) (hn : wFlds x ≤ 1048576) (hr : RFlds 0 w u x) :
    Calls Tryz.prog 124 #[.agg #[.string n, u]] w fun e w' => ∃ p c, e = .returned (.agg #[.string n, .slice p x.length c]) ∧ RFlds w.heap.size w' (.slice p x.length c) x ∧ Below w.heap.size w w' := by
  obtain ⟨p, c, rfl⟩ := hr.isSlice
  obtain ⟨W, hW⟩ : ∃ W, W = (((w.alloc (.cells #[.string n, .slice p x.length c] 146)).alloc (.cells #[.string ⟨#[]⟩, .slice none 0 0] 85)).alloc (.cells #[.string n, .slice none 0 0] 85)) := ⟨_, rfl⟩
  have hb0 : Below w.heap.size w W := by rw [hW]; exact (((Below.refl _ _).alloc (Nat.le_refl _) _).alloc (by simp) _).alloc (by simp; omega) _
  have HR := hide (hr.below hb0)
  have HB0 := hide hb0
  have R1 : Row W (w.heap.size + 1) 85 [.string ⟨#[]⟩, .slice none 0 0] := by
    rw [hW]
    have := (row_new (w.alloc (.cells #[.string n, .slice p x.length c] 146)) [.string ⟨#[]⟩, .slice none 0 0] 85).alloc (.cells #[.string n, .slice none 0 0] 85)
    simpa using this
  have R2 : Row W (w.heap.size + 2) 85 [.string n, .slice none 0 0] := by
    rw [hW]
    have := row_new ((w.alloc (.cells #[.string n, .slice p x.length c] 146)).alloc (.cells #[.string ⟨#[]⟩, .slice none 0 0] 85)) [.string n, .slice none 0 0] 85
    simpa using this
  have hsz : W.heap.size = w.heap.size + 3 := by rw [hW]; simp
  clear hr hb0
  go_enter Tryz.func124, Tryz.ntmps124
  go_wp2_with fail
  rw [← hW]
  refine (toFieldS_any _ x _ hn HR.out).mono ?_
  rintro e w1 ⟨p1, c1, rfl, hr1, hb1⟩
  clear hW
  have r1 := R1.below hb1 (by omega)
  have r2 := R2.below hb1 (by omega)
  have f2 : w1.cell? ⟨w.heap.size + 2, 1, none⟩ = some (.slice none 0 0) := r2.cell 1
  have z2 := r2.free 1
  have s2 := r2.set (j := 1) (.slice p1 x.length c1)
  have s1 := r1.other (b := w.heap.size + 2) (j := 1) (by omega) (.slice p1 x.length c1)
  have g2 : (w1.setCell ⟨w.heap.size + 2, 1, none⟩ (.slice p1 x.length c1)).cell? ⟨w.heap.size + 2, 1, none⟩ = some (.slice p1 x.length c1) := s2.cell 1
  have g20 : (w1.setCell ⟨w.heap.size + 2, 1, none⟩ (.slice p1 x.length c1)).cell? ⟨w.heap.size + 2, 0, none⟩ = some (.string n) := s2.cell 0
  have g1 : (w1.setCell ⟨w.heap.size + 2, 1, none⟩ (.slice p1 x.length c1)).cell? ⟨w.heap.size + 1, 0, none⟩ = some (.string ⟨#[]⟩) := s1.cell 0
  have g11 : (w1.setCell ⟨w.heap.size + 2, 1, none⟩ (.slice p1 x.length c1)).cell? ⟨w.heap.size + 1, 1, none⟩ = some (.slice none 0 0) := s1.cell 1
  have z1 := s1.free 0
  have z11 := s1.free 1
  have t1 := (s1.set (j := 0) (.string n)).set (j := 1) (.slice p1 x.length c1)
  have q0 : (((w1.setCell ⟨w.heap.size + 2, 1, none⟩ (.slice p1 x.length c1)).setCell ⟨w.heap.size + 1, 0, none⟩ (.string n)).setCell ⟨w.heap.size + 1, 1, none⟩ (.slice p1 x.length c1)).cell? ⟨w.heap.size + 1, 0, none⟩ = some (.string n) := t1.cell 0
  have q1 : (((w1.setCell ⟨w.heap.size + 2, 1, none⟩ (.slice p1 x.length c1)).setCell ⟨w.heap.size + 1, 0, none⟩ (.string n)).setCell ⟨w.heap.size + 1, 1, none⟩ (.slice p1 x.length c1)).cell? ⟨w.heap.size + 1, 1, none⟩ = some (.slice p1 x.length c1) := t1.cell 1
  rw [hsz] at hr1
  have HRE := hide (RFlds.mono (Lasts.go (B := w.heap.size + 3) (Same.set _ _ (by omega)) (Lasts.go (B := w.heap.size + 3) (Same.set _ _ (by omega)) (Lasts.go (B := w.heap.size + 3) (Same.set w1 (g := w.heap.size + 2) (j := 1) (.slice p1 x.length c1) (by omega)) hr1))) (by omega : w.heap.size ≤ w.heap.size + 3) : RFlds w.heap.size (((w1.setCell ⟨w.heap.size + 2, 1, none⟩ (.slice p1 x.length c1)).setCell ⟨w.heap.size + 1, 0, none⟩ (.string n)).setCell ⟨w.heap.size + 1, 1, none⟩ (.slice p1 x.length c1)) (.slice p1 x.length c1) x)
  have HBE := hide ((((HB0.out.trans (hb1.mono (by omega))).setCell (p := ⟨w.heap.size + 2, 1, none⟩) (by show w.heap.size ≤ w.heap.size + 2; omega) (.slice p1 x.length c1)).setCell (p := ⟨w.heap.size + 1, 0, none⟩) (by show w.heap.size ≤ w.heap.size + 1; omega) (.string n)).setCell (p := ⟨w.heap.size + 1, 1, none⟩) (by show w.heap.size ≤ w.heap.size + 1; omega) (.slice p1 x.length c1))
  clear hr1 hb1 r1 r2 s1 s2 t1
  go_wp2
  exact bodyPost_ret (v := .agg #[.string n, .slice p1 x.length c1]) (by simp [results, Tryz.results124, go_sem, q0, q1]) rfl ⟨_, _, rfl, HRE.out, HBE.out⟩

set_option maxHeartbeats 1000000 in
theorem eqSegment_same (n : ByteArray) (u u' : Value) (x : List (List (List (List ByteArray)))) (B B' : Nat) (w : World) (hn : wFlds x ≤ 1048576) (hr : RFlds B w u x) (hr' : RFlds B' w u' x) :
    Calls Tryz.prog 90 #[.agg #[.string n, u], .agg #[.string n, u']] w fun e w' => e = .returned (.bool true) ∧ Below w.heap.size w w' := by
  have HR := hide hr
  have HR' := hide hr'
  obtain ⟨p, c, rfl⟩ := hr.isSlice
  obtain ⟨p', c', rfl⟩ := hr'.isSlice
  clear hr hr'
  have HB0 := hide (((Below.refl w.heap.size w).alloc (Nat.le_refl _) (.cells #[.string n, .slice p x.length c] 85)).alloc (by simp) (.cells #[.string n, .slice p' x.length c'] 85))
  go_enter Tryz.func90, Tryz.ntmps90
  go_wp2_with fail
  refine (eqFieldS_same _ _ x B B' _ hn (HR.out.below HB0.out) (HR'.out.below HB0.out)).mono ?_
  rintro e w1 ⟨rfl, hb1⟩
  have HB := hide (HB0.out.trans (hb1.mono (by simp; omega)))
  clear hb1
  go_wp2
  go_ret
  exact ⟨rfl, HB.out⟩
end Go.Proofs.YtholbhjfmfanbaaGreat
