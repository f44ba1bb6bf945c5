/- The laws' own comparing of Fields. -/
import Derived.Test.YtolgjdnhhbbebaaGreatDoorXGStr
import Derived.Deep.RegionHeld3
namespace Go.Proofs.YtolgjdnhhbbebaaGreatDoor
open Go.RowKit
theorem eqStringS2_same (v v' : Value) (xs : List ByteArray) (B B' : Nat) (w : World) (hn : wComp xs ≤ 1048576) (hr : RComp B w v xs) (hr' : RComp B' w v' xs) :
    Calls Tryz.prog 142 #[v, v'] w fun e w' => e = .returned (.bool true) ∧ Below w.heap.size w w' :=
  eqStringS_same v v' xs w (Nat.le_trans (wL_len _ xs) hn) hr.reads hr'.reads

set_option maxHeartbeats 1000000 in
theorem eqComp_same (u u' : Value) (x : List ByteArray) (B B' : Nat) (w : World) (hn : wComp x ≤ 1048576) (hr : RComp B w u x) (hr' : RComp B' w u' x) :
    Calls Tryz.prog 139 #[.agg #[u], .agg #[u']] w fun e w' => e = .returned (.bool true) ∧ Below w.heap.size w w' := by
  have HR := hide hr
  have HR' := hide hr'
  obtain ⟨p, c, rfl⟩ := hr.isSlice
  obtain ⟨p', c', rfl⟩ := hr'.isSlice
  clear hr hr'
  have HB0 := hide (((Below.refl w.heap.size w).alloc (Nat.le_refl _) (.cells #[.slice p x.length c] 104)).alloc (by simp) (.cells #[.slice p' x.length c'] 104))
  go_enter Tryz.func139, Tryz.ntmps139
  go_wp2_with fail
  refine (eqStringS2_same _ _ x B B' _ hn (HR.out.below HB0.out) (HR'.out.below HB0.out)).mono ?_
  rintro e w1 ⟨rfl, hb1⟩
  have HB := hide (HB0.out.trans (hb1.mono (by simp; omega)))
  clear hb1
  go_wp2
  go_ret
  exact ⟨rfl, HB.out⟩

set_option maxHeartbeats 2000000 in
theorem eqCompS_same (v v' : Value) (xs : List (List ByteArray)) (B B' : Nat) (w : World) (hn : wRep xs ≤ 1048576) (hr : RL B (RComp B) w v xs) (hr' : RL B' (RComp B') w v' xs) :
    Calls Tryz.prog 136 #[v, v'] w fun e w' => e = .returned (.bool true) ∧ Below w.heap.size w w' := by
  have hl : xs.length ≤ 1048576 := Nat.le_trans (wL_len _ xs) hn
  have HM : Hid (∀ i (h : i < xs.length), wComp xs[i] ≤ 1048576) := fun i h => by have := wL_mem wComp (List.getElem_mem h); have : wL wComp xs ≤ 1048576 := hn; omega
  clear hn
  obtain ⟨p, cap, rfl, h1, h2, h4⟩ := hr
  obtain ⟨p', cap', rfl, h1', h2', h4'⟩ := hr'
  have H4 := hide h4
  have H4' := hide h4'
  clear h4 h4'
  unfold maxLen at h2 h2'
  by_cases hx : xs.length = 0
  · have hxs : xs = [] := List.eq_nil_of_length_eq_zero hx
    subst hxs
    go_enter Tryz.func136, Tryz.ntmps136
    go_wp2
    refine wp_loop_rounds 1 ?_
    rw [rounds_succ]
    go_wp2
    go_ret
    exact ⟨rfl, Below.refl _ _⟩
  obtain ⟨g, off, hp, hg, _, hc⟩ := H4.out (by omega)
  obtain ⟨g', off', hp', hg', _, hc'⟩ := H4'.out (by omega)
  subst hp hp'
  have HC := hide hc
  have HC' := hide hc'
  clear hc hc'
  go_enter Tryz.func136, Tryz.ntmps136
  go_wp2
  go_loopw [5] (fun i wr => ∃ (X : World) (k : Nat), X = wr ∧ k ≤ xs.length ∧ i = .int .i64 k ∧ Hid (Below w.heap.size w X)) (fun i _ => xs.length - (intOf i).toNat)
  case atStart => exact ⟨_, 0, rfl, Nat.zero_le _, rfl, Below.refl _ _⟩
  case round =>
    obtain ⟨X, k, rfl, hk, rfl, HBel⟩ := hrel
    by_cases hlt : k < xs.length
    · obtain ⟨u, hu, hru⟩ := HC.out k hlt
      obtain ⟨u', hu', hru'⟩ := HC'.out k hlt
      have HU := hide hru
      have HU' := hide hru'
      obtain ⟨up, uc, rfl⟩ := hru.isSlice
      obtain ⟨up', uc', rfl⟩ := hru'.isSlice
      have hki : (k : Int) < (xs.length : Int) := by omega
      have HS := hide (show ∀ x, Below X.heap.size X x → x.cell? ⟨g, off + k, none⟩ = some (.slice up (xs[k]'hlt).length uc) ∧ x.cell? ⟨g', off' + k, none⟩ = some (.slice up' (xs[k]'hlt).length uc') ∧ Below X.heap.size X x from
        fun x h => by
          have hb := HBel.out.trans (h.mono HBel.out.size)
          exact ⟨by rw [hb.cell (p := ⟨g, off + k, none⟩) hg]; exact hu, by rw [hb.cell (p := ⟨g', off' + k, none⟩) hg']; exact hu', h⟩)
      clear hu hu' hru hru'
      go_wp2_with fail
      go_region_held3 (fun x => x.cell? ⟨g, off + k, none⟩ = some (.slice up (xs[k]'hlt).length uc) ∧ x.cell? ⟨g', off' + k, none⟩ = some (.slice up' (xs[k]'hlt).length uc') ∧ Below X.heap.size X x)
        ((go_split_ands; refine HS.out _ ?_; repeat (first | with_reducible assumption | with_reducible exact Below.refl _ _ | with_reducible refine Below.drew ?_)))
        ((go_at_call 139; go_split_ands; refine (eqComp_same _ _ (xs[k]'hlt) B B' _ (HM.out k hlt) (Lasts.go (B := B) (Same.of (HBel.out.trans (Below.mono (by assumption) HBel.out.size))) HU.out) (Lasts.go (B := B') (Same.of (HBel.out.trans (Below.mono (by assumption) HBel.out.size))) HU'.out)).mono ?_; rintro e w3 ⟨rfl, hb3⟩; have hB3 : Below X.heap.size X w3 := Below.trans (by assumption) (hb3.mono (Below.size (by assumption))); clear hb3))
      all_goals
        have HB3 := hide (HBel.out.trans (hB3.mono HBel.out.size))
        clear hB3
        go_wp2
        go_roundw
        case rel => exact ⟨_, k + 1, rfl, by omega, by go_num, HB3⟩
        case measure => simp [intOf]; omega
    · go_wp2
      go_ret
      exact ⟨rfl, HBel.out⟩

set_option maxHeartbeats 1000000 in
theorem eqRep_same (u u' : Value) (x : List (List ByteArray)) (B B' : Nat) (w : World) (hn : wRep x ≤ 1048576) (hr : RRep B w u x) (hr' : RRep B' w u' x) :
    Calls Tryz.prog 133 #[.agg #[u], .agg #[u']] w fun e w' => e = .returned (.bool true) ∧ Below w.heap.size w w' := by
  have HR := hide hr
  have HR' := hide hr'
  obtain ⟨p, c, rfl⟩ := hr.isSlice
  obtain ⟨p', c', rfl⟩ := hr'.isSlice
  clear hr hr'
  have HB0 := hide (((Below.refl w.heap.size w).alloc (Nat.le_refl _) (.cells #[.slice p x.length c] 102)).alloc (by simp) (.cells #[.slice p' x.length c'] 102))
  go_enter Tryz.func133, Tryz.ntmps133
  go_wp2_with fail
  refine (eqCompS_same _ _ x B B' _ hn (HR.out.below HB0.out) (HR'.out.below HB0.out)).mono ?_
  rintro e w1 ⟨rfl, hb1⟩
  have HB := hide (HB0.out.trans (hb1.mono (by simp; omega)))
  clear hb1
  go_wp2
  go_ret
  exact ⟨rfl, HB.out⟩

set_option maxHeartbeats 2000000 in
theorem eqRepS_same (v v' : Value) (xs : List (List (List ByteArray))) (B B' : Nat) (w : World) (hn : wFld xs ≤ 1048576) (hr : RL B (RRep B) w v xs) (hr' : RL B' (RRep B') w v' xs) :
    Calls Tryz.prog 130 #[v, v'] w fun e w' => e = .returned (.bool true) ∧ Below w.heap.size w w' := by
  have hl : xs.length ≤ 1048576 := Nat.le_trans (wL_len _ xs) hn
  have HM : Hid (∀ i (h : i < xs.length), wRep xs[i] ≤ 1048576) := fun i h => by have := wL_mem wRep (List.getElem_mem h); have : wL wRep xs ≤ 1048576 := hn; omega
  clear hn
  obtain ⟨p, cap, rfl, h1, h2, h4⟩ := hr
  obtain ⟨p', cap', rfl, h1', h2', h4'⟩ := hr'
  have H4 := hide h4
  have H4' := hide h4'
  clear h4 h4'
  unfold maxLen at h2 h2'
  by_cases hx : xs.length = 0
  · have hxs : xs = [] := List.eq_nil_of_length_eq_zero hx
    subst hxs
    go_enter Tryz.func130, Tryz.ntmps130
    go_wp2
    refine wp_loop_rounds 1 ?_
    rw [rounds_succ]
    go_wp2
    go_ret
    exact ⟨rfl, Below.refl _ _⟩
  obtain ⟨g, off, hp, hg, _, hc⟩ := H4.out (by omega)
  obtain ⟨g', off', hp', hg', _, hc'⟩ := H4'.out (by omega)
  subst hp hp'
  have HC := hide hc
  have HC' := hide hc'
  clear hc hc'
  go_enter Tryz.func130, Tryz.ntmps130
  go_wp2
  go_loopw [5] (fun i wr => ∃ (X : World) (k : Nat), X = wr ∧ k ≤ xs.length ∧ i = .int .i64 k ∧ Hid (Below w.heap.size w X)) (fun i _ => xs.length - (intOf i).toNat)
  case atStart => exact ⟨_, 0, rfl, Nat.zero_le _, rfl, Below.refl _ _⟩
  case round =>
    obtain ⟨X, k, rfl, hk, rfl, HBel⟩ := hrel
    by_cases hlt : k < xs.length
    · obtain ⟨u, hu, hru⟩ := HC.out k hlt
      obtain ⟨u', hu', hru'⟩ := HC'.out k hlt
      have HU := hide hru
      have HU' := hide hru'
      obtain ⟨up, uc, rfl⟩ := hru.isSlice
      obtain ⟨up', uc', rfl⟩ := hru'.isSlice
      have hki : (k : Int) < (xs.length : Int) := by omega
      have HS := hide (show ∀ x, Below X.heap.size X x → x.cell? ⟨g, off + k, none⟩ = some (.slice up (xs[k]'hlt).length uc) ∧ x.cell? ⟨g', off' + k, none⟩ = some (.slice up' (xs[k]'hlt).length uc') ∧ Below X.heap.size X x from
        fun x h => by
          have hb := HBel.out.trans (h.mono HBel.out.size)
          exact ⟨by rw [hb.cell (p := ⟨g, off + k, none⟩) hg]; exact hu, by rw [hb.cell (p := ⟨g', off' + k, none⟩) hg']; exact hu', h⟩)
      clear hu hu' hru hru'
      go_wp2_with fail
      go_region_held3 (fun x => x.cell? ⟨g, off + k, none⟩ = some (.slice up (xs[k]'hlt).length uc) ∧ x.cell? ⟨g', off' + k, none⟩ = some (.slice up' (xs[k]'hlt).length uc') ∧ Below X.heap.size X x)
        ((go_split_ands; refine HS.out _ ?_; repeat (first | with_reducible assumption | with_reducible exact Below.refl _ _ | with_reducible refine Below.drew ?_)))
        ((go_at_call 133; go_split_ands; refine (eqRep_same _ _ (xs[k]'hlt) B B' _ (HM.out k hlt) (Lasts.go (B := B) (Same.of (HBel.out.trans (Below.mono (by assumption) HBel.out.size))) HU.out) (Lasts.go (B := B') (Same.of (HBel.out.trans (Below.mono (by assumption) HBel.out.size))) HU'.out)).mono ?_; rintro e w3 ⟨rfl, hb3⟩; have hB3 : Below X.heap.size X w3 := Below.trans (by assumption) (hb3.mono (Below.size (by assumption))); clear hb3))
      all_goals
        have HB3 := hide (HBel.out.trans (hB3.mono HBel.out.size))
        clear hB3
        go_wp2
        go_roundw
        case rel => exact ⟨_, k + 1, rfl, by omega, by go_num, HB3⟩
        case measure => simp [intOf]; omega
    · go_wp2
      go_ret
      exact ⟨rfl, HBel.out⟩

set_option maxHeartbeats 1000000 in
theorem eqField_same (u u' : Value) (x : List (List (List ByteArray))) (B B' : Nat) (w : World) (hn : wFld x ≤ 1048576) (hr : RFld B w u x) (hr' : RFld B' w u' x) :
    Calls Tryz.prog 124 #[.agg #[u], .agg #[u']] w fun e w' => e = .returned (.bool true) ∧ Below w.heap.size w w' := by
  have HR := hide hr
  have HR' := hide hr'
  obtain ⟨p, c, rfl⟩ := hr.isSlice
  obtain ⟨p', c', rfl⟩ := hr'.isSlice
  clear hr hr'
  have HB0 := hide (((Below.refl w.heap.size w).alloc (Nat.le_refl _) (.cells #[.slice p x.length c] 76)).alloc (by simp) (.cells #[.slice p' x.length c'] 76))
  go_enter Tryz.func124, Tryz.ntmps124
  go_wp2_with fail
  refine (eqRepS_same _ _ x B B' _ hn (HR.out.below HB0.out) (HR'.out.below HB0.out)).mono ?_
  rintro e w1 ⟨rfl, hb1⟩
  have HB := hide (HB0.out.trans (hb1.mono (by simp; omega)))
  clear hb1
  go_wp2
  go_ret
  exact ⟨rfl, HB.out⟩
end Go.Proofs.YtolgjdnhhbbebaaGreatDoor
/- The laws' own helpers over lists of Fields. -/
namespace Go.Proofs.YtolgjdnhhbbebaaGreatDoor
open Go.RowKit
def wFlds : List (List (List (List ByteArray))) → Nat := wL wFld

set_option maxHeartbeats 2000000 in
theorem szFieldS_any (v : Value) (xs : List (List (List (List ByteArray)))) (left : Int) (w : World) (hl0 : 0 ≤ left) (hl : left ≤ 1048576) (hr : RL 0 (RFld 0) w v xs) :
    Calls Tryz.prog 107 #[v, .int .i64 left] w fun e w' => e = .returned (.int .i64 (szOf (wFlds xs) left)) ∧ Below w.heap.size w w' := by
  obtain ⟨p, cap, rfl, h1, h2, h4⟩ := hr
  unfold maxLen at h2
  have hW : wFlds xs = xs.length + (xs.map wFld).sum := rfl
  obtain ⟨R, hR⟩ : ∃ R, R = szOf (wFlds xs) left := ⟨_, rfl⟩
  rw [← hR]
  by_cases h0 : left - xs.length < 0
  · have HF : Hid (R = -1) := by rw [hR]; exact szOf_no (by rw [hW]; omega)
    have hx : 0 < xs.length := by omega
    clear h4 hR hW
    go_enter Tryz.func107, Tryz.ntmps107
    go_wp2
    go_ret
    exact ⟨ret_int HF.out.symm, Below.refl _ _⟩
  · have HF : Hid (R = szOf ((xs.drop 0).map wFld).sum (left - xs.length)) := by
      rw [hR, List.drop_zero, hW]
      by_cases hc : ((xs.length + (xs.map wFld).sum : Nat) : Int) ≤ left
      · rw [szOf_yes hc, szOf_yes (by omega)]
        show _ = _
        omega
      · rw [szOf_no hc, szOf_no (by omega)]
        exact rfl
    clear hR hW
    by_cases hn : xs.length = 0
    · have hxs : xs = [] := List.eq_nil_of_length_eq_zero hn
      subst hxs
      clear h4
      go_enter Tryz.func107, Tryz.ntmps107
      go_wp2
      refine wp_loop_rounds 1 ?_
      rw [rounds_succ]
      go_wp2
      go_ret
      exact ⟨ret_int (by rw [HF.out]; simp [szOf, hl0]), Below.refl _ _⟩
    · obtain ⟨g, off, rfl, hg, _, hc⟩ := h4 (by omega)
      have HC := hide hc
      clear hc h4
      go_enter Tryz.func107, Tryz.ntmps107
      go_wp2
      go_loopw [1, 5] (fun l i wr => ∃ (X : World) (k : Nat) (L : Int), X = wr ∧ k ≤ xs.length ∧ i = .int .i64 k ∧ l = .int .i64 L ∧ 0 ≤ L ∧ L ≤ 1048576 ∧ Hid (R = szOf ((xs.drop k).map wFld).sum L) ∧ Hid (Below w.heap.size w X)) (fun _ i _ => xs.length - (intOf i).toNat)
      case atStart => exact ⟨_, 0, _, rfl, Nat.zero_le _, rfl, rfl, by omega, by omega, HF.out, Below.refl _ _⟩
      case round =>
        obtain ⟨X, k, L, rfl, hk, rfl, rfl, hL0, hL1, HS, HB⟩ := hrel
        by_cases hlt : k < xs.length
        · obtain ⟨u, hu, hru⟩ := HC.out k hlt
          have hck : X.cell? ⟨g, off + k, none⟩ = some u := by rw [HB.out.cell (p := ⟨g, off + k, none⟩) hg]; exact hu
          have HRU := hide (hru.below HB.out)
          obtain ⟨up, uc, rfl⟩ := hru.isSlice
          have HT := hide (szOf_step wFld xs k hlt L)
          clear hu hru
          go_wp2_with fail
          refine (szField_any _ (xs[k]'hlt) L _ hL0 hL1 HRU.out).mono ?_
          rintro e w1 ⟨rfl, hb1⟩
          have HB1 := hide (HB.out.trans (hb1.mono HB.out.size))
          clear hb1
          by_cases hneg : ((wFld (xs[k]'hlt) : Nat) : Int) ≤ L
          · rw [szOf_yes hneg]
            have HU : Hid (R = szOf ((xs.drop (k + 1)).map wFld).sum (L - ((wFld (xs[k]'hlt) : Nat) : Int))) := by rw [HS.out, HT.out]; exact if_pos hneg
            go_wp2
            go_roundw
            case rel => exact ⟨_, k + 1, _, rfl, by omega, by go_num, rfl, by omega, by omega, HU, HB1⟩
            case measure => simp [intOf]; omega
          · rw [szOf_no hneg]
            have HU : Hid (R = -1) := by rw [HS.out, HT.out]; exact if_neg hneg
            go_wp2
            go_ret
            exact ⟨ret_int HU.out.symm, HB1.out⟩
        · have HU : Hid (R = L) := by rw [HS.out, List.drop_eq_nil_of_le (by omega)]; exact szOf_zero hL0
          go_wp2
          go_ret
          exact ⟨ret_int HU.out.symm, HB.out⟩

theorem Tryz.infoField : (Tryz.prog.info? 76).map (fun i => (i.zero, i.size, i.bytes)) = some (some (.agg #[.slice none 0 0]), 1, 24) := by kernel_rfl
set_option maxHeartbeats 2000000 in
theorem toFieldS_any (v : Value) (xs : List (List (List (List ByteArray)))) (w : World) (hn : wFlds xs ≤ 1048576) (hr : RL 0 (RFld 0) w v xs) :
    Calls Tryz.prog 109 #[v] w fun e w' => ∃ p c, e = .returned (.slice p xs.length c) ∧ RL w.heap.size (RFld w.heap.size) w' (.slice p xs.length c) xs ∧ Below w.heap.size w w' := by
  obtain ⟨i0, hi, hz0, hz1, hz2⟩ := info_parts Tryz.infoField
  have hl : xs.length ≤ 1048576 := Nat.le_trans (wL_len _ xs) hn
  have HM : Hid (∀ i (h : i < xs.length), wFld xs[i] ≤ 1048576) := fun i h => by have := wL_mem wFld (List.getElem_mem h); have : wL wFld xs ≤ 1048576 := hn; omega
  clear hn
  obtain ⟨p, cap, rfl, h1, h2, h4⟩ := hr
  have H4 := hide h4
  clear h4
  have hzc : (Value.agg #[.slice none 0 0]).cells.size = 1 := by simp [Value.cells]
  go_enter Tryz.func109, Tryz.ntmps109
  go_wp2_with (at_make; refine wpList_make_full _ rfl _ _ 60 rfl w.heap.size 76 i0 (.agg #[.slice none 0 0]) 1 Tryz.underlying60 hi hz0 hz1 _ _ _ _ xs.length rfl rfl rfl rfl ?b2 ?b3 (Nat.le_refl _) ?_)
  case b2 => rw [hz2]; omega
  case b3 => unfold maxLen; omega
  intro w1 hown hgrow
  obtain ⟨Z, hZ, hZl⟩ := own_row hown
  rw [Nat.mul_one] at hZl
  have hb1 : Below w.heap.size w w1 := (Below.refl _ _).grown hgrow (Nat.le_refl _) (by simp)
  have HZ := hide hZ
  have HB := hide hb1
  have HL := hide hZl
  clear hZ hown hgrow hb1 hZl
  go_wp2_with fail
  go_loopw [4] (fun i wr => ∃ (X : World) (k : Nat) (vs : List Value), X = wr ∧ k ≤ xs.length ∧ i = .int .i64 k ∧ Hid (Row X w.heap.size 76 (vs ++ Z.drop k)) ∧ Hid (Below w.heap.size w X) ∧ Hid (vs.length = k) ∧ Hid (∀ j (h1 : j < vs.length) (h2 : j < xs.length), RFld (w.heap.size + 1) X vs[j] xs[j])) (fun i _ => xs.length - (intOf i).toNat)
  case atStart => exact ⟨_, 0, [], rfl, Nat.zero_le _, rfl, hide (by simpa using HZ.out), HB, hide rfl, hide (fun j h1 _ => absurd h1 (by simp))⟩
  case round =>
    obtain ⟨X, k, vs, rfl, hk, rfl, HRow, HBel, HLn, HEl⟩ := hrel
    by_cases hlt : k < xs.length
    · obtain ⟨g, off, hp, hg, _, hc⟩ := H4.out (by omega)
      subst hp
      obtain ⟨u, hu, hru⟩ := hc k hlt
      have hck : X.cell? ⟨g, off + k, none⟩ = some u := by rw [HBel.out.cell (p := ⟨g, off + k, none⟩) hg]; exact hu
      have HRU := hide (hru.below HBel.out)
      obtain ⟨up, uc, rfl⟩ := hru.isSlice
      have hlt0 := HRow.out.lt
      clear hu hru hc
      go_wp2_with fail
      refine (toField_any _ (xs[k]'hlt) _ (HM.out k hlt) HRU.out).mono ?_
      rintro e w2 ⟨p2, c2, rfl, hr2, hb2⟩
      have row2 := HRow.out.below hb2 hlt0
      have hll : (vs ++ Z.drop k).length = xs.length := by rw [List.length_append, HLn.out, List.length_drop, HL.out]; omega
      obtain ⟨z, hz⟩ := row2.some k (by rw [hll]; exact hlt)
      have hf := row2.free k
      have hnext := row2.set (j := k) (.slice p2 (xs[k]'hlt).length c2)
      rw [set_snoc vs Z k xs.length _ HLn.out hlt HL.out] at hnext
      have HN := hide hnext
      have HMB := hide ((HBel.out.trans (hb2.mono HBel.out.size)).setCell (p := ⟨w.heap.size, k, none⟩) (Nat.le_refl _) (.slice p2 (xs[k]'hlt).length c2))
      have HLn2 : Hid ((vs ++ [Value.slice p2 (xs[k]'hlt).length c2]).length = k + 1) := by rw [List.length_append, HLn.out]; exact rfl
      have HEl2 : Hid (∀ j (h1 : j < (vs ++ [Value.slice p2 (xs[k]'hlt).length c2]).length) (h2 : j < xs.length), RFld (w.heap.size + 1) (w2.setCell ⟨w.heap.size, k, none⟩ (.slice p2 (xs[k]'hlt).length c2)) (vs ++ [Value.slice p2 (xs[k]'hlt).length c2])[j] xs[j]) := by
        intro j h1 h2
        refine Lasts.go (B := w.heap.size + 1) (Same.set _ _ (by omega)) ?_
        rw [HLn2.out] at h1
        by_cases hj : j < k
        · rw [List.getElem_append_left (by rw [HLn.out]; exact hj)]
          exact Lasts.go (B := w.heap.size + 1) (Same.of hb2) (HEl.out j (by rw [HLn.out]; exact hj) h2)
        · have e : j = k := by omega
          subst e
          rw [List.getElem_append_right (by rw [HLn.out]; exact Nat.le_refl _)]
          simp only [HLn.out, Nat.sub_self, List.getElem_cons_zero]
          exact RFld.mono hr2 (by omega)
      clear hnext row2 hr2 hb2 hlt0 hll
      go_wp2
      go_roundw
      case rel => exact ⟨_, k + 1, _, rfl, by omega, by go_num, HN, HMB, HLn2, HEl2⟩
      case measure => simp [intOf]; omega
    · have HE : Hid (Row X w.heap.size 76 vs) := by
        have := HRow.out
        rw [List.drop_eq_nil_of_le (by rw [HL.out]; omega), List.append_nil] at this
        exact this
      have HLn3 : Hid (vs.length = xs.length) := by rw [HLn.out]; exact (show k = xs.length by omega)
      go_wp2
      go_ret
      refine ⟨_, _, rfl, rl_row HE.out HLn3.out (by unfold maxLen; omega) (Nat.le_refl _) (fun i hi => RFld.mono (HEl.out i (by rw [HLn3.out]; exact hi) hi) (by omega)), HBel.out⟩

set_option maxHeartbeats 2000000 in
theorem eqFieldS_same (v v' : Value) (xs : List (List (List (List ByteArray)))) (B B' : Nat) (w : World) (hn : wFlds xs ≤ 1048576) (hr : RL B (RFld B) w v xs) (hr' : RL B' (RFld B') w v' xs) :
    Calls Tryz.prog 118 #[v, v'] w fun e w' => e = .returned (.bool true) ∧ Below w.heap.size w w' := by
  have hl : xs.length ≤ 1048576 := Nat.le_trans (wL_len _ xs) hn
  have HM : Hid (∀ i (h : i < xs.length), wFld xs[i] ≤ 1048576) := fun i h => by have := wL_mem wFld (List.getElem_mem h); have : wL wFld xs ≤ 1048576 := hn; omega
  clear hn
  obtain ⟨p, cap, rfl, h1, h2, h4⟩ := hr
  obtain ⟨p', cap', rfl, h1', h2', h4'⟩ := hr'
  have H4 := hide h4
  have H4' := hide h4'
  clear h4 h4'
  unfold maxLen at h2 h2'
  by_cases hx : xs.length = 0
  · have hxs : xs = [] := List.eq_nil_of_length_eq_zero hx
    subst hxs
    go_enter Tryz.func118, Tryz.ntmps118
    go_wp2
    refine wp_loop_rounds 1 ?_
    rw [rounds_succ]
    go_wp2
    go_ret
    exact ⟨rfl, Below.refl _ _⟩
  obtain ⟨g, off, hp, hg, _, hc⟩ := H4.out (by omega)
  obtain ⟨g', off', hp', hg', _, hc'⟩ := H4'.out (by omega)
  subst hp hp'
  have HC := hide hc
  have HC' := hide hc'
  clear hc hc'
  go_enter Tryz.func118, Tryz.ntmps118
  go_wp2
  go_loopw [5] (fun i wr => ∃ (X : World) (k : Nat), X = wr ∧ k ≤ xs.length ∧ i = .int .i64 k ∧ Hid (Below w.heap.size w X)) (fun i _ => xs.length - (intOf i).toNat)
  case atStart => exact ⟨_, 0, rfl, Nat.zero_le _, rfl, Below.refl _ _⟩
  case round =>
    obtain ⟨X, k, rfl, hk, rfl, HBel⟩ := hrel
    by_cases hlt : k < xs.length
    · obtain ⟨u, hu, hru⟩ := HC.out k hlt
      obtain ⟨u', hu', hru'⟩ := HC'.out k hlt
      have HU := hide hru
      have HU' := hide hru'
      obtain ⟨up, uc, rfl⟩ := hru.isSlice
      obtain ⟨up', uc', rfl⟩ := hru'.isSlice
      have hki : (k : Int) < (xs.length : Int) := by omega
      have HS := hide (show ∀ x, Below X.heap.size X x → x.cell? ⟨g, off + k, none⟩ = some (.slice up (xs[k]'hlt).length uc) ∧ x.cell? ⟨g', off' + k, none⟩ = some (.slice up' (xs[k]'hlt).length uc') ∧ Below X.heap.size X x from
        fun x h => by
          have hb := HBel.out.trans (h.mono HBel.out.size)
          exact ⟨by rw [hb.cell (p := ⟨g, off + k, none⟩) hg]; exact hu, by rw [hb.cell (p := ⟨g', off' + k, none⟩) hg']; exact hu', h⟩)
      clear hu hu' hru hru'
      go_wp2_with fail
      go_region_held3 (fun x => x.cell? ⟨g, off + k, none⟩ = some (.slice up (xs[k]'hlt).length uc) ∧ x.cell? ⟨g', off' + k, none⟩ = some (.slice up' (xs[k]'hlt).length uc') ∧ Below X.heap.size X x)
        ((go_split_ands; refine HS.out _ ?_; repeat (first | with_reducible assumption | with_reducible exact Below.refl _ _ | with_reducible refine Below.drew ?_)))
        ((go_at_call 124; go_split_ands; refine (eqField_same _ _ (xs[k]'hlt) B B' _ (HM.out k hlt) (Lasts.go (B := B) (Same.of (HBel.out.trans (Below.mono (by assumption) HBel.out.size))) HU.out) (Lasts.go (B := B') (Same.of (HBel.out.trans (Below.mono (by assumption) HBel.out.size))) HU'.out)).mono ?_; rintro e w3 ⟨rfl, hb3⟩; have hB3 : Below X.heap.size X w3 := Below.trans (by assumption) (hb3.mono (Below.size (by assumption))); clear hb3))
      all_goals
        have HB3 := hide (HBel.out.trans (hB3.mono HBel.out.size))
        clear hB3
        go_wp2
        go_roundw
        case rel => exact ⟨_, k + 1, rfl, by omega, by go_num, HB3⟩
        case measure => simp [intOf]; omega
    · go_wp2
      go_ret
      exact ⟨rfl, HBel.out⟩
end Go.Proofs.YtolgjdnhhbbebaaGreatDoor
/- The laws' own helpers over a Segment: how much it takes, a copy, are two alike. -/
namespace Go.Proofs.YtolgjdnhhbbebaaGreatDoor
open Go.RowKit
abbrev RFlds (B : Nat) : World → Value → List (List (List (List ByteArray))) → Prop := RL B (RFld B)
theorem RFlds.mono {B B' : Nat} {w : World} {v : Value} {x : List (List (List (List ByteArray)))} (h : RFlds B w v x) (hB : B' ≤ B) : RFlds B' w v x := RL.mono h hB fun _ _ h => RFld.mono h hB

set_option maxHeartbeats 2000000 in
theorem szSegment_any (n : ByteArray) (u : Value) (x : List (List (List (List ByteArray)))) (left : Int) (w : World) (hn : n.size ≤ maxLen) (hl0 : 0 ≤ left) (hl : left ≤ 1048576) (hr : RFlds 0 w u x) :
    Calls Tryz.prog 94 #[.agg #[.string n, u], .int .i64 left] w fun e w' => e = .returned (.int .i64 (szOf (n.size + wFlds x) left)) ∧ Below w.heap.size w w' := by
  unfold maxLen at hn
  have HB0 : Hid (∀ p c, Below w.heap.size w (w.alloc (.cells #[.string n, .slice p x.length c] 145))) := fun p c => (Below.refl _ _).alloc (Nat.le_refl _) _
  have HR := hide hr
  obtain ⟨p, c, rfl⟩ := hr.isSlice
  clear hr
  by_cases h0 : left - (n.size : Int) < 0
  · have HS := hide (show szOf (n.size + wFlds x) left = -1 from szOf_no (by omega))
    go_enter Tryz.func94, Tryz.ntmps94
    go_wp2
    go_ret
    exact ⟨ret_int HS.out.symm, HB0.out _ _⟩
  · go_enter Tryz.func94, Tryz.ntmps94
    go_wp2_with fail
    refine (szFieldS_any _ x (left - (n.size : Int)) _ (by omega) (by omega) (HR.out.below (HB0.out _ _))).mono ?_
    rintro e w1 ⟨rfl, hb1⟩
    have HB := hide ((HB0.out p c).trans (hb1.mono (by simp)))
    clear hb1
    by_cases h : ((wFlds x : Nat) : Int) ≤ left - (n.size : Int)
    · have HS := hide (show szOf (n.size + wFlds x) left = left - (n.size : Int) - ((wFlds x : Nat) : Int) by rw [szOf_yes (by omega)]; omega)
      rw [szOf_yes h]
      go_wp2
      go_ret
      exact ⟨ret_int HS.out.symm, HB.out⟩
    · have HS := hide (show szOf (n.size + wFlds x) left = -1 from szOf_no (by omega))
      rw [szOf_no h]
      go_wp2
      go_ret
      exact ⟨ret_int HS.out.symm, HB.out⟩

set_option maxHeartbeats 2000000 in
theorem toSegment_any (n : ByteArray) (u : Value) (x : List (List (List (List ByteArray)))) (w : World) (hn : wFlds x ≤ 1048576) (hr : RFlds 0 w u x) :
    Calls Tryz.prog 96 #[.agg #[.string n, u]] w fun e w' => ∃ p c, e = .returned (.agg #[.string n, .slice p x.length c]) ∧ RFlds w.heap.size w' (.slice p x.length c) x ∧ Below w.heap.size w w' := by
  obtain ⟨p, c, rfl⟩ := hr.isSlice
  obtain ⟨W, hW⟩ : ∃ W, W = (((w.alloc (.cells #[.string n, .slice p x.length c] 145)).alloc (.cells #[.string ⟨#[]⟩, .slice none 0 0] 62)).alloc (.cells #[.string n, .slice none 0 0] 62)) := ⟨_, rfl⟩
  have hb0 : Below w.heap.size w W := by rw [hW]; exact (((Below.refl _ _).alloc (Nat.le_refl _) _).alloc (by simp) _).alloc (by simp; omega) _
  have HR := hide (hr.below hb0)
  have HB0 := hide hb0
  have R1 : Row W (w.heap.size + 1) 62 [.string ⟨#[]⟩, .slice none 0 0] := by
    rw [hW]
    have := (row_new (w.alloc (.cells #[.string n, .slice p x.length c] 145)) [.string ⟨#[]⟩, .slice none 0 0] 62).alloc (.cells #[.string n, .slice none 0 0] 62)
    simpa using this
  have R2 : Row W (w.heap.size + 2) 62 [.string n, .slice none 0 0] := by
    rw [hW]
    have := row_new ((w.alloc (.cells #[.string n, .slice p x.length c] 145)).alloc (.cells #[.string ⟨#[]⟩, .slice none 0 0] 62)) [.string n, .slice none 0 0] 62
    simpa using this
  have hsz : W.heap.size = w.heap.size + 3 := by rw [hW]; simp
  clear hr hb0
  go_enter Tryz.func96, Tryz.ntmps96
  go_wp2_with fail
  rw [← hW]
  refine (toFieldS_any _ x _ hn HR.out).mono ?_
  rintro e w1 ⟨p1, c1, rfl, hr1, hb1⟩
  clear hW
  have r1 := R1.below hb1 (by omega)
  have r2 := R2.below hb1 (by omega)
  have f2 : w1.cell? ⟨w.heap.size + 2, 1, none⟩ = some (.slice none 0 0) := r2.cell 1
  have z2 := r2.free 1
  have s2 := r2.set (j := 1) (.slice p1 x.length c1)
  have s1 := r1.other (b := w.heap.size + 2) (j := 1) (by omega) (.slice p1 x.length c1)
  have g2 : (w1.setCell ⟨w.heap.size + 2, 1, none⟩ (.slice p1 x.length c1)).cell? ⟨w.heap.size + 2, 1, none⟩ = some (.slice p1 x.length c1) := s2.cell 1
  have g20 : (w1.setCell ⟨w.heap.size + 2, 1, none⟩ (.slice p1 x.length c1)).cell? ⟨w.heap.size + 2, 0, none⟩ = some (.string n) := s2.cell 0
  have g1 : (w1.setCell ⟨w.heap.size + 2, 1, none⟩ (.slice p1 x.length c1)).cell? ⟨w.heap.size + 1, 0, none⟩ = some (.string ⟨#[]⟩) := s1.cell 0
  have g11 : (w1.setCell ⟨w.heap.size + 2, 1, none⟩ (.slice p1 x.length c1)).cell? ⟨w.heap.size + 1, 1, none⟩ = some (.slice none 0 0) := s1.cell 1
  have z1 := s1.free 0
  have z11 := s1.free 1
  have t1 := (s1.set (j := 0) (.string n)).set (j := 1) (.slice p1 x.length c1)
  have q0 : (((w1.setCell ⟨w.heap.size + 2, 1, none⟩ (.slice p1 x.length c1)).setCell ⟨w.heap.size + 1, 0, none⟩ (.string n)).setCell ⟨w.heap.size + 1, 1, none⟩ (.slice p1 x.length c1)).cell? ⟨w.heap.size + 1, 0, none⟩ = some (.string n) := t1.cell 0
  have q1 : (((w1.setCell ⟨w.heap.size + 2, 1, none⟩ (.slice p1 x.length c1)).setCell ⟨w.heap.size + 1, 0, none⟩ (.string n)).setCell ⟨w.heap.size + 1, 1, none⟩ (.slice p1 x.length c1)).cell? ⟨w.heap.size + 1, 1, none⟩ = some (.slice p1 x.length c1) := t1.cell 1
  rw [hsz] at hr1
  have HRE := hide (RFlds.mono (Lasts.go (B := w.heap.size + 3) (Same.set _ _ (by omega)) (Lasts.go (B := w.heap.size + 3) (Same.set _ _ (by omega)) (Lasts.go (B := w.heap.size + 3) (Same.set w1 (g := w.heap.size + 2) (j := 1) (.slice p1 x.length c1) (by omega)) hr1))) (by omega : w.heap.size ≤ w.heap.size + 3) : RFlds w.heap.size (((w1.setCell ⟨w.heap.size + 2, 1, none⟩ (.slice p1 x.length c1)).setCell ⟨w.heap.size + 1, 0, none⟩ (.string n)).setCell ⟨w.heap.size + 1, 1, none⟩ (.slice p1 x.length c1)) (.slice p1 x.length c1) x)
  have HBE := hide ((((HB0.out.trans (hb1.mono (by omega))).setCell (p := ⟨w.heap.size + 2, 1, none⟩) (by show w.heap.size ≤ w.heap.size + 2; omega) (.slice p1 x.length c1)).setCell (p := ⟨w.heap.size + 1, 0, none⟩) (by show w.heap.size ≤ w.heap.size + 1; omega) (.string n)).setCell (p := ⟨w.heap.size + 1, 1, none⟩) (by show w.heap.size ≤ w.heap.size + 1; omega) (.slice p1 x.length c1))
  clear hr1 hb1 r1 r2 s1 s2 t1
  go_wp2
  exact bodyPost_ret (v := .agg #[.string n, .slice p1 x.length c1]) (by simp [results, Tryz.results96, go_sem, q0, q1]) rfl ⟨_, _, rfl, HRE.out, HBE.out⟩

set_option maxHeartbeats 1000000 in
theorem eqSegment_same (n : ByteArray) (u u' : Value) (x : List (List (List (List ByteArray)))) (B B' : Nat) (w : World) (hn : wFlds x ≤ 1048576) (hr : RFlds B w u x) (hr' : RFlds B' w u' x) :
    Calls Tryz.prog 106 #[.agg #[.string n, u], .agg #[.string n, u']] w fun e w' => e = .returned (.bool true) ∧ Below w.heap.size w w' := by
  have HR := hide hr
  have HR' := hide hr'
  obtain ⟨p, c, rfl⟩ := hr.isSlice
  obtain ⟨p', c', rfl⟩ := hr'.isSlice
  clear hr hr'
  have HB0 := hide (((Below.refl w.heap.size w).alloc (Nat.le_refl _) (.cells #[.string n, .slice p x.length c] 62)).alloc (by simp) (.cells #[.string n, .slice p' x.length c'] 62))
  go_enter Tryz.func106, Tryz.ntmps106
  go_wp2_with fail
  refine (eqFieldS_same _ _ x B B' _ hn (HR.out.below HB0.out) (HR'.out.below HB0.out)).mono ?_
  rintro e w1 ⟨rfl, hb1⟩
  have HB := hide (HB0.out.trans (hb1.mono (by simp; omega)))
  clear hb1
  go_wp2
  go_ret
  exact ⟨rfl, HB.out⟩
end Go.Proofs.YtolgjdnhhbbebaaGreatDoor
/- Lists of Segments in memory; the laws' own helpers over them and over a Message. -/
namespace Go.Proofs.YtolgjdnhhbbebaaGreatDoor
open Go.RowKit
abbrev Seg := ByteArray × List (List (List (List ByteArray)))
/-- The slice v reads as Segments; its cells lie in a block from B on. -/
def RSegs (B : Nat) (w : World) (v : Value) (xs : List Seg) : Prop :=
  ∃ p cap, v = .slice p xs.length cap ∧ xs.length ≤ cap ∧ cap ≤ maxLen ∧
    (0 < xs.length → ∃ g off, p = some ⟨g, off, none⟩ ∧ g < w.heap.size ∧ B ≤ g ∧ ∀ i (h : i < xs.length), w.cell? ⟨g, off + i * 2, none⟩ = some (.string xs[i].1) ∧ xs[i].1.size ≤ maxLen ∧ ∃ u, w.cell? ⟨g, off + i * 2 + 1, none⟩ = some u ∧ RFlds B w u xs[i].2)
theorem RSegs.same {B : Nat} {w w' : World} {v : Value} {xs : List Seg} (h : RSegs B w v xs) (hs : Same B w w') : RSegs B w' v xs := by
  obtain ⟨p, cap, rfl, h1, h2, h4⟩ := h
  refine ⟨p, cap, rfl, h1, h2, fun h0 => ?_⟩
  obtain ⟨g, off, rfl, hg, hB, hc⟩ := h4 h0
  refine ⟨g, off, rfl, Nat.lt_of_lt_of_le hg hs.size, hB, fun i hi => ?_⟩
  obtain ⟨a, b, u, hu, hR⟩ := hc i hi
  exact ⟨by rw [hs.cell hB hg]; exact a, b, u, by rw [hs.cell hB hg]; exact hu, Lasts.go hs hR⟩
theorem RSegs.below {B : Nat} {w w' : World} {v : Value} {xs : List Seg} (h : RSegs B w v xs) (hb : Below w.heap.size w w') : RSegs B w' v xs := h.same (Same.of hb)
theorem RSegs.mono {B B' : Nat} {w : World} {v : Value} {xs : List Seg} (h : RSegs B w v xs) (hB : B' ≤ B) : RSegs B' w v xs := by
  obtain ⟨p, cap, rfl, h1, h2, h4⟩ := h
  refine ⟨p, cap, rfl, h1, h2, fun h0 => ?_⟩
  obtain ⟨g, off, rfl, hg, hB2, hc⟩ := h4 h0
  refine ⟨g, off, rfl, hg, Nat.le_trans hB hB2, fun i hi => ?_⟩
  obtain ⟨a, b, u, hu, hR⟩ := hc i hi
  exact ⟨a, b, u, hu, RFlds.mono hR hB⟩
theorem RSegs.isSlice {B : Nat} {w : World} {v : Value} {xs : List Seg} (h : RSegs B w v xs) : ∃ p c, v = .slice p xs.length c := by
  obtain ⟨p, c, e, _⟩ := h
  exact ⟨p, c, e⟩
def wSeg (x : Seg) : Nat := x.1.size + wFlds x.2
def wSegs : List Seg → Nat := wL wSeg

set_option maxHeartbeats 2000000 in
theorem szSegmentS_any (v : Value) (xs : List Seg) (left : Int) (w : World) (hl0 : 0 ≤ left) (hl : left ≤ 1048576) (hr : RSegs 0 w v xs) :
    Calls Tryz.prog 71 #[v, .int .i64 left] w fun e w' => e = .returned (.int .i64 (szOf (wSegs xs) left)) ∧ Below w.heap.size w w' := by
  obtain ⟨p, cap, rfl, h1, h2, h4⟩ := hr
  unfold maxLen at h2
  have hW : wSegs xs = xs.length + (xs.map wSeg).sum := rfl
  obtain ⟨R, hR⟩ : ∃ R, R = szOf (wSegs xs) left := ⟨_, rfl⟩
  rw [← hR]
  by_cases h0 : left - xs.length < 0
  · have HF : Hid (R = -1) := by rw [hR]; exact szOf_no (by rw [hW]; omega)
    have hx : 0 < xs.length := by omega
    clear h4 hR hW
    go_enter Tryz.func71, Tryz.ntmps71
    go_wp2
    go_ret
    exact ⟨ret_int HF.out.symm, Below.refl _ _⟩
  · have HF : Hid (R = szOf ((xs.drop 0).map wSeg).sum (left - xs.length)) := by
      rw [hR, List.drop_zero, hW]
      by_cases hc : ((xs.length + (xs.map wSeg).sum : Nat) : Int) ≤ left
      · rw [szOf_yes hc, szOf_yes (by omega)]
        show _ = _
        omega
      · rw [szOf_no hc, szOf_no (by omega)]
        exact rfl
    clear hR hW
    by_cases hn : xs.length = 0
    · have hxs : xs = [] := List.eq_nil_of_length_eq_zero hn
      subst hxs
      clear h4
      go_enter Tryz.func71, Tryz.ntmps71
      go_wp2
      refine wp_loop_rounds 1 ?_
      rw [rounds_succ]
      go_wp2
      go_ret
      exact ⟨ret_int (by rw [HF.out]; simp [szOf, hl0]), Below.refl _ _⟩
    · obtain ⟨g, off, rfl, hg, _, hc⟩ := h4 (by omega)
      have HC := hide hc
      clear hc h4
      go_enter Tryz.func71, Tryz.ntmps71
      go_wp2
      go_loopw [1, 5] (fun l i wr => ∃ (X : World) (k : Nat) (L : Int), X = wr ∧ k ≤ xs.length ∧ i = .int .i64 k ∧ l = .int .i64 L ∧ 0 ≤ L ∧ L ≤ 1048576 ∧ Hid (R = szOf ((xs.drop k).map wSeg).sum L) ∧ Hid (Below w.heap.size w X)) (fun _ i _ => xs.length - (intOf i).toNat)
      case atStart => exact ⟨_, 0, _, rfl, Nat.zero_le _, rfl, rfl, by omega, by omega, HF.out, Below.refl _ _⟩
      case round =>
        obtain ⟨X, k, L, rfl, hk, rfl, rfl, hL0, hL1, HS, HB⟩ := hrel
        by_cases hlt : k < xs.length
        · obtain ⟨ha, hns, u, hu, hru⟩ := HC.out k hlt
          have hk0 := (HB.out.cell (p := ⟨g, off + k * 2, none⟩) hg).trans ha
          have hk1 := (HB.out.cell (p := ⟨g, off + k * 2 + 1, none⟩) hg).trans hu
          have HRU := hide (hru.below HB.out)
          obtain ⟨up, uc, rfl⟩ := hru.isSlice
          have HT := hide (szOf_step wSeg xs k hlt L)
          have HNS := hide hns
          clear hu hru ha hns
          go_wp2_with fail
          refine (szSegment_any (xs[k]'hlt).1 _ (xs[k]'hlt).2 L _ HNS.out hL0 hL1 HRU.out).mono ?_
          rintro e w1 ⟨rfl, hb1⟩
          have HB1 := hide (HB.out.trans (hb1.mono HB.out.size))
          clear hb1
          rw [show (xs[k]'hlt).1.size + wFlds (xs[k]'hlt).2 = wSeg (xs[k]'hlt) from rfl]
          by_cases hneg : ((wSeg (xs[k]'hlt) : Nat) : Int) ≤ L
          · rw [szOf_yes hneg]
            have HU : Hid (R = szOf ((xs.drop (k + 1)).map wSeg).sum (L - ((wSeg (xs[k]'hlt) : Nat) : Int))) := by rw [HS.out, HT.out]; exact if_pos hneg
            clear hk0 hk1
            go_wp2
            go_roundw
            case rel => exact ⟨_, k + 1, _, rfl, by omega, by go_num, rfl, by omega, by omega, HU, HB1⟩
            case measure => simp [intOf]; omega
          · rw [szOf_no hneg]
            have HU : Hid (R = -1) := by rw [HS.out, HT.out]; exact if_neg hneg
            clear hk0 hk1
            go_wp2
            go_ret
            exact ⟨ret_int HU.out.symm, HB1.out⟩
        · have HU : Hid (R = L) := by rw [HS.out, List.drop_eq_nil_of_le (by omega)]; exact szOf_zero hL0
          go_wp2
          go_ret
          exact ⟨ret_int HU.out.symm, HB.out⟩

theorem wSegs_mem {xs : List Seg} {N : Nat} (h : wSegs xs ≤ N) : xs.length ≤ N ∧ ∀ i (hi : i < xs.length), wFlds xs[i].2 ≤ N ∧ xs[i].1.size ≤ N := by
  refine ⟨Nat.le_trans (wL_len _ xs) h, fun i hi => ?_⟩
  have h1 := wL_mem wSeg (List.getElem_mem hi)
  have h0 : wL wSeg xs ≤ N := h
  have h2 : wSeg xs[i] = xs[i].1.size + wFlds xs[i].2 := rfl
  omega

theorem Tryz.infoSegment : (Tryz.prog.info? 62).map (fun i => (i.zero, i.size, i.bytes)) = some (some (.agg #[.string ⟨#[]⟩, .slice none 0 0]), 2, 40) := by kernel_rfl
set_option maxHeartbeats 4000000 in
theorem toSegmentS_any (v : Value) (xs : List Seg) (w : World) (hn : wSegs xs ≤ 1048576) (hr : RSegs 0 w v xs) :
    Calls Tryz.prog 77 #[v] w fun e w' => ∃ p c, e = .returned (.slice p xs.length c) ∧ RSegs w.heap.size w' (.slice p xs.length c) xs ∧ Below w.heap.size w w' := by
  obtain ⟨i0, hi, hz0, hz1, hz2⟩ := info_parts Tryz.infoSegment
  obtain ⟨hl, hm⟩ := wSegs_mem hn
  have HM := hide hm
  clear hn hm
  obtain ⟨p, cap, rfl, h1, h2, h4⟩ := hr
  have H4 := hide h4
  clear h4
  go_enter Tryz.func77, Tryz.ntmps77
  go_wp2_with (at_make; refine wpList_make_full _ rfl _ _ 40 rfl w.heap.size 62 i0 (.agg #[.string ⟨#[]⟩, .slice none 0 0]) 2 Tryz.underlying40 hi hz0 hz1 _ _ _ _ xs.length rfl rfl rfl rfl ?b2 ?b3 (Nat.le_refl _) ?_)
  case b2 => rw [hz2]; omega
  case b3 => unfold maxLen; omega
  intro w1 hown hgrow
  obtain ⟨Z, hZ, hZl⟩ := own_row hown
  have hb1 : Below w.heap.size w w1 := (Below.refl _ _).grown hgrow (Nat.le_refl _) (by simp)
  have HZ := hide hZ
  have HB := hide hb1
  have HL := hide hZl
  clear hZ hown hgrow hb1 hZl
  go_wp2_with fail
  go_loopw [4] (fun i wr => ∃ (X : World) (k : Nat) (cs : List Value), X = wr ∧ k ≤ xs.length ∧ i = .int .i64 k ∧ Hid (Row X w.heap.size 62 cs) ∧ Hid (Below w.heap.size w X) ∧ Hid (cs.length = xs.length * 2) ∧ Hid (∀ j (h2 : j < xs.length), j < k → cs[j * 2]? = some (.string xs[j].1) ∧ xs[j].1.size ≤ maxLen ∧ ∃ u, cs[j * 2 + 1]? = some u ∧ RFlds (w.heap.size + 1) X u xs[j].2)) (fun i _ => xs.length - (intOf i).toNat)
  case atStart => exact ⟨_, 0, Z, rfl, Nat.zero_le _, rfl, HZ, HB, HL, hide (fun j _ h1 => absurd h1 (by omega))⟩
  case round =>
    obtain ⟨X, k, cs, rfl, hk, rfl, HRow, HBel, HLn, HEl⟩ := hrel
    by_cases hlt : k < xs.length
    · obtain ⟨g, off, hp, hg, _, hc⟩ := H4.out (by omega)
      subst hp
      obtain ⟨ha, hns, u, hu, hru⟩ := hc k hlt
      have hk0 := (HBel.out.cell (p := ⟨g, off + k * 2, none⟩) hg).trans ha
      have hk1 := (HBel.out.cell (p := ⟨g, off + k * 2 + 1, none⟩) hg).trans hu
      have HRU := hide (hru.below HBel.out)
      obtain ⟨up, uc, rfl⟩ := hru.isSlice
      have HNS := hide hns
      have hlt0 := HRow.out.lt
      clear hu hru hc ha hns
      go_wp2_with fail
      refine (toSegment_any (xs[k]'hlt).1 _ (xs[k]'hlt).2 _ (HM.out k hlt).1 HRU.out).mono ?_
      rintro e w2 ⟨p2, c2, rfl, hr2, hb2⟩
      have row2 := HRow.out.below hb2 hlt0
      obtain ⟨z0, hz0'⟩ := row2.some (k * 2) (by rw [HLn.out]; omega)
      obtain ⟨z1, hz1'⟩ := row2.some (k * 2 + 1) (by rw [HLn.out]; omega)
      have hf0 := row2.free (k * 2)
      have hf1 := row2.free (k * 2 + 1)
      have hnext := (row2.set (j := k * 2) (.string (xs[k]'hlt).1)).set (j := k * 2 + 1) (.slice p2 (xs[k]'hlt).2.length c2)
      have HN := hide hnext
      have HMB := hide (((HBel.out.trans (hb2.mono HBel.out.size)).setCell (p := ⟨w.heap.size, k * 2, none⟩) (Nat.le_refl _) (.string (xs[k]'hlt).1)).setCell (p := ⟨w.heap.size, k * 2 + 1, none⟩) (Nat.le_refl _) (.slice p2 (xs[k]'hlt).2.length c2))
      have HLn2 : Hid (((cs.set (k * 2) (.string (xs[k]'hlt).1)).set (k * 2 + 1) (.slice p2 (xs[k]'hlt).2.length c2)).length = xs.length * 2) := by rw [List.length_set, List.length_set]; exact HLn
      have HEl2 : Hid (∀ j (h2 : j < xs.length), j < k + 1 → ((cs.set (k * 2) (.string (xs[k]'hlt).1)).set (k * 2 + 1) (.slice p2 (xs[k]'hlt).2.length c2))[j * 2]? = some (.string xs[j].1) ∧ xs[j].1.size ≤ maxLen ∧ ∃ u, ((cs.set (k * 2) (.string (xs[k]'hlt).1)).set (k * 2 + 1) (.slice p2 (xs[k]'hlt).2.length c2))[j * 2 + 1]? = some u ∧ RFlds (w.heap.size + 1) ((w2.setCell ⟨w.heap.size, k * 2, none⟩ (.string (xs[k]'hlt).1)).setCell ⟨w.heap.size, k * 2 + 1, none⟩ (.slice p2 (xs[k]'hlt).2.length c2)) u xs[j].2) := by
        intro j h2 h3
        have hll := HLn.out
        by_cases hj : j < k
        · obtain ⟨e1, e2, u, e3, e4⟩ := HEl.out j h2 hj
          refine ⟨?_, e2, u, ?_, Lasts.go (B := w.heap.size + 1) (Same.set _ _ (by omega)) (Lasts.go (B := w.heap.size + 1) (Same.set _ _ (by omega)) (Lasts.go (B := w.heap.size + 1) (Same.of hb2) e4))⟩
          · rw [List.getElem?_set_ne (by omega), List.getElem?_set_ne (by omega)]; exact e1
          · rw [List.getElem?_set_ne (by omega), List.getElem?_set_ne (by omega)]; exact e3
        · have e : j = k := by omega
          subst e
          refine ⟨?_, HNS.out, .slice p2 (xs[j]'hlt).2.length c2, ?_, Lasts.go (B := w.heap.size + 1) (Same.set _ _ (by omega)) (Lasts.go (B := w.heap.size + 1) (Same.set _ _ (by omega)) (RFlds.mono hr2 (by omega)))⟩
          · rw [List.getElem?_set_ne (by omega), List.getElem?_set_self (by omega)]
          · rw [List.getElem?_set_self (by rw [List.length_set]; omega)]
      clear hnext row2 hr2 hb2 hlt0 hk0 hk1
      go_wp2
      go_roundw
      case rel => exact ⟨_, k + 1, _, rfl, by omega, by go_num, HN, HMB, HLn2, HEl2⟩
      case measure => simp [intOf]; omega
    · have HE : Hid (RSegs w.heap.size X (.slice (some ⟨w.heap.size, 0, none⟩) xs.length xs.length) xs) := by
        refine ⟨_, _, rfl, Nat.le_refl _, by unfold maxLen; omega, fun _ => ⟨w.heap.size, 0, rfl, HRow.out.lt, Nat.le_refl _, fun i hi => ?_⟩⟩
        obtain ⟨e1, e2, u, e3, e4⟩ := HEl.out i hi (by omega)
        refine ⟨by rw [Nat.zero_add, HRow.out.cell]; exact e1, e2, u, by rw [Nat.zero_add, HRow.out.cell]; exact e3, RFlds.mono e4 (by omega)⟩
      go_wp2
      go_ret
      exact ⟨_, _, rfl, HE.out, HBel.out⟩
end Go.Proofs.YtolgjdnhhbbebaaGreatDoor
/- The laws' own helpers over a Message. -/
namespace Go.Proofs.YtolgjdnhhbbebaaGreatDoor
open Go.RowKit
set_option maxHeartbeats 2000000 in
theorem eqSegmentS_same (v v' : Value) (xs : List Seg) (B B' : Nat) (w : World) (hn : wSegs xs ≤ 1048576) (hr : RSegs B w v xs) (hr' : RSegs B' w v' xs) :
    Calls Tryz.prog 93 #[v, v'] w fun e w' => e = .returned (.bool true) ∧ Below w.heap.size w w' := by
  obtain ⟨hl, hm⟩ := wSegs_mem hn
  have HM := hide hm
  clear hn hm
  obtain ⟨p, cap, rfl, h1, h2, h4⟩ := hr
  obtain ⟨p', cap', rfl, h1', h2', h4'⟩ := hr'
  have H4 := hide h4
  have H4' := hide h4'
  clear h4 h4'
  unfold maxLen at h2 h2'
  by_cases hx : xs.length = 0
  · have hxs : xs = [] := List.eq_nil_of_length_eq_zero hx
    subst hxs
    go_enter Tryz.func93, Tryz.ntmps93
    go_wp2
    refine wp_loop_rounds 1 ?_
    rw [rounds_succ]
    go_wp2
    go_ret
    exact ⟨rfl, Below.refl _ _⟩
  obtain ⟨g, off, hp, hg, _, hc⟩ := H4.out (by omega)
  obtain ⟨g', off', hp', hg', _, hc'⟩ := H4'.out (by omega)
  subst hp hp'
  have HC := hide hc
  have HC' := hide hc'
  clear hc hc'
  go_enter Tryz.func93, Tryz.ntmps93
  go_wp2
  go_loopw [5] (fun i wr => ∃ (X : World) (k : Nat), X = wr ∧ k ≤ xs.length ∧ i = .int .i64 k ∧ Hid (Below w.heap.size w X)) (fun i _ => xs.length - (intOf i).toNat)
  case atStart => exact ⟨_, 0, rfl, Nat.zero_le _, rfl, Below.refl _ _⟩
  case round =>
    obtain ⟨X, k, rfl, hk, rfl, HBel⟩ := hrel
    by_cases hlt : k < xs.length
    · obtain ⟨ha, hns, u, hu, hru⟩ := HC.out k hlt
      obtain ⟨ha', _, u', hu', hru'⟩ := HC'.out k hlt
      have HU := hide hru
      have HU' := hide hru'
      obtain ⟨up, uc, rfl⟩ := hru.isSlice
      obtain ⟨up', uc', rfl⟩ := hru'.isSlice
      have hki : (k : Int) < (xs.length : Int) := by omega
      have HS := hide (show ∀ x, Below X.heap.size X x → x.cell? ⟨g, off + k * 2, none⟩ = some (.string (xs[k]'hlt).1) ∧ x.cell? ⟨g, off + k * 2 + 1, none⟩ = some (.slice up (xs[k]'hlt).2.length uc) ∧ x.cell? ⟨g', off' + k * 2, none⟩ = some (.string (xs[k]'hlt).1) ∧ x.cell? ⟨g', off' + k * 2 + 1, none⟩ = some (.slice up' (xs[k]'hlt).2.length uc') ∧ Below X.heap.size X x from
        fun x h => by
          have hb := HBel.out.trans (h.mono HBel.out.size)
          exact ⟨(hb.cell (p := ⟨g, off + k * 2, none⟩) hg).trans ha, (hb.cell (p := ⟨g, off + k * 2 + 1, none⟩) hg).trans hu, (hb.cell (p := ⟨g', off' + k * 2, none⟩) hg').trans ha', (hb.cell (p := ⟨g', off' + k * 2 + 1, none⟩) hg').trans hu', h⟩)
      clear hu hu' hru hru' ha ha' hns
      go_wp2_with fail
      go_region_held3 (fun x => x.cell? ⟨g, off + k * 2, none⟩ = some (.string (xs[k]'hlt).1) ∧ x.cell? ⟨g, off + k * 2 + 1, none⟩ = some (.slice up (xs[k]'hlt).2.length uc) ∧ x.cell? ⟨g', off' + k * 2, none⟩ = some (.string (xs[k]'hlt).1) ∧ x.cell? ⟨g', off' + k * 2 + 1, none⟩ = some (.slice up' (xs[k]'hlt).2.length uc') ∧ Below X.heap.size X x)
        ((go_split_ands; refine HS.out _ ?_; repeat (first | with_reducible assumption | with_reducible exact Below.refl _ _ | with_reducible refine Below.drew ?_)))
        ((go_at_call 106; go_split_ands; refine (eqSegment_same (xs[k]'hlt).1 _ _ (xs[k]'hlt).2 B B' _ (HM.out k hlt).1 (Lasts.go (B := B) (Same.of (HBel.out.trans (Below.mono (by assumption) HBel.out.size))) HU.out) (Lasts.go (B := B') (Same.of (HBel.out.trans (Below.mono (by assumption) HBel.out.size))) HU'.out)).mono ?_; rintro e w3 ⟨rfl, hb3⟩; have hB3 : Below X.heap.size X w3 := Below.trans (by assumption) (hb3.mono (Below.size (by assumption))); clear hb3))
      all_goals
        have HB3 := hide (HBel.out.trans (hB3.mono HBel.out.size))
        clear hB3
        go_wp2
        go_roundw
        case rel => exact ⟨_, k + 1, rfl, by omega, by go_num, HB3⟩
        case measure => simp [intOf]; omega
    · go_wp2
      go_ret
      exact ⟨rfl, HBel.out⟩
set_option maxHeartbeats 2000000 in
theorem szMessage_any (n : ByteArray) (u : Value) (x : List Seg) (left : Int) (w : World) (hn : n.size ≤ maxLen) (hl0 : 0 ≤ left) (hl : left ≤ 1048576) (hr : RSegs 0 w u x) :
    Calls Tryz.prog 53 #[.agg #[.string n, u], .int .i64 left] w fun e w' => e = .returned (.int .i64 (szOf (n.size + wSegs x) left)) ∧ Below w.heap.size w w' := by
  unfold maxLen at hn
  have HB0 : Hid (∀ p c, Below w.heap.size w (w.alloc (.cells #[.string n, .slice p x.length c] 98))) := fun p c => (Below.refl _ _).alloc (Nat.le_refl _) _
  have HR := hide hr
  obtain ⟨p, c, rfl⟩ := hr.isSlice
  clear hr
  by_cases h0 : left - (n.size : Int) < 0
  · have HS := hide (show szOf (n.size + wSegs x) left = -1 from szOf_no (by omega))
    go_enter Tryz.func53, Tryz.ntmps53
    go_wp2
    go_ret
    exact ⟨ret_int HS.out.symm, HB0.out _ _⟩
  · go_enter Tryz.func53, Tryz.ntmps53
    go_wp2_with fail
    refine (szSegmentS_any _ x (left - (n.size : Int)) _ (by omega) (by omega) (HR.out.below (HB0.out _ _))).mono ?_
    rintro e w1 ⟨rfl, hb1⟩
    have HB := hide ((HB0.out p c).trans (hb1.mono (by simp)))
    clear hb1
    by_cases h : ((wSegs x : Nat) : Int) ≤ left - (n.size : Int)
    · have HS := hide (show szOf (n.size + wSegs x) left = left - (n.size : Int) - ((wSegs x : Nat) : Int) by rw [szOf_yes (by omega)]; omega)
      rw [szOf_yes h]
      go_wp2
      go_ret
      exact ⟨ret_int HS.out.symm, HB.out⟩
    · have HS := hide (show szOf (n.size + wSegs x) left = -1 from szOf_no (by omega))
      rw [szOf_no h]
      go_wp2
      go_ret
      exact ⟨ret_int HS.out.symm, HB.out⟩

set_option maxHeartbeats 2000000 in
theorem toMessage_any (n : ByteArray) (u : Value) (x : List Seg) (w : World) (hn : wSegs x ≤ 1048576) (hr : RSegs 0 w u x) :
    Calls Tryz.prog 57 #[.agg #[.string n, u]] w fun e w' => ∃ p c, e = .returned (.agg #[.string n, .slice p x.length c]) ∧ RSegs w.heap.size w' (.slice p x.length c) x ∧ Below w.heap.size w w' := by
  obtain ⟨p, c, rfl⟩ := hr.isSlice
  obtain ⟨W, hW⟩ : ∃ W, W = (((w.alloc (.cells #[.string n, .slice p x.length c] 98)).alloc (.cells #[.string ⟨#[]⟩, .slice none 0 0] 42)).alloc (.cells #[.string n, .slice none 0 0] 42)) := ⟨_, rfl⟩
  have hb0 : Below w.heap.size w W := by rw [hW]; exact (((Below.refl _ _).alloc (Nat.le_refl _) _).alloc (by simp) _).alloc (by simp; omega) _
  have HR := hide (hr.below hb0)
  have HB0 := hide hb0
  have R1 : Row W (w.heap.size + 1) 42 [.string ⟨#[]⟩, .slice none 0 0] := by
    rw [hW]
    have := (row_new (w.alloc (.cells #[.string n, .slice p x.length c] 98)) [.string ⟨#[]⟩, .slice none 0 0] 42).alloc (.cells #[.string n, .slice none 0 0] 42)
    simpa using this
  have R2 : Row W (w.heap.size + 2) 42 [.string n, .slice none 0 0] := by
    rw [hW]
    have := row_new ((w.alloc (.cells #[.string n, .slice p x.length c] 98)).alloc (.cells #[.string ⟨#[]⟩, .slice none 0 0] 42)) [.string n, .slice none 0 0] 42
    simpa using this
  have hsz : W.heap.size = w.heap.size + 3 := by rw [hW]; simp
  clear hr hb0
  go_enter Tryz.func57, Tryz.ntmps57
  go_wp2_with fail
  rw [← hW]
  refine (toSegmentS_any _ x _ hn HR.out).mono ?_
  rintro e w1 ⟨p1, c1, rfl, hr1, hb1⟩
  clear hW
  have r1 := R1.below hb1 (by omega)
  have r2 := R2.below hb1 (by omega)
  have f2 : w1.cell? ⟨w.heap.size + 2, 1, none⟩ = some (.slice none 0 0) := r2.cell 1
  have z2 := r2.free 1
  have s2 := r2.set (j := 1) (.slice p1 x.length c1)
  have s1 := r1.other (b := w.heap.size + 2) (j := 1) (by omega) (.slice p1 x.length c1)
  have g2 : (w1.setCell ⟨w.heap.size + 2, 1, none⟩ (.slice p1 x.length c1)).cell? ⟨w.heap.size + 2, 1, none⟩ = some (.slice p1 x.length c1) := s2.cell 1
  have g20 : (w1.setCell ⟨w.heap.size + 2, 1, none⟩ (.slice p1 x.length c1)).cell? ⟨w.heap.size + 2, 0, none⟩ = some (.string n) := s2.cell 0
  have g1 : (w1.setCell ⟨w.heap.size + 2, 1, none⟩ (.slice p1 x.length c1)).cell? ⟨w.heap.size + 1, 0, none⟩ = some (.string ⟨#[]⟩) := s1.cell 0
  have g11 : (w1.setCell ⟨w.heap.size + 2, 1, none⟩ (.slice p1 x.length c1)).cell? ⟨w.heap.size + 1, 1, none⟩ = some (.slice none 0 0) := s1.cell 1
  have z1 := s1.free 0
  have z11 := s1.free 1
  have t1 := (s1.set (j := 0) (.string n)).set (j := 1) (.slice p1 x.length c1)
  have q0 : (((w1.setCell ⟨w.heap.size + 2, 1, none⟩ (.slice p1 x.length c1)).setCell ⟨w.heap.size + 1, 0, none⟩ (.string n)).setCell ⟨w.heap.size + 1, 1, none⟩ (.slice p1 x.length c1)).cell? ⟨w.heap.size + 1, 0, none⟩ = some (.string n) := t1.cell 0
  have q1 : (((w1.setCell ⟨w.heap.size + 2, 1, none⟩ (.slice p1 x.length c1)).setCell ⟨w.heap.size + 1, 0, none⟩ (.string n)).setCell ⟨w.heap.size + 1, 1, none⟩ (.slice p1 x.length c1)).cell? ⟨w.heap.size + 1, 1, none⟩ = some (.slice p1 x.length c1) := t1.cell 1
  rw [hsz] at hr1
  have HRE := hide (RSegs.mono (((hr1.same (Same.set w1 (g := w.heap.size + 2) (j := 1) (.slice p1 x.length c1) (by omega))).same (Same.set _ _ (by omega))).same (Same.set _ _ (by omega))) (by omega : w.heap.size ≤ w.heap.size + 3) : RSegs w.heap.size (((w1.setCell ⟨w.heap.size + 2, 1, none⟩ (.slice p1 x.length c1)).setCell ⟨w.heap.size + 1, 0, none⟩ (.string n)).setCell ⟨w.heap.size + 1, 1, none⟩ (.slice p1 x.length c1)) (.slice p1 x.length c1) x)
  have HBE := hide ((((HB0.out.trans (hb1.mono (by omega))).setCell (p := ⟨w.heap.size + 2, 1, none⟩) (by show w.heap.size ≤ w.heap.size + 2; omega) (.slice p1 x.length c1)).setCell (p := ⟨w.heap.size + 1, 0, none⟩) (by show w.heap.size ≤ w.heap.size + 1; omega) (.string n)).setCell (p := ⟨w.heap.size + 1, 1, none⟩) (by show w.heap.size ≤ w.heap.size + 1; omega) (.slice p1 x.length c1))
  clear hr1 hb1 r1 r2 s1 s2 t1
  go_wp2
  exact bodyPost_ret (v := .agg #[.string n, .slice p1 x.length c1]) (by simp [results, Tryz.results57, go_sem, q0, q1]) rfl ⟨_, _, rfl, HRE.out, HBE.out⟩

set_option maxHeartbeats 1000000 in
theorem eqMessage_same (n : ByteArray) (u u' : Value) (x : List Seg) (B B' : Nat) (w : World) (hn : wSegs x ≤ 1048576) (hr : RSegs B w u x) (hr' : RSegs B' w u' x) :
    Calls Tryz.prog 70 #[.agg #[.string n, u], .agg #[.string n, u']] w fun e w' => e = .returned (.bool true) ∧ Below w.heap.size w w' := by
  have HR := hide hr
  have HR' := hide hr'
  obtain ⟨p, c, rfl⟩ := hr.isSlice
  obtain ⟨p', c', rfl⟩ := hr'.isSlice
  clear hr hr'
  have HB0 := hide (((Below.refl w.heap.size w).alloc (Nat.le_refl _) (.cells #[.string n, .slice p x.length c] 42)).alloc (by simp) (.cells #[.string n, .slice p' x.length c'] 42))
  go_enter Tryz.func70, Tryz.ntmps70
  go_wp2_with fail
  refine (eqSegmentS_same _ _ x B B' _ hn (HR.out.below HB0.out) (HR'.out.below HB0.out)).mono ?_
  rintro e w1 ⟨rfl, hb1⟩
  have HB := hide (HB0.out.trans (hb1.mono (by simp; omega)))
  clear hb1
  go_wp2
  go_ret
  exact ⟨rfl, HB.out⟩
end Go.Proofs.YtolgjdnhhbbebaaGreatDoor
/- Batches and Files in memory, and the laws' own helpers over them. -/
namespace Go.Proofs.YtolgjdnhhbbebaaGreatDoor
open Go.RowKit
instance (B : Nat) : Lasts B (RSegs B) := ⟨fun hs h => RSegs.same h hs⟩
abbrev Msg := ByteArray × List Seg
/-- The slice v reads as Messages; its cells lie in a block from B on. -/
def RMsgs (B : Nat) (w : World) (v : Value) (xs : List Msg) : Prop :=
  ∃ p cap, v = .slice p xs.length cap ∧ xs.length ≤ cap ∧ cap ≤ maxLen ∧
    (0 < xs.length → ∃ g off, p = some ⟨g, off, none⟩ ∧ g < w.heap.size ∧ B ≤ g ∧ ∀ i (h : i < xs.length), w.cell? ⟨g, off + i * 2, none⟩ = some (.string xs[i].1) ∧ xs[i].1.size ≤ maxLen ∧ ∃ u, w.cell? ⟨g, off + i * 2 + 1, none⟩ = some u ∧ RSegs B w u xs[i].2)
theorem RMsgs.same {B : Nat} {w w' : World} {v : Value} {xs : List Msg} (h : RMsgs B w v xs) (hs : Same B w w') : RMsgs B w' v xs := by
  obtain ⟨p, cap, rfl, h1, h2, h4⟩ := h
  refine ⟨p, cap, rfl, h1, h2, fun h0 => ?_⟩
  obtain ⟨g, off, rfl, hg, hB, hc⟩ := h4 h0
  refine ⟨g, off, rfl, Nat.lt_of_lt_of_le hg hs.size, hB, fun i hi => ?_⟩
  obtain ⟨a, b, u, hu, hR⟩ := hc i hi
  exact ⟨by rw [hs.cell hB hg]; exact a, b, u, by rw [hs.cell hB hg]; exact hu, Lasts.go hs hR⟩
theorem RMsgs.below {B : Nat} {w w' : World} {v : Value} {xs : List Msg} (h : RMsgs B w v xs) (hb : Below w.heap.size w w') : RMsgs B w' v xs := h.same (Same.of hb)
theorem RMsgs.mono {B B' : Nat} {w : World} {v : Value} {xs : List Msg} (h : RMsgs B w v xs) (hB : B' ≤ B) : RMsgs B' w v xs := by
  obtain ⟨p, cap, rfl, h1, h2, h4⟩ := h
  refine ⟨p, cap, rfl, h1, h2, fun h0 => ?_⟩
  obtain ⟨g, off, rfl, hg, hB2, hc⟩ := h4 h0
  refine ⟨g, off, rfl, hg, Nat.le_trans hB hB2, fun i hi => ?_⟩
  obtain ⟨a, b, u, hu, hR⟩ := hc i hi
  exact ⟨a, b, u, hu, RSegs.mono hR hB⟩
theorem RMsgs.isSlice {B : Nat} {w : World} {v : Value} {xs : List Msg} (h : RMsgs B w v xs) : ∃ p c, v = .slice p xs.length c := by
  obtain ⟨p, c, e, _⟩ := h
  exact ⟨p, c, e⟩
def wMsg (x : Msg) : Nat := x.1.size + wSegs x.2
def wMsgs : List Msg → Nat := wL wMsg

set_option maxHeartbeats 2000000 in
theorem szMessageS_any (v : Value) (xs : List Msg) (left : Int) (w : World) (hl0 : 0 ≤ left) (hl : left ≤ 1048576) (hr : RMsgs 0 w v xs) :
    Calls Tryz.prog 35 #[v, .int .i64 left] w fun e w' => e = .returned (.int .i64 (szOf (wMsgs xs) left)) ∧ Below w.heap.size w w' := by
  obtain ⟨p, cap, rfl, h1, h2, h4⟩ := hr
  unfold maxLen at h2
  have hW : wMsgs xs = xs.length + (xs.map wMsg).sum := rfl
  obtain ⟨R, hR⟩ : ∃ R, R = szOf (wMsgs xs) left := ⟨_, rfl⟩
  rw [← hR]
  by_cases h0 : left - xs.length < 0
  · have HF : Hid (R = -1) := by rw [hR]; exact szOf_no (by rw [hW]; omega)
    have hx : 0 < xs.length := by omega
    clear h4 hR hW
    go_enter Tryz.func35, Tryz.ntmps35
    go_wp2
    go_ret
    exact ⟨ret_int HF.out.symm, Below.refl _ _⟩
  · have HF : Hid (R = szOf ((xs.drop 0).map wMsg).sum (left - xs.length)) := by
      rw [hR, List.drop_zero, hW]
      by_cases hc : ((xs.length + (xs.map wMsg).sum : Nat) : Int) ≤ left
      · rw [szOf_yes hc, szOf_yes (by omega)]
        show _ = _
        omega
      · rw [szOf_no hc, szOf_no (by omega)]
        exact rfl
    clear hR hW
    by_cases hn : xs.length = 0
    · have hxs : xs = [] := List.eq_nil_of_length_eq_zero hn
      subst hxs
      clear h4
      go_enter Tryz.func35, Tryz.ntmps35
      go_wp2
      refine wp_loop_rounds 1 ?_
      rw [rounds_succ]
      go_wp2
      go_ret
      exact ⟨ret_int (by rw [HF.out]; simp [szOf, hl0]), Below.refl _ _⟩
    · obtain ⟨g, off, rfl, hg, _, hc⟩ := h4 (by omega)
      have HC := hide hc
      clear hc h4
      go_enter Tryz.func35, Tryz.ntmps35
      go_wp2
      go_loopw [1, 5] (fun l i wr => ∃ (X : World) (k : Nat) (L : Int), X = wr ∧ k ≤ xs.length ∧ i = .int .i64 k ∧ l = .int .i64 L ∧ 0 ≤ L ∧ L ≤ 1048576 ∧ Hid (R = szOf ((xs.drop k).map wMsg).sum L) ∧ Hid (Below w.heap.size w X)) (fun _ i _ => xs.length - (intOf i).toNat)
      case atStart => exact ⟨_, 0, _, rfl, Nat.zero_le _, rfl, rfl, by omega, by omega, HF.out, Below.refl _ _⟩
      case round =>
        obtain ⟨X, k, L, rfl, hk, rfl, rfl, hL0, hL1, HS, HB⟩ := hrel
        by_cases hlt : k < xs.length
        · obtain ⟨ha, hns, u, hu, hru⟩ := HC.out k hlt
          have hk0 := (HB.out.cell (p := ⟨g, off + k * 2, none⟩) hg).trans ha
          have hk1 := (HB.out.cell (p := ⟨g, off + k * 2 + 1, none⟩) hg).trans hu
          have HRU := hide (hru.below HB.out)
          obtain ⟨up, uc, rfl⟩ := hru.isSlice
          have HT := hide (szOf_step wMsg xs k hlt L)
          have HNS := hide hns
          clear hu hru ha hns
          go_wp2_with fail
          refine (szMessage_any (xs[k]'hlt).1 _ (xs[k]'hlt).2 L _ HNS.out hL0 hL1 HRU.out).mono ?_
          rintro e w1 ⟨rfl, hb1⟩
          have HB1 := hide (HB.out.trans (hb1.mono HB.out.size))
          clear hb1
          rw [show (xs[k]'hlt).1.size + wSegs (xs[k]'hlt).2 = wMsg (xs[k]'hlt) from rfl]
          by_cases hneg : ((wMsg (xs[k]'hlt) : Nat) : Int) ≤ L
          · rw [szOf_yes hneg]
            have HU : Hid (R = szOf ((xs.drop (k + 1)).map wMsg).sum (L - ((wMsg (xs[k]'hlt) : Nat) : Int))) := by rw [HS.out, HT.out]; exact if_pos hneg
            clear hk0 hk1
            go_wp2
            go_roundw
            case rel => exact ⟨_, k + 1, _, rfl, by omega, by go_num, rfl, by omega, by omega, HU, HB1⟩
            case measure => simp [intOf]; omega
          · rw [szOf_no hneg]
            have HU : Hid (R = -1) := by rw [HS.out, HT.out]; exact if_neg hneg
            clear hk0 hk1
            go_wp2
            go_ret
            exact ⟨ret_int HU.out.symm, HB1.out⟩
        · have HU : Hid (R = L) := by rw [HS.out, List.drop_eq_nil_of_le (by omega)]; exact szOf_zero hL0
          go_wp2
          go_ret
          exact ⟨ret_int HU.out.symm, HB.out⟩

theorem wMsgs_mem {xs : List Msg} {N : Nat} (h : wMsgs xs ≤ N) : xs.length ≤ N ∧ ∀ i (hi : i < xs.length), wSegs xs[i].2 ≤ N ∧ xs[i].1.size ≤ N := by
  refine ⟨Nat.le_trans (wL_len _ xs) h, fun i hi => ?_⟩
  have h1 := wL_mem wMsg (List.getElem_mem hi)
  have h0 : wL wMsg xs ≤ N := h
  have h2 : wMsg xs[i] = xs[i].1.size + wSegs xs[i].2 := rfl
  omega

theorem Tryz.infoMessage : (Tryz.prog.info? 42).map (fun i => (i.zero, i.size, i.bytes)) = some (some (.agg #[.string ⟨#[]⟩, .slice none 0 0]), 2, 40) := by kernel_rfl
set_option maxHeartbeats 4000000 in
theorem toMessageS_any (v : Value) (xs : List Msg) (w : World) (hn : wMsgs xs ≤ 1048576) (hr : RMsgs 0 w v xs) :
    Calls Tryz.prog 39 #[v] w fun e w' => ∃ p c, e = .returned (.slice p xs.length c) ∧ RMsgs w.heap.size w' (.slice p xs.length c) xs ∧ Below w.heap.size w w' := by
  obtain ⟨i0, hi, hz0, hz1, hz2⟩ := info_parts Tryz.infoMessage
  obtain ⟨hl, hm⟩ := wMsgs_mem hn
  have HM := hide hm
  clear hn hm
  obtain ⟨p, cap, rfl, h1, h2, h4⟩ := hr
  have H4 := hide h4
  clear h4
  go_enter Tryz.func39, Tryz.ntmps39
  go_wp2_with (at_make; refine wpList_make_full _ rfl _ _ 36 rfl w.heap.size 42 i0 (.agg #[.string ⟨#[]⟩, .slice none 0 0]) 2 Tryz.underlying36 hi hz0 hz1 _ _ _ _ xs.length rfl rfl rfl rfl ?b2 ?b3 (Nat.le_refl _) ?_)
  case b2 => rw [hz2]; omega
  case b3 => unfold maxLen; omega
  intro w1 hown hgrow
  obtain ⟨Z, hZ, hZl⟩ := own_row hown
  have hb1 : Below w.heap.size w w1 := (Below.refl _ _).grown hgrow (Nat.le_refl _) (by simp)
  have HZ := hide hZ
  have HB := hide hb1
  have HL := hide hZl
  clear hZ hown hgrow hb1 hZl
  go_wp2_with fail
  go_loopw [4] (fun i wr => ∃ (X : World) (k : Nat) (cs : List Value), X = wr ∧ k ≤ xs.length ∧ i = .int .i64 k ∧ Hid (Row X w.heap.size 42 cs) ∧ Hid (Below w.heap.size w X) ∧ Hid (cs.length = xs.length * 2) ∧ Hid (∀ j (h2 : j < xs.length), j < k → cs[j * 2]? = some (.string xs[j].1) ∧ xs[j].1.size ≤ maxLen ∧ ∃ u, cs[j * 2 + 1]? = some u ∧ RSegs (w.heap.size + 1) X u xs[j].2)) (fun i _ => xs.length - (intOf i).toNat)
  case atStart => exact ⟨_, 0, Z, rfl, Nat.zero_le _, rfl, HZ, HB, HL, hide (fun j _ h1 => absurd h1 (by omega))⟩
  case round =>
    obtain ⟨X, k, cs, rfl, hk, rfl, HRow, HBel, HLn, HEl⟩ := hrel
    by_cases hlt : k < xs.length
    · obtain ⟨g, off, hp, hg, _, hc⟩ := H4.out (by omega)
      subst hp
      obtain ⟨ha, hns, u, hu, hru⟩ := hc k hlt
      have hk0 := (HBel.out.cell (p := ⟨g, off + k * 2, none⟩) hg).trans ha
      have hk1 := (HBel.out.cell (p := ⟨g, off + k * 2 + 1, none⟩) hg).trans hu
      have HRU := hide (hru.below HBel.out)
      obtain ⟨up, uc, rfl⟩ := hru.isSlice
      have HNS := hide hns
      have hlt0 := HRow.out.lt
      clear hu hru hc ha hns
      go_wp2_with fail
      refine (toMessage_any (xs[k]'hlt).1 _ (xs[k]'hlt).2 _ (HM.out k hlt).1 HRU.out).mono ?_
      rintro e w2 ⟨p2, c2, rfl, hr2, hb2⟩
      have row2 := HRow.out.below hb2 hlt0
      obtain ⟨z0, hz0'⟩ := row2.some (k * 2) (by rw [HLn.out]; omega)
      obtain ⟨z1, hz1'⟩ := row2.some (k * 2 + 1) (by rw [HLn.out]; omega)
      have hf0 := row2.free (k * 2)
      have hf1 := row2.free (k * 2 + 1)
      have hnext := (row2.set (j := k * 2) (.string (xs[k]'hlt).1)).set (j := k * 2 + 1) (.slice p2 (xs[k]'hlt).2.length c2)
      have HN := hide hnext
      have HMB := hide (((HBel.out.trans (hb2.mono HBel.out.size)).setCell (p := ⟨w.heap.size, k * 2, none⟩) (Nat.le_refl _) (.string (xs[k]'hlt).1)).setCell (p := ⟨w.heap.size, k * 2 + 1, none⟩) (Nat.le_refl _) (.slice p2 (xs[k]'hlt).2.length c2))
      have HLn2 : Hid (((cs.set (k * 2) (.string (xs[k]'hlt).1)).set (k * 2 + 1) (.slice p2 (xs[k]'hlt).2.length c2)).length = xs.length * 2) := by rw [List.length_set, List.length_set]; exact HLn
      have HEl2 : Hid (∀ j (h2 : j < xs.length), j < k + 1 → ((cs.set (k * 2) (.string (xs[k]'hlt).1)).set (k * 2 + 1) (.slice p2 (xs[k]'hlt).2.length c2))[j * 2]? = some (.string xs[j].1) ∧ xs[j].1.size ≤ maxLen ∧ ∃ u, ((cs.set (k * 2) (.string (xs[k]'hlt).1)).set (k * 2 + 1) (.slice p2 (xs[k]'hlt).2.length c2))[j * 2 + 1]? = some u ∧ RSegs (w.heap.size + 1) ((w2.setCell ⟨w.heap.size, k * 2, none⟩ (.string (xs[k]'hlt).1)).setCell ⟨w.heap.size, k * 2 + 1, none⟩ (.slice p2 (xs[k]'hlt).2.length c2)) u xs[j].2) := by
        intro j h2 h3
        have hll := HLn.out
        by_cases hj : j < k
        · obtain ⟨e1, e2, u, e3, e4⟩ := HEl.out j h2 hj
          refine ⟨?_, e2, u, ?_, Lasts.go (B := w.heap.size + 1) (Same.set _ _ (by omega)) (Lasts.go (B := w.heap.size + 1) (Same.set _ _ (by omega)) (Lasts.go (B := w.heap.size + 1) (Same.of hb2) e4))⟩
          · rw [List.getElem?_set_ne (by omega), List.getElem?_set_ne (by omega)]; exact e1
          · rw [List.getElem?_set_ne (by omega), List.getElem?_set_ne (by omega)]; exact e3
        · have e : j = k := by omega
          subst e
          refine ⟨?_, HNS.out, .slice p2 (xs[j]'hlt).2.length c2, ?_, Lasts.go (B := w.heap.size + 1) (Same.set _ _ (by omega)) (Lasts.go (B := w.heap.size + 1) (Same.set _ _ (by omega)) (RSegs.mono hr2 (by omega)))⟩
          · rw [List.getElem?_set_ne (by omega), List.getElem?_set_self (by omega)]
          · rw [List.getElem?_set_self (by rw [List.length_set]; omega)]
      clear hnext row2 hr2 hb2 hlt0 hk0 hk1
      go_wp2
      go_roundw
      case rel => exact ⟨_, k + 1, _, rfl, by omega, by go_num, HN, HMB, HLn2, HEl2⟩
      case measure => simp [intOf]; omega
    · have HE : Hid (RMsgs w.heap.size X (.slice (some ⟨w.heap.size, 0, none⟩) xs.length xs.length) xs) := by
        refine ⟨_, _, rfl, Nat.le_refl _, by unfold maxLen; omega, fun _ => ⟨w.heap.size, 0, rfl, HRow.out.lt, Nat.le_refl _, fun i hi => ?_⟩⟩
        obtain ⟨e1, e2, u, e3, e4⟩ := HEl.out i hi (by omega)
        refine ⟨by rw [Nat.zero_add, HRow.out.cell]; exact e1, e2, u, by rw [Nat.zero_add, HRow.out.cell]; exact e3, RSegs.mono e4 (by omega)⟩
      go_wp2
      go_ret
      exact ⟨_, _, rfl, HE.out, HBel.out⟩
end Go.Proofs.YtolgjdnhhbbebaaGreatDoor
/- Batches and Files in memory, and the laws' own helpers over them. -/
namespace Go.Proofs.YtolgjdnhhbbebaaGreatDoor
open Go.RowKit
set_option maxHeartbeats 2000000 in
theorem eqMessageS_same (v v' : Value) (xs : List Msg) (B B' : Nat) (w : World) (hn : wMsgs xs ≤ 1048576) (hr : RMsgs B w v xs) (hr' : RMsgs B' w v' xs) :
    Calls Tryz.prog 52 #[v, v'] w fun e w' => e = .returned (.bool true) ∧ Below w.heap.size w w' := by
  obtain ⟨hl, hm⟩ := wMsgs_mem hn
  have HM := hide hm
  clear hn hm
  obtain ⟨p, cap, rfl, h1, h2, h4⟩ := hr
  obtain ⟨p', cap', rfl, h1', h2', h4'⟩ := hr'
  have H4 := hide h4
  have H4' := hide h4'
  clear h4 h4'
  unfold maxLen at h2 h2'
  by_cases hx : xs.length = 0
  · have hxs : xs = [] := List.eq_nil_of_length_eq_zero hx
    subst hxs
    go_enter Tryz.func52, Tryz.ntmps52
    go_wp2
    refine wp_loop_rounds 1 ?_
    rw [rounds_succ]
    go_wp2
    go_ret
    exact ⟨rfl, Below.refl _ _⟩
  obtain ⟨g, off, hp, hg, _, hc⟩ := H4.out (by omega)
  obtain ⟨g', off', hp', hg', _, hc'⟩ := H4'.out (by omega)
  subst hp hp'
  have HC := hide hc
  have HC' := hide hc'
  clear hc hc'
  go_enter Tryz.func52, Tryz.ntmps52
  go_wp2
  go_loopw [5] (fun i wr => ∃ (X : World) (k : Nat), X = wr ∧ k ≤ xs.length ∧ i = .int .i64 k ∧ Hid (Below w.heap.size w X)) (fun i _ => xs.length - (intOf i).toNat)
  case atStart => exact ⟨_, 0, rfl, Nat.zero_le _, rfl, Below.refl _ _⟩
  case round =>
    obtain ⟨X, k, rfl, hk, rfl, HBel⟩ := hrel
    by_cases hlt : k < xs.length
    · obtain ⟨ha, hns, u, hu, hru⟩ := HC.out k hlt
      obtain ⟨ha', _, u', hu', hru'⟩ := HC'.out k hlt
      have HU := hide hru
      have HU' := hide hru'
      obtain ⟨up, uc, rfl⟩ := hru.isSlice
      obtain ⟨up', uc', rfl⟩ := hru'.isSlice
      have hki : (k : Int) < (xs.length : Int) := by omega
      have HS := hide (show ∀ x, Below X.heap.size X x → x.cell? ⟨g, off + k * 2, none⟩ = some (.string (xs[k]'hlt).1) ∧ x.cell? ⟨g, off + k * 2 + 1, none⟩ = some (.slice up (xs[k]'hlt).2.length uc) ∧ x.cell? ⟨g', off' + k * 2, none⟩ = some (.string (xs[k]'hlt).1) ∧ x.cell? ⟨g', off' + k * 2 + 1, none⟩ = some (.slice up' (xs[k]'hlt).2.length uc') ∧ Below X.heap.size X x from
        fun x h => by
          have hb := HBel.out.trans (h.mono HBel.out.size)
          exact ⟨(hb.cell (p := ⟨g, off + k * 2, none⟩) hg).trans ha, (hb.cell (p := ⟨g, off + k * 2 + 1, none⟩) hg).trans hu, (hb.cell (p := ⟨g', off' + k * 2, none⟩) hg').trans ha', (hb.cell (p := ⟨g', off' + k * 2 + 1, none⟩) hg').trans hu', h⟩)
      clear hu hu' hru hru' ha ha' hns
      go_wp2_with fail
      go_region_held3 (fun x => x.cell? ⟨g, off + k * 2, none⟩ = some (.string (xs[k]'hlt).1) ∧ x.cell? ⟨g, off + k * 2 + 1, none⟩ = some (.slice up (xs[k]'hlt).2.length uc) ∧ x.cell? ⟨g', off' + k * 2, none⟩ = some (.string (xs[k]'hlt).1) ∧ x.cell? ⟨g', off' + k * 2 + 1, none⟩ = some (.slice up' (xs[k]'hlt).2.length uc') ∧ Below X.heap.size X x)
        ((go_split_ands; refine HS.out _ ?_; repeat (first | with_reducible assumption | with_reducible exact Below.refl _ _ | with_reducible refine Below.drew ?_)))
        ((go_at_call 70; go_split_ands; refine (eqMessage_same (xs[k]'hlt).1 _ _ (xs[k]'hlt).2 B B' _ (HM.out k hlt).1 (Lasts.go (B := B) (Same.of (HBel.out.trans (Below.mono (by assumption) HBel.out.size))) HU.out) (Lasts.go (B := B') (Same.of (HBel.out.trans (Below.mono (by assumption) HBel.out.size))) HU'.out)).mono ?_; rintro e w3 ⟨rfl, hb3⟩; have hB3 : Below X.heap.size X w3 := Below.trans (by assumption) (hb3.mono (Below.size (by assumption))); clear hb3))
      all_goals
        have HB3 := hide (HBel.out.trans (hB3.mono HBel.out.size))
        clear hB3
        go_wp2
        go_roundw
        case rel => exact ⟨_, k + 1, rfl, by omega, by go_num, HB3⟩
        case measure => simp [intOf]; omega
    · go_wp2
      go_ret
      exact ⟨rfl, HBel.out⟩
set_option maxHeartbeats 2000000 in
theorem szBatch_any (n : ByteArray) (u : Value) (x : List Msg) (left : Int) (w : World) (hn : n.size ≤ maxLen) (hl0 : 0 ≤ left) (hl : left ≤ 1048576) (hr : RMsgs 0 w u x) :
    Calls Tryz.prog 21 #[.agg #[.string n, u], .int .i64 left] w fun e w' => e = .returned (.int .i64 (szOf (n.size + wMsgs x) left)) ∧ Below w.heap.size w w' := by
  unfold maxLen at hn
  have HB0 : Hid (∀ p c, Below w.heap.size w (w.alloc (.cells #[.string n, .slice p x.length c] 55))) := fun p c => (Below.refl _ _).alloc (Nat.le_refl _) _
  have HR := hide hr
  obtain ⟨p, c, rfl⟩ := hr.isSlice
  clear hr
  by_cases h0 : left - (n.size : Int) < 0
  · have HS := hide (show szOf (n.size + wMsgs x) left = -1 from szOf_no (by omega))
    go_enter Tryz.func21, Tryz.ntmps21
    go_wp2
    go_ret
    exact ⟨ret_int HS.out.symm, HB0.out _ _⟩
  · go_enter Tryz.func21, Tryz.ntmps21
    go_wp2_with fail
    refine (szMessageS_any _ x (left - (n.size : Int)) _ (by omega) (by omega) (HR.out.below (HB0.out _ _))).mono ?_
    rintro e w1 ⟨rfl, hb1⟩
    have HB := hide ((HB0.out p c).trans (hb1.mono (by simp)))
    clear hb1
    by_cases h : ((wMsgs x : Nat) : Int) ≤ left - (n.size : Int)
    · have HS := hide (show szOf (n.size + wMsgs x) left = left - (n.size : Int) - ((wMsgs x : Nat) : Int) by rw [szOf_yes (by omega)]; omega)
      rw [szOf_yes h]
      go_wp2
      go_ret
      exact ⟨ret_int HS.out.symm, HB.out⟩
    · have HS := hide (show szOf (n.size + wMsgs x) left = -1 from szOf_no (by omega))
      rw [szOf_no h]
      go_wp2
      go_ret
      exact ⟨ret_int HS.out.symm, HB.out⟩

set_option maxHeartbeats 2000000 in
theorem toBatch_any (n : ByteArray) (u : Value) (x : List Msg) (w : World) (hn : wMsgs x ≤ 1048576) (hr : RMsgs 0 w u x) :
    Calls Tryz.prog 26 #[.agg #[.string n, u]] w fun e w' => ∃ p c, e = .returned (.agg #[.string n, .slice p x.length c]) ∧ RMsgs w.heap.size w' (.slice p x.length c) x ∧ Below w.heap.size w w' := by
  obtain ⟨p, c, rfl⟩ := hr.isSlice
  obtain ⟨W, hW⟩ : ∃ W, W = (((w.alloc (.cells #[.string n, .slice p x.length c] 55)).alloc (.cells #[.string ⟨#[]⟩, .slice none 0 0] 38)).alloc (.cells #[.string n, .slice none 0 0] 38)) := ⟨_, rfl⟩
  have hb0 : Below w.heap.size w W := by rw [hW]; exact (((Below.refl _ _).alloc (Nat.le_refl _) _).alloc (by simp) _).alloc (by simp; omega) _
  have HR := hide (hr.below hb0)
  have HB0 := hide hb0
  have R1 : Row W (w.heap.size + 1) 38 [.string ⟨#[]⟩, .slice none 0 0] := by
    rw [hW]
    have := (row_new (w.alloc (.cells #[.string n, .slice p x.length c] 55)) [.string ⟨#[]⟩, .slice none 0 0] 38).alloc (.cells #[.string n, .slice none 0 0] 38)
    simpa using this
  have R2 : Row W (w.heap.size + 2) 38 [.string n, .slice none 0 0] := by
    rw [hW]
    have := row_new ((w.alloc (.cells #[.string n, .slice p x.length c] 55)).alloc (.cells #[.string ⟨#[]⟩, .slice none 0 0] 38)) [.string n, .slice none 0 0] 38
    simpa using this
  have hsz : W.heap.size = w.heap.size + 3 := by rw [hW]; simp
  clear hr hb0
  go_enter Tryz.func26, Tryz.ntmps26
  go_wp2_with fail
  rw [← hW]
  refine (toMessageS_any _ x _ hn HR.out).mono ?_
  rintro e w1 ⟨p1, c1, rfl, hr1, hb1⟩
  clear hW
  have r1 := R1.below hb1 (by omega)
  have r2 := R2.below hb1 (by omega)
  have f2 : w1.cell? ⟨w.heap.size + 2, 1, none⟩ = some (.slice none 0 0) := r2.cell 1
  have z2 := r2.free 1
  have s2 := r2.set (j := 1) (.slice p1 x.length c1)
  have s1 := r1.other (b := w.heap.size + 2) (j := 1) (by omega) (.slice p1 x.length c1)
  have g2 : (w1.setCell ⟨w.heap.size + 2, 1, none⟩ (.slice p1 x.length c1)).cell? ⟨w.heap.size + 2, 1, none⟩ = some (.slice p1 x.length c1) := s2.cell 1
  have g20 : (w1.setCell ⟨w.heap.size + 2, 1, none⟩ (.slice p1 x.length c1)).cell? ⟨w.heap.size + 2, 0, none⟩ = some (.string n) := s2.cell 0
  have g1 : (w1.setCell ⟨w.heap.size + 2, 1, none⟩ (.slice p1 x.length c1)).cell? ⟨w.heap.size + 1, 0, none⟩ = some (.string ⟨#[]⟩) := s1.cell 0
  have g11 : (w1.setCell ⟨w.heap.size + 2, 1, none⟩ (.slice p1 x.length c1)).cell? ⟨w.heap.size + 1, 1, none⟩ = some (.slice none 0 0) := s1.cell 1
  have z1 := s1.free 0
  have z11 := s1.free 1
  have t1 := (s1.set (j := 0) (.string n)).set (j := 1) (.slice p1 x.length c1)
  have q0 : (((w1.setCell ⟨w.heap.size + 2, 1, none⟩ (.slice p1 x.length c1)).setCell ⟨w.heap.size + 1, 0, none⟩ (.string n)).setCell ⟨w.heap.size + 1, 1, none⟩ (.slice p1 x.length c1)).cell? ⟨w.heap.size + 1, 0, none⟩ = some (.string n) := t1.cell 0
  have q1 : (((w1.setCell ⟨w.heap.size + 2, 1, none⟩ (.slice p1 x.length c1)).setCell ⟨w.heap.size + 1, 0, none⟩ (.string n)).setCell ⟨w.heap.size + 1, 1, none⟩ (.slice p1 x.length c1)).cell? ⟨w.heap.size + 1, 1, none⟩ = some (.slice p1 x.length c1) := t1.cell 1
  rw [hsz] at hr1
  have HRE := hide (RMsgs.mono (((hr1.same (Same.set w1 (g := w.heap.size + 2) (j := 1) (.slice p1 x.length c1) (by omega))).same (Same.set _ _ (by omega))).same (Same.set _ _ (by omega))) (by omega : w.heap.size ≤ w.heap.size + 3) : RMsgs w.heap.size (((w1.setCell ⟨w.heap.size + 2, 1, none⟩ (.slice p1 x.length c1)).setCell ⟨w.heap.size + 1, 0, none⟩ (.string n)).setCell ⟨w.heap.size + 1, 1, none⟩ (.slice p1 x.length c1)) (.slice p1 x.length c1) x)
  have HBE := hide ((((HB0.out.trans (hb1.mono (by omega))).setCell (p := ⟨w.heap.size + 2, 1, none⟩) (by show w.heap.size ≤ w.heap.size + 2; omega) (.slice p1 x.length c1)).setCell (p := ⟨w.heap.size + 1, 0, none⟩) (by show w.heap.size ≤ w.heap.size + 1; omega) (.string n)).setCell (p := ⟨w.heap.size + 1, 1, none⟩) (by show w.heap.size ≤ w.heap.size + 1; omega) (.slice p1 x.length c1))
  clear hr1 hb1 r1 r2 s1 s2 t1
  go_wp2
  exact bodyPost_ret (v := .agg #[.string n, .slice p1 x.length c1]) (by simp [results, Tryz.results26, go_sem, q0, q1]) rfl ⟨_, _, rfl, HRE.out, HBE.out⟩

set_option maxHeartbeats 1000000 in
theorem eqBatch_same (n : ByteArray) (u u' : Value) (x : List Msg) (B B' : Nat) (w : World) (hn : wMsgs x ≤ 1048576) (hr : RMsgs B w u x) (hr' : RMsgs B' w u' x) :
    Calls Tryz.prog 34 #[.agg #[.string n, u], .agg #[.string n, u']] w fun e w' => e = .returned (.bool true) ∧ Below w.heap.size w w' := by
  have HR := hide hr
  have HR' := hide hr'
  obtain ⟨p, c, rfl⟩ := hr.isSlice
  obtain ⟨p', c', rfl⟩ := hr'.isSlice
  clear hr hr'
  have HB0 := hide (((Below.refl w.heap.size w).alloc (Nat.le_refl _) (.cells #[.string n, .slice p x.length c] 38)).alloc (by simp) (.cells #[.string n, .slice p' x.length c'] 38))
  go_enter Tryz.func34, Tryz.ntmps34
  go_wp2_with fail
  refine (eqMessageS_same _ _ x B B' _ hn (HR.out.below HB0.out) (HR'.out.below HB0.out)).mono ?_
  rintro e w1 ⟨rfl, hb1⟩
  have HB := hide (HB0.out.trans (hb1.mono (by simp; omega)))
  clear hb1
  go_wp2
  go_ret
  exact ⟨rfl, HB.out⟩
end Go.Proofs.YtolgjdnhhbbebaaGreatDoor
/- Batches and Files in memory, and the laws' own helpers over them. -/
namespace Go.Proofs.YtolgjdnhhbbebaaGreatDoor
open Go.RowKit
instance (B : Nat) : Lasts B (RMsgs B) := ⟨fun hs h => RMsgs.same h hs⟩
abbrev Bat := ByteArray × List Msg
/-- The slice v reads as Batchs; its cells lie in a block from B on. -/
def RBats (B : Nat) (w : World) (v : Value) (xs : List Bat) : Prop :=
  ∃ p cap, v = .slice p xs.length cap ∧ xs.length ≤ cap ∧ cap ≤ maxLen ∧
    (0 < xs.length → ∃ g off, p = some ⟨g, off, none⟩ ∧ g < w.heap.size ∧ B ≤ g ∧ ∀ i (h : i < xs.length), w.cell? ⟨g, off + i * 2, none⟩ = some (.string xs[i].1) ∧ xs[i].1.size ≤ maxLen ∧ ∃ u, w.cell? ⟨g, off + i * 2 + 1, none⟩ = some u ∧ RMsgs B w u xs[i].2)
theorem RBats.same {B : Nat} {w w' : World} {v : Value} {xs : List Bat} (h : RBats B w v xs) (hs : Same B w w') : RBats B w' v xs := by
  obtain ⟨p, cap, rfl, h1, h2, h4⟩ := h
  refine ⟨p, cap, rfl, h1, h2, fun h0 => ?_⟩
  obtain ⟨g, off, rfl, hg, hB, hc⟩ := h4 h0
  refine ⟨g, off, rfl, Nat.lt_of_lt_of_le hg hs.size, hB, fun i hi => ?_⟩
  obtain ⟨a, b, u, hu, hR⟩ := hc i hi
  exact ⟨by rw [hs.cell hB hg]; exact a, b, u, by rw [hs.cell hB hg]; exact hu, Lasts.go hs hR⟩
theorem RBats.below {B : Nat} {w w' : World} {v : Value} {xs : List Bat} (h : RBats B w v xs) (hb : Below w.heap.size w w') : RBats B w' v xs := h.same (Same.of hb)
theorem RBats.mono {B B' : Nat} {w : World} {v : Value} {xs : List Bat} (h : RBats B w v xs) (hB : B' ≤ B) : RBats B' w v xs := by
  obtain ⟨p, cap, rfl, h1, h2, h4⟩ := h
  refine ⟨p, cap, rfl, h1, h2, fun h0 => ?_⟩
  obtain ⟨g, off, rfl, hg, hB2, hc⟩ := h4 h0
  refine ⟨g, off, rfl, hg, Nat.le_trans hB hB2, fun i hi => ?_⟩
  obtain ⟨a, b, u, hu, hR⟩ := hc i hi
  exact ⟨a, b, u, hu, RMsgs.mono hR hB⟩
theorem RBats.isSlice {B : Nat} {w : World} {v : Value} {xs : List Bat} (h : RBats B w v xs) : ∃ p c, v = .slice p xs.length c := by
  obtain ⟨p, c, e, _⟩ := h
  exact ⟨p, c, e⟩
def wBat (x : Bat) : Nat := x.1.size + wMsgs x.2
def wBats : List Bat → Nat := wL wBat

set_option maxHeartbeats 2000000 in
theorem szBatchS_any (v : Value) (xs : List Bat) (left : Int) (w : World) (hl0 : 0 ≤ left) (hl : left ≤ 1048576) (hr : RBats 0 w v xs) :
    Calls Tryz.prog 9 #[v, .int .i64 left] w fun e w' => e = .returned (.int .i64 (szOf (wBats xs) left)) ∧ Below w.heap.size w w' := by
  obtain ⟨p, cap, rfl, h1, h2, h4⟩ := hr
  unfold maxLen at h2
  have hW : wBats xs = xs.length + (xs.map wBat).sum := rfl
  obtain ⟨R, hR⟩ : ∃ R, R = szOf (wBats xs) left := ⟨_, rfl⟩
  rw [← hR]
  by_cases h0 : left - xs.length < 0
  · have HF : Hid (R = -1) := by rw [hR]; exact szOf_no (by rw [hW]; omega)
    have hx : 0 < xs.length := by omega
    clear h4 hR hW
    go_enter Tryz.func9, Tryz.ntmps9
    go_wp2
    go_ret
    exact ⟨ret_int HF.out.symm, Below.refl _ _⟩
  · have HF : Hid (R = szOf ((xs.drop 0).map wBat).sum (left - xs.length)) := by
      rw [hR, List.drop_zero, hW]
      by_cases hc : ((xs.length + (xs.map wBat).sum : Nat) : Int) ≤ left
      · rw [szOf_yes hc, szOf_yes (by omega)]
        show _ = _
        omega
      · rw [szOf_no hc, szOf_no (by omega)]
        exact rfl
    clear hR hW
    by_cases hn : xs.length = 0
    · have hxs : xs = [] := List.eq_nil_of_length_eq_zero hn
      subst hxs
      clear h4
      go_enter Tryz.func9, Tryz.ntmps9
      go_wp2
      refine wp_loop_rounds 1 ?_
      rw [rounds_succ]
      go_wp2
      go_ret
      exact ⟨ret_int (by rw [HF.out]; simp [szOf, hl0]), Below.refl _ _⟩
    · obtain ⟨g, off, rfl, hg, _, hc⟩ := h4 (by omega)
      have HC := hide hc
      clear hc h4
      go_enter Tryz.func9, Tryz.ntmps9
      go_wp2
      go_loopw [1, 5] (fun l i wr => ∃ (X : World) (k : Nat) (L : Int), X = wr ∧ k ≤ xs.length ∧ i = .int .i64 k ∧ l = .int .i64 L ∧ 0 ≤ L ∧ L ≤ 1048576 ∧ Hid (R = szOf ((xs.drop k).map wBat).sum L) ∧ Hid (Below w.heap.size w X)) (fun _ i _ => xs.length - (intOf i).toNat)
      case atStart => exact ⟨_, 0, _, rfl, Nat.zero_le _, rfl, rfl, by omega, by omega, HF.out, Below.refl _ _⟩
      case round =>
        obtain ⟨X, k, L, rfl, hk, rfl, rfl, hL0, hL1, HS, HB⟩ := hrel
        by_cases hlt : k < xs.length
        · obtain ⟨ha, hns, u, hu, hru⟩ := HC.out k hlt
          have hk0 := (HB.out.cell (p := ⟨g, off + k * 2, none⟩) hg).trans ha
          have hk1 := (HB.out.cell (p := ⟨g, off + k * 2 + 1, none⟩) hg).trans hu
          have HRU := hide (hru.below HB.out)
          obtain ⟨up, uc, rfl⟩ := hru.isSlice
          have HT := hide (szOf_step wBat xs k hlt L)
          have HNS := hide hns
          clear hu hru ha hns
          go_wp2_with fail
          refine (szBatch_any (xs[k]'hlt).1 _ (xs[k]'hlt).2 L _ HNS.out hL0 hL1 HRU.out).mono ?_
          rintro e w1 ⟨rfl, hb1⟩
          have HB1 := hide (HB.out.trans (hb1.mono HB.out.size))
          clear hb1
          rw [show (xs[k]'hlt).1.size + wMsgs (xs[k]'hlt).2 = wBat (xs[k]'hlt) from rfl]
          by_cases hneg : ((wBat (xs[k]'hlt) : Nat) : Int) ≤ L
          · rw [szOf_yes hneg]
            have HU : Hid (R = szOf ((xs.drop (k + 1)).map wBat).sum (L - ((wBat (xs[k]'hlt) : Nat) : Int))) := by rw [HS.out, HT.out]; exact if_pos hneg
            clear hk0 hk1
            go_wp2
            go_roundw
            case rel => exact ⟨_, k + 1, _, rfl, by omega, by go_num, rfl, by omega, by omega, HU, HB1⟩
            case measure => simp [intOf]; omega
          · rw [szOf_no hneg]
            have HU : Hid (R = -1) := by rw [HS.out, HT.out]; exact if_neg hneg
            clear hk0 hk1
            go_wp2
            go_ret
            exact ⟨ret_int HU.out.symm, HB1.out⟩
        · have HU : Hid (R = L) := by rw [HS.out, List.drop_eq_nil_of_le (by omega)]; exact szOf_zero hL0
          go_wp2
          go_ret
          exact ⟨ret_int HU.out.symm, HB.out⟩

theorem wBats_mem {xs : List Bat} {N : Nat} (h : wBats xs ≤ N) : xs.length ≤ N ∧ ∀ i (hi : i < xs.length), wMsgs xs[i].2 ≤ N ∧ xs[i].1.size ≤ N := by
  refine ⟨Nat.le_trans (wL_len _ xs) h, fun i hi => ?_⟩
  have h1 := wL_mem wBat (List.getElem_mem hi)
  have h0 : wL wBat xs ≤ N := h
  have h2 : wBat xs[i] = xs[i].1.size + wMsgs xs[i].2 := rfl
  omega

theorem Tryz.infoBatch : (Tryz.prog.info? 38).map (fun i => (i.zero, i.size, i.bytes)) = some (some (.agg #[.string ⟨#[]⟩, .slice none 0 0]), 2, 40) := by kernel_rfl
set_option maxHeartbeats 4000000 in
theorem toBatchS_any (v : Value) (xs : List Bat) (w : World) (hn : wBats xs ≤ 1048576) (hr : RBats 0 w v xs) :
    Calls Tryz.prog 14 #[v] w fun e w' => ∃ p c, e = .returned (.slice p xs.length c) ∧ RBats w.heap.size w' (.slice p xs.length c) xs ∧ Below w.heap.size w w' := by
  obtain ⟨i0, hi, hz0, hz1, hz2⟩ := info_parts Tryz.infoBatch
  obtain ⟨hl, hm⟩ := wBats_mem hn
  have HM := hide hm
  clear hn hm
  obtain ⟨p, cap, rfl, h1, h2, h4⟩ := hr
  have H4 := hide h4
  clear h4
  go_enter Tryz.func14, Tryz.ntmps14
  go_wp2_with (at_make; refine wpList_make_full _ rfl _ _ 27 rfl w.heap.size 38 i0 (.agg #[.string ⟨#[]⟩, .slice none 0 0]) 2 Tryz.underlying27 hi hz0 hz1 _ _ _ _ xs.length rfl rfl rfl rfl ?b2 ?b3 (Nat.le_refl _) ?_)
  case b2 => rw [hz2]; omega
  case b3 => unfold maxLen; omega
  intro w1 hown hgrow
  obtain ⟨Z, hZ, hZl⟩ := own_row hown
  have hb1 : Below w.heap.size w w1 := (Below.refl _ _).grown hgrow (Nat.le_refl _) (by simp)
  have HZ := hide hZ
  have HB := hide hb1
  have HL := hide hZl
  clear hZ hown hgrow hb1 hZl
  go_wp2_with fail
  go_loopw [4] (fun i wr => ∃ (X : World) (k : Nat) (cs : List Value), X = wr ∧ k ≤ xs.length ∧ i = .int .i64 k ∧ Hid (Row X w.heap.size 38 cs) ∧ Hid (Below w.heap.size w X) ∧ Hid (cs.length = xs.length * 2) ∧ Hid (∀ j (h2 : j < xs.length), j < k → cs[j * 2]? = some (.string xs[j].1) ∧ xs[j].1.size ≤ maxLen ∧ ∃ u, cs[j * 2 + 1]? = some u ∧ RMsgs (w.heap.size + 1) X u xs[j].2)) (fun i _ => xs.length - (intOf i).toNat)
  case atStart => exact ⟨_, 0, Z, rfl, Nat.zero_le _, rfl, HZ, HB, HL, hide (fun j _ h1 => absurd h1 (by omega))⟩
  case round =>
    obtain ⟨X, k, cs, rfl, hk, rfl, HRow, HBel, HLn, HEl⟩ := hrel
    by_cases hlt : k < xs.length
    · obtain ⟨g, off, hp, hg, _, hc⟩ := H4.out (by omega)
      subst hp
      obtain ⟨ha, hns, u, hu, hru⟩ := hc k hlt
      have hk0 := (HBel.out.cell (p := ⟨g, off + k * 2, none⟩) hg).trans ha
      have hk1 := (HBel.out.cell (p := ⟨g, off + k * 2 + 1, none⟩) hg).trans hu
      have HRU := hide (hru.below HBel.out)
      obtain ⟨up, uc, rfl⟩ := hru.isSlice
      have HNS := hide hns
      have hlt0 := HRow.out.lt
      clear hu hru hc ha hns
      go_wp2_with fail
      refine (toBatch_any (xs[k]'hlt).1 _ (xs[k]'hlt).2 _ (HM.out k hlt).1 HRU.out).mono ?_
      rintro e w2 ⟨p2, c2, rfl, hr2, hb2⟩
      have row2 := HRow.out.below hb2 hlt0
      obtain ⟨z0, hz0'⟩ := row2.some (k * 2) (by rw [HLn.out]; omega)
      obtain ⟨z1, hz1'⟩ := row2.some (k * 2 + 1) (by rw [HLn.out]; omega)
      have hf0 := row2.free (k * 2)
      have hf1 := row2.free (k * 2 + 1)
      have hnext := (row2.set (j := k * 2) (.string (xs[k]'hlt).1)).set (j := k * 2 + 1) (.slice p2 (xs[k]'hlt).2.length c2)
      have HN := hide hnext
      have HMB := hide (((HBel.out.trans (hb2.mono HBel.out.size)).setCell (p := ⟨w.heap.size, k * 2, none⟩) (Nat.le_refl _) (.string (xs[k]'hlt).1)).setCell (p := ⟨w.heap.size, k * 2 + 1, none⟩) (Nat.le_refl _) (.slice p2 (xs[k]'hlt).2.length c2))
      have HLn2 : Hid (((cs.set (k * 2) (.string (xs[k]'hlt).1)).set (k * 2 + 1) (.slice p2 (xs[k]'hlt).2.length c2)).length = xs.length * 2) := by rw [List.length_set, List.length_set]; exact HLn
      have HEl2 : Hid (∀ j (h2 : j < xs.length), j < k + 1 → ((cs.set (k * 2) (.string (xs[k]'hlt).1)).set (k * 2 + 1) (.slice p2 (xs[k]'hlt).2.length c2))[j * 2]? = some (.string xs[j].1) ∧ xs[j].1.size ≤ maxLen ∧ ∃ u, ((cs.set (k * 2) (.string (xs[k]'hlt).1)).set (k * 2 + 1) (.slice p2 (xs[k]'hlt).2.length c2))[j * 2 + 1]? = some u ∧ RMsgs (w.heap.size + 1) ((w2.setCell ⟨w.heap.size, k * 2, none⟩ (.string (xs[k]'hlt).1)).setCell ⟨w.heap.size, k * 2 + 1, none⟩ (.slice p2 (xs[k]'hlt).2.length c2)) u xs[j].2) := by
        intro j h2 h3
        have hll := HLn.out
        by_cases hj : j < k
        · obtain ⟨e1, e2, u, e3, e4⟩ := HEl.out j h2 hj
          refine ⟨?_, e2, u, ?_, Lasts.go (B := w.heap.size + 1) (Same.set _ _ (by omega)) (Lasts.go (B := w.heap.size + 1) (Same.set _ _ (by omega)) (Lasts.go (B := w.heap.size + 1) (Same.of hb2) e4))⟩
          · rw [List.getElem?_set_ne (by omega), List.getElem?_set_ne (by omega)]; exact e1
          · rw [List.getElem?_set_ne (by omega), List.getElem?_set_ne (by omega)]; exact e3
        · have e : j = k := by omega
          subst e
          refine ⟨?_, HNS.out, .slice p2 (xs[j]'hlt).2.length c2, ?_, Lasts.go (B := w.heap.size + 1) (Same.set _ _ (by omega)) (Lasts.go (B := w.heap.size + 1) (Same.set _ _ (by omega)) (RMsgs.mono hr2 (by omega)))⟩
          · rw [List.getElem?_set_ne (by omega), List.getElem?_set_self (by omega)]
          · rw [List.getElem?_set_self (by rw [List.length_set]; omega)]
      clear hnext row2 hr2 hb2 hlt0 hk0 hk1
      go_wp2
      go_roundw
      case rel => exact ⟨_, k + 1, _, rfl, by omega, by go_num, HN, HMB, HLn2, HEl2⟩
      case measure => simp [intOf]; omega
    · have HE : Hid (RBats w.heap.size X (.slice (some ⟨w.heap.size, 0, none⟩) xs.length xs.length) xs) := by
        refine ⟨_, _, rfl, Nat.le_refl _, by unfold maxLen; omega, fun _ => ⟨w.heap.size, 0, rfl, HRow.out.lt, Nat.le_refl _, fun i hi => ?_⟩⟩
        obtain ⟨e1, e2, u, e3, e4⟩ := HEl.out i hi (by omega)
        refine ⟨by rw [Nat.zero_add, HRow.out.cell]; exact e1, e2, u, by rw [Nat.zero_add, HRow.out.cell]; exact e3, RMsgs.mono e4 (by omega)⟩
      go_wp2
      go_ret
      exact ⟨_, _, rfl, HE.out, HBel.out⟩
end Go.Proofs.YtolgjdnhhbbebaaGreatDoor
/- Batches and Files in memory, and the laws' own helpers over them. -/
namespace Go.Proofs.YtolgjdnhhbbebaaGreatDoor
open Go.RowKit
set_option maxHeartbeats 2000000 in
theorem eqBatchS_same (v v' : Value) (xs : List Bat) (B B' : Nat) (w : World) (hn : wBats xs ≤ 1048576) (hr : RBats B w v xs) (hr' : RBats B' w v' xs) :
    Calls Tryz.prog 20 #[v, v'] w fun e w' => e = .returned (.bool true) ∧ Below w.heap.size w w' := by
  obtain ⟨hl, hm⟩ := wBats_mem hn
  have HM := hide hm
  clear hn hm
  obtain ⟨p, cap, rfl, h1, h2, h4⟩ := hr
  obtain ⟨p', cap', rfl, h1', h2', h4'⟩ := hr'
  have H4 := hide h4
  have H4' := hide h4'
  clear h4 h4'
  unfold maxLen at h2 h2'
  by_cases hx : xs.length = 0
  · have hxs : xs = [] := List.eq_nil_of_length_eq_zero hx
    subst hxs
    go_enter Tryz.func20, Tryz.ntmps20
    go_wp2
    refine wp_loop_rounds 1 ?_
    rw [rounds_succ]
    go_wp2
    go_ret
    exact ⟨rfl, Below.refl _ _⟩
  obtain ⟨g, off, hp, hg, _, hc⟩ := H4.out (by omega)
  obtain ⟨g', off', hp', hg', _, hc'⟩ := H4'.out (by omega)
  subst hp hp'
  have HC := hide hc
  have HC' := hide hc'
  clear hc hc'
  go_enter Tryz.func20, Tryz.ntmps20
  go_wp2
  go_loopw [5] (fun i wr => ∃ (X : World) (k : Nat), X = wr ∧ k ≤ xs.length ∧ i = .int .i64 k ∧ Hid (Below w.heap.size w X)) (fun i _ => xs.length - (intOf i).toNat)
  case atStart => exact ⟨_, 0, rfl, Nat.zero_le _, rfl, Below.refl _ _⟩
  case round =>
    obtain ⟨X, k, rfl, hk, rfl, HBel⟩ := hrel
    by_cases hlt : k < xs.length
    · obtain ⟨ha, hns, u, hu, hru⟩ := HC.out k hlt
      obtain ⟨ha', _, u', hu', hru'⟩ := HC'.out k hlt
      have HU := hide hru
      have HU' := hide hru'
      obtain ⟨up, uc, rfl⟩ := hru.isSlice
      obtain ⟨up', uc', rfl⟩ := hru'.isSlice
      have hki : (k : Int) < (xs.length : Int) := by omega
      have HS := hide (show ∀ x, Below X.heap.size X x → x.cell? ⟨g, off + k * 2, none⟩ = some (.string (xs[k]'hlt).1) ∧ x.cell? ⟨g, off + k * 2 + 1, none⟩ = some (.slice up (xs[k]'hlt).2.length uc) ∧ x.cell? ⟨g', off' + k * 2, none⟩ = some (.string (xs[k]'hlt).1) ∧ x.cell? ⟨g', off' + k * 2 + 1, none⟩ = some (.slice up' (xs[k]'hlt).2.length uc') ∧ Below X.heap.size X x from
        fun x h => by
          have hb := HBel.out.trans (h.mono HBel.out.size)
          exact ⟨(hb.cell (p := ⟨g, off + k * 2, none⟩) hg).trans ha, (hb.cell (p := ⟨g, off + k * 2 + 1, none⟩) hg).trans hu, (hb.cell (p := ⟨g', off' + k * 2, none⟩) hg').trans ha', (hb.cell (p := ⟨g', off' + k * 2 + 1, none⟩) hg').trans hu', h⟩)
      clear hu hu' hru hru' ha ha' hns
      go_wp2_with fail
      go_region_held3 (fun x => x.cell? ⟨g, off + k * 2, none⟩ = some (.string (xs[k]'hlt).1) ∧ x.cell? ⟨g, off + k * 2 + 1, none⟩ = some (.slice up (xs[k]'hlt).2.length uc) ∧ x.cell? ⟨g', off' + k * 2, none⟩ = some (.string (xs[k]'hlt).1) ∧ x.cell? ⟨g', off' + k * 2 + 1, none⟩ = some (.slice up' (xs[k]'hlt).2.length uc') ∧ Below X.heap.size X x)
        ((go_split_ands; refine HS.out _ ?_; repeat (first | with_reducible assumption | with_reducible exact Below.refl _ _ | with_reducible refine Below.drew ?_)))
        ((go_at_call 34; go_split_ands; refine (eqBatch_same (xs[k]'hlt).1 _ _ (xs[k]'hlt).2 B B' _ (HM.out k hlt).1 (Lasts.go (B := B) (Same.of (HBel.out.trans (Below.mono (by assumption) HBel.out.size))) HU.out) (Lasts.go (B := B') (Same.of (HBel.out.trans (Below.mono (by assumption) HBel.out.size))) HU'.out)).mono ?_; rintro e w3 ⟨rfl, hb3⟩; have hB3 : Below X.heap.size X w3 := Below.trans (by assumption) (hb3.mono (Below.size (by assumption))); clear hb3))
      all_goals
        have HB3 := hide (HBel.out.trans (hB3.mono HBel.out.size))
        clear hB3
        go_wp2
        go_roundw
        case rel => exact ⟨_, k + 1, rfl, by omega, by go_num, HB3⟩
        case measure => simp [intOf]; omega
    · go_wp2
      go_ret
      exact ⟨rfl, HBel.out⟩
set_option maxHeartbeats 2000000 in
theorem szFile_any (n : ByteArray) (u : Value) (x : List Bat) (left : Int) (w : World) (hn : n.size ≤ maxLen) (hl0 : 0 ≤ left) (hl : left ≤ 1048576) (hr : RBats 0 w u x) :
    Calls Tryz.prog 4 #[.agg #[.string n, u], .int .i64 left] w fun e w' => e = .returned (.int .i64 (szOf (n.size + wBats x) left)) ∧ Below w.heap.size w w' := by
  unfold maxLen at hn
  have HB0 : Hid (∀ p c, Below w.heap.size w (w.alloc (.cells #[.string n, .slice p x.length c] 24))) := fun p c => (Below.refl _ _).alloc (Nat.le_refl _) _
  have HR := hide hr
  obtain ⟨p, c, rfl⟩ := hr.isSlice
  clear hr
  by_cases h0 : left - (n.size : Int) < 0
  · have HS := hide (show szOf (n.size + wBats x) left = -1 from szOf_no (by omega))
    go_enter Tryz.func4, Tryz.ntmps4
    go_wp2
    go_ret
    exact ⟨ret_int HS.out.symm, HB0.out _ _⟩
  · go_enter Tryz.func4, Tryz.ntmps4
    go_wp2_with fail
    refine (szBatchS_any _ x (left - (n.size : Int)) _ (by omega) (by omega) (HR.out.below (HB0.out _ _))).mono ?_
    rintro e w1 ⟨rfl, hb1⟩
    have HB := hide ((HB0.out p c).trans (hb1.mono (by simp)))
    clear hb1
    by_cases h : ((wBats x : Nat) : Int) ≤ left - (n.size : Int)
    · have HS := hide (show szOf (n.size + wBats x) left = left - (n.size : Int) - ((wBats x : Nat) : Int) by rw [szOf_yes (by omega)]; omega)
      rw [szOf_yes h]
      go_wp2
      go_ret
      exact ⟨ret_int HS.out.symm, HB.out⟩
    · have HS := hide (show szOf (n.size + wBats x) left = -1 from szOf_no (by omega))
      rw [szOf_no h]
      go_wp2
      go_ret
      exact ⟨ret_int HS.out.symm, HB.out⟩

set_option maxHeartbeats 2000000 in
theorem toFile_any (n : ByteArray) (u : Value) (x : List Bat) (w : World) (hn : wBats x ≤ 1048576) (hr : RBats 0 w u x) :
    Calls Tryz.prog 6 #[.agg #[.string n, u]] w fun e w' => ∃ p c, e = .returned (.agg #[.string n, .slice p x.length c]) ∧ RBats w.heap.size w' (.slice p x.length c) x ∧ Below w.heap.size w w' := by
  obtain ⟨p, c, rfl⟩ := hr.isSlice
  obtain ⟨W, hW⟩ : ∃ W, W = (((w.alloc (.cells #[.string n, .slice p x.length c] 24)).alloc (.cells #[.string ⟨#[]⟩, .slice none 0 0] 29)).alloc (.cells #[.string n, .slice none 0 0] 29)) := ⟨_, rfl⟩
  have hb0 : Below w.heap.size w W := by rw [hW]; exact (((Below.refl _ _).alloc (Nat.le_refl _) _).alloc (by simp) _).alloc (by simp; omega) _
  have HR := hide (hr.below hb0)
  have HB0 := hide hb0
  have R1 : Row W (w.heap.size + 1) 29 [.string ⟨#[]⟩, .slice none 0 0] := by
    rw [hW]
    have := (row_new (w.alloc (.cells #[.string n, .slice p x.length c] 24)) [.string ⟨#[]⟩, .slice none 0 0] 29).alloc (.cells #[.string n, .slice none 0 0] 29)
    simpa using this
  have R2 : Row W (w.heap.size + 2) 29 [.string n, .slice none 0 0] := by
    rw [hW]
    have := row_new ((w.alloc (.cells #[.string n, .slice p x.length c] 24)).alloc (.cells #[.string ⟨#[]⟩, .slice none 0 0] 29)) [.string n, .slice none 0 0] 29
    simpa using this
  have hsz : W.heap.size = w.heap.size + 3 := by rw [hW]; simp
  clear hr hb0
  go_enter Tryz.func6, Tryz.ntmps6
  go_wp2_with fail
  rw [← hW]
  refine (toBatchS_any _ x _ hn HR.out).mono ?_
  rintro e w1 ⟨p1, c1, rfl, hr1, hb1⟩
  clear hW
  have r1 := R1.below hb1 (by omega)
  have r2 := R2.below hb1 (by omega)
  have f2 : w1.cell? ⟨w.heap.size + 2, 1, none⟩ = some (.slice none 0 0) := r2.cell 1
  have z2 := r2.free 1
  have s2 := r2.set (j := 1) (.slice p1 x.length c1)
  have s1 := r1.other (b := w.heap.size + 2) (j := 1) (by omega) (.slice p1 x.length c1)
  have g2 : (w1.setCell ⟨w.heap.size + 2, 1, none⟩ (.slice p1 x.length c1)).cell? ⟨w.heap.size + 2, 1, none⟩ = some (.slice p1 x.length c1) := s2.cell 1
  have g20 : (w1.setCell ⟨w.heap.size + 2, 1, none⟩ (.slice p1 x.length c1)).cell? ⟨w.heap.size + 2, 0, none⟩ = some (.string n) := s2.cell 0
  have g1 : (w1.setCell ⟨w.heap.size + 2, 1, none⟩ (.slice p1 x.length c1)).cell? ⟨w.heap.size + 1, 0, none⟩ = some (.string ⟨#[]⟩) := s1.cell 0
  have g11 : (w1.setCell ⟨w.heap.size + 2, 1, none⟩ (.slice p1 x.length c1)).cell? ⟨w.heap.size + 1, 1, none⟩ = some (.slice none 0 0) := s1.cell 1
  have z1 := s1.free 0
  have z11 := s1.free 1
  have t1 := (s1.set (j := 0) (.string n)).set (j := 1) (.slice p1 x.length c1)
  have q0 : (((w1.setCell ⟨w.heap.size + 2, 1, none⟩ (.slice p1 x.length c1)).setCell ⟨w.heap.size + 1, 0, none⟩ (.string n)).setCell ⟨w.heap.size + 1, 1, none⟩ (.slice p1 x.length c1)).cell? ⟨w.heap.size + 1, 0, none⟩ = some (.string n) := t1.cell 0
  have q1 : (((w1.setCell ⟨w.heap.size + 2, 1, none⟩ (.slice p1 x.length c1)).setCell ⟨w.heap.size + 1, 0, none⟩ (.string n)).setCell ⟨w.heap.size + 1, 1, none⟩ (.slice p1 x.length c1)).cell? ⟨w.heap.size + 1, 1, none⟩ = some (.slice p1 x.length c1) := t1.cell 1
  rw [hsz] at hr1
  have HRE := hide (RBats.mono (((hr1.same (Same.set w1 (g := w.heap.size + 2) (j := 1) (.slice p1 x.length c1) (by omega))).same (Same.set _ _ (by omega))).same (Same.set _ _ (by omega))) (by omega : w.heap.size ≤ w.heap.size + 3) : RBats w.heap.size (((w1.setCell ⟨w.heap.size + 2, 1, none⟩ (.slice p1 x.length c1)).setCell ⟨w.heap.size + 1, 0, none⟩ (.string n)).setCell ⟨w.heap.size + 1, 1, none⟩ (.slice p1 x.length c1)) (.slice p1 x.length c1) x)
  have HBE := hide ((((HB0.out.trans (hb1.mono (by omega))).setCell (p := ⟨w.heap.size + 2, 1, none⟩) (by show w.heap.size ≤ w.heap.size + 2; omega) (.slice p1 x.length c1)).setCell (p := ⟨w.heap.size + 1, 0, none⟩) (by show w.heap.size ≤ w.heap.size + 1; omega) (.string n)).setCell (p := ⟨w.heap.size + 1, 1, none⟩) (by show w.heap.size ≤ w.heap.size + 1; omega) (.slice p1 x.length c1))
  clear hr1 hb1 r1 r2 s1 s2 t1
  go_wp2
  exact bodyPost_ret (v := .agg #[.string n, .slice p1 x.length c1]) (by simp [results, Tryz.results6, go_sem, q0, q1]) rfl ⟨_, _, rfl, HRE.out, HBE.out⟩

set_option maxHeartbeats 1000000 in
theorem eqFile_same (n : ByteArray) (u u' : Value) (x : List Bat) (B B' : Nat) (w : World) (hn : wBats x ≤ 1048576) (hr : RBats B w u x) (hr' : RBats B' w u' x) :
    Calls Tryz.prog 8 #[.agg #[.string n, u], .agg #[.string n, u']] w fun e w' => e = .returned (.bool true) ∧ Below w.heap.size w w' := by
  have HR := hide hr
  have HR' := hide hr'
  obtain ⟨p, c, rfl⟩ := hr.isSlice
  obtain ⟨p', c', rfl⟩ := hr'.isSlice
  clear hr hr'
  have HB0 := hide (((Below.refl w.heap.size w).alloc (Nat.le_refl _) (.cells #[.string n, .slice p x.length c] 29)).alloc (by simp) (.cells #[.string n, .slice p' x.length c'] 29))
  go_enter Tryz.func8, Tryz.ntmps8
  go_wp2_with fail
  refine (eqBatchS_same _ _ x B B' _ hn (HR.out.below HB0.out) (HR'.out.below HB0.out)).mono ?_
  rintro e w1 ⟨rfl, hb1⟩
  have HB := hide (HB0.out.trans (hb1.mono (by simp; omega)))
  clear hb1
  go_wp2
  go_ret
  exact ⟨rfl, HB.out⟩
end Go.Proofs.YtolgjdnhhbbebaaGreatDoor
