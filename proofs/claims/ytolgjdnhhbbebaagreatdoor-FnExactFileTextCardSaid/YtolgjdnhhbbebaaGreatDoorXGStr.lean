/- The laws' own helpers over lists of texts: how much they take together, a copy, are two alike. -/
import Derived.Test.YtolgjdnhhbbebaaGreatDoorRows
import Derived.Test.YtolgjdnhhbbebaaGreatDoorXGMem
import Derived.RegionTactic
namespace Go.Proofs.YtolgjdnhhbbebaaGreatDoor
open Go.RowKit

/-- What is left of 'left' behind the lengths of the texts; -1, if there is not enough. -/
def szS : List ByteArray → Int → Int
  | [], left => left
  | x :: r, left => if left - x.size < 0 then -1 else szS r (left - x.size)
def szStrs (xs : List ByteArray) (left : Int) : Int := if left - xs.length < 0 then -1 else szS xs (left - xs.length)

theorem szS_step (xs : List ByteArray) (k : Nat) (h : k < xs.length) (L : Int) : szS (xs.drop k) L = if L - (xs[k]'h).size < 0 then -1 else szS (xs.drop (k + 1)) (L - (xs[k]'h).size) := by
  rw [List.drop_eq_getElem_cons h, szS]
theorem szS_le (xs : List ByteArray) : ∀ left : Int, 0 ≤ szS xs left → szS xs left ≤ left ∧ ∀ x ∈ xs, (x.size : Int) ≤ left := by
  induction xs with
  | nil => intro left _; exact ⟨Int.le_refl _, by simp⟩
  | cons x r ih =>
    intro left h
    rw [szS] at h ⊢
    split at h
    · omega
    · rename_i hx
      rw [if_neg hx]
      obtain ⟨h1, h2⟩ := ih _ h
      refine ⟨by omega, ?_⟩
      intro y hy
      simp at hy
      rcases hy with rfl | hy
      · omega
      · have := h2 y hy; omega
theorem szStrs_le (xs : List ByteArray) (left : Int) (h : 0 ≤ szStrs xs left) : szStrs xs left ≤ left ∧ (xs.length : Int) ≤ left ∧ ∀ x ∈ xs, (x.size : Int) ≤ left := by
  unfold szStrs at h ⊢
  split at h
  · omega
  · rename_i hx
    rw [if_neg hx]
    obtain ⟨h1, h2⟩ := szS_le xs _ h
    exact ⟨by omega, by omega, fun x hx => by have := h2 x hx; omega⟩

set_option maxHeartbeats 1000000 in
theorem szStringS_any (v : Value) (xs : List ByteArray) (left : Int) (w : World) (hl0 : 0 ≤ left) (hl : left ≤ 1048576) (hr : Reads w v xs) :
    Calls Tryz.prog 140 #[v, .int .i64 left] w fun e w' => e = .returned (.int .i64 (szStrs xs left)) ∧ w' = w := by
  obtain ⟨p, cap, rfl, h1, h2, h3, h4⟩ := hr
  unfold maxLen at h2
  by_cases h0 : left - xs.length < 0
  · have HF : Hid (szStrs xs left = -1) := if_pos h0
    have hx : 0 < xs.length := by omega
    clear h4
    go_enter Tryz.func140, Tryz.ntmps140
    go_wp2
    go_ret
    exact ⟨ret_int HF.out.symm, rfl⟩
  · have HF : Hid (szStrs xs left = szS xs (left - xs.length)) := if_neg h0
    by_cases hn : xs.length = 0
    · have hxs : xs = [] := List.eq_nil_of_length_eq_zero hn
      subst hxs
      clear h4 h3
      go_enter Tryz.func140, Tryz.ntmps140
      go_wp2
      refine wp_loop_rounds 1 ?_
      rw [rounds_succ]
      go_wp2
      go_ret
      exact ⟨ret_int (by rw [HF.out]; simp [szS]), rfl⟩
    · obtain ⟨g, off, rfl, hg, hc⟩ := h4 (by omega)
      have HC := hide hc
      have H3 := hide h3
      clear hc h3 h4
      go_enter Tryz.func140, Tryz.ntmps140
      go_wp2
      go_loop [1, 5] (fun l i => ∃ (k : Nat) (L : Int), k ≤ xs.length ∧ i = .int .i64 k ∧ l = .int .i64 L ∧ 0 ≤ L ∧ L ≤ 1048576 ∧ Hid (szStrs xs left = szS (xs.drop k) L)) (fun _ i => xs.length - (intOf i).toNat)
      case atStart => exact ⟨0, _, Nat.zero_le _, rfl, rfl, by omega, by omega, HF.out⟩
      case round =>
        obtain ⟨k, L, hk, rfl, rfl, hL0, hL1, HS⟩ := hrel
        by_cases hlt : k < xs.length
        · have hck := HC.out k hlt
          have hsz : ((xs[k]'hlt).size : Int) ≤ 9223372036854775807 := by have := H3.out (xs[k]'hlt) (List.getElem_mem hlt); unfold maxLen at this; omega
          have HT := hide (szS_step xs k hlt L)
          by_cases hneg : L - ((xs[k]'hlt).size : Int) < 0
          · have HU : Hid (szStrs xs left = -1) := by rw [HS.out, HT.out]; exact if_pos hneg
            go_wp2
            go_ret
            exact ⟨ret_int HU.out.symm, rfl⟩
          · have HU : Hid (szStrs xs left = szS (xs.drop (k + 1)) (L - ((xs[k]'hlt).size : Int))) := by rw [HS.out, HT.out]; exact if_neg hneg
            go_wp2
            go_round
            case rel => exact ⟨k + 1, _, by omega, by go_num, rfl, by omega, by omega, HU⟩
            case measure => simp [intOf]; omega
        · have HU : Hid (szStrs xs left = L) := by rw [HS.out, List.drop_eq_nil_of_le (by omega)]; exact rfl
          go_wp2
          go_ret
          exact ⟨ret_int HU.out.symm, rfl⟩

theorem Tryz.infoStr : (Tryz.prog.info? 9).map (fun i => (i.zero, i.size, i.bytes)) = some (some (.string ⟨#[]⟩), 1, 16) := by kernel_rfl

set_option maxHeartbeats 1000000 in
theorem toStringS_any (v : Value) (xs : List ByteArray) (w : World) (hn : xs.length ≤ 1048576) (hr : Reads w v xs) :
    Calls Tryz.prog 141 #[v] w fun e w' => e = .returned (.slice (some ⟨w.heap.size, 0, none⟩) xs.length xs.length) ∧ Row w' w.heap.size 9 (strs xs) ∧ Below w.heap.size w w' := by
  obtain ⟨i0, hi, hz0, hz1, hz2⟩ := info_parts Tryz.infoStr
  have HR := hide hr
  obtain ⟨p, cap, rfl, h1, h2, h3, h4⟩ := hr
  have H4 := hide h4
  clear h3 h4
  go_enter Tryz.func141, Tryz.ntmps141
  go_wp2_with (at_make; refine wpList_make_full _ rfl _ _ 46 rfl w.heap.size 9 i0 (.string ⟨#[]⟩) 1 Tryz.underlying46 hi hz0 hz1 _ _ _ _ xs.length rfl rfl rfl rfl ?b2 ?b3 (Nat.le_refl _) ?_)
  case b2 => rw [hz2]; omega
  case b3 => unfold maxLen; omega
  intro w1 hown hgrow
  obtain ⟨Z, hZ, hZl⟩ := own_row hown
  rw [Nat.mul_one] at hZl
  have hb1 : Below w.heap.size w w1 := (Below.refl _ _).grown hgrow (Nat.le_refl _) (by simp)
  have HZ := hide hZ
  have HB := hide hb1
  have HL := hide hZl
  clear hZ hown hgrow hb1 hZl
  go_wp2_with fail
  go_loopw [4] (fun i wr => ∃ k : Nat, k ≤ xs.length ∧ i = .int .i64 k ∧ Hid (Row wr w.heap.size 9 (strs (xs.take k) ++ Z.drop k)) ∧ Hid (Below w.heap.size w wr)) (fun i _ => xs.length - (intOf i).toNat)
  case atStart => exact ⟨0, Nat.zero_le _, rfl, HZ.out, HB⟩
  case round =>
    obtain ⟨k, hk, rfl, HRow, HBel⟩ := hrel
    by_cases hlt : k < xs.length
    · obtain ⟨g, off, hp, hg, hc⟩ := H4.out (by omega)
      subst hp
      have hck : wr.cell? ⟨g, off + k, none⟩ = some (.string (xs[k]'hlt)) := by rw [HBel.out.cell (p := ⟨g, off + k, none⟩) hg]; exact hc k hlt
      obtain ⟨u, hu⟩ := HRow.out.some k (by rw [len_next xs Z k hk HL.out]; exact hlt)
      have hf := HRow.out.free k
      have hnext := HRow.out.set (j := k) (.string (xs[k]'hlt))
      rw [set_next xs Z k hlt HL.out] at hnext
      have HN := hide hnext
      have HM := hide (HBel.out.setCell (p := ⟨w.heap.size, k, none⟩) (Nat.le_refl _) (.string (xs[k]'hlt)))
      clear hnext hc
      go_wp2
      go_roundw
      case rel => exact ⟨k + 1, by omega, by go_num, HN, HM⟩
      case measure => simp [intOf]; omega
    · have HE : Hid (Row wr w.heap.size 9 (strs xs)) := by
        have := HRow.out
        rw [List.take_of_length_le (by omega), List.drop_eq_nil_of_le (by rw [HL.out]; omega), List.append_nil] at this
        exact this
      go_wp2
      go_ret
      exact ⟨rfl, HE.out, HBel.out⟩

set_option maxHeartbeats 1000000 in
theorem eqStringS_same (v v' : Value) (xs : List ByteArray) (w : World) (hn : xs.length ≤ 1048576) (hr : Reads w v xs) (hr' : Reads w v' xs) :
    Calls Tryz.prog 142 #[v, v'] w fun e w' => e = .returned (.bool true) ∧ Below w.heap.size w w' := by
  obtain ⟨p, cap, rfl, h1, h2, h3, h4⟩ := hr
  obtain ⟨p', cap', rfl, h1', h2', h3', h4'⟩ := hr'
  have H4 := hide h4
  have H4' := hide h4'
  clear h3 h3' h4 h4'
  unfold maxLen at h2 h2'
  by_cases hx : xs.length = 0
  · have hxs : xs = [] := List.eq_nil_of_length_eq_zero hx
    subst hxs
    go_enter Tryz.func142, Tryz.ntmps142
    go_wp2
    refine wp_loop_rounds 1 ?_
    rw [rounds_succ]
    go_wp2
    go_ret
    exact ⟨rfl, Below.refl _ _⟩
  obtain ⟨g, off, hp, hg, hc⟩ := H4.out (by omega)
  obtain ⟨g', off', hp', hg', hc'⟩ := H4'.out (by omega)
  subst hp hp'
  have HC := hide hc
  have HC' := hide hc'
  clear hc hc'
  go_enter Tryz.func142, Tryz.ntmps142
  go_wp2
  go_loopw [5] (fun i wr => ∃ k : Nat, k ≤ xs.length ∧ i = .int .i64 k ∧ Hid (Below w.heap.size w wr)) (fun i _ => xs.length - (intOf i).toNat)
  case atStart => exact ⟨0, Nat.zero_le _, rfl, Below.refl _ _⟩
  case round =>
    obtain ⟨k, hk, rfl, HBel⟩ := hrel
    by_cases hlt : k < xs.length
    · have hck : wr.cell? ⟨g, off + k, none⟩ = some (.string (xs[k]'hlt)) := by rw [HBel.out.cell (p := ⟨g, off + k, none⟩) hg]; exact HC.out k hlt
      have hck' : wr.cell? ⟨g', off' + k, none⟩ = some (.string (xs[k]'hlt)) := by rw [HBel.out.cell (p := ⟨g', off' + k, none⟩) hg']; exact HC'.out k hlt
      have hki : (k : Int) < (xs.length : Int) := by omega
      go_wp2
      go_region
      go_wp2
      go_roundw
      case rel => exact ⟨k + 1, by omega, by go_num, HBel.out.drew⟩
      case measure => simp [intOf]; omega
    · go_wp2
      go_ret
      exact ⟨rfl, HBel.out⟩
end Go.Proofs.YtolgjdnhhbbebaaGreatDoor
/- The laws' own measure of a Field. -/
namespace Go.Proofs.YtolgjdnhhbbebaaGreatDoor
open Go.RowKit

theorem szStrs_eq (xs : List ByteArray) (left : Int) : szStrs xs left = szOf (wComp xs) left := by
  have key : ∀ (ys : List ByteArray) (L : Int), 0 ≤ L → szS ys L = szOf (ys.map ByteArray.size).sum L := by
    intro ys
    induction ys with
    | nil => intro L hL; simp [szS, szOf, hL]
    | cons y r ih =>
      intro L hL
      rw [szS]
      simp only [List.map_cons, List.sum_cons]
      by_cases hy : L - (y.size : Int) < 0
      · rw [if_pos hy, szOf_no (by omega)]
      · rw [if_neg hy, ih _ (by omega)]
        unfold szOf
        split <;> split <;> omega
  unfold szStrs wComp wL
  by_cases hx : left - (xs.length : Int) < 0
  · rw [if_pos hx, szOf_no (by omega)]
  · rw [if_neg hx, key _ _ (by omega)]
    unfold szOf
    split <;> split <;> omega

theorem below_newF (w : World) (o : Obj) : Below w.heap.size w (w.alloc o) := (Below.refl _ _).alloc (Nat.le_refl _) _
theorem szStringS2_any (v : Value) (xs : List ByteArray) (left : Int) (w : World) (hl0 : 0 ≤ left) (hl : left ≤ 1048576) (hr : RComp 0 w v xs) :
    Calls Tryz.prog 140 #[v, .int .i64 left] w fun e w' => e = .returned (.int .i64 (szOf (wComp xs) left)) ∧ Below w.heap.size w w' :=
  (szStringS_any v xs left w hl0 hl hr.reads).mono fun e w' h => ⟨by rw [h.1, szStrs_eq xs left], by rw [h.2]; exact Below.refl _ _⟩

set_option maxHeartbeats 1000000 in
theorem szComp_any (u : Value) (x : List ByteArray) (left : Int) (w : World) (hl0 : 0 ≤ left) (hl : left ≤ 1048576) (hr : RComp 0 w u x) :
    Calls Tryz.prog 137 #[.agg #[u], .int .i64 left] w fun e w' => e = .returned (.int .i64 (szOf (wComp x) left)) ∧ Below w.heap.size w w' := by
  have HR := hide hr
  obtain ⟨p, c, rfl⟩ := hr.isSlice
  clear hr
  go_enter Tryz.func137, Tryz.ntmps137
  go_wp2_with fail
  refine (szStringS2_any _ x left _ hl0 hl (HR.out.below (below_newF _ _))).mono ?_
  rintro e w1 ⟨rfl, hb1⟩
  have HB := hide (((Below.refl w.heap.size w).alloc (Nat.le_refl _) (.cells #[.slice p x.length c] 188)).trans (hb1.mono (by simp)))
  clear hb1
  by_cases h : ((wComp x : Nat) : Int) ≤ left
  · have HS := hide (szOf_yes h)
    rw [szOf_yes h]
    go_wp2
    go_ret
    exact ⟨ret_int HS.out.symm, HB.out⟩
  · have HS := hide (szOf_no h)
    rw [szOf_no h]
    go_wp2
    go_ret
    exact ⟨ret_int HS.out.symm, HB.out⟩

set_option maxHeartbeats 2000000 in
theorem szCompS_any (v : Value) (xs : List (List ByteArray)) (left : Int) (w : World) (hl0 : 0 ≤ left) (hl : left ≤ 1048576) (hr : RL 0 (RComp 0) w v xs) :
    Calls Tryz.prog 134 #[v, .int .i64 left] w fun e w' => e = .returned (.int .i64 (szOf (wRep xs) left)) ∧ Below w.heap.size w w' := by
  obtain ⟨p, cap, rfl, h1, h2, h4⟩ := hr
  unfold maxLen at h2
  have hW : wRep xs = xs.length + (xs.map wComp).sum := rfl
  obtain ⟨R, hR⟩ : ∃ R, R = szOf (wRep xs) left := ⟨_, rfl⟩
  rw [← hR]
  by_cases h0 : left - xs.length < 0
  · have HF : Hid (R = -1) := by rw [hR]; exact szOf_no (by rw [hW]; omega)
    have hx : 0 < xs.length := by omega
    clear h4 hR hW
    go_enter Tryz.func134, Tryz.ntmps134
    go_wp2
    go_ret
    exact ⟨ret_int HF.out.symm, Below.refl _ _⟩
  · have HF : Hid (R = szOf ((xs.drop 0).map wComp).sum (left - xs.length)) := by
      rw [hR, List.drop_zero, hW]
      by_cases hc : ((xs.length + (xs.map wComp).sum : Nat) : Int) ≤ left
      · rw [szOf_yes hc, szOf_yes (by omega)]
        show _ = _
        omega
      · rw [szOf_no hc, szOf_no (by omega)]
        exact rfl
    clear hR hW
    by_cases hn : xs.length = 0
    · have hxs : xs = [] := List.eq_nil_of_length_eq_zero hn
      subst hxs
      clear h4
      go_enter Tryz.func134, Tryz.ntmps134
      go_wp2
      refine wp_loop_rounds 1 ?_
      rw [rounds_succ]
      go_wp2
      go_ret
      exact ⟨ret_int (by rw [HF.out]; simp [szOf, hl0]), Below.refl _ _⟩
    · obtain ⟨g, off, rfl, hg, _, hc⟩ := h4 (by omega)
      have HC := hide hc
      clear hc h4
      go_enter Tryz.func134, Tryz.ntmps134
      go_wp2
      go_loopw [1, 5] (fun l i wr => ∃ (X : World) (k : Nat) (L : Int), X = wr ∧ k ≤ xs.length ∧ i = .int .i64 k ∧ l = .int .i64 L ∧ 0 ≤ L ∧ L ≤ 1048576 ∧ Hid (R = szOf ((xs.drop k).map wComp).sum L) ∧ Hid (Below w.heap.size w X)) (fun _ i _ => xs.length - (intOf i).toNat)
      case atStart => exact ⟨_, 0, _, rfl, Nat.zero_le _, rfl, rfl, by omega, by omega, HF.out, Below.refl _ _⟩
      case round =>
        obtain ⟨X, k, L, rfl, hk, rfl, rfl, hL0, hL1, HS, HB⟩ := hrel
        by_cases hlt : k < xs.length
        · obtain ⟨u, hu, hru⟩ := HC.out k hlt
          have hck : X.cell? ⟨g, off + k, none⟩ = some u := by rw [HB.out.cell (p := ⟨g, off + k, none⟩) hg]; exact hu
          have HRU := hide (hru.below HB.out)
          obtain ⟨up, uc, rfl⟩ := hru.isSlice
          have HT := hide (szOf_step wComp xs k hlt L)
          clear hu hru
          go_wp2_with fail
          refine (szComp_any _ (xs[k]'hlt) L _ hL0 hL1 HRU.out).mono ?_
          rintro e w1 ⟨rfl, hb1⟩
          have HB1 := hide (HB.out.trans (hb1.mono HB.out.size))
          clear hb1
          by_cases hneg : ((wComp (xs[k]'hlt) : Nat) : Int) ≤ L
          · rw [szOf_yes hneg]
            have HU : Hid (R = szOf ((xs.drop (k + 1)).map wComp).sum (L - ((wComp (xs[k]'hlt) : Nat) : Int))) := by rw [HS.out, HT.out]; exact if_pos hneg
            go_wp2
            go_roundw
            case rel => exact ⟨_, k + 1, _, rfl, by omega, by go_num, rfl, by omega, by omega, HU, HB1⟩
            case measure => simp [intOf]; omega
          · rw [szOf_no hneg]
            have HU : Hid (R = -1) := by rw [HS.out, HT.out]; exact if_neg hneg
            go_wp2
            go_ret
            exact ⟨ret_int HU.out.symm, HB1.out⟩
        · have HU : Hid (R = L) := by rw [HS.out, List.drop_eq_nil_of_le (by omega)]; exact szOf_zero hL0
          go_wp2
          go_ret
          exact ⟨ret_int HU.out.symm, HB.out⟩

set_option maxHeartbeats 1000000 in
theorem szRep_any (u : Value) (x : List (List ByteArray)) (left : Int) (w : World) (hl0 : 0 ≤ left) (hl : left ≤ 1048576) (hr : RRep 0 w u x) :
    Calls Tryz.prog 131 #[.agg #[u], .int .i64 left] w fun e w' => e = .returned (.int .i64 (szOf (wRep x) left)) ∧ Below w.heap.size w w' := by
  have HR := hide hr
  obtain ⟨p, c, rfl⟩ := hr.isSlice
  clear hr
  go_enter Tryz.func131, Tryz.ntmps131
  go_wp2_with fail
  refine (szCompS_any _ x left _ hl0 hl (HR.out.below (below_newF _ _))).mono ?_
  rintro e w1 ⟨rfl, hb1⟩
  have HB := hide (((Below.refl w.heap.size w).alloc (Nat.le_refl _) (.cells #[.slice p x.length c] 181)).trans (hb1.mono (by simp)))
  clear hb1
  by_cases h : ((wRep x : Nat) : Int) ≤ left
  · have HS := hide (szOf_yes h)
    rw [szOf_yes h]
    go_wp2
    go_ret
    exact ⟨ret_int HS.out.symm, HB.out⟩
  · have HS := hide (szOf_no h)
    rw [szOf_no h]
    go_wp2
    go_ret
    exact ⟨ret_int HS.out.symm, HB.out⟩

set_option maxHeartbeats 2000000 in
theorem szRepS_any (v : Value) (xs : List (List (List ByteArray))) (left : Int) (w : World) (hl0 : 0 ≤ left) (hl : left ≤ 1048576) (hr : RL 0 (RRep 0) w v xs) :
    Calls Tryz.prog 125 #[v, .int .i64 left] w fun e w' => e = .returned (.int .i64 (szOf (wFld xs) left)) ∧ Below w.heap.size w w' := by
  obtain ⟨p, cap, rfl, h1, h2, h4⟩ := hr
  unfold maxLen at h2
  have hW : wFld xs = xs.length + (xs.map wRep).sum := rfl
  obtain ⟨R, hR⟩ : ∃ R, R = szOf (wFld xs) left := ⟨_, rfl⟩
  rw [← hR]
  by_cases h0 : left - xs.length < 0
  · have HF : Hid (R = -1) := by rw [hR]; exact szOf_no (by rw [hW]; omega)
    have hx : 0 < xs.length := by omega
    clear h4 hR hW
    go_enter Tryz.func125, Tryz.ntmps125
    go_wp2
    go_ret
    exact ⟨ret_int HF.out.symm, Below.refl _ _⟩
  · have HF : Hid (R = szOf ((xs.drop 0).map wRep).sum (left - xs.length)) := by
      rw [hR, List.drop_zero, hW]
      by_cases hc : ((xs.length + (xs.map wRep).sum : Nat) : Int) ≤ left
      · rw [szOf_yes hc, szOf_yes (by omega)]
        show _ = _
        omega
      · rw [szOf_no hc, szOf_no (by omega)]
        exact rfl
    clear hR hW
    by_cases hn : xs.length = 0
    · have hxs : xs = [] := List.eq_nil_of_length_eq_zero hn
      subst hxs
      clear h4
      go_enter Tryz.func125, Tryz.ntmps125
      go_wp2
      refine wp_loop_rounds 1 ?_
      rw [rounds_succ]
      go_wp2
      go_ret
      exact ⟨ret_int (by rw [HF.out]; simp [szOf, hl0]), Below.refl _ _⟩
    · obtain ⟨g, off, rfl, hg, _, hc⟩ := h4 (by omega)
      have HC := hide hc
      clear hc h4
      go_enter Tryz.func125, Tryz.ntmps125
      go_wp2
      go_loopw [1, 5] (fun l i wr => ∃ (X : World) (k : Nat) (L : Int), X = wr ∧ k ≤ xs.length ∧ i = .int .i64 k ∧ l = .int .i64 L ∧ 0 ≤ L ∧ L ≤ 1048576 ∧ Hid (R = szOf ((xs.drop k).map wRep).sum L) ∧ Hid (Below w.heap.size w X)) (fun _ i _ => xs.length - (intOf i).toNat)
      case atStart => exact ⟨_, 0, _, rfl, Nat.zero_le _, rfl, rfl, by omega, by omega, HF.out, Below.refl _ _⟩
      case round =>
        obtain ⟨X, k, L, rfl, hk, rfl, rfl, hL0, hL1, HS, HB⟩ := hrel
        by_cases hlt : k < xs.length
        · obtain ⟨u, hu, hru⟩ := HC.out k hlt
          have hck : X.cell? ⟨g, off + k, none⟩ = some u := by rw [HB.out.cell (p := ⟨g, off + k, none⟩) hg]; exact hu
          have HRU := hide (hru.below HB.out)
          obtain ⟨up, uc, rfl⟩ := hru.isSlice
          have HT := hide (szOf_step wRep xs k hlt L)
          clear hu hru
          go_wp2_with fail
          refine (szRep_any _ (xs[k]'hlt) L _ hL0 hL1 HRU.out).mono ?_
          rintro e w1 ⟨rfl, hb1⟩
          have HB1 := hide (HB.out.trans (hb1.mono HB.out.size))
          clear hb1
          by_cases hneg : ((wRep (xs[k]'hlt) : Nat) : Int) ≤ L
          · rw [szOf_yes hneg]
            have HU : Hid (R = szOf ((xs.drop (k + 1)).map wRep).sum (L - ((wRep (xs[k]'hlt) : Nat) : Int))) := by rw [HS.out, HT.out]; exact if_pos hneg
            go_wp2
            go_roundw
            case rel => exact ⟨_, k + 1, _, rfl, by omega, by go_num, rfl, by omega, by omega, HU, HB1⟩
            case measure => simp [intOf]; omega
          · rw [szOf_no hneg]
            have HU : Hid (R = -1) := by rw [HS.out, HT.out]; exact if_neg hneg
            go_wp2
            go_ret
            exact ⟨ret_int HU.out.symm, HB1.out⟩
        · have HU : Hid (R = L) := by rw [HS.out, List.drop_eq_nil_of_le (by omega)]; exact szOf_zero hL0
          go_wp2
          go_ret
          exact ⟨ret_int HU.out.symm, HB.out⟩

set_option maxHeartbeats 1000000 in
theorem szField_any (u : Value) (x : List (List (List ByteArray))) (left : Int) (w : World) (hl0 : 0 ≤ left) (hl : left ≤ 1048576) (hr : RFld 0 w u x) :
    Calls Tryz.prog 119 #[.agg #[u], .int .i64 left] w fun e w' => e = .returned (.int .i64 (szOf (wFld x) left)) ∧ Below w.heap.size w w' := by
  have HR := hide hr
  obtain ⟨p, c, rfl⟩ := hr.isSlice
  clear hr
  go_enter Tryz.func119, Tryz.ntmps119
  go_wp2_with fail
  refine (szRepS_any _ x left _ hl0 hl (HR.out.below (below_newF _ _))).mono ?_
  rintro e w1 ⟨rfl, hb1⟩
  have HB := hide (((Below.refl w.heap.size w).alloc (Nat.le_refl _) (.cells #[.slice p x.length c] 169)).trans (hb1.mono (by simp)))
  clear hb1
  by_cases h : ((wFld x : Nat) : Int) ≤ left
  · have HS := hide (szOf_yes h)
    rw [szOf_yes h]
    go_wp2
    go_ret
    exact ⟨ret_int HS.out.symm, HB.out⟩
  · have HS := hide (szOf_no h)
    rw [szOf_no h]
    go_wp2
    go_ret
    exact ⟨ret_int HS.out.symm, HB.out⟩
end Go.Proofs.YtolgjdnhhbbebaaGreatDoor
/- The laws' own copy of a Field. -/
namespace Go.Proofs.YtolgjdnhhbbebaaGreatDoor
open Go.RowKit
theorem toStringS2_any (v : Value) (xs : List ByteArray) (w : World) (hn : wComp xs ≤ 1048576) (hr : RComp 0 w v xs) :
    Calls Tryz.prog 141 #[v] w fun e w' => ∃ p c, e = .returned (.slice p xs.length c) ∧ RComp w.heap.size w' (.slice p xs.length c) xs ∧ Below w.heap.size w w' := by
  have hl : xs.length ≤ 1048576 := Nat.le_trans (wL_len _ xs) hn
  refine (toStringS_any v xs w hl hr.reads).mono ?_
  rintro e w' ⟨rfl, hrow, hb⟩
  exact ⟨_, _, rfl, rl_row hrow (by simp [strs]) (by unfold maxLen; omega) (Nat.le_refl _) (fun i hi => ⟨by simp [strs], hr.sizes _ (List.getElem_mem hi)⟩), hb⟩
theorem set_snoc (vs Z : List Value) (k n : Nat) (u : Value) (h : vs.length = k) (hk : k < n) (hZ : Z.length = n) : (vs ++ Z.drop k).set k u = (vs ++ [u]) ++ Z.drop (k + 1) := by
  rw [List.set_append_right _ _ (by omega), h, Nat.sub_self, List.drop_eq_getElem_cons (by omega : k < Z.length), List.set_cons_zero, List.append_assoc]
  rfl

set_option maxHeartbeats 2000000 in
theorem toComp_any (u : Value) (x : List ByteArray) (w : World) (hn : wComp x ≤ 1048576) (hr : RComp 0 w u x) :
    Calls Tryz.prog 138 #[.agg #[u]] w fun e w' => ∃ p c, e = .returned (.agg #[.slice p x.length c]) ∧ RComp w.heap.size w' (.slice p x.length c) x ∧ Below w.heap.size w w' := by
  obtain ⟨p, c, rfl⟩ := hr.isSlice
  obtain ⟨W, hW⟩ : ∃ W, W = (((w.alloc (.cells #[.slice p x.length c] 188)).alloc (.cells #[.slice none 0 0] 104)).alloc (.cells #[.slice none 0 0] 104)) := ⟨_, rfl⟩
  have hb0 : Below w.heap.size w W := by rw [hW]; exact (((Below.refl _ _).alloc (Nat.le_refl _) _).alloc (by simp) _).alloc (by simp; omega) _
  have HR := hide (hr.below hb0)
  have HB0 := hide hb0
  have R1 : Row W (w.heap.size + 1) 104 [.slice none 0 0] := by
    rw [hW]
    have := (row_new (w.alloc (.cells #[.slice p x.length c] 188)) [.slice none 0 0] 104).alloc (.cells #[.slice none 0 0] 104)
    simpa using this
  have R2 : Row W (w.heap.size + 2) 104 [.slice none 0 0] := by
    rw [hW]
    have := row_new ((w.alloc (.cells #[.slice p x.length c] 188)).alloc (.cells #[.slice none 0 0] 104)) [.slice none 0 0] 104
    simpa using this
  have hsz : W.heap.size = w.heap.size + 3 := by rw [hW]; simp
  clear hr hb0
  go_enter Tryz.func138, Tryz.ntmps138
  go_wp2_with fail
  rw [← hW]
  refine (toStringS2_any _ x _ hn HR.out).mono ?_
  rintro e w1 ⟨p1, c1, rfl, hr1, hb1⟩
  clear hW
  have r1 := R1.below hb1 (by omega)
  have r2 := R2.below hb1 (by omega)
  have f2 : w1.cell? ⟨w.heap.size + 2, 0, none⟩ = some (.slice none 0 0) := r2.cell 0
  have z2 := r2.free 0
  have s2 := r2.set (j := 0) (.slice p1 x.length c1)
  have s1 := r1.other (b := w.heap.size + 2) (j := 0) (by omega) (.slice p1 x.length c1)
  have g2 : (w1.setCell ⟨w.heap.size + 2, 0, none⟩ (.slice p1 x.length c1)).cell? ⟨w.heap.size + 2, 0, none⟩ = some (.slice p1 x.length c1) := s2.cell 0
  have g1 : (w1.setCell ⟨w.heap.size + 2, 0, none⟩ (.slice p1 x.length c1)).cell? ⟨w.heap.size + 1, 0, none⟩ = some (.slice none 0 0) := s1.cell 0
  have z1 := s1.free 0
  have q1 : ((w1.setCell ⟨w.heap.size + 2, 0, none⟩ (.slice p1 x.length c1)).setCell ⟨w.heap.size + 1, 0, none⟩ (.slice p1 x.length c1)).cell? ⟨w.heap.size + 1, 0, none⟩ = some (.slice p1 x.length c1) := (s1.set (j := 0) (.slice p1 x.length c1)).cell 0
  rw [hsz] at hr1
  have HRE := hide (RComp.mono (Lasts.go (B := w.heap.size + 3) (Same.set _ _ (by omega)) (Lasts.go (B := w.heap.size + 3) (Same.set w1 (g := w.heap.size + 2) (j := 0) (.slice p1 x.length c1) (by omega)) hr1)) (by omega : w.heap.size ≤ w.heap.size + 3) : RComp w.heap.size ((w1.setCell ⟨w.heap.size + 2, 0, none⟩ (.slice p1 x.length c1)).setCell ⟨w.heap.size + 1, 0, none⟩ (.slice p1 x.length c1)) (.slice p1 x.length c1) x)
  have HBE := hide (((HB0.out.trans (hb1.mono (by omega))).setCell (p := ⟨w.heap.size + 2, 0, none⟩) (by show w.heap.size ≤ w.heap.size + 2; omega) (.slice p1 x.length c1)).setCell (p := ⟨w.heap.size + 1, 0, none⟩) (by show w.heap.size ≤ w.heap.size + 1; omega) (.slice p1 x.length c1))
  clear hr1 hb1 r1 r2 s1 s2
  go_wp2
  exact bodyPost_ret (v := .agg #[.slice p1 x.length c1]) (by simp [results, Tryz.results138, go_sem, q1]) rfl ⟨_, _, rfl, HRE.out, HBE.out⟩

theorem Tryz.infoComp : (Tryz.prog.info? 104).map (fun i => (i.zero, i.size, i.bytes)) = some (some (.agg #[.slice none 0 0]), 1, 24) := by kernel_rfl
set_option maxHeartbeats 2000000 in
theorem toCompS_any (v : Value) (xs : List (List ByteArray)) (w : World) (hn : wRep xs ≤ 1048576) (hr : RL 0 (RComp 0) w v xs) :
    Calls Tryz.prog 135 #[v] w fun e w' => ∃ p c, e = .returned (.slice p xs.length c) ∧ RL w.heap.size (RComp w.heap.size) w' (.slice p xs.length c) xs ∧ Below w.heap.size w w' := by
  obtain ⟨i0, hi, hz0, hz1, hz2⟩ := info_parts Tryz.infoComp
  have hl : xs.length ≤ 1048576 := Nat.le_trans (wL_len _ xs) hn
  have HM : Hid (∀ i (h : i < xs.length), wComp xs[i] ≤ 1048576) := fun i h => by have := wL_mem wComp (List.getElem_mem h); have : wL wComp xs ≤ 1048576 := hn; omega
  clear hn
  obtain ⟨p, cap, rfl, h1, h2, h4⟩ := hr
  have H4 := hide h4
  clear h4
  have hzc : (Value.agg #[.slice none 0 0]).cells.size = 1 := by simp [Value.cells]
  go_enter Tryz.func135, Tryz.ntmps135
  go_wp2_with (at_make; refine wpList_make_full _ rfl _ _ 100 rfl w.heap.size 104 i0 (.agg #[.slice none 0 0]) 1 Tryz.underlying100 hi hz0 hz1 _ _ _ _ xs.length rfl rfl rfl rfl ?b2 ?b3 (Nat.le_refl _) ?_)
  case b2 => rw [hz2]; omega
  case b3 => unfold maxLen; omega
  intro w1 hown hgrow
  obtain ⟨Z, hZ, hZl⟩ := own_row hown
  rw [Nat.mul_one] at hZl
  have hb1 : Below w.heap.size w w1 := (Below.refl _ _).grown hgrow (Nat.le_refl _) (by simp)
  have HZ := hide hZ
  have HB := hide hb1
  have HL := hide hZl
  clear hZ hown hgrow hb1 hZl
  go_wp2_with fail
  go_loopw [4] (fun i wr => ∃ (X : World) (k : Nat) (vs : List Value), X = wr ∧ k ≤ xs.length ∧ i = .int .i64 k ∧ Hid (Row X w.heap.size 104 (vs ++ Z.drop k)) ∧ Hid (Below w.heap.size w X) ∧ Hid (vs.length = k) ∧ Hid (∀ j (h1 : j < vs.length) (h2 : j < xs.length), RComp (w.heap.size + 1) X vs[j] xs[j])) (fun i _ => xs.length - (intOf i).toNat)
  case atStart => exact ⟨_, 0, [], rfl, Nat.zero_le _, rfl, hide (by simpa using HZ.out), HB, hide rfl, hide (fun j h1 _ => absurd h1 (by simp))⟩
  case round =>
    obtain ⟨X, k, vs, rfl, hk, rfl, HRow, HBel, HLn, HEl⟩ := hrel
    by_cases hlt : k < xs.length
    · obtain ⟨g, off, hp, hg, _, hc⟩ := H4.out (by omega)
      subst hp
      obtain ⟨u, hu, hru⟩ := hc k hlt
      have hck : X.cell? ⟨g, off + k, none⟩ = some u := by rw [HBel.out.cell (p := ⟨g, off + k, none⟩) hg]; exact hu
      have HRU := hide (hru.below HBel.out)
      obtain ⟨up, uc, rfl⟩ := hru.isSlice
      have hlt0 := HRow.out.lt
      clear hu hru hc
      go_wp2_with fail
      refine (toComp_any _ (xs[k]'hlt) _ (HM.out k hlt) HRU.out).mono ?_
      rintro e w2 ⟨p2, c2, rfl, hr2, hb2⟩
      have row2 := HRow.out.below hb2 hlt0
      have hll : (vs ++ Z.drop k).length = xs.length := by rw [List.length_append, HLn.out, List.length_drop, HL.out]; omega
      obtain ⟨z, hz⟩ := row2.some k (by rw [hll]; exact hlt)
      have hf := row2.free k
      have hnext := row2.set (j := k) (.slice p2 (xs[k]'hlt).length c2)
      rw [set_snoc vs Z k xs.length _ HLn.out hlt HL.out] at hnext
      have HN := hide hnext
      have HMB := hide ((HBel.out.trans (hb2.mono HBel.out.size)).setCell (p := ⟨w.heap.size, k, none⟩) (Nat.le_refl _) (.slice p2 (xs[k]'hlt).length c2))
      have HLn2 : Hid ((vs ++ [Value.slice p2 (xs[k]'hlt).length c2]).length = k + 1) := by rw [List.length_append, HLn.out]; exact rfl
      have HEl2 : Hid (∀ j (h1 : j < (vs ++ [Value.slice p2 (xs[k]'hlt).length c2]).length) (h2 : j < xs.length), RComp (w.heap.size + 1) (w2.setCell ⟨w.heap.size, k, none⟩ (.slice p2 (xs[k]'hlt).length c2)) (vs ++ [Value.slice p2 (xs[k]'hlt).length c2])[j] xs[j]) := by
        intro j h1 h2
        refine Lasts.go (B := w.heap.size + 1) (Same.set _ _ (by omega)) ?_
        rw [HLn2.out] at h1
        by_cases hj : j < k
        · rw [List.getElem_append_left (by rw [HLn.out]; exact hj)]
          exact Lasts.go (B := w.heap.size + 1) (Same.of hb2) (HEl.out j (by rw [HLn.out]; exact hj) h2)
        · have e : j = k := by omega
          subst e
          rw [List.getElem_append_right (by rw [HLn.out]; exact Nat.le_refl _)]
          simp only [HLn.out, Nat.sub_self, List.getElem_cons_zero]
          exact RComp.mono hr2 (by omega)
      clear hnext row2 hr2 hb2 hlt0 hll
      go_wp2
      go_roundw
      case rel => exact ⟨_, k + 1, _, rfl, by omega, by go_num, HN, HMB, HLn2, HEl2⟩
      case measure => simp [intOf]; omega
    · have HE : Hid (Row X w.heap.size 104 vs) := by
        have := HRow.out
        rw [List.drop_eq_nil_of_le (by rw [HL.out]; omega), List.append_nil] at this
        exact this
      have HLn3 : Hid (vs.length = xs.length) := by rw [HLn.out]; exact (show k = xs.length by omega)
      go_wp2
      go_ret
      refine ⟨_, _, rfl, rl_row HE.out HLn3.out (by unfold maxLen; omega) (Nat.le_refl _) (fun i hi => RComp.mono (HEl.out i (by rw [HLn3.out]; exact hi) hi) (by omega)), HBel.out⟩

set_option maxHeartbeats 2000000 in
theorem toRep_any (u : Value) (x : List (List ByteArray)) (w : World) (hn : wRep x ≤ 1048576) (hr : RRep 0 w u x) :
    Calls Tryz.prog 132 #[.agg #[u]] w fun e w' => ∃ p c, e = .returned (.agg #[.slice p x.length c]) ∧ RRep w.heap.size w' (.slice p x.length c) x ∧ Below w.heap.size w w' := by
  obtain ⟨p, c, rfl⟩ := hr.isSlice
  obtain ⟨W, hW⟩ : ∃ W, W = (((w.alloc (.cells #[.slice p x.length c] 181)).alloc (.cells #[.slice none 0 0] 102)).alloc (.cells #[.slice none 0 0] 102)) := ⟨_, rfl⟩
  have hb0 : Below w.heap.size w W := by rw [hW]; exact (((Below.refl _ _).alloc (Nat.le_refl _) _).alloc (by simp) _).alloc (by simp; omega) _
  have HR := hide (hr.below hb0)
  have HB0 := hide hb0
  have R1 : Row W (w.heap.size + 1) 102 [.slice none 0 0] := by
    rw [hW]
    have := (row_new (w.alloc (.cells #[.slice p x.length c] 181)) [.slice none 0 0] 102).alloc (.cells #[.slice none 0 0] 102)
    simpa using this
  have R2 : Row W (w.heap.size + 2) 102 [.slice none 0 0] := by
    rw [hW]
    have := row_new ((w.alloc (.cells #[.slice p x.length c] 181)).alloc (.cells #[.slice none 0 0] 102)) [.slice none 0 0] 102
    simpa using this
  have hsz : W.heap.size = w.heap.size + 3 := by rw [hW]; simp
  clear hr hb0
  go_enter Tryz.func132, Tryz.ntmps132
  go_wp2_with fail
  rw [← hW]
  refine (toCompS_any _ x _ hn HR.out).mono ?_
  rintro e w1 ⟨p1, c1, rfl, hr1, hb1⟩
  clear hW
  have r1 := R1.below hb1 (by omega)
  have r2 := R2.below hb1 (by omega)
  have f2 : w1.cell? ⟨w.heap.size + 2, 0, none⟩ = some (.slice none 0 0) := r2.cell 0
  have z2 := r2.free 0
  have s2 := r2.set (j := 0) (.slice p1 x.length c1)
  have s1 := r1.other (b := w.heap.size + 2) (j := 0) (by omega) (.slice p1 x.length c1)
  have g2 : (w1.setCell ⟨w.heap.size + 2, 0, none⟩ (.slice p1 x.length c1)).cell? ⟨w.heap.size + 2, 0, none⟩ = some (.slice p1 x.length c1) := s2.cell 0
  have g1 : (w1.setCell ⟨w.heap.size + 2, 0, none⟩ (.slice p1 x.length c1)).cell? ⟨w.heap.size + 1, 0, none⟩ = some (.slice none 0 0) := s1.cell 0
  have z1 := s1.free 0
  have q1 : ((w1.setCell ⟨w.heap.size + 2, 0, none⟩ (.slice p1 x.length c1)).setCell ⟨w.heap.size + 1, 0, none⟩ (.slice p1 x.length c1)).cell? ⟨w.heap.size + 1, 0, none⟩ = some (.slice p1 x.length c1) := (s1.set (j := 0) (.slice p1 x.length c1)).cell 0
  rw [hsz] at hr1
  have HRE := hide (RRep.mono (Lasts.go (B := w.heap.size + 3) (Same.set _ _ (by omega)) (Lasts.go (B := w.heap.size + 3) (Same.set w1 (g := w.heap.size + 2) (j := 0) (.slice p1 x.length c1) (by omega)) hr1)) (by omega : w.heap.size ≤ w.heap.size + 3) : RRep w.heap.size ((w1.setCell ⟨w.heap.size + 2, 0, none⟩ (.slice p1 x.length c1)).setCell ⟨w.heap.size + 1, 0, none⟩ (.slice p1 x.length c1)) (.slice p1 x.length c1) x)
  have HBE := hide (((HB0.out.trans (hb1.mono (by omega))).setCell (p := ⟨w.heap.size + 2, 0, none⟩) (by show w.heap.size ≤ w.heap.size + 2; omega) (.slice p1 x.length c1)).setCell (p := ⟨w.heap.size + 1, 0, none⟩) (by show w.heap.size ≤ w.heap.size + 1; omega) (.slice p1 x.length c1))
  clear hr1 hb1 r1 r2 s1 s2
  go_wp2
  exact bodyPost_ret (v := .agg #[.slice p1 x.length c1]) (by simp [results, Tryz.results132, go_sem, q1]) rfl ⟨_, _, rfl, HRE.out, HBE.out⟩

theorem Tryz.infoRep : (Tryz.prog.info? 102).map (fun i => (i.zero, i.size, i.bytes)) = some (some (.agg #[.slice none 0 0]), 1, 24) := by kernel_rfl
set_option maxHeartbeats 2000000 in
theorem toRepS_any (v : Value) (xs : List (List (List ByteArray))) (w : World) (hn : wFld xs ≤ 1048576) (hr : RL 0 (RRep 0) w v xs) :
    Calls Tryz.prog 127 #[v] w fun e w' => ∃ p c, e = .returned (.slice p xs.length c) ∧ RL w.heap.size (RRep w.heap.size) w' (.slice p xs.length c) xs ∧ Below w.heap.size w w' := by
  obtain ⟨i0, hi, hz0, hz1, hz2⟩ := info_parts Tryz.infoRep
  have hl : xs.length ≤ 1048576 := Nat.le_trans (wL_len _ xs) hn
  have HM : Hid (∀ i (h : i < xs.length), wRep xs[i] ≤ 1048576) := fun i h => by have := wL_mem wRep (List.getElem_mem h); have : wL wRep xs ≤ 1048576 := hn; omega
  clear hn
  obtain ⟨p, cap, rfl, h1, h2, h4⟩ := hr
  have H4 := hide h4
  clear h4
  have hzc : (Value.agg #[.slice none 0 0]).cells.size = 1 := by simp [Value.cells]
  go_enter Tryz.func127, Tryz.ntmps127
  go_wp2_with (at_make; refine wpList_make_full _ rfl _ _ 74 rfl w.heap.size 102 i0 (.agg #[.slice none 0 0]) 1 Tryz.underlying74 hi hz0 hz1 _ _ _ _ xs.length rfl rfl rfl rfl ?b2 ?b3 (Nat.le_refl _) ?_)
  case b2 => rw [hz2]; omega
  case b3 => unfold maxLen; omega
  intro w1 hown hgrow
  obtain ⟨Z, hZ, hZl⟩ := own_row hown
  rw [Nat.mul_one] at hZl
  have hb1 : Below w.heap.size w w1 := (Below.refl _ _).grown hgrow (Nat.le_refl _) (by simp)
  have HZ := hide hZ
  have HB := hide hb1
  have HL := hide hZl
  clear hZ hown hgrow hb1 hZl
  go_wp2_with fail
  go_loopw [4] (fun i wr => ∃ (X : World) (k : Nat) (vs : List Value), X = wr ∧ k ≤ xs.length ∧ i = .int .i64 k ∧ Hid (Row X w.heap.size 102 (vs ++ Z.drop k)) ∧ Hid (Below w.heap.size w X) ∧ Hid (vs.length = k) ∧ Hid (∀ j (h1 : j < vs.length) (h2 : j < xs.length), RRep (w.heap.size + 1) X vs[j] xs[j])) (fun i _ => xs.length - (intOf i).toNat)
  case atStart => exact ⟨_, 0, [], rfl, Nat.zero_le _, rfl, hide (by simpa using HZ.out), HB, hide rfl, hide (fun j h1 _ => absurd h1 (by simp))⟩
  case round =>
    obtain ⟨X, k, vs, rfl, hk, rfl, HRow, HBel, HLn, HEl⟩ := hrel
    by_cases hlt : k < xs.length
    · obtain ⟨g, off, hp, hg, _, hc⟩ := H4.out (by omega)
      subst hp
      obtain ⟨u, hu, hru⟩ := hc k hlt
      have hck : X.cell? ⟨g, off + k, none⟩ = some u := by rw [HBel.out.cell (p := ⟨g, off + k, none⟩) hg]; exact hu
      have HRU := hide (hru.below HBel.out)
      obtain ⟨up, uc, rfl⟩ := hru.isSlice
      have hlt0 := HRow.out.lt
      clear hu hru hc
      go_wp2_with fail
      refine (toRep_any _ (xs[k]'hlt) _ (HM.out k hlt) HRU.out).mono ?_
      rintro e w2 ⟨p2, c2, rfl, hr2, hb2⟩
      have row2 := HRow.out.below hb2 hlt0
      have hll : (vs ++ Z.drop k).length = xs.length := by rw [List.length_append, HLn.out, List.length_drop, HL.out]; omega
      obtain ⟨z, hz⟩ := row2.some k (by rw [hll]; exact hlt)
      have hf := row2.free k
      have hnext := row2.set (j := k) (.slice p2 (xs[k]'hlt).length c2)
      rw [set_snoc vs Z k xs.length _ HLn.out hlt HL.out] at hnext
      have HN := hide hnext
      have HMB := hide ((HBel.out.trans (hb2.mono HBel.out.size)).setCell (p := ⟨w.heap.size, k, none⟩) (Nat.le_refl _) (.slice p2 (xs[k]'hlt).length c2))
      have HLn2 : Hid ((vs ++ [Value.slice p2 (xs[k]'hlt).length c2]).length = k + 1) := by rw [List.length_append, HLn.out]; exact rfl
      have HEl2 : Hid (∀ j (h1 : j < (vs ++ [Value.slice p2 (xs[k]'hlt).length c2]).length) (h2 : j < xs.length), RRep (w.heap.size + 1) (w2.setCell ⟨w.heap.size, k, none⟩ (.slice p2 (xs[k]'hlt).length c2)) (vs ++ [Value.slice p2 (xs[k]'hlt).length c2])[j] xs[j]) := by
        intro j h1 h2
        refine Lasts.go (B := w.heap.size + 1) (Same.set _ _ (by omega)) ?_
        rw [HLn2.out] at h1
        by_cases hj : j < k
        · rw [List.getElem_append_left (by rw [HLn.out]; exact hj)]
          exact Lasts.go (B := w.heap.size + 1) (Same.of hb2) (HEl.out j (by rw [HLn.out]; exact hj) h2)
        · have e : j = k := by omega
          subst e
          rw [List.getElem_append_right (by rw [HLn.out]; exact Nat.le_refl _)]
          simp only [HLn.out, Nat.sub_self, List.getElem_cons_zero]
          exact RRep.mono hr2 (by omega)
      clear hnext row2 hr2 hb2 hlt0 hll
      go_wp2
      go_roundw
      case rel => exact ⟨_, k + 1, _, rfl, by omega, by go_num, HN, HMB, HLn2, HEl2⟩
      case measure => simp [intOf]; omega
    · have HE : Hid (Row X w.heap.size 102 vs) := by
        have := HRow.out
        rw [List.drop_eq_nil_of_le (by rw [HL.out]; omega), List.append_nil] at this
        exact this
      have HLn3 : Hid (vs.length = xs.length) := by rw [HLn.out]; exact (show k = xs.length by omega)
      go_wp2
      go_ret
      refine ⟨_, _, rfl, rl_row HE.out HLn3.out (by unfold maxLen; omega) (Nat.le_refl _) (fun i hi => RRep.mono (HEl.out i (by rw [HLn3.out]; exact hi) hi) (by omega)), HBel.out⟩

set_option maxHeartbeats 2000000 in
theorem toField_any (u : Value) (x : List (List (List ByteArray))) (w : World) (hn : wFld x ≤ 1048576) (hr : RFld 0 w u x) :
    Calls Tryz.prog 121 #[.agg #[u]] w fun e w' => ∃ p c, e = .returned (.agg #[.slice p x.length c]) ∧ RFld w.heap.size w' (.slice p x.length c) x ∧ Below w.heap.size w w' := by
  obtain ⟨p, c, rfl⟩ := hr.isSlice
  obtain ⟨W, hW⟩ : ∃ W, W = (((w.alloc (.cells #[.slice p x.length c] 169)).alloc (.cells #[.slice none 0 0] 76)).alloc (.cells #[.slice none 0 0] 76)) := ⟨_, rfl⟩
  have hb0 : Below w.heap.size w W := by rw [hW]; exact (((Below.refl _ _).alloc (Nat.le_refl _) _).alloc (by simp) _).alloc (by simp; omega) _
  have HR := hide (hr.below hb0)
  have HB0 := hide hb0
  have R1 : Row W (w.heap.size + 1) 76 [.slice none 0 0] := by
    rw [hW]
    have := (row_new (w.alloc (.cells #[.slice p x.length c] 169)) [.slice none 0 0] 76).alloc (.cells #[.slice none 0 0] 76)
    simpa using this
  have R2 : Row W (w.heap.size + 2) 76 [.slice none 0 0] := by
    rw [hW]
    have := row_new ((w.alloc (.cells #[.slice p x.length c] 169)).alloc (.cells #[.slice none 0 0] 76)) [.slice none 0 0] 76
    simpa using this
  have hsz : W.heap.size = w.heap.size + 3 := by rw [hW]; simp
  clear hr hb0
  go_enter Tryz.func121, Tryz.ntmps121
  go_wp2_with fail
  rw [← hW]
  refine (toRepS_any _ x _ hn HR.out).mono ?_
  rintro e w1 ⟨p1, c1, rfl, hr1, hb1⟩
  clear hW
  have r1 := R1.below hb1 (by omega)
  have r2 := R2.below hb1 (by omega)
  have f2 : w1.cell? ⟨w.heap.size + 2, 0, none⟩ = some (.slice none 0 0) := r2.cell 0
  have z2 := r2.free 0
  have s2 := r2.set (j := 0) (.slice p1 x.length c1)
  have s1 := r1.other (b := w.heap.size + 2) (j := 0) (by omega) (.slice p1 x.length c1)
  have g2 : (w1.setCell ⟨w.heap.size + 2, 0, none⟩ (.slice p1 x.length c1)).cell? ⟨w.heap.size + 2, 0, none⟩ = some (.slice p1 x.length c1) := s2.cell 0
  have g1 : (w1.setCell ⟨w.heap.size + 2, 0, none⟩ (.slice p1 x.length c1)).cell? ⟨w.heap.size + 1, 0, none⟩ = some (.slice none 0 0) := s1.cell 0
  have z1 := s1.free 0
  have q1 : ((w1.setCell ⟨w.heap.size + 2, 0, none⟩ (.slice p1 x.length c1)).setCell ⟨w.heap.size + 1, 0, none⟩ (.slice p1 x.length c1)).cell? ⟨w.heap.size + 1, 0, none⟩ = some (.slice p1 x.length c1) := (s1.set (j := 0) (.slice p1 x.length c1)).cell 0
  rw [hsz] at hr1
  have HRE := hide (RFld.mono (Lasts.go (B := w.heap.size + 3) (Same.set _ _ (by omega)) (Lasts.go (B := w.heap.size + 3) (Same.set w1 (g := w.heap.size + 2) (j := 0) (.slice p1 x.length c1) (by omega)) hr1)) (by omega : w.heap.size ≤ w.heap.size + 3) : RFld w.heap.size ((w1.setCell ⟨w.heap.size + 2, 0, none⟩ (.slice p1 x.length c1)).setCell ⟨w.heap.size + 1, 0, none⟩ (.slice p1 x.length c1)) (.slice p1 x.length c1) x)
  have HBE := hide (((HB0.out.trans (hb1.mono (by omega))).setCell (p := ⟨w.heap.size + 2, 0, none⟩) (by show w.heap.size ≤ w.heap.size + 2; omega) (.slice p1 x.length c1)).setCell (p := ⟨w.heap.size + 1, 0, none⟩) (by show w.heap.size ≤ w.heap.size + 1; omega) (.slice p1 x.length c1))
  clear hr1 hb1 r1 r2 s1 s2
  go_wp2
  exact bodyPost_ret (v := .agg #[.slice p1 x.length c1]) (by simp [results, Tryz.results121, go_sem, q1]) rfl ⟨_, _, rfl, HRE.out, HBE.out⟩
end Go.Proofs.YtolgjdnhhbbebaaGreatDoor
