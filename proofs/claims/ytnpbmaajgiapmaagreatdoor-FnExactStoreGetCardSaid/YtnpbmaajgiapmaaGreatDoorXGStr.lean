/- The laws' own helpers over lists of texts: how much they take together, a copy, are two alike. -/
import Derived.Test.YtnpbmaajgiapmaaGreatDoorRows
import Derived.Test.YtnpbmaajgiapmaaGreatDoorXGMem
import Derived.RegionTactic
namespace Go.Proofs.YtnpbmaajgiapmaaGreatDoor
open Go.RowKit

/-- What is left of 'left' behind the lengths of the texts; -1, if there is not enough. -/
def szS : List ByteArray → Int → Int
  | [], left => left
  | x :: r, left => if left - x.size < 0 then -1 else szS r (left - x.size)
def szStrs (xs : List ByteArray) (left : Int) : Int := if left - xs.length < 0 then -1 else szS xs (left - xs.length)

theorem szS_step (xs : List ByteArray) (k : Nat) (h : k < xs.length) (L : Int) : szS (xs.drop k) L = if L - (xs[k]'h).size < 0 then -1 else szS (xs.drop (k + 1)) (L - (xs[k]'h).size) := by
  rw [List.drop_eq_getElem_cons h, szS]
theorem szS_le (xs : List ByteArray) : ∀ left : Int, 0 ≤ szS xs left → szS xs left ≤ left ∧ ∀ x ∈ xs, (x.size : Int) ≤ left := by
  induction xs with
  | nil => intro left _; exact ⟨Int.le_refl _, by simp⟩
  | cons x r ih =>
    intro left h
    rw [szS] at h ⊢
    split at h
    · omega
    · rename_i hx
      rw [if_neg hx]
      obtain ⟨h1, h2⟩ := ih _ h
      refine ⟨by omega, ?_⟩
      intro y hy
      simp at hy
      rcases hy with rfl | hy
      · omega
      · have := h2 y hy; omega
theorem szStrs_le (xs : List ByteArray) (left : Int) (h : 0 ≤ szStrs xs left) : szStrs xs left ≤ left ∧ (xs.length : Int) ≤ left ∧ ∀ x ∈ xs, (x.size : Int) ≤ left := by
  unfold szStrs at h ⊢
  split at h
  · omega
  · rename_i hx
    rw [if_neg hx]
    obtain ⟨h1, h2⟩ := szS_le xs _ h
    exact ⟨by omega, by omega, fun x hx => by have := h2 x hx; omega⟩

set_option maxHeartbeats 1000000 in
theorem szStringS_any (v : Value) (xs : List ByteArray) (left : Int) (w : World) (hl0 : 0 ≤ left) (hl : left ≤ 1048576) (hr : Reads w v xs) :
    Calls Tryz.prog 26 #[v, .int .i64 left] w fun e w' => e = .returned (.int .i64 (szStrs xs left)) ∧ w' = w := by
  obtain ⟨p, cap, rfl, h1, h2, h3, h4⟩ := hr
  unfold maxLen at h2
  by_cases h0 : left - xs.length < 0
  · have HF : Hid (szStrs xs left = -1) := if_pos h0
    have hx : 0 < xs.length := by omega
    clear h4
    go_enter Tryz.func26, Tryz.ntmps26
    go_wp2
    go_ret
    exact ⟨ret_int HF.out.symm, rfl⟩
  · have HF : Hid (szStrs xs left = szS xs (left - xs.length)) := if_neg h0
    by_cases hn : xs.length = 0
    · have hxs : xs = [] := List.eq_nil_of_length_eq_zero hn
      subst hxs
      clear h4 h3
      go_enter Tryz.func26, Tryz.ntmps26
      go_wp2
      refine wp_loop_rounds 1 ?_
      rw [rounds_succ]
      go_wp2
      go_ret
      exact ⟨ret_int (by rw [HF.out]; simp [szS]), rfl⟩
    · obtain ⟨g, off, rfl, hg, hc⟩ := h4 (by omega)
      have HC := hide hc
      have H3 := hide h3
      clear hc h3 h4
      go_enter Tryz.func26, Tryz.ntmps26
      go_wp2
      go_loop [1, 5] (fun l i => ∃ (k : Nat) (L : Int), k ≤ xs.length ∧ i = .int .i64 k ∧ l = .int .i64 L ∧ 0 ≤ L ∧ L ≤ 1048576 ∧ Hid (szStrs xs left = szS (xs.drop k) L)) (fun _ i => xs.length - (intOf i).toNat)
      case atStart => exact ⟨0, _, Nat.zero_le _, rfl, rfl, by omega, by omega, HF.out⟩
      case round =>
        obtain ⟨k, L, hk, rfl, rfl, hL0, hL1, HS⟩ := hrel
        by_cases hlt : k < xs.length
        · have hck := HC.out k hlt
          have hsz : ((xs[k]'hlt).size : Int) ≤ 9223372036854775807 := by have := H3.out (xs[k]'hlt) (List.getElem_mem hlt); unfold maxLen at this; omega
          have HT := hide (szS_step xs k hlt L)
          by_cases hneg : L - ((xs[k]'hlt).size : Int) < 0
          · have HU : Hid (szStrs xs left = -1) := by rw [HS.out, HT.out]; exact if_pos hneg
            go_wp2
            go_ret
            exact ⟨ret_int HU.out.symm, rfl⟩
          · have HU : Hid (szStrs xs left = szS (xs.drop (k + 1)) (L - ((xs[k]'hlt).size : Int))) := by rw [HS.out, HT.out]; exact if_neg hneg
            go_wp2
            go_round
            case rel => exact ⟨k + 1, _, by omega, by go_num, rfl, by omega, by omega, HU⟩
            case measure => simp [intOf]; omega
        · have HU : Hid (szStrs xs left = L) := by rw [HS.out, List.drop_eq_nil_of_le (by omega)]; exact rfl
          go_wp2
          go_ret
          exact ⟨ret_int HU.out.symm, rfl⟩

theorem Tryz.infoStr : (Tryz.prog.info? 9).map (fun i => (i.zero, i.size, i.bytes)) = some (some (.string ⟨#[]⟩), 1, 16) := by kernel_rfl

set_option maxHeartbeats 1000000 in
theorem toStringS_any (v : Value) (xs : List ByteArray) (w : World) (hn : xs.length ≤ 1048576) (hr : Reads w v xs) :
    Calls Tryz.prog 29 #[v] w fun e w' => e = .returned (.slice (some ⟨w.heap.size, 0, none⟩) xs.length xs.length) ∧ Row w' w.heap.size 9 (strs xs) ∧ Below w.heap.size w w' := by
  obtain ⟨i0, hi, hz0, hz1, hz2⟩ := info_parts Tryz.infoStr
  have HR := hide hr
  obtain ⟨p, cap, rfl, h1, h2, h3, h4⟩ := hr
  have H4 := hide h4
  clear h3 h4
  go_enter Tryz.func29, Tryz.ntmps29
  go_wp2_with (at_make; refine wpList_make_full _ rfl _ _ 22 rfl w.heap.size 9 i0 (.string ⟨#[]⟩) 1 Tryz.underlying22 hi hz0 hz1 _ _ _ _ xs.length rfl rfl rfl rfl ?b2 ?b3 (Nat.le_refl _) ?_)
  case b2 => rw [hz2]; omega
  case b3 => unfold maxLen; omega
  intro w1 hown hgrow
  obtain ⟨Z, hZ, hZl⟩ := own_row hown
  rw [Nat.mul_one] at hZl
  have hb1 : Below w.heap.size w w1 := (Below.refl _ _).grown hgrow (Nat.le_refl _) (by simp)
  have HZ := hide hZ
  have HB := hide hb1
  have HL := hide hZl
  clear hZ hown hgrow hb1 hZl
  go_wp2_with fail
  go_loopw [4] (fun i wr => ∃ k : Nat, k ≤ xs.length ∧ i = .int .i64 k ∧ Hid (Row wr w.heap.size 9 (strs (xs.take k) ++ Z.drop k)) ∧ Hid (Below w.heap.size w wr)) (fun i _ => xs.length - (intOf i).toNat)
  case atStart => exact ⟨0, Nat.zero_le _, rfl, HZ.out, HB⟩
  case round =>
    obtain ⟨k, hk, rfl, HRow, HBel⟩ := hrel
    by_cases hlt : k < xs.length
    · obtain ⟨g, off, hp, hg, hc⟩ := H4.out (by omega)
      subst hp
      have hck : wr.cell? ⟨g, off + k, none⟩ = some (.string (xs[k]'hlt)) := by rw [HBel.out.cell (p := ⟨g, off + k, none⟩) hg]; exact hc k hlt
      obtain ⟨u, hu⟩ := HRow.out.some k (by rw [len_next xs Z k hk HL.out]; exact hlt)
      have hf := HRow.out.free k
      have hnext := HRow.out.set (j := k) (.string (xs[k]'hlt))
      rw [set_next xs Z k hlt HL.out] at hnext
      have HN := hide hnext
      have HM := hide (HBel.out.setCell (p := ⟨w.heap.size, k, none⟩) (Nat.le_refl _) (.string (xs[k]'hlt)))
      clear hnext hc
      go_wp2
      go_roundw
      case rel => exact ⟨k + 1, by omega, by go_num, HN, HM⟩
      case measure => simp [intOf]; omega
    · have HE : Hid (Row wr w.heap.size 9 (strs xs)) := by
        have := HRow.out
        rw [List.take_of_length_le (by omega), List.drop_eq_nil_of_le (by rw [HL.out]; omega), List.append_nil] at this
        exact this
      go_wp2
      go_ret
      exact ⟨rfl, HE.out, HBel.out⟩

set_option maxHeartbeats 1000000 in
theorem eqStringS_same (v v' : Value) (xs : List ByteArray) (w : World) (hn : xs.length ≤ 1048576) (hr : Reads w v xs) (hr' : Reads w v' xs) :
    Calls Tryz.prog 32 #[v, v'] w fun e w' => e = .returned (.bool true) ∧ Below w.heap.size w w' := by
  obtain ⟨p, cap, rfl, h1, h2, h3, h4⟩ := hr
  obtain ⟨p', cap', rfl, h1', h2', h3', h4'⟩ := hr'
  have H4 := hide h4
  have H4' := hide h4'
  clear h3 h3' h4 h4'
  unfold maxLen at h2 h2'
  by_cases hx : xs.length = 0
  · have hxs : xs = [] := List.eq_nil_of_length_eq_zero hx
    subst hxs
    go_enter Tryz.func32, Tryz.ntmps32
    go_wp2
    refine wp_loop_rounds 1 ?_
    rw [rounds_succ]
    go_wp2
    go_ret
    exact ⟨rfl, Below.refl _ _⟩
  obtain ⟨g, off, hp, hg, hc⟩ := H4.out (by omega)
  obtain ⟨g', off', hp', hg', hc'⟩ := H4'.out (by omega)
  subst hp hp'
  have HC := hide hc
  have HC' := hide hc'
  clear hc hc'
  go_enter Tryz.func32, Tryz.ntmps32
  go_wp2
  go_loopw [5] (fun i wr => ∃ k : Nat, k ≤ xs.length ∧ i = .int .i64 k ∧ Hid (Below w.heap.size w wr)) (fun i _ => xs.length - (intOf i).toNat)
  case atStart => exact ⟨0, Nat.zero_le _, rfl, Below.refl _ _⟩
  case round =>
    obtain ⟨k, hk, rfl, HBel⟩ := hrel
    by_cases hlt : k < xs.length
    · have hck : wr.cell? ⟨g, off + k, none⟩ = some (.string (xs[k]'hlt)) := by rw [HBel.out.cell (p := ⟨g, off + k, none⟩) hg]; exact HC.out k hlt
      have hck' : wr.cell? ⟨g', off' + k, none⟩ = some (.string (xs[k]'hlt)) := by rw [HBel.out.cell (p := ⟨g', off' + k, none⟩) hg']; exact HC'.out k hlt
      have hki : (k : Int) < (xs.length : Int) := by omega
      go_wp2
      go_region
      go_wp2
      go_roundw
      case rel => exact ⟨k + 1, by omega, by go_num, HBel.out.drew⟩
      case measure => simp [intOf]; omega
    · go_wp2
      go_ret
      exact ⟨rfl, HBel.out⟩
end Go.Proofs.YtnpbmaajgiapmaaGreatDoor
