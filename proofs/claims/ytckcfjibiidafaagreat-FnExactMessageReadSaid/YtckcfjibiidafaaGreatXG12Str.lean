/- The laws' own helpers over lists of texts: how much they take together, a copy, are two alike. -/
import Derived.Test.YtckcfjibiidafaaGreatRows
import Derived.Test.YtckcfjibiidafaaGreatXG0Mem
import Derived.RegionTactic
import Derived.Laws.IdiomStrings
import Derived.Deep.RegionWith
namespace Go.Proofs.YtckcfjibiidafaaGreat
open Go.RowKit

/-- What is left of 'left' behind the lengths of the texts; -1, if there is not enough. -/
def szS : List ByteArray → Int → Int
  | [], left => left
  | x :: r, left => if left - x.size < 0 then -1 else szS r (left - x.size)
def szStrs (xs : List ByteArray) (left : Int) : Int := if left - xs.length < 0 then -1 else szS xs (left - xs.length)

theorem szS_step (xs : List ByteArray) (k : Nat) (h : k < xs.length) (L : Int) : szS (xs.drop k) L = if L - (xs[k]'h).size < 0 then -1 else szS (xs.drop (k + 1)) (L - (xs[k]'h).size) := by
  rw [List.drop_eq_getElem_cons h, szS]
theorem szS_le (xs : List ByteArray) : ∀ left : Int, 0 ≤ szS xs left → szS xs left ≤ left ∧ ∀ x ∈ xs, (x.size : Int) ≤ left := by
  induction xs with
  | nil => intro left _; exact ⟨Int.le_refl _, by simp⟩
  | cons x r ih =>
    intro left h
    rw [szS] at h ⊢
    split at h
    · omega
    · rename_i hx
      rw [if_neg hx]
      obtain ⟨h1, h2⟩ := ih _ h
      refine ⟨by omega, ?_⟩
      intro y hy
      simp at hy
      rcases hy with rfl | hy
      · omega
      · have := h2 y hy; omega
theorem szStrs_le (xs : List ByteArray) (left : Int) (h : 0 ≤ szStrs xs left) : szStrs xs left ≤ left ∧ (xs.length : Int) ≤ left ∧ ∀ x ∈ xs, (x.size : Int) ≤ left := by
  unfold szStrs at h ⊢
  split at h
  · omega
  · rename_i hx
    rw [if_neg hx]
    obtain ⟨h1, h2⟩ := szS_le xs _ h
    exact ⟨by omega, by omega, fun x hx => by have := h2 x hx; omega⟩

theorem Tryz.infoStr : (Tryz.prog.info? 9).map (fun i => (i.zero, i.size, i.bytes)) = some (some (.string ⟨#[]⟩), 1, 16) := by kernel_rfl

set_option maxHeartbeats 1000000 in
theorem eqStringS_same (v v' : Value) (xs : List ByteArray) (w : World) (hn : xs.length ≤ 1048576) (hr : Reads w v xs) (hr' : Reads w v' xs) :
    Calls Tryz.prog 106 #[v, v'] w fun e w' => e = .returned (.bool true) ∧ Below w.heap.size w w' := by
  obtain ⟨p, cap, rfl, h1, h2, h3, h4⟩ := hr
  obtain ⟨p', cap', rfl, h1', h2', h3', h4'⟩ := hr'
  have H4 := hide h4
  have H4' := hide h4'
  clear h3 h3' h4 h4'
  unfold maxLen at h2 h2'
  by_cases hx : xs.length = 0
  · have hxs : xs = [] := List.eq_nil_of_length_eq_zero hx
    subst hxs
    go_enter Tryz.func106, Tryz.ntmps106
    go_wp2
    refine wp_loop_rounds 1 ?_
    rw [rounds_succ]
    go_wp2
    go_ret
    exact ⟨rfl, Below.refl _ _⟩
  obtain ⟨g, off, hp, hg, hc⟩ := H4.out (by omega)
  obtain ⟨g', off', hp', hg', hc'⟩ := H4'.out (by omega)
  subst hp hp'
  have HC := hide hc
  have HC' := hide hc'
  clear hc hc'
  go_enter Tryz.func106, Tryz.ntmps106
  go_wp2
  go_loopw [5] (fun i wr => ∃ k : Nat, k ≤ xs.length ∧ i = .int .i64 k ∧ Hid (Below w.heap.size w wr)) (fun i _ => xs.length - (intOf i).toNat)
  case atStart => exact ⟨0, Nat.zero_le _, rfl, Below.refl _ _⟩
  case round =>
    obtain ⟨k, hk, rfl, HBel⟩ := hrel
    by_cases hlt : k < xs.length
    · have hck : wr.cell? ⟨g, off + k, none⟩ = some (.string (xs[k]'hlt)) := by rw [HBel.out.cell (p := ⟨g, off + k, none⟩) hg]; exact HC.out k hlt
      have hck' : wr.cell? ⟨g', off' + k, none⟩ = some (.string (xs[k]'hlt)) := by rw [HBel.out.cell (p := ⟨g', off' + k, none⟩) hg']; exact HC'.out k hlt
      have hki : (k : Int) < (xs.length : Int) := by omega
      go_wp2
      go_region
      go_wp2
      go_roundw
      case rel => exact ⟨k + 1, by omega, by go_num, HBel.out.drew⟩
      case measure => simp [intOf]; omega
    · go_wp2
      go_ret
      exact ⟨rfl, HBel.out⟩
end Go.Proofs.YtckcfjibiidafaaGreat
/- The marks that the laws put into memory that an answer owns: the text of a number, put into each place, and looked for again. -/
namespace Go.Proofs.YtckcfjibiidafaaGreat
open Go.RowKit

def oneByte (c : Int) : ByteArray := ⟨#[UInt8.ofNat c.toNat]⟩
def markTo : Nat → Nat → ByteArray → ByteArray
  | 0, _, out => out
  | f + 1, k, out => if k = 0 then out else markTo f (k / 10) (oneByte (48 + (k : Int) % 10) ++ out)
/-- The text that marks the number k. -/
def markOf (k : Nat) : ByteArray := if k = 0 then ⟨#[109, 48]⟩ else (⟨#[109]⟩ : ByteArray) ++ markTo k k ⟨#[]⟩

theorem one_run (w : World) (c : Int) (h0 : 0 ≤ c) (h1 : c ≤ 255) :
    (convert 74 9 (.slice (some ⟨w.heap.size, 0, none⟩) 1 1)).run Tryz.prog (w.alloc (.cells #[.int .u8 c] 5)) = .ok (.string (oneByte c)) (w.alloc (.cells #[.int .u8 c] 5)) := by
  refine run_convert_bytes_back (P := Tryz.prog) _ 74 9 5 ⟨w.heap.size, 0, none⟩ 1 [UInt8.ofNat c.toNat] Tryz.underlying74 Tryz.underlying5 Tryz.underlying9 (fun j hj => ?_)
  have ea : (⟨w.heap.size, 0, none⟩ : Addr).add j = ⟨w.heap.size, j, none⟩ := by unfold Addr.add; split <;> simp_all
  rw [ea, cell_of_row _ w.heap.size j _ 5 (0, 0) (heap_alloc_new w _)]
  match j, hj with
  | 0, _ => simp; omega

set_option maxHeartbeats 1000000 in
theorem markText_any (k : Nat) (w : World) (hk : k ≤ 100000000) :
    Calls Tryz.prog 37 #[.int .i64 (k : Int)] w fun e w' => e = .returned (.string (markOf k)) ∧ Below w.heap.size w w' := by
  by_cases h0 : k = 0
  · subst h0
    go_enter Tryz.func37, Tryz.ntmps37
    go_wp2
    go_ret
    exact ⟨rfl, Below.refl _ _⟩
  have HF : Hid (markOf k = (⟨#[109]⟩ : ByteArray) ++ markTo k k ⟨#[]⟩) := if_neg h0
  go_enter Tryz.func37, Tryz.ntmps37
  go_wp2
  go_loopw [0, 3] (fun x o wr => ∃ (j f : Nat) (out : ByteArray), x = .int .i64 (j : Int) ∧ o = .string out ∧ out.size + j ≤ 100000000 ∧ j ≤ f ∧ Hid (markTo k k ⟨#[]⟩ = markTo f j out) ∧ Hid (Below w.heap.size w wr)) (fun x _ _ => (intOf x).toNat)
  case atStart => exact ⟨k, k, _, rfl, rfl, by show 0 + k ≤ 100000000; omega, Nat.le_refl _, rfl, Below.refl _ _⟩
  case round =>
    obtain ⟨j, f, out, rfl, rfl, hs, hf, HM, HB⟩ := hrel
    by_cases hj : 0 < j
    · obtain ⟨f', rfl⟩ : ∃ f', f = f' + 1 := ⟨f - 1, by omega⟩
      have HN : Hid (markTo k k ⟨#[]⟩ = markTo f' (j / 10) (oneByte (48 + (j : Int) % 10) ++ out)) := by
        rw [HM.out]; exact if_neg (by omega)
      have hr := one_run wr (48 + (j : Int) % 10) (by omega) (by omega)
      have h1 : (oneByte (48 + (j : Int) % 10)).size ≤ 1 := Nat.le_refl 1
      have HB2 := hide (HB.out.alloc HB.out.size (.cells #[.int .u8 (48 + (j : Int) % 10)] 5))
      go_wp2
      go_roundw
      case rel => exact ⟨j / 10, f', _, by simp, rfl, by rw [ByteArray.size_append]; omega, by omega, HN, HB2⟩
      case measure => simp [intOf]; omega
    · have hj0 : j = 0 := by omega
      have HE : Hid (markOf k = (⟨#[109]⟩ : ByteArray) ++ out) := by
        rw [HF.out, HM.out, hj0]
        cases f <;> rfl
      go_wp2
      go_ret
      exact ⟨by rw [HE.out]; rfl, HB.out⟩

def marks (k n : Nat) : List ByteArray := (List.range n).map fun i => markOf (k + i)
theorem marks_len (k n : Nat) : (marks k n).length = n := by simp [marks]
theorem marks_succ (k n : Nat) : marks k (n + 1) = marks k n ++ [markOf (k + n)] := by simp [marks, List.range_succ]
theorem marks_get (k n i : Nat) (h : i < (marks k n).length) : (marks k n)[i] = markOf (k + i) := by simp [marks]
theorem mark_next (k : Nat) (cs : List Value) (j : Nat) (h : j < cs.length) :
    (strs (marks k j) ++ cs.drop j).set j (.string (markOf (k + j))) = strs (marks k (j + 1)) ++ cs.drop (j + 1) := by
  have hl : (strs (marks k j)).length = j := by rw [strs_len, marks_len]
  rw [List.set_append_right _ _ (by omega), hl, Nat.sub_self, List.drop_eq_getElem_cons h, List.set_cons_zero, marks_succ]
  unfold strs
  rw [List.map_append, List.append_assoc]
  rfl
theorem mark_len (k : Nat) (cs : List Value) (j : Nat) (h : j ≤ cs.length) : (strs (marks k j) ++ cs.drop j).length = cs.length := by
  rw [List.length_append, strs_len, marks_len, List.length_drop]; omega

set_option maxHeartbeats 1000000 in
theorem markStringS_any (G n : Nat) (cs : List Value) (k : Nat) (w : World) (hn : n ≤ cs.length) (hm : n ≤ 1048576) (hk : k ≤ 10000000) (hr : Row w G 9 cs) :
    Calls Tryz.prog 83 #[.slice (some ⟨G, 0, none⟩) n cs.length, .int .i64 (k : Int)] w fun e w' =>
      e = .returned (.int .i64 ((k + n : Nat) : Int)) ∧ Row w' G 9 (strs (marks k n) ++ cs.drop n) ∧ Only G w w' := by
  have HR := hide hr
  clear hr
  go_enter Tryz.func83, Tryz.ntmps83
  go_wp2
  go_loopw [1, 5] (fun x i wr => ∃ j : Nat, j ≤ n ∧ i = .int .i64 (j : Int) ∧ x = .int .i64 ((k : Int) + j) ∧ Hid (Row wr G 9 (strs (marks k j) ++ cs.drop j)) ∧ Hid (Only G w wr)) (fun _ i _ => n - (intOf i).toNat)
  case atStart => exact ⟨0, Nat.zero_le _, rfl, by simp, HR.out, Only.refl _ _⟩
  case round =>
    obtain ⟨j, hj, rfl, rfl, HRow, HO⟩ := hrel
    by_cases hlt : j < n
    · go_wp2_with fail
      have ek : ((k : Int) + (j : Int)) = ((k + j : Nat) : Int) := by simp
      rw [ek]
      refine (markText_any (k + j) _ (by omega)).mono ?_
      rintro e w2 ⟨rfl, hb2⟩
      have hrow2 := HRow.out.below hb2 HRow.out.lt
      obtain ⟨u, hu⟩ := hrow2.some j (by rw [mark_len k cs j (by omega)]; omega)
      have hf := hrow2.free j
      have hnext := hrow2.set (j := j) (.string (markOf (k + j)))
      rw [mark_next k cs j (by omega)] at hnext
      have HN := hide hnext
      have HM := hide ((HO.out.below hb2).set (j := j) (.string (markOf (k + j))))
      clear hnext hrow2 hb2 ek
      go_wp2
      go_roundw
      case rel => exact ⟨j + 1, by omega, by go_num, by go_num, HN, HM⟩
      case measure => simp [intOf]; omega
    · have hjn : j = n := by omega
      subst hjn
      go_wp2
      go_ret
      exact ⟨ret_int (by simp), HRow.out, HO.out⟩

set_option maxHeartbeats 400000 in
theorem markStringS_none (p : Option Addr) (cap k : Nat) (w : World) :
    Calls Tryz.prog 83 #[.slice p 0 cap, .int .i64 (k : Int)] w fun e w' => e = .returned (.int .i64 (k : Int)) ∧ w' = w := by
  go_enter Tryz.func83, Tryz.ntmps83
  go_wp2
  refine wp_loop_rounds 1 ?_
  rw [rounds_succ]
  go_wp2
  go_ret
  exact ⟨rfl, rfl⟩

set_option maxHeartbeats 1000000 in
theorem heldStringS_any (v : Value) (k n : Nat) (w : World) (hn : n ≤ 1048576) (hk : k ≤ 10000000) (hr : Reads w v (marks k n)) :
    Calls Tryz.prog 84 #[v, .int .i64 (k : Int)] w fun e w' => e = .returned (.int .i64 ((k + n : Nat) : Int)) ∧ Below w.heap.size w w' := by
  obtain ⟨p, cap, rfl, h1, h2, h3, h4⟩ := hr
  have H4 := hide h4
  rw [marks_len] at h1 ⊢
  clear h3 h4
  unfold maxLen at h2
  by_cases hx : n = 0
  · subst hx
    go_enter Tryz.func84, Tryz.ntmps84
    go_wp2
    refine wp_loop_rounds 1 ?_
    rw [rounds_succ]
    go_wp2
    go_ret
    exact ⟨rfl, Below.refl _ _⟩
  obtain ⟨g, off, hp, hg, hc⟩ := H4.out (by rw [marks_len]; omega)
  subst hp
  have HC := hide hc
  clear hc
  go_enter Tryz.func84, Tryz.ntmps84
  go_wp2
  go_loopw [1, 5] (fun x i wr => ∃ j : Nat, j ≤ n ∧ i = .int .i64 (j : Int) ∧ x = .int .i64 ((k : Int) + j) ∧ Hid (Below w.heap.size w wr)) (fun _ i _ => n - (intOf i).toNat)
  case atStart => exact ⟨0, Nat.zero_le _, rfl, by simp, Below.refl _ _⟩
  case round =>
    obtain ⟨j, hj, rfl, rfl, HBel⟩ := hrel
    by_cases hlt : j < n
    · have hck : wr.cell? ⟨g, off + j, none⟩ = some (.string (markOf (k + j))) := by
        rw [HBel.out.cell (p := ⟨g, off + j, none⟩) hg, HC.out j (by rw [marks_len]; exact hlt), marks_get]
      have hki : (j : Int) < (n : Int) := by omega
      have hwr : g < wr.heap.size := Nat.lt_of_lt_of_le hg HBel.out.size
      have ek : ((k : Int) + (j : Int)) = ((k + j : Nat) : Int) := by simp
      have HK := hide ek
      clear ek
      go_wp2_with fail
      go_region_with (go_at_call 37; rw [HK.out]; refine (markText_any (k + j) _ (by omega)).mono ?_; rintro e w2 ⟨rfl, hb2⟩; have hck2 := (hb2.cell (p := ⟨g, off + j, none⟩) (by simpa using hwr)).trans hck)
      all_goals
        have HB2 := hide (HBel.out.trans ((below_drew hb2).mono HBel.out.size))
        clear hb2
        go_wp2
        go_roundw
        case rel => exact ⟨j + 1, by omega, by go_num, by go_num, HB2⟩
        case measure => simp [intOf]; omega
    · have hjn : j = n := by omega
      subst hjn
      go_wp2
      go_ret
      exact ⟨ret_int (by simp), HBel.out⟩
end Go.Proofs.YtckcfjibiidafaaGreat
