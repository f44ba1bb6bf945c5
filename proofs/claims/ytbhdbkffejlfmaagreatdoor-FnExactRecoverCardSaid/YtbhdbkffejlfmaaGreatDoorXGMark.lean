/- The marks that the laws put into memory that an answer owns: the text of a number, put into each place, and looked for again. -/
import Derived.Test.YtbhdbkffejlfmaaGreatDoorXGMem
import Derived.Laws.IdiomStrings
import Derived.Deep.RegionWith
namespace Go.Proofs.YtbhdbkffejlfmaaGreatDoor
open Go.RowKit

def oneByte (c : Int) : ByteArray := ⟨#[UInt8.ofNat c.toNat]⟩
def markTo : Nat → Nat → ByteArray → ByteArray
  | 0, _, out => out
  | f + 1, k, out => if k = 0 then out else markTo f (k / 10) (oneByte (48 + (k : Int) % 10) ++ out)
/-- The text that marks the number k. -/
def markOf (k : Nat) : ByteArray := if k = 0 then ⟨#[109, 48]⟩ else (⟨#[109]⟩ : ByteArray) ++ markTo k k ⟨#[]⟩

theorem one_run (w : World) (c : Int) (h0 : 0 ≤ c) (h1 : c ≤ 255) :
    (convert 102 9 (.slice (some ⟨w.heap.size, 0, none⟩) 1 1)).run Tryz.prog (w.alloc (.cells #[.int .u8 c] 5)) = .ok (.string (oneByte c)) (w.alloc (.cells #[.int .u8 c] 5)) := by
  refine run_convert_bytes_back (P := Tryz.prog) _ 102 9 5 ⟨w.heap.size, 0, none⟩ 1 [UInt8.ofNat c.toNat] Tryz.underlying102 Tryz.underlying5 Tryz.underlying9 (fun j hj => ?_)
  have ea : (⟨w.heap.size, 0, none⟩ : Addr).add j = ⟨w.heap.size, j, none⟩ := by unfold Addr.add; split <;> simp_all
  rw [ea, cell_of_row _ w.heap.size j _ 5 (0, 0) (heap_alloc_new w _)]
  match j, hj with
  | 0, _ => simp; omega

set_option maxHeartbeats 1000000 in
theorem markText_any (k : Nat) (w : World) (hk : k ≤ 100000000) :
    Calls Tryz.prog 53 #[.int .i64 (k : Int)] w fun e w' => e = .returned (.string (markOf k)) ∧ Below w.heap.size w w' := by
  by_cases h0 : k = 0
  · subst h0
    go_enter Tryz.func53, Tryz.ntmps53
    go_wp2
    go_ret
    exact ⟨rfl, Below.refl _ _⟩
  have HF : Hid (markOf k = (⟨#[109]⟩ : ByteArray) ++ markTo k k ⟨#[]⟩) := if_neg h0
  go_enter Tryz.func53, Tryz.ntmps53
  go_wp2
  go_loopw [0, 3] (fun x o wr => ∃ (j f : Nat) (out : ByteArray), x = .int .i64 (j : Int) ∧ o = .string out ∧ out.size + j ≤ 100000000 ∧ j ≤ f ∧ Hid (markTo k k ⟨#[]⟩ = markTo f j out) ∧ Hid (Below w.heap.size w wr)) (fun x _ _ => (intOf x).toNat)
  case atStart => exact ⟨k, k, _, rfl, rfl, by show 0 + k ≤ 100000000; omega, Nat.le_refl _, rfl, Below.refl _ _⟩
  case round =>
    obtain ⟨j, f, out, rfl, rfl, hs, hf, HM, HB⟩ := hrel
    by_cases hj : 0 < j
    · obtain ⟨f', rfl⟩ : ∃ f', f = f' + 1 := ⟨f - 1, by omega⟩
      have HN : Hid (markTo k k ⟨#[]⟩ = markTo f' (j / 10) (oneByte (48 + (j : Int) % 10) ++ out)) := by
        rw [HM.out]; exact if_neg (by omega)
      have hr := one_run wr (48 + (j : Int) % 10) (by omega) (by omega)
      have h1 : (oneByte (48 + (j : Int) % 10)).size ≤ 1 := Nat.le_refl 1
      have HB2 := hide (HB.out.alloc HB.out.size (.cells #[.int .u8 (48 + (j : Int) % 10)] 5))
      go_wp2
      go_roundw
      case rel => exact ⟨j / 10, f', _, by simp, rfl, by rw [ByteArray.size_append]; omega, by omega, HN, HB2⟩
      case measure => simp [intOf]; omega
    · have hj0 : j = 0 := by omega
      have HE : Hid (markOf k = (⟨#[109]⟩ : ByteArray) ++ out) := by
        rw [HF.out, HM.out, hj0]
        cases f <;> rfl
      go_wp2
      go_ret
      exact ⟨by rw [HE.out]; rfl, HB.out⟩

def marks (k n : Nat) : List ByteArray := (List.range n).map fun i => markOf (k + i)
theorem marks_len (k n : Nat) : (marks k n).length = n := by simp [marks]
theorem marks_succ (k n : Nat) : marks k (n + 1) = marks k n ++ [markOf (k + n)] := by simp [marks, List.range_succ]
theorem marks_get (k n i : Nat) (h : i < (marks k n).length) : (marks k n)[i] = markOf (k + i) := by simp [marks]
theorem mark_next (k : Nat) (cs : List Value) (j : Nat) (h : j < cs.length) :
    (strs (marks k j) ++ cs.drop j).set j (.string (markOf (k + j))) = strs (marks k (j + 1)) ++ cs.drop (j + 1) := by
  have hl : (strs (marks k j)).length = j := by rw [strs_len, marks_len]
  rw [List.set_append_right _ _ (by omega), hl, Nat.sub_self, List.drop_eq_getElem_cons h, List.set_cons_zero, marks_succ]
  unfold strs
  rw [List.map_append, List.append_assoc]
  rfl
theorem mark_len (k : Nat) (cs : List Value) (j : Nat) (h : j ≤ cs.length) : (strs (marks k j) ++ cs.drop j).length = cs.length := by
  rw [List.length_append, strs_len, marks_len, List.length_drop]; omega

set_option maxHeartbeats 1000000 in
theorem markStringS_any (G n : Nat) (cs : List Value) (k : Nat) (w : World) (hn : n ≤ cs.length) (hm : n ≤ 1048576) (hk : k ≤ 10000000) (hr : Row w G 9 cs) :
    Calls Tryz.prog 32 #[.slice (some ⟨G, 0, none⟩) n cs.length, .int .i64 (k : Int)] w fun e w' =>
      e = .returned (.int .i64 ((k + n : Nat) : Int)) ∧ Row w' G 9 (strs (marks k n) ++ cs.drop n) ∧ Only G w w' := by
  have HR := hide hr
  clear hr
  go_enter Tryz.func32, Tryz.ntmps32
  go_wp2
  go_loopw [1, 5] (fun x i wr => ∃ j : Nat, j ≤ n ∧ i = .int .i64 (j : Int) ∧ x = .int .i64 ((k : Int) + j) ∧ Hid (Row wr G 9 (strs (marks k j) ++ cs.drop j)) ∧ Hid (Only G w wr)) (fun _ i _ => n - (intOf i).toNat)
  case atStart => exact ⟨0, Nat.zero_le _, rfl, by simp, HR.out, Only.refl _ _⟩
  case round =>
    obtain ⟨j, hj, rfl, rfl, HRow, HO⟩ := hrel
    by_cases hlt : j < n
    · go_wp2_with fail
      have ek : ((k : Int) + (j : Int)) = ((k + j : Nat) : Int) := by simp
      rw [ek]
      refine (markText_any (k + j) _ (by omega)).mono ?_
      rintro e w2 ⟨rfl, hb2⟩
      have hrow2 := HRow.out.below hb2 HRow.out.lt
      obtain ⟨u, hu⟩ := hrow2.some j (by rw [mark_len k cs j (by omega)]; omega)
      have hf := hrow2.free j
      have hnext := hrow2.set (j := j) (.string (markOf (k + j)))
      rw [mark_next k cs j (by omega)] at hnext
      have HN := hide hnext
      have HM := hide ((HO.out.below hb2).set (j := j) (.string (markOf (k + j))))
      clear hnext hrow2 hb2 ek
      go_wp2
      go_roundw
      case rel => exact ⟨j + 1, by omega, by go_num, by go_num, HN, HM⟩
      case measure => simp [intOf]; omega
    · have hjn : j = n := by omega
      subst hjn
      go_wp2
      go_ret
      exact ⟨ret_int (by simp), HRow.out, HO.out⟩

set_option maxHeartbeats 400000 in
theorem markStringS_none (p : Option Addr) (cap k : Nat) (w : World) :
    Calls Tryz.prog 32 #[.slice p 0 cap, .int .i64 (k : Int)] w fun e w' => e = .returned (.int .i64 (k : Int)) ∧ w' = w := by
  go_enter Tryz.func32, Tryz.ntmps32
  go_wp2
  refine wp_loop_rounds 1 ?_
  rw [rounds_succ]
  go_wp2
  go_ret
  exact ⟨rfl, rfl⟩

set_option maxHeartbeats 1000000 in
theorem heldStringS_any (v : Value) (k n : Nat) (w : World) (hn : n ≤ 1048576) (hk : k ≤ 10000000) (hr : Reads w v (marks k n)) :
    Calls Tryz.prog 54 #[v, .int .i64 (k : Int)] w fun e w' => e = .returned (.int .i64 ((k + n : Nat) : Int)) ∧ Below w.heap.size w w' := by
  obtain ⟨p, cap, rfl, h1, h2, h3, h4⟩ := hr
  have H4 := hide h4
  rw [marks_len] at h1 ⊢
  clear h3 h4
  unfold maxLen at h2
  by_cases hx : n = 0
  · subst hx
    go_enter Tryz.func54, Tryz.ntmps54
    go_wp2
    refine wp_loop_rounds 1 ?_
    rw [rounds_succ]
    go_wp2
    go_ret
    exact ⟨rfl, Below.refl _ _⟩
  obtain ⟨g, off, hp, hg, hc⟩ := H4.out (by rw [marks_len]; omega)
  subst hp
  have HC := hide hc
  clear hc
  go_enter Tryz.func54, Tryz.ntmps54
  go_wp2
  go_loopw [1, 5] (fun x i wr => ∃ j : Nat, j ≤ n ∧ i = .int .i64 (j : Int) ∧ x = .int .i64 ((k : Int) + j) ∧ Hid (Below w.heap.size w wr)) (fun _ i _ => n - (intOf i).toNat)
  case atStart => exact ⟨0, Nat.zero_le _, rfl, by simp, Below.refl _ _⟩
  case round =>
    obtain ⟨j, hj, rfl, rfl, HBel⟩ := hrel
    by_cases hlt : j < n
    · have hck : wr.cell? ⟨g, off + j, none⟩ = some (.string (markOf (k + j))) := by
        rw [HBel.out.cell (p := ⟨g, off + j, none⟩) hg, HC.out j (by rw [marks_len]; exact hlt), marks_get]
      have hki : (j : Int) < (n : Int) := by omega
      have hwr : g < wr.heap.size := Nat.lt_of_lt_of_le hg HBel.out.size
      have ek : ((k : Int) + (j : Int)) = ((k + j : Nat) : Int) := by simp
      have HK := hide ek
      clear ek
      go_wp2_with fail
      go_region_with (go_at_call 53; rw [HK.out]; refine (markText_any (k + j) _ (by omega)).mono ?_; rintro e w2 ⟨rfl, hb2⟩; have hck2 := (hb2.cell (p := ⟨g, off + j, none⟩) (by simpa using hwr)).trans hck)
      all_goals
        have HB2 := hide (HBel.out.trans ((below_drew hb2).mono HBel.out.size))
        clear hb2
        go_wp2
        go_roundw
        case rel => exact ⟨j + 1, by omega, by go_num, by go_num, HB2⟩
        case measure => simp [intOf]; omega
    · have hjn : j = n := by omega
      subst hjn
      go_wp2
      go_ret
      exact ⟨ret_int (by simp), HBel.out⟩
end Go.Proofs.YtbhdbkffejlfmaaGreatDoor

/- The laws' own helpers over lists of a number and a text each (what is pending): how much they take, a copy, are two alike. -/
namespace Go.Proofs.YtbhdbkffejlfmaaGreatDoor
open Go.RowKit

def szP : List (Int × ByteArray) → Int → Int
  | [], left => left
  | x :: r, left => if left - x.2.size < 0 then -1 else szP r (left - x.2.size)
def szPends (ps : List (Int × ByteArray)) (left : Int) : Int := if left - ps.length < 0 then -1 else szP ps (left - ps.length)
theorem szP_step (ps : List (Int × ByteArray)) (k : Nat) (h : k < ps.length) (L : Int) : szP (ps.drop k) L = if L - (ps[k]'h).2.size < 0 then -1 else szP (ps.drop (k + 1)) (L - (ps[k]'h).2.size) := by
  rw [List.drop_eq_getElem_cons h, szP]
theorem szP_le (ps : List (Int × ByteArray)) : ∀ left : Int, 0 ≤ szP ps left → szP ps left ≤ left ∧ ∀ x ∈ ps, (x.2.size : Int) ≤ left := by
  induction ps with
  | nil => intro left _; exact ⟨Int.le_refl _, by simp⟩
  | cons x r ih =>
    intro left h
    rw [szP] at h ⊢
    split at h
    · omega
    · rename_i hx
      rw [if_neg hx]
      obtain ⟨h1, h2⟩ := ih _ h
      refine ⟨by omega, ?_⟩
      intro y hy
      simp at hy
      rcases hy with rfl | hy
      · omega
      · have := h2 y hy; omega
theorem szPends_le (ps : List (Int × ByteArray)) (left : Int) (h : 0 ≤ szPends ps left) : szPends ps left ≤ left ∧ (ps.length : Int) ≤ left ∧ ∀ x ∈ ps, (x.2.size : Int) ≤ left := by
  unfold szPends at h ⊢
  split at h
  · omega
  · rename_i hx
    rw [if_neg hx]
    obtain ⟨h1, h2⟩ := szP_le ps _ h
    exact ⟨by omega, by omega, fun x hx => by have := h2 x hx; omega⟩

set_option maxHeartbeats 400000 in
theorem szPending_any (a : Int) (d : ByteArray) (left : Int) (w : World) (hl0 : 0 ≤ left) (hl : left ≤ 1048576) (hd : d.size ≤ maxLen) :
    Calls Tryz.prog 43 #[.agg #[.int .i64 a, .string d], .int .i64 left] w fun e w' => e = .returned (.int .i64 (if left - d.size < 0 then -1 else left - d.size)) ∧ Below w.heap.size w w' := by
  unfold maxLen at hd
  by_cases hneg : left - (d.size : Int) < 0
  · rw [if_pos hneg]
    go_enter Tryz.func43, Tryz.ntmps43
    go_wp2
    go_ret
    exact ⟨rfl, (Below.refl _ _).alloc (Nat.le_refl _) _⟩
  · rw [if_neg hneg]
    go_enter Tryz.func43, Tryz.ntmps43
    go_wp2
    go_ret
    exact ⟨rfl, (Below.refl _ _).alloc (Nat.le_refl _) _⟩

set_option maxHeartbeats 1000000 in
theorem szPendingS_any (v : Value) (ps : List (Int × ByteArray)) (left : Int) (w : World) (hl0 : 0 ≤ left) (hl : left ≤ 1048576) (hr : ReadsP w v ps) :
    Calls Tryz.prog 23 #[v, .int .i64 left] w fun e w' => e = .returned (.int .i64 (szPends ps left)) ∧ Below w.heap.size w w' := by
  obtain ⟨p, cap, rfl, h1, h2, h3, h4⟩ := hr
  unfold maxLen at h2
  by_cases h0 : left - ps.length < 0
  · have HF : Hid (szPends ps left = -1) := if_pos h0
    have hx : 0 < ps.length := by omega
    clear h4 h3
    go_enter Tryz.func23, Tryz.ntmps23
    go_wp2
    go_ret
    exact ⟨ret_int HF.out.symm, Below.refl _ _⟩
  · have HF : Hid (szPends ps left = szP ps (left - ps.length)) := if_neg h0
    by_cases hn : ps.length = 0
    · have hps : ps = [] := List.eq_nil_of_length_eq_zero hn
      subst hps
      clear h4 h3
      go_enter Tryz.func23, Tryz.ntmps23
      go_wp2
      refine wp_loop_rounds 1 ?_
      rw [rounds_succ]
      go_wp2
      go_ret
      exact ⟨ret_int (by rw [HF.out]; simp [szP]), Below.refl _ _⟩
    · obtain ⟨g, off, rfl, hg, hc⟩ := h4 (by omega)
      have HC := hide hc
      have H3 := hide h3
      clear hc h3 h4
      go_enter Tryz.func23, Tryz.ntmps23
      go_wp2
      go_loopw [1, 5] (fun l i wr => ∃ (k : Nat) (L : Int), k ≤ ps.length ∧ i = .int .i64 k ∧ l = .int .i64 L ∧ 0 ≤ L ∧ L ≤ 1048576 ∧ Hid (szPends ps left = szP (ps.drop k) L) ∧ Hid (Below w.heap.size w wr)) (fun _ i _ => ps.length - (intOf i).toNat)
      case atStart => exact ⟨0, _, Nat.zero_le _, rfl, rfl, by omega, by omega, HF.out, Below.refl _ _⟩
      case round =>
        obtain ⟨k, L, hk, rfl, rfl, hL0, hL1, HS, HB⟩ := hrel
        by_cases hlt : k < ps.length
        · obtain ⟨hc0, hc1⟩ := HC.out k hlt
          have hk0 := (HB.out.cell (p := ⟨g, off + k * 2, none⟩) hg).trans hc0
          have hk1 := (HB.out.cell (p := ⟨g, off + k * 2 + 1, none⟩) hg).trans hc1
          clear hc0 hc1
          have hd := H3.out (ps[k]'hlt) (List.getElem_mem hlt)
          have HT := hide (szP_step ps k hlt L)
          go_wp2_with fail
          refine (szPending_any _ _ _ _ hL0 hL1 hd).mono ?_
          rintro e w2 ⟨rfl, hb2⟩
          have HB2 := hide (HB.out.trans (hb2.mono HB.out.size))
          clear hb2 hk0 hk1 hd
          by_cases hneg : L - ((ps[k]'hlt).2.size : Int) < 0
          · have HU : Hid (szPends ps left = -1) := by rw [HS.out, HT.out]; exact if_pos hneg
            rw [if_pos hneg]
            go_wp2
            go_ret
            exact ⟨ret_int HU.out.symm, HB2.out⟩
          · have HU : Hid (szPends ps left = szP (ps.drop (k + 1)) (L - ((ps[k]'hlt).2.size : Int))) := by rw [HS.out, HT.out]; exact if_neg hneg
            rw [if_neg hneg]
            go_wp2
            go_roundw
            case rel => exact ⟨k + 1, _, by omega, by go_num, rfl, by omega, by omega, HU, HB2⟩
            case measure => simp [intOf]; omega
        · have HU : Hid (szPends ps left = L) := by rw [HS.out, List.drop_eq_nil_of_le (by omega)]; exact rfl
          go_wp2
          go_ret
          exact ⟨ret_int HU.out.symm, HB.out⟩

set_option maxHeartbeats 400000 in
theorem toPending_any (a : Int) (d : ByteArray) (w : World) :
    Calls Tryz.prog 48 #[.agg #[.int .i64 a, .string d]] w fun e w' => e = .returned (.agg #[.int .i64 a, .string d]) ∧ Below w.heap.size w w' := by
  go_enter Tryz.func48, Tryz.ntmps48
  go_wp2
  exact bodyPost_ret (v := .agg #[.int .i64 a, .string d]) (by simp [results, Tryz.results48, go_sem]) rfl ⟨rfl, (((Below.refl _ _).alloc (Nat.le_refl _) _).alloc (by simp) _).alloc (by simp <;> omega) _⟩

theorem Tryz.infoPend : (Tryz.prog.info? 73).map (fun i => (i.zero, i.size, i.bytes)) = some (some (.agg #[.int .i64 0, .string ⟨#[]⟩]), 2, 24) := by kernel_rfl

set_option maxHeartbeats 1000000 in
theorem toPendingS_any (v : Value) (ps : List (Int × ByteArray)) (w : World) (hn : ps.length ≤ 1048576) (hr : ReadsP w v ps) :
    Calls Tryz.prog 27 #[v] w fun e w' => e = .returned (.slice (some ⟨w.heap.size, 0, none⟩) ps.length ps.length) ∧ Row w' w.heap.size 73 (pcs ps) ∧ Below w.heap.size w w' := by
  obtain ⟨i0, hi, hz0, hz1, hz2⟩ := info_parts Tryz.infoPend
  obtain ⟨p, cap, rfl, h1, h2, h3, h4⟩ := hr
  have H4 := hide h4
  clear h3 h4
  go_enter Tryz.func27, Tryz.ntmps27
  go_wp2_with (at_make; refine wpList_make_full _ rfl _ _ 27 rfl w.heap.size 73 i0 (.agg #[.int .i64 0, .string ⟨#[]⟩]) 2 Tryz.underlying27 hi hz0 hz1 _ _ _ _ ps.length rfl rfl rfl rfl ?b2 ?b3 (Nat.le_refl _) ?_)
  case b2 => rw [hz2]; omega
  case b3 => unfold maxLen; omega
  intro w1 hown hgrow
  obtain ⟨Z, hZ, hZl⟩ := own_row hown
  have hb1 : Below w.heap.size w w1 := (Below.refl _ _).grown hgrow (Nat.le_refl _) (by simp)
  have HZ := hide hZ
  have HB := hide hb1
  have HL := hide hZl
  clear hZ hown hgrow hb1 hZl
  go_wp2_with fail
  go_loopw [4] (fun i wr => ∃ k : Nat, k ≤ ps.length ∧ i = .int .i64 k ∧ Hid (Row wr w.heap.size 73 (pcs (ps.take k) ++ Z.drop (k * 2))) ∧ Hid (Below w.heap.size w wr)) (fun i _ => ps.length - (intOf i).toNat)
  case atStart => exact ⟨0, Nat.zero_le _, rfl, HZ.out, HB⟩
  case round =>
    obtain ⟨k, hk, rfl, HRow, HBel⟩ := hrel
    by_cases hlt : k < ps.length
    · obtain ⟨g, off, hp, hg, hc⟩ := H4.out (by omega)
      subst hp
      obtain ⟨hc0, hc1⟩ := hc k hlt
      have hk0 := (HBel.out.cell (p := ⟨g, off + k * 2, none⟩) hg).trans hc0
      have hk1 := (HBel.out.cell (p := ⟨g, off + k * 2 + 1, none⟩) hg).trans hc1
      clear hc hc0 hc1
      go_wp2_with fail
      refine (toPending_any _ _ _).mono ?_
      rintro e w2 ⟨rfl, hb2⟩
      have hrow2 := HRow.out.below hb2 HRow.out.lt
      have hlen := len_nextP ps Z k hk HL.out
      obtain ⟨u0, hu0⟩ := hrow2.some (k * 2) (by omega)
      obtain ⟨u1, hu1⟩ := hrow2.some (k * 2 + 1) (by omega)
      have hf0 := hrow2.free (k * 2)
      have hf1 := hrow2.free (k * 2 + 1)
      have hnext := (hrow2.set (j := k * 2) (.int .i64 (ps[k]'hlt).1)).set (j := k * 2 + 1) (.string (ps[k]'hlt).2)
      rw [set_nextP ps Z k hlt HL.out] at hnext
      have HN := hide hnext
      have HM := hide (((HBel.out.trans (hb2.mono HBel.out.size)).setCell (p := ⟨w.heap.size, k * 2, none⟩) (Nat.le_refl _) (.int .i64 (ps[k]'hlt).1)).setCell (p := ⟨w.heap.size, k * 2 + 1, none⟩) (Nat.le_refl _) (.string (ps[k]'hlt).2))
      clear hnext hrow2 hb2 hlen hk0 hk1
      go_wp2
      go_roundw
      case rel => exact ⟨k + 1, by omega, by go_num, HN, HM⟩
      case measure => simp [intOf]; omega
    · have HE : Hid (Row wr w.heap.size 73 (pcs ps)) := by
        have := HRow.out
        rw [List.take_of_length_le (by omega), List.drop_eq_nil_of_le (by rw [HL.out]; omega), List.append_nil] at this
        exact this
      go_wp2
      go_ret
      exact ⟨rfl, HE.out, HBel.out⟩

set_option maxHeartbeats 400000 in
theorem eqPending_same (a : Int) (d : ByteArray) (w : World) :
    Calls Tryz.prog 52 #[.agg #[.int .i64 a, .string d], .agg #[.int .i64 a, .string d]] w fun e w' => e = .returned (.bool true) ∧ Below w.heap.size w w' := by
  go_enter Tryz.func52, Tryz.ntmps52
  go_wp2
  go_ret
  exact ⟨rfl, ((Below.refl _ _).alloc (Nat.le_refl _) _).alloc (by simp) _⟩

set_option maxHeartbeats 1000000 in
theorem eqPendingS_same (v v' : Value) (ps : List (Int × ByteArray)) (w : World) (hn : ps.length ≤ 1048576) (hr : ReadsP w v ps) (hr' : ReadsP w v' ps) :
    Calls Tryz.prog 31 #[v, v'] w fun e w' => e = .returned (.bool true) ∧ Below w.heap.size w w' := by
  obtain ⟨p, cap, rfl, h1, h2, h3, h4⟩ := hr
  obtain ⟨p', cap', rfl, h1', h2', h3', h4'⟩ := hr'
  have H4 := hide h4
  have H4' := hide h4'
  clear h3 h3' h4 h4'
  unfold maxLen at h2 h2'
  by_cases hx : ps.length = 0
  · have hps : ps = [] := List.eq_nil_of_length_eq_zero hx
    subst hps
    go_enter Tryz.func31, Tryz.ntmps31
    go_wp2
    refine wp_loop_rounds 1 ?_
    rw [rounds_succ]
    go_wp2
    go_ret
    exact ⟨rfl, Below.refl _ _⟩
  obtain ⟨g, off, hp, hg, hc⟩ := H4.out (by omega)
  obtain ⟨g', off', hp', hg', hc'⟩ := H4'.out (by omega)
  subst hp hp'
  have HC := hide hc
  have HC' := hide hc'
  clear hc hc'
  go_enter Tryz.func31, Tryz.ntmps31
  go_wp2
  go_loopw [5] (fun i wr => ∃ k : Nat, k ≤ ps.length ∧ i = .int .i64 k ∧ Hid (Below w.heap.size w wr)) (fun i _ => ps.length - (intOf i).toNat)
  case atStart => exact ⟨0, Nat.zero_le _, rfl, Below.refl _ _⟩
  case round =>
    obtain ⟨k, hk, rfl, HBel⟩ := hrel
    by_cases hlt : k < ps.length
    · have hk0 := (HBel.out.cell (p := ⟨g, off + k * 2, none⟩) hg).trans (HC.out k hlt).1
      have hk1 := (HBel.out.cell (p := ⟨g, off + k * 2 + 1, none⟩) hg).trans (HC.out k hlt).2
      have hk0' := (HBel.out.cell (p := ⟨g', off' + k * 2, none⟩) hg').trans (HC'.out k hlt).1
      have hk1' := (HBel.out.cell (p := ⟨g', off' + k * 2 + 1, none⟩) hg').trans (HC'.out k hlt).2
      have hki : (k : Int) < (ps.length : Int) := by omega
      go_wp2_with fail
      go_region_with (go_at_call 52; refine (eqPending_same _ _ _).mono ?_; rintro e w2 ⟨rfl, hb2⟩)
      all_goals
        have HB2 := hide (HBel.out.trans ((below_drew hb2).mono HBel.out.size))
        clear hb2
        go_wp2
        go_roundw
        case rel => exact ⟨k + 1, by omega, by go_num, HB2⟩
        case measure => simp [intOf]; omega
    · go_wp2
      go_ret
      exact ⟨rfl, HBel.out⟩

def marksP (k n : Nat) : List (Int × ByteArray) := (List.range n).map fun i : Nat => ((k : Int) + (i : Int) * 2, markOf (k + i * 2 + 1))
theorem marksP_len (k n : Nat) : (marksP k n).length = n := by simp [marksP]
theorem marksP_succ (k n : Nat) : marksP k (n + 1) = marksP k n ++ [((k : Int) + (n : Int) * 2, markOf (k + n * 2 + 1))] := by simp [marksP, List.range_succ]
theorem marksP_get (k n i : Nat) (h : i < (marksP k n).length) : (marksP k n)[i] = ((k : Int) + (i : Int) * 2, markOf (k + i * 2 + 1)) := by simp [marksP]
theorem markP_next (k : Nat) (cs : List Value) (j : Nat) (h : j * 2 + 1 < cs.length) :
    ((pcs (marksP k j) ++ cs.drop (j * 2)).set (j * 2) (.int .i64 ((k : Int) + (j : Int) * 2))).set (j * 2 + 1) (.string (markOf (k + j * 2 + 1))) = pcs (marksP k (j + 1)) ++ cs.drop ((j + 1) * 2) := by
  have hl : (pcs (marksP k j)).length = j * 2 := by rw [pcs_len, marksP_len]
  rw [List.set_append_right _ _ (by omega), hl, Nat.sub_self, List.drop_eq_getElem_cons (by omega : j * 2 < cs.length), List.set_cons_zero,
    List.set_append_right _ _ (by omega), hl, show j * 2 + 1 - j * 2 = 1 by omega, List.drop_eq_getElem_cons h, List.set_cons_succ, List.set_cons_zero,
    marksP_succ, pcs_append, List.append_assoc, show (j + 1) * 2 = j * 2 + 1 + 1 by omega]
  rfl
theorem markP_len (k : Nat) (cs : List Value) (j : Nat) (h : j * 2 ≤ cs.length) : (pcs (marksP k j) ++ cs.drop (j * 2)).length = cs.length := by
  rw [List.length_append, pcs_len, marksP_len, List.length_drop]; omega

set_option maxHeartbeats 1000000 in
theorem markPendingS_any (G n cap : Nat) (cs : List Value) (k : Nat) (w : World) (hn : n ≤ cap) (hcap : cs.length = cap * 2) (hm : n ≤ 1048576) (hk : k ≤ 10000000) (hr : Row w G 73 cs) :
    Calls Tryz.prog 33 #[.slice (some ⟨G, 0, none⟩) n cap, .int .i64 (k : Int)] w fun e w' =>
      e = .returned (.int .i64 ((k + n * 2 : Nat) : Int)) ∧ Row w' G 73 (pcs (marksP k n) ++ cs.drop (n * 2)) ∧ Only G w w' := by
  have HR := hide hr
  have HL := hide hcap
  clear hr hcap
  go_enter Tryz.func33, Tryz.ntmps33
  go_wp2
  go_loopw [1, 5] (fun x i wr => ∃ j : Nat, j ≤ n ∧ i = .int .i64 (j : Int) ∧ x = .int .i64 ((k : Int) + (j : Int) * 2) ∧ Hid (Row wr G 73 (pcs (marksP k j) ++ cs.drop (j * 2))) ∧ Hid (Only G w wr)) (fun _ i _ => n - (intOf i).toNat)
  case atStart => exact ⟨0, Nat.zero_le _, rfl, by simp, HR.out, Only.refl _ _⟩
  case round =>
    obtain ⟨j, hj, rfl, rfl, HRow, HO⟩ := hrel
    by_cases hlt : j < n
    · have hlen := markP_len k cs j (by rw [HL.out]; omega)
      have hcl := HL.out
      obtain ⟨u0, hu0⟩ := HRow.out.some (j * 2) (by rw [hlen, hcl]; omega)
      have hf0 := HRow.out.free (j * 2)
      have HR1 := hide (HRow.out.set (j := j * 2) (.int .i64 ((k : Int) + (j : Int) * 2)))
      have HO1 := hide (HO.out.set (j := j * 2) (.int .i64 ((k : Int) + (j : Int) * 2)))
      have HLEN := hide hlen
      clear hlen hcl
      have ek : ((k : Int) + (j : Int) * 2 + 1) = ((k + j * 2 + 1 : Nat) : Int) := by simp
      have HK := hide ek
      clear ek
      go_wp2_with fail
      rw [HK.out]
      refine (markText_any (k + j * 2 + 1) _ (by omega)).mono ?_
      rintro e w2 ⟨rfl, hb2⟩
      rw [← HK.out]
      have hrow2 := HR1.out.below hb2 HR1.out.lt
      obtain ⟨u1, hu1⟩ := hrow2.some (j * 2 + 1) (by rw [List.length_set, HLEN.out, HL.out]; omega)
      have hf1 := hrow2.free (j * 2 + 1)
      have hnext := hrow2.set (j := j * 2 + 1) (.string (markOf (k + j * 2 + 1)))
      rw [markP_next k cs j (by rw [HL.out]; omega)] at hnext
      have HN := hide hnext
      have HM := hide ((HO1.out.below hb2).set (j := j * 2 + 1) (.string (markOf (k + j * 2 + 1))))
      clear hnext hrow2 hb2 hu0 hf0
      go_wp2
      go_roundw
      case rel => exact ⟨j + 1, by omega, by go_num, by go_num, HN, HM⟩
      case measure => simp [intOf]; omega
    · have hjn : j = n := by omega
      subst hjn
      go_wp2
      go_ret
      exact ⟨ret_int (by simp), HRow.out, HO.out⟩

set_option maxHeartbeats 400000 in
theorem markPendingS_none (p : Option Addr) (cap k : Nat) (w : World) :
    Calls Tryz.prog 33 #[.slice p 0 cap, .int .i64 (k : Int)] w fun e w' => e = .returned (.int .i64 (k : Int)) ∧ w' = w := by
  go_enter Tryz.func33, Tryz.ntmps33
  go_wp2
  refine wp_loop_rounds 1 ?_
  rw [rounds_succ]
  go_wp2
  go_ret
  exact ⟨rfl, rfl⟩

set_option maxHeartbeats 1000000 in
theorem heldPendingS_any (v : Value) (k n : Nat) (w : World) (hn : n ≤ 1048576) (hk : k ≤ 10000000) (hr : ReadsP w v (marksP k n)) :
    Calls Tryz.prog 55 #[v, .int .i64 (k : Int)] w fun e w' => e = .returned (.int .i64 ((k + n * 2 : Nat) : Int)) ∧ Below w.heap.size w w' := by
  obtain ⟨p, cap, rfl, h1, h2, h3, h4⟩ := hr
  have H4 := hide h4
  rw [marksP_len] at h1 ⊢
  clear h3 h4
  unfold maxLen at h2
  by_cases hx : n = 0
  · subst hx
    go_enter Tryz.func55, Tryz.ntmps55
    go_wp2
    refine wp_loop_rounds 1 ?_
    rw [rounds_succ]
    go_wp2
    go_ret
    exact ⟨rfl, Below.refl _ _⟩
  obtain ⟨g, off, hp, hg, hc⟩ := H4.out (by rw [marksP_len]; omega)
  subst hp
  have HC := hide hc
  clear hc
  go_enter Tryz.func55, Tryz.ntmps55
  go_wp2
  go_loopw [1, 5] (fun x i wr => ∃ j : Nat, j ≤ n ∧ i = .int .i64 (j : Int) ∧ x = .int .i64 ((k : Int) + (j : Int) * 2) ∧ Hid (Below w.heap.size w wr)) (fun _ i _ => n - (intOf i).toNat)
  case atStart => exact ⟨0, Nat.zero_le _, rfl, by simp, Below.refl _ _⟩
  case round =>
    obtain ⟨j, hj, rfl, rfl, HBel⟩ := hrel
    by_cases hlt : j < n
    · have hcc := HC.out j (by rw [marksP_len]; exact hlt)
      rw [marksP_get] at hcc
      have hk0 : wr.cell? ⟨g, off + j * 2, none⟩ = some (.int .i64 ((k : Int) + (j : Int) * 2)) := (HBel.out.cell (p := ⟨g, off + j * 2, none⟩) hg).trans hcc.1
      have hk1 : wr.cell? ⟨g, off + j * 2 + 1, none⟩ = some (.string (markOf (k + j * 2 + 1))) := (HBel.out.cell (p := ⟨g, off + j * 2 + 1, none⟩) hg).trans hcc.2
      clear hcc
      have hki : (j : Int) < (n : Int) := by omega
      have hwr : g < wr.heap.size := Nat.lt_of_lt_of_le hg HBel.out.size
      have ek : ((k : Int) + (j : Int) * 2 + 1) = ((k + j * 2 + 1 : Nat) : Int) := by simp
      have HK := hide ek
      clear ek
      go_wp2_with fail
      go_region_with (go_at_call 53; rw [HK.out]; refine (markText_any (k + j * 2 + 1) _ (by omega)).mono ?_; rintro e w2 ⟨rfl, hb2⟩; have hck2 := (hb2.cell (p := ⟨g, off + j * 2 + 1, none⟩) (by simpa using hwr)).trans hk1)
      all_goals
        have HB2 := hide (HBel.out.trans ((below_drew hb2).mono HBel.out.size))
        clear hb2
        go_wp2
        go_roundw
        case rel => exact ⟨j + 1, by omega, by go_num, by go_num, HB2⟩
        case measure => simp [intOf]; omega
    · have hjn : j = n := by omega
      subst hjn
      go_wp2
      go_ret
      exact ⟨ret_int (by simp), HBel.out⟩
end Go.Proofs.YtbhdbkffejlfmaaGreatDoor

/- The laws' own helpers over disks: how much one takes, a copy, are two alike, marks put in and looked for again. -/
namespace Go.Proofs.YtbhdbkffejlfmaaGreatDoor
open Go.RowKit

theorem markTo_size (f : Nat) : ∀ (k : Nat) (out : ByteArray), (markTo f k out).size ≤ out.size + k := by
  induction f with
  | zero => intro k out; exact Nat.le_add_right _ _
  | succ f ih =>
    intro k out
    rw [markTo]
    split
    · omega
    · have := ih (k / 10) (oneByte (48 + (k : Int) % 10) ++ out)
      have h1 : (oneByte (48 + (k : Int) % 10)).size = 1 := rfl
      rw [ByteArray.size_append, h1] at this
      omega
theorem markOf_size (k : Nat) : (markOf k).size ≤ k + 2 := by
  unfold markOf
  split
  · show 2 ≤ k + 2; omega
  · rw [ByteArray.size_append]
    have := markTo_size k k ⟨#[]⟩
    have h0 : (⟨#[]⟩ : ByteArray).size = 0 := rfl
    have h1 : (⟨#[109]⟩ : ByteArray).size = 1 := rfl
    omega
theorem marks_size (k n : Nat) (h : k + n ≤ 100000000) : ∀ x ∈ marks k n, x.size ≤ maxLen := by
  intro x hx
  simp only [marks, List.mem_map, List.mem_range] at hx
  obtain ⟨i, hi, rfl⟩ := hx
  have := markOf_size (k + i)
  unfold maxLen; omega
theorem marksP_size (k n : Nat) (h : k + n * 2 ≤ 100000000) : ∀ x ∈ marksP k n, x.2.size ≤ maxLen := by
  intro x hx
  simp only [marksP, List.mem_map, List.mem_range] at hx
  obtain ⟨i, hi, rfl⟩ := hx
  have := markOf_size (k + i * 2 + 1)
  show (markOf (k + i * 2 + 1)).size ≤ maxLen
  unfold maxLen; omega

theorem markS_own (B : Nat) (v : Value) (xs : List ByteArray) (k : Nat) (w : World) (hn : xs.length ≤ 1048576) (hk : k ≤ 10000000) (h : OwnS 9 B w v xs) :
    Calls Tryz.prog 32 #[v, .int .i64 (k : Int)] w fun e w' => e = .returned (.int .i64 ((k + xs.length : Nat) : Int)) ∧ OwnS 9 B w' v (marks k xs.length) ∧ Kept (leads v) w w' := by
  obtain ⟨hx, ⟨p, cap, rfl, hc, rfl⟩ | ⟨G, rest, rfl, hm, hB, hr⟩⟩ := h
  · refine (markStringS_none p cap k w).mono ?_
    rintro e w' ⟨rfl, rfl⟩
    exact ⟨rfl, ⟨by simp [marks], .inl ⟨p, cap, rfl, hc, rfl⟩⟩, Kept.refl _ _⟩
  · cases hl : xs with
    | nil =>
      subst hl
      refine (markStringS_none _ _ k w).mono ?_
      rintro e w' ⟨rfl, rfl⟩
      exact ⟨rfl, ⟨by simp [marks], .inl ⟨_, _, rfl, hm, rfl⟩⟩, Kept.refl _ _⟩
    | cons x r =>
      rw [← hl]
      have hcs : (strs xs ++ rest).length = xs.length + rest.length := by rw [List.length_append, strs_len]
      have := markStringS_any G xs.length (strs xs ++ rest) k w (by omega) hn hk hr
      rw [hcs] at this
      refine this.mono ?_
      rintro e w' ⟨rfl, hr', ho⟩
      have hd : (strs xs ++ rest).drop xs.length = rest := by
        have := List.drop_left' (l₁ := strs xs) (l₂ := rest) (strs_len xs)
        exact this
      rw [hd] at hr'
      refine ⟨rfl, ⟨marks_size k _ (by omega), .inr ⟨G, rest, by rw [marks_len], by rw [marks_len]; exact hm, hB, hr'⟩⟩, ?_⟩
      rw [hl]
      exact Kept.ofOnly ho
theorem markP_own (B : Nat) (v : Value) (ps : List (Int × ByteArray)) (k : Nat) (w : World) (hn : ps.length ≤ 1048576) (hk : k ≤ 10000000) (h : OwnP 73 B w v ps) :
    Calls Tryz.prog 33 #[v, .int .i64 (k : Int)] w fun e w' => e = .returned (.int .i64 ((k + ps.length * 2 : Nat) : Int)) ∧ OwnP 73 B w' v (marksP k ps.length) ∧ Kept (leads v) w w' := by
  obtain ⟨hx, ⟨p, cap, rfl, hc, rfl⟩ | ⟨G, cap, rest, rfl, hc, hm, hl2, hB, hr⟩⟩ := h
  · refine (markPendingS_none p cap k w).mono ?_
    rintro e w' ⟨rfl, rfl⟩
    exact ⟨rfl, ⟨by simp [marksP], .inl ⟨p, cap, rfl, hc, rfl⟩⟩, Kept.refl _ _⟩
  · cases hl : ps with
    | nil =>
      subst hl
      refine (markPendingS_none _ _ k w).mono ?_
      rintro e w' ⟨rfl, rfl⟩
      exact ⟨rfl, ⟨by simp [marksP], .inl ⟨_, _, rfl, hm, rfl⟩⟩, Kept.refl _ _⟩
    | cons x r =>
      rw [← hl]
      have hcs : (pcs ps ++ rest).length = cap * 2 := by rw [List.length_append, pcs_len]; exact hl2
      refine (markPendingS_any G ps.length cap (pcs ps ++ rest) k w hc hcs hn hk hr).mono ?_
      rintro e w' ⟨rfl, hr', ho⟩
      have hd : (pcs ps ++ rest).drop (ps.length * 2) = rest := List.drop_left' (l₁ := pcs ps) (l₂ := rest) (pcs_len ps)
      rw [hd] at hr'
      refine ⟨rfl, ⟨marksP_size k _ (by omega), .inr ⟨G, cap, rest, by rw [marksP_len], by rw [marksP_len]; exact hc, hm, by rw [marksP_len]; exact hl2, hB, hr'⟩⟩, ?_⟩
      rw [hl]
      exact Kept.ofOnly ho

theorem bcell {W w1 : World} (hb : Below W.heap.size W w1) : (∀ b o, b < W.heap.size → w1.cell? ⟨b, o, none⟩ = W.cell? ⟨b, o, none⟩) ∧ (∀ b o, b < W.heap.size → w1.frozen? ⟨b, o, none⟩ = W.frozen? ⟨b, o, none⟩) :=
  ⟨fun b o h => hb.cell (p := ⟨b, o, none⟩) h, fun b o h => hb.frozen (p := ⟨b, o, none⟩) h⟩

/-- What a disk that is small enough for the laws is. -/
def Small (xs : List ByteArray) (ps : List (Int × ByteArray)) : Prop :=
  xs.length ≤ 1048576 ∧ (∀ x ∈ xs, x.size ≤ 1048576) ∧ ps.length ≤ 1048576 ∧ ∀ x ∈ ps, x.2.size ≤ 1048576

set_option maxHeartbeats 1000000 in
theorem szDisk_any (vs vp : Value) (xs : List ByteArray) (ps : List (Int × ByteArray)) (w : World) (hr : Reads w vs xs) (hp : ReadsP w vp ps) :
    Calls Tryz.prog 6 #[.agg #[vs, vp], .int .i64 1048576] w fun e w' => ∃ r : Int, e = .returned (.int .i64 r) ∧ (r < 0 ∨ (0 ≤ r ∧ Small xs ps)) ∧ Below w.heap.size w w' := by
  have hb0 : Below w.heap.size w (w.alloc (.cells #[vs, vp] 25)) := (Below.refl _ _).alloc (Nat.le_refl _) _
  have HR := hide (hr.below hb0 (Nat.le_refl _))
  have HP := hide (hp.below hb0 (Nat.le_refl _))
  obtain ⟨p1, c1, rfl, _⟩ := hr
  obtain ⟨p2, c2, rfl, _⟩ := hp
  have HB0 := hide hb0
  clear hb0
  go_enter Tryz.func6, Tryz.ntmps6
  go_wp2_with fail
  refine (szStringS_any _ xs 1048576 _ (by omega) (by omega) HR.out).mono ?_
  rintro e w1 ⟨rfl, rfl⟩
  obtain ⟨L, HL⟩ : ∃ L, Hid (L = szStrs xs 1048576) := ⟨_, rfl⟩
  rw [← HL.out]
  by_cases hneg : L < 0
  · go_wp2
    go_ret
    exact ⟨-1, rfl, .inl (by omega), HB0.out⟩
  · have hL := szStrs_le xs 1048576 (by rw [← HL.out]; omega)
    rw [← HL.out] at hL
    obtain ⟨hL1, hL2, hL3⟩ := hL
    have HL3 := hide hL3
    have hL0 : 0 ≤ L := by omega
    clear hL3
    go_wp2_with fail
    refine (szPendingS_any _ ps L _ hL0 hL1 HP.out).mono ?_
    rintro e w2 ⟨rfl, hb2⟩
    have HB2 := hide (HB0.out.trans (hb2.mono HB0.out.size))
    obtain ⟨M, HM⟩ : ∃ M, Hid (M = szPends ps L) := ⟨_, rfl⟩
    rw [← HM.out]
    clear hb2
    by_cases hneg2 : M < 0
    · go_wp2
      go_ret
      exact ⟨-1, rfl, .inl (by omega), HB2.out⟩
    · have hM := szPends_le ps L (by rw [← HM.out]; omega)
      rw [← HM.out] at hM
      have HM3 := hide hM
      have hM0 : 0 ≤ M := by omega
      clear hM
      go_wp2
      go_ret
      refine ⟨M, rfl, .inr ⟨hM0, by omega, fun x hx => ?_, by have := HM3.out.2.1; omega, fun x hx => ?_⟩, HB2.out⟩
      · have := HL3.out x hx; omega
      · have := HM3.out.2.2 x hx; omega
end Go.Proofs.YtbhdbkffejlfmaaGreatDoor

/- A copy of a disk, made by the laws. -/
namespace Go.Proofs.YtbhdbkffejlfmaaGreatDoor
open Go.RowKit

theorem leads_eq {g o n c x : Nat} (h : x ∈ leads (.slice (some ⟨g, o, none⟩) n c)) : x = g := by
  cases n with
  | zero => cases h
  | succ m => exact List.mem_singleton.1 h

set_option maxHeartbeats 2000000 in
theorem toDisk_any (vs vp : Value) (xs : List ByteArray) (ps : List (Int × ByteArray)) (w : World) (hr : Reads w vs xs) (hp : ReadsP w vp ps) (hs : Small xs ps) :
    Calls Tryz.prog 8 #[.agg #[vs, vp]] w fun e w' => ∃ us up, e = .returned (.agg #[us, up]) ∧ OwnS 9 w.heap.size w' us xs ∧ OwnP 73 w.heap.size w' up ps ∧ (∀ x ∈ leads us, x ∉ leads up) ∧ Below w.heap.size w w' := by
  obtain ⟨s1, s2, s3, s4⟩ := hs
  have hm1 : ∀ x ∈ xs, x.size ≤ maxLen := fun x hx => by have := s2 x hx; unfold maxLen; omega
  have hm2 : ∀ x ∈ ps, x.2.size ≤ maxLen := fun x hx => by have := s4 x hx; unfold maxLen; omega
  have HM1 := hide hm1
  have HM2 := hide hm2
  clear hm1 hm2 s2 s4
  have hb0 : Below w.heap.size w (((w.alloc (.cells #[vs, vp] 25)).alloc (.cells #[.slice none 0 0, .slice none 0 0] 29)).alloc (.cells #[.slice none 0 0, .slice none 0 0] 29)) :=
    (((Below.refl _ _).alloc (Nat.le_refl _) _).alloc (by simp) _).alloc (by simp <;> omega) _
  have HR := hide (hr.below hb0 (Nat.le_refl _))
  have HP := hide (hp.below hb0 (Nat.le_refl _))
  have HPL := hide hp.leads
  have HB0 := hide hb0
  obtain ⟨p1, c1, rfl, h1r⟩ := hr
  obtain ⟨p2, c2, rfl, h2r⟩ := hp
  clear hb0 h1r h2r
  go_enter Tryz.func8, Tryz.ntmps8
  go_wp2_with fail
  refine (toStringS_any _ xs _ s1 HR.out).mono ?_
  rintro e w1 ⟨rfl, hrow1, hb1⟩
  have hrow1' : Row w1 (w.heap.size + 1 + 1 + 1) 9 (strs xs) := by simpa using hrow1
  have HROW := hide hrow1'
  have HB1 := hide hb1
  obtain ⟨hc1, hf1⟩ := bcell hb1
  have hz1 : w.heap.size + 3 ≤ w1.heap.size := by have := hb1.size; simp at this; omega
  have hp1 := HP.out.below hb1 (Nat.le_refl _)
  clear hb1 hrow1 hrow1'
  have HP1 : Hid (ReadsP (w1.setCell ⟨w.heap.size + 1 + 1, 0, none⟩ (.slice (some ⟨w.heap.size + 1 + 1 + 1, 0, none⟩) xs.length xs.length)) (.slice p2 ps.length c2) ps) :=
    (Kept.ofSet w1 (w.heap.size + 1 + 1) 0 _).readsP hp1 (fun x hx => by
      have := HPL.out x hx
      simp; omega)
  clear hp1
  go_wp2_with fail
  refine (toPendingS_any _ ps _ s3 HP1.out).mono ?_
  rintro e w2 ⟨rfl, hrow2, hb2⟩
  have hsz : (w1.setCell ⟨w.heap.size + 1 + 1, 0, none⟩ (.slice (some ⟨w.heap.size + 1 + 1 + 1, 0, none⟩) xs.length xs.length)).heap.size = w1.heap.size := by simp [World.setCell]
  rw [hsz]
  rw [hsz] at hrow2 hb2
  clear hsz hc1 hf1
  have r1 := ((row_new (w.alloc (.cells #[.slice p1 xs.length c1, .slice p2 ps.length c2] 25)) [.slice none 0 0, .slice none 0 0] 29).alloc (.cells #[.slice none 0 0, .slice none 0 0] 29)).below HB1.out (by simp)
  have r2 := (row_new ((w.alloc (.cells #[.slice p1 xs.length c1, .slice p2 ps.length c2] 25)).alloc (.cells #[.slice none 0 0, .slice none 0 0] 29)) [.slice none 0 0, .slice none 0 0] 29).below HB1.out (by simp)
  simp only [World.size_alloc] at r1 r2
  have R1 := hide ((r1.other (b := w.heap.size + 1 + 1) (j := 0) (by omega) (.slice (some ⟨w.heap.size + 1 + 1 + 1, 0, none⟩) xs.length xs.length)).below hb2 (by omega))
  have R2 := hide ((r2.set (j := 0) (.slice (some ⟨w.heap.size + 1 + 1 + 1, 0, none⟩) xs.length xs.length)).below hb2 (by omega))
  have R3 := hide ((HROW.out.other (b := w.heap.size + 1 + 1) (j := 0) (by omega) (.slice (some ⟨w.heap.size + 1 + 1 + 1, 0, none⟩) xs.length xs.length)).below hb2 (by have := HROW.out.lt; omega))
  have R4 := hide hrow2
  have HB2 := hide hb2
  have hlt3 := HROW.out.lt
  clear r1 r2 hrow2 hb2
  have a0 : w2.cell? ⟨w.heap.size + 1 + 1, 0, none⟩ = some (.slice (some ⟨w.heap.size + 1 + 1 + 1, 0, none⟩) xs.length xs.length) := R2.out.cell 0
  have a1 : w2.cell? ⟨w.heap.size + 1 + 1, 1, none⟩ = some (.slice none 0 0) := R2.out.cell 1
  have b0 : w2.cell? ⟨w.heap.size + 1, 0, none⟩ = some (.slice none 0 0) := R1.out.cell 0
  have b1 : w2.cell? ⟨w.heap.size + 1, 1, none⟩ = some (.slice none 0 0) := R1.out.cell 1
  have fa1 := R2.out.free 1
  have fb0 := R1.out.free 0
  have fb1 := R1.out.free 1
  go_wp2
  have RR := ((R1.out.other (b := w.heap.size + 1 + 1) (j := 1) (by omega) (.slice (some ⟨w1.heap.size, 0, none⟩) ps.length ps.length)).set (j := 0) (.slice (some ⟨w.heap.size + 1 + 1 + 1, 0, none⟩) xs.length xs.length)).set (j := 1) (.slice (some ⟨w1.heap.size, 0, none⟩) ps.length ps.length)
  have RS := ((R3.out.other (b := w.heap.size + 1 + 1) (j := 1) (by omega) (.slice (some ⟨w1.heap.size, 0, none⟩) ps.length ps.length)).other (b := w.heap.size + 1) (j := 0) (by omega) (.slice (some ⟨w.heap.size + 1 + 1 + 1, 0, none⟩) xs.length xs.length)).other (b := w.heap.size + 1) (j := 1) (by omega) (.slice (some ⟨w1.heap.size, 0, none⟩) ps.length ps.length)
  have RP := ((R4.out.other (b := w.heap.size + 1 + 1) (j := 1) (by omega) (.slice (some ⟨w1.heap.size, 0, none⟩) ps.length ps.length)).other (b := w.heap.size + 1) (j := 0) (by omega) (.slice (some ⟨w.heap.size + 1 + 1 + 1, 0, none⟩) xs.length xs.length)).other (b := w.heap.size + 1) (j := 1) (by omega) (.slice (some ⟨w1.heap.size, 0, none⟩) ps.length ps.length)
  have q0 := RR.cell 0
  have q1 := RR.cell 1
  have e0 : (([.slice none 0 0, .slice none 0 0] : List Value).set 0 (.slice (some ⟨w.heap.size + 1 + 1 + 1, 0, none⟩) xs.length xs.length)).set 1 (.slice (some ⟨w1.heap.size, 0, none⟩) ps.length ps.length) = [(.slice (some ⟨w.heap.size + 1 + 1 + 1, 0, none⟩) xs.length xs.length), (.slice (some ⟨w1.heap.size, 0, none⟩) ps.length ps.length)] := rfl
  rw [e0] at q0 q1
  have k1 := HB0.out.trans (HB1.out.mono HB0.out.size)
  have k2 := (Kept.ofSet w1 (w.heap.size + 1 + 1) 0 (.slice (some ⟨w.heap.size + 1 + 1 + 1, 0, none⟩) xs.length xs.length)).toBelow k1 k1.size (by simp; omega)
  have k3 := k2.trans (HB2.out.mono (by omega))
  have k4 := (Kept.ofSet w2 (w.heap.size + 1 + 1) 1 (.slice (some ⟨w1.heap.size, 0, none⟩) ps.length ps.length)).toBelow k3 k3.size (by simp; omega)
  have k5 := (Kept.ofSet _ (w.heap.size + 1) 0 (.slice (some ⟨w.heap.size + 1 + 1 + 1, 0, none⟩) xs.length xs.length)).toBelow k4 k4.size (by simp)
  have k6 := (Kept.ofSet _ (w.heap.size + 1) 1 (.slice (some ⟨w1.heap.size, 0, none⟩) ps.length ps.length)).toBelow k5 k5.size (by simp)
  refine bodyPost_ret (v := .agg #[(.slice (some ⟨w.heap.size + 1 + 1 + 1, 0, none⟩) xs.length xs.length), (.slice (some ⟨w1.heap.size, 0, none⟩) ps.length ps.length)]) (by simp [results, Tryz.results8, go_sem, q0, q1]) rfl ⟨(.slice (some ⟨w.heap.size + 1 + 1 + 1, 0, none⟩) xs.length xs.length), (.slice (some ⟨w1.heap.size, 0, none⟩) ps.length ps.length), rfl, ⟨HM1.out, .inr ⟨w.heap.size + 1 + 1 + 1, [], by simp, by simp [maxLen]; omega, by omega, by simpa using RS⟩⟩,
    ⟨HM2.out, .inr ⟨w1.heap.size, ps.length, [], rfl, Nat.le_refl _, by simp [maxLen]; omega, by simp, by omega, by simpa using RP⟩⟩, ?_, k6⟩
  intro x hx hy
  have hx1 := leads_eq hx
  have hy1 := leads_eq hy
  omega
end Go.Proofs.YtbhdbkffejlfmaaGreatDoor

/- Are two disks alike; marks put into one, and looked for again. -/
namespace Go.Proofs.YtbhdbkffejlfmaaGreatDoor
open Go.RowKit

set_option maxHeartbeats 2000000 in
theorem eqDisk_same (us up vs vp : Value) (xs : List ByteArray) (ps : List (Int × ByteArray)) (w : World) (hn : xs.length ≤ 1048576) (hn2 : ps.length ≤ 1048576)
    (h1 : Reads w us xs) (h2 : ReadsP w up ps) (h3 : Reads w vs xs) (h4 : ReadsP w vp ps) :
    Calls Tryz.prog 11 #[.agg #[us, up], .agg #[vs, vp]] w fun e w' => e = .returned (.bool true) ∧ Below w.heap.size w w' := by
  have hb0 : Below w.heap.size w ((w.alloc (.cells #[us, up] 29)).alloc (.cells #[vs, vp] 29)) :=
    ((Below.refl _ _).alloc (Nat.le_refl _) _).alloc (by simp) _
  have H1 := hide (h1.below hb0 (Nat.le_refl _))
  have H2 := hide (h2.below hb0 (Nat.le_refl _))
  have H3 := hide (h3.below hb0 (Nat.le_refl _))
  have H4 := hide (h4.below hb0 (Nat.le_refl _))
  have HB0 := hide hb0
  obtain ⟨p1, c1, rfl, _⟩ := h1
  obtain ⟨p2, c2, rfl, _⟩ := h2
  obtain ⟨p3, c3, rfl, _⟩ := h3
  obtain ⟨p4, c4, rfl, _⟩ := h4
  clear hb0
  go_enter Tryz.func11, Tryz.ntmps11
  go_wp2_with fail
  refine (eqStringS_same _ _ xs _ hn H1.out H3.out).mono ?_
  rintro e w1 ⟨rfl, hb1⟩
  have HB1 := hide hb1
  obtain ⟨hc1, hf1⟩ := bcell hb1
  have H2' := hide (H2.out.below hb1 (Nat.le_refl _))
  have H4' := hide (H4.out.below hb1 (Nat.le_refl _))
  clear hb1
  go_wp2_with fail
  refine (eqPendingS_same _ _ ps _ hn2 H2'.out H4'.out).mono ?_
  rintro e w2 ⟨rfl, hb2⟩
  have k1 := HB0.out.trans (HB1.out.mono HB0.out.size)
  have HB2 := hide (k1.trans (hb2.mono k1.size))
  clear hb2 k1 hc1 hf1
  go_wp2
  go_ret
  exact ⟨rfl, HB2.out⟩

set_option maxHeartbeats 2000000 in
theorem markDisk_own (B : Nat) (us up : Value) (xs : List ByteArray) (ps : List (Int × ByteArray)) (k : Nat) (w : World) (hn : xs.length ≤ 1048576) (hn2 : ps.length ≤ 1048576) (hk : k ≤ 5000000)
    (h1 : OwnS 9 B w us xs) (h2 : OwnP 73 B w up ps) (hd : ∀ x ∈ leads us, x ∉ leads up) :
    Calls Tryz.prog 12 #[.agg #[us, up], .int .i64 (k : Int)] w fun e w' => e = .returned (.int .i64 ((k + xs.length + ps.length * 2 : Nat) : Int)) ∧
      OwnS 9 B w' us (marks k xs.length) ∧ OwnP 73 B w' up (marksP (k + xs.length) ps.length) ∧ Kept (leads us ++ leads up) w w' := by
  have hb0 : Below w.heap.size w (w.alloc (.cells #[us, up] 29)) := (Below.refl _ _).alloc (Nat.le_refl _) _
  have H1 := hide (h1.below hb0 (Nat.le_refl _))
  have H2 := hide (h2.below hb0 (Nat.le_refl _))
  have L1 := hide h1.leads
  have L2 := hide h2.leads
  have D := hide hd
  have HB0 := hide hb0
  clear hb0 hd
  obtain ⟨p1, n1, c1, E1⟩ : ∃ p n c, us = .slice p n c := by obtain ⟨p, c, e, _⟩ := h1.reads; exact ⟨_, _, _, e⟩
  obtain ⟨p2, n2, c2, E2⟩ : ∃ p n c, up = .slice p n c := by obtain ⟨p, c, e, _⟩ := h2.reads; exact ⟨_, _, _, e⟩
  clear h1 h2
  subst E1 E2
  go_enter Tryz.func12, Tryz.ntmps12
  go_wp2_with fail
  refine (markS_own B _ xs k _ hn (by omega) H1.out).mono ?_
  rintro e w1 ⟨rfl, ho1, hk1⟩
  have hni : w.heap.size ∉ leads (.slice p1 n1 c1) := fun h => Nat.lt_irrefl _ (L1.out _ h).2
  have a1 : w1.cell? ⟨w.heap.size, 1, none⟩ = some (.slice p2 n2 c2) := (hk1.row (row_new w [.slice p1 n1 c1, .slice p2 n2 c2] 29) hni).cell 1
  have H2' := hide (H2.out.kept hk1 (fun x hx hm => D.out x hm hx))
  have HO1 := hide ho1
  have HK1 := hide hk1
  clear ho1 hk1 hni
  go_wp2_with fail
  refine (markP_own B _ ps (k + xs.length) _ hn2 (by omega) H2'.out).mono ?_
  rintro e w2 ⟨rfl, ho2, hk2⟩
  have HO1' := hide (HO1.out.kept hk2 (fun x hx => D.out x hx))
  have HO2 := hide ho2
  have HK := hide ((((Kept.ofBelow HB0.out).mono (S' := leads (.slice p1 n1 c1) ++ leads (.slice p2 n2 c2)) (by simp)).trans (HK1.out.mono (fun x hx => List.mem_append_left _ hx))).trans (hk2.mono (fun x hx => List.mem_append_right _ hx)))
  clear ho2 hk2 a1
  go_wp2
  go_ret
  exact ⟨rfl, HO1'.out, HO2.out, HK.out⟩

set_option maxHeartbeats 2000000 in
theorem heldDisk_any (us up : Value) (k n m : Nat) (w : World) (hn : n ≤ 1048576) (hn2 : m ≤ 1048576) (hk : k ≤ 5000000)
    (h1 : Reads w us (marks k n)) (h2 : ReadsP w up (marksP (k + n) m)) :
    Calls Tryz.prog 34 #[.agg #[us, up], .int .i64 (k : Int)] w fun e w' => e = .returned (.int .i64 ((k + n + m * 2 : Nat) : Int)) ∧ Below w.heap.size w w' := by
  have hb0 : Below w.heap.size w (w.alloc (.cells #[us, up] 29)) := (Below.refl _ _).alloc (Nat.le_refl _) _
  have H1 := hide (h1.below hb0 (Nat.le_refl _))
  have H2 := hide (h2.below hb0 (Nat.le_refl _))
  have HB0 := hide hb0
  obtain ⟨p1, c1, rfl, _⟩ := h1
  obtain ⟨p2, c2, rfl, _⟩ := h2
  clear hb0
  go_enter Tryz.func34, Tryz.ntmps34
  go_wp2_with fail
  refine (heldStringS_any _ k n _ hn (by omega) H1.out).mono ?_
  rintro e w1 ⟨rfl, hb1⟩
  have HB1 := hide hb1
  obtain ⟨hc1, hf1⟩ := bcell hb1
  have H2' := hide (H2.out.below hb1 (Nat.le_refl _))
  have t1 : ¬ (((k + n : Nat) : Int) < 0) := by omega
  clear hb1
  go_wp2_with fail
  refine (heldPendingS_any _ (k + n) m _ hn2 (by omega) H2'.out).mono ?_
  rintro e w2 ⟨rfl, hb2⟩
  have t2 : ¬ (((k + n + m * 2 : Nat) : Int) < 0) := by omega
  have k1 := HB0.out.trans (HB1.out.mono HB0.out.size)
  have HB2 := hide (k1.trans (hb2.mono k1.size))
  clear hb2 k1 hc1 hf1
  go_wp2
  go_ret
  exact ⟨rfl, HB2.out⟩
end Go.Proofs.YtbhdbkffejlfmaaGreatDoor

/- The same of what the disk's functions hand back: a disk, a text, a code. -/
namespace Go.Proofs.YtbhdbkffejlfmaaGreatDoor
open Go.RowKit

end Go.Proofs.YtbhdbkffejlfmaaGreatDoor
