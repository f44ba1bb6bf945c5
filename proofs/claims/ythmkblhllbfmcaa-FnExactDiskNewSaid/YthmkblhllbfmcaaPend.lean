/- The laws' own helpers over lists of a number and a text each (what is pending): how much they take, a copy, are two alike. -/
import Derived.Test.YthmkblhllbfmcaaMark
namespace Go.Proofs.Ythmkblhllbfmcaa
open Go.RowKit

def szP : List (Int × ByteArray) → Int → Int
  | [], left => left
  | x :: r, left => if left - x.2.size < 0 then -1 else szP r (left - x.2.size)
def szPends (ps : List (Int × ByteArray)) (left : Int) : Int := if left - ps.length < 0 then -1 else szP ps (left - ps.length)
theorem szP_step (ps : List (Int × ByteArray)) (k : Nat) (h : k < ps.length) (L : Int) : szP (ps.drop k) L = if L - (ps[k]'h).2.size < 0 then -1 else szP (ps.drop (k + 1)) (L - (ps[k]'h).2.size) := by
  rw [List.drop_eq_getElem_cons h, szP]
theorem szP_le (ps : List (Int × ByteArray)) : ∀ left : Int, 0 ≤ szP ps left → szP ps left ≤ left ∧ ∀ x ∈ ps, (x.2.size : Int) ≤ left := by
  induction ps with
  | nil => intro left _; exact ⟨Int.le_refl _, by simp⟩
  | cons x r ih =>
    intro left h
    rw [szP] at h ⊢
    split at h
    · omega
    · rename_i hx
      rw [if_neg hx]
      obtain ⟨h1, h2⟩ := ih _ h
      refine ⟨by omega, ?_⟩
      intro y hy
      simp at hy
      rcases hy with rfl | hy
      · omega
      · have := h2 y hy; omega
theorem szPends_le (ps : List (Int × ByteArray)) (left : Int) (h : 0 ≤ szPends ps left) : szPends ps left ≤ left ∧ (ps.length : Int) ≤ left ∧ ∀ x ∈ ps, (x.2.size : Int) ≤ left := by
  unfold szPends at h ⊢
  split at h
  · omega
  · rename_i hx
    rw [if_neg hx]
    obtain ⟨h1, h2⟩ := szP_le ps _ h
    exact ⟨by omega, by omega, fun x hx => by have := h2 x hx; omega⟩

theorem Try.infoPend : (Try.prog.info? 37).map (fun i => (i.zero, i.size, i.bytes)) = some (some (.agg #[.int .i64 0, .string ⟨#[]⟩]), 2, 24) := by kernel_rfl

set_option maxHeartbeats 400000 in
theorem eqPending_same (a : Int) (d : ByteArray) (w : World) :
    Calls Try.prog 16 #[.agg #[.int .i64 a, .string d], .agg #[.int .i64 a, .string d]] w fun e w' => e = .returned (.bool true) ∧ Below w.heap.size w w' := by
  go_enter Try.func16, Try.ntmps16
  go_wp2
  go_ret
  exact ⟨rfl, ((Below.refl _ _).alloc (Nat.le_refl _) _).alloc (by simp) _⟩

set_option maxHeartbeats 1000000 in
theorem eqPendingS_same (v v' : Value) (ps : List (Int × ByteArray)) (w : World) (hn : ps.length ≤ 1048576) (hr : ReadsP w v ps) (hr' : ReadsP w v' ps) :
    Calls Try.prog 11 #[v, v'] w fun e w' => e = .returned (.bool true) ∧ Below w.heap.size w w' := by
  obtain ⟨p, cap, rfl, h1, h2, h3, h4⟩ := hr
  obtain ⟨p', cap', rfl, h1', h2', h3', h4'⟩ := hr'
  have H4 := hide h4
  have H4' := hide h4'
  clear h3 h3' h4 h4'
  unfold maxLen at h2 h2'
  by_cases hx : ps.length = 0
  · have hps : ps = [] := List.eq_nil_of_length_eq_zero hx
    subst hps
    go_enter Try.func11, Try.ntmps11
    go_wp2
    refine wp_loop_rounds 1 ?_
    rw [rounds_succ]
    go_wp2
    go_ret
    exact ⟨rfl, Below.refl _ _⟩
  obtain ⟨g, off, hp, hg, hc⟩ := H4.out (by omega)
  obtain ⟨g', off', hp', hg', hc'⟩ := H4'.out (by omega)
  subst hp hp'
  have HC := hide hc
  have HC' := hide hc'
  clear hc hc'
  go_enter Try.func11, Try.ntmps11
  go_wp2
  go_loopw [5] (fun i wr => ∃ k : Nat, k ≤ ps.length ∧ i = .int .i64 k ∧ Hid (Below w.heap.size w wr)) (fun i _ => ps.length - (intOf i).toNat)
  case atStart => exact ⟨0, Nat.zero_le _, rfl, Below.refl _ _⟩
  case round =>
    obtain ⟨k, hk, rfl, HBel⟩ := hrel
    by_cases hlt : k < ps.length
    · have hk0 := (HBel.out.cell (p := ⟨g, off + k * 2, none⟩) hg).trans (HC.out k hlt).1
      have hk1 := (HBel.out.cell (p := ⟨g, off + k * 2 + 1, none⟩) hg).trans (HC.out k hlt).2
      have hk0' := (HBel.out.cell (p := ⟨g', off' + k * 2, none⟩) hg').trans (HC'.out k hlt).1
      have hk1' := (HBel.out.cell (p := ⟨g', off' + k * 2 + 1, none⟩) hg').trans (HC'.out k hlt).2
      have hki : (k : Int) < (ps.length : Int) := by omega
      go_wp2_with fail
      go_region_with (go_at_call 16; refine (eqPending_same _ _ _).mono ?_; rintro e w2 ⟨rfl, hb2⟩)
      all_goals
        have HB2 := hide (HBel.out.trans ((below_drew hb2).mono HBel.out.size))
        clear hb2
        go_wp2
        go_roundw
        case rel => exact ⟨k + 1, by omega, by go_num, HB2⟩
        case measure => simp [intOf]; omega
    · go_wp2
      go_ret
      exact ⟨rfl, HBel.out⟩

def marksP (k n : Nat) : List (Int × ByteArray) := (List.range n).map fun i : Nat => ((k : Int) + (i : Int) * 2, markOf (k + i * 2 + 1))
theorem marksP_len (k n : Nat) : (marksP k n).length = n := by simp [marksP]
theorem marksP_succ (k n : Nat) : marksP k (n + 1) = marksP k n ++ [((k : Int) + (n : Int) * 2, markOf (k + n * 2 + 1))] := by simp [marksP, List.range_succ]
theorem marksP_get (k n i : Nat) (h : i < (marksP k n).length) : (marksP k n)[i] = ((k : Int) + (i : Int) * 2, markOf (k + i * 2 + 1)) := by simp [marksP]
theorem markP_next (k : Nat) (cs : List Value) (j : Nat) (h : j * 2 + 1 < cs.length) :
    ((pcs (marksP k j) ++ cs.drop (j * 2)).set (j * 2) (.int .i64 ((k : Int) + (j : Int) * 2))).set (j * 2 + 1) (.string (markOf (k + j * 2 + 1))) = pcs (marksP k (j + 1)) ++ cs.drop ((j + 1) * 2) := by
  have hl : (pcs (marksP k j)).length = j * 2 := by rw [pcs_len, marksP_len]
  rw [List.set_append_right _ _ (by omega), hl, Nat.sub_self, List.drop_eq_getElem_cons (by omega : j * 2 < cs.length), List.set_cons_zero,
    List.set_append_right _ _ (by omega), hl, show j * 2 + 1 - j * 2 = 1 by omega, List.drop_eq_getElem_cons h, List.set_cons_succ, List.set_cons_zero,
    marksP_succ, pcs_append, List.append_assoc, show (j + 1) * 2 = j * 2 + 1 + 1 by omega]
  rfl
theorem markP_len (k : Nat) (cs : List Value) (j : Nat) (h : j * 2 ≤ cs.length) : (pcs (marksP k j) ++ cs.drop (j * 2)).length = cs.length := by
  rw [List.length_append, pcs_len, marksP_len, List.length_drop]; omega

set_option maxHeartbeats 1000000 in
theorem markPendingS_any (G n cap : Nat) (cs : List Value) (k : Nat) (w : World) (hn : n ≤ cap) (hcap : cs.length = cap * 2) (hm : n ≤ 1048576) (hk : k ≤ 10000000) (hr : Row w G 37 cs) :
    Calls Try.prog 13 #[.slice (some ⟨G, 0, none⟩) n cap, .int .i64 (k : Int)] w fun e w' =>
      e = .returned (.int .i64 ((k + n * 2 : Nat) : Int)) ∧ Row w' G 37 (pcs (marksP k n) ++ cs.drop (n * 2)) ∧ Only G w w' := by
  have HR := hide hr
  have HL := hide hcap
  clear hr hcap
  go_enter Try.func13, Try.ntmps13
  go_wp2
  go_loopw [1, 5] (fun x i wr => ∃ j : Nat, j ≤ n ∧ i = .int .i64 (j : Int) ∧ x = .int .i64 ((k : Int) + (j : Int) * 2) ∧ Hid (Row wr G 37 (pcs (marksP k j) ++ cs.drop (j * 2))) ∧ Hid (Only G w wr)) (fun _ i _ => n - (intOf i).toNat)
  case atStart => exact ⟨0, Nat.zero_le _, rfl, by simp, HR.out, Only.refl _ _⟩
  case round =>
    obtain ⟨j, hj, rfl, rfl, HRow, HO⟩ := hrel
    by_cases hlt : j < n
    · have hlen := markP_len k cs j (by rw [HL.out]; omega)
      have hcl := HL.out
      obtain ⟨u0, hu0⟩ := HRow.out.some (j * 2) (by rw [hlen, hcl]; omega)
      have hf0 := HRow.out.free (j * 2)
      have HR1 := hide (HRow.out.set (j := j * 2) (.int .i64 ((k : Int) + (j : Int) * 2)))
      have HO1 := hide (HO.out.set (j := j * 2) (.int .i64 ((k : Int) + (j : Int) * 2)))
      have HLEN := hide hlen
      clear hlen hcl
      have ek : ((k : Int) + (j : Int) * 2 + 1) = ((k + j * 2 + 1 : Nat) : Int) := by simp
      have HK := hide ek
      clear ek
      go_wp2_with fail
      rw [HK.out]
      refine (markText_any (k + j * 2 + 1) _ (by omega)).mono ?_
      rintro e w2 ⟨rfl, hb2⟩
      rw [← HK.out]
      have hrow2 := HR1.out.below hb2 HR1.out.lt
      obtain ⟨u1, hu1⟩ := hrow2.some (j * 2 + 1) (by rw [List.length_set, HLEN.out, HL.out]; omega)
      have hf1 := hrow2.free (j * 2 + 1)
      have hnext := hrow2.set (j := j * 2 + 1) (.string (markOf (k + j * 2 + 1)))
      rw [markP_next k cs j (by rw [HL.out]; omega)] at hnext
      have HN := hide hnext
      have HM := hide ((HO1.out.below hb2).set (j := j * 2 + 1) (.string (markOf (k + j * 2 + 1))))
      clear hnext hrow2 hb2 hu0 hf0
      go_wp2
      go_roundw
      case rel => exact ⟨j + 1, by omega, by go_num, by go_num, HN, HM⟩
      case measure => simp [intOf]; omega
    · have hjn : j = n := by omega
      subst hjn
      go_wp2
      go_ret
      exact ⟨ret_int (by simp), HRow.out, HO.out⟩

set_option maxHeartbeats 400000 in
theorem markPendingS_none (p : Option Addr) (cap k : Nat) (w : World) :
    Calls Try.prog 13 #[.slice p 0 cap, .int .i64 (k : Int)] w fun e w' => e = .returned (.int .i64 (k : Int)) ∧ w' = w := by
  go_enter Try.func13, Try.ntmps13
  go_wp2
  refine wp_loop_rounds 1 ?_
  rw [rounds_succ]
  go_wp2
  go_ret
  exact ⟨rfl, rfl⟩

set_option maxHeartbeats 1000000 in
theorem heldPendingS_any (v : Value) (k n : Nat) (w : World) (hn : n ≤ 1048576) (hk : k ≤ 10000000) (hr : ReadsP w v (marksP k n)) :
    Calls Try.prog 15 #[v, .int .i64 (k : Int)] w fun e w' => e = .returned (.int .i64 ((k + n * 2 : Nat) : Int)) ∧ Below w.heap.size w w' := by
  obtain ⟨p, cap, rfl, h1, h2, h3, h4⟩ := hr
  have H4 := hide h4
  rw [marksP_len] at h1 ⊢
  clear h3 h4
  unfold maxLen at h2
  by_cases hx : n = 0
  · subst hx
    go_enter Try.func15, Try.ntmps15
    go_wp2
    refine wp_loop_rounds 1 ?_
    rw [rounds_succ]
    go_wp2
    go_ret
    exact ⟨rfl, Below.refl _ _⟩
  obtain ⟨g, off, hp, hg, hc⟩ := H4.out (by rw [marksP_len]; omega)
  subst hp
  have HC := hide hc
  clear hc
  go_enter Try.func15, Try.ntmps15
  go_wp2
  go_loopw [1, 5] (fun x i wr => ∃ j : Nat, j ≤ n ∧ i = .int .i64 (j : Int) ∧ x = .int .i64 ((k : Int) + (j : Int) * 2) ∧ Hid (Below w.heap.size w wr)) (fun _ i _ => n - (intOf i).toNat)
  case atStart => exact ⟨0, Nat.zero_le _, rfl, by simp, Below.refl _ _⟩
  case round =>
    obtain ⟨j, hj, rfl, rfl, HBel⟩ := hrel
    by_cases hlt : j < n
    · have hcc := HC.out j (by rw [marksP_len]; exact hlt)
      rw [marksP_get] at hcc
      have hk0 : wr.cell? ⟨g, off + j * 2, none⟩ = some (.int .i64 ((k : Int) + (j : Int) * 2)) := (HBel.out.cell (p := ⟨g, off + j * 2, none⟩) hg).trans hcc.1
      have hk1 : wr.cell? ⟨g, off + j * 2 + 1, none⟩ = some (.string (markOf (k + j * 2 + 1))) := (HBel.out.cell (p := ⟨g, off + j * 2 + 1, none⟩) hg).trans hcc.2
      clear hcc
      have hki : (j : Int) < (n : Int) := by omega
      have hwr : g < wr.heap.size := Nat.lt_of_lt_of_le hg HBel.out.size
      have ek : ((k : Int) + (j : Int) * 2 + 1) = ((k + j * 2 + 1 : Nat) : Int) := by simp
      have HK := hide ek
      clear ek
      go_wp2_with fail
      go_region_with (go_at_call 17; rw [HK.out]; refine (markText_any (k + j * 2 + 1) _ (by omega)).mono ?_; rintro e w2 ⟨rfl, hb2⟩; have hck2 := (hb2.cell (p := ⟨g, off + j * 2 + 1, none⟩) (by simpa using hwr)).trans hk1)
      all_goals
        have HB2 := hide (HBel.out.trans ((below_drew hb2).mono HBel.out.size))
        clear hb2
        go_wp2
        go_roundw
        case rel => exact ⟨j + 1, by omega, by go_num, by go_num, HB2⟩
        case measure => simp [intOf]; omega
    · have hjn : j = n := by omega
      subst hjn
      go_wp2
      go_ret
      exact ⟨ret_int (by simp), HBel.out⟩
end Go.Proofs.Ythmkblhllbfmcaa
