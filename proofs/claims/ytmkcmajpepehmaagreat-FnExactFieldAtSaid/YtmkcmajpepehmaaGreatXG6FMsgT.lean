/- The laws' own helpers over a Message. -/
import Derived.Test.YtmkcmajpepehmaaGreatXG5FSegS
import Derived.Test.YtmkcmajpepehmaaGreatXG2OTree
import Derived.Test.YtmkcmajpepehmaaGreatXG3FNestS
namespace Go.Proofs.YtmkcmajpepehmaaGreat
open Go.RowKit
set_option maxHeartbeats 2000000 in
theorem eqSegmentS_same (v v' : Value) (xs : List Seg) (B B' : Nat) (w : World) (hn : wSegs xs ≤ 1048576) (hr : RSegs B w v xs) (hr' : RSegs B' w v' xs) :
    Calls Tryz.prog 37 #[v, v'] w fun e w' => e = .returned (.bool true) ∧ Below w.heap.size w w' := by
  obtain ⟨hl, hm⟩ := wSegs_mem hn
  have HM := hide hm
  clear hn hm
  obtain ⟨p, cap, rfl, h1, h2, h4⟩ := hr
  obtain ⟨p', cap', rfl, h1', h2', h4'⟩ := hr'
  have H4 := hide h4
  have H4' := hide h4'
  clear h4 h4'
  unfold maxLen at h2 h2'
  by_cases hx : xs.length = 0
  · have hxs : xs = [] := List.eq_nil_of_length_eq_zero hx
    subst hxs
    go_enter Tryz.func37, Tryz.ntmps37
    go_wp2
    refine wp_loop_rounds 1 ?_
    rw [rounds_succ]
    go_wp2
    go_ret
    exact ⟨rfl, Below.refl _ _⟩
  obtain ⟨g, off, hp, hg, _, hc⟩ := H4.out (by omega)
  obtain ⟨g', off', hp', hg', _, hc'⟩ := H4'.out (by omega)
  subst hp hp'
  have HC := hide hc
  have HC' := hide hc'
  clear hc hc'
  go_enter Tryz.func37, Tryz.ntmps37
  go_wp2
  go_loopw [5] (fun i wr => ∃ (X : World) (k : Nat), X = wr ∧ k ≤ xs.length ∧ i = .int .i64 k ∧ Hid (Below w.heap.size w X)) (fun i _ => xs.length - (intOf i).toNat)
  case atStart => exact ⟨_, 0, rfl, Nat.zero_le _, rfl, Below.refl _ _⟩
  case round =>
    obtain ⟨X, k, rfl, hk, rfl, HBel⟩ := hrel
    by_cases hlt : k < xs.length
    · obtain ⟨ha, hns, u, hu, hru⟩ := HC.out k hlt
      obtain ⟨ha', _, u', hu', hru'⟩ := HC'.out k hlt
      have HU := hide hru
      have HU' := hide hru'
      obtain ⟨up, uc, rfl⟩ := hru.isSlice
      obtain ⟨up', uc', rfl⟩ := hru'.isSlice
      have hki : (k : Int) < (xs.length : Int) := by omega
      have HS := hide (show ∀ x, Below X.heap.size X x → x.cell? ⟨g, off + k * 2, none⟩ = some (.string (xs[k]'hlt).1) ∧ x.cell? ⟨g, off + k * 2 + 1, none⟩ = some (.slice up (xs[k]'hlt).2.length uc) ∧ x.cell? ⟨g', off' + k * 2, none⟩ = some (.string (xs[k]'hlt).1) ∧ x.cell? ⟨g', off' + k * 2 + 1, none⟩ = some (.slice up' (xs[k]'hlt).2.length uc') ∧ Below X.heap.size X x from
        fun x h => by
          have hb := HBel.out.trans (h.mono HBel.out.size)
          exact ⟨(hb.cell (p := ⟨g, off + k * 2, none⟩) hg).trans ha, (hb.cell (p := ⟨g, off + k * 2 + 1, none⟩) hg).trans hu, (hb.cell (p := ⟨g', off' + k * 2, none⟩) hg').trans ha', (hb.cell (p := ⟨g', off' + k * 2 + 1, none⟩) hg').trans hu', h⟩)
      clear hu hu' hru hru' ha ha' hns
      go_wp2_with fail
      go_region_held3 (fun x => x.cell? ⟨g, off + k * 2, none⟩ = some (.string (xs[k]'hlt).1) ∧ x.cell? ⟨g, off + k * 2 + 1, none⟩ = some (.slice up (xs[k]'hlt).2.length uc) ∧ x.cell? ⟨g', off' + k * 2, none⟩ = some (.string (xs[k]'hlt).1) ∧ x.cell? ⟨g', off' + k * 2 + 1, none⟩ = some (.slice up' (xs[k]'hlt).2.length uc') ∧ Below X.heap.size X x)
        ((go_split_ands; refine HS.out _ ?_; repeat (first | with_reducible assumption | with_reducible exact Below.refl _ _ | with_reducible refine Below.drew ?_)))
        ((go_at_call 74; go_split_ands; refine (eqSegment_same (xs[k]'hlt).1 _ _ (xs[k]'hlt).2 B B' _ (HM.out k hlt).1 (Lasts.go (B := B) (Same.of (HBel.out.trans (Below.mono (by assumption) HBel.out.size))) HU.out) (Lasts.go (B := B') (Same.of (HBel.out.trans (Below.mono (by assumption) HBel.out.size))) HU'.out)).mono ?_; rintro e w3 ⟨rfl, hb3⟩; have hB3 : Below X.heap.size X w3 := Below.trans (by assumption) (hb3.mono (Below.size (by assumption))); clear hb3))
      all_goals
        have HB3 := hide (HBel.out.trans (hB3.mono HBel.out.size))
        clear hB3
        go_wp2
        go_roundw
        case rel => exact ⟨_, k + 1, rfl, by omega, by go_num, HB3⟩
        case measure => simp [intOf]; omega
    · go_wp2
      go_ret
      exact ⟨rfl, HBel.out⟩
set_option maxHeartbeats 2000000 in
theorem szMessage_any (n : ByteArray) (u : Value) (x : List Seg) (left : Int) (w : World) (hn : n.size ≤ maxLen) (hl0 : 0 ≤ left) (hl : left ≤ 1048576) (hr : RSegs 0 w u x) :
    Calls Tryz.prog 6 #[.agg #[.string n, u], .int .i64 left] w fun e w' => e = .returned (.int .i64 (szOf (n.size + wSegs x) left)) ∧ Below w.heap.size w w' := by
  unfold maxLen at hn
  have HB0 : Hid (∀ p c, Below w.heap.size w (w.alloc (.cells #[.string n, .slice p x.length c] 24))) := fun p c => (Below.refl _ _).alloc (Nat.le_refl _) _
  have HR := hide hr
  obtain ⟨p, c, rfl⟩ := hr.isSlice
  clear hr
  by_cases h0 : left - (n.size : Int) < 0
  · have HS := hide (show szOf (n.size + wSegs x) left = -1 from szOf_no (by omega))
    go_enter Tryz.func6, Tryz.ntmps6
    go_wp2
    go_ret
    exact ⟨ret_int HS.out.symm, HB0.out _ _⟩
  · go_enter Tryz.func6, Tryz.ntmps6
    go_wp2_with fail
    refine (szSegmentS_any _ x (left - (n.size : Int)) _ (by omega) (by omega) (HR.out.below (HB0.out _ _))).mono ?_
    rintro e w1 ⟨rfl, hb1⟩
    have HB := hide ((HB0.out p c).trans (hb1.mono (by simp)))
    clear hb1
    by_cases h : ((wSegs x : Nat) : Int) ≤ left - (n.size : Int)
    · have HS := hide (show szOf (n.size + wSegs x) left = left - (n.size : Int) - ((wSegs x : Nat) : Int) by rw [szOf_yes (by omega)]; omega)
      rw [szOf_yes h]
      go_wp2
      go_ret
      exact ⟨ret_int HS.out.symm, HB.out⟩
    · have HS := hide (show szOf (n.size + wSegs x) left = -1 from szOf_no (by omega))
      rw [szOf_no h]
      go_wp2
      go_ret
      exact ⟨ret_int HS.out.symm, HB.out⟩

set_option maxHeartbeats 2000000 in
theorem toMessage_any (n : ByteArray) (u : Value) (x : List Seg) (w : World) (hn : wSegs x ≤ 1048576) (hr : RSegs 0 w u x) :
    Calls Tryz.prog 9 #[.agg #[.string n, u]] w fun e w' => ∃ p c, e = .returned (.agg #[.string n, .slice p x.length c]) ∧ RSegs w.heap.size w' (.slice p x.length c) x ∧ Below w.heap.size w w' := by
  obtain ⟨p, c, rfl⟩ := hr.isSlice
  obtain ⟨W, hW⟩ : ∃ W, W = (((w.alloc (.cells #[.string n, .slice p x.length c] 24)).alloc (.cells #[.string ⟨#[]⟩, .slice none 0 0] 35)).alloc (.cells #[.string n, .slice none 0 0] 35)) := ⟨_, rfl⟩
  have hb0 : Below w.heap.size w W := by rw [hW]; exact (((Below.refl _ _).alloc (Nat.le_refl _) _).alloc (by simp) _).alloc (by simp; omega) _
  have HR := hide (hr.below hb0)
  have HB0 := hide hb0
  have R1 : Row W (w.heap.size + 1) 35 [.string ⟨#[]⟩, .slice none 0 0] := by
    rw [hW]
    have := (row_new (w.alloc (.cells #[.string n, .slice p x.length c] 24)) [.string ⟨#[]⟩, .slice none 0 0] 35).alloc (.cells #[.string n, .slice none 0 0] 35)
    simpa using this
  have R2 : Row W (w.heap.size + 2) 35 [.string n, .slice none 0 0] := by
    rw [hW]
    have := row_new ((w.alloc (.cells #[.string n, .slice p x.length c] 24)).alloc (.cells #[.string ⟨#[]⟩, .slice none 0 0] 35)) [.string n, .slice none 0 0] 35
    simpa using this
  have hsz : W.heap.size = w.heap.size + 3 := by rw [hW]; simp
  clear hr hb0
  go_enter Tryz.func9, Tryz.ntmps9
  go_wp2_with fail
  rw [← hW]
  refine (toSegmentS_any _ x _ hn HR.out).mono ?_
  rintro e w1 ⟨p1, c1, rfl, hr1, hb1⟩
  clear hW
  have r1 := R1.below hb1 (by omega)
  have r2 := R2.below hb1 (by omega)
  have f2 : w1.cell? ⟨w.heap.size + 2, 1, none⟩ = some (.slice none 0 0) := r2.cell 1
  have z2 := r2.free 1
  have s2 := r2.set (j := 1) (.slice p1 x.length c1)
  have s1 := r1.other (b := w.heap.size + 2) (j := 1) (by omega) (.slice p1 x.length c1)
  have g2 : (w1.setCell ⟨w.heap.size + 2, 1, none⟩ (.slice p1 x.length c1)).cell? ⟨w.heap.size + 2, 1, none⟩ = some (.slice p1 x.length c1) := s2.cell 1
  have g20 : (w1.setCell ⟨w.heap.size + 2, 1, none⟩ (.slice p1 x.length c1)).cell? ⟨w.heap.size + 2, 0, none⟩ = some (.string n) := s2.cell 0
  have g1 : (w1.setCell ⟨w.heap.size + 2, 1, none⟩ (.slice p1 x.length c1)).cell? ⟨w.heap.size + 1, 0, none⟩ = some (.string ⟨#[]⟩) := s1.cell 0
  have g11 : (w1.setCell ⟨w.heap.size + 2, 1, none⟩ (.slice p1 x.length c1)).cell? ⟨w.heap.size + 1, 1, none⟩ = some (.slice none 0 0) := s1.cell 1
  have z1 := s1.free 0
  have z11 := s1.free 1
  have t1 := (s1.set (j := 0) (.string n)).set (j := 1) (.slice p1 x.length c1)
  have q0 : (((w1.setCell ⟨w.heap.size + 2, 1, none⟩ (.slice p1 x.length c1)).setCell ⟨w.heap.size + 1, 0, none⟩ (.string n)).setCell ⟨w.heap.size + 1, 1, none⟩ (.slice p1 x.length c1)).cell? ⟨w.heap.size + 1, 0, none⟩ = some (.string n) := t1.cell 0
  have q1 : (((w1.setCell ⟨w.heap.size + 2, 1, none⟩ (.slice p1 x.length c1)).setCell ⟨w.heap.size + 1, 0, none⟩ (.string n)).setCell ⟨w.heap.size + 1, 1, none⟩ (.slice p1 x.length c1)).cell? ⟨w.heap.size + 1, 1, none⟩ = some (.slice p1 x.length c1) := t1.cell 1
  rw [hsz] at hr1
  have HRE := hide (RSegs.mono (((hr1.same (Same.set w1 (g := w.heap.size + 2) (j := 1) (.slice p1 x.length c1) (by omega))).same (Same.set _ _ (by omega))).same (Same.set _ _ (by omega))) (by omega : w.heap.size ≤ w.heap.size + 3) : RSegs w.heap.size (((w1.setCell ⟨w.heap.size + 2, 1, none⟩ (.slice p1 x.length c1)).setCell ⟨w.heap.size + 1, 0, none⟩ (.string n)).setCell ⟨w.heap.size + 1, 1, none⟩ (.slice p1 x.length c1)) (.slice p1 x.length c1) x)
  have HBE := hide ((((HB0.out.trans (hb1.mono (by omega))).setCell (p := ⟨w.heap.size + 2, 1, none⟩) (by show w.heap.size ≤ w.heap.size + 2; omega) (.slice p1 x.length c1)).setCell (p := ⟨w.heap.size + 1, 0, none⟩) (by show w.heap.size ≤ w.heap.size + 1; omega) (.string n)).setCell (p := ⟨w.heap.size + 1, 1, none⟩) (by show w.heap.size ≤ w.heap.size + 1; omega) (.slice p1 x.length c1))
  clear hr1 hb1 r1 r2 s1 s2 t1
  go_wp2
  exact bodyPost_ret (v := .agg #[.string n, .slice p1 x.length c1]) (by simp [results, Tryz.results9, go_sem, q0, q1]) rfl ⟨_, _, rfl, HRE.out, HBE.out⟩

set_option maxHeartbeats 1000000 in
theorem eqMessage_same (n : ByteArray) (u u' : Value) (x : List Seg) (B B' : Nat) (w : World) (hn : wSegs x ≤ 1048576) (hr : RSegs B w u x) (hr' : RSegs B' w u' x) :
    Calls Tryz.prog 13 #[.agg #[.string n, u], .agg #[.string n, u']] w fun e w' => e = .returned (.bool true) ∧ Below w.heap.size w w' := by
  have HR := hide hr
  have HR' := hide hr'
  obtain ⟨p, c, rfl⟩ := hr.isSlice
  obtain ⟨p', c', rfl⟩ := hr'.isSlice
  clear hr hr'
  have HB0 := hide (((Below.refl w.heap.size w).alloc (Nat.le_refl _) (.cells #[.string n, .slice p x.length c] 35)).alloc (by simp) (.cells #[.string n, .slice p' x.length c'] 35))
  go_enter Tryz.func13, Tryz.ntmps13
  go_wp2_with fail
  refine (eqSegmentS_same _ _ x B B' _ hn (HR.out.below HB0.out) (HR'.out.below HB0.out)).mono ?_
  rintro e w1 ⟨rfl, hb1⟩
  have HB := hide (HB0.out.trans (hb1.mono (by simp; omega)))
  clear hb1
  go_wp2
  go_ret
  exact ⟨rfl, HB.out⟩
end Go.Proofs.YtmkcmajpepehmaaGreat
/- The laws' own copies of a Field and of a Message, each list in a row of its own. -/
namespace Go.Proofs.YtmkcmajpepehmaaGreat
open Go.RowKit
theorem SameIn.set {lo hi g j : Nat} (w : World) (v : Value) (h : g < lo) : SameIn lo hi w (w.setCell ⟨g, j, none⟩ v) := fun k hk _ _ => Below.heap_setCell w ⟨g, j, none⟩ v k (by show k ≠ g; omega)
theorem toS_own (v : Value) (xs : List ByteArray) (w : World) (hn : wComp xs ≤ 1048576) (hr : RComp 0 w v xs) :
    Calls Tryz.prog 141 #[v] w fun e w' => ∃ p c, e = .returned (.slice p xs.length c) ∧ OComp w.heap.size w'.heap.size w' (.slice p xs.length c) xs ∧ Below w.heap.size w w' := by
  have hl : xs.length ≤ 1048576 := Nat.le_trans (wL_len _ xs) hn
  refine (toStringS_any v xs w hl hr.reads).mono ?_
  rintro e w' ⟨rfl, hrow, hb⟩
  exact ⟨_, _, rfl, ⟨_, _, rfl, Nat.le_refl _, by unfold maxLen; omega, hr.sizes, fun _ => ⟨w.heap.size, [], rfl, Nat.le_refl _, hrow.lt, by simp, by rw [List.append_nil]; exact hrow⟩⟩, hb⟩
set_option maxHeartbeats 2000000 in
theorem toComp_own (u : Value) (x : List ByteArray) (w : World) (hn : wComp x ≤ 1048576) (hr : RComp 0 w u x) :
    Calls Tryz.prog 133 #[.agg #[u]] w fun e w' => ∃ p c, e = .returned (.agg #[.slice p x.length c]) ∧ OComp w.heap.size w'.heap.size w' (.slice p x.length c) x ∧ Below w.heap.size w w' := by
  obtain ⟨p, c, rfl⟩ := hr.isSlice
  obtain ⟨W, hW⟩ : ∃ W, W = (((w.alloc (.cells #[.slice p x.length c] 161)).alloc (.cells #[.slice none 0 0] 91)).alloc (.cells #[.slice none 0 0] 91)) := ⟨_, rfl⟩
  have hb0 : Below w.heap.size w W := by rw [hW]; exact (((Below.refl _ _).alloc (Nat.le_refl _) _).alloc (by simp) _).alloc (by simp; omega) _
  have HR := hide (hr.below hb0)
  have HB0 := hide hb0
  have R1 : Row W (w.heap.size + 1) 91 [.slice none 0 0] := by
    rw [hW]
    have := (row_new (w.alloc (.cells #[.slice p x.length c] 161)) [.slice none 0 0] 91).alloc (.cells #[.slice none 0 0] 91)
    simpa using this
  have R2 : Row W (w.heap.size + 2) 91 [.slice none 0 0] := by
    rw [hW]
    have := row_new ((w.alloc (.cells #[.slice p x.length c] 161)).alloc (.cells #[.slice none 0 0] 91)) [.slice none 0 0] 91
    simpa using this
  have hsz : W.heap.size = w.heap.size + 3 := by rw [hW]; simp
  clear hr hb0
  go_enter Tryz.func133, Tryz.ntmps133
  go_wp2_with fail
  rw [← hW]
  refine (toS_own _ x _ hn HR.out).mono ?_
  rintro e w1 ⟨p1, c1, rfl, hr1, hb1⟩
  clear hW
  have r1 := R1.below hb1 (by omega)
  have r2 := R2.below hb1 (by omega)
  have f2 : w1.cell? ⟨w.heap.size + 2, 0, none⟩ = some (.slice none 0 0) := r2.cell 0
  have z2 := r2.free 0
  have s2 := r2.set (j := 0) (.slice p1 x.length c1)
  have s1 := r1.other (b := w.heap.size + 2) (j := 0) (by omega) (.slice p1 x.length c1)
  have g2 : (w1.setCell ⟨w.heap.size + 2, 0, none⟩ (.slice p1 x.length c1)).cell? ⟨w.heap.size + 2, 0, none⟩ = some (.slice p1 x.length c1) := s2.cell 0
  have g1 : (w1.setCell ⟨w.heap.size + 2, 0, none⟩ (.slice p1 x.length c1)).cell? ⟨w.heap.size + 1, 0, none⟩ = some (.slice none 0 0) := s1.cell 0
  have z1 := s1.free 0
  have q1 : ((w1.setCell ⟨w.heap.size + 2, 0, none⟩ (.slice p1 x.length c1)).setCell ⟨w.heap.size + 1, 0, none⟩ (.slice p1 x.length c1)).cell? ⟨w.heap.size + 1, 0, none⟩ = some (.slice p1 x.length c1) := (s1.set (j := 0) (.slice p1 x.length c1)).cell 0
  rw [hsz] at hr1
  have hw1 : w.heap.size + 3 ≤ w1.heap.size := by rw [← hsz]; exact hb1.size
  have es : ((w1.setCell ⟨w.heap.size + 2, 0, none⟩ (.slice p1 x.length c1)).setCell ⟨w.heap.size + 1, 0, none⟩ (.slice p1 x.length c1)).heap.size = w1.heap.size := by simp [World.setCell]
  have HRE : Hid (OComp w.heap.size ((w1.setCell ⟨w.heap.size + 2, 0, none⟩ (.slice p1 x.length c1)).setCell ⟨w.heap.size + 1, 0, none⟩ (.slice p1 x.length c1)).heap.size ((w1.setCell ⟨w.heap.size + 2, 0, none⟩ (.slice p1 x.length c1)).setCell ⟨w.heap.size + 1, 0, none⟩ (.slice p1 x.length c1)) (.slice p1 x.length c1) x) := hide (by
    rw [es]
    exact Keeps.wide (by omega : w.heap.size ≤ w.heap.size + 3) (Nat.le_refl _) (Keeps.go (SameIn.set _ _ (by omega)) (Keeps.go (SameIn.set w1 (g := w.heap.size + 2) (j := 0) (.slice p1 x.length c1) (by omega)) hr1)))
  have HBE := hide (((HB0.out.trans (hb1.mono (by omega))).setCell (p := ⟨w.heap.size + 2, 0, none⟩) (by show w.heap.size ≤ w.heap.size + 2; omega) (.slice p1 x.length c1)).setCell (p := ⟨w.heap.size + 1, 0, none⟩) (by show w.heap.size ≤ w.heap.size + 1; omega) (.slice p1 x.length c1))
  clear hr1 hb1 r1 r2 s1 s2 es hw1
  go_wp2
  exact bodyPost_ret (v := .agg #[.slice p1 x.length c1]) (by simp [results, Tryz.results133, go_sem, q1]) rfl ⟨_, _, rfl, HRE.out, HBE.out⟩

set_option maxHeartbeats 2000000 in
theorem toCompS_own (v : Value) (xs : List (List ByteArray)) (w : World) (hn : wRep xs ≤ 1048576) (hr : RL 0 (RComp 0) w v xs) :
    Calls Tryz.prog 118 #[v] w fun e w' => ∃ p c, e = .returned (.slice p xs.length c) ∧ OL 91 OComp w.heap.size w'.heap.size w' (.slice p xs.length c) xs ∧ Below w.heap.size w w' := by
  obtain ⟨i0, hi, hz0, hz1, hz2⟩ := info_parts Tryz.infoComp
  have hl : xs.length ≤ 1048576 := Nat.le_trans (wL_len _ xs) hn
  have HM : Hid (∀ i (h : i < xs.length), wComp xs[i] ≤ 1048576) := fun i h => by have := wL_mem wComp (List.getElem_mem h); have : wL wComp xs ≤ 1048576 := hn; omega
  clear hn
  obtain ⟨p, cap, rfl, h1, h2, h4⟩ := hr
  have H4 := hide h4
  clear h4
  have hzc : (Value.agg #[.slice none 0 0]).cells.size = 1 := by simp [Value.cells]
  go_enter Tryz.func118, Tryz.ntmps118
  go_wp2_with (at_make; refine wpList_make_full _ rfl _ _ 86 rfl w.heap.size 91 i0 (.agg #[.slice none 0 0]) 1 Tryz.underlying86 hi hz0 hz1 _ _ _ _ xs.length rfl rfl rfl rfl ?b2 ?b3 (Nat.le_refl _) ?_)
  case b2 => rw [hz2]; omega
  case b3 => unfold maxLen; omega
  intro w1 hown hgrow
  obtain ⟨Z, hZ, hZl⟩ := own_row hown
  rw [Nat.mul_one] at hZl
  have hb1 : Below w.heap.size w w1 := (Below.refl _ _).grown hgrow (Nat.le_refl _) (by simp)
  have HZ := hide hZ
  have HB := hide hb1
  have HL := hide hZl
  clear hZ hown hgrow hb1 hZl
  go_wp2_with fail
  go_loopw [4] (fun i wr => ∃ (X : World) (k : Nat) (vs : List Value), X = wr ∧ k ≤ xs.length ∧ i = .int .i64 k ∧ Hid (Row X w.heap.size 91 (vs ++ Z.drop k)) ∧ Hid (Below w.heap.size w X) ∧ Hid (vs.length = k) ∧ Hid (w.heap.size + 1 ≤ X.heap.size) ∧ Hid (∃ A B : Nat → Nat, (∀ j (h1 : j < vs.length) (h2 : j < xs.length), w.heap.size + 1 ≤ A j ∧ B j ≤ X.heap.size ∧ OComp (A j) (B j) X vs[j] xs[j]) ∧ ∀ i j, i < j → j < k → B i ≤ A j)) (fun i _ => xs.length - (intOf i).toNat)
  case atStart => exact ⟨_, 0, [], rfl, Nat.zero_le _, rfl, hide (by simpa using HZ.out), HB, hide rfl, hide (by have := HZ.out.lt; exact this), hide ⟨fun _ => 0, fun _ => 0, fun j h1 _ => absurd h1 (by simp), fun i j _ h => absurd h (by omega)⟩⟩
  case round =>
    obtain ⟨X, k, vs, rfl, hk, rfl, HRow, HBel, HLn, HSz, HEl⟩ := hrel
    by_cases hlt : k < xs.length
    · obtain ⟨g, off, hp, hg, _, hc⟩ := H4.out (by omega)
      subst hp
      obtain ⟨u, hu, hru⟩ := hc k hlt
      have hck : X.cell? ⟨g, off + k, none⟩ = some u := by rw [HBel.out.cell (p := ⟨g, off + k, none⟩) hg]; exact hu
      have HRU := hide (hru.below HBel.out)
      obtain ⟨up, uc, rfl⟩ := hru.isSlice
      have hlt0 := HRow.out.lt
      clear hu hru hc
      go_wp2_with fail
      refine (toComp_own _ (xs[k]'hlt) _ (HM.out k hlt) HRU.out).mono ?_
      rintro e w2 ⟨p2, c2, rfl, hr2, hb2⟩
      have row2 := HRow.out.below hb2 hlt0
      have hll : (vs ++ Z.drop k).length = xs.length := by rw [List.length_append, HLn.out, List.length_drop, HL.out]; omega
      obtain ⟨z, hz⟩ := row2.some k (by rw [hll]; exact hlt)
      have hf := row2.free k
      have hnext := row2.set (j := k) (.slice p2 (xs[k]'hlt).length c2)
      rw [set_snoc vs Z k xs.length _ HLn.out hlt HL.out] at hnext
      have HN := hide hnext
      have HMB := hide ((HBel.out.trans (hb2.mono HBel.out.size)).setCell (p := ⟨w.heap.size, k, none⟩) (Nat.le_refl _) (.slice p2 (xs[k]'hlt).length c2))
      have HLn2 : Hid ((vs ++ [Value.slice p2 (xs[k]'hlt).length c2]).length = k + 1) := by rw [List.length_append, HLn.out]; exact rfl
      have es : (w2.setCell ⟨w.heap.size, k, none⟩ (.slice p2 (xs[k]'hlt).length c2)).heap.size = w2.heap.size := by simp [World.setCell]
      have hXs := HSz.out
      have hXw := hb2.size
      have HSz2 : Hid (w.heap.size + 1 ≤ (w2.setCell ⟨w.heap.size, k, none⟩ (.slice p2 (xs[k]'hlt).length c2)).heap.size) := hide (by rw [es]; omega)
      have HEl2 : Hid (∃ A B : Nat → Nat, (∀ j (h1 : j < (vs ++ [Value.slice p2 (xs[k]'hlt).length c2]).length) (h2 : j < xs.length), w.heap.size + 1 ≤ A j ∧ B j ≤ (w2.setCell ⟨w.heap.size, k, none⟩ (.slice p2 (xs[k]'hlt).length c2)).heap.size ∧ OComp (A j) (B j) (w2.setCell ⟨w.heap.size, k, none⟩ (.slice p2 (xs[k]'hlt).length c2)) (vs ++ [Value.slice p2 (xs[k]'hlt).length c2])[j] xs[j]) ∧ ∀ i j, i < j → j < k + 1 → B i ≤ A j) := by
        obtain ⟨A, B, hE, hD⟩ := HEl.out
        refine ⟨fun i => if i = k then X.heap.size else A i, fun i => if i = k then w2.heap.size else B i, fun j h1 h2 => ?_, fun i j hij hj => ?_⟩
        · rw [HLn2.out] at h1
          rw [es]
          dsimp only
          by_cases hj : j = k
          · subst hj
            rw [if_pos rfl, if_pos rfl, List.getElem_append_right (by rw [HLn.out]; exact Nat.le_refl _)]
            simp only [HLn.out, Nat.sub_self, List.getElem_cons_zero]
            exact ⟨hXs, Nat.le_refl _, Keeps.go (SameIn.set _ _ (by omega)) hr2⟩
          · have hjk : j < vs.length := by rw [HLn.out]; omega
            obtain ⟨f1, f2, f3⟩ := hE j hjk h2
            rw [if_neg hj, if_neg hj, List.getElem_append_left hjk]
            exact ⟨f1, by omega, Keeps.go (SameIn.set _ _ (by omega)) (Keeps.go (SameIn.ofBelow hb2) f3)⟩
        · have hik : i < vs.length := by rw [HLn.out]; omega
          obtain ⟨f1, f2, f3⟩ := hE i hik (by omega)
          dsimp only
          by_cases hjk : j = k
          · rw [if_pos hjk, if_neg (by omega)]; omega
          · rw [if_neg hjk, if_neg (by omega)]; exact hD i j hij (by omega)
      clear hnext row2 hr2 hb2 hlt0 hll es hXs hXw
      go_wp2
      go_roundw
      case rel => exact ⟨_, k + 1, _, rfl, by omega, by go_num, HN, HMB, HLn2, HSz2, HEl2⟩
      case measure => simp [intOf]; omega
    · have HE : Hid (Row X w.heap.size 91 vs) := by
        have := HRow.out
        rw [List.drop_eq_nil_of_le (by rw [HL.out]; omega), List.append_nil] at this
        exact this
      have HLn3 : Hid (vs.length = xs.length) := by rw [HLn.out]; exact (show k = xs.length by omega)
      go_wp2
      go_ret
      obtain ⟨A, B, hE, hD⟩ := HEl.out
      exact ⟨_, _, rfl, ⟨_, _, rfl, Nat.le_refl _, by unfold maxLen; omega, fun _ => ⟨w.heap.size, vs, [], A, B, rfl, Nat.le_refl _, HSz.out, by rw [List.append_nil]; exact HE.out, HLn3.out, fun i h1 h2 => by
        obtain ⟨f1, f2, f3⟩ := hE i h1 h2
        exact ⟨by omega, f2, .inr (by omega), f3⟩, fun i j h1 h2 => hD i j h1 (by have := HLn3.out; have := HLn.out; omega)⟩⟩, HBel.out⟩

set_option maxHeartbeats 2000000 in
theorem toRep_own (u : Value) (x : List (List ByteArray)) (w : World) (hn : wRep x ≤ 1048576) (hr : RRep 0 w u x) :
    Calls Tryz.prog 82 #[.agg #[u]] w fun e w' => ∃ p c, e = .returned (.agg #[.slice p x.length c]) ∧ ORep w.heap.size w'.heap.size w' (.slice p x.length c) x ∧ Below w.heap.size w w' := by
  obtain ⟨p, c, rfl⟩ := hr.isSlice
  obtain ⟨W, hW⟩ : ∃ W, W = (((w.alloc (.cells #[.slice p x.length c] 107)).alloc (.cells #[.slice none 0 0] 88)).alloc (.cells #[.slice none 0 0] 88)) := ⟨_, rfl⟩
  have hb0 : Below w.heap.size w W := by rw [hW]; exact (((Below.refl _ _).alloc (Nat.le_refl _) _).alloc (by simp) _).alloc (by simp; omega) _
  have HR := hide (hr.below hb0)
  have HB0 := hide hb0
  have R1 : Row W (w.heap.size + 1) 88 [.slice none 0 0] := by
    rw [hW]
    have := (row_new (w.alloc (.cells #[.slice p x.length c] 107)) [.slice none 0 0] 88).alloc (.cells #[.slice none 0 0] 88)
    simpa using this
  have R2 : Row W (w.heap.size + 2) 88 [.slice none 0 0] := by
    rw [hW]
    have := row_new ((w.alloc (.cells #[.slice p x.length c] 107)).alloc (.cells #[.slice none 0 0] 88)) [.slice none 0 0] 88
    simpa using this
  have hsz : W.heap.size = w.heap.size + 3 := by rw [hW]; simp
  clear hr hb0
  go_enter Tryz.func82, Tryz.ntmps82
  go_wp2_with fail
  rw [← hW]
  refine (toCompS_own _ x _ hn HR.out).mono ?_
  rintro e w1 ⟨p1, c1, rfl, hr1, hb1⟩
  clear hW
  have r1 := R1.below hb1 (by omega)
  have r2 := R2.below hb1 (by omega)
  have f2 : w1.cell? ⟨w.heap.size + 2, 0, none⟩ = some (.slice none 0 0) := r2.cell 0
  have z2 := r2.free 0
  have s2 := r2.set (j := 0) (.slice p1 x.length c1)
  have s1 := r1.other (b := w.heap.size + 2) (j := 0) (by omega) (.slice p1 x.length c1)
  have g2 : (w1.setCell ⟨w.heap.size + 2, 0, none⟩ (.slice p1 x.length c1)).cell? ⟨w.heap.size + 2, 0, none⟩ = some (.slice p1 x.length c1) := s2.cell 0
  have g1 : (w1.setCell ⟨w.heap.size + 2, 0, none⟩ (.slice p1 x.length c1)).cell? ⟨w.heap.size + 1, 0, none⟩ = some (.slice none 0 0) := s1.cell 0
  have z1 := s1.free 0
  have q1 : ((w1.setCell ⟨w.heap.size + 2, 0, none⟩ (.slice p1 x.length c1)).setCell ⟨w.heap.size + 1, 0, none⟩ (.slice p1 x.length c1)).cell? ⟨w.heap.size + 1, 0, none⟩ = some (.slice p1 x.length c1) := (s1.set (j := 0) (.slice p1 x.length c1)).cell 0
  rw [hsz] at hr1
  have hw1 : w.heap.size + 3 ≤ w1.heap.size := by rw [← hsz]; exact hb1.size
  have es : ((w1.setCell ⟨w.heap.size + 2, 0, none⟩ (.slice p1 x.length c1)).setCell ⟨w.heap.size + 1, 0, none⟩ (.slice p1 x.length c1)).heap.size = w1.heap.size := by simp [World.setCell]
  have HRE : Hid (ORep w.heap.size ((w1.setCell ⟨w.heap.size + 2, 0, none⟩ (.slice p1 x.length c1)).setCell ⟨w.heap.size + 1, 0, none⟩ (.slice p1 x.length c1)).heap.size ((w1.setCell ⟨w.heap.size + 2, 0, none⟩ (.slice p1 x.length c1)).setCell ⟨w.heap.size + 1, 0, none⟩ (.slice p1 x.length c1)) (.slice p1 x.length c1) x) := hide (by
    rw [es]
    exact Keeps.wide (by omega : w.heap.size ≤ w.heap.size + 3) (Nat.le_refl _) (Keeps.go (SameIn.set _ _ (by omega)) (Keeps.go (SameIn.set w1 (g := w.heap.size + 2) (j := 0) (.slice p1 x.length c1) (by omega)) hr1)))
  have HBE := hide (((HB0.out.trans (hb1.mono (by omega))).setCell (p := ⟨w.heap.size + 2, 0, none⟩) (by show w.heap.size ≤ w.heap.size + 2; omega) (.slice p1 x.length c1)).setCell (p := ⟨w.heap.size + 1, 0, none⟩) (by show w.heap.size ≤ w.heap.size + 1; omega) (.slice p1 x.length c1))
  clear hr1 hb1 r1 r2 s1 s2 es hw1
  go_wp2
  exact bodyPost_ret (v := .agg #[.slice p1 x.length c1]) (by simp [results, Tryz.results82, go_sem, q1]) rfl ⟨_, _, rfl, HRE.out, HBE.out⟩

set_option maxHeartbeats 2000000 in
theorem toRepS_own (v : Value) (xs : List (List (List ByteArray))) (w : World) (hn : wFld xs ≤ 1048576) (hr : RL 0 (RRep 0) w v xs) :
    Calls Tryz.prog 44 #[v] w fun e w' => ∃ p c, e = .returned (.slice p xs.length c) ∧ OL 88 ORep w.heap.size w'.heap.size w' (.slice p xs.length c) xs ∧ Below w.heap.size w w' := by
  obtain ⟨i0, hi, hz0, hz1, hz2⟩ := info_parts Tryz.infoRep
  have hl : xs.length ≤ 1048576 := Nat.le_trans (wL_len _ xs) hn
  have HM : Hid (∀ i (h : i < xs.length), wRep xs[i] ≤ 1048576) := fun i h => by have := wL_mem wRep (List.getElem_mem h); have : wL wRep xs ≤ 1048576 := hn; omega
  clear hn
  obtain ⟨p, cap, rfl, h1, h2, h4⟩ := hr
  have H4 := hide h4
  clear h4
  have hzc : (Value.agg #[.slice none 0 0]).cells.size = 1 := by simp [Value.cells]
  go_enter Tryz.func44, Tryz.ntmps44
  go_wp2_with (at_make; refine wpList_make_full _ rfl _ _ 29 rfl w.heap.size 88 i0 (.agg #[.slice none 0 0]) 1 Tryz.underlying29 hi hz0 hz1 _ _ _ _ xs.length rfl rfl rfl rfl ?b2 ?b3 (Nat.le_refl _) ?_)
  case b2 => rw [hz2]; omega
  case b3 => unfold maxLen; omega
  intro w1 hown hgrow
  obtain ⟨Z, hZ, hZl⟩ := own_row hown
  rw [Nat.mul_one] at hZl
  have hb1 : Below w.heap.size w w1 := (Below.refl _ _).grown hgrow (Nat.le_refl _) (by simp)
  have HZ := hide hZ
  have HB := hide hb1
  have HL := hide hZl
  clear hZ hown hgrow hb1 hZl
  go_wp2_with fail
  go_loopw [4] (fun i wr => ∃ (X : World) (k : Nat) (vs : List Value), X = wr ∧ k ≤ xs.length ∧ i = .int .i64 k ∧ Hid (Row X w.heap.size 88 (vs ++ Z.drop k)) ∧ Hid (Below w.heap.size w X) ∧ Hid (vs.length = k) ∧ Hid (w.heap.size + 1 ≤ X.heap.size) ∧ Hid (∃ A B : Nat → Nat, (∀ j (h1 : j < vs.length) (h2 : j < xs.length), w.heap.size + 1 ≤ A j ∧ B j ≤ X.heap.size ∧ ORep (A j) (B j) X vs[j] xs[j]) ∧ ∀ i j, i < j → j < k → B i ≤ A j)) (fun i _ => xs.length - (intOf i).toNat)
  case atStart => exact ⟨_, 0, [], rfl, Nat.zero_le _, rfl, hide (by simpa using HZ.out), HB, hide rfl, hide (by have := HZ.out.lt; exact this), hide ⟨fun _ => 0, fun _ => 0, fun j h1 _ => absurd h1 (by simp), fun i j _ h => absurd h (by omega)⟩⟩
  case round =>
    obtain ⟨X, k, vs, rfl, hk, rfl, HRow, HBel, HLn, HSz, HEl⟩ := hrel
    by_cases hlt : k < xs.length
    · obtain ⟨g, off, hp, hg, _, hc⟩ := H4.out (by omega)
      subst hp
      obtain ⟨u, hu, hru⟩ := hc k hlt
      have hck : X.cell? ⟨g, off + k, none⟩ = some u := by rw [HBel.out.cell (p := ⟨g, off + k, none⟩) hg]; exact hu
      have HRU := hide (hru.below HBel.out)
      obtain ⟨up, uc, rfl⟩ := hru.isSlice
      have hlt0 := HRow.out.lt
      clear hu hru hc
      go_wp2_with fail
      refine (toRep_own _ (xs[k]'hlt) _ (HM.out k hlt) HRU.out).mono ?_
      rintro e w2 ⟨p2, c2, rfl, hr2, hb2⟩
      have row2 := HRow.out.below hb2 hlt0
      have hll : (vs ++ Z.drop k).length = xs.length := by rw [List.length_append, HLn.out, List.length_drop, HL.out]; omega
      obtain ⟨z, hz⟩ := row2.some k (by rw [hll]; exact hlt)
      have hf := row2.free k
      have hnext := row2.set (j := k) (.slice p2 (xs[k]'hlt).length c2)
      rw [set_snoc vs Z k xs.length _ HLn.out hlt HL.out] at hnext
      have HN := hide hnext
      have HMB := hide ((HBel.out.trans (hb2.mono HBel.out.size)).setCell (p := ⟨w.heap.size, k, none⟩) (Nat.le_refl _) (.slice p2 (xs[k]'hlt).length c2))
      have HLn2 : Hid ((vs ++ [Value.slice p2 (xs[k]'hlt).length c2]).length = k + 1) := by rw [List.length_append, HLn.out]; exact rfl
      have es : (w2.setCell ⟨w.heap.size, k, none⟩ (.slice p2 (xs[k]'hlt).length c2)).heap.size = w2.heap.size := by simp [World.setCell]
      have hXs := HSz.out
      have hXw := hb2.size
      have HSz2 : Hid (w.heap.size + 1 ≤ (w2.setCell ⟨w.heap.size, k, none⟩ (.slice p2 (xs[k]'hlt).length c2)).heap.size) := hide (by rw [es]; omega)
      have HEl2 : Hid (∃ A B : Nat → Nat, (∀ j (h1 : j < (vs ++ [Value.slice p2 (xs[k]'hlt).length c2]).length) (h2 : j < xs.length), w.heap.size + 1 ≤ A j ∧ B j ≤ (w2.setCell ⟨w.heap.size, k, none⟩ (.slice p2 (xs[k]'hlt).length c2)).heap.size ∧ ORep (A j) (B j) (w2.setCell ⟨w.heap.size, k, none⟩ (.slice p2 (xs[k]'hlt).length c2)) (vs ++ [Value.slice p2 (xs[k]'hlt).length c2])[j] xs[j]) ∧ ∀ i j, i < j → j < k + 1 → B i ≤ A j) := by
        obtain ⟨A, B, hE, hD⟩ := HEl.out
        refine ⟨fun i => if i = k then X.heap.size else A i, fun i => if i = k then w2.heap.size else B i, fun j h1 h2 => ?_, fun i j hij hj => ?_⟩
        · rw [HLn2.out] at h1
          rw [es]
          dsimp only
          by_cases hj : j = k
          · subst hj
            rw [if_pos rfl, if_pos rfl, List.getElem_append_right (by rw [HLn.out]; exact Nat.le_refl _)]
            simp only [HLn.out, Nat.sub_self, List.getElem_cons_zero]
            exact ⟨hXs, Nat.le_refl _, Keeps.go (SameIn.set _ _ (by omega)) hr2⟩
          · have hjk : j < vs.length := by rw [HLn.out]; omega
            obtain ⟨f1, f2, f3⟩ := hE j hjk h2
            rw [if_neg hj, if_neg hj, List.getElem_append_left hjk]
            exact ⟨f1, by omega, Keeps.go (SameIn.set _ _ (by omega)) (Keeps.go (SameIn.ofBelow hb2) f3)⟩
        · have hik : i < vs.length := by rw [HLn.out]; omega
          obtain ⟨f1, f2, f3⟩ := hE i hik (by omega)
          dsimp only
          by_cases hjk : j = k
          · rw [if_pos hjk, if_neg (by omega)]; omega
          · rw [if_neg hjk, if_neg (by omega)]; exact hD i j hij (by omega)
      clear hnext row2 hr2 hb2 hlt0 hll es hXs hXw
      go_wp2
      go_roundw
      case rel => exact ⟨_, k + 1, _, rfl, by omega, by go_num, HN, HMB, HLn2, HSz2, HEl2⟩
      case measure => simp [intOf]; omega
    · have HE : Hid (Row X w.heap.size 88 vs) := by
        have := HRow.out
        rw [List.drop_eq_nil_of_le (by rw [HL.out]; omega), List.append_nil] at this
        exact this
      have HLn3 : Hid (vs.length = xs.length) := by rw [HLn.out]; exact (show k = xs.length by omega)
      go_wp2
      go_ret
      obtain ⟨A, B, hE, hD⟩ := HEl.out
      exact ⟨_, _, rfl, ⟨_, _, rfl, Nat.le_refl _, by unfold maxLen; omega, fun _ => ⟨w.heap.size, vs, [], A, B, rfl, Nat.le_refl _, HSz.out, by rw [List.append_nil]; exact HE.out, HLn3.out, fun i h1 h2 => by
        obtain ⟨f1, f2, f3⟩ := hE i h1 h2
        exact ⟨by omega, f2, .inr (by omega), f3⟩, fun i j h1 h2 => hD i j h1 (by have := HLn3.out; have := HLn.out; omega)⟩⟩, HBel.out⟩

set_option maxHeartbeats 2000000 in
theorem toField_own (u : Value) (x : List (List (List ByteArray))) (w : World) (hn : wFld x ≤ 1048576) (hr : RFld 0 w u x) :
    Calls Tryz.prog 19 #[.agg #[u]] w fun e w' => ∃ p c, e = .returned (.agg #[.slice p x.length c]) ∧ OFld w.heap.size w'.heap.size w' (.slice p x.length c) x ∧ Below w.heap.size w w' := by
  obtain ⟨p, c, rfl⟩ := hr.isSlice
  obtain ⟨W, hW⟩ : ∃ W, W = (((w.alloc (.cells #[.slice p x.length c] 46)).alloc (.cells #[.slice none 0 0] 31)).alloc (.cells #[.slice none 0 0] 31)) := ⟨_, rfl⟩
  have hb0 : Below w.heap.size w W := by rw [hW]; exact (((Below.refl _ _).alloc (Nat.le_refl _) _).alloc (by simp) _).alloc (by simp; omega) _
  have HR := hide (hr.below hb0)
  have HB0 := hide hb0
  have R1 : Row W (w.heap.size + 1) 31 [.slice none 0 0] := by
    rw [hW]
    have := (row_new (w.alloc (.cells #[.slice p x.length c] 46)) [.slice none 0 0] 31).alloc (.cells #[.slice none 0 0] 31)
    simpa using this
  have R2 : Row W (w.heap.size + 2) 31 [.slice none 0 0] := by
    rw [hW]
    have := row_new ((w.alloc (.cells #[.slice p x.length c] 46)).alloc (.cells #[.slice none 0 0] 31)) [.slice none 0 0] 31
    simpa using this
  have hsz : W.heap.size = w.heap.size + 3 := by rw [hW]; simp
  clear hr hb0
  go_enter Tryz.func19, Tryz.ntmps19
  go_wp2_with fail
  rw [← hW]
  refine (toRepS_own _ x _ hn HR.out).mono ?_
  rintro e w1 ⟨p1, c1, rfl, hr1, hb1⟩
  clear hW
  have r1 := R1.below hb1 (by omega)
  have r2 := R2.below hb1 (by omega)
  have f2 : w1.cell? ⟨w.heap.size + 2, 0, none⟩ = some (.slice none 0 0) := r2.cell 0
  have z2 := r2.free 0
  have s2 := r2.set (j := 0) (.slice p1 x.length c1)
  have s1 := r1.other (b := w.heap.size + 2) (j := 0) (by omega) (.slice p1 x.length c1)
  have g2 : (w1.setCell ⟨w.heap.size + 2, 0, none⟩ (.slice p1 x.length c1)).cell? ⟨w.heap.size + 2, 0, none⟩ = some (.slice p1 x.length c1) := s2.cell 0
  have g1 : (w1.setCell ⟨w.heap.size + 2, 0, none⟩ (.slice p1 x.length c1)).cell? ⟨w.heap.size + 1, 0, none⟩ = some (.slice none 0 0) := s1.cell 0
  have z1 := s1.free 0
  have q1 : ((w1.setCell ⟨w.heap.size + 2, 0, none⟩ (.slice p1 x.length c1)).setCell ⟨w.heap.size + 1, 0, none⟩ (.slice p1 x.length c1)).cell? ⟨w.heap.size + 1, 0, none⟩ = some (.slice p1 x.length c1) := (s1.set (j := 0) (.slice p1 x.length c1)).cell 0
  rw [hsz] at hr1
  have hw1 : w.heap.size + 3 ≤ w1.heap.size := by rw [← hsz]; exact hb1.size
  have es : ((w1.setCell ⟨w.heap.size + 2, 0, none⟩ (.slice p1 x.length c1)).setCell ⟨w.heap.size + 1, 0, none⟩ (.slice p1 x.length c1)).heap.size = w1.heap.size := by simp [World.setCell]
  have HRE : Hid (OFld w.heap.size ((w1.setCell ⟨w.heap.size + 2, 0, none⟩ (.slice p1 x.length c1)).setCell ⟨w.heap.size + 1, 0, none⟩ (.slice p1 x.length c1)).heap.size ((w1.setCell ⟨w.heap.size + 2, 0, none⟩ (.slice p1 x.length c1)).setCell ⟨w.heap.size + 1, 0, none⟩ (.slice p1 x.length c1)) (.slice p1 x.length c1) x) := hide (by
    rw [es]
    exact Keeps.wide (by omega : w.heap.size ≤ w.heap.size + 3) (Nat.le_refl _) (Keeps.go (SameIn.set _ _ (by omega)) (Keeps.go (SameIn.set w1 (g := w.heap.size + 2) (j := 0) (.slice p1 x.length c1) (by omega)) hr1)))
  have HBE := hide (((HB0.out.trans (hb1.mono (by omega))).setCell (p := ⟨w.heap.size + 2, 0, none⟩) (by show w.heap.size ≤ w.heap.size + 2; omega) (.slice p1 x.length c1)).setCell (p := ⟨w.heap.size + 1, 0, none⟩) (by show w.heap.size ≤ w.heap.size + 1; omega) (.slice p1 x.length c1))
  clear hr1 hb1 r1 r2 s1 s2 es hw1
  go_wp2
  exact bodyPost_ret (v := .agg #[.slice p1 x.length c1]) (by simp [results, Tryz.results19, go_sem, q1]) rfl ⟨_, _, rfl, HRE.out, HBE.out⟩
set_option maxHeartbeats 2000000 in
theorem toFieldS_own (v : Value) (xs : List (List (List (List ByteArray)))) (w : World) (hn : wFlds xs ≤ 1048576) (hr : RL 0 (RFld 0) w v xs) :
    Calls Tryz.prog 102 #[v] w fun e w' => ∃ p c, e = .returned (.slice p xs.length c) ∧ OL 31 OFld w.heap.size w'.heap.size w' (.slice p xs.length c) xs ∧ Below w.heap.size w w' := by
  obtain ⟨i0, hi, hz0, hz1, hz2⟩ := info_parts Tryz.infoField
  have hl : xs.length ≤ 1048576 := Nat.le_trans (wL_len _ xs) hn
  have HM : Hid (∀ i (h : i < xs.length), wFld xs[i] ≤ 1048576) := fun i h => by have := wL_mem wFld (List.getElem_mem h); have : wL wFld xs ≤ 1048576 := hn; omega
  clear hn
  obtain ⟨p, cap, rfl, h1, h2, h4⟩ := hr
  have H4 := hide h4
  clear h4
  have hzc : (Value.agg #[.slice none 0 0]).cells.size = 1 := by simp [Value.cells]
  go_enter Tryz.func102, Tryz.ntmps102
  go_wp2_with (at_make; refine wpList_make_full _ rfl _ _ 81 rfl w.heap.size 31 i0 (.agg #[.slice none 0 0]) 1 Tryz.underlying81 hi hz0 hz1 _ _ _ _ xs.length rfl rfl rfl rfl ?b2 ?b3 (Nat.le_refl _) ?_)
  case b2 => rw [hz2]; omega
  case b3 => unfold maxLen; omega
  intro w1 hown hgrow
  obtain ⟨Z, hZ, hZl⟩ := own_row hown
  rw [Nat.mul_one] at hZl
  have hb1 : Below w.heap.size w w1 := (Below.refl _ _).grown hgrow (Nat.le_refl _) (by simp)
  have HZ := hide hZ
  have HB := hide hb1
  have HL := hide hZl
  clear hZ hown hgrow hb1 hZl
  go_wp2_with fail
  go_loopw [4] (fun i wr => ∃ (X : World) (k : Nat) (vs : List Value), X = wr ∧ k ≤ xs.length ∧ i = .int .i64 k ∧ Hid (Row X w.heap.size 31 (vs ++ Z.drop k)) ∧ Hid (Below w.heap.size w X) ∧ Hid (vs.length = k) ∧ Hid (w.heap.size + 1 ≤ X.heap.size) ∧ Hid (∃ A B : Nat → Nat, (∀ j (h1 : j < vs.length) (h2 : j < xs.length), w.heap.size + 1 ≤ A j ∧ B j ≤ X.heap.size ∧ OFld (A j) (B j) X vs[j] xs[j]) ∧ ∀ i j, i < j → j < k → B i ≤ A j)) (fun i _ => xs.length - (intOf i).toNat)
  case atStart => exact ⟨_, 0, [], rfl, Nat.zero_le _, rfl, hide (by simpa using HZ.out), HB, hide rfl, hide (by have := HZ.out.lt; exact this), hide ⟨fun _ => 0, fun _ => 0, fun j h1 _ => absurd h1 (by simp), fun i j _ h => absurd h (by omega)⟩⟩
  case round =>
    obtain ⟨X, k, vs, rfl, hk, rfl, HRow, HBel, HLn, HSz, HEl⟩ := hrel
    by_cases hlt : k < xs.length
    · obtain ⟨g, off, hp, hg, _, hc⟩ := H4.out (by omega)
      subst hp
      obtain ⟨u, hu, hru⟩ := hc k hlt
      have hck : X.cell? ⟨g, off + k, none⟩ = some u := by rw [HBel.out.cell (p := ⟨g, off + k, none⟩) hg]; exact hu
      have HRU := hide (hru.below HBel.out)
      obtain ⟨up, uc, rfl⟩ := hru.isSlice
      have hlt0 := HRow.out.lt
      clear hu hru hc
      go_wp2_with fail
      refine (toField_own _ (xs[k]'hlt) _ (HM.out k hlt) HRU.out).mono ?_
      rintro e w2 ⟨p2, c2, rfl, hr2, hb2⟩
      have row2 := HRow.out.below hb2 hlt0
      have hll : (vs ++ Z.drop k).length = xs.length := by rw [List.length_append, HLn.out, List.length_drop, HL.out]; omega
      obtain ⟨z, hz⟩ := row2.some k (by rw [hll]; exact hlt)
      have hf := row2.free k
      have hnext := row2.set (j := k) (.slice p2 (xs[k]'hlt).length c2)
      rw [set_snoc vs Z k xs.length _ HLn.out hlt HL.out] at hnext
      have HN := hide hnext
      have HMB := hide ((HBel.out.trans (hb2.mono HBel.out.size)).setCell (p := ⟨w.heap.size, k, none⟩) (Nat.le_refl _) (.slice p2 (xs[k]'hlt).length c2))
      have HLn2 : Hid ((vs ++ [Value.slice p2 (xs[k]'hlt).length c2]).length = k + 1) := by rw [List.length_append, HLn.out]; exact rfl
      have es : (w2.setCell ⟨w.heap.size, k, none⟩ (.slice p2 (xs[k]'hlt).length c2)).heap.size = w2.heap.size := by simp [World.setCell]
      have hXs := HSz.out
      have hXw := hb2.size
      have HSz2 : Hid (w.heap.size + 1 ≤ (w2.setCell ⟨w.heap.size, k, none⟩ (.slice p2 (xs[k]'hlt).length c2)).heap.size) := hide (by rw [es]; omega)
      have HEl2 : Hid (∃ A B : Nat → Nat, (∀ j (h1 : j < (vs ++ [Value.slice p2 (xs[k]'hlt).length c2]).length) (h2 : j < xs.length), w.heap.size + 1 ≤ A j ∧ B j ≤ (w2.setCell ⟨w.heap.size, k, none⟩ (.slice p2 (xs[k]'hlt).length c2)).heap.size ∧ OFld (A j) (B j) (w2.setCell ⟨w.heap.size, k, none⟩ (.slice p2 (xs[k]'hlt).length c2)) (vs ++ [Value.slice p2 (xs[k]'hlt).length c2])[j] xs[j]) ∧ ∀ i j, i < j → j < k + 1 → B i ≤ A j) := by
        obtain ⟨A, B, hE, hD⟩ := HEl.out
        refine ⟨fun i => if i = k then X.heap.size else A i, fun i => if i = k then w2.heap.size else B i, fun j h1 h2 => ?_, fun i j hij hj => ?_⟩
        · rw [HLn2.out] at h1
          rw [es]
          dsimp only
          by_cases hj : j = k
          · subst hj
            rw [if_pos rfl, if_pos rfl, List.getElem_append_right (by rw [HLn.out]; exact Nat.le_refl _)]
            simp only [HLn.out, Nat.sub_self, List.getElem_cons_zero]
            exact ⟨hXs, Nat.le_refl _, Keeps.go (SameIn.set _ _ (by omega)) hr2⟩
          · have hjk : j < vs.length := by rw [HLn.out]; omega
            obtain ⟨f1, f2, f3⟩ := hE j hjk h2
            rw [if_neg hj, if_neg hj, List.getElem_append_left hjk]
            exact ⟨f1, by omega, Keeps.go (SameIn.set _ _ (by omega)) (Keeps.go (SameIn.ofBelow hb2) f3)⟩
        · have hik : i < vs.length := by rw [HLn.out]; omega
          obtain ⟨f1, f2, f3⟩ := hE i hik (by omega)
          dsimp only
          by_cases hjk : j = k
          · rw [if_pos hjk, if_neg (by omega)]; omega
          · rw [if_neg hjk, if_neg (by omega)]; exact hD i j hij (by omega)
      clear hnext row2 hr2 hb2 hlt0 hll es hXs hXw
      go_wp2
      go_roundw
      case rel => exact ⟨_, k + 1, _, rfl, by omega, by go_num, HN, HMB, HLn2, HSz2, HEl2⟩
      case measure => simp [intOf]; omega
    · have HE : Hid (Row X w.heap.size 31 vs) := by
        have := HRow.out
        rw [List.drop_eq_nil_of_le (by rw [HL.out]; omega), List.append_nil] at this
        exact this
      have HLn3 : Hid (vs.length = xs.length) := by rw [HLn.out]; exact (show k = xs.length by omega)
      go_wp2
      go_ret
      obtain ⟨A, B, hE, hD⟩ := HEl.out
      exact ⟨_, _, rfl, ⟨_, _, rfl, Nat.le_refl _, by unfold maxLen; omega, fun _ => ⟨w.heap.size, vs, [], A, B, rfl, Nat.le_refl _, HSz.out, by rw [List.append_nil]; exact HE.out, HLn3.out, fun i h1 h2 => by
        obtain ⟨f1, f2, f3⟩ := hE i h1 h2
        exact ⟨by omega, f2, .inr (by omega), f3⟩, fun i j h1 h2 => hD i j h1 (by have := HLn3.out; have := HLn.out; omega)⟩⟩, HBel.out⟩

end Go.Proofs.YtmkcmajpepehmaaGreat
