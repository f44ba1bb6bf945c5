/- The laws' own copies of a Field and of a Message, each list in a row of its own. -/
import Derived.Test.YtholbhjfmfanbaaGreatXG14OTree
import Derived.Test.YtholbhjfmfanbaaGreatXG2FNestT
import Derived.Test.YtholbhjfmfanbaaGreatXG4FMsgS
import Derived.Test.YtholbhjfmfanbaaGreatXG13BFileM
namespace Go.Proofs.YtholbhjfmfanbaaGreat
open Go.RowKit
theorem SameIn.set {lo hi g j : Nat} (w : World) (v : Value) (h : g < lo) : SameIn lo hi w (w.setCell ⟨g, j, none⟩ v) := fun k hk _ _ => Below.heap_setCell w ⟨g, j, none⟩ v k (by show k ≠ g; omega)
theorem toS_own (v : Value) (xs : List ByteArray) (w : World) (hn : wComp xs ≤ 1048576) (hr : RComp 0 w v xs) :
    Calls Tryz.prog 161 #[v] w fun e w' => ∃ p c, e = .returned (.slice p xs.length c) ∧ OComp w.heap.size w'.heap.size w' (.slice p xs.length c) xs ∧ Below w.heap.size w w' := by
  have hl : xs.length ≤ 1048576 := Nat.le_trans (wL_len _ xs) hn
  refine (toStringS_any v xs w hl hr.reads).mono ?_
  rintro e w' ⟨rfl, hrow, hb⟩
  exact ⟨_, _, rfl, ⟨_, _, rfl, Nat.le_refl _, by unfold maxLen; omega, hr.sizes, fun _ => ⟨w.heap.size, [], rfl, Nat.le_refl _, hrow.lt, by simp, by rw [List.append_nil]; exact hrow⟩⟩, hb⟩
set_option maxHeartbeats 2000000 in
theorem toComp_own (u : Value) (x : List ByteArray) (w : World) (hn : wComp x ≤ 1048576) (hr : RComp 0 w u x) :
    Calls Tryz.prog 159 #[.agg #[u]] w fun e w' => ∃ p c, e = .returned (.agg #[.slice p x.length c]) ∧ OComp w.heap.size w'.heap.size w' (.slice p x.length c) x ∧ Below w.heap.size w w' := by
  obtain ⟨p, c, rfl⟩ := hr.isSlice
  obtain ⟨W, hW⟩ : ∃ W, W = (((w.alloc (.cells #[.slice p x.length c] 187)).alloc (.cells #[.slice none 0 0] 138)).alloc (.cells #[.slice none 0 0] 138)) := ⟨_, rfl⟩
  have hb0 : Below w.heap.size w W := by rw [hW]; exact (((Below.refl _ _).alloc (Nat.le_refl _) _).alloc (by simp) _).alloc (by simp; omega) _
  have HR := hide (hr.below hb0)
  have HB0 := hide hb0
  have R1 : Row W (w.heap.size + 1) 138 [.slice none 0 0] := by
    rw [hW]
    have := (row_new (w.alloc (.cells #[.slice p x.length c] 187)) [.slice none 0 0] 138).alloc (.cells #[.slice none 0 0] 138)
    simpa using this
  have R2 : Row W (w.heap.size + 2) 138 [.slice none 0 0] := by
    rw [hW]
    have := row_new ((w.alloc (.cells #[.slice p x.length c] 187)).alloc (.cells #[.slice none 0 0] 138)) [.slice none 0 0] 138
    simpa using this
  have hsz : W.heap.size = w.heap.size + 3 := by rw [hW]; simp
  clear hr hb0
  go_enter Tryz.func159, Tryz.ntmps159
  go_wp2_with fail
  rw [← hW]
  refine (toS_own _ x _ hn HR.out).mono ?_
  rintro e w1 ⟨p1, c1, rfl, hr1, hb1⟩
  clear hW
  have r1 := R1.below hb1 (by omega)
  have r2 := R2.below hb1 (by omega)
  have f2 : w1.cell? ⟨w.heap.size + 2, 0, none⟩ = some (.slice none 0 0) := r2.cell 0
  have z2 := r2.free 0
  have s2 := r2.set (j := 0) (.slice p1 x.length c1)
  have s1 := r1.other (b := w.heap.size + 2) (j := 0) (by omega) (.slice p1 x.length c1)
  have g2 : (w1.setCell ⟨w.heap.size + 2, 0, none⟩ (.slice p1 x.length c1)).cell? ⟨w.heap.size + 2, 0, none⟩ = some (.slice p1 x.length c1) := s2.cell 0
  have g1 : (w1.setCell ⟨w.heap.size + 2, 0, none⟩ (.slice p1 x.length c1)).cell? ⟨w.heap.size + 1, 0, none⟩ = some (.slice none 0 0) := s1.cell 0
  have z1 := s1.free 0
  have q1 : ((w1.setCell ⟨w.heap.size + 2, 0, none⟩ (.slice p1 x.length c1)).setCell ⟨w.heap.size + 1, 0, none⟩ (.slice p1 x.length c1)).cell? ⟨w.heap.size + 1, 0, none⟩ = some (.slice p1 x.length c1) := (s1.set (j := 0) (.slice p1 x.length c1)).cell 0
  rw [hsz] at hr1
  have hw1 : w.heap.size + 3 ≤ w1.heap.size := by rw [← hsz]; exact hb1.size
  have es : ((w1.setCell ⟨w.heap.size + 2, 0, none⟩ (.slice p1 x.length c1)).setCell ⟨w.heap.size + 1, 0, none⟩ (.slice p1 x.length c1)).heap.size = w1.heap.size := by simp [World.setCell]
  have HRE : Hid (OComp w.heap.size ((w1.setCell ⟨w.heap.size + 2, 0, none⟩ (.slice p1 x.length c1)).setCell ⟨w.heap.size + 1, 0, none⟩ (.slice p1 x.length c1)).heap.size ((w1.setCell ⟨w.heap.size + 2, 0, none⟩ (.slice p1 x.length c1)).setCell ⟨w.heap.size + 1, 0, none⟩ (.slice p1 x.length c1)) (.slice p1 x.length c1) x) := hide (by
    rw [es]
    exact Keeps.wide (by omega : w.heap.size ≤ w.heap.size + 3) (Nat.le_refl _) (Keeps.go (SameIn.set _ _ (by omega)) (Keeps.go (SameIn.set w1 (g := w.heap.size + 2) (j := 0) (.slice p1 x.length c1) (by omega)) hr1)))
  have HBE := hide (((HB0.out.trans (hb1.mono (by omega))).setCell (p := ⟨w.heap.size + 2, 0, none⟩) (by show w.heap.size ≤ w.heap.size + 2; omega) (.slice p1 x.length c1)).setCell (p := ⟨w.heap.size + 1, 0, none⟩) (by show w.heap.size ≤ w.heap.size + 1; omega) (.slice p1 x.length c1))
  clear hr1 hb1 r1 r2 s1 s2 es hw1
  go_wp2
  exact bodyPost_ret (v := .agg #[.slice p1 x.length c1]) (by simp [results, Tryz.results159, go_sem, q1]) rfl ⟨_, _, rfl, HRE.out, HBE.out⟩

set_option maxHeartbeats 2000000 in
theorem toCompS_own (v : Value) (xs : List (List ByteArray)) (w : World) (hn : wRep xs ≤ 1048576) (hr : RL 0 (RComp 0) w v xs) :
    Calls Tryz.prog 157 #[v] w fun e w' => ∃ p c, e = .returned (.slice p xs.length c) ∧ OL 138 OComp w.heap.size w'.heap.size w' (.slice p xs.length c) xs ∧ Below w.heap.size w w' := by
  obtain ⟨i0, hi, hz0, hz1, hz2⟩ := info_parts Tryz.infoComp
  have hl : xs.length ≤ 1048576 := Nat.le_trans (wL_len _ xs) hn
  have HM : Hid (∀ i (h : i < xs.length), wComp xs[i] ≤ 1048576) := fun i h => by have := wL_mem wComp (List.getElem_mem h); have : wL wComp xs ≤ 1048576 := hn; omega
  clear hn
  obtain ⟨p, cap, rfl, h1, h2, h4⟩ := hr
  have H4 := hide h4
  clear h4
  have hzc : (Value.agg #[.slice none 0 0]).cells.size = 1 := by simp [Value.cells]
  go_enter Tryz.func157, Tryz.ntmps157
  go_wp2_with (at_make; refine wpList_make_full _ rfl _ _ 124 rfl w.heap.size 138 i0 (.agg #[.slice none 0 0]) 1 Tryz.underlying124 hi hz0 hz1 _ _ _ _ xs.length rfl rfl rfl rfl ?b2 ?b3 (Nat.le_refl _) ?_)
  case b2 => rw [hz2]; omega
  case b3 => unfold maxLen; omega
  intro w1 hown hgrow
  obtain ⟨Z, hZ, hZl⟩ := own_row hown
  rw [Nat.mul_one] at hZl
  have hb1 : Below w.heap.size w w1 := (Below.refl _ _).grown hgrow (Nat.le_refl _) (by simp)
  have HZ := hide hZ
  have HB := hide hb1
  have HL := hide hZl
  clear hZ hown hgrow hb1 hZl
  go_wp2_with fail
  go_loopw [4] (fun i wr => ∃ (X : World) (k : Nat) (vs : List Value), X = wr ∧ k ≤ xs.length ∧ i = .int .i64 k ∧ Hid (Row X w.heap.size 138 (vs ++ Z.drop k)) ∧ Hid (Below w.heap.size w X) ∧ Hid (vs.length = k) ∧ Hid (w.heap.size + 1 ≤ X.heap.size) ∧ Hid (∃ A B : Nat → Nat, (∀ j (h1 : j < vs.length) (h2 : j < xs.length), w.heap.size + 1 ≤ A j ∧ B j ≤ X.heap.size ∧ OComp (A j) (B j) X vs[j] xs[j]) ∧ ∀ i j, i < j → j < k → B i ≤ A j)) (fun i _ => xs.length - (intOf i).toNat)
  case atStart => exact ⟨_, 0, [], rfl, Nat.zero_le _, rfl, hide (by simpa using HZ.out), HB, hide rfl, hide (by have := HZ.out.lt; exact this), hide ⟨fun _ => 0, fun _ => 0, fun j h1 _ => absurd h1 (by simp), fun i j _ h => absurd h (by omega)⟩⟩
  case round =>
    obtain ⟨X, k, vs, rfl, hk, rfl, HRow, HBel, HLn, HSz, HEl⟩ := hrel
    by_cases hlt : k < xs.length
    · obtain ⟨g, off, hp, hg, _, hc⟩ := H4.out (by omega)
      subst hp
      obtain ⟨u, hu, hru⟩ := hc k hlt
      have hck : X.cell? ⟨g, off + k, none⟩ = some u := by rw [HBel.out.cell (p := ⟨g, off + k, none⟩) hg]; exact hu
      have HRU := hide (hru.below HBel.out)
      obtain ⟨up, uc, rfl⟩ := hru.isSlice
      have hlt0 := HRow.out.lt
      clear hu hru hc
      go_wp2_with fail
      refine (toComp_own _ (xs[k]'hlt) _ (HM.out k hlt) HRU.out).mono ?_
      rintro e w2 ⟨p2, c2, rfl, hr2, hb2⟩
      have row2 := HRow.out.below hb2 hlt0
      have hll : (vs ++ Z.drop k).length = xs.length := by rw [List.length_append, HLn.out, List.length_drop, HL.out]; omega
      obtain ⟨z, hz⟩ := row2.some k (by rw [hll]; exact hlt)
      have hf := row2.free k
      have hnext := row2.set (j := k) (.slice p2 (xs[k]'hlt).length c2)
      rw [set_snoc vs Z k xs.length _ HLn.out hlt HL.out] at hnext
      have HN := hide hnext
      have HMB := hide ((HBel.out.trans (hb2.mono HBel.out.size)).setCell (p := ⟨w.heap.size, k, none⟩) (Nat.le_refl _) (.slice p2 (xs[k]'hlt).length c2))
      have HLn2 : Hid ((vs ++ [Value.slice p2 (xs[k]'hlt).length c2]).length = k + 1) := by rw [List.length_append, HLn.out]; exact rfl
      have es : (w2.setCell ⟨w.heap.size, k, none⟩ (.slice p2 (xs[k]'hlt).length c2)).heap.size = w2.heap.size := by simp [World.setCell]
      have hXs := HSz.out
      have hXw := hb2.size
      have HSz2 : Hid (w.heap.size + 1 ≤ (w2.setCell ⟨w.heap.size, k, none⟩ (.slice p2 (xs[k]'hlt).length c2)).heap.size) := hide (by rw [es]; omega)
      have HEl2 : Hid (∃ A B : Nat → Nat, (∀ j (h1 : j < (vs ++ [Value.slice p2 (xs[k]'hlt).length c2]).length) (h2 : j < xs.length), w.heap.size + 1 ≤ A j ∧ B j ≤ (w2.setCell ⟨w.heap.size, k, none⟩ (.slice p2 (xs[k]'hlt).length c2)).heap.size ∧ OComp (A j) (B j) (w2.setCell ⟨w.heap.size, k, none⟩ (.slice p2 (xs[k]'hlt).length c2)) (vs ++ [Value.slice p2 (xs[k]'hlt).length c2])[j] xs[j]) ∧ ∀ i j, i < j → j < k + 1 → B i ≤ A j) := by
        obtain ⟨A, B, hE, hD⟩ := HEl.out
        refine ⟨fun i => if i = k then X.heap.size else A i, fun i => if i = k then w2.heap.size else B i, fun j h1 h2 => ?_, fun i j hij hj => ?_⟩
        · rw [HLn2.out] at h1
          rw [es]
          dsimp only
          by_cases hj : j = k
          · subst hj
            rw [if_pos rfl, if_pos rfl, List.getElem_append_right (by rw [HLn.out]; exact Nat.le_refl _)]
            simp only [HLn.out, Nat.sub_self, List.getElem_cons_zero]
            exact ⟨hXs, Nat.le_refl _, Keeps.go (SameIn.set _ _ (by omega)) hr2⟩
          · have hjk : j < vs.length := by rw [HLn.out]; omega
            obtain ⟨f1, f2, f3⟩ := hE j hjk h2
            rw [if_neg hj, if_neg hj, List.getElem_append_left hjk]
            exact ⟨f1, by omega, Keeps.go (SameIn.set _ _ (by omega)) (Keeps.go (SameIn.ofBelow hb2) f3)⟩
        · have hik : i < vs.length := by rw [HLn.out]; omega
          obtain ⟨f1, f2, f3⟩ := hE i hik (by omega)
          dsimp only
          by_cases hjk : j = k
          · rw [if_pos hjk, if_neg (by omega)]; omega
          · rw [if_neg hjk, if_neg (by omega)]; exact hD i j hij (by omega)
      clear hnext row2 hr2 hb2 hlt0 hll es hXs hXw
      go_wp2
      go_roundw
      case rel => exact ⟨_, k + 1, _, rfl, by omega, by go_num, HN, HMB, HLn2, HSz2, HEl2⟩
      case measure => simp [intOf]; omega
    · have HE : Hid (Row X w.heap.size 138 vs) := by
        have := HRow.out
        rw [List.drop_eq_nil_of_le (by rw [HL.out]; omega), List.append_nil] at this
        exact this
      have HLn3 : Hid (vs.length = xs.length) := by rw [HLn.out]; exact (show k = xs.length by omega)
      go_wp2
      go_ret
      obtain ⟨A, B, hE, hD⟩ := HEl.out
      exact ⟨_, _, rfl, ⟨_, _, rfl, Nat.le_refl _, by unfold maxLen; omega, fun _ => ⟨w.heap.size, vs, [], A, B, rfl, Nat.le_refl _, HSz.out, by rw [List.append_nil]; exact HE.out, HLn3.out, fun i h1 h2 => by
        obtain ⟨f1, f2, f3⟩ := hE i h1 h2
        exact ⟨by omega, f2, .inr (by omega), f3⟩, fun i j h1 h2 => hD i j h1 (by have := HLn3.out; have := HLn.out; omega)⟩⟩, HBel.out⟩

set_option maxHeartbeats 2000000 in
theorem toRep_own (u : Value) (x : List (List ByteArray)) (w : World) (hn : wRep x ≤ 1048576) (hr : RRep 0 w u x) :
    Calls Tryz.prog 154 #[.agg #[u]] w fun e w' => ∃ p c, e = .returned (.agg #[.slice p x.length c]) ∧ ORep w.heap.size w'.heap.size w' (.slice p x.length c) x ∧ Below w.heap.size w w' := by
  obtain ⟨p, c, rfl⟩ := hr.isSlice
  obtain ⟨W, hW⟩ : ∃ W, W = (((w.alloc (.cells #[.slice p x.length c] 181)).alloc (.cells #[.slice none 0 0] 126)).alloc (.cells #[.slice none 0 0] 126)) := ⟨_, rfl⟩
  have hb0 : Below w.heap.size w W := by rw [hW]; exact (((Below.refl _ _).alloc (Nat.le_refl _) _).alloc (by simp) _).alloc (by simp; omega) _
  have HR := hide (hr.below hb0)
  have HB0 := hide hb0
  have R1 : Row W (w.heap.size + 1) 126 [.slice none 0 0] := by
    rw [hW]
    have := (row_new (w.alloc (.cells #[.slice p x.length c] 181)) [.slice none 0 0] 126).alloc (.cells #[.slice none 0 0] 126)
    simpa using this
  have R2 : Row W (w.heap.size + 2) 126 [.slice none 0 0] := by
    rw [hW]
    have := row_new ((w.alloc (.cells #[.slice p x.length c] 181)).alloc (.cells #[.slice none 0 0] 126)) [.slice none 0 0] 126
    simpa using this
  have hsz : W.heap.size = w.heap.size + 3 := by rw [hW]; simp
  clear hr hb0
  go_enter Tryz.func154, Tryz.ntmps154
  go_wp2_with fail
  rw [← hW]
  refine (toCompS_own _ x _ hn HR.out).mono ?_
  rintro e w1 ⟨p1, c1, rfl, hr1, hb1⟩
  clear hW
  have r1 := R1.below hb1 (by omega)
  have r2 := R2.below hb1 (by omega)
  have f2 : w1.cell? ⟨w.heap.size + 2, 0, none⟩ = some (.slice none 0 0) := r2.cell 0
  have z2 := r2.free 0
  have s2 := r2.set (j := 0) (.slice p1 x.length c1)
  have s1 := r1.other (b := w.heap.size + 2) (j := 0) (by omega) (.slice p1 x.length c1)
  have g2 : (w1.setCell ⟨w.heap.size + 2, 0, none⟩ (.slice p1 x.length c1)).cell? ⟨w.heap.size + 2, 0, none⟩ = some (.slice p1 x.length c1) := s2.cell 0
  have g1 : (w1.setCell ⟨w.heap.size + 2, 0, none⟩ (.slice p1 x.length c1)).cell? ⟨w.heap.size + 1, 0, none⟩ = some (.slice none 0 0) := s1.cell 0
  have z1 := s1.free 0
  have q1 : ((w1.setCell ⟨w.heap.size + 2, 0, none⟩ (.slice p1 x.length c1)).setCell ⟨w.heap.size + 1, 0, none⟩ (.slice p1 x.length c1)).cell? ⟨w.heap.size + 1, 0, none⟩ = some (.slice p1 x.length c1) := (s1.set (j := 0) (.slice p1 x.length c1)).cell 0
  rw [hsz] at hr1
  have hw1 : w.heap.size + 3 ≤ w1.heap.size := by rw [← hsz]; exact hb1.size
  have es : ((w1.setCell ⟨w.heap.size + 2, 0, none⟩ (.slice p1 x.length c1)).setCell ⟨w.heap.size + 1, 0, none⟩ (.slice p1 x.length c1)).heap.size = w1.heap.size := by simp [World.setCell]
  have HRE : Hid (ORep w.heap.size ((w1.setCell ⟨w.heap.size + 2, 0, none⟩ (.slice p1 x.length c1)).setCell ⟨w.heap.size + 1, 0, none⟩ (.slice p1 x.length c1)).heap.size ((w1.setCell ⟨w.heap.size + 2, 0, none⟩ (.slice p1 x.length c1)).setCell ⟨w.heap.size + 1, 0, none⟩ (.slice p1 x.length c1)) (.slice p1 x.length c1) x) := hide (by
    rw [es]
    exact Keeps.wide (by omega : w.heap.size ≤ w.heap.size + 3) (Nat.le_refl _) (Keeps.go (SameIn.set _ _ (by omega)) (Keeps.go (SameIn.set w1 (g := w.heap.size + 2) (j := 0) (.slice p1 x.length c1) (by omega)) hr1)))
  have HBE := hide (((HB0.out.trans (hb1.mono (by omega))).setCell (p := ⟨w.heap.size + 2, 0, none⟩) (by show w.heap.size ≤ w.heap.size + 2; omega) (.slice p1 x.length c1)).setCell (p := ⟨w.heap.size + 1, 0, none⟩) (by show w.heap.size ≤ w.heap.size + 1; omega) (.slice p1 x.length c1))
  clear hr1 hb1 r1 r2 s1 s2 es hw1
  go_wp2
  exact bodyPost_ret (v := .agg #[.slice p1 x.length c1]) (by simp [results, Tryz.results154, go_sem, q1]) rfl ⟨_, _, rfl, HRE.out, HBE.out⟩

set_option maxHeartbeats 2000000 in
theorem toRepS_own (v : Value) (xs : List (List (List ByteArray))) (w : World) (hn : wFld xs ≤ 1048576) (hr : RL 0 (RRep 0) w v xs) :
    Calls Tryz.prog 149 #[v] w fun e w' => ∃ p c, e = .returned (.slice p xs.length c) ∧ OL 126 ORep w.heap.size w'.heap.size w' (.slice p xs.length c) xs ∧ Below w.heap.size w w' := by
  obtain ⟨i0, hi, hz0, hz1, hz2⟩ := info_parts Tryz.infoRep
  have hl : xs.length ≤ 1048576 := Nat.le_trans (wL_len _ xs) hn
  have HM : Hid (∀ i (h : i < xs.length), wRep xs[i] ≤ 1048576) := fun i h => by have := wL_mem wRep (List.getElem_mem h); have : wL wRep xs ≤ 1048576 := hn; omega
  clear hn
  obtain ⟨p, cap, rfl, h1, h2, h4⟩ := hr
  have H4 := hide h4
  clear h4
  have hzc : (Value.agg #[.slice none 0 0]).cells.size = 1 := by simp [Value.cells]
  go_enter Tryz.func149, Tryz.ntmps149
  go_wp2_with (at_make; refine wpList_make_full _ rfl _ _ 106 rfl w.heap.size 126 i0 (.agg #[.slice none 0 0]) 1 Tryz.underlying106 hi hz0 hz1 _ _ _ _ xs.length rfl rfl rfl rfl ?b2 ?b3 (Nat.le_refl _) ?_)
  case b2 => rw [hz2]; omega
  case b3 => unfold maxLen; omega
  intro w1 hown hgrow
  obtain ⟨Z, hZ, hZl⟩ := own_row hown
  rw [Nat.mul_one] at hZl
  have hb1 : Below w.heap.size w w1 := (Below.refl _ _).grown hgrow (Nat.le_refl _) (by simp)
  have HZ := hide hZ
  have HB := hide hb1
  have HL := hide hZl
  clear hZ hown hgrow hb1 hZl
  go_wp2_with fail
  go_loopw [4] (fun i wr => ∃ (X : World) (k : Nat) (vs : List Value), X = wr ∧ k ≤ xs.length ∧ i = .int .i64 k ∧ Hid (Row X w.heap.size 126 (vs ++ Z.drop k)) ∧ Hid (Below w.heap.size w X) ∧ Hid (vs.length = k) ∧ Hid (w.heap.size + 1 ≤ X.heap.size) ∧ Hid (∃ A B : Nat → Nat, (∀ j (h1 : j < vs.length) (h2 : j < xs.length), w.heap.size + 1 ≤ A j ∧ B j ≤ X.heap.size ∧ ORep (A j) (B j) X vs[j] xs[j]) ∧ ∀ i j, i < j → j < k → B i ≤ A j)) (fun i _ => xs.length - (intOf i).toNat)
  case atStart => exact ⟨_, 0, [], rfl, Nat.zero_le _, rfl, hide (by simpa using HZ.out), HB, hide rfl, hide (by have := HZ.out.lt; exact this), hide ⟨fun _ => 0, fun _ => 0, fun j h1 _ => absurd h1 (by simp), fun i j _ h => absurd h (by omega)⟩⟩
  case round =>
    obtain ⟨X, k, vs, rfl, hk, rfl, HRow, HBel, HLn, HSz, HEl⟩ := hrel
    by_cases hlt : k < xs.length
    · obtain ⟨g, off, hp, hg, _, hc⟩ := H4.out (by omega)
      subst hp
      obtain ⟨u, hu, hru⟩ := hc k hlt
      have hck : X.cell? ⟨g, off + k, none⟩ = some u := by rw [HBel.out.cell (p := ⟨g, off + k, none⟩) hg]; exact hu
      have HRU := hide (hru.below HBel.out)
      obtain ⟨up, uc, rfl⟩ := hru.isSlice
      have hlt0 := HRow.out.lt
      clear hu hru hc
      go_wp2_with fail
      refine (toRep_own _ (xs[k]'hlt) _ (HM.out k hlt) HRU.out).mono ?_
      rintro e w2 ⟨p2, c2, rfl, hr2, hb2⟩
      have row2 := HRow.out.below hb2 hlt0
      have hll : (vs ++ Z.drop k).length = xs.length := by rw [List.length_append, HLn.out, List.length_drop, HL.out]; omega
      obtain ⟨z, hz⟩ := row2.some k (by rw [hll]; exact hlt)
      have hf := row2.free k
      have hnext := row2.set (j := k) (.slice p2 (xs[k]'hlt).length c2)
      rw [set_snoc vs Z k xs.length _ HLn.out hlt HL.out] at hnext
      have HN := hide hnext
      have HMB := hide ((HBel.out.trans (hb2.mono HBel.out.size)).setCell (p := ⟨w.heap.size, k, none⟩) (Nat.le_refl _) (.slice p2 (xs[k]'hlt).length c2))
      have HLn2 : Hid ((vs ++ [Value.slice p2 (xs[k]'hlt).length c2]).length = k + 1) := by rw [List.length_append, HLn.out]; exact rfl
      have es : (w2.setCell ⟨w.heap.size, k, none⟩ (.slice p2 (xs[k]'hlt).length c2)).heap.size = w2.heap.size := by simp [World.setCell]
      have hXs := HSz.out
      have hXw := hb2.size
      have HSz2 : Hid (w.heap.size + 1 ≤ (w2.setCell ⟨w.heap.size, k, none⟩ (.slice p2 (xs[k]'hlt).length c2)).heap.size) := hide (by rw [es]; omega)
      have HEl2 : Hid (∃ A B : Nat → Nat, (∀ j (h1 : j < (vs ++ [Value.slice p2 (xs[k]'hlt).length c2]).length) (h2 : j < xs.length), w.heap.size + 1 ≤ A j ∧ B j ≤ (w2.setCell ⟨w.heap.size, k, none⟩ (.slice p2 (xs[k]'hlt).length c2)).heap.size ∧ ORep (A j) (B j) (w2.setCell ⟨w.heap.size, k, none⟩ (.slice p2 (xs[k]'hlt).length c2)) (vs ++ [Value.slice p2 (xs[k]'hlt).length c2])[j] xs[j]) ∧ ∀ i j, i < j → j < k + 1 → B i ≤ A j) := by
        obtain ⟨A, B, hE, hD⟩ := HEl.out
        refine ⟨fun i => if i = k then X.heap.size else A i, fun i => if i = k then w2.heap.size else B i, fun j h1 h2 => ?_, fun i j hij hj => ?_⟩
        · rw [HLn2.out] at h1
          rw [es]
          dsimp only
          by_cases hj : j = k
          · subst hj
            rw [if_pos rfl, if_pos rfl, List.getElem_append_right (by rw [HLn.out]; exact Nat.le_refl _)]
            simp only [HLn.out, Nat.sub_self, List.getElem_cons_zero]
            exact ⟨hXs, Nat.le_refl _, Keeps.go (SameIn.set _ _ (by omega)) hr2⟩
          · have hjk : j < vs.length := by rw [HLn.out]; omega
            obtain ⟨f1, f2, f3⟩ := hE j hjk h2
            rw [if_neg hj, if_neg hj, List.getElem_append_left hjk]
            exact ⟨f1, by omega, Keeps.go (SameIn.set _ _ (by omega)) (Keeps.go (SameIn.ofBelow hb2) f3)⟩
        · have hik : i < vs.length := by rw [HLn.out]; omega
          obtain ⟨f1, f2, f3⟩ := hE i hik (by omega)
          dsimp only
          by_cases hjk : j = k
          · rw [if_pos hjk, if_neg (by omega)]; omega
          · rw [if_neg hjk, if_neg (by omega)]; exact hD i j hij (by omega)
      clear hnext row2 hr2 hb2 hlt0 hll es hXs hXw
      go_wp2
      go_roundw
      case rel => exact ⟨_, k + 1, _, rfl, by omega, by go_num, HN, HMB, HLn2, HSz2, HEl2⟩
      case measure => simp [intOf]; omega
    · have HE : Hid (Row X w.heap.size 126 vs) := by
        have := HRow.out
        rw [List.drop_eq_nil_of_le (by rw [HL.out]; omega), List.append_nil] at this
        exact this
      have HLn3 : Hid (vs.length = xs.length) := by rw [HLn.out]; exact (show k = xs.length by omega)
      go_wp2
      go_ret
      obtain ⟨A, B, hE, hD⟩ := HEl.out
      exact ⟨_, _, rfl, ⟨_, _, rfl, Nat.le_refl _, by unfold maxLen; omega, fun _ => ⟨w.heap.size, vs, [], A, B, rfl, Nat.le_refl _, HSz.out, by rw [List.append_nil]; exact HE.out, HLn3.out, fun i h1 h2 => by
        obtain ⟨f1, f2, f3⟩ := hE i h1 h2
        exact ⟨by omega, f2, .inr (by omega), f3⟩, fun i j h1 h2 => hD i j h1 (by have := HLn3.out; have := HLn.out; omega)⟩⟩, HBel.out⟩

set_option maxHeartbeats 2000000 in
theorem toField_own (u : Value) (x : List (List (List ByteArray))) (w : World) (hn : wFld x ≤ 1048576) (hr : RFld 0 w u x) :
    Calls Tryz.prog 144 #[.agg #[u]] w fun e w' => ∃ p c, e = .returned (.agg #[.slice p x.length c]) ∧ OFld w.heap.size w'.heap.size w' (.slice p x.length c) x ∧ Below w.heap.size w w' := by
  obtain ⟨p, c, rfl⟩ := hr.isSlice
  obtain ⟨W, hW⟩ : ∃ W, W = (((w.alloc (.cells #[.slice p x.length c] 171)).alloc (.cells #[.slice none 0 0] 108)).alloc (.cells #[.slice none 0 0] 108)) := ⟨_, rfl⟩
  have hb0 : Below w.heap.size w W := by rw [hW]; exact (((Below.refl _ _).alloc (Nat.le_refl _) _).alloc (by simp) _).alloc (by simp; omega) _
  have HR := hide (hr.below hb0)
  have HB0 := hide hb0
  have R1 : Row W (w.heap.size + 1) 108 [.slice none 0 0] := by
    rw [hW]
    have := (row_new (w.alloc (.cells #[.slice p x.length c] 171)) [.slice none 0 0] 108).alloc (.cells #[.slice none 0 0] 108)
    simpa using this
  have R2 : Row W (w.heap.size + 2) 108 [.slice none 0 0] := by
    rw [hW]
    have := row_new ((w.alloc (.cells #[.slice p x.length c] 171)).alloc (.cells #[.slice none 0 0] 108)) [.slice none 0 0] 108
    simpa using this
  have hsz : W.heap.size = w.heap.size + 3 := by rw [hW]; simp
  clear hr hb0
  go_enter Tryz.func144, Tryz.ntmps144
  go_wp2_with fail
  rw [← hW]
  refine (toRepS_own _ x _ hn HR.out).mono ?_
  rintro e w1 ⟨p1, c1, rfl, hr1, hb1⟩
  clear hW
  have r1 := R1.below hb1 (by omega)
  have r2 := R2.below hb1 (by omega)
  have f2 : w1.cell? ⟨w.heap.size + 2, 0, none⟩ = some (.slice none 0 0) := r2.cell 0
  have z2 := r2.free 0
  have s2 := r2.set (j := 0) (.slice p1 x.length c1)
  have s1 := r1.other (b := w.heap.size + 2) (j := 0) (by omega) (.slice p1 x.length c1)
  have g2 : (w1.setCell ⟨w.heap.size + 2, 0, none⟩ (.slice p1 x.length c1)).cell? ⟨w.heap.size + 2, 0, none⟩ = some (.slice p1 x.length c1) := s2.cell 0
  have g1 : (w1.setCell ⟨w.heap.size + 2, 0, none⟩ (.slice p1 x.length c1)).cell? ⟨w.heap.size + 1, 0, none⟩ = some (.slice none 0 0) := s1.cell 0
  have z1 := s1.free 0
  have q1 : ((w1.setCell ⟨w.heap.size + 2, 0, none⟩ (.slice p1 x.length c1)).setCell ⟨w.heap.size + 1, 0, none⟩ (.slice p1 x.length c1)).cell? ⟨w.heap.size + 1, 0, none⟩ = some (.slice p1 x.length c1) := (s1.set (j := 0) (.slice p1 x.length c1)).cell 0
  rw [hsz] at hr1
  have hw1 : w.heap.size + 3 ≤ w1.heap.size := by rw [← hsz]; exact hb1.size
  have es : ((w1.setCell ⟨w.heap.size + 2, 0, none⟩ (.slice p1 x.length c1)).setCell ⟨w.heap.size + 1, 0, none⟩ (.slice p1 x.length c1)).heap.size = w1.heap.size := by simp [World.setCell]
  have HRE : Hid (OFld w.heap.size ((w1.setCell ⟨w.heap.size + 2, 0, none⟩ (.slice p1 x.length c1)).setCell ⟨w.heap.size + 1, 0, none⟩ (.slice p1 x.length c1)).heap.size ((w1.setCell ⟨w.heap.size + 2, 0, none⟩ (.slice p1 x.length c1)).setCell ⟨w.heap.size + 1, 0, none⟩ (.slice p1 x.length c1)) (.slice p1 x.length c1) x) := hide (by
    rw [es]
    exact Keeps.wide (by omega : w.heap.size ≤ w.heap.size + 3) (Nat.le_refl _) (Keeps.go (SameIn.set _ _ (by omega)) (Keeps.go (SameIn.set w1 (g := w.heap.size + 2) (j := 0) (.slice p1 x.length c1) (by omega)) hr1)))
  have HBE := hide (((HB0.out.trans (hb1.mono (by omega))).setCell (p := ⟨w.heap.size + 2, 0, none⟩) (by show w.heap.size ≤ w.heap.size + 2; omega) (.slice p1 x.length c1)).setCell (p := ⟨w.heap.size + 1, 0, none⟩) (by show w.heap.size ≤ w.heap.size + 1; omega) (.slice p1 x.length c1))
  clear hr1 hb1 r1 r2 s1 s2 es hw1
  go_wp2
  exact bodyPost_ret (v := .agg #[.slice p1 x.length c1]) (by simp [results, Tryz.results144, go_sem, q1]) rfl ⟨_, _, rfl, HRE.out, HBE.out⟩
set_option maxHeartbeats 2000000 in
theorem toFieldS_own (v : Value) (xs : List (List (List (List ByteArray)))) (w : World) (hn : wFlds xs ≤ 1048576) (hr : RL 0 (RFld 0) w v xs) :
    Calls Tryz.prog 133 #[v] w fun e w' => ∃ p c, e = .returned (.slice p xs.length c) ∧ OL 108 OFld w.heap.size w'.heap.size w' (.slice p xs.length c) xs ∧ Below w.heap.size w w' := by
  obtain ⟨i0, hi, hz0, hz1, hz2⟩ := info_parts Tryz.infoField
  have hl : xs.length ≤ 1048576 := Nat.le_trans (wL_len _ xs) hn
  have HM : Hid (∀ i (h : i < xs.length), wFld xs[i] ≤ 1048576) := fun i h => by have := wL_mem wFld (List.getElem_mem h); have : wL wFld xs ≤ 1048576 := hn; omega
  clear hn
  obtain ⟨p, cap, rfl, h1, h2, h4⟩ := hr
  have H4 := hide h4
  clear h4
  have hzc : (Value.agg #[.slice none 0 0]).cells.size = 1 := by simp [Value.cells]
  go_enter Tryz.func133, Tryz.ntmps133
  go_wp2_with (at_make; refine wpList_make_full _ rfl _ _ 83 rfl w.heap.size 108 i0 (.agg #[.slice none 0 0]) 1 Tryz.underlying83 hi hz0 hz1 _ _ _ _ xs.length rfl rfl rfl rfl ?b2 ?b3 (Nat.le_refl _) ?_)
  case b2 => rw [hz2]; omega
  case b3 => unfold maxLen; omega
  intro w1 hown hgrow
  obtain ⟨Z, hZ, hZl⟩ := own_row hown
  rw [Nat.mul_one] at hZl
  have hb1 : Below w.heap.size w w1 := (Below.refl _ _).grown hgrow (Nat.le_refl _) (by simp)
  have HZ := hide hZ
  have HB := hide hb1
  have HL := hide hZl
  clear hZ hown hgrow hb1 hZl
  go_wp2_with fail
  go_loopw [4] (fun i wr => ∃ (X : World) (k : Nat) (vs : List Value), X = wr ∧ k ≤ xs.length ∧ i = .int .i64 k ∧ Hid (Row X w.heap.size 108 (vs ++ Z.drop k)) ∧ Hid (Below w.heap.size w X) ∧ Hid (vs.length = k) ∧ Hid (w.heap.size + 1 ≤ X.heap.size) ∧ Hid (∃ A B : Nat → Nat, (∀ j (h1 : j < vs.length) (h2 : j < xs.length), w.heap.size + 1 ≤ A j ∧ B j ≤ X.heap.size ∧ OFld (A j) (B j) X vs[j] xs[j]) ∧ ∀ i j, i < j → j < k → B i ≤ A j)) (fun i _ => xs.length - (intOf i).toNat)
  case atStart => exact ⟨_, 0, [], rfl, Nat.zero_le _, rfl, hide (by simpa using HZ.out), HB, hide rfl, hide (by have := HZ.out.lt; exact this), hide ⟨fun _ => 0, fun _ => 0, fun j h1 _ => absurd h1 (by simp), fun i j _ h => absurd h (by omega)⟩⟩
  case round =>
    obtain ⟨X, k, vs, rfl, hk, rfl, HRow, HBel, HLn, HSz, HEl⟩ := hrel
    by_cases hlt : k < xs.length
    · obtain ⟨g, off, hp, hg, _, hc⟩ := H4.out (by omega)
      subst hp
      obtain ⟨u, hu, hru⟩ := hc k hlt
      have hck : X.cell? ⟨g, off + k, none⟩ = some u := by rw [HBel.out.cell (p := ⟨g, off + k, none⟩) hg]; exact hu
      have HRU := hide (hru.below HBel.out)
      obtain ⟨up, uc, rfl⟩ := hru.isSlice
      have hlt0 := HRow.out.lt
      clear hu hru hc
      go_wp2_with fail
      refine (toField_own _ (xs[k]'hlt) _ (HM.out k hlt) HRU.out).mono ?_
      rintro e w2 ⟨p2, c2, rfl, hr2, hb2⟩
      have row2 := HRow.out.below hb2 hlt0
      have hll : (vs ++ Z.drop k).length = xs.length := by rw [List.length_append, HLn.out, List.length_drop, HL.out]; omega
      obtain ⟨z, hz⟩ := row2.some k (by rw [hll]; exact hlt)
      have hf := row2.free k
      have hnext := row2.set (j := k) (.slice p2 (xs[k]'hlt).length c2)
      rw [set_snoc vs Z k xs.length _ HLn.out hlt HL.out] at hnext
      have HN := hide hnext
      have HMB := hide ((HBel.out.trans (hb2.mono HBel.out.size)).setCell (p := ⟨w.heap.size, k, none⟩) (Nat.le_refl _) (.slice p2 (xs[k]'hlt).length c2))
      have HLn2 : Hid ((vs ++ [Value.slice p2 (xs[k]'hlt).length c2]).length = k + 1) := by rw [List.length_append, HLn.out]; exact rfl
      have es : (w2.setCell ⟨w.heap.size, k, none⟩ (.slice p2 (xs[k]'hlt).length c2)).heap.size = w2.heap.size := by simp [World.setCell]
      have hXs := HSz.out
      have hXw := hb2.size
      have HSz2 : Hid (w.heap.size + 1 ≤ (w2.setCell ⟨w.heap.size, k, none⟩ (.slice p2 (xs[k]'hlt).length c2)).heap.size) := hide (by rw [es]; omega)
      have HEl2 : Hid (∃ A B : Nat → Nat, (∀ j (h1 : j < (vs ++ [Value.slice p2 (xs[k]'hlt).length c2]).length) (h2 : j < xs.length), w.heap.size + 1 ≤ A j ∧ B j ≤ (w2.setCell ⟨w.heap.size, k, none⟩ (.slice p2 (xs[k]'hlt).length c2)).heap.size ∧ OFld (A j) (B j) (w2.setCell ⟨w.heap.size, k, none⟩ (.slice p2 (xs[k]'hlt).length c2)) (vs ++ [Value.slice p2 (xs[k]'hlt).length c2])[j] xs[j]) ∧ ∀ i j, i < j → j < k + 1 → B i ≤ A j) := by
        obtain ⟨A, B, hE, hD⟩ := HEl.out
        refine ⟨fun i => if i = k then X.heap.size else A i, fun i => if i = k then w2.heap.size else B i, fun j h1 h2 => ?_, fun i j hij hj => ?_⟩
        · rw [HLn2.out] at h1
          rw [es]
          dsimp only
          by_cases hj : j = k
          · subst hj
            rw [if_pos rfl, if_pos rfl, List.getElem_append_right (by rw [HLn.out]; exact Nat.le_refl _)]
            simp only [HLn.out, Nat.sub_self, List.getElem_cons_zero]
            exact ⟨hXs, Nat.le_refl _, Keeps.go (SameIn.set _ _ (by omega)) hr2⟩
          · have hjk : j < vs.length := by rw [HLn.out]; omega
            obtain ⟨f1, f2, f3⟩ := hE j hjk h2
            rw [if_neg hj, if_neg hj, List.getElem_append_left hjk]
            exact ⟨f1, by omega, Keeps.go (SameIn.set _ _ (by omega)) (Keeps.go (SameIn.ofBelow hb2) f3)⟩
        · have hik : i < vs.length := by rw [HLn.out]; omega
          obtain ⟨f1, f2, f3⟩ := hE i hik (by omega)
          dsimp only
          by_cases hjk : j = k
          · rw [if_pos hjk, if_neg (by omega)]; omega
          · rw [if_neg hjk, if_neg (by omega)]; exact hD i j hij (by omega)
      clear hnext row2 hr2 hb2 hlt0 hll es hXs hXw
      go_wp2
      go_roundw
      case rel => exact ⟨_, k + 1, _, rfl, by omega, by go_num, HN, HMB, HLn2, HSz2, HEl2⟩
      case measure => simp [intOf]; omega
    · have HE : Hid (Row X w.heap.size 108 vs) := by
        have := HRow.out
        rw [List.drop_eq_nil_of_le (by rw [HL.out]; omega), List.append_nil] at this
        exact this
      have HLn3 : Hid (vs.length = xs.length) := by rw [HLn.out]; exact (show k = xs.length by omega)
      go_wp2
      go_ret
      obtain ⟨A, B, hE, hD⟩ := HEl.out
      exact ⟨_, _, rfl, ⟨_, _, rfl, Nat.le_refl _, by unfold maxLen; omega, fun _ => ⟨w.heap.size, vs, [], A, B, rfl, Nat.le_refl _, HSz.out, by rw [List.append_nil]; exact HE.out, HLn3.out, fun i h1 h2 => by
        obtain ⟨f1, f2, f3⟩ := hE i h1 h2
        exact ⟨by omega, f2, .inr (by omega), f3⟩, fun i j h1 h2 => hD i j h1 (by have := HLn3.out; have := HLn.out; omega)⟩⟩, HBel.out⟩

end Go.Proofs.YtholbhjfmfanbaaGreat
/- The laws' own helpers over lists of a number and a text each (what is pending): how much they take, a copy, are two alike. -/
namespace Go.Proofs.YtholbhjfmfanbaaGreat
open Go.RowKit

def szP : List (Int × ByteArray) → Int → Int
  | [], left => left
  | x :: r, left => if left - x.2.size < 0 then -1 else szP r (left - x.2.size)
def szPends (ps : List (Int × ByteArray)) (left : Int) : Int := if left - ps.length < 0 then -1 else szP ps (left - ps.length)
theorem szP_step (ps : List (Int × ByteArray)) (k : Nat) (h : k < ps.length) (L : Int) : szP (ps.drop k) L = if L - (ps[k]'h).2.size < 0 then -1 else szP (ps.drop (k + 1)) (L - (ps[k]'h).2.size) := by
  rw [List.drop_eq_getElem_cons h, szP]
theorem szP_le (ps : List (Int × ByteArray)) : ∀ left : Int, 0 ≤ szP ps left → szP ps left ≤ left ∧ ∀ x ∈ ps, (x.2.size : Int) ≤ left := by
  induction ps with
  | nil => intro left _; exact ⟨Int.le_refl _, by simp⟩
  | cons x r ih =>
    intro left h
    rw [szP] at h ⊢
    split at h
    · omega
    · rename_i hx
      rw [if_neg hx]
      obtain ⟨h1, h2⟩ := ih _ h
      refine ⟨by omega, ?_⟩
      intro y hy
      simp at hy
      rcases hy with rfl | hy
      · omega
      · have := h2 y hy; omega
theorem szPends_le (ps : List (Int × ByteArray)) (left : Int) (h : 0 ≤ szPends ps left) : szPends ps left ≤ left ∧ (ps.length : Int) ≤ left ∧ ∀ x ∈ ps, (x.2.size : Int) ≤ left := by
  unfold szPends at h ⊢
  split at h
  · omega
  · rename_i hx
    rw [if_neg hx]
    obtain ⟨h1, h2⟩ := szP_le ps _ h
    exact ⟨by omega, by omega, fun x hx => by have := h2 x hx; omega⟩

def marksP (k n : Nat) : List (Int × ByteArray) := (List.range n).map fun i : Nat => ((k : Int) + (i : Int) * 2, markOf (k + i * 2 + 1))
theorem marksP_len (k n : Nat) : (marksP k n).length = n := by simp [marksP]
theorem marksP_succ (k n : Nat) : marksP k (n + 1) = marksP k n ++ [((k : Int) + (n : Int) * 2, markOf (k + n * 2 + 1))] := by simp [marksP, List.range_succ]
theorem marksP_get (k n i : Nat) (h : i < (marksP k n).length) : (marksP k n)[i] = ((k : Int) + (i : Int) * 2, markOf (k + i * 2 + 1)) := by simp [marksP]
theorem markP_next (k : Nat) (cs : List Value) (j : Nat) (h : j * 2 + 1 < cs.length) :
    ((pcs (marksP k j) ++ cs.drop (j * 2)).set (j * 2) (.int .i64 ((k : Int) + (j : Int) * 2))).set (j * 2 + 1) (.string (markOf (k + j * 2 + 1))) = pcs (marksP k (j + 1)) ++ cs.drop ((j + 1) * 2) := by
  have hl : (pcs (marksP k j)).length = j * 2 := by rw [pcs_len, marksP_len]
  rw [List.set_append_right _ _ (by omega), hl, Nat.sub_self, List.drop_eq_getElem_cons (by omega : j * 2 < cs.length), List.set_cons_zero,
    List.set_append_right _ _ (by omega), hl, show j * 2 + 1 - j * 2 = 1 by omega, List.drop_eq_getElem_cons h, List.set_cons_succ, List.set_cons_zero,
    marksP_succ, pcs_append, List.append_assoc, show (j + 1) * 2 = j * 2 + 1 + 1 by omega]
  rfl
theorem markP_len (k : Nat) (cs : List Value) (j : Nat) (h : j * 2 ≤ cs.length) : (pcs (marksP k j) ++ cs.drop (j * 2)).length = cs.length := by
  rw [List.length_append, pcs_len, marksP_len, List.length_drop]; omega

end Go.Proofs.YtholbhjfmfanbaaGreat
