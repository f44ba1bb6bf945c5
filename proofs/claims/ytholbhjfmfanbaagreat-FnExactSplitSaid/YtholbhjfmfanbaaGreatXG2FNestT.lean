/- The laws' own copy of a Field. -/
import Derived.Test.YtholbhjfmfanbaaGreatXG1Str
import Derived.Deep.RegionHeld3
namespace Go.Proofs.YtholbhjfmfanbaaGreat
open Go.RowKit
theorem toStringS2_any (v : Value) (xs : List ByteArray) (w : World) (hn : wComp xs ≤ 1048576) (hr : RComp 0 w v xs) :
    Calls Tryz.prog 161 #[v] w fun e w' => ∃ p c, e = .returned (.slice p xs.length c) ∧ RComp w.heap.size w' (.slice p xs.length c) xs ∧ Below w.heap.size w w' := by
  have hl : xs.length ≤ 1048576 := Nat.le_trans (wL_len _ xs) hn
  refine (toStringS_any v xs w hl hr.reads).mono ?_
  rintro e w' ⟨rfl, hrow, hb⟩
  exact ⟨_, _, rfl, rl_row hrow (by simp [strs]) (by unfold maxLen; omega) (Nat.le_refl _) (fun i hi => ⟨by simp [strs], hr.sizes _ (List.getElem_mem hi)⟩), hb⟩
theorem set_snoc (vs Z : List Value) (k n : Nat) (u : Value) (h : vs.length = k) (hk : k < n) (hZ : Z.length = n) : (vs ++ Z.drop k).set k u = (vs ++ [u]) ++ Z.drop (k + 1) := by
  rw [List.set_append_right _ _ (by omega), h, Nat.sub_self, List.drop_eq_getElem_cons (by omega : k < Z.length), List.set_cons_zero, List.append_assoc]
  rfl

set_option maxHeartbeats 2000000 in
theorem toComp_any (u : Value) (x : List ByteArray) (w : World) (hn : wComp x ≤ 1048576) (hr : RComp 0 w u x) :
    Calls Tryz.prog 159 #[.agg #[u]] w fun e w' => ∃ p c, e = .returned (.agg #[.slice p x.length c]) ∧ RComp w.heap.size w' (.slice p x.length c) x ∧ Below w.heap.size w w' := by
  obtain ⟨p, c, rfl⟩ := hr.isSlice
  obtain ⟨W, hW⟩ : ∃ W, W = (((w.alloc (.cells #[.slice p x.length c] 187)).alloc (.cells #[.slice none 0 0] 138)).alloc (.cells #[.slice none 0 0] 138)) := ⟨_, rfl⟩
  have hb0 : Below w.heap.size w W := by rw [hW]; exact (((Below.refl _ _).alloc (Nat.le_refl _) _).alloc (by simp) _).alloc (by simp; omega) _
  have HR := hide (hr.below hb0)
  have HB0 := hide hb0
  have R1 : Row W (w.heap.size + 1) 138 [.slice none 0 0] := by
    rw [hW]
    have := (row_new (w.alloc (.cells #[.slice p x.length c] 187)) [.slice none 0 0] 138).alloc (.cells #[.slice none 0 0] 138)
    simpa using this
  have R2 : Row W (w.heap.size + 2) 138 [.slice none 0 0] := by
    rw [hW]
    have := row_new ((w.alloc (.cells #[.slice p x.length c] 187)).alloc (.cells #[.slice none 0 0] 138)) [.slice none 0 0] 138
    simpa using this
  have hsz : W.heap.size = w.heap.size + 3 := by rw [hW]; simp
  clear hr hb0
  go_enter Tryz.func159, Tryz.ntmps159
  go_wp2_with fail
  rw [← hW]
  refine (toStringS2_any _ x _ hn HR.out).mono ?_
  rintro e w1 ⟨p1, c1, rfl, hr1, hb1⟩
  clear hW
  have r1 := R1.below hb1 (by omega)
  have r2 := R2.below hb1 (by omega)
  have f2 : w1.cell? ⟨w.heap.size + 2, 0, none⟩ = some (.slice none 0 0) := r2.cell 0
  have z2 := r2.free 0
  have s2 := r2.set (j := 0) (.slice p1 x.length c1)
  have s1 := r1.other (b := w.heap.size + 2) (j := 0) (by omega) (.slice p1 x.length c1)
  have g2 : (w1.setCell ⟨w.heap.size + 2, 0, none⟩ (.slice p1 x.length c1)).cell? ⟨w.heap.size + 2, 0, none⟩ = some (.slice p1 x.length c1) := s2.cell 0
  have g1 : (w1.setCell ⟨w.heap.size + 2, 0, none⟩ (.slice p1 x.length c1)).cell? ⟨w.heap.size + 1, 0, none⟩ = some (.slice none 0 0) := s1.cell 0
  have z1 := s1.free 0
  have q1 : ((w1.setCell ⟨w.heap.size + 2, 0, none⟩ (.slice p1 x.length c1)).setCell ⟨w.heap.size + 1, 0, none⟩ (.slice p1 x.length c1)).cell? ⟨w.heap.size + 1, 0, none⟩ = some (.slice p1 x.length c1) := (s1.set (j := 0) (.slice p1 x.length c1)).cell 0
  rw [hsz] at hr1
  have HRE := hide (RComp.mono (Lasts.go (B := w.heap.size + 3) (Same.set _ _ (by omega)) (Lasts.go (B := w.heap.size + 3) (Same.set w1 (g := w.heap.size + 2) (j := 0) (.slice p1 x.length c1) (by omega)) hr1)) (by omega : w.heap.size ≤ w.heap.size + 3) : RComp w.heap.size ((w1.setCell ⟨w.heap.size + 2, 0, none⟩ (.slice p1 x.length c1)).setCell ⟨w.heap.size + 1, 0, none⟩ (.slice p1 x.length c1)) (.slice p1 x.length c1) x)
  have HBE := hide (((HB0.out.trans (hb1.mono (by omega))).setCell (p := ⟨w.heap.size + 2, 0, none⟩) (by show w.heap.size ≤ w.heap.size + 2; omega) (.slice p1 x.length c1)).setCell (p := ⟨w.heap.size + 1, 0, none⟩) (by show w.heap.size ≤ w.heap.size + 1; omega) (.slice p1 x.length c1))
  clear hr1 hb1 r1 r2 s1 s2
  go_wp2
  exact bodyPost_ret (v := .agg #[.slice p1 x.length c1]) (by simp [results, Tryz.results159, go_sem, q1]) rfl ⟨_, _, rfl, HRE.out, HBE.out⟩

theorem Tryz.infoComp : (Tryz.prog.info? 138).map (fun i => (i.zero, i.size, i.bytes)) = some (some (.agg #[.slice none 0 0]), 1, 24) := by kernel_rfl
set_option maxHeartbeats 2000000 in
theorem toCompS_any (v : Value) (xs : List (List ByteArray)) (w : World) (hn : wRep xs ≤ 1048576) (hr : RL 0 (RComp 0) w v xs) :
    Calls Tryz.prog 157 #[v] w fun e w' => ∃ p c, e = .returned (.slice p xs.length c) ∧ RL w.heap.size (RComp w.heap.size) w' (.slice p xs.length c) xs ∧ Below w.heap.size w w' := by
  obtain ⟨i0, hi, hz0, hz1, hz2⟩ := info_parts Tryz.infoComp
  have hl : xs.length ≤ 1048576 := Nat.le_trans (wL_len _ xs) hn
  have HM : Hid (∀ i (h : i < xs.length), wComp xs[i] ≤ 1048576) := fun i h => by have := wL_mem wComp (List.getElem_mem h); have : wL wComp xs ≤ 1048576 := hn; omega
  clear hn
  obtain ⟨p, cap, rfl, h1, h2, h4⟩ := hr
  have H4 := hide h4
  clear h4
  have hzc : (Value.agg #[.slice none 0 0]).cells.size = 1 := by simp [Value.cells]
  go_enter Tryz.func157, Tryz.ntmps157
  go_wp2_with (at_make; refine wpList_make_full _ rfl _ _ 124 rfl w.heap.size 138 i0 (.agg #[.slice none 0 0]) 1 Tryz.underlying124 hi hz0 hz1 _ _ _ _ xs.length rfl rfl rfl rfl ?b2 ?b3 (Nat.le_refl _) ?_)
  case b2 => rw [hz2]; omega
  case b3 => unfold maxLen; omega
  intro w1 hown hgrow
  obtain ⟨Z, hZ, hZl⟩ := own_row hown
  rw [Nat.mul_one] at hZl
  have hb1 : Below w.heap.size w w1 := (Below.refl _ _).grown hgrow (Nat.le_refl _) (by simp)
  have HZ := hide hZ
  have HB := hide hb1
  have HL := hide hZl
  clear hZ hown hgrow hb1 hZl
  go_wp2_with fail
  go_loopw [4] (fun i wr => ∃ (X : World) (k : Nat) (vs : List Value), X = wr ∧ k ≤ xs.length ∧ i = .int .i64 k ∧ Hid (Row X w.heap.size 138 (vs ++ Z.drop k)) ∧ Hid (Below w.heap.size w X) ∧ Hid (vs.length = k) ∧ Hid (∀ j (h1 : j < vs.length) (h2 : j < xs.length), RComp (w.heap.size + 1) X vs[j] xs[j])) (fun i _ => xs.length - (intOf i).toNat)
  case atStart => exact ⟨_, 0, [], rfl, Nat.zero_le _, rfl, hide (by simpa using HZ.out), HB, hide rfl, hide (fun j h1 _ => absurd h1 (by simp))⟩
  case round =>
    obtain ⟨X, k, vs, rfl, hk, rfl, HRow, HBel, HLn, HEl⟩ := hrel
    by_cases hlt : k < xs.length
    · obtain ⟨g, off, hp, hg, _, hc⟩ := H4.out (by omega)
      subst hp
      obtain ⟨u, hu, hru⟩ := hc k hlt
      have hck : X.cell? ⟨g, off + k, none⟩ = some u := by rw [HBel.out.cell (p := ⟨g, off + k, none⟩) hg]; exact hu
      have HRU := hide (hru.below HBel.out)
      obtain ⟨up, uc, rfl⟩ := hru.isSlice
      have hlt0 := HRow.out.lt
      clear hu hru hc
      go_wp2_with fail
      refine (toComp_any _ (xs[k]'hlt) _ (HM.out k hlt) HRU.out).mono ?_
      rintro e w2 ⟨p2, c2, rfl, hr2, hb2⟩
      have row2 := HRow.out.below hb2 hlt0
      have hll : (vs ++ Z.drop k).length = xs.length := by rw [List.length_append, HLn.out, List.length_drop, HL.out]; omega
      obtain ⟨z, hz⟩ := row2.some k (by rw [hll]; exact hlt)
      have hf := row2.free k
      have hnext := row2.set (j := k) (.slice p2 (xs[k]'hlt).length c2)
      rw [set_snoc vs Z k xs.length _ HLn.out hlt HL.out] at hnext
      have HN := hide hnext
      have HMB := hide ((HBel.out.trans (hb2.mono HBel.out.size)).setCell (p := ⟨w.heap.size, k, none⟩) (Nat.le_refl _) (.slice p2 (xs[k]'hlt).length c2))
      have HLn2 : Hid ((vs ++ [Value.slice p2 (xs[k]'hlt).length c2]).length = k + 1) := by rw [List.length_append, HLn.out]; exact rfl
      have HEl2 : Hid (∀ j (h1 : j < (vs ++ [Value.slice p2 (xs[k]'hlt).length c2]).length) (h2 : j < xs.length), RComp (w.heap.size + 1) (w2.setCell ⟨w.heap.size, k, none⟩ (.slice p2 (xs[k]'hlt).length c2)) (vs ++ [Value.slice p2 (xs[k]'hlt).length c2])[j] xs[j]) := by
        intro j h1 h2
        refine Lasts.go (B := w.heap.size + 1) (Same.set _ _ (by omega)) ?_
        rw [HLn2.out] at h1
        by_cases hj : j < k
        · rw [List.getElem_append_left (by rw [HLn.out]; exact hj)]
          exact Lasts.go (B := w.heap.size + 1) (Same.of hb2) (HEl.out j (by rw [HLn.out]; exact hj) h2)
        · have e : j = k := by omega
          subst e
          rw [List.getElem_append_right (by rw [HLn.out]; exact Nat.le_refl _)]
          simp only [HLn.out, Nat.sub_self, List.getElem_cons_zero]
          exact RComp.mono hr2 (by omega)
      clear hnext row2 hr2 hb2 hlt0 hll
      go_wp2
      go_roundw
      case rel => exact ⟨_, k + 1, _, rfl, by omega, by go_num, HN, HMB, HLn2, HEl2⟩
      case measure => simp [intOf]; omega
    · have HE : Hid (Row X w.heap.size 138 vs) := by
        have := HRow.out
        rw [List.drop_eq_nil_of_le (by rw [HL.out]; omega), List.append_nil] at this
        exact this
      have HLn3 : Hid (vs.length = xs.length) := by rw [HLn.out]; exact (show k = xs.length by omega)
      go_wp2
      go_ret
      refine ⟨_, _, rfl, rl_row HE.out HLn3.out (by unfold maxLen; omega) (Nat.le_refl _) (fun i hi => RComp.mono (HEl.out i (by rw [HLn3.out]; exact hi) hi) (by omega)), HBel.out⟩

set_option maxHeartbeats 2000000 in
theorem toRep_any (u : Value) (x : List (List ByteArray)) (w : World) (hn : wRep x ≤ 1048576) (hr : RRep 0 w u x) :
    Calls Tryz.prog 154 #[.agg #[u]] w fun e w' => ∃ p c, e = .returned (.agg #[.slice p x.length c]) ∧ RRep w.heap.size w' (.slice p x.length c) x ∧ Below w.heap.size w w' := by
  obtain ⟨p, c, rfl⟩ := hr.isSlice
  obtain ⟨W, hW⟩ : ∃ W, W = (((w.alloc (.cells #[.slice p x.length c] 181)).alloc (.cells #[.slice none 0 0] 126)).alloc (.cells #[.slice none 0 0] 126)) := ⟨_, rfl⟩
  have hb0 : Below w.heap.size w W := by rw [hW]; exact (((Below.refl _ _).alloc (Nat.le_refl _) _).alloc (by simp) _).alloc (by simp; omega) _
  have HR := hide (hr.below hb0)
  have HB0 := hide hb0
  have R1 : Row W (w.heap.size + 1) 126 [.slice none 0 0] := by
    rw [hW]
    have := (row_new (w.alloc (.cells #[.slice p x.length c] 181)) [.slice none 0 0] 126).alloc (.cells #[.slice none 0 0] 126)
    simpa using this
  have R2 : Row W (w.heap.size + 2) 126 [.slice none 0 0] := by
    rw [hW]
    have := row_new ((w.alloc (.cells #[.slice p x.length c] 181)).alloc (.cells #[.slice none 0 0] 126)) [.slice none 0 0] 126
    simpa using this
  have hsz : W.heap.size = w.heap.size + 3 := by rw [hW]; simp
  clear hr hb0
  go_enter Tryz.func154, Tryz.ntmps154
  go_wp2_with fail
  rw [← hW]
  refine (toCompS_any _ x _ hn HR.out).mono ?_
  rintro e w1 ⟨p1, c1, rfl, hr1, hb1⟩
  clear hW
  have r1 := R1.below hb1 (by omega)
  have r2 := R2.below hb1 (by omega)
  have f2 : w1.cell? ⟨w.heap.size + 2, 0, none⟩ = some (.slice none 0 0) := r2.cell 0
  have z2 := r2.free 0
  have s2 := r2.set (j := 0) (.slice p1 x.length c1)
  have s1 := r1.other (b := w.heap.size + 2) (j := 0) (by omega) (.slice p1 x.length c1)
  have g2 : (w1.setCell ⟨w.heap.size + 2, 0, none⟩ (.slice p1 x.length c1)).cell? ⟨w.heap.size + 2, 0, none⟩ = some (.slice p1 x.length c1) := s2.cell 0
  have g1 : (w1.setCell ⟨w.heap.size + 2, 0, none⟩ (.slice p1 x.length c1)).cell? ⟨w.heap.size + 1, 0, none⟩ = some (.slice none 0 0) := s1.cell 0
  have z1 := s1.free 0
  have q1 : ((w1.setCell ⟨w.heap.size + 2, 0, none⟩ (.slice p1 x.length c1)).setCell ⟨w.heap.size + 1, 0, none⟩ (.slice p1 x.length c1)).cell? ⟨w.heap.size + 1, 0, none⟩ = some (.slice p1 x.length c1) := (s1.set (j := 0) (.slice p1 x.length c1)).cell 0
  rw [hsz] at hr1
  have HRE := hide (RRep.mono (Lasts.go (B := w.heap.size + 3) (Same.set _ _ (by omega)) (Lasts.go (B := w.heap.size + 3) (Same.set w1 (g := w.heap.size + 2) (j := 0) (.slice p1 x.length c1) (by omega)) hr1)) (by omega : w.heap.size ≤ w.heap.size + 3) : RRep w.heap.size ((w1.setCell ⟨w.heap.size + 2, 0, none⟩ (.slice p1 x.length c1)).setCell ⟨w.heap.size + 1, 0, none⟩ (.slice p1 x.length c1)) (.slice p1 x.length c1) x)
  have HBE := hide (((HB0.out.trans (hb1.mono (by omega))).setCell (p := ⟨w.heap.size + 2, 0, none⟩) (by show w.heap.size ≤ w.heap.size + 2; omega) (.slice p1 x.length c1)).setCell (p := ⟨w.heap.size + 1, 0, none⟩) (by show w.heap.size ≤ w.heap.size + 1; omega) (.slice p1 x.length c1))
  clear hr1 hb1 r1 r2 s1 s2
  go_wp2
  exact bodyPost_ret (v := .agg #[.slice p1 x.length c1]) (by simp [results, Tryz.results154, go_sem, q1]) rfl ⟨_, _, rfl, HRE.out, HBE.out⟩

theorem Tryz.infoRep : (Tryz.prog.info? 126).map (fun i => (i.zero, i.size, i.bytes)) = some (some (.agg #[.slice none 0 0]), 1, 24) := by kernel_rfl
set_option maxHeartbeats 2000000 in
theorem toRepS_any (v : Value) (xs : List (List (List ByteArray))) (w : World) (hn : wFld xs ≤ 1048576) (hr : RL 0 (RRep 0) w v xs) :
    Calls Tryz.prog 149 #[v] w fun e w' => ∃ p c, e = .returned (.slice p xs.length c) ∧ RL w.heap.size (RRep w.heap.size) w' (.slice p xs.length c) xs ∧ Below w.heap.size w w' := by
  obtain ⟨i0, hi, hz0, hz1, hz2⟩ := info_parts Tryz.infoRep
  have hl : xs.length ≤ 1048576 := Nat.le_trans (wL_len _ xs) hn
  have HM : Hid (∀ i (h : i < xs.length), wRep xs[i] ≤ 1048576) := fun i h => by have := wL_mem wRep (List.getElem_mem h); have : wL wRep xs ≤ 1048576 := hn; omega
  clear hn
  obtain ⟨p, cap, rfl, h1, h2, h4⟩ := hr
  have H4 := hide h4
  clear h4
  have hzc : (Value.agg #[.slice none 0 0]).cells.size = 1 := by simp [Value.cells]
  go_enter Tryz.func149, Tryz.ntmps149
  go_wp2_with (at_make; refine wpList_make_full _ rfl _ _ 106 rfl w.heap.size 126 i0 (.agg #[.slice none 0 0]) 1 Tryz.underlying106 hi hz0 hz1 _ _ _ _ xs.length rfl rfl rfl rfl ?b2 ?b3 (Nat.le_refl _) ?_)
  case b2 => rw [hz2]; omega
  case b3 => unfold maxLen; omega
  intro w1 hown hgrow
  obtain ⟨Z, hZ, hZl⟩ := own_row hown
  rw [Nat.mul_one] at hZl
  have hb1 : Below w.heap.size w w1 := (Below.refl _ _).grown hgrow (Nat.le_refl _) (by simp)
  have HZ := hide hZ
  have HB := hide hb1
  have HL := hide hZl
  clear hZ hown hgrow hb1 hZl
  go_wp2_with fail
  go_loopw [4] (fun i wr => ∃ (X : World) (k : Nat) (vs : List Value), X = wr ∧ k ≤ xs.length ∧ i = .int .i64 k ∧ Hid (Row X w.heap.size 126 (vs ++ Z.drop k)) ∧ Hid (Below w.heap.size w X) ∧ Hid (vs.length = k) ∧ Hid (∀ j (h1 : j < vs.length) (h2 : j < xs.length), RRep (w.heap.size + 1) X vs[j] xs[j])) (fun i _ => xs.length - (intOf i).toNat)
  case atStart => exact ⟨_, 0, [], rfl, Nat.zero_le _, rfl, hide (by simpa using HZ.out), HB, hide rfl, hide (fun j h1 _ => absurd h1 (by simp))⟩
  case round =>
    obtain ⟨X, k, vs, rfl, hk, rfl, HRow, HBel, HLn, HEl⟩ := hrel
    by_cases hlt : k < xs.length
    · obtain ⟨g, off, hp, hg, _, hc⟩ := H4.out (by omega)
      subst hp
      obtain ⟨u, hu, hru⟩ := hc k hlt
      have hck : X.cell? ⟨g, off + k, none⟩ = some u := by rw [HBel.out.cell (p := ⟨g, off + k, none⟩) hg]; exact hu
      have HRU := hide (hru.below HBel.out)
      obtain ⟨up, uc, rfl⟩ := hru.isSlice
      have hlt0 := HRow.out.lt
      clear hu hru hc
      go_wp2_with fail
      refine (toRep_any _ (xs[k]'hlt) _ (HM.out k hlt) HRU.out).mono ?_
      rintro e w2 ⟨p2, c2, rfl, hr2, hb2⟩
      have row2 := HRow.out.below hb2 hlt0
      have hll : (vs ++ Z.drop k).length = xs.length := by rw [List.length_append, HLn.out, List.length_drop, HL.out]; omega
      obtain ⟨z, hz⟩ := row2.some k (by rw [hll]; exact hlt)
      have hf := row2.free k
      have hnext := row2.set (j := k) (.slice p2 (xs[k]'hlt).length c2)
      rw [set_snoc vs Z k xs.length _ HLn.out hlt HL.out] at hnext
      have HN := hide hnext
      have HMB := hide ((HBel.out.trans (hb2.mono HBel.out.size)).setCell (p := ⟨w.heap.size, k, none⟩) (Nat.le_refl _) (.slice p2 (xs[k]'hlt).length c2))
      have HLn2 : Hid ((vs ++ [Value.slice p2 (xs[k]'hlt).length c2]).length = k + 1) := by rw [List.length_append, HLn.out]; exact rfl
      have HEl2 : Hid (∀ j (h1 : j < (vs ++ [Value.slice p2 (xs[k]'hlt).length c2]).length) (h2 : j < xs.length), RRep (w.heap.size + 1) (w2.setCell ⟨w.heap.size, k, none⟩ (.slice p2 (xs[k]'hlt).length c2)) (vs ++ [Value.slice p2 (xs[k]'hlt).length c2])[j] xs[j]) := by
        intro j h1 h2
        refine Lasts.go (B := w.heap.size + 1) (Same.set _ _ (by omega)) ?_
        rw [HLn2.out] at h1
        by_cases hj : j < k
        · rw [List.getElem_append_left (by rw [HLn.out]; exact hj)]
          exact Lasts.go (B := w.heap.size + 1) (Same.of hb2) (HEl.out j (by rw [HLn.out]; exact hj) h2)
        · have e : j = k := by omega
          subst e
          rw [List.getElem_append_right (by rw [HLn.out]; exact Nat.le_refl _)]
          simp only [HLn.out, Nat.sub_self, List.getElem_cons_zero]
          exact RRep.mono hr2 (by omega)
      clear hnext row2 hr2 hb2 hlt0 hll
      go_wp2
      go_roundw
      case rel => exact ⟨_, k + 1, _, rfl, by omega, by go_num, HN, HMB, HLn2, HEl2⟩
      case measure => simp [intOf]; omega
    · have HE : Hid (Row X w.heap.size 126 vs) := by
        have := HRow.out
        rw [List.drop_eq_nil_of_le (by rw [HL.out]; omega), List.append_nil] at this
        exact this
      have HLn3 : Hid (vs.length = xs.length) := by rw [HLn.out]; exact (show k = xs.length by omega)
      go_wp2
      go_ret
      refine ⟨_, _, rfl, rl_row HE.out HLn3.out (by unfold maxLen; omega) (Nat.le_refl _) (fun i hi => RRep.mono (HEl.out i (by rw [HLn3.out]; exact hi) hi) (by omega)), HBel.out⟩

set_option maxHeartbeats 2000000 in
theorem toField_any (u : Value) (x : List (List (List ByteArray))) (w : World) (hn : wFld x ≤ 1048576) (hr : RFld 0 w u x) :
    Calls Tryz.prog 144 #[.agg #[u]] w fun e w' => ∃ p c, e = .returned (.agg #[.slice p x.length c]) ∧ RFld w.heap.size w' (.slice p x.length c) x ∧ Below w.heap.size w w' := by
  obtain ⟨p, c, rfl⟩ := hr.isSlice
  obtain ⟨W, hW⟩ : ∃ W, W = (((w.alloc (.cells #[.slice p x.length c] 171)).alloc (.cells #[.slice none 0 0] 108)).alloc (.cells #[.slice none 0 0] 108)) := ⟨_, rfl⟩
  have hb0 : Below w.heap.size w W := by rw [hW]; exact (((Below.refl _ _).alloc (Nat.le_refl _) _).alloc (by simp) _).alloc (by simp; omega) _
  have HR := hide (hr.below hb0)
  have HB0 := hide hb0
  have R1 : Row W (w.heap.size + 1) 108 [.slice none 0 0] := by
    rw [hW]
    have := (row_new (w.alloc (.cells #[.slice p x.length c] 171)) [.slice none 0 0] 108).alloc (.cells #[.slice none 0 0] 108)
    simpa using this
  have R2 : Row W (w.heap.size + 2) 108 [.slice none 0 0] := by
    rw [hW]
    have := row_new ((w.alloc (.cells #[.slice p x.length c] 171)).alloc (.cells #[.slice none 0 0] 108)) [.slice none 0 0] 108
    simpa using this
  have hsz : W.heap.size = w.heap.size + 3 := by rw [hW]; simp
  clear hr hb0
  go_enter Tryz.func144, Tryz.ntmps144
  go_wp2_with fail
  rw [← hW]
  refine (toRepS_any _ x _ hn HR.out).mono ?_
  rintro e w1 ⟨p1, c1, rfl, hr1, hb1⟩
  clear hW
  have r1 := R1.below hb1 (by omega)
  have r2 := R2.below hb1 (by omega)
  have f2 : w1.cell? ⟨w.heap.size + 2, 0, none⟩ = some (.slice none 0 0) := r2.cell 0
  have z2 := r2.free 0
  have s2 := r2.set (j := 0) (.slice p1 x.length c1)
  have s1 := r1.other (b := w.heap.size + 2) (j := 0) (by omega) (.slice p1 x.length c1)
  have g2 : (w1.setCell ⟨w.heap.size + 2, 0, none⟩ (.slice p1 x.length c1)).cell? ⟨w.heap.size + 2, 0, none⟩ = some (.slice p1 x.length c1) := s2.cell 0
  have g1 : (w1.setCell ⟨w.heap.size + 2, 0, none⟩ (.slice p1 x.length c1)).cell? ⟨w.heap.size + 1, 0, none⟩ = some (.slice none 0 0) := s1.cell 0
  have z1 := s1.free 0
  have q1 : ((w1.setCell ⟨w.heap.size + 2, 0, none⟩ (.slice p1 x.length c1)).setCell ⟨w.heap.size + 1, 0, none⟩ (.slice p1 x.length c1)).cell? ⟨w.heap.size + 1, 0, none⟩ = some (.slice p1 x.length c1) := (s1.set (j := 0) (.slice p1 x.length c1)).cell 0
  rw [hsz] at hr1
  have HRE := hide (RFld.mono (Lasts.go (B := w.heap.size + 3) (Same.set _ _ (by omega)) (Lasts.go (B := w.heap.size + 3) (Same.set w1 (g := w.heap.size + 2) (j := 0) (.slice p1 x.length c1) (by omega)) hr1)) (by omega : w.heap.size ≤ w.heap.size + 3) : RFld w.heap.size ((w1.setCell ⟨w.heap.size + 2, 0, none⟩ (.slice p1 x.length c1)).setCell ⟨w.heap.size + 1, 0, none⟩ (.slice p1 x.length c1)) (.slice p1 x.length c1) x)
  have HBE := hide (((HB0.out.trans (hb1.mono (by omega))).setCell (p := ⟨w.heap.size + 2, 0, none⟩) (by show w.heap.size ≤ w.heap.size + 2; omega) (.slice p1 x.length c1)).setCell (p := ⟨w.heap.size + 1, 0, none⟩) (by show w.heap.size ≤ w.heap.size + 1; omega) (.slice p1 x.length c1))
  clear hr1 hb1 r1 r2 s1 s2
  go_wp2
  exact bodyPost_ret (v := .agg #[.slice p1 x.length c1]) (by simp [results, Tryz.results144, go_sem, q1]) rfl ⟨_, _, rfl, HRE.out, HBE.out⟩
end Go.Proofs.YtholbhjfmfanbaaGreat
/- The laws' own comparing of Fields. -/
namespace Go.Proofs.YtholbhjfmfanbaaGreat
open Go.RowKit
theorem eqStringS2_same (v v' : Value) (xs : List ByteArray) (B B' : Nat) (w : World) (hn : wComp xs ≤ 1048576) (hr : RComp B w v xs) (hr' : RComp B' w v' xs) :
    Calls Tryz.prog 155 #[v, v'] w fun e w' => e = .returned (.bool true) ∧ Below w.heap.size w w' :=
  eqStringS_same v v' xs w (Nat.le_trans (wL_len _ xs) hn) hr.reads hr'.reads

set_option maxHeartbeats 1000000 in
theorem eqComp_same (u u' : Value) (x : List ByteArray) (B B' : Nat) (w : World) (hn : wComp x ≤ 1048576) (hr : RComp B w u x) (hr' : RComp B' w u' x) :
    Calls Tryz.prog 152 #[.agg #[u], .agg #[u']] w fun e w' => e = .returned (.bool true) ∧ Below w.heap.size w w' := by
  have HR := hide hr
  have HR' := hide hr'
  obtain ⟨p, c, rfl⟩ := hr.isSlice
  obtain ⟨p', c', rfl⟩ := hr'.isSlice
  clear hr hr'
  have HB0 := hide (((Below.refl w.heap.size w).alloc (Nat.le_refl _) (.cells #[.slice p x.length c] 138)).alloc (by simp) (.cells #[.slice p' x.length c'] 138))
  go_enter Tryz.func152, Tryz.ntmps152
  go_wp2_with fail
  refine (eqStringS2_same _ _ x B B' _ hn (HR.out.below HB0.out) (HR'.out.below HB0.out)).mono ?_
  rintro e w1 ⟨rfl, hb1⟩
  have HB := hide (HB0.out.trans (hb1.mono (by simp; omega)))
  clear hb1
  go_wp2
  go_ret
  exact ⟨rfl, HB.out⟩

set_option maxHeartbeats 2000000 in
theorem eqCompS_same (v v' : Value) (xs : List (List ByteArray)) (B B' : Nat) (w : World) (hn : wRep xs ≤ 1048576) (hr : RL B (RComp B) w v xs) (hr' : RL B' (RComp B') w v' xs) :
    Calls Tryz.prog 147 #[v, v'] w fun e w' => e = .returned (.bool true) ∧ Below w.heap.size w w' := by
  have hl : xs.length ≤ 1048576 := Nat.le_trans (wL_len _ xs) hn
  have HM : Hid (∀ i (h : i < xs.length), wComp xs[i] ≤ 1048576) := fun i h => by have := wL_mem wComp (List.getElem_mem h); have : wL wComp xs ≤ 1048576 := hn; omega
  clear hn
  obtain ⟨p, cap, rfl, h1, h2, h4⟩ := hr
  obtain ⟨p', cap', rfl, h1', h2', h4'⟩ := hr'
  have H4 := hide h4
  have H4' := hide h4'
  clear h4 h4'
  unfold maxLen at h2 h2'
  by_cases hx : xs.length = 0
  · have hxs : xs = [] := List.eq_nil_of_length_eq_zero hx
    subst hxs
    go_enter Tryz.func147, Tryz.ntmps147
    go_wp2
    refine wp_loop_rounds 1 ?_
    rw [rounds_succ]
    go_wp2
    go_ret
    exact ⟨rfl, Below.refl _ _⟩
  obtain ⟨g, off, hp, hg, _, hc⟩ := H4.out (by omega)
  obtain ⟨g', off', hp', hg', _, hc'⟩ := H4'.out (by omega)
  subst hp hp'
  have HC := hide hc
  have HC' := hide hc'
  clear hc hc'
  go_enter Tryz.func147, Tryz.ntmps147
  go_wp2
  go_loopw [5] (fun i wr => ∃ (X : World) (k : Nat), X = wr ∧ k ≤ xs.length ∧ i = .int .i64 k ∧ Hid (Below w.heap.size w X)) (fun i _ => xs.length - (intOf i).toNat)
  case atStart => exact ⟨_, 0, rfl, Nat.zero_le _, rfl, Below.refl _ _⟩
  case round =>
    obtain ⟨X, k, rfl, hk, rfl, HBel⟩ := hrel
    by_cases hlt : k < xs.length
    · obtain ⟨u, hu, hru⟩ := HC.out k hlt
      obtain ⟨u', hu', hru'⟩ := HC'.out k hlt
      have HU := hide hru
      have HU' := hide hru'
      obtain ⟨up, uc, rfl⟩ := hru.isSlice
      obtain ⟨up', uc', rfl⟩ := hru'.isSlice
      have hki : (k : Int) < (xs.length : Int) := by omega
      have HS := hide (show ∀ x, Below X.heap.size X x → x.cell? ⟨g, off + k, none⟩ = some (.slice up (xs[k]'hlt).length uc) ∧ x.cell? ⟨g', off' + k, none⟩ = some (.slice up' (xs[k]'hlt).length uc') ∧ Below X.heap.size X x from
        fun x h => by
          have hb := HBel.out.trans (h.mono HBel.out.size)
          exact ⟨by rw [hb.cell (p := ⟨g, off + k, none⟩) hg]; exact hu, by rw [hb.cell (p := ⟨g', off' + k, none⟩) hg']; exact hu', h⟩)
      clear hu hu' hru hru'
      go_wp2_with fail
      go_region_held3 (fun x => x.cell? ⟨g, off + k, none⟩ = some (.slice up (xs[k]'hlt).length uc) ∧ x.cell? ⟨g', off' + k, none⟩ = some (.slice up' (xs[k]'hlt).length uc') ∧ Below X.heap.size X x)
        ((go_split_ands; refine HS.out _ ?_; repeat (first | with_reducible assumption | with_reducible exact Below.refl _ _ | with_reducible refine Below.drew ?_)))
        ((go_at_call 152; go_split_ands; refine (eqComp_same _ _ (xs[k]'hlt) B B' _ (HM.out k hlt) (Lasts.go (B := B) (Same.of (HBel.out.trans (Below.mono (by assumption) HBel.out.size))) HU.out) (Lasts.go (B := B') (Same.of (HBel.out.trans (Below.mono (by assumption) HBel.out.size))) HU'.out)).mono ?_; rintro e w3 ⟨rfl, hb3⟩; have hB3 : Below X.heap.size X w3 := Below.trans (by assumption) (hb3.mono (Below.size (by assumption))); clear hb3))
      all_goals
        have HB3 := hide (HBel.out.trans (hB3.mono HBel.out.size))
        clear hB3
        go_wp2
        go_roundw
        case rel => exact ⟨_, k + 1, rfl, by omega, by go_num, HB3⟩
        case measure => simp [intOf]; omega
    · go_wp2
      go_ret
      exact ⟨rfl, HBel.out⟩

set_option maxHeartbeats 1000000 in
theorem eqRep_same (u u' : Value) (x : List (List ByteArray)) (B B' : Nat) (w : World) (hn : wRep x ≤ 1048576) (hr : RRep B w u x) (hr' : RRep B' w u' x) :
    Calls Tryz.prog 141 #[.agg #[u], .agg #[u']] w fun e w' => e = .returned (.bool true) ∧ Below w.heap.size w w' := by
  have HR := hide hr
  have HR' := hide hr'
  obtain ⟨p, c, rfl⟩ := hr.isSlice
  obtain ⟨p', c', rfl⟩ := hr'.isSlice
  clear hr hr'
  have HB0 := hide (((Below.refl w.heap.size w).alloc (Nat.le_refl _) (.cells #[.slice p x.length c] 126)).alloc (by simp) (.cells #[.slice p' x.length c'] 126))
  go_enter Tryz.func141, Tryz.ntmps141
  go_wp2_with fail
  refine (eqCompS_same _ _ x B B' _ hn (HR.out.below HB0.out) (HR'.out.below HB0.out)).mono ?_
  rintro e w1 ⟨rfl, hb1⟩
  have HB := hide (HB0.out.trans (hb1.mono (by simp; omega)))
  clear hb1
  go_wp2
  go_ret
  exact ⟨rfl, HB.out⟩

set_option maxHeartbeats 2000000 in
theorem eqRepS_same (v v' : Value) (xs : List (List (List ByteArray))) (B B' : Nat) (w : World) (hn : wFld xs ≤ 1048576) (hr : RL B (RRep B) w v xs) (hr' : RL B' (RRep B') w v' xs) :
    Calls Tryz.prog 130 #[v, v'] w fun e w' => e = .returned (.bool true) ∧ Below w.heap.size w w' := by
  have hl : xs.length ≤ 1048576 := Nat.le_trans (wL_len _ xs) hn
  have HM : Hid (∀ i (h : i < xs.length), wRep xs[i] ≤ 1048576) := fun i h => by have := wL_mem wRep (List.getElem_mem h); have : wL wRep xs ≤ 1048576 := hn; omega
  clear hn
  obtain ⟨p, cap, rfl, h1, h2, h4⟩ := hr
  obtain ⟨p', cap', rfl, h1', h2', h4'⟩ := hr'
  have H4 := hide h4
  have H4' := hide h4'
  clear h4 h4'
  unfold maxLen at h2 h2'
  by_cases hx : xs.length = 0
  · have hxs : xs = [] := List.eq_nil_of_length_eq_zero hx
    subst hxs
    go_enter Tryz.func130, Tryz.ntmps130
    go_wp2
    refine wp_loop_rounds 1 ?_
    rw [rounds_succ]
    go_wp2
    go_ret
    exact ⟨rfl, Below.refl _ _⟩
  obtain ⟨g, off, hp, hg, _, hc⟩ := H4.out (by omega)
  obtain ⟨g', off', hp', hg', _, hc'⟩ := H4'.out (by omega)
  subst hp hp'
  have HC := hide hc
  have HC' := hide hc'
  clear hc hc'
  go_enter Tryz.func130, Tryz.ntmps130
  go_wp2
  go_loopw [5] (fun i wr => ∃ (X : World) (k : Nat), X = wr ∧ k ≤ xs.length ∧ i = .int .i64 k ∧ Hid (Below w.heap.size w X)) (fun i _ => xs.length - (intOf i).toNat)
  case atStart => exact ⟨_, 0, rfl, Nat.zero_le _, rfl, Below.refl _ _⟩
  case round =>
    obtain ⟨X, k, rfl, hk, rfl, HBel⟩ := hrel
    by_cases hlt : k < xs.length
    · obtain ⟨u, hu, hru⟩ := HC.out k hlt
      obtain ⟨u', hu', hru'⟩ := HC'.out k hlt
      have HU := hide hru
      have HU' := hide hru'
      obtain ⟨up, uc, rfl⟩ := hru.isSlice
      obtain ⟨up', uc', rfl⟩ := hru'.isSlice
      have hki : (k : Int) < (xs.length : Int) := by omega
      have HS := hide (show ∀ x, Below X.heap.size X x → x.cell? ⟨g, off + k, none⟩ = some (.slice up (xs[k]'hlt).length uc) ∧ x.cell? ⟨g', off' + k, none⟩ = some (.slice up' (xs[k]'hlt).length uc') ∧ Below X.heap.size X x from
        fun x h => by
          have hb := HBel.out.trans (h.mono HBel.out.size)
          exact ⟨by rw [hb.cell (p := ⟨g, off + k, none⟩) hg]; exact hu, by rw [hb.cell (p := ⟨g', off' + k, none⟩) hg']; exact hu', h⟩)
      clear hu hu' hru hru'
      go_wp2_with fail
      go_region_held3 (fun x => x.cell? ⟨g, off + k, none⟩ = some (.slice up (xs[k]'hlt).length uc) ∧ x.cell? ⟨g', off' + k, none⟩ = some (.slice up' (xs[k]'hlt).length uc') ∧ Below X.heap.size X x)
        ((go_split_ands; refine HS.out _ ?_; repeat (first | with_reducible assumption | with_reducible exact Below.refl _ _ | with_reducible refine Below.drew ?_)))
        ((go_at_call 141; go_split_ands; refine (eqRep_same _ _ (xs[k]'hlt) B B' _ (HM.out k hlt) (Lasts.go (B := B) (Same.of (HBel.out.trans (Below.mono (by assumption) HBel.out.size))) HU.out) (Lasts.go (B := B') (Same.of (HBel.out.trans (Below.mono (by assumption) HBel.out.size))) HU'.out)).mono ?_; rintro e w3 ⟨rfl, hb3⟩; have hB3 : Below X.heap.size X w3 := Below.trans (by assumption) (hb3.mono (Below.size (by assumption))); clear hb3))
      all_goals
        have HB3 := hide (HBel.out.trans (hB3.mono HBel.out.size))
        clear hB3
        go_wp2
        go_roundw
        case rel => exact ⟨_, k + 1, rfl, by omega, by go_num, HB3⟩
        case measure => simp [intOf]; omega
    · go_wp2
      go_ret
      exact ⟨rfl, HBel.out⟩

set_option maxHeartbeats 1000000 in
theorem eqField_same (u u' : Value) (x : List (List (List ByteArray))) (B B' : Nat) (w : World) (hn : wFld x ≤ 1048576) (hr : RFld B w u x) (hr' : RFld B' w u' x) :
    Calls Tryz.prog 119 #[.agg #[u], .agg #[u']] w fun e w' => e = .returned (.bool true) ∧ Below w.heap.size w w' := by
  have HR := hide hr
  have HR' := hide hr'
  obtain ⟨p, c, rfl⟩ := hr.isSlice
  obtain ⟨p', c', rfl⟩ := hr'.isSlice
  clear hr hr'
  have HB0 := hide (((Below.refl w.heap.size w).alloc (Nat.le_refl _) (.cells #[.slice p x.length c] 108)).alloc (by simp) (.cells #[.slice p' x.length c'] 108))
  go_enter Tryz.func119, Tryz.ntmps119
  go_wp2_with fail
  refine (eqRepS_same _ _ x B B' _ hn (HR.out.below HB0.out) (HR'.out.below HB0.out)).mono ?_
  rintro e w1 ⟨rfl, hb1⟩
  have HB := hide (HB0.out.trans (hb1.mono (by simp; omega)))
  clear hb1
  go_wp2
  go_ret
  exact ⟨rfl, HB.out⟩
end Go.Proofs.YtholbhjfmfanbaaGreat
