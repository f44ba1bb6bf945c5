/- Split of the model. -/
import Derived.Test.YtholbhjfmfanbaaGreatXG29BAdd
import Derived.Test.YtholbhjfmfanbaaGreatXG18SRight
import Derived.Deep.DeepCutAuto
import Derived.Deep.RegionHeld3
namespace Go.Proofs.YtholbhjfmfanbaaGreat
open Go.RowKit
theorem l01MinB_any (a b : Int) (w : World) :
    Calls Tryz.prog 48 #[.int .i64 a, .int .i64 b] w fun e w' => e = .returned (.int .i64 (min a b)) ∧ w' = w := by
  by_cases h : a < b
  · go_enter Tryz.func48, Tryz.ntmps48
    go_wp2
    go_ret
    exact ⟨ret_int (by omega), rfl⟩
  · go_enter Tryz.func48, Tryz.ntmps48
    go_wp2
    go_ret
    exact ⟨ret_int (by omega), rfl⟩
/-- Messages that lie in blocks from lo to hi, as some world of before had them. -/
def OR (lo hi : Nat) (w : World) (v : Value) (xs : List Msg) : Prop := ∃ W : World, W.heap.size ≤ hi ∧ RMsgs lo W v xs ∧ SameIn lo W.heap.size W w ∧ W.heap.size ≤ w.heap.size
theorem OR.keep {lo hi : Nat} {w w' : World} {v : Value} {xs : List Msg} (h : OR lo hi w v xs) (hs : SameIn lo hi w w') (hz : w.heap.size ≤ w'.heap.size) : OR lo hi w' v xs := by
  obtain ⟨W, h1, h2, h3, h4⟩ := h
  exact ⟨W, h1, h2, fun k k1 k2 k3 => (hs k k1 (by omega) (by omega)).trans (h3 k k1 k2 k3), by omega⟩
theorem OR.rm {lo hi : Nat} {w : World} {v : Value} {xs : List Msg} (h : OR lo hi w v xs) : RMsgs lo w v xs := by
  obtain ⟨W, h1, h2, h3, h4⟩ := h
  exact h2.same ⟨h4, fun k k1 k2 => h3 k k1 k2 k2⟩
def GrowS (base : Nat) (X : World) (l : Value) (cs : List Value) (xs : List Bat) : Prop := ∃ A B : Nat → Nat, ∀ j (h : j < xs.length), cs[j * 2]? = some (.string xs[j].1) ∧ xs[j].1.size ≤ maxLen ∧ base ≤ A j ∧ B j ≤ X.heap.size ∧ (∀ g, l.ownBlock = some g → B j ≤ g ∨ g < A j) ∧ ∃ u, cs[j * 2 + 1]? = some u ∧ OR (A j) (B j) X u xs[j].2
theorem GrowS.nil {base : Nat} {X : World} {l : Value} : GrowS base X l [] [] := ⟨fun _ => 0, fun _ => 0, fun j h => absurd h (by simp)⟩
theorem GrowS.same {base : Nat} {X X' : World} {l : Value} {cs : List Value} {xs : List Bat} (h : GrowS base X l cs xs) (hs : Same base X X') : GrowS base X' l cs xs := by
  obtain ⟨A, B, hE⟩ := h
  refine ⟨A, B, fun j hj => ?_⟩
  obtain ⟨f1, f2, f3, f4, f5, u, f6, f7⟩ := hE j hj
  exact ⟨f1, f2, f3, Nat.le_trans f4 hs.size, f5, u, f6, f7.keep (fun k k1 _ hk => hs.block k (by omega) hk) hs.size⟩
theorem GrowS.snoc {base a b : Nat} {X Y Z : World} {l v' u : Value} {cs : List Value} {xs : List Bat} {n : ByteArray} {y : List Msg} (h : GrowS base X l cs xs) (hcl : cs.length = xs.length * 2) (hXY : Below X.heap.size X Y) (hbase : base ≤ a) (hb : b ≤ Y.heap.size) (hdis : ∀ g, l.ownBlock = some g → b ≤ g ∨ g < a) (hn : n.size ≤ maxLen) (hR : OR a b Y u y) (hgrow : Y.grownBy Z l.ownBlock) (hat : v'.ownBlock = l.ownBlock ∨ v'.ownBlock = some Y.heap.size) :
    GrowS base Z v' (cs ++ [.string n, u]) (xs ++ [(n, y)]) := by
  obtain ⟨A, B, hE⟩ := h
  have hs1 := hXY.size
  have hs2 := hgrow.size
  refine ⟨fun i => if i = xs.length then a else A i, fun i => if i = xs.length then b else B i, fun j hj => ?_⟩
  rw [List.length_append] at hj
  dsimp only
  by_cases hjx : j = xs.length
  · subst hjx
    rw [if_pos rfl, if_pos rfl, List.getElem_append_right (Nat.le_refl _)]
    simp only [Nat.sub_self, List.getElem_cons_zero]
    refine ⟨?_, hn, hbase, by omega, fun g hg => ?_, u, ?_, ?_⟩
    · rw [List.getElem?_append_right (by omega), show xs.length * 2 - cs.length = 0 by omega]; rfl
    · rcases hat with e | e
      · rw [e] at hg
        exact hdis g hg
      · rw [e] at hg
        cases hg
        exact .inl hb
    · rw [List.getElem?_append_right (by omega), show xs.length * 2 + 1 - cs.length = 1 by omega]; rfl
    · exact hR.keep (grown_in hgrow hdis) hs2
  · have hj2 : j < xs.length := by simp at hj; omega
    obtain ⟨f1, f2, f3, f4, f5, v, f6, f7⟩ := hE j hj2
    rw [if_neg hjx, if_neg hjx, List.getElem_append_left hj2]
    refine ⟨?_, f2, f3, by omega, fun g hg => ?_, v, ?_, ?_⟩
    · rw [List.getElem?_append_left (by omega)]; exact f1
    · rcases hat with e | e
      · rw [e] at hg
        exact f5 g hg
      · rw [e] at hg
        cases hg
        exact .inl (by omega)
    · rw [List.getElem?_append_left (by omega)]; exact f6
    · exact (f7.keep (SameIn.ofBelow hXY) hs1).keep (grown_in hgrow f5) hs2
theorem GrowS.rbats {base : Nat} {X : World} {l : Value} {cs : List Value} {xs : List Bat} (h : GrowS base X l cs xs) (hown : X.ownsRow base 49 2 l xs.length cs) : RBats base X l xs := by
  obtain ⟨A, B, hE⟩ := h
  have hcl := hown.1
  rcases own_block2 hown with ⟨hn, rfl⟩ | ⟨g, cap2, rest, rfl, hbg, hgs, hnc, hcm, hrow⟩
  · exact ⟨none, 0, by rw [hn], by omega, by unfold maxLen; omega, fun h => by omega⟩
  · refine ⟨_, _, rfl, hnc, hcm, fun _ => ⟨g, 0, rfl, hrow.lt, hbg, fun j hj => ?_⟩⟩
    obtain ⟨f1, f2, f3, f4, f5, u, f6, f7⟩ := hE j hj
    exact ⟨by rw [Nat.zero_add, hrow.cell, List.getElem?_append_left (by omega)]; exact f1, f2, u, by rw [Nat.zero_add, hrow.cell, List.getElem?_append_left (by omega)]; exact f6, RMsgs.mono f7.rm f3⟩
/-- One piece more: what is left to cut, from at on. -/
theorem cut_on {M at_ : Nat} {xs : List Msg} {D C : List (List Msg)} (h1 : 1 ≤ M) (hD : D ++ cuts M (xs.drop at_) = C) :
    ((at_ + M = 0 ∨ at_ + M < xs.length) → (D ++ [(xs.drop at_).take (min xs.length (at_ + M) - at_)]) ++ cuts M (xs.drop (at_ + M)) = C) ∧
    (¬ (at_ + M = 0 ∨ at_ + M < xs.length) → D ++ [(xs.drop at_).take (min xs.length (at_ + M) - at_)] = C) := by
  have hdl : (xs.drop at_).length = xs.length - at_ := List.length_drop
  refine ⟨fun h => ?_, fun h => ?_⟩
  · have hlt : at_ + M < xs.length := by omega
    have e := cuts_step (xs := xs.drop at_) h1 (by omega)
    rw [← hD, e, show min xs.length (at_ + M) - at_ = M by omega, List.drop_drop]
    simp
  · have hge : xs.length ≤ at_ + M := by omega
    rw [← hD, cuts_stop (by omega), show min xs.length (at_ + M) - at_ = xs.length - at_ by omega, List.take_of_length_le (by omega)]

set_option maxHeartbeats 32000000 in
set_option maxRecDepth 100000 in
theorem specSplit_any (n : ByteArray) (u : Value) (x : List Bat) (m : Int) (w : World) (hm : n.size ≤ maxLen) (hn : wBats x ≤ 1048576) (hr : RBats 0 w u x) :
    Calls Tryz.prog 21 #[.agg #[.string n, u], .int .i64 m] w fun e w' => ∃ p c, e = .returned (foV (splOut n x m) (.slice p (splOut n x m).2.2.length c)) ∧ RBats w.heap.size w' (.slice p (splOut n x m).2.2.length c) (splOut n x m).2.2 ∧ Below w.heap.size w w' := by
  obtain ⟨i0, hi, hz0, hz1, hz2⟩ := info_parts Tryz.infoBatchR
  have HZC := hide (show (Value.agg #[.string ⟨#[]⟩, .slice none 0 0]).cells.size = 2 from rfl)
  obtain ⟨A, hA⟩ : ∃ A, A = splOut n x m := ⟨_, rfl⟩
  rw [← hA]
  have HA := hide hA
  clear hA
  have HX := hide hr
  have HM := hide (fun i (h : i < x.length) => (show wBats [(x[i].1, x[i].2)] ≤ 1048576 by
    have h1 : wBat x[i] + x.length ≤ wBats x := wL_mem wBat (List.getElem_mem h)
    have h2 : wBat x[i] = x[i].1.size + wMsgs x[i].2 := rfl
    simp only [wBats, wL, wBat, List.map_cons, List.map_nil, List.sum_cons, List.sum_nil, List.length_cons, List.length_nil]
    simp only [wBats, wL] at h1 hn
    omega))
  obtain ⟨p, cap, rfl, h1, h2, h4⟩ := hr
  have H4 := hide h4
  unfold maxLen at h2
  clear h4
  obtain ⟨W, hW⟩ : ∃ W, W = (w.alloc (.cells #[.string n, .slice p x.length cap] 29)).alloc (.cells #[.string ⟨#[]⟩, .slice none 0 0, .int .i64 0, .int .i64 0] 40) := ⟨_, rfl⟩
  have HB0 := hide (show Below w.heap.size w W by rw [hW]; exact ((Below.refl _ _).alloc (Nat.le_refl _) _).alloc (by simp) _)
  have HRow0 := hide (show Row W w.heap.size 29 [.string n, .slice p x.length cap] by rw [hW]; exact (row_new w [.string n, .slice p x.length cap] 29).alloc _)
  have HRes0 := hide (show Row W (w.heap.size + 1) 40 [.string ⟨#[]⟩, .slice none 0 0, .int .i64 0, .int .i64 0] by
    rw [hW]
    have := row_new (w.alloc (.cells #[.string n, .slice p x.length cap] 29)) [.string ⟨#[]⟩, .slice none 0 0, .int .i64 0, .int .i64 0] 40
    simpa using this)
  go_enter Tryz.func21, Tryz.ntmps21
  go_wp2_with fail
  rw [← hW]
  clear hW
  refine (specFileRight_any n _ x _ hm (fitsF_of hn) (HX.out.below HB0.out)).mono ?_
  rintro e w1 ⟨rfl, hb1⟩
  have HB1 := hide (HB0.out.trans (hb1.mono HB0.out.size))
  have HRow1 := hide (HRow0.out.below hb1 HRow0.out.lt)
  have HRes1 := hide (HRes0.out.below hb1 HRes0.out.lt)
  have c0 : w1.cell? ⟨w.heap.size, 0, none⟩ = some (.string n) := HRow1.out.cell 0
  have c1 : w1.cell? ⟨w.heap.size, 1, none⟩ = some (.slice p x.length cap) := HRow1.out.cell 1
  clear hb1
  cases hq : filB n x
  · obtain rfl : A = (1, ⟨#[]⟩, []) := by rw [HA.out]; exact splOut_no (fun h => by rw [hq] at h; cases h.1)
    go_wp2_with fail
    refine (l08Ill_any 1 _).mono ?_
    rintro e wx ⟨rfl, hbx⟩
    have HBR := hide (HB1.out.trans (hbx.mono HB1.out.size))
    have HRR := hide (HRes1.out.below hbx HRes1.out.lt)
    clear hbx
    have k0 : wx.cell? ⟨w.heap.size + 1, 0, none⟩ = some (.string ⟨#[]⟩) := HRR.out.cell 0
    have k1 : wx.cell? ⟨w.heap.size + 1, 1, none⟩ = some (.slice none 0 0) := HRR.out.cell 1
    have k2 : wx.cell? ⟨w.heap.size + 1, 2, none⟩ = some (.int .i64 0) := HRR.out.cell 2
    have k3 : wx.cell? ⟨w.heap.size + 1, 3, none⟩ = some (.int .i64 0) := HRR.out.cell 3
    have f0 := HRR.out.free 0
    have f1 := HRR.out.free 1
    have f2 := HRR.out.free 2
    have f3 := HRR.out.free 3
    go_wp2
    obtain ⟨q0, q1, q2, q3, KF, _, _⟩ := fourF HRR.out (.string ⟨#[]⟩) (.slice none 0 0) (.int .i64 0) (.int .i64 1)
    exact bodyPost_ret (v := .agg #[.string ⟨#[]⟩, .slice none 0 0, .int .i64 0, .int .i64 1]) (by simp [results, Tryz.results21, go_sem, q0, q1, q2, q3]) rfl ⟨_, _, rfl, rbats_nil _ _ _, KF w w.heap.size (Nat.le_succ _) HBR.out⟩

  by_cases hmm : ¬ (1 ≤ m ∧ m ≤ 30)
  · obtain rfl : A = (1, ⟨#[]⟩, []) := by rw [HA.out]; exact splOut_no (fun h => hmm ⟨h.2.1, h.2.2⟩)
    go_wp2_with fail
    refine (l02Is_no m 1 30 _ hmm).mono ?_
    rintro e _ ⟨rfl, rfl⟩
    clear hmm
    go_wp2_with fail
    refine (l08Ill_any 1 _).mono ?_
    rintro e wx ⟨rfl, hbx⟩
    have HBR := hide (HB1.out.trans (hbx.mono HB1.out.size))
    have HRR := hide (HRes1.out.below hbx HRes1.out.lt)
    clear hbx
    have k0 : wx.cell? ⟨w.heap.size + 1, 0, none⟩ = some (.string ⟨#[]⟩) := HRR.out.cell 0
    have k1 : wx.cell? ⟨w.heap.size + 1, 1, none⟩ = some (.slice none 0 0) := HRR.out.cell 1
    have k2 : wx.cell? ⟨w.heap.size + 1, 2, none⟩ = some (.int .i64 0) := HRR.out.cell 2
    have k3 : wx.cell? ⟨w.heap.size + 1, 3, none⟩ = some (.int .i64 0) := HRR.out.cell 3
    have f0 := HRR.out.free 0
    have f1 := HRR.out.free 1
    have f2 := HRR.out.free 2
    have f3 := HRR.out.free 3
    go_wp2
    obtain ⟨q0, q1, q2, q3, KF, _, _⟩ := fourF HRR.out (.string ⟨#[]⟩) (.slice none 0 0) (.int .i64 0) (.int .i64 1)
    exact bodyPost_ret (v := .agg #[.string ⟨#[]⟩, .slice none 0 0, .int .i64 0, .int .i64 1]) (by simp [results, Tryz.results21, go_sem, q0, q1, q2, q3]) rfl ⟨_, _, rfl, rbats_nil _ _ _, KF w w.heap.size (Nat.le_succ _) HBR.out⟩

  obtain ⟨M, hMm⟩ : ∃ M : Nat, m = (M : Int) := ⟨m.toNat, by omega⟩
  subst hMm
  have hM1 : 1 ≤ M := by omega
  have hM2 : M ≤ 30 := by omega
  have HA9 := hide (fun (h3 : 10 < (splL M x).length) => (show A = (9, ⟨#[]⟩, []) by rw [HA.out]; exact splOut_full hq hM1 hM2 h3))
  have HA0 := hide (fun (h3 : ¬ 10 < (splL M x).length) => (show A = (0, n, splL M x) by rw [HA.out]; exact splOut_yes hq hM1 hM2 h3))
  have HFP := hide (filB_parts hq)
  have HX10 := hide (show x.length ≤ 10 from (filB_parts hq).1)
  clear hq HA hmm
  go_wp2_with fail
  refine (l02Is_yes (M : Int) 1 30 _ (by omega) (by omega)).mono ?_
  rintro e w2 ⟨rfl, rfl⟩
  have hbp : Below w2.heap.size w2 (w2.alloc (.cells #[.string n, .slice none 0 0] 29)) := (Below.refl _ _).alloc (Nat.le_refl _) _
  have HB2 := hide (HB1.out.trans (hbp.mono HB1.out.size))
  have HRow2 := hide (HRow1.out.below hbp HRow1.out.lt)
  have HRes2 := hide (HRes1.out.below hbp HRes1.out.lt)
  have HRO2 := hide (row_new w2 [.string n, .slice none 0 0] 29)
  have HPs := hide (show (w2.alloc (.cells #[.string n, .slice none 0 0] 29)).heap.size = w2.heap.size + 1 by simp)
  have HWP := hide (show w.heap.size + 1 < w2.heap.size from HRes1.out.lt)
  clear hbp
  go_wp2_with fail
  obtain ⟨W5, hW5⟩ : ∃ W5, W5 = w2.alloc (.cells #[.string n, .slice none 0 0] 29) := ⟨_, rfl⟩
  obtain ⟨OB, hOB⟩ : ∃ OB, OB = w2.heap.size := ⟨_, rfl⟩
  rw [← hW5] at HB2 HRow2 HRes2 HRO2 HPs ⊢
  rw [← hOB] at HRO2 HPs HWP ⊢
  have HOBl := hide (show OB < W5.heap.size by have := HPs.out; omega)
  clear hW5 hOB c0 c1 HRow1 HRes1 HRow0 HRes0
  go_loopw [6] (fun i wr => ∃ (X : World) (k : Nat) (l : Value) (cs : List Value), X = wr ∧ k ≤ x.length ∧ i = .int .i64 (k : Int) ∧ Hid (Row X OB 29 [.string n, l]) ∧ Hid (X.ownsRow W5.heap.size 49 2 l (splL M (x.take k)).length cs) ∧ Hid (GrowS W5.heap.size X l cs (splL M (x.take k))) ∧ Hid (Only OB W5 X) ∧ Hid ((splL M (x.take k)).length ≤ 31 * k)) (fun i _ => x.length - (intOf i).toNat)
  case atStart => exact ⟨_, 0, _, [], rfl, Nat.zero_le _, rfl, HRO2, hide (World.ownsRow_nil W5 W5.heap.size 49 2), hide GrowS.nil, hide (Only.refl _ _), hide (Nat.zero_le _)⟩
  case round =>
    obtain ⟨X, k, l, cs, rfl, hk, rfl, HRO, HOw, HG, HON, H31⟩ := hrel
    have HBX := hide (HON.out.toBelow HB2.out HB2.out.size (by have := HWP.out; omega))
    have HRowX := hide (HON.out.row HRow2.out (by have := HWP.out; omega))
    have d1 : X.cell? ⟨w.heap.size, 1, none⟩ = some (.slice p x.length cap) := HRowX.out.cell 1
    by_cases hlt : k < x.length
    · obtain ⟨g, off, hp, hg, _, hc⟩ := H4.out (by omega)
      subst hp
      obtain ⟨ha, hns, v, hv, hrv⟩ := hc k hlt
      have hk0 := (HBX.out.cell (p := ⟨g, off + k * 2, none⟩) hg).trans ha
      have hk1 := (HBX.out.cell (p := ⟨g, off + k * 2 + 1, none⟩) hg).trans hv
      have HT := hide (splL_take M x k hlt)
      have HB30 := hide (HFP.out.2 _ (List.getElem_mem hlt))
      have HMK := hide (HM.out k hlt)
      obtain ⟨bt, hbt⟩ : ∃ bt, bt = x[k]'hlt := ⟨_, rfl⟩
      rw [← hbt] at hk0 hrv HT HB30 HMK
      obtain ⟨vp, vc, rfl⟩ := hrv.isSlice
      have HBV := hide (hrv.below HBX.out)
      obtain ⟨L, hL⟩ : ∃ L, L = splL M (x.take k) := ⟨_, rfl⟩
      rw [← hL] at HOw HG H31 HT
      have HBA := hide (show Below X.heap.size X (X.alloc (.cells #[.string bt.1, .slice vp bt.2.length vc] 49)) from (Below.refl _ _).alloc (Nat.le_refl _) _)
      have HRB := hide (row_new X [.string bt.1, .slice vp bt.2.length vc] 49)
      have hki0 : (0 : Int) ≤ (k : Int) := by omega
      have hki : (k : Int) < (x.length : Int) := by omega
      clear hbt hL ha hns hv hrv hc
      obtain ⟨X1, hX1⟩ : ∃ X1, X1 = X.alloc (.cells #[.string bt.1, .slice vp bt.2.length vc] 49) := ⟨_, rfl⟩
      rw [← hX1] at HBA HRB
      have HBE := hide (show Below X1.heap.size X1 (X1.alloc (.cells #[.string bt.1, .slice vp bt.2.length vc] 49)) from (Below.refl _ _).alloc (Nat.le_refl _) _)
      have HRE := hide (row_new X1 [.string bt.1, .slice vp bt.2.length vc] 49)
      have HX1s := hide (show X1.heap.size = X.heap.size + 1 by rw [hX1]; simp)
      go_wp2_with fail
      rw [← hX1]
      obtain ⟨w3, hw3⟩ : ∃ w3, w3 = X1.alloc (.cells #[.string bt.1, .slice vp bt.2.length vc] 49) := ⟨_, rfl⟩
      obtain ⟨Bk, hBk⟩ : ∃ Bk, Bk = X.heap.size := ⟨_, rfl⟩
      rw [← hw3] at HBE HRE ⊢
      have HBKe := hide hBk
      try rw [← hBk]
      rw [← hBk] at HRB
      have HE1 := hide (show X1.heap.size = Bk + 1 by rw [hBk]; exact HX1s.out)
      have HBKO := hide (show OB < Bk by rw [hBk]; have h1 := HON.out.size; have h2 := HOBl.out; omega)
      clear hw3 hBk hX1 hk0 hk1 d1
      have HB3 := hide (HBA.out.trans (HBE.out.mono HBA.out.size))
      have HB1R := hide (show RBats 0 w3 (.slice (some ⟨X1.heap.size, 0, none⟩) 1 1) [(bt.1, bt.2)] from ⟨_, _, rfl, Nat.le_refl _, by unfold maxLen; omega, fun _ => ⟨X1.heap.size, 0, rfl, HRE.out.lt, Nat.zero_le _, fun i hi => by
        have ei : i = 0 := by simp at hi; exact hi
        subst ei
        exact ⟨by simpa using HRE.out.cell 0, by have := HB30.out.1; unfold maxLen; show bt.1.size ≤ _; omega, _, by simpa using HRE.out.cell 1, HBV.out.below HB3.out⟩⟩⟩)
      rw [HE1.out] at HB1R
      try rw [HE1.out]
      refine (l08AllP_any ⟨#[]⟩ _ [(bt.1, bt.2)] _ HMK.out HB1R.out).mono ?_
      rintro e w4 ⟨ga, ca, rfl, hra, hb4⟩

      have eAll : allL [(bt.1, bt.2)] = bt.2 := by simp [allL]
      rw [eAll] at hra ⊢
      have HB4 := hide (HB3.out.trans (hb4.mono HB3.out.size))
      have HRB4 := hide ((HRB.out.below HBE.out HRB.out.lt).below hb4 (Nat.lt_of_lt_of_le HRB.out.lt HBE.out.size))
      have HRA := hide hra
      have HW34 := hide (show Bk < w3.heap.size by have h1 := HBE.out.size; have h2 := HE1.out; omega)
      have HS34 := hide hb4.size
      obtain ⟨pa', ca', hae, hca1, hca2, hca4⟩ := HRA.out
      cases hae
      unfold maxLen at hca2
      have HSB := hide (show splB M bt = (cuts M bt.2).map (fun l => (bt.1, l)) from rfl)
      have HCLN := hide (cuts_len M bt.2.length bt.2 (Nat.le_refl _))
      obtain ⟨C, hC⟩ : ∃ C, C = cuts M bt.2 := ⟨_, rfl⟩
      have HC0 := hide (show cuts M (bt.2.drop 0) = C by rw [hC]; rfl)
      rw [← hC] at HSB HCLN
      have HRO4 := hide (HRO.out.below HB4.out HRO.out.lt)
      have HOw4 := hide (own_below HOw.out HB4.out)
      have HG4 := hide (HG.out.same (Same.of HB4.out))
      have HON4 := hide (HON.out.below HB4.out)
      have HBLt := hide (show Bk < w4.heap.size from HRB4.out.lt)
      have HLO5 := hide (show W5.heap.size ≤ w3.heap.size by have h1 := HON.out.size; have h2 := HB3.out.size; omega)
      have HOB := hide (fun g (hg : l.ownBlock = some g) => (show g < Bk ∨ w4.heap.size ≤ g from .inl (by rw [HBKe.out]; exact (HOw.out.lt g hg).2)))
      clear hC hra hb4 eAll hca4 HRO HOw HG
      go_wp2_with fail
      go_loopw [9] (fun i wr => ∃ (Z : World) (at_ : Nat) (l : Value) (D : List (List Msg)) (cs : List Value), Z = wr ∧ at_ ≤ bt.2.length + 30 ∧ i = .int .i64 (at_ : Int) ∧ Hid (Row Z OB 29 [.string n, l]) ∧ Hid (Z.ownsRow W5.heap.size 49 2 l (L ++ D.map (fun l => (bt.1, l))).length cs) ∧ Hid (GrowS W5.heap.size Z l cs (L ++ D.map (fun l => (bt.1, l)))) ∧ Hid (Only OB W5 Z) ∧ Hid (SameIn Bk w4.heap.size w4 Z) ∧ Hid (∀ g, l.ownBlock = some g → g < Bk ∨ w4.heap.size ≤ g) ∧ Hid (w4.heap.size ≤ Z.heap.size) ∧ Hid ((at_ = 0 ∨ at_ < bt.2.length) → D ++ cuts M (bt.2.drop at_) = C) ∧ Hid (¬ (at_ = 0 ∨ at_ < bt.2.length) → D = C)) (fun i _ => bt.2.length + 1 - (intOf i).toNat)
      case atStart => exact ⟨_, 0, _, [], cs, rfl, Nat.zero_le _, rfl, HRO4, hide (by simpa using HOw4.out), hide (by simpa using HG4.out), HON4, hide (fun _ _ _ _ => rfl), HOB, hide (Nat.le_refl _), hide (fun _ => by simpa using HC0.out), hide (fun h => absurd (Or.inl rfl) h)⟩
      case round =>
        obtain ⟨Z, at_, l, D, cs, rfl, hat0, rfl, HROz, HOz, HGz, HONz, HSI, HOBk, HZw, HDc, HDe⟩ := hrel
        by_cases hcon : at_ = 0 ∨ at_ < bt.2.length
        · have HAT := hide (show at_ ≤ bt.2.length ∧ bt.2.length ≤ 30 from ⟨by omega, HB30.out.2⟩)
          have HCON := hide (cut_on hM1 (HDc.out hcon))
          obtain ⟨H, hH⟩ : ∃ H : Nat, H = min bt.2.length (at_ + M) := ⟨_, rfl⟩
          rw [← hH] at HCON
          have HH := hide (show min (bt.2.length : Int) ((at_ : Int) + (M : Int)) = (H : Int) by omega)
          have hHa : at_ ≤ H := by omega
          have hHn : H ≤ bt.2.length := by omega
          have HD0a := hide (show D.length + 1 ≤ 32 by
            have e := congrArg List.length (HDc.out hcon)
            rw [List.length_append] at e
            have h3 := cuts_pos M (bt.2.drop at_)
            have h4 := HCLN.out
            have h5 := HAT.out.2
            omega)
          have HCLz := hide (show cs.length = (L ++ D.map (fun l => (bt.1, l))).length * 2 from HOz.out.1)
          have HLTz := hide HOz.out.lt
          obtain ⟨D0, hD0⟩ : ∃ D0, D0 = (L ++ D.map (fun l => (bt.1, l))).length := ⟨_, rfl⟩
          have HD0 := hide (show D0 + 1 ≤ 400 by rw [hD0, List.length_append, List.length_map]; have h3 := H31.out; have h4 := HD0a.out; have h5 := HX10.out; omega)
          rw [← hD0] at HOz
          have HDE := hide hD0
          have HOBz := hide (fun g (hg : l.ownBlock = some g) => (show g < w3.heap.size ∨ w4.heap.size ≤ g by have h3 := HOBk.out g hg; have h4 := HW34.out; omega))
          have HZs := hide (show W5.heap.size ≤ Z.heap.size from HONz.out.size)
          have HRBz := hide (HSI.out.row HRB4.out (Nat.le_refl _) HBLt.out)
          have HSI2 := hide (show SameIn w3.heap.size w4.heap.size w4 Z from HSI.out.mono (Nat.le_of_lt HW34.out) (Nat.le_refl _))
          have hai0 : (0 : Int) ≤ (at_ : Int) := by omega
          have hM0 : (0 : Int) ≤ (M : Int) := by omega
          have hwr : IntKind.i64.wrap ((at_ : Int) + (M : Int)) = (at_ : Int) + (M : Int) := wrap_small _ (by have := HAT.out; omega) (by have := HAT.out; omega)
          have haH : (at_ : Int) ≤ (H : Int) := by omega
          have hHN : (H : Int) ≤ (bt.2.length : Int) := by omega
          have hNc : (bt.2.length : Int) ≤ (ca : Int) := by omega
          have hHc : (H : Int) ≤ (ca : Int) := by omega
          clear hH hD0
          by_cases hace0 : ca = at_
          · have HPC := hide (show OR w3.heap.size w4.heap.size Z (.slice (some ⟨ga, 0, none⟩) (H - at_) 0) ((bt.2.drop at_).take (H - at_)) from ⟨w4, Nat.le_refl _, by
              have e1 : H - at_ = 0 := by omega
              have e2 : (bt.2.drop at_).take (H - at_) = [] := by rw [e1]; rfl
              rw [e2, e1]
              exact rmsgs_nil _ _ _, HSI2.out, HZw.out⟩)
            subst hace0
            have h3a : ca = 0 := by omega
            have ha0 : ((ca : Int) == 0) = true := by rw [h3a]; rfl
            clear h3a
            go_wp2_with fail
            have HSS := hide (show ∀ y, Below Z.heap.size Z y → (fun y : World => y.cell? ⟨Bk, 0, none⟩ = some (.string bt.1)) y from fun y h => (HRBz.out.below h HRBz.out.lt).cell 0)
            refine wp_region_held (S := (fun y : World => y.cell? ⟨Bk, 0, none⟩ = some (.string bt.1))) (by kernel_rfl) ?_
            have HN0 := hide (show Below Z.heap.size Z { Z with drawn := Z.drawn + 1 } from (Below.refl _ _).drew)
            have HRO0 := hide (HROz.out.below HN0.out HROz.out.lt)
            have HOC0 := hide (own_below HOz.out HN0.out)
            generalize ({ Z with drawn := Z.drawn + 1 } : World) = Z0 at HN0 HRO0 HOC0 ⊢
            have HS := hide (HSS.out _ HN0.out)
            refine wpAnyH_take (i := 0) (oi := _) (v := .pointer (some ⟨OB, 1, none⟩)) rfl (by kernel_rfl) (by kernel_rfl) (by kernel_rfl) (fun _ _ _ h => h) (Or.inl ⟨by rfl, by intro w hSw; go_split_ands; go_simp⟩) HS.out ?_
            simp only [Act.put, List.getElem_toArray, List.getElem_cons_zero, List.setIfInBounds_toArray, List.set_cons_zero, List.set_cons_succ]
            refine wpAnyH_take (i := 2) (oi := _) (v := .pointer (some ⟨Bk, 0, none⟩)) rfl (by kernel_rfl) (by kernel_rfl) (by kernel_rfl) (fun _ _ _ h => h) (Or.inl ⟨by rfl, by intro w hSw; go_split_ands; go_simp⟩) HS.out ?_
            simp only [Act.put, List.getElem_toArray, List.getElem_cons_zero, List.getElem_cons_succ, List.setIfInBounds_toArray, List.set_cons_zero, List.set_cons_succ]
            refine wpAnyH_take (i := 3) (oi := _) (v := .string bt.1) rfl (by kernel_rfl) (by kernel_rfl) (by kernel_rfl) (fun _ _ _ h => h) (Or.inl ⟨by rfl, by intro w hSw; go_split_ands; go_simp⟩) HS.out ?_
            simp only [Act.put, List.getElem_toArray, List.getElem_cons_zero, List.getElem_cons_succ, List.setIfInBounds_toArray, List.set_cons_zero, List.set_cons_succ]
            refine wpAnyH_take (i := 4) (oi := _) (v := .slice (some ⟨ga, 0, none⟩) bt.2.length ca) rfl (by kernel_rfl) (by kernel_rfl) (by kernel_rfl) (fun _ _ _ h => h) (Or.inl ⟨by rfl, by intro w hSw; go_split_ands; go_simp⟩) HS.out ?_
            simp only [Act.put, List.getElem_toArray, List.getElem_cons_zero, List.getElem_cons_succ, List.setIfInBounds_toArray, List.set_cons_zero, List.set_cons_succ]
            refine wpAnyH_take (i := 5) (oi := _) (v := .int .i64 (ca : Int)) rfl (by kernel_rfl) (by kernel_rfl) (by kernel_rfl) (fun _ _ _ h => h) (Or.inl ⟨by rfl, by intro w hSw; go_split_ands; go_simp⟩) HS.out ?_
            simp only [Act.put, List.getElem_toArray, List.getElem_cons_zero, List.getElem_cons_succ, List.setIfInBounds_toArray, List.set_cons_zero, List.set_cons_succ]
            refine wpAnyH_take (i := 6) (oi := _) (v := .slice (some ⟨ga, 0, none⟩) bt.2.length ca) rfl (by kernel_rfl) (by kernel_rfl) (by kernel_rfl) (fun _ _ _ h => h) (Or.inl ⟨by rfl, by intro w hSw; go_split_ands; go_simp⟩) HS.out ?_
            simp only [Act.put, List.getElem_toArray, List.getElem_cons_zero, List.getElem_cons_succ, List.setIfInBounds_toArray, List.set_cons_zero, List.set_cons_succ]
            refine wpAnyH_take (i := 7) (oi := _) (v := .int .i64 (bt.2.length : Int)) rfl (by kernel_rfl) (by kernel_rfl) (by kernel_rfl) (fun _ _ _ h => h) (Or.inl ⟨by rfl, by intro w hSw; go_split_ands; go_simp⟩) HS.out ?_
            simp only [Act.put, List.getElem_toArray, List.getElem_cons_zero, List.getElem_cons_succ, List.setIfInBounds_toArray, List.set_cons_zero, List.set_cons_succ]
            refine wpAnyH_take (i := 8) (oi := _) (v := .int .i64 (ca : Int)) rfl (by kernel_rfl) (by kernel_rfl) (by kernel_rfl) (fun _ _ _ h => h) (Or.inl ⟨by rfl, by intro w hSw; go_split_ands; go_simp⟩) HS.out ?_
            simp only [Act.put, List.getElem_toArray, List.getElem_cons_zero, List.getElem_cons_succ, List.setIfInBounds_toArray, List.set_cons_zero, List.set_cons_succ]
            refine wpAnyH_take (i := 9) (oi := _) (v := .int .i64 (M : Int)) rfl (by kernel_rfl) (by kernel_rfl) (by kernel_rfl) (fun _ _ _ h => h) (Or.inl ⟨by rfl, by intro w hSw; go_split_ands; go_simp⟩) HS.out ?_
            simp only [Act.put, List.getElem_toArray, List.getElem_cons_zero, List.getElem_cons_succ, List.setIfInBounds_toArray, List.set_cons_zero, List.set_cons_succ]
            refine wpAnyH_take (i := 10) (oi := _) (v := .int .i64 ((ca : Int) + (M : Int))) rfl (by kernel_rfl) (by kernel_rfl) (by kernel_rfl) (fun _ _ _ h => h) (Or.inl ⟨by rfl, by intro w hSw; go_split_ands; go_simp⟩) HS.out ?_
            simp only [Act.put, List.getElem_toArray, List.getElem_cons_zero, List.getElem_cons_succ, List.setIfInBounds_toArray, List.set_cons_zero, List.set_cons_succ]
            refine wpAnyH_ready (rs := [1, 11]) (by kernel_rfl) (by simp) ?_
            refine AllReadyH.cons (o := _) rfl (fun K hK => ?_) (AllReadyH.cons (o := _) rfl (fun K hK => ?_) AllReadyH.nil)
            · have c5 : Z0.cell? ⟨OB, 1, none⟩ = some l := (HRO0.out).cell 1
              go_simp
              refine hK.out _ _ HS.out (fun _ => ?_)
              clear hK K c5
              try simp only [Act.put, List.getElem_toArray, List.getElem_cons_zero, List.getElem_cons_succ, List.setIfInBounds_toArray, List.set_cons_zero, List.set_cons_succ]
              refine wpAnyH_ready (rs := [11]) (by kernel_rfl) (by simp) ?_
              refine AllReadyH.cons (o := _) rfl (fun K hK => ?_) AllReadyH.nil
              go_simp
              refine (l01MinB_any _ _ _).mono ?_
              rintro e w9 ⟨rfl, hw9⟩
              rw [hw9]
              clear hw9 w9
              rw [show min (bt.2.length : Int) ((ca : Int) + (M : Int)) = (H : Int) from HH.out]
              refine hK.out _ _ HS.out (fun _ => ?_)
              clear hK K
              try simp only [Act.put, List.getElem_toArray, List.getElem_cons_zero, List.getElem_cons_succ, List.setIfInBounds_toArray, List.set_cons_zero, List.set_cons_succ]
              refine wpAnyH_take (i := 12) (oi := _) (v := .slice (some ⟨ga, 0, none⟩) (H - ca) 0) rfl (by kernel_rfl) (by kernel_rfl) (by kernel_rfl) (fun _ _ _ h => h) (Or.inl ⟨by rfl, by intro w hSw; go_split_ands; go_simp⟩) HS.out ?_
              simp only [Act.put, List.getElem_toArray, List.getElem_cons_zero, List.getElem_cons_succ, List.setIfInBounds_toArray, List.set_cons_zero, List.set_cons_succ]
              refine wpAnyH_take (i := 13) (oi := _) (v := .agg #[.string bt.1, .slice (some ⟨ga, 0, none⟩) (H - ca) 0]) rfl (by kernel_rfl) (by kernel_rfl) (by kernel_rfl) (fun _ _ _ h => h) (Or.inl ⟨by rfl, by intro w hSw; go_split_ands; go_simp⟩) HS.out ?_
              simp only [Act.put, List.getElem_toArray, List.getElem_cons_zero, List.getElem_cons_succ, List.setIfInBounds_toArray, List.set_cons_zero, List.set_cons_succ]
              refine wpAnyH_ready (rs := [14]) (by kernel_rfl) (by simp) ?_
              refine AllReadyH.cons (o := _) rfl (fun K hK => ?_) AllReadyH.nil
              go_simp
              have HN1 := hide (HN0.out.alloc HN0.out.size (.cells #[.string bt.1, .slice (some ⟨ga, 0, none⟩) (H - ca) 0] 49))
              have HRO1 := hide (HRO0.out.alloc (.cells #[.string bt.1, .slice (some ⟨ga, 0, none⟩) (H - ca) 0] 49))
              have HOC1 := hide (HOC0.out.alloc (.cells #[.string bt.1, .slice (some ⟨ga, 0, none⟩) (H - ca) 0] 49))
              have HR1 := hide (row_cellsM (row_new Z0 [.string bt.1, .slice (some ⟨ga, 0, none⟩) (H - ca) 0] 49))
              refine hK.out _ _ (HSS.out _ HN1.out) (fun _ => ?_)
              clear hK K HS
              generalize hZ : Z0.alloc (.cells #[.string bt.1, .slice (some ⟨ga, 0, none⟩) (H - ca) 0] 49) = Z1 at HN1 HRO1 HOC1 HR1 ⊢
              generalize Z0.heap.size = E5 at HR1 ⊢
              clear hZ
              have HS := hide (HSS.out _ HN1.out)
              try simp only [Act.put, List.getElem_toArray, List.getElem_cons_zero, List.getElem_cons_succ, List.setIfInBounds_toArray, List.set_cons_zero, List.set_cons_succ]
              have HSZ := hide (show W5.heap.size ≤ Z1.heap.size from Nat.le_trans HZs.out HN1.out.size)
              refine wpAnyH_ready (rs := [15]) (by kernel_rfl) (by simp) ?_
              refine AllReadyH.cons (o := _) rfl (fun K hK => ?_) AllReadyH.nil
              refine step_own (w := Z1) rfl (.tmp 50) (.tmp 63) 27 rfl W5.heap.size 49 i0 _ 2 40 Tryz.underlying27 hi hz0 hz1 hz2 HZC.out (by omega) _ D0 cs rfl HOC1.out ⟨E5, 0, none⟩ 1 _ [.string bt.1, .slice (some ⟨ga, 0, none⟩) (H - ca) 0] rfl rfl HR1.out (by simp [Value.oneCell']) (by unfold maxLen; have := HD0.out; omega) (by have := HD0.out; omega) HSZ.out ?_
              intro v9 Z9 hown9 hgrow hat
              obtain ⟨pv, cv, hv9⟩ := own_slice1 hown9
              subst hv9
              have hgk : ∀ k, l.ownBlock = some k → W5.heap.size ≤ k := fun k hk => (HOC1.out.lt k hk).1
              have hn1 := HN1.out.size
              have hn2 := hgrow.size
              have hrp9 := row_grown (B := W5.heap.size) HRO1.out hgrow hgk HOBl.out
              have HG9 := hide (show GrowS W5.heap.size Z9 (.slice pv (D0 + 1) cv) (cs ++ [.string bt.1, .slice (some ⟨ga, 0, none⟩) (H - ca) 0]) ((L ++ D.map (fun l => (bt.1, l))) ++ [(bt.1, (bt.2.drop ca).take (H - ca))]) from
                HGz.out.snoc HCLz.out HN1.out HLO5.out (Nat.le_trans HZw.out hn1) (fun g hg => (HOBz.out g hg).symm.imp id id) (by have := HB30.out.1; unfold maxLen; omega) (HPC.out.keep (SameIn.ofBelow HN1.out) hn1) hgrow hat)
              have HSame := hide (Same.set Z9 (g := OB) (j := 1) (.slice pv (D0 + 1) cv) HOBl.out)
              have HG10 := hide (HG9.out.same HSame.out)
              have HO10 := hide (show (Z9.setCell ⟨OB, 1, none⟩ (.slice pv (D0 + 1) cv)).ownsRow W5.heap.size 49 2 (.slice pv (D0 + 1) cv) ((L ++ D.map (fun l => (bt.1, l))) ++ [(bt.1, (bt.2.drop ca).take (H - ca))]).length (cs ++ [.string bt.1, .slice (some ⟨ga, 0, none⟩) (H - ca) 0]) by
                rw [List.length_append, ← HDE.out]
                exact own_sameB hown9 HSame.out)
              have HON9 := hide ((HONz.out.below HN1.out).grownB hgrow hgk)
              have HON10 := hide (HON9.out.set (j := 1) (.slice pv (D0 + 1) cv))
              have HRO10 := hide (show Row (Z9.setCell ⟨OB, 1, none⟩ (.slice pv (D0 + 1) cv)) OB 29 [.string n, .slice pv (D0 + 1) cv] by simpa using hrp9.set (j := 1) (.slice pv (D0 + 1) cv))
              have hzw := HZw.out
              have hobl := HOBl.out
              have hbko := HBKO.out
              have HSI10 := hide (show SameIn Bk w4.heap.size w4 (Z9.setCell ⟨OB, 1, none⟩ (.slice pv (D0 + 1) cv)) from fun b b1 b2 b3 => by
                have e1 : (Z9.setCell ⟨OB, 1, none⟩ (.slice pv (D0 + 1) cv)).heap[b]? = Z9.heap[b]? := Below.heap_setCell Z9 ⟨OB, 1, none⟩ _ b (by show b ≠ OB; omega)
                have e2 : Z9.heap[b]? = Z1.heap[b]? := hgrow.block b (by omega) (fun e => by have := HOBk.out b e.symm; omega)
                rw [e1, e2, HN1.out.block b (by omega)]
                exact HSI.out b b1 b2 b3)
              have hsz9 : (Z9.setCell ⟨OB, 1, none⟩ (.slice pv (D0 + 1) cv)).heap.size = Z9.heap.size := by simp [World.setCell]
              have HOB10 := hide (show ∀ g, (Value.slice pv (D0 + 1) cv).ownBlock = some g → g < Bk ∨ w4.heap.size ≤ g from fun g hg => by
                rcases hat with h | h
                · rw [h] at hg; exact HOBk.out g hg
                · rw [h] at hg; cases hg; exact .inr (by omega))
              have HZ10 := hide (show w4.heap.size ≤ (Z9.setCell ⟨OB, 1, none⟩ (.slice pv (D0 + 1) cv)).heap.size by omega)
              have HS9 : Hid ((fun y : World => y.cell? ⟨Bk, 0, none⟩ = some (.string bt.1)) Z9) := hide (by
                have hb : Z9.heap[Bk]? = Z1.heap[Bk]? := hgrow.block _ (by have := HBLt.out; omega) (fun e => by have := HOBk.out Bk e.symm; have := HBLt.out; omega)
                exact (World.cell?_of_block hb).trans HS.out)
              have HSF : Hid ((fun y : World => y.cell? ⟨Bk, 0, none⟩ = some (.string bt.1)) (Z9.setCell ⟨OB, 1, none⟩ (.slice pv (D0 + 1) cv))) := hide (by
                have hb : (Z9.setCell ⟨OB, 1, none⟩ (.slice pv (D0 + 1) cv)).heap[Bk]? = Z9.heap[Bk]? := Below.heap_setCell Z9 ⟨OB, 1, none⟩ _ Bk (by show Bk ≠ OB; omega)
                exact (World.cell?_of_block hb).trans HS9.out)
              have HRO9 := hide hrp9
              clear hown9 hgrow hat hgk hrp9 hsz9
              refine hK.out _ _ HS9.out (fun _ => ?_)
              clear hK K HS
              have HS := HS9
              try simp only [Act.put, List.getElem_toArray, List.getElem_cons_zero, List.getElem_cons_succ, List.setIfInBounds_toArray, List.set_cons_zero, List.set_cons_succ]
              refine wpAnyH_take (i := 16) (oi := _) (v := .pointer (some ⟨OB, 1, none⟩)) rfl (by kernel_rfl) (by kernel_rfl) (by kernel_rfl) (fun _ _ _ h => h) (Or.inl ⟨by rfl, by intro w hSw; go_split_ands; go_simp⟩) HS.out ?_
              simp only [Act.put, List.getElem_toArray, List.getElem_cons_zero, List.getElem_cons_succ, List.setIfInBounds_toArray, List.set_cons_zero, List.set_cons_succ]
              refine wpAnyH_ready (rs := [17]) (by kernel_rfl) (by simp) ?_
              refine AllReadyH.cons (o := _) rfl (fun K hK => ?_) AllReadyH.nil
              have c9 : Z9.cell? ⟨OB, 1, none⟩ = some l := HRO9.out.cell 1
              have f9 := HRO9.out.free 1
              go_simp
              refine hK.out _ _ HSF.out (fun _ => ?_)
              clear hK K HS
              refine wpAnyH_done (by kernel_rfl) ?_ _
              rw [show (L ++ D.map (fun l => (bt.1, l))) ++ [(bt.1, (bt.2.drop ca).take (H - ca))] = L ++ (D ++ [(bt.2.drop ca).take (H - ca)]).map (fun l => (bt.1, l)) by simp] at HO10 HG10
              go_wp2
              go_roundw
              case rel => exact ⟨_, ca + M, _, D ++ [(bt.2.drop ca).take (H - ca)], _, rfl, by have := HAT.out; omega, by go_num, HRO10, HO10, HG10, HON10, HSI10, HOB10, HZ10, hide HCON.out.1, hide HCON.out.2⟩
              case measure => simp [intOf]; have := HAT.out; omega
            · go_simp
              refine (l01MinB_any _ _ _).mono ?_
              rintro e w9 ⟨rfl, hw9⟩
              rw [hw9]
              clear hw9 w9
              rw [show min (bt.2.length : Int) ((ca : Int) + (M : Int)) = (H : Int) from HH.out]
              refine hK.out _ _ HS.out (fun _ => ?_)
              clear hK K
              try simp only [Act.put, List.getElem_toArray, List.getElem_cons_zero, List.getElem_cons_succ, List.setIfInBounds_toArray, List.set_cons_zero, List.set_cons_succ]
              refine wpAnyH_take (i := 12) (oi := _) (v := .slice (some ⟨ga, 0, none⟩) (H - ca) 0) rfl (by kernel_rfl) (by kernel_rfl) (by kernel_rfl) (fun _ _ _ h => h) (Or.inl ⟨by rfl, by intro w hSw; go_split_ands; go_simp⟩) HS.out ?_
              simp only [Act.put, List.getElem_toArray, List.getElem_cons_zero, List.getElem_cons_succ, List.setIfInBounds_toArray, List.set_cons_zero, List.set_cons_succ]
              refine wpAnyH_take (i := 13) (oi := _) (v := .agg #[.string bt.1, .slice (some ⟨ga, 0, none⟩) (H - ca) 0]) rfl (by kernel_rfl) (by kernel_rfl) (by kernel_rfl) (fun _ _ _ h => h) (Or.inl ⟨by rfl, by intro w hSw; go_split_ands; go_simp⟩) HS.out ?_
              simp only [Act.put, List.getElem_toArray, List.getElem_cons_zero, List.getElem_cons_succ, List.setIfInBounds_toArray, List.set_cons_zero, List.set_cons_succ]
              refine wpAnyH_ready (rs := [1, 14]) (by kernel_rfl) (by simp) ?_
              refine AllReadyH.cons (o := _) rfl (fun K hK => ?_) (AllReadyH.cons (o := _) rfl (fun K hK => ?_) AllReadyH.nil)
              · have c5 : Z0.cell? ⟨OB, 1, none⟩ = some l := (HRO0.out).cell 1
                go_simp
                refine hK.out _ _ HS.out (fun _ => ?_)
                clear hK K c5
                try simp only [Act.put, List.getElem_toArray, List.getElem_cons_zero, List.getElem_cons_succ, List.setIfInBounds_toArray, List.set_cons_zero, List.set_cons_succ]
                refine wpAnyH_ready (rs := [14]) (by kernel_rfl) (by simp) ?_
                refine AllReadyH.cons (o := _) rfl (fun K hK => ?_) AllReadyH.nil
                go_simp
                have HN1 := hide (HN0.out.alloc HN0.out.size (.cells #[.string bt.1, .slice (some ⟨ga, 0, none⟩) (H - ca) 0] 49))
                have HRO1 := hide (HRO0.out.alloc (.cells #[.string bt.1, .slice (some ⟨ga, 0, none⟩) (H - ca) 0] 49))
                have HOC1 := hide (HOC0.out.alloc (.cells #[.string bt.1, .slice (some ⟨ga, 0, none⟩) (H - ca) 0] 49))
                have HR1 := hide (row_cellsM (row_new Z0 [.string bt.1, .slice (some ⟨ga, 0, none⟩) (H - ca) 0] 49))
                refine hK.out _ _ (HSS.out _ HN1.out) (fun _ => ?_)
                clear hK K HS
                generalize hZ : Z0.alloc (.cells #[.string bt.1, .slice (some ⟨ga, 0, none⟩) (H - ca) 0] 49) = Z1 at HN1 HRO1 HOC1 HR1 ⊢
                generalize Z0.heap.size = E5 at HR1 ⊢
                clear hZ
                have HS := hide (HSS.out _ HN1.out)
                try simp only [Act.put, List.getElem_toArray, List.getElem_cons_zero, List.getElem_cons_succ, List.setIfInBounds_toArray, List.set_cons_zero, List.set_cons_succ]
                have HSZ := hide (show W5.heap.size ≤ Z1.heap.size from Nat.le_trans HZs.out HN1.out.size)
                refine wpAnyH_ready (rs := [15]) (by kernel_rfl) (by simp) ?_
                refine AllReadyH.cons (o := _) rfl (fun K hK => ?_) AllReadyH.nil
                refine step_own (w := Z1) rfl (.tmp 50) (.tmp 63) 27 rfl W5.heap.size 49 i0 _ 2 40 Tryz.underlying27 hi hz0 hz1 hz2 HZC.out (by omega) _ D0 cs rfl HOC1.out ⟨E5, 0, none⟩ 1 _ [.string bt.1, .slice (some ⟨ga, 0, none⟩) (H - ca) 0] rfl rfl HR1.out (by simp [Value.oneCell']) (by unfold maxLen; have := HD0.out; omega) (by have := HD0.out; omega) HSZ.out ?_
                intro v9 Z9 hown9 hgrow hat
                obtain ⟨pv, cv, hv9⟩ := own_slice1 hown9
                subst hv9
                have hgk : ∀ k, l.ownBlock = some k → W5.heap.size ≤ k := fun k hk => (HOC1.out.lt k hk).1
                have hn1 := HN1.out.size
                have hn2 := hgrow.size
                have hrp9 := row_grown (B := W5.heap.size) HRO1.out hgrow hgk HOBl.out
                have HG9 := hide (show GrowS W5.heap.size Z9 (.slice pv (D0 + 1) cv) (cs ++ [.string bt.1, .slice (some ⟨ga, 0, none⟩) (H - ca) 0]) ((L ++ D.map (fun l => (bt.1, l))) ++ [(bt.1, (bt.2.drop ca).take (H - ca))]) from
                  HGz.out.snoc HCLz.out HN1.out HLO5.out (Nat.le_trans HZw.out hn1) (fun g hg => (HOBz.out g hg).symm.imp id id) (by have := HB30.out.1; unfold maxLen; omega) (HPC.out.keep (SameIn.ofBelow HN1.out) hn1) hgrow hat)
                have HSame := hide (Same.set Z9 (g := OB) (j := 1) (.slice pv (D0 + 1) cv) HOBl.out)
                have HG10 := hide (HG9.out.same HSame.out)
                have HO10 := hide (show (Z9.setCell ⟨OB, 1, none⟩ (.slice pv (D0 + 1) cv)).ownsRow W5.heap.size 49 2 (.slice pv (D0 + 1) cv) ((L ++ D.map (fun l => (bt.1, l))) ++ [(bt.1, (bt.2.drop ca).take (H - ca))]).length (cs ++ [.string bt.1, .slice (some ⟨ga, 0, none⟩) (H - ca) 0]) by
                  rw [List.length_append, ← HDE.out]
                  exact own_sameB hown9 HSame.out)
                have HON9 := hide ((HONz.out.below HN1.out).grownB hgrow hgk)
                have HON10 := hide (HON9.out.set (j := 1) (.slice pv (D0 + 1) cv))
                have HRO10 := hide (show Row (Z9.setCell ⟨OB, 1, none⟩ (.slice pv (D0 + 1) cv)) OB 29 [.string n, .slice pv (D0 + 1) cv] by simpa using hrp9.set (j := 1) (.slice pv (D0 + 1) cv))
                have hzw := HZw.out
                have hobl := HOBl.out
                have hbko := HBKO.out
                have HSI10 := hide (show SameIn Bk w4.heap.size w4 (Z9.setCell ⟨OB, 1, none⟩ (.slice pv (D0 + 1) cv)) from fun b b1 b2 b3 => by
                  have e1 : (Z9.setCell ⟨OB, 1, none⟩ (.slice pv (D0 + 1) cv)).heap[b]? = Z9.heap[b]? := Below.heap_setCell Z9 ⟨OB, 1, none⟩ _ b (by show b ≠ OB; omega)
                  have e2 : Z9.heap[b]? = Z1.heap[b]? := hgrow.block b (by omega) (fun e => by have := HOBk.out b e.symm; omega)
                  rw [e1, e2, HN1.out.block b (by omega)]
                  exact HSI.out b b1 b2 b3)
                have hsz9 : (Z9.setCell ⟨OB, 1, none⟩ (.slice pv (D0 + 1) cv)).heap.size = Z9.heap.size := by simp [World.setCell]
                have HOB10 := hide (show ∀ g, (Value.slice pv (D0 + 1) cv).ownBlock = some g → g < Bk ∨ w4.heap.size ≤ g from fun g hg => by
                  rcases hat with h | h
                  · rw [h] at hg; exact HOBk.out g hg
                  · rw [h] at hg; cases hg; exact .inr (by omega))
                have HZ10 := hide (show w4.heap.size ≤ (Z9.setCell ⟨OB, 1, none⟩ (.slice pv (D0 + 1) cv)).heap.size by omega)
                have HS9 : Hid ((fun y : World => y.cell? ⟨Bk, 0, none⟩ = some (.string bt.1)) Z9) := hide (by
                  have hb : Z9.heap[Bk]? = Z1.heap[Bk]? := hgrow.block _ (by have := HBLt.out; omega) (fun e => by have := HOBk.out Bk e.symm; have := HBLt.out; omega)
                  exact (World.cell?_of_block hb).trans HS.out)
                have HSF : Hid ((fun y : World => y.cell? ⟨Bk, 0, none⟩ = some (.string bt.1)) (Z9.setCell ⟨OB, 1, none⟩ (.slice pv (D0 + 1) cv))) := hide (by
                  have hb : (Z9.setCell ⟨OB, 1, none⟩ (.slice pv (D0 + 1) cv)).heap[Bk]? = Z9.heap[Bk]? := Below.heap_setCell Z9 ⟨OB, 1, none⟩ _ Bk (by show Bk ≠ OB; omega)
                  exact (World.cell?_of_block hb).trans HS9.out)
                have HRO9 := hide hrp9
                clear hown9 hgrow hat hgk hrp9 hsz9
                refine hK.out _ _ HS9.out (fun _ => ?_)
                clear hK K HS
                have HS := HS9
                try simp only [Act.put, List.getElem_toArray, List.getElem_cons_zero, List.getElem_cons_succ, List.setIfInBounds_toArray, List.set_cons_zero, List.set_cons_succ]
                refine wpAnyH_take (i := 16) (oi := _) (v := .pointer (some ⟨OB, 1, none⟩)) rfl (by kernel_rfl) (by kernel_rfl) (by kernel_rfl) (fun _ _ _ h => h) (Or.inl ⟨by rfl, by intro w hSw; go_split_ands; go_simp⟩) HS.out ?_
                simp only [Act.put, List.getElem_toArray, List.getElem_cons_zero, List.getElem_cons_succ, List.setIfInBounds_toArray, List.set_cons_zero, List.set_cons_succ]
                refine wpAnyH_ready (rs := [17]) (by kernel_rfl) (by simp) ?_
                refine AllReadyH.cons (o := _) rfl (fun K hK => ?_) AllReadyH.nil
                have c9 : Z9.cell? ⟨OB, 1, none⟩ = some l := HRO9.out.cell 1
                have f9 := HRO9.out.free 1
                go_simp
                refine hK.out _ _ HSF.out (fun _ => ?_)
                clear hK K HS
                refine wpAnyH_done (by kernel_rfl) ?_ _
                rw [show (L ++ D.map (fun l => (bt.1, l))) ++ [(bt.1, (bt.2.drop ca).take (H - ca))] = L ++ (D ++ [(bt.2.drop ca).take (H - ca)]).map (fun l => (bt.1, l)) by simp] at HO10 HG10
                go_wp2
                go_roundw
                case rel => exact ⟨_, ca + M, _, D ++ [(bt.2.drop ca).take (H - ca)], _, rfl, by have := HAT.out; omega, by go_num, HRO10, HO10, HG10, HON10, HSI10, HOB10, HZ10, hide HCON.out.1, hide HCON.out.2⟩
                case measure => simp [intOf]; have := HAT.out; omega
              · go_simp
                have HN1 := hide (HN0.out.alloc HN0.out.size (.cells #[.string bt.1, .slice (some ⟨ga, 0, none⟩) (H - ca) 0] 49))
                have HRO1 := hide (HRO0.out.alloc (.cells #[.string bt.1, .slice (some ⟨ga, 0, none⟩) (H - ca) 0] 49))
                have HOC1 := hide (HOC0.out.alloc (.cells #[.string bt.1, .slice (some ⟨ga, 0, none⟩) (H - ca) 0] 49))
                have HR1 := hide (row_cellsM (row_new Z0 [.string bt.1, .slice (some ⟨ga, 0, none⟩) (H - ca) 0] 49))
                refine hK.out _ _ (HSS.out _ HN1.out) (fun _ => ?_)
                clear hK K HS
                generalize hZ : Z0.alloc (.cells #[.string bt.1, .slice (some ⟨ga, 0, none⟩) (H - ca) 0] 49) = Z1 at HN1 HRO1 HOC1 HR1 ⊢
                generalize Z0.heap.size = E5 at HR1 ⊢
                clear hZ
                have HS := hide (HSS.out _ HN1.out)
                try simp only [Act.put, List.getElem_toArray, List.getElem_cons_zero, List.getElem_cons_succ, List.setIfInBounds_toArray, List.set_cons_zero, List.set_cons_succ]
                refine wpAnyH_ready (rs := [1]) (by kernel_rfl) (by simp) ?_
                refine AllReadyH.cons (o := _) rfl (fun K hK => ?_) AllReadyH.nil
                have c5 : Z1.cell? ⟨OB, 1, none⟩ = some l := (HRO1.out).cell 1
                go_simp
                refine hK.out _ _ HS.out (fun _ => ?_)
                clear hK K c5
                try simp only [Act.put, List.getElem_toArray, List.getElem_cons_zero, List.getElem_cons_succ, List.setIfInBounds_toArray, List.set_cons_zero, List.set_cons_succ]
                have HSZ := hide (show W5.heap.size ≤ Z1.heap.size from Nat.le_trans HZs.out HN1.out.size)
                refine wpAnyH_ready (rs := [15]) (by kernel_rfl) (by simp) ?_
                refine AllReadyH.cons (o := _) rfl (fun K hK => ?_) AllReadyH.nil
                refine step_own (w := Z1) rfl (.tmp 50) (.tmp 63) 27 rfl W5.heap.size 49 i0 _ 2 40 Tryz.underlying27 hi hz0 hz1 hz2 HZC.out (by omega) _ D0 cs rfl HOC1.out ⟨E5, 0, none⟩ 1 _ [.string bt.1, .slice (some ⟨ga, 0, none⟩) (H - ca) 0] rfl rfl HR1.out (by simp [Value.oneCell']) (by unfold maxLen; have := HD0.out; omega) (by have := HD0.out; omega) HSZ.out ?_
                intro v9 Z9 hown9 hgrow hat
                obtain ⟨pv, cv, hv9⟩ := own_slice1 hown9
                subst hv9
                have hgk : ∀ k, l.ownBlock = some k → W5.heap.size ≤ k := fun k hk => (HOC1.out.lt k hk).1
                have hn1 := HN1.out.size
                have hn2 := hgrow.size
                have hrp9 := row_grown (B := W5.heap.size) HRO1.out hgrow hgk HOBl.out
                have HG9 := hide (show GrowS W5.heap.size Z9 (.slice pv (D0 + 1) cv) (cs ++ [.string bt.1, .slice (some ⟨ga, 0, none⟩) (H - ca) 0]) ((L ++ D.map (fun l => (bt.1, l))) ++ [(bt.1, (bt.2.drop ca).take (H - ca))]) from
                  HGz.out.snoc HCLz.out HN1.out HLO5.out (Nat.le_trans HZw.out hn1) (fun g hg => (HOBz.out g hg).symm.imp id id) (by have := HB30.out.1; unfold maxLen; omega) (HPC.out.keep (SameIn.ofBelow HN1.out) hn1) hgrow hat)
                have HSame := hide (Same.set Z9 (g := OB) (j := 1) (.slice pv (D0 + 1) cv) HOBl.out)
                have HG10 := hide (HG9.out.same HSame.out)
                have HO10 := hide (show (Z9.setCell ⟨OB, 1, none⟩ (.slice pv (D0 + 1) cv)).ownsRow W5.heap.size 49 2 (.slice pv (D0 + 1) cv) ((L ++ D.map (fun l => (bt.1, l))) ++ [(bt.1, (bt.2.drop ca).take (H - ca))]).length (cs ++ [.string bt.1, .slice (some ⟨ga, 0, none⟩) (H - ca) 0]) by
                  rw [List.length_append, ← HDE.out]
                  exact own_sameB hown9 HSame.out)
                have HON9 := hide ((HONz.out.below HN1.out).grownB hgrow hgk)
                have HON10 := hide (HON9.out.set (j := 1) (.slice pv (D0 + 1) cv))
                have HRO10 := hide (show Row (Z9.setCell ⟨OB, 1, none⟩ (.slice pv (D0 + 1) cv)) OB 29 [.string n, .slice pv (D0 + 1) cv] by simpa using hrp9.set (j := 1) (.slice pv (D0 + 1) cv))
                have hzw := HZw.out
                have hobl := HOBl.out
                have hbko := HBKO.out
                have HSI10 := hide (show SameIn Bk w4.heap.size w4 (Z9.setCell ⟨OB, 1, none⟩ (.slice pv (D0 + 1) cv)) from fun b b1 b2 b3 => by
                  have e1 : (Z9.setCell ⟨OB, 1, none⟩ (.slice pv (D0 + 1) cv)).heap[b]? = Z9.heap[b]? := Below.heap_setCell Z9 ⟨OB, 1, none⟩ _ b (by show b ≠ OB; omega)
                  have e2 : Z9.heap[b]? = Z1.heap[b]? := hgrow.block b (by omega) (fun e => by have := HOBk.out b e.symm; omega)
                  rw [e1, e2, HN1.out.block b (by omega)]
                  exact HSI.out b b1 b2 b3)
                have hsz9 : (Z9.setCell ⟨OB, 1, none⟩ (.slice pv (D0 + 1) cv)).heap.size = Z9.heap.size := by simp [World.setCell]
                have HOB10 := hide (show ∀ g, (Value.slice pv (D0 + 1) cv).ownBlock = some g → g < Bk ∨ w4.heap.size ≤ g from fun g hg => by
                  rcases hat with h | h
                  · rw [h] at hg; exact HOBk.out g hg
                  · rw [h] at hg; cases hg; exact .inr (by omega))
                have HZ10 := hide (show w4.heap.size ≤ (Z9.setCell ⟨OB, 1, none⟩ (.slice pv (D0 + 1) cv)).heap.size by omega)
                have HS9 : Hid ((fun y : World => y.cell? ⟨Bk, 0, none⟩ = some (.string bt.1)) Z9) := hide (by
                  have hb : Z9.heap[Bk]? = Z1.heap[Bk]? := hgrow.block _ (by have := HBLt.out; omega) (fun e => by have := HOBk.out Bk e.symm; have := HBLt.out; omega)
                  exact (World.cell?_of_block hb).trans HS.out)
                have HSF : Hid ((fun y : World => y.cell? ⟨Bk, 0, none⟩ = some (.string bt.1)) (Z9.setCell ⟨OB, 1, none⟩ (.slice pv (D0 + 1) cv))) := hide (by
                  have hb : (Z9.setCell ⟨OB, 1, none⟩ (.slice pv (D0 + 1) cv)).heap[Bk]? = Z9.heap[Bk]? := Below.heap_setCell Z9 ⟨OB, 1, none⟩ _ Bk (by show Bk ≠ OB; omega)
                  exact (World.cell?_of_block hb).trans HS9.out)
                have HRO9 := hide hrp9
                clear hown9 hgrow hat hgk hrp9 hsz9
                refine hK.out _ _ HS9.out (fun _ => ?_)
                clear hK K HS
                have HS := HS9
                try simp only [Act.put, List.getElem_toArray, List.getElem_cons_zero, List.getElem_cons_succ, List.setIfInBounds_toArray, List.set_cons_zero, List.set_cons_succ]
                refine wpAnyH_take (i := 16) (oi := _) (v := .pointer (some ⟨OB, 1, none⟩)) rfl (by kernel_rfl) (by kernel_rfl) (by kernel_rfl) (fun _ _ _ h => h) (Or.inl ⟨by rfl, by intro w hSw; go_split_ands; go_simp⟩) HS.out ?_
                simp only [Act.put, List.getElem_toArray, List.getElem_cons_zero, List.getElem_cons_succ, List.setIfInBounds_toArray, List.set_cons_zero, List.set_cons_succ]
                refine wpAnyH_ready (rs := [17]) (by kernel_rfl) (by simp) ?_
                refine AllReadyH.cons (o := _) rfl (fun K hK => ?_) AllReadyH.nil
                have c9 : Z9.cell? ⟨OB, 1, none⟩ = some l := HRO9.out.cell 1
                have f9 := HRO9.out.free 1
                go_simp
                refine hK.out _ _ HSF.out (fun _ => ?_)
                clear hK K HS
                refine wpAnyH_done (by kernel_rfl) ?_ _
                rw [show (L ++ D.map (fun l => (bt.1, l))) ++ [(bt.1, (bt.2.drop ca).take (H - ca))] = L ++ (D ++ [(bt.2.drop ca).take (H - ca)]).map (fun l => (bt.1, l)) by simp] at HO10 HG10
                go_wp2
                go_roundw
                case rel => exact ⟨_, ca + M, _, D ++ [(bt.2.drop ca).take (H - ca)], _, rfl, by have := HAT.out; omega, by go_num, HRO10, HO10, HG10, HON10, HSI10, HOB10, HZ10, hide HCON.out.1, hide HCON.out.2⟩
                case measure => simp [intOf]; have := HAT.out; omega

          · have HPC := hide (show OR w3.heap.size w4.heap.size Z (.slice (some ⟨ga, at_ * 2, none⟩) (H - at_) (ca - at_)) ((bt.2.drop at_).take (H - at_)) from ⟨w4, Nat.le_refl _, RMsgs.takeM (by have h9 := HRA.out.dropM (show at_ ≤ bt.2.length by omega); rw [Nat.zero_add] at h9; exact h9) (by rw [List.length_drop]; omega), HSI2.out, HZw.out⟩)
            by_cases hz0 : at_ = 0
            · have hcz : ((at_ : Int) == 0) = true := by rw [hz0]; rfl
              clear hz0
              go_wp2_with fail
              have HSS := hide (show ∀ y, Below Z.heap.size Z y → (fun y : World => y.cell? ⟨Bk, 0, none⟩ = some (.string bt.1)) y from fun y h => (HRBz.out.below h HRBz.out.lt).cell 0)
              refine wp_region_held (S := (fun y : World => y.cell? ⟨Bk, 0, none⟩ = some (.string bt.1))) (by kernel_rfl) ?_
              have HN0 := hide (show Below Z.heap.size Z { Z with drawn := Z.drawn + 1 } from (Below.refl _ _).drew)
              have HRO0 := hide (HROz.out.below HN0.out HROz.out.lt)
              have HOC0 := hide (own_below HOz.out HN0.out)
              generalize ({ Z with drawn := Z.drawn + 1 } : World) = Z0 at HN0 HRO0 HOC0 ⊢
              have HS := hide (HSS.out _ HN0.out)
              refine wpAnyH_take (i := 0) (oi := _) (v := .pointer (some ⟨OB, 1, none⟩)) rfl (by kernel_rfl) (by kernel_rfl) (by kernel_rfl) (fun _ _ _ h => h) (Or.inl ⟨by rfl, by intro w hSw; go_split_ands; go_simp⟩) HS.out ?_
              simp only [Act.put, List.getElem_toArray, List.getElem_cons_zero, List.setIfInBounds_toArray, List.set_cons_zero, List.set_cons_succ]
              refine wpAnyH_take (i := 2) (oi := _) (v := .pointer (some ⟨Bk, 0, none⟩)) rfl (by kernel_rfl) (by kernel_rfl) (by kernel_rfl) (fun _ _ _ h => h) (Or.inl ⟨by rfl, by intro w hSw; go_split_ands; go_simp⟩) HS.out ?_
              simp only [Act.put, List.getElem_toArray, List.getElem_cons_zero, List.getElem_cons_succ, List.setIfInBounds_toArray, List.set_cons_zero, List.set_cons_succ]
              refine wpAnyH_take (i := 3) (oi := _) (v := .string bt.1) rfl (by kernel_rfl) (by kernel_rfl) (by kernel_rfl) (fun _ _ _ h => h) (Or.inl ⟨by rfl, by intro w hSw; go_split_ands; go_simp⟩) HS.out ?_
              simp only [Act.put, List.getElem_toArray, List.getElem_cons_zero, List.getElem_cons_succ, List.setIfInBounds_toArray, List.set_cons_zero, List.set_cons_succ]
              refine wpAnyH_take (i := 4) (oi := _) (v := .slice (some ⟨ga, 0, none⟩) bt.2.length ca) rfl (by kernel_rfl) (by kernel_rfl) (by kernel_rfl) (fun _ _ _ h => h) (Or.inl ⟨by rfl, by intro w hSw; go_split_ands; go_simp⟩) HS.out ?_
              simp only [Act.put, List.getElem_toArray, List.getElem_cons_zero, List.getElem_cons_succ, List.setIfInBounds_toArray, List.set_cons_zero, List.set_cons_succ]
              refine wpAnyH_take (i := 5) (oi := _) (v := .int .i64 (at_ : Int)) rfl (by kernel_rfl) (by kernel_rfl) (by kernel_rfl) (fun _ _ _ h => h) (Or.inl ⟨by rfl, by intro w hSw; go_split_ands; go_simp⟩) HS.out ?_
              simp only [Act.put, List.getElem_toArray, List.getElem_cons_zero, List.getElem_cons_succ, List.setIfInBounds_toArray, List.set_cons_zero, List.set_cons_succ]
              refine wpAnyH_take (i := 6) (oi := _) (v := .slice (some ⟨ga, 0, none⟩) bt.2.length ca) rfl (by kernel_rfl) (by kernel_rfl) (by kernel_rfl) (fun _ _ _ h => h) (Or.inl ⟨by rfl, by intro w hSw; go_split_ands; go_simp⟩) HS.out ?_
              simp only [Act.put, List.getElem_toArray, List.getElem_cons_zero, List.getElem_cons_succ, List.setIfInBounds_toArray, List.set_cons_zero, List.set_cons_succ]
              refine wpAnyH_take (i := 7) (oi := _) (v := .int .i64 (bt.2.length : Int)) rfl (by kernel_rfl) (by kernel_rfl) (by kernel_rfl) (fun _ _ _ h => h) (Or.inl ⟨by rfl, by intro w hSw; go_split_ands; go_simp⟩) HS.out ?_
              simp only [Act.put, List.getElem_toArray, List.getElem_cons_zero, List.getElem_cons_succ, List.setIfInBounds_toArray, List.set_cons_zero, List.set_cons_succ]
              refine wpAnyH_take (i := 8) (oi := _) (v := .int .i64 (at_ : Int)) rfl (by kernel_rfl) (by kernel_rfl) (by kernel_rfl) (fun _ _ _ h => h) (Or.inl ⟨by rfl, by intro w hSw; go_split_ands; go_simp⟩) HS.out ?_
              simp only [Act.put, List.getElem_toArray, List.getElem_cons_zero, List.getElem_cons_succ, List.setIfInBounds_toArray, List.set_cons_zero, List.set_cons_succ]
              refine wpAnyH_take (i := 9) (oi := _) (v := .int .i64 (M : Int)) rfl (by kernel_rfl) (by kernel_rfl) (by kernel_rfl) (fun _ _ _ h => h) (Or.inl ⟨by rfl, by intro w hSw; go_split_ands; go_simp⟩) HS.out ?_
              simp only [Act.put, List.getElem_toArray, List.getElem_cons_zero, List.getElem_cons_succ, List.setIfInBounds_toArray, List.set_cons_zero, List.set_cons_succ]
              refine wpAnyH_take (i := 10) (oi := _) (v := .int .i64 ((at_ : Int) + (M : Int))) rfl (by kernel_rfl) (by kernel_rfl) (by kernel_rfl) (fun _ _ _ h => h) (Or.inl ⟨by rfl, by intro w hSw; go_split_ands; go_simp⟩) HS.out ?_
              simp only [Act.put, List.getElem_toArray, List.getElem_cons_zero, List.getElem_cons_succ, List.setIfInBounds_toArray, List.set_cons_zero, List.set_cons_succ]
              refine wpAnyH_ready (rs := [1, 11]) (by kernel_rfl) (by simp) ?_
              refine AllReadyH.cons (o := _) rfl (fun K hK => ?_) (AllReadyH.cons (o := _) rfl (fun K hK => ?_) AllReadyH.nil)
              · have c5 : Z0.cell? ⟨OB, 1, none⟩ = some l := (HRO0.out).cell 1
                go_simp
                refine hK.out _ _ HS.out (fun _ => ?_)
                clear hK K c5
                try simp only [Act.put, List.getElem_toArray, List.getElem_cons_zero, List.getElem_cons_succ, List.setIfInBounds_toArray, List.set_cons_zero, List.set_cons_succ]
                refine wpAnyH_ready (rs := [11]) (by kernel_rfl) (by simp) ?_
                refine AllReadyH.cons (o := _) rfl (fun K hK => ?_) AllReadyH.nil
                go_simp
                refine (l01MinB_any _ _ _).mono ?_
                rintro e w9 ⟨rfl, hw9⟩
                rw [hw9]
                clear hw9 w9
                rw [show min (bt.2.length : Int) ((at_ : Int) + (M : Int)) = (H : Int) from HH.out]
                refine hK.out _ _ HS.out (fun _ => ?_)
                clear hK K
                try simp only [Act.put, List.getElem_toArray, List.getElem_cons_zero, List.getElem_cons_succ, List.setIfInBounds_toArray, List.set_cons_zero, List.set_cons_succ]
                refine wpAnyH_take (i := 12) (oi := _) (v := .slice (some ⟨ga, at_ * 2, none⟩) (H - at_) (ca - at_)) rfl (by kernel_rfl) (by kernel_rfl) (by kernel_rfl) (fun _ _ _ h => h) (Or.inl ⟨by rfl, by intro w hSw; go_split_ands; go_simp⟩) HS.out ?_
                simp only [Act.put, List.getElem_toArray, List.getElem_cons_zero, List.getElem_cons_succ, List.setIfInBounds_toArray, List.set_cons_zero, List.set_cons_succ]
                refine wpAnyH_take (i := 13) (oi := _) (v := .agg #[.string bt.1, .slice (some ⟨ga, at_ * 2, none⟩) (H - at_) (ca - at_)]) rfl (by kernel_rfl) (by kernel_rfl) (by kernel_rfl) (fun _ _ _ h => h) (Or.inl ⟨by rfl, by intro w hSw; go_split_ands; go_simp⟩) HS.out ?_
                simp only [Act.put, List.getElem_toArray, List.getElem_cons_zero, List.getElem_cons_succ, List.setIfInBounds_toArray, List.set_cons_zero, List.set_cons_succ]
                refine wpAnyH_ready (rs := [14]) (by kernel_rfl) (by simp) ?_
                refine AllReadyH.cons (o := _) rfl (fun K hK => ?_) AllReadyH.nil
                go_simp
                have HN1 := hide (HN0.out.alloc HN0.out.size (.cells #[.string bt.1, .slice (some ⟨ga, at_ * 2, none⟩) (H - at_) (ca - at_)] 49))
                have HRO1 := hide (HRO0.out.alloc (.cells #[.string bt.1, .slice (some ⟨ga, at_ * 2, none⟩) (H - at_) (ca - at_)] 49))
                have HOC1 := hide (HOC0.out.alloc (.cells #[.string bt.1, .slice (some ⟨ga, at_ * 2, none⟩) (H - at_) (ca - at_)] 49))
                have HR1 := hide (row_cellsM (row_new Z0 [.string bt.1, .slice (some ⟨ga, at_ * 2, none⟩) (H - at_) (ca - at_)] 49))
                refine hK.out _ _ (HSS.out _ HN1.out) (fun _ => ?_)
                clear hK K HS
                generalize hZ : Z0.alloc (.cells #[.string bt.1, .slice (some ⟨ga, at_ * 2, none⟩) (H - at_) (ca - at_)] 49) = Z1 at HN1 HRO1 HOC1 HR1 ⊢
                generalize Z0.heap.size = E5 at HR1 ⊢
                clear hZ
                have HS := hide (HSS.out _ HN1.out)
                try simp only [Act.put, List.getElem_toArray, List.getElem_cons_zero, List.getElem_cons_succ, List.setIfInBounds_toArray, List.set_cons_zero, List.set_cons_succ]
                have HSZ := hide (show W5.heap.size ≤ Z1.heap.size from Nat.le_trans HZs.out HN1.out.size)
                refine wpAnyH_ready (rs := [15]) (by kernel_rfl) (by simp) ?_
                refine AllReadyH.cons (o := _) rfl (fun K hK => ?_) AllReadyH.nil
                refine step_own (w := Z1) rfl (.tmp 50) (.tmp 63) 27 rfl W5.heap.size 49 i0 _ 2 40 Tryz.underlying27 hi hz0 hz1 hz2 HZC.out (by omega) _ D0 cs rfl HOC1.out ⟨E5, 0, none⟩ 1 _ [.string bt.1, .slice (some ⟨ga, at_ * 2, none⟩) (H - at_) (ca - at_)] rfl rfl HR1.out (by simp [Value.oneCell']) (by unfold maxLen; have := HD0.out; omega) (by have := HD0.out; omega) HSZ.out ?_
                intro v9 Z9 hown9 hgrow hat
                obtain ⟨pv, cv, hv9⟩ := own_slice1 hown9
                subst hv9
                have hgk : ∀ k, l.ownBlock = some k → W5.heap.size ≤ k := fun k hk => (HOC1.out.lt k hk).1
                have hn1 := HN1.out.size
                have hn2 := hgrow.size
                have hrp9 := row_grown (B := W5.heap.size) HRO1.out hgrow hgk HOBl.out
                have HG9 := hide (show GrowS W5.heap.size Z9 (.slice pv (D0 + 1) cv) (cs ++ [.string bt.1, .slice (some ⟨ga, at_ * 2, none⟩) (H - at_) (ca - at_)]) ((L ++ D.map (fun l => (bt.1, l))) ++ [(bt.1, (bt.2.drop at_).take (H - at_))]) from
                  HGz.out.snoc HCLz.out HN1.out HLO5.out (Nat.le_trans HZw.out hn1) (fun g hg => (HOBz.out g hg).symm.imp id id) (by have := HB30.out.1; unfold maxLen; omega) (HPC.out.keep (SameIn.ofBelow HN1.out) hn1) hgrow hat)
                have HSame := hide (Same.set Z9 (g := OB) (j := 1) (.slice pv (D0 + 1) cv) HOBl.out)
                have HG10 := hide (HG9.out.same HSame.out)
                have HO10 := hide (show (Z9.setCell ⟨OB, 1, none⟩ (.slice pv (D0 + 1) cv)).ownsRow W5.heap.size 49 2 (.slice pv (D0 + 1) cv) ((L ++ D.map (fun l => (bt.1, l))) ++ [(bt.1, (bt.2.drop at_).take (H - at_))]).length (cs ++ [.string bt.1, .slice (some ⟨ga, at_ * 2, none⟩) (H - at_) (ca - at_)]) by
                  rw [List.length_append, ← HDE.out]
                  exact own_sameB hown9 HSame.out)
                have HON9 := hide ((HONz.out.below HN1.out).grownB hgrow hgk)
                have HON10 := hide (HON9.out.set (j := 1) (.slice pv (D0 + 1) cv))
                have HRO10 := hide (show Row (Z9.setCell ⟨OB, 1, none⟩ (.slice pv (D0 + 1) cv)) OB 29 [.string n, .slice pv (D0 + 1) cv] by simpa using hrp9.set (j := 1) (.slice pv (D0 + 1) cv))
                have hzw := HZw.out
                have hobl := HOBl.out
                have hbko := HBKO.out
                have HSI10 := hide (show SameIn Bk w4.heap.size w4 (Z9.setCell ⟨OB, 1, none⟩ (.slice pv (D0 + 1) cv)) from fun b b1 b2 b3 => by
                  have e1 : (Z9.setCell ⟨OB, 1, none⟩ (.slice pv (D0 + 1) cv)).heap[b]? = Z9.heap[b]? := Below.heap_setCell Z9 ⟨OB, 1, none⟩ _ b (by show b ≠ OB; omega)
                  have e2 : Z9.heap[b]? = Z1.heap[b]? := hgrow.block b (by omega) (fun e => by have := HOBk.out b e.symm; omega)
                  rw [e1, e2, HN1.out.block b (by omega)]
                  exact HSI.out b b1 b2 b3)
                have hsz9 : (Z9.setCell ⟨OB, 1, none⟩ (.slice pv (D0 + 1) cv)).heap.size = Z9.heap.size := by simp [World.setCell]
                have HOB10 := hide (show ∀ g, (Value.slice pv (D0 + 1) cv).ownBlock = some g → g < Bk ∨ w4.heap.size ≤ g from fun g hg => by
                  rcases hat with h | h
                  · rw [h] at hg; exact HOBk.out g hg
                  · rw [h] at hg; cases hg; exact .inr (by omega))
                have HZ10 := hide (show w4.heap.size ≤ (Z9.setCell ⟨OB, 1, none⟩ (.slice pv (D0 + 1) cv)).heap.size by omega)
                have HS9 : Hid ((fun y : World => y.cell? ⟨Bk, 0, none⟩ = some (.string bt.1)) Z9) := hide (by
                  have hb : Z9.heap[Bk]? = Z1.heap[Bk]? := hgrow.block _ (by have := HBLt.out; omega) (fun e => by have := HOBk.out Bk e.symm; have := HBLt.out; omega)
                  exact (World.cell?_of_block hb).trans HS.out)
                have HSF : Hid ((fun y : World => y.cell? ⟨Bk, 0, none⟩ = some (.string bt.1)) (Z9.setCell ⟨OB, 1, none⟩ (.slice pv (D0 + 1) cv))) := hide (by
                  have hb : (Z9.setCell ⟨OB, 1, none⟩ (.slice pv (D0 + 1) cv)).heap[Bk]? = Z9.heap[Bk]? := Below.heap_setCell Z9 ⟨OB, 1, none⟩ _ Bk (by show Bk ≠ OB; omega)
                  exact (World.cell?_of_block hb).trans HS9.out)
                have HRO9 := hide hrp9
                clear hown9 hgrow hat hgk hrp9 hsz9
                refine hK.out _ _ HS9.out (fun _ => ?_)
                clear hK K HS
                have HS := HS9
                try simp only [Act.put, List.getElem_toArray, List.getElem_cons_zero, List.getElem_cons_succ, List.setIfInBounds_toArray, List.set_cons_zero, List.set_cons_succ]
                refine wpAnyH_take (i := 16) (oi := _) (v := .pointer (some ⟨OB, 1, none⟩)) rfl (by kernel_rfl) (by kernel_rfl) (by kernel_rfl) (fun _ _ _ h => h) (Or.inl ⟨by rfl, by intro w hSw; go_split_ands; go_simp⟩) HS.out ?_
                simp only [Act.put, List.getElem_toArray, List.getElem_cons_zero, List.getElem_cons_succ, List.setIfInBounds_toArray, List.set_cons_zero, List.set_cons_succ]
                refine wpAnyH_ready (rs := [17]) (by kernel_rfl) (by simp) ?_
                refine AllReadyH.cons (o := _) rfl (fun K hK => ?_) AllReadyH.nil
                have c9 : Z9.cell? ⟨OB, 1, none⟩ = some l := HRO9.out.cell 1
                have f9 := HRO9.out.free 1
                go_simp
                refine hK.out _ _ HSF.out (fun _ => ?_)
                clear hK K HS
                refine wpAnyH_done (by kernel_rfl) ?_ _
                rw [show (L ++ D.map (fun l => (bt.1, l))) ++ [(bt.1, (bt.2.drop at_).take (H - at_))] = L ++ (D ++ [(bt.2.drop at_).take (H - at_)]).map (fun l => (bt.1, l)) by simp] at HO10 HG10
                go_wp2
                go_roundw
                case rel => exact ⟨_, at_ + M, _, D ++ [(bt.2.drop at_).take (H - at_)], _, rfl, by have := HAT.out; omega, by go_num, HRO10, HO10, HG10, HON10, HSI10, HOB10, HZ10, hide HCON.out.1, hide HCON.out.2⟩
                case measure => simp [intOf]; have := HAT.out; omega
              · go_simp
                refine (l01MinB_any _ _ _).mono ?_
                rintro e w9 ⟨rfl, hw9⟩
                rw [hw9]
                clear hw9 w9
                rw [show min (bt.2.length : Int) ((at_ : Int) + (M : Int)) = (H : Int) from HH.out]
                refine hK.out _ _ HS.out (fun _ => ?_)
                clear hK K
                try simp only [Act.put, List.getElem_toArray, List.getElem_cons_zero, List.getElem_cons_succ, List.setIfInBounds_toArray, List.set_cons_zero, List.set_cons_succ]
                refine wpAnyH_take (i := 12) (oi := _) (v := .slice (some ⟨ga, at_ * 2, none⟩) (H - at_) (ca - at_)) rfl (by kernel_rfl) (by kernel_rfl) (by kernel_rfl) (fun _ _ _ h => h) (Or.inl ⟨by rfl, by intro w hSw; go_split_ands; go_simp⟩) HS.out ?_
                simp only [Act.put, List.getElem_toArray, List.getElem_cons_zero, List.getElem_cons_succ, List.setIfInBounds_toArray, List.set_cons_zero, List.set_cons_succ]
                refine wpAnyH_take (i := 13) (oi := _) (v := .agg #[.string bt.1, .slice (some ⟨ga, at_ * 2, none⟩) (H - at_) (ca - at_)]) rfl (by kernel_rfl) (by kernel_rfl) (by kernel_rfl) (fun _ _ _ h => h) (Or.inl ⟨by rfl, by intro w hSw; go_split_ands; go_simp⟩) HS.out ?_
                simp only [Act.put, List.getElem_toArray, List.getElem_cons_zero, List.getElem_cons_succ, List.setIfInBounds_toArray, List.set_cons_zero, List.set_cons_succ]
                refine wpAnyH_ready (rs := [1, 14]) (by kernel_rfl) (by simp) ?_
                refine AllReadyH.cons (o := _) rfl (fun K hK => ?_) (AllReadyH.cons (o := _) rfl (fun K hK => ?_) AllReadyH.nil)
                · have c5 : Z0.cell? ⟨OB, 1, none⟩ = some l := (HRO0.out).cell 1
                  go_simp
                  refine hK.out _ _ HS.out (fun _ => ?_)
                  clear hK K c5
                  try simp only [Act.put, List.getElem_toArray, List.getElem_cons_zero, List.getElem_cons_succ, List.setIfInBounds_toArray, List.set_cons_zero, List.set_cons_succ]
                  refine wpAnyH_ready (rs := [14]) (by kernel_rfl) (by simp) ?_
                  refine AllReadyH.cons (o := _) rfl (fun K hK => ?_) AllReadyH.nil
                  go_simp
                  have HN1 := hide (HN0.out.alloc HN0.out.size (.cells #[.string bt.1, .slice (some ⟨ga, at_ * 2, none⟩) (H - at_) (ca - at_)] 49))
                  have HRO1 := hide (HRO0.out.alloc (.cells #[.string bt.1, .slice (some ⟨ga, at_ * 2, none⟩) (H - at_) (ca - at_)] 49))
                  have HOC1 := hide (HOC0.out.alloc (.cells #[.string bt.1, .slice (some ⟨ga, at_ * 2, none⟩) (H - at_) (ca - at_)] 49))
                  have HR1 := hide (row_cellsM (row_new Z0 [.string bt.1, .slice (some ⟨ga, at_ * 2, none⟩) (H - at_) (ca - at_)] 49))
                  refine hK.out _ _ (HSS.out _ HN1.out) (fun _ => ?_)
                  clear hK K HS
                  generalize hZ : Z0.alloc (.cells #[.string bt.1, .slice (some ⟨ga, at_ * 2, none⟩) (H - at_) (ca - at_)] 49) = Z1 at HN1 HRO1 HOC1 HR1 ⊢
                  generalize Z0.heap.size = E5 at HR1 ⊢
                  clear hZ
                  have HS := hide (HSS.out _ HN1.out)
                  try simp only [Act.put, List.getElem_toArray, List.getElem_cons_zero, List.getElem_cons_succ, List.setIfInBounds_toArray, List.set_cons_zero, List.set_cons_succ]
                  have HSZ := hide (show W5.heap.size ≤ Z1.heap.size from Nat.le_trans HZs.out HN1.out.size)
                  refine wpAnyH_ready (rs := [15]) (by kernel_rfl) (by simp) ?_
                  refine AllReadyH.cons (o := _) rfl (fun K hK => ?_) AllReadyH.nil
                  refine step_own (w := Z1) rfl (.tmp 50) (.tmp 63) 27 rfl W5.heap.size 49 i0 _ 2 40 Tryz.underlying27 hi hz0 hz1 hz2 HZC.out (by omega) _ D0 cs rfl HOC1.out ⟨E5, 0, none⟩ 1 _ [.string bt.1, .slice (some ⟨ga, at_ * 2, none⟩) (H - at_) (ca - at_)] rfl rfl HR1.out (by simp [Value.oneCell']) (by unfold maxLen; have := HD0.out; omega) (by have := HD0.out; omega) HSZ.out ?_
                  intro v9 Z9 hown9 hgrow hat
                  obtain ⟨pv, cv, hv9⟩ := own_slice1 hown9
                  subst hv9
                  have hgk : ∀ k, l.ownBlock = some k → W5.heap.size ≤ k := fun k hk => (HOC1.out.lt k hk).1
                  have hn1 := HN1.out.size
                  have hn2 := hgrow.size
                  have hrp9 := row_grown (B := W5.heap.size) HRO1.out hgrow hgk HOBl.out
                  have HG9 := hide (show GrowS W5.heap.size Z9 (.slice pv (D0 + 1) cv) (cs ++ [.string bt.1, .slice (some ⟨ga, at_ * 2, none⟩) (H - at_) (ca - at_)]) ((L ++ D.map (fun l => (bt.1, l))) ++ [(bt.1, (bt.2.drop at_).take (H - at_))]) from
                    HGz.out.snoc HCLz.out HN1.out HLO5.out (Nat.le_trans HZw.out hn1) (fun g hg => (HOBz.out g hg).symm.imp id id) (by have := HB30.out.1; unfold maxLen; omega) (HPC.out.keep (SameIn.ofBelow HN1.out) hn1) hgrow hat)
                  have HSame := hide (Same.set Z9 (g := OB) (j := 1) (.slice pv (D0 + 1) cv) HOBl.out)
                  have HG10 := hide (HG9.out.same HSame.out)
                  have HO10 := hide (show (Z9.setCell ⟨OB, 1, none⟩ (.slice pv (D0 + 1) cv)).ownsRow W5.heap.size 49 2 (.slice pv (D0 + 1) cv) ((L ++ D.map (fun l => (bt.1, l))) ++ [(bt.1, (bt.2.drop at_).take (H - at_))]).length (cs ++ [.string bt.1, .slice (some ⟨ga, at_ * 2, none⟩) (H - at_) (ca - at_)]) by
                    rw [List.length_append, ← HDE.out]
                    exact own_sameB hown9 HSame.out)
                  have HON9 := hide ((HONz.out.below HN1.out).grownB hgrow hgk)
                  have HON10 := hide (HON9.out.set (j := 1) (.slice pv (D0 + 1) cv))
                  have HRO10 := hide (show Row (Z9.setCell ⟨OB, 1, none⟩ (.slice pv (D0 + 1) cv)) OB 29 [.string n, .slice pv (D0 + 1) cv] by simpa using hrp9.set (j := 1) (.slice pv (D0 + 1) cv))
                  have hzw := HZw.out
                  have hobl := HOBl.out
                  have hbko := HBKO.out
                  have HSI10 := hide (show SameIn Bk w4.heap.size w4 (Z9.setCell ⟨OB, 1, none⟩ (.slice pv (D0 + 1) cv)) from fun b b1 b2 b3 => by
                    have e1 : (Z9.setCell ⟨OB, 1, none⟩ (.slice pv (D0 + 1) cv)).heap[b]? = Z9.heap[b]? := Below.heap_setCell Z9 ⟨OB, 1, none⟩ _ b (by show b ≠ OB; omega)
                    have e2 : Z9.heap[b]? = Z1.heap[b]? := hgrow.block b (by omega) (fun e => by have := HOBk.out b e.symm; omega)
                    rw [e1, e2, HN1.out.block b (by omega)]
                    exact HSI.out b b1 b2 b3)
                  have hsz9 : (Z9.setCell ⟨OB, 1, none⟩ (.slice pv (D0 + 1) cv)).heap.size = Z9.heap.size := by simp [World.setCell]
                  have HOB10 := hide (show ∀ g, (Value.slice pv (D0 + 1) cv).ownBlock = some g → g < Bk ∨ w4.heap.size ≤ g from fun g hg => by
                    rcases hat with h | h
                    · rw [h] at hg; exact HOBk.out g hg
                    · rw [h] at hg; cases hg; exact .inr (by omega))
                  have HZ10 := hide (show w4.heap.size ≤ (Z9.setCell ⟨OB, 1, none⟩ (.slice pv (D0 + 1) cv)).heap.size by omega)
                  have HS9 : Hid ((fun y : World => y.cell? ⟨Bk, 0, none⟩ = some (.string bt.1)) Z9) := hide (by
                    have hb : Z9.heap[Bk]? = Z1.heap[Bk]? := hgrow.block _ (by have := HBLt.out; omega) (fun e => by have := HOBk.out Bk e.symm; have := HBLt.out; omega)
                    exact (World.cell?_of_block hb).trans HS.out)
                  have HSF : Hid ((fun y : World => y.cell? ⟨Bk, 0, none⟩ = some (.string bt.1)) (Z9.setCell ⟨OB, 1, none⟩ (.slice pv (D0 + 1) cv))) := hide (by
                    have hb : (Z9.setCell ⟨OB, 1, none⟩ (.slice pv (D0 + 1) cv)).heap[Bk]? = Z9.heap[Bk]? := Below.heap_setCell Z9 ⟨OB, 1, none⟩ _ Bk (by show Bk ≠ OB; omega)
                    exact (World.cell?_of_block hb).trans HS9.out)
                  have HRO9 := hide hrp9
                  clear hown9 hgrow hat hgk hrp9 hsz9
                  refine hK.out _ _ HS9.out (fun _ => ?_)
                  clear hK K HS
                  have HS := HS9
                  try simp only [Act.put, List.getElem_toArray, List.getElem_cons_zero, List.getElem_cons_succ, List.setIfInBounds_toArray, List.set_cons_zero, List.set_cons_succ]
                  refine wpAnyH_take (i := 16) (oi := _) (v := .pointer (some ⟨OB, 1, none⟩)) rfl (by kernel_rfl) (by kernel_rfl) (by kernel_rfl) (fun _ _ _ h => h) (Or.inl ⟨by rfl, by intro w hSw; go_split_ands; go_simp⟩) HS.out ?_
                  simp only [Act.put, List.getElem_toArray, List.getElem_cons_zero, List.getElem_cons_succ, List.setIfInBounds_toArray, List.set_cons_zero, List.set_cons_succ]
                  refine wpAnyH_ready (rs := [17]) (by kernel_rfl) (by simp) ?_
                  refine AllReadyH.cons (o := _) rfl (fun K hK => ?_) AllReadyH.nil
                  have c9 : Z9.cell? ⟨OB, 1, none⟩ = some l := HRO9.out.cell 1
                  have f9 := HRO9.out.free 1
                  go_simp
                  refine hK.out _ _ HSF.out (fun _ => ?_)
                  clear hK K HS
                  refine wpAnyH_done (by kernel_rfl) ?_ _
                  rw [show (L ++ D.map (fun l => (bt.1, l))) ++ [(bt.1, (bt.2.drop at_).take (H - at_))] = L ++ (D ++ [(bt.2.drop at_).take (H - at_)]).map (fun l => (bt.1, l)) by simp] at HO10 HG10
                  go_wp2
                  go_roundw
                  case rel => exact ⟨_, at_ + M, _, D ++ [(bt.2.drop at_).take (H - at_)], _, rfl, by have := HAT.out; omega, by go_num, HRO10, HO10, HG10, HON10, HSI10, HOB10, HZ10, hide HCON.out.1, hide HCON.out.2⟩
                  case measure => simp [intOf]; have := HAT.out; omega
                · go_simp
                  have HN1 := hide (HN0.out.alloc HN0.out.size (.cells #[.string bt.1, .slice (some ⟨ga, at_ * 2, none⟩) (H - at_) (ca - at_)] 49))
                  have HRO1 := hide (HRO0.out.alloc (.cells #[.string bt.1, .slice (some ⟨ga, at_ * 2, none⟩) (H - at_) (ca - at_)] 49))
                  have HOC1 := hide (HOC0.out.alloc (.cells #[.string bt.1, .slice (some ⟨ga, at_ * 2, none⟩) (H - at_) (ca - at_)] 49))
                  have HR1 := hide (row_cellsM (row_new Z0 [.string bt.1, .slice (some ⟨ga, at_ * 2, none⟩) (H - at_) (ca - at_)] 49))
                  refine hK.out _ _ (HSS.out _ HN1.out) (fun _ => ?_)
                  clear hK K HS
                  generalize hZ : Z0.alloc (.cells #[.string bt.1, .slice (some ⟨ga, at_ * 2, none⟩) (H - at_) (ca - at_)] 49) = Z1 at HN1 HRO1 HOC1 HR1 ⊢
                  generalize Z0.heap.size = E5 at HR1 ⊢
                  clear hZ
                  have HS := hide (HSS.out _ HN1.out)
                  try simp only [Act.put, List.getElem_toArray, List.getElem_cons_zero, List.getElem_cons_succ, List.setIfInBounds_toArray, List.set_cons_zero, List.set_cons_succ]
                  refine wpAnyH_ready (rs := [1]) (by kernel_rfl) (by simp) ?_
                  refine AllReadyH.cons (o := _) rfl (fun K hK => ?_) AllReadyH.nil
                  have c5 : Z1.cell? ⟨OB, 1, none⟩ = some l := (HRO1.out).cell 1
                  go_simp
                  refine hK.out _ _ HS.out (fun _ => ?_)
                  clear hK K c5
                  try simp only [Act.put, List.getElem_toArray, List.getElem_cons_zero, List.getElem_cons_succ, List.setIfInBounds_toArray, List.set_cons_zero, List.set_cons_succ]
                  have HSZ := hide (show W5.heap.size ≤ Z1.heap.size from Nat.le_trans HZs.out HN1.out.size)
                  refine wpAnyH_ready (rs := [15]) (by kernel_rfl) (by simp) ?_
                  refine AllReadyH.cons (o := _) rfl (fun K hK => ?_) AllReadyH.nil
                  refine step_own (w := Z1) rfl (.tmp 50) (.tmp 63) 27 rfl W5.heap.size 49 i0 _ 2 40 Tryz.underlying27 hi hz0 hz1 hz2 HZC.out (by omega) _ D0 cs rfl HOC1.out ⟨E5, 0, none⟩ 1 _ [.string bt.1, .slice (some ⟨ga, at_ * 2, none⟩) (H - at_) (ca - at_)] rfl rfl HR1.out (by simp [Value.oneCell']) (by unfold maxLen; have := HD0.out; omega) (by have := HD0.out; omega) HSZ.out ?_
                  intro v9 Z9 hown9 hgrow hat
                  obtain ⟨pv, cv, hv9⟩ := own_slice1 hown9
                  subst hv9
                  have hgk : ∀ k, l.ownBlock = some k → W5.heap.size ≤ k := fun k hk => (HOC1.out.lt k hk).1
                  have hn1 := HN1.out.size
                  have hn2 := hgrow.size
                  have hrp9 := row_grown (B := W5.heap.size) HRO1.out hgrow hgk HOBl.out
                  have HG9 := hide (show GrowS W5.heap.size Z9 (.slice pv (D0 + 1) cv) (cs ++ [.string bt.1, .slice (some ⟨ga, at_ * 2, none⟩) (H - at_) (ca - at_)]) ((L ++ D.map (fun l => (bt.1, l))) ++ [(bt.1, (bt.2.drop at_).take (H - at_))]) from
                    HGz.out.snoc HCLz.out HN1.out HLO5.out (Nat.le_trans HZw.out hn1) (fun g hg => (HOBz.out g hg).symm.imp id id) (by have := HB30.out.1; unfold maxLen; omega) (HPC.out.keep (SameIn.ofBelow HN1.out) hn1) hgrow hat)
                  have HSame := hide (Same.set Z9 (g := OB) (j := 1) (.slice pv (D0 + 1) cv) HOBl.out)
                  have HG10 := hide (HG9.out.same HSame.out)
                  have HO10 := hide (show (Z9.setCell ⟨OB, 1, none⟩ (.slice pv (D0 + 1) cv)).ownsRow W5.heap.size 49 2 (.slice pv (D0 + 1) cv) ((L ++ D.map (fun l => (bt.1, l))) ++ [(bt.1, (bt.2.drop at_).take (H - at_))]).length (cs ++ [.string bt.1, .slice (some ⟨ga, at_ * 2, none⟩) (H - at_) (ca - at_)]) by
                    rw [List.length_append, ← HDE.out]
                    exact own_sameB hown9 HSame.out)
                  have HON9 := hide ((HONz.out.below HN1.out).grownB hgrow hgk)
                  have HON10 := hide (HON9.out.set (j := 1) (.slice pv (D0 + 1) cv))
                  have HRO10 := hide (show Row (Z9.setCell ⟨OB, 1, none⟩ (.slice pv (D0 + 1) cv)) OB 29 [.string n, .slice pv (D0 + 1) cv] by simpa using hrp9.set (j := 1) (.slice pv (D0 + 1) cv))
                  have hzw := HZw.out
                  have hobl := HOBl.out
                  have hbko := HBKO.out
                  have HSI10 := hide (show SameIn Bk w4.heap.size w4 (Z9.setCell ⟨OB, 1, none⟩ (.slice pv (D0 + 1) cv)) from fun b b1 b2 b3 => by
                    have e1 : (Z9.setCell ⟨OB, 1, none⟩ (.slice pv (D0 + 1) cv)).heap[b]? = Z9.heap[b]? := Below.heap_setCell Z9 ⟨OB, 1, none⟩ _ b (by show b ≠ OB; omega)
                    have e2 : Z9.heap[b]? = Z1.heap[b]? := hgrow.block b (by omega) (fun e => by have := HOBk.out b e.symm; omega)
                    rw [e1, e2, HN1.out.block b (by omega)]
                    exact HSI.out b b1 b2 b3)
                  have hsz9 : (Z9.setCell ⟨OB, 1, none⟩ (.slice pv (D0 + 1) cv)).heap.size = Z9.heap.size := by simp [World.setCell]
                  have HOB10 := hide (show ∀ g, (Value.slice pv (D0 + 1) cv).ownBlock = some g → g < Bk ∨ w4.heap.size ≤ g from fun g hg => by
                    rcases hat with h | h
                    · rw [h] at hg; exact HOBk.out g hg
                    · rw [h] at hg; cases hg; exact .inr (by omega))
                  have HZ10 := hide (show w4.heap.size ≤ (Z9.setCell ⟨OB, 1, none⟩ (.slice pv (D0 + 1) cv)).heap.size by omega)
                  have HS9 : Hid ((fun y : World => y.cell? ⟨Bk, 0, none⟩ = some (.string bt.1)) Z9) := hide (by
                    have hb : Z9.heap[Bk]? = Z1.heap[Bk]? := hgrow.block _ (by have := HBLt.out; omega) (fun e => by have := HOBk.out Bk e.symm; have := HBLt.out; omega)
                    exact (World.cell?_of_block hb).trans HS.out)
                  have HSF : Hid ((fun y : World => y.cell? ⟨Bk, 0, none⟩ = some (.string bt.1)) (Z9.setCell ⟨OB, 1, none⟩ (.slice pv (D0 + 1) cv))) := hide (by
                    have hb : (Z9.setCell ⟨OB, 1, none⟩ (.slice pv (D0 + 1) cv)).heap[Bk]? = Z9.heap[Bk]? := Below.heap_setCell Z9 ⟨OB, 1, none⟩ _ Bk (by show Bk ≠ OB; omega)
                    exact (World.cell?_of_block hb).trans HS9.out)
                  have HRO9 := hide hrp9
                  clear hown9 hgrow hat hgk hrp9 hsz9
                  refine hK.out _ _ HS9.out (fun _ => ?_)
                  clear hK K HS
                  have HS := HS9
                  try simp only [Act.put, List.getElem_toArray, List.getElem_cons_zero, List.getElem_cons_succ, List.setIfInBounds_toArray, List.set_cons_zero, List.set_cons_succ]
                  refine wpAnyH_take (i := 16) (oi := _) (v := .pointer (some ⟨OB, 1, none⟩)) rfl (by kernel_rfl) (by kernel_rfl) (by kernel_rfl) (fun _ _ _ h => h) (Or.inl ⟨by rfl, by intro w hSw; go_split_ands; go_simp⟩) HS.out ?_
                  simp only [Act.put, List.getElem_toArray, List.getElem_cons_zero, List.getElem_cons_succ, List.setIfInBounds_toArray, List.set_cons_zero, List.set_cons_succ]
                  refine wpAnyH_ready (rs := [17]) (by kernel_rfl) (by simp) ?_
                  refine AllReadyH.cons (o := _) rfl (fun K hK => ?_) AllReadyH.nil
                  have c9 : Z9.cell? ⟨OB, 1, none⟩ = some l := HRO9.out.cell 1
                  have f9 := HRO9.out.free 1
                  go_simp
                  refine hK.out _ _ HSF.out (fun _ => ?_)
                  clear hK K HS
                  refine wpAnyH_done (by kernel_rfl) ?_ _
                  rw [show (L ++ D.map (fun l => (bt.1, l))) ++ [(bt.1, (bt.2.drop at_).take (H - at_))] = L ++ (D ++ [(bt.2.drop at_).take (H - at_)]).map (fun l => (bt.1, l)) by simp] at HO10 HG10
                  go_wp2
                  go_roundw
                  case rel => exact ⟨_, at_ + M, _, D ++ [(bt.2.drop at_).take (H - at_)], _, rfl, by have := HAT.out; omega, by go_num, HRO10, HO10, HG10, HON10, HSI10, HOB10, HZ10, hide HCON.out.1, hide HCON.out.2⟩
                  case measure => simp [intOf]; have := HAT.out; omega

            · have hcz : ((at_ : Int) == 0) = false := beq_eq_false_iff_ne.2 (by omega)
              have hai : (at_ : Int) < (bt.2.length : Int) := by omega
              clear hz0
              go_wp2_with fail
              have HSS := hide (show ∀ y, Below Z.heap.size Z y → (fun y : World => y.cell? ⟨Bk, 0, none⟩ = some (.string bt.1)) y from fun y h => (HRBz.out.below h HRBz.out.lt).cell 0)
              refine wp_region_held (S := (fun y : World => y.cell? ⟨Bk, 0, none⟩ = some (.string bt.1))) (by kernel_rfl) ?_
              have HN0 := hide (show Below Z.heap.size Z { Z with drawn := Z.drawn + 1 } from (Below.refl _ _).drew)
              have HRO0 := hide (HROz.out.below HN0.out HROz.out.lt)
              have HOC0 := hide (own_below HOz.out HN0.out)
              generalize ({ Z with drawn := Z.drawn + 1 } : World) = Z0 at HN0 HRO0 HOC0 ⊢
              have HS := hide (HSS.out _ HN0.out)
              refine wpAnyH_take (i := 0) (oi := _) (v := .pointer (some ⟨OB, 1, none⟩)) rfl (by kernel_rfl) (by kernel_rfl) (by kernel_rfl) (fun _ _ _ h => h) (Or.inl ⟨by rfl, by intro w hSw; go_split_ands; go_simp⟩) HS.out ?_
              simp only [Act.put, List.getElem_toArray, List.getElem_cons_zero, List.setIfInBounds_toArray, List.set_cons_zero, List.set_cons_succ]
              refine wpAnyH_take (i := 2) (oi := _) (v := .pointer (some ⟨Bk, 0, none⟩)) rfl (by kernel_rfl) (by kernel_rfl) (by kernel_rfl) (fun _ _ _ h => h) (Or.inl ⟨by rfl, by intro w hSw; go_split_ands; go_simp⟩) HS.out ?_
              simp only [Act.put, List.getElem_toArray, List.getElem_cons_zero, List.getElem_cons_succ, List.setIfInBounds_toArray, List.set_cons_zero, List.set_cons_succ]
              refine wpAnyH_take (i := 3) (oi := _) (v := .string bt.1) rfl (by kernel_rfl) (by kernel_rfl) (by kernel_rfl) (fun _ _ _ h => h) (Or.inl ⟨by rfl, by intro w hSw; go_split_ands; go_simp⟩) HS.out ?_
              simp only [Act.put, List.getElem_toArray, List.getElem_cons_zero, List.getElem_cons_succ, List.setIfInBounds_toArray, List.set_cons_zero, List.set_cons_succ]
              refine wpAnyH_take (i := 4) (oi := _) (v := .slice (some ⟨ga, 0, none⟩) bt.2.length ca) rfl (by kernel_rfl) (by kernel_rfl) (by kernel_rfl) (fun _ _ _ h => h) (Or.inl ⟨by rfl, by intro w hSw; go_split_ands; go_simp⟩) HS.out ?_
              simp only [Act.put, List.getElem_toArray, List.getElem_cons_zero, List.getElem_cons_succ, List.setIfInBounds_toArray, List.set_cons_zero, List.set_cons_succ]
              refine wpAnyH_take (i := 5) (oi := _) (v := .int .i64 (at_ : Int)) rfl (by kernel_rfl) (by kernel_rfl) (by kernel_rfl) (fun _ _ _ h => h) (Or.inl ⟨by rfl, by intro w hSw; go_split_ands; go_simp⟩) HS.out ?_
              simp only [Act.put, List.getElem_toArray, List.getElem_cons_zero, List.getElem_cons_succ, List.setIfInBounds_toArray, List.set_cons_zero, List.set_cons_succ]
              refine wpAnyH_take (i := 6) (oi := _) (v := .slice (some ⟨ga, 0, none⟩) bt.2.length ca) rfl (by kernel_rfl) (by kernel_rfl) (by kernel_rfl) (fun _ _ _ h => h) (Or.inl ⟨by rfl, by intro w hSw; go_split_ands; go_simp⟩) HS.out ?_
              simp only [Act.put, List.getElem_toArray, List.getElem_cons_zero, List.getElem_cons_succ, List.setIfInBounds_toArray, List.set_cons_zero, List.set_cons_succ]
              refine wpAnyH_take (i := 7) (oi := _) (v := .int .i64 (bt.2.length : Int)) rfl (by kernel_rfl) (by kernel_rfl) (by kernel_rfl) (fun _ _ _ h => h) (Or.inl ⟨by rfl, by intro w hSw; go_split_ands; go_simp⟩) HS.out ?_
              simp only [Act.put, List.getElem_toArray, List.getElem_cons_zero, List.getElem_cons_succ, List.setIfInBounds_toArray, List.set_cons_zero, List.set_cons_succ]
              refine wpAnyH_take (i := 8) (oi := _) (v := .int .i64 (at_ : Int)) rfl (by kernel_rfl) (by kernel_rfl) (by kernel_rfl) (fun _ _ _ h => h) (Or.inl ⟨by rfl, by intro w hSw; go_split_ands; go_simp⟩) HS.out ?_
              simp only [Act.put, List.getElem_toArray, List.getElem_cons_zero, List.getElem_cons_succ, List.setIfInBounds_toArray, List.set_cons_zero, List.set_cons_succ]
              refine wpAnyH_take (i := 9) (oi := _) (v := .int .i64 (M : Int)) rfl (by kernel_rfl) (by kernel_rfl) (by kernel_rfl) (fun _ _ _ h => h) (Or.inl ⟨by rfl, by intro w hSw; go_split_ands; go_simp⟩) HS.out ?_
              simp only [Act.put, List.getElem_toArray, List.getElem_cons_zero, List.getElem_cons_succ, List.setIfInBounds_toArray, List.set_cons_zero, List.set_cons_succ]
              refine wpAnyH_take (i := 10) (oi := _) (v := .int .i64 ((at_ : Int) + (M : Int))) rfl (by kernel_rfl) (by kernel_rfl) (by kernel_rfl) (fun _ _ _ h => h) (Or.inl ⟨by rfl, by intro w hSw; go_split_ands; go_simp⟩) HS.out ?_
              simp only [Act.put, List.getElem_toArray, List.getElem_cons_zero, List.getElem_cons_succ, List.setIfInBounds_toArray, List.set_cons_zero, List.set_cons_succ]
              refine wpAnyH_ready (rs := [1, 11]) (by kernel_rfl) (by simp) ?_
              refine AllReadyH.cons (o := _) rfl (fun K hK => ?_) (AllReadyH.cons (o := _) rfl (fun K hK => ?_) AllReadyH.nil)
              · have c5 : Z0.cell? ⟨OB, 1, none⟩ = some l := (HRO0.out).cell 1
                go_simp
                refine hK.out _ _ HS.out (fun _ => ?_)
                clear hK K c5
                try simp only [Act.put, List.getElem_toArray, List.getElem_cons_zero, List.getElem_cons_succ, List.setIfInBounds_toArray, List.set_cons_zero, List.set_cons_succ]
                refine wpAnyH_ready (rs := [11]) (by kernel_rfl) (by simp) ?_
                refine AllReadyH.cons (o := _) rfl (fun K hK => ?_) AllReadyH.nil
                go_simp
                refine (l01MinB_any _ _ _).mono ?_
                rintro e w9 ⟨rfl, hw9⟩
                rw [hw9]
                clear hw9 w9
                rw [show min (bt.2.length : Int) ((at_ : Int) + (M : Int)) = (H : Int) from HH.out]
                refine hK.out _ _ HS.out (fun _ => ?_)
                clear hK K
                try simp only [Act.put, List.getElem_toArray, List.getElem_cons_zero, List.getElem_cons_succ, List.setIfInBounds_toArray, List.set_cons_zero, List.set_cons_succ]
                refine wpAnyH_take (i := 12) (oi := _) (v := .slice (some ⟨ga, at_ * 2, none⟩) (H - at_) (ca - at_)) rfl (by kernel_rfl) (by kernel_rfl) (by kernel_rfl) (fun _ _ _ h => h) (Or.inl ⟨by rfl, by intro w hSw; go_split_ands; go_simp⟩) HS.out ?_
                simp only [Act.put, List.getElem_toArray, List.getElem_cons_zero, List.getElem_cons_succ, List.setIfInBounds_toArray, List.set_cons_zero, List.set_cons_succ]
                refine wpAnyH_take (i := 13) (oi := _) (v := .agg #[.string bt.1, .slice (some ⟨ga, at_ * 2, none⟩) (H - at_) (ca - at_)]) rfl (by kernel_rfl) (by kernel_rfl) (by kernel_rfl) (fun _ _ _ h => h) (Or.inl ⟨by rfl, by intro w hSw; go_split_ands; go_simp⟩) HS.out ?_
                simp only [Act.put, List.getElem_toArray, List.getElem_cons_zero, List.getElem_cons_succ, List.setIfInBounds_toArray, List.set_cons_zero, List.set_cons_succ]
                refine wpAnyH_ready (rs := [14]) (by kernel_rfl) (by simp) ?_
                refine AllReadyH.cons (o := _) rfl (fun K hK => ?_) AllReadyH.nil
                go_simp
                have HN1 := hide (HN0.out.alloc HN0.out.size (.cells #[.string bt.1, .slice (some ⟨ga, at_ * 2, none⟩) (H - at_) (ca - at_)] 49))
                have HRO1 := hide (HRO0.out.alloc (.cells #[.string bt.1, .slice (some ⟨ga, at_ * 2, none⟩) (H - at_) (ca - at_)] 49))
                have HOC1 := hide (HOC0.out.alloc (.cells #[.string bt.1, .slice (some ⟨ga, at_ * 2, none⟩) (H - at_) (ca - at_)] 49))
                have HR1 := hide (row_cellsM (row_new Z0 [.string bt.1, .slice (some ⟨ga, at_ * 2, none⟩) (H - at_) (ca - at_)] 49))
                refine hK.out _ _ (HSS.out _ HN1.out) (fun _ => ?_)
                clear hK K HS
                generalize hZ : Z0.alloc (.cells #[.string bt.1, .slice (some ⟨ga, at_ * 2, none⟩) (H - at_) (ca - at_)] 49) = Z1 at HN1 HRO1 HOC1 HR1 ⊢
                generalize Z0.heap.size = E5 at HR1 ⊢
                clear hZ
                have HS := hide (HSS.out _ HN1.out)
                try simp only [Act.put, List.getElem_toArray, List.getElem_cons_zero, List.getElem_cons_succ, List.setIfInBounds_toArray, List.set_cons_zero, List.set_cons_succ]
                have HSZ := hide (show W5.heap.size ≤ Z1.heap.size from Nat.le_trans HZs.out HN1.out.size)
                refine wpAnyH_ready (rs := [15]) (by kernel_rfl) (by simp) ?_
                refine AllReadyH.cons (o := _) rfl (fun K hK => ?_) AllReadyH.nil
                refine step_own (w := Z1) rfl (.tmp 50) (.tmp 63) 27 rfl W5.heap.size 49 i0 _ 2 40 Tryz.underlying27 hi hz0 hz1 hz2 HZC.out (by omega) _ D0 cs rfl HOC1.out ⟨E5, 0, none⟩ 1 _ [.string bt.1, .slice (some ⟨ga, at_ * 2, none⟩) (H - at_) (ca - at_)] rfl rfl HR1.out (by simp [Value.oneCell']) (by unfold maxLen; have := HD0.out; omega) (by have := HD0.out; omega) HSZ.out ?_
                intro v9 Z9 hown9 hgrow hat
                obtain ⟨pv, cv, hv9⟩ := own_slice1 hown9
                subst hv9
                have hgk : ∀ k, l.ownBlock = some k → W5.heap.size ≤ k := fun k hk => (HOC1.out.lt k hk).1
                have hn1 := HN1.out.size
                have hn2 := hgrow.size
                have hrp9 := row_grown (B := W5.heap.size) HRO1.out hgrow hgk HOBl.out
                have HG9 := hide (show GrowS W5.heap.size Z9 (.slice pv (D0 + 1) cv) (cs ++ [.string bt.1, .slice (some ⟨ga, at_ * 2, none⟩) (H - at_) (ca - at_)]) ((L ++ D.map (fun l => (bt.1, l))) ++ [(bt.1, (bt.2.drop at_).take (H - at_))]) from
                  HGz.out.snoc HCLz.out HN1.out HLO5.out (Nat.le_trans HZw.out hn1) (fun g hg => (HOBz.out g hg).symm.imp id id) (by have := HB30.out.1; unfold maxLen; omega) (HPC.out.keep (SameIn.ofBelow HN1.out) hn1) hgrow hat)
                have HSame := hide (Same.set Z9 (g := OB) (j := 1) (.slice pv (D0 + 1) cv) HOBl.out)
                have HG10 := hide (HG9.out.same HSame.out)
                have HO10 := hide (show (Z9.setCell ⟨OB, 1, none⟩ (.slice pv (D0 + 1) cv)).ownsRow W5.heap.size 49 2 (.slice pv (D0 + 1) cv) ((L ++ D.map (fun l => (bt.1, l))) ++ [(bt.1, (bt.2.drop at_).take (H - at_))]).length (cs ++ [.string bt.1, .slice (some ⟨ga, at_ * 2, none⟩) (H - at_) (ca - at_)]) by
                  rw [List.length_append, ← HDE.out]
                  exact own_sameB hown9 HSame.out)
                have HON9 := hide ((HONz.out.below HN1.out).grownB hgrow hgk)
                have HON10 := hide (HON9.out.set (j := 1) (.slice pv (D0 + 1) cv))
                have HRO10 := hide (show Row (Z9.setCell ⟨OB, 1, none⟩ (.slice pv (D0 + 1) cv)) OB 29 [.string n, .slice pv (D0 + 1) cv] by simpa using hrp9.set (j := 1) (.slice pv (D0 + 1) cv))
                have hzw := HZw.out
                have hobl := HOBl.out
                have hbko := HBKO.out
                have HSI10 := hide (show SameIn Bk w4.heap.size w4 (Z9.setCell ⟨OB, 1, none⟩ (.slice pv (D0 + 1) cv)) from fun b b1 b2 b3 => by
                  have e1 : (Z9.setCell ⟨OB, 1, none⟩ (.slice pv (D0 + 1) cv)).heap[b]? = Z9.heap[b]? := Below.heap_setCell Z9 ⟨OB, 1, none⟩ _ b (by show b ≠ OB; omega)
                  have e2 : Z9.heap[b]? = Z1.heap[b]? := hgrow.block b (by omega) (fun e => by have := HOBk.out b e.symm; omega)
                  rw [e1, e2, HN1.out.block b (by omega)]
                  exact HSI.out b b1 b2 b3)
                have hsz9 : (Z9.setCell ⟨OB, 1, none⟩ (.slice pv (D0 + 1) cv)).heap.size = Z9.heap.size := by simp [World.setCell]
                have HOB10 := hide (show ∀ g, (Value.slice pv (D0 + 1) cv).ownBlock = some g → g < Bk ∨ w4.heap.size ≤ g from fun g hg => by
                  rcases hat with h | h
                  · rw [h] at hg; exact HOBk.out g hg
                  · rw [h] at hg; cases hg; exact .inr (by omega))
                have HZ10 := hide (show w4.heap.size ≤ (Z9.setCell ⟨OB, 1, none⟩ (.slice pv (D0 + 1) cv)).heap.size by omega)
                have HS9 : Hid ((fun y : World => y.cell? ⟨Bk, 0, none⟩ = some (.string bt.1)) Z9) := hide (by
                  have hb : Z9.heap[Bk]? = Z1.heap[Bk]? := hgrow.block _ (by have := HBLt.out; omega) (fun e => by have := HOBk.out Bk e.symm; have := HBLt.out; omega)
                  exact (World.cell?_of_block hb).trans HS.out)
                have HSF : Hid ((fun y : World => y.cell? ⟨Bk, 0, none⟩ = some (.string bt.1)) (Z9.setCell ⟨OB, 1, none⟩ (.slice pv (D0 + 1) cv))) := hide (by
                  have hb : (Z9.setCell ⟨OB, 1, none⟩ (.slice pv (D0 + 1) cv)).heap[Bk]? = Z9.heap[Bk]? := Below.heap_setCell Z9 ⟨OB, 1, none⟩ _ Bk (by show Bk ≠ OB; omega)
                  exact (World.cell?_of_block hb).trans HS9.out)
                have HRO9 := hide hrp9
                clear hown9 hgrow hat hgk hrp9 hsz9
                refine hK.out _ _ HS9.out (fun _ => ?_)
                clear hK K HS
                have HS := HS9
                try simp only [Act.put, List.getElem_toArray, List.getElem_cons_zero, List.getElem_cons_succ, List.setIfInBounds_toArray, List.set_cons_zero, List.set_cons_succ]
                refine wpAnyH_take (i := 16) (oi := _) (v := .pointer (some ⟨OB, 1, none⟩)) rfl (by kernel_rfl) (by kernel_rfl) (by kernel_rfl) (fun _ _ _ h => h) (Or.inl ⟨by rfl, by intro w hSw; go_split_ands; go_simp⟩) HS.out ?_
                simp only [Act.put, List.getElem_toArray, List.getElem_cons_zero, List.getElem_cons_succ, List.setIfInBounds_toArray, List.set_cons_zero, List.set_cons_succ]
                refine wpAnyH_ready (rs := [17]) (by kernel_rfl) (by simp) ?_
                refine AllReadyH.cons (o := _) rfl (fun K hK => ?_) AllReadyH.nil
                have c9 : Z9.cell? ⟨OB, 1, none⟩ = some l := HRO9.out.cell 1
                have f9 := HRO9.out.free 1
                go_simp
                refine hK.out _ _ HSF.out (fun _ => ?_)
                clear hK K HS
                refine wpAnyH_done (by kernel_rfl) ?_ _
                rw [show (L ++ D.map (fun l => (bt.1, l))) ++ [(bt.1, (bt.2.drop at_).take (H - at_))] = L ++ (D ++ [(bt.2.drop at_).take (H - at_)]).map (fun l => (bt.1, l)) by simp] at HO10 HG10
                go_wp2
                go_roundw
                case rel => exact ⟨_, at_ + M, _, D ++ [(bt.2.drop at_).take (H - at_)], _, rfl, by have := HAT.out; omega, by go_num, HRO10, HO10, HG10, HON10, HSI10, HOB10, HZ10, hide HCON.out.1, hide HCON.out.2⟩
                case measure => simp [intOf]; have := HAT.out; omega
              · go_simp
                refine (l01MinB_any _ _ _).mono ?_
                rintro e w9 ⟨rfl, hw9⟩
                rw [hw9]
                clear hw9 w9
                rw [show min (bt.2.length : Int) ((at_ : Int) + (M : Int)) = (H : Int) from HH.out]
                refine hK.out _ _ HS.out (fun _ => ?_)
                clear hK K
                try simp only [Act.put, List.getElem_toArray, List.getElem_cons_zero, List.getElem_cons_succ, List.setIfInBounds_toArray, List.set_cons_zero, List.set_cons_succ]
                refine wpAnyH_take (i := 12) (oi := _) (v := .slice (some ⟨ga, at_ * 2, none⟩) (H - at_) (ca - at_)) rfl (by kernel_rfl) (by kernel_rfl) (by kernel_rfl) (fun _ _ _ h => h) (Or.inl ⟨by rfl, by intro w hSw; go_split_ands; go_simp⟩) HS.out ?_
                simp only [Act.put, List.getElem_toArray, List.getElem_cons_zero, List.getElem_cons_succ, List.setIfInBounds_toArray, List.set_cons_zero, List.set_cons_succ]
                refine wpAnyH_take (i := 13) (oi := _) (v := .agg #[.string bt.1, .slice (some ⟨ga, at_ * 2, none⟩) (H - at_) (ca - at_)]) rfl (by kernel_rfl) (by kernel_rfl) (by kernel_rfl) (fun _ _ _ h => h) (Or.inl ⟨by rfl, by intro w hSw; go_split_ands; go_simp⟩) HS.out ?_
                simp only [Act.put, List.getElem_toArray, List.getElem_cons_zero, List.getElem_cons_succ, List.setIfInBounds_toArray, List.set_cons_zero, List.set_cons_succ]
                refine wpAnyH_ready (rs := [1, 14]) (by kernel_rfl) (by simp) ?_
                refine AllReadyH.cons (o := _) rfl (fun K hK => ?_) (AllReadyH.cons (o := _) rfl (fun K hK => ?_) AllReadyH.nil)
                · have c5 : Z0.cell? ⟨OB, 1, none⟩ = some l := (HRO0.out).cell 1
                  go_simp
                  refine hK.out _ _ HS.out (fun _ => ?_)
                  clear hK K c5
                  try simp only [Act.put, List.getElem_toArray, List.getElem_cons_zero, List.getElem_cons_succ, List.setIfInBounds_toArray, List.set_cons_zero, List.set_cons_succ]
                  refine wpAnyH_ready (rs := [14]) (by kernel_rfl) (by simp) ?_
                  refine AllReadyH.cons (o := _) rfl (fun K hK => ?_) AllReadyH.nil
                  go_simp
                  have HN1 := hide (HN0.out.alloc HN0.out.size (.cells #[.string bt.1, .slice (some ⟨ga, at_ * 2, none⟩) (H - at_) (ca - at_)] 49))
                  have HRO1 := hide (HRO0.out.alloc (.cells #[.string bt.1, .slice (some ⟨ga, at_ * 2, none⟩) (H - at_) (ca - at_)] 49))
                  have HOC1 := hide (HOC0.out.alloc (.cells #[.string bt.1, .slice (some ⟨ga, at_ * 2, none⟩) (H - at_) (ca - at_)] 49))
                  have HR1 := hide (row_cellsM (row_new Z0 [.string bt.1, .slice (some ⟨ga, at_ * 2, none⟩) (H - at_) (ca - at_)] 49))
                  refine hK.out _ _ (HSS.out _ HN1.out) (fun _ => ?_)
                  clear hK K HS
                  generalize hZ : Z0.alloc (.cells #[.string bt.1, .slice (some ⟨ga, at_ * 2, none⟩) (H - at_) (ca - at_)] 49) = Z1 at HN1 HRO1 HOC1 HR1 ⊢
                  generalize Z0.heap.size = E5 at HR1 ⊢
                  clear hZ
                  have HS := hide (HSS.out _ HN1.out)
                  try simp only [Act.put, List.getElem_toArray, List.getElem_cons_zero, List.getElem_cons_succ, List.setIfInBounds_toArray, List.set_cons_zero, List.set_cons_succ]
                  have HSZ := hide (show W5.heap.size ≤ Z1.heap.size from Nat.le_trans HZs.out HN1.out.size)
                  refine wpAnyH_ready (rs := [15]) (by kernel_rfl) (by simp) ?_
                  refine AllReadyH.cons (o := _) rfl (fun K hK => ?_) AllReadyH.nil
                  refine step_own (w := Z1) rfl (.tmp 50) (.tmp 63) 27 rfl W5.heap.size 49 i0 _ 2 40 Tryz.underlying27 hi hz0 hz1 hz2 HZC.out (by omega) _ D0 cs rfl HOC1.out ⟨E5, 0, none⟩ 1 _ [.string bt.1, .slice (some ⟨ga, at_ * 2, none⟩) (H - at_) (ca - at_)] rfl rfl HR1.out (by simp [Value.oneCell']) (by unfold maxLen; have := HD0.out; omega) (by have := HD0.out; omega) HSZ.out ?_
                  intro v9 Z9 hown9 hgrow hat
                  obtain ⟨pv, cv, hv9⟩ := own_slice1 hown9
                  subst hv9
                  have hgk : ∀ k, l.ownBlock = some k → W5.heap.size ≤ k := fun k hk => (HOC1.out.lt k hk).1
                  have hn1 := HN1.out.size
                  have hn2 := hgrow.size
                  have hrp9 := row_grown (B := W5.heap.size) HRO1.out hgrow hgk HOBl.out
                  have HG9 := hide (show GrowS W5.heap.size Z9 (.slice pv (D0 + 1) cv) (cs ++ [.string bt.1, .slice (some ⟨ga, at_ * 2, none⟩) (H - at_) (ca - at_)]) ((L ++ D.map (fun l => (bt.1, l))) ++ [(bt.1, (bt.2.drop at_).take (H - at_))]) from
                    HGz.out.snoc HCLz.out HN1.out HLO5.out (Nat.le_trans HZw.out hn1) (fun g hg => (HOBz.out g hg).symm.imp id id) (by have := HB30.out.1; unfold maxLen; omega) (HPC.out.keep (SameIn.ofBelow HN1.out) hn1) hgrow hat)
                  have HSame := hide (Same.set Z9 (g := OB) (j := 1) (.slice pv (D0 + 1) cv) HOBl.out)
                  have HG10 := hide (HG9.out.same HSame.out)
                  have HO10 := hide (show (Z9.setCell ⟨OB, 1, none⟩ (.slice pv (D0 + 1) cv)).ownsRow W5.heap.size 49 2 (.slice pv (D0 + 1) cv) ((L ++ D.map (fun l => (bt.1, l))) ++ [(bt.1, (bt.2.drop at_).take (H - at_))]).length (cs ++ [.string bt.1, .slice (some ⟨ga, at_ * 2, none⟩) (H - at_) (ca - at_)]) by
                    rw [List.length_append, ← HDE.out]
                    exact own_sameB hown9 HSame.out)
                  have HON9 := hide ((HONz.out.below HN1.out).grownB hgrow hgk)
                  have HON10 := hide (HON9.out.set (j := 1) (.slice pv (D0 + 1) cv))
                  have HRO10 := hide (show Row (Z9.setCell ⟨OB, 1, none⟩ (.slice pv (D0 + 1) cv)) OB 29 [.string n, .slice pv (D0 + 1) cv] by simpa using hrp9.set (j := 1) (.slice pv (D0 + 1) cv))
                  have hzw := HZw.out
                  have hobl := HOBl.out
                  have hbko := HBKO.out
                  have HSI10 := hide (show SameIn Bk w4.heap.size w4 (Z9.setCell ⟨OB, 1, none⟩ (.slice pv (D0 + 1) cv)) from fun b b1 b2 b3 => by
                    have e1 : (Z9.setCell ⟨OB, 1, none⟩ (.slice pv (D0 + 1) cv)).heap[b]? = Z9.heap[b]? := Below.heap_setCell Z9 ⟨OB, 1, none⟩ _ b (by show b ≠ OB; omega)
                    have e2 : Z9.heap[b]? = Z1.heap[b]? := hgrow.block b (by omega) (fun e => by have := HOBk.out b e.symm; omega)
                    rw [e1, e2, HN1.out.block b (by omega)]
                    exact HSI.out b b1 b2 b3)
                  have hsz9 : (Z9.setCell ⟨OB, 1, none⟩ (.slice pv (D0 + 1) cv)).heap.size = Z9.heap.size := by simp [World.setCell]
                  have HOB10 := hide (show ∀ g, (Value.slice pv (D0 + 1) cv).ownBlock = some g → g < Bk ∨ w4.heap.size ≤ g from fun g hg => by
                    rcases hat with h | h
                    · rw [h] at hg; exact HOBk.out g hg
                    · rw [h] at hg; cases hg; exact .inr (by omega))
                  have HZ10 := hide (show w4.heap.size ≤ (Z9.setCell ⟨OB, 1, none⟩ (.slice pv (D0 + 1) cv)).heap.size by omega)
                  have HS9 : Hid ((fun y : World => y.cell? ⟨Bk, 0, none⟩ = some (.string bt.1)) Z9) := hide (by
                    have hb : Z9.heap[Bk]? = Z1.heap[Bk]? := hgrow.block _ (by have := HBLt.out; omega) (fun e => by have := HOBk.out Bk e.symm; have := HBLt.out; omega)
                    exact (World.cell?_of_block hb).trans HS.out)
                  have HSF : Hid ((fun y : World => y.cell? ⟨Bk, 0, none⟩ = some (.string bt.1)) (Z9.setCell ⟨OB, 1, none⟩ (.slice pv (D0 + 1) cv))) := hide (by
                    have hb : (Z9.setCell ⟨OB, 1, none⟩ (.slice pv (D0 + 1) cv)).heap[Bk]? = Z9.heap[Bk]? := Below.heap_setCell Z9 ⟨OB, 1, none⟩ _ Bk (by show Bk ≠ OB; omega)
                    exact (World.cell?_of_block hb).trans HS9.out)
                  have HRO9 := hide hrp9
                  clear hown9 hgrow hat hgk hrp9 hsz9
                  refine hK.out _ _ HS9.out (fun _ => ?_)
                  clear hK K HS
                  have HS := HS9
                  try simp only [Act.put, List.getElem_toArray, List.getElem_cons_zero, List.getElem_cons_succ, List.setIfInBounds_toArray, List.set_cons_zero, List.set_cons_succ]
                  refine wpAnyH_take (i := 16) (oi := _) (v := .pointer (some ⟨OB, 1, none⟩)) rfl (by kernel_rfl) (by kernel_rfl) (by kernel_rfl) (fun _ _ _ h => h) (Or.inl ⟨by rfl, by intro w hSw; go_split_ands; go_simp⟩) HS.out ?_
                  simp only [Act.put, List.getElem_toArray, List.getElem_cons_zero, List.getElem_cons_succ, List.setIfInBounds_toArray, List.set_cons_zero, List.set_cons_succ]
                  refine wpAnyH_ready (rs := [17]) (by kernel_rfl) (by simp) ?_
                  refine AllReadyH.cons (o := _) rfl (fun K hK => ?_) AllReadyH.nil
                  have c9 : Z9.cell? ⟨OB, 1, none⟩ = some l := HRO9.out.cell 1
                  have f9 := HRO9.out.free 1
                  go_simp
                  refine hK.out _ _ HSF.out (fun _ => ?_)
                  clear hK K HS
                  refine wpAnyH_done (by kernel_rfl) ?_ _
                  rw [show (L ++ D.map (fun l => (bt.1, l))) ++ [(bt.1, (bt.2.drop at_).take (H - at_))] = L ++ (D ++ [(bt.2.drop at_).take (H - at_)]).map (fun l => (bt.1, l)) by simp] at HO10 HG10
                  go_wp2
                  go_roundw
                  case rel => exact ⟨_, at_ + M, _, D ++ [(bt.2.drop at_).take (H - at_)], _, rfl, by have := HAT.out; omega, by go_num, HRO10, HO10, HG10, HON10, HSI10, HOB10, HZ10, hide HCON.out.1, hide HCON.out.2⟩
                  case measure => simp [intOf]; have := HAT.out; omega
                · go_simp
                  have HN1 := hide (HN0.out.alloc HN0.out.size (.cells #[.string bt.1, .slice (some ⟨ga, at_ * 2, none⟩) (H - at_) (ca - at_)] 49))
                  have HRO1 := hide (HRO0.out.alloc (.cells #[.string bt.1, .slice (some ⟨ga, at_ * 2, none⟩) (H - at_) (ca - at_)] 49))
                  have HOC1 := hide (HOC0.out.alloc (.cells #[.string bt.1, .slice (some ⟨ga, at_ * 2, none⟩) (H - at_) (ca - at_)] 49))
                  have HR1 := hide (row_cellsM (row_new Z0 [.string bt.1, .slice (some ⟨ga, at_ * 2, none⟩) (H - at_) (ca - at_)] 49))
                  refine hK.out _ _ (HSS.out _ HN1.out) (fun _ => ?_)
                  clear hK K HS
                  generalize hZ : Z0.alloc (.cells #[.string bt.1, .slice (some ⟨ga, at_ * 2, none⟩) (H - at_) (ca - at_)] 49) = Z1 at HN1 HRO1 HOC1 HR1 ⊢
                  generalize Z0.heap.size = E5 at HR1 ⊢
                  clear hZ
                  have HS := hide (HSS.out _ HN1.out)
                  try simp only [Act.put, List.getElem_toArray, List.getElem_cons_zero, List.getElem_cons_succ, List.setIfInBounds_toArray, List.set_cons_zero, List.set_cons_succ]
                  refine wpAnyH_ready (rs := [1]) (by kernel_rfl) (by simp) ?_
                  refine AllReadyH.cons (o := _) rfl (fun K hK => ?_) AllReadyH.nil
                  have c5 : Z1.cell? ⟨OB, 1, none⟩ = some l := (HRO1.out).cell 1
                  go_simp
                  refine hK.out _ _ HS.out (fun _ => ?_)
                  clear hK K c5
                  try simp only [Act.put, List.getElem_toArray, List.getElem_cons_zero, List.getElem_cons_succ, List.setIfInBounds_toArray, List.set_cons_zero, List.set_cons_succ]
                  have HSZ := hide (show W5.heap.size ≤ Z1.heap.size from Nat.le_trans HZs.out HN1.out.size)
                  refine wpAnyH_ready (rs := [15]) (by kernel_rfl) (by simp) ?_
                  refine AllReadyH.cons (o := _) rfl (fun K hK => ?_) AllReadyH.nil
                  refine step_own (w := Z1) rfl (.tmp 50) (.tmp 63) 27 rfl W5.heap.size 49 i0 _ 2 40 Tryz.underlying27 hi hz0 hz1 hz2 HZC.out (by omega) _ D0 cs rfl HOC1.out ⟨E5, 0, none⟩ 1 _ [.string bt.1, .slice (some ⟨ga, at_ * 2, none⟩) (H - at_) (ca - at_)] rfl rfl HR1.out (by simp [Value.oneCell']) (by unfold maxLen; have := HD0.out; omega) (by have := HD0.out; omega) HSZ.out ?_
                  intro v9 Z9 hown9 hgrow hat
                  obtain ⟨pv, cv, hv9⟩ := own_slice1 hown9
                  subst hv9
                  have hgk : ∀ k, l.ownBlock = some k → W5.heap.size ≤ k := fun k hk => (HOC1.out.lt k hk).1
                  have hn1 := HN1.out.size
                  have hn2 := hgrow.size
                  have hrp9 := row_grown (B := W5.heap.size) HRO1.out hgrow hgk HOBl.out
                  have HG9 := hide (show GrowS W5.heap.size Z9 (.slice pv (D0 + 1) cv) (cs ++ [.string bt.1, .slice (some ⟨ga, at_ * 2, none⟩) (H - at_) (ca - at_)]) ((L ++ D.map (fun l => (bt.1, l))) ++ [(bt.1, (bt.2.drop at_).take (H - at_))]) from
                    HGz.out.snoc HCLz.out HN1.out HLO5.out (Nat.le_trans HZw.out hn1) (fun g hg => (HOBz.out g hg).symm.imp id id) (by have := HB30.out.1; unfold maxLen; omega) (HPC.out.keep (SameIn.ofBelow HN1.out) hn1) hgrow hat)
                  have HSame := hide (Same.set Z9 (g := OB) (j := 1) (.slice pv (D0 + 1) cv) HOBl.out)
                  have HG10 := hide (HG9.out.same HSame.out)
                  have HO10 := hide (show (Z9.setCell ⟨OB, 1, none⟩ (.slice pv (D0 + 1) cv)).ownsRow W5.heap.size 49 2 (.slice pv (D0 + 1) cv) ((L ++ D.map (fun l => (bt.1, l))) ++ [(bt.1, (bt.2.drop at_).take (H - at_))]).length (cs ++ [.string bt.1, .slice (some ⟨ga, at_ * 2, none⟩) (H - at_) (ca - at_)]) by
                    rw [List.length_append, ← HDE.out]
                    exact own_sameB hown9 HSame.out)
                  have HON9 := hide ((HONz.out.below HN1.out).grownB hgrow hgk)
                  have HON10 := hide (HON9.out.set (j := 1) (.slice pv (D0 + 1) cv))
                  have HRO10 := hide (show Row (Z9.setCell ⟨OB, 1, none⟩ (.slice pv (D0 + 1) cv)) OB 29 [.string n, .slice pv (D0 + 1) cv] by simpa using hrp9.set (j := 1) (.slice pv (D0 + 1) cv))
                  have hzw := HZw.out
                  have hobl := HOBl.out
                  have hbko := HBKO.out
                  have HSI10 := hide (show SameIn Bk w4.heap.size w4 (Z9.setCell ⟨OB, 1, none⟩ (.slice pv (D0 + 1) cv)) from fun b b1 b2 b3 => by
                    have e1 : (Z9.setCell ⟨OB, 1, none⟩ (.slice pv (D0 + 1) cv)).heap[b]? = Z9.heap[b]? := Below.heap_setCell Z9 ⟨OB, 1, none⟩ _ b (by show b ≠ OB; omega)
                    have e2 : Z9.heap[b]? = Z1.heap[b]? := hgrow.block b (by omega) (fun e => by have := HOBk.out b e.symm; omega)
                    rw [e1, e2, HN1.out.block b (by omega)]
                    exact HSI.out b b1 b2 b3)
                  have hsz9 : (Z9.setCell ⟨OB, 1, none⟩ (.slice pv (D0 + 1) cv)).heap.size = Z9.heap.size := by simp [World.setCell]
                  have HOB10 := hide (show ∀ g, (Value.slice pv (D0 + 1) cv).ownBlock = some g → g < Bk ∨ w4.heap.size ≤ g from fun g hg => by
                    rcases hat with h | h
                    · rw [h] at hg; exact HOBk.out g hg
                    · rw [h] at hg; cases hg; exact .inr (by omega))
                  have HZ10 := hide (show w4.heap.size ≤ (Z9.setCell ⟨OB, 1, none⟩ (.slice pv (D0 + 1) cv)).heap.size by omega)
                  have HS9 : Hid ((fun y : World => y.cell? ⟨Bk, 0, none⟩ = some (.string bt.1)) Z9) := hide (by
                    have hb : Z9.heap[Bk]? = Z1.heap[Bk]? := hgrow.block _ (by have := HBLt.out; omega) (fun e => by have := HOBk.out Bk e.symm; have := HBLt.out; omega)
                    exact (World.cell?_of_block hb).trans HS.out)
                  have HSF : Hid ((fun y : World => y.cell? ⟨Bk, 0, none⟩ = some (.string bt.1)) (Z9.setCell ⟨OB, 1, none⟩ (.slice pv (D0 + 1) cv))) := hide (by
                    have hb : (Z9.setCell ⟨OB, 1, none⟩ (.slice pv (D0 + 1) cv)).heap[Bk]? = Z9.heap[Bk]? := Below.heap_setCell Z9 ⟨OB, 1, none⟩ _ Bk (by show Bk ≠ OB; omega)
                    exact (World.cell?_of_block hb).trans HS9.out)
                  have HRO9 := hide hrp9
                  clear hown9 hgrow hat hgk hrp9 hsz9
                  refine hK.out _ _ HS9.out (fun _ => ?_)
                  clear hK K HS
                  have HS := HS9
                  try simp only [Act.put, List.getElem_toArray, List.getElem_cons_zero, List.getElem_cons_succ, List.setIfInBounds_toArray, List.set_cons_zero, List.set_cons_succ]
                  refine wpAnyH_take (i := 16) (oi := _) (v := .pointer (some ⟨OB, 1, none⟩)) rfl (by kernel_rfl) (by kernel_rfl) (by kernel_rfl) (fun _ _ _ h => h) (Or.inl ⟨by rfl, by intro w hSw; go_split_ands; go_simp⟩) HS.out ?_
                  simp only [Act.put, List.getElem_toArray, List.getElem_cons_zero, List.getElem_cons_succ, List.setIfInBounds_toArray, List.set_cons_zero, List.set_cons_succ]
                  refine wpAnyH_ready (rs := [17]) (by kernel_rfl) (by simp) ?_
                  refine AllReadyH.cons (o := _) rfl (fun K hK => ?_) AllReadyH.nil
                  have c9 : Z9.cell? ⟨OB, 1, none⟩ = some l := HRO9.out.cell 1
                  have f9 := HRO9.out.free 1
                  go_simp
                  refine hK.out _ _ HSF.out (fun _ => ?_)
                  clear hK K HS
                  refine wpAnyH_done (by kernel_rfl) ?_ _
                  rw [show (L ++ D.map (fun l => (bt.1, l))) ++ [(bt.1, (bt.2.drop at_).take (H - at_))] = L ++ (D ++ [(bt.2.drop at_).take (H - at_)]).map (fun l => (bt.1, l)) by simp] at HO10 HG10
                  go_wp2
                  go_roundw
                  case rel => exact ⟨_, at_ + M, _, D ++ [(bt.2.drop at_).take (H - at_)], _, rfl, by have := HAT.out; omega, by go_num, HRO10, HO10, HG10, HON10, HSI10, HOB10, HZ10, hide HCON.out.1, hide HCON.out.2⟩
                  case measure => simp [intOf]; have := HAT.out; omega

        · have eD := HDe.out hcon
          subst eD
          have hcz : ((at_ : Int) == 0) = false := beq_eq_false_iff_ne.2 (by omega)
          have hge : ¬ (at_ : Int) < (bt.2.length : Int) := by omega
          rw [← HSB.out, ← HT.out] at HOz HGz
          have H31b := hide (show (splL M (x.take (k + 1))).length ≤ 31 * (k + 1) by
            rw [HT.out, List.length_append, HSB.out, List.length_map]
            have h3 := H31.out
            have h4 := HCLN.out
            have h5 := HB30.out.2
            omega)
          go_wp2
          go_roundw
          case rel =>
            first
              | exact ⟨_, k + 1, _, _, rfl, by omega, by go_num, HROz, HOz, HGz, HONz, H31b⟩
              | exact ⟨rfl, k + 1, by omega, by go_num, _, HROz, _, HOz, HGz, H31b⟩
              | exact ⟨HONz, k + 1, by omega, by go_num, _, HROz, _, HOz, HGz, H31b⟩
          case measure => simp [intOf]; omega
    · have ek : x.take k = x := List.take_of_length_le (by omega)
      rw [ek] at HOw HG
      obtain ⟨pl, cl, hpl⟩ := own_slice1 HOw.out
      subst hpl
      have HRB9 := hide (HG.out.rbats HOw.out)
      have HResX := hide (HON.out.row HRes2.out (by have := HWP.out; omega))
      have e1 : X.cell? ⟨OB, 1, none⟩ = some (.slice pl (splL M x).length cl) := HRO.out.cell 1
      have e0 : X.cell? ⟨OB, 0, none⟩ = some (.string n) := HRO.out.cell 0
      have HXs := hide HON.out.size
      clear ek HOw HG
      by_cases hfull : 10 < ((splL M x).length : Int)
      · obtain rfl : A = (9, ⟨#[]⟩, []) := HA9.out (by omega)
        go_wp2_with fail
        refine (l08Ill_any 9 _).mono ?_
        rintro e wx ⟨rfl, hbx⟩
        have HBR := hide (HBX.out.trans (hbx.mono HBX.out.size))
        have HRR := hide (HResX.out.below hbx HResX.out.lt)
        clear hbx
        have k0 : wx.cell? ⟨w.heap.size + 1, 0, none⟩ = some (.string ⟨#[]⟩) := HRR.out.cell 0
        have k1 : wx.cell? ⟨w.heap.size + 1, 1, none⟩ = some (.slice none 0 0) := HRR.out.cell 1
        have k2 : wx.cell? ⟨w.heap.size + 1, 2, none⟩ = some (.int .i64 0) := HRR.out.cell 2
        have k3 : wx.cell? ⟨w.heap.size + 1, 3, none⟩ = some (.int .i64 0) := HRR.out.cell 3
        have f0 := HRR.out.free 0
        have f1 := HRR.out.free 1
        have f2 := HRR.out.free 2
        have f3 := HRR.out.free 3
        go_wp2
        obtain ⟨q0, q1, q2, q3, KF, _, _⟩ := fourF HRR.out (.string ⟨#[]⟩) (.slice none 0 0) (.int .i64 0) (.int .i64 9)
        exact bodyPost_ret (v := .agg #[.string ⟨#[]⟩, .slice none 0 0, .int .i64 0, .int .i64 9]) (by simp [results, Tryz.results21, go_sem, q0, q1, q2, q3]) rfl ⟨_, _, rfl, rbats_nil _ _ _, KF w w.heap.size (Nat.le_succ _) HBR.out⟩

      · obtain rfl : A = (0, n, splL M x) := HA0.out (by omega)
        have k0 : X.cell? ⟨w.heap.size + 1, 0, none⟩ = some (.string ⟨#[]⟩) := HResX.out.cell 0
        have k1 : X.cell? ⟨w.heap.size + 1, 1, none⟩ = some (.slice none 0 0) := HResX.out.cell 1
        have k2 : X.cell? ⟨w.heap.size + 1, 2, none⟩ = some (.int .i64 0) := HResX.out.cell 2
        have k3 : X.cell? ⟨w.heap.size + 1, 3, none⟩ = some (.int .i64 0) := HResX.out.cell 3
        have f0 := HResX.out.free 0
        have f1 := HResX.out.free 1
        have f2 := HResX.out.free 2
        have f3 := HResX.out.free 3
        go_wp2
        obtain ⟨q0, q1, q2, q3, KF, KS, KZ⟩ := fourF HResX.out (.string n) (.slice pl (splL M x).length cl) (.int .i64 0) (.int .i64 0)
        refine bodyPost_ret (v := .agg #[.string n, .slice pl (splL M x).length cl, .int .i64 0, .int .i64 0]) (by simp [results, Tryz.results21, go_sem, q0, q1, q2, q3]) rfl ⟨_, _, rfl, ?_, KF w w.heap.size (Nat.le_succ _) HBX.out⟩
        have h1 := HWP.out
        have h2 := HPs.out
        exact RBats.mono (HRB9.out.same ⟨by rw [KZ]; exact Nat.le_refl _, fun k h3 h4 => KS k (k + 1) (.inl (by omega)) k (Nat.le_refl _) (Nat.lt_succ_self _) h4⟩) (by omega)
end Go.Proofs.YtholbhjfmfanbaaGreat
/- The law of Split. -/
namespace Go.Proofs.YtholbhjfmfanbaaGreat
open Go.RowKit
set_option maxHeartbeats 8000000 in
theorem lawSplit (n : ByteArray) (u : Value) (x : List Bat) (m : Int) (w : World) (hnl : n.size ≤ maxLen) (hr : RBats 0 w u x) :
    Calls Tryz.prog 6 #[.agg #[.string n, u], .int .i64 m] w fun e w' => e = .returned (.bool true) ∧ Below w.heap.size w w' := by
  obtain ⟨p, c, rfl⟩ := hr.isSlice
  obtain ⟨W, hW⟩ : ∃ W, W = w.alloc (.cells #[.string n, .slice p x.length c] 24) := ⟨_, rfl⟩
  have hb0 : Below w.heap.size w W := by rw [hW]; exact (Below.refl _ _).alloc (Nat.le_refl _) _
  have HR := hide hr
  have HB0 := hide hb0
  have HRW := hide (show Row W w.heap.size 24 [.string n, .slice p x.length c] by rw [hW]; exact row_new w [.string n, .slice p x.length c] 24)
  clear hb0 hr
  go_enter Tryz.func6, Tryz.ntmps6
  go_wp2_with fail
  rw [← hW]
  refine (szFile_any n _ x 1048576 _ hnl (by omega) (by omega) (HR.out.below HB0.out)).mono ?_
  rintro e w1 ⟨rfl, hb1⟩
  clear hW
  have HB1 := hide (HB0.out.trans (hb1.mono HB0.out.size))
  have HRow1 := hide (HRW.out.below hb1 HRW.out.lt)
  have c1 : w1.cell? ⟨w.heap.size, 1, none⟩ = some (.slice p x.length c) := HRow1.out.cell 1
  have b1 : w1.cell? ⟨w.heap.size, 0, none⟩ = some (.string n) := HRow1.out.cell 0
  clear hb1
  by_cases hsz : (((n.size + wBats x) : Nat) : Int) ≤ 1048576
  case neg =>
    rw [szOf_no hsz]
    go_wp2
    go_ret
    exact ⟨rfl, HB1.out⟩
  rw [szOf_yes hsz]
  have HS := hide (show wBats x ≤ 1048576 by omega)
  have HNB := hide (show n.size ≤ 1048576 by omega)
  have h0 : ¬ (1048576 - (((n.size + wBats x) : Nat) : Int)) < 0 := by omega
  clear hsz
  generalize (1048576 - (((n.size + wBats x) : Nat) : Int)) = L at h0
  obtain ⟨A, hA⟩ : ∃ A, A = splOut n x m := ⟨_, rfl⟩
  have HWA := hide (show BatsOK A.2.2 by rw [hA]; exact splOut_w n x m HS.out)
  have HAE := hide hA
  clear hA
  go_wp2_with fail
  refine (toFile_any n _ x _ HS.out (HR.out.below HB1.out)).mono ?_
  rintro e w2 ⟨p2, c2, rfl, hr2, hb2⟩
  have HB2 := hide (HB1.out.trans (hb2.mono HB1.out.size))
  have HC2 := hide (RBats.mono hr2 (Nat.zero_le _))
  have HRow2 := hide (HRow1.out.below hb2 HRow1.out.lt)
  clear hr2 hb2 c1 b1
  go_wp2_with fail
  refine (specSplit_any n _ x m _ hnl HS.out HC2.out).mono ?_
  rintro e w3a ⟨pw, cw, rfl, hrw, hb3⟩
  rw [← HAE.out] at hrw ⊢
  unfold foV
  have hbw : Below w3a.heap.size w3a (w3a.alloc (.cells #[.string A.2.1, .slice pw A.2.2.length cw, .int .i64 0, .int .i64 A.1] 40)) := (Below.refl _ _).alloc (Nat.le_refl _) _
  have hb3w := hb3.trans (hbw.mono hb3.size)
  have HB3 := hide (HB2.out.trans (hb3w.mono HB2.out.size))
  have HW3 := hide ((RBats.mono hrw (Nat.zero_le _)).below hbw)
  have HRow3 := hide (HRow2.out.below hb3w HRow2.out.lt)
  have HRw := hide (row_new w3a [.string A.2.1, .slice pw A.2.2.length cw, .int .i64 0, .int .i64 A.1] 40)
  have c3 : (w3a.alloc (.cells #[.string A.2.1, .slice pw A.2.2.length cw, .int .i64 0, .int .i64 A.1] 40)).cell? ⟨w.heap.size, 1, none⟩ = some (.slice p x.length c) := HRow3.out.cell 1
  have b3 : (w3a.alloc (.cells #[.string A.2.1, .slice pw A.2.2.length cw, .int .i64 0, .int .i64 A.1] 40)).cell? ⟨w.heap.size, 0, none⟩ = some (.string n) := HRow3.out.cell 0
  clear hrw hb3 hbw hb3w
  go_wp2_with fail
  generalize hV : w3a.alloc (.cells #[.string A.2.1, .slice pw A.2.2.length cw, .int .i64 0, .int .i64 A.1] 40) = w3 at *
  generalize hG : w3a.heap.size = G4 at *
  clear hV hG
  refine (toFile_own n _ x _ HS.out (HR.out.below HB3.out)).mono ?_
  rintro e w4 ⟨p4, c4, rfl, hr4, hb4⟩
  have hbn : Below w4.heap.size w4 (w4.alloc (.cells #[.string n, .slice p4 x.length c4] 29)) := (Below.refl _ _).alloc (Nat.le_refl _) _
  have hb44 := hb4.trans (hbn.mono hb4.size)
  have HB4 := hide (HB3.out.trans (hb44.mono HB3.out.size))
  have HX4 := hide (hr4.keep (SameIn.ofBelow hbn))
  have HW4 := hide (HW3.out.below hb44)
  have HRow4 := hide (HRow3.out.below hb44 HRow3.out.lt)
  have HRw4 := hide (HRw.out.below hb44 HRw.out.lt)
  have HRowX := hide (row_new w4 [.string n, .slice p4 x.length c4] 29)
  have HLX := hide (show w3.heap.size ≤ w4.heap.size from hb4.size)
  have HB34 := hide hb44
  have HLW := hide (show w.heap.size < w3.heap.size ∧ G4 < w3.heap.size from ⟨HRow3.out.lt, HRw.out.lt⟩)
  clear hr4 hb4 hbn hb44 c3 b3
  go_wp2_with fail
  have HV5 : Hid ((w4.alloc (.cells #[.string n, .slice p4 x.length c4] 29)).heap.size = w4.heap.size + 1) := hide (by simp)
  generalize hV : w4.alloc (.cells #[.string n, .slice p4 x.length c4] 29) = V at *
  generalize hG : w4.heap.size = G at *
  clear hV hG
  refine (implSplit_any n _ x m _ hnl HNB.out HS.out (RBats.mono HX4.out.rl (Nat.zero_le _))).mono ?_
  rintro e w5a ⟨pg, cg, rfl, ho5, hb5⟩
  rw [← HAE.out] at ho5 ⊢
  unfold foV
  have hbg : Below w5a.heap.size w5a (w5a.alloc (.cells #[.string A.2.1, .slice pg A.2.2.length cg, .int .i64 0, .int .i64 A.1] 40)) := (Below.refl _ _).alloc (Nat.le_refl _) _
  have hb5g := hb5.trans (hbg.mono hb5.size)
  have HB5 := hide (HB4.out.trans (hb5g.mono HB4.out.size))
  have HB35 := hide (HB34.out.trans (hb5g.mono HB34.out.size))
  have HX5 := hide (HX4.out.keep (SameIn.ofBelow hb5g))
  have HW5 := hide (HW4.out.below hb5g)
  have HRow5 := hide (HRow4.out.below hb5g HRow4.out.lt)
  have HRw5 := hide (HRw4.out.below hb5g HRw4.out.lt)
  have HRowX5 := hide (HRowX.out.below hb5g HRowX.out.lt)
  have HRg5 := hide (row_new w5a [.string A.2.1, .slice pg A.2.2.length cg, .int .i64 0, .int .i64 A.1] 40)
  have HO5 := hide (ho5.keep (SameIn.ofBelow hbg))
  have HGZ := hide (show V.heap.size ≤ w5a.heap.size from hb5.size)
  have k0 : (w5a.alloc (.cells #[.string A.2.1, .slice pg A.2.2.length cg, .int .i64 0, .int .i64 A.1] 40)).cell? ⟨G4, 0, none⟩ = some (.string A.2.1) := HRw5.out.cell 0
  have k1 : (w5a.alloc (.cells #[.string A.2.1, .slice pg A.2.2.length cg, .int .i64 0, .int .i64 A.1] 40)).cell? ⟨G4, 1, none⟩ = some (.slice pw A.2.2.length cw) := HRw5.out.cell 1
  have k2 : (w5a.alloc (.cells #[.string A.2.1, .slice pg A.2.2.length cg, .int .i64 0, .int .i64 A.1] 40)).cell? ⟨G4, 2, none⟩ = some (.int .i64 0) := HRw5.out.cell 2
  have k3 : (w5a.alloc (.cells #[.string A.2.1, .slice pg A.2.2.length cg, .int .i64 0, .int .i64 A.1] 40)).cell? ⟨G4, 3, none⟩ = some (.int .i64 A.1) := HRw5.out.cell 3
  clear ho5 hb5 hbg hb5g
  go_wp2_with fail
  obtain ⟨w5, hw5⟩ : ∃ w5, w5 = w5a.alloc (.cells #[.string A.2.1, .slice pg A.2.2.length cg, .int .i64 0, .int .i64 A.1] 40) := ⟨_, rfl⟩
  obtain ⟨G6, hG6⟩ : ∃ G6, G6 = w5a.heap.size := ⟨_, rfl⟩
  obtain ⟨LO, hLO⟩ : ∃ LO, LO = V.heap.size := ⟨_, rfl⟩
  rw [← hw5] at HB5 HB35 HX5 HW5 HRow5 HRw5 HRowX5 HRg5 HO5 ⊢
  rw [← hG6] at HRg5 HO5 HGZ ⊢
  rw [← hLO] at HO5 HV5 HGZ
  clear hw5 hG6 hLO k0 k1 k2 k3
  refine (eqFileOut_sameW A _ _ 0 0 _ HWA.out (RBats.mono HO5.out.rl (Nat.zero_le _)) HW5.out).mono ?_
  rintro e w6 ⟨rfl, hb6⟩
  have HB6 := hide (HB5.out.trans (hb6.mono HB5.out.size))
  have HB36 := hide (HB35.out.trans (hb6.mono HB35.out.size))
  have HX6 := hide (HX5.out.keep (SameIn.ofBelow hb6))
  have HW6 := hide (HW5.out.below hb6)
  have HRow6 := hide (HRow5.out.below hb6 HRow5.out.lt)
  have HRw6 := hide (HRw5.out.below hb6 HRw5.out.lt)
  have HRg6 := hide (HRg5.out.below hb6 HRg5.out.lt)
  have HRowX6 := hide (HRowX5.out.below hb6 HRowX5.out.lt)
  have HO6 := hide (HO5.out.keep (SameIn.ofBelow hb6))
  have HSS := hide (show ∀ y, Below w6.heap.size w6 y → y.cell? ⟨w.heap.size, 0, none⟩ = some (.string n) ∧ y.cell? ⟨w.heap.size, 1, none⟩ = some (.slice p x.length c) ∧ y.cell? ⟨G, 0, none⟩ = some (.string n) ∧ y.cell? ⟨G, 1, none⟩ = some (.slice p4 x.length c4) ∧ Below w6.heap.size w6 y from
    fun y h => ⟨(HRow6.out.below h HRow6.out.lt).cell 0, (HRow6.out.below h HRow6.out.lt).cell 1, (HRowX6.out.below h HRowX6.out.lt).cell 0, (HRowX6.out.below h HRowX6.out.lt).cell 1, h⟩)
  clear hb6 HB5 HB35 HX5 HW5 HRow5 HRw5 HRg5 HRowX5 HO5
  go_wp2_with fail
  go_cut [35] (fun t wz => t = .bool false ∧ ∃ wx, wx = wz ∧ Hid (Below w6.heap.size w6 wx))
  case first =>
    go_region_held3 (fun y => y.cell? ⟨w.heap.size, 0, none⟩ = some (.string n) ∧ y.cell? ⟨w.heap.size, 1, none⟩ = some (.slice p x.length c) ∧ y.cell? ⟨G, 0, none⟩ = some (.string n) ∧ y.cell? ⟨G, 1, none⟩ = some (.slice p4 x.length c4) ∧ Below w6.heap.size w6 y)
      ((go_split_ands; refine HSS.out _ ?_; repeat (first | with_reducible assumption | with_reducible exact Below.refl _ _ | with_reducible refine Below.drew ?_)))
      ((first
        | (go_at_call 10; go_split_ands; refine (toFile_any n _ x _ HS.out (HR.out.below (HB6.out.trans (Below.mono (by assumption) HB6.out.size)))).mono ?_; rintro e w7 ⟨p6, c6, rfl, hr6, hbb⟩; have HC7 := hide (RBats.mono hr6 (Nat.zero_le _)); have hB6 : Below w6.heap.size w6 w7 := Below.trans (by assumption) (hbb.mono (Below.size (by assumption))); clear hr6 hbb)
        | (go_at_call 12; go_split_ands; refine (eqFile_same n _ _ x 0 0 _ HS.out (RBats.below (RBats.mono HX6.out.rl (Nat.zero_le _)) (by assumption)) (by first | exact HC7.out | exact HC7.out.below ((Below.refl _ _).drew))).mono ?_; rintro e w8 ⟨rfl, hb7⟩; have hB7 : Below w6.heap.size w6 w8 := Below.trans (by assumption) (hb7.mono (Below.size (by assumption))); clear hb7)))
    all_goals
      have HB7 := hide hB7
      clear hB7
      go_wp2_with fail
      go_meet
      exact ⟨rfl, _, rfl, HB7⟩
  case rest =>
    obtain ⟨rfl, wc, rfl, HBc⟩ := hcut
    have hbc := HBc.out
    have HBwc := hide (HB6.out.trans (hbc.mono HB6.out.size))
    have HXc := hide (HX6.out.keep (SameIn.ofBelow hbc))
    have HRowc := hide (HRow6.out.below hbc HRow6.out.lt)
    have HRwc := hide (HRw6.out.below hbc HRw6.out.lt)
    have HRgc := hide (HRg6.out.below hbc HRg6.out.lt)
    have HRowXc := hide (HRowX6.out.below hbc HRowX6.out.lt)
    have HOc := hide (HO6.out.keep (SameIn.ofBelow hbc))
    have HB3c := hide (HB36.out.trans (hbc.mono HB36.out.size))
    have x0 : wc.cell? ⟨G, 0, none⟩ = some (.string n) := HRowXc.out.cell 0
    have x1 : wc.cell? ⟨G, 1, none⟩ = some (.slice p4 x.length c4) := HRowXc.out.cell 1
    clear hbc HBc HSS HX6 HW6 HRow6 HRw6 HRg6 HRowX6 HO6 HB6 HB36
    go_wp2_with fail
    refine (markFile_own w3.heap.size G n _ x 1 _ HS.out (by have := HS.out; omega) HXc.out).mono ?_
    rintro e wd ⟨rfl, _, hwd⟩
    have HBd := hide (hwd.toBelow HBwc.out HB3.out.size HBwc.out.size)
    have HB3d := hide (hwd.toBelow HB3c.out (Nat.le_refl _) HB3c.out.size)
    have HRowd := hide (hwd.row HRowc.out (.inl HLW.out.1))
    have HRwd := hide (hwd.row HRwc.out (.inl HLW.out.2))
    have HRgd := hide (hwd.row HRgc.out (.inr (by have h1 := HV5.out; have h2 := HGZ.out; omega)))
    have HWd := hide (HW3.out.below HB3d.out)
    have HOd := hide (HOc.out.keep (hwd.same (.inr (by have := HV5.out; omega))))
    have hpos : ¬ ((((1 + cntBats x : Nat)) : Int)) < 0 := by omega
    have k0 : wd.cell? ⟨G4, 0, none⟩ = some (.string A.2.1) := HRwd.out.cell 0
    have k1 : wd.cell? ⟨G4, 1, none⟩ = some (.slice pw A.2.2.length cw) := HRwd.out.cell 1
    have k2 : wd.cell? ⟨G4, 2, none⟩ = some (.int .i64 0) := HRwd.out.cell 2
    have k3 : wd.cell? ⟨G4, 3, none⟩ = some (.int .i64 A.1) := HRwd.out.cell 3
    have g0 : wd.cell? ⟨G6, 0, none⟩ = some (.string A.2.1) := HRgd.out.cell 0
    have g1 : wd.cell? ⟨G6, 1, none⟩ = some (.slice pg A.2.2.length cg) := HRgd.out.cell 1
    have g2 : wd.cell? ⟨G6, 2, none⟩ = some (.int .i64 0) := HRgd.out.cell 2
    have g3 : wd.cell? ⟨G6, 3, none⟩ = some (.int .i64 A.1) := HRgd.out.cell 3
    clear hwd x0 x1 HRowc HRwc HRgc HRowXc HOc HBwc HB3c HXc
    go_wp2_with fail
    refine (eqFileOut_sameW A _ _ 0 0 _ HWA.out (RBats.mono HOd.out.rl (Nat.zero_le _)) HWd.out).mono ?_
    rintro e we ⟨rfl, hbe⟩
    have HBe := hide (HBd.out.trans (hbe.mono HBd.out.size))
    have HB3e := hide (HB3d.out.trans (hbe.mono HB3d.out.size))
    have HRowe := hide (HRowd.out.below hbe HRowd.out.lt)
    have HRwe := hide (HRwd.out.below hbe HRwd.out.lt)
    have HRge := hide (HRgd.out.below hbe HRgd.out.lt)
    have HOe := hide (HOd.out.keep (SameIn.ofBelow hbe))
    have m0 : we.cell? ⟨G6, 0, none⟩ = some (.string A.2.1) := HRge.out.cell 0
    have m1 : we.cell? ⟨G6, 1, none⟩ = some (.slice pg A.2.2.length cg) := HRge.out.cell 1
    have m2 : we.cell? ⟨G6, 2, none⟩ = some (.int .i64 0) := HRge.out.cell 2
    have m3 : we.cell? ⟨G6, 3, none⟩ = some (.int .i64 A.1) := HRge.out.cell 3
    clear hbe k0 k1 k2 k3 g0 g1 g2 g3 HRowd HRwd HRgd HWd HOd HBd HB3d
    go_wp2_with fail
    refine (markFileOut_ownW LO G6 A _ 1 _ HWA.out (by have := HWA.out.1; omega) HOe.out).mono ?_
    rintro e wf ⟨rfl, hof, hwf⟩
    have HL3 := hide (show w3.heap.size ≤ LO by have h1 := HV5.out; have h2 := HLX.out; omega)
    have HBf := hide (hwf.toBelow HBe.out (Nat.le_trans HB3.out.size HL3.out) HBe.out.size)
    have HB3f := hide (hwf.toBelow HB3e.out HL3.out HB3e.out.size)
    have HRowf := hide (hwf.row HRowe.out (.inl (Nat.lt_of_lt_of_le HLW.out.1 HL3.out)))
    have HRwf := hide (hwf.row HRwe.out (.inl (Nat.lt_of_lt_of_le HLW.out.2 HL3.out)))
    have HRgf := hide (hwf.row HRge.out (.inr (Nat.le_refl _)))
    have HOf := hide hof
    obtain ⟨M, hM⟩ : ∃ M : Nat, M = 1 + cntBats A.2.2 := ⟨_, rfl⟩
    rw [← hM]
    have HMM := hide hM
    have hMp : ¬ ((M : Nat) : Int) < 0 := by omega
    have hMe : (((M : Nat) : Int) != ((M : Nat) : Int)) = false := by simp
    have n0 : wf.cell? ⟨G6, 0, none⟩ = some (.string A.2.1) := HRgf.out.cell 0
    have n1 : wf.cell? ⟨G6, 1, none⟩ = some (.slice pg A.2.2.length cg) := HRgf.out.cell 1
    have n2 : wf.cell? ⟨G6, 2, none⟩ = some (.int .i64 0) := HRgf.out.cell 2
    have n3 : wf.cell? ⟨G6, 3, none⟩ = some (.int .i64 A.1) := HRgf.out.cell 3
    clear hof hwf hM m0 m1 m2 m3 HRowe HRwe HRge HOe HBe HB3e
    go_wp2_with fail
    refine (heldFileOut_ownW LO G6 A _ 1 _ HWA.out (by have := HWA.out.1; omega) HOf.out).mono ?_
    rintro e wg ⟨rfl, hbg⟩
    rw [← HMM.out]
    have HBg := hide (HBf.out.trans (hbg.mono HBf.out.size))
    have HB3g := hide (HB3f.out.trans (hbg.mono HB3f.out.size))
    have HRowg := hide (HRowf.out.below hbg HRowf.out.lt)
    have HRwg := hide (HRwf.out.below hbg HRwf.out.lt)
    have HRgg := hide (HRgf.out.below hbg HRgf.out.lt)
    have HOg := hide (HOf.out.keep (SameIn.ofBelow hbg))
    have cg0 : wg.cell? ⟨w.heap.size, 1, none⟩ = some (.slice p x.length c) := HRowg.out.cell 1
    have cg1 : wg.cell? ⟨w.heap.size, 0, none⟩ = some (.string n) := HRowg.out.cell 0
    clear hbg n0 n1 n2 n3 HRowf HRwf HRgf HOf HBf HB3f
    go_wp2_with fail
    refine (toFile_any n _ x _ HS.out (HR.out.below HBg.out)).mono ?_
    rintro e wh ⟨ph, ch, rfl, hrh, hbh⟩
    have HBh := hide (HBg.out.trans (hbh.mono HBg.out.size))
    have HB3h := hide (HB3g.out.trans (hbh.mono HB3g.out.size))
    have HCh := hide (RBats.mono hrh (Nat.zero_le _))
    have HOh := hide (HOg.out.keep (SameIn.ofBelow hbh))
    have HRwh := hide (HRwg.out.below hbh HRwg.out.lt)
    have HRgh := hide (HRgg.out.below hbh HRgg.out.lt)
    clear hrh hbh HRowg HRwg HRgg HOg HBg HB3g cg0 cg1
    go_wp2_with fail
    refine (implSplit_any n _ x m _ hnl HNB.out HS.out HCh.out).mono ?_
    rintro e wi ⟨pi, ci, rfl, hoi, hbi⟩
    rw [← HAE.out] at hoi ⊢
    unfold foV
    have hbw : Below wi.heap.size wi (wi.alloc (.cells #[.string A.2.1, .slice pi A.2.2.length ci, .int .i64 0, .int .i64 A.1] 40)) := (Below.refl _ _).alloc (Nat.le_refl _) _
    have hbiw := hbi.trans (hbw.mono hbi.size)
    have HBi := hide (HBh.out.trans (hbiw.mono HBh.out.size))
    have HB3i := hide (HB3h.out.trans (hbiw.mono HB3h.out.size))
    have HOi := hide (HOh.out.keep (SameIn.ofBelow hbiw))
    have HHi := hide ((RBats.mono hoi.rl (Nat.zero_le _)).below hbw)
    have HWi := hide (HW3.out.below HB3i.out)
    have HRwi := hide (HRwh.out.below hbiw HRwh.out.lt)
    have HRgi := hide (HRgh.out.below hbiw HRgh.out.lt)
    have r0 : (wi.alloc (.cells #[.string A.2.1, .slice pi A.2.2.length ci, .int .i64 0, .int .i64 A.1] 40)).cell? ⟨G4, 0, none⟩ = some (.string A.2.1) := HRwi.out.cell 0
    have r1 : (wi.alloc (.cells #[.string A.2.1, .slice pi A.2.2.length ci, .int .i64 0, .int .i64 A.1] 40)).cell? ⟨G4, 1, none⟩ = some (.slice pw A.2.2.length cw) := HRwi.out.cell 1
    have r2 : (wi.alloc (.cells #[.string A.2.1, .slice pi A.2.2.length ci, .int .i64 0, .int .i64 A.1] 40)).cell? ⟨G4, 2, none⟩ = some (.int .i64 0) := HRwi.out.cell 2
    have r3 : (wi.alloc (.cells #[.string A.2.1, .slice pi A.2.2.length ci, .int .i64 0, .int .i64 A.1] 40)).cell? ⟨G4, 3, none⟩ = some (.int .i64 A.1) := HRwi.out.cell 3
    clear hoi hbi hbw hbiw HOh HBh HB3h HCh HRwh HRgh
    go_wp2_with fail
    refine (eqFileOut_sameW A _ _ 0 0 _ HWA.out HHi.out HWi.out).mono ?_
    rintro e wj ⟨rfl, hbj⟩
    have HBj := hide (HBi.out.trans (hbj.mono HBi.out.size))
    have HOj := hide (HOi.out.keep (SameIn.ofBelow hbj))
    have HRgj := hide (HRgi.out.below hbj HRgi.out.lt)
    have s0 : wj.cell? ⟨G6, 0, none⟩ = some (.string A.2.1) := HRgj.out.cell 0
    have s1 : wj.cell? ⟨G6, 1, none⟩ = some (.slice pg A.2.2.length cg) := HRgj.out.cell 1
    have s2 : wj.cell? ⟨G6, 2, none⟩ = some (.int .i64 0) := HRgj.out.cell 2
    have s3 : wj.cell? ⟨G6, 3, none⟩ = some (.int .i64 A.1) := HRgj.out.cell 3
    clear hbj r0 r1 r2 r3 HOi HBi HB3i HHi HWi HRwi HRgi
    go_wp2_with fail
    refine (heldFileOut_ownW LO G6 A _ 1 _ HWA.out (by have := HWA.out.1; omega) HOj.out).mono ?_
    rintro e wk ⟨rfl, hbk⟩
    rw [← HMM.out]
    have HBk := hide (HBj.out.trans (hbk.mono HBj.out.size))
    clear hbk
    go_wp2
    go_ret
    exact ⟨rfl, HBk.out⟩
end Go.Proofs.YtholbhjfmfanbaaGreat
