/- All Messages of a File: of the program (they share its memory) and of the model (copies). -/
import Derived.Test.YtholbhjfmfanbaaGreatXG13BFileM
import Derived.Test.YtholbhjfmfanbaaGreatXG22OCopyM
import Derived.Laws.AppendOwnNone
import Derived.Maps.AppendAt
namespace Go.Proofs.YtholbhjfmfanbaaGreat
open Go.RowKit
def allL (x : List Bat) : List Msg := (x.map Prod.snd).flatten
theorem allL_nil : allL [] = [] := rfl
theorem allL_take (x : List Bat) (k : Nat) (h : k < x.length) : allL (x.take (k + 1)) = allL (x.take k) ++ x[k].2 := by
  rw [List.take_succ_eq_append_getElem h]
  simp only [allL, List.map_append, List.flatten_append, List.map_cons, List.map_nil, List.flatten_cons, List.flatten_nil, List.append_nil]
theorem wMsgs_append (a b : List Msg) : wMsgs (a ++ b) = wMsgs a + wMsgs b := by
  simp only [wMsgs, wL, List.map_append, List.sum_append, List.length_append]; omega
theorem allL_w : ∀ x : List Bat, wMsgs (allL x) ≤ wBats x
  | [] => by simp [allL, wMsgs, wL]
  | b :: r => by
    have h := allL_w r
    have e : allL (b :: r) = b.2 ++ allL r := by simp [allL]
    rw [e, wMsgs_append]
    simp only [wBats, wL, wBat, List.map_cons, List.sum_cons, List.length_cons] at h ⊢
    omega
theorem allL_len (x : List Bat) (k : Nat) : (allL (x.take k)).length ≤ wBats x := by
  have h1 := allL_w x
  have e : x = x.take k ++ x.drop k := (List.take_append_drop k x).symm
  have h2 : allL x = allL (x.take k) ++ allL (x.drop k) := by
    conv => lhs; rw [e]
    simp only [allL, List.map_append, List.flatten_append]
  rw [h2, wMsgs_append] at h1
  have h3 : (allL (x.take k)).length ≤ wMsgs (allL (x.take k)) := wL_len _ _
  omega
theorem allL_len2 (x : List Bat) (k j : Nat) (h : k < x.length) : (allL (x.take k) ++ x[k].2.take j).length ≤ wBats x := by
  have h1 := allL_len x (k + 1)
  rw [allL_take x k h, List.length_append] at h1
  rw [List.length_append, List.length_take]
  omega
/-- An append of a nil slice. -/
theorem run_append_none {P : Program} {w : World} (base : Nat) (t ty e : TypeId) (i : TypeInfo) (size c : Nat) (ht : P.underlying t = some (.slice e)) (hi : P.info? e = some i)
    (v : Value) (n : Nat) (xs : List Value) (hown : w.ownsRow base e size v n xs) : (Builtin.append_ #[t, t] ty #[v, .slice none 0 c]).run P w = .ok v w := by
  rcases hown.2 with ⟨rfl, rfl⟩ | ⟨g, cap, cur, rfl, _, _, hnc, _⟩
  · simp [Builtin.append_, run_underlying ht, sizeOf, typeInfo, hi, Builtin.lenOf, Builtin.firstCells]
  · simp [Builtin.append_, run_underlying ht, sizeOf, typeInfo, hi, Builtin.lenOf, Builtin.firstCells, hnc, storeCells]
theorem wpList_append_none {P : Program} {w : World} {ops : Array Oper} {rest : List Oper} {o : Oper} {a : Act} {Q : Exit → Act → World → Prop} (hgd : o.guard = none) (s x : Operand) (t : TypeId)
    (ho : o.op = .call { callee := .builtin .append, args := #[s, x], argTypes := #[t, t] })
    (base : Nat) (e : TypeId) (i : TypeInfo) (size c : Nat) (ht : P.underlying t = some (.slice e)) (hi : P.info? e = some i)
    (v : Value) (n : Nat) (xs : List Value) (hs : a.eval s = v) (hown : w.ownsRow base e size v n xs) (hx : a.eval x = .slice none 0 c)
    (h : wpList P ops Q rest (a.put o.dst v) w) : wpList P ops Q (o :: rest) a w := by
  refine wpList_plain hgd fun K hK => ?_
  have hrun := run_append_none (P := P) (w := w) base t o.type e i size c ht hi v n xs hown
  unfold Oper.wp
  simp [execOp, ho, resolve, invoke, builtin, hs, hx, hrun, Result.andThen]
  exact hK _ _ h
/-- The cells from (g, off) on, as the world has them. -/
def cellsAt (w : World) (g off m : Nat) : List Value := (List.range m).map fun j => (w.cell? ⟨g, off + j, none⟩).getD (.bool false)
theorem cellsAt_len (w : World) (g off m : Nat) : (cellsAt w g off m).length = m := by simp [cellsAt]
theorem cellsAt_get (w : World) (g off m j : Nat) (h : j < m) {v : Value} (hc : w.cell? ⟨g, off + j, none⟩ = some v) : (cellsAt w g off m)[j]? = some v := by
  simp [cellsAt, h, hc]
theorem cellsAt_ok {w : World} {g off m : Nat} (h : ∀ j, j < m → ∃ v, w.cell? ⟨g, off + j, none⟩ = some v ∧ v.oneCell' = true) :
    (∀ j u, (cellsAt w g off m)[j]? = some u → w.cell? ((⟨g, off, none⟩ : Addr).add j) = some u) ∧ ∀ u ∈ cellsAt w g off m, u.oneCell' = true := by
  refine ⟨fun j u hu => ?_, fun u hu => ?_⟩
  · have hj : j < m := by
      have := (List.getElem?_eq_some_iff.1 hu).1
      rwa [cellsAt_len] at this
    obtain ⟨v, hv, _⟩ := h j hj
    rw [cellsAt_get w g off m j hj hv] at hu
    rw [Addr.add_lit, hv, hu]
  · obtain ⟨j, hj, rfl⟩ := List.getElem_of_mem hu
    have hj2 : j < m := by rwa [cellsAt_len] at hj
    obtain ⟨v, hv, h1⟩ := h j hj2
    have := cellsAt_get w g off m j hj2 hv
    rw [List.getElem?_eq_getElem hj] at this
    cases this
    exact h1
theorem msgs_cells {w : World} {g off : Nat} {xs : List Msg} (hc : ∀ i (h : i < xs.length), w.cell? ⟨g, off + i * 2, none⟩ = some (.string xs[i].1) ∧ xs[i].1.size ≤ maxLen ∧ ∃ u, w.cell? ⟨g, off + i * 2 + 1, none⟩ = some u ∧ RSegs 0 w u xs[i].2) :
    ∀ j, j < xs.length * 2 → ∃ v, w.cell? ⟨g, off + j, none⟩ = some v ∧ v.oneCell' = true := by
  intro j hj
  obtain ⟨h1, _, u, h2, h3⟩ := hc (j / 2) (by omega)
  rcases Nat.mod_two_eq_zero_or_one j with h | h
  · have e : off + j = off + j / 2 * 2 := by omega
    exact ⟨_, by rw [e]; exact h1, by simp [Value.oneCell']⟩
  · have e : off + j = off + j / 2 * 2 + 1 := by omega
    obtain ⟨p, c, rfl⟩ := h3.isSlice
    exact ⟨_, by rw [e]; exact h2, by simp [Value.oneCell']⟩
/-- A row of one's own, two cells an item, each item as it lies in the world w0. -/
def ShareE (w0 : World) (cs : List Value) (xs : List Msg) : Prop := ∀ j (h : j < xs.length), cs[j * 2]? = some (.string xs[j].1) ∧ xs[j].1.size ≤ maxLen ∧ ∃ u, cs[j * 2 + 1]? = some u ∧ RSegs 0 w0 u xs[j].2
theorem ShareE.add {w0 w : World} {g off : Nat} {cs : List Value} {xs ys : List Msg} (h : ShareE w0 cs xs) (hl : cs.length = xs.length * 2) (hb : Below w0.heap.size w0 w) (hg : g < w0.heap.size)
    (hc : ∀ i (h : i < ys.length), w0.cell? ⟨g, off + i * 2, none⟩ = some (.string ys[i].1) ∧ ys[i].1.size ≤ maxLen ∧ ∃ u, w0.cell? ⟨g, off + i * 2 + 1, none⟩ = some u ∧ RSegs 0 w0 u ys[i].2) :
    ShareE w0 (cs ++ cellsAt w g off (ys.length * 2)) (xs ++ ys) := by
  intro j hj
  rw [List.length_append] at hj
  by_cases hjx : j < xs.length
  · obtain ⟨f1, f2, u, f3, f4⟩ := h j hjx
    rw [List.getElem_append_left hjx]
    exact ⟨by rw [List.getElem?_append_left (by omega)]; exact f1, f2, u, by rw [List.getElem?_append_left (by omega)]; exact f3, f4⟩
  · obtain ⟨f1, f2, u, f3, f4⟩ := hc (j - xs.length) (by omega)
    rw [List.getElem_append_right (by omega)]
    refine ⟨?_, f2, u, ?_, f4⟩
    · rw [List.getElem?_append_right (by omega), hl, show j * 2 - xs.length * 2 = (j - xs.length) * 2 by omega]
      exact cellsAt_get w g off _ _ (by omega) ((hb.cell (p := ⟨g, off + (j - xs.length) * 2, none⟩) hg).trans f1)
    · rw [List.getElem?_append_right (by omega), hl, show j * 2 + 1 - xs.length * 2 = (j - xs.length) * 2 + 1 by omega]
      exact cellsAt_get w g off _ _ (by omega) ((hb.cell (p := ⟨g, off + ((j - xs.length) * 2 + 1), none⟩) hg).trans (by rw [← Nat.add_assoc]; exact f3))
theorem ShareE.rmsgs {w0 w : World} {base : Nat} {T : TypeId} {l : Value} {cs : List Value} {xs : List Msg} (h : ShareE w0 cs xs) (hown : w.ownsRow base T 2 l xs.length cs) (hb : Below w0.heap.size w0 w) : ∃ p c, l = .slice p xs.length c ∧ RMsgs 0 w l xs := by
  rcases own_block2 hown with ⟨hn, rfl⟩ | ⟨g, cap2, rest, rfl, hbg, hgs, hnc, hcm, hrow⟩
  · exact ⟨none, 0, by rw [hn], none, 0, by rw [hn], by omega, by unfold maxLen; omega, fun h => by omega⟩
  · refine ⟨_, _, rfl, some ⟨g, 0, none⟩, cap2, rfl, hnc, hcm, fun _ => ⟨g, 0, rfl, hrow.lt, Nat.zero_le _, fun i hi => ?_⟩⟩
    obtain ⟨f1, f2, u, f3, f4⟩ := h i hi
    have hcl := hown.1
    refine ⟨?_, f2, u, ?_, f4.below hb⟩
    · rw [Nat.zero_add, hrow.cell, List.getElem?_append_left (by omega)]; exact f1
    · rw [Nat.zero_add, hrow.cell, List.getElem?_append_left (by omega)]; exact f3
set_option maxHeartbeats 8000000 in
set_option maxRecDepth 100000 in
theorem allMessages_any (n : ByteArray) (u : Value) (x : List Bat) (w : World) (hn : wBats x ≤ 1048576) (hr : RBats 0 w u x) :
    Calls Tryz.prog 38 #[.agg #[.string n, u]] w fun e w' => ∃ p c, e = .returned (.slice p (allL x).length c) ∧ RMsgs 0 w' (.slice p (allL x).length c) (allL x) ∧ Below w.heap.size w w' := by
  obtain ⟨i0, hi, hz0, hz1, hz2⟩ := info_parts Tryz.infoMessage
  have HZC := hide (show (Value.agg #[.string ⟨#[]⟩, .slice none 0 0]).cells.size = 2 from rfl)
  have hl : x.length ≤ 1048576 := (wBats_mem hn).1
  have HN := hide hn
  clear hn
  obtain ⟨p, cap, rfl, h1, h2, h4⟩ := hr
  have H4 := hide h4
  unfold maxLen at h2
  clear h4
  obtain ⟨W, hW⟩ : ∃ W, W = w.alloc (.cells #[.string n, .slice p x.length cap] 29) := ⟨_, rfl⟩
  have HBW := hide (show Below w.heap.size w W by rw [hW]; exact (Below.refl _ _).alloc (Nat.le_refl _) _)
  have HRow0 := hide (show Row W w.heap.size 29 [.string n, .slice p x.length cap] by rw [hW]; exact row_new w [.string n, .slice p x.length cap] 29)
  have HW1 := hide (show W.heap.size = w.heap.size + 1 by rw [hW]; simp)
  have HO := hide (World.ownsRow_nil W W.heap.size 53 2)
  go_enter Tryz.func38, Tryz.ntmps38
  go_wp2_with fail
  rw [← hW]
  clear hW
  go_loopw [3, 9] (fun l i wr => ∃ (X : World) (k : Nat) (cs : List Value), X = wr ∧ k ≤ x.length ∧ i = .int .i64 (k : Int) ∧ Hid (X.ownsRow W.heap.size 53 2 l (allL (x.take k)).length cs) ∧ Hid (Below W.heap.size W X) ∧ Hid (ShareE w cs (allL (x.take k)))) (fun _ i _ => x.length - (intOf i).toNat)
  case atStart => exact ⟨_, 0, [], rfl, Nat.zero_le _, rfl, HO, hide (Below.refl _ _), hide (fun j h => absurd h (by simp [allL]))⟩
  case round =>
    obtain ⟨X, k, cs, rfl, hk, rfl, HOw, HB, HEl⟩ := hrel
    by_cases hlt : k < x.length
    · obtain ⟨g, off, hp, hg, _, hc⟩ := H4.out (by omega)
      subst hp
      obtain ⟨ha, hns, v, hv, hrv⟩ := hc k hlt
      have HBX := hide (HBW.out.trans (HB.out.mono HBW.out.size))
      have hk0 := (HBX.out.cell (p := ⟨g, off + k * 2, none⟩) hg).trans ha
      have hk1 := (HBX.out.cell (p := ⟨g, off + k * 2 + 1, none⟩) hg).trans hv
      have HT := hide (allL_take x k hlt)
      have HLN := hide (show (allL (x.take k)).length + (x[k]'hlt).2.length ≤ 1048576 by
        have h := allL_len x (k + 1)
        rw [allL_take x k hlt, List.length_append] at h
        have := HN.out; omega)
      obtain ⟨bt, hbt⟩ : ∃ bt, bt = x[k]'hlt := ⟨_, rfl⟩
      rw [← hbt] at hk0 hrv HT HLN
      clear hbt ha hns hv hc
      obtain ⟨vp, vc, hve, hv1, hv2, hv4⟩ := hrv
      subst hve
      have HV := hide hv4
      obtain ⟨D, hD⟩ : ∃ D, D = (allL (x.take k)).length := ⟨_, rfl⟩
      rw [← hD] at HOw HLN
      have HD := hide hD
      clear hD hv4 hv1 hv2
      have HOA := hide (HOw.out.alloc (.cells #[.string bt.1, .slice vp bt.2.length vc] 49))
      have HBA := hide (HB.out.alloc HB.out.size (.cells #[.string bt.1, .slice vp bt.2.length vc] 49))
      have HBXA := hide (HBX.out.alloc HBX.out.size (.cells #[.string bt.1, .slice vp bt.2.length vc] 49))
      by_cases h0 : bt.2.length = 0
      · have hb0 : bt.2 = [] := List.eq_nil_of_length_eq_zero h0
        cases vp with
        | none =>
          rw [h0] at HOA HBA HBXA hk1
          go_wp2_with (at_builtin; refine wpList_append_none rfl (.tmp 13) (.tmp 15) 34 rfl W.heap.size 53 i0 2 vc Tryz.underlying34 hi _ D cs rfl HOA.out (by first | rfl | simp) ?_)
          have HO3 := hide (show World.ownsRow _ W.heap.size 53 2 _ (allL (x.take (k + 1))).length cs by rw [HT.out, hb0, List.append_nil, ← HD.out]; exact HOA.out)
          have HE3 := hide (show ShareE w cs (allL (x.take (k + 1))) by rw [HT.out, hb0, List.append_nil]; exact HEl.out)
          clear hk0 hk1
          go_wp2
          go_roundw
          case rel => exact ⟨_, k + 1, _, rfl, by omega, by go_num, HO3, HBA, HE3⟩
          case measure => simp [intOf]; omega
        | some ad =>
          rw [h0] at HOA HBA HBXA hk1
          go_wp2_with (at_builtin; refine wpList_append_own_at _ rfl (.tmp 13) (.tmp 15) 34 rfl W.heap.size 53 i0 _ 2 40 Tryz.underlying34 hi hz0 hz1 hz2 HZC.out (by omega) _ D cs rfl HOA.out ad 0 _ [] rfl rfl (fun j u hu => by simp at hu) (fun u hu => by simp at hu) (by unfold maxLen; have := HLN.out; omega) (by have := HLN.out; omega) (by have := HBA.out.size; exact this) ?_)
          intro v' w3 hown hgrow _ _
          have HO3 := hide (show w3.ownsRow W.heap.size 53 2 v' (allL (x.take (k + 1))).length cs by rw [HT.out, hb0, List.append_nil, ← HD.out]; simpa using hown)
          have HE3 := hide (show ShareE w cs (allL (x.take (k + 1))) by rw [HT.out, hb0, List.append_nil]; exact HEl.out)
          have HB3 := hide (HBA.out.grown hgrow HBA.out.size (fun k hk => (HOA.out.lt k hk).1))
          clear hk0 hk1 hown hgrow
          go_wp2
          go_roundw
          case rel => exact ⟨_, k + 1, _, rfl, by omega, by go_num, HO3, HB3, HE3⟩
          case measure => simp [intOf]; omega
      · obtain ⟨g2, off2, hve, hg2, _, hc2⟩ := HV.out (by omega)
        subst hve
        obtain ⟨Y, hY⟩ : ∃ Y, Y = X.alloc (.cells #[.string bt.1, .slice (some ⟨g2, off2, none⟩) bt.2.length vc] 49) := ⟨_, rfl⟩
        rw [← hY] at HOA HBA HBXA
        have HCS := hide (cellsAt_ok (w := Y) (g := g2) (off := off2) (m := bt.2.length * 2) (fun j hj => by
          obtain ⟨v, h1, h2⟩ := msgs_cells hc2 j hj
          exact ⟨v, (HBXA.out.cell (p := ⟨g2, off2 + j, none⟩) hg2).trans h1, h2⟩))
        have HE3 := hide (HEl.out.add (by have := HOw.out.1; rw [← HD.out]; exact this) HBXA.out hg2 hc2)
        go_wp2_with (rw [← hY]; at_builtin; refine wpList_append_own_at Y rfl (.tmp 13) (.tmp 15) 34 rfl W.heap.size 53 i0 _ 2 40 Tryz.underlying34 hi hz0 hz1 hz2 HZC.out (by omega) _ D cs rfl HOA.out ⟨g2, off2, none⟩ bt.2.length _ (cellsAt Y g2 off2 (bt.2.length * 2)) rfl (cellsAt_len _ _ _ _) HCS.out.1 HCS.out.2 (by unfold maxLen; have := HLN.out; omega) (by have := HLN.out; omega) (by have := HBA.out.size; exact this) ?_)
        intro v' w3 hown hgrow _ _
        try rw [← hY] at hown hgrow
        have HO3 := hide (show w3.ownsRow W.heap.size 53 2 v' (allL (x.take (k + 1))).length (cs ++ cellsAt Y g2 off2 (bt.2.length * 2)) by rw [HT.out, List.length_append, ← HD.out]; exact hown)
        have HE4 := hide (show ShareE w (cs ++ cellsAt Y g2 off2 (bt.2.length * 2)) (allL (x.take (k + 1))) by rw [HT.out]; exact HE3.out)
        have HB3 := hide (HBA.out.grown hgrow HBA.out.size (fun k hk => (HOA.out.lt k hk).1))
        clear hk0 hk1 hown hgrow hc2 hY
        go_wp2
        go_roundw
        case rel => exact ⟨_, k + 1, _, rfl, by omega, by go_num, HO3, HB3, HE4⟩
        case measure => simp [intOf]; omega
    · have ek : x.take k = x := List.take_of_length_le (by omega)
      rw [ek] at HOw HEl
      have HBX := hide (HBW.out.trans (HB.out.mono HBW.out.size))
      obtain ⟨pl, cl, rfl, hrm⟩ := HEl.out.rmsgs HOw.out HBX.out
      have HRM := hide hrm
      clear hrm ek
      go_wp2
      go_ret
      exact ⟨pl, cl, rfl, HRM.out, HBX.out⟩
end Go.Proofs.YtholbhjfmfanbaaGreat
/- All Messages of a File: the model's copies. -/
namespace Go.Proofs.YtholbhjfmfanbaaGreat
open Go.RowKit
def GrowE (base : Nat) (X : World) (l : Value) (cs : List Value) (xs : List Msg) : Prop := ∃ A B : Nat → Nat, ∀ j (h : j < xs.length), cs[j * 2]? = some (.string xs[j].1) ∧ xs[j].1.size ≤ maxLen ∧ base ≤ A j ∧ B j ≤ X.heap.size ∧ (∀ g, l.ownBlock = some g → B j ≤ g ∨ g < A j) ∧ ∃ u, cs[j * 2 + 1]? = some u ∧ OSegs (A j) (B j) X u xs[j].2
theorem GrowE.snoc {base a b : Nat} {X Y Z : World} {l v' u : Value} {cs : List Value} {xs : List Msg} {n : ByteArray} {y : List Seg} (h : GrowE base X l cs xs) (hcl : cs.length = xs.length * 2) (hlt : ∀ g, l.ownBlock = some g → base ≤ g ∧ g < X.heap.size)
    (hXY : Below X.heap.size X Y) (hbase : base ≤ X.heap.size) (ha : X.heap.size ≤ a) (hb : b ≤ Y.heap.size) (hn : n.size ≤ maxLen) (hR : OSegs a b Y u y) (hgrow : Y.grownBy Z l.ownBlock) (hat : v'.ownBlock = l.ownBlock ∨ v'.ownBlock = some Y.heap.size) :
    GrowE base Z v' (cs ++ [.string n, u]) (xs ++ [(n, y)]) := by
  obtain ⟨A, B, hE⟩ := h
  have hs1 := hXY.size
  have hs2 := hgrow.size
  refine ⟨fun i => if i = xs.length then a else A i, fun i => if i = xs.length then b else B i, fun j hj => ?_⟩
  rw [List.length_append] at hj
  dsimp only
  by_cases hjx : j = xs.length
  · subst hjx
    rw [if_pos rfl, if_pos rfl, List.getElem_append_right (Nat.le_refl _)]
    simp only [Nat.sub_self, List.getElem_cons_zero]
    refine ⟨?_, hn, by omega, by omega, fun g hg => ?_, u, ?_, ?_⟩
    · rw [List.getElem?_append_right (by omega), show xs.length * 2 - cs.length = 0 by omega]; rfl
    · rcases hat with e | e
      · rw [e] at hg
        exact .inr (by have := (hlt g hg).2; omega)
      · rw [e] at hg
        cases hg
        exact .inl hb
    · rw [List.getElem?_append_right (by omega), show xs.length * 2 + 1 - cs.length = 1 by omega]; rfl
    · exact hR.keep (grown_in hgrow (fun g hg => .inr (by have := (hlt g hg).2; omega)))
  · have hj2 : j < xs.length := by simp at hj; omega
    obtain ⟨f1, f2, f3, f4, f5, v, f6, f7⟩ := hE j hj2
    rw [if_neg hjx, if_neg hjx, List.getElem_append_left hj2]
    refine ⟨?_, f2, f3, by omega, fun g hg => ?_, v, ?_, ?_⟩
    · rw [List.getElem?_append_left (by omega)]; exact f1
    · rcases hat with e | e
      · rw [e] at hg
        exact f5 g hg
      · rw [e] at hg
        cases hg
        exact .inl (by omega)
    · rw [List.getElem?_append_left (by omega)]; exact f6
    · exact (f7.keep (SameIn.ofBelow hXY)).keep (grown_in hgrow f5)
theorem GrowE.rmsgs {base : Nat} {X : World} {l : Value} {cs : List Value} {xs : List Msg} (h : GrowE base X l cs xs) (hown : X.ownsRow base 53 2 l xs.length cs) : ∃ p c, l = .slice p xs.length c ∧ RMsgs base X l xs := by
  obtain ⟨A, B, hE⟩ := h
  rcases own_block2 hown with ⟨hn, rfl⟩ | ⟨g, cap2, rest, rfl, hbg, hgs, hnc, hcm, hrow⟩
  · exact ⟨none, 0, by rw [hn], none, 0, by rw [hn], by omega, by unfold maxLen; omega, fun h => by omega⟩
  · refine ⟨_, _, rfl, some ⟨g, 0, none⟩, cap2, rfl, hnc, hcm, fun _ => ⟨g, 0, rfl, hrow.lt, hbg, fun i hi => ?_⟩⟩
    obtain ⟨f1, f2, f3, f4, f5, u, f6, f7⟩ := hE i hi
    have hcl := hown.1
    refine ⟨?_, f2, u, ?_, RSegs.mono f7.rl f3⟩
    · rw [Nat.zero_add, hrow.cell, List.getElem?_append_left (by omega)]; exact f1
    · rw [Nat.zero_add, hrow.cell, List.getElem?_append_left (by omega)]; exact f6
set_option maxHeartbeats 16000000 in
set_option maxRecDepth 100000 in
theorem l08AllP_any (n : ByteArray) (u : Value) (x : List Bat) (w : World) (hn : wBats x ≤ 1048576) (hr : RBats 0 w u x) :
    Calls Tryz.prog 37 #[.agg #[.string n, u]] w fun e w' => ∃ g c, e = .returned (.slice (some ⟨g, 0, none⟩) (allL x).length c) ∧ RMsgs w.heap.size w' (.slice (some ⟨g, 0, none⟩) (allL x).length c) (allL x) ∧ Below w.heap.size w w' := by
  obtain ⟨i0, hi, hz0, hz1, hz2⟩ := info_parts Tryz.infoMessage
  have HZC := hide (show (Value.agg #[.string ⟨#[]⟩, .slice none 0 0]).cells.size = 2 from rfl)
  have hl : x.length ≤ 1048576 := (wBats_mem hn).1
  have HM := hide (fun i (h : i < x.length) => (show wMsgs x[i].2 ≤ 1048576 from ((wBats_mem hn).2 i h).1))
  have HN := hide hn
  clear hn
  obtain ⟨p, cap, rfl, h1, h2, h4⟩ := hr
  have H4 := hide h4
  unfold maxLen at h2
  clear h4
  obtain ⟨W, hW⟩ : ∃ W, W = w.alloc (.cells #[.string n, .slice p x.length cap] 29) := ⟨_, rfl⟩
  have HBW := hide (show Below w.heap.size w W by rw [hW]; exact (Below.refl _ _).alloc (Nat.le_refl _) _)
  have HRow0 := hide (show Row W w.heap.size 29 [.string n, .slice p x.length cap] by rw [hW]; exact row_new w [.string n, .slice p x.length cap] 29)
  have HW1 := hide (show W.heap.size = w.heap.size + 1 by rw [hW]; simp)
  have HO := hide (World.ownsRow_lit (e := 53) (size := 2) (base := W.heap.size) W #[] 0 (Nat.le_refl _) (Nat.zero_le _) rfl)
  have HBW1 := hide ((Below.refl W.heap.size W).alloc (Nat.le_refl _) (.cells #[] 53))
  have HRow1 := hide (HRow0.out.alloc (.cells #[] 53))
  go_enter Tryz.func37, Tryz.ntmps37
  go_wp2_with fail
  rw [← hW]
  obtain ⟨W1, hW1⟩ : ∃ W1, W1 = W.alloc (.cells #[] 53) := ⟨_, rfl⟩
  try rw [← hW1]
  rw [← hW1] at HO HBW1 HRow1
  clear hW hW1
  have HO5 : Hid (W1.ownsRow W.heap.size 53 2 (.slice (some ⟨w.heap.size + 1, 0, none⟩) 0 0) 0 []) := hide (by
    have h := HO.out
    rw [HW1.out] at h ⊢
    exact h)
  go_loopw [3, 4] (fun l i wr => ∃ (X : World) (k : Nat) (cs : List Value), X = wr ∧ k ≤ x.length ∧ i = .int .i64 (k : Int) ∧ Hid (X.ownsRow W.heap.size 53 2 l (allL (x.take k)).length cs) ∧ Hid (Below W.heap.size W X) ∧ Hid (Row X w.heap.size 29 [.string n, .slice p x.length cap]) ∧ Hid (GrowE W.heap.size X l cs (allL (x.take k))) ∧ Hid (l ≠ .slice none 0 0)) (fun _ i _ => x.length - (intOf i).toNat)
  case atStart => exact ⟨_, 0, [], rfl, Nat.zero_le _, rfl, HO5, HBW1, HRow1, hide ⟨fun _ => 0, fun _ => 0, fun j h => absurd h (by simp [allL])⟩, hide (fun h => by cases h)⟩
  case round =>
    obtain ⟨X, k, cs, rfl, hk, rfl, HOw, HB, HRow, HEl, HNE⟩ := hrel
    have cF : X.cell? ⟨w.heap.size, 1, none⟩ = some (.slice p x.length cap) := HRow.out.cell 1
    by_cases hlt : k < x.length
    · obtain ⟨g, off, hp, hg, _, hc⟩ := H4.out (by omega)
      subst hp
      obtain ⟨_, _, v, hv, hrv⟩ := hc k hlt
      have HT := hide (allL_take x k hlt)
      have HLN := hide (show ∀ j, (allL (x.take k) ++ (x[k]'hlt).2.take j).length ≤ 1048576 from fun j => Nat.le_trans (allL_len2 x k j hlt) HN.out)
      have HMK := hide (HM.out k hlt)
      obtain ⟨bt, hbt⟩ : ∃ bt, bt = x[k]'hlt := ⟨_, rfl⟩
      rw [← hbt] at hrv HT HLN HMK
      obtain ⟨vp, vc, hve, hv1, hv2, hv4⟩ := hrv
      subst hve
      have HV := hide hv4
      have HK1 := hide (show ∀ Z, Below W.heap.size W Z → Z.cell? ⟨g, off + k * 2 + 1, none⟩ = some (.slice vp bt.2.length vc) from fun Z hb => ((HBW.out.trans (hb.mono HBW.out.size)).cell (p := ⟨g, off + k * 2 + 1, none⟩) hg).trans hv)
      have hki0 : (0 : Int) ≤ (k : Int) := by omega
      have hki : (k : Int) < (x.length : Int) := by omega
      have HJ := hide (show ∃ L : List Msg, L = allL (x.take k) from ⟨_, rfl⟩)
      obtain ⟨L, hL⟩ := HJ.out
      rw [← hL] at HOw HEl HT HLN
      clear hbt hc hv hv4 hL HJ
      unfold maxLen at hv2
      go_wp2_with fail
      go_loopw [3, 5] (fun l i wr => ∃ (Z : World) (j : Nat) (cs : List Value), Z = wr ∧ j ≤ bt.2.length ∧ i = .int .i64 (j : Int) ∧ Hid (Z.ownsRow W.heap.size 53 2 l (L ++ bt.2.take j).length cs) ∧ Hid (Below W.heap.size W Z) ∧ Hid (Row Z w.heap.size 29 [.string n, .slice (some ⟨g, off, none⟩) x.length cap]) ∧ Hid (GrowE W.heap.size Z l cs (L ++ bt.2.take j)) ∧ Hid (l ≠ .slice none 0 0)) (fun _ i _ => bt.2.length - (intOf i).toNat)
      case atStart => exact ⟨_, 0, cs, rfl, Nat.zero_le _, rfl, hide (by simpa using HOw.out), HB, HRow, hide (by simpa using HEl.out), HNE⟩
      case round =>
        obtain ⟨Z, j, cs, rfl, hj, rfl, HOZ, HBZ, HRowZ, HEZ, HNZ⟩ := hrel
        have cZ : Z.cell? ⟨w.heap.size, 1, none⟩ = some (.slice (some ⟨g, off, none⟩) x.length cap) := HRowZ.out.cell 1
        have kZ := HK1.out Z HBZ.out
        by_cases hjl : j < bt.2.length
        · obtain ⟨g2, off2, hve, hg2, _, hc2⟩ := HV.out (by omega)
          subst hve
          have HBX := hide (HBW.out.trans (HBZ.out.mono HBW.out.size))
          obtain ⟨a0, hns, v2, a1, hrs⟩ := hc2 j hjl
          have m0 := (HBX.out.cell (p := ⟨g2, off2 + j * 2, none⟩) hg2).trans a0
          have m1 := (HBX.out.cell (p := ⟨g2, off2 + j * 2 + 1, none⟩) hg2).trans a1
          have HRS := hide (hrs.below HBX.out)
          obtain ⟨sp, sc, rfl⟩ := hrs.isSlice
          have HWM := hide ((wMsgs_mem HMK.out).2 j hjl)
          have HNS := hide hns
          have HTJ := hide (show L ++ bt.2.take (j + 1) = (L ++ bt.2.take j) ++ [((bt.2[j]'hjl).1, (bt.2[j]'hjl).2)] by rw [List.take_succ_eq_append_getElem hjl, List.append_assoc])
          have HLJ := hide (HLN.out (j + 1))
          obtain ⟨mg, hmg⟩ : ∃ mg, mg = bt.2[j]'hjl := ⟨_, rfl⟩
          rw [← hmg] at m0 m1 HRS HWM HNS HTJ
          obtain ⟨D, hD⟩ : ∃ D, D = (L ++ bt.2.take j).length := ⟨_, rfl⟩
          have HD1 := hide (show (L ++ bt.2.take (j + 1)).length = D + 1 by rw [HTJ.out, List.length_append, ← hD]; rfl)
          have HCL := hide (show cs.length = (L ++ bt.2.take j).length * 2 from HOZ.out.1)
          rw [← hD] at HOZ
          rw [HD1.out] at HLJ
          have hji0 : (0 : Int) ≤ (j : Int) := by omega
          have hji : (j : Int) < (bt.2.length : Int) := by omega
          clear hmg hD a0 a1 hrs hns hc2
          go_wp2_with fail
          refine (l05Copy_any mg.1 _ mg.2 _ HWM.out.1 HRS.out).mono ?_
          rintro e w2 ⟨p2, c2, rfl, hr2, hb2⟩
          have HR2 := hide (hr2.keep (SameIn.ofBelow ((Below.refl w2.heap.size w2).alloc (Nat.le_refl _) (.cells #[.string mg.1, .slice p2 mg.2.length c2] 53))))
          have hba := hb2.alloc hb2.size (.cells #[.string mg.1, .slice p2 mg.2.length c2] 53)
          have HZY := hide hba
          have HO2 := hide (own_below HOZ.out hba)
          have HBm := hide (HBZ.out.trans (hba.mono HBZ.out.size))
          have HROW := hide (row_new w2 [.string mg.1, .slice p2 mg.2.length c2] 53)
          have HRowY := hide (HRowZ.out.below hba HRowZ.out.lt)
          have HSZ := hide (show w2.heap.size ≤ (w2.alloc (.cells #[.string mg.1, .slice p2 mg.2.length c2] 53)).heap.size by simp)
          have HZs := hide HBZ.out.size
          have HLT := hide HOZ.out.lt
          clear hb2 hr2 hba m0 m1 cZ kZ
          go_wp2_with (at_builtin; refine wpList_append_own_at (w2.alloc (.cells #[.string mg.1, .slice p2 mg.2.length c2] 53)) rfl (.tmp 25) (.tmp 36) 34 rfl W.heap.size 53 i0 _ 2 40 Tryz.underlying34 hi hz0 hz1 hz2 HZC.out (by omega) _ D cs rfl HO2.out ⟨w2.heap.size, 0, none⟩ 1 _ [.string mg.1, .slice p2 mg.2.length c2] rfl rfl (row_cellsM HROW.out) (by simp [Value.oneCell']) (by unfold maxLen; have := HLJ.out; omega) (by have := HLJ.out; omega) (by have := HBm.out.size; exact this) ?_)
          intro v' w3 hown hgrow hnil hat
          have HN3 := hide (show v' ≠ .slice none 0 0 by first | exact hnil | exact fun h => by have := (hnil.1 h).2; omega)
          clear hnil
          have HO3 := hide (show w3.ownsRow W.heap.size 53 2 v' (L ++ bt.2.take (j + 1)).length (cs ++ [.string mg.1, .slice p2 mg.2.length c2]) by rw [HD1.out]; exact hown)
          have HE3 := hide (show GrowE W.heap.size w3 v' (cs ++ [.string mg.1, .slice p2 mg.2.length c2]) (L ++ bt.2.take (j + 1)) by
            rw [HTJ.out]
            exact HEZ.out.snoc HCL.out (fun g hg => HLT.out g hg) HZY.out HZs.out (Nat.le_refl _) HSZ.out HNS.out HR2.out hgrow (by first | exact hat | (rw [show (w2.alloc (.cells #[.string mg.1, .slice p2 mg.2.length c2] 53)).heap.size = w2.heap.size + 1 by simp]; exact hat)))
          have HB3 := hide (HBm.out.grown hgrow HBm.out.size (fun k hk => (HO2.out.lt k hk).1))
          have HRow3 := hide (row_grown HRowY.out hgrow (fun k hk => (HO2.out.lt k hk).1) (by have := HW1.out; omega : w.heap.size < W.heap.size))
          clear hown hgrow hat
          go_wp2
          go_roundw
          case rel => exact ⟨_, j + 1, _, rfl, by omega, by go_num, HO3, HB3, HRow3, HE3, HN3⟩
          case measure => simp [intOf]; omega
        · have ej : bt.2.take j = bt.2 := List.take_of_length_le (by omega)
          rw [ej, ← HT.out] at HOZ HEZ
          go_wp2
          go_roundw
          case rel => exact ⟨_, k + 1, _, rfl, by omega, by go_num, HOZ, HBZ, HRowZ, HEZ, HNZ⟩
          case measure => simp [intOf]; omega
    · have ek : x.take k = x := List.take_of_length_le (by omega)
      rw [ek] at HOw HEl
      have HBX := hide (HBW.out.trans (HB.out.mono HBW.out.size))
      obtain ⟨gl, cl, hgl⟩ : ∃ g c, u3 = .slice (some ⟨g, 0, none⟩) (allL x).length c := by
        rcases own_block2 HOw.out with ⟨_, h⟩ | ⟨g, c, _, h, _⟩
        · exact absurd h HNE.out
        · exact ⟨g, c, h⟩
      subst hgl
      obtain ⟨pl, cl2, hpe, hrm⟩ := HEl.out.rmsgs HOw.out
      have HRM := hide (RMsgs.mono hrm (show w.heap.size ≤ W.heap.size from HBW.out.size))
      clear hrm ek hpe
      go_wp2
      go_ret
      exact ⟨gl, cl, rfl, HRM.out, HBX.out⟩
theorem l08All_any (n : ByteArray) (u : Value) (x : List Bat) (w : World) (hn : wBats x ≤ 1048576) (hr : RBats 0 w u x) :
    Calls Tryz.prog 37 #[.agg #[.string n, u]] w fun e w' => ∃ p c, e = .returned (.slice p (allL x).length c) ∧ RMsgs w.heap.size w' (.slice p (allL x).length c) (allL x) ∧ Below w.heap.size w w' :=
  (l08AllP_any n u x w hn hr).mono fun e w' h => by
    obtain ⟨g, c, h1, h2, h3⟩ := h
    exact ⟨_, c, h1, h2, h3⟩
end Go.Proofs.YtholbhjfmfanbaaGreat
