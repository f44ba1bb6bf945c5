/- ZSegments of the model. -/
import Derived.Test.YtelhgpogfedchaaZSeg
import Derived.OrdersHeld
import Derived.Deep.RegionHeld3
namespace Go.Proofs.Ytelhgpogfedchaa
open Go.RowKit
theorem step_own {P : Program} {ops : Array Oper} {o : Oper} {a : Act} {w : World} {K : Act → World → Prop} {Q : Exit → Act → World → Prop} {E : Prop} (hgd : o.guard = none) (s x : Operand) (t : TypeId)
    (ho : o.op = .call { callee := .builtin .append, args := #[s, x], argTypes := #[t, t] })
    (base : Nat) (e : TypeId) (i : TypeInfo) (z : Value) (size bytes : Nat) (ht : P.underlying t = some (.slice e)) (hi : P.info? e = some i) (hz : i.zero = some z)
    (hsize : i.size = size) (hby : i.bytes = bytes) (hzs : z.cells.size = size) (hsz : 0 < size)
    (v : Value) (n : Nat) (xs : List Value) (hs : a.eval s = v) (hown : w.ownsRow base e size v n xs)
    (ad : Addr) (m c : Nat) (news : List Value) (hx : a.eval x = .slice (some ad) m c) (hl : news.length = m * size) (hnews : ∀ j u, news[j]? = some u → w.cell? (ad.add j) = some u) (h1 : ∀ u ∈ news, u.oneCell' = true)
    (h63 : n + m ≤ maxLen) (hbytes : (n + m) * bytes ≤ 140737488355328) (hbase : base ≤ w.heap.size)
    (h : ∀ v' w', w'.ownsRow base e size v' (n + m) (xs ++ news) → w.grownBy w' v.ownBlock → (v'.ownBlock = v.ownBlock ∨ v'.ownBlock = some w.heap.size) → K (a.put o.dst v') w') :
    if Region.wanted o (yielded ops a.tmps) = true then Oper.wp P o a w K Q else E := by
  have hw : Region.wanted o (yielded ops a.tmps) = true := by simp [Region.wanted, hgd]
  rw [if_pos hw]
  obtain ⟨v', w', hr, h2, h3, h4, h5⟩ := run_append_own_at (P := P) w base t o.type e i z size bytes ht hi hz hsize hby hzs hsz v n xs hown ad m c news hl hnews h1 h63 hbytes hbase
  unfold Oper.wp execOp
  simp only [ho, resolve, invoke, builtin, Sem.run_bind, Sem.run_pure, Result.andThen_ok, List.map_toArray, List.map_cons, List.map_nil, hs, hx, hr]
  exact h v' w' h2 h3 h5
set_option maxHeartbeats 8000000 in
set_option maxRecDepth 100000 in
theorem specZ_any (m : ByteArray) (u : Value) (x : List Seg) (w : World) (hm : m.size ≤ maxLen) (hn : wSegs x ≤ 1048576) (hr : RSegs 0 w u x) :
    Calls Try.prog 5 #[.agg #[.string m, u]] w fun e w' => ∃ v, e = .returned v ∧ OComp w.heap.size w'.heap.size w' v (zAns m x) ∧ Below w.heap.size w w' := by
  obtain ⟨i0, hi, hz0, hz1, hz2⟩ := info_parts Try.infoStr
  have HSZ := hide (fitsM_of hn)
  have HMX := hide hm
  have HR := hide hr
  obtain ⟨p, cap, rfl, h1, h2, h4⟩ := hr
  have H4 := hide h4
  clear h4
  unfold maxLen at h2
  obtain ⟨W, hW⟩ : ∃ W, W = (w.alloc (.cells #[.string m, .slice p x.length cap] 30)).alloc (.cells #[] 9) := ⟨_, rfl⟩
  have HB0 := hide (show Below w.heap.size w W by rw [hW]; exact ((Below.refl w.heap.size w).alloc (Nat.le_refl _) _).alloc (by simp) _)
  have HRow0 := hide (show Row W w.heap.size 30 [.string m, .slice p x.length cap] by rw [hW]; exact (row_new w [.string m, .slice p x.length cap] 30).alloc _)
  have HWs := hide (show W.heap.size = w.heap.size + 2 by rw [hW]; simp)
  have HZC := hide (show (Value.string ⟨#[]⟩).cells.size = 1 from rfl)
  have HO0 : Hid (W.ownsRow (w.heap.size + 1) 9 1 (.slice (some ⟨w.heap.size + 1, 0, none⟩) 0 0) 0 []) := hide (by
    have := World.ownsRow_lit (e := 9) (base := w.heap.size + 1) (size := 1) (w.alloc (.cells #[.string m, .slice p x.length cap] 30)) #[] 0 (by simp) (by unfold maxLen; omega) rfl
    rw [hW]
    simpa using this)
  have HR0 := hide (HR.out.below HB0.out)
  clear HR
  have c1 : W.cell? ⟨w.heap.size, 1, none⟩ = some (.slice p x.length cap) := HRow0.out.cell 1
  have c0 : W.cell? ⟨w.heap.size, 0, none⟩ = some (.string m) := HRow0.out.cell 0
  cases hp : msgB m x
  · have HZ : Hid (∀ X : World, OComp w.heap.size X.heap.size X (.slice (some ⟨w.heap.size + 1, 0, none⟩) 0 0) (zAns m x)) := hide (by
      intro X
      have e : zAns m x = [] := by rw [zAns, hp]; rfl
      rw [e]
      exact ⟨_, 0, rfl, Nat.le_refl _, by unfold maxLen; omega, by simp, fun h => absurd h (by simp)⟩)
    have HMC : Hid (∀ X u, RSegs 0 X u x → Calls Try.prog 14 #[.agg #[.string m, u]] X fun e w' => e = .returned (.bool false) ∧ Below X.heap.size X w') := by
      intro X u h; rw [← hp]; exact specMessage_any m u x 0 X hm HSZ.out h
    clear hp hm
    by_cases hx0 : 0 < x.length
    · have hx1 : (0 : Int) < (x.length : Int) := by omega
      go_enter Try.func5, Try.ntmps5
      go_wp2_with fail
      rw [← hW]
      clear hW
      refine wp_loop_rounds 1 ?_
      rw [rounds_succ]
      go_wp2_with fail
      refine (HMC.out _ _ HR0.out).mono ?_
      rintro e w2 ⟨rfl, hb2⟩
      have HB2 := hide (HB0.out.trans (hb2.mono HB0.out.size))
      clear hb2
      go_wp2
      go_ret
      exact ⟨_, rfl, HZ.out _, HB2.out⟩
    · have hx1 : ¬ (0 : Int) < (x.length : Int) := by omega
      go_enter Try.func5, Try.ntmps5
      go_wp2_with fail
      rw [← hW]
      clear hW
      refine wp_loop_rounds 1 ?_
      rw [rounds_succ]
      go_wp2
      go_ret
      exact ⟨_, rfl, HZ.out _, HB0.out⟩
  have HZA := hide (show zAns m x = zL m x by rw [zAns, if_pos hp])
  have HSM := hide (zL_small m x hp)
  have HMC : Hid (∀ X u, RSegs 0 X u x → Calls Try.prog 14 #[.agg #[.string m, u]] X fun e w' => e = .returned (.bool true) ∧ Below X.heap.size X w') := by
    intro X u h; rw [← hp]; exact specMessage_any m u x 0 X hm HSZ.out h
  obtain ⟨hmk, hl, hok⟩ := msgB_parts hp
  have HOKS := hide hok
  have HM5 := hide (marksB_five hmk)
  clear hok hmk hp hm
  go_enter Try.func5, Try.ntmps5
  go_wp2_with fail
  rw [← hW]
  clear hW
  go_loopw [3, 4] (fun l i wr => ∃ (X : World) (k n : Nat), X = wr ∧ k ≤ x.length ∧ i = .int .i64 (k : Int) ∧ n ≤ k ∧ Hid (n = (zL m (x.take k)).length) ∧ Hid (X.ownsRow (w.heap.size + 1) 9 1 l n (strs (zL m (x.take k)))) ∧ Hid (Below (w.heap.size + 1) W X)) (fun _ i _ => x.length - (intOf i).toNat)
  case atStart => exact ⟨_, 0, 0, rfl, Nat.zero_le _, rfl, Nat.le_refl _, hide (by simp [zL]), HO0, hide (Below.refl _ _)⟩
  case round =>
    obtain ⟨X, k, n, rfl, hk, rfl, hnk, HN, HOw, HB⟩ := hrel
    have r1 : X.cell? ⟨w.heap.size, 1, none⟩ = some (.slice p x.length cap) := (HB.out.cell (p := ⟨w.heap.size, 1, none⟩) (by show w.heap.size < w.heap.size + 1; omega)).trans c1
    have r0 : X.cell? ⟨w.heap.size, 0, none⟩ = some (.string m) := (HB.out.cell (p := ⟨w.heap.size, 0, none⟩) (by show w.heap.size < w.heap.size + 1; omega)).trans c0
    have HBx := hide (HB0.out.trans (HB.out.mono (by omega : w.heap.size ≤ w.heap.size + 1)))
    by_cases hlt : k < x.length
    · obtain ⟨g, off, hpp, hg, _, hc⟩ := H4.out (by omega)
      subst hpp
      obtain ⟨ha, _, v, hv, hrv⟩ := hc k hlt
      have HRX := hide (show RSegs 0 X (.slice (some ⟨g, off, none⟩) x.length cap) x from ⟨_, _, rfl, h1, by unfold maxLen; omega, fun h0 => ⟨g, off, rfl, Nat.lt_of_lt_of_le hg HBx.out.size, Nat.zero_le _, fun i hi => by
        obtain ⟨a, b, u, hu, hru⟩ := hc i hi
        exact ⟨(HBx.out.cell (p := ⟨g, off + i * 2, none⟩) hg).trans a, b, u, (HBx.out.cell (p := ⟨g, off + i * 2 + 1, none⟩) hg).trans hu, hru.below HBx.out⟩⟩⟩)
      have HK0 := hide (fun (y : World) (hy : Below w.heap.size w y) => (hy.cell (p := ⟨g, off + k * 2, none⟩) hg).trans ha)
      have HK1 := hide (fun (y : World) (hy : Below w.heap.size w y) => (hy.cell (p := ⟨g, off + k * 2 + 1, none⟩) hg).trans hv)
      have HRV := hide hrv
      obtain ⟨vp, vc, rfl⟩ := hrv.isSlice
      have HOK := hide (HOKS.out k hlt)
      have HSN := hide (zL_snoc m x k hlt)
      have hki : (k : Int) < (x.length : Int) := by omega
      clear ha hv hrv hc
      obtain ⟨sg, hsg⟩ : ∃ sg, sg = x[k]'hlt := ⟨_, rfl⟩
      rw [← hsg] at HK0 HK1 HRV HOK HSN
      clear hsg
      have h3 : sg.1.size = 3 := (segB_parts HOK.out).1
      have h0s : 0 < sg.1.size := by omega
      have HOW := hide (own_eq sg.1 h0s)
      have hsi : (0 : Int) < (sg.1.size : Int) := by omega
      go_wp2_with fail
      refine (HMC.out _ _ HRX.out).mono ?_
      rintro e w2 ⟨rfl, hb2⟩
      have HB2 := hide (HB.out.trans (hb2.mono (by have := HB.out.size; have := HWs.out; omega)))
      have HBw2 := hide (HBx.out.trans (hb2.mono HBx.out.size))
      have HO2 := hide (own_belowZ HOw.out hb2)
      have q1 : w2.cell? ⟨w.heap.size, 1, none⟩ = some (.slice (some ⟨g, off, none⟩) x.length cap) := (HB2.out.cell (p := ⟨w.heap.size, 1, none⟩) (by show w.heap.size < w.heap.size + 1; omega)).trans c1
      have k0 := HK0.out w2 HBw2.out
      clear hb2 r0 r1 HOw
      cases hown : ownB sg.1
      · have hob : (((sg.1[0]'h0s).toNat : Int) == 90) = false := by
          have := HOW.out
          rw [hown] at this
          have h2 : ¬ (sg.1[0]'h0s).toNat = 90 := by simpa using this.symm
          exact beq_eq_false_iff_ne.2 (by omega)
        have HT : Hid (zL m (x.take (k + 1)) = zL m (x.take k)) := by rw [HSN.out, hown]; exact (List.append_nil _)
        have HN2 : Hid (n = (zL m (x.take (k + 1))).length) := by rw [HT.out]; exact HN
        have HO3 : Hid (w2.ownsRow (w.heap.size + 1) 9 1 u3 n (strs (zL m (x.take (k + 1))))) := by rw [HT.out]; exact HO2
        go_wp2
        go_roundw
        case rel => exact ⟨_, k + 1, n, rfl, by omega, by go_num, by omega, HN2, HO3, HB2⟩
        case measure => simp [intOf]; omega
      · have hob : (((sg.1[0]'h0s).toNat : Int) == 90) = true := by
          have := HOW.out
          rw [hown] at this
          have h2 : (sg.1[0]'h0s).toNat = 90 := by simpa using this.symm
          exact beq_iff_eq.2 (by omega)
        have HT : Hid (zL m (x.take (k + 1)) = zL m (x.take k) ++ [zText m sg]) := by rw [HSN.out, hown]; exact rfl
        have HSS := hide (show ∀ y, Below (w.heap.size + 1) W y → (fun y : World => y.cell? ⟨w.heap.size, 0, none⟩ = some (.string m) ∧ y.cell? ⟨w.heap.size, 1, none⟩ = some (.slice (some ⟨g, off, none⟩) x.length cap) ∧ y.cell? ⟨g, off + k * 2, none⟩ = some (.string sg.1) ∧ y.cell? ⟨g, off + k * 2 + 1, none⟩ = some (.slice vp sg.2.length vc)) y from fun y h =>
          have hb := HB0.out.trans (h.mono (by omega : w.heap.size ≤ w.heap.size + 1))
          ⟨(h.cell (p := ⟨w.heap.size, 0, none⟩) (by show w.heap.size < w.heap.size + 1; omega)).trans c0, (h.cell (p := ⟨w.heap.size, 1, none⟩) (by show w.heap.size < w.heap.size + 1; omega)).trans c1, HK0.out y hb, HK1.out y hb⟩)
        go_wp2_with fail
        clear q1 k0
        refine wp_region_held (S := (fun y : World => y.cell? ⟨w.heap.size, 0, none⟩ = some (.string m) ∧ y.cell? ⟨w.heap.size, 1, none⟩ = some (.slice (some ⟨g, off, none⟩) x.length cap) ∧ y.cell? ⟨g, off + k * 2, none⟩ = some (.string sg.1) ∧ y.cell? ⟨g, off + k * 2 + 1, none⟩ = some (.slice vp sg.2.length vc))) (by kernel_rfl) ?_
        have HBD := hide (HB2.out.drew)
        have HS := hide (show (fun y : World => y.cell? ⟨w.heap.size, 0, none⟩ = some (.string m) ∧ y.cell? ⟨w.heap.size, 1, none⟩ = some (.slice (some ⟨g, off, none⟩) x.length cap) ∧ y.cell? ⟨g, off + k * 2, none⟩ = some (.string sg.1) ∧ y.cell? ⟨g, off + k * 2 + 1, none⟩ = some (.slice vp sg.2.length vc)) { w2 with drawn := w2.drawn + 1 } from HSS.out _ HBD.out)
        refine wpAnyH_take (i := 0) (oi := _) (v := u3) rfl (by kernel_rfl) (by kernel_rfl) (by kernel_rfl) (fun _ _ _ h => h) (Or.inl ⟨by rfl, by intro w hSw; go_split_ands; go_simp⟩) HS.out ?_
        simp only [Act.put, List.getElem_toArray, List.getElem_cons_zero, List.setIfInBounds_toArray, List.set_cons_zero, List.set_cons_succ]
        refine wpAnyH_take (i := 1) (oi := _) (v := .pointer (some ⟨w.heap.size, 0, none⟩)) rfl (by kernel_rfl) (by kernel_rfl) (by kernel_rfl) (fun _ _ _ h => h) (Or.inl ⟨by rfl, by intro w hSw; go_split_ands; go_simp⟩) HS.out ?_
        simp only [Act.put, List.getElem_toArray, List.getElem_cons_zero, List.getElem_cons_succ, List.setIfInBounds_toArray, List.set_cons_zero, List.set_cons_succ]
        refine wpAnyH_take (i := 2) (oi := _) (v := .string m) rfl (by kernel_rfl) (by kernel_rfl) (by kernel_rfl) (fun _ _ _ h => h) (Or.inl ⟨by rfl, by intro w hSw; go_split_ands; go_simp⟩) HS.out ?_
        simp only [Act.put, List.getElem_toArray, List.getElem_cons_zero, List.getElem_cons_succ, List.setIfInBounds_toArray, List.set_cons_zero, List.set_cons_succ]
        refine wpAnyH_take (i := 3) (oi := _) (v := .pointer (some ⟨w.heap.size, 1, none⟩)) rfl (by kernel_rfl) (by kernel_rfl) (by kernel_rfl) (fun _ _ _ h => h) (Or.inl ⟨by rfl, by intro w hSw; go_split_ands; go_simp⟩) HS.out ?_
        simp only [Act.put, List.getElem_toArray, List.getElem_cons_zero, List.getElem_cons_succ, List.setIfInBounds_toArray, List.set_cons_zero, List.set_cons_succ]
        refine wpAnyH_take (i := 4) (oi := _) (v := .slice (some ⟨g, off, none⟩) x.length cap) rfl (by kernel_rfl) (by kernel_rfl) (by kernel_rfl) (fun _ _ _ h => h) (Or.inl ⟨by rfl, by intro w hSw; go_split_ands; go_simp⟩) HS.out ?_
        simp only [Act.put, List.getElem_toArray, List.getElem_cons_zero, List.getElem_cons_succ, List.setIfInBounds_toArray, List.set_cons_zero, List.set_cons_succ]
        refine wpAnyH_take (i := 5) (oi := _) (v := .int .i64 (k : Int)) rfl (by kernel_rfl) (by kernel_rfl) (by kernel_rfl) (fun _ _ _ h => h) (Or.inl ⟨by rfl, by intro w hSw; go_split_ands; go_simp⟩) HS.out ?_
        simp only [Act.put, List.getElem_toArray, List.getElem_cons_zero, List.getElem_cons_succ, List.setIfInBounds_toArray, List.set_cons_zero, List.set_cons_succ]
        refine wpAnyH_take (i := 6) (oi := _) (v := .pointer (some ⟨g, off + k * 2, none⟩)) rfl (by kernel_rfl) (by kernel_rfl) (by kernel_rfl) (fun _ _ _ h => h) (Or.inl ⟨by rfl, by intro w hSw; go_split_ands; go_simp⟩) HS.out ?_
        simp only [Act.put, List.getElem_toArray, List.getElem_cons_zero, List.getElem_cons_succ, List.setIfInBounds_toArray, List.set_cons_zero, List.set_cons_succ]
        refine wpAnyH_take (i := 7) (oi := _) (v := .agg #[.string sg.1, .slice vp sg.2.length vc]) rfl (by kernel_rfl) (by kernel_rfl) (by kernel_rfl) (fun _ _ _ h => h) (Or.inl ⟨by rfl, by intro w hSw; go_split_ands; go_simp⟩) HS.out ?_
        simp only [Act.put, List.getElem_toArray, List.getElem_cons_zero, List.getElem_cons_succ, List.setIfInBounds_toArray, List.set_cons_zero, List.set_cons_succ]
        refine wpAnyH_ready (rs := [8]) (by kernel_rfl) (by simp) ?_
        refine AllReadyH.cons (o := _) rfl (fun K hK => ?_) AllReadyH.nil
        go_simp
        refine (l04Seg_any m sg.1 _ sg.2 _ HM5.out HOK.out (Lasts.go (B := 0) (Same.of (HBw2.out.drew)) HRV.out)).mono ?_
        rintro e w3 ⟨rfl, hb3⟩
        have hb3' := below_drew hb3
        have HB3 := hide (HB2.out.trans (hb3'.mono (by have := HB2.out.size; have := HWs.out; omega)))
        have HO3 := hide (own_belowZ HO2.out hb3')
        have HBw3 := hide (HBw2.out.trans (hb3'.mono HBw2.out.size))
        clear hb3 hb3'
        refine hK.out _ _ (HSS.out _ HB3.out) (fun _ => ?_)
        clear hK K HS HBD
        have HS := hide (HSS.out _ HB3.out)
        have HTX := hide (show (⟨(segT m sg.1 sg.2).toArray⟩ : ByteArray) = zText m sg from rfl)
        rw [HTX.out]
        refine wpAnyH_ready (rs := [9]) (by kernel_rfl) (by simp) ?_
        refine AllReadyH.cons (o := _) rfl (fun K hK => ?_) AllReadyH.nil
        go_simp
        have HB4 := hide (HB3.out.alloc (by have := HB3.out.size; have := HWs.out; omega) (.cells #[.string (zText m sg)] 9))
        have HO4 := hide (HO3.out.alloc (.cells #[.string (zText m sg)] 9))
        have HBw4 := hide (HBw3.out.alloc HBw3.out.size (.cells #[.string (zText m sg)] 9))
        refine hK.out _ _ (HSS.out _ HB4.out) (fun _ => ?_)
        clear hK K HS
        have HS := hide (HSS.out _ HB4.out)
        generalize zText m sg = tx at *
        refine wpAnyH_ready (rs := [10]) (by kernel_rfl) (by simp) ?_
        refine AllReadyH.cons (o := _) rfl (fun K hK => ?_) AllReadyH.nil
        refine step_own (w := w3.alloc (.cells #[.string tx] 9)) rfl (.tmp 25) (.tmp 34) 26 rfl (w.heap.size + 1) 9 i0 _ 1 16 Try.underlying26 hi hz0 hz1 hz2 HZC.out (by omega) _ n (strs (zL m (x.take k))) rfl HO4.out ⟨w3.heap.size, 0, none⟩ 1 _ [.string tx] rfl rfl (cell_one_new _ _ _) (by simp [Value.oneCell']) (by unfold maxLen; omega) (by omega) (by have h5 := HB4.out.size; have h6 := HWs.out; omega) ?_
        intro v' w5 hown5 hgrow _
        have HN2 : Hid (n + 1 = (zL m (x.take (k + 1))).length) := by rw [HT.out, List.length_append, ← HN.out]; exact rfl
        have HO5 : Hid (w5.ownsRow (w.heap.size + 1) 9 1 v' (n + 1) (strs (zL m (x.take (k + 1))))) := by
          rw [HT.out]
          have e : strs (zL m (x.take k) ++ [tx]) = strs (zL m (x.take k)) ++ [.string tx] := by unfold strs; rw [List.map_append]; rfl
          rw [e]; exact hown5
        have HB5 := hide (HB4.out.grown hgrow (by have h5 := HB4.out.size; have h6 := HWs.out; omega) (fun k hk => (HO4.out.lt k hk).1))
        clear hown5 hgrow
        refine hK.out _ _ (HSS.out _ HB5.out) (fun _ => ?_)
        clear hK K HS
        have HS := hide (HSS.out _ HB5.out)
        simp only [Act.put, List.getElem_toArray, List.getElem_cons_zero, List.getElem_cons_succ, List.setIfInBounds_toArray, List.set_cons_zero, List.set_cons_succ]
        refine wpAnyH_take (i := 11) (oi := _) (v := v') rfl (by kernel_rfl) (by kernel_rfl) (by kernel_rfl) (fun _ _ _ h => h) (Or.inl ⟨by rfl, by intro w hSw; go_split_ands; go_simp⟩) HS.out ?_
        simp only [Act.put, List.getElem_toArray, List.getElem_cons_zero, List.getElem_cons_succ, List.setIfInBounds_toArray, List.set_cons_zero, List.set_cons_succ]
        refine wpAnyH_done (by kernel_rfl) ?_ _
        clear HSS HS
        go_wp2
        go_roundw
        case rel => exact ⟨_, k + 1, n + 1, rfl, by omega, by go_num, by omega, HN2, HO5, HB5⟩
        case measure => simp [intOf]; omega
    · have e1 : x.take k = x := List.take_of_length_le (by omega)
      rw [e1] at HN HOw
      have HF : Hid (OComp w.heap.size X.heap.size X u3 (zAns m x)) := hide (by
        rw [HZA.out]
        exact Keeps.wide (by omega) (Nat.le_refl _) (comp_of_own HOw.out HN.out HSM.out))
      go_wp2
      go_ret
      exact ⟨_, rfl, HF.out, HBx.out⟩
end Go.Proofs.Ytelhgpogfedchaa
