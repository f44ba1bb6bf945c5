/- ZSegments of the program. -/
import Derived.Test.YtelhgpogfedchaaVOwn
import Derived.Test.YtelhgpogfedchaaFMsgU
import Derived.Test.YtelhgpogfedchaaFMsgR
import Derived.Test.YtelhgpogfedchaaFSegV
import Derived.Test.YtelhgpogfedchaaOSeg
import Derived.Maps.AppendAt
namespace Go.Proofs.Ytelhgpogfedchaa
open Go.RowKit
def zText (m : ByteArray) (s : Seg) : ByteArray := ⟨(segT m s.1 s.2).toArray⟩
/-- The texts of the Segments whose Name begins with Z. -/
def zL (m : ByteArray) (x : List Seg) : List ByteArray := (x.filter fun s => ownB s.1).map (zText m)
def zAns (m : ByteArray) (x : List Seg) : List ByteArray := if msgB m x = true then zL m x else []
theorem zL_snoc (m : ByteArray) (x : List Seg) (k : Nat) (h : k < x.length) : zL m (x.take (k + 1)) = zL m (x.take k) ++ (if ownB x[k].1 = true then [zText m x[k]] else []) := by
  unfold zL
  rw [List.take_succ_eq_append_getElem h, List.filter_append, List.map_append]
  congr 1
  simp only [List.filter]
  split <;> simp_all
theorem zL_len (m : ByteArray) (x : List Seg) : (zL m x).length ≤ x.length := by
  unfold zL
  rw [List.length_map]
  exact List.length_filter_le _ _
theorem zAns_len (m : ByteArray) (x : List Seg) : (zAns m x).length ≤ 20 := by
  unfold zAns
  split
  · rename_i h
    exact Nat.le_trans (zL_len m x) (msgB_parts h).2.1
  · simp
theorem zL_small (m : ByteArray) (x : List Seg) (h : msgB m x = true) : ∀ t ∈ zL m x, t.size ≤ maxLen := by
  intro t ht
  obtain ⟨hmk, hl, hok⟩ := msgB_parts h
  unfold zL at ht
  obtain ⟨s, hs, rfl⟩ := List.mem_map.1 ht
  obtain ⟨i, hi, rfl⟩ := List.getElem_of_mem (List.mem_filter.1 hs).1
  have := segT_len (m := m) (marksB_five hmk) (hok i hi)
  unfold zText maxLen
  show (segT m x[i].1 x[i].2).toArray.size ≤ _
  simp
  omega
theorem zAns_small (m : ByteArray) (x : List Seg) : ∀ t ∈ zAns m x, t.size ≤ maxLen := by
  unfold zAns
  split
  · rename_i h; exact zL_small m x h
  · simp
theorem own_blockZ {w : World} {B : Nat} {T : TypeId} {n : Nat} {v : Value} {vs : List Value} (h : w.ownsRow B T 1 v n vs) : (n = 0 ∧ ∃ p c, v = .slice p 0 c ∧ c ≤ maxLen) ∨ ∃ g cap rest, v = .slice (some ⟨g, 0, none⟩) n cap ∧ B ≤ g ∧ g < w.heap.size ∧ n ≤ cap ∧ cap ≤ maxLen ∧ n + rest.length = cap ∧ Row w g T (vs ++ rest) := by
  have hl := h.1
  have hlt := h.lt
  rcases h.2 with ⟨rfl, hn⟩ | ⟨g, cap, cur, rfl, hbg, hg, hnc, hcm, hcs, htake⟩
  · exact .inl ⟨hn, none, 0, rfl, by unfold maxLen; omega⟩
  · refine .inr ⟨g, cap, cur.toList.drop n, rfl, hbg, (hlt g rfl).2, hnc, hcm, ?_, ?_⟩
    · rw [List.length_drop]; simp; omega
    · rw [Nat.mul_one] at htake
      have e : vs ++ cur.toList.drop n = cur.toList := by rw [← htake, List.take_append_drop]
      rw [e]
      simpa [Row] using hg
theorem comp_of_own {w : World} {B n : Nat} {v : Value} {xs : List ByteArray} (h : w.ownsRow B 9 1 v n (strs xs)) (hn : n = xs.length) (hs : ∀ t ∈ xs, t.size ≤ maxLen) : OComp B w.heap.size w v xs := by
  subst hn
  rcases own_blockZ h with ⟨h0, p, c, rfl, hc⟩ | ⟨g, cap, rest, rfl, a, b, c, d, e, f⟩
  · exact ⟨p, c, by rw [h0], by omega, hc, hs, fun h => by omega⟩
  · exact ⟨_, _, rfl, c, d, hs, fun _ => ⟨g, rest, rfl, a, b, e, f⟩⟩
theorem own_belowZ {w w' : World} {B n sz : Nat} {T : TypeId} {v : Value} {vs : List Value} (h : w.ownsRow B T sz v n vs) (hb : Below w.heap.size w w') : w'.ownsRow B T sz v n vs :=
  h.kept (row := none) ⟨hb.os, hb.tape, hb.output, hb.size, fun k hk _ => hb.block k hk⟩ (by cases hv : v.ownBlock <;> simp)
theorem row_grown {w w' : World} {g B : Nat} {T : TypeId} {cs : List Value} {row : Option Nat} (h : Row w g T cs) (hg : w.grownBy w' row) (hr : ∀ k, row = Option.some k → B ≤ k) (hB : g < B) : Row w' g T cs := by
  unfold Row; rw [hg.block g h.lt (fun e => by have := hr g e.symm; omega)]; exact h
set_option maxHeartbeats 8000000 in
set_option maxRecDepth 100000 in
theorem implZ_any (m : ByteArray) (u : Value) (x : List Seg) (w : World) (hm : m.size ≤ maxLen) (hn : wSegs x ≤ 1048576) (hr : RSegs 0 w u x) :
    Calls Try.prog 7 #[.agg #[.string m, u]] w fun e w' => ∃ v, e = .returned v ∧ OComp w.heap.size w'.heap.size w' v (zAns m x) ∧ Below w.heap.size w w' := by
  obtain ⟨i0, hi, hz0, hz1, hz2⟩ := info_parts Try.infoStr
  have HSZ := hide (fitsM_of hn)
  have HWS := hide (wSegs_mem hn).2
  have HMX := hide hm
  have HR := hide hr
  obtain ⟨p, cap, rfl, h1, h2, h4⟩ := hr
  have H4 := hide h4
  clear h4
  unfold maxLen at h2
  have HB0 := hide ((Below.refl w.heap.size w).alloc (Nat.le_refl _) (.cells #[.string m, .slice p x.length cap] 30))
  have HR0 := hide (HR.out.below HB0.out)
  have HRow0 := hide (row_new w [.string m, .slice p x.length cap] 30)
  have HZC := hide (show (Value.string ⟨#[]⟩).cells.size = 1 from rfl)
  clear HR
  go_enter Try.func7, Try.ntmps7
  go_wp2_with fail
  refine (implMessage_any m _ x _ hm HSZ.out HR0.out).mono ?_
  rintro e w1 ⟨rfl, hb1⟩
  have HB1 := hide (HB0.out.trans (hb1.mono (by simp)))
  have row1 := HRow0.out.below hb1 HRow0.out.lt
  have c1 : w1.cell? ⟨w.heap.size, 1, none⟩ = some (.slice p x.length cap) := row1.cell 1
  have HRow1 := hide row1
  clear hb1 row1 hm
  cases hp : msgB m x
  · have HZ : Hid (OComp w.heap.size w1.heap.size w1 (.slice none 0 0) (zAns m x)) := hide (by
      have e : zAns m x = [] := by rw [zAns, hp]; rfl
      rw [e]
      exact ⟨none, 0, rfl, Nat.le_refl _, by unfold maxLen; omega, by simp, fun h => absurd h (by simp)⟩)
    go_wp2
    go_ret
    exact ⟨_, rfl, HZ.out, HB1.out⟩
  have HZA := hide (show zAns m x = zL m x by rw [zAns, if_pos hp])
  have HSM := hide (zL_small m x hp)
  obtain ⟨hmk, hl, hok⟩ := msgB_parts hp
  have HMK := hide hmk
  have HOKS := hide hok
  have HM5 := hide (marksB_five hmk)
  clear hok hmk hp
  have HO := hide (World.ownsRow_nil w1 w1.heap.size 9 1)
  have HW1 := hide HRow1.out.lt
  go_wp2_with fail
  go_loopw [3, 12] (fun l i wr => ∃ (X : World) (k n : Nat), X = wr ∧ k ≤ x.length ∧ i = .int .i64 (k : Int) ∧ n ≤ k ∧ Hid (n = (zL m (x.take k)).length) ∧ Hid (X.ownsRow w1.heap.size 9 1 l n (strs (zL m (x.take k)))) ∧ Hid (Below w.heap.size w X) ∧ Hid (Row X w.heap.size 30 [.string m, .slice p x.length cap]) ∧ Hid (w1.heap.size ≤ X.heap.size)) (fun _ i _ => x.length - (intOf i).toNat)
  case atStart => exact ⟨_, 0, 0, rfl, Nat.zero_le _, rfl, Nat.le_refl _, hide (by simp [zL]), HO, HB1, HRow1, hide (Nat.le_refl _)⟩
  case round =>
    obtain ⟨X, k, n, rfl, hk, rfl, hnk, HN, HOw, HB, HRw, HX⟩ := hrel
    by_cases hlt : k < x.length
    · obtain ⟨g, off, hpp, hg, _, hc⟩ := H4.out (by omega)
      subst hpp
      obtain ⟨ha, _, v, hv, hrv⟩ := hc k hlt
      have hk0 := (HB.out.cell (p := ⟨g, off + k * 2, none⟩) hg).trans ha
      have hk1 := (HB.out.cell (p := ⟨g, off + k * 2 + 1, none⟩) hg).trans hv
      have HRV := hide (hrv.below HB.out)
      obtain ⟨vp, vc, rfl⟩ := hrv.isSlice
      have HOK := hide (HOKS.out k hlt)
      have HWF := hide (HWS.out k hlt).1
      have HSN := hide (zL_snoc m x k hlt)
      have hbA : Below X.heap.size X (X.alloc (.cells #[.string (x[k]'hlt).1, .slice vp (x[k]'hlt).2.length vc] 41)) := (Below.refl _ _).alloc (Nat.le_refl _) _
      have HBA := hide (HB.out.trans (hbA.mono HB.out.size))
      have HRA := hide (HRw.out.below hbA HRw.out.lt)
      have HOA := hide (own_belowZ HOw.out hbA)
      have HVA := hide (HRV.out.below hbA)
      have HXA := hide (Nat.le_trans HX.out hbA.size)
      have HS5 := hide (row_new X [.string (x[k]'hlt).1, .slice vp (x[k]'hlt).2.length vc] 41)
      clear ha hv hrv hc hbA
      obtain ⟨sg, hsg⟩ : ∃ sg, sg = x[k]'hlt := ⟨_, rfl⟩
      rw [← hsg] at hk0 hk1 HVA HOK HWF HSN HBA HRA HOA HXA HS5
      clear hsg HRV
      go_wp2_with fail
      refine (isOwn_any sg.1 _).mono ?_
      rintro e w2 ⟨rfl, rfl⟩
      obtain ⟨X1, hX1⟩ : ∃ X1, X1 = X.alloc (.cells #[.string sg.1, .slice vp sg.2.length vc] 41) := ⟨_, rfl⟩
      obtain ⟨G, hG⟩ : ∃ G, G = X.heap.size := ⟨_, rfl⟩
      rw [← hG] at HS5 ⊢
      rw [← hX1] at HVA HBA HRA HOA HXA HS5 ⊢
      clear hX1 hG
      cases hown : ownB sg.1
      · have HT : Hid (zL m (x.take (k + 1)) = zL m (x.take k)) := by rw [HSN.out, hown]; exact (List.append_nil _)
        have HN2 : Hid (n = (zL m (x.take (k + 1))).length) := by rw [HT.out]; exact HN
        have HO2 : Hid (X1.ownsRow w1.heap.size 9 1 u3 n (strs (zL m (x.take (k + 1))))) := by rw [HT.out]; exact HOA
        go_wp2
        go_roundw
        case rel => exact ⟨_, k + 1, n, rfl, by omega, by go_num, by omega, HN2, HO2, HBA, HRA, HXA⟩
        case measure => simp [intOf]; omega
      · have HT : Hid (zL m (x.take (k + 1)) = zL m (x.take k) ++ [zText m sg]) := by rw [HSN.out, hown]; exact rfl
        have b0 : X1.cell? ⟨w.heap.size, 0, none⟩ = some (.string m) := HRA.out.cell 0
        have s0 : X1.cell? ⟨G, 0, none⟩ = some (.string sg.1) := HS5.out.cell 0
        have s1 : X1.cell? ⟨G, 1, none⟩ = some (.slice vp sg.2.length vc) := HS5.out.cell 1
        go_wp2_with fail
        refine (implSegmentText_any m sg.1 _ sg.2 _ HMX.out HWF.out HVA.out).mono ?_
        rintro e w3 ⟨rfl, hb3⟩
        have HTX := hide (show segTB m sg.1 sg.2 = zText m sg from segTB_yes HMK.out HOK.out)
        rw [HTX.out]
        have HO3 := hide ((own_belowZ HOA.out hb3).alloc (.cells #[.string (zText m sg)] 9))
        have HB3 := hide ((HBA.out.trans (hb3.mono HBA.out.size)).alloc (HBA.out.trans (hb3.mono HBA.out.size)).size (.cells #[.string (zText m sg)] 9))
        have HR3 := hide ((HRA.out.below hb3 HRA.out.lt).alloc (.cells #[.string (zText m sg)] 9))
        have HX3 : Hid (w1.heap.size ≤ (w3.alloc (.cells #[.string (zText m sg)] 9)).heap.size) := hide (by have h1 := HXA.out; have h2 := hb3.size; simp; omega)
        clear hb3 b0 s0 s1 hk0 hk1
        generalize zText m sg = tx at *
        go_wp2_with (at_builtin; refine wpList_append_own_at (w3.alloc (.cells #[.string tx] 9)) rfl (.tmp 19) (.tmp 24) 26 rfl w1.heap.size 9 i0 _ 1 16 Try.underlying26 hi hz0 hz1 hz2 HZC.out (by omega) _ n (strs (zL m (x.take k))) rfl HO3.out ⟨w3.heap.size, 0, none⟩ 1 _ [.string tx] rfl rfl (cell_one_new _ _ _) (by simp [Value.oneCell']) (by unfold maxLen; omega) (by omega) (by have := HX3.out; exact this) ?_)
        intro v' w4 hown4 hgrow _ _
        have HN2 : Hid (n + 1 = (zL m (x.take (k + 1))).length) := by rw [HT.out, List.length_append, ← HN.out]; exact rfl
        have HO4 : Hid (w4.ownsRow w1.heap.size 9 1 v' (n + 1) (strs (zL m (x.take (k + 1))))) := by
          rw [HT.out]
          have e : strs (zL m (x.take k) ++ [tx]) = strs (zL m (x.take k)) ++ [.string tx] := by unfold strs; rw [List.map_append]; rfl
          rw [e]; exact hown4
        have hws := HB1.out.size
        have HB4 := hide (HB3.out.grown hgrow HB3.out.size (fun k hk => by have := (HO3.out.lt k hk).1; omega))
        have HR4 := hide (row_grown HR3.out hgrow (fun k hk => (HO3.out.lt k hk).1) HW1.out)
        have HX4 := hide (Nat.le_trans HX3.out hgrow.size)
        clear hown4 hgrow
        go_wp2
        go_roundw
        case rel => exact ⟨_, k + 1, n + 1, rfl, by omega, by go_num, by omega, HN2, HO4, HB4, HR4, HX4⟩
        case measure => simp [intOf]; omega
    · have e1 : x.take k = x := List.take_of_length_le (by omega)
      rw [e1] at HN HOw
      have HF : Hid (OComp w.heap.size X.heap.size X u3 (zAns m x)) := hide (by
        rw [HZA.out]
        exact Keeps.wide HB1.out.size (Nat.le_refl _) (comp_of_own HOw.out HN.out HSM.out))
      go_wp2
      go_ret
      exact ⟨_, rfl, HF.out, HB.out⟩
end Go.Proofs.Ytelhgpogfedchaa
