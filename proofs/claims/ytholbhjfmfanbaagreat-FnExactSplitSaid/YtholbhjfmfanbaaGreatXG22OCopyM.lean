/- The program's copies of a Segment and of a Message: each list in a row of its own. -/
import Derived.Test.YtholbhjfmfanbaaGreatXG20IClone
import Derived.Test.YtholbhjfmfanbaaGreatXG21OCopyS
import Derived.OrdersHeld
import Derived.Deep.RegionHeld3
namespace Go.Proofs.YtholbhjfmfanbaaGreat
open Go.RowKit
theorem row_cellsM {w : World} {g : Nat} {T : TypeId} {cs : List Value} (h : Row w g T cs) : ∀ j u, cs[j]? = some u → w.cell? ((⟨g, 0, none⟩ : Addr).add j) = some u := by
  intro j u hu
  have ea : (⟨g, 0, none⟩ : Addr).add j = ⟨g, j, none⟩ := by unfold Addr.add; split <;> simp_all
  rw [ea, h.cell, hu]
theorem own_block2 {w : World} {B : Nat} {T : TypeId} {n : Nat} {v : Value} {vs : List Value} (h : w.ownsRow B T 2 v n vs) : (n = 0 ∧ v = .slice none 0 0) ∨ ∃ g cap rest, v = .slice (some ⟨g, 0, none⟩) n cap ∧ B ≤ g ∧ g < w.heap.size ∧ n ≤ cap ∧ cap ≤ maxLen ∧ Row w g T (vs ++ rest) := by
  have hl := h.1
  have hlt := h.lt
  rcases h.2 with ⟨rfl, hn⟩ | ⟨g, cap, cur, rfl, hbg, hg, hnc, hcm, hcs, htake⟩
  · exact .inl ⟨hn, rfl⟩
  · refine .inr ⟨g, cap, cur.toList.drop (n * 2), rfl, hbg, (hlt g rfl).2, hnc, hcm, ?_⟩
    have e : vs ++ cur.toList.drop (n * 2) = cur.toList := by rw [← htake, List.take_append_drop]
    rw [e]
    simpa [Row] using hg
theorem osegs_of_own {w : World} {B k : Nat} {l : Value} {cs : List Value} {xs : List Seg} (h : w.ownsRow B 85 2 l k cs) (hk : k = xs.length)
    (hE : ∃ A B' : Nat → Nat, (∀ j (h2 : j < xs.length), j < k → cs[j * 2]? = some (.string xs[j].1) ∧ xs[j].1.size ≤ maxLen ∧ B ≤ A j ∧ B' j ≤ w.heap.size ∧ (∀ g, l.ownBlock = some g → B' j ≤ g ∨ g < A j) ∧ ∃ u, cs[j * 2 + 1]? = some u ∧ OFlds (A j) (B' j) w u xs[j].2) ∧ ∀ i j, i < j → j < k → B' i ≤ A j) : OSegs B w.heap.size w l xs := by
  obtain ⟨A, B', hE, hD⟩ := hE
  have hcl := h.1
  rcases own_block2 h with ⟨hn, rfl⟩ | ⟨g, cap2, rest, rfl, hbg, hgs, hnc, hcm, hrow⟩
  · exact ⟨none, 0, by rw [← hk, hn], by omega, by unfold maxLen; omega, fun h => by omega⟩
  · refine ⟨_, _, by rw [hk], by omega, hcm, fun _ => ⟨g, cs ++ rest, A, B', rfl, hbg, hgs, hrow, by rw [List.length_append]; omega, fun i h2 => ?_, fun i j h1 h2 => hD i j h1 (by omega)⟩⟩
    obtain ⟨f1, f2, f3, f4, f5, u, f6, f7⟩ := hE i h2 (by omega)
    refine ⟨?_, f2, f3, f4, f5 g rfl, u, ?_, f7⟩
    · rw [List.getElem?_append_left (by omega)]; exact f1
    · rw [List.getElem?_append_left (by omega)]; exact f6
set_option maxHeartbeats 4000000 in
set_option maxRecDepth 100000 in
theorem copySegment_any (n : ByteArray) (u : Value) (x : List (List (List (List ByteArray)))) (w : World) (hnb : n.size ≤ 281474976710656) (hn : wFlds x ≤ 1048576) (hr : RFlds 0 w u x) :
    Calls Tryz.prog 69 #[.agg #[.string n, u]] w fun e w' => ∃ p c, e = .returned (.agg #[.string n, .slice p x.length c]) ∧ OFlds w.heap.size w'.heap.size w' (.slice p x.length c) x ∧ Below w.heap.size w w' := by
  obtain ⟨p, c, rfl⟩ := hr.isSlice
  obtain ⟨W, hW⟩ : ∃ W, W = (w.alloc (.cells #[.string n, .slice p x.length c] 85)).alloc (.cells #[.string ⟨#[]⟩, .slice none 0 0] 85) := ⟨_, rfl⟩
  have hb0 : Below w.heap.size w W := by rw [hW]; exact ((Below.refl _ _).alloc (Nat.le_refl _) _).alloc (by simp) _
  have HR := hide (hr.below hb0)
  have HRX := hide (fun (y : World) (h : Below W.heap.size W y) => (HR.out.below h))
  have HB0 := hide hb0
  have HR1 := hide (show Row W w.heap.size 85 [.string n, .slice p x.length c] by rw [hW]; exact (row_new w [.string n, .slice p x.length c] 85).alloc _)
  have HR2 := hide (show Row W (w.heap.size + 1) 85 [.string ⟨#[]⟩, .slice none 0 0] by
    rw [hW]
    have := row_new (w.alloc (.cells #[.string n, .slice p x.length c] 85)) [.string ⟨#[]⟩, .slice none 0 0] 85
    simpa using this)
  have hsz : W.heap.size = w.heap.size + 2 := by rw [hW]; simp
  have HSS := hide (show ∀ y, Below W.heap.size W y → (fun y : World => y.cell? ⟨w.heap.size, 0, none⟩ = some (.string n) ∧ y.cell? ⟨w.heap.size, 1, none⟩ = some (.slice p x.length c)) y from fun y h => ⟨(HR1.out.below h HR1.out.lt).cell 0, (HR1.out.below h HR1.out.lt).cell 1⟩)
  clear hr hb0
  go_enter Tryz.func69, Tryz.ntmps69
  go_wp2_with fail
  rw [← hW]
  clear hW
  refine wp_region_held (S := (fun y : World => y.cell? ⟨w.heap.size, 0, none⟩ = some (.string n) ∧ y.cell? ⟨w.heap.size, 1, none⟩ = some (.slice p x.length c))) (by kernel_rfl) ?_
  have hbd : Below W.heap.size W { W with drawn := W.drawn + 1 } := (Below.refl _ _).drew
  generalize ({ W with drawn := W.drawn + 1 } : World) = Z0 at hbd ⊢
  have HZ0 := hide hbd
  clear hbd
  have HS := hide (HSS.out _ HZ0.out)
  refine wpAnyH_take (i := 0) (oi := _) (v := .pointer (some ⟨w.heap.size, 0, none⟩)) rfl (by kernel_rfl) (by kernel_rfl) (by kernel_rfl) (fun _ _ _ h => h) (Or.inl ⟨by rfl, by intro w hSw; go_split_ands; go_simp⟩) HS.out ?_
  simp only [Act.put, List.getElem_toArray, List.getElem_cons_zero, List.setIfInBounds_toArray, List.set_cons_zero, List.set_cons_succ]
  refine wpAnyH_take (i := 1) (oi := _) (v := .string n) rfl (by kernel_rfl) (by kernel_rfl) (by kernel_rfl) (fun _ _ _ h => h) (Or.inl ⟨by rfl, by intro w hSw; go_split_ands; go_simp⟩) HS.out ?_
  simp only [Act.put, List.getElem_toArray, List.getElem_cons_zero, List.getElem_cons_succ, List.setIfInBounds_toArray, List.set_cons_zero, List.set_cons_succ]
  refine wpAnyH_take (i := 3) (oi := _) (v := .pointer (some ⟨w.heap.size, 1, none⟩)) rfl (by kernel_rfl) (by kernel_rfl) (by kernel_rfl) (fun _ _ _ h => h) (Or.inl ⟨by rfl, by intro w hSw; go_split_ands; go_simp⟩) HS.out ?_
  simp only [Act.put, List.getElem_toArray, List.getElem_cons_zero, List.getElem_cons_succ, List.setIfInBounds_toArray, List.set_cons_zero, List.set_cons_succ]
  refine wpAnyH_take (i := 4) (oi := _) (v := .slice p x.length c) rfl (by kernel_rfl) (by kernel_rfl) (by kernel_rfl) (fun _ _ _ h => h) (Or.inl ⟨by rfl, by intro w hSw; go_split_ands; go_simp⟩) HS.out ?_
  simp only [Act.put, List.getElem_toArray, List.getElem_cons_zero, List.getElem_cons_succ, List.setIfInBounds_toArray, List.set_cons_zero, List.set_cons_succ]
  refine wpAnyH_ready (rs := [2]) (by kernel_rfl) (by simp) ?_
  refine AllReadyH.cons (o := _) rfl (fun K hK => ?_) AllReadyH.nil
  go_simp
  refine (clone_any n _ hnb).mono ?_
  rintro e Z1 ⟨rfl, hb1⟩
  have HZ1 := hide (HZ0.out.trans (hb1.mono HZ0.out.size))
  clear hb1
  refine hK.out _ _ (HSS.out _ HZ1.out) (fun _ => ?_)
  clear hK K HS
  have HS := hide (HSS.out _ HZ1.out)
  refine wpAnyH_ready (rs := [5]) (by kernel_rfl) (by simp) ?_
  refine AllReadyH.cons (o := _) rfl (fun K hK => ?_) AllReadyH.nil
  go_simp
  refine (copyEachField_any _ x _ hn (HRX.out _ HZ1.out)).mono ?_
  rintro e Z2 ⟨p2, c2, rfl, ho2, hb2⟩
  have HZ2 := hide (HZ1.out.trans (hb2.mono HZ1.out.size))
  have HO2 := hide ho2
  have HL2 := hide (show W.heap.size ≤ Z1.heap.size from HZ1.out.size)
  clear ho2 hb2
  refine hK.out _ _ (HSS.out _ HZ2.out) (fun _ => ?_)
  clear hK K HS
  have HS := hide (HSS.out _ HZ2.out)
  refine wpAnyH_take (i := 6) (oi := _) (v := .agg #[.string n, .slice p2 x.length c2]) rfl (by kernel_rfl) (by kernel_rfl) (by kernel_rfl) (fun _ _ _ h => h) (Or.inl ⟨by rfl, by intro w hSw; go_split_ands; go_simp⟩) HS.out ?_
  simp only [Act.put, List.getElem_toArray, List.getElem_cons_zero, List.getElem_cons_succ, List.setIfInBounds_toArray, List.set_cons_zero, List.set_cons_succ]
  refine wpAnyH_ready (rs := [7]) (by kernel_rfl) (by simp) ?_
  refine AllReadyH.cons (o := _) rfl (fun K hK => ?_) AllReadyH.nil
  have r2 := HR2.out.below HZ2.out HR2.out.lt
  have g0 : Z2.cell? ⟨w.heap.size + 1, 0, none⟩ = some (.string ⟨#[]⟩) := r2.cell 0
  have g1 : Z2.cell? ⟨w.heap.size + 1, 1, none⟩ = some (.slice none 0 0) := r2.cell 1
  have z0 := r2.free 0
  have z1 := r2.free 1
  have t2 := (r2.set (j := 0) (.string n)).set (j := 1) (.slice p2 x.length c2)
  have q0 : ((Z2.setCell ⟨w.heap.size + 1, 0, none⟩ (.string n)).setCell ⟨w.heap.size + 1, 1, none⟩ (.slice p2 x.length c2)).cell? ⟨w.heap.size + 1, 0, none⟩ = some (.string n) := t2.cell 0
  have q1 : ((Z2.setCell ⟨w.heap.size + 1, 0, none⟩ (.string n)).setCell ⟨w.heap.size + 1, 1, none⟩ (.slice p2 x.length c2)).cell? ⟨w.heap.size + 1, 1, none⟩ = some (.slice p2 x.length c2) := t2.cell 1
  have HBE := hide (((HB0.out.trans (HZ2.out.mono HB0.out.size)).setCell (p := ⟨w.heap.size + 1, 0, none⟩) (by show w.heap.size ≤ w.heap.size + 1; omega) (.string n)).setCell (p := ⟨w.heap.size + 1, 1, none⟩) (by show w.heap.size ≤ w.heap.size + 1; omega) (.slice p2 x.length c2))
  have HSE : Hid ((fun y : World => y.cell? ⟨w.heap.size, 0, none⟩ = some (.string n) ∧ y.cell? ⟨w.heap.size, 1, none⟩ = some (.slice p x.length c)) ((Z2.setCell ⟨w.heap.size + 1, 0, none⟩ (.string n)).setCell ⟨w.heap.size + 1, 1, none⟩ (.slice p2 x.length c2))) := hide (by
    have h := HSS.out _ HZ2.out
    refine ⟨?_, ?_⟩
    · exact ((((HR1.out.below HZ2.out HR1.out.lt).other (b := w.heap.size + 1) (j := 0) (by omega) (.string n)).other (b := w.heap.size + 1) (j := 1) (by omega) (.slice p2 x.length c2))).cell 0
    · exact ((((HR1.out.below HZ2.out HR1.out.lt).other (b := w.heap.size + 1) (j := 0) (by omega) (.string n)).other (b := w.heap.size + 1) (j := 1) (by omega) (.slice p2 x.length c2))).cell 1)
  have es : ((Z2.setCell ⟨w.heap.size + 1, 0, none⟩ (.string n)).setCell ⟨w.heap.size + 1, 1, none⟩ (.slice p2 x.length c2)).heap.size = Z2.heap.size := by simp [World.setCell]
  have HOE : Hid (OFlds w.heap.size ((Z2.setCell ⟨w.heap.size + 1, 0, none⟩ (.string n)).setCell ⟨w.heap.size + 1, 1, none⟩ (.slice p2 x.length c2)).heap.size ((Z2.setCell ⟨w.heap.size + 1, 0, none⟩ (.string n)).setCell ⟨w.heap.size + 1, 1, none⟩ (.slice p2 x.length c2)) (.slice p2 x.length c2) x) := hide (by
    rw [es]
    have hl2 := HL2.out
    exact Keeps.wide (by omega : w.heap.size ≤ Z1.heap.size) (Nat.le_refl _) (Keeps.go (SameIn.set _ _ (by omega)) (Keeps.go (SameIn.set Z2 (g := w.heap.size + 1) (j := 0) (.string n) (by omega)) HO2.out)))
  clear r2 t2 es
  go_simp
  refine hK.out _ _ HSE.out (fun _ => ?_)
  clear hK K HS HSE
  refine wpAnyH_done (by kernel_rfl) ?_ _
  go_wp2
  exact bodyPost_ret (v := .agg #[.string n, .slice p2 x.length c2]) (by simp [results, Tryz.results69, go_sem, q0, q1]) rfl ⟨_, _, rfl, HOE.out, HBE.out⟩
set_option maxHeartbeats 8000000 in
set_option maxRecDepth 100000 in
theorem copyEachSegment_any (v : Value) (xs : List Seg) (w : World) (hn : wSegs xs ≤ 1048576) (hr : RSegs 0 w v xs) :
    Calls Tryz.prog 68 #[v, .func (.func 69) #[] #[]] w fun e w' => ∃ p c, e = .returned (.slice p xs.length c) ∧ OSegs w.heap.size w'.heap.size w' (.slice p xs.length c) xs ∧ Below w.heap.size w w' := by
  obtain ⟨i0, hi, hz0, hz1, hz2⟩ := info_parts Tryz.infoSegment
  obtain ⟨hl, hm⟩ := wSegs_mem hn
  have HM := hide hm
  have HMN := hide (fun i (h : i < xs.length) => (show xs[i].1.size ≤ 1048576 by
    have := wL_mem wSeg (List.getElem_mem h)
    have h2 : wSegs xs = wL wSeg xs := rfl
    have h3 : wSeg xs[i] = xs[i].1.size + wFlds xs[i].2 := rfl
    omega))
  clear hn hm
  obtain ⟨p, cap, rfl, h1, h2, h4⟩ := hr
  have H4 := hide h4
  unfold maxLen at h2
  clear h4
  have HO := hide (World.ownsRow_nil w w.heap.size 85 2)
  have HZC := hide (show (Value.agg #[.string ⟨#[]⟩, .slice none 0 0]).cells.size = 2 from rfl)
  go_enter Tryz.func68, Tryz.ntmps68
  go_wp2_with fail
  go_loopw [5, 10] (fun l i wr => ∃ (X : World) (k : Nat) (cs : List Value), X = wr ∧ k ≤ xs.length ∧ i = .int .i64 (k : Int) ∧ Hid (X.ownsRow w.heap.size 85 2 l k cs) ∧ Hid (Below w.heap.size w X) ∧ Hid (∃ A B : Nat → Nat, (∀ j (h2 : j < xs.length), j < k → cs[j * 2]? = some (.string xs[j].1) ∧ xs[j].1.size ≤ maxLen ∧ w.heap.size ≤ A j ∧ B j ≤ X.heap.size ∧ (∀ g, l.ownBlock = some g → B j ≤ g ∨ g < A j) ∧ ∃ u, cs[j * 2 + 1]? = some u ∧ OFlds (A j) (B j) X u xs[j].2) ∧ ∀ i j, i < j → j < k → B i ≤ A j)) (fun _ i _ => xs.length - (intOf i).toNat)
  case atStart => exact ⟨_, 0, [], rfl, Nat.zero_le _, rfl, HO, hide (Below.refl _ _), hide ⟨fun _ => 0, fun _ => 0, fun j _ h1 => absurd h1 (by omega), fun i j _ h => absurd h (by omega)⟩⟩
  case round =>
    obtain ⟨X, k, cs, rfl, hk, rfl, HOw, HB, HEl⟩ := hrel
    by_cases hlt : k < xs.length
    · obtain ⟨g, off, hp, hg, _, hc⟩ := H4.out (by omega)
      subst hp
      obtain ⟨ha, hns, u, hu, hru⟩ := hc k hlt
      have hk0 := (HB.out.cell (p := ⟨g, off + k * 2, none⟩) hg).trans ha
      have hk1 := (HB.out.cell (p := ⟨g, off + k * 2 + 1, none⟩) hg).trans hu
      have HRU := hide (hru.below HB.out)
      obtain ⟨up, uc, rfl⟩ := hru.isSlice
      have HXM := hide (HM.out k hlt).1
      have HXN := hide (HMN.out k hlt)
      have HCL := hide HOw.out.1
      have hbA : Below X.heap.size X (X.alloc (.cells #[.string (xs[k]'hlt).1, .slice up (xs[k]'hlt).2.length uc] 85)) := (Below.refl _ _).alloc (Nat.le_refl _) _
      have HBA := hide (HB.out.trans (hbA.mono HB.out.size))
      have HRA := hide (HRU.out.below hbA)
      have HOA := hide (HOw.out.alloc (.cells #[.string (xs[k]'hlt).1, .slice up (xs[k]'hlt).2.length uc] 85))
      have HSA : Hid ((X.alloc (.cells #[.string (xs[k]'hlt).1, .slice up (xs[k]'hlt).2.length uc] 85)).heap.size = X.heap.size + 1) := hide (by simp)
      have HSI : Hid (∀ a b, SameIn a b X (X.alloc (.cells #[.string (xs[k]'hlt).1, .slice up (xs[k]'hlt).2.length uc] 85))) := hide (fun a b => SameIn.ofBelow hbA)
      have HLT := hide HOw.out.lt
      clear ha hu hru hc hbA hns
      obtain ⟨sg, hsg⟩ : ∃ sg, sg = xs[k]'hlt := ⟨_, rfl⟩
      rw [← hsg] at hk0 hk1 HRU HXM HXN HBA HRA HOA HSA HSI
      have HSG := hide hsg
      clear hsg
      go_wp2_with fail
      obtain ⟨X1, hX1⟩ : ∃ X1, X1 = X.alloc (.cells #[.string sg.1, .slice up sg.2.length uc] 85) := ⟨_, rfl⟩
      rw [← hX1] at HBA HRA HOA HSA HSI ⊢
      clear hX1 hk0 hk1
      refine (copySegment_any sg.1 _ sg.2 _ (by have := HXN.out; omega) HXM.out HRA.out).mono ?_
      rintro e w2 ⟨p2, c2, rfl, hr2, hb2⟩
      have HR2 := hide hr2
      have HO2 := hide ((own_below HOA.out hb2).alloc (.cells #[.string sg.1, .slice p2 sg.2.length c2] 85))
      have HBm := hide (HBA.out.trans (hb2.mono HBA.out.size))
      have HB2 := hide (HBm.out.alloc HBm.out.size (.cells #[.string sg.1, .slice p2 sg.2.length c2] 85))
      have HB22 := hide hb2
      have HROW := hide (row_new w2 [.string sg.1, .slice p2 sg.2.length c2] 85)
      clear hb2 hr2
      go_wp2_with (at_builtin; refine wpList_append_own_at (w2.alloc (.cells #[.string sg.1, .slice p2 sg.2.length c2] 85)) rfl (.tmp 14) (.tmp 18) 51 rfl w.heap.size 85 i0 _ 2 40 Tryz.underlying51 hi hz0 hz1 hz2 HZC.out (by omega) _ k cs rfl HO2.out ⟨w2.heap.size, 0, none⟩ 1 _ [.string sg.1, .slice p2 sg.2.length c2] rfl rfl (row_cellsM HROW.out) (by simp [Value.oneCell']) (by unfold maxLen; omega) (by omega) (by have := HB2.out.size; exact this) ?_)
      intro v' w3 hown hgrow _ hat
      have HO3 := hide hown
      have HB3 := hide (HB2.out.grown hgrow HB2.out.size (fun k hk => (HO2.out.lt k hk).1))
      have HEl2 : Hid (∃ A B : Nat → Nat, (∀ j (h2 : j < xs.length), j < k + 1 → (cs ++ [.string sg.1, .slice p2 sg.2.length c2])[j * 2]? = some (.string xs[j].1) ∧ xs[j].1.size ≤ maxLen ∧ w.heap.size ≤ A j ∧ B j ≤ w3.heap.size ∧ (∀ g, v'.ownBlock = some g → B j ≤ g ∨ g < A j) ∧ ∃ u, (cs ++ [.string sg.1, .slice p2 sg.2.length c2])[j * 2 + 1]? = some u ∧ OFlds (A j) (B j) w3 u xs[j].2) ∧ ∀ i j, i < j → j < k + 1 → B i ≤ A j) := hide (by
        obtain ⟨A, B, hE, hD⟩ := HEl.out
        have hs2 := HB22.out.size
        have hs3 := hgrow.size
        have hsa : (w2.alloc (.cells #[.string sg.1, .slice p2 sg.2.length c2] 85)).heap.size = w2.heap.size + 1 := by simp
        have hwX := HB.out.size
        have hsX := HSA.out
        have hcl := HCL.out
        refine ⟨fun i => if i = k then X.heap.size + 1 else A i, fun i => if i = k then w2.heap.size else B i, fun j h2 h3 => ?_, fun i j hij hj => ?_⟩
        · dsimp only
          by_cases hj : j = k
          · subst hj
            rw [if_pos rfl, if_pos rfl, ← HSG.out]
            refine ⟨?_, by have := HXN.out; unfold maxLen; omega, by omega, by omega, fun g hg => ?_, .slice p2 sg.2.length c2, ?_, ?_⟩
            · rw [List.getElem?_append_right (by omega)]
              have e : j * 2 - cs.length = 0 := by omega
              rw [e]; rfl
            · rcases hat with h | h
              · rw [h] at hg
                exact .inr (by have := (HLT.out g hg).2; omega)
              · rw [h] at hg
                cases hg
                exact .inl (by first | omega | (rw [hsa]; omega))
            · rw [List.getElem?_append_right (by omega)]
              have e : j * 2 + 1 - cs.length = 1 := by omega
              rw [e]; rfl
            · rw [hsX] at HR2
              exact Keeps.go (grown_in hgrow (fun g hg => .inr (by have := (HLT.out g hg).2; omega))) (Keeps.go (SameIn.ofBelow ((Below.refl _ _).alloc (Nat.le_refl _) _)) HR2.out)
          · obtain ⟨f1, f2, f3, f4, f5, u, f6, f7⟩ := hE j h2 (by omega)
            rw [if_neg hj, if_neg hj]
            refine ⟨?_, f2, f3, by omega, fun g hg => ?_, u, ?_, Keeps.go (grown_in hgrow f5) (Keeps.go (SameIn.ofBelow ((Below.refl _ _).alloc (Nat.le_refl _) _)) (Keeps.go (SameIn.ofBelow HB22.out) (Keeps.go (HSI.out _ _) f7)))⟩
            · rw [List.getElem?_append_left (by omega)]; exact f1
            · rcases hat with h | h
              · rw [h] at hg
                exact f5 g hg
              · rw [h] at hg
                cases hg
                exact .inl (by first | omega | (rw [hsa]; omega))
            · rw [List.getElem?_append_left (by omega)]; exact f6
        · obtain ⟨f1, f2, f3, f4, f5, u, f6, f7⟩ := hE i (by omega) (by omega)
          dsimp only
          by_cases hjk : j = k
          · rw [if_pos hjk, if_neg (by omega)]; omega
          · rw [if_neg hjk, if_neg (by omega)]; exact hD i j hij (by omega))
      clear hown hgrow hat
      go_wp2
      go_roundw
      case rel => exact ⟨_, k + 1, _, rfl, by omega, by go_num, HO3, HB3, HEl2⟩
      case measure => simp [intOf]; omega
    · have ek : k = xs.length := by omega
      have HF := hide (osegs_of_own HOw.out ek HEl.out)
      obtain ⟨pl, cl, hpl⟩ : ∃ p c, u5 = .slice p k c := by
        rcases own_block2 HOw.out with ⟨hn, h⟩ | ⟨g, cap2, rest, h, _⟩
        · exact ⟨none, 0, by rw [h, hn]⟩
        · exact ⟨_, _, h⟩
      subst hpl
      have HK := hide ek
      clear ek
      go_wp2
      go_ret
      exact ⟨pl, cl, by rw [← HK.out]; rfl, by rw [← HK.out]; exact HF.out, HB.out⟩
set_option maxHeartbeats 4000000 in
set_option maxRecDepth 100000 in
theorem copyMessage_any (n : ByteArray) (u : Value) (x : List Seg) (w : World) (hnb : n.size ≤ 281474976710656) (hn : wSegs x ≤ 1048576) (hr : RSegs 0 w u x) :
    Calls Tryz.prog 40 #[.agg #[.string n, u]] w fun e w' => ∃ p c, e = .returned (.agg #[.string n, .slice p x.length c]) ∧ OSegs w.heap.size w'.heap.size w' (.slice p x.length c) x ∧ Below w.heap.size w w' := by
  obtain ⟨p, c, rfl⟩ := hr.isSlice
  obtain ⟨W, hW⟩ : ∃ W, W = (w.alloc (.cells #[.string n, .slice p x.length c] 53)).alloc (.cells #[.string ⟨#[]⟩, .slice none 0 0] 53) := ⟨_, rfl⟩
  have hb0 : Below w.heap.size w W := by rw [hW]; exact ((Below.refl _ _).alloc (Nat.le_refl _) _).alloc (by simp) _
  have HR := hide (hr.below hb0)
  have HRX := hide (fun (y : World) (h : Below W.heap.size W y) => (HR.out.below h))
  have HB0 := hide hb0
  have HR1 := hide (show Row W w.heap.size 53 [.string n, .slice p x.length c] by rw [hW]; exact (row_new w [.string n, .slice p x.length c] 53).alloc _)
  have HR2 := hide (show Row W (w.heap.size + 1) 53 [.string ⟨#[]⟩, .slice none 0 0] by
    rw [hW]
    have := row_new (w.alloc (.cells #[.string n, .slice p x.length c] 53)) [.string ⟨#[]⟩, .slice none 0 0] 53
    simpa using this)
  have hsz : W.heap.size = w.heap.size + 2 := by rw [hW]; simp
  have HSS := hide (show ∀ y, Below W.heap.size W y → (fun y : World => y.cell? ⟨w.heap.size, 0, none⟩ = some (.string n) ∧ y.cell? ⟨w.heap.size, 1, none⟩ = some (.slice p x.length c)) y from fun y h => ⟨(HR1.out.below h HR1.out.lt).cell 0, (HR1.out.below h HR1.out.lt).cell 1⟩)
  clear hr hb0
  go_enter Tryz.func40, Tryz.ntmps40
  go_wp2_with fail
  rw [← hW]
  clear hW
  refine wp_region_held (S := (fun y : World => y.cell? ⟨w.heap.size, 0, none⟩ = some (.string n) ∧ y.cell? ⟨w.heap.size, 1, none⟩ = some (.slice p x.length c))) (by kernel_rfl) ?_
  have hbd : Below W.heap.size W { W with drawn := W.drawn + 1 } := (Below.refl _ _).drew
  generalize ({ W with drawn := W.drawn + 1 } : World) = Z0 at hbd ⊢
  have HZ0 := hide hbd
  clear hbd
  have HS := hide (HSS.out _ HZ0.out)
  refine wpAnyH_take (i := 0) (oi := _) (v := .pointer (some ⟨w.heap.size, 0, none⟩)) rfl (by kernel_rfl) (by kernel_rfl) (by kernel_rfl) (fun _ _ _ h => h) (Or.inl ⟨by rfl, by intro w hSw; go_split_ands; go_simp⟩) HS.out ?_
  simp only [Act.put, List.getElem_toArray, List.getElem_cons_zero, List.setIfInBounds_toArray, List.set_cons_zero, List.set_cons_succ]
  refine wpAnyH_take (i := 1) (oi := _) (v := .string n) rfl (by kernel_rfl) (by kernel_rfl) (by kernel_rfl) (fun _ _ _ h => h) (Or.inl ⟨by rfl, by intro w hSw; go_split_ands; go_simp⟩) HS.out ?_
  simp only [Act.put, List.getElem_toArray, List.getElem_cons_zero, List.getElem_cons_succ, List.setIfInBounds_toArray, List.set_cons_zero, List.set_cons_succ]
  refine wpAnyH_take (i := 3) (oi := _) (v := .pointer (some ⟨w.heap.size, 1, none⟩)) rfl (by kernel_rfl) (by kernel_rfl) (by kernel_rfl) (fun _ _ _ h => h) (Or.inl ⟨by rfl, by intro w hSw; go_split_ands; go_simp⟩) HS.out ?_
  simp only [Act.put, List.getElem_toArray, List.getElem_cons_zero, List.getElem_cons_succ, List.setIfInBounds_toArray, List.set_cons_zero, List.set_cons_succ]
  refine wpAnyH_take (i := 4) (oi := _) (v := .slice p x.length c) rfl (by kernel_rfl) (by kernel_rfl) (by kernel_rfl) (fun _ _ _ h => h) (Or.inl ⟨by rfl, by intro w hSw; go_split_ands; go_simp⟩) HS.out ?_
  simp only [Act.put, List.getElem_toArray, List.getElem_cons_zero, List.getElem_cons_succ, List.setIfInBounds_toArray, List.set_cons_zero, List.set_cons_succ]
  refine wpAnyH_ready (rs := [2]) (by kernel_rfl) (by simp) ?_
  refine AllReadyH.cons (o := _) rfl (fun K hK => ?_) AllReadyH.nil
  go_simp
  refine (clone_any n _ hnb).mono ?_
  rintro e Z1 ⟨rfl, hb1⟩
  have HZ1 := hide (HZ0.out.trans (hb1.mono HZ0.out.size))
  clear hb1
  refine hK.out _ _ (HSS.out _ HZ1.out) (fun _ => ?_)
  clear hK K HS
  have HS := hide (HSS.out _ HZ1.out)
  refine wpAnyH_ready (rs := [5]) (by kernel_rfl) (by simp) ?_
  refine AllReadyH.cons (o := _) rfl (fun K hK => ?_) AllReadyH.nil
  go_simp
  refine (copyEachSegment_any _ x _ hn (HRX.out _ HZ1.out)).mono ?_
  rintro e Z2 ⟨p2, c2, rfl, ho2, hb2⟩
  have HZ2 := hide (HZ1.out.trans (hb2.mono HZ1.out.size))
  have HO2 := hide ho2
  have HL2 := hide (show W.heap.size ≤ Z1.heap.size from HZ1.out.size)
  clear ho2 hb2
  refine hK.out _ _ (HSS.out _ HZ2.out) (fun _ => ?_)
  clear hK K HS
  have HS := hide (HSS.out _ HZ2.out)
  refine wpAnyH_take (i := 6) (oi := _) (v := .agg #[.string n, .slice p2 x.length c2]) rfl (by kernel_rfl) (by kernel_rfl) (by kernel_rfl) (fun _ _ _ h => h) (Or.inl ⟨by rfl, by intro w hSw; go_split_ands; go_simp⟩) HS.out ?_
  simp only [Act.put, List.getElem_toArray, List.getElem_cons_zero, List.getElem_cons_succ, List.setIfInBounds_toArray, List.set_cons_zero, List.set_cons_succ]
  refine wpAnyH_ready (rs := [7]) (by kernel_rfl) (by simp) ?_
  refine AllReadyH.cons (o := _) rfl (fun K hK => ?_) AllReadyH.nil
  have r2 := HR2.out.below HZ2.out HR2.out.lt
  have g0 : Z2.cell? ⟨w.heap.size + 1, 0, none⟩ = some (.string ⟨#[]⟩) := r2.cell 0
  have g1 : Z2.cell? ⟨w.heap.size + 1, 1, none⟩ = some (.slice none 0 0) := r2.cell 1
  have z0 := r2.free 0
  have z1 := r2.free 1
  have t2 := (r2.set (j := 0) (.string n)).set (j := 1) (.slice p2 x.length c2)
  have q0 : ((Z2.setCell ⟨w.heap.size + 1, 0, none⟩ (.string n)).setCell ⟨w.heap.size + 1, 1, none⟩ (.slice p2 x.length c2)).cell? ⟨w.heap.size + 1, 0, none⟩ = some (.string n) := t2.cell 0
  have q1 : ((Z2.setCell ⟨w.heap.size + 1, 0, none⟩ (.string n)).setCell ⟨w.heap.size + 1, 1, none⟩ (.slice p2 x.length c2)).cell? ⟨w.heap.size + 1, 1, none⟩ = some (.slice p2 x.length c2) := t2.cell 1
  have HBE := hide (((HB0.out.trans (HZ2.out.mono HB0.out.size)).setCell (p := ⟨w.heap.size + 1, 0, none⟩) (by show w.heap.size ≤ w.heap.size + 1; omega) (.string n)).setCell (p := ⟨w.heap.size + 1, 1, none⟩) (by show w.heap.size ≤ w.heap.size + 1; omega) (.slice p2 x.length c2))
  have HSE : Hid ((fun y : World => y.cell? ⟨w.heap.size, 0, none⟩ = some (.string n) ∧ y.cell? ⟨w.heap.size, 1, none⟩ = some (.slice p x.length c)) ((Z2.setCell ⟨w.heap.size + 1, 0, none⟩ (.string n)).setCell ⟨w.heap.size + 1, 1, none⟩ (.slice p2 x.length c2))) := hide (by
    have h := HSS.out _ HZ2.out
    refine ⟨?_, ?_⟩
    · exact ((((HR1.out.below HZ2.out HR1.out.lt).other (b := w.heap.size + 1) (j := 0) (by omega) (.string n)).other (b := w.heap.size + 1) (j := 1) (by omega) (.slice p2 x.length c2))).cell 0
    · exact ((((HR1.out.below HZ2.out HR1.out.lt).other (b := w.heap.size + 1) (j := 0) (by omega) (.string n)).other (b := w.heap.size + 1) (j := 1) (by omega) (.slice p2 x.length c2))).cell 1)
  have es : ((Z2.setCell ⟨w.heap.size + 1, 0, none⟩ (.string n)).setCell ⟨w.heap.size + 1, 1, none⟩ (.slice p2 x.length c2)).heap.size = Z2.heap.size := by simp [World.setCell]
  have HOE : Hid (OSegs w.heap.size ((Z2.setCell ⟨w.heap.size + 1, 0, none⟩ (.string n)).setCell ⟨w.heap.size + 1, 1, none⟩ (.slice p2 x.length c2)).heap.size ((Z2.setCell ⟨w.heap.size + 1, 0, none⟩ (.string n)).setCell ⟨w.heap.size + 1, 1, none⟩ (.slice p2 x.length c2)) (.slice p2 x.length c2) x) := hide (by
    rw [es]
    have hl2 := HL2.out
    exact OSegs.wide ((HO2.out.keep (SameIn.set Z2 (g := w.heap.size + 1) (j := 0) (.string n) (by omega))).keep (SameIn.set _ _ (by omega))) (by omega : w.heap.size ≤ Z1.heap.size) (Nat.le_refl _))
  clear r2 t2 es
  go_simp
  refine hK.out _ _ HSE.out (fun _ => ?_)
  clear hK K HS HSE
  refine wpAnyH_done (by kernel_rfl) ?_ _
  go_wp2
  exact bodyPost_ret (v := .agg #[.string n, .slice p2 x.length c2]) (by simp [results, Tryz.results40, go_sem, q0, q1]) rfl ⟨_, _, rfl, HOE.out, HBE.out⟩
end Go.Proofs.YtholbhjfmfanbaaGreat
/- The model's copies of a Segment and of a Message: each list in a row of its own. -/
namespace Go.Proofs.YtholbhjfmfanbaaGreat
open Go.RowKit
set_option maxHeartbeats 16000000 in
set_option maxRecDepth 100000 in
theorem l05CopySegment_any (n : ByteArray) (u : Value) (f : List (List (List (List ByteArray)))) (w : World) (hn : wFlds f ≤ 1048576) (hr : RFlds 0 w u f) :
    Calls Tryz.prog 86 #[.agg #[.string n, u]] w fun e w' => ∃ p c, e = .returned (.agg #[.string n, .slice p f.length c]) ∧ OFlds w.heap.size w'.heap.size w' (.slice p f.length c) f ∧ Below w.heap.size w w' := by
  obtain ⟨j0, hj, hy0, hy1, hy2⟩ := info_parts Tryz.infoCopyField
  have HZC := hide (show (Value.agg #[.slice none 0 0]).cells.size = 1 from rfl)
  have hl : f.length ≤ 1048576 := Nat.le_trans (wL_len _ f) hn
  have HM : Hid (∀ i (h : i < f.length), wFld f[i] ≤ 1048576) := fun i h => by have := wL_mem wFld (List.getElem_mem h); have : wL wFld f ≤ 1048576 := hn; omega
  clear hn
  obtain ⟨p, cap, rfl, h1, h2, h4⟩ := hr
  have H4 := hide h4
  clear h4
  unfold maxLen at h2
  obtain ⟨W, hW⟩ : ∃ W, W = ((w.alloc (.cells #[.string n, .slice p f.length cap] 85)).alloc (.cells #[.string ⟨#[]⟩, .slice none 0 0] 85)).alloc (.cells #[.string n, .slice none 0 0] 85) := ⟨_, rfl⟩
  have HBW := hide (show Below w.heap.size w W by rw [hW]; exact (((Below.refl _ _).alloc (Nat.le_refl _) _).alloc (by simp) _).alloc (by simp; omega) _)
  have HWs := hide (show W.heap.size = w.heap.size + 3 by rw [hW]; simp)
  have HR1 := hide (show Row W w.heap.size 85 [.string n, .slice p f.length cap] by rw [hW]; exact ((row_new w [.string n, .slice p f.length cap] 85).alloc _).alloc _)
  have HR2 := hide (show Row W (w.heap.size + 1) 85 [.string ⟨#[]⟩, .slice none 0 0] by
    rw [hW]
    have := (row_new (w.alloc (.cells #[.string n, .slice p f.length cap] 85)) [.string ⟨#[]⟩, .slice none 0 0] 85).alloc (.cells #[.string n, .slice none 0 0] 85)
    simpa using this)
  have HR3 := hide (show Row W (w.heap.size + 2) 85 [.string n, .slice none 0 0] by
    rw [hW]
    have := row_new ((w.alloc (.cells #[.string n, .slice p f.length cap] 85)).alloc (.cells #[.string ⟨#[]⟩, .slice none 0 0] 85)) [.string n, .slice none 0 0] 85
    simpa using this)
  have HO := hide (World.ownsRow_nil W W.heap.size 108 1)
  go_enter Tryz.func86, Tryz.ntmps86
  go_wp2_with fail
  rw [← hW]
  clear hW
  go_loopw [4] (fun i wr => ∃ (X : World) (k : Nat) (l : Value) (vs : List Value), X = wr ∧ k ≤ f.length ∧ i = .int .i64 (k : Int) ∧ Hid (Row X (w.heap.size + 2) 85 [.string n, l]) ∧ Hid (X.ownsRow W.heap.size 108 1 l k vs) ∧ Hid (Below w.heap.size w X) ∧ Hid (Row X w.heap.size 85 [.string n, .slice p f.length cap]) ∧ Hid (Row X (w.heap.size + 1) 85 [.string ⟨#[]⟩, .slice none 0 0]) ∧ Hid (W.heap.size ≤ X.heap.size) ∧ Hid ((vs).length = k ∧ ∃ A B : Nat → Nat, (∀ j (h1 : j < (vs).length) (h2 : j < f.length), W.heap.size ≤ A j ∧ B j ≤ (X).heap.size ∧ (∀ g, (l).ownBlock = some g → B j ≤ g ∨ g < A j) ∧ OFld (A j) (B j) (X) (vs)[j] f[j]) ∧ ∀ i j, i < j → j < k → B i ≤ A j)) (fun i _ => f.length - (intOf i).toNat)
  case atStart => exact ⟨_, 0, _, [], rfl, Nat.zero_le _, rfl, HR3, HO, HBW, HR1, HR2, hide (Nat.le_refl _), hide ⟨rfl, fun _ => 0, fun _ => 0, fun j h1 _ => absurd h1 (by simp), fun i j _ h => absurd h (by omega)⟩⟩
  case round =>
    obtain ⟨X, k, l, vs, rfl, hkk, rfl, HRX, HOX, HBX, HR1X, HR2X, HSX, HEX⟩ := hrel
    have d1 : X.cell? ⟨w.heap.size, 1, none⟩ = some (.slice p f.length cap) := HR1X.out.cell 1
    by_cases hlt : k < f.length
    · obtain ⟨g, off, hp, hg, _, hc⟩ := H4.out (by omega)
      subst hp
      obtain ⟨u1, hu1, hru1⟩ := hc k hlt
      have HXM := hide (HM.out k hlt)
      have hki : (k : Int) < (f.length : Int) := by omega
      obtain ⟨sg, hsg⟩ : ∃ sg, sg = f[k]'hlt := ⟨_, rfl⟩
      rw [← hsg] at hru1 HXM
      have HSG := hide hsg
      clear hsg hc
      obtain ⟨p3, c3, rfl⟩ := hru1.isSlice
      have hru := hide hru1
      have hu1 := hide hu1
      clear hru1
      go_wp2_with fail
      refine wp_region_held (S := (fun y : World => y.cell? ⟨w.heap.size, 1, none⟩ = some (.slice (some ⟨g, off, none⟩) f.length cap) ∧ y.cell? ⟨g, off + k, none⟩ = some (.slice p3 sg.length c3))) (by kernel_rfl) ?_
      have hbd : Below X.heap.size X { X with drawn := X.drawn + 1 } := (Below.refl _ _).drew
      obtain ⟨Z0, hZ0⟩ : ∃ Z0 : World, Z0 = { X with drawn := X.drawn + 1 } := ⟨_, rfl⟩
      rw [← hZ0] at hbd ⊢
      have hz0s : Z0.heap.size = X.heap.size := by rw [hZ0]
      clear hZ0
      have HRowD := hide (HRX.out.below hbd HRX.out.lt)
      have HR1D := hide (HR1X.out.below hbd HR1X.out.lt)
      have HR2D := hide (HR2X.out.below hbd HR2X.out.lt)
      have HOD := hide (own_below HOX.out hbd)
      have HElD : Hid ((vs).length = k ∧ ∃ A B : Nat → Nat, (∀ j (h1 : j < (vs).length) (h2 : j < f.length), W.heap.size ≤ A j ∧ B j ≤ (Z0).heap.size ∧ (∀ g, (l).ownBlock = some g → B j ≤ g ∨ g < A j) ∧ OFld (A j) (B j) (Z0) (vs)[j] f[j]) ∧ ∀ i j, i < j → j < k → B i ≤ A j) := hide (by
        obtain ⟨hvl, A, B, hE, hD⟩ := HEX.out
        refine ⟨hvl, A, B, fun j h1 h2 => ?_, hD⟩
        obtain ⟨f1, f2, f3, f4⟩ := hE j h1 h2
        exact ⟨f1, by rw [hz0s]; exact f2, f3, Keeps.go (SameIn.ofBelow hbd) f4⟩)
      have HZ0 := hide (show W.heap.size ≤ Z0.heap.size by rw [hz0s]; exact HSX.out)
      have HBZw := hide (HBX.out.trans (hbd.mono HBX.out.size))
      have HSP := hide (show ∀ y, Below w.heap.size w y → y.cell? ⟨w.heap.size, 1, none⟩ = some (.slice (some ⟨g, off, none⟩) f.length cap) → (fun y : World => y.cell? ⟨w.heap.size, 1, none⟩ = some (.slice (some ⟨g, off, none⟩) f.length cap) ∧ y.cell? ⟨g, off + k, none⟩ = some (.slice p3 sg.length c3)) y from fun y hb h1 => ⟨h1, (hb.cell (p := ⟨g, off + k, none⟩) hg).trans hu1.out⟩)
      have HSS9 := hide (fun (y : World) (h : Below W.heap.size Z0 y) => HSP.out y (HBZw.out.trans (h.mono (by have := HWs.out; omega))) ((HR1D.out.below h (by have := HWs.out; omega)).cell 1))
      have HSS := hide (fun (y : World) (h : Below Z0.heap.size Z0 y) => HSS9.out y (h.mono HZ0.out))
      have HRC := hide (fun (y : World) (h : Below Z0.heap.size Z0 y) => (show RFld 0 y (.slice p3 sg.length c3) sg from RL.below hru.out (HBZw.out.trans (h.mono HBZw.out.size))))
      have HBZ0 := hide (Below.refl Z0.heap.size Z0)
      have HS := hide (HSS.out Z0 HBZ0.out)
      clear hbd hz0s HRX HR1X HR2X HOX HEX HSX HBX d1
      refine wpAnyH_take (i := 0) (oi := _) (v := .pointer (some ⟨w.heap.size + 2, 1, none⟩)) rfl (by kernel_rfl) (by kernel_rfl) (by kernel_rfl) (fun _ _ _ h => h) (Or.inl ⟨by rfl, by intro w hSw; go_split_ands; go_simp⟩) HS.out ?_
      simp only [Act.put, List.getElem_toArray, List.getElem_cons_zero, List.setIfInBounds_toArray, List.set_cons_zero, List.set_cons_succ]
      refine wpAnyH_take (i := 2) (oi := _) (v := .pointer (some ⟨w.heap.size, 1, none⟩)) rfl (by kernel_rfl) (by kernel_rfl) (by kernel_rfl) (fun _ _ _ h => h) (Or.inl ⟨by rfl, by intro w hSw; go_split_ands; go_simp⟩) HS.out ?_
      simp only [Act.put, List.getElem_toArray, List.getElem_cons_zero, List.getElem_cons_succ, List.setIfInBounds_toArray, List.set_cons_zero, List.set_cons_succ]
      refine wpAnyH_take (i := 3) (oi := _) (v := .slice (some ⟨g, off, none⟩) f.length cap) rfl (by kernel_rfl) (by kernel_rfl) (by kernel_rfl) (fun _ _ _ h => h) (Or.inl ⟨by rfl, by intro w hSw; go_split_ands; go_simp⟩) HS.out ?_
      simp only [Act.put, List.getElem_toArray, List.getElem_cons_zero, List.getElem_cons_succ, List.setIfInBounds_toArray, List.set_cons_zero, List.set_cons_succ]
      refine wpAnyH_take (i := 4) (oi := _) (v := .int .i64 (k : Int)) rfl (by kernel_rfl) (by kernel_rfl) (by kernel_rfl) (fun _ _ _ h => h) (Or.inl ⟨by rfl, by intro w hSw; go_split_ands; go_simp⟩) HS.out ?_
      simp only [Act.put, List.getElem_toArray, List.getElem_cons_zero, List.getElem_cons_succ, List.setIfInBounds_toArray, List.set_cons_zero, List.set_cons_succ]
      refine wpAnyH_take (i := 5) (oi := _) (v := .pointer (some ⟨g, off + k, none⟩)) rfl (by kernel_rfl) (by kernel_rfl) (by kernel_rfl) (fun _ _ _ h => h) (Or.inl ⟨by rfl, by intro w hSw; go_split_ands; go_simp⟩) HS.out ?_
      simp only [Act.put, List.getElem_toArray, List.getElem_cons_zero, List.getElem_cons_succ, List.setIfInBounds_toArray, List.set_cons_zero, List.set_cons_succ]
      refine wpAnyH_take (i := 6) (oi := _) (v := .agg #[.slice p3 sg.length c3]) rfl (by kernel_rfl) (by kernel_rfl) (by kernel_rfl) (fun _ _ _ h => h) (Or.inl ⟨by rfl, by intro w hSw; go_split_ands; go_simp⟩) HS.out ?_
      simp only [Act.put, List.getElem_toArray, List.getElem_cons_zero, List.getElem_cons_succ, List.setIfInBounds_toArray, List.set_cons_zero, List.set_cons_succ]
      refine wpAnyH_ready (rs := [1, 7]) (by kernel_rfl) (by simp) ?_
      refine AllReadyH.cons (o := _) rfl (fun K hK => ?_) (AllReadyH.cons (o := _) rfl (fun K hK => ?_) AllReadyH.nil)
      · have c5 : Z0.cell? ⟨w.heap.size + 2, 1, none⟩ = some l := (HRowD.out.below HBZ0.out HRowD.out.lt).cell 1
        go_simp
        refine hK.out _ _ HS.out (fun _ => ?_)
        clear hK K c5
        refine wpAnyH_ready (rs := [7]) (by kernel_rfl) (by simp) ?_
        refine AllReadyH.cons (o := _) rfl (fun K hK => ?_) AllReadyH.nil
        go_simp
        refine (l05CopyField_any _ sg _ HXM.out (HRC.out _ HBZ0.out)).mono ?_
        rintro e Z1 ⟨q5, d5, rfl, ho5, hb5⟩
        have HBZ1 := hide (HBZ0.out.trans (hb5.mono HBZ0.out.size))
        have HNW := hide ho5
        obtain ⟨LO, hLO⟩ : ∃ LO, LO = Z0.heap.size := ⟨_, rfl⟩
        rw [← hLO] at HNW
        have HZL := hide (show Z0.heap.size ≤ LO by rw [hLO]; exact HBZ0.out.size)
        obtain ⟨HI, hHI⟩ : ∃ HI, HI = Z1.heap.size := ⟨_, rfl⟩
        rw [← hHI] at HNW
        have HHI := hide (show HI ≤ Z1.heap.size from Nat.le_of_eq hHI)
        clear ho5 hb5 hLO hHI
        refine hK.out _ _ (HSS.out _ HBZ1.out) (fun _ => ?_)
        clear hK K HS
        have HS := hide (HSS.out _ HBZ1.out)
        refine wpAnyH_ready (rs := [8]) (by kernel_rfl) (by simp) ?_
        refine AllReadyH.cons (o := _) rfl (fun K hK => ?_) AllReadyH.nil
        go_simp
        have HBZ2 := hide (HBZ1.out.alloc HBZ1.out.size (.cells #[.slice q5 sg.length d5] 108))
        refine hK.out _ _ (HSS.out _ HBZ2.out) (fun _ => ?_)
        clear hK K HS
        have HNW2 := hide (Keeps.go (SameIn.ofBelow ((Below.refl Z1.heap.size Z1).alloc (Nat.le_refl _) (.cells #[.slice q5 sg.length d5] 108))) HNW.out)
        have HR1 : Hid (∀ j u, ([.slice q5 sg.length d5] : List Value)[j]? = some u → (Z1.alloc (.cells #[.slice q5 sg.length d5] 108)).cell? ((⟨Z1.heap.size, 0, none⟩ : Addr).add j) = some u) := hide (row_cellsM (row_new Z1 [.slice q5 sg.length d5] 108))
        have HHI2 : Hid (HI ≤ (Z1.alloc (.cells #[.slice q5 sg.length d5] 108)).heap.size) := hide (by have := HHI.out; simp; omega)
        generalize hZ : Z1.alloc (.cells #[.slice q5 sg.length d5] 108) = Z2 at HBZ2 HNW2 HR1 HHI2 ⊢
        generalize Z1.heap.size = F5 at HR1 ⊢
        clear hZ HNW
        have HS := hide (HSS.out _ HBZ2.out)
        have HOZ := hide (own_below HOD.out HBZ2.out)
        refine wpAnyH_ready (rs := [9]) (by kernel_rfl) (by simp) ?_
        refine AllReadyH.cons (o := _) rfl (fun K hK => ?_) AllReadyH.nil
        refine step_own (w := Z2) rfl (.tmp 16) (.tmp 23) 83 rfl W.heap.size 108 j0 _ 1 24 Tryz.underlying83 hj hy0 hy1 hy2 HZC.out (by omega) l k vs rfl HOZ.out ⟨F5, 0, none⟩ 1 _ [.slice q5 sg.length d5] rfl rfl HR1.out (by simp [Value.oneCell']) (by unfold maxLen; omega) (by omega) (by have h5 := HBZ2.out.size; have h6 := HZ0.out; omega) ?_
        intro l3 Z9 hown9 hgrow hat
        obtain ⟨pl, cl, hl3⟩ := own_slice1 hown9
        subst hl3
        have hWs := HWs.out
        have HROW9 := hide (row_grown (HRowD.out.below HBZ2.out HRowD.out.lt) hgrow (fun k hk => (HOZ.out.lt k hk).1) (by omega))
        have HBW := hide (show Below W.heap.size Z0 Z9 from (HBZ2.out.mono (by have h6 := HZ0.out; omega)).grown hgrow (by have h5 := HBZ2.out.size; have h6 := HZ0.out; omega) (fun k hk => (HOZ.out.lt k hk).1))
        have HEl9 : Hid ((vs ++ ([.slice q5 sg.length d5] : List Value)).length = k + 1 ∧ ∃ A B : Nat → Nat, (∀ j (h1 : j < (vs ++ ([.slice q5 sg.length d5] : List Value)).length) (h2 : j < f.length), W.heap.size ≤ A j ∧ B j ≤ (Z9).heap.size ∧ (∀ g, (Value.slice pl (k + 1) cl).ownBlock = some g → B j ≤ g ∨ g < A j) ∧ OFld (A j) (B j) (Z9) (vs ++ ([.slice q5 sg.length d5] : List Value))[j] f[j]) ∧ ∀ i j, i < j → j < k + 1 → B i ≤ A j) := hide (by
          obtain ⟨hvl, A, B, hE, hD⟩ := HElD.out
          have hs1 := HBZ2.out.size
          have hs2 := hgrow.size
          have hZ0 := HZ0.out
          have hlo := HZL.out
          have hhi := HHI2.out
          refine ⟨by rw [List.length_append, hvl]; rfl, fun i => if i = k then LO else A i, fun i => if i = k then HI else B i, fun j h1 h2 => ?_, fun i j hij hj => ?_⟩
          · have h1' : j < k + 1 := by rw [List.length_append, hvl] at h1; exact h1
            dsimp only
            by_cases hj : j = k
            · subst hj
              rw [if_pos rfl, if_pos rfl, List.getElem_append_right (by rw [hvl]; exact Nat.le_refl _)]
              simp only [hvl, Nat.sub_self, List.getElem_cons_zero]
              refine ⟨by omega, by omega, fun g hg => ?_, ?_⟩
              · rcases hat with h | h
                · rw [h] at hg
                  exact .inr (by have := (HOD.out.lt g hg).2; omega)
                · rw [h] at hg
                  cases hg
                  exact .inl (by omega)
              · have e := Keeps.go (grown_in hgrow (fun g hg => .inr (by have := (HOD.out.lt g hg).2; omega))) HNW2.out
                exact Eq.mp (congrArg (fun c => OFld LO HI Z9 (Value.slice q5 sg.length d5) c) HSG.out) e
            · have hjk : j < vs.length := by rw [hvl]; omega
              obtain ⟨f1, f2, f3, f4⟩ := hE j hjk h2
              rw [if_neg hj, if_neg hj, List.getElem_append_left hjk]
              refine ⟨f1, by omega, fun g hg => ?_, Keeps.go (grown_in hgrow f3) (Keeps.go (SameIn.ofBelow HBZ2.out) f4)⟩
              rcases hat with h | h
              · rw [h] at hg
                exact f3 g hg
              · rw [h] at hg
                cases hg
                exact .inl (by omega)
          · have hik : i < vs.length := by rw [hvl]; omega
            obtain ⟨f1, f2, f3, f4⟩ := hE i hik (by omega)
            dsimp only
            by_cases hjk : j = k
            · rw [if_pos hjk, if_neg (by omega)]; omega
            · rw [if_neg hjk, if_neg (by omega)]; exact hD i j hij (by omega))
        have HO9 := hide hown9
        clear hown9 hgrow hat
        refine hK.out _ _ (HSS9.out _ HBW.out) (fun _ => ?_)
        clear hK K HS
        have HS := hide (HSS9.out _ HBW.out)
        simp only [Act.put, List.getElem_toArray, List.getElem_cons_zero, List.getElem_cons_succ, List.setIfInBounds_toArray, List.set_cons_zero, List.set_cons_succ]
        refine wpAnyH_take (i := 10) (oi := _) (v := .pointer (some ⟨w.heap.size + 2, 1, none⟩)) rfl (by kernel_rfl) (by kernel_rfl) (by kernel_rfl) (fun _ _ _ h => h) (Or.inl ⟨by rfl, by intro w hSw; go_split_ands; go_simp⟩) HS.out ?_
        simp only [Act.put, List.getElem_toArray, List.getElem_cons_zero, List.getElem_cons_succ, List.setIfInBounds_toArray, List.set_cons_zero, List.set_cons_succ]
        refine wpAnyH_ready (rs := [11]) (by kernel_rfl) (by simp) ?_
        refine AllReadyH.cons (o := _) rfl (fun K hK => ?_) AllReadyH.nil
        have c9 : Z9.cell? ⟨w.heap.size + 2, 1, none⟩ = some l := HROW9.out.cell 1
        have f9 := HROW9.out.free 1
        go_simp
        have HBZX := hide (HBZw.out.trans (HBW.out.mono (by omega : w.heap.size ≤ W.heap.size)))
        have HBX2 := hide (HBZX.out.setCell (p := ⟨w.heap.size + 2, 1, none⟩) (by show w.heap.size ≤ w.heap.size + 2; omega) (.slice pl (k + 1) cl))
        have HRO2 := hide (HROW9.out.set (j := 1) (.slice pl (k + 1) cl))
        have HR12 := hide ((HR1D.out.below HBW.out (by omega)).other (b := w.heap.size + 2) (j := 1) (by omega) (.slice pl (k + 1) cl))
        have HR22 := hide ((HR2D.out.below HBW.out (by omega)).other (b := w.heap.size + 2) (j := 1) (by omega) (.slice pl (k + 1) cl))
        have es : (Z9.setCell ⟨w.heap.size + 2, 1, none⟩ (.slice pl (k + 1) cl)).heap.size = Z9.heap.size := by simp [World.setCell]
        have HOY2 := hide (ownsRow_setCell_below HO9.out (a := ⟨w.heap.size + 2, 1, none⟩) (by show w.heap.size + 2 < W.heap.size; omega) (.slice pl (k + 1) cl))
        have HEY2 : Hid ((vs ++ ([.slice q5 sg.length d5] : List Value)).length = k + 1 ∧ ∃ A B : Nat → Nat, (∀ j (h1 : j < (vs ++ ([.slice q5 sg.length d5] : List Value)).length) (h2 : j < f.length), W.heap.size ≤ A j ∧ B j ≤ ((Z9.setCell ⟨w.heap.size + 2, 1, none⟩ (.slice pl (k + 1) cl))).heap.size ∧ (∀ g, (Value.slice pl (k + 1) cl).ownBlock = some g → B j ≤ g ∨ g < A j) ∧ OFld (A j) (B j) ((Z9.setCell ⟨w.heap.size + 2, 1, none⟩ (.slice pl (k + 1) cl))) (vs ++ ([.slice q5 sg.length d5] : List Value))[j] f[j]) ∧ ∀ i j, i < j → j < k + 1 → B i ≤ A j) := hide (by
          obtain ⟨hvl, A, B, hE, hD⟩ := HEl9.out
          refine ⟨hvl, A, B, fun j h1 h2 => ?_, hD⟩
          obtain ⟨f1, f2, f3, f4⟩ := hE j h1 h2
          exact ⟨f1, by rw [es]; exact f2, f3, Keeps.go (SameIn.set _ _ (by have := HWs.out; omega)) f4⟩)
        have HSY2 : Hid (W.heap.size ≤ (Z9.setCell ⟨w.heap.size + 2, 1, none⟩ (.slice pl (k + 1) cl)).heap.size) := hide (by rw [es]; have h5 := HBW.out.size; have h6 := HZ0.out; omega)
        have HSF : Hid ((fun y : World => y.cell? ⟨w.heap.size, 1, none⟩ = some (.slice (some ⟨g, off, none⟩) f.length cap) ∧ y.cell? ⟨g, off + k, none⟩ = some (.slice p3 sg.length c3)) (Z9.setCell ⟨w.heap.size + 2, 1, none⟩ (.slice pl (k + 1) cl))) := hide (HSP.out _ HBX2.out (HR12.out.cell 1))
        clear es
        refine hK.out _ _ HSF.out (fun _ => ?_)
        clear hK K HS HSF
        refine wpAnyH_done (by kernel_rfl) ?_ _
        go_wp2
        go_roundw
        case rel => exact ⟨_, k + 1, _, _, rfl, by omega, by go_num, HRO2, HOY2, HBX2, HR12, HR22, HSY2, HEY2⟩
        case measure => simp [intOf]; omega
      · go_simp
        refine (l05CopyField_any _ sg _ HXM.out (HRC.out _ HBZ0.out)).mono ?_
        rintro e Z1 ⟨q5, d5, rfl, ho5, hb5⟩
        have HBZ1 := hide (HBZ0.out.trans (hb5.mono HBZ0.out.size))
        have HNW := hide ho5
        obtain ⟨LO, hLO⟩ : ∃ LO, LO = Z0.heap.size := ⟨_, rfl⟩
        rw [← hLO] at HNW
        have HZL := hide (show Z0.heap.size ≤ LO by rw [hLO]; exact HBZ0.out.size)
        obtain ⟨HI, hHI⟩ : ∃ HI, HI = Z1.heap.size := ⟨_, rfl⟩
        rw [← hHI] at HNW
        have HHI := hide (show HI ≤ Z1.heap.size from Nat.le_of_eq hHI)
        clear ho5 hb5 hLO hHI
        refine hK.out _ _ (HSS.out _ HBZ1.out) (fun _ => ?_)
        clear hK K HS
        have HS := hide (HSS.out _ HBZ1.out)
        refine wpAnyH_ready (rs := [1, 8]) (by kernel_rfl) (by simp) ?_
        refine AllReadyH.cons (o := _) rfl (fun K hK => ?_) (AllReadyH.cons (o := _) rfl (fun K hK => ?_) AllReadyH.nil)
        · have c5 : Z1.cell? ⟨w.heap.size + 2, 1, none⟩ = some l := (HRowD.out.below HBZ1.out HRowD.out.lt).cell 1
          go_simp
          refine hK.out _ _ HS.out (fun _ => ?_)
          clear hK K c5
          refine wpAnyH_ready (rs := [8]) (by kernel_rfl) (by simp) ?_
          refine AllReadyH.cons (o := _) rfl (fun K hK => ?_) AllReadyH.nil
          go_simp
          have HBZ2 := hide (HBZ1.out.alloc HBZ1.out.size (.cells #[.slice q5 sg.length d5] 108))
          refine hK.out _ _ (HSS.out _ HBZ2.out) (fun _ => ?_)
          clear hK K HS
          have HNW2 := hide (Keeps.go (SameIn.ofBelow ((Below.refl Z1.heap.size Z1).alloc (Nat.le_refl _) (.cells #[.slice q5 sg.length d5] 108))) HNW.out)
          have HR1 : Hid (∀ j u, ([.slice q5 sg.length d5] : List Value)[j]? = some u → (Z1.alloc (.cells #[.slice q5 sg.length d5] 108)).cell? ((⟨Z1.heap.size, 0, none⟩ : Addr).add j) = some u) := hide (row_cellsM (row_new Z1 [.slice q5 sg.length d5] 108))
          have HHI2 : Hid (HI ≤ (Z1.alloc (.cells #[.slice q5 sg.length d5] 108)).heap.size) := hide (by have := HHI.out; simp; omega)
          generalize hZ : Z1.alloc (.cells #[.slice q5 sg.length d5] 108) = Z2 at HBZ2 HNW2 HR1 HHI2 ⊢
          generalize Z1.heap.size = F5 at HR1 ⊢
          clear hZ HNW
          have HS := hide (HSS.out _ HBZ2.out)
          have HOZ := hide (own_below HOD.out HBZ2.out)
          refine wpAnyH_ready (rs := [9]) (by kernel_rfl) (by simp) ?_
          refine AllReadyH.cons (o := _) rfl (fun K hK => ?_) AllReadyH.nil
          refine step_own (w := Z2) rfl (.tmp 16) (.tmp 23) 83 rfl W.heap.size 108 j0 _ 1 24 Tryz.underlying83 hj hy0 hy1 hy2 HZC.out (by omega) l k vs rfl HOZ.out ⟨F5, 0, none⟩ 1 _ [.slice q5 sg.length d5] rfl rfl HR1.out (by simp [Value.oneCell']) (by unfold maxLen; omega) (by omega) (by have h5 := HBZ2.out.size; have h6 := HZ0.out; omega) ?_
          intro l3 Z9 hown9 hgrow hat
          obtain ⟨pl, cl, hl3⟩ := own_slice1 hown9
          subst hl3
          have hWs := HWs.out
          have HROW9 := hide (row_grown (HRowD.out.below HBZ2.out HRowD.out.lt) hgrow (fun k hk => (HOZ.out.lt k hk).1) (by omega))
          have HBW := hide (show Below W.heap.size Z0 Z9 from (HBZ2.out.mono (by have h6 := HZ0.out; omega)).grown hgrow (by have h5 := HBZ2.out.size; have h6 := HZ0.out; omega) (fun k hk => (HOZ.out.lt k hk).1))
          have HEl9 : Hid ((vs ++ ([.slice q5 sg.length d5] : List Value)).length = k + 1 ∧ ∃ A B : Nat → Nat, (∀ j (h1 : j < (vs ++ ([.slice q5 sg.length d5] : List Value)).length) (h2 : j < f.length), W.heap.size ≤ A j ∧ B j ≤ (Z9).heap.size ∧ (∀ g, (Value.slice pl (k + 1) cl).ownBlock = some g → B j ≤ g ∨ g < A j) ∧ OFld (A j) (B j) (Z9) (vs ++ ([.slice q5 sg.length d5] : List Value))[j] f[j]) ∧ ∀ i j, i < j → j < k + 1 → B i ≤ A j) := hide (by
            obtain ⟨hvl, A, B, hE, hD⟩ := HElD.out
            have hs1 := HBZ2.out.size
            have hs2 := hgrow.size
            have hZ0 := HZ0.out
            have hlo := HZL.out
            have hhi := HHI2.out
            refine ⟨by rw [List.length_append, hvl]; rfl, fun i => if i = k then LO else A i, fun i => if i = k then HI else B i, fun j h1 h2 => ?_, fun i j hij hj => ?_⟩
            · have h1' : j < k + 1 := by rw [List.length_append, hvl] at h1; exact h1
              dsimp only
              by_cases hj : j = k
              · subst hj
                rw [if_pos rfl, if_pos rfl, List.getElem_append_right (by rw [hvl]; exact Nat.le_refl _)]
                simp only [hvl, Nat.sub_self, List.getElem_cons_zero]
                refine ⟨by omega, by omega, fun g hg => ?_, ?_⟩
                · rcases hat with h | h
                  · rw [h] at hg
                    exact .inr (by have := (HOD.out.lt g hg).2; omega)
                  · rw [h] at hg
                    cases hg
                    exact .inl (by omega)
                · have e := Keeps.go (grown_in hgrow (fun g hg => .inr (by have := (HOD.out.lt g hg).2; omega))) HNW2.out
                  exact Eq.mp (congrArg (fun c => OFld LO HI Z9 (Value.slice q5 sg.length d5) c) HSG.out) e
              · have hjk : j < vs.length := by rw [hvl]; omega
                obtain ⟨f1, f2, f3, f4⟩ := hE j hjk h2
                rw [if_neg hj, if_neg hj, List.getElem_append_left hjk]
                refine ⟨f1, by omega, fun g hg => ?_, Keeps.go (grown_in hgrow f3) (Keeps.go (SameIn.ofBelow HBZ2.out) f4)⟩
                rcases hat with h | h
                · rw [h] at hg
                  exact f3 g hg
                · rw [h] at hg
                  cases hg
                  exact .inl (by omega)
            · have hik : i < vs.length := by rw [hvl]; omega
              obtain ⟨f1, f2, f3, f4⟩ := hE i hik (by omega)
              dsimp only
              by_cases hjk : j = k
              · rw [if_pos hjk, if_neg (by omega)]; omega
              · rw [if_neg hjk, if_neg (by omega)]; exact hD i j hij (by omega))
          have HO9 := hide hown9
          clear hown9 hgrow hat
          refine hK.out _ _ (HSS9.out _ HBW.out) (fun _ => ?_)
          clear hK K HS
          have HS := hide (HSS9.out _ HBW.out)
          simp only [Act.put, List.getElem_toArray, List.getElem_cons_zero, List.getElem_cons_succ, List.setIfInBounds_toArray, List.set_cons_zero, List.set_cons_succ]
          refine wpAnyH_take (i := 10) (oi := _) (v := .pointer (some ⟨w.heap.size + 2, 1, none⟩)) rfl (by kernel_rfl) (by kernel_rfl) (by kernel_rfl) (fun _ _ _ h => h) (Or.inl ⟨by rfl, by intro w hSw; go_split_ands; go_simp⟩) HS.out ?_
          simp only [Act.put, List.getElem_toArray, List.getElem_cons_zero, List.getElem_cons_succ, List.setIfInBounds_toArray, List.set_cons_zero, List.set_cons_succ]
          refine wpAnyH_ready (rs := [11]) (by kernel_rfl) (by simp) ?_
          refine AllReadyH.cons (o := _) rfl (fun K hK => ?_) AllReadyH.nil
          have c9 : Z9.cell? ⟨w.heap.size + 2, 1, none⟩ = some l := HROW9.out.cell 1
          have f9 := HROW9.out.free 1
          go_simp
          have HBZX := hide (HBZw.out.trans (HBW.out.mono (by omega : w.heap.size ≤ W.heap.size)))
          have HBX2 := hide (HBZX.out.setCell (p := ⟨w.heap.size + 2, 1, none⟩) (by show w.heap.size ≤ w.heap.size + 2; omega) (.slice pl (k + 1) cl))
          have HRO2 := hide (HROW9.out.set (j := 1) (.slice pl (k + 1) cl))
          have HR12 := hide ((HR1D.out.below HBW.out (by omega)).other (b := w.heap.size + 2) (j := 1) (by omega) (.slice pl (k + 1) cl))
          have HR22 := hide ((HR2D.out.below HBW.out (by omega)).other (b := w.heap.size + 2) (j := 1) (by omega) (.slice pl (k + 1) cl))
          have es : (Z9.setCell ⟨w.heap.size + 2, 1, none⟩ (.slice pl (k + 1) cl)).heap.size = Z9.heap.size := by simp [World.setCell]
          have HOY2 := hide (ownsRow_setCell_below HO9.out (a := ⟨w.heap.size + 2, 1, none⟩) (by show w.heap.size + 2 < W.heap.size; omega) (.slice pl (k + 1) cl))
          have HEY2 : Hid ((vs ++ ([.slice q5 sg.length d5] : List Value)).length = k + 1 ∧ ∃ A B : Nat → Nat, (∀ j (h1 : j < (vs ++ ([.slice q5 sg.length d5] : List Value)).length) (h2 : j < f.length), W.heap.size ≤ A j ∧ B j ≤ ((Z9.setCell ⟨w.heap.size + 2, 1, none⟩ (.slice pl (k + 1) cl))).heap.size ∧ (∀ g, (Value.slice pl (k + 1) cl).ownBlock = some g → B j ≤ g ∨ g < A j) ∧ OFld (A j) (B j) ((Z9.setCell ⟨w.heap.size + 2, 1, none⟩ (.slice pl (k + 1) cl))) (vs ++ ([.slice q5 sg.length d5] : List Value))[j] f[j]) ∧ ∀ i j, i < j → j < k + 1 → B i ≤ A j) := hide (by
            obtain ⟨hvl, A, B, hE, hD⟩ := HEl9.out
            refine ⟨hvl, A, B, fun j h1 h2 => ?_, hD⟩
            obtain ⟨f1, f2, f3, f4⟩ := hE j h1 h2
            exact ⟨f1, by rw [es]; exact f2, f3, Keeps.go (SameIn.set _ _ (by have := HWs.out; omega)) f4⟩)
          have HSY2 : Hid (W.heap.size ≤ (Z9.setCell ⟨w.heap.size + 2, 1, none⟩ (.slice pl (k + 1) cl)).heap.size) := hide (by rw [es]; have h5 := HBW.out.size; have h6 := HZ0.out; omega)
          have HSF : Hid ((fun y : World => y.cell? ⟨w.heap.size, 1, none⟩ = some (.slice (some ⟨g, off, none⟩) f.length cap) ∧ y.cell? ⟨g, off + k, none⟩ = some (.slice p3 sg.length c3)) (Z9.setCell ⟨w.heap.size + 2, 1, none⟩ (.slice pl (k + 1) cl))) := hide (HSP.out _ HBX2.out (HR12.out.cell 1))
          clear es
          refine hK.out _ _ HSF.out (fun _ => ?_)
          clear hK K HS HSF
          refine wpAnyH_done (by kernel_rfl) ?_ _
          go_wp2
          go_roundw
          case rel => exact ⟨_, k + 1, _, _, rfl, by omega, by go_num, HRO2, HOY2, HBX2, HR12, HR22, HSY2, HEY2⟩
          case measure => simp [intOf]; omega
        · go_simp
          have HBZ2 := hide (HBZ1.out.alloc HBZ1.out.size (.cells #[.slice q5 sg.length d5] 108))
          refine hK.out _ _ (HSS.out _ HBZ2.out) (fun _ => ?_)
          clear hK K HS
          have HNW2 := hide (Keeps.go (SameIn.ofBelow ((Below.refl Z1.heap.size Z1).alloc (Nat.le_refl _) (.cells #[.slice q5 sg.length d5] 108))) HNW.out)
          have HR1 : Hid (∀ j u, ([.slice q5 sg.length d5] : List Value)[j]? = some u → (Z1.alloc (.cells #[.slice q5 sg.length d5] 108)).cell? ((⟨Z1.heap.size, 0, none⟩ : Addr).add j) = some u) := hide (row_cellsM (row_new Z1 [.slice q5 sg.length d5] 108))
          have HHI2 : Hid (HI ≤ (Z1.alloc (.cells #[.slice q5 sg.length d5] 108)).heap.size) := hide (by have := HHI.out; simp; omega)
          generalize hZ : Z1.alloc (.cells #[.slice q5 sg.length d5] 108) = Z2 at HBZ2 HNW2 HR1 HHI2 ⊢
          generalize Z1.heap.size = F5 at HR1 ⊢
          clear hZ HNW
          have HS := hide (HSS.out _ HBZ2.out)
          refine wpAnyH_ready (rs := [1]) (by kernel_rfl) (by simp) ?_
          refine AllReadyH.cons (o := _) rfl (fun K hK => ?_) AllReadyH.nil
          have c5 : Z2.cell? ⟨w.heap.size + 2, 1, none⟩ = some l := (HRowD.out.below HBZ2.out HRowD.out.lt).cell 1
          go_simp
          refine hK.out _ _ HS.out (fun _ => ?_)
          clear hK K c5
          have HOZ := hide (own_below HOD.out HBZ2.out)
          refine wpAnyH_ready (rs := [9]) (by kernel_rfl) (by simp) ?_
          refine AllReadyH.cons (o := _) rfl (fun K hK => ?_) AllReadyH.nil
          refine step_own (w := Z2) rfl (.tmp 16) (.tmp 23) 83 rfl W.heap.size 108 j0 _ 1 24 Tryz.underlying83 hj hy0 hy1 hy2 HZC.out (by omega) l k vs rfl HOZ.out ⟨F5, 0, none⟩ 1 _ [.slice q5 sg.length d5] rfl rfl HR1.out (by simp [Value.oneCell']) (by unfold maxLen; omega) (by omega) (by have h5 := HBZ2.out.size; have h6 := HZ0.out; omega) ?_
          intro l3 Z9 hown9 hgrow hat
          obtain ⟨pl, cl, hl3⟩ := own_slice1 hown9
          subst hl3
          have hWs := HWs.out
          have HROW9 := hide (row_grown (HRowD.out.below HBZ2.out HRowD.out.lt) hgrow (fun k hk => (HOZ.out.lt k hk).1) (by omega))
          have HBW := hide (show Below W.heap.size Z0 Z9 from (HBZ2.out.mono (by have h6 := HZ0.out; omega)).grown hgrow (by have h5 := HBZ2.out.size; have h6 := HZ0.out; omega) (fun k hk => (HOZ.out.lt k hk).1))
          have HEl9 : Hid ((vs ++ ([.slice q5 sg.length d5] : List Value)).length = k + 1 ∧ ∃ A B : Nat → Nat, (∀ j (h1 : j < (vs ++ ([.slice q5 sg.length d5] : List Value)).length) (h2 : j < f.length), W.heap.size ≤ A j ∧ B j ≤ (Z9).heap.size ∧ (∀ g, (Value.slice pl (k + 1) cl).ownBlock = some g → B j ≤ g ∨ g < A j) ∧ OFld (A j) (B j) (Z9) (vs ++ ([.slice q5 sg.length d5] : List Value))[j] f[j]) ∧ ∀ i j, i < j → j < k + 1 → B i ≤ A j) := hide (by
            obtain ⟨hvl, A, B, hE, hD⟩ := HElD.out
            have hs1 := HBZ2.out.size
            have hs2 := hgrow.size
            have hZ0 := HZ0.out
            have hlo := HZL.out
            have hhi := HHI2.out
            refine ⟨by rw [List.length_append, hvl]; rfl, fun i => if i = k then LO else A i, fun i => if i = k then HI else B i, fun j h1 h2 => ?_, fun i j hij hj => ?_⟩
            · have h1' : j < k + 1 := by rw [List.length_append, hvl] at h1; exact h1
              dsimp only
              by_cases hj : j = k
              · subst hj
                rw [if_pos rfl, if_pos rfl, List.getElem_append_right (by rw [hvl]; exact Nat.le_refl _)]
                simp only [hvl, Nat.sub_self, List.getElem_cons_zero]
                refine ⟨by omega, by omega, fun g hg => ?_, ?_⟩
                · rcases hat with h | h
                  · rw [h] at hg
                    exact .inr (by have := (HOD.out.lt g hg).2; omega)
                  · rw [h] at hg
                    cases hg
                    exact .inl (by omega)
                · have e := Keeps.go (grown_in hgrow (fun g hg => .inr (by have := (HOD.out.lt g hg).2; omega))) HNW2.out
                  exact Eq.mp (congrArg (fun c => OFld LO HI Z9 (Value.slice q5 sg.length d5) c) HSG.out) e
              · have hjk : j < vs.length := by rw [hvl]; omega
                obtain ⟨f1, f2, f3, f4⟩ := hE j hjk h2
                rw [if_neg hj, if_neg hj, List.getElem_append_left hjk]
                refine ⟨f1, by omega, fun g hg => ?_, Keeps.go (grown_in hgrow f3) (Keeps.go (SameIn.ofBelow HBZ2.out) f4)⟩
                rcases hat with h | h
                · rw [h] at hg
                  exact f3 g hg
                · rw [h] at hg
                  cases hg
                  exact .inl (by omega)
            · have hik : i < vs.length := by rw [hvl]; omega
              obtain ⟨f1, f2, f3, f4⟩ := hE i hik (by omega)
              dsimp only
              by_cases hjk : j = k
              · rw [if_pos hjk, if_neg (by omega)]; omega
              · rw [if_neg hjk, if_neg (by omega)]; exact hD i j hij (by omega))
          have HO9 := hide hown9
          clear hown9 hgrow hat
          refine hK.out _ _ (HSS9.out _ HBW.out) (fun _ => ?_)
          clear hK K HS
          have HS := hide (HSS9.out _ HBW.out)
          simp only [Act.put, List.getElem_toArray, List.getElem_cons_zero, List.getElem_cons_succ, List.setIfInBounds_toArray, List.set_cons_zero, List.set_cons_succ]
          refine wpAnyH_take (i := 10) (oi := _) (v := .pointer (some ⟨w.heap.size + 2, 1, none⟩)) rfl (by kernel_rfl) (by kernel_rfl) (by kernel_rfl) (fun _ _ _ h => h) (Or.inl ⟨by rfl, by intro w hSw; go_split_ands; go_simp⟩) HS.out ?_
          simp only [Act.put, List.getElem_toArray, List.getElem_cons_zero, List.getElem_cons_succ, List.setIfInBounds_toArray, List.set_cons_zero, List.set_cons_succ]
          refine wpAnyH_ready (rs := [11]) (by kernel_rfl) (by simp) ?_
          refine AllReadyH.cons (o := _) rfl (fun K hK => ?_) AllReadyH.nil
          have c9 : Z9.cell? ⟨w.heap.size + 2, 1, none⟩ = some l := HROW9.out.cell 1
          have f9 := HROW9.out.free 1
          go_simp
          have HBZX := hide (HBZw.out.trans (HBW.out.mono (by omega : w.heap.size ≤ W.heap.size)))
          have HBX2 := hide (HBZX.out.setCell (p := ⟨w.heap.size + 2, 1, none⟩) (by show w.heap.size ≤ w.heap.size + 2; omega) (.slice pl (k + 1) cl))
          have HRO2 := hide (HROW9.out.set (j := 1) (.slice pl (k + 1) cl))
          have HR12 := hide ((HR1D.out.below HBW.out (by omega)).other (b := w.heap.size + 2) (j := 1) (by omega) (.slice pl (k + 1) cl))
          have HR22 := hide ((HR2D.out.below HBW.out (by omega)).other (b := w.heap.size + 2) (j := 1) (by omega) (.slice pl (k + 1) cl))
          have es : (Z9.setCell ⟨w.heap.size + 2, 1, none⟩ (.slice pl (k + 1) cl)).heap.size = Z9.heap.size := by simp [World.setCell]
          have HOY2 := hide (ownsRow_setCell_below HO9.out (a := ⟨w.heap.size + 2, 1, none⟩) (by show w.heap.size + 2 < W.heap.size; omega) (.slice pl (k + 1) cl))
          have HEY2 : Hid ((vs ++ ([.slice q5 sg.length d5] : List Value)).length = k + 1 ∧ ∃ A B : Nat → Nat, (∀ j (h1 : j < (vs ++ ([.slice q5 sg.length d5] : List Value)).length) (h2 : j < f.length), W.heap.size ≤ A j ∧ B j ≤ ((Z9.setCell ⟨w.heap.size + 2, 1, none⟩ (.slice pl (k + 1) cl))).heap.size ∧ (∀ g, (Value.slice pl (k + 1) cl).ownBlock = some g → B j ≤ g ∨ g < A j) ∧ OFld (A j) (B j) ((Z9.setCell ⟨w.heap.size + 2, 1, none⟩ (.slice pl (k + 1) cl))) (vs ++ ([.slice q5 sg.length d5] : List Value))[j] f[j]) ∧ ∀ i j, i < j → j < k + 1 → B i ≤ A j) := hide (by
            obtain ⟨hvl, A, B, hE, hD⟩ := HEl9.out
            refine ⟨hvl, A, B, fun j h1 h2 => ?_, hD⟩
            obtain ⟨f1, f2, f3, f4⟩ := hE j h1 h2
            exact ⟨f1, by rw [es]; exact f2, f3, Keeps.go (SameIn.set _ _ (by have := HWs.out; omega)) f4⟩)
          have HSY2 : Hid (W.heap.size ≤ (Z9.setCell ⟨w.heap.size + 2, 1, none⟩ (.slice pl (k + 1) cl)).heap.size) := hide (by rw [es]; have h5 := HBW.out.size; have h6 := HZ0.out; omega)
          have HSF : Hid ((fun y : World => y.cell? ⟨w.heap.size, 1, none⟩ = some (.slice (some ⟨g, off, none⟩) f.length cap) ∧ y.cell? ⟨g, off + k, none⟩ = some (.slice p3 sg.length c3)) (Z9.setCell ⟨w.heap.size + 2, 1, none⟩ (.slice pl (k + 1) cl))) := hide (HSP.out _ HBX2.out (HR12.out.cell 1))
          clear es
          refine hK.out _ _ HSF.out (fun _ => ?_)
          clear hK K HS HSF
          refine wpAnyH_done (by kernel_rfl) ?_ _
          go_wp2
          go_roundw
          case rel => exact ⟨_, k + 1, _, _, rfl, by omega, by go_num, HRO2, HOY2, HBX2, HR12, HR22, HSY2, HEY2⟩
          case measure => simp [intOf]; omega
    · have ek : k = f.length := by omega
      have HF := hide (ol_of_own (R := OFld) HOX.out ek HEX.out.1 HEX.out.2)
      obtain ⟨pl, cl, hpl⟩ := own_slice1 HOX.out
      subst hpl
      have hWs := HWs.out
      have c30 : X.cell? ⟨w.heap.size + 2, 0, none⟩ = some (.string n) := HRX.out.cell 0
      have c3 : X.cell? ⟨w.heap.size + 2, 1, none⟩ = some (.slice pl k cl) := HRX.out.cell 1
      have c20 : X.cell? ⟨w.heap.size + 1, 0, none⟩ = some (.string ⟨#[]⟩) := HR2X.out.cell 0
      have c2 : X.cell? ⟨w.heap.size + 1, 1, none⟩ = some (.slice none 0 0) := HR2X.out.cell 1
      have f20 := HR2X.out.free 0
      have f2 := HR2X.out.free 1
      have t2 := (HR2X.out.set (j := 0) (.string n)).set (j := 1) (.slice pl k cl)
      have q0 : ((X.setCell ⟨w.heap.size + 1, 0, none⟩ (.string n)).setCell ⟨w.heap.size + 1, 1, none⟩ (.slice pl k cl)).cell? ⟨w.heap.size + 1, 0, none⟩ = some (.string n) := t2.cell 0
      have q1 : ((X.setCell ⟨w.heap.size + 1, 0, none⟩ (.string n)).setCell ⟨w.heap.size + 1, 1, none⟩ (.slice pl k cl)).cell? ⟨w.heap.size + 1, 1, none⟩ = some (.slice pl k cl) := t2.cell 1
      have HBF := hide ((HBX.out.setCell (p := ⟨w.heap.size + 1, 0, none⟩) (by show w.heap.size ≤ w.heap.size + 1; omega) (.string n)).setCell (p := ⟨w.heap.size + 1, 1, none⟩) (by show w.heap.size ≤ w.heap.size + 1; omega) (.slice pl k cl))
      have es : ((X.setCell ⟨w.heap.size + 1, 0, none⟩ (.string n)).setCell ⟨w.heap.size + 1, 1, none⟩ (.slice pl k cl)).heap.size = X.heap.size := by simp [World.setCell]
      have HFF : Hid (OFlds w.heap.size ((X.setCell ⟨w.heap.size + 1, 0, none⟩ (.string n)).setCell ⟨w.heap.size + 1, 1, none⟩ (.slice pl k cl)).heap.size ((X.setCell ⟨w.heap.size + 1, 0, none⟩ (.string n)).setCell ⟨w.heap.size + 1, 1, none⟩ (.slice pl k cl)) (.slice pl k cl) f) := hide (by
        rw [es]
        exact Keeps.wide (by omega : w.heap.size ≤ W.heap.size) (Nat.le_refl _) (Keeps.go (SameIn.set _ _ (by omega)) (Keeps.go (SameIn.set X (.string n) (by omega)) HF.out)))
      have HK := hide ek
      clear ek es hWs HF t2
      go_wp2
      exact bodyPost_ret (v := .agg #[.string n, .slice pl k cl]) (by simp [results, Tryz.results86, go_sem, q0, q1]) rfl ⟨pl, cl, by rw [HK.out], by rw [← HK.out]; exact HFF.out, HBF.out⟩
set_option maxHeartbeats 16000000 in
set_option maxRecDepth 100000 in
theorem l05Copy_any (n : ByteArray) (u : Value) (f : List Seg) (w : World) (hn : wSegs f ≤ 1048576) (hr : RSegs 0 w u f) :
    Calls Tryz.prog 66 #[.agg #[.string n, u]] w fun e w' => ∃ p c, e = .returned (.agg #[.string n, .slice p f.length c]) ∧ OSegs w.heap.size w'.heap.size w' (.slice p f.length c) f ∧ Below w.heap.size w w' := by
  obtain ⟨j0, hj, hy0, hy1, hy2⟩ := info_parts Tryz.infoSegment
  have HZC := hide (show (Value.agg #[.string ⟨#[]⟩, .slice none 0 0]).cells.size = 2 from rfl)
  obtain ⟨hl, hm⟩ := wSegs_mem hn
  have HM := hide hm
  have HMN := hide (fun i (h : i < f.length) => (show f[i].1.size ≤ 1048576 by
    have := wL_mem wSeg (List.getElem_mem h)
    have h2 : wSegs f = wL wSeg f := rfl
    have h3 : wSeg f[i] = f[i].1.size + wFlds f[i].2 := rfl
    omega))
  clear hn hm
  obtain ⟨p, cap, rfl, h1, h2, h4⟩ := hr
  have H4 := hide h4
  clear h4
  unfold maxLen at h2
  obtain ⟨W, hW⟩ : ∃ W, W = ((w.alloc (.cells #[.string n, .slice p f.length cap] 53)).alloc (.cells #[.string ⟨#[]⟩, .slice none 0 0] 53)).alloc (.cells #[.string n, .slice none 0 0] 53) := ⟨_, rfl⟩
  have HBW := hide (show Below w.heap.size w W by rw [hW]; exact (((Below.refl _ _).alloc (Nat.le_refl _) _).alloc (by simp) _).alloc (by simp; omega) _)
  have HWs := hide (show W.heap.size = w.heap.size + 3 by rw [hW]; simp)
  have HR1 := hide (show Row W w.heap.size 53 [.string n, .slice p f.length cap] by rw [hW]; exact ((row_new w [.string n, .slice p f.length cap] 53).alloc _).alloc _)
  have HR2 := hide (show Row W (w.heap.size + 1) 53 [.string ⟨#[]⟩, .slice none 0 0] by
    rw [hW]
    have := (row_new (w.alloc (.cells #[.string n, .slice p f.length cap] 53)) [.string ⟨#[]⟩, .slice none 0 0] 53).alloc (.cells #[.string n, .slice none 0 0] 53)
    simpa using this)
  have HR3 := hide (show Row W (w.heap.size + 2) 53 [.string n, .slice none 0 0] by
    rw [hW]
    have := row_new ((w.alloc (.cells #[.string n, .slice p f.length cap] 53)).alloc (.cells #[.string ⟨#[]⟩, .slice none 0 0] 53)) [.string n, .slice none 0 0] 53
    simpa using this)
  have HO := hide (World.ownsRow_nil W W.heap.size 85 2)
  go_enter Tryz.func66, Tryz.ntmps66
  go_wp2_with fail
  rw [← hW]
  clear hW
  go_loopw [4] (fun i wr => ∃ (X : World) (k : Nat) (l : Value) (vs : List Value), X = wr ∧ k ≤ f.length ∧ i = .int .i64 (k : Int) ∧ Hid (Row X (w.heap.size + 2) 53 [.string n, l]) ∧ Hid (X.ownsRow W.heap.size 85 2 l k vs) ∧ Hid (Below w.heap.size w X) ∧ Hid (Row X w.heap.size 53 [.string n, .slice p f.length cap]) ∧ Hid (Row X (w.heap.size + 1) 53 [.string ⟨#[]⟩, .slice none 0 0]) ∧ Hid (W.heap.size ≤ X.heap.size) ∧ Hid (∃ A B : Nat → Nat, (∀ j (h2 : j < f.length), j < k → (vs)[j * 2]? = some (.string f[j].1) ∧ f[j].1.size ≤ maxLen ∧ W.heap.size ≤ A j ∧ B j ≤ (X).heap.size ∧ (∀ g, (l).ownBlock = some g → B j ≤ g ∨ g < A j) ∧ ∃ u, (vs)[j * 2 + 1]? = some u ∧ OFlds (A j) (B j) (X) u f[j].2) ∧ ∀ i j, i < j → j < k → B i ≤ A j)) (fun i _ => f.length - (intOf i).toNat)
  case atStart => exact ⟨_, 0, _, [], rfl, Nat.zero_le _, rfl, HR3, HO, HBW, HR1, HR2, hide (Nat.le_refl _), hide ⟨fun _ => 0, fun _ => 0, fun j _ h1 => absurd h1 (by omega), fun i j _ h => absurd h (by omega)⟩⟩
  case round =>
    obtain ⟨X, k, l, vs, rfl, hkk, rfl, HRX, HOX, HBX, HR1X, HR2X, HSX, HEX⟩ := hrel
    have d1 : X.cell? ⟨w.heap.size, 1, none⟩ = some (.slice p f.length cap) := HR1X.out.cell 1
    by_cases hlt : k < f.length
    · obtain ⟨g, off, hp, hg, _, hc⟩ := H4.out (by omega)
      subst hp
      obtain ⟨ha, _, u1, hu1, hru1⟩ := hc k hlt
      have HXM := hide (HM.out k hlt).1
      have HXN := hide (HMN.out k hlt)
      have hu0 := hide ha
      clear ha
      have hki : (k : Int) < (f.length : Int) := by omega
      obtain ⟨sg, hsg⟩ : ∃ sg, sg = f[k]'hlt := ⟨_, rfl⟩
      rw [← hsg] at hru1 HXM HXN hu0
      have HSG := hide hsg
      clear hsg hc
      obtain ⟨p3, c3, rfl⟩ := hru1.isSlice
      have hru := hide hru1
      have hu1 := hide hu1
      clear hru1
      go_wp2_with fail
      refine wp_region_held (S := (fun y : World => y.cell? ⟨w.heap.size, 1, none⟩ = some (.slice (some ⟨g, off, none⟩) f.length cap) ∧ y.cell? ⟨g, off + k * 2, none⟩ = some (.string sg.1) ∧ y.cell? ⟨g, off + k * 2 + 1, none⟩ = some (.slice p3 sg.2.length c3))) (by kernel_rfl) ?_
      have hbd : Below X.heap.size X { X with drawn := X.drawn + 1 } := (Below.refl _ _).drew
      obtain ⟨Z0, hZ0⟩ : ∃ Z0 : World, Z0 = { X with drawn := X.drawn + 1 } := ⟨_, rfl⟩
      rw [← hZ0] at hbd ⊢
      have hz0s : Z0.heap.size = X.heap.size := by rw [hZ0]
      clear hZ0
      have HRowD := hide (HRX.out.below hbd HRX.out.lt)
      have HR1D := hide (HR1X.out.below hbd HR1X.out.lt)
      have HR2D := hide (HR2X.out.below hbd HR2X.out.lt)
      have HOD := hide (own_below HOX.out hbd)
      have HElD : Hid (∃ A B : Nat → Nat, (∀ j (h2 : j < f.length), j < k → (vs)[j * 2]? = some (.string f[j].1) ∧ f[j].1.size ≤ maxLen ∧ W.heap.size ≤ A j ∧ B j ≤ (Z0).heap.size ∧ (∀ g, (l).ownBlock = some g → B j ≤ g ∨ g < A j) ∧ ∃ u, (vs)[j * 2 + 1]? = some u ∧ OFlds (A j) (B j) (Z0) u f[j].2) ∧ ∀ i j, i < j → j < k → B i ≤ A j) := hide (by
        obtain ⟨A, B, hE, hD⟩ := HEX.out
        refine ⟨A, B, fun j h2 h3 => ?_, hD⟩
        obtain ⟨f1, f2, f3, f4, f5, u, f6, f7⟩ := hE j h2 h3
        exact ⟨f1, f2, f3, by rw [hz0s]; exact f4, f5, u, f6, Keeps.go (SameIn.ofBelow hbd) f7⟩)
      have HZ0 := hide (show W.heap.size ≤ Z0.heap.size by rw [hz0s]; exact HSX.out)
      have HBZw := hide (HBX.out.trans (hbd.mono HBX.out.size))
      have HSP := hide (show ∀ y, Below w.heap.size w y → y.cell? ⟨w.heap.size, 1, none⟩ = some (.slice (some ⟨g, off, none⟩) f.length cap) → (fun y : World => y.cell? ⟨w.heap.size, 1, none⟩ = some (.slice (some ⟨g, off, none⟩) f.length cap) ∧ y.cell? ⟨g, off + k * 2, none⟩ = some (.string sg.1) ∧ y.cell? ⟨g, off + k * 2 + 1, none⟩ = some (.slice p3 sg.2.length c3)) y from fun y hb h1 => ⟨h1, (hb.cell (p := ⟨g, off + k * 2, none⟩) hg).trans hu0.out, (hb.cell (p := ⟨g, off + k * 2 + 1, none⟩) hg).trans hu1.out⟩)
      have HSS9 := hide (fun (y : World) (h : Below W.heap.size Z0 y) => HSP.out y (HBZw.out.trans (h.mono (by have := HWs.out; omega))) ((HR1D.out.below h (by have := HWs.out; omega)).cell 1))
      have HSS := hide (fun (y : World) (h : Below Z0.heap.size Z0 y) => HSS9.out y (h.mono HZ0.out))
      have HRC := hide (fun (y : World) (h : Below Z0.heap.size Z0 y) => (show RFlds 0 y (.slice p3 sg.2.length c3) sg.2 from RL.below hru.out (HBZw.out.trans (h.mono HBZw.out.size))))
      have HBZ0 := hide (Below.refl Z0.heap.size Z0)
      have HS := hide (HSS.out Z0 HBZ0.out)
      clear hbd hz0s HRX HR1X HR2X HOX HEX HSX HBX d1
      refine wpAnyH_take (i := 0) (oi := _) (v := .pointer (some ⟨w.heap.size + 2, 1, none⟩)) rfl (by kernel_rfl) (by kernel_rfl) (by kernel_rfl) (fun _ _ _ h => h) (Or.inl ⟨by rfl, by intro w hSw; go_split_ands; go_simp⟩) HS.out ?_
      simp only [Act.put, List.getElem_toArray, List.getElem_cons_zero, List.setIfInBounds_toArray, List.set_cons_zero, List.set_cons_succ]
      refine wpAnyH_take (i := 2) (oi := _) (v := .pointer (some ⟨w.heap.size, 1, none⟩)) rfl (by kernel_rfl) (by kernel_rfl) (by kernel_rfl) (fun _ _ _ h => h) (Or.inl ⟨by rfl, by intro w hSw; go_split_ands; go_simp⟩) HS.out ?_
      simp only [Act.put, List.getElem_toArray, List.getElem_cons_zero, List.getElem_cons_succ, List.setIfInBounds_toArray, List.set_cons_zero, List.set_cons_succ]
      refine wpAnyH_take (i := 3) (oi := _) (v := .slice (some ⟨g, off, none⟩) f.length cap) rfl (by kernel_rfl) (by kernel_rfl) (by kernel_rfl) (fun _ _ _ h => h) (Or.inl ⟨by rfl, by intro w hSw; go_split_ands; go_simp⟩) HS.out ?_
      simp only [Act.put, List.getElem_toArray, List.getElem_cons_zero, List.getElem_cons_succ, List.setIfInBounds_toArray, List.set_cons_zero, List.set_cons_succ]
      refine wpAnyH_take (i := 4) (oi := _) (v := .int .i64 (k : Int)) rfl (by kernel_rfl) (by kernel_rfl) (by kernel_rfl) (fun _ _ _ h => h) (Or.inl ⟨by rfl, by intro w hSw; go_split_ands; go_simp⟩) HS.out ?_
      simp only [Act.put, List.getElem_toArray, List.getElem_cons_zero, List.getElem_cons_succ, List.setIfInBounds_toArray, List.set_cons_zero, List.set_cons_succ]
      refine wpAnyH_take (i := 5) (oi := _) (v := .pointer (some ⟨g, off + k * 2, none⟩)) rfl (by kernel_rfl) (by kernel_rfl) (by kernel_rfl) (fun _ _ _ h => h) (Or.inl ⟨by rfl, by intro w hSw; go_split_ands; go_simp⟩) HS.out ?_
      simp only [Act.put, List.getElem_toArray, List.getElem_cons_zero, List.getElem_cons_succ, List.setIfInBounds_toArray, List.set_cons_zero, List.set_cons_succ]
      refine wpAnyH_take (i := 6) (oi := _) (v := .agg #[.string sg.1, .slice p3 sg.2.length c3]) rfl (by kernel_rfl) (by kernel_rfl) (by kernel_rfl) (fun _ _ _ h => h) (Or.inl ⟨by rfl, by intro w hSw; go_split_ands; go_simp⟩) HS.out ?_
      simp only [Act.put, List.getElem_toArray, List.getElem_cons_zero, List.getElem_cons_succ, List.setIfInBounds_toArray, List.set_cons_zero, List.set_cons_succ]
      refine wpAnyH_ready (rs := [1, 7]) (by kernel_rfl) (by simp) ?_
      refine AllReadyH.cons (o := _) rfl (fun K hK => ?_) (AllReadyH.cons (o := _) rfl (fun K hK => ?_) AllReadyH.nil)
      · have c5 : Z0.cell? ⟨w.heap.size + 2, 1, none⟩ = some l := (HRowD.out.below HBZ0.out HRowD.out.lt).cell 1
        go_simp
        refine hK.out _ _ HS.out (fun _ => ?_)
        clear hK K c5
        refine wpAnyH_ready (rs := [7]) (by kernel_rfl) (by simp) ?_
        refine AllReadyH.cons (o := _) rfl (fun K hK => ?_) AllReadyH.nil
        go_simp
        refine (l05CopySegment_any sg.1 _ sg.2 _ HXM.out (HRC.out _ HBZ0.out)).mono ?_
        rintro e Z1 ⟨q5, d5, rfl, ho5, hb5⟩
        have HBZ1 := hide (HBZ0.out.trans (hb5.mono HBZ0.out.size))
        have HNW := hide ho5
        obtain ⟨LO, hLO⟩ : ∃ LO, LO = Z0.heap.size := ⟨_, rfl⟩
        rw [← hLO] at HNW
        have HZL := hide (show Z0.heap.size ≤ LO by rw [hLO]; exact HBZ0.out.size)
        obtain ⟨HI, hHI⟩ : ∃ HI, HI = Z1.heap.size := ⟨_, rfl⟩
        rw [← hHI] at HNW
        have HHI := hide (show HI ≤ Z1.heap.size from Nat.le_of_eq hHI)
        clear ho5 hb5 hLO hHI
        refine hK.out _ _ (HSS.out _ HBZ1.out) (fun _ => ?_)
        clear hK K HS
        have HS := hide (HSS.out _ HBZ1.out)
        refine wpAnyH_ready (rs := [8]) (by kernel_rfl) (by simp) ?_
        refine AllReadyH.cons (o := _) rfl (fun K hK => ?_) AllReadyH.nil
        go_simp
        have HBZ2 := hide (HBZ1.out.alloc HBZ1.out.size (.cells #[.string sg.1, .slice q5 sg.2.length d5] 85))
        refine hK.out _ _ (HSS.out _ HBZ2.out) (fun _ => ?_)
        clear hK K HS
        have HNW2 := hide (Keeps.go (SameIn.ofBelow ((Below.refl Z1.heap.size Z1).alloc (Nat.le_refl _) (.cells #[.string sg.1, .slice q5 sg.2.length d5] 85))) HNW.out)
        have HR1 : Hid (∀ j u, ([.string sg.1, .slice q5 sg.2.length d5] : List Value)[j]? = some u → (Z1.alloc (.cells #[.string sg.1, .slice q5 sg.2.length d5] 85)).cell? ((⟨Z1.heap.size, 0, none⟩ : Addr).add j) = some u) := hide (row_cellsM (row_new Z1 [.string sg.1, .slice q5 sg.2.length d5] 85))
        have HHI2 : Hid (HI ≤ (Z1.alloc (.cells #[.string sg.1, .slice q5 sg.2.length d5] 85)).heap.size) := hide (by have := HHI.out; simp; omega)
        generalize hZ : Z1.alloc (.cells #[.string sg.1, .slice q5 sg.2.length d5] 85) = Z2 at HBZ2 HNW2 HR1 HHI2 ⊢
        generalize Z1.heap.size = F5 at HR1 ⊢
        clear hZ HNW
        have HS := hide (HSS.out _ HBZ2.out)
        have HOZ := hide (own_below HOD.out HBZ2.out)
        refine wpAnyH_ready (rs := [9]) (by kernel_rfl) (by simp) ?_
        refine AllReadyH.cons (o := _) rfl (fun K hK => ?_) AllReadyH.nil
        refine step_own (w := Z2) rfl (.tmp 16) (.tmp 23) 51 rfl W.heap.size 85 j0 _ 2 40 Tryz.underlying51 hj hy0 hy1 hy2 HZC.out (by omega) l k vs rfl HOZ.out ⟨F5, 0, none⟩ 1 _ [.string sg.1, .slice q5 sg.2.length d5] rfl rfl HR1.out (by simp [Value.oneCell']) (by unfold maxLen; omega) (by omega) (by have h5 := HBZ2.out.size; have h6 := HZ0.out; omega) ?_
        intro l3 Z9 hown9 hgrow hat
        obtain ⟨pl, cl, hl3⟩ := own_slice1 hown9
        subst hl3
        have hWs := HWs.out
        have HROW9 := hide (row_grown (HRowD.out.below HBZ2.out HRowD.out.lt) hgrow (fun k hk => (HOZ.out.lt k hk).1) (by omega))
        have HBW := hide (show Below W.heap.size Z0 Z9 from (HBZ2.out.mono (by have h6 := HZ0.out; omega)).grown hgrow (by have h5 := HBZ2.out.size; have h6 := HZ0.out; omega) (fun k hk => (HOZ.out.lt k hk).1))
        have HEl9 : Hid (∃ A B : Nat → Nat, (∀ j (h2 : j < f.length), j < k + 1 → (vs ++ ([.string sg.1, .slice q5 sg.2.length d5] : List Value))[j * 2]? = some (.string f[j].1) ∧ f[j].1.size ≤ maxLen ∧ W.heap.size ≤ A j ∧ B j ≤ (Z9).heap.size ∧ (∀ g, (Value.slice pl (k + 1) cl).ownBlock = some g → B j ≤ g ∨ g < A j) ∧ ∃ u, (vs ++ ([.string sg.1, .slice q5 sg.2.length d5] : List Value))[j * 2 + 1]? = some u ∧ OFlds (A j) (B j) (Z9) u f[j].2) ∧ ∀ i j, i < j → j < k + 1 → B i ≤ A j) := hide (by
          obtain ⟨A, B, hE, hD⟩ := HElD.out
          have hcl := HOD.out.1
          have hs1 := HBZ2.out.size
          have hs2 := hgrow.size
          have hZ0 := HZ0.out
          have hlo := HZL.out
          have hhi := HHI2.out
          refine ⟨fun i => if i = k then LO else A i, fun i => if i = k then HI else B i, fun j h2 h3 => ?_, fun i j hij hj => ?_⟩
          · dsimp only
            by_cases hj : j = k
            · subst hj
              rw [if_pos rfl, if_pos rfl, ← HSG.out]
              refine ⟨?_, by have := HXN.out; unfold maxLen; omega, by omega, by omega, fun g hg => ?_, .slice q5 sg.2.length d5, ?_, ?_⟩
              · rw [List.getElem?_append_right (by omega)]
                have e : j * 2 - vs.length = 0 := by omega
                rw [e]; rfl
              · rcases hat with h | h
                · rw [h] at hg
                  exact .inr (by have := (HOD.out.lt g hg).2; omega)
                · rw [h] at hg
                  cases hg
                  exact .inl (by omega)
              · rw [List.getElem?_append_right (by omega)]
                have e : j * 2 + 1 - vs.length = 1 := by omega
                rw [e]; rfl
              · exact Keeps.go (grown_in hgrow (fun g hg => .inr (by have := (HOD.out.lt g hg).2; omega))) HNW2.out
            · obtain ⟨f1, f2, f3, f4, f5, u, f6, f7⟩ := hE j h2 (by omega)
              rw [if_neg hj, if_neg hj]
              refine ⟨?_, f2, f3, by omega, fun g hg => ?_, u, ?_, Keeps.go (grown_in hgrow f5) (Keeps.go (SameIn.ofBelow HBZ2.out) f7)⟩
              · rw [List.getElem?_append_left (by omega)]; exact f1
              · rcases hat with h | h
                · rw [h] at hg
                  exact f5 g hg
                · rw [h] at hg
                  cases hg
                  exact .inl (by omega)
              · rw [List.getElem?_append_left (by omega)]; exact f6
          · obtain ⟨f1, f2, f3, f4, f5, u, f6, f7⟩ := hE i (by omega) (by omega)
            dsimp only
            by_cases hjk : j = k
            · rw [if_pos hjk, if_neg (by omega)]; omega
            · rw [if_neg hjk, if_neg (by omega)]; exact hD i j hij (by omega))
        have HO9 := hide hown9
        clear hown9 hgrow hat
        refine hK.out _ _ (HSS9.out _ HBW.out) (fun _ => ?_)
        clear hK K HS
        have HS := hide (HSS9.out _ HBW.out)
        simp only [Act.put, List.getElem_toArray, List.getElem_cons_zero, List.getElem_cons_succ, List.setIfInBounds_toArray, List.set_cons_zero, List.set_cons_succ]
        refine wpAnyH_take (i := 10) (oi := _) (v := .pointer (some ⟨w.heap.size + 2, 1, none⟩)) rfl (by kernel_rfl) (by kernel_rfl) (by kernel_rfl) (fun _ _ _ h => h) (Or.inl ⟨by rfl, by intro w hSw; go_split_ands; go_simp⟩) HS.out ?_
        simp only [Act.put, List.getElem_toArray, List.getElem_cons_zero, List.getElem_cons_succ, List.setIfInBounds_toArray, List.set_cons_zero, List.set_cons_succ]
        refine wpAnyH_ready (rs := [11]) (by kernel_rfl) (by simp) ?_
        refine AllReadyH.cons (o := _) rfl (fun K hK => ?_) AllReadyH.nil
        have c9 : Z9.cell? ⟨w.heap.size + 2, 1, none⟩ = some l := HROW9.out.cell 1
        have f9 := HROW9.out.free 1
        go_simp
        have HBZX := hide (HBZw.out.trans (HBW.out.mono (by omega : w.heap.size ≤ W.heap.size)))
        have HBX2 := hide (HBZX.out.setCell (p := ⟨w.heap.size + 2, 1, none⟩) (by show w.heap.size ≤ w.heap.size + 2; omega) (.slice pl (k + 1) cl))
        have HRO2 := hide (HROW9.out.set (j := 1) (.slice pl (k + 1) cl))
        have HR12 := hide ((HR1D.out.below HBW.out (by omega)).other (b := w.heap.size + 2) (j := 1) (by omega) (.slice pl (k + 1) cl))
        have HR22 := hide ((HR2D.out.below HBW.out (by omega)).other (b := w.heap.size + 2) (j := 1) (by omega) (.slice pl (k + 1) cl))
        have es : (Z9.setCell ⟨w.heap.size + 2, 1, none⟩ (.slice pl (k + 1) cl)).heap.size = Z9.heap.size := by simp [World.setCell]
        have HOY2 := hide (ownsRow_setCell_below HO9.out (a := ⟨w.heap.size + 2, 1, none⟩) (by show w.heap.size + 2 < W.heap.size; omega) (.slice pl (k + 1) cl))
        have HEY2 : Hid (∃ A B : Nat → Nat, (∀ j (h2 : j < f.length), j < k + 1 → (vs ++ ([.string sg.1, .slice q5 sg.2.length d5] : List Value))[j * 2]? = some (.string f[j].1) ∧ f[j].1.size ≤ maxLen ∧ W.heap.size ≤ A j ∧ B j ≤ ((Z9.setCell ⟨w.heap.size + 2, 1, none⟩ (.slice pl (k + 1) cl))).heap.size ∧ (∀ g, (Value.slice pl (k + 1) cl).ownBlock = some g → B j ≤ g ∨ g < A j) ∧ ∃ u, (vs ++ ([.string sg.1, .slice q5 sg.2.length d5] : List Value))[j * 2 + 1]? = some u ∧ OFlds (A j) (B j) ((Z9.setCell ⟨w.heap.size + 2, 1, none⟩ (.slice pl (k + 1) cl))) u f[j].2) ∧ ∀ i j, i < j → j < k + 1 → B i ≤ A j) := hide (by
          obtain ⟨A, B, hE, hD⟩ := HEl9.out
          refine ⟨A, B, fun j h2 h3 => ?_, hD⟩
          obtain ⟨f1, f2, f3, f4, f5, u, f6, f7⟩ := hE j h2 h3
          exact ⟨f1, f2, f3, by rw [es]; exact f4, f5, u, f6, Keeps.go (SameIn.set _ _ (by have := HWs.out; omega)) f7⟩)
        have HSY2 : Hid (W.heap.size ≤ (Z9.setCell ⟨w.heap.size + 2, 1, none⟩ (.slice pl (k + 1) cl)).heap.size) := hide (by rw [es]; have h5 := HBW.out.size; have h6 := HZ0.out; omega)
        have HSF : Hid ((fun y : World => y.cell? ⟨w.heap.size, 1, none⟩ = some (.slice (some ⟨g, off, none⟩) f.length cap) ∧ y.cell? ⟨g, off + k * 2, none⟩ = some (.string sg.1) ∧ y.cell? ⟨g, off + k * 2 + 1, none⟩ = some (.slice p3 sg.2.length c3)) (Z9.setCell ⟨w.heap.size + 2, 1, none⟩ (.slice pl (k + 1) cl))) := hide (HSP.out _ HBX2.out (HR12.out.cell 1))
        clear es
        refine hK.out _ _ HSF.out (fun _ => ?_)
        clear hK K HS HSF
        refine wpAnyH_done (by kernel_rfl) ?_ _
        go_wp2
        go_roundw
        case rel => exact ⟨_, k + 1, _, _, rfl, by omega, by go_num, HRO2, HOY2, HBX2, HR12, HR22, HSY2, HEY2⟩
        case measure => simp [intOf]; omega
      · go_simp
        refine (l05CopySegment_any sg.1 _ sg.2 _ HXM.out (HRC.out _ HBZ0.out)).mono ?_
        rintro e Z1 ⟨q5, d5, rfl, ho5, hb5⟩
        have HBZ1 := hide (HBZ0.out.trans (hb5.mono HBZ0.out.size))
        have HNW := hide ho5
        obtain ⟨LO, hLO⟩ : ∃ LO, LO = Z0.heap.size := ⟨_, rfl⟩
        rw [← hLO] at HNW
        have HZL := hide (show Z0.heap.size ≤ LO by rw [hLO]; exact HBZ0.out.size)
        obtain ⟨HI, hHI⟩ : ∃ HI, HI = Z1.heap.size := ⟨_, rfl⟩
        rw [← hHI] at HNW
        have HHI := hide (show HI ≤ Z1.heap.size from Nat.le_of_eq hHI)
        clear ho5 hb5 hLO hHI
        refine hK.out _ _ (HSS.out _ HBZ1.out) (fun _ => ?_)
        clear hK K HS
        have HS := hide (HSS.out _ HBZ1.out)
        refine wpAnyH_ready (rs := [1, 8]) (by kernel_rfl) (by simp) ?_
        refine AllReadyH.cons (o := _) rfl (fun K hK => ?_) (AllReadyH.cons (o := _) rfl (fun K hK => ?_) AllReadyH.nil)
        · have c5 : Z1.cell? ⟨w.heap.size + 2, 1, none⟩ = some l := (HRowD.out.below HBZ1.out HRowD.out.lt).cell 1
          go_simp
          refine hK.out _ _ HS.out (fun _ => ?_)
          clear hK K c5
          refine wpAnyH_ready (rs := [8]) (by kernel_rfl) (by simp) ?_
          refine AllReadyH.cons (o := _) rfl (fun K hK => ?_) AllReadyH.nil
          go_simp
          have HBZ2 := hide (HBZ1.out.alloc HBZ1.out.size (.cells #[.string sg.1, .slice q5 sg.2.length d5] 85))
          refine hK.out _ _ (HSS.out _ HBZ2.out) (fun _ => ?_)
          clear hK K HS
          have HNW2 := hide (Keeps.go (SameIn.ofBelow ((Below.refl Z1.heap.size Z1).alloc (Nat.le_refl _) (.cells #[.string sg.1, .slice q5 sg.2.length d5] 85))) HNW.out)
          have HR1 : Hid (∀ j u, ([.string sg.1, .slice q5 sg.2.length d5] : List Value)[j]? = some u → (Z1.alloc (.cells #[.string sg.1, .slice q5 sg.2.length d5] 85)).cell? ((⟨Z1.heap.size, 0, none⟩ : Addr).add j) = some u) := hide (row_cellsM (row_new Z1 [.string sg.1, .slice q5 sg.2.length d5] 85))
          have HHI2 : Hid (HI ≤ (Z1.alloc (.cells #[.string sg.1, .slice q5 sg.2.length d5] 85)).heap.size) := hide (by have := HHI.out; simp; omega)
          generalize hZ : Z1.alloc (.cells #[.string sg.1, .slice q5 sg.2.length d5] 85) = Z2 at HBZ2 HNW2 HR1 HHI2 ⊢
          generalize Z1.heap.size = F5 at HR1 ⊢
          clear hZ HNW
          have HS := hide (HSS.out _ HBZ2.out)
          have HOZ := hide (own_below HOD.out HBZ2.out)
          refine wpAnyH_ready (rs := [9]) (by kernel_rfl) (by simp) ?_
          refine AllReadyH.cons (o := _) rfl (fun K hK => ?_) AllReadyH.nil
          refine step_own (w := Z2) rfl (.tmp 16) (.tmp 23) 51 rfl W.heap.size 85 j0 _ 2 40 Tryz.underlying51 hj hy0 hy1 hy2 HZC.out (by omega) l k vs rfl HOZ.out ⟨F5, 0, none⟩ 1 _ [.string sg.1, .slice q5 sg.2.length d5] rfl rfl HR1.out (by simp [Value.oneCell']) (by unfold maxLen; omega) (by omega) (by have h5 := HBZ2.out.size; have h6 := HZ0.out; omega) ?_
          intro l3 Z9 hown9 hgrow hat
          obtain ⟨pl, cl, hl3⟩ := own_slice1 hown9
          subst hl3
          have hWs := HWs.out
          have HROW9 := hide (row_grown (HRowD.out.below HBZ2.out HRowD.out.lt) hgrow (fun k hk => (HOZ.out.lt k hk).1) (by omega))
          have HBW := hide (show Below W.heap.size Z0 Z9 from (HBZ2.out.mono (by have h6 := HZ0.out; omega)).grown hgrow (by have h5 := HBZ2.out.size; have h6 := HZ0.out; omega) (fun k hk => (HOZ.out.lt k hk).1))
          have HEl9 : Hid (∃ A B : Nat → Nat, (∀ j (h2 : j < f.length), j < k + 1 → (vs ++ ([.string sg.1, .slice q5 sg.2.length d5] : List Value))[j * 2]? = some (.string f[j].1) ∧ f[j].1.size ≤ maxLen ∧ W.heap.size ≤ A j ∧ B j ≤ (Z9).heap.size ∧ (∀ g, (Value.slice pl (k + 1) cl).ownBlock = some g → B j ≤ g ∨ g < A j) ∧ ∃ u, (vs ++ ([.string sg.1, .slice q5 sg.2.length d5] : List Value))[j * 2 + 1]? = some u ∧ OFlds (A j) (B j) (Z9) u f[j].2) ∧ ∀ i j, i < j → j < k + 1 → B i ≤ A j) := hide (by
            obtain ⟨A, B, hE, hD⟩ := HElD.out
            have hcl := HOD.out.1
            have hs1 := HBZ2.out.size
            have hs2 := hgrow.size
            have hZ0 := HZ0.out
            have hlo := HZL.out
            have hhi := HHI2.out
            refine ⟨fun i => if i = k then LO else A i, fun i => if i = k then HI else B i, fun j h2 h3 => ?_, fun i j hij hj => ?_⟩
            · dsimp only
              by_cases hj : j = k
              · subst hj
                rw [if_pos rfl, if_pos rfl, ← HSG.out]
                refine ⟨?_, by have := HXN.out; unfold maxLen; omega, by omega, by omega, fun g hg => ?_, .slice q5 sg.2.length d5, ?_, ?_⟩
                · rw [List.getElem?_append_right (by omega)]
                  have e : j * 2 - vs.length = 0 := by omega
                  rw [e]; rfl
                · rcases hat with h | h
                  · rw [h] at hg
                    exact .inr (by have := (HOD.out.lt g hg).2; omega)
                  · rw [h] at hg
                    cases hg
                    exact .inl (by omega)
                · rw [List.getElem?_append_right (by omega)]
                  have e : j * 2 + 1 - vs.length = 1 := by omega
                  rw [e]; rfl
                · exact Keeps.go (grown_in hgrow (fun g hg => .inr (by have := (HOD.out.lt g hg).2; omega))) HNW2.out
              · obtain ⟨f1, f2, f3, f4, f5, u, f6, f7⟩ := hE j h2 (by omega)
                rw [if_neg hj, if_neg hj]
                refine ⟨?_, f2, f3, by omega, fun g hg => ?_, u, ?_, Keeps.go (grown_in hgrow f5) (Keeps.go (SameIn.ofBelow HBZ2.out) f7)⟩
                · rw [List.getElem?_append_left (by omega)]; exact f1
                · rcases hat with h | h
                  · rw [h] at hg
                    exact f5 g hg
                  · rw [h] at hg
                    cases hg
                    exact .inl (by omega)
                · rw [List.getElem?_append_left (by omega)]; exact f6
            · obtain ⟨f1, f2, f3, f4, f5, u, f6, f7⟩ := hE i (by omega) (by omega)
              dsimp only
              by_cases hjk : j = k
              · rw [if_pos hjk, if_neg (by omega)]; omega
              · rw [if_neg hjk, if_neg (by omega)]; exact hD i j hij (by omega))
          have HO9 := hide hown9
          clear hown9 hgrow hat
          refine hK.out _ _ (HSS9.out _ HBW.out) (fun _ => ?_)
          clear hK K HS
          have HS := hide (HSS9.out _ HBW.out)
          simp only [Act.put, List.getElem_toArray, List.getElem_cons_zero, List.getElem_cons_succ, List.setIfInBounds_toArray, List.set_cons_zero, List.set_cons_succ]
          refine wpAnyH_take (i := 10) (oi := _) (v := .pointer (some ⟨w.heap.size + 2, 1, none⟩)) rfl (by kernel_rfl) (by kernel_rfl) (by kernel_rfl) (fun _ _ _ h => h) (Or.inl ⟨by rfl, by intro w hSw; go_split_ands; go_simp⟩) HS.out ?_
          simp only [Act.put, List.getElem_toArray, List.getElem_cons_zero, List.getElem_cons_succ, List.setIfInBounds_toArray, List.set_cons_zero, List.set_cons_succ]
          refine wpAnyH_ready (rs := [11]) (by kernel_rfl) (by simp) ?_
          refine AllReadyH.cons (o := _) rfl (fun K hK => ?_) AllReadyH.nil
          have c9 : Z9.cell? ⟨w.heap.size + 2, 1, none⟩ = some l := HROW9.out.cell 1
          have f9 := HROW9.out.free 1
          go_simp
          have HBZX := hide (HBZw.out.trans (HBW.out.mono (by omega : w.heap.size ≤ W.heap.size)))
          have HBX2 := hide (HBZX.out.setCell (p := ⟨w.heap.size + 2, 1, none⟩) (by show w.heap.size ≤ w.heap.size + 2; omega) (.slice pl (k + 1) cl))
          have HRO2 := hide (HROW9.out.set (j := 1) (.slice pl (k + 1) cl))
          have HR12 := hide ((HR1D.out.below HBW.out (by omega)).other (b := w.heap.size + 2) (j := 1) (by omega) (.slice pl (k + 1) cl))
          have HR22 := hide ((HR2D.out.below HBW.out (by omega)).other (b := w.heap.size + 2) (j := 1) (by omega) (.slice pl (k + 1) cl))
          have es : (Z9.setCell ⟨w.heap.size + 2, 1, none⟩ (.slice pl (k + 1) cl)).heap.size = Z9.heap.size := by simp [World.setCell]
          have HOY2 := hide (ownsRow_setCell_below HO9.out (a := ⟨w.heap.size + 2, 1, none⟩) (by show w.heap.size + 2 < W.heap.size; omega) (.slice pl (k + 1) cl))
          have HEY2 : Hid (∃ A B : Nat → Nat, (∀ j (h2 : j < f.length), j < k + 1 → (vs ++ ([.string sg.1, .slice q5 sg.2.length d5] : List Value))[j * 2]? = some (.string f[j].1) ∧ f[j].1.size ≤ maxLen ∧ W.heap.size ≤ A j ∧ B j ≤ ((Z9.setCell ⟨w.heap.size + 2, 1, none⟩ (.slice pl (k + 1) cl))).heap.size ∧ (∀ g, (Value.slice pl (k + 1) cl).ownBlock = some g → B j ≤ g ∨ g < A j) ∧ ∃ u, (vs ++ ([.string sg.1, .slice q5 sg.2.length d5] : List Value))[j * 2 + 1]? = some u ∧ OFlds (A j) (B j) ((Z9.setCell ⟨w.heap.size + 2, 1, none⟩ (.slice pl (k + 1) cl))) u f[j].2) ∧ ∀ i j, i < j → j < k + 1 → B i ≤ A j) := hide (by
            obtain ⟨A, B, hE, hD⟩ := HEl9.out
            refine ⟨A, B, fun j h2 h3 => ?_, hD⟩
            obtain ⟨f1, f2, f3, f4, f5, u, f6, f7⟩ := hE j h2 h3
            exact ⟨f1, f2, f3, by rw [es]; exact f4, f5, u, f6, Keeps.go (SameIn.set _ _ (by have := HWs.out; omega)) f7⟩)
          have HSY2 : Hid (W.heap.size ≤ (Z9.setCell ⟨w.heap.size + 2, 1, none⟩ (.slice pl (k + 1) cl)).heap.size) := hide (by rw [es]; have h5 := HBW.out.size; have h6 := HZ0.out; omega)
          have HSF : Hid ((fun y : World => y.cell? ⟨w.heap.size, 1, none⟩ = some (.slice (some ⟨g, off, none⟩) f.length cap) ∧ y.cell? ⟨g, off + k * 2, none⟩ = some (.string sg.1) ∧ y.cell? ⟨g, off + k * 2 + 1, none⟩ = some (.slice p3 sg.2.length c3)) (Z9.setCell ⟨w.heap.size + 2, 1, none⟩ (.slice pl (k + 1) cl))) := hide (HSP.out _ HBX2.out (HR12.out.cell 1))
          clear es
          refine hK.out _ _ HSF.out (fun _ => ?_)
          clear hK K HS HSF
          refine wpAnyH_done (by kernel_rfl) ?_ _
          go_wp2
          go_roundw
          case rel => exact ⟨_, k + 1, _, _, rfl, by omega, by go_num, HRO2, HOY2, HBX2, HR12, HR22, HSY2, HEY2⟩
          case measure => simp [intOf]; omega
        · go_simp
          have HBZ2 := hide (HBZ1.out.alloc HBZ1.out.size (.cells #[.string sg.1, .slice q5 sg.2.length d5] 85))
          refine hK.out _ _ (HSS.out _ HBZ2.out) (fun _ => ?_)
          clear hK K HS
          have HNW2 := hide (Keeps.go (SameIn.ofBelow ((Below.refl Z1.heap.size Z1).alloc (Nat.le_refl _) (.cells #[.string sg.1, .slice q5 sg.2.length d5] 85))) HNW.out)
          have HR1 : Hid (∀ j u, ([.string sg.1, .slice q5 sg.2.length d5] : List Value)[j]? = some u → (Z1.alloc (.cells #[.string sg.1, .slice q5 sg.2.length d5] 85)).cell? ((⟨Z1.heap.size, 0, none⟩ : Addr).add j) = some u) := hide (row_cellsM (row_new Z1 [.string sg.1, .slice q5 sg.2.length d5] 85))
          have HHI2 : Hid (HI ≤ (Z1.alloc (.cells #[.string sg.1, .slice q5 sg.2.length d5] 85)).heap.size) := hide (by have := HHI.out; simp; omega)
          generalize hZ : Z1.alloc (.cells #[.string sg.1, .slice q5 sg.2.length d5] 85) = Z2 at HBZ2 HNW2 HR1 HHI2 ⊢
          generalize Z1.heap.size = F5 at HR1 ⊢
          clear hZ HNW
          have HS := hide (HSS.out _ HBZ2.out)
          refine wpAnyH_ready (rs := [1]) (by kernel_rfl) (by simp) ?_
          refine AllReadyH.cons (o := _) rfl (fun K hK => ?_) AllReadyH.nil
          have c5 : Z2.cell? ⟨w.heap.size + 2, 1, none⟩ = some l := (HRowD.out.below HBZ2.out HRowD.out.lt).cell 1
          go_simp
          refine hK.out _ _ HS.out (fun _ => ?_)
          clear hK K c5
          have HOZ := hide (own_below HOD.out HBZ2.out)
          refine wpAnyH_ready (rs := [9]) (by kernel_rfl) (by simp) ?_
          refine AllReadyH.cons (o := _) rfl (fun K hK => ?_) AllReadyH.nil
          refine step_own (w := Z2) rfl (.tmp 16) (.tmp 23) 51 rfl W.heap.size 85 j0 _ 2 40 Tryz.underlying51 hj hy0 hy1 hy2 HZC.out (by omega) l k vs rfl HOZ.out ⟨F5, 0, none⟩ 1 _ [.string sg.1, .slice q5 sg.2.length d5] rfl rfl HR1.out (by simp [Value.oneCell']) (by unfold maxLen; omega) (by omega) (by have h5 := HBZ2.out.size; have h6 := HZ0.out; omega) ?_
          intro l3 Z9 hown9 hgrow hat
          obtain ⟨pl, cl, hl3⟩ := own_slice1 hown9
          subst hl3
          have hWs := HWs.out
          have HROW9 := hide (row_grown (HRowD.out.below HBZ2.out HRowD.out.lt) hgrow (fun k hk => (HOZ.out.lt k hk).1) (by omega))
          have HBW := hide (show Below W.heap.size Z0 Z9 from (HBZ2.out.mono (by have h6 := HZ0.out; omega)).grown hgrow (by have h5 := HBZ2.out.size; have h6 := HZ0.out; omega) (fun k hk => (HOZ.out.lt k hk).1))
          have HEl9 : Hid (∃ A B : Nat → Nat, (∀ j (h2 : j < f.length), j < k + 1 → (vs ++ ([.string sg.1, .slice q5 sg.2.length d5] : List Value))[j * 2]? = some (.string f[j].1) ∧ f[j].1.size ≤ maxLen ∧ W.heap.size ≤ A j ∧ B j ≤ (Z9).heap.size ∧ (∀ g, (Value.slice pl (k + 1) cl).ownBlock = some g → B j ≤ g ∨ g < A j) ∧ ∃ u, (vs ++ ([.string sg.1, .slice q5 sg.2.length d5] : List Value))[j * 2 + 1]? = some u ∧ OFlds (A j) (B j) (Z9) u f[j].2) ∧ ∀ i j, i < j → j < k + 1 → B i ≤ A j) := hide (by
            obtain ⟨A, B, hE, hD⟩ := HElD.out
            have hcl := HOD.out.1
            have hs1 := HBZ2.out.size
            have hs2 := hgrow.size
            have hZ0 := HZ0.out
            have hlo := HZL.out
            have hhi := HHI2.out
            refine ⟨fun i => if i = k then LO else A i, fun i => if i = k then HI else B i, fun j h2 h3 => ?_, fun i j hij hj => ?_⟩
            · dsimp only
              by_cases hj : j = k
              · subst hj
                rw [if_pos rfl, if_pos rfl, ← HSG.out]
                refine ⟨?_, by have := HXN.out; unfold maxLen; omega, by omega, by omega, fun g hg => ?_, .slice q5 sg.2.length d5, ?_, ?_⟩
                · rw [List.getElem?_append_right (by omega)]
                  have e : j * 2 - vs.length = 0 := by omega
                  rw [e]; rfl
                · rcases hat with h | h
                  · rw [h] at hg
                    exact .inr (by have := (HOD.out.lt g hg).2; omega)
                  · rw [h] at hg
                    cases hg
                    exact .inl (by omega)
                · rw [List.getElem?_append_right (by omega)]
                  have e : j * 2 + 1 - vs.length = 1 := by omega
                  rw [e]; rfl
                · exact Keeps.go (grown_in hgrow (fun g hg => .inr (by have := (HOD.out.lt g hg).2; omega))) HNW2.out
              · obtain ⟨f1, f2, f3, f4, f5, u, f6, f7⟩ := hE j h2 (by omega)
                rw [if_neg hj, if_neg hj]
                refine ⟨?_, f2, f3, by omega, fun g hg => ?_, u, ?_, Keeps.go (grown_in hgrow f5) (Keeps.go (SameIn.ofBelow HBZ2.out) f7)⟩
                · rw [List.getElem?_append_left (by omega)]; exact f1
                · rcases hat with h | h
                  · rw [h] at hg
                    exact f5 g hg
                  · rw [h] at hg
                    cases hg
                    exact .inl (by omega)
                · rw [List.getElem?_append_left (by omega)]; exact f6
            · obtain ⟨f1, f2, f3, f4, f5, u, f6, f7⟩ := hE i (by omega) (by omega)
              dsimp only
              by_cases hjk : j = k
              · rw [if_pos hjk, if_neg (by omega)]; omega
              · rw [if_neg hjk, if_neg (by omega)]; exact hD i j hij (by omega))
          have HO9 := hide hown9
          clear hown9 hgrow hat
          refine hK.out _ _ (HSS9.out _ HBW.out) (fun _ => ?_)
          clear hK K HS
          have HS := hide (HSS9.out _ HBW.out)
          simp only [Act.put, List.getElem_toArray, List.getElem_cons_zero, List.getElem_cons_succ, List.setIfInBounds_toArray, List.set_cons_zero, List.set_cons_succ]
          refine wpAnyH_take (i := 10) (oi := _) (v := .pointer (some ⟨w.heap.size + 2, 1, none⟩)) rfl (by kernel_rfl) (by kernel_rfl) (by kernel_rfl) (fun _ _ _ h => h) (Or.inl ⟨by rfl, by intro w hSw; go_split_ands; go_simp⟩) HS.out ?_
          simp only [Act.put, List.getElem_toArray, List.getElem_cons_zero, List.getElem_cons_succ, List.setIfInBounds_toArray, List.set_cons_zero, List.set_cons_succ]
          refine wpAnyH_ready (rs := [11]) (by kernel_rfl) (by simp) ?_
          refine AllReadyH.cons (o := _) rfl (fun K hK => ?_) AllReadyH.nil
          have c9 : Z9.cell? ⟨w.heap.size + 2, 1, none⟩ = some l := HROW9.out.cell 1
          have f9 := HROW9.out.free 1
          go_simp
          have HBZX := hide (HBZw.out.trans (HBW.out.mono (by omega : w.heap.size ≤ W.heap.size)))
          have HBX2 := hide (HBZX.out.setCell (p := ⟨w.heap.size + 2, 1, none⟩) (by show w.heap.size ≤ w.heap.size + 2; omega) (.slice pl (k + 1) cl))
          have HRO2 := hide (HROW9.out.set (j := 1) (.slice pl (k + 1) cl))
          have HR12 := hide ((HR1D.out.below HBW.out (by omega)).other (b := w.heap.size + 2) (j := 1) (by omega) (.slice pl (k + 1) cl))
          have HR22 := hide ((HR2D.out.below HBW.out (by omega)).other (b := w.heap.size + 2) (j := 1) (by omega) (.slice pl (k + 1) cl))
          have es : (Z9.setCell ⟨w.heap.size + 2, 1, none⟩ (.slice pl (k + 1) cl)).heap.size = Z9.heap.size := by simp [World.setCell]
          have HOY2 := hide (ownsRow_setCell_below HO9.out (a := ⟨w.heap.size + 2, 1, none⟩) (by show w.heap.size + 2 < W.heap.size; omega) (.slice pl (k + 1) cl))
          have HEY2 : Hid (∃ A B : Nat → Nat, (∀ j (h2 : j < f.length), j < k + 1 → (vs ++ ([.string sg.1, .slice q5 sg.2.length d5] : List Value))[j * 2]? = some (.string f[j].1) ∧ f[j].1.size ≤ maxLen ∧ W.heap.size ≤ A j ∧ B j ≤ ((Z9.setCell ⟨w.heap.size + 2, 1, none⟩ (.slice pl (k + 1) cl))).heap.size ∧ (∀ g, (Value.slice pl (k + 1) cl).ownBlock = some g → B j ≤ g ∨ g < A j) ∧ ∃ u, (vs ++ ([.string sg.1, .slice q5 sg.2.length d5] : List Value))[j * 2 + 1]? = some u ∧ OFlds (A j) (B j) ((Z9.setCell ⟨w.heap.size + 2, 1, none⟩ (.slice pl (k + 1) cl))) u f[j].2) ∧ ∀ i j, i < j → j < k + 1 → B i ≤ A j) := hide (by
            obtain ⟨A, B, hE, hD⟩ := HEl9.out
            refine ⟨A, B, fun j h2 h3 => ?_, hD⟩
            obtain ⟨f1, f2, f3, f4, f5, u, f6, f7⟩ := hE j h2 h3
            exact ⟨f1, f2, f3, by rw [es]; exact f4, f5, u, f6, Keeps.go (SameIn.set _ _ (by have := HWs.out; omega)) f7⟩)
          have HSY2 : Hid (W.heap.size ≤ (Z9.setCell ⟨w.heap.size + 2, 1, none⟩ (.slice pl (k + 1) cl)).heap.size) := hide (by rw [es]; have h5 := HBW.out.size; have h6 := HZ0.out; omega)
          have HSF : Hid ((fun y : World => y.cell? ⟨w.heap.size, 1, none⟩ = some (.slice (some ⟨g, off, none⟩) f.length cap) ∧ y.cell? ⟨g, off + k * 2, none⟩ = some (.string sg.1) ∧ y.cell? ⟨g, off + k * 2 + 1, none⟩ = some (.slice p3 sg.2.length c3)) (Z9.setCell ⟨w.heap.size + 2, 1, none⟩ (.slice pl (k + 1) cl))) := hide (HSP.out _ HBX2.out (HR12.out.cell 1))
          clear es
          refine hK.out _ _ HSF.out (fun _ => ?_)
          clear hK K HS HSF
          refine wpAnyH_done (by kernel_rfl) ?_ _
          go_wp2
          go_roundw
          case rel => exact ⟨_, k + 1, _, _, rfl, by omega, by go_num, HRO2, HOY2, HBX2, HR12, HR22, HSY2, HEY2⟩
          case measure => simp [intOf]; omega
    · have ek : k = f.length := by omega
      have HF := hide (osegs_of_own HOX.out ek HEX.out)
      obtain ⟨pl, cl, hpl⟩ := own_slice1 HOX.out
      subst hpl
      have hWs := HWs.out
      have c30 : X.cell? ⟨w.heap.size + 2, 0, none⟩ = some (.string n) := HRX.out.cell 0
      have c3 : X.cell? ⟨w.heap.size + 2, 1, none⟩ = some (.slice pl k cl) := HRX.out.cell 1
      have c20 : X.cell? ⟨w.heap.size + 1, 0, none⟩ = some (.string ⟨#[]⟩) := HR2X.out.cell 0
      have c2 : X.cell? ⟨w.heap.size + 1, 1, none⟩ = some (.slice none 0 0) := HR2X.out.cell 1
      have f20 := HR2X.out.free 0
      have f2 := HR2X.out.free 1
      have t2 := (HR2X.out.set (j := 0) (.string n)).set (j := 1) (.slice pl k cl)
      have q0 : ((X.setCell ⟨w.heap.size + 1, 0, none⟩ (.string n)).setCell ⟨w.heap.size + 1, 1, none⟩ (.slice pl k cl)).cell? ⟨w.heap.size + 1, 0, none⟩ = some (.string n) := t2.cell 0
      have q1 : ((X.setCell ⟨w.heap.size + 1, 0, none⟩ (.string n)).setCell ⟨w.heap.size + 1, 1, none⟩ (.slice pl k cl)).cell? ⟨w.heap.size + 1, 1, none⟩ = some (.slice pl k cl) := t2.cell 1
      have HBF := hide ((HBX.out.setCell (p := ⟨w.heap.size + 1, 0, none⟩) (by show w.heap.size ≤ w.heap.size + 1; omega) (.string n)).setCell (p := ⟨w.heap.size + 1, 1, none⟩) (by show w.heap.size ≤ w.heap.size + 1; omega) (.slice pl k cl))
      have es : ((X.setCell ⟨w.heap.size + 1, 0, none⟩ (.string n)).setCell ⟨w.heap.size + 1, 1, none⟩ (.slice pl k cl)).heap.size = X.heap.size := by simp [World.setCell]
      have HFF : Hid (OSegs w.heap.size ((X.setCell ⟨w.heap.size + 1, 0, none⟩ (.string n)).setCell ⟨w.heap.size + 1, 1, none⟩ (.slice pl k cl)).heap.size ((X.setCell ⟨w.heap.size + 1, 0, none⟩ (.string n)).setCell ⟨w.heap.size + 1, 1, none⟩ (.slice pl k cl)) (.slice pl k cl) f) := hide (by
        rw [es]
        exact OSegs.wide ((HF.out.keep (SameIn.set X (.string n) (by omega))).keep (SameIn.set _ _ (by omega))) (by omega : w.heap.size ≤ W.heap.size) (Nat.le_refl _))
      have HK := hide ek
      clear ek es hWs HF t2
      go_wp2
      exact bodyPost_ret (v := .agg #[.string n, .slice pl k cl]) (by simp [results, Tryz.results66, go_sem, q0, q1]) rfl ⟨pl, cl, by rw [HK.out], by rw [← HK.out]; exact HFF.out, HBF.out⟩
end Go.Proofs.YtholbhjfmfanbaaGreat
