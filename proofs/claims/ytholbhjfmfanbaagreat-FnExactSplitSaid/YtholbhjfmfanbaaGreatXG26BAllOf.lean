/- AllOf of both sides. -/
import Derived.Test.YtholbhjfmfanbaaGreatXG23BAll
import Derived.Test.YtholbhjfmfanbaaGreatXG24BRight
import Derived.Test.YtholbhjfmfanbaaGreatXG25OMsg
import Derived.Deep.DeepCutAuto
import Derived.Deep.RegionHeld3
import Derived.OrdersHeld
namespace Go.Proofs.YtholbhjfmfanbaaGreat
open Go.RowKit
def allOut (n : ByteArray) (x : List Bat) : List Msg := if filB n x = true then allL x else []
theorem allOut_no {n : ByteArray} {x : List Bat} (h : filB n x = false) : allOut n x = [] := by simp [allOut, h]
theorem allOut_yes {n : ByteArray} {x : List Bat} (h : filB n x = true) : allOut n x = allL x := by simp [allOut, h]
theorem allOut_w (n : ByteArray) (x : List Bat) (h : wBats x ≤ 1048576) : wMsgs (allOut n x) ≤ 1048576 := by
  have := allL_w x
  unfold allOut
  split
  · omega
  · simp [wMsgs, wL]
theorem omsgs_nil (lo hi : Nat) (w : World) (p : Option Addr) : OMsgs lo hi w (.slice p 0 0) [] := ⟨p, 0, rfl, Nat.le_refl _, Nat.zero_le _, fun h => absurd h (Nat.lt_irrefl 0)⟩
theorem rmsgs_nil (B : Nat) (w : World) (p : Option Addr) : RMsgs B w (.slice p 0 0) [] := ⟨p, 0, rfl, Nat.le_refl _, Nat.zero_le _, fun h => absurd h (Nat.lt_irrefl 0)⟩

set_option maxHeartbeats 1000000 in
theorem implAllOf_any (n : ByteArray) (u : Value) (x : List Bat) (w : World) (hm : n.size ≤ maxLen) (hn : wBats x ≤ 1048576) (hr : RBats 0 w u x) :
    Calls Tryz.prog 16 #[.agg #[.string n, u]] w fun e w' => ∃ p c, e = .returned (.slice p (allOut n x).length c) ∧ OMsgs w.heap.size w'.heap.size w' (.slice p (allOut n x).length c) (allOut n x) ∧ Below w.heap.size w w' := by
  obtain ⟨A, hA⟩ : ∃ A, A = allOut n x := ⟨_, rfl⟩
  rw [← hA]
  have HA := hideF hA
  clear hA
  have HX := hideF hr
  obtain ⟨p, cap, rfl⟩ := hr.isSlice
  have HB0 := hideF ((Below.refl w.heap.size w).alloc (Nat.le_refl _) (.cells #[.string n, .slice p x.length cap] 29))
  have HRow0 := hideF (row_new w [.string n, .slice p x.length cap] 29)
  clear hr
  go_enter Tryz.func16, Tryz.ntmps16
  go_wp2_with fail
  refine (fileRight_any n _ x _ hm (fitsF_of hn) (HX.out.below HB0.out)).mono ?_
  rintro e w1 ⟨rfl, hb1⟩
  have HB1 := hideF (HB0.out.trans (hb1.mono HB0.out.size))
  have HRow1 := hideF (HRow0.out.below hb1 HRow0.out.lt)
  have c0 : w1.cell? ⟨w.heap.size, 0, none⟩ = some (.string n) := HRow1.out.cell 0
  have c1 : w1.cell? ⟨w.heap.size, 1, none⟩ = some (.slice p x.length cap) := HRow1.out.cell 1
  clear hb1
  cases hq : filB n x
  · obtain rfl : A = [] := by rw [HA.out]; exact allOut_no hq
    go_wp2
    go_ret
    exact ⟨_, _, rfl, omsgs_nil _ _ _ _, HB1.out⟩
  · obtain rfl : A = allL x := by rw [HA.out]; exact allOut_yes hq
    clear hq
    go_wp2_with fail
    refine (allMessages_any n _ x _ hn (HX.out.below HB1.out)).mono ?_
    rintro e w2 ⟨p2, c2, rfl, hr2, hb2⟩
    have HB2 := hideF (HB1.out.trans (hb2.mono HB1.out.size))
    have HR2 := hideF hr2
    clear hb2 hr2 c0 c1
    go_wp2_with fail
    refine (copyEachMessage_any _ (allL x) _ (Nat.le_trans (allL_w x) hn) HR2.out).mono ?_
    rintro e w3 ⟨p3, c3, rfl, ho3, hb3⟩
    have HB3 := hideF (HB2.out.trans (hb3.mono HB2.out.size))
    have HO3 := hideF (ho3.wide HB2.out.size (Nat.le_refl _))
    clear hb3 ho3
    go_wp2
    go_ret
    exact ⟨_, _, rfl, HO3.out, HB3.out⟩

set_option maxHeartbeats 1000000 in
theorem specAllOf_any (n : ByteArray) (u : Value) (x : List Bat) (w : World) (hm : n.size ≤ maxLen) (hn : wBats x ≤ 1048576) (hr : RBats 0 w u x) :
    Calls Tryz.prog 15 #[.agg #[.string n, u]] w fun e w' => ∃ p c, e = .returned (.slice p (allOut n x).length c) ∧ RMsgs w.heap.size w' (.slice p (allOut n x).length c) (allOut n x) ∧ Below w.heap.size w w' := by
  obtain ⟨A, hA⟩ : ∃ A, A = allOut n x := ⟨_, rfl⟩
  rw [← hA]
  have HA := hideF hA
  clear hA
  have HX := hideF hr
  obtain ⟨p, cap, rfl⟩ := hr.isSlice
  have HB0 := hideF ((Below.refl w.heap.size w).alloc (Nat.le_refl _) (.cells #[.string n, .slice p x.length cap] 29))
  have HRow0 := hideF (row_new w [.string n, .slice p x.length cap] 29)
  clear hr
  go_enter Tryz.func15, Tryz.ntmps15
  go_wp2_with fail
  refine (specFileRight_any n _ x _ hm (fitsF_of hn) (HX.out.below HB0.out)).mono ?_
  rintro e w1 ⟨rfl, hb1⟩
  have HB1 := hideF (HB0.out.trans (hb1.mono HB0.out.size))
  have HRow1 := hideF (HRow0.out.below hb1 HRow0.out.lt)
  have c0 : w1.cell? ⟨w.heap.size, 0, none⟩ = some (.string n) := HRow1.out.cell 0
  have c1 : w1.cell? ⟨w.heap.size, 1, none⟩ = some (.slice p x.length cap) := HRow1.out.cell 1
  clear hb1
  cases hq : filB n x
  · obtain rfl : A = [] := by rw [HA.out]; exact allOut_no hq
    go_wp2
    go_ret
    exact ⟨_, _, rfl, rmsgs_nil _ _ _, HB1.out.alloc HB1.out.size _⟩
  · obtain rfl : A = allL x := by rw [HA.out]; exact allOut_yes hq
    clear hq
    go_wp2_with fail
    refine (l08All_any n _ x _ hn (HX.out.below HB1.out)).mono ?_
    rintro e w2 ⟨p2, c2, rfl, hr2, hb2⟩
    have HB2 := hideF (HB1.out.trans (hb2.mono HB1.out.size))
    have HR2 := hideF hr2
    have HM2 := hideF (RMsgs.mono hr2 HB1.out.size)
    clear hb2 hr2 c0 c1
    go_wp2
    go_ret
    exact ⟨_, _, rfl, HM2.out, HB2.out⟩
end Go.Proofs.YtholbhjfmfanbaaGreat
/- Lists of Segments, of Messages and of Batches whose marks are held. -/
namespace Go.Proofs.YtholbhjfmfanbaaGreat
open Go.RowKit

set_option maxHeartbeats 4000000 in
theorem heldSegmentS_own (lo hi : Nat) (v : Value) (xs : List Seg) (k : Nat) (w : World) (hn : wSegs xs ≤ 1048576) (hk : k + wSegs xs ≤ 4000000) (hr : OSegs lo hi w v (mkSegs k xs)) :
    Calls Tryz.prog 45 #[v, .int .i64 (k : Int)] w fun e w' => e = .returned (.int .i64 ((k + cntSegs xs : Nat) : Int)) ∧ Below w.heap.size w w' := by
  have hl : xs.length ≤ 1048576 := Nat.le_trans (wL_len _ xs) hn
  have HC := hide (fun i h => seg_step xs i h)
  have HSN := hide (fun i h => cntL_snoc cntSeg xs i h)
  have HM := hide (wSegs_mem hn).2
  have HML := hide (show (mkSegs k xs).length = xs.length from mkL_len cntSeg mkSeg xs k)
  obtain ⟨p, cap, hv, h1, h2, h4⟩ := hr
  rw [HML.out] at h1 hv
  subst hv
  by_cases h0 : xs.length = 0
  · obtain rfl : xs = [] := List.eq_nil_of_length_eq_zero h0
    clear h4 HC HM HSN HML
    go_enter Tryz.func45, Tryz.ntmps45
    go_wp2
    refine wp_loop_rounds 1 ?_
    rw [rounds_succ]
    go_wp2
    go_ret
    exact ⟨rfl, Below.refl _ _⟩
  obtain ⟨g, cs, A, B, rfl, ga, gb, hrow, hcl, hE, hD⟩ := h4 (by rw [HML.out]; omega)
  have HK := hide hk
  have HR := hide hrow
  have HE := hide hE
  unfold maxLen at h2
  clear h4 hrow hcl hE hD hk hn ga gb
  go_enter Tryz.func45, Tryz.ntmps45
  go_wp2
  go_loopw [1, 5] (fun x i wr => ∃ (X : World) (j K : Nat), X = wr ∧ j ≤ xs.length ∧ i = .int .i64 (j : Int) ∧ x = .int .i64 (K : Int) ∧ Hid (K = k + cntL cntSeg (xs.take j)) ∧ Hid (Below w.heap.size w X)) (fun _ i _ => xs.length - (intOf i).toNat)
  case atStart => exact ⟨_, 0, k, rfl, Nat.zero_le _, rfl, rfl, hide (by simp [cntL]), hide (Below.refl _ _)⟩
  case round =>
    obtain ⟨X, j, K, rfl, hj, rfl, rfl, HKE, HB⟩ := hrel
    by_cases hlt : j < xs.length
    · have hjm : j < (mkSegs k xs).length := by rw [HML.out]; exact hlt
      have hget : (mkSegs k xs)[j] = mkSeg K (xs[j]'hlt) := by rw [HKE.out]; exact mkL_get cntSeg mkSeg xs k j hlt hjm
      obtain ⟨e0, e1, e2, e3, e4, u, e5, e6⟩ := HE.out j hjm
      rw [hget] at e0 e6
      have e7 := Keeps.go (SameIn.ofBelow HB.out) e6
      have rowX := HR.out.below HB.out HR.out.lt
      have c0 : X.cell? ⟨g, j * 2, none⟩ = some (.string (markOf K)) := by rw [rowX.cell]; exact e0
      have c1 : X.cell? ⟨g, j * 2 + 1, none⟩ = some u := by rw [rowX.cell]; exact e5
      have hKb : K + 1 + wFlds (xs[j]'hlt).2 ≤ 4000000 := by have h1 := HC.out j hlt; have h2 := HK.out; rw [HKE.out]; omega
      have hwb : wFlds (xs[j]'hlt).2 ≤ 1048576 := (HM.out j hlt).1
      have HOK : Hid (OFlds (A j) (B j) X u (mkFs (K + 1) (xs[j]'hlt).2)) := hide e7
      obtain ⟨vp, vn, vc, hvj⟩ : ∃ p n c, u = .slice p n c := by obtain ⟨p, c, e⟩ := e7.isSlice; exact ⟨p, _, c, e⟩
      subst hvj
      have hji : (j : Int) < (xs.length : Int) := by omega
      have hj0 : (0 : Int) ≤ (j : Int) := by omega
      have HSS := hide (show ∀ y, Below X.heap.size X y → y.cell? ⟨g, j * 2, none⟩ = some (.string (markOf K)) from fun y h => (h.cell (p := ⟨g, j * 2, none⟩) rowX.lt).trans c0)
      have HRX := hide rowX
      have HC1 := hide c1
      clear e0 e1 e2 e3 e4 e5 e6 e7 rowX c0 c1 hget
      go_wp2_with fail
      go_cut [19] (fun t wz => t = .bool false ∧ ∃ wx, wx = wz ∧ Hid (Below X.heap.size X wx))
      case first =>
        refine wp_region_held (S := (fun y : World => y.cell? ⟨g, j * 2, none⟩ = some (.string (markOf K)))) (by kernel_rfl) ?_
        have HX0 : Hid (Below X.heap.size X { X with drawn := X.drawn + 1 }) := (Below.refl _ _).drew
        generalize ({ X with drawn := X.drawn + 1 } : World) = X0 at HX0 ⊢
        have HS := hide (HSS.out _ HX0.out)
        refine wpAnyH_take (i := 0) (oi := _) (v := .slice (some ⟨g, 0, none⟩) xs.length cap) rfl (by kernel_rfl) (by kernel_rfl) (by kernel_rfl) (fun _ _ _ h => h) (Or.inl ⟨by rfl, by intro w hSw; go_split_ands; go_simp⟩) HS.out ?_
        simp only [Act.put, List.getElem_toArray, List.getElem_cons_zero, List.setIfInBounds_toArray, List.set_cons_zero, List.set_cons_succ]
        refine wpAnyH_take (i := 1) (oi := _) (v := .int .i64 (j : Int)) rfl (by kernel_rfl) (by kernel_rfl) (by kernel_rfl) (fun _ _ _ h => h) (Or.inl ⟨by rfl, by intro w hSw; go_split_ands; go_simp⟩) HS.out ?_
        simp only [Act.put, List.getElem_toArray, List.getElem_cons_zero, List.getElem_cons_succ, List.setIfInBounds_toArray, List.set_cons_zero, List.set_cons_succ]
        refine wpAnyH_take (i := 2) (oi := _) (v := .pointer (some ⟨g, j * 2, none⟩)) rfl (by kernel_rfl) (by kernel_rfl) (by kernel_rfl) (fun _ _ _ h => h) (Or.inl ⟨by rfl, by intro w hSw; go_split_ands; go_simp⟩) HS.out ?_
        simp only [Act.put, List.getElem_toArray, List.getElem_cons_zero, List.getElem_cons_succ, List.setIfInBounds_toArray, List.set_cons_zero, List.set_cons_succ]
        refine wpAnyH_take (i := 3) (oi := _) (v := .pointer (some ⟨g, j * 2, none⟩)) rfl (by kernel_rfl) (by kernel_rfl) (by kernel_rfl) (fun _ _ _ h => h) (Or.inl ⟨by rfl, by intro w hSw; go_split_ands; go_simp⟩) HS.out ?_
        simp only [Act.put, List.getElem_toArray, List.getElem_cons_zero, List.getElem_cons_succ, List.setIfInBounds_toArray, List.set_cons_zero, List.set_cons_succ]
        refine wpAnyH_take (i := 4) (oi := _) (v := .string (markOf K)) rfl (by kernel_rfl) (by kernel_rfl) (by kernel_rfl) (fun _ _ _ h => h) (Or.inl ⟨by rfl, by intro w hSw; go_split_ands; go_simp⟩) HS.out ?_
        simp only [Act.put, List.getElem_toArray, List.getElem_cons_zero, List.getElem_cons_succ, List.setIfInBounds_toArray, List.set_cons_zero, List.set_cons_succ]
        refine wpAnyH_take (i := 5) (oi := _) (v := .int .i64 (K : Int)) rfl (by kernel_rfl) (by kernel_rfl) (by kernel_rfl) (fun _ _ _ h => h) (Or.inl ⟨by rfl, by intro w hSw; go_split_ands; go_simp⟩) HS.out ?_
        simp only [Act.put, List.getElem_toArray, List.getElem_cons_zero, List.getElem_cons_succ, List.setIfInBounds_toArray, List.set_cons_zero, List.set_cons_succ]
        refine wpAnyH_ready (rs := [6]) (by kernel_rfl) (by simp) ?_
        refine AllReadyH.cons (o := _) rfl (fun KK hK => ?_) AllReadyH.nil
        go_simp
        refine (markText_any _ _ (by omega)).mono ?_
        rintro e X1 ⟨rfl, hb1⟩
        have HX1 := hide (HX0.out.trans (hb1.mono HX0.out.size))
        refine hK.out _ _ (HSS.out _ HX1.out) (fun _ => ?_)
        clear hK HS hb1 HX0
        have HS := hide (HSS.out _ HX1.out)
        refine wpAnyH_take (i := 7) (oi := _) (v := .bool false) rfl (by kernel_rfl) (by kernel_rfl) (by kernel_rfl) (fun _ _ _ h => h) (Or.inl ⟨by rfl, by intro w hSw; go_split_ands; go_simp⟩) HS.out ?_
        simp only [Act.put, List.getElem_toArray, List.getElem_cons_zero, List.getElem_cons_succ, List.setIfInBounds_toArray, List.set_cons_zero, List.set_cons_succ]
        refine wpAnyH_done (by kernel_rfl) ?_ _
        go_wp2_with fail
        go_meet
        exact ⟨rfl, _, rfl, HX1⟩
      case rest =>
        obtain ⟨rfl, wx, rfl, HBx⟩ := hcut
        have HBX := hide (HB.out.trans (HBx.out.mono HB.out.size))
        have d1 : wx.cell? ⟨g, j * 2 + 1, none⟩ = some (.slice vp vn vc) := (HBx.out.cell (p := ⟨g, j * 2 + 1, none⟩) HRX.out.lt).trans HC1.out
        have HOX := hide (Keeps.go (SameIn.ofBelow HBx.out) HOK.out)
        clear HBx
        go_wp2_with fail
        have ek : ((K : Int) + 1) = ((K + 1 : Nat) : Int) := by simp
        rw [ek]
        refine (heldFieldS_own (A j) (B j) _ (xs[j]'hlt).2 (K + 1) _ hwb hKb HOX.out).mono ?_
        rintro e w2 ⟨rfl, hb2⟩
        have HK2 : Hid (K + 1 + cntL cntF (xs[j]'hlt).2 = k + cntL cntSeg (xs.take (j + 1))) := by rw [HSN.out j hlt, HKE.out]; exact (by unfold cntSeg cntFs; omega : k + cntL cntSeg (xs.take j) + 1 + cntL cntF (xs[j]'hlt).2 = k + (cntL cntSeg (xs.take j) + cntSeg (xs[j]'hlt)))
        have HB2 := hide (HBX.out.trans (hb2.mono HBX.out.size))
        have hpos : ¬ (((K + 1 + cntL cntF (xs[j]'hlt).2 : Nat) : Int)) < 0 := by omega
        clear hb2 ek d1
        go_wp2
        go_roundw
        case rel => exact ⟨_, j + 1, _, rfl, by omega, by go_num, rfl, HK2, HB2⟩
        case measure => simp [intOf]; omega
    · have HKF : Hid (K = k + cntSegs xs) := by have := HKE.out; rw [List.take_of_length_le (by omega)] at this; exact this
      go_wp2
      go_ret
      exact ⟨ret_int (by rw [HKF.out]), HB.out⟩

set_option maxHeartbeats 4000000 in
theorem heldMessageS_own (lo hi : Nat) (v : Value) (xs : List Msg) (k : Nat) (w : World) (hn : wMsgs xs ≤ 1048576) (hk : k + wMsgs xs ≤ 4000000) (hr : OMsgs lo hi w v (mkMsgs k xs)) :
    Calls Tryz.prog 20 #[v, .int .i64 (k : Int)] w fun e w' => e = .returned (.int .i64 ((k + cntMsgs xs : Nat) : Int)) ∧ Below w.heap.size w w' := by
  have hl : xs.length ≤ 1048576 := Nat.le_trans (wL_len _ xs) hn
  have HC := hide (fun i h => msg_step xs i h)
  have HSN := hide (fun i h => cntL_snoc cntMsg xs i h)
  have HM := hide (wMsgs_mem hn).2
  have HML := hide (show (mkMsgs k xs).length = xs.length from mkL_len cntMsg mkMsg xs k)
  obtain ⟨p, cap, hv, h1, h2, h4⟩ := hr
  rw [HML.out] at h1 hv
  subst hv
  by_cases h0 : xs.length = 0
  · obtain rfl : xs = [] := List.eq_nil_of_length_eq_zero h0
    clear h4 HC HM HSN HML
    go_enter Tryz.func20, Tryz.ntmps20
    go_wp2
    refine wp_loop_rounds 1 ?_
    rw [rounds_succ]
    go_wp2
    go_ret
    exact ⟨rfl, Below.refl _ _⟩
  obtain ⟨g, cs, A, B, rfl, ga, gb, hrow, hcl, hE, hD⟩ := h4 (by rw [HML.out]; omega)
  have HK := hide hk
  have HR := hide hrow
  have HE := hide hE
  unfold maxLen at h2
  clear h4 hrow hcl hE hD hk hn ga gb
  go_enter Tryz.func20, Tryz.ntmps20
  go_wp2
  go_loopw [1, 5] (fun x i wr => ∃ (X : World) (j K : Nat), X = wr ∧ j ≤ xs.length ∧ i = .int .i64 (j : Int) ∧ x = .int .i64 (K : Int) ∧ Hid (K = k + cntL cntMsg (xs.take j)) ∧ Hid (Below w.heap.size w X)) (fun _ i _ => xs.length - (intOf i).toNat)
  case atStart => exact ⟨_, 0, k, rfl, Nat.zero_le _, rfl, rfl, hide (by simp [cntL]), hide (Below.refl _ _)⟩
  case round =>
    obtain ⟨X, j, K, rfl, hj, rfl, rfl, HKE, HB⟩ := hrel
    by_cases hlt : j < xs.length
    · have hjm : j < (mkMsgs k xs).length := by rw [HML.out]; exact hlt
      have hget : (mkMsgs k xs)[j] = mkMsg K (xs[j]'hlt) := by rw [HKE.out]; exact mkL_get cntMsg mkMsg xs k j hlt hjm
      obtain ⟨e0, e1, e2, e3, e4, u, e5, e6⟩ := HE.out j hjm
      rw [hget] at e0 e6
      have e7 := Keeps.go (SameIn.ofBelow HB.out) e6
      have rowX := HR.out.below HB.out HR.out.lt
      have c0 : X.cell? ⟨g, j * 2, none⟩ = some (.string (markOf K)) := by rw [rowX.cell]; exact e0
      have c1 : X.cell? ⟨g, j * 2 + 1, none⟩ = some u := by rw [rowX.cell]; exact e5
      have hKb : K + 1 + wSegs (xs[j]'hlt).2 ≤ 4000000 := by have h1 := HC.out j hlt; have h2 := HK.out; rw [HKE.out]; omega
      have hwb : wSegs (xs[j]'hlt).2 ≤ 1048576 := (HM.out j hlt).1
      have HOK : Hid (OSegs (A j) (B j) X u (mkSegs (K + 1) (xs[j]'hlt).2)) := hide e7
      obtain ⟨vp, vn, vc, hvj⟩ : ∃ p n c, u = .slice p n c := by obtain ⟨p, c, e⟩ := e7.isSlice; exact ⟨p, _, c, e⟩
      subst hvj
      have hji : (j : Int) < (xs.length : Int) := by omega
      have hj0 : (0 : Int) ≤ (j : Int) := by omega
      have HSS := hide (show ∀ y, Below X.heap.size X y → y.cell? ⟨g, j * 2, none⟩ = some (.string (markOf K)) from fun y h => (h.cell (p := ⟨g, j * 2, none⟩) rowX.lt).trans c0)
      have HRX := hide rowX
      have HC1 := hide c1
      clear e0 e1 e2 e3 e4 e5 e6 e7 rowX c0 c1 hget
      go_wp2_with fail
      go_cut [19] (fun t wz => t = .bool false ∧ ∃ wx, wx = wz ∧ Hid (Below X.heap.size X wx))
      case first =>
        refine wp_region_held (S := (fun y : World => y.cell? ⟨g, j * 2, none⟩ = some (.string (markOf K)))) (by kernel_rfl) ?_
        have HX0 : Hid (Below X.heap.size X { X with drawn := X.drawn + 1 }) := (Below.refl _ _).drew
        generalize ({ X with drawn := X.drawn + 1 } : World) = X0 at HX0 ⊢
        have HS := hide (HSS.out _ HX0.out)
        refine wpAnyH_take (i := 0) (oi := _) (v := .slice (some ⟨g, 0, none⟩) xs.length cap) rfl (by kernel_rfl) (by kernel_rfl) (by kernel_rfl) (fun _ _ _ h => h) (Or.inl ⟨by rfl, by intro w hSw; go_split_ands; go_simp⟩) HS.out ?_
        simp only [Act.put, List.getElem_toArray, List.getElem_cons_zero, List.setIfInBounds_toArray, List.set_cons_zero, List.set_cons_succ]
        refine wpAnyH_take (i := 1) (oi := _) (v := .int .i64 (j : Int)) rfl (by kernel_rfl) (by kernel_rfl) (by kernel_rfl) (fun _ _ _ h => h) (Or.inl ⟨by rfl, by intro w hSw; go_split_ands; go_simp⟩) HS.out ?_
        simp only [Act.put, List.getElem_toArray, List.getElem_cons_zero, List.getElem_cons_succ, List.setIfInBounds_toArray, List.set_cons_zero, List.set_cons_succ]
        refine wpAnyH_take (i := 2) (oi := _) (v := .pointer (some ⟨g, j * 2, none⟩)) rfl (by kernel_rfl) (by kernel_rfl) (by kernel_rfl) (fun _ _ _ h => h) (Or.inl ⟨by rfl, by intro w hSw; go_split_ands; go_simp⟩) HS.out ?_
        simp only [Act.put, List.getElem_toArray, List.getElem_cons_zero, List.getElem_cons_succ, List.setIfInBounds_toArray, List.set_cons_zero, List.set_cons_succ]
        refine wpAnyH_take (i := 3) (oi := _) (v := .pointer (some ⟨g, j * 2, none⟩)) rfl (by kernel_rfl) (by kernel_rfl) (by kernel_rfl) (fun _ _ _ h => h) (Or.inl ⟨by rfl, by intro w hSw; go_split_ands; go_simp⟩) HS.out ?_
        simp only [Act.put, List.getElem_toArray, List.getElem_cons_zero, List.getElem_cons_succ, List.setIfInBounds_toArray, List.set_cons_zero, List.set_cons_succ]
        refine wpAnyH_take (i := 4) (oi := _) (v := .string (markOf K)) rfl (by kernel_rfl) (by kernel_rfl) (by kernel_rfl) (fun _ _ _ h => h) (Or.inl ⟨by rfl, by intro w hSw; go_split_ands; go_simp⟩) HS.out ?_
        simp only [Act.put, List.getElem_toArray, List.getElem_cons_zero, List.getElem_cons_succ, List.setIfInBounds_toArray, List.set_cons_zero, List.set_cons_succ]
        refine wpAnyH_take (i := 5) (oi := _) (v := .int .i64 (K : Int)) rfl (by kernel_rfl) (by kernel_rfl) (by kernel_rfl) (fun _ _ _ h => h) (Or.inl ⟨by rfl, by intro w hSw; go_split_ands; go_simp⟩) HS.out ?_
        simp only [Act.put, List.getElem_toArray, List.getElem_cons_zero, List.getElem_cons_succ, List.setIfInBounds_toArray, List.set_cons_zero, List.set_cons_succ]
        refine wpAnyH_ready (rs := [6]) (by kernel_rfl) (by simp) ?_
        refine AllReadyH.cons (o := _) rfl (fun KK hK => ?_) AllReadyH.nil
        go_simp
        refine (markText_any _ _ (by omega)).mono ?_
        rintro e X1 ⟨rfl, hb1⟩
        have HX1 := hide (HX0.out.trans (hb1.mono HX0.out.size))
        refine hK.out _ _ (HSS.out _ HX1.out) (fun _ => ?_)
        clear hK HS hb1 HX0
        have HS := hide (HSS.out _ HX1.out)
        refine wpAnyH_take (i := 7) (oi := _) (v := .bool false) rfl (by kernel_rfl) (by kernel_rfl) (by kernel_rfl) (fun _ _ _ h => h) (Or.inl ⟨by rfl, by intro w hSw; go_split_ands; go_simp⟩) HS.out ?_
        simp only [Act.put, List.getElem_toArray, List.getElem_cons_zero, List.getElem_cons_succ, List.setIfInBounds_toArray, List.set_cons_zero, List.set_cons_succ]
        refine wpAnyH_done (by kernel_rfl) ?_ _
        go_wp2_with fail
        go_meet
        exact ⟨rfl, _, rfl, HX1⟩
      case rest =>
        obtain ⟨rfl, wx, rfl, HBx⟩ := hcut
        have HBX := hide (HB.out.trans (HBx.out.mono HB.out.size))
        have d1 : wx.cell? ⟨g, j * 2 + 1, none⟩ = some (.slice vp vn vc) := (HBx.out.cell (p := ⟨g, j * 2 + 1, none⟩) HRX.out.lt).trans HC1.out
        have HOX := hide (Keeps.go (SameIn.ofBelow HBx.out) HOK.out)
        clear HBx
        go_wp2_with fail
        have ek : ((K : Int) + 1) = ((K + 1 : Nat) : Int) := by simp
        rw [ek]
        refine (heldSegmentS_own (A j) (B j) _ (xs[j]'hlt).2 (K + 1) _ hwb hKb HOX.out).mono ?_
        rintro e w2 ⟨rfl, hb2⟩
        have HK2 : Hid (K + 1 + cntSegs (xs[j]'hlt).2 = k + cntL cntMsg (xs.take (j + 1))) := by rw [HSN.out j hlt, HKE.out]; exact (by unfold cntMsg; omega : k + cntL cntMsg (xs.take j) + 1 + cntSegs (xs[j]'hlt).2 = k + (cntL cntMsg (xs.take j) + cntMsg (xs[j]'hlt)))
        have HB2 := hide (HBX.out.trans (hb2.mono HBX.out.size))
        have hpos : ¬ (((K + 1 + cntSegs (xs[j]'hlt).2 : Nat) : Int)) < 0 := by omega
        clear hb2 ek d1
        go_wp2
        go_roundw
        case rel => exact ⟨_, j + 1, _, rfl, by omega, by go_num, rfl, HK2, HB2⟩
        case measure => simp [intOf]; omega
    · have HKF : Hid (K = k + cntMsgs xs) := by have := HKE.out; rw [List.take_of_length_le (by omega)] at this; exact this
      go_wp2
      go_ret
      exact ⟨ret_int (by rw [HKF.out]), HB.out⟩

set_option maxHeartbeats 4000000 in
theorem heldBatchS_own (lo hi : Nat) (v : Value) (xs : List Bat) (k : Nat) (w : World) (hn : wBats xs ≤ 1048576) (hk : k + wBats xs ≤ 4000000) (hr : OBats lo hi w v (mkBats k xs)) :
    Calls Tryz.prog 74 #[v, .int .i64 (k : Int)] w fun e w' => e = .returned (.int .i64 ((k + cntBats xs : Nat) : Int)) ∧ Below w.heap.size w w' := by
  have hl : xs.length ≤ 1048576 := Nat.le_trans (wL_len _ xs) hn
  have HC := hide (fun i h => bat_step xs i h)
  have HSN := hide (fun i h => cntL_snoc cntBat xs i h)
  have HM := hide (wBats_mem hn).2
  have HML := hide (show (mkBats k xs).length = xs.length from mkL_len cntBat mkBat xs k)
  obtain ⟨p, cap, hv, h1, h2, h4⟩ := hr
  rw [HML.out] at h1 hv
  subst hv
  by_cases h0 : xs.length = 0
  · obtain rfl : xs = [] := List.eq_nil_of_length_eq_zero h0
    clear h4 HC HM HSN HML
    go_enter Tryz.func74, Tryz.ntmps74
    go_wp2
    refine wp_loop_rounds 1 ?_
    rw [rounds_succ]
    go_wp2
    go_ret
    exact ⟨rfl, Below.refl _ _⟩
  obtain ⟨g, cs, A, B, rfl, ga, gb, hrow, hcl, hE, hD⟩ := h4 (by rw [HML.out]; omega)
  have HK := hide hk
  have HR := hide hrow
  have HE := hide hE
  unfold maxLen at h2
  clear h4 hrow hcl hE hD hk hn ga gb
  go_enter Tryz.func74, Tryz.ntmps74
  go_wp2
  go_loopw [1, 5] (fun x i wr => ∃ (X : World) (j K : Nat), X = wr ∧ j ≤ xs.length ∧ i = .int .i64 (j : Int) ∧ x = .int .i64 (K : Int) ∧ Hid (K = k + cntL cntBat (xs.take j)) ∧ Hid (Below w.heap.size w X)) (fun _ i _ => xs.length - (intOf i).toNat)
  case atStart => exact ⟨_, 0, k, rfl, Nat.zero_le _, rfl, rfl, hide (by simp [cntL]), hide (Below.refl _ _)⟩
  case round =>
    obtain ⟨X, j, K, rfl, hj, rfl, rfl, HKE, HB⟩ := hrel
    by_cases hlt : j < xs.length
    · have hjm : j < (mkBats k xs).length := by rw [HML.out]; exact hlt
      have hget : (mkBats k xs)[j] = mkBat K (xs[j]'hlt) := by rw [HKE.out]; exact mkL_get cntBat mkBat xs k j hlt hjm
      obtain ⟨e0, e1, e2, e3, e4, u, e5, e6⟩ := HE.out j hjm
      rw [hget] at e0 e6
      have e7 := Keeps.go (SameIn.ofBelow HB.out) e6
      have rowX := HR.out.below HB.out HR.out.lt
      have c0 : X.cell? ⟨g, j * 2, none⟩ = some (.string (markOf K)) := by rw [rowX.cell]; exact e0
      have c1 : X.cell? ⟨g, j * 2 + 1, none⟩ = some u := by rw [rowX.cell]; exact e5
      have hKb : K + 1 + wMsgs (xs[j]'hlt).2 ≤ 4000000 := by have h1 := HC.out j hlt; have h2 := HK.out; rw [HKE.out]; omega
      have hwb : wMsgs (xs[j]'hlt).2 ≤ 1048576 := (HM.out j hlt).1
      have HOK : Hid (OMsgs (A j) (B j) X u (mkMsgs (K + 1) (xs[j]'hlt).2)) := hide e7
      obtain ⟨vp, vn, vc, hvj⟩ : ∃ p n c, u = .slice p n c := by obtain ⟨p, c, e⟩ := e7.isSlice; exact ⟨p, _, c, e⟩
      subst hvj
      have hji : (j : Int) < (xs.length : Int) := by omega
      have hj0 : (0 : Int) ≤ (j : Int) := by omega
      have HSS := hide (show ∀ y, Below X.heap.size X y → y.cell? ⟨g, j * 2, none⟩ = some (.string (markOf K)) from fun y h => (h.cell (p := ⟨g, j * 2, none⟩) rowX.lt).trans c0)
      have HRX := hide rowX
      have HC1 := hide c1
      clear e0 e1 e2 e3 e4 e5 e6 e7 rowX c0 c1 hget
      go_wp2_with fail
      go_cut [19] (fun t wz => t = .bool false ∧ ∃ wx, wx = wz ∧ Hid (Below X.heap.size X wx))
      case first =>
        refine wp_region_held (S := (fun y : World => y.cell? ⟨g, j * 2, none⟩ = some (.string (markOf K)))) (by kernel_rfl) ?_
        have HX0 : Hid (Below X.heap.size X { X with drawn := X.drawn + 1 }) := (Below.refl _ _).drew
        generalize ({ X with drawn := X.drawn + 1 } : World) = X0 at HX0 ⊢
        have HS := hide (HSS.out _ HX0.out)
        refine wpAnyH_take (i := 0) (oi := _) (v := .slice (some ⟨g, 0, none⟩) xs.length cap) rfl (by kernel_rfl) (by kernel_rfl) (by kernel_rfl) (fun _ _ _ h => h) (Or.inl ⟨by rfl, by intro w hSw; go_split_ands; go_simp⟩) HS.out ?_
        simp only [Act.put, List.getElem_toArray, List.getElem_cons_zero, List.setIfInBounds_toArray, List.set_cons_zero, List.set_cons_succ]
        refine wpAnyH_take (i := 1) (oi := _) (v := .int .i64 (j : Int)) rfl (by kernel_rfl) (by kernel_rfl) (by kernel_rfl) (fun _ _ _ h => h) (Or.inl ⟨by rfl, by intro w hSw; go_split_ands; go_simp⟩) HS.out ?_
        simp only [Act.put, List.getElem_toArray, List.getElem_cons_zero, List.getElem_cons_succ, List.setIfInBounds_toArray, List.set_cons_zero, List.set_cons_succ]
        refine wpAnyH_take (i := 2) (oi := _) (v := .pointer (some ⟨g, j * 2, none⟩)) rfl (by kernel_rfl) (by kernel_rfl) (by kernel_rfl) (fun _ _ _ h => h) (Or.inl ⟨by rfl, by intro w hSw; go_split_ands; go_simp⟩) HS.out ?_
        simp only [Act.put, List.getElem_toArray, List.getElem_cons_zero, List.getElem_cons_succ, List.setIfInBounds_toArray, List.set_cons_zero, List.set_cons_succ]
        refine wpAnyH_take (i := 3) (oi := _) (v := .pointer (some ⟨g, j * 2, none⟩)) rfl (by kernel_rfl) (by kernel_rfl) (by kernel_rfl) (fun _ _ _ h => h) (Or.inl ⟨by rfl, by intro w hSw; go_split_ands; go_simp⟩) HS.out ?_
        simp only [Act.put, List.getElem_toArray, List.getElem_cons_zero, List.getElem_cons_succ, List.setIfInBounds_toArray, List.set_cons_zero, List.set_cons_succ]
        refine wpAnyH_take (i := 4) (oi := _) (v := .string (markOf K)) rfl (by kernel_rfl) (by kernel_rfl) (by kernel_rfl) (fun _ _ _ h => h) (Or.inl ⟨by rfl, by intro w hSw; go_split_ands; go_simp⟩) HS.out ?_
        simp only [Act.put, List.getElem_toArray, List.getElem_cons_zero, List.getElem_cons_succ, List.setIfInBounds_toArray, List.set_cons_zero, List.set_cons_succ]
        refine wpAnyH_take (i := 5) (oi := _) (v := .int .i64 (K : Int)) rfl (by kernel_rfl) (by kernel_rfl) (by kernel_rfl) (fun _ _ _ h => h) (Or.inl ⟨by rfl, by intro w hSw; go_split_ands; go_simp⟩) HS.out ?_
        simp only [Act.put, List.getElem_toArray, List.getElem_cons_zero, List.getElem_cons_succ, List.setIfInBounds_toArray, List.set_cons_zero, List.set_cons_succ]
        refine wpAnyH_ready (rs := [6]) (by kernel_rfl) (by simp) ?_
        refine AllReadyH.cons (o := _) rfl (fun KK hK => ?_) AllReadyH.nil
        go_simp
        refine (markText_any _ _ (by omega)).mono ?_
        rintro e X1 ⟨rfl, hb1⟩
        have HX1 := hide (HX0.out.trans (hb1.mono HX0.out.size))
        refine hK.out _ _ (HSS.out _ HX1.out) (fun _ => ?_)
        clear hK HS hb1 HX0
        have HS := hide (HSS.out _ HX1.out)
        refine wpAnyH_take (i := 7) (oi := _) (v := .bool false) rfl (by kernel_rfl) (by kernel_rfl) (by kernel_rfl) (fun _ _ _ h => h) (Or.inl ⟨by rfl, by intro w hSw; go_split_ands; go_simp⟩) HS.out ?_
        simp only [Act.put, List.getElem_toArray, List.getElem_cons_zero, List.getElem_cons_succ, List.setIfInBounds_toArray, List.set_cons_zero, List.set_cons_succ]
        refine wpAnyH_done (by kernel_rfl) ?_ _
        go_wp2_with fail
        go_meet
        exact ⟨rfl, _, rfl, HX1⟩
      case rest =>
        obtain ⟨rfl, wx, rfl, HBx⟩ := hcut
        have HBX := hide (HB.out.trans (HBx.out.mono HB.out.size))
        have d1 : wx.cell? ⟨g, j * 2 + 1, none⟩ = some (.slice vp vn vc) := (HBx.out.cell (p := ⟨g, j * 2 + 1, none⟩) HRX.out.lt).trans HC1.out
        have HOX := hide (Keeps.go (SameIn.ofBelow HBx.out) HOK.out)
        clear HBx
        go_wp2_with fail
        have ek : ((K : Int) + 1) = ((K + 1 : Nat) : Int) := by simp
        rw [ek]
        refine (heldMessageS_own (A j) (B j) _ (xs[j]'hlt).2 (K + 1) _ hwb hKb HOX.out).mono ?_
        rintro e w2 ⟨rfl, hb2⟩
        have HK2 : Hid (K + 1 + cntMsgs (xs[j]'hlt).2 = k + cntL cntBat (xs.take (j + 1))) := by rw [HSN.out j hlt, HKE.out]; exact (by unfold cntBat; omega : k + cntL cntBat (xs.take j) + 1 + cntMsgs (xs[j]'hlt).2 = k + (cntL cntBat (xs.take j) + cntBat (xs[j]'hlt)))
        have HB2 := hide (HBX.out.trans (hb2.mono HBX.out.size))
        have hpos : ¬ (((K + 1 + cntMsgs (xs[j]'hlt).2 : Nat) : Int)) < 0 := by omega
        clear hb2 ek d1
        go_wp2
        go_roundw
        case rel => exact ⟨_, j + 1, _, rfl, by omega, by go_num, rfl, HK2, HB2⟩
        case measure => simp [intOf]; omega
    · have HKF : Hid (K = k + cntBats xs) := by have := HKE.out; rw [List.take_of_length_le (by omega)] at this; exact this
      go_wp2
      go_ret
      exact ⟨ret_int (by rw [HKF.out]), HB.out⟩

set_option maxHeartbeats 1000000 in
theorem heldFile_own (lo hi : Nat) (n : ByteArray) (v : Value) (xs : List Bat) (k : Nat) (w : World) (hn : wBats xs ≤ 1048576) (hk : k + wBats xs ≤ 4000000) (hr : OBats lo hi w v (mkBats k xs)) :
    Calls Tryz.prog 54 #[.agg #[.string n, v], .int .i64 (k : Int)] w fun e w' => e = .returned (.int .i64 ((k + cntBats xs : Nat) : Int)) ∧ Below w.heap.size w w' := by
  obtain ⟨p, c, hv⟩ := hr.isSlice
  have hml : (mkBats k xs).length = xs.length := mkL_len cntBat mkBat xs k
  rw [hml] at hv
  subst hv
  clear hml
  have hb0 : Below w.heap.size w (w.alloc (.cells #[.string n, .slice p xs.length c] 29)) := (Below.refl _ _).alloc (Nat.le_refl _) _
  have HB0 := hide hb0
  have HR := hide (hr.keep (SameIn.ofBelow hb0))
  clear hr hb0
  go_enter Tryz.func54, Tryz.ntmps54
  go_wp2_with fail
  refine (heldBatchS_own lo hi _ xs k _ hn hk HR.out).mono ?_
  rintro e w1 ⟨rfl, hb⟩
  have HB := hide (HB0.out.trans (hb.mono HB0.out.size))
  have hpos : ¬ (((k + cntBats xs : Nat) : Int)) < 0 := by omega
  clear hb
  go_wp2
  go_ret
  exact ⟨rfl, HB.out⟩
end Go.Proofs.YtholbhjfmfanbaaGreat
