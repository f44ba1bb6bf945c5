/- The model's copy of a Field: each list in a row of its own. -/
import Derived.Test.YtholbhjfmfanbaaGreatXG20IClone
import Derived.Test.YtholbhjfmfanbaaGreatXG18SRight
import Derived.OrdersHeld
import Derived.Deep.RegionHeld3
import Derived.Test.YtholbhjfmfanbaaGreatXG15OTo
import Derived.Test.YtholbhjfmfanbaaGreatXG4FMsgS
namespace Go.Proofs.YtholbhjfmfanbaaGreat
open Go.RowKit
theorem step_own {P : Program} {ops : Array Oper} {o : Oper} {a : Act} {w : World} {K : Act → World → Prop} {Q : Exit → Act → World → Prop} {E : Prop} (hgd : o.guard = none) (s x : Operand) (t : TypeId)
    (ho : o.op = .call { callee := .builtin .append, args := #[s, x], argTypes := #[t, t] })
    (base : Nat) (e : TypeId) (i : TypeInfo) (z : Value) (size bytes : Nat) (ht : P.underlying t = some (.slice e)) (hi : P.info? e = some i) (hz : i.zero = some z)
    (hsize : i.size = size) (hby : i.bytes = bytes) (hzs : z.cells.size = size) (hsz : 0 < size)
    (v : Value) (n : Nat) (xs : List Value) (hs : a.eval s = v) (hown : w.ownsRow base e size v n xs)
    (ad : Addr) (m c : Nat) (news : List Value) (hx : a.eval x = .slice (some ad) m c) (hl : news.length = m * size) (hnews : ∀ j u, news[j]? = some u → w.cell? (ad.add j) = some u) (h1 : ∀ u ∈ news, u.oneCell' = true)
    (h63 : n + m ≤ maxLen) (hbytes : (n + m) * bytes ≤ 140737488355328) (hbase : base ≤ w.heap.size)
    (h : ∀ v' w', w'.ownsRow base e size v' (n + m) (xs ++ news) → w.grownBy w' v.ownBlock → (v'.ownBlock = v.ownBlock ∨ v'.ownBlock = some w.heap.size) → K (a.put o.dst v') w') :
    if Region.wanted o (yielded ops a.tmps) = true then Oper.wp P o a w K Q else E := by
  have hw : Region.wanted o (yielded ops a.tmps) = true := by simp [Region.wanted, hgd]
  rw [if_pos hw]
  obtain ⟨v', w', hr, h2, h3, h4, h5⟩ := run_append_own_at (P := P) w base t o.type e i z size bytes ht hi hz hsize hby hzs hsz v n xs hown ad m c news hl hnews h1 h63 hbytes hbase
  unfold Oper.wp execOp
  simp only [ho, resolve, invoke, builtin, Sem.run_bind, Sem.run_pure, Result.andThen_ok, List.map_toArray, List.map_cons, List.map_nil, hs, hx, hr]
  exact h v' w' h2 h3 h5
theorem own_slice1 {w : World} {B : Nat} {T : TypeId} {sz n : Nat} {v : Value} {xs : List Value} (h : w.ownsRow B T sz v n xs) : ∃ p c, v = .slice p n c := by
  rcases h.2 with ⟨rfl, hn⟩ | ⟨g, cap, cur, rfl, _⟩
  · exact ⟨none, 0, by rw [hn]⟩
  · exact ⟨_, _, rfl⟩
theorem row_grown {w w' : World} {g B : Nat} {T : TypeId} {cs : List Value} {row : Option Nat} (h : Row w g T cs) (hg : w.grownBy w' row) (hr : ∀ k, row = Option.some k → B ≤ k) (hB : g < B) : Row w' g T cs := by
  unfold Row; rw [hg.block g h.lt (fun e => by have := hr g e.symm; omega)]; exact h
theorem comp_of_ownS {w : World} {B : Nat} {v : Value} {xs : List ByteArray} (h : OwnS 9 B w v xs) : OComp B w.heap.size w v xs := by
  obtain ⟨hx, ⟨b, c, rfl, hc, rfl⟩ | ⟨g, rest, rfl, hm, hB, hr⟩⟩ := h
  · exact ⟨_, _, rfl, Nat.zero_le _, hc, hx, fun h => absurd h (by simp)⟩
  · exact ⟨_, _, rfl, Nat.le_add_right _ _, hm, hx, fun _ => ⟨g, rest, rfl, hB, hr.lt, rfl, hr⟩⟩
theorem ol_of_own {α : Type} {R : Nat → Nat → World → Value → α → Prop} {w : World} {B k : Nat} {T : TypeId} {l : Value} {vs : List Value} {xs : List α} (h : w.ownsRow B T 1 l k vs) (hk : k = xs.length) (hl : vs.length = k)
    (hE : ∃ A B' : Nat → Nat, (∀ j (h1 : j < vs.length) (h2 : j < xs.length), B ≤ A j ∧ B' j ≤ w.heap.size ∧ (∀ g, l.ownBlock = some g → B' j ≤ g ∨ g < A j) ∧ R (A j) (B' j) w vs[j] xs[j]) ∧ ∀ i j, i < j → j < k → B' i ≤ A j) : OL T R B w.heap.size w l xs := by
  obtain ⟨A, B', hE, hD⟩ := hE
  rcases own_block h with ⟨hn, rfl⟩ | ⟨g, cap2, rest, rfl, hbg, hgs, hnc, hcm, hcr, hrow⟩
  · exact ⟨none, 0, by rw [← hk, hn], by omega, by unfold maxLen; omega, fun h => by omega⟩
  · exact ⟨_, _, by rw [hk], by omega, hcm, fun _ => ⟨g, vs, rest, A, B', rfl, hbg, hgs, hrow, by omega, fun i h1 h2 => by
      obtain ⟨f1, f2, f3, f4⟩ := hE i h1 h2
      exact ⟨f1, f2, f3 g rfl, f4⟩, fun i j h1 h2 => hD i j h1 (by omega)⟩⟩
theorem own_same {w w' : World} {B n sz : Nat} {T : TypeId} {v : Value} {xs : List Value} (h : w.ownsRow B T sz v n xs) (hs : ∀ k, B ≤ k → k < w.heap.size → w'.heap[k]? = w.heap[k]?) : w'.ownsRow B T sz v n xs := by
  have hlt := h.lt
  refine ⟨h.1, ?_⟩
  rcases h.2 with h | ⟨g, cap, cur, rfl, hbg, hg, hnc, hcm, hcs, htake⟩
  · exact .inl h
  · exact .inr ⟨g, cap, cur, rfl, hbg, (hs g hbg (hlt g rfl).2).trans hg, hnc, hcm, hcs, htake⟩
set_option maxHeartbeats 16000000 in
set_option maxRecDepth 100000 in
theorem l05CopyField_any (u : Value) (f : List (List (List ByteArray))) (w : World) (hn : wFld f ≤ 1048576) (hr : RFld 0 w u f) :
    Calls Tryz.prog 103 #[.agg #[u]] w fun e w' => ∃ p c, e = .returned (.agg #[.slice p f.length c]) ∧ OFld w.heap.size w'.heap.size w' (.slice p f.length c) f ∧ Below w.heap.size w w' := by
  obtain ⟨i0, hi, hz0, hz1, hz2⟩ := info_parts Tryz.infoStr
  obtain ⟨j0, hj, hy0, hy1, hy2⟩ := info_parts Tryz.infoCopyComp
  obtain ⟨k0, hk, hx0, hx1, hx2⟩ := info_parts Tryz.infoCopyRep
  have HZC := hide (show (Value.agg #[.slice none 0 0]).cells.size = 1 from rfl)
  have hl : f.length ≤ 1048576 := Nat.le_trans (wL_len _ f) hn
  have HM : Hid (∀ i (h : i < f.length), wRep f[i] ≤ 1048576) := fun i h => by have := wL_mem wRep (List.getElem_mem h); have : wL wRep f ≤ 1048576 := hn; omega
  clear hn
  obtain ⟨p, cap, rfl, h1, h2, h4⟩ := hr
  have H4 := hide h4
  clear h4
  unfold maxLen at h2
  obtain ⟨W, hW⟩ : ∃ W, W = ((w.alloc (.cells #[.slice p f.length cap] 108)).alloc (.cells #[.slice none 0 0] 108)).alloc (.cells #[.slice none 0 0] 108) := ⟨_, rfl⟩
  have HBW := hide (show Below w.heap.size w W by rw [hW]; exact (((Below.refl _ _).alloc (Nat.le_refl _) _).alloc (by simp) _).alloc (by simp; omega) _)
  have HWs := hide (show W.heap.size = w.heap.size + 3 by rw [hW]; simp)
  have HR1 := hide (show Row W w.heap.size 108 [.slice p f.length cap] by rw [hW]; exact ((row_new w [.slice p f.length cap] 108).alloc _).alloc _)
  have HR2 := hide (show Row W (w.heap.size + 1) 108 [.slice none 0 0] by
    rw [hW]
    have := (row_new (w.alloc (.cells #[.slice p f.length cap] 108)) [.slice none 0 0] 108).alloc (.cells #[.slice none 0 0] 108)
    simpa using this)
  have HR3 := hide (show Row W (w.heap.size + 2) 108 [.slice none 0 0] by
    rw [hW]
    have := row_new ((w.alloc (.cells #[.slice p f.length cap] 108)).alloc (.cells #[.slice none 0 0] 108)) [.slice none 0 0] 108
    simpa using this)
  have HO := hide (World.ownsRow_nil W W.heap.size 126 1)
  go_enter Tryz.func103, Tryz.ntmps103
  go_wp2_with fail
  rw [← hW]
  clear hW
  go_loopw [4] (fun i wr => ∃ (X : World) (k : Nat) (l : Value) (vs : List Value), X = wr ∧ k ≤ f.length ∧ i = .int .i64 (k : Int) ∧ Hid (Row X (w.heap.size + 2) 108 [l]) ∧ Hid (X.ownsRow W.heap.size 126 1 l k vs) ∧ Hid (Below w.heap.size w X) ∧ Hid (Row X w.heap.size 108 [.slice p f.length cap]) ∧ Hid (Row X (w.heap.size + 1) 108 [.slice none 0 0]) ∧ Hid (vs.length = k) ∧ Hid (W.heap.size ≤ X.heap.size) ∧ Hid (∃ A B : Nat → Nat, (∀ j (h1 : j < vs.length) (h2 : j < f.length), W.heap.size ≤ A j ∧ B j ≤ X.heap.size ∧ (∀ g, l.ownBlock = some g → B j ≤ g ∨ g < A j) ∧ ORep (A j) (B j) X vs[j] f[j]) ∧ ∀ i j, i < j → j < k → B i ≤ A j)) (fun i _ => f.length - (intOf i).toNat)
  case atStart => exact ⟨_, 0, _, [], rfl, Nat.zero_le _, rfl, HR3, HO, HBW, HR1, HR2, hide rfl, hide (Nat.le_refl _), hide ⟨fun _ => 0, fun _ => 0, fun j h1 _ => absurd h1 (by simp), fun i j _ h => absurd h (by omega)⟩⟩
  case round =>
    obtain ⟨X, k, l, vs, rfl, hkk, rfl, HRX, HOX, HBX, HR1X, HR2X, HLX, HSX, HEX⟩ := hrel
    have cb0 : X.cell? ⟨w.heap.size, 0, none⟩ = some (.slice p f.length cap) := HR1X.out.cell 0
    by_cases hlt : k < f.length
    · obtain ⟨g, off, hp, hg, _, hc⟩ := H4.out (by omega)
      subst hp
      obtain ⟨u1, hu1, hru1⟩ := hc k hlt
      have HXM := hide (HM.out k hlt)
      have hki : (k : Int) < (f.length : Int) := by omega
      obtain ⟨rp, hrp⟩ : ∃ rp, rp = f[k]'hlt := ⟨_, rfl⟩
      rw [← hrp] at hru1 HXM
      have HRP := hide hrp
      clear hrp hc
      obtain ⟨p2, cap2, rfl, y1, y2, y4⟩ := hru1
      have Y4 := hide y4
      clear y4
      unfold maxLen at y2
      have hrl : rp.length ≤ 1048576 := Nat.le_trans (wL_len _ rp) HXM.out
      have HCM : Hid (∀ i (h : i < rp.length), rp[i].length ≤ 1048576) := fun i h => by
        have h1 := wL_mem wComp (List.getElem_mem h)
        have h2 := wL_len ByteArray.size rp[i]
        have h3 : wL wComp rp ≤ 1048576 := HXM.out
        have h4 : wComp rp[i] = wL ByteArray.size rp[i] := rfl
        omega
      have hbA : Below X.heap.size X (X.alloc (.cells #[.slice none 0 0] 126)) := (Below.refl _ _).alloc (Nat.le_refl _) _
      have HBX5 := hide (HBX.out.trans (hbA.mono HBX.out.size))
      have HR5 := hide (row_new X [.slice none 0 0] 126)
      have HX5s : Hid ((X.alloc (.cells #[.slice none 0 0] 126)).heap.size = X.heap.size + 1) := hide (by simp)
      have HBA := hide hbA
      have HO5 := hide (World.ownsRow_nil (X.alloc (.cells #[.slice none 0 0] 126)) (X.heap.size + 1) 138 1)
      have hu1 := hide hu1
      clear hbA
      go_wp2_with fail
      obtain ⟨X5, hX5⟩ : ∃ X5, X5 = X.alloc (.cells #[.slice none 0 0] 126) := ⟨_, rfl⟩
      rw [← hX5] at HBX5 HR5 HX5s HO5 HBA ⊢
      clear hX5
      obtain ⟨T5, hT5⟩ : ∃ T5, T5 = X.heap.size := ⟨_, rfl⟩
      rw [← hT5] at HR5 HX5s HO5 HBA ⊢
      have HT5 := hide (show w.heap.size + 3 ≤ T5 by rw [hT5]; have := HSX.out; have := HWs.out; omega)
      have HTX := hide hT5
      clear hT5
      have cb : X5.cell? ⟨w.heap.size, 0, none⟩ = some (.slice (some ⟨g, off, none⟩) f.length cap) := (HBA.out.cell (p := ⟨w.heap.size, 0, none⟩) (by have := HT5.out; show w.heap.size < T5; omega)).trans cb0
      go_loopw [6] (fun i wr => ∃ (Y : World) (k2 : Nat) (l2 : Value) (vs2 : List Value), Y = wr ∧ k2 ≤ rp.length ∧ i = .int .i64 (k2 : Int) ∧ Hid (Row Y T5 126 [l2]) ∧ Hid (Y.ownsRow (T5 + 1) 138 1 l2 k2 vs2) ∧ Hid (Below T5 X5 Y) ∧ Hid (vs2.length = k2) ∧ Hid (T5 + 1 ≤ Y.heap.size) ∧ Hid (∃ A B : Nat → Nat, (∀ j (h1 : j < vs2.length) (h2 : j < rp.length), T5 + 1 ≤ A j ∧ B j ≤ Y.heap.size ∧ (∀ g, l2.ownBlock = some g → B j ≤ g ∨ g < A j) ∧ OComp (A j) (B j) Y vs2[j] rp[j]) ∧ ∀ i j, i < j → j < k2 → B i ≤ A j)) (fun i _ => rp.length - (intOf i).toNat)
      case atStart => exact ⟨_, 0, _, [], rfl, Nat.zero_le _, rfl, HR5, HO5, hide (Below.refl _ _), hide rfl, hide (by rw [HX5s.out]; exact Nat.le_refl _), hide ⟨fun _ => 0, fun _ => 0, fun j h1 _ => absurd h1 (by simp), fun i j _ h => absurd h (by omega)⟩⟩
      case round =>
        obtain ⟨Y, k2, l2, vs2, rfl, hk2, rfl, HRY, HOY, HBY, HLY, HSY, HEY⟩ := hrel
        have HBYw := hide (HBX5.out.trans (HBY.out.mono (by have := HT5.out; omega)))
        have d0 : Y.cell? ⟨w.heap.size, 0, none⟩ = some (.slice (some ⟨g, off, none⟩) f.length cap) := (HBY.out.cell (p := ⟨w.heap.size, 0, none⟩) (by have := HT5.out; show w.heap.size < T5; omega)).trans cb
        have d1 : Y.cell? ⟨g, off + k, none⟩ = some (.slice p2 rp.length cap2) := (HBYw.out.cell (p := ⟨g, off + k, none⟩) hg).trans hu1.out
        by_cases hl2 : k2 < rp.length
        · obtain ⟨g2, off2, hp2, hg2, _, hc2⟩ := Y4.out (by omega)
          subst hp2
          obtain ⟨u2, hu2, hru2⟩ := hc2 k2 hl2
          have hk2i : (k2 : Int) < (rp.length : Int) := by omega
          have HCP := hide (HCM.out k2 hl2)
          obtain ⟨cp, hcpd⟩ : ∃ cp, cp = rp[k2]'hl2 := ⟨_, rfl⟩
          rw [← hcpd] at hru2 HCP
          have HCPD := hide hcpd
          obtain ⟨p3, c3, rfl⟩ := hru2.isSlice
          have hcp := hide hru2
          have hu2 := hide hu2
          clear hc2 hru2 hcpd
          go_wp2_with fail
          refine wp_region_held (S := (fun y : World => y.cell? ⟨w.heap.size, 0, none⟩ = some (.slice (some ⟨g, off, none⟩) f.length cap) ∧ y.cell? ⟨g, off + k, none⟩ = some (.slice (some ⟨g2, off2, none⟩) rp.length cap2) ∧ y.cell? ⟨g2, off2 + k2, none⟩ = some (.slice p3 cp.length c3))) (by kernel_rfl) ?_
          have hbd : Below Y.heap.size Y { Y with drawn := Y.drawn + 1 } := (Below.refl _ _).drew
          obtain ⟨Z0, hZ0⟩ : ∃ Z0 : World, Z0 = { Y with drawn := Y.drawn + 1 } := ⟨_, rfl⟩
          rw [← hZ0] at hbd ⊢
          have hz0s : Z0.heap.size = Y.heap.size := by rw [hZ0]
          clear hZ0
          have HRowD := hide (HRY.out.below hbd HRY.out.lt)
          have HOD := hide (own_below HOY.out hbd)
          have HElD : Hid (∃ A B : Nat → Nat, (∀ j (h1 : j < vs2.length) (h2 : j < rp.length), T5 + 1 ≤ A j ∧ B j ≤ Z0.heap.size ∧ (∀ g, l2.ownBlock = some g → B j ≤ g ∨ g < A j) ∧ OComp (A j) (B j) Z0 vs2[j] rp[j]) ∧ ∀ i j, i < j → j < k2 → B i ≤ A j) := hide (by
            obtain ⟨A, B, hE, hD⟩ := HEY.out
            refine ⟨A, B, fun j h1 h2 => ?_, hD⟩
            obtain ⟨f1, f2, f3, f4⟩ := hE j h1 h2
            exact ⟨f1, by rw [hz0s]; exact f2, f3, Keeps.go (SameIn.ofBelow hbd) f4⟩)
          have HZ0 := hide (show T5 + 1 ≤ Z0.heap.size by rw [hz0s]; exact HSY.out)
          have HBYZ := hide (HBY.out.trans (hbd.mono (by have := HSY.out; omega)))
          have HVL := HLY
          have HSSY := hide (show ∀ y, Below T5 X5 y → (fun y : World => y.cell? ⟨w.heap.size, 0, none⟩ = some (.slice (some ⟨g, off, none⟩) f.length cap) ∧ y.cell? ⟨g, off + k, none⟩ = some (.slice (some ⟨g2, off2, none⟩) rp.length cap2) ∧ y.cell? ⟨g2, off2 + k2, none⟩ = some (.slice p3 cp.length c3)) y from fun y h =>
            have hb := HBX5.out.trans (h.mono (by have := HT5.out; omega))
            ⟨(h.cell (p := ⟨w.heap.size, 0, none⟩) (by have := HT5.out; show w.heap.size < T5; omega)).trans cb, (hb.cell (p := ⟨g, off + k, none⟩) hg).trans hu1.out, (hb.cell (p := ⟨g2, off2 + k2, none⟩) hg2).trans hu2.out⟩)
          have HSS9 := hide (fun (y : World) (h : Below (T5 + 1) Z0 y) => HSSY.out y (HBYZ.out.trans (h.mono (by omega : T5 ≤ T5 + 1))))
          have HSS := hide (fun (y : World) (h : Below Z0.heap.size Z0 y) => HSS9.out y (h.mono (by have := HZ0.out; omega)))
          have HRC := hide (fun (y : World) (h : Below Z0.heap.size Z0 y) => (show Reads y (.slice p3 cp.length c3) cp from RComp.reads (hcp.out.below (HBX5.out.trans ((HBYZ.out.trans (h.mono (by have := HZ0.out; omega))).mono (by have := HT5.out; omega))))))
          have HBY : Hid (Below T5 X5 Z0) := HBYZ
          have HBZ0 := hide (Below.refl Z0.heap.size Z0)
          have HS := hide (HSS.out Z0 HBZ0.out)
          clear hbd hz0s HRY HOY HEY HSY HBYZ
          refine wpAnyH_take (i := 0) (oi := _) (v := .pointer (some ⟨T5, 0, none⟩)) rfl (by kernel_rfl) (by kernel_rfl) (by kernel_rfl) (fun _ _ _ h => h) (Or.inl ⟨by rfl, by intro w hSw; go_split_ands; go_simp⟩) HS.out ?_
          simp only [Act.put, List.getElem_toArray, List.getElem_cons_zero, List.setIfInBounds_toArray, List.set_cons_zero, List.set_cons_succ]
          refine wpAnyH_take (i := 3) (oi := _) (v := .pointer (some ⟨w.heap.size, 0, none⟩)) rfl (by kernel_rfl) (by kernel_rfl) (by kernel_rfl) (fun _ _ _ h => h) (Or.inl ⟨by rfl, by intro w hSw; go_split_ands; go_simp⟩) HS.out ?_
          simp only [Act.put, List.getElem_toArray, List.getElem_cons_zero, List.getElem_cons_succ, List.setIfInBounds_toArray, List.set_cons_zero, List.set_cons_succ]
          refine wpAnyH_take (i := 4) (oi := _) (v := .slice (some ⟨g, off, none⟩) f.length cap) rfl (by kernel_rfl) (by kernel_rfl) (by kernel_rfl) (fun _ _ _ h => h) (Or.inl ⟨by rfl, by intro w hSw; go_split_ands; go_simp⟩) HS.out ?_
          simp only [Act.put, List.getElem_toArray, List.getElem_cons_zero, List.getElem_cons_succ, List.setIfInBounds_toArray, List.set_cons_zero, List.set_cons_succ]
          refine wpAnyH_take (i := 5) (oi := _) (v := .int .i64 (k : Int)) rfl (by kernel_rfl) (by kernel_rfl) (by kernel_rfl) (fun _ _ _ h => h) (Or.inl ⟨by rfl, by intro w hSw; go_split_ands; go_simp⟩) HS.out ?_
          simp only [Act.put, List.getElem_toArray, List.getElem_cons_zero, List.getElem_cons_succ, List.setIfInBounds_toArray, List.set_cons_zero, List.set_cons_succ]
          refine wpAnyH_take (i := 6) (oi := _) (v := .pointer (some ⟨g, off + k, none⟩)) rfl (by kernel_rfl) (by kernel_rfl) (by kernel_rfl) (fun _ _ _ h => h) (Or.inl ⟨by rfl, by intro w hSw; go_split_ands; go_simp⟩) HS.out ?_
          simp only [Act.put, List.getElem_toArray, List.getElem_cons_zero, List.getElem_cons_succ, List.setIfInBounds_toArray, List.set_cons_zero, List.set_cons_succ]
          refine wpAnyH_take (i := 7) (oi := _) (v := .pointer (some ⟨g, off + k, none⟩)) rfl (by kernel_rfl) (by kernel_rfl) (by kernel_rfl) (fun _ _ _ h => h) (Or.inl ⟨by rfl, by intro w hSw; go_split_ands; go_simp⟩) HS.out ?_
          simp only [Act.put, List.getElem_toArray, List.getElem_cons_zero, List.getElem_cons_succ, List.setIfInBounds_toArray, List.set_cons_zero, List.set_cons_succ]
          refine wpAnyH_take (i := 8) (oi := _) (v := .slice (some ⟨g2, off2, none⟩) rp.length cap2) rfl (by kernel_rfl) (by kernel_rfl) (by kernel_rfl) (fun _ _ _ h => h) (Or.inl ⟨by rfl, by intro w hSw; go_split_ands; go_simp⟩) HS.out ?_
          simp only [Act.put, List.getElem_toArray, List.getElem_cons_zero, List.getElem_cons_succ, List.setIfInBounds_toArray, List.set_cons_zero, List.set_cons_succ]
          refine wpAnyH_take (i := 9) (oi := _) (v := .int .i64 (k2 : Int)) rfl (by kernel_rfl) (by kernel_rfl) (by kernel_rfl) (fun _ _ _ h => h) (Or.inl ⟨by rfl, by intro w hSw; go_split_ands; go_simp⟩) HS.out ?_
          simp only [Act.put, List.getElem_toArray, List.getElem_cons_zero, List.getElem_cons_succ, List.setIfInBounds_toArray, List.set_cons_zero, List.set_cons_succ]
          refine wpAnyH_take (i := 10) (oi := _) (v := .pointer (some ⟨g2, off2 + k2, none⟩)) rfl (by kernel_rfl) (by kernel_rfl) (by kernel_rfl) (fun _ _ _ h => h) (Or.inl ⟨by rfl, by intro w hSw; go_split_ands; go_simp⟩) HS.out ?_
          simp only [Act.put, List.getElem_toArray, List.getElem_cons_zero, List.getElem_cons_succ, List.setIfInBounds_toArray, List.set_cons_zero, List.set_cons_succ]
          refine wpAnyH_take (i := 11) (oi := _) (v := .pointer (some ⟨g2, off2 + k2, none⟩)) rfl (by kernel_rfl) (by kernel_rfl) (by kernel_rfl) (fun _ _ _ h => h) (Or.inl ⟨by rfl, by intro w hSw; go_split_ands; go_simp⟩) HS.out ?_
          simp only [Act.put, List.getElem_toArray, List.getElem_cons_zero, List.getElem_cons_succ, List.setIfInBounds_toArray, List.set_cons_zero, List.set_cons_succ]
          refine wpAnyH_take (i := 12) (oi := _) (v := .slice p3 cp.length c3) rfl (by kernel_rfl) (by kernel_rfl) (by kernel_rfl) (fun _ _ _ h => h) (Or.inl ⟨by rfl, by intro w hSw; go_split_ands; go_simp⟩) HS.out ?_
          simp only [Act.put, List.getElem_toArray, List.getElem_cons_zero, List.getElem_cons_succ, List.setIfInBounds_toArray, List.set_cons_zero, List.set_cons_succ]
          refine wpAnyH_ready (rs := [1, 2]) (by kernel_rfl) (by simp) ?_
          refine AllReadyH.cons (o := _) rfl (fun K hK => ?_) (AllReadyH.cons (o := _) rfl (fun K hK => ?_) AllReadyH.nil)
          · have c5 : Z0.cell? ⟨T5, 0, none⟩ = some l2 := (HRowD.out.below HBZ0.out HRowD.out.lt).cell 0
            go_simp
            refine hK.out _ _ HS.out (fun _ => ?_)
            clear hK K c5
            refine wpAnyH_ready (rs := [2]) (by kernel_rfl) (by simp) ?_
            refine AllReadyH.cons (o := _) rfl (fun K hK => ?_) AllReadyH.nil
            go_simp
            have HBZ1 := hide (HBZ0.out.alloc HBZ0.out.size (.cells #[] 9))
            refine hK.out _ _ (HSS.out _ HBZ1.out) (fun _ => ?_)
            clear hK K HS
            generalize hZ : Z0.alloc (.cells #[] 9) = Z1 at HBZ1 ⊢
            generalize Z0.heap.size = E5
            clear hZ
            have HS := hide (HSS.out _ HBZ1.out)
            refine wpAnyH_ready (rs := [13]) (by kernel_rfl) (by simp) ?_
            refine AllReadyH.cons (o := _) rfl (fun K hK => ?_) AllReadyH.nil
            refine step_copyS rfl (.tmp 29) (.tmp 39) 136 rfl 9 i0 (.string ⟨#[]⟩) Tryz.underlying136 hi hz0 hz1 hz2 rfl (by exact ⟨_, rfl⟩) (.slice p3 cp.length c3) rfl cp (HRC.out _ HBZ1.out) HCP.out ?_
            intro q5 d5 Z2 ho5 hb5
            have HBZ2 := hide (HBZ1.out.trans (hb5.mono HBZ1.out.size))
            have HNW := hide (comp_of_ownS ho5)
            have HZL := hide (show Z0.heap.size ≤ Z1.heap.size from HBZ1.out.size)
            obtain ⟨LO, hLO⟩ : ∃ LO, LO = Z1.heap.size := ⟨_, rfl⟩
            rw [← hLO] at HNW HZL
            obtain ⟨HI, hHI⟩ : ∃ HI, HI = Z2.heap.size := ⟨_, rfl⟩
            rw [← hHI] at HNW
            have HHI := hide (show HI ≤ Z2.heap.size from Nat.le_of_eq hHI)
            clear ho5 hb5 hLO hHI
            refine hK.out _ _ (HSS.out _ HBZ2.out) (fun _ => ?_)
            clear hK K HS
            have HS := hide (HSS.out _ HBZ2.out)
            simp only [Act.put, List.getElem_toArray, List.getElem_cons_zero, List.getElem_cons_succ, List.setIfInBounds_toArray, List.set_cons_zero, List.set_cons_succ]
            refine wpAnyH_take (i := 14) (oi := _) (v := .agg #[.slice q5 cp.length d5]) rfl (by kernel_rfl) (by kernel_rfl) (by kernel_rfl) (fun _ _ _ h => h) (Or.inl ⟨by rfl, by intro w hSw; go_split_ands; go_simp⟩) HS.out ?_
            simp only [Act.put, List.getElem_toArray, List.getElem_cons_zero, List.getElem_cons_succ, List.setIfInBounds_toArray, List.set_cons_zero, List.set_cons_succ]
            refine wpAnyH_ready (rs := [15]) (by kernel_rfl) (by simp) ?_
            refine AllReadyH.cons (o := _) rfl (fun K hK => ?_) AllReadyH.nil
            go_simp
            have HBZ3 := hide (HBZ2.out.alloc HBZ2.out.size (.cells #[.slice q5 cp.length d5] 138))
            refine hK.out _ _ (HSS.out _ HBZ3.out) (fun _ => ?_)
            clear hK K HS
            have HNW2 := hide (Keeps.go (SameIn.ofBelow ((Below.refl Z2.heap.size Z2).alloc (Nat.le_refl _) (.cells #[.slice q5 cp.length d5] 138))) HNW.out)
            have HR1 := hide (cell_one_new Z2 (.slice q5 cp.length d5) 138)
            have HHI2 : Hid (HI ≤ (Z2.alloc (.cells #[.slice q5 cp.length d5] 138)).heap.size) := hide (by have := HHI.out; simp; omega)
            generalize hZ : Z2.alloc (.cells #[.slice q5 cp.length d5] 138) = Z3 at HBZ3 HNW2 HR1 HHI2 ⊢
            generalize Z2.heap.size = F5 at HR1 ⊢
            clear hZ HNW
            have HS := hide (HSS.out _ HBZ3.out)
            have HOZ := hide (own_below HOD.out HBZ3.out)
            refine wpAnyH_ready (rs := [16]) (by kernel_rfl) (by simp) ?_
            refine AllReadyH.cons (o := _) rfl (fun K hK => ?_) AllReadyH.nil
            refine step_own (w := Z3) rfl (.tmp 28) (.tmp 42) 124 rfl (T5 + 1) 138 j0 _ 1 24 Tryz.underlying124 hj hy0 hy1 hy2 HZC.out (by omega) l2 k2 vs2 rfl HOZ.out ⟨F5, 0, none⟩ 1 _ [.slice q5 cp.length d5] rfl rfl HR1.out (by simp [Value.oneCell']) (by unfold maxLen; omega) (by omega) (by have h5 := HBZ3.out.size; have h6 := HZ0.out; omega) ?_
            intro l3 Z9 hown9 hgrow hat
            obtain ⟨pl, cl, hl3⟩ := own_slice1 hown9
            subst hl3
            have HROW9 := hide (row_grown (HRowD.out.below HBZ3.out HRowD.out.lt) hgrow (fun k hk => (HOZ.out.lt k hk).1) (Nat.lt_succ_self _))
            have HBW := hide (show Below (T5 + 1) Z0 Z9 from (HBZ3.out.mono (by have h6 := HZ0.out; omega)).grown hgrow (by have h5 := HBZ3.out.size; have h6 := HZ0.out; omega) (fun k hk => (HOZ.out.lt k hk).1))
            have HEl9 : Hid (∃ A B : Nat → Nat, (∀ j (h1 : j < (vs2 ++ [Value.slice q5 cp.length d5]).length) (h2 : j < rp.length), T5 + 1 ≤ A j ∧ B j ≤ Z9.heap.size ∧ (∀ g, (Value.slice pl (k2 + 1) cl).ownBlock = some g → B j ≤ g ∨ g < A j) ∧ OComp (A j) (B j) Z9 (vs2 ++ [Value.slice q5 cp.length d5])[j] rp[j]) ∧ ∀ i j, i < j → j < k2 + 1 → B i ≤ A j) := hide (by
              obtain ⟨A, B, hE, hD⟩ := HElD.out
              have hs1 := HBZ3.out.size
              have hs2 := hgrow.size
              have hZ0 := HZ0.out
              have hlo := HZL.out
              have hhi := HHI2.out
              have hvl := HVL.out
              refine ⟨fun i => if i = k2 then LO else A i, fun i => if i = k2 then HI else B i, fun j h1 h2 => ?_, fun i j hij hj => ?_⟩
              · have h1' : j < k2 + 1 := by rw [List.length_append, hvl] at h1; exact h1
                dsimp only
                by_cases hj : j = k2
                · subst hj
                  rw [if_pos rfl, if_pos rfl, List.getElem_append_right (by rw [hvl]; exact Nat.le_refl _)]
                  simp only [hvl, Nat.sub_self, List.getElem_cons_zero]
                  refine ⟨by omega, by omega, fun g hg => ?_, ?_⟩
                  · rcases hat with h | h
                    · rw [h] at hg
                      exact .inr (by have := (HOD.out.lt g hg).2; omega)
                    · rw [h] at hg
                      cases hg
                      exact .inl (by omega)
                  · have e := Keeps.go (grown_in hgrow (fun g hg => .inr (by have := (HOD.out.lt g hg).2; omega))) HNW2.out
                    exact Eq.mp (congrArg (fun c => OComp LO HI Z9 (Value.slice q5 cp.length d5) c) HCPD.out) e
                · have hjk : j < vs2.length := by rw [hvl]; omega
                  obtain ⟨f1, f2, f3, f4⟩ := hE j hjk h2
                  rw [if_neg hj, if_neg hj, List.getElem_append_left hjk]
                  refine ⟨f1, by omega, fun g hg => ?_, Keeps.go (grown_in hgrow f3) (Keeps.go (SameIn.ofBelow HBZ3.out) f4)⟩
                  rcases hat with h | h
                  · rw [h] at hg
                    exact f3 g hg
                  · rw [h] at hg
                    cases hg
                    exact .inl (by omega)
              · have hik : i < vs2.length := by rw [hvl]; omega
                obtain ⟨f1, f2, f3, f4⟩ := hE i hik (by omega)
                dsimp only
                by_cases hjk : j = k2
                · rw [if_pos hjk, if_neg (by omega)]; omega
                · rw [if_neg hjk, if_neg (by omega)]; exact hD i j hij (by omega))
            have HO9 := hide hown9
            clear hown9 hgrow hat
            refine hK.out _ _ (HSS9.out _ HBW.out) (fun _ => ?_)
            clear hK K HS
            have HS := hide (HSS9.out _ HBW.out)
            simp only [Act.put, List.getElem_toArray, List.getElem_cons_zero, List.getElem_cons_succ, List.setIfInBounds_toArray, List.set_cons_zero, List.set_cons_succ]
            refine wpAnyH_take (i := 17) (oi := _) (v := .pointer (some ⟨T5, 0, none⟩)) rfl (by kernel_rfl) (by kernel_rfl) (by kernel_rfl) (fun _ _ _ h => h) (Or.inl ⟨by rfl, by intro w hSw; go_split_ands; go_simp⟩) HS.out ?_
            simp only [Act.put, List.getElem_toArray, List.getElem_cons_zero, List.getElem_cons_succ, List.setIfInBounds_toArray, List.set_cons_zero, List.set_cons_succ]
            refine wpAnyH_ready (rs := [18]) (by kernel_rfl) (by simp) ?_
            refine AllReadyH.cons (o := _) rfl (fun K hK => ?_) AllReadyH.nil
            have c9 : Z9.cell? ⟨T5, 0, none⟩ = some l2 := HROW9.out.cell 0
            have f9 := HROW9.out.free 0
            go_simp
            have HBY2 := hide ((HBY.out.trans (HBW.out.mono (by omega : T5 ≤ T5 + 1))).setCell (p := ⟨T5, 0, none⟩) (Nat.le_refl _) (.slice pl (k2 + 1) cl))
            have HRY2 := hide (HROW9.out.set (j := 0) (.slice pl (k2 + 1) cl))
            have es : (Z9.setCell ⟨T5, 0, none⟩ (.slice pl (k2 + 1) cl)).heap.size = Z9.heap.size := by simp [World.setCell]
            have HOY2 := hide (ownsRow_setCell_below HO9.out (a := ⟨T5, 0, none⟩) (by show T5 < T5 + 1; omega) (.slice pl (k2 + 1) cl))
            have HEY2 : Hid (∃ A B : Nat → Nat, (∀ j (h1 : j < (vs2 ++ [Value.slice q5 cp.length d5]).length) (h2 : j < rp.length), T5 + 1 ≤ A j ∧ B j ≤ (Z9.setCell ⟨T5, 0, none⟩ (.slice pl (k2 + 1) cl)).heap.size ∧ (∀ g, (Value.slice pl (k2 + 1) cl).ownBlock = some g → B j ≤ g ∨ g < A j) ∧ OComp (A j) (B j) (Z9.setCell ⟨T5, 0, none⟩ (.slice pl (k2 + 1) cl)) (vs2 ++ [Value.slice q5 cp.length d5])[j] rp[j]) ∧ ∀ i j, i < j → j < k2 + 1 → B i ≤ A j) := hide (by
              obtain ⟨A, B, hE, hD⟩ := HEl9.out
              refine ⟨A, B, fun j h1 h2 => ?_, hD⟩
              obtain ⟨f1, f2, f3, f4⟩ := hE j h1 h2
              exact ⟨f1, by rw [es]; exact f2, f3, Keeps.go (SameIn.set _ _ (by omega)) f4⟩)
            have HLY2 : Hid ((vs2 ++ [Value.slice q5 cp.length d5]).length = k2 + 1) := hide (by rw [List.length_append, HVL.out]; rfl)
            have HSY2 : Hid (T5 + 1 ≤ (Z9.setCell ⟨T5, 0, none⟩ (.slice pl (k2 + 1) cl)).heap.size) := hide (by rw [es]; have h5 := HBW.out.size; have h6 := HZ0.out; omega)
            clear es
            refine hK.out _ _ (HSSY.out _ HBY2.out) (fun _ => ?_)
            clear hK K HS
            refine wpAnyH_done (by kernel_rfl) ?_ _
            go_wp2
            go_roundw
            case rel => exact ⟨_, k2 + 1, _, _, rfl, by omega, by go_num, HRY2, HOY2, HBY2, HLY2, HSY2, HEY2⟩
            case measure => simp [intOf]; omega
          · go_simp
            have HBZ1 := hide (HBZ0.out.alloc HBZ0.out.size (.cells #[] 9))
            refine hK.out _ _ (HSS.out _ HBZ1.out) (fun _ => ?_)
            clear hK K HS
            generalize hZ : Z0.alloc (.cells #[] 9) = Z1 at HBZ1 ⊢
            generalize Z0.heap.size = E5
            clear hZ
            have HS := hide (HSS.out _ HBZ1.out)
            refine wpAnyH_ready (rs := [1, 13]) (by kernel_rfl) (by simp) ?_
            refine AllReadyH.cons (o := _) rfl (fun K hK => ?_) (AllReadyH.cons (o := _) rfl (fun K hK => ?_) AllReadyH.nil)
            · have c5 : Z1.cell? ⟨T5, 0, none⟩ = some l2 := (HRowD.out.below HBZ1.out HRowD.out.lt).cell 0
              go_simp
              refine hK.out _ _ HS.out (fun _ => ?_)
              clear hK K c5
              refine wpAnyH_ready (rs := [13]) (by kernel_rfl) (by simp) ?_
              refine AllReadyH.cons (o := _) rfl (fun K hK => ?_) AllReadyH.nil
              refine step_copyS rfl (.tmp 29) (.tmp 39) 136 rfl 9 i0 (.string ⟨#[]⟩) Tryz.underlying136 hi hz0 hz1 hz2 rfl (by exact ⟨_, rfl⟩) (.slice p3 cp.length c3) rfl cp (HRC.out _ HBZ1.out) HCP.out ?_
              intro q5 d5 Z2 ho5 hb5
              have HBZ2 := hide (HBZ1.out.trans (hb5.mono HBZ1.out.size))
              have HNW := hide (comp_of_ownS ho5)
              have HZL := hide (show Z0.heap.size ≤ Z1.heap.size from HBZ1.out.size)
              obtain ⟨LO, hLO⟩ : ∃ LO, LO = Z1.heap.size := ⟨_, rfl⟩
              rw [← hLO] at HNW HZL
              obtain ⟨HI, hHI⟩ : ∃ HI, HI = Z2.heap.size := ⟨_, rfl⟩
              rw [← hHI] at HNW
              have HHI := hide (show HI ≤ Z2.heap.size from Nat.le_of_eq hHI)
              clear ho5 hb5 hLO hHI
              refine hK.out _ _ (HSS.out _ HBZ2.out) (fun _ => ?_)
              clear hK K HS
              have HS := hide (HSS.out _ HBZ2.out)
              simp only [Act.put, List.getElem_toArray, List.getElem_cons_zero, List.getElem_cons_succ, List.setIfInBounds_toArray, List.set_cons_zero, List.set_cons_succ]
              refine wpAnyH_take (i := 14) (oi := _) (v := .agg #[.slice q5 cp.length d5]) rfl (by kernel_rfl) (by kernel_rfl) (by kernel_rfl) (fun _ _ _ h => h) (Or.inl ⟨by rfl, by intro w hSw; go_split_ands; go_simp⟩) HS.out ?_
              simp only [Act.put, List.getElem_toArray, List.getElem_cons_zero, List.getElem_cons_succ, List.setIfInBounds_toArray, List.set_cons_zero, List.set_cons_succ]
              refine wpAnyH_ready (rs := [15]) (by kernel_rfl) (by simp) ?_
              refine AllReadyH.cons (o := _) rfl (fun K hK => ?_) AllReadyH.nil
              go_simp
              have HBZ3 := hide (HBZ2.out.alloc HBZ2.out.size (.cells #[.slice q5 cp.length d5] 138))
              refine hK.out _ _ (HSS.out _ HBZ3.out) (fun _ => ?_)
              clear hK K HS
              have HNW2 := hide (Keeps.go (SameIn.ofBelow ((Below.refl Z2.heap.size Z2).alloc (Nat.le_refl _) (.cells #[.slice q5 cp.length d5] 138))) HNW.out)
              have HR1 := hide (cell_one_new Z2 (.slice q5 cp.length d5) 138)
              have HHI2 : Hid (HI ≤ (Z2.alloc (.cells #[.slice q5 cp.length d5] 138)).heap.size) := hide (by have := HHI.out; simp; omega)
              generalize hZ : Z2.alloc (.cells #[.slice q5 cp.length d5] 138) = Z3 at HBZ3 HNW2 HR1 HHI2 ⊢
              generalize Z2.heap.size = F5 at HR1 ⊢
              clear hZ HNW
              have HS := hide (HSS.out _ HBZ3.out)
              have HOZ := hide (own_below HOD.out HBZ3.out)
              refine wpAnyH_ready (rs := [16]) (by kernel_rfl) (by simp) ?_
              refine AllReadyH.cons (o := _) rfl (fun K hK => ?_) AllReadyH.nil
              refine step_own (w := Z3) rfl (.tmp 28) (.tmp 42) 124 rfl (T5 + 1) 138 j0 _ 1 24 Tryz.underlying124 hj hy0 hy1 hy2 HZC.out (by omega) l2 k2 vs2 rfl HOZ.out ⟨F5, 0, none⟩ 1 _ [.slice q5 cp.length d5] rfl rfl HR1.out (by simp [Value.oneCell']) (by unfold maxLen; omega) (by omega) (by have h5 := HBZ3.out.size; have h6 := HZ0.out; omega) ?_
              intro l3 Z9 hown9 hgrow hat
              obtain ⟨pl, cl, hl3⟩ := own_slice1 hown9
              subst hl3
              have HROW9 := hide (row_grown (HRowD.out.below HBZ3.out HRowD.out.lt) hgrow (fun k hk => (HOZ.out.lt k hk).1) (Nat.lt_succ_self _))
              have HBW := hide (show Below (T5 + 1) Z0 Z9 from (HBZ3.out.mono (by have h6 := HZ0.out; omega)).grown hgrow (by have h5 := HBZ3.out.size; have h6 := HZ0.out; omega) (fun k hk => (HOZ.out.lt k hk).1))
              have HEl9 : Hid (∃ A B : Nat → Nat, (∀ j (h1 : j < (vs2 ++ [Value.slice q5 cp.length d5]).length) (h2 : j < rp.length), T5 + 1 ≤ A j ∧ B j ≤ Z9.heap.size ∧ (∀ g, (Value.slice pl (k2 + 1) cl).ownBlock = some g → B j ≤ g ∨ g < A j) ∧ OComp (A j) (B j) Z9 (vs2 ++ [Value.slice q5 cp.length d5])[j] rp[j]) ∧ ∀ i j, i < j → j < k2 + 1 → B i ≤ A j) := hide (by
                obtain ⟨A, B, hE, hD⟩ := HElD.out
                have hs1 := HBZ3.out.size
                have hs2 := hgrow.size
                have hZ0 := HZ0.out
                have hlo := HZL.out
                have hhi := HHI2.out
                have hvl := HVL.out
                refine ⟨fun i => if i = k2 then LO else A i, fun i => if i = k2 then HI else B i, fun j h1 h2 => ?_, fun i j hij hj => ?_⟩
                · have h1' : j < k2 + 1 := by rw [List.length_append, hvl] at h1; exact h1
                  dsimp only
                  by_cases hj : j = k2
                  · subst hj
                    rw [if_pos rfl, if_pos rfl, List.getElem_append_right (by rw [hvl]; exact Nat.le_refl _)]
                    simp only [hvl, Nat.sub_self, List.getElem_cons_zero]
                    refine ⟨by omega, by omega, fun g hg => ?_, ?_⟩
                    · rcases hat with h | h
                      · rw [h] at hg
                        exact .inr (by have := (HOD.out.lt g hg).2; omega)
                      · rw [h] at hg
                        cases hg
                        exact .inl (by omega)
                    · have e := Keeps.go (grown_in hgrow (fun g hg => .inr (by have := (HOD.out.lt g hg).2; omega))) HNW2.out
                      exact Eq.mp (congrArg (fun c => OComp LO HI Z9 (Value.slice q5 cp.length d5) c) HCPD.out) e
                  · have hjk : j < vs2.length := by rw [hvl]; omega
                    obtain ⟨f1, f2, f3, f4⟩ := hE j hjk h2
                    rw [if_neg hj, if_neg hj, List.getElem_append_left hjk]
                    refine ⟨f1, by omega, fun g hg => ?_, Keeps.go (grown_in hgrow f3) (Keeps.go (SameIn.ofBelow HBZ3.out) f4)⟩
                    rcases hat with h | h
                    · rw [h] at hg
                      exact f3 g hg
                    · rw [h] at hg
                      cases hg
                      exact .inl (by omega)
                · have hik : i < vs2.length := by rw [hvl]; omega
                  obtain ⟨f1, f2, f3, f4⟩ := hE i hik (by omega)
                  dsimp only
                  by_cases hjk : j = k2
                  · rw [if_pos hjk, if_neg (by omega)]; omega
                  · rw [if_neg hjk, if_neg (by omega)]; exact hD i j hij (by omega))
              have HO9 := hide hown9
              clear hown9 hgrow hat
              refine hK.out _ _ (HSS9.out _ HBW.out) (fun _ => ?_)
              clear hK K HS
              have HS := hide (HSS9.out _ HBW.out)
              simp only [Act.put, List.getElem_toArray, List.getElem_cons_zero, List.getElem_cons_succ, List.setIfInBounds_toArray, List.set_cons_zero, List.set_cons_succ]
              refine wpAnyH_take (i := 17) (oi := _) (v := .pointer (some ⟨T5, 0, none⟩)) rfl (by kernel_rfl) (by kernel_rfl) (by kernel_rfl) (fun _ _ _ h => h) (Or.inl ⟨by rfl, by intro w hSw; go_split_ands; go_simp⟩) HS.out ?_
              simp only [Act.put, List.getElem_toArray, List.getElem_cons_zero, List.getElem_cons_succ, List.setIfInBounds_toArray, List.set_cons_zero, List.set_cons_succ]
              refine wpAnyH_ready (rs := [18]) (by kernel_rfl) (by simp) ?_
              refine AllReadyH.cons (o := _) rfl (fun K hK => ?_) AllReadyH.nil
              have c9 : Z9.cell? ⟨T5, 0, none⟩ = some l2 := HROW9.out.cell 0
              have f9 := HROW9.out.free 0
              go_simp
              have HBY2 := hide ((HBY.out.trans (HBW.out.mono (by omega : T5 ≤ T5 + 1))).setCell (p := ⟨T5, 0, none⟩) (Nat.le_refl _) (.slice pl (k2 + 1) cl))
              have HRY2 := hide (HROW9.out.set (j := 0) (.slice pl (k2 + 1) cl))
              have es : (Z9.setCell ⟨T5, 0, none⟩ (.slice pl (k2 + 1) cl)).heap.size = Z9.heap.size := by simp [World.setCell]
              have HOY2 := hide (ownsRow_setCell_below HO9.out (a := ⟨T5, 0, none⟩) (by show T5 < T5 + 1; omega) (.slice pl (k2 + 1) cl))
              have HEY2 : Hid (∃ A B : Nat → Nat, (∀ j (h1 : j < (vs2 ++ [Value.slice q5 cp.length d5]).length) (h2 : j < rp.length), T5 + 1 ≤ A j ∧ B j ≤ (Z9.setCell ⟨T5, 0, none⟩ (.slice pl (k2 + 1) cl)).heap.size ∧ (∀ g, (Value.slice pl (k2 + 1) cl).ownBlock = some g → B j ≤ g ∨ g < A j) ∧ OComp (A j) (B j) (Z9.setCell ⟨T5, 0, none⟩ (.slice pl (k2 + 1) cl)) (vs2 ++ [Value.slice q5 cp.length d5])[j] rp[j]) ∧ ∀ i j, i < j → j < k2 + 1 → B i ≤ A j) := hide (by
                obtain ⟨A, B, hE, hD⟩ := HEl9.out
                refine ⟨A, B, fun j h1 h2 => ?_, hD⟩
                obtain ⟨f1, f2, f3, f4⟩ := hE j h1 h2
                exact ⟨f1, by rw [es]; exact f2, f3, Keeps.go (SameIn.set _ _ (by omega)) f4⟩)
              have HLY2 : Hid ((vs2 ++ [Value.slice q5 cp.length d5]).length = k2 + 1) := hide (by rw [List.length_append, HVL.out]; rfl)
              have HSY2 : Hid (T5 + 1 ≤ (Z9.setCell ⟨T5, 0, none⟩ (.slice pl (k2 + 1) cl)).heap.size) := hide (by rw [es]; have h5 := HBW.out.size; have h6 := HZ0.out; omega)
              clear es
              refine hK.out _ _ (HSSY.out _ HBY2.out) (fun _ => ?_)
              clear hK K HS
              refine wpAnyH_done (by kernel_rfl) ?_ _
              go_wp2
              go_roundw
              case rel => exact ⟨_, k2 + 1, _, _, rfl, by omega, by go_num, HRY2, HOY2, HBY2, HLY2, HSY2, HEY2⟩
              case measure => simp [intOf]; omega
            · refine step_copyS rfl (.tmp 29) (.tmp 39) 136 rfl 9 i0 (.string ⟨#[]⟩) Tryz.underlying136 hi hz0 hz1 hz2 rfl (by exact ⟨_, rfl⟩) (.slice p3 cp.length c3) rfl cp (HRC.out _ HBZ1.out) HCP.out ?_
              intro q5 d5 Z2 ho5 hb5
              have HBZ2 := hide (HBZ1.out.trans (hb5.mono HBZ1.out.size))
              have HNW := hide (comp_of_ownS ho5)
              have HZL := hide (show Z0.heap.size ≤ Z1.heap.size from HBZ1.out.size)
              obtain ⟨LO, hLO⟩ : ∃ LO, LO = Z1.heap.size := ⟨_, rfl⟩
              rw [← hLO] at HNW HZL
              obtain ⟨HI, hHI⟩ : ∃ HI, HI = Z2.heap.size := ⟨_, rfl⟩
              rw [← hHI] at HNW
              have HHI := hide (show HI ≤ Z2.heap.size from Nat.le_of_eq hHI)
              clear ho5 hb5 hLO hHI
              refine hK.out _ _ (HSS.out _ HBZ2.out) (fun _ => ?_)
              clear hK K HS
              have HS := hide (HSS.out _ HBZ2.out)
              simp only [Act.put, List.getElem_toArray, List.getElem_cons_zero, List.getElem_cons_succ, List.setIfInBounds_toArray, List.set_cons_zero, List.set_cons_succ]
              refine wpAnyH_take (i := 14) (oi := _) (v := .agg #[.slice q5 cp.length d5]) rfl (by kernel_rfl) (by kernel_rfl) (by kernel_rfl) (fun _ _ _ h => h) (Or.inl ⟨by rfl, by intro w hSw; go_split_ands; go_simp⟩) HS.out ?_
              simp only [Act.put, List.getElem_toArray, List.getElem_cons_zero, List.getElem_cons_succ, List.setIfInBounds_toArray, List.set_cons_zero, List.set_cons_succ]
              refine wpAnyH_ready (rs := [1, 15]) (by kernel_rfl) (by simp) ?_
              refine AllReadyH.cons (o := _) rfl (fun K hK => ?_) (AllReadyH.cons (o := _) rfl (fun K hK => ?_) AllReadyH.nil)
              · have c5 : Z2.cell? ⟨T5, 0, none⟩ = some l2 := (HRowD.out.below HBZ2.out HRowD.out.lt).cell 0
                go_simp
                refine hK.out _ _ HS.out (fun _ => ?_)
                clear hK K c5
                refine wpAnyH_ready (rs := [15]) (by kernel_rfl) (by simp) ?_
                refine AllReadyH.cons (o := _) rfl (fun K hK => ?_) AllReadyH.nil
                go_simp
                have HBZ3 := hide (HBZ2.out.alloc HBZ2.out.size (.cells #[.slice q5 cp.length d5] 138))
                refine hK.out _ _ (HSS.out _ HBZ3.out) (fun _ => ?_)
                clear hK K HS
                have HNW2 := hide (Keeps.go (SameIn.ofBelow ((Below.refl Z2.heap.size Z2).alloc (Nat.le_refl _) (.cells #[.slice q5 cp.length d5] 138))) HNW.out)
                have HR1 := hide (cell_one_new Z2 (.slice q5 cp.length d5) 138)
                have HHI2 : Hid (HI ≤ (Z2.alloc (.cells #[.slice q5 cp.length d5] 138)).heap.size) := hide (by have := HHI.out; simp; omega)
                generalize hZ : Z2.alloc (.cells #[.slice q5 cp.length d5] 138) = Z3 at HBZ3 HNW2 HR1 HHI2 ⊢
                generalize Z2.heap.size = F5 at HR1 ⊢
                clear hZ HNW
                have HS := hide (HSS.out _ HBZ3.out)
                have HOZ := hide (own_below HOD.out HBZ3.out)
                refine wpAnyH_ready (rs := [16]) (by kernel_rfl) (by simp) ?_
                refine AllReadyH.cons (o := _) rfl (fun K hK => ?_) AllReadyH.nil
                refine step_own (w := Z3) rfl (.tmp 28) (.tmp 42) 124 rfl (T5 + 1) 138 j0 _ 1 24 Tryz.underlying124 hj hy0 hy1 hy2 HZC.out (by omega) l2 k2 vs2 rfl HOZ.out ⟨F5, 0, none⟩ 1 _ [.slice q5 cp.length d5] rfl rfl HR1.out (by simp [Value.oneCell']) (by unfold maxLen; omega) (by omega) (by have h5 := HBZ3.out.size; have h6 := HZ0.out; omega) ?_
                intro l3 Z9 hown9 hgrow hat
                obtain ⟨pl, cl, hl3⟩ := own_slice1 hown9
                subst hl3
                have HROW9 := hide (row_grown (HRowD.out.below HBZ3.out HRowD.out.lt) hgrow (fun k hk => (HOZ.out.lt k hk).1) (Nat.lt_succ_self _))
                have HBW := hide (show Below (T5 + 1) Z0 Z9 from (HBZ3.out.mono (by have h6 := HZ0.out; omega)).grown hgrow (by have h5 := HBZ3.out.size; have h6 := HZ0.out; omega) (fun k hk => (HOZ.out.lt k hk).1))
                have HEl9 : Hid (∃ A B : Nat → Nat, (∀ j (h1 : j < (vs2 ++ [Value.slice q5 cp.length d5]).length) (h2 : j < rp.length), T5 + 1 ≤ A j ∧ B j ≤ Z9.heap.size ∧ (∀ g, (Value.slice pl (k2 + 1) cl).ownBlock = some g → B j ≤ g ∨ g < A j) ∧ OComp (A j) (B j) Z9 (vs2 ++ [Value.slice q5 cp.length d5])[j] rp[j]) ∧ ∀ i j, i < j → j < k2 + 1 → B i ≤ A j) := hide (by
                  obtain ⟨A, B, hE, hD⟩ := HElD.out
                  have hs1 := HBZ3.out.size
                  have hs2 := hgrow.size
                  have hZ0 := HZ0.out
                  have hlo := HZL.out
                  have hhi := HHI2.out
                  have hvl := HVL.out
                  refine ⟨fun i => if i = k2 then LO else A i, fun i => if i = k2 then HI else B i, fun j h1 h2 => ?_, fun i j hij hj => ?_⟩
                  · have h1' : j < k2 + 1 := by rw [List.length_append, hvl] at h1; exact h1
                    dsimp only
                    by_cases hj : j = k2
                    · subst hj
                      rw [if_pos rfl, if_pos rfl, List.getElem_append_right (by rw [hvl]; exact Nat.le_refl _)]
                      simp only [hvl, Nat.sub_self, List.getElem_cons_zero]
                      refine ⟨by omega, by omega, fun g hg => ?_, ?_⟩
                      · rcases hat with h | h
                        · rw [h] at hg
                          exact .inr (by have := (HOD.out.lt g hg).2; omega)
                        · rw [h] at hg
                          cases hg
                          exact .inl (by omega)
                      · have e := Keeps.go (grown_in hgrow (fun g hg => .inr (by have := (HOD.out.lt g hg).2; omega))) HNW2.out
                        exact Eq.mp (congrArg (fun c => OComp LO HI Z9 (Value.slice q5 cp.length d5) c) HCPD.out) e
                    · have hjk : j < vs2.length := by rw [hvl]; omega
                      obtain ⟨f1, f2, f3, f4⟩ := hE j hjk h2
                      rw [if_neg hj, if_neg hj, List.getElem_append_left hjk]
                      refine ⟨f1, by omega, fun g hg => ?_, Keeps.go (grown_in hgrow f3) (Keeps.go (SameIn.ofBelow HBZ3.out) f4)⟩
                      rcases hat with h | h
                      · rw [h] at hg
                        exact f3 g hg
                      · rw [h] at hg
                        cases hg
                        exact .inl (by omega)
                  · have hik : i < vs2.length := by rw [hvl]; omega
                    obtain ⟨f1, f2, f3, f4⟩ := hE i hik (by omega)
                    dsimp only
                    by_cases hjk : j = k2
                    · rw [if_pos hjk, if_neg (by omega)]; omega
                    · rw [if_neg hjk, if_neg (by omega)]; exact hD i j hij (by omega))
                have HO9 := hide hown9
                clear hown9 hgrow hat
                refine hK.out _ _ (HSS9.out _ HBW.out) (fun _ => ?_)
                clear hK K HS
                have HS := hide (HSS9.out _ HBW.out)
                simp only [Act.put, List.getElem_toArray, List.getElem_cons_zero, List.getElem_cons_succ, List.setIfInBounds_toArray, List.set_cons_zero, List.set_cons_succ]
                refine wpAnyH_take (i := 17) (oi := _) (v := .pointer (some ⟨T5, 0, none⟩)) rfl (by kernel_rfl) (by kernel_rfl) (by kernel_rfl) (fun _ _ _ h => h) (Or.inl ⟨by rfl, by intro w hSw; go_split_ands; go_simp⟩) HS.out ?_
                simp only [Act.put, List.getElem_toArray, List.getElem_cons_zero, List.getElem_cons_succ, List.setIfInBounds_toArray, List.set_cons_zero, List.set_cons_succ]
                refine wpAnyH_ready (rs := [18]) (by kernel_rfl) (by simp) ?_
                refine AllReadyH.cons (o := _) rfl (fun K hK => ?_) AllReadyH.nil
                have c9 : Z9.cell? ⟨T5, 0, none⟩ = some l2 := HROW9.out.cell 0
                have f9 := HROW9.out.free 0
                go_simp
                have HBY2 := hide ((HBY.out.trans (HBW.out.mono (by omega : T5 ≤ T5 + 1))).setCell (p := ⟨T5, 0, none⟩) (Nat.le_refl _) (.slice pl (k2 + 1) cl))
                have HRY2 := hide (HROW9.out.set (j := 0) (.slice pl (k2 + 1) cl))
                have es : (Z9.setCell ⟨T5, 0, none⟩ (.slice pl (k2 + 1) cl)).heap.size = Z9.heap.size := by simp [World.setCell]
                have HOY2 := hide (ownsRow_setCell_below HO9.out (a := ⟨T5, 0, none⟩) (by show T5 < T5 + 1; omega) (.slice pl (k2 + 1) cl))
                have HEY2 : Hid (∃ A B : Nat → Nat, (∀ j (h1 : j < (vs2 ++ [Value.slice q5 cp.length d5]).length) (h2 : j < rp.length), T5 + 1 ≤ A j ∧ B j ≤ (Z9.setCell ⟨T5, 0, none⟩ (.slice pl (k2 + 1) cl)).heap.size ∧ (∀ g, (Value.slice pl (k2 + 1) cl).ownBlock = some g → B j ≤ g ∨ g < A j) ∧ OComp (A j) (B j) (Z9.setCell ⟨T5, 0, none⟩ (.slice pl (k2 + 1) cl)) (vs2 ++ [Value.slice q5 cp.length d5])[j] rp[j]) ∧ ∀ i j, i < j → j < k2 + 1 → B i ≤ A j) := hide (by
                  obtain ⟨A, B, hE, hD⟩ := HEl9.out
                  refine ⟨A, B, fun j h1 h2 => ?_, hD⟩
                  obtain ⟨f1, f2, f3, f4⟩ := hE j h1 h2
                  exact ⟨f1, by rw [es]; exact f2, f3, Keeps.go (SameIn.set _ _ (by omega)) f4⟩)
                have HLY2 : Hid ((vs2 ++ [Value.slice q5 cp.length d5]).length = k2 + 1) := hide (by rw [List.length_append, HVL.out]; rfl)
                have HSY2 : Hid (T5 + 1 ≤ (Z9.setCell ⟨T5, 0, none⟩ (.slice pl (k2 + 1) cl)).heap.size) := hide (by rw [es]; have h5 := HBW.out.size; have h6 := HZ0.out; omega)
                clear es
                refine hK.out _ _ (HSSY.out _ HBY2.out) (fun _ => ?_)
                clear hK K HS
                refine wpAnyH_done (by kernel_rfl) ?_ _
                go_wp2
                go_roundw
                case rel => exact ⟨_, k2 + 1, _, _, rfl, by omega, by go_num, HRY2, HOY2, HBY2, HLY2, HSY2, HEY2⟩
                case measure => simp [intOf]; omega
              · go_simp
                have HBZ3 := hide (HBZ2.out.alloc HBZ2.out.size (.cells #[.slice q5 cp.length d5] 138))
                refine hK.out _ _ (HSS.out _ HBZ3.out) (fun _ => ?_)
                clear hK K HS
                have HNW2 := hide (Keeps.go (SameIn.ofBelow ((Below.refl Z2.heap.size Z2).alloc (Nat.le_refl _) (.cells #[.slice q5 cp.length d5] 138))) HNW.out)
                have HR1 := hide (cell_one_new Z2 (.slice q5 cp.length d5) 138)
                have HHI2 : Hid (HI ≤ (Z2.alloc (.cells #[.slice q5 cp.length d5] 138)).heap.size) := hide (by have := HHI.out; simp; omega)
                generalize hZ : Z2.alloc (.cells #[.slice q5 cp.length d5] 138) = Z3 at HBZ3 HNW2 HR1 HHI2 ⊢
                generalize Z2.heap.size = F5 at HR1 ⊢
                clear hZ HNW
                have HS := hide (HSS.out _ HBZ3.out)
                refine wpAnyH_ready (rs := [1]) (by kernel_rfl) (by simp) ?_
                refine AllReadyH.cons (o := _) rfl (fun K hK => ?_) AllReadyH.nil
                have c5 : Z3.cell? ⟨T5, 0, none⟩ = some l2 := (HRowD.out.below HBZ3.out HRowD.out.lt).cell 0
                go_simp
                refine hK.out _ _ HS.out (fun _ => ?_)
                clear hK K c5
                have HOZ := hide (own_below HOD.out HBZ3.out)
                refine wpAnyH_ready (rs := [16]) (by kernel_rfl) (by simp) ?_
                refine AllReadyH.cons (o := _) rfl (fun K hK => ?_) AllReadyH.nil
                refine step_own (w := Z3) rfl (.tmp 28) (.tmp 42) 124 rfl (T5 + 1) 138 j0 _ 1 24 Tryz.underlying124 hj hy0 hy1 hy2 HZC.out (by omega) l2 k2 vs2 rfl HOZ.out ⟨F5, 0, none⟩ 1 _ [.slice q5 cp.length d5] rfl rfl HR1.out (by simp [Value.oneCell']) (by unfold maxLen; omega) (by omega) (by have h5 := HBZ3.out.size; have h6 := HZ0.out; omega) ?_
                intro l3 Z9 hown9 hgrow hat
                obtain ⟨pl, cl, hl3⟩ := own_slice1 hown9
                subst hl3
                have HROW9 := hide (row_grown (HRowD.out.below HBZ3.out HRowD.out.lt) hgrow (fun k hk => (HOZ.out.lt k hk).1) (Nat.lt_succ_self _))
                have HBW := hide (show Below (T5 + 1) Z0 Z9 from (HBZ3.out.mono (by have h6 := HZ0.out; omega)).grown hgrow (by have h5 := HBZ3.out.size; have h6 := HZ0.out; omega) (fun k hk => (HOZ.out.lt k hk).1))
                have HEl9 : Hid (∃ A B : Nat → Nat, (∀ j (h1 : j < (vs2 ++ [Value.slice q5 cp.length d5]).length) (h2 : j < rp.length), T5 + 1 ≤ A j ∧ B j ≤ Z9.heap.size ∧ (∀ g, (Value.slice pl (k2 + 1) cl).ownBlock = some g → B j ≤ g ∨ g < A j) ∧ OComp (A j) (B j) Z9 (vs2 ++ [Value.slice q5 cp.length d5])[j] rp[j]) ∧ ∀ i j, i < j → j < k2 + 1 → B i ≤ A j) := hide (by
                  obtain ⟨A, B, hE, hD⟩ := HElD.out
                  have hs1 := HBZ3.out.size
                  have hs2 := hgrow.size
                  have hZ0 := HZ0.out
                  have hlo := HZL.out
                  have hhi := HHI2.out
                  have hvl := HVL.out
                  refine ⟨fun i => if i = k2 then LO else A i, fun i => if i = k2 then HI else B i, fun j h1 h2 => ?_, fun i j hij hj => ?_⟩
                  · have h1' : j < k2 + 1 := by rw [List.length_append, hvl] at h1; exact h1
                    dsimp only
                    by_cases hj : j = k2
                    · subst hj
                      rw [if_pos rfl, if_pos rfl, List.getElem_append_right (by rw [hvl]; exact Nat.le_refl _)]
                      simp only [hvl, Nat.sub_self, List.getElem_cons_zero]
                      refine ⟨by omega, by omega, fun g hg => ?_, ?_⟩
                      · rcases hat with h | h
                        · rw [h] at hg
                          exact .inr (by have := (HOD.out.lt g hg).2; omega)
                        · rw [h] at hg
                          cases hg
                          exact .inl (by omega)
                      · have e := Keeps.go (grown_in hgrow (fun g hg => .inr (by have := (HOD.out.lt g hg).2; omega))) HNW2.out
                        exact Eq.mp (congrArg (fun c => OComp LO HI Z9 (Value.slice q5 cp.length d5) c) HCPD.out) e
                    · have hjk : j < vs2.length := by rw [hvl]; omega
                      obtain ⟨f1, f2, f3, f4⟩ := hE j hjk h2
                      rw [if_neg hj, if_neg hj, List.getElem_append_left hjk]
                      refine ⟨f1, by omega, fun g hg => ?_, Keeps.go (grown_in hgrow f3) (Keeps.go (SameIn.ofBelow HBZ3.out) f4)⟩
                      rcases hat with h | h
                      · rw [h] at hg
                        exact f3 g hg
                      · rw [h] at hg
                        cases hg
                        exact .inl (by omega)
                  · have hik : i < vs2.length := by rw [hvl]; omega
                    obtain ⟨f1, f2, f3, f4⟩ := hE i hik (by omega)
                    dsimp only
                    by_cases hjk : j = k2
                    · rw [if_pos hjk, if_neg (by omega)]; omega
                    · rw [if_neg hjk, if_neg (by omega)]; exact hD i j hij (by omega))
                have HO9 := hide hown9
                clear hown9 hgrow hat
                refine hK.out _ _ (HSS9.out _ HBW.out) (fun _ => ?_)
                clear hK K HS
                have HS := hide (HSS9.out _ HBW.out)
                simp only [Act.put, List.getElem_toArray, List.getElem_cons_zero, List.getElem_cons_succ, List.setIfInBounds_toArray, List.set_cons_zero, List.set_cons_succ]
                refine wpAnyH_take (i := 17) (oi := _) (v := .pointer (some ⟨T5, 0, none⟩)) rfl (by kernel_rfl) (by kernel_rfl) (by kernel_rfl) (fun _ _ _ h => h) (Or.inl ⟨by rfl, by intro w hSw; go_split_ands; go_simp⟩) HS.out ?_
                simp only [Act.put, List.getElem_toArray, List.getElem_cons_zero, List.getElem_cons_succ, List.setIfInBounds_toArray, List.set_cons_zero, List.set_cons_succ]
                refine wpAnyH_ready (rs := [18]) (by kernel_rfl) (by simp) ?_
                refine AllReadyH.cons (o := _) rfl (fun K hK => ?_) AllReadyH.nil
                have c9 : Z9.cell? ⟨T5, 0, none⟩ = some l2 := HROW9.out.cell 0
                have f9 := HROW9.out.free 0
                go_simp
                have HBY2 := hide ((HBY.out.trans (HBW.out.mono (by omega : T5 ≤ T5 + 1))).setCell (p := ⟨T5, 0, none⟩) (Nat.le_refl _) (.slice pl (k2 + 1) cl))
                have HRY2 := hide (HROW9.out.set (j := 0) (.slice pl (k2 + 1) cl))
                have es : (Z9.setCell ⟨T5, 0, none⟩ (.slice pl (k2 + 1) cl)).heap.size = Z9.heap.size := by simp [World.setCell]
                have HOY2 := hide (ownsRow_setCell_below HO9.out (a := ⟨T5, 0, none⟩) (by show T5 < T5 + 1; omega) (.slice pl (k2 + 1) cl))
                have HEY2 : Hid (∃ A B : Nat → Nat, (∀ j (h1 : j < (vs2 ++ [Value.slice q5 cp.length d5]).length) (h2 : j < rp.length), T5 + 1 ≤ A j ∧ B j ≤ (Z9.setCell ⟨T5, 0, none⟩ (.slice pl (k2 + 1) cl)).heap.size ∧ (∀ g, (Value.slice pl (k2 + 1) cl).ownBlock = some g → B j ≤ g ∨ g < A j) ∧ OComp (A j) (B j) (Z9.setCell ⟨T5, 0, none⟩ (.slice pl (k2 + 1) cl)) (vs2 ++ [Value.slice q5 cp.length d5])[j] rp[j]) ∧ ∀ i j, i < j → j < k2 + 1 → B i ≤ A j) := hide (by
                  obtain ⟨A, B, hE, hD⟩ := HEl9.out
                  refine ⟨A, B, fun j h1 h2 => ?_, hD⟩
                  obtain ⟨f1, f2, f3, f4⟩ := hE j h1 h2
                  exact ⟨f1, by rw [es]; exact f2, f3, Keeps.go (SameIn.set _ _ (by omega)) f4⟩)
                have HLY2 : Hid ((vs2 ++ [Value.slice q5 cp.length d5]).length = k2 + 1) := hide (by rw [List.length_append, HVL.out]; rfl)
                have HSY2 : Hid (T5 + 1 ≤ (Z9.setCell ⟨T5, 0, none⟩ (.slice pl (k2 + 1) cl)).heap.size) := hide (by rw [es]; have h5 := HBW.out.size; have h6 := HZ0.out; omega)
                clear es
                refine hK.out _ _ (HSSY.out _ HBY2.out) (fun _ => ?_)
                clear hK K HS
                refine wpAnyH_done (by kernel_rfl) ?_ _
                go_wp2
                go_roundw
                case rel => exact ⟨_, k2 + 1, _, _, rfl, by omega, by go_num, HRY2, HOY2, HBY2, HLY2, HSY2, HEY2⟩
                case measure => simp [intOf]; omega
        · have ek : k2 = rp.length := by omega
          have HREP := hide (ol_of_own (R := OComp) HOY.out ek HLY.out HEY.out)
          have HEK := hide ek
          clear ek
          obtain ⟨pp, pc, hpl⟩ := own_slice1 HOY.out
          subst hpl
          have c5 : Y.cell? ⟨T5, 0, none⟩ = some (.slice pp k2 pc) := HRY.out.cell 0
          have HRO := hide (show Row Y (w.heap.size + 2) 108 [l] from (HRX.out.below HBA.out (by have := HT5.out; omega)).below HBY.out (by have := HT5.out; omega))
          have HR1Y := hide (show Row Y w.heap.size 108 [.slice (some ⟨g, off, none⟩) f.length cap] from (HR1X.out.below HBA.out (by have := HT5.out; omega)).below HBY.out (by have := HT5.out; omega))
          have HR2Y := hide (show Row Y (w.heap.size + 1) 108 [.slice none 0 0] from (HR2X.out.below HBA.out (by have := HT5.out; omega)).below HBY.out (by have := HT5.out; omega))
          have HSO : Hid (∀ a b, b ≤ T5 → SameIn a b X Y) := hide (fun a b hb j h1 h2 h3 => ((HBY.out.block j (by omega)).trans (HBA.out.block j (by omega))))
          have HOYX := hide (own_same (w' := Y) HOX.out (fun j h1 h2 => HSO.out j (j + 1) (by have := HTX.out; omega) j (Nat.le_refl _) (Nat.lt_succ_self _) h2))
          have c3 : Y.cell? ⟨w.heap.size + 2, 0, none⟩ = some l := HRO.out.cell 0
          have HBY1 := hide (HBYw.out.alloc HBYw.out.size (.cells #[.slice pp k2 pc] 126))
          have HRO1 := hide (HRO.out.alloc (.cells #[.slice pp k2 pc] 126))
          have HR1Y1 := hide (HR1Y.out.alloc (.cells #[.slice pp k2 pc] 126))
          have HR2Y1 := hide (HR2Y.out.alloc (.cells #[.slice pp k2 pc] 126))
          have HOY1 := hide (HOYX.out.alloc (.cells #[.slice pp k2 pc] 126))
          have HLTX := hide HOX.out.lt
          have HY1s : Hid ((Y.alloc (.cells #[.slice pp k2 pc] 126)).heap.size = Y.heap.size + 1) := hide (by simp)
          have HSA : Hid (∀ a b, SameIn a b Y (Y.alloc (.cells #[.slice pp k2 pc] 126))) := hide (fun a b => SameIn.ofBelow ((Below.refl _ _).alloc (Nat.le_refl _) _))
          go_wp2_with (at_builtin; refine wpList_append_own_at (Y.alloc (.cells #[.slice pp k2 pc] 126)) rfl (.tmp 46) (.tmp 48) 106 rfl W.heap.size 126 k0 _ 1 24 Tryz.underlying106 hk hx0 hx1 hx2 HZC.out (by omega) l k vs rfl HOY1.out ⟨Y.heap.size, 0, none⟩ 1 _ [.slice pp k2 pc] rfl rfl (cell_one_new _ _ _) (by simp [Value.oneCell']) (by unfold maxLen; omega) (by omega) (by have h1 := HY1s.out; have h2 := HSY.out; have h3 := HT5.out; have h4 := HWs.out; omega) ?_)
          intro l9 Z9 hown9 hgrow _ hat
          obtain ⟨pl, cl, hl9⟩ := own_slice1 hown9
          subst hl9
          have hWs := HWs.out
          have HRO9 := hide (row_grown HRO1.out hgrow (fun k hk => (HOY1.out.lt k hk).1) (by omega))
          have HR19 := hide (row_grown HR1Y1.out hgrow (fun k hk => (HOY1.out.lt k hk).1) (by omega))
          have HR29 := hide (row_grown HR2Y1.out hgrow (fun k hk => (HOY1.out.lt k hk).1) (by omega))
          have HB9 := hide (HBY1.out.grown hgrow HBY1.out.size (fun k hk => by have := (HOY1.out.lt k hk).1; omega))
          have c9 : Z9.cell? ⟨w.heap.size + 2, 0, none⟩ = some l := HRO9.out.cell 0
          have f9 := HRO9.out.free 0
          have HROf := hide (HRO9.out.set (j := 0) (.slice pl (k + 1) cl))
          have HR1f := hide (HR19.out.other (b := w.heap.size + 2) (j := 0) (by omega) (.slice pl (k + 1) cl))
          have HR2f := hide (HR29.out.other (b := w.heap.size + 2) (j := 0) (by omega) (.slice pl (k + 1) cl))
          have HBf := hide (HB9.out.setCell (p := ⟨w.heap.size + 2, 0, none⟩) (by show w.heap.size ≤ w.heap.size + 2; omega) (.slice pl (k + 1) cl))
          have HOf := hide (ownsRow_setCell_below hown9 (a := ⟨w.heap.size + 2, 0, none⟩) (by show w.heap.size + 2 < W.heap.size; omega) (.slice pl (k + 1) cl))
          have es : (Z9.setCell ⟨w.heap.size + 2, 0, none⟩ (.slice pl (k + 1) cl)).heap.size = Z9.heap.size := by simp [World.setCell]
          have HSf : Hid (W.heap.size ≤ (Z9.setCell ⟨w.heap.size + 2, 0, none⟩ (.slice pl (k + 1) cl)).heap.size) := hide (by rw [es]; have h1 := HY1s.out; have h2 := HSY.out; have h3 := HT5.out; have h4 := hgrow.size; omega)
          have HLf : Hid ((vs ++ [Value.slice pp k2 pc]).length = k + 1) := hide (by rw [List.length_append, HLX.out]; rfl)
          have HEf : Hid (∃ A B : Nat → Nat, (∀ j (h1 : j < (vs ++ [Value.slice pp k2 pc]).length) (h2 : j < f.length), W.heap.size ≤ A j ∧ B j ≤ (Z9.setCell ⟨w.heap.size + 2, 0, none⟩ (.slice pl (k + 1) cl)).heap.size ∧ (∀ g, (Value.slice pl (k + 1) cl).ownBlock = some g → B j ≤ g ∨ g < A j) ∧ ORep (A j) (B j) (Z9.setCell ⟨w.heap.size + 2, 0, none⟩ (.slice pl (k + 1) cl)) (vs ++ [Value.slice pp k2 pc])[j] f[j]) ∧ ∀ i j, i < j → j < k + 1 → B i ≤ A j) := hide (by
            obtain ⟨A, B, hE, hD⟩ := HEX.out
            have hs1 := HY1s.out
            have hs2 := hgrow.size
            have hvl := HLX.out
            have ht5 := HT5.out
            have htx := HTX.out
            have hsy := HSY.out
            refine ⟨fun i => if i = k then T5 + 1 else A i, fun i => if i = k then Y.heap.size else B i, fun j h1 h2 => ?_, fun i j hij hj => ?_⟩
            · have h1' : j < k + 1 := by rw [List.length_append, hvl] at h1; exact h1
              rw [es]
              dsimp only
              by_cases hj : j = k
              · subst hj
                rw [if_pos rfl, if_pos rfl, List.getElem_append_right (by rw [hvl]; exact Nat.le_refl _)]
                simp only [hvl, Nat.sub_self, List.getElem_cons_zero]
                refine ⟨by omega, by omega, fun g hg => ?_, ?_⟩
                · rcases hat with h | h
                  · rw [h] at hg
                    exact .inr (by have := (HLTX.out g hg).2; omega)
                  · rw [h] at hg
                    cases hg
                    exact .inl (by first | omega | (rw [hs1]; omega))
                · have e := Keeps.go (SameIn.set Z9 (g := w.heap.size + 2) (j := 0) (.slice pl (j + 1) cl) (by omega)) (Keeps.go (grown_in hgrow (fun g hg => .inr (by have := (HLTX.out g hg).2; omega))) (Keeps.go (HSA.out _ _) HREP.out))
                  exact Eq.mp (congrArg (fun c => ORep (T5 + 1) Y.heap.size _ (Value.slice pp k2 pc) c) HRP.out) e
              · have hjk : j < vs.length := by rw [hvl]; omega
                obtain ⟨f1, f2, f3, f4⟩ := hE j hjk h2
                rw [if_neg hj, if_neg hj, List.getElem_append_left hjk]
                refine ⟨f1, by omega, fun g hg => ?_, Keeps.go (SameIn.set _ _ (by omega)) (Keeps.go (grown_in hgrow f3) (Keeps.go (HSA.out _ _) (Keeps.go (HSO.out _ _ (by omega)) f4)))⟩
                rcases hat with h | h
                · rw [h] at hg
                  exact f3 g hg
                · rw [h] at hg
                  cases hg
                  exact .inl (by first | omega | (rw [hs1]; omega))
            · have hik : i < vs.length := by rw [hvl]; omega
              obtain ⟨f1, f2, f3, f4⟩ := hE i hik (by omega)
              dsimp only
              by_cases hjk : j = k
              · rw [if_pos hjk, if_neg (by omega)]; omega
              · rw [if_neg hjk, if_neg (by omega)]; exact hD i j hij (by omega))
          clear hown9 hgrow hat es HREP c3 c5
          go_wp2
          go_roundw
          case rel => exact ⟨_, k + 1, _, _, rfl, by omega, by go_num, HROf, HOf, HBf, HR1f, HR2f, HLf, HSf, HEf⟩
          case measure => simp [intOf]; omega
    · have ek : k = f.length := by omega
      have HF := hide (ol_of_own (R := ORep) HOX.out ek HLX.out HEX.out)
      obtain ⟨pl, cl, hpl⟩ := own_slice1 HOX.out
      subst hpl
      have hWs := HWs.out
      have c3 : X.cell? ⟨w.heap.size + 2, 0, none⟩ = some (.slice pl k cl) := HRX.out.cell 0
      have c2 : X.cell? ⟨w.heap.size + 1, 0, none⟩ = some (.slice none 0 0) := HR2X.out.cell 0
      have f2 := HR2X.out.free 0
      have q1 : (X.setCell ⟨w.heap.size + 1, 0, none⟩ (.slice pl k cl)).cell? ⟨w.heap.size + 1, 0, none⟩ = some (.slice pl k cl) := (HR2X.out.set (j := 0) (.slice pl k cl)).cell 0
      have HBF := hide (HBX.out.setCell (p := ⟨w.heap.size + 1, 0, none⟩) (by show w.heap.size ≤ w.heap.size + 1; omega) (.slice pl k cl))
      have es : (X.setCell ⟨w.heap.size + 1, 0, none⟩ (.slice pl k cl)).heap.size = X.heap.size := by simp [World.setCell]
      have HFF : Hid (OFld w.heap.size (X.setCell ⟨w.heap.size + 1, 0, none⟩ (.slice pl k cl)).heap.size (X.setCell ⟨w.heap.size + 1, 0, none⟩ (.slice pl k cl)) (.slice pl k cl) f) := hide (by
        rw [es]
        exact Keeps.wide (by omega : w.heap.size ≤ W.heap.size) (Nat.le_refl _) (Keeps.go (SameIn.set _ _ (by omega)) HF.out))
      have HK := hide ek
      clear ek es hWs HF
      go_wp2
      exact bodyPost_ret (v := .agg #[.slice pl k cl]) (by simp [results, Tryz.results103, go_sem, q1]) rfl ⟨pl, cl, by rw [HK.out], by rw [← HK.out]; exact HFF.out, HBF.out⟩
end Go.Proofs.YtholbhjfmfanbaaGreat
/- Segments and Messages in memory of one's own; their marks; the laws' own copies of them. -/
namespace Go.Proofs.YtholbhjfmfanbaaGreat
open Go.RowKit
def OSegs (lo hi : Nat) (w : World) (v : Value) (xs : List Seg) : Prop :=
  ∃ p cap, v = .slice p xs.length cap ∧ xs.length ≤ cap ∧ cap ≤ maxLen ∧
    (0 < xs.length → ∃ (g : Nat) (cs : List Value) (A B : Nat → Nat), p = some ⟨g, 0, none⟩ ∧ lo ≤ g ∧ g < hi ∧ Row w g 85 cs ∧ xs.length * 2 ≤ cs.length ∧
      (∀ j (h2 : j < xs.length), cs[j * 2]? = some (.string xs[j].1) ∧ xs[j].1.size ≤ maxLen ∧ lo ≤ A j ∧ B j ≤ hi ∧ (B j ≤ g ∨ g < A j) ∧ ∃ u, cs[j * 2 + 1]? = some u ∧ OFlds (A j) (B j) w u xs[j].2) ∧ (∀ i j, i < j → j < xs.length → B i ≤ A j))
theorem OSegs.keep {lo hi : Nat} {w w' : World} {v : Value} {xs : List Seg} (h : OSegs lo hi w v xs) (hs : SameIn lo hi w w') : OSegs lo hi w' v xs := by
  obtain ⟨p, cap, rfl, h1, h2, h4⟩ := h
  refine ⟨p, cap, rfl, h1, h2, fun h0 => ?_⟩
  obtain ⟨g, cs, A, B, rfl, a, b, hr, hl, hE, hD⟩ := h4 h0
  refine ⟨g, cs, A, B, rfl, a, b, hs.row hr a b, hl, fun i k2 => ?_, hD⟩
  obtain ⟨e0, e1, e2, e3, e4, u, e5, e6⟩ := hE i k2
  exact ⟨e0, e1, e2, e3, e4, u, e5, Keeps.go (hs.mono e2 e3) e6⟩
theorem OSegs.wide {lo hi lo' hi' : Nat} {w : World} {v : Value} {xs : List Seg} (h : OSegs lo hi w v xs) (hl : lo' ≤ lo) (hh : hi ≤ hi') : OSegs lo' hi' w v xs := by
  obtain ⟨p, cap, rfl, h1, h2, h4⟩ := h
  refine ⟨p, cap, rfl, h1, h2, fun h0 => ?_⟩
  obtain ⟨g, cs, A, B, rfl, a, b, hr, hln, hE, hD⟩ := h4 h0
  refine ⟨g, cs, A, B, rfl, by omega, by omega, hr, hln, fun i k2 => ?_, hD⟩
  obtain ⟨e0, e1, e2, e3, e4, u, e5, e6⟩ := hE i k2
  exact ⟨e0, e1, by omega, by omega, e4, u, e5, e6⟩
theorem OSegs.isSlice {lo hi : Nat} {w : World} {v : Value} {xs : List Seg} (h : OSegs lo hi w v xs) : ∃ p c, v = .slice p xs.length c := by
  obtain ⟨p, c, e, _⟩ := h
  exact ⟨p, c, e⟩
theorem OFlds.rl {lo hi : Nat} {w : World} {v : Value} {xs : List (List (List (List ByteArray)))} (h : OFlds lo hi w v xs) : RFlds lo w v xs := OL.rl h fun _ _ _ _ ha h => RFld.mono (OFld.rl h) ha
theorem OSegs.rl {lo hi : Nat} {w : World} {v : Value} {xs : List Seg} (h : OSegs lo hi w v xs) : RSegs lo w v xs := by
  obtain ⟨p, cap, rfl, h1, h2, h4⟩ := h
  refine ⟨p, cap, rfl, h1, h2, fun h0 => ?_⟩
  obtain ⟨g, cs, A, B, rfl, a, b, hr, hl, hE, hD⟩ := h4 h0
  refine ⟨g, 0, rfl, hr.lt, a, fun i hi => ?_⟩
  obtain ⟨e0, e1, e2, e3, e4, u, e5, e6⟩ := hE i hi
  exact ⟨by rw [Nat.zero_add, hr.cell]; exact e0, e1, u, by rw [Nat.zero_add, hr.cell]; exact e5, RFlds.mono (OFlds.rl e6) e2⟩
def cntSeg (x : Seg) : Nat := 1 + cntFs x.2
def mkSeg (k : Nat) (x : Seg) : Seg := (markOf k, mkFs (k + 1) x.2)
def cntSegs : List Seg → Nat := cntL cntSeg
def mkSegs : Nat → List Seg → List Seg := mkL cntSeg mkSeg
theorem cntFs_le (x : List (List (List (List ByteArray)))) : cntFs x ≤ wFlds x := cntL_le _ _ cntF_le x
theorem seg_step : ∀ (xs : List Seg) (i : Nat) (hi : i < xs.length), cntL cntSeg (xs.take i) + 1 + wFlds xs[i].2 ≤ wSegs xs
  | x :: r, 0, _ => by
    simp only [List.take_zero, cntL, List.map_nil, List.sum_nil, List.getElem_cons_zero, wSegs, wL, List.map_cons, List.sum_cons, List.length_cons, wSeg]
    omega
  | x :: r, i + 1, hi => by
    have h1 := cntFs_le x.2
    have h2 := seg_step r i (by simpa using hi)
    simp only [List.take_succ_cons, cntL, List.map_cons, List.sum_cons, List.getElem_cons_succ, wSegs, wL, List.length_cons, wSeg, cntSeg] at h2 ⊢
    omega
theorem markOf_small (k : Nat) (h : k ≤ 10000000) : (markOf k).size ≤ maxLen := by
  have := markOf_sizeO k
  unfold maxLen; omega
set_option maxHeartbeats 4000000 in
theorem markSegmentS_own (lo hi : Nat) (v : Value) (xs : List Seg) (k : Nat) (w : World) (hn : wSegs xs ≤ 1048576) (hk : k + wSegs xs ≤ 4000000) (hr : OSegs lo hi w v xs) :
    Calls Tryz.prog 44 #[v, .int .i64 (k : Int)] w fun e w' => e = .returned (.int .i64 ((k + cntSegs xs : Nat) : Int)) ∧ OSegs lo hi w' v (mkSegs k xs) ∧ Within lo hi w w' := by
  have hl : xs.length ≤ 1048576 := Nat.le_trans (wL_len _ xs) hn
  have HC := hide (fun i h => seg_step xs i h)
  have HSN := hide (fun i h => cntL_snoc cntSeg xs i h)
  have HM := hide (wSegs_mem hn).2
  obtain ⟨p, cap, rfl, h1, h2, h4⟩ := hr
  by_cases h0 : xs.length = 0
  · obtain rfl : xs = [] := List.eq_nil_of_length_eq_zero h0
    clear h4 HC HM HSN
    go_enter Tryz.func44, Tryz.ntmps44
    go_wp2
    refine wp_loop_rounds 1 ?_
    rw [rounds_succ]
    go_wp2
    go_ret
    exact ⟨rfl, ⟨p, cap, rfl, h1, h2, fun h => absurd h (by simp [mkSegs, mkL])⟩, Within.refl _ _ _⟩
  obtain ⟨g, cs0, A, B, rfl, ga, gb, hrow, hcl, hE, hD⟩ := h4 (by omega)
  have HK := hide hk
  have HN := hide hn
  have HR := hide hrow
  have HCL := hide hcl
  have HE := hide hE
  have HD := hide hD
  have HG := hide (show lo ≤ g ∧ g < hi from ⟨ga, gb⟩)
  have HCP := hide (show xs.length ≤ cap ∧ cap ≤ maxLen from ⟨h1, h2⟩)
  unfold maxLen at h2
  clear h4 hrow hcl hE hD hk hn ga gb
  go_enter Tryz.func44, Tryz.ntmps44
  go_wp2
  go_loopw [1, 5] (fun x i wr => ∃ (X : World) (j K : Nat) (cs : List Value), X = wr ∧ j ≤ xs.length ∧ i = .int .i64 (j : Int) ∧ x = .int .i64 (K : Int) ∧ Hid (K = k + cntL cntSeg (xs.take j)) ∧ Hid (Row X g 85 cs) ∧ Hid (xs.length * 2 ≤ cs.length) ∧ Hid (∀ i (h2 : i < xs.length), cs[i * 2]? = some (.string (if i < j then markOf (k + cntL cntSeg (xs.take i)) else xs[i].1)) ∧ lo ≤ A i ∧ B i ≤ hi ∧ (B i ≤ g ∨ g < A i) ∧ ∃ u, cs[i * 2 + 1]? = some u ∧ OFlds (A i) (B i) X u (if i < j then mkFs (k + cntL cntSeg (xs.take i) + 1) xs[i].2 else xs[i].2)) ∧ Hid (Within lo hi w X)) (fun _ i _ => xs.length - (intOf i).toNat)
  case atStart => exact ⟨_, 0, k, cs0, rfl, Nat.zero_le _, rfl, rfl, hide (by simp [cntL]), HR, HCL, hide (fun i h2 => by
    obtain ⟨e0, e1, e2, e3, e4, u, e5, e6⟩ := HE.out i h2
    rw [if_neg (by omega), if_neg (by omega)]
    exact ⟨e0, e2, e3, e4, u, e5, e6⟩), hide (Within.refl _ _ _)⟩
  case round =>
    obtain ⟨X, j, K, cs, rfl, hj, rfl, rfl, HKE, HRX, HLX, HEX, HW⟩ := hrel
    by_cases hlt : j < xs.length
    · obtain ⟨e0, e2, e3, e4, u, e5, e6⟩ := HEX.out j hlt
      rw [if_neg (by omega)] at e0
      rw [if_neg (by omega)] at e6
      have hKb : K + 1 + wFlds (xs[j]'hlt).2 ≤ 4000000 := by have h1 := HC.out j hlt; have h2 := HK.out; rw [HKE.out]; omega
      have hwb : wFlds (xs[j]'hlt).2 ≤ 1048576 := (HM.out j hlt).1
      have HEB := hide (show lo ≤ A j ∧ B j ≤ hi ∧ (B j ≤ g ∨ g < A j) from ⟨e2, e3, e4⟩)
      obtain ⟨up, uc, rfl⟩ := e6.isSlice
      have HU := hide e5
      have HOK := hide e6
      clear e0 e2 e3 e4 e5 e6
      go_wp2_with fail
      refine (markText_any K _ (by omega)).mono ?_
      rintro e w2 ⟨rfl, hb2⟩
      have row2 := HRX.out.below hb2 HRX.out.lt
      obtain ⟨z0, hz0⟩ := row2.some (j * 2) (by have := HLX.out; omega)
      have hf0 := row2.free (j * 2)
      have row3 := row2.set (j := j * 2) (.string (markOf K))
      have c31 : (w2.setCell ⟨g, j * 2, none⟩ (.string (markOf K))).cell? ⟨g, j * 2 + 1, none⟩ = some (.slice up (xs[j]'hlt).2.length uc) := by rw [row3.cell, List.getElem?_set_ne (by omega)]; exact HU.out
      have hw3 : Within lo hi X (w2.setCell ⟨g, j * 2, none⟩ (.string (markOf K))) := Within.ofOnly (((Only.refl g X).below hb2).set (.string (markOf K))) HG.out.1 HG.out.2
      have hs3 : ∀ a b, (b ≤ g ∨ g < a) → SameIn a b X (w2.setCell ⟨g, j * 2, none⟩ (.string (markOf K))) := fun a b h k h1 h2 hk => (((Only.refl g X).below hb2).set (j := j * 2) (.string (markOf K))).block k hk (fun e => by cases e; omega)
      have HR3 := hide row3
      have HW3 := hide hw3
      have HS3 := hide hs3
      have HOK3 := hide (Keeps.go (HS3.out (A j) (B j) HEB.out.2.2) HOK.out)
      clear row2 row3 hw3 hs3 hb2 HOK
      go_wp2_with fail
      have ek : ((K : Int) + 1) = ((K + 1 : Nat) : Int) := by simp
      rw [ek]
      refine (markFieldS_own (A j) (B j) _ (xs[j]'hlt).2 (K + 1) _ hwb hKb HOK3.out).mono ?_
      rintro e w4 ⟨rfl, hok, hw⟩
      clear ek
      have HK2 : Hid (K + 1 + cntL cntF (xs[j]'hlt).2 = k + cntL cntSeg (xs.take (j + 1))) := by rw [HSN.out j hlt, HKE.out]; exact (by unfold cntSeg cntFs; omega : k + cntL cntSeg (xs.take j) + 1 + cntL cntF (xs[j]'hlt).2 = k + (cntL cntSeg (xs.take j) + cntSeg (xs[j]'hlt)))
      have HR4 := hide (hw.row HR3.out (by have := HEB.out.2.2; omega))
      have HW4 := hide ((HW.out.trans HW3.out).trans (hw.mono HEB.out.1 HEB.out.2.1))
      have HL4 : Hid (xs.length * 2 ≤ (cs.set (j * 2) (.string (markOf K))).length) := hide (by rw [List.length_set]; exact HLX.out)
      have HE4 : Hid (∀ i (h2 : i < xs.length), (cs.set (j * 2) (.string (markOf K)))[i * 2]? = some (.string (if i < j + 1 then markOf (k + cntL cntSeg (xs.take i)) else xs[i].1)) ∧ lo ≤ A i ∧ B i ≤ hi ∧ (B i ≤ g ∨ g < A i) ∧ ∃ u, (cs.set (j * 2) (.string (markOf K)))[i * 2 + 1]? = some u ∧ OFlds (A i) (B i) w4 u (if i < j + 1 then mkFs (k + cntL cntSeg (xs.take i) + 1) xs[i].2 else xs[i].2)) := by
        intro i h2
        obtain ⟨f0, f1, f2, f3, u, f4, f5⟩ := HEX.out i h2
        have hlx := HLX.out
        by_cases hij : i = j
        · subst hij
          rw [if_pos (by omega), if_pos (by omega), List.getElem?_set_self (by omega), List.getElem?_set_ne (by omega)]
          rw [← HKE.out]
          exact ⟨rfl, f1, f2, f3, _, HU.out, hok⟩
        · have hd : B i ≤ A j ∨ B j ≤ A i := by
            rcases Nat.lt_or_gt_of_ne hij with h | h
            · exact .inl (HD.out i j h hlt)
            · exact .inr (HD.out j i h h2)
          rw [List.getElem?_set_ne (by omega), List.getElem?_set_ne (by omega)]
          have hk5 := Keeps.go (hw.same hd) (Keeps.go (HS3.out (A i) (B i) f3) f5)
          by_cases h : i < j
          · rw [if_pos h] at f0 hk5
            rw [if_pos (by omega), if_pos (by omega)]
            exact ⟨f0, f1, f2, f3, u, f4, hk5⟩
          · rw [if_neg h] at f0 hk5
            rw [if_neg (by omega), if_neg (by omega)]
            exact ⟨f0, f1, f2, f3, u, f4, hk5⟩
      clear hok hw
      go_wp2
      go_roundw
      case rel => exact ⟨_, j + 1, _, _, rfl, by omega, by go_num, rfl, HK2, HR4, HL4, HE4, HW4⟩
      case measure => simp [intOf]; omega
    · have hje : j = xs.length := by omega
      have HKF : Hid (K = k + cntSegs xs) := by have := HKE.out; rw [List.take_of_length_le (by omega)] at this; exact this
      have hml := mkL_len cntSeg mkSeg xs k
      have HF : Hid (OSegs lo hi X (.slice (some ⟨g, 0, none⟩) xs.length cap) (mkSegs k xs)) := by
        refine ⟨_, cap, ?_, ?_, HCP.out.2, fun _ => ⟨g, cs, A, B, rfl, HG.out.1, HG.out.2, HRX.out, ?_, fun i h2 => ?_, fun i j h1 h2 => HD.out i j h1 (by unfold mkSegs at h2; rw [hml] at h2; exact h2)⟩⟩
        · unfold mkSegs; rw [hml]
        · unfold mkSegs; rw [hml]; exact HCP.out.1
        · unfold mkSegs; rw [hml]; exact HLX.out
        · have h3 : i < xs.length := by unfold mkSegs at h2; rw [hml] at h2; exact h2
          obtain ⟨f0, f1, f2, f3, u, f4, f5⟩ := HEX.out i h3
          rw [if_pos (by omega)] at f0 f5
          have e : (mkSegs k xs)[i] = mkSeg (k + cntL cntSeg (xs.take i)) xs[i] := mkL_get cntSeg mkSeg xs k i h3 h2
          rw [e]
          refine ⟨f0, markOf_small _ ?_, f1, f2, f3, u, f4, f5⟩
          have h5 := HC.out i h3
          have h6 := HK.out
          omega
      clear hml
      go_wp2
      go_ret
      exact ⟨ret_int (by rw [HKF.out]), HF.out, HW.out⟩
set_option maxHeartbeats 2000000 in
theorem toSegment_own (n : ByteArray) (u : Value) (x : List (List (List (List ByteArray)))) (w : World) (hn : wFlds x ≤ 1048576) (hr : RFlds 0 w u x) :
    Calls Tryz.prog 124 #[.agg #[.string n, u]] w fun e w' => ∃ p c, e = .returned (.agg #[.string n, .slice p x.length c]) ∧ OFlds w.heap.size w'.heap.size w' (.slice p x.length c) x ∧ Below w.heap.size w w' := by
  obtain ⟨p, c, rfl⟩ := hr.isSlice
  obtain ⟨W, hW⟩ : ∃ W, W = (((w.alloc (.cells #[.string n, .slice p x.length c] 146)).alloc (.cells #[.string ⟨#[]⟩, .slice none 0 0] 85)).alloc (.cells #[.string n, .slice none 0 0] 85)) := ⟨_, rfl⟩
  have hb0 : Below w.heap.size w W := by rw [hW]; exact (((Below.refl _ _).alloc (Nat.le_refl _) _).alloc (by simp) _).alloc (by simp; omega) _
  have HR := hide (hr.below hb0)
  have HB0 := hide hb0
  have R1 : Row W (w.heap.size + 1) 85 [.string ⟨#[]⟩, .slice none 0 0] := by
    rw [hW]
    have := (row_new (w.alloc (.cells #[.string n, .slice p x.length c] 146)) [.string ⟨#[]⟩, .slice none 0 0] 85).alloc (.cells #[.string n, .slice none 0 0] 85)
    simpa using this
  have R2 : Row W (w.heap.size + 2) 85 [.string n, .slice none 0 0] := by
    rw [hW]
    have := row_new ((w.alloc (.cells #[.string n, .slice p x.length c] 146)).alloc (.cells #[.string ⟨#[]⟩, .slice none 0 0] 85)) [.string n, .slice none 0 0] 85
    simpa using this
  have hsz : W.heap.size = w.heap.size + 3 := by rw [hW]; simp
  clear hr hb0
  go_enter Tryz.func124, Tryz.ntmps124
  go_wp2_with fail
  rw [← hW]
  refine (toFieldS_own _ x _ hn HR.out).mono ?_
  rintro e w1 ⟨p1, c1, rfl, hr1, hb1⟩
  clear hW
  have r1 := R1.below hb1 (by omega)
  have r2 := R2.below hb1 (by omega)
  have f2 : w1.cell? ⟨w.heap.size + 2, 1, none⟩ = some (.slice none 0 0) := r2.cell 1
  have z2 := r2.free 1
  have s2 := r2.set (j := 1) (.slice p1 x.length c1)
  have s1 := r1.other (b := w.heap.size + 2) (j := 1) (by omega) (.slice p1 x.length c1)
  have g2 : (w1.setCell ⟨w.heap.size + 2, 1, none⟩ (.slice p1 x.length c1)).cell? ⟨w.heap.size + 2, 1, none⟩ = some (.slice p1 x.length c1) := s2.cell 1
  have g20 : (w1.setCell ⟨w.heap.size + 2, 1, none⟩ (.slice p1 x.length c1)).cell? ⟨w.heap.size + 2, 0, none⟩ = some (.string n) := s2.cell 0
  have g1 : (w1.setCell ⟨w.heap.size + 2, 1, none⟩ (.slice p1 x.length c1)).cell? ⟨w.heap.size + 1, 0, none⟩ = some (.string ⟨#[]⟩) := s1.cell 0
  have g11 : (w1.setCell ⟨w.heap.size + 2, 1, none⟩ (.slice p1 x.length c1)).cell? ⟨w.heap.size + 1, 1, none⟩ = some (.slice none 0 0) := s1.cell 1
  have z1 := s1.free 0
  have z11 := s1.free 1
  have t1 := (s1.set (j := 0) (.string n)).set (j := 1) (.slice p1 x.length c1)
  have q0 : (((w1.setCell ⟨w.heap.size + 2, 1, none⟩ (.slice p1 x.length c1)).setCell ⟨w.heap.size + 1, 0, none⟩ (.string n)).setCell ⟨w.heap.size + 1, 1, none⟩ (.slice p1 x.length c1)).cell? ⟨w.heap.size + 1, 0, none⟩ = some (.string n) := t1.cell 0
  have q1 : (((w1.setCell ⟨w.heap.size + 2, 1, none⟩ (.slice p1 x.length c1)).setCell ⟨w.heap.size + 1, 0, none⟩ (.string n)).setCell ⟨w.heap.size + 1, 1, none⟩ (.slice p1 x.length c1)).cell? ⟨w.heap.size + 1, 1, none⟩ = some (.slice p1 x.length c1) := t1.cell 1
  rw [hsz] at hr1
  have hw1 : w.heap.size + 3 ≤ w1.heap.size := by rw [← hsz]; exact hb1.size
  have es : (((w1.setCell ⟨w.heap.size + 2, 1, none⟩ (.slice p1 x.length c1)).setCell ⟨w.heap.size + 1, 0, none⟩ (.string n)).setCell ⟨w.heap.size + 1, 1, none⟩ (.slice p1 x.length c1)).heap.size = w1.heap.size := by simp [World.setCell]
  have HRE : Hid (OFlds w.heap.size (((w1.setCell ⟨w.heap.size + 2, 1, none⟩ (.slice p1 x.length c1)).setCell ⟨w.heap.size + 1, 0, none⟩ (.string n)).setCell ⟨w.heap.size + 1, 1, none⟩ (.slice p1 x.length c1)).heap.size (((w1.setCell ⟨w.heap.size + 2, 1, none⟩ (.slice p1 x.length c1)).setCell ⟨w.heap.size + 1, 0, none⟩ (.string n)).setCell ⟨w.heap.size + 1, 1, none⟩ (.slice p1 x.length c1)) (.slice p1 x.length c1) x) := hide (by
    rw [es]
    exact Keeps.wide (by omega : w.heap.size ≤ w.heap.size + 3) (Nat.le_refl _) (Keeps.go (SameIn.set _ _ (by omega)) (Keeps.go (SameIn.set _ _ (by omega)) (Keeps.go (SameIn.set w1 (g := w.heap.size + 2) (j := 1) (.slice p1 x.length c1) (by omega)) hr1))))
  have HBE := hide ((((HB0.out.trans (hb1.mono (by omega))).setCell (p := ⟨w.heap.size + 2, 1, none⟩) (by show w.heap.size ≤ w.heap.size + 2; omega) (.slice p1 x.length c1)).setCell (p := ⟨w.heap.size + 1, 0, none⟩) (by show w.heap.size ≤ w.heap.size + 1; omega) (.string n)).setCell (p := ⟨w.heap.size + 1, 1, none⟩) (by show w.heap.size ≤ w.heap.size + 1; omega) (.slice p1 x.length c1))
  clear hr1 hb1 r1 r2 s1 s2 t1 es hw1
  go_wp2
  exact bodyPost_ret (v := .agg #[.string n, .slice p1 x.length c1]) (by simp [results, Tryz.results124, go_sem, q0, q1]) rfl ⟨_, _, rfl, HRE.out, HBE.out⟩

set_option maxHeartbeats 4000000 in
theorem toSegmentS_own (v : Value) (xs : List Seg) (w : World) (hn : wSegs xs ≤ 1048576) (hr : RSegs 0 w v xs) :
    Calls Tryz.prog 111 #[v] w fun e w' => ∃ p c, e = .returned (.slice p xs.length c) ∧ OSegs w.heap.size w'.heap.size w' (.slice p xs.length c) xs ∧ Below w.heap.size w w' := by
  obtain ⟨i0, hi, hz0, hz1, hz2⟩ := info_parts Tryz.infoSegment
  obtain ⟨hl, hm⟩ := wSegs_mem hn
  have HM := hide hm
  clear hn hm
  obtain ⟨p, cap, rfl, h1, h2, h4⟩ := hr
  have H4 := hide h4
  clear h4
  go_enter Tryz.func111, Tryz.ntmps111
  go_wp2_with (at_make; refine wpList_make_full _ rfl _ _ 51 rfl w.heap.size 85 i0 (.agg #[.string ⟨#[]⟩, .slice none 0 0]) 2 Tryz.underlying51 hi hz0 hz1 _ _ _ _ xs.length rfl rfl rfl rfl ?b2 ?b3 (Nat.le_refl _) ?_)
  case b2 => rw [hz2]; omega
  case b3 => unfold maxLen; omega
  intro w1 hown hgrow
  obtain ⟨Z, hZ, hZl⟩ := own_row hown
  have hb1 : Below w.heap.size w w1 := (Below.refl _ _).grown hgrow (Nat.le_refl _) (by simp)
  have HZ := hide hZ
  have HB := hide hb1
  have HL := hide hZl
  clear hZ hown hgrow hb1 hZl
  go_wp2_with fail
  go_loopw [4] (fun i wr => ∃ (X : World) (k : Nat) (cs : List Value), X = wr ∧ k ≤ xs.length ∧ i = .int .i64 k ∧ Hid (Row X w.heap.size 85 cs) ∧ Hid (Below w.heap.size w X) ∧ Hid (cs.length = xs.length * 2) ∧ Hid (w.heap.size + 1 ≤ X.heap.size) ∧ Hid (∃ A B : Nat → Nat, (∀ j (h2 : j < xs.length), j < k → cs[j * 2]? = some (.string xs[j].1) ∧ xs[j].1.size ≤ maxLen ∧ w.heap.size + 1 ≤ A j ∧ B j ≤ X.heap.size ∧ ∃ u, cs[j * 2 + 1]? = some u ∧ OFlds (A j) (B j) X u xs[j].2) ∧ ∀ i j, i < j → j < k → B i ≤ A j)) (fun i _ => xs.length - (intOf i).toNat)
  case atStart => exact ⟨_, 0, Z, rfl, Nat.zero_le _, rfl, HZ, HB, HL, hide (by have := HZ.out.lt; exact this), hide ⟨fun _ => 0, fun _ => 0, fun j _ h1 => absurd h1 (by omega), fun i j _ h => absurd h (by omega)⟩⟩
  case round =>
    obtain ⟨X, k, cs, rfl, hk, rfl, HRow, HBel, HLn, HSz, HEl⟩ := hrel
    by_cases hlt : k < xs.length
    · obtain ⟨g, off, hp, hg, _, hc⟩ := H4.out (by omega)
      subst hp
      obtain ⟨ha, hns, u, hu, hru⟩ := hc k hlt
      have hk0 := (HBel.out.cell (p := ⟨g, off + k * 2, none⟩) hg).trans ha
      have hk1 := (HBel.out.cell (p := ⟨g, off + k * 2 + 1, none⟩) hg).trans hu
      have HRU := hide (hru.below HBel.out)
      obtain ⟨up, uc, rfl⟩ := hru.isSlice
      have HNS := hide hns
      have hlt0 := HRow.out.lt
      clear hu hru hc ha hns
      go_wp2_with fail
      refine (toSegment_own (xs[k]'hlt).1 _ (xs[k]'hlt).2 _ (HM.out k hlt).1 HRU.out).mono ?_
      rintro e w2 ⟨p2, c2, rfl, hr2, hb2⟩
      have row2 := HRow.out.below hb2 hlt0
      obtain ⟨z0, hz0'⟩ := row2.some (k * 2) (by rw [HLn.out]; omega)
      obtain ⟨z1, hz1'⟩ := row2.some (k * 2 + 1) (by rw [HLn.out]; omega)
      have hf0 := row2.free (k * 2)
      have hf1 := row2.free (k * 2 + 1)
      have hnext := (row2.set (j := k * 2) (.string (xs[k]'hlt).1)).set (j := k * 2 + 1) (.slice p2 (xs[k]'hlt).2.length c2)
      have HN := hide hnext
      have HMB := hide (((HBel.out.trans (hb2.mono HBel.out.size)).setCell (p := ⟨w.heap.size, k * 2, none⟩) (Nat.le_refl _) (.string (xs[k]'hlt).1)).setCell (p := ⟨w.heap.size, k * 2 + 1, none⟩) (Nat.le_refl _) (.slice p2 (xs[k]'hlt).2.length c2))
      have HLn2 : Hid (((cs.set (k * 2) (.string (xs[k]'hlt).1)).set (k * 2 + 1) (.slice p2 (xs[k]'hlt).2.length c2)).length = xs.length * 2) := by rw [List.length_set, List.length_set]; exact HLn
      have es : ((w2.setCell ⟨w.heap.size, k * 2, none⟩ (.string (xs[k]'hlt).1)).setCell ⟨w.heap.size, k * 2 + 1, none⟩ (.slice p2 (xs[k]'hlt).2.length c2)).heap.size = w2.heap.size := by simp [World.setCell]
      have hXs := HSz.out
      have hXw := hb2.size
      have HSz2 : Hid (w.heap.size + 1 ≤ ((w2.setCell ⟨w.heap.size, k * 2, none⟩ (.string (xs[k]'hlt).1)).setCell ⟨w.heap.size, k * 2 + 1, none⟩ (.slice p2 (xs[k]'hlt).2.length c2)).heap.size) := hide (by rw [es]; omega)
      have HEl2 : Hid (∃ A B : Nat → Nat, (∀ j (h2 : j < xs.length), j < k + 1 → ((cs.set (k * 2) (.string (xs[k]'hlt).1)).set (k * 2 + 1) (.slice p2 (xs[k]'hlt).2.length c2))[j * 2]? = some (.string xs[j].1) ∧ xs[j].1.size ≤ maxLen ∧ w.heap.size + 1 ≤ A j ∧ B j ≤ ((w2.setCell ⟨w.heap.size, k * 2, none⟩ (.string (xs[k]'hlt).1)).setCell ⟨w.heap.size, k * 2 + 1, none⟩ (.slice p2 (xs[k]'hlt).2.length c2)).heap.size ∧ ∃ u, ((cs.set (k * 2) (.string (xs[k]'hlt).1)).set (k * 2 + 1) (.slice p2 (xs[k]'hlt).2.length c2))[j * 2 + 1]? = some u ∧ OFlds (A j) (B j) ((w2.setCell ⟨w.heap.size, k * 2, none⟩ (.string (xs[k]'hlt).1)).setCell ⟨w.heap.size, k * 2 + 1, none⟩ (.slice p2 (xs[k]'hlt).2.length c2)) u xs[j].2) ∧ ∀ i j, i < j → j < k + 1 → B i ≤ A j) := by
        obtain ⟨A, B, hE, hD⟩ := HEl.out
        have hll := HLn.out
        refine ⟨fun i => if i = k then X.heap.size else A i, fun i => if i = k then w2.heap.size else B i, fun j h2 h3 => ?_, fun i j hij hj => ?_⟩
        · rw [es]
          dsimp only
          by_cases hj : j = k
          · subst hj
            rw [if_pos rfl, if_pos rfl]
            refine ⟨?_, HNS.out, hXs, Nat.le_refl _, .slice p2 (xs[j]'hlt).2.length c2, ?_, Keeps.go (SameIn.set _ _ (by omega)) (Keeps.go (SameIn.set _ _ (by omega)) hr2)⟩
            · rw [List.getElem?_set_ne (by omega), List.getElem?_set_self (by omega)]
            · rw [List.getElem?_set_self (by rw [List.length_set]; omega)]
          · obtain ⟨e1, e2, f1, f2, u, e3, e4⟩ := hE j h2 (by omega)
            rw [if_neg hj, if_neg hj]
            refine ⟨?_, e2, f1, by omega, u, ?_, Keeps.go (SameIn.set _ _ (by omega)) (Keeps.go (SameIn.set _ _ (by omega)) (Keeps.go (SameIn.ofBelow hb2) e4))⟩
            · rw [List.getElem?_set_ne (by omega), List.getElem?_set_ne (by omega)]; exact e1
            · rw [List.getElem?_set_ne (by omega), List.getElem?_set_ne (by omega)]; exact e3
        · obtain ⟨e1, e2, f1, f2, u, e3, e4⟩ := hE i (by omega) (by omega)
          dsimp only
          by_cases hjk : j = k
          · rw [if_pos hjk, if_neg (by omega)]; omega
          · rw [if_neg hjk, if_neg (by omega)]; exact hD i j hij (by omega)
      clear hnext row2 hr2 hb2 hlt0 hk0 hk1 es hXs hXw
      go_wp2
      go_roundw
      case rel => exact ⟨_, k + 1, _, rfl, by omega, by go_num, HN, HMB, HLn2, HSz2, HEl2⟩
      case measure => simp [intOf]; omega
    · have HE : Hid (OSegs w.heap.size X.heap.size X (.slice (some ⟨w.heap.size, 0, none⟩) xs.length xs.length) xs) := by
        obtain ⟨A, B, hE, hD⟩ := HEl.out
        refine ⟨_, _, rfl, Nat.le_refl _, by unfold maxLen; omega, fun _ => ⟨w.heap.size, cs, A, B, rfl, Nat.le_refl _, HSz.out, HRow.out, by rw [HLn.out]; omega, fun i hi => ?_, fun i j h1 h2 => hD i j h1 (by omega)⟩⟩
        obtain ⟨e1, e2, f1, f2, u, e3, e4⟩ := hE i hi (by omega)
        exact ⟨e1, e2, by omega, f2, .inr (by omega), u, e3, e4⟩
      go_wp2
      go_ret
      exact ⟨_, _, rfl, HE.out, HBel.out⟩
set_option maxHeartbeats 2000000 in
theorem toMessage_own (n : ByteArray) (u : Value) (x : List Seg) (w : World) (hn : wSegs x ≤ 1048576) (hr : RSegs 0 w u x) :
    Calls Tryz.prog 98 #[.agg #[.string n, u]] w fun e w' => ∃ p c, e = .returned (.agg #[.string n, .slice p x.length c]) ∧ OSegs w.heap.size w'.heap.size w' (.slice p x.length c) x ∧ Below w.heap.size w w' := by
  obtain ⟨p, c, rfl⟩ := hr.isSlice
  obtain ⟨W, hW⟩ : ∃ W, W = (((w.alloc (.cells #[.string n, .slice p x.length c] 115)).alloc (.cells #[.string ⟨#[]⟩, .slice none 0 0] 53)).alloc (.cells #[.string n, .slice none 0 0] 53)) := ⟨_, rfl⟩
  have hb0 : Below w.heap.size w W := by rw [hW]; exact (((Below.refl _ _).alloc (Nat.le_refl _) _).alloc (by simp) _).alloc (by simp; omega) _
  have HR := hide (hr.below hb0)
  have HB0 := hide hb0
  have R1 : Row W (w.heap.size + 1) 53 [.string ⟨#[]⟩, .slice none 0 0] := by
    rw [hW]
    have := (row_new (w.alloc (.cells #[.string n, .slice p x.length c] 115)) [.string ⟨#[]⟩, .slice none 0 0] 53).alloc (.cells #[.string n, .slice none 0 0] 53)
    simpa using this
  have R2 : Row W (w.heap.size + 2) 53 [.string n, .slice none 0 0] := by
    rw [hW]
    have := row_new ((w.alloc (.cells #[.string n, .slice p x.length c] 115)).alloc (.cells #[.string ⟨#[]⟩, .slice none 0 0] 53)) [.string n, .slice none 0 0] 53
    simpa using this
  have hsz : W.heap.size = w.heap.size + 3 := by rw [hW]; simp
  clear hr hb0
  go_enter Tryz.func98, Tryz.ntmps98
  go_wp2_with fail
  rw [← hW]
  refine (toSegmentS_own _ x _ hn HR.out).mono ?_
  rintro e w1 ⟨p1, c1, rfl, hr1, hb1⟩
  clear hW
  have r1 := R1.below hb1 (by omega)
  have r2 := R2.below hb1 (by omega)
  have f2 : w1.cell? ⟨w.heap.size + 2, 1, none⟩ = some (.slice none 0 0) := r2.cell 1
  have z2 := r2.free 1
  have s2 := r2.set (j := 1) (.slice p1 x.length c1)
  have s1 := r1.other (b := w.heap.size + 2) (j := 1) (by omega) (.slice p1 x.length c1)
  have g2 : (w1.setCell ⟨w.heap.size + 2, 1, none⟩ (.slice p1 x.length c1)).cell? ⟨w.heap.size + 2, 1, none⟩ = some (.slice p1 x.length c1) := s2.cell 1
  have g20 : (w1.setCell ⟨w.heap.size + 2, 1, none⟩ (.slice p1 x.length c1)).cell? ⟨w.heap.size + 2, 0, none⟩ = some (.string n) := s2.cell 0
  have g1 : (w1.setCell ⟨w.heap.size + 2, 1, none⟩ (.slice p1 x.length c1)).cell? ⟨w.heap.size + 1, 0, none⟩ = some (.string ⟨#[]⟩) := s1.cell 0
  have g11 : (w1.setCell ⟨w.heap.size + 2, 1, none⟩ (.slice p1 x.length c1)).cell? ⟨w.heap.size + 1, 1, none⟩ = some (.slice none 0 0) := s1.cell 1
  have z1 := s1.free 0
  have z11 := s1.free 1
  have t1 := (s1.set (j := 0) (.string n)).set (j := 1) (.slice p1 x.length c1)
  have q0 : (((w1.setCell ⟨w.heap.size + 2, 1, none⟩ (.slice p1 x.length c1)).setCell ⟨w.heap.size + 1, 0, none⟩ (.string n)).setCell ⟨w.heap.size + 1, 1, none⟩ (.slice p1 x.length c1)).cell? ⟨w.heap.size + 1, 0, none⟩ = some (.string n) := t1.cell 0
  have q1 : (((w1.setCell ⟨w.heap.size + 2, 1, none⟩ (.slice p1 x.length c1)).setCell ⟨w.heap.size + 1, 0, none⟩ (.string n)).setCell ⟨w.heap.size + 1, 1, none⟩ (.slice p1 x.length c1)).cell? ⟨w.heap.size + 1, 1, none⟩ = some (.slice p1 x.length c1) := t1.cell 1
  rw [hsz] at hr1
  have hw1 : w.heap.size + 3 ≤ w1.heap.size := by rw [← hsz]; exact hb1.size
  have es : (((w1.setCell ⟨w.heap.size + 2, 1, none⟩ (.slice p1 x.length c1)).setCell ⟨w.heap.size + 1, 0, none⟩ (.string n)).setCell ⟨w.heap.size + 1, 1, none⟩ (.slice p1 x.length c1)).heap.size = w1.heap.size := by simp [World.setCell]
  have HRE : Hid (OSegs w.heap.size (((w1.setCell ⟨w.heap.size + 2, 1, none⟩ (.slice p1 x.length c1)).setCell ⟨w.heap.size + 1, 0, none⟩ (.string n)).setCell ⟨w.heap.size + 1, 1, none⟩ (.slice p1 x.length c1)).heap.size (((w1.setCell ⟨w.heap.size + 2, 1, none⟩ (.slice p1 x.length c1)).setCell ⟨w.heap.size + 1, 0, none⟩ (.string n)).setCell ⟨w.heap.size + 1, 1, none⟩ (.slice p1 x.length c1)) (.slice p1 x.length c1) x) := hide (by
    rw [es]
    exact OSegs.wide (((hr1.keep (SameIn.set w1 (g := w.heap.size + 2) (j := 1) (.slice p1 x.length c1) (by omega))).keep (SameIn.set _ _ (by omega))).keep (SameIn.set _ _ (by omega))) (by omega : w.heap.size ≤ w.heap.size + 3) (Nat.le_refl _))
  have HBE := hide ((((HB0.out.trans (hb1.mono (by omega))).setCell (p := ⟨w.heap.size + 2, 1, none⟩) (by show w.heap.size ≤ w.heap.size + 2; omega) (.slice p1 x.length c1)).setCell (p := ⟨w.heap.size + 1, 0, none⟩) (by show w.heap.size ≤ w.heap.size + 1; omega) (.string n)).setCell (p := ⟨w.heap.size + 1, 1, none⟩) (by show w.heap.size ≤ w.heap.size + 1; omega) (.slice p1 x.length c1))
  clear hr1 hb1 r1 r2 s1 s2 t1 es hw1
  go_wp2
  exact bodyPost_ret (v := .agg #[.string n, .slice p1 x.length c1]) (by simp [results, Tryz.results98, go_sem, q0, q1]) rfl ⟨_, _, rfl, HRE.out, HBE.out⟩

end Go.Proofs.YtholbhjfmfanbaaGreat
