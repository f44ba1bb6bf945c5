/- StoreGet of the program. -/
import Derived.Test.YtbhdbkffejlfmaaGreatDoorXGQSGet
import Derived.Test.YtbhdbkffejlfmaaGreatDoorXGQReadT
import Derived.Test.YtbhdbkffejlfmaaGreatDoorXGKAs
namespace Go.Proofs.YtbhdbkffejlfmaaGreatDoor
open Go.RowKit
/-- The call ended with a map that may be asked, or with the code c. -/
def FrIs (B : Nat) (e : Ending) (w : World) (c : Int) (L : List Item) : Prop :=
  ∃ v err, e = .returned (.tuple #[v, err]) ∧ (c ≠ 0 → err = .iface 118 (.agg #[.int .i64 c])) ∧ (c = 0 → err = .nilIface ∧ ∃ b n, v = .map (some b) ∧ B ≤ b ∧ MapIs w b n L)
theorem FrIs.ill (B : Nat) (w : World) (v : Value) (c : Int) (L : List Item) (hc : c ≠ 0) : FrIs B (.returned (.tuple #[v, .iface 118 (.agg #[.int .i64 c])])) w c L := ⟨v, _, rfl, fun _ => rfl, fun h => absurd h hc⟩
theorem FrIs.ok {B b n : Nat} {w : World} {L : List Item} (hb : B ≤ b) (h : MapIs w b n L) : FrIs B (.returned (.tuple #[.map (some b), .nilIface])) w 0 L := ⟨_, _, rfl, fun h => absurd rfl h, fun _ => ⟨rfl, b, n, rfl, hb, h⟩⟩
set_option maxHeartbeats 4000000 in
theorem storeFor_any (vs vp : Value) (xs : List ByteArray) (ps : List (Int × ByteArray)) (d : ByteArray) (aF aR aU : Addr) (w : World) (hn : xs.length ≤ 1048576) (hn2 : ps.length ≤ 1048576) (hd : d.size ≤ 1048576) (hr : Reads w vs xs) (hp : ReadsP w vp ps) (hS : Sents aF aR aU w) (hG : St3.Laid w) :
    Calls Tryz.prog 66 #[.agg #[vs, vp], .string d] w fun e w' => FrIs w.heap.size e w' (forC xs ps d) (itemsO xs ps) ∧ Below w.heap.size w w' := by
  have hb0 : Below w.heap.size w (w.alloc (.cells #[vs, vp] 29)) := (Below.refl _ _).alloc (Nat.le_refl _) _
  have HB0 := hide hb0
  have HR := hide (hr.below hb0 (Nat.le_refl _))
  have HP := hide (hp.below hb0 (Nat.le_refl _))
  obtain ⟨p1, c1, rfl, _⟩ := hr
  obtain ⟨p2, c2, rfl, _⟩ := hp
  have HC := hide (readStore_any (.slice p1 xs.length c1) (.slice p2 ps.length c2) xs ps aF aR aU _ hn hn2 HR.out HP.out (Stab.go hb0 hS) (Stab.go hb0 hG))
  clear hb0 hS hG
  have hdm : d.size ≤ maxLen := by unfold maxLen; omega
  by_cases h8 : 8000 < d.size
  · have hE : forC xs ps d = 2 := by unfold forC; rw [if_pos h8]
    rw [hE]
    have h8i : (8000 : Int) < (d.size : Int) := by omega
    clear hE
    go_enter Tryz.func66, Tryz.ntmps66
    go_wp2
    go_ret2
    exact ⟨FrIs.ill _ _ _ _ _ (by decide), HB0.out⟩
  have h8i : ¬ (8000 : Int) < (d.size : Int) := by omega
  cases hk : keptO xs ps with
  | none =>
    have hE : forC xs ps d = 1 := by unfold forC; rw [if_neg h8, hk]; rfl
    rw [hE]
    rw [hk] at HC
    clear hE hk
    go_enter Tryz.func66, Tryz.ntmps66
    go_wp2_with fail
    refine HC.out.mono ?_
    rintro e w1 ⟨⟨v, err, rfl, h1, _⟩, hb1⟩
    obtain rfl := h1 rfl
    have HB1 := hide (HB0.out.trans (hb1.mono HB0.out.size))
    clear hb1 h1
    go_wp2
    go_ret2
    exact ⟨FrIs.ill _ _ _ _ _ (by decide), HB1.out⟩
  | some L =>
    have HIT := hide (show itemsO xs ps = L by unfold itemsO; rw [hk]; rfl)
    rw [HIT.out]
    have HNR := hide (fun X : World => implNameRight_any d X hdm)
    cases hid : idB d with
    | false =>
      have hE : forC xs ps d = 1 := by unfold forC; rw [if_neg h8, hk, if_neg (by simp), if_pos hid]
      rw [hE]
      rw [hk] at HC
      rw [hid] at HNR
      clear hE hk hid
      go_enter Tryz.func66, Tryz.ntmps66
      go_wp2_with fail
      refine HC.out.mono ?_
      rintro e w1 ⟨⟨v, err, rfl, _, h2⟩, hb1⟩
      obtain ⟨rfl, b, n, rfl, _, _⟩ := h2 L rfl
      have HB1 := hide (HB0.out.trans (hb1.mono HB0.out.size))
      clear hb1 h2
      go_wp2_with fail
      refine (HNR.out _).mono ?_
      rintro e w2 ⟨rfl, h2⟩
      obtain rfl := h2.symm
      go_wp2_with fail
      refine (storeRefusal_true 1 _).mono ?_
      rintro e w3 ⟨rfl, h3⟩
      obtain rfl := h3.symm
      go_wp2
      go_ret2
      exact ⟨FrIs.ill _ _ _ _ _ (by decide), HB1.out⟩
    | true =>
      have hE : forC xs ps d = 0 := by unfold forC; rw [if_neg h8, hk, if_neg (by simp), if_neg (by rw [hid]; simp)]
      rw [hE]
      rw [hk] at HC
      rw [hid] at HNR
      clear hE hk hid
      go_enter Tryz.func66, Tryz.ntmps66
      go_wp2_with fail
      refine HC.out.mono ?_
      rintro e w1 ⟨⟨v, err, rfl, _, h2⟩, hb1⟩
      obtain ⟨rfl, b, n, rfl, hbb, hm⟩ := h2 L rfl
      have HB1 := hide (HB0.out.trans (hb1.mono HB0.out.size))
      have HM := hide hm
      have HBB := hide (Nat.le_trans HB0.out.size hbb)
      clear hb1 h2 hm hbb
      go_wp2_with fail
      refine (HNR.out _).mono ?_
      rintro e w2 ⟨rfl, h2⟩
      obtain rfl := h2.symm
      go_wp2_with fail
      refine (storeRefusal_false 1 _).mono ?_
      rintro e w3 ⟨rfl, h3⟩
      obtain rfl := h3.symm
      go_wp2
      go_ret2
      exact ⟨FrIs.ok HBB.out HM.out, HB1.out⟩
theorem map_kept {S : List Nat} {w w' : World} {b n : Nat} {L : List Item} (k : Kept S w w') (h : MapIs w b n L) (hb : b ∉ S) : MapIs w' b n L := by
  obtain ⟨es, clock, hh, F, hs, hD⟩ := h
  exact ⟨es, clock, by rw [k.block b (Array.getElem?_eq_some_iff.1 hh).1 hb]; exact hh, F, hs, hD⟩
def withC (xs : List ByteArray) (ps : List (Int × ByteArray)) (i : ByteArray) : Int := if forC xs ps i ≠ 0 then forC xs ps i else if (itemsO xs ps).any (sameId i) then 0 else 6
theorem find_any (L : List Item) (i : ByteArray) : L.any (sameId i) = (L.find? (sameId i)).isSome := by
  rw [Bool.eq_iff_iff, List.any_eq_true, List.find?_isSome]
theorem getO_with (xs : List ByteArray) (ps : List (Int × ByteArray)) (i : ByteArray) : getO xs ps i = if withC xs ps i ≠ 0 then kill (withC xs ps i) else match (itemsO xs ps).find? (sameId i) with
    | none => kill 6
    | some p => ⟨xs, ps, p.2, 0⟩ := by
  unfold getO withC
  by_cases h : forC xs ps i ≠ 0
  · rw [if_pos h, if_pos h, if_pos h]
  · rw [if_neg h, if_neg h, find_any]
    cases hf : (itemsO xs ps).find? (sameId i) with
    | none => simp
    | some p => simp
theorem look_okB {w : World} {b n : Nat} {L : List Item} (h : MapIs w b n L) (i : ByteArray) (hi : i.size ≤ maxLen) :
    ∃ t : ByteArray, (Instr.lookup 75 (.map (some b)) (.string i) true).run Tryz.prog w = .ok (.tuple #[.agg #[.string t], .bool (L.any (sameId i))]) w := by
  obtain ⟨v, ps, hrun, hv⟩ := World.ownsMap.look_ok h keyed Tryz.underlying75 (zeroKept w) (keptR_mk ⟨#[]⟩) (keyOf_mk i hi)
  rw [datL_at] at hv
  rw [datL_has] at hrun
  cases hf : L.find? (sameId i) with
  | none =>
    rw [hf] at hv
    obtain rfl := keptR_inv hv
    exact ⟨_, hrun⟩
  | some p =>
    rw [hf] at hv
    obtain rfl := keptR_inv hv
    exact ⟨_, hrun⟩
set_option maxHeartbeats 4000000 in
theorem storeWith_any (vs vp : Value) (xs : List ByteArray) (ps : List (Int × ByteArray)) (d : ByteArray) (aF aR aU : Addr) (w : World) (hn : xs.length ≤ 1048576) (hn2 : ps.length ≤ 1048576) (hd : d.size ≤ 1048576) (hr : Reads w vs xs) (hp : ReadsP w vp ps) (hS : Sents aF aR aU w) (hG : St3.Laid w) :
    Calls Tryz.prog 49 #[.agg #[vs, vp], .string d] w fun e w' => FrIs w.heap.size e w' (withC xs ps d) (itemsO xs ps) ∧ Below w.heap.size w w' := by
  have hb0 : Below w.heap.size w (w.alloc (.cells #[vs, vp] 29)) := (Below.refl _ _).alloc (Nat.le_refl _) _
  have HB0 := hide hb0
  have HR := hide (hr.below hb0 (Nat.le_refl _))
  have HP := hide (hp.below hb0 (Nat.le_refl _))
  obtain ⟨p1, c1, rfl, _⟩ := hr
  obtain ⟨p2, c2, rfl, _⟩ := hp
  have HC := hide (storeFor_any (.slice p1 xs.length c1) (.slice p2 ps.length c2) xs ps d aF aR aU _ hn hn2 hd HR.out HP.out (Stab.go hb0 hS) (Stab.go hb0 hG))
  clear hb0 hS hG
  have hdm : d.size ≤ maxLen := by unfold maxLen; omega
  obtain ⟨C, hC⟩ : ∃ C, C = forC xs ps d := ⟨_, rfl⟩
  have HW := hide (show withC xs ps d = if C ≠ 0 then C else if (itemsO xs ps).any (sameId d) then 0 else 6 by rw [hC]; rfl)
  rw [← hC] at HC
  obtain ⟨L, hL⟩ : ∃ L, L = itemsO xs ps := ⟨_, rfl⟩
  rw [← hL] at HC HW ⊢
  clear hC hL
  by_cases hc : C = 0
  rotate_left
  · have hE : withC xs ps d = C := by rw [HW.out, if_pos hc]
    rw [hE]
    have HCN := hide hc
    clear hE HW hc
    go_enter Tryz.func49, Tryz.ntmps49
    go_wp2_with fail
    refine HC.out.mono ?_
    rintro e w1 ⟨⟨v, err, rfl, h1, _⟩, hb1⟩
    obtain rfl := h1 HCN.out
    have HB1 := hide (HB0.out.trans (hb1.mono HB0.out.size))
    clear hb1 h1
    go_wp2
    go_ret2
    exact ⟨FrIs.ill _ _ _ _ _ HCN.out, HB1.out⟩
  subst hc
  cases ha : L.any (sameId d) with
  | true =>
    have hE : withC xs ps d = 0 := by rw [HW.out, if_neg (by simp), if_pos ha]
    rw [hE]
    have HA := hide ha
    clear hE HW ha
    go_enter Tryz.func49, Tryz.ntmps49
    go_wp2_with fail
    refine HC.out.mono ?_
    rintro e w1 ⟨⟨v, err, rfl, _, h2⟩, hb1⟩
    obtain ⟨rfl, b, n, rfl, hbb, hm⟩ := h2 rfl
    have HB1 := hide (HB0.out.trans (hb1.mono HB0.out.size))
    obtain ⟨t, hlk⟩ := look_okB hm d hdm
    rw [HA.out] at hlk
    have HM := hide (hm.below (below_new w1 (.cells #[.string t] 82)) hm.lt)
    have HBB := hide (Nat.le_trans HB0.out.size hbb)
    clear hb1 h2 hm hbb
    go_wp2_with fail
    refine (storeRefusal_false 6 _).mono ?_
    rintro e w3 ⟨rfl, h3⟩
    obtain rfl := h3.symm
    clear hlk
    go_wp2
    go_ret2
    exact ⟨FrIs.ok HBB.out HM.out, HB1.out.alloc HB1.out.size _⟩
  | false =>
    have hE : withC xs ps d = 6 := by rw [HW.out, if_neg (by simp), if_neg (by rw [ha]; simp)]
    rw [hE]
    have HA := hide ha
    clear hE HW ha
    go_enter Tryz.func49, Tryz.ntmps49
    go_wp2_with fail
    refine HC.out.mono ?_
    rintro e w1 ⟨⟨v, err, rfl, _, h2⟩, hb1⟩
    obtain ⟨rfl, b, n, rfl, hbb, hm⟩ := h2 rfl
    have HB1 := hide (HB0.out.trans (hb1.mono HB0.out.size))
    obtain ⟨t, hlk⟩ := look_okB hm d hdm
    rw [HA.out] at hlk
    clear hb1 h2 hm hbb
    go_wp2_with fail
    refine (storeRefusal_true 6 _).mono ?_
    rintro e w3 ⟨rfl, h3⟩
    obtain rfl := h3.symm
    clear hlk
    go_wp2
    go_ret2
    exact ⟨FrIs.ill _ _ _ _ _ (by decide), HB1.out.alloc HB1.out.size _⟩
set_option maxHeartbeats 4000000 in
theorem storeRefused_any (c : Int) (w : World) (hG : St3.Laid w) :
    Calls Tryz.prog 50 #[.iface 118 (.agg #[.int .i64 c])] w fun e w' => e = .returned (.agg #[.slice none 0 0, .slice none 0 0, .string ⟨#[]⟩, .int .i64 c]) ∧ Below w.heap.size w w' := by
  have HB0 := hide (below_new w (.cells #[.slice none 0 0, .slice none 0 0, .string ⟨#[]⟩, .int .i64 0] 51))
  have HRO := hide (row_new w [.slice none 0 0, .slice none 0 0, .string ⟨#[]⟩, .int .i64 0] 51)
  have HG := hide (Stab.go HB0.out hG)
  clear hG
  go_enter Tryz.func50, Tryz.ntmps50
  go_wp2_with fail
  refine (St6.storeCode_fault c _ HG.out).mono ?_
  rintro e w1 ⟨rfl, hb1⟩
  have HB1 := hide (HB0.out.trans (hb1.mono HB0.out.size))
  have HR1 := hide (HRO.out.below hb1 HRO.out.lt)
  have g0 : w1.cell? ⟨w.heap.size, 0, none⟩ = some (.slice none 0 0) := HR1.out.cell 0
  have g1 : w1.cell? ⟨w.heap.size, 1, none⟩ = some (.slice none 0 0) := HR1.out.cell 1
  have g2 : w1.cell? ⟨w.heap.size, 2, none⟩ = some (.string ⟨#[]⟩) := HR1.out.cell 2
  have g3 : w1.cell? ⟨w.heap.size, 3, none⟩ = some (.int .i64 0) := HR1.out.cell 3
  have h0 := HR1.out.free 0
  have h1 := HR1.out.free 1
  have h2 := HR1.out.free 2
  have h3 := HR1.out.free 3
  clear hb1
  go_wp2
  obtain ⟨r0, r1, r2, r3, KG⟩ := four HR1.out (.slice none 0 0) (.slice none 0 0) (.string ⟨#[]⟩) (.int .i64 c)
  exact bodyPost_ret (v := .agg #[.slice none 0 0, .slice none 0 0, .string ⟨#[]⟩, .int .i64 c]) (by simp [results, Tryz.results50, go_sem, r0, r1, r2, r3]) rfl ⟨rfl, KG.toBelow HB1.out HB1.out.size (by simp)⟩

set_option maxHeartbeats 8000000 in
set_option maxRecDepth 100000 in
theorem implStoreGet_any (vs vp : Value) (xs : List ByteArray) (ps : List (Int × ByteArray)) (d : ByteArray) (aF aR aU : Addr) (w : World) (hn : xs.length ≤ 1048576) (hn2 : ps.length ≤ 1048576) (hd : d.size ≤ 1048576) (hr : Reads w vs xs) (hp : ReadsP w vp ps) (hS : Sents aF aR aU w) (hG : St3.Laid w) :
    Calls Tryz.prog 29 #[.agg #[vs, vp], .string d] w fun e w' => KOutIs w.heap.size e w' (getO xs ps d) ∧ Below w.heap.size w w' := by
  have HR := hide hr
  have HP := hide hp
  have HS0 := hide hS
  have HG := hide hG
  clear hS hG
  have hdm : d.size ≤ maxLen := by unfold maxLen; omega
  obtain ⟨p1, c1, rfl, _⟩ := hr
  obtain ⟨p2, c2, rfl, _⟩ := hp
  obtain ⟨W, hW⟩ : ∃ W, W = (w.alloc (.cells #[.slice p1 xs.length c1, .slice p2 ps.length c2] 29)).alloc (.cells #[.slice none 0 0, .slice none 0 0, .string ⟨#[]⟩, .int .i64 0] 51) := ⟨_, rfl⟩
  have HB0 := hide (show Below w.heap.size w W by rw [hW]; exact ((Below.refl _ _).alloc (Nat.le_refl _) _).alloc (by simp) _)
  have HWS := hide (show w.heap.size + 2 = W.heap.size by rw [hW]; simp)
  have HRD := hide (show Row W w.heap.size 29 [.slice p1 xs.length c1, .slice p2 ps.length c2] by rw [hW]; exact (row_new w _ _).alloc _)
  have HRO := hide (show Row W (w.heap.size + 1) 51 [.slice none 0 0, .slice none 0 0, .string ⟨#[]⟩, .int .i64 0] by
    rw [hW]
    have := row_new (w.alloc (.cells #[.slice p1 xs.length c1, .slice p2 ps.length c2] 29)) [.slice none 0 0, .slice none 0 0, .string ⟨#[]⟩, .int .i64 0] 51
    simpa using this)
  have HR1 := hide (HR.out.below HB0.out (Nat.le_refl _))
  have HP1 := hide (HP.out.below HB0.out (Nat.le_refl _))
  obtain ⟨C, hC⟩ : ∃ C, C = withC xs ps d := ⟨_, rfl⟩
  have HCE := hide hC
  obtain ⟨o, ho⟩ : ∃ o, o = getO xs ps d := ⟨_, rfl⟩
  have HOE := hide ho
  rw [← ho]
  obtain ⟨L, hL⟩ : ∃ L, L = itemsO xs ps := ⟨_, rfl⟩
  have HLE := hide hL
  clear hC ho hL
  have HGO := hide (getO_with xs ps d)
  go_enter Tryz.func29, Tryz.ntmps29
  go_wp2_with fail
  rw [← hW]
  clear hW
  refine (storeWith_any _ _ xs ps d aF aR aU _ hn hn2 hd HR1.out HP1.out (Stab.go HB0.out HS0.out) (Stab.go HB0.out HG.out)).mono ?_
  rw [← HCE.out, ← HLE.out]
  rintro e X ⟨⟨v, err, rfl, hE1, hE2⟩, hb1⟩
  have HX0 := hide hb1
  have HBX := hide (HB0.out.trans (hb1.mono HB0.out.size))
  have HROX := hide (HRO.out.below hb1 HRO.out.lt)
  have HDX := hide (HRD.out.below hb1 HRD.out.lt)
  have H1 := hide hE1
  have H2 := hide hE2
  clear hb1 hE1 hE2
  by_cases hc : C = 0
  rotate_left
  · have HE := hide (show o = kill C by rw [HOE.out, HGO.out, ← HCE.out, if_pos hc])
    obtain rfl := H1.out hc
    clear hc H1 H2
    go_wp2_with fail
    refine (storeRefused_any C _ (Stab.go HBX.out HG.out)).mono ?_
    rintro e w2 ⟨rfl, hb2⟩
    have HB2 := hide (HBX.out.trans (hb2.mono HBX.out.size))
    have HRO2 := hide (HROX.out.below hb2 HROX.out.lt)
    clear hb2
    have g0 : w2.cell? ⟨w.heap.size + 1, 0, none⟩ = some (.slice none 0 0) := HRO2.out.cell 0
    have h0 := HRO2.out.free 0
    have g1 : w2.cell? ⟨w.heap.size + 1, 1, none⟩ = some (.slice none 0 0) := HRO2.out.cell 1
    have h1 := HRO2.out.free 1
    have g2 : w2.cell? ⟨w.heap.size + 1, 2, none⟩ = some (.string ⟨#[]⟩) := HRO2.out.cell 2
    have h2 := HRO2.out.free 2
    have g3 : w2.cell? ⟨w.heap.size + 1, 3, none⟩ = some (.int .i64 0) := HRO2.out.cell 3
    have h3 := HRO2.out.free 3
    go_wp2
    obtain ⟨r0, r1, r2, r3, KG⟩ := four HRO2.out (.slice none 0 0) (.slice none 0 0) (.string ⟨#[]⟩) (.int .i64 C)
    exact bodyPost_ret (v := .agg #[.slice none 0 0, .slice none 0 0, .string ⟨#[]⟩, .int .i64 C]) (by simp [results, Tryz.results29, go_sem, r0, r1, r2, r3]) rfl ⟨by rw [HE.out]; exact KOutIs.ill _ _ _, KG.toBelow HB2.out HB2.out.size (by simp)⟩
  subst hc
  obtain ⟨rfl, b, n, rfl, hbb, hm⟩ := H2.out rfl
  obtain ⟨q, hq⟩ : ∃ q, L.find? (sameId d) = some q := by
    have h0 := HCE.out.symm
    unfold withC at h0
    rw [← HLE.out] at h0
    split at h0
    · rename_i h1; exact absurd h0 h1
    · split at h0
      · rename_i h2
        rw [find_any] at h2
        exact Option.isSome_iff_exists.1 h2
      · exact absurd h0 (by decide)
  have HE := hide (show o = ⟨xs, ps, q.2, 0⟩ by rw [HOE.out, HGO.out, ← HCE.out, if_neg (by simp), ← HLE.out, hq])
  have HRT : Hid (right xs ps = true) := hide (by
    have h0 := HCE.out.symm
    unfold withC at h0
    split at h0
    · rename_i h1; exact absurd h0 h1
    · rename_i h1
      exact keptO_right (forC_ok (by simpa using h1)).2.1)
  have HLK := hide (show ∀ y : World, Below X.heap.size X y → (Instr.lookup 75 (.map (some b)) (.string d) false).run Tryz.prog y = .ok (.agg #[.string q.2]) y from fun y hb => by
    have := look_any (hm.below hb hm.lt) d hdm
    rw [hq] at this
    exact this)
  have HLV := hide (show ∀ (y v : World), Below X.heap.size X y → Kept [w.heap.size + 1] y v → (Instr.lookup 75 (.map (some b)) (.string d) false).run Tryz.prog v = .ok (.agg #[.string q.2]) v from fun y v hb kk => by
    have := look_any (map_kept kk (hm.below hb hm.lt) (by have := HWS.out; simp; omega)) d hdm
    rw [hq] at this
    exact this)
  have HMB := hide hbb
  have HMM := hide hm
  obtain ⟨tX, htX⟩ : ∃ tX, tX = q.2 := ⟨_, rfl⟩
  rw [← htX] at HLK HLV HE
  clear hq htX hbb hm H1 H2
  go_upto_region 4 with fail
  refine wp_region_held (S := fun y : World => y.cell? ⟨w.heap.size, 0, none⟩ = some (.slice p1 xs.length c1) ∧ y.cell? ⟨w.heap.size, 1, none⟩ = some (.slice p2 ps.length c2) ∧ (Instr.lookup 75 (.map (some b)) (.string d) false).run Tryz.prog y = .ok (.agg #[.string tX]) y) (by kernel_rfl) ?_
  have HSS := hide (show ∀ y : World, Below X.heap.size X y → (y.cell? ⟨w.heap.size, 0, none⟩ = some (.slice p1 xs.length c1) ∧ y.cell? ⟨w.heap.size, 1, none⟩ = some (.slice p2 ps.length c2) ∧ (Instr.lookup 75 (.map (some b)) (.string d) false).run Tryz.prog y = .ok (.agg #[.string tX]) y) from
    fun y hb => ⟨(HDX.out.below hb HDX.out.lt).cell 0, (HDX.out.below hb HDX.out.lt).cell 1, HLK.out y hb⟩)
  have HSK := hide (show ∀ (y v : World), Below X.heap.size X y → Kept [w.heap.size + 1] y v → (v.cell? ⟨w.heap.size, 0, none⟩ = some (.slice p1 xs.length c1) ∧ v.cell? ⟨w.heap.size, 1, none⟩ = some (.slice p2 ps.length c2) ∧ (Instr.lookup 75 (.map (some b)) (.string d) false).run Tryz.prog v = .ok (.agg #[.string tX]) v) from
    fun y v hb kk => ⟨(kk.row (HDX.out.below hb HDX.out.lt) (by simp)).cell 0, (kk.row (HDX.out.below hb HDX.out.lt) (by simp)).cell 1, HLV.out y v hb kk⟩)
  have HZ1 := hide (show Below X.heap.size X { X with drawn := X.drawn + 1 } from (Below.refl _ X).drew)
  generalize ({ X with drawn := X.drawn + 1 } : World) = Z1 at HZ1 ⊢
  have HS := hide (HSS.out _ HZ1.out)
  refine wpAnyH_take (i := 0) (oi := _) (v := .agg #[.slice p1 xs.length c1, .slice p2 ps.length c2]) rfl (by kernel_rfl) (by kernel_rfl) (by kernel_rfl) (fun _ _ _ h => h) (Or.inl ⟨by rfl, by intro w hSw; go_split_ands; go_simp <;> omega⟩) HS.out ?_
  simp only [Act.put, List.getElem_toArray, List.getElem_cons_zero, List.setIfInBounds_toArray, List.set_cons_zero, List.set_cons_succ]
  refine wpAnyH_take (i := 2) (oi := _) (v := .map (some b)) rfl (by kernel_rfl) (by kernel_rfl) (by kernel_rfl) (fun _ _ _ h => h) (Or.inl ⟨by rfl, by intro w hSw; go_split_ands; go_simp <;> omega⟩) HS.out ?_
  simp only [Act.put, List.getElem_toArray, List.getElem_cons_zero, List.getElem_cons_succ, List.setIfInBounds_toArray, List.set_cons_zero, List.set_cons_succ]
  refine wpAnyH_take (i := 3) (oi := _) (v := .string d) rfl (by kernel_rfl) (by kernel_rfl) (by kernel_rfl) (fun _ _ _ h => h) (Or.inl ⟨by rfl, by intro w hSw; go_split_ands; go_simp <;> omega⟩) HS.out ?_
  simp only [Act.put, List.getElem_toArray, List.getElem_cons_zero, List.getElem_cons_succ, List.setIfInBounds_toArray, List.set_cons_zero, List.set_cons_succ]
  refine wpAnyH_take (i := 4) (oi := _) (v := .agg #[.string tX]) rfl (by kernel_rfl) (by kernel_rfl) (by kernel_rfl) (fun _ _ _ h => h) (Or.inl ⟨by rfl, by intro w hSw; go_split_ands; go_simp⟩) HS.out ?_
  simp only [Act.put, List.getElem_toArray, List.getElem_cons_zero, List.getElem_cons_succ, List.setIfInBounds_toArray, List.set_cons_zero, List.set_cons_succ]
  refine wpAnyH_take (i := 5) (oi := _) (v := .string tX) rfl (by kernel_rfl) (by kernel_rfl) (by kernel_rfl) (fun _ _ _ h => h) (Or.inl ⟨by rfl, by intro w hSw; go_split_ands; have hfl := fieldT tX w; go_simp⟩) HS.out ?_
  simp only [Act.put, List.getElem_toArray, List.getElem_cons_zero, List.getElem_cons_succ, List.setIfInBounds_toArray, List.set_cons_zero, List.set_cons_succ]
  refine wpAnyH_ready (rs := [1]) (by kernel_rfl) (by simp) ?_
  refine AllReadyH.cons (o := _) rfl (fun K hK => ?_) AllReadyH.nil
  go_simp
  refine (copyDisk_any _ _ xs ps _ (HR1.out.below (HX0.out.trans (HZ1.out.mono HX0.out.size)) (Nat.le_refl _)) (HP1.out.below (HX0.out.trans (HZ1.out.mono HX0.out.size)) (Nat.le_refl _)) (small_of_right HRT.out)).mono ?_
  rintro e Z2 ⟨⟨us, up, rfl, o1, o2, dd⟩, hbc⟩
  obtain ⟨s1, s2, s3, rfl⟩ := o1.isSlice
  obtain ⟨s4, s5, s6, rfl⟩ := o2.isSlice
  have hge : w.heap.size + 2 ≤ Z1.heap.size := by
    have h1 := HWS.out
    have h2 := HX0.out.size
    have h3 := HZ1.out.size
    omega
  have O1 := hide (o1.mono hge)
  have O2 := hide (o2.mono hge)
  have DD := hide dd
  have HZ2 := hide (HZ1.out.trans (hbc.mono HZ1.out.size))
  have HZW := hide (HX0.out.trans (HZ2.out.mono HX0.out.size))
  have HRZ := hide (HRO.out.below HZW.out HRO.out.lt)
  clear hbc o1 o2 dd hge
  refine hK.out _ _ (HSS.out _ HZ2.out) (fun _ => ?_)
  clear hK K HS
  have HS := hide (HSS.out _ HZ2.out)
  try simp only [Act.put, List.getElem_toArray, List.getElem_cons_zero, List.getElem_cons_succ, List.setIfInBounds_toArray, List.set_cons_zero, List.set_cons_succ]
  refine wpAnyH_take (i := 6) (oi := _) (v := .agg #[.slice s1 s2 s3, .slice s4 s5 s6, .string tX, .int .i64 0]) rfl (by kernel_rfl) (by kernel_rfl) (by kernel_rfl) (fun _ _ _ h => h) (Or.inl ⟨by rfl, by intro w hSw; go_split_ands; go_simp <;> omega⟩) HS.out ?_
  simp only [Act.put, List.getElem_toArray, List.getElem_cons_zero, List.getElem_cons_succ, List.setIfInBounds_toArray, List.set_cons_zero, List.set_cons_succ]
  refine wpAnyH_ready (rs := [7]) (by kernel_rfl) (by simp) ?_
  refine AllReadyH.cons (o := _) rfl (fun K hK => ?_) AllReadyH.nil
  have d0 : Z2.cell? ⟨w.heap.size + 1, 0, none⟩ = some (.slice none 0 0) := HRZ.out.cell 0
  have d1 : Z2.cell? ⟨w.heap.size + 1, 1, none⟩ = some (.slice none 0 0) := HRZ.out.cell 1
  have d2 : Z2.cell? ⟨w.heap.size + 1, 2, none⟩ = some (.string ⟨#[]⟩) := HRZ.out.cell 2
  have d3 : Z2.cell? ⟨w.heap.size + 1, 3, none⟩ = some (.int .i64 0) := HRZ.out.cell 3
  have f0 := HRZ.out.free 0
  have f1 := HRZ.out.free 1
  have f2 := HRZ.out.free 2
  have f3 := HRZ.out.free 3
  obtain ⟨r0, r1, r2, r3, KG⟩ := four HRZ.out (.slice s1 s2 s3) (.slice s4 s5 s6) (.string tX) (.int .i64 0)
  have HSF := hide (HSK.out _ _ HZ2.out KG)
  have HQ := hide (And.intro r0 (And.intro r1 (And.intro r2 r3)))
  have HKG := hide KG
  clear r0 r1 r2 r3 KG
  go_simp
  refine hK.out _ _ HSF.out (fun _ => ?_)
  clear hK K d0 d1 d2 d3 f0 f1 f2 f3 HS
  refine wpAnyH_done (by kernel_rfl) ?_ _
  go_wp2
  exact bodyPost_ret (v := .agg #[.slice s1 s2 s3, .slice s4 s5 s6, .string tX, .int .i64 0]) (by simp [results, Tryz.results29, go_sem, HQ.out.1, HQ.out.2.1, HQ.out.2.2.1, HQ.out.2.2.2]) rfl
    (by rw [HE.out]; exact getEnd HB0.out HZW.out HWS.out HKG.out O1.out O2.out DD.out)
end Go.Proofs.YtbhdbkffejlfmaaGreatDoor
