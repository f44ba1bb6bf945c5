/- What the program reads of a store's text, and of a store. -/
import Derived.Test.YtnpbmaajgiapmaaGreatDoorXGQKept
import Derived.Test.YtnpbmaajgiapmaaGreatDoorXGQSRead
import Derived.Test.YtnpbmaajgiapmaaGreatDoorXGIRArea
import Derived.Test.YtnpbmaajgiapmaaGreatDoorXGSCopy
import Derived.Test.YtnpbmaajgiapmaaGreatDoorXGMark
import Derived.Deep.RegionHeld3
import Derived.Test.YtnpbmaajgiapmaaGreatDoorXGGAs
namespace Go.Proofs.YtnpbmaajgiapmaaGreatDoor
open Go.RowKit

/-- The call ended with a map that keeps R, or with a fault. -/
def RdM (B : Nat) (e : Ending) (w : World) (R : Option (List Item)) : Prop :=
  ∃ v err, e = .returned (.tuple #[v, err]) ∧ (R = none → err = .iface 125 (.agg #[.int .i64 1])) ∧ ∀ L, R = some L → err = .nilIface ∧ ∃ b n, v = .map (some b) ∧ B ≤ b ∧ MapIs w b n L
theorem RdM.none (B : Nat) (w : World) (v : Value) : RdM B (.returned (.tuple #[v, .iface 125 (.agg #[.int .i64 1])])) w Option.none := ⟨v, _, rfl, fun _ => rfl, fun _ h => by cases h⟩
theorem RdM.some {B b n : Nat} {w : World} {M : List Item} (hb : B ≤ b) (h : MapIs w b n M) : RdM B (.returned (.tuple #[.map (some b), .nilIface])) w (Option.some M) :=
  ⟨_, _, rfl, fun h => (by cases h), fun L hL => (by cases hL; exact ⟨rfl, b, n, rfl, hb, h⟩)⟩
theorem readK_step (s : ByteArray) (k a : Nat) (acc : List Item) (hk : 0 < k) : readK s k a acc =
    if (St4.textO s a).2.2 ≠ 0 then none
    else if (St4.textO s (St4.textO s a).2.1.toNat).2.2 ≠ 0 then none
    else if idB (St4.textO s a).1 = false then none
    else readK s (k - 1) (St4.textO s (St4.textO s a).2.1.toNat).2.1.toNat (acc ++ [((St4.textO s a).1, (St4.textO s (St4.textO s a).2.1.toNat).1)]) := by
  obtain ⟨k', rfl⟩ : ∃ k', k = k' + 1 := ⟨k - 1, by omega⟩
  rw [readK]
  rfl
theorem datL_nil : datL [] = .map [] := rfl

set_option maxHeartbeats 16000000 in
set_option maxRecDepth 100000 in
theorem readStoreText_any (T : ByteArray) (w : World) (hs : T.size ≤ 8000) (hg : St3.Laid w) :
    Calls Tryz.prog 62 #[.string T] w fun e w' => RdM w.heap.size e w' (keptI T) ∧ Below w.heap.size w w' := by
  have HG := hide hg
  have hmm := @run_makeMap Tryz.prog
  obtain ⟨R, hR⟩ : ∃ R, R = keptI T := ⟨_, rfl⟩
  have HRR := hide hR
  rw [← hR]
  clear hR hg
  have HCN := hide (show ∀ w, St3.Laid w → Calls Tryz.prog 91 #[.string T, .int .i64 0] w fun e w' => e = .returned (.agg #[.int .i64 (St3.scan T 0 10 0 0).1, .int .i64 (St3.scan T 0 10 0 0).2.1, .int .i64 (St3.scan T 0 10 0 0).2.2]) ∧ Below w.heap.size w w' from fun w hg => by
    have := St4.implGetNum_any T 0 w hs (by omega) hg
    simpa using this)
  obtain ⟨N, hN⟩ : ∃ N, N = St3.scan T 0 10 0 0 := ⟨_, rfl⟩
  have HKS := hide (show R = if N.2.2 ≠ 0 ∨ 12 < N.1 then none else match readK T N.1.toNat N.2.1.toNat [] with
    | none => none
    | some L => if storeB (putsL [] L) = T then some (putsL [] L) else none by rw [HRR.out, hN]; rfl)
  have hat := St4.scan_at T 0 10 0 0
  rw [← hN] at hat HCN
  obtain ⟨N1, N2, N3⟩ := N
  have HAT := hide hat
  clear hN hat HRR
  simp only at HKS HAT HCN
  go_enter Tryz.func62, Tryz.ntmps62
  go_wp2_with fail
  refine (HCN.out _ HG.out).mono ?_
  rintro e w1 ⟨rfl, hb1⟩
  obtain ⟨W1, hW1⟩ : ∃ W1, W1 = w1.alloc (.cells #[.int .i64 N1, .int .i64 N2, .int .i64 N3] 86) := ⟨_, rfl⟩
  have HBr := hide hb1
  have HBW := hide (show Below w.heap.size w W1 by rw [hW1]; exact hb1.alloc hb1.size _)
  have HRN := hide (show Row W1 w1.heap.size 86 [.int .i64 N1, .int .i64 N2, .int .i64 N3] by rw [hW1]; exact row_new w1 _ _)
  clear hb1
  by_cases h3 : N3 = 0
  rotate_left
  · have HE := hide (show R = none by rw [HKS.out, if_pos (.inl h3)])
    have hcb : (N3 != 0) = true := by simpa using h3
    clear h3 HKS HAT
    go_wp2
    go_ret2
    exact ⟨by rw [HE.out]; exact RdM.none _ _ _, HBr.out.alloc HBr.out.size _⟩
  subst h3
  by_cases h12 : 12 < N1
  · have HE := hide (show R = none by rw [HKS.out, if_pos (.inr h12)])
    clear HKS HAT
    go_wp2
    go_ret2
    exact ⟨by rw [HE.out]; exact RdM.none _ _ _, HBr.out.alloc HBr.out.size _⟩
  obtain ⟨ha0, ha1⟩ := HAT.out rfl
  obtain ⟨A0, rfl⟩ := Int.eq_ofNat_of_zero_le ha0
  obtain ⟨nn, hnn⟩ : ∃ nn, nn = N1.toNat := ⟨_, rfl⟩
  have HKR := hide (show R = match readK T nn A0 [] with
    | none => none
    | some L => if storeB (putsL [] L) = T then some (putsL [] L) else none by
    have := HKS.out
    rw [if_neg (by simp; omega), ← hnn] at this
    simpa using this)
  have hn12 : nn ≤ 12 := by omega
  have HNN := hide hnn
  clear HKS HAT hnn ha0
  have HM0 := hide (show MapIs (W1.alloc (.map #[] 0)) W1.heap.size 0 [] from World.ownsMap_made W1 Tryz.prog 9 keptR)
  have HB0 := hide (show Below W1.heap.size W1 (W1.alloc (.map #[] 0)) from below_new W1 _)
  have HRN0 := hide (HRN.out.alloc (.map #[] 0))
  obtain ⟨W2, hW2⟩ : ∃ W2, W2 = W1.alloc (.map #[] 0) := ⟨_, rfl⟩
  rw [← hW2] at HM0 HB0 HRN0
  have q0 : ((w1.alloc (.cells #[.int .i64 N1, .int .i64 (A0 : Int), .int .i64 0] 86)).alloc (.map #[] 0)).cell? ⟨w1.heap.size, 0, none⟩ = some (.int .i64 N1) := by rw [← hW1, ← hW2]; exact HRN0.out.cell 0
  have q1 : ((w1.alloc (.cells #[.int .i64 N1, .int .i64 (A0 : Int), .int .i64 0] 86)).alloc (.map #[] 0)).cell? ⟨w1.heap.size, 1, none⟩ = some (.int .i64 (A0 : Int)) := by rw [← hW1, ← hW2]; exact HRN0.out.cell 1
  obtain ⟨b, hb⟩ : ∃ b, b = W1.heap.size := ⟨_, rfl⟩
  have HBS := hide (show b = w1.heap.size + 1 by rw [hb, hW1]; simp)
  rw [← hb] at HM0 HB0
  have HLB := hide (show w.heap.size ≤ b from by rw [hb]; exact HBW.out.size)
  clear hb
  go_wp2
  rw [← hW1, ← hW2]
  clear q0 q1 hW1 hW2 hmm
  have hbs := HBS.out
  rw [show (w1.heap.size + 1 : Nat) = b from hbs.symm]
  clear hbs
  go_loopw [6, 27] (fun a i wr => ∃ (X : World) (k A : Nat) (acc : List Item), X = wr ∧ a = .int .i64 (A : Int) ∧ i = .int .i64 (k : Int) ∧ acc.length = k ∧ k ≤ nn ∧ A ≤ 8000 ∧ Hid (readK T (nn - k) A acc = readK T nn A0 []) ∧ Hid (∀ x ∈ acc, OkI x) ∧
    Hid (MapIs X b k (putsL [] acc)) ∧ Hid (Below b W1 X)) (fun _ i _ => nn - (intOf i).toNat)
  case atStart => exact ⟨W2, 0, A0, [], rfl, rfl, rfl, rfl, Nat.zero_le _, by omega, hide rfl, hide (by simp), HM0, HB0⟩
  case round =>
    obtain ⟨X, k, A, acc, rfl, rfl, rfl, hlk, hk, hA, HU, HOK, HM, HB⟩ := hrel
    have HBX := hide (HBW.out.trans (HB.out.mono HLB.out))
    have HLK := hide hlk
    clear hlk
    by_cases hlt : k < nn
    · have hki : (k : Int) < N1 := by have := HNN.out; omega
      have HU2 := hide ((readK_step T (nn - k) A acc (by omega)).symm.trans HU.out)
      go_wp2_with fail
      refine (readKept_any T A _ hs hA (Stab.go HBX.out HG.out)).mono ?_
      rintro e X1 ⟨he, hb1⟩
      have HX1 := hide hb1
      have HBX1 := hide (HBX.out.trans (hb1.mono HBX.out.size))
      have HBM1 := hide (HB.out.trans (hb1.mono (Nat.le_of_lt HM.out.lt)))
      have HM1 := hide (HM.out.below hb1 HM.out.lt)
      clear hb1
      rcases he with ⟨hf, t1, t2, a2, rfl⟩ | ⟨h1, h2, h3, rfl⟩
      · have HE := hide (show R = none by
          rw [HKR.out, ← HU2.out]
          rcases hf with h | h | h
          · rw [if_pos h]
          · by_cases h' : (St4.textO T A).2.2 ≠ 0
            · rw [if_pos h']
            · rw [if_neg h', if_pos h]
          · by_cases h' : (St4.textO T A).2.2 ≠ 0
            · rw [if_pos h']
            · rw [if_neg h']
              by_cases h'' : (St4.textO T (St4.textO T A).2.1.toNat).2.2 ≠ 0
              · rw [if_pos h'']
              · rw [if_neg h'', if_pos h])
        clear hf HU2 HKR
        go_wp2
        go_ret2
        exact ⟨by rw [HE.out]; exact RdM.none _ _ _, HBX1.out.alloc HBX1.out.size _⟩
      obtain ⟨t1, ht1⟩ : ∃ t1, t1 = (St4.textO T A).1 := ⟨_, rfl⟩
      obtain ⟨t2, ht2⟩ : ∃ t2, t2 = (St4.textO T (St4.textO T A).2.1.toNat).1 := ⟨_, rfl⟩
      obtain ⟨A2, hA2⟩ : ∃ A2, A2 = (St4.textO T (St4.textO T A).2.1.toNat).2.1.toNat := ⟨_, rfl⟩
      have HUN := hide (show readK T (nn - (k + 1)) A2 (acc ++ [(t1, t2)]) = readK T nn A0 [] by
        have := HU2.out
        rw [if_neg (by rw [h1]; simp), if_neg (by rw [h2]; simp), if_neg (by rw [h3]; simp), ← ht1, ← ht2, ← hA2, show nn - k - 1 = nn - (k + 1) by omega] at this
        exact this)
      have hA28 : A2 ≤ 8000 := by have := (St4.textO_at T _ h2).2.1; omega
      have HOK2 := hide (show ∀ x ∈ acc ++ [(t1, t2)], OkI x from fun x hx => by
        rcases List.mem_append.1 hx with hx | hx
        · exact HOK.out x hx
        · obtain rfl : x = (t1, t2) := by simpa using hx
          exact ⟨by rw [ht1]; exact h3, by rw [ht2]; exact (St4.textO_at T _ h2).2.2⟩)
      have htm : t1.size ≤ maxLen := by
        have := (St4.textO_at T A h1).2.2
        rw [ht1]
        unfold maxLen
        omega
      rw [← ht1, ← ht2, ← hA2]
      clear ht1 ht2 hA2 h1 h2 h3 HU2
      have bn := below_new X1 (.cells #[.string t1, .string t2] 130)
      have HM2 := hide (HM1.out.below bn HM1.out.lt)
      have HBX2 := hide (HBX1.out.trans (bn.mono HBX1.out.size))
      have HBM2 := hide (HBM1.out.trans (bn.mono (Nat.le_of_lt HM1.out.lt)))
      have HKY := hide (keyOf_mk t1 htm)
      clear bn htm
      go_wp2_with (at_mapUpdate; refine wpList_mapUpdate_own _ rfl _ _ _ 54 rfl 9 79 keyed Tryz.underlying54 keptR b k (datL (putsL [] acc)) rfl HM2.out (by unfold maxLen; omega) _ _ (keyD t1) rfl rfl HKY.out (valD t2) [] (keptR_mk t2) ?_)
      intro X3 hown3 hgrow3
      rw [datL_put, ← show putsL [] (acc ++ [(t1, t2)]) = putL (putsL [] acc) t1 t2 from putsL_snoc (t1, t2) acc []] at hown3
      have HM3 := hide (show MapIs X3 b (k + 1) (putsL [] (acc ++ [(t1, t2)])) from hown3)
      have HB3 := hide (HBM2.out.grown hgrow3 (Nat.le_of_lt HM2.out.lt) (fun g hg => by cases hg; exact Nat.le_refl _))
      clear hown3 hgrow3
      go_wp2
      go_roundw
      case rel => exact ⟨X3, k + 1, A2, acc ++ [(t1, t2)], rfl, rfl, by go_num, by simp [HLK.out], by omega, hA28, HUN, HOK2, HM3, HB3⟩
      case measure => simp [intOf]; omega
    · have hki : ¬ (k : Int) < N1 := by have := HNN.out; omega
      have hkn : k = nn := by omega
      have HRS := hide (putsL_rises acc [] rises_nil)
      have HOM := hide (show ∀ x ∈ putsL [] acc, OkI x from fun x hx => by
        rcases putsL_mem acc [] hx with h | h
        · cases h
        · exact HOK.out x h)
      have HLM := hide (show (putsL [] acc).length ≤ 20 by have := putsL_len acc []; have := HLK.out; simp at *; omega)
      have HE := hide (show R = if storeB (putsL [] acc) = T then some (putsL [] acc) else none by
        rw [HKR.out, ← HU.out, show nn - k = 0 by omega]
        rfl)
      clear hkn HKR HU
      obtain ⟨M, hM⟩ : ∃ M, M = putsL [] acc := ⟨_, rfl⟩
      rw [← hM] at HRS HOM HLM HE HM
      clear hM
      go_wp2_with fail
      refine (storeText_own b k M _ HM.out HRS.out HOM.out HLM.out).mono ?_
      rintro e X2 ⟨rfl, hb2⟩
      have HB2 := hide (HBX.out.trans (hb2.mono HBX.out.size))
      have HM2 := hide (HM.out.below hb2 HM.out.lt)
      have hse := str_eql (storeB M) T
      clear hb2
      by_cases heq : storeB M = T
      · have HF := hide (show R = some M by rw [HE.out, if_pos heq])
        rw [decide_eq_true heq] at hse
        clear heq
        go_wp2_with fail
        refine (storeRefusal_false 1 _).mono ?_
        rintro e X3 ⟨rfl, hX3⟩
        obtain rfl := hX3.symm
        go_wp2
        go_ret2
        exact ⟨by rw [HF.out]; exact RdM.some HLB.out HM2.out, HB2.out⟩
      · have HF := hide (show R = none by rw [HE.out, if_neg heq])
        rw [decide_eq_false heq] at hse
        clear heq
        go_wp2_with fail
        refine (storeRefusal_true 1 _).mono ?_
        rintro e X3 ⟨rfl, hX3⟩
        obtain rfl := hX3.symm
        go_wp2
        go_ret2
        exact ⟨by rw [HF.out]; exact RdM.none _ _ _, HB2.out⟩
end Go.Proofs.YtnpbmaajgiapmaaGreatDoor
/- StoreRight, of the program and of the model. -/
namespace Go.Proofs.YtnpbmaajgiapmaaGreatDoor
open Go.RowKit
theorem fieldAT (a b c d e : Value) (w : World) : (Instr.field 63 (.agg #[a, b, c, d, e]) 1).run Tryz.prog w = .ok c w := by kernel_rfl
theorem keptI_empty : keptI ⟨#[]⟩ = none := by
  unfold keptI
  rw [show St3.scan ⟨#[]⟩ 0 10 0 0 = (0, 0, 4) from St3.scan_short _ 0 9 0 0 (by decide)]
  rfl
theorem keptO_eq (xs : List ByteArray) (ps : List (Int × ByteArray)) : keptI (areaOut xs ps).t = keptO xs ps := by
  unfold keptO
  by_cases h : (areaOut xs ps).c = 0
  · rw [if_neg (by simp [h]), kept_same]
  · rw [if_pos h, areaOut_bad h]
    exact keptI_empty
theorem keptO_ok {xs : List ByteArray} {ps : List (Int × ByteArray)} {L : List Item} (h : keptO xs ps = some L) : Rises L ∧ (∀ x ∈ L, OkI x) ∧ L.length ≤ 12 := by
  unfold keptO at h
  split at h
  · cases h
  · obtain ⟨h1, h2, h3, _⟩ := keptS_ok h
    exact ⟨h1, h2, h3⟩
set_option maxHeartbeats 4000000 in
theorem readStore_any (vs vp : Value) (xs : List ByteArray) (ps : List (Int × ByteArray)) (aF aR aU : Addr) (w : World) (hn : xs.length ≤ 1048576) (hn2 : ps.length ≤ 1048576) (hr : Reads w vs xs) (hp : ReadsP w vp ps) (hS : Sents aF aR aU w) (hG : St3.Laid w) :
    Calls Tryz.prog 31 #[.agg #[vs, vp]] w fun e w' => RdM w.heap.size e w' (keptO xs ps) ∧ Below w.heap.size w w' := by
  have hb0 : Below w.heap.size w (w.alloc (.cells #[vs, vp] 30)) := (Below.refl _ _).alloc (Nat.le_refl _) _
  have HB0 := hide hb0
  have HR := hide (hr.below hb0 (Nat.le_refl _))
  have HP := hide (hp.below hb0 (Nat.le_refl _))
  have HS := hide hS
  have HG := hide hG
  have htz := areaOut_t xs ps
  have HKO := hide (keptO_eq xs ps)
  obtain ⟨Y, hY⟩ : ∃ Y, Y = areaOut xs ps := ⟨_, rfl⟩
  have HY := hide hY
  rw [← hY] at htz HKO
  obtain ⟨p1, c1, rfl, _⟩ := hr
  obtain ⟨p2, c2, rfl, _⟩ := hp
  clear hb0 hY hS hG
  obtain ⟨K, hK⟩ : ∃ K, K = keptO xs ps := ⟨_, rfl⟩
  rw [← hK] at HKO ⊢
  clear hK
  go_enter Tryz.func31, Tryz.ntmps31
  go_wp2_with fail
  refine (implARead_any _ _ xs ps aF aR aU _ hn hn2 HR.out HP.out (Stab.go HB0.out HS.out) (fun hok vs vp w'' hb' hr hp => readArea_any vs vp xs ps w'' hr hp hok (Stab.go hb' (Stab.go HB0.out HG.out)))).mono ?_
  rw [← HY.out]
  rintro e w1 ⟨⟨us, up, rfl, o1, o2, _⟩, hb1⟩
  obtain ⟨s1, s2, s3, rfl⟩ := o1.isSlice
  obtain ⟨s4, s5, s6, rfl⟩ := o2.isSlice
  have HB1 := hide (HB0.out.trans (hb1.mono HB0.out.size))
  have hfd := fieldAT (.slice s1 s2 s3) (.slice s4 s5 s6) (.string Y.t) (.int .i64 Y.g) (.int .i64 Y.c) w1
  have HT := hide (show Y.t.size ≤ 8000 by omega)
  clear hb1 o1 o2 htz
  go_wp2_with fail
  refine (readStoreText_any Y.t _ HT.out (Stab.go HB1.out HG.out)).mono ?_
  rw [HKO.out]
  rintro e w2 ⟨⟨v, err, rfl, h1, h2⟩, hb2⟩
  have HB2 := hide (HB1.out.trans (hb2.mono HB1.out.size))
  have H1 := hide h1
  have H2 := hide (show ∀ L, K = some L → err = .nilIface ∧ ∃ b n, v = .map (some b) ∧ w.heap.size ≤ b ∧ MapIs w2 b n L from fun L hL => by
    obtain ⟨g1, b, n, g2, g3, g4⟩ := h2 L hL
    exact ⟨g1, b, n, g2, Nat.le_trans HB1.out.size g3, g4⟩)
  clear hb2 h1 h2 hfd
  go_wp2
  go_ret2
  exact ⟨⟨_, _, rfl, H1.out, H2.out⟩, HB2.out⟩
set_option maxHeartbeats 4000000 in
theorem implStoreRight_any (vs vp : Value) (xs : List ByteArray) (ps : List (Int × ByteArray)) (aF aR aU : Addr) (w : World) (hn : xs.length ≤ 1048576) (hn2 : ps.length ≤ 1048576) (hr : Reads w vs xs) (hp : ReadsP w vp ps) (hS : Sents aF aR aU w) (hG : St3.Laid w) :
    Calls Tryz.prog 11 #[.agg #[vs, vp]] w fun e w' => e = .returned (.bool (keptO xs ps).isSome) ∧ Below w.heap.size w w' := by
  have hb0 : Below w.heap.size w (w.alloc (.cells #[vs, vp] 30)) := (Below.refl _ _).alloc (Nat.le_refl _) _
  have HB0 := hide hb0
  have HR := hide (hr.below hb0 (Nat.le_refl _))
  have HP := hide (hp.below hb0 (Nat.le_refl _))
  have HS := hide hS
  have HG := hide hG
  obtain ⟨p1, c1, rfl, _⟩ := hr
  obtain ⟨p2, c2, rfl, _⟩ := hp
  clear hb0 hS hG
  have HC := hide (readStore_any (.slice p1 xs.length c1) (.slice p2 ps.length c2) xs ps aF aR aU _ hn hn2 HR.out HP.out (Stab.go HB0.out HS.out) (Stab.go HB0.out HG.out))
  cases hk : keptO xs ps with
  | none =>
    rw [hk] at HC
    clear hk
    go_enter Tryz.func11, Tryz.ntmps11
    go_wp2_with fail
    refine HC.out.mono ?_
    rintro e w1 ⟨⟨v, err, rfl, h1, _⟩, hb1⟩
    obtain rfl := h1 rfl
    have HB1 := hide (HB0.out.trans (hb1.mono HB0.out.size))
    clear hb1 h1
    go_wp2
    go_ret
    exact ⟨rfl, HB1.out⟩
  | some L =>
    rw [hk] at HC
    clear hk
    go_enter Tryz.func11, Tryz.ntmps11
    go_wp2_with fail
    refine HC.out.mono ?_
    rintro e w1 ⟨⟨v, err, rfl, _, h2⟩, hb1⟩
    obtain ⟨rfl, b, n, rfl, _, _⟩ := h2 L rfl
    have HB1 := hide (HB0.out.trans (hb1.mono HB0.out.size))
    clear hb1 h2
    go_wp2
    go_ret
    exact ⟨rfl, HB1.out⟩
set_option maxHeartbeats 4000000 in
theorem specStoreRight_any (vs vp : Value) (xs : List ByteArray) (ps : List (Int × ByteArray)) (w : World) (hn : xs.length ≤ 1048576) (hn2 : ps.length ≤ 1048576) (hr : Reads w vs xs) (hp : ReadsP w vp ps) :
    Calls Tryz.prog 9 #[.agg #[vs, vp]] w fun e w' => e = .returned (.bool (keptO xs ps).isSome) ∧ Below w.heap.size w w' := by
  have hb0 : Below w.heap.size w (w.alloc (.cells #[vs, vp] 30)) := (Below.refl _ _).alloc (Nat.le_refl _) _
  have HB0 := hide hb0
  have HR := hide (hr.below hb0 (Nat.le_refl _))
  have HP := hide (hp.below hb0 (Nat.le_refl _))
  obtain ⟨p1, c1, rfl, _⟩ := hr
  obtain ⟨p2, c2, rfl, _⟩ := hp
  clear hb0
  obtain ⟨k, hk⟩ : ∃ k, k = (keptO xs ps).isSome := ⟨_, rfl⟩
  have HK := hide hk
  rw [← hk]
  clear hk
  go_enter Tryz.func9, Tryz.ntmps9
  go_wp2_with fail
  refine (l09Read_any _ _ xs ps _ hn hn2 HR.out HP.out).mono ?_
  unfold RdIs
  rw [← HK.out]
  rintro e w1 ⟨⟨v, rfl, _⟩, hb1⟩
  have HB1 := hide (HB0.out.trans (hb1.mono HB0.out.size))
  clear hb1
  go_wp2
  go_ret
  exact ⟨rfl, HB1.out⟩
end Go.Proofs.YtnpbmaajgiapmaaGreatDoor
/- What the store's faces answer, as lists; l09Begin, l09At and StoreGet of the model. -/
namespace Go.Proofs.YtnpbmaajgiapmaaGreatDoor
open Go.RowKit

/-- Why a store can't be asked for an id. -/
def forC (xs : List ByteArray) (ps : List (Int × ByteArray)) (i : ByteArray) : Int :=
  if 8000 < i.size then 2 else if (keptO xs ps).isSome = false then 1 else if idB i = false then 1 else 0
def itemsO (xs : List ByteArray) (ps : List (Int × ByteArray)) : List Item := (keptO xs ps).getD []
def getO (xs : List ByteArray) (ps : List (Int × ByteArray)) (i : ByteArray) : KOut :=
  if forC xs ps i ≠ 0 then kill (forC xs ps i) else match (itemsO xs ps).find? (sameId i) with
    | none => kill 6
    | some p => ⟨xs, ps, p.2, 0⟩
theorem forC_ok {xs : List ByteArray} {ps : List (Int × ByteArray)} {i : ByteArray} (h : forC xs ps i = 0) : i.size ≤ 8000 ∧ keptO xs ps = some (itemsO xs ps) ∧ idB i = true := by
  unfold forC at h
  split at h
  · exact absurd h (by decide)
  · rename_i h1
    split at h
    · exact absurd h (by decide)
    · rename_i h2
      split at h
      · exact absurd h (by decide)
      · rename_i h3
        refine ⟨by omega, ?_, by simpa using h3⟩
        unfold itemsO
        cases hk : keptO xs ps with
        | none => rw [hk] at h2; simp at h2
        | some L => rfl
theorem keptO_right {xs : List ByteArray} {ps : List (Int × ByteArray)} {L : List Item} (h : keptO xs ps = some L) : right xs ps = true := by
  unfold keptO at h
  split at h
  · cases h
  · rename_i h1
    cases hr : right xs ps with
    | true => rfl
    | false => exact absurd (show (areaOut xs ps).c = 1 by unfold areaOut; rw [if_pos hr]; rfl) (by simp at h1; omega)
theorem keptO_items {xs : List ByteArray} {ps : List (Int × ByteArray)} {L : List Item} (h : keptO xs ps = some L) : Rises L ∧ (∀ x ∈ L, OkI x) ∧ L.length ≤ 12 := by
  unfold keptO at h
  split at h
  · cases h
  · obtain ⟨h1, h2, h3, _⟩ := keptS_ok h
    exact ⟨h1, h2, h3⟩
/-- The number of the item of an id, or -1. -/
def atL (L : List Item) (i : ByteArray) : Int := if L.findIdx (sameId i) < L.length then (L.findIdx (sameId i) : Int) else -1
theorem atL_hit {L : List Item} {i : ByteArray} (k : Nat) (hk : k < L.length) (h1 : (L[k]'hk).1 = i) (h2 : ∀ j (h : j < k), (L[j]'(by omega)).1 ≠ i) : atL L i = k ∧ L.find? (sameId i) = some (L[k]'hk) := by
  have h3 : ∀ j (h : j < k), sameId i (L[j]'(by omega)) = false := fun j h => by
    cases hs : sameId i (L[j]'(by omega)) with
    | false => rfl
    | true => exact absurd (sameId_iff.1 hs) (h2 j h)
  have hf : L.findIdx (sameId i) = k := (List.findIdx_eq hk).2 ⟨sameId_iff.2 h1, h3⟩
  refine ⟨by unfold atL; rw [hf, if_pos hk], ?_⟩
  rw [List.find?_eq_some_iff_getElem]
  exact ⟨sameId_iff.2 h1, k, hk, rfl, fun j hj => by rw [h3 j hj]; rfl⟩
theorem atL_miss {L : List Item} {i : ByteArray} (h : ∀ j (h : j < L.length), (L[j]'h).1 ≠ i) : atL L i = -1 ∧ L.find? (sameId i) = none := by
  have hn : ∀ x ∈ L, sameId i x = false := fun x hx => by
    obtain ⟨j, hj, rfl⟩ := List.getElem_of_mem hx
    cases hs : sameId i (L[j]'hj) with
    | false => rfl
    | true => exact absurd (sameId_iff.1 hs) (h j hj)
  refine ⟨?_, List.find?_eq_none.2 fun x hx => by rw [hn x hx]; simp⟩
  unfold atL
  rw [if_neg]
  intro hlt
  have := hn _ (List.getElem_mem hlt)
  rw [List.findIdx_getElem (w := hlt)] at this
  cases this
theorem atL_cases (L : List Item) (i : ByteArray) : (∃ (k : Nat) (hk : k < L.length), atL L i = k ∧ (L[k]'hk).1 = i ∧ L.find? (sameId i) = some (L[k]'hk) ∧ ∀ j (h : j < k), (L[j]'(by omega)).1 ≠ i) ∨ (atL L i = -1 ∧ L.find? (sameId i) = none) := by
  by_cases h : ∀ j (h : j < L.length), (L[j]'h).1 ≠ i
  · exact .inr (atL_miss h)
  · refine .inl ?_
    have hlt : L.findIdx (sameId i) < L.length := by
      rw [List.findIdx_lt_length]
      apply Classical.byContradiction
      intro hc
      exact h fun j hj e => hc ⟨_, List.getElem_mem hj, sameId_iff.2 e⟩
    have h1 := sameId_iff.1 (List.findIdx_getElem (w := hlt))
    have h2 : ∀ j (h : j < L.findIdx (sameId i)), (L[j]'(by omega)).1 ≠ i := fun j hj e => by
      have := List.not_of_lt_findIdx hj
      simp [sameId_iff.2 e] at this
    obtain ⟨a, b⟩ := atL_hit _ hlt h1 h2
    exact ⟨_, hlt, a, h1, b, h2⟩

theorem l09Ill_any (c : Int) (w : World) :
    Calls Tryz.prog 47 #[.int .i64 c] w fun e w' => e = .returned (.agg #[.slice none 0 0, .slice none 0 0, .string ⟨#[]⟩, .int .i64 c]) ∧ Below w.heap.size w w' := by
  go_enter Tryz.func47, Tryz.ntmps47
  go_wp2
  exact bodyPost_ret (v := .agg #[.slice none 0 0, .slice none 0 0, .string ⟨#[]⟩, .int .i64 c]) (by simp [results, Tryz.results47, go_sem]) rfl ⟨rfl, (Below.refl _ _).alloc (Nat.le_refl _) _⟩

set_option maxHeartbeats 4000000 in
theorem l09At_any (v : Value) (L : List Item) (i : ByteArray) (w : World) (hr : ReadsIt w v L) (hl : L.length ≤ 1000) :
    Calls Tryz.prog 48 #[v, .string i] w fun e w' => e = .returned (.int .i64 (atL L i)) ∧ Below w.heap.size w w' := by
  obtain ⟨p, cap, rfl, h1, h2, h4⟩ := hr
  unfold maxLen at h2
  have H4 := hide h4
  clear h4
  go_enter Tryz.func48, Tryz.ntmps48
  go_wp2
  go_loopw [5] (fun x wr => ∃ (X : World) (k : Nat), X = wr ∧ x = .int .i64 (k : Int) ∧ k ≤ L.length ∧ Hid (∀ j (h : j < k) (h' : j < L.length), (L[j]'h').1 ≠ i) ∧ Hid (Below w.heap.size w X)) (fun x _ => L.length - (intOf x).toNat)
  case atStart => exact ⟨_, 0, rfl, rfl, Nat.zero_le _, hide (fun j h => by omega), hide (Below.refl _ _)⟩
  case round =>
    obtain ⟨X, k, rfl, rfl, hk, HN, HB⟩ := hrel
    by_cases hlt : k < L.length
    · obtain ⟨g, off, rfl, hg, hc⟩ := H4.out (by omega)
      have hki : (k : Int) < (L.length : Int) := by omega
      have c0 := (HB.out.cell (p := ⟨g, off + k * 2, none⟩) hg).trans (hc k hlt).1
      have hse := str_eql (L[k]'hlt).1 i
      by_cases he : (L[k]'hlt).1 = i
      · have HE := hide (atL_hit k hlt he (fun j h => HN.out j h (by omega))).1
        rw [decide_eq_true he] at hse
        clear he hc
        go_wp2
        go_ret
        exact ⟨by rw [HE.out]; rfl, HB.out⟩
      · have HN2 := hide (show ∀ j (h : j < k + 1) (h' : j < L.length), (L[j]'h').1 ≠ i from fun j h h' => by
          by_cases e : j = k
          · subst e; exact he
          · exact HN.out j (by omega) h')
        rw [decide_eq_false he] at hse
        clear he hc
        go_wp2
        go_roundw
        case rel => exact ⟨X, k + 1, rfl, by go_num, by omega, HN2, HB⟩
        case measure => simp [intOf]; omega
    · have HE := hide (atL_miss (L := L) (i := i) (fun j h => HN.out j (by omega) h)).1
      go_wp2
      go_ret
      exact ⟨by rw [HE.out]; rfl, HB.out⟩

set_option maxHeartbeats 4000000 in
theorem l09Begin_any (vs vp : Value) (xs : List ByteArray) (ps : List (Int × ByteArray)) (d : ByteArray) (w : World) (hn : xs.length ≤ 1048576) (hn2 : ps.length ≤ 1048576) (hd : d.size ≤ 1048576) (hr : Reads w vs xs) (hp : ReadsP w vp ps) :
    Calls Tryz.prog 46 #[.agg #[vs, vp], .string d] w fun e w' => (∃ v, e = .returned (.tuple #[v, .int .i64 (forC xs ps d)]) ∧ (forC xs ps d = 0 → w'.ownsRow w.heap.size 75 2 v (itemsO xs ps).length (itc (itemsO xs ps)))) ∧ Below w.heap.size w w' := by
  have hb0 : Below w.heap.size w (w.alloc (.cells #[vs, vp] 30)) := (Below.refl _ _).alloc (Nat.le_refl _) _
  have HB0 := hide hb0
  have HR := hide (hr.below hb0 (Nat.le_refl _))
  have HP := hide (hp.below hb0 (Nat.le_refl _))
  obtain ⟨p1, c1, rfl, _⟩ := hr
  obtain ⟨p2, c2, rfl, _⟩ := hp
  clear hb0
  have hdm : d.size ≤ maxLen := by unfold maxLen; omega
  by_cases h8 : 8000 < d.size
  · have hE : forC xs ps d = 2 := by unfold forC; rw [if_pos h8]
    rw [hE]
    have h8i : (8000 : Int) < (d.size : Int) := by omega
    clear hE
    go_enter Tryz.func46, Tryz.ntmps46
    go_wp2
    go_ret2
    exact ⟨⟨_, rfl, fun h => absurd h (by decide)⟩, HB0.out⟩
  have h8i : ¬ (8000 : Int) < (d.size : Int) := by omega
  have HC := hide (l09Read_any (.slice p1 xs.length c1) (.slice p2 ps.length c2) xs ps _ hn hn2 HR.out HP.out)
  cases hk : keptO xs ps with
  | none =>
    have hE : forC xs ps d = 1 := by unfold forC; rw [if_neg h8, hk]; rfl
    rw [hE]
    rw [hk] at HC
    clear hE hk
    go_enter Tryz.func46, Tryz.ntmps46
    go_wp2_with fail
    refine HC.out.mono ?_
    rintro e w1 ⟨⟨v, rfl, _⟩, hb1⟩
    have HB1 := hide (HB0.out.trans (hb1.mono HB0.out.size))
    clear hb1
    go_wp2
    go_ret2
    exact ⟨⟨_, rfl, fun h => absurd h (by decide)⟩, HB1.out⟩
  | some L =>
    have HIT := hide (show itemsO xs ps = L by unfold itemsO; rw [hk]; rfl)
    rw [HIT.out]
    cases hid : idB d with
    | false =>
      have hE : forC xs ps d = 1 := by unfold forC; rw [if_neg h8, hk, if_neg (by simp), if_pos hid]
      rw [hE]
      rw [hk] at HC
      have HNR := hide (fun X : World => specNameRight_any d X hdm)
      rw [hid] at HNR
      clear hE hk hid
      go_enter Tryz.func46, Tryz.ntmps46
      go_wp2_with fail
      refine HC.out.mono ?_
      rintro e w1 ⟨⟨v, rfl, _⟩, hb1⟩
      have HB1 := hide (HB0.out.trans (hb1.mono HB0.out.size))
      clear hb1
      go_wp2_with fail
      refine (HNR.out _).mono ?_
      rintro e w2 ⟨rfl, h2⟩
      obtain rfl := h2.symm
      go_wp2
      go_ret2
      exact ⟨⟨_, rfl, fun h => absurd h (by decide)⟩, HB1.out⟩
    | true =>
      have hE : forC xs ps d = 0 := by unfold forC; rw [if_neg h8, hk, if_neg (by simp), if_neg (by rw [hid]; simp)]
      rw [hE]
      rw [hk] at HC
      have HNR := hide (fun X : World => specNameRight_any d X hdm)
      rw [hid] at HNR
      clear hE hk hid
      go_enter Tryz.func46, Tryz.ntmps46
      go_wp2_with fail
      refine HC.out.mono ?_
      rintro e w1 ⟨⟨v, rfl, hO⟩, hb1⟩
      have HB1 := hide (HB0.out.trans (hb1.mono HB0.out.size))
      have HOI := hide (own_baseX (hO L rfl) HB0.out.size)
      clear hb1 hO
      go_wp2_with fail
      refine (HNR.out _).mono ?_
      rintro e w2 ⟨rfl, h2⟩
      obtain rfl := h2.symm
      go_wp2
      go_ret2
      exact ⟨⟨_, rfl, fun _ => HOI.out⟩, HB1.out⟩

theorem getEnd {w W Z V : World} {us up : Value} {xs : List ByteArray} {ps : List (Int × ByteArray)} {t : ByteArray} (h0 : Below w.heap.size w W) (hz : Below W.heap.size W Z) (hws : w.heap.size + 2 = W.heap.size) (k : Kept [w.heap.size + 1] Z V)
    (o1 : OwnS 9 (w.heap.size + 2) Z us xs) (o2 : OwnP 92 (w.heap.size + 2) Z up ps) (dd : ∀ x ∈ leads us, x ∉ leads up) :
    KOutIs w.heap.size (.returned (.agg #[us, up, .string t, .int .i64 0])) V ⟨xs, ps, t, 0⟩ ∧ Below w.heap.size w V := by
  have hb := h0.trans (hz.mono h0.size)
  refine ⟨⟨us, up, rfl, (o1.kept k ?_).mono (by omega), (o2.kept k ?_).mono (by omega), dd⟩, k.toBelow hb hb.size (by simp)⟩
  · intro x hx
    have := (o1.leads x hx).1
    simp
    omega
  · intro x hx
    have := (o2.leads x hx).1
    simp
    omega

set_option maxHeartbeats 8000000 in
set_option maxRecDepth 100000 in
theorem specStoreGet_any (vs vp : Value) (xs : List ByteArray) (ps : List (Int × ByteArray)) (d : ByteArray) (w : World) (hn : xs.length ≤ 1048576) (hn2 : ps.length ≤ 1048576) (hd : d.size ≤ 1048576) (hr : Reads w vs xs) (hp : ReadsP w vp ps) :
    Calls Tryz.prog 17 #[.agg #[vs, vp], .string d] w fun e w' => KOutIs w.heap.size e w' (getO xs ps d) ∧ Below w.heap.size w w' := by
  have HR := hide hr
  have HP := hide hp
  obtain ⟨p1, c1, rfl, _⟩ := hr
  obtain ⟨p2, c2, rfl, _⟩ := hp
  obtain ⟨W, hW⟩ : ∃ W, W = (w.alloc (.cells #[.slice p1 xs.length c1, .slice p2 ps.length c2] 30)).alloc (.cells #[.slice none 0 0, .slice none 0 0, .string ⟨#[]⟩, .int .i64 0] 38) := ⟨_, rfl⟩
  have HB0 := hide (show Below w.heap.size w W by rw [hW]; exact ((Below.refl _ _).alloc (Nat.le_refl _) _).alloc (by simp) _)
  have HWS := hide (show w.heap.size + 2 = W.heap.size by rw [hW]; simp)
  have HRD := hide (show Row W w.heap.size 30 [.slice p1 xs.length c1, .slice p2 ps.length c2] by rw [hW]; exact (row_new w _ _).alloc _)
  have HRO := hide (show Row W (w.heap.size + 1) 38 [.slice none 0 0, .slice none 0 0, .string ⟨#[]⟩, .int .i64 0] by
    rw [hW]
    have := row_new (w.alloc (.cells #[.slice p1 xs.length c1, .slice p2 ps.length c2] 30)) [.slice none 0 0, .slice none 0 0, .string ⟨#[]⟩, .int .i64 0] 38
    simpa using this)
  have HR1 := hide (HR.out.below HB0.out (Nat.le_refl _))
  have HP1 := hide (HP.out.below HB0.out (Nat.le_refl _))
  obtain ⟨C, hC⟩ : ∃ C, C = forC xs ps d := ⟨_, rfl⟩
  have HCE := hide hC
  obtain ⟨o, ho⟩ : ∃ o, o = getO xs ps d := ⟨_, rfl⟩
  have HOE := hide ho
  rw [← ho]
  clear hC ho
  go_enter Tryz.func17, Tryz.ntmps17
  go_wp2_with fail
  rw [← hW]
  clear hW
  refine (l09Begin_any _ _ xs ps d _ hn hn2 hd HR1.out HP1.out).mono ?_
  rw [← HCE.out]
  rintro e w1 ⟨⟨v, rfl, hO⟩, hb1⟩
  have HZ1 := hide hb1
  have HB1 := hide (HB0.out.trans (hb1.mono HB0.out.size))
  have HRO1 := hide (HRO.out.below hb1 HRO.out.lt)
  have HRD1 := hide (HRD.out.below hb1 HRD.out.lt)
  have HOI := hide hO
  clear hb1 hO
  by_cases hc : C = 0
  rotate_left
  · have HE := hide (show o = kill C by rw [HOE.out, getO, ← HCE.out, if_pos hc])
    have hcb : (C != 0) = true := by simpa using hc
    clear hc
    go_wp2_with fail
    refine (l09Ill_any C _).mono ?_
    rintro e w2 ⟨rfl, hb2⟩
    have HB2 := hide (HB1.out.trans (hb2.mono HB1.out.size))
    have HRO2 := hide (HRO1.out.below hb2 HRO1.out.lt)
    clear hb2
    have g0 : w2.cell? ⟨w.heap.size + 1, 0, none⟩ = some (.slice none 0 0) := HRO2.out.cell 0
    have h0 := HRO2.out.free 0
    have g1 : w2.cell? ⟨w.heap.size + 1, 1, none⟩ = some (.slice none 0 0) := HRO2.out.cell 1
    have h1 := HRO2.out.free 1
    have g2 : w2.cell? ⟨w.heap.size + 1, 2, none⟩ = some (.string ⟨#[]⟩) := HRO2.out.cell 2
    have h2 := HRO2.out.free 2
    have g3 : w2.cell? ⟨w.heap.size + 1, 3, none⟩ = some (.int .i64 0) := HRO2.out.cell 3
    have h3 := HRO2.out.free 3
    go_wp2
    obtain ⟨r0, r1, r2, r3, KG⟩ := four HRO2.out (.slice none 0 0) (.slice none 0 0) (.string ⟨#[]⟩) (.int .i64 C)
    exact bodyPost_ret (v := .agg #[.slice none 0 0, .slice none 0 0, .string ⟨#[]⟩, .int .i64 C]) (by simp [results, Tryz.results17, go_sem, r0, r1, r2, r3]) rfl ⟨by rw [HE.out]; exact KOutIs.ill _ _ _, KG.toBelow HB2.out HB2.out.size (by simp)⟩
  subst hc
  obtain ⟨_, hkk, _⟩ := forC_ok HCE.out.symm
  obtain ⟨L, hL⟩ : ∃ L, L = itemsO xs ps := ⟨_, rfl⟩
  rw [← hL] at hkk HOI
  have hlen := (keptO_items hkk).2.2
  have HOJ := hide (HOI.out rfl)
  have HRI := hide (readsIt_of HOJ.out)
  have HGE := hide (show o = match L.find? (sameId d) with
    | none => kill 6
    | some p => ⟨xs, ps, p.2, 0⟩ by rw [HOE.out, getO, ← HCE.out, if_neg (by simp), hL])
  clear hL hkk
  go_wp2_with fail
  refine (l09At_any _ L d _ HRI.out (by omega)).mono ?_
  rcases atL_cases L d with ⟨k, hk, e1, e2, e3, _⟩ | ⟨e1, e2⟩
  rotate_left
  · have HE := hide (show o = kill 6 by rw [HGE.out, e2])
    rw [e1]
    clear e1 e2
    rintro e w2 ⟨rfl, hb2⟩
    have HB2 := hide (HB1.out.trans (hb2.mono HB1.out.size))
    have HRO2 := hide (HRO1.out.below hb2 HRO1.out.lt)
    clear hb2
    go_wp2_with fail
    refine (l09Ill_any 6 _).mono ?_
    rintro e w3 ⟨rfl, hb3⟩
    have HB3 := hide (HB2.out.trans (hb3.mono HB2.out.size))
    have HRO3 := hide (HRO2.out.below hb3 HRO2.out.lt)
    clear hb3
    have g0 : w3.cell? ⟨w.heap.size + 1, 0, none⟩ = some (.slice none 0 0) := HRO3.out.cell 0
    have h0 := HRO3.out.free 0
    have g1 : w3.cell? ⟨w.heap.size + 1, 1, none⟩ = some (.slice none 0 0) := HRO3.out.cell 1
    have h1 := HRO3.out.free 1
    have g2 : w3.cell? ⟨w.heap.size + 1, 2, none⟩ = some (.string ⟨#[]⟩) := HRO3.out.cell 2
    have h2 := HRO3.out.free 2
    have g3 : w3.cell? ⟨w.heap.size + 1, 3, none⟩ = some (.int .i64 0) := HRO3.out.cell 3
    have h3 := HRO3.out.free 3
    go_wp2
    obtain ⟨r0, r1, r2, r3, KG⟩ := four HRO3.out (.slice none 0 0) (.slice none 0 0) (.string ⟨#[]⟩) (.int .i64 6)
    exact bodyPost_ret (v := .agg #[.slice none 0 0, .slice none 0 0, .string ⟨#[]⟩, .int .i64 6]) (by simp [results, Tryz.results17, go_sem, r0, r1, r2, r3]) rfl ⟨by rw [HE.out]; exact KOutIs.ill _ _ _, KG.toBelow HB3.out HB3.out.size (by simp)⟩
  rw [e1]
  have HE := hide (show o = ⟨xs, ps, (L[k]'hk).2, 0⟩ by rw [HGE.out, e3])
  clear e1 e2 e3
  rintro e X ⟨rfl, hb2⟩
  have HX0 := hide (HZ1.out.trans (hb2.mono HZ1.out.size))
  have HDX := hide (HRD1.out.below hb2 HRD1.out.lt)
  have HRIX := hide (HRI.out.below hb2 (Nat.le_refl _))
  clear HZ1
  clear hb2
  obtain ⟨pp, cap, rfl, _, hcm, h4⟩ := HRIX.out
  obtain ⟨g, off, rfl, hg, hcc⟩ := h4 (by omega)
  have HCX := hide (hcc k hk).2
  obtain ⟨tX, htX⟩ : ∃ tX, tX = (L[k]'hk).2 := ⟨_, rfl⟩
  rw [← htX] at HCX HE
  have hki : (k : Int) < (L.length : Int) := by omega
  have hkn : ¬ (k : Int) < 0 := by omega
  unfold maxLen at hcm
  have HGB := hide (show w.heap.size + 2 ≤ g from by have := (HOJ.out.lt g rfl).1; have := HWS.out; omega)
  clear htX hcc h4
  go_upto_region 7 with fail
  refine wp_region_held (S := fun y : World => y.cell? ⟨w.heap.size, 0, none⟩ = some (.slice p1 xs.length c1) ∧ y.cell? ⟨w.heap.size, 1, none⟩ = some (.slice p2 ps.length c2) ∧ y.cell? ⟨g, off + k * 2 + 1, none⟩ = some (.string tX)) (by kernel_rfl) ?_
  have HSS := hide (show ∀ y : World, Below X.heap.size X y → (y.cell? ⟨w.heap.size, 0, none⟩ = some (.slice p1 xs.length c1) ∧ y.cell? ⟨w.heap.size, 1, none⟩ = some (.slice p2 ps.length c2) ∧ y.cell? ⟨g, off + k * 2 + 1, none⟩ = some (.string tX)) from
    fun y hb => ⟨(HDX.out.below hb HDX.out.lt).cell 0, (HDX.out.below hb HDX.out.lt).cell 1, (hb.cell (p := ⟨g, off + k * 2 + 1, none⟩) hg).trans HCX.out⟩)
  have HSK := hide (show ∀ (y v : World), Below X.heap.size X y → Kept [w.heap.size + 1] y v → (v.cell? ⟨w.heap.size, 0, none⟩ = some (.slice p1 xs.length c1) ∧ v.cell? ⟨w.heap.size, 1, none⟩ = some (.slice p2 ps.length c2) ∧ v.cell? ⟨g, off + k * 2 + 1, none⟩ = some (.string tX)) from
    fun y v hb kk => ⟨(kk.row (HDX.out.below hb HDX.out.lt) (by simp)).cell 0, (kk.row (HDX.out.below hb HDX.out.lt) (by simp)).cell 1, kk.cell ((hb.cell (p := ⟨g, off + k * 2 + 1, none⟩) hg).trans HCX.out) (by have := HGB.out; simp; omega)⟩)
  have HZ1 := hide (show Below X.heap.size X { X with drawn := X.drawn + 1 } from (Below.refl _ X).drew)
  generalize ({ X with drawn := X.drawn + 1 } : World) = Z1 at HZ1 ⊢
  have HS := hide (HSS.out _ HZ1.out)
  refine wpAnyH_take (i := 0) (oi := _) (v := .agg #[.slice p1 xs.length c1, .slice p2 ps.length c2]) rfl (by kernel_rfl) (by kernel_rfl) (by kernel_rfl) (fun _ _ _ h => h) (Or.inl ⟨by rfl, by intro w hSw; go_split_ands; go_simp <;> omega⟩) HS.out ?_
  simp only [Act.put, List.getElem_toArray, List.getElem_cons_zero, List.setIfInBounds_toArray, List.set_cons_zero, List.set_cons_succ]
  refine wpAnyH_take (i := 2) (oi := _) (v := .slice (some ⟨g, off, none⟩) L.length cap) rfl (by kernel_rfl) (by kernel_rfl) (by kernel_rfl) (fun _ _ _ h => h) (Or.inl ⟨by rfl, by intro w hSw; go_split_ands; go_simp <;> omega⟩) HS.out ?_
  simp only [Act.put, List.getElem_toArray, List.getElem_cons_zero, List.getElem_cons_succ, List.setIfInBounds_toArray, List.set_cons_zero, List.set_cons_succ]
  refine wpAnyH_take (i := 3) (oi := _) (v := .int .i64 (k : Int)) rfl (by kernel_rfl) (by kernel_rfl) (by kernel_rfl) (fun _ _ _ h => h) (Or.inl ⟨by rfl, by intro w hSw; go_split_ands; go_simp <;> omega⟩) HS.out ?_
  simp only [Act.put, List.getElem_toArray, List.getElem_cons_zero, List.getElem_cons_succ, List.setIfInBounds_toArray, List.set_cons_zero, List.set_cons_succ]
  refine wpAnyH_take (i := 4) (oi := _) (v := .pointer (some ⟨g, off + k * 2, none⟩)) rfl (by kernel_rfl) (by kernel_rfl) (by kernel_rfl) (fun _ _ _ h => h) (Or.inl ⟨by rfl, by intro w hSw; go_split_ands; go_simp <;> omega⟩) HS.out ?_
  simp only [Act.put, List.getElem_toArray, List.getElem_cons_zero, List.getElem_cons_succ, List.setIfInBounds_toArray, List.set_cons_zero, List.set_cons_succ]
  refine wpAnyH_take (i := 5) (oi := _) (v := .pointer (some ⟨g, off + k * 2 + 1, none⟩)) rfl (by kernel_rfl) (by kernel_rfl) (by kernel_rfl) (fun _ _ _ h => h) (Or.inl ⟨by rfl, by intro w hSw; go_split_ands; go_simp <;> omega⟩) HS.out ?_
  simp only [Act.put, List.getElem_toArray, List.getElem_cons_zero, List.getElem_cons_succ, List.setIfInBounds_toArray, List.set_cons_zero, List.set_cons_succ]
  refine wpAnyH_take (i := 6) (oi := _) (v := .string tX) rfl (by kernel_rfl) (by kernel_rfl) (by kernel_rfl) (fun _ _ _ h => h) (Or.inl ⟨by rfl, by intro w hSw; go_split_ands; go_simp <;> omega⟩) HS.out ?_
  simp only [Act.put, List.getElem_toArray, List.getElem_cons_zero, List.getElem_cons_succ, List.setIfInBounds_toArray, List.set_cons_zero, List.set_cons_succ]
  refine wpAnyH_ready (rs := [1]) (by kernel_rfl) (by simp) ?_
  refine AllReadyH.cons (o := _) rfl (fun K hK => ?_) AllReadyH.nil
  go_simp
  refine (l02Copy_any _ _ xs ps _ hn hn2 (HR1.out.below (HX0.out.trans (HZ1.out.mono HX0.out.size)) (Nat.le_refl _)) (HP1.out.below (HX0.out.trans (HZ1.out.mono HX0.out.size)) (Nat.le_refl _))).mono ?_
  rintro e Z2 ⟨us, up, rfl, o1, o2, dd, _, hbc⟩
  obtain ⟨s1, s2, s3, rfl⟩ := o1.isSlice
  obtain ⟨s4, s5, s6, rfl⟩ := o2.isSlice
  have hge : w.heap.size + 2 ≤ Z1.heap.size := by
    have h1 := HWS.out
    have h2 := HX0.out.size
    have h3 := HZ1.out.size
    omega
  have O1 := hide (o1.mono hge)
  have O2 := hide (o2.mono hge)
  have DD := hide dd
  have HZ2 := hide (HZ1.out.trans (hbc.mono HZ1.out.size))
  have HZW := hide (HX0.out.trans (HZ2.out.mono HX0.out.size))
  have HRZ := hide (HRO.out.below HZW.out HRO.out.lt)
  clear hbc o1 o2 dd hge
  refine hK.out _ _ (HSS.out _ HZ2.out) (fun _ => ?_)
  clear hK K HS
  have HS := hide (HSS.out _ HZ2.out)
  try simp only [Act.put, List.getElem_toArray, List.getElem_cons_zero, List.getElem_cons_succ, List.setIfInBounds_toArray, List.set_cons_zero, List.set_cons_succ]
  refine wpAnyH_take (i := 7) (oi := _) (v := .agg #[.slice s1 s2 s3, .slice s4 s5 s6, .string tX, .int .i64 0]) rfl (by kernel_rfl) (by kernel_rfl) (by kernel_rfl) (fun _ _ _ h => h) (Or.inl ⟨by rfl, by intro w hSw; go_split_ands; go_simp <;> omega⟩) HS.out ?_
  simp only [Act.put, List.getElem_toArray, List.getElem_cons_zero, List.getElem_cons_succ, List.setIfInBounds_toArray, List.set_cons_zero, List.set_cons_succ]
  refine wpAnyH_ready (rs := [8]) (by kernel_rfl) (by simp) ?_
  refine AllReadyH.cons (o := _) rfl (fun K hK => ?_) AllReadyH.nil
  have d0 : Z2.cell? ⟨w.heap.size + 1, 0, none⟩ = some (.slice none 0 0) := HRZ.out.cell 0
  have d1 : Z2.cell? ⟨w.heap.size + 1, 1, none⟩ = some (.slice none 0 0) := HRZ.out.cell 1
  have d2 : Z2.cell? ⟨w.heap.size + 1, 2, none⟩ = some (.string ⟨#[]⟩) := HRZ.out.cell 2
  have d3 : Z2.cell? ⟨w.heap.size + 1, 3, none⟩ = some (.int .i64 0) := HRZ.out.cell 3
  have f0 := HRZ.out.free 0
  have f1 := HRZ.out.free 1
  have f2 := HRZ.out.free 2
  have f3 := HRZ.out.free 3
  obtain ⟨r0, r1, r2, r3, KG⟩ := four HRZ.out (.slice s1 s2 s3) (.slice s4 s5 s6) (.string tX) (.int .i64 0)
  have HSF := hide (HSK.out _ _ HZ2.out KG)
  have HQ := hide (And.intro r0 (And.intro r1 (And.intro r2 r3)))
  have HKG := hide KG
  clear r0 r1 r2 r3 KG
  go_simp
  refine hK.out _ _ HSF.out (fun _ => ?_)
  clear hK K d0 d1 d2 d3 f0 f1 f2 f3 HS
  refine wpAnyH_done (by kernel_rfl) ?_ _
  go_wp2
  exact bodyPost_ret (v := .agg #[.slice s1 s2 s3, .slice s4 s5 s6, .string tX, .int .i64 0]) (by simp [results, Tryz.results17, go_sem, HQ.out.1, HQ.out.2.1, HQ.out.2.2.1, HQ.out.2.2.2]) rfl
    (by rw [HE.out]; exact getEnd HB0.out HZW.out HWS.out HKG.out O1.out O2.out DD.out)
end Go.Proofs.YtnpbmaajgiapmaaGreatDoor
/- The law of StoreGet, from what the program's StoreGet does. -/
namespace Go.Proofs.YtnpbmaajgiapmaaGreatDoor
open Go.RowKit

set_option maxRecDepth 100000 in
set_option maxHeartbeats 8000000 in
theorem lawKGet (w : World) (d : ByteArray) (hd : d.size ≤ 1048576) (HI : ∀ (vs vp : Value) (xs : List ByteArray) (ps : List (Int × ByteArray)) (w' : World), Below w.heap.size w w' → xs.length ≤ 1048576 → ps.length ≤ 1048576 → Reads w' vs xs → ReadsP w' vp ps →
      Calls Tryz.prog 18 #[.agg #[vs, vp], .string d] w' fun e w'' => KOutIs w'.heap.size e w'' (getO xs ps d) ∧ Below w'.heap.size w' w'')
    (vs vp : Value) (xs : List ByteArray) (ps : List (Int × ByteArray)) (hr : Reads w vs xs) (hp : ReadsP w vp ps) (HO2 : Small xs ps → ((getO xs ps d)).xs.length ≤ 1048576 ∧ ((getO xs ps d)).ps.length ≤ 1048576) :
    Calls Tryz.prog 5 #[.agg #[vs, vp], .string d] w fun e w' => e = .returned (.bool true) ∧ Below w.heap.size w w' := by
  have hb0 := below_new w (.cells #[vs, vp] 25)
  have HR0 := hide (hr.below hb0 (Nat.le_refl _))
  have HP0 := hide (hp.below hb0 (Nat.le_refl _))
  have HB0 := hide hb0
  have HII := hide HI
  have HOO := hide HO2
  obtain ⟨o, ho⟩ : ∃ o, o = (getO xs ps d) := ⟨_, rfl⟩
  have HEQ := hide ho
  clear ho
  have I0 := hide (And.intro hr.isIn hp.isIn)
  obtain ⟨p1, c1, rfl, hq⟩ := hr
  obtain ⟨p2, c2, rfl, hq2⟩ := hp
  have HN0 := hide (row_new w [.slice p1 xs.length c1, .slice p2 ps.length c2] 25)
  clear hb0 hq hq2 HI HO2
  go_enter Tryz.func5, Tryz.ntmps5
  go_wp2_with fail
  refine (szDisk_any _ _ xs ps _ HR0.out HP0.out).mono ?_
  rintro e w1 ⟨r, rfl, hsm, hb1⟩
  have H1 := hide (Stab.go hb1 (P := fun w' => Below w.heap.size w w' ∧ Reads w' (.slice p1 xs.length c1) xs ∧ ReadsP w' (.slice p2 ps.length c2) ps ∧ Row w' w.heap.size 25 [.slice p1 xs.length c1, .slice p2 ps.length c2]) ⟨HB0.out, HR0.out, HP0.out, HN0.out⟩)
  rcases hsm with hneg | ⟨hpos, hsm⟩
  · clear hb1
    go_wp2
    go_ret
    exact ⟨rfl, H1.out.1⟩
  have hneg : ¬ r < 0 := by omega
  have a0 : w1.cell? ⟨w.heap.size, 0, none⟩ = some (.slice p1 xs.length c1) := H1.out.2.2.2.cell 0
  have a1 : w1.cell? ⟨w.heap.size, 1, none⟩ = some (.slice p2 ps.length c2) := H1.out.2.2.2.cell 1
  have HSM := hide hsm
  clear hb1 HR0 HP0 HN0 HB0 hsm
  go_wp2_with fail
  refine (toDisk_any _ _ xs ps _ H1.out.2.1 H1.out.2.2.1 HSM.out).mono ?_
  rintro e w2 ⟨us, up, rfl, o1, o2, dd, hb2⟩
  have H2 := hide (Stab.go hb2 (P := fun w' => Below w.heap.size w w' ∧ Reads w' (.slice p1 xs.length c1) xs ∧ ReadsP w' (.slice p2 ps.length c2) ps ∧ Row w' w.heap.size 25 [.slice p1 xs.length c1, .slice p2 ps.length c2]) H1.out)
  have HRu := hide o1.reads
  have HPu := hide o2.reads
  obtain ⟨x1, x2, x3, x4⟩ := HSM.out
  have S2 := hide H2.out.1.size
  clear o1 o2 dd hb2 H1 x2 x4 a0 a1
  go_wp2_with fail
  refine (specStoreGet_any _ _ xs ps d _ x1 x3 hd HRu.out HPu.out).mono ?_
  rw [← HEQ.out]
  rintro e w3 ⟨⟨ss, sp, rfl, o1, o2, dd⟩, hb3⟩
  obtain ⟨i1, j1, k1, rfl⟩ := o1.isSlice
  obtain ⟨i2, j2, k2, rfl⟩ := o2.isSlice
  have bn := below_new w3 (.cells #[.slice i1 j1 k1, .slice i2 j2 k2, .string o.t, .int .i64 o.c] 38)
  have H2a := hide (Stab.go (hb3.trans (bn.mono hb3.size)) (P := fun w' => Below w.heap.size w w' ∧ Reads w' (.slice p1 xs.length c1) xs ∧ ReadsP w' (.slice p2 ps.length c2) ps ∧ Row w' w.heap.size 25 [.slice p1 xs.length c1, .slice p2 ps.length c2]) H2.out)
  have H3 := hide (show (fun w' => Below w.heap.size w w' ∧ Reads w' (.slice p1 xs.length c1) xs ∧ ReadsP w' (.slice p2 ps.length c2) ps ∧ Row w' w.heap.size 25 [.slice p1 xs.length c1, .slice p2 ps.length c2] ∧ Reads w' (.slice i1 j1 k1) o.xs ∧ ReadsP w' (.slice i2 j2 k2) o.ps ∧ Row w' w3.heap.size 38 [.slice i1 j1 k1, .slice i2 j2 k2, .string o.t, .int .i64 o.c]) (w3.alloc (.cells #[.slice i1 j1 k1, .slice i2 j2 k2, .string o.t, .int .i64 o.c] 38)) from ⟨H2a.out.1, H2a.out.2.1, H2a.out.2.2.1, H2a.out.2.2.2, o1.reads.below bn (Nat.le_refl _), o2.reads.below bn (Nat.le_refl _), row_new w3 _ _⟩)
  have I3 := hide (And.intro o1.isIn o2.isIn)
  have S3 := hide (And.intro H2.out.1.size hb3.size)
  have a0 : (w3.alloc (.cells #[.slice i1 j1 k1, .slice i2 j2 k2, .string o.t, .int .i64 o.c] 38)).cell? ⟨w.heap.size, 0, none⟩ = some (.slice p1 xs.length c1) := H3.out.2.2.2.1.cell 0
  have a1 : (w3.alloc (.cells #[.slice i1 j1 k1, .slice i2 j2 k2, .string o.t, .int .i64 o.c] 38)).cell? ⟨w.heap.size, 1, none⟩ = some (.slice p2 ps.length c2) := H3.out.2.2.2.1.cell 1
  clear o1 o2 dd hb3 bn H2 H2a HRu HPu
  go_wp2_with fail
  refine (toDisk_any _ _ xs ps _ H3.out.2.1 H3.out.2.2.1 HSM.out).mono ?_
  rintro e w4 ⟨xs', xp', rfl, o1, o2, dd, hb4⟩
  obtain ⟨q1, m1, d1, rfl⟩ := o1.isSlice
  obtain ⟨q2, m2, d2, rfl⟩ := o2.isSlice
  obtain ⟨B4, hB4⟩ : ∃ b, b = w3.heap.size + 1 := ⟨_, rfl⟩
  simp only [World.size_alloc] at o1 o2
  rw [← hB4] at o1 o2
  have bn := below_new w4 (.cells #[.slice q1 m1 d1, .slice q2 m2 d2] 30)
  have H3a := hide (Stab.go (hb4.trans (bn.mono hb4.size)) (P := fun w' => Below w.heap.size w w' ∧ Reads w' (.slice p1 xs.length c1) xs ∧ ReadsP w' (.slice p2 ps.length c2) ps ∧ Row w' w.heap.size 25 [.slice p1 xs.length c1, .slice p2 ps.length c2] ∧ Reads w' (.slice i1 j1 k1) o.xs ∧ ReadsP w' (.slice i2 j2 k2) o.ps ∧ Row w' w3.heap.size 38 [.slice i1 j1 k1, .slice i2 j2 k2, .string o.t, .int .i64 o.c]) H3.out)
  have H4 := hide (show (fun w' => Below w.heap.size w w' ∧ Reads w' (.slice p1 xs.length c1) xs ∧ ReadsP w' (.slice p2 ps.length c2) ps ∧ Row w' w.heap.size 25 [.slice p1 xs.length c1, .slice p2 ps.length c2] ∧ Reads w' (.slice i1 j1 k1) o.xs ∧ ReadsP w' (.slice i2 j2 k2) o.ps ∧ Row w' w3.heap.size 38 [.slice i1 j1 k1, .slice i2 j2 k2, .string o.t, .int .i64 o.c] ∧ OwnS 9 B4 w' (.slice q1 m1 d1) xs ∧ OwnP 92 B4 w' (.slice q2 m2 d2) ps ∧ Row w' w4.heap.size 30 [.slice q1 m1 d1, .slice q2 m2 d2]) (w4.alloc (.cells #[.slice q1 m1 d1, .slice q2 m2 d2] 30)) from ⟨H3a.out.1, H3a.out.2.1, H3a.out.2.2.1, H3a.out.2.2.2.1, H3a.out.2.2.2.2.1, H3a.out.2.2.2.2.2.1, H3a.out.2.2.2.2.2.2, o1.below bn (Nat.le_refl _), o2.below bn (Nat.le_refl _), row_new w4 _ _⟩)
  have I4 := hide (And.intro o1.isIn o2.isIn)
  have S4 := hide (show w3.heap.size + 1 ≤ w4.heap.size by have := hb4.size; simpa using this)
  have D4 := hide dd
  clear o1 o2 dd hb4 bn H3 H3a a0 a1
  go_wp2_with fail
  refine (HII.out _ _ xs ps _ H4.out.1 x1 x3 H4.out.2.2.2.2.2.2.2.1.reads H4.out.2.2.2.2.2.2.2.2.1.reads).mono ?_
  rw [← HEQ.out]
  rintro e w5 ⟨⟨gs, gp, rfl, o1, o2, dd⟩, hb5⟩
  obtain ⟨r1, n1, e1, rfl⟩ := o1.isSlice
  obtain ⟨r2, n2, e2, rfl⟩ := o2.isSlice
  obtain ⟨B5, hB5⟩ : ∃ b, b = w4.heap.size + 1 := ⟨_, rfl⟩
  simp only [World.size_alloc] at o1 o2
  rw [← hB5] at o1 o2
  have bn := below_new w5 (.cells #[.slice r1 n1 e1, .slice r2 n2 e2, .string o.t, .int .i64 o.c] 38)
  have H4a := hide (Stab.go (hb5.trans (bn.mono hb5.size)) (P := fun w' => Below w.heap.size w w' ∧ Reads w' (.slice p1 xs.length c1) xs ∧ ReadsP w' (.slice p2 ps.length c2) ps ∧ Row w' w.heap.size 25 [.slice p1 xs.length c1, .slice p2 ps.length c2] ∧ Reads w' (.slice i1 j1 k1) o.xs ∧ ReadsP w' (.slice i2 j2 k2) o.ps ∧ Row w' w3.heap.size 38 [.slice i1 j1 k1, .slice i2 j2 k2, .string o.t, .int .i64 o.c] ∧ OwnS 9 B4 w' (.slice q1 m1 d1) xs ∧ OwnP 92 B4 w' (.slice q2 m2 d2) ps ∧ Row w' w4.heap.size 30 [.slice q1 m1 d1, .slice q2 m2 d2]) H4.out)
  have H5 := hide (show (fun w' => Below w.heap.size w w' ∧ Reads w' (.slice p1 xs.length c1) xs ∧ ReadsP w' (.slice p2 ps.length c2) ps ∧ Row w' w.heap.size 25 [.slice p1 xs.length c1, .slice p2 ps.length c2] ∧ Reads w' (.slice i1 j1 k1) o.xs ∧ ReadsP w' (.slice i2 j2 k2) o.ps ∧ Row w' w3.heap.size 38 [.slice i1 j1 k1, .slice i2 j2 k2, .string o.t, .int .i64 o.c] ∧ OwnS 9 B4 w' (.slice q1 m1 d1) xs ∧ OwnP 92 B4 w' (.slice q2 m2 d2) ps ∧ Row w' w4.heap.size 30 [.slice q1 m1 d1, .slice q2 m2 d2] ∧ OwnS 9 B5 w' (.slice r1 n1 e1) o.xs ∧ OwnP 92 B5 w' (.slice r2 n2 e2) o.ps ∧ Row w' w5.heap.size 38 [.slice r1 n1 e1, .slice r2 n2 e2, .string o.t, .int .i64 o.c]) (w5.alloc (.cells #[.slice r1 n1 e1, .slice r2 n2 e2, .string o.t, .int .i64 o.c] 38)) from ⟨H4a.out.1, H4a.out.2.1, H4a.out.2.2.1, H4a.out.2.2.2.1, H4a.out.2.2.2.2.1, H4a.out.2.2.2.2.2.1, H4a.out.2.2.2.2.2.2.1, H4a.out.2.2.2.2.2.2.2.1, H4a.out.2.2.2.2.2.2.2.2.1, H4a.out.2.2.2.2.2.2.2.2.2, o1.below bn (Nat.le_refl _), o2.below bn (Nat.le_refl _), row_new w5 _ _⟩)
  have I5 := hide (And.intro o1.isIn o2.isIn)
  have S5 := hide (show w4.heap.size + 1 ≤ w5.heap.size by have := hb5.size; simpa using this)
  have D5 := hide dd
  obtain ⟨l1, l2⟩ := HOO.out HSM.out
  rw [← HEQ.out] at l1 l2
  have b0 : (w5.alloc (.cells #[.slice r1 n1 e1, .slice r2 n2 e2, .string o.t, .int .i64 o.c] 38)).cell? ⟨w3.heap.size, 0, none⟩ = some (.slice i1 j1 k1) := H5.out.2.2.2.2.2.2.1.cell 0
  have b1 : (w5.alloc (.cells #[.slice r1 n1 e1, .slice r2 n2 e2, .string o.t, .int .i64 o.c] 38)).cell? ⟨w3.heap.size, 1, none⟩ = some (.slice i2 j2 k2) := H5.out.2.2.2.2.2.2.1.cell 1
  have b2 : (w5.alloc (.cells #[.slice r1 n1 e1, .slice r2 n2 e2, .string o.t, .int .i64 o.c] 38)).cell? ⟨w3.heap.size, 2, none⟩ = some (.string o.t) := H5.out.2.2.2.2.2.2.1.cell 2
  have b3 : (w5.alloc (.cells #[.slice r1 n1 e1, .slice r2 n2 e2, .string o.t, .int .i64 o.c] 38)).cell? ⟨w3.heap.size, 3, none⟩ = some (.int .i64 o.c) := H5.out.2.2.2.2.2.2.1.cell 3
  clear o1 o2 dd hb5 bn H4 H4a HOO
  go_wp2_with fail
  refine (eqStoreOut_same _ _ _ _ o.xs o.ps o.t o.c _ l1 l2 H5.out.2.2.2.2.2.2.2.2.2.2.1.reads H5.out.2.2.2.2.2.2.2.2.2.2.2.1.reads H5.out.2.2.2.2.1 H5.out.2.2.2.2.2.1).mono ?_
  rintro e w6 ⟨rfl, hb6⟩
  have H6 := hide (Stab.go hb6 (P := fun w' => Below w.heap.size w w' ∧ Reads w' (.slice p1 xs.length c1) xs ∧ ReadsP w' (.slice p2 ps.length c2) ps ∧ Row w' w.heap.size 25 [.slice p1 xs.length c1, .slice p2 ps.length c2] ∧ Reads w' (.slice i1 j1 k1) o.xs ∧ ReadsP w' (.slice i2 j2 k2) o.ps ∧ Row w' w3.heap.size 38 [.slice i1 j1 k1, .slice i2 j2 k2, .string o.t, .int .i64 o.c] ∧ OwnS 9 B4 w' (.slice q1 m1 d1) xs ∧ OwnP 92 B4 w' (.slice q2 m2 d2) ps ∧ Row w' w4.heap.size 30 [.slice q1 m1 d1, .slice q2 m2 d2] ∧ OwnS 9 B5 w' (.slice r1 n1 e1) o.xs ∧ OwnP 92 B5 w' (.slice r2 n2 e2) o.ps ∧ Row w' w5.heap.size 38 [.slice r1 n1 e1, .slice r2 n2 e2, .string o.t, .int .i64 o.c]) H5.out)
  clear hb6 H5 b0 b1 b2 b3
  go_wp2_with fail
  have HSS := hide (show ∀ x, Below w6.heap.size w6 x → x.cell? ⟨w.heap.size, 0, none⟩ = some (.slice p1 xs.length c1) ∧ x.cell? ⟨w.heap.size, 1, none⟩ = some (.slice p2 ps.length c2) ∧ x.cell? ⟨w4.heap.size, 0, none⟩ = some (.slice q1 m1 d1) ∧ x.cell? ⟨w4.heap.size, 1, none⟩ = some (.slice q2 m2 d2) ∧ Below w6.heap.size w6 x from
    fun x h => ⟨(Row.after h H6.out.2.2.2.1).cell 0, (Row.after h H6.out.2.2.2.1).cell 1, (Row.after h H6.out.2.2.2.2.2.2.2.2.2.1).cell 0, (Row.after h H6.out.2.2.2.2.2.2.2.2.2.1).cell 1, h⟩)
  go_region_held3 (fun x => x.cell? ⟨w.heap.size, 0, none⟩ = some (.slice p1 xs.length c1) ∧ x.cell? ⟨w.heap.size, 1, none⟩ = some (.slice p2 ps.length c2) ∧ x.cell? ⟨w4.heap.size, 0, none⟩ = some (.slice q1 m1 d1) ∧ x.cell? ⟨w4.heap.size, 1, none⟩ = some (.slice q2 m2 d2) ∧ Below w6.heap.size w6 x)
    ((go_split_ands; refine HSS.out _ ?_; repeat (first | with_reducible assumption | with_reducible exact Below.refl _ _ | with_reducible refine Below.drew ?_)))
    ((first
      | (go_at_call 10; go_split_ands; refine (toDisk_any _ _ xs ps _ (H6.out.2.1.below (by assumption) (Nat.le_refl _)) (H6.out.2.2.1.below (by assumption) (Nat.le_refl _)) HSM.out).mono ?_; rintro e w7 ⟨us3, up3, rfl, o5, o6, d5, hb7⟩; have HRy := hide o5.reads; have HPy := hide o6.reads
         have hB7 : Below w6.heap.size w6 w7 := Below.trans (by assumption) (hb7.mono (Below.size (by assumption))); clear o5 o6 d5 hb7)
      | (go_at_call 12; go_split_ands; refine (eqDisk_same _ _ _ _ xs ps _ x1 x3 (H6.out.2.2.2.2.2.2.2.1.reads.below hB7 (Nat.le_refl _)) (H6.out.2.2.2.2.2.2.2.2.1.reads.below hB7 (Nat.le_refl _)) HRy.out HPy.out).mono ?_; rintro e w8 ⟨rfl, hb8⟩
         have hB8 : Below w6.heap.size w6 w8 := hB7.trans (hb8.mono hB7.size); clear hb8)))
  have H8 := hide (Stab.go hB8 (P := fun w' => Below w.heap.size w w' ∧ Reads w' (.slice p1 xs.length c1) xs ∧ ReadsP w' (.slice p2 ps.length c2) ps ∧ Row w' w.heap.size 25 [.slice p1 xs.length c1, .slice p2 ps.length c2] ∧ Reads w' (.slice i1 j1 k1) o.xs ∧ ReadsP w' (.slice i2 j2 k2) o.ps ∧ Row w' w3.heap.size 38 [.slice i1 j1 k1, .slice i2 j2 k2, .string o.t, .int .i64 o.c] ∧ OwnS 9 B4 w' (.slice q1 m1 d1) xs ∧ OwnP 92 B4 w' (.slice q2 m2 d2) ps ∧ Row w' w4.heap.size 30 [.slice q1 m1 d1, .slice q2 m2 d2] ∧ OwnS 9 B5 w' (.slice r1 n1 e1) o.xs ∧ OwnP 92 B5 w' (.slice r2 n2 e2) o.ps ∧ Row w' w5.heap.size 38 [.slice r1 n1 e1, .slice r2 n2 e2, .string o.t, .int .i64 o.c]) H6.out)
  have y0 : w8.cell? ⟨w4.heap.size, 0, none⟩ = some (.slice q1 m1 d1) := H8.out.2.2.2.2.2.2.2.2.2.1.cell 0
  have y1 : w8.cell? ⟨w4.heap.size, 1, none⟩ = some (.slice q2 m2 d2) := H8.out.2.2.2.2.2.2.2.2.2.1.cell 1
  clear hB7 hB8 HSS H6 HRy HPy
  go_wp2_with fail
  refine (markDisk_own _ _ _ xs ps 1 _ x1 x3 (by omega) H8.out.2.2.2.2.2.2.2.1 H8.out.2.2.2.2.2.2.2.2.1 D4.out).mono ?_
  rintro e w9 ⟨rfl, o1, o2, hk⟩
  have sS := S3.out
  have s4 := S4.out
  have s5 := S5.out
  have s2 := S2.out
  have ia : In (.slice q1 m1 d1) B4 w4.heap.size := I4.out.1
  have ib : In (.slice q2 m2 d2) B4 w4.heap.size := I4.out.2
  have H9 := hide (show (fun w' => Below w.heap.size w w' ∧ Reads w' (.slice p1 xs.length c1) xs ∧ ReadsP w' (.slice p2 ps.length c2) ps ∧ Row w' w.heap.size 25 [.slice p1 xs.length c1, .slice p2 ps.length c2] ∧ Reads w' (.slice i1 j1 k1) o.xs ∧ ReadsP w' (.slice i2 j2 k2) o.ps ∧ Row w' w3.heap.size 38 [.slice i1 j1 k1, .slice i2 j2 k2, .string o.t, .int .i64 o.c] ∧ OwnS 9 B5 w' (.slice r1 n1 e1) o.xs ∧ OwnP 92 B5 w' (.slice r2 n2 e2) o.ps ∧ Row w' w5.heap.size 38 [.slice r1 n1 e1, .slice r2 n2 e2, .string o.t, .int .i64 o.c]) w9 from ⟨hk.onBelow H8.out.1 (fun x hx => by have := ia.all ib x hx; omega), hk.reads H8.out.2.1 (I0.out.1.apart ia ib (.inl (by omega))), hk.readsP H8.out.2.2.1 (I0.out.2.apart ia ib (.inl (by omega))), hk.row H8.out.2.2.2.1 (ia.far ib (.inl (by omega))),
    hk.reads H8.out.2.2.2.2.1 (I3.out.1.apart ia ib (.inl (by omega))), hk.readsP H8.out.2.2.2.2.2.1 (I3.out.2.apart ia ib (.inl (by omega))), hk.row H8.out.2.2.2.2.2.2.1 (ia.far ib (.inl (by omega))),
    H8.out.2.2.2.2.2.2.2.2.2.2.1.kept hk (I5.out.1.apart ia ib (.inr (by omega))), H8.out.2.2.2.2.2.2.2.2.2.2.2.1.kept hk (I5.out.2.apart ia ib (.inr (by omega))), hk.row H8.out.2.2.2.2.2.2.2.2.2.2.2.2 (ia.far ib (.inr (by omega)))⟩)
  have b0 : w9.cell? ⟨w3.heap.size, 0, none⟩ = some (.slice i1 j1 k1) := H9.out.2.2.2.2.2.2.1.cell 0
  have b1 : w9.cell? ⟨w3.heap.size, 1, none⟩ = some (.slice i2 j2 k2) := H9.out.2.2.2.2.2.2.1.cell 1
  have b2 : w9.cell? ⟨w3.heap.size, 2, none⟩ = some (.string o.t) := H9.out.2.2.2.2.2.2.1.cell 2
  have b3 : w9.cell? ⟨w3.heap.size, 3, none⟩ = some (.int .i64 o.c) := H9.out.2.2.2.2.2.2.1.cell 3
  have h0 : w9.cell? ⟨w5.heap.size, 0, none⟩ = some (.slice r1 n1 e1) := H9.out.2.2.2.2.2.2.2.2.2.cell 0
  have h1 : w9.cell? ⟨w5.heap.size, 1, none⟩ = some (.slice r2 n2 e2) := H9.out.2.2.2.2.2.2.2.2.2.cell 1
  have h2 : w9.cell? ⟨w5.heap.size, 2, none⟩ = some (.string o.t) := H9.out.2.2.2.2.2.2.2.2.2.cell 2
  have h3 : w9.cell? ⟨w5.heap.size, 3, none⟩ = some (.int .i64 o.c) := H9.out.2.2.2.2.2.2.2.2.2.cell 3
  have tk : ¬ (((1 + xs.length + ps.length * 2 : Nat) : Int) < 0) := by omega
  clear o1 o2 hk H8 ia ib y0 y1
  go_wp2_with fail
  refine (eqStoreOut_same _ _ _ _ o.xs o.ps o.t o.c _ l1 l2 H9.out.2.2.2.2.2.2.2.1.reads H9.out.2.2.2.2.2.2.2.2.1.reads H9.out.2.2.2.2.1 H9.out.2.2.2.2.2.1).mono ?_
  rintro e w10 ⟨rfl, hb10⟩
  have H10 := hide (Stab.go hb10 (P := fun w' => Below w.heap.size w w' ∧ Reads w' (.slice p1 xs.length c1) xs ∧ ReadsP w' (.slice p2 ps.length c2) ps ∧ Row w' w.heap.size 25 [.slice p1 xs.length c1, .slice p2 ps.length c2] ∧ Reads w' (.slice i1 j1 k1) o.xs ∧ ReadsP w' (.slice i2 j2 k2) o.ps ∧ Row w' w3.heap.size 38 [.slice i1 j1 k1, .slice i2 j2 k2, .string o.t, .int .i64 o.c] ∧ OwnS 9 B5 w' (.slice r1 n1 e1) o.xs ∧ OwnP 92 B5 w' (.slice r2 n2 e2) o.ps ∧ Row w' w5.heap.size 38 [.slice r1 n1 e1, .slice r2 n2 e2, .string o.t, .int .i64 o.c]) H9.out)
  clear hb10 H9 b0 b1 b2 b3 h0 h1 h2 h3
  have h0 : w10.cell? ⟨w5.heap.size, 0, none⟩ = some (.slice r1 n1 e1) := H10.out.2.2.2.2.2.2.2.2.2.cell 0
  have h1 : w10.cell? ⟨w5.heap.size, 1, none⟩ = some (.slice r2 n2 e2) := H10.out.2.2.2.2.2.2.2.2.2.cell 1
  have h2 : w10.cell? ⟨w5.heap.size, 2, none⟩ = some (.string o.t) := H10.out.2.2.2.2.2.2.2.2.2.cell 2
  have h3 : w10.cell? ⟨w5.heap.size, 3, none⟩ = some (.int .i64 o.c) := H10.out.2.2.2.2.2.2.2.2.2.cell 3
  go_wp2_with fail
  obtain ⟨K, hK⟩ : ∃ K : Int, K = ((1 + o.xs.length + o.ps.length * 2 : Nat) : Int) := ⟨_, rfl⟩
  have tq : ¬ K < 0 := by omega
  have HKq := hide hK
  clear hK
  refine (markStoreOut_own _ _ _ o.xs o.ps o.t o.c 1 _ l1 l2 (by omega) H10.out.2.2.2.2.2.2.2.1 H10.out.2.2.2.2.2.2.2.2.1 D5.out).mono ?_
  rw [← HKq.out]
  rintro e w11 ⟨rfl, o1, o2, hk⟩
  have ia : In (.slice r1 n1 e1) B5 w5.heap.size := I5.out.1
  have ib : In (.slice r2 n2 e2) B5 w5.heap.size := I5.out.2
  have H11 := hide (show (fun w' => Below w.heap.size w w' ∧ Reads w' (.slice p1 xs.length c1) xs ∧ ReadsP w' (.slice p2 ps.length c2) ps ∧ Row w' w.heap.size 25 [.slice p1 xs.length c1, .slice p2 ps.length c2] ∧ Reads w' (.slice i1 j1 k1) o.xs ∧ ReadsP w' (.slice i2 j2 k2) o.ps ∧ Row w' w3.heap.size 38 [.slice i1 j1 k1, .slice i2 j2 k2, .string o.t, .int .i64 o.c] ∧ Reads w' (.slice r1 n1 e1) (marks 1 o.xs.length) ∧ ReadsP w' (.slice r2 n2 e2) (marksP (1 + o.xs.length) o.ps.length) ∧ Row w' w5.heap.size 38 [.slice r1 n1 e1, .slice r2 n2 e2, .string o.t, .int .i64 o.c]) w11 from ⟨hk.onBelow H10.out.1 (fun x hx => by have := ia.all ib x hx; omega), hk.reads H10.out.2.1 (I0.out.1.apart ia ib (.inl (by omega))), hk.readsP H10.out.2.2.1 (I0.out.2.apart ia ib (.inl (by omega))), hk.row H10.out.2.2.2.1 (ia.far ib (.inl (by omega))),
    hk.reads H10.out.2.2.2.2.1 (I3.out.1.apart ia ib (.inl (by omega))), hk.readsP H10.out.2.2.2.2.2.1 (I3.out.2.apart ia ib (.inl (by omega))), hk.row H10.out.2.2.2.2.2.2.1 (ia.far ib (.inl (by omega))),
    o1.reads, o2.reads, hk.row H10.out.2.2.2.2.2.2.2.2.2 (ia.far ib (.inr (Nat.le_refl _)))⟩)
  clear o1 o2 hk H10 ia ib h0 h1 h2 h3 tk
  have h0 : w11.cell? ⟨w5.heap.size, 0, none⟩ = some (.slice r1 n1 e1) := H11.out.2.2.2.2.2.2.2.2.2.cell 0
  have h1 : w11.cell? ⟨w5.heap.size, 1, none⟩ = some (.slice r2 n2 e2) := H11.out.2.2.2.2.2.2.2.2.2.cell 1
  have h2 : w11.cell? ⟨w5.heap.size, 2, none⟩ = some (.string o.t) := H11.out.2.2.2.2.2.2.2.2.2.cell 2
  have h3 : w11.cell? ⟨w5.heap.size, 3, none⟩ = some (.int .i64 o.c) := H11.out.2.2.2.2.2.2.2.2.2.cell 3
  go_wp2_with fail
  refine (heldStoreOut_any _ _ o.t o.c 1 o.xs.length o.ps.length _ l1 l2 (by omega) H11.out.2.2.2.2.2.2.2.1 H11.out.2.2.2.2.2.2.2.2.1).mono ?_
  rw [← HKq.out]
  rintro e w12 ⟨rfl, hb12⟩
  have H12 := hide (Stab.go hb12 (P := fun w' => Below w.heap.size w w' ∧ Reads w' (.slice p1 xs.length c1) xs ∧ ReadsP w' (.slice p2 ps.length c2) ps ∧ Row w' w.heap.size 25 [.slice p1 xs.length c1, .slice p2 ps.length c2] ∧ Reads w' (.slice i1 j1 k1) o.xs ∧ ReadsP w' (.slice i2 j2 k2) o.ps ∧ Row w' w3.heap.size 38 [.slice i1 j1 k1, .slice i2 j2 k2, .string o.t, .int .i64 o.c] ∧ Reads w' (.slice r1 n1 e1) (marks 1 o.xs.length) ∧ ReadsP w' (.slice r2 n2 e2) (marksP (1 + o.xs.length) o.ps.length) ∧ Row w' w5.heap.size 38 [.slice r1 n1 e1, .slice r2 n2 e2, .string o.t, .int .i64 o.c]) H11.out)
  clear hb12 H11 h0 h1 h2 h3
  have a0 : w12.cell? ⟨w.heap.size, 0, none⟩ = some (.slice p1 xs.length c1) := H12.out.2.2.2.1.cell 0
  have a1 : w12.cell? ⟨w.heap.size, 1, none⟩ = some (.slice p2 ps.length c2) := H12.out.2.2.2.1.cell 1
  go_wp2_with fail
  refine (toDisk_any _ _ xs ps _ H12.out.2.1 H12.out.2.2.1 HSM.out).mono ?_
  rintro e w13 ⟨ys, yp, rfl, o1, o2, dd, hb13⟩
  have H13 := hide (Stab.go hb13 (P := fun w' => Below w.heap.size w w' ∧ Reads w' (.slice p1 xs.length c1) xs ∧ ReadsP w' (.slice p2 ps.length c2) ps ∧ Row w' w.heap.size 25 [.slice p1 xs.length c1, .slice p2 ps.length c2] ∧ Reads w' (.slice i1 j1 k1) o.xs ∧ ReadsP w' (.slice i2 j2 k2) o.ps ∧ Row w' w3.heap.size 38 [.slice i1 j1 k1, .slice i2 j2 k2, .string o.t, .int .i64 o.c] ∧ Reads w' (.slice r1 n1 e1) (marks 1 o.xs.length) ∧ ReadsP w' (.slice r2 n2 e2) (marksP (1 + o.xs.length) o.ps.length) ∧ Row w' w5.heap.size 38 [.slice r1 n1 e1, .slice r2 n2 e2, .string o.t, .int .i64 o.c]) H12.out)
  have HRy := hide o1.reads
  have HPy := hide o2.reads
  clear hb13 H12 o1 o2 dd a0 a1
  go_wp2_with fail
  refine (HII.out _ _ xs ps _ H13.out.1 x1 x3 HRy.out HPy.out).mono ?_
  rw [← HEQ.out]
  rintro e w14 ⟨⟨zs, zp, rfl, o1, o2, dd⟩, hb14⟩
  obtain ⟨u1, y1, v1, rfl⟩ := o1.isSlice
  obtain ⟨u2, y2, v2, rfl⟩ := o2.isSlice
  have bn := below_new w14 (.cells #[.slice u1 y1 v1, .slice u2 y2 v2, .string o.t, .int .i64 o.c] 38)
  have H14 := hide (Stab.go (hb14.trans (bn.mono hb14.size)) (P := fun w' => Below w.heap.size w w' ∧ Reads w' (.slice p1 xs.length c1) xs ∧ ReadsP w' (.slice p2 ps.length c2) ps ∧ Row w' w.heap.size 25 [.slice p1 xs.length c1, .slice p2 ps.length c2] ∧ Reads w' (.slice i1 j1 k1) o.xs ∧ ReadsP w' (.slice i2 j2 k2) o.ps ∧ Row w' w3.heap.size 38 [.slice i1 j1 k1, .slice i2 j2 k2, .string o.t, .int .i64 o.c] ∧ Reads w' (.slice r1 n1 e1) (marks 1 o.xs.length) ∧ ReadsP w' (.slice r2 n2 e2) (marksP (1 + o.xs.length) o.ps.length) ∧ Row w' w5.heap.size 38 [.slice r1 n1 e1, .slice r2 n2 e2, .string o.t, .int .i64 o.c]) H13.out)
  have HRz := hide (o1.reads.below bn (Nat.le_refl _))
  have HPz := hide (o2.reads.below bn (Nat.le_refl _))
  have b0 : (w14.alloc (.cells #[.slice u1 y1 v1, .slice u2 y2 v2, .string o.t, .int .i64 o.c] 38)).cell? ⟨w3.heap.size, 0, none⟩ = some (.slice i1 j1 k1) := H14.out.2.2.2.2.2.2.1.cell 0
  have b1 : (w14.alloc (.cells #[.slice u1 y1 v1, .slice u2 y2 v2, .string o.t, .int .i64 o.c] 38)).cell? ⟨w3.heap.size, 1, none⟩ = some (.slice i2 j2 k2) := H14.out.2.2.2.2.2.2.1.cell 1
  have b2 : (w14.alloc (.cells #[.slice u1 y1 v1, .slice u2 y2 v2, .string o.t, .int .i64 o.c] 38)).cell? ⟨w3.heap.size, 2, none⟩ = some (.string o.t) := H14.out.2.2.2.2.2.2.1.cell 2
  have b3 : (w14.alloc (.cells #[.slice u1 y1 v1, .slice u2 y2 v2, .string o.t, .int .i64 o.c] 38)).cell? ⟨w3.heap.size, 3, none⟩ = some (.int .i64 o.c) := H14.out.2.2.2.2.2.2.1.cell 3
  clear hb14 bn H13 o1 o2 dd HRy HPy
  go_wp2_with fail
  refine (eqStoreOut_same _ _ _ _ o.xs o.ps o.t o.c _ l1 l2 HRz.out HPz.out H14.out.2.2.2.2.1 H14.out.2.2.2.2.2.1).mono ?_
  rintro e w15 ⟨rfl, hb15⟩
  have H15 := hide (Stab.go hb15 (P := fun w' => Below w.heap.size w w' ∧ Reads w' (.slice p1 xs.length c1) xs ∧ ReadsP w' (.slice p2 ps.length c2) ps ∧ Row w' w.heap.size 25 [.slice p1 xs.length c1, .slice p2 ps.length c2] ∧ Reads w' (.slice i1 j1 k1) o.xs ∧ ReadsP w' (.slice i2 j2 k2) o.ps ∧ Row w' w3.heap.size 38 [.slice i1 j1 k1, .slice i2 j2 k2, .string o.t, .int .i64 o.c] ∧ Reads w' (.slice r1 n1 e1) (marks 1 o.xs.length) ∧ ReadsP w' (.slice r2 n2 e2) (marksP (1 + o.xs.length) o.ps.length) ∧ Row w' w5.heap.size 38 [.slice r1 n1 e1, .slice r2 n2 e2, .string o.t, .int .i64 o.c]) H14.out)
  clear hb15 H14 b0 b1 b2 b3
  have h0 : w15.cell? ⟨w5.heap.size, 0, none⟩ = some (.slice r1 n1 e1) := H15.out.2.2.2.2.2.2.2.2.2.cell 0
  have h1 : w15.cell? ⟨w5.heap.size, 1, none⟩ = some (.slice r2 n2 e2) := H15.out.2.2.2.2.2.2.2.2.2.cell 1
  have h2 : w15.cell? ⟨w5.heap.size, 2, none⟩ = some (.string o.t) := H15.out.2.2.2.2.2.2.2.2.2.cell 2
  have h3 : w15.cell? ⟨w5.heap.size, 3, none⟩ = some (.int .i64 o.c) := H15.out.2.2.2.2.2.2.2.2.2.cell 3
  go_wp2_with fail
  refine (heldStoreOut_any _ _ o.t o.c 1 o.xs.length o.ps.length _ l1 l2 (by omega) H15.out.2.2.2.2.2.2.2.1 H15.out.2.2.2.2.2.2.2.2.1).mono ?_
  rw [← HKq.out]
  rintro e w16 ⟨rfl, hb16⟩
  have HB := hide (H15.out.1.trans (hb16.mono H15.out.1.size))
  clear hb16 H15 h0 h1 h2 h3
  go_wp2
  go_ret
  exact ⟨rfl, HB.out⟩
end Go.Proofs.YtnpbmaajgiapmaaGreatDoor
/- StoreGet of the program. -/
namespace Go.Proofs.YtnpbmaajgiapmaaGreatDoor
open Go.RowKit
/-- The call ended with a map that may be asked, or with the code c. -/
def FrIs (B : Nat) (e : Ending) (w : World) (c : Int) (L : List Item) : Prop :=
  ∃ v err, e = .returned (.tuple #[v, err]) ∧ (c ≠ 0 → err = .iface 125 (.agg #[.int .i64 c])) ∧ (c = 0 → err = .nilIface ∧ ∃ b n, v = .map (some b) ∧ B ≤ b ∧ MapIs w b n L)
theorem FrIs.ill (B : Nat) (w : World) (v : Value) (c : Int) (L : List Item) (hc : c ≠ 0) : FrIs B (.returned (.tuple #[v, .iface 125 (.agg #[.int .i64 c])])) w c L := ⟨v, _, rfl, fun _ => rfl, fun h => absurd h hc⟩
theorem FrIs.ok {B b n : Nat} {w : World} {L : List Item} (hb : B ≤ b) (h : MapIs w b n L) : FrIs B (.returned (.tuple #[.map (some b), .nilIface])) w 0 L := ⟨_, _, rfl, fun h => absurd rfl h, fun _ => ⟨rfl, b, n, rfl, hb, h⟩⟩
set_option maxHeartbeats 4000000 in
theorem storeFor_any (vs vp : Value) (xs : List ByteArray) (ps : List (Int × ByteArray)) (d : ByteArray) (aF aR aU : Addr) (w : World) (hn : xs.length ≤ 1048576) (hn2 : ps.length ≤ 1048576) (hd : d.size ≤ 1048576) (hr : Reads w vs xs) (hp : ReadsP w vp ps) (hS : Sents aF aR aU w) (hG : St3.Laid w) :
    Calls Tryz.prog 54 #[.agg #[vs, vp], .string d] w fun e w' => FrIs w.heap.size e w' (forC xs ps d) (itemsO xs ps) ∧ Below w.heap.size w w' := by
  have hb0 : Below w.heap.size w (w.alloc (.cells #[vs, vp] 30)) := (Below.refl _ _).alloc (Nat.le_refl _) _
  have HB0 := hide hb0
  have HR := hide (hr.below hb0 (Nat.le_refl _))
  have HP := hide (hp.below hb0 (Nat.le_refl _))
  obtain ⟨p1, c1, rfl, _⟩ := hr
  obtain ⟨p2, c2, rfl, _⟩ := hp
  have HC := hide (readStore_any (.slice p1 xs.length c1) (.slice p2 ps.length c2) xs ps aF aR aU _ hn hn2 HR.out HP.out (Stab.go hb0 hS) (Stab.go hb0 hG))
  clear hb0 hS hG
  have hdm : d.size ≤ maxLen := by unfold maxLen; omega
  by_cases h8 : 8000 < d.size
  · have hE : forC xs ps d = 2 := by unfold forC; rw [if_pos h8]
    rw [hE]
    have h8i : (8000 : Int) < (d.size : Int) := by omega
    clear hE
    go_enter Tryz.func54, Tryz.ntmps54
    go_wp2
    go_ret2
    exact ⟨FrIs.ill _ _ _ _ _ (by decide), HB0.out⟩
  have h8i : ¬ (8000 : Int) < (d.size : Int) := by omega
  cases hk : keptO xs ps with
  | none =>
    have hE : forC xs ps d = 1 := by unfold forC; rw [if_neg h8, hk]; rfl
    rw [hE]
    rw [hk] at HC
    clear hE hk
    go_enter Tryz.func54, Tryz.ntmps54
    go_wp2_with fail
    refine HC.out.mono ?_
    rintro e w1 ⟨⟨v, err, rfl, h1, _⟩, hb1⟩
    obtain rfl := h1 rfl
    have HB1 := hide (HB0.out.trans (hb1.mono HB0.out.size))
    clear hb1 h1
    go_wp2
    go_ret2
    exact ⟨FrIs.ill _ _ _ _ _ (by decide), HB1.out⟩
  | some L =>
    have HIT := hide (show itemsO xs ps = L by unfold itemsO; rw [hk]; rfl)
    rw [HIT.out]
    have HNR := hide (fun X : World => implNameRight_any d X hdm)
    cases hid : idB d with
    | false =>
      have hE : forC xs ps d = 1 := by unfold forC; rw [if_neg h8, hk, if_neg (by simp), if_pos hid]
      rw [hE]
      rw [hk] at HC
      rw [hid] at HNR
      clear hE hk hid
      go_enter Tryz.func54, Tryz.ntmps54
      go_wp2_with fail
      refine HC.out.mono ?_
      rintro e w1 ⟨⟨v, err, rfl, _, h2⟩, hb1⟩
      obtain ⟨rfl, b, n, rfl, _, _⟩ := h2 L rfl
      have HB1 := hide (HB0.out.trans (hb1.mono HB0.out.size))
      clear hb1 h2
      go_wp2_with fail
      refine (HNR.out _).mono ?_
      rintro e w2 ⟨rfl, h2⟩
      obtain rfl := h2.symm
      go_wp2_with fail
      refine (storeRefusal_true 1 _).mono ?_
      rintro e w3 ⟨rfl, h3⟩
      obtain rfl := h3.symm
      go_wp2
      go_ret2
      exact ⟨FrIs.ill _ _ _ _ _ (by decide), HB1.out⟩
    | true =>
      have hE : forC xs ps d = 0 := by unfold forC; rw [if_neg h8, hk, if_neg (by simp), if_neg (by rw [hid]; simp)]
      rw [hE]
      rw [hk] at HC
      rw [hid] at HNR
      clear hE hk hid
      go_enter Tryz.func54, Tryz.ntmps54
      go_wp2_with fail
      refine HC.out.mono ?_
      rintro e w1 ⟨⟨v, err, rfl, _, h2⟩, hb1⟩
      obtain ⟨rfl, b, n, rfl, hbb, hm⟩ := h2 L rfl
      have HB1 := hide (HB0.out.trans (hb1.mono HB0.out.size))
      have HM := hide hm
      have HBB := hide (Nat.le_trans HB0.out.size hbb)
      clear hb1 h2 hm hbb
      go_wp2_with fail
      refine (HNR.out _).mono ?_
      rintro e w2 ⟨rfl, h2⟩
      obtain rfl := h2.symm
      go_wp2_with fail
      refine (storeRefusal_false 1 _).mono ?_
      rintro e w3 ⟨rfl, h3⟩
      obtain rfl := h3.symm
      go_wp2
      go_ret2
      exact ⟨FrIs.ok HBB.out HM.out, HB1.out⟩
theorem map_kept {S : List Nat} {w w' : World} {b n : Nat} {L : List Item} (k : Kept S w w') (h : MapIs w b n L) (hb : b ∉ S) : MapIs w' b n L := by
  obtain ⟨es, clock, hh, F, hs, hD⟩ := h
  exact ⟨es, clock, by rw [k.block b (Array.getElem?_eq_some_iff.1 hh).1 hb]; exact hh, F, hs, hD⟩
def withC (xs : List ByteArray) (ps : List (Int × ByteArray)) (i : ByteArray) : Int := if forC xs ps i ≠ 0 then forC xs ps i else if (itemsO xs ps).any (sameId i) then 0 else 6
theorem find_any (L : List Item) (i : ByteArray) : L.any (sameId i) = (L.find? (sameId i)).isSome := by
  rw [Bool.eq_iff_iff, List.any_eq_true, List.find?_isSome]
theorem getO_with (xs : List ByteArray) (ps : List (Int × ByteArray)) (i : ByteArray) : getO xs ps i = if withC xs ps i ≠ 0 then kill (withC xs ps i) else match (itemsO xs ps).find? (sameId i) with
    | none => kill 6
    | some p => ⟨xs, ps, p.2, 0⟩ := by
  unfold getO withC
  by_cases h : forC xs ps i ≠ 0
  · rw [if_pos h, if_pos h, if_pos h]
  · rw [if_neg h, if_neg h, find_any]
    cases hf : (itemsO xs ps).find? (sameId i) with
    | none => simp
    | some p => simp
theorem look_okB {w : World} {b n : Nat} {L : List Item} (h : MapIs w b n L) (i : ByteArray) (hi : i.size ≤ maxLen) :
    ∃ t : ByteArray, (Instr.lookup 54 (.map (some b)) (.string i) true).run Tryz.prog w = .ok (.tuple #[.agg #[.string t], .bool (L.any (sameId i))]) w := by
  obtain ⟨v, ps, hrun, hv⟩ := World.ownsMap.look_ok h keyed Tryz.underlying54 (zeroKept w) (keptR_mk ⟨#[]⟩) (keyOf_mk i hi)
  rw [datL_at] at hv
  rw [datL_has] at hrun
  cases hf : L.find? (sameId i) with
  | none =>
    rw [hf] at hv
    obtain rfl := keptR_inv hv
    exact ⟨_, hrun⟩
  | some p =>
    rw [hf] at hv
    obtain rfl := keptR_inv hv
    exact ⟨_, hrun⟩
set_option maxHeartbeats 4000000 in
theorem storeWith_any (vs vp : Value) (xs : List ByteArray) (ps : List (Int × ByteArray)) (d : ByteArray) (aF aR aU : Addr) (w : World) (hn : xs.length ≤ 1048576) (hn2 : ps.length ≤ 1048576) (hd : d.size ≤ 1048576) (hr : Reads w vs xs) (hp : ReadsP w vp ps) (hS : Sents aF aR aU w) (hG : St3.Laid w) :
    Calls Tryz.prog 50 #[.agg #[vs, vp], .string d] w fun e w' => FrIs w.heap.size e w' (withC xs ps d) (itemsO xs ps) ∧ Below w.heap.size w w' := by
  have hb0 : Below w.heap.size w (w.alloc (.cells #[vs, vp] 30)) := (Below.refl _ _).alloc (Nat.le_refl _) _
  have HB0 := hide hb0
  have HR := hide (hr.below hb0 (Nat.le_refl _))
  have HP := hide (hp.below hb0 (Nat.le_refl _))
  obtain ⟨p1, c1, rfl, _⟩ := hr
  obtain ⟨p2, c2, rfl, _⟩ := hp
  have HC := hide (storeFor_any (.slice p1 xs.length c1) (.slice p2 ps.length c2) xs ps d aF aR aU _ hn hn2 hd HR.out HP.out (Stab.go hb0 hS) (Stab.go hb0 hG))
  clear hb0 hS hG
  have hdm : d.size ≤ maxLen := by unfold maxLen; omega
  obtain ⟨C, hC⟩ : ∃ C, C = forC xs ps d := ⟨_, rfl⟩
  have HW := hide (show withC xs ps d = if C ≠ 0 then C else if (itemsO xs ps).any (sameId d) then 0 else 6 by rw [hC]; rfl)
  rw [← hC] at HC
  obtain ⟨L, hL⟩ : ∃ L, L = itemsO xs ps := ⟨_, rfl⟩
  rw [← hL] at HC HW ⊢
  clear hC hL
  by_cases hc : C = 0
  rotate_left
  · have hE : withC xs ps d = C := by rw [HW.out, if_pos hc]
    rw [hE]
    have HCN := hide hc
    clear hE HW hc
    go_enter Tryz.func50, Tryz.ntmps50
    go_wp2_with fail
    refine HC.out.mono ?_
    rintro e w1 ⟨⟨v, err, rfl, h1, _⟩, hb1⟩
    obtain rfl := h1 HCN.out
    have HB1 := hide (HB0.out.trans (hb1.mono HB0.out.size))
    clear hb1 h1
    go_wp2
    go_ret2
    exact ⟨FrIs.ill _ _ _ _ _ HCN.out, HB1.out⟩
  subst hc
  cases ha : L.any (sameId d) with
  | true =>
    have hE : withC xs ps d = 0 := by rw [HW.out, if_neg (by simp), if_pos ha]
    rw [hE]
    have HA := hide ha
    clear hE HW ha
    go_enter Tryz.func50, Tryz.ntmps50
    go_wp2_with fail
    refine HC.out.mono ?_
    rintro e w1 ⟨⟨v, err, rfl, _, h2⟩, hb1⟩
    obtain ⟨rfl, b, n, rfl, hbb, hm⟩ := h2 rfl
    have HB1 := hide (HB0.out.trans (hb1.mono HB0.out.size))
    obtain ⟨t, hlk⟩ := look_okB hm d hdm
    rw [HA.out] at hlk
    have HM := hide (hm.below (below_new w1 (.cells #[.string t] 79)) hm.lt)
    have HBB := hide (Nat.le_trans HB0.out.size hbb)
    clear hb1 h2 hm hbb
    go_wp2_with fail
    refine (storeRefusal_false 6 _).mono ?_
    rintro e w3 ⟨rfl, h3⟩
    obtain rfl := h3.symm
    clear hlk
    go_wp2
    go_ret2
    exact ⟨FrIs.ok HBB.out HM.out, HB1.out.alloc HB1.out.size _⟩
  | false =>
    have hE : withC xs ps d = 6 := by rw [HW.out, if_neg (by simp), if_neg (by rw [ha]; simp)]
    rw [hE]
    have HA := hide ha
    clear hE HW ha
    go_enter Tryz.func50, Tryz.ntmps50
    go_wp2_with fail
    refine HC.out.mono ?_
    rintro e w1 ⟨⟨v, err, rfl, _, h2⟩, hb1⟩
    obtain ⟨rfl, b, n, rfl, hbb, hm⟩ := h2 rfl
    have HB1 := hide (HB0.out.trans (hb1.mono HB0.out.size))
    obtain ⟨t, hlk⟩ := look_okB hm d hdm
    rw [HA.out] at hlk
    clear hb1 h2 hm hbb
    go_wp2_with fail
    refine (storeRefusal_true 6 _).mono ?_
    rintro e w3 ⟨rfl, h3⟩
    obtain rfl := h3.symm
    clear hlk
    go_wp2
    go_ret2
    exact ⟨FrIs.ill _ _ _ _ _ (by decide), HB1.out.alloc HB1.out.size _⟩
set_option maxHeartbeats 4000000 in
theorem storeRefused_any (c : Int) (w : World) (hG : St3.Laid w) :
    Calls Tryz.prog 51 #[.iface 125 (.agg #[.int .i64 c])] w fun e w' => e = .returned (.agg #[.slice none 0 0, .slice none 0 0, .string ⟨#[]⟩, .int .i64 c]) ∧ Below w.heap.size w w' := by
  have HB0 := hide (below_new w (.cells #[.slice none 0 0, .slice none 0 0, .string ⟨#[]⟩, .int .i64 0] 38))
  have HRO := hide (row_new w [.slice none 0 0, .slice none 0 0, .string ⟨#[]⟩, .int .i64 0] 38)
  have HG := hide (Stab.go HB0.out hG)
  clear hG
  go_enter Tryz.func51, Tryz.ntmps51
  go_wp2_with fail
  refine (St6.storeCode_fault c _ HG.out).mono ?_
  rintro e w1 ⟨rfl, hb1⟩
  have HB1 := hide (HB0.out.trans (hb1.mono HB0.out.size))
  have HR1 := hide (HRO.out.below hb1 HRO.out.lt)
  have g0 : w1.cell? ⟨w.heap.size, 0, none⟩ = some (.slice none 0 0) := HR1.out.cell 0
  have g1 : w1.cell? ⟨w.heap.size, 1, none⟩ = some (.slice none 0 0) := HR1.out.cell 1
  have g2 : w1.cell? ⟨w.heap.size, 2, none⟩ = some (.string ⟨#[]⟩) := HR1.out.cell 2
  have g3 : w1.cell? ⟨w.heap.size, 3, none⟩ = some (.int .i64 0) := HR1.out.cell 3
  have h0 := HR1.out.free 0
  have h1 := HR1.out.free 1
  have h2 := HR1.out.free 2
  have h3 := HR1.out.free 3
  clear hb1
  go_wp2
  obtain ⟨r0, r1, r2, r3, KG⟩ := four HR1.out (.slice none 0 0) (.slice none 0 0) (.string ⟨#[]⟩) (.int .i64 c)
  exact bodyPost_ret (v := .agg #[.slice none 0 0, .slice none 0 0, .string ⟨#[]⟩, .int .i64 c]) (by simp [results, Tryz.results51, go_sem, r0, r1, r2, r3]) rfl ⟨rfl, KG.toBelow HB1.out HB1.out.size (by simp)⟩

set_option maxHeartbeats 8000000 in
set_option maxRecDepth 100000 in
theorem implStoreGet_any (vs vp : Value) (xs : List ByteArray) (ps : List (Int × ByteArray)) (d : ByteArray) (aF aR aU : Addr) (w : World) (hn : xs.length ≤ 1048576) (hn2 : ps.length ≤ 1048576) (hd : d.size ≤ 1048576) (hr : Reads w vs xs) (hp : ReadsP w vp ps) (hS : Sents aF aR aU w) (hG : St3.Laid w) :
    Calls Tryz.prog 18 #[.agg #[vs, vp], .string d] w fun e w' => KOutIs w.heap.size e w' (getO xs ps d) ∧ Below w.heap.size w w' := by
  have HR := hide hr
  have HP := hide hp
  have HS0 := hide hS
  have HG := hide hG
  clear hS hG
  have hdm : d.size ≤ maxLen := by unfold maxLen; omega
  obtain ⟨p1, c1, rfl, _⟩ := hr
  obtain ⟨p2, c2, rfl, _⟩ := hp
  obtain ⟨W, hW⟩ : ∃ W, W = (w.alloc (.cells #[.slice p1 xs.length c1, .slice p2 ps.length c2] 30)).alloc (.cells #[.slice none 0 0, .slice none 0 0, .string ⟨#[]⟩, .int .i64 0] 38) := ⟨_, rfl⟩
  have HB0 := hide (show Below w.heap.size w W by rw [hW]; exact ((Below.refl _ _).alloc (Nat.le_refl _) _).alloc (by simp) _)
  have HWS := hide (show w.heap.size + 2 = W.heap.size by rw [hW]; simp)
  have HRD := hide (show Row W w.heap.size 30 [.slice p1 xs.length c1, .slice p2 ps.length c2] by rw [hW]; exact (row_new w _ _).alloc _)
  have HRO := hide (show Row W (w.heap.size + 1) 38 [.slice none 0 0, .slice none 0 0, .string ⟨#[]⟩, .int .i64 0] by
    rw [hW]
    have := row_new (w.alloc (.cells #[.slice p1 xs.length c1, .slice p2 ps.length c2] 30)) [.slice none 0 0, .slice none 0 0, .string ⟨#[]⟩, .int .i64 0] 38
    simpa using this)
  have HR1 := hide (HR.out.below HB0.out (Nat.le_refl _))
  have HP1 := hide (HP.out.below HB0.out (Nat.le_refl _))
  obtain ⟨C, hC⟩ : ∃ C, C = withC xs ps d := ⟨_, rfl⟩
  have HCE := hide hC
  obtain ⟨o, ho⟩ : ∃ o, o = getO xs ps d := ⟨_, rfl⟩
  have HOE := hide ho
  rw [← ho]
  obtain ⟨L, hL⟩ : ∃ L, L = itemsO xs ps := ⟨_, rfl⟩
  have HLE := hide hL
  clear hC ho hL
  have HGO := hide (getO_with xs ps d)
  go_enter Tryz.func18, Tryz.ntmps18
  go_wp2_with fail
  rw [← hW]
  clear hW
  refine (storeWith_any _ _ xs ps d aF aR aU _ hn hn2 hd HR1.out HP1.out (Stab.go HB0.out HS0.out) (Stab.go HB0.out HG.out)).mono ?_
  rw [← HCE.out, ← HLE.out]
  rintro e X ⟨⟨v, err, rfl, hE1, hE2⟩, hb1⟩
  have HX0 := hide hb1
  have HBX := hide (HB0.out.trans (hb1.mono HB0.out.size))
  have HROX := hide (HRO.out.below hb1 HRO.out.lt)
  have HDX := hide (HRD.out.below hb1 HRD.out.lt)
  have H1 := hide hE1
  have H2 := hide hE2
  clear hb1 hE1 hE2
  by_cases hc : C = 0
  rotate_left
  · have HE := hide (show o = kill C by rw [HOE.out, HGO.out, ← HCE.out, if_pos hc])
    obtain rfl := H1.out hc
    clear hc H1 H2
    go_wp2_with fail
    refine (storeRefused_any C _ (Stab.go HBX.out HG.out)).mono ?_
    rintro e w2 ⟨rfl, hb2⟩
    have HB2 := hide (HBX.out.trans (hb2.mono HBX.out.size))
    have HRO2 := hide (HROX.out.below hb2 HROX.out.lt)
    clear hb2
    have g0 : w2.cell? ⟨w.heap.size + 1, 0, none⟩ = some (.slice none 0 0) := HRO2.out.cell 0
    have h0 := HRO2.out.free 0
    have g1 : w2.cell? ⟨w.heap.size + 1, 1, none⟩ = some (.slice none 0 0) := HRO2.out.cell 1
    have h1 := HRO2.out.free 1
    have g2 : w2.cell? ⟨w.heap.size + 1, 2, none⟩ = some (.string ⟨#[]⟩) := HRO2.out.cell 2
    have h2 := HRO2.out.free 2
    have g3 : w2.cell? ⟨w.heap.size + 1, 3, none⟩ = some (.int .i64 0) := HRO2.out.cell 3
    have h3 := HRO2.out.free 3
    go_wp2
    obtain ⟨r0, r1, r2, r3, KG⟩ := four HRO2.out (.slice none 0 0) (.slice none 0 0) (.string ⟨#[]⟩) (.int .i64 C)
    exact bodyPost_ret (v := .agg #[.slice none 0 0, .slice none 0 0, .string ⟨#[]⟩, .int .i64 C]) (by simp [results, Tryz.results18, go_sem, r0, r1, r2, r3]) rfl ⟨by rw [HE.out]; exact KOutIs.ill _ _ _, KG.toBelow HB2.out HB2.out.size (by simp)⟩
  subst hc
  obtain ⟨rfl, b, n, rfl, hbb, hm⟩ := H2.out rfl
  obtain ⟨q, hq⟩ : ∃ q, L.find? (sameId d) = some q := by
    have h0 := HCE.out.symm
    unfold withC at h0
    rw [← HLE.out] at h0
    split at h0
    · rename_i h1; exact absurd h0 h1
    · split at h0
      · rename_i h2
        rw [find_any] at h2
        exact Option.isSome_iff_exists.1 h2
      · exact absurd h0 (by decide)
  have HE := hide (show o = ⟨xs, ps, q.2, 0⟩ by rw [HOE.out, HGO.out, ← HCE.out, if_neg (by simp), ← HLE.out, hq])
  have HRT : Hid (right xs ps = true) := hide (by
    have h0 := HCE.out.symm
    unfold withC at h0
    split at h0
    · rename_i h1; exact absurd h0 h1
    · rename_i h1
      exact keptO_right (forC_ok (by simpa using h1)).2.1)
  have HLK := hide (show ∀ y : World, Below X.heap.size X y → (Instr.lookup 54 (.map (some b)) (.string d) false).run Tryz.prog y = .ok (.agg #[.string q.2]) y from fun y hb => by
    have := look_any (hm.below hb hm.lt) d hdm
    rw [hq] at this
    exact this)
  have HLV := hide (show ∀ (y v : World), Below X.heap.size X y → Kept [w.heap.size + 1] y v → (Instr.lookup 54 (.map (some b)) (.string d) false).run Tryz.prog v = .ok (.agg #[.string q.2]) v from fun y v hb kk => by
    have := look_any (map_kept kk (hm.below hb hm.lt) (by have := HWS.out; simp; omega)) d hdm
    rw [hq] at this
    exact this)
  have HMB := hide hbb
  have HMM := hide hm
  obtain ⟨tX, htX⟩ : ∃ tX, tX = q.2 := ⟨_, rfl⟩
  rw [← htX] at HLK HLV HE
  clear hq htX hbb hm H1 H2
  go_upto_region 4 with fail
  refine wp_region_held (S := fun y : World => y.cell? ⟨w.heap.size, 0, none⟩ = some (.slice p1 xs.length c1) ∧ y.cell? ⟨w.heap.size, 1, none⟩ = some (.slice p2 ps.length c2) ∧ (Instr.lookup 54 (.map (some b)) (.string d) false).run Tryz.prog y = .ok (.agg #[.string tX]) y) (by kernel_rfl) ?_
  have HSS := hide (show ∀ y : World, Below X.heap.size X y → (y.cell? ⟨w.heap.size, 0, none⟩ = some (.slice p1 xs.length c1) ∧ y.cell? ⟨w.heap.size, 1, none⟩ = some (.slice p2 ps.length c2) ∧ (Instr.lookup 54 (.map (some b)) (.string d) false).run Tryz.prog y = .ok (.agg #[.string tX]) y) from
    fun y hb => ⟨(HDX.out.below hb HDX.out.lt).cell 0, (HDX.out.below hb HDX.out.lt).cell 1, HLK.out y hb⟩)
  have HSK := hide (show ∀ (y v : World), Below X.heap.size X y → Kept [w.heap.size + 1] y v → (v.cell? ⟨w.heap.size, 0, none⟩ = some (.slice p1 xs.length c1) ∧ v.cell? ⟨w.heap.size, 1, none⟩ = some (.slice p2 ps.length c2) ∧ (Instr.lookup 54 (.map (some b)) (.string d) false).run Tryz.prog v = .ok (.agg #[.string tX]) v) from
    fun y v hb kk => ⟨(kk.row (HDX.out.below hb HDX.out.lt) (by simp)).cell 0, (kk.row (HDX.out.below hb HDX.out.lt) (by simp)).cell 1, HLV.out y v hb kk⟩)
  have HZ1 := hide (show Below X.heap.size X { X with drawn := X.drawn + 1 } from (Below.refl _ X).drew)
  generalize ({ X with drawn := X.drawn + 1 } : World) = Z1 at HZ1 ⊢
  have HS := hide (HSS.out _ HZ1.out)
  refine wpAnyH_take (i := 0) (oi := _) (v := .agg #[.slice p1 xs.length c1, .slice p2 ps.length c2]) rfl (by kernel_rfl) (by kernel_rfl) (by kernel_rfl) (fun _ _ _ h => h) (Or.inl ⟨by rfl, by intro w hSw; go_split_ands; go_simp <;> omega⟩) HS.out ?_
  simp only [Act.put, List.getElem_toArray, List.getElem_cons_zero, List.setIfInBounds_toArray, List.set_cons_zero, List.set_cons_succ]
  refine wpAnyH_take (i := 2) (oi := _) (v := .map (some b)) rfl (by kernel_rfl) (by kernel_rfl) (by kernel_rfl) (fun _ _ _ h => h) (Or.inl ⟨by rfl, by intro w hSw; go_split_ands; go_simp <;> omega⟩) HS.out ?_
  simp only [Act.put, List.getElem_toArray, List.getElem_cons_zero, List.getElem_cons_succ, List.setIfInBounds_toArray, List.set_cons_zero, List.set_cons_succ]
  refine wpAnyH_take (i := 3) (oi := _) (v := .string d) rfl (by kernel_rfl) (by kernel_rfl) (by kernel_rfl) (fun _ _ _ h => h) (Or.inl ⟨by rfl, by intro w hSw; go_split_ands; go_simp <;> omega⟩) HS.out ?_
  simp only [Act.put, List.getElem_toArray, List.getElem_cons_zero, List.getElem_cons_succ, List.setIfInBounds_toArray, List.set_cons_zero, List.set_cons_succ]
  refine wpAnyH_take (i := 4) (oi := _) (v := .agg #[.string tX]) rfl (by kernel_rfl) (by kernel_rfl) (by kernel_rfl) (fun _ _ _ h => h) (Or.inl ⟨by rfl, by intro w hSw; go_split_ands; go_simp⟩) HS.out ?_
  simp only [Act.put, List.getElem_toArray, List.getElem_cons_zero, List.getElem_cons_succ, List.setIfInBounds_toArray, List.set_cons_zero, List.set_cons_succ]
  refine wpAnyH_take (i := 5) (oi := _) (v := .string tX) rfl (by kernel_rfl) (by kernel_rfl) (by kernel_rfl) (fun _ _ _ h => h) (Or.inl ⟨by rfl, by intro w hSw; go_split_ands; have hfl := fieldT tX w; go_simp⟩) HS.out ?_
  simp only [Act.put, List.getElem_toArray, List.getElem_cons_zero, List.getElem_cons_succ, List.setIfInBounds_toArray, List.set_cons_zero, List.set_cons_succ]
  refine wpAnyH_ready (rs := [1]) (by kernel_rfl) (by simp) ?_
  refine AllReadyH.cons (o := _) rfl (fun K hK => ?_) AllReadyH.nil
  go_simp
  refine (copyDisk_any _ _ xs ps _ (HR1.out.below (HX0.out.trans (HZ1.out.mono HX0.out.size)) (Nat.le_refl _)) (HP1.out.below (HX0.out.trans (HZ1.out.mono HX0.out.size)) (Nat.le_refl _)) (small_of_right HRT.out)).mono ?_
  rintro e Z2 ⟨⟨us, up, rfl, o1, o2, dd⟩, hbc⟩
  obtain ⟨s1, s2, s3, rfl⟩ := o1.isSlice
  obtain ⟨s4, s5, s6, rfl⟩ := o2.isSlice
  have hge : w.heap.size + 2 ≤ Z1.heap.size := by
    have h1 := HWS.out
    have h2 := HX0.out.size
    have h3 := HZ1.out.size
    omega
  have O1 := hide (o1.mono hge)
  have O2 := hide (o2.mono hge)
  have DD := hide dd
  have HZ2 := hide (HZ1.out.trans (hbc.mono HZ1.out.size))
  have HZW := hide (HX0.out.trans (HZ2.out.mono HX0.out.size))
  have HRZ := hide (HRO.out.below HZW.out HRO.out.lt)
  clear hbc o1 o2 dd hge
  refine hK.out _ _ (HSS.out _ HZ2.out) (fun _ => ?_)
  clear hK K HS
  have HS := hide (HSS.out _ HZ2.out)
  try simp only [Act.put, List.getElem_toArray, List.getElem_cons_zero, List.getElem_cons_succ, List.setIfInBounds_toArray, List.set_cons_zero, List.set_cons_succ]
  refine wpAnyH_take (i := 6) (oi := _) (v := .agg #[.slice s1 s2 s3, .slice s4 s5 s6, .string tX, .int .i64 0]) rfl (by kernel_rfl) (by kernel_rfl) (by kernel_rfl) (fun _ _ _ h => h) (Or.inl ⟨by rfl, by intro w hSw; go_split_ands; go_simp <;> omega⟩) HS.out ?_
  simp only [Act.put, List.getElem_toArray, List.getElem_cons_zero, List.getElem_cons_succ, List.setIfInBounds_toArray, List.set_cons_zero, List.set_cons_succ]
  refine wpAnyH_ready (rs := [7]) (by kernel_rfl) (by simp) ?_
  refine AllReadyH.cons (o := _) rfl (fun K hK => ?_) AllReadyH.nil
  have d0 : Z2.cell? ⟨w.heap.size + 1, 0, none⟩ = some (.slice none 0 0) := HRZ.out.cell 0
  have d1 : Z2.cell? ⟨w.heap.size + 1, 1, none⟩ = some (.slice none 0 0) := HRZ.out.cell 1
  have d2 : Z2.cell? ⟨w.heap.size + 1, 2, none⟩ = some (.string ⟨#[]⟩) := HRZ.out.cell 2
  have d3 : Z2.cell? ⟨w.heap.size + 1, 3, none⟩ = some (.int .i64 0) := HRZ.out.cell 3
  have f0 := HRZ.out.free 0
  have f1 := HRZ.out.free 1
  have f2 := HRZ.out.free 2
  have f3 := HRZ.out.free 3
  obtain ⟨r0, r1, r2, r3, KG⟩ := four HRZ.out (.slice s1 s2 s3) (.slice s4 s5 s6) (.string tX) (.int .i64 0)
  have HSF := hide (HSK.out _ _ HZ2.out KG)
  have HQ := hide (And.intro r0 (And.intro r1 (And.intro r2 r3)))
  have HKG := hide KG
  clear r0 r1 r2 r3 KG
  go_simp
  refine hK.out _ _ HSF.out (fun _ => ?_)
  clear hK K d0 d1 d2 d3 f0 f1 f2 f3 HS
  refine wpAnyH_done (by kernel_rfl) ?_ _
  go_wp2
  exact bodyPost_ret (v := .agg #[.slice s1 s2 s3, .slice s4 s5 s6, .string tX, .int .i64 0]) (by simp [results, Tryz.results18, go_sem, HQ.out.1, HQ.out.2.1, HQ.out.2.2.1, HQ.out.2.2.2]) rfl
    (by rw [HE.out]; exact getEnd HB0.out HZW.out HWS.out HKG.out O1.out O2.out DD.out)
end Go.Proofs.YtnpbmaajgiapmaaGreatDoor
/- The law of StoreGet. -/
namespace Go.Proofs.YtnpbmaajgiapmaaGreatDoor
open Go.RowKit
theorem getO_len {xs : List ByteArray} {ps : List (Int × ByteArray)} (d : ByteArray) (h : Small xs ps) : (getO xs ps d).xs.length ≤ 1048576 ∧ (getO xs ps d).ps.length ≤ 1048576 := by
  obtain ⟨x1, x2, x3, x4⟩ := h
  unfold getO
  split
  · exact ⟨Nat.zero_le _, Nat.zero_le _⟩
  · split
    · exact ⟨Nat.zero_le _, Nat.zero_le _⟩
    · exact ⟨x1, x3⟩
set_option maxHeartbeats 2000000 in
theorem storeGetLaw_long (w : World) (d : ByteArray) (hd : 1048576 < d.size) (hm : d.size ≤ maxLen) (vs vp : Value) :
    Calls Tryz.prog 5 #[.agg #[vs, vp], .string d] w fun e w' => e = .returned (.bool true) ∧ Below w.heap.size w w' := by
  have HB0 := hide (below_new w (.cells #[vs, vp] 25))
  unfold maxLen at hm
  have t : (1048576 : Int) < (d.size : Int) := by omega
  go_enter Tryz.func5, Tryz.ntmps5
  go_wp2
  go_ret
  exact ⟨rfl, HB0.out⟩
theorem storeGetLaw (aF aR aU : Addr) (w : World) (hS : Sents aF aR aU w) (hG : St3.Laid w) (d : ByteArray) (hm : d.size ≤ maxLen) (vs vp : Value) (xs : List ByteArray) (ps : List (Int × ByteArray)) (hr : Reads w vs xs) (hp : ReadsP w vp ps) :
    Calls Tryz.prog 5 #[.agg #[vs, vp], .string d] w fun e w' => e = .returned (.bool true) ∧ Below w.heap.size w w' := by
  by_cases hd : 1048576 < d.size
  · exact storeGetLaw_long w d hd hm vs vp
  · exact lawKGet w d (by omega) (fun vs vp xs ps w' hb h1 h2 h3 h4 => implStoreGet_any vs vp xs ps d aF aR aU w' h1 h2 (by omega) h3 h4 (Stab.go hb hS) (Stab.go hb hG)) vs vp xs ps hr hp (fun h => getO_len d h)
end Go.Proofs.YtnpbmaajgiapmaaGreatDoor
