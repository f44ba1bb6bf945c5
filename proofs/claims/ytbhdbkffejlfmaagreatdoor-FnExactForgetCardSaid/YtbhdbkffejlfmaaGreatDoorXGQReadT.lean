/- What the program reads of a store's text, and of a store. -/
import Derived.Test.YtbhdbkffejlfmaaGreatDoorXGQKept
import Derived.Test.YtbhdbkffejlfmaaGreatDoorXGQSRead
import Derived.Test.YtbhdbkffejlfmaaGreatDoorXGIRArea
namespace Go.Proofs.YtbhdbkffejlfmaaGreatDoor
open Go.RowKit

/-- The call ended with a map that keeps R, or with a fault. -/
def RdM (B : Nat) (e : Ending) (w : World) (R : Option (List Item)) : Prop :=
  ∃ v err, e = .returned (.tuple #[v, err]) ∧ (R = none → err = .iface 118 (.agg #[.int .i64 1])) ∧ ∀ L, R = some L → err = .nilIface ∧ ∃ b n, v = .map (some b) ∧ B ≤ b ∧ MapIs w b n L
theorem RdM.none (B : Nat) (w : World) (v : Value) : RdM B (.returned (.tuple #[v, .iface 118 (.agg #[.int .i64 1])])) w Option.none := ⟨v, _, rfl, fun _ => rfl, fun _ h => by cases h⟩
theorem RdM.some {B b n : Nat} {w : World} {M : List Item} (hb : B ≤ b) (h : MapIs w b n M) : RdM B (.returned (.tuple #[.map (some b), .nilIface])) w (Option.some M) :=
  ⟨_, _, rfl, fun h => (by cases h), fun L hL => (by cases hL; exact ⟨rfl, b, n, rfl, hb, h⟩)⟩
theorem readK_step (s : ByteArray) (k a : Nat) (acc : List Item) (hk : 0 < k) : readK s k a acc =
    if (St4.textO s a).2.2 ≠ 0 then none
    else if (St4.textO s (St4.textO s a).2.1.toNat).2.2 ≠ 0 then none
    else if idB (St4.textO s a).1 = false then none
    else readK s (k - 1) (St4.textO s (St4.textO s a).2.1.toNat).2.1.toNat (acc ++ [((St4.textO s a).1, (St4.textO s (St4.textO s a).2.1.toNat).1)]) := by
  obtain ⟨k', rfl⟩ : ∃ k', k = k' + 1 := ⟨k - 1, by omega⟩
  rw [readK]
  rfl
set_option maxHeartbeats 16000000 in
set_option maxRecDepth 100000 in
theorem readStoreText_any (T : ByteArray) (w : World) (hs : T.size ≤ 8000) (hg : St3.Laid w) :
    Calls Tryz.prog 79 #[.string T] w fun e w' => RdM w.heap.size e w' (keptI T) ∧ Below w.heap.size w w' := by
  have HG := hide hg
  have hmm := @run_makeMap Tryz.prog
  obtain ⟨R, hR⟩ : ∃ R, R = keptI T := ⟨_, rfl⟩
  have HRR := hide hR
  rw [← hR]
  clear hR hg
  have HCN := hide (show ∀ w, St3.Laid w → Calls Tryz.prog 108 #[.string T, .int .i64 0] w fun e w' => e = .returned (.agg #[.int .i64 (St3.scan T 0 10 0 0).1, .int .i64 (St3.scan T 0 10 0 0).2.1, .int .i64 (St3.scan T 0 10 0 0).2.2]) ∧ Below w.heap.size w w' from fun w hg => by
    have := St4.implGetNum_any T 0 w hs (by omega) hg
    simpa using this)
  obtain ⟨N, hN⟩ : ∃ N, N = St3.scan T 0 10 0 0 := ⟨_, rfl⟩
  have HKS := hide (show R = if N.2.2 ≠ 0 ∨ 12 < N.1 then none else match readK T N.1.toNat N.2.1.toNat [] with
    | none => none
    | some L => if storeB (putsL [] L) = T then some (putsL [] L) else none by rw [HRR.out, hN]; rfl)
  have hat := St4.scan_at T 0 10 0 0
  rw [← hN] at hat HCN
  obtain ⟨N1, N2, N3⟩ := N
  have HAT := hide hat
  clear hN hat HRR
  simp only at HKS HAT HCN
  go_enter Tryz.func79, Tryz.ntmps79
  go_wp2_with fail
  refine (HCN.out _ HG.out).mono ?_
  rintro e w1 ⟨rfl, hb1⟩
  obtain ⟨W1, hW1⟩ : ∃ W1, W1 = w1.alloc (.cells #[.int .i64 N1, .int .i64 N2, .int .i64 N3] 110) := ⟨_, rfl⟩
  have HBr := hide hb1
  have HBW := hide (show Below w.heap.size w W1 by rw [hW1]; exact hb1.alloc hb1.size _)
  have HRN := hide (show Row W1 w1.heap.size 110 [.int .i64 N1, .int .i64 N2, .int .i64 N3] by rw [hW1]; exact row_new w1 _ _)
  clear hb1
  by_cases h3 : N3 = 0
  rotate_left
  · have HE := hide (show R = none by rw [HKS.out, if_pos (.inl h3)])
    have hcb : (N3 != 0) = true := by simpa using h3
    clear h3 HKS HAT
    go_wp2
    go_ret2
    exact ⟨by rw [HE.out]; exact RdM.none _ _ _, HBr.out.alloc HBr.out.size _⟩
  subst h3
  by_cases h12 : 12 < N1
  · have HE := hide (show R = none by rw [HKS.out, if_pos (.inr h12)])
    clear HKS HAT
    go_wp2
    go_ret2
    exact ⟨by rw [HE.out]; exact RdM.none _ _ _, HBr.out.alloc HBr.out.size _⟩
  obtain ⟨ha0, ha1⟩ := HAT.out rfl
  obtain ⟨A0, rfl⟩ := Int.eq_ofNat_of_zero_le ha0
  obtain ⟨nn, hnn⟩ : ∃ nn, nn = N1.toNat := ⟨_, rfl⟩
  have HKR := hide (show R = match readK T nn A0 [] with
    | none => none
    | some L => if storeB (putsL [] L) = T then some (putsL [] L) else none by
    have := HKS.out
    rw [if_neg (by simp; omega), ← hnn] at this
    simpa using this)
  have hn12 : nn ≤ 12 := by omega
  have HNN := hide hnn
  clear HKS HAT hnn ha0
  have HM0 := hide (show MapIs (W1.alloc (.map #[] 0)) W1.heap.size 0 [] from World.ownsMap_made W1 Tryz.prog 9 keptR)
  have HB0 := hide (show Below W1.heap.size W1 (W1.alloc (.map #[] 0)) from below_new W1 _)
  have HRN0 := hide (HRN.out.alloc (.map #[] 0))
  obtain ⟨W2, hW2⟩ : ∃ W2, W2 = W1.alloc (.map #[] 0) := ⟨_, rfl⟩
  rw [← hW2] at HM0 HB0 HRN0
  have q0 : ((w1.alloc (.cells #[.int .i64 N1, .int .i64 (A0 : Int), .int .i64 0] 110)).alloc (.map #[] 0)).cell? ⟨w1.heap.size, 0, none⟩ = some (.int .i64 N1) := by rw [← hW1, ← hW2]; exact HRN0.out.cell 0
  have q1 : ((w1.alloc (.cells #[.int .i64 N1, .int .i64 (A0 : Int), .int .i64 0] 110)).alloc (.map #[] 0)).cell? ⟨w1.heap.size, 1, none⟩ = some (.int .i64 (A0 : Int)) := by rw [← hW1, ← hW2]; exact HRN0.out.cell 1
  obtain ⟨b, hb⟩ : ∃ b, b = W1.heap.size := ⟨_, rfl⟩
  have HBS := hide (show b = w1.heap.size + 1 by rw [hb, hW1]; simp)
  rw [← hb] at HM0 HB0
  have HLB := hide (show w.heap.size ≤ b from by rw [hb]; exact HBW.out.size)
  clear hb
  go_wp2
  rw [← hW1, ← hW2]
  clear q0 q1 hW1 hW2 hmm
  have hbs := HBS.out
  rw [show (w1.heap.size + 1 : Nat) = b from hbs.symm]
  clear hbs
  go_loopw [6, 27] (fun a i wr => ∃ (X : World) (k A : Nat) (acc : List Item), X = wr ∧ a = .int .i64 (A : Int) ∧ i = .int .i64 (k : Int) ∧ acc.length = k ∧ k ≤ nn ∧ A ≤ 8000 ∧ Hid (readK T (nn - k) A acc = readK T nn A0 []) ∧ Hid (∀ x ∈ acc, OkI x) ∧
    Hid (MapIs X b k (putsL [] acc)) ∧ Hid (Below b W1 X)) (fun _ i _ => nn - (intOf i).toNat)
  case atStart => exact ⟨W2, 0, A0, [], rfl, rfl, rfl, rfl, Nat.zero_le _, by omega, hide rfl, hide (by simp), HM0, HB0⟩
  case round =>
    obtain ⟨X, k, A, acc, rfl, rfl, rfl, hlk, hk, hA, HU, HOK, HM, HB⟩ := hrel
    have HBX := hide (HBW.out.trans (HB.out.mono HLB.out))
    have HLK := hide hlk
    clear hlk
    by_cases hlt : k < nn
    · have hki : (k : Int) < N1 := by have := HNN.out; omega
      have HU2 := hide ((readK_step T (nn - k) A acc (by omega)).symm.trans HU.out)
      go_wp2_with fail
      refine (readKept_any T A _ hs hA (Stab.go HBX.out HG.out)).mono ?_
      rintro e X1 ⟨he, hb1⟩
      have HX1 := hide hb1
      have HBX1 := hide (HBX.out.trans (hb1.mono HBX.out.size))
      have HBM1 := hide (HB.out.trans (hb1.mono (Nat.le_of_lt HM.out.lt)))
      have HM1 := hide (HM.out.below hb1 HM.out.lt)
      clear hb1
      rcases he with ⟨hf, t1, t2, a2, rfl⟩ | ⟨h1, h2, h3, rfl⟩
      · have HE := hide (show R = none by
          rw [HKR.out, ← HU2.out]
          rcases hf with h | h | h
          · rw [if_pos h]
          · by_cases h' : (St4.textO T A).2.2 ≠ 0
            · rw [if_pos h']
            · rw [if_neg h', if_pos h]
          · by_cases h' : (St4.textO T A).2.2 ≠ 0
            · rw [if_pos h']
            · rw [if_neg h']
              by_cases h'' : (St4.textO T (St4.textO T A).2.1.toNat).2.2 ≠ 0
              · rw [if_pos h'']
              · rw [if_neg h'', if_pos h])
        clear hf HU2 HKR
        go_wp2
        go_ret2
        exact ⟨by rw [HE.out]; exact RdM.none _ _ _, HBX1.out.alloc HBX1.out.size _⟩
      obtain ⟨t1, ht1⟩ : ∃ t1, t1 = (St4.textO T A).1 := ⟨_, rfl⟩
      obtain ⟨t2, ht2⟩ : ∃ t2, t2 = (St4.textO T (St4.textO T A).2.1.toNat).1 := ⟨_, rfl⟩
      obtain ⟨A2, hA2⟩ : ∃ A2, A2 = (St4.textO T (St4.textO T A).2.1.toNat).2.1.toNat := ⟨_, rfl⟩
      have HUN := hide (show readK T (nn - (k + 1)) A2 (acc ++ [(t1, t2)]) = readK T nn A0 [] by
        have := HU2.out
        rw [if_neg (by rw [h1]; simp), if_neg (by rw [h2]; simp), if_neg (by rw [h3]; simp), ← ht1, ← ht2, ← hA2, show nn - k - 1 = nn - (k + 1) by omega] at this
        exact this)
      have hA28 : A2 ≤ 8000 := by have := (St4.textO_at T _ h2).2.1; omega
      have HOK2 := hide (show ∀ x ∈ acc ++ [(t1, t2)], OkI x from fun x hx => by
        rcases List.mem_append.1 hx with hx | hx
        · exact HOK.out x hx
        · obtain rfl : x = (t1, t2) := by simpa using hx
          exact ⟨by rw [ht1]; exact h3, by rw [ht2]; exact (St4.textO_at T _ h2).2.2⟩)
      have htm : t1.size ≤ maxLen := by
        have := (St4.textO_at T A h1).2.2
        rw [ht1]
        unfold maxLen
        omega
      rw [← ht1, ← ht2, ← hA2]
      clear ht1 ht2 hA2 h1 h2 h3 HU2
      have bn := below_new X1 (.cells #[.string t1, .string t2] 149)
      have HM2 := hide (HM1.out.below bn HM1.out.lt)
      have HBX2 := hide (HBX1.out.trans (bn.mono HBX1.out.size))
      have HBM2 := hide (HBM1.out.trans (bn.mono (Nat.le_of_lt HM1.out.lt)))
      have HKY := hide (keyOf_mk t1 htm)
      clear bn htm
      go_wp2_with (at_mapUpdate; refine wpList_mapUpdate_own _ rfl _ _ _ 75 rfl 9 82 keyed Tryz.underlying75 keptR b k (datL (putsL [] acc)) rfl HM2.out (by unfold maxLen; omega) _ _ (keyD t1) rfl rfl HKY.out (valD t2) [] (keptR_mk t2) ?_)
      intro X3 hown3 hgrow3
      rw [datL_put, ← show putsL [] (acc ++ [(t1, t2)]) = putL (putsL [] acc) t1 t2 from putsL_snoc (t1, t2) acc []] at hown3
      have HM3 := hide (show MapIs X3 b (k + 1) (putsL [] (acc ++ [(t1, t2)])) from hown3)
      have HB3 := hide (HBM2.out.grown hgrow3 (Nat.le_of_lt HM2.out.lt) (fun g hg => by cases hg; exact Nat.le_refl _))
      clear hown3 hgrow3
      go_wp2
      go_roundw
      case rel => exact ⟨X3, k + 1, A2, acc ++ [(t1, t2)], rfl, rfl, by go_num, by simp [HLK.out], by omega, hA28, HUN, HOK2, HM3, HB3⟩
      case measure => simp [intOf]; omega
    · have hki : ¬ (k : Int) < N1 := by have := HNN.out; omega
      have hkn : k = nn := by omega
      have HRS := hide (putsL_rises acc [] rises_nil)
      have HOM := hide (show ∀ x ∈ putsL [] acc, OkI x from fun x hx => by
        rcases putsL_mem acc [] hx with h | h
        · cases h
        · exact HOK.out x h)
      have HLM := hide (show (putsL [] acc).length ≤ 20 by have := putsL_len acc []; have := HLK.out; simp at *; omega)
      have HE := hide (show R = if storeB (putsL [] acc) = T then some (putsL [] acc) else none by
        rw [HKR.out, ← HU.out, show nn - k = 0 by omega]
        rfl)
      clear hkn HKR HU
      obtain ⟨M, hM⟩ : ∃ M, M = putsL [] acc := ⟨_, rfl⟩
      rw [← hM] at HRS HOM HLM HE HM
      clear hM
      go_wp2_with fail
      refine (storeText_own b k M _ HM.out HRS.out HOM.out HLM.out).mono ?_
      rintro e X2 ⟨rfl, hb2⟩
      have HB2 := hide (HBX.out.trans (hb2.mono HBX.out.size))
      have HM2 := hide (HM.out.below hb2 HM.out.lt)
      have hse := str_eql (storeB M) T
      clear hb2
      by_cases heq : storeB M = T
      · have HF := hide (show R = some M by rw [HE.out, if_pos heq])
        rw [decide_eq_true heq] at hse
        clear heq
        go_wp2_with fail
        refine (storeRefusal_false 1 _).mono ?_
        rintro e X3 ⟨rfl, hX3⟩
        obtain rfl := hX3.symm
        go_wp2
        go_ret2
        exact ⟨by rw [HF.out]; exact RdM.some HLB.out HM2.out, HB2.out⟩
      · have HF := hide (show R = none by rw [HE.out, if_neg heq])
        rw [decide_eq_false heq] at hse
        clear heq
        go_wp2_with fail
        refine (storeRefusal_true 1 _).mono ?_
        rintro e X3 ⟨rfl, hX3⟩
        obtain rfl := hX3.symm
        go_wp2
        go_ret2
        exact ⟨by rw [HF.out]; exact RdM.none _ _ _, HB2.out⟩
end Go.Proofs.YtbhdbkffejlfmaaGreatDoor

/- StoreRight, of the program and of the model. -/
namespace Go.Proofs.YtbhdbkffejlfmaaGreatDoor
open Go.RowKit
theorem fieldAT (a b c d e : Value) (w : World) : (Instr.field 105 (.agg #[a, b, c, d, e]) 1).run Tryz.prog w = .ok c w := by kernel_rfl
theorem keptI_empty : keptI ⟨#[]⟩ = none := by
  unfold keptI
  rw [show St3.scan ⟨#[]⟩ 0 10 0 0 = (0, 0, 4) from St3.scan_short _ 0 9 0 0 (by decide)]
  rfl
theorem keptO_eq (xs : List ByteArray) (ps : List (Int × ByteArray)) : keptI (areaOut xs ps).t = keptO xs ps := by
  unfold keptO
  by_cases h : (areaOut xs ps).c = 0
  · rw [if_neg (by simp [h]), kept_same]
  · rw [if_pos h, areaOut_bad h]
    exact keptI_empty
set_option maxHeartbeats 4000000 in
theorem readStore_any (vs vp : Value) (xs : List ByteArray) (ps : List (Int × ByteArray)) (aF aR aU : Addr) (w : World) (hn : xs.length ≤ 1048576) (hn2 : ps.length ≤ 1048576) (hr : Reads w vs xs) (hp : ReadsP w vp ps) (hS : Sents aF aR aU w) (hG : St3.Laid w) :
    Calls Tryz.prog 64 #[.agg #[vs, vp]] w fun e w' => RdM w.heap.size e w' (keptO xs ps) ∧ Below w.heap.size w w' := by
  have hb0 : Below w.heap.size w (w.alloc (.cells #[vs, vp] 29)) := (Below.refl _ _).alloc (Nat.le_refl _) _
  have HB0 := hide hb0
  have HR := hide (hr.below hb0 (Nat.le_refl _))
  have HP := hide (hp.below hb0 (Nat.le_refl _))
  have HS := hide hS
  have HG := hide hG
  have htz := areaOut_t xs ps
  have HKO := hide (keptO_eq xs ps)
  obtain ⟨Y, hY⟩ : ∃ Y, Y = areaOut xs ps := ⟨_, rfl⟩
  have HY := hide hY
  rw [← hY] at htz HKO
  obtain ⟨p1, c1, rfl, _⟩ := hr
  obtain ⟨p2, c2, rfl, _⟩ := hp
  clear hb0 hY hS hG
  obtain ⟨K, hK⟩ : ∃ K, K = keptO xs ps := ⟨_, rfl⟩
  rw [← hK] at HKO ⊢
  clear hK
  go_enter Tryz.func64, Tryz.ntmps64
  go_wp2_with fail
  refine (implARead_any _ _ xs ps aF aR aU _ hn hn2 HR.out HP.out (Stab.go HB0.out HS.out) (fun hok vs vp w'' hb' hr hp => readArea_any vs vp xs ps w'' hr hp hok (Stab.go hb' (Stab.go HB0.out HG.out)))).mono ?_
  rw [← HY.out]
  rintro e w1 ⟨⟨us, up, rfl, o1, o2, _⟩, hb1⟩
  obtain ⟨s1, s2, s3, rfl⟩ := o1.isSlice
  obtain ⟨s4, s5, s6, rfl⟩ := o2.isSlice
  have HB1 := hide (HB0.out.trans (hb1.mono HB0.out.size))
  have hfd := fieldAT (.slice s1 s2 s3) (.slice s4 s5 s6) (.string Y.t) (.int .i64 Y.g) (.int .i64 Y.c) w1
  have HT := hide (show Y.t.size ≤ 8000 by omega)
  clear hb1 o1 o2 htz
  go_wp2_with fail
  refine (readStoreText_any Y.t _ HT.out (Stab.go HB1.out HG.out)).mono ?_
  rw [HKO.out]
  rintro e w2 ⟨⟨v, err, rfl, h1, h2⟩, hb2⟩
  have HB2 := hide (HB1.out.trans (hb2.mono HB1.out.size))
  have H1 := hide h1
  have H2 := hide (show ∀ L, K = some L → err = .nilIface ∧ ∃ b n, v = .map (some b) ∧ w.heap.size ≤ b ∧ MapIs w2 b n L from fun L hL => by
    obtain ⟨g1, b, n, g2, g3, g4⟩ := h2 L hL
    exact ⟨g1, b, n, g2, Nat.le_trans HB1.out.size g3, g4⟩)
  clear hb2 h1 h2 hfd
  go_wp2
  go_ret2
  exact ⟨⟨_, _, rfl, H1.out, H2.out⟩, HB2.out⟩
set_option maxHeartbeats 4000000 in
theorem implStoreRight_any (vs vp : Value) (xs : List ByteArray) (ps : List (Int × ByteArray)) (aF aR aU : Addr) (w : World) (hn : xs.length ≤ 1048576) (hn2 : ps.length ≤ 1048576) (hr : Reads w vs xs) (hp : ReadsP w vp ps) (hS : Sents aF aR aU w) (hG : St3.Laid w) :
    Calls Tryz.prog 42 #[.agg #[vs, vp]] w fun e w' => e = .returned (.bool (keptO xs ps).isSome) ∧ Below w.heap.size w w' := by
  have hb0 : Below w.heap.size w (w.alloc (.cells #[vs, vp] 29)) := (Below.refl _ _).alloc (Nat.le_refl _) _
  have HB0 := hide hb0
  have HR := hide (hr.below hb0 (Nat.le_refl _))
  have HP := hide (hp.below hb0 (Nat.le_refl _))
  have HS := hide hS
  have HG := hide hG
  obtain ⟨p1, c1, rfl, _⟩ := hr
  obtain ⟨p2, c2, rfl, _⟩ := hp
  clear hb0 hS hG
  have HC := hide (readStore_any (.slice p1 xs.length c1) (.slice p2 ps.length c2) xs ps aF aR aU _ hn hn2 HR.out HP.out (Stab.go HB0.out HS.out) (Stab.go HB0.out HG.out))
  cases hk : keptO xs ps with
  | none =>
    rw [hk] at HC
    clear hk
    go_enter Tryz.func42, Tryz.ntmps42
    go_wp2_with fail
    refine HC.out.mono ?_
    rintro e w1 ⟨⟨v, err, rfl, h1, _⟩, hb1⟩
    obtain rfl := h1 rfl
    have HB1 := hide (HB0.out.trans (hb1.mono HB0.out.size))
    clear hb1 h1
    go_wp2
    go_ret
    exact ⟨rfl, HB1.out⟩
  | some L =>
    rw [hk] at HC
    clear hk
    go_enter Tryz.func42, Tryz.ntmps42
    go_wp2_with fail
    refine HC.out.mono ?_
    rintro e w1 ⟨⟨v, err, rfl, _, h2⟩, hb1⟩
    obtain ⟨rfl, b, n, rfl, _, _⟩ := h2 L rfl
    have HB1 := hide (HB0.out.trans (hb1.mono HB0.out.size))
    clear hb1 h2
    go_wp2
    go_ret
    exact ⟨rfl, HB1.out⟩
set_option maxHeartbeats 4000000 in
theorem specStoreRight_any (vs vp : Value) (xs : List ByteArray) (ps : List (Int × ByteArray)) (w : World) (hn : xs.length ≤ 1048576) (hn2 : ps.length ≤ 1048576) (hr : Reads w vs xs) (hp : ReadsP w vp ps) :
    Calls Tryz.prog 40 #[.agg #[vs, vp]] w fun e w' => e = .returned (.bool (keptO xs ps).isSome) ∧ Below w.heap.size w w' := by
  have hb0 : Below w.heap.size w (w.alloc (.cells #[vs, vp] 29)) := (Below.refl _ _).alloc (Nat.le_refl _) _
  have HB0 := hide hb0
  have HR := hide (hr.below hb0 (Nat.le_refl _))
  have HP := hide (hp.below hb0 (Nat.le_refl _))
  obtain ⟨p1, c1, rfl, _⟩ := hr
  obtain ⟨p2, c2, rfl, _⟩ := hp
  clear hb0
  obtain ⟨k, hk⟩ : ∃ k, k = (keptO xs ps).isSome := ⟨_, rfl⟩
  have HK := hide hk
  rw [← hk]
  clear hk
  go_enter Tryz.func40, Tryz.ntmps40
  go_wp2_with fail
  refine (l09Read_any _ _ xs ps _ hn hn2 HR.out HP.out).mono ?_
  unfold RdIs
  rw [← HK.out]
  rintro e w1 ⟨⟨v, rfl, _⟩, hb1⟩
  have HB1 := hide (HB0.out.trans (hb1.mono HB0.out.size))
  clear hb1
  go_wp2
  go_ret
  exact ⟨rfl, HB1.out⟩
end Go.Proofs.YtbhdbkffejlfmaaGreatDoor
