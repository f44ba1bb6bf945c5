/- What the program reads of a store's text, and of a store. -/
import Derived.Test.YtnpbmaajgiapmaaGreatDoorXGQKept
import Derived.Test.YtnpbmaajgiapmaaGreatDoorXGQSRead
import Derived.Test.YtnpbmaajgiapmaaGreatDoorXGIRArea
import Derived.Test.YtnpbmaajgiapmaaGreatDoorXGSCopy
import Derived.Test.YtnpbmaajgiapmaaGreatDoorXGGAs
import Derived.Test.YtnpbmaajgiapmaaGreatDoorXGSARead
import Derived.OrdersHeld
import Derived.Deep.RegionHeld3
import Derived.Test.YtnpbmaajgiapmaaGreatDoorXGMark
namespace Go.Proofs.YtnpbmaajgiapmaaGreatDoor
open Go.RowKit

/-- The call ended with a map that keeps R, or with a fault. -/
def RdM (B : Nat) (e : Ending) (w : World) (R : Option (List Item)) : Prop :=
  ∃ v err, e = .returned (.tuple #[v, err]) ∧ (R = none → err = .iface 125 (.agg #[.int .i64 1])) ∧ ∀ L, R = some L → err = .nilIface ∧ ∃ b n, v = .map (some b) ∧ B ≤ b ∧ MapIs w b n L
theorem RdM.none (B : Nat) (w : World) (v : Value) : RdM B (.returned (.tuple #[v, .iface 125 (.agg #[.int .i64 1])])) w Option.none := ⟨v, _, rfl, fun _ => rfl, fun _ h => by cases h⟩
theorem RdM.some {B b n : Nat} {w : World} {M : List Item} (hb : B ≤ b) (h : MapIs w b n M) : RdM B (.returned (.tuple #[.map (some b), .nilIface])) w (Option.some M) :=
  ⟨_, _, rfl, fun h => (by cases h), fun L hL => (by cases hL; exact ⟨rfl, b, n, rfl, hb, h⟩)⟩
theorem readK_step (s : ByteArray) (k a : Nat) (acc : List Item) (hk : 0 < k) : readK s k a acc =
    if (St4.textO s a).2.2 ≠ 0 then none
    else if (St4.textO s (St4.textO s a).2.1.toNat).2.2 ≠ 0 then none
    else if idB (St4.textO s a).1 = false then none
    else readK s (k - 1) (St4.textO s (St4.textO s a).2.1.toNat).2.1.toNat (acc ++ [((St4.textO s a).1, (St4.textO s (St4.textO s a).2.1.toNat).1)]) := by
  obtain ⟨k', rfl⟩ : ∃ k', k = k' + 1 := ⟨k - 1, by omega⟩
  rw [readK]
  rfl
set_option maxHeartbeats 16000000 in
set_option maxRecDepth 100000 in
theorem readStoreText_any (T : ByteArray) (w : World) (hs : T.size ≤ 8000) (hg : St3.Laid w) :
    Calls Tryz.prog 62 #[.string T] w fun e w' => RdM w.heap.size e w' (keptI T) ∧ Below w.heap.size w w' := by
  have HG := hide hg
  have hmm := @run_makeMap Tryz.prog
  obtain ⟨R, hR⟩ : ∃ R, R = keptI T := ⟨_, rfl⟩
  have HRR := hide hR
  rw [← hR]
  clear hR hg
  have HCN := hide (show ∀ w, St3.Laid w → Calls Tryz.prog 91 #[.string T, .int .i64 0] w fun e w' => e = .returned (.agg #[.int .i64 (St3.scan T 0 10 0 0).1, .int .i64 (St3.scan T 0 10 0 0).2.1, .int .i64 (St3.scan T 0 10 0 0).2.2]) ∧ Below w.heap.size w w' from fun w hg => by
    have := St4.implGetNum_any T 0 w hs (by omega) hg
    simpa using this)
  obtain ⟨N, hN⟩ : ∃ N, N = St3.scan T 0 10 0 0 := ⟨_, rfl⟩
  have HKS := hide (show R = if N.2.2 ≠ 0 ∨ 12 < N.1 then none else match readK T N.1.toNat N.2.1.toNat [] with
    | none => none
    | some L => if storeB (putsL [] L) = T then some (putsL [] L) else none by rw [HRR.out, hN]; rfl)
  have hat := St4.scan_at T 0 10 0 0
  rw [← hN] at hat HCN
  obtain ⟨N1, N2, N3⟩ := N
  have HAT := hide hat
  clear hN hat HRR
  simp only at HKS HAT HCN
  go_enter Tryz.func62, Tryz.ntmps62
  go_wp2_with fail
  refine (HCN.out _ HG.out).mono ?_
  rintro e w1 ⟨rfl, hb1⟩
  obtain ⟨W1, hW1⟩ : ∃ W1, W1 = w1.alloc (.cells #[.int .i64 N1, .int .i64 N2, .int .i64 N3] 86) := ⟨_, rfl⟩
  have HBr := hide hb1
  have HBW := hide (show Below w.heap.size w W1 by rw [hW1]; exact hb1.alloc hb1.size _)
  have HRN := hide (show Row W1 w1.heap.size 86 [.int .i64 N1, .int .i64 N2, .int .i64 N3] by rw [hW1]; exact row_new w1 _ _)
  clear hb1
  by_cases h3 : N3 = 0
  rotate_left
  · have HE := hide (show R = none by rw [HKS.out, if_pos (.inl h3)])
    have hcb : (N3 != 0) = true := by simpa using h3
    clear h3 HKS HAT
    go_wp2
    go_ret2
    exact ⟨by rw [HE.out]; exact RdM.none _ _ _, HBr.out.alloc HBr.out.size _⟩
  subst h3
  by_cases h12 : 12 < N1
  · have HE := hide (show R = none by rw [HKS.out, if_pos (.inr h12)])
    clear HKS HAT
    go_wp2
    go_ret2
    exact ⟨by rw [HE.out]; exact RdM.none _ _ _, HBr.out.alloc HBr.out.size _⟩
  obtain ⟨ha0, ha1⟩ := HAT.out rfl
  obtain ⟨A0, rfl⟩ := Int.eq_ofNat_of_zero_le ha0
  obtain ⟨nn, hnn⟩ : ∃ nn, nn = N1.toNat := ⟨_, rfl⟩
  have HKR := hide (show R = match readK T nn A0 [] with
    | none => none
    | some L => if storeB (putsL [] L) = T then some (putsL [] L) else none by
    have := HKS.out
    rw [if_neg (by simp; omega), ← hnn] at this
    simpa using this)
  have hn12 : nn ≤ 12 := by omega
  have HNN := hide hnn
  clear HKS HAT hnn ha0
  have HM0 := hide (show MapIs (W1.alloc (.map #[] 0)) W1.heap.size 0 [] from World.ownsMap_made W1 Tryz.prog 9 keptR)
  have HB0 := hide (show Below W1.heap.size W1 (W1.alloc (.map #[] 0)) from below_new W1 _)
  have HRN0 := hide (HRN.out.alloc (.map #[] 0))
  obtain ⟨W2, hW2⟩ : ∃ W2, W2 = W1.alloc (.map #[] 0) := ⟨_, rfl⟩
  rw [← hW2] at HM0 HB0 HRN0
  have q0 : ((w1.alloc (.cells #[.int .i64 N1, .int .i64 (A0 : Int), .int .i64 0] 86)).alloc (.map #[] 0)).cell? ⟨w1.heap.size, 0, none⟩ = some (.int .i64 N1) := by rw [← hW1, ← hW2]; exact HRN0.out.cell 0
  have q1 : ((w1.alloc (.cells #[.int .i64 N1, .int .i64 (A0 : Int), .int .i64 0] 86)).alloc (.map #[] 0)).cell? ⟨w1.heap.size, 1, none⟩ = some (.int .i64 (A0 : Int)) := by rw [← hW1, ← hW2]; exact HRN0.out.cell 1
  obtain ⟨b, hb⟩ : ∃ b, b = W1.heap.size := ⟨_, rfl⟩
  have HBS := hide (show b = w1.heap.size + 1 by rw [hb, hW1]; simp)
  rw [← hb] at HM0 HB0
  have HLB := hide (show w.heap.size ≤ b from by rw [hb]; exact HBW.out.size)
  clear hb
  go_wp2
  rw [← hW1, ← hW2]
  clear q0 q1 hW1 hW2 hmm
  have hbs := HBS.out
  rw [show (w1.heap.size + 1 : Nat) = b from hbs.symm]
  clear hbs
  go_loopw [6, 27] (fun a i wr => ∃ (X : World) (k A : Nat) (acc : List Item), X = wr ∧ a = .int .i64 (A : Int) ∧ i = .int .i64 (k : Int) ∧ acc.length = k ∧ k ≤ nn ∧ A ≤ 8000 ∧ Hid (readK T (nn - k) A acc = readK T nn A0 []) ∧ Hid (∀ x ∈ acc, OkI x) ∧
    Hid (MapIs X b k (putsL [] acc)) ∧ Hid (Below b W1 X)) (fun _ i _ => nn - (intOf i).toNat)
  case atStart => exact ⟨W2, 0, A0, [], rfl, rfl, rfl, rfl, Nat.zero_le _, by omega, hide rfl, hide (by simp), HM0, HB0⟩
  case round =>
    obtain ⟨X, k, A, acc, rfl, rfl, rfl, hlk, hk, hA, HU, HOK, HM, HB⟩ := hrel
    have HBX := hide (HBW.out.trans (HB.out.mono HLB.out))
    have HLK := hide hlk
    clear hlk
    by_cases hlt : k < nn
    · have hki : (k : Int) < N1 := by have := HNN.out; omega
      have HU2 := hide ((readK_step T (nn - k) A acc (by omega)).symm.trans HU.out)
      go_wp2_with fail
      refine (readKept_any T A _ hs hA (Stab.go HBX.out HG.out)).mono ?_
      rintro e X1 ⟨he, hb1⟩
      have HX1 := hide hb1
      have HBX1 := hide (HBX.out.trans (hb1.mono HBX.out.size))
      have HBM1 := hide (HB.out.trans (hb1.mono (Nat.le_of_lt HM.out.lt)))
      have HM1 := hide (HM.out.below hb1 HM.out.lt)
      clear hb1
      rcases he with ⟨hf, t1, t2, a2, rfl⟩ | ⟨h1, h2, h3, rfl⟩
      · have HE := hide (show R = none by
          rw [HKR.out, ← HU2.out]
          rcases hf with h | h | h
          · rw [if_pos h]
          · by_cases h' : (St4.textO T A).2.2 ≠ 0
            · rw [if_pos h']
            · rw [if_neg h', if_pos h]
          · by_cases h' : (St4.textO T A).2.2 ≠ 0
            · rw [if_pos h']
            · rw [if_neg h']
              by_cases h'' : (St4.textO T (St4.textO T A).2.1.toNat).2.2 ≠ 0
              · rw [if_pos h'']
              · rw [if_neg h'', if_pos h])
        clear hf HU2 HKR
        go_wp2
        go_ret2
        exact ⟨by rw [HE.out]; exact RdM.none _ _ _, HBX1.out.alloc HBX1.out.size _⟩
      obtain ⟨t1, ht1⟩ : ∃ t1, t1 = (St4.textO T A).1 := ⟨_, rfl⟩
      obtain ⟨t2, ht2⟩ : ∃ t2, t2 = (St4.textO T (St4.textO T A).2.1.toNat).1 := ⟨_, rfl⟩
      obtain ⟨A2, hA2⟩ : ∃ A2, A2 = (St4.textO T (St4.textO T A).2.1.toNat).2.1.toNat := ⟨_, rfl⟩
      have HUN := hide (show readK T (nn - (k + 1)) A2 (acc ++ [(t1, t2)]) = readK T nn A0 [] by
        have := HU2.out
        rw [if_neg (by rw [h1]; simp), if_neg (by rw [h2]; simp), if_neg (by rw [h3]; simp), ← ht1, ← ht2, ← hA2, show nn - k - 1 = nn - (k + 1) by omega] at this
        exact this)
      have hA28 : A2 ≤ 8000 := by have := (St4.textO_at T _ h2).2.1; omega
      have HOK2 := hide (show ∀ x ∈ acc ++ [(t1, t2)], OkI x from fun x hx => by
        rcases List.mem_append.1 hx with hx | hx
        · exact HOK.out x hx
        · obtain rfl : x = (t1, t2) := by simpa using hx
          exact ⟨by rw [ht1]; exact h3, by rw [ht2]; exact (St4.textO_at T _ h2).2.2⟩)
      have htm : t1.size ≤ maxLen := by
        have := (St4.textO_at T A h1).2.2
        rw [ht1]
        unfold maxLen
        omega
      rw [← ht1, ← ht2, ← hA2]
      clear ht1 ht2 hA2 h1 h2 h3 HU2
      have bn := below_new X1 (.cells #[.string t1, .string t2] 130)
      have HM2 := hide (HM1.out.below bn HM1.out.lt)
      have HBX2 := hide (HBX1.out.trans (bn.mono HBX1.out.size))
      have HBM2 := hide (HBM1.out.trans (bn.mono (Nat.le_of_lt HM1.out.lt)))
      have HKY := hide (keyOf_mk t1 htm)
      clear bn htm
      go_wp2_with (at_mapUpdate; refine wpList_mapUpdate_own _ rfl _ _ _ 54 rfl 9 79 keyed Tryz.underlying54 keptR b k (datL (putsL [] acc)) rfl HM2.out (by unfold maxLen; omega) _ _ (keyD t1) rfl rfl HKY.out (valD t2) [] (keptR_mk t2) ?_)
      intro X3 hown3 hgrow3
      rw [datL_put, ← show putsL [] (acc ++ [(t1, t2)]) = putL (putsL [] acc) t1 t2 from putsL_snoc (t1, t2) acc []] at hown3
      have HM3 := hide (show MapIs X3 b (k + 1) (putsL [] (acc ++ [(t1, t2)])) from hown3)
      have HB3 := hide (HBM2.out.grown hgrow3 (Nat.le_of_lt HM2.out.lt) (fun g hg => by cases hg; exact Nat.le_refl _))
      clear hown3 hgrow3
      go_wp2
      go_roundw
      case rel => exact ⟨X3, k + 1, A2, acc ++ [(t1, t2)], rfl, rfl, by go_num, by simp [HLK.out], by omega, hA28, HUN, HOK2, HM3, HB3⟩
      case measure => simp [intOf]; omega
    · have hki : ¬ (k : Int) < N1 := by have := HNN.out; omega
      have hkn : k = nn := by omega
      have HRS := hide (putsL_rises acc [] rises_nil)
      have HOM := hide (show ∀ x ∈ putsL [] acc, OkI x from fun x hx => by
        rcases putsL_mem acc [] hx with h | h
        · cases h
        · exact HOK.out x h)
      have HLM := hide (show (putsL [] acc).length ≤ 20 by have := putsL_len acc []; have := HLK.out; simp at *; omega)
      have HE := hide (show R = if storeB (putsL [] acc) = T then some (putsL [] acc) else none by
        rw [HKR.out, ← HU.out, show nn - k = 0 by omega]
        rfl)
      clear hkn HKR HU
      obtain ⟨M, hM⟩ : ∃ M, M = putsL [] acc := ⟨_, rfl⟩
      rw [← hM] at HRS HOM HLM HE HM
      clear hM
      go_wp2_with fail
      refine (storeText_own b k M _ HM.out HRS.out HOM.out HLM.out).mono ?_
      rintro e X2 ⟨rfl, hb2⟩
      have HB2 := hide (HBX.out.trans (hb2.mono HBX.out.size))
      have HM2 := hide (HM.out.below hb2 HM.out.lt)
      have hse := str_eql (storeB M) T
      clear hb2
      by_cases heq : storeB M = T
      · have HF := hide (show R = some M by rw [HE.out, if_pos heq])
        rw [decide_eq_true heq] at hse
        clear heq
        go_wp2_with fail
        refine (storeRefusal_false 1 _).mono ?_
        rintro e X3 ⟨rfl, hX3⟩
        obtain rfl := hX3.symm
        go_wp2
        go_ret2
        exact ⟨by rw [HF.out]; exact RdM.some HLB.out HM2.out, HB2.out⟩
      · have HF := hide (show R = none by rw [HE.out, if_neg heq])
        rw [decide_eq_false heq] at hse
        clear heq
        go_wp2_with fail
        refine (storeRefusal_true 1 _).mono ?_
        rintro e X3 ⟨rfl, hX3⟩
        obtain rfl := hX3.symm
        go_wp2
        go_ret2
        exact ⟨by rw [HF.out]; exact RdM.none _ _ _, HB2.out⟩
end Go.Proofs.YtnpbmaajgiapmaaGreatDoor
/- StoreRight, of the program and of the model. -/
namespace Go.Proofs.YtnpbmaajgiapmaaGreatDoor
open Go.RowKit
theorem fieldAT (a b c d e : Value) (w : World) : (Instr.field 63 (.agg #[a, b, c, d, e]) 1).run Tryz.prog w = .ok c w := by kernel_rfl
theorem keptI_empty : keptI ⟨#[]⟩ = none := by
  unfold keptI
  rw [show St3.scan ⟨#[]⟩ 0 10 0 0 = (0, 0, 4) from St3.scan_short _ 0 9 0 0 (by decide)]
  rfl
theorem keptO_eq (xs : List ByteArray) (ps : List (Int × ByteArray)) : keptI (areaOut xs ps).t = keptO xs ps := by
  unfold keptO
  by_cases h : (areaOut xs ps).c = 0
  · rw [if_neg (by simp [h]), kept_same]
  · rw [if_pos h, areaOut_bad h]
    exact keptI_empty
set_option maxHeartbeats 4000000 in
theorem readStore_any (vs vp : Value) (xs : List ByteArray) (ps : List (Int × ByteArray)) (aF aR aU : Addr) (w : World) (hn : xs.length ≤ 1048576) (hn2 : ps.length ≤ 1048576) (hr : Reads w vs xs) (hp : ReadsP w vp ps) (hS : Sents aF aR aU w) (hG : St3.Laid w) :
    Calls Tryz.prog 31 #[.agg #[vs, vp]] w fun e w' => RdM w.heap.size e w' (keptO xs ps) ∧ Below w.heap.size w w' := by
  have hb0 : Below w.heap.size w (w.alloc (.cells #[vs, vp] 30)) := (Below.refl _ _).alloc (Nat.le_refl _) _
  have HB0 := hide hb0
  have HR := hide (hr.below hb0 (Nat.le_refl _))
  have HP := hide (hp.below hb0 (Nat.le_refl _))
  have HS := hide hS
  have HG := hide hG
  have htz := areaOut_t xs ps
  have HKO := hide (keptO_eq xs ps)
  obtain ⟨Y, hY⟩ : ∃ Y, Y = areaOut xs ps := ⟨_, rfl⟩
  have HY := hide hY
  rw [← hY] at htz HKO
  obtain ⟨p1, c1, rfl, _⟩ := hr
  obtain ⟨p2, c2, rfl, _⟩ := hp
  clear hb0 hY hS hG
  obtain ⟨K, hK⟩ : ∃ K, K = keptO xs ps := ⟨_, rfl⟩
  rw [← hK] at HKO ⊢
  clear hK
  go_enter Tryz.func31, Tryz.ntmps31
  go_wp2_with fail
  refine (implARead_any _ _ xs ps aF aR aU _ hn hn2 HR.out HP.out (Stab.go HB0.out HS.out) (fun hok vs vp w'' hb' hr hp => readArea_any vs vp xs ps w'' hr hp hok (Stab.go hb' (Stab.go HB0.out HG.out)))).mono ?_
  rw [← HY.out]
  rintro e w1 ⟨⟨us, up, rfl, o1, o2, _⟩, hb1⟩
  obtain ⟨s1, s2, s3, rfl⟩ := o1.isSlice
  obtain ⟨s4, s5, s6, rfl⟩ := o2.isSlice
  have HB1 := hide (HB0.out.trans (hb1.mono HB0.out.size))
  have hfd := fieldAT (.slice s1 s2 s3) (.slice s4 s5 s6) (.string Y.t) (.int .i64 Y.g) (.int .i64 Y.c) w1
  have HT := hide (show Y.t.size ≤ 8000 by omega)
  clear hb1 o1 o2 htz
  go_wp2_with fail
  refine (readStoreText_any Y.t _ HT.out (Stab.go HB1.out HG.out)).mono ?_
  rw [HKO.out]
  rintro e w2 ⟨⟨v, err, rfl, h1, h2⟩, hb2⟩
  have HB2 := hide (HB1.out.trans (hb2.mono HB1.out.size))
  have H1 := hide h1
  have H2 := hide (show ∀ L, K = some L → err = .nilIface ∧ ∃ b n, v = .map (some b) ∧ w.heap.size ≤ b ∧ MapIs w2 b n L from fun L hL => by
    obtain ⟨g1, b, n, g2, g3, g4⟩ := h2 L hL
    exact ⟨g1, b, n, g2, Nat.le_trans HB1.out.size g3, g4⟩)
  clear hb2 h1 h2 hfd
  go_wp2
  go_ret2
  exact ⟨⟨_, _, rfl, H1.out, H2.out⟩, HB2.out⟩
end Go.Proofs.YtnpbmaajgiapmaaGreatDoor
/- What the store's faces answer, as lists; l09Begin, l09At and StoreGet of the model. -/
namespace Go.Proofs.YtnpbmaajgiapmaaGreatDoor
open Go.RowKit

/-- Why a store can't be asked for an id. -/
def forC (xs : List ByteArray) (ps : List (Int × ByteArray)) (i : ByteArray) : Int :=
  if 8000 < i.size then 2 else if (keptO xs ps).isSome = false then 1 else if idB i = false then 1 else 0
def itemsO (xs : List ByteArray) (ps : List (Int × ByteArray)) : List Item := (keptO xs ps).getD []
theorem forC_ok {xs : List ByteArray} {ps : List (Int × ByteArray)} {i : ByteArray} (h : forC xs ps i = 0) : i.size ≤ 8000 ∧ keptO xs ps = some (itemsO xs ps) ∧ idB i = true := by
  unfold forC at h
  split at h
  · exact absurd h (by decide)
  · rename_i h1
    split at h
    · exact absurd h (by decide)
    · rename_i h2
      split at h
      · exact absurd h (by decide)
      · rename_i h3
        refine ⟨by omega, ?_, by simpa using h3⟩
        unfold itemsO
        cases hk : keptO xs ps with
        | none => rw [hk] at h2; simp at h2
        | some L => rfl
theorem keptO_items {xs : List ByteArray} {ps : List (Int × ByteArray)} {L : List Item} (h : keptO xs ps = some L) : Rises L ∧ (∀ x ∈ L, OkI x) ∧ L.length ≤ 12 := by
  unfold keptO at h
  split at h
  · cases h
  · obtain ⟨h1, h2, h3, _⟩ := keptS_ok h
    exact ⟨h1, h2, h3⟩
/-- The number of the item of an id, or -1. -/
def atL (L : List Item) (i : ByteArray) : Int := if L.findIdx (sameId i) < L.length then (L.findIdx (sameId i) : Int) else -1
theorem atL_hit {L : List Item} {i : ByteArray} (k : Nat) (hk : k < L.length) (h1 : (L[k]'hk).1 = i) (h2 : ∀ j (h : j < k), (L[j]'(by omega)).1 ≠ i) : atL L i = k ∧ L.find? (sameId i) = some (L[k]'hk) := by
  have h3 : ∀ j (h : j < k), sameId i (L[j]'(by omega)) = false := fun j h => by
    cases hs : sameId i (L[j]'(by omega)) with
    | false => rfl
    | true => exact absurd (sameId_iff.1 hs) (h2 j h)
  have hf : L.findIdx (sameId i) = k := (List.findIdx_eq hk).2 ⟨sameId_iff.2 h1, h3⟩
  refine ⟨by unfold atL; rw [hf, if_pos hk], ?_⟩
  rw [List.find?_eq_some_iff_getElem]
  exact ⟨sameId_iff.2 h1, k, hk, rfl, fun j hj => by rw [h3 j hj]; rfl⟩
theorem atL_miss {L : List Item} {i : ByteArray} (h : ∀ j (h : j < L.length), (L[j]'h).1 ≠ i) : atL L i = -1 ∧ L.find? (sameId i) = none := by
  have hn : ∀ x ∈ L, sameId i x = false := fun x hx => by
    obtain ⟨j, hj, rfl⟩ := List.getElem_of_mem hx
    cases hs : sameId i (L[j]'hj) with
    | false => rfl
    | true => exact absurd (sameId_iff.1 hs) (h j hj)
  refine ⟨?_, List.find?_eq_none.2 fun x hx => by rw [hn x hx]; simp⟩
  unfold atL
  rw [if_neg]
  intro hlt
  have := hn _ (List.getElem_mem hlt)
  rw [List.findIdx_getElem (w := hlt)] at this
  cases this
theorem atL_cases (L : List Item) (i : ByteArray) : (∃ (k : Nat) (hk : k < L.length), atL L i = k ∧ (L[k]'hk).1 = i ∧ L.find? (sameId i) = some (L[k]'hk) ∧ ∀ j (h : j < k), (L[j]'(by omega)).1 ≠ i) ∨ (atL L i = -1 ∧ L.find? (sameId i) = none) := by
  by_cases h : ∀ j (h : j < L.length), (L[j]'h).1 ≠ i
  · exact .inr (atL_miss h)
  · refine .inl ?_
    have hlt : L.findIdx (sameId i) < L.length := by
      rw [List.findIdx_lt_length]
      apply Classical.byContradiction
      intro hc
      exact h fun j hj e => hc ⟨_, List.getElem_mem hj, sameId_iff.2 e⟩
    have h1 := sameId_iff.1 (List.findIdx_getElem (w := hlt))
    have h2 : ∀ j (h : j < L.findIdx (sameId i)), (L[j]'(by omega)).1 ≠ i := fun j hj e => by
      have := List.not_of_lt_findIdx hj
      simp [sameId_iff.2 e] at this
    obtain ⟨a, b⟩ := atL_hit _ hlt h1 h2
    exact ⟨_, hlt, a, h1, b, h2⟩

theorem l09Ill_any (c : Int) (w : World) :
    Calls Tryz.prog 47 #[.int .i64 c] w fun e w' => e = .returned (.agg #[.slice none 0 0, .slice none 0 0, .string ⟨#[]⟩, .int .i64 c]) ∧ Below w.heap.size w w' := by
  go_enter Tryz.func47, Tryz.ntmps47
  go_wp2
  exact bodyPost_ret (v := .agg #[.slice none 0 0, .slice none 0 0, .string ⟨#[]⟩, .int .i64 c]) (by simp [results, Tryz.results47, go_sem]) rfl ⟨rfl, (Below.refl _ _).alloc (Nat.le_refl _) _⟩

set_option maxHeartbeats 4000000 in
theorem l09At_any (v : Value) (L : List Item) (i : ByteArray) (w : World) (hr : ReadsIt w v L) (hl : L.length ≤ 1000) :
    Calls Tryz.prog 48 #[v, .string i] w fun e w' => e = .returned (.int .i64 (atL L i)) ∧ Below w.heap.size w w' := by
  obtain ⟨p, cap, rfl, h1, h2, h4⟩ := hr
  unfold maxLen at h2
  have H4 := hide h4
  clear h4
  go_enter Tryz.func48, Tryz.ntmps48
  go_wp2
  go_loopw [5] (fun x wr => ∃ (X : World) (k : Nat), X = wr ∧ x = .int .i64 (k : Int) ∧ k ≤ L.length ∧ Hid (∀ j (h : j < k) (h' : j < L.length), (L[j]'h').1 ≠ i) ∧ Hid (Below w.heap.size w X)) (fun x _ => L.length - (intOf x).toNat)
  case atStart => exact ⟨_, 0, rfl, rfl, Nat.zero_le _, hide (fun j h => by omega), hide (Below.refl _ _)⟩
  case round =>
    obtain ⟨X, k, rfl, rfl, hk, HN, HB⟩ := hrel
    by_cases hlt : k < L.length
    · obtain ⟨g, off, rfl, hg, hc⟩ := H4.out (by omega)
      have hki : (k : Int) < (L.length : Int) := by omega
      have c0 := (HB.out.cell (p := ⟨g, off + k * 2, none⟩) hg).trans (hc k hlt).1
      have hse := str_eql (L[k]'hlt).1 i
      by_cases he : (L[k]'hlt).1 = i
      · have HE := hide (atL_hit k hlt he (fun j h => HN.out j h (by omega))).1
        rw [decide_eq_true he] at hse
        clear he hc
        go_wp2
        go_ret
        exact ⟨by rw [HE.out]; rfl, HB.out⟩
      · have HN2 := hide (show ∀ j (h : j < k + 1) (h' : j < L.length), (L[j]'h').1 ≠ i from fun j h h' => by
          by_cases e : j = k
          · subst e; exact he
          · exact HN.out j (by omega) h')
        rw [decide_eq_false he] at hse
        clear he hc
        go_wp2
        go_roundw
        case rel => exact ⟨X, k + 1, rfl, by go_num, by omega, HN2, HB⟩
        case measure => simp [intOf]; omega
    · have HE := hide (atL_miss (L := L) (i := i) (fun j h => HN.out j (by omega) h)).1
      go_wp2
      go_ret
      exact ⟨by rw [HE.out]; rfl, HB.out⟩

set_option maxHeartbeats 4000000 in
theorem l09Begin_any (vs vp : Value) (xs : List ByteArray) (ps : List (Int × ByteArray)) (d : ByteArray) (w : World) (hn : xs.length ≤ 1048576) (hn2 : ps.length ≤ 1048576) (hd : d.size ≤ 1048576) (hr : Reads w vs xs) (hp : ReadsP w vp ps) :
    Calls Tryz.prog 46 #[.agg #[vs, vp], .string d] w fun e w' => (∃ v, e = .returned (.tuple #[v, .int .i64 (forC xs ps d)]) ∧ (forC xs ps d = 0 → w'.ownsRow w.heap.size 75 2 v (itemsO xs ps).length (itc (itemsO xs ps)))) ∧ Below w.heap.size w w' := by
  have hb0 : Below w.heap.size w (w.alloc (.cells #[vs, vp] 30)) := (Below.refl _ _).alloc (Nat.le_refl _) _
  have HB0 := hide hb0
  have HR := hide (hr.below hb0 (Nat.le_refl _))
  have HP := hide (hp.below hb0 (Nat.le_refl _))
  obtain ⟨p1, c1, rfl, _⟩ := hr
  obtain ⟨p2, c2, rfl, _⟩ := hp
  clear hb0
  have hdm : d.size ≤ maxLen := by unfold maxLen; omega
  by_cases h8 : 8000 < d.size
  · have hE : forC xs ps d = 2 := by unfold forC; rw [if_pos h8]
    rw [hE]
    have h8i : (8000 : Int) < (d.size : Int) := by omega
    clear hE
    go_enter Tryz.func46, Tryz.ntmps46
    go_wp2
    go_ret2
    exact ⟨⟨_, rfl, fun h => absurd h (by decide)⟩, HB0.out⟩
  have h8i : ¬ (8000 : Int) < (d.size : Int) := by omega
  have HC := hide (l09Read_any (.slice p1 xs.length c1) (.slice p2 ps.length c2) xs ps _ hn hn2 HR.out HP.out)
  cases hk : keptO xs ps with
  | none =>
    have hE : forC xs ps d = 1 := by unfold forC; rw [if_neg h8, hk]; rfl
    rw [hE]
    rw [hk] at HC
    clear hE hk
    go_enter Tryz.func46, Tryz.ntmps46
    go_wp2_with fail
    refine HC.out.mono ?_
    rintro e w1 ⟨⟨v, rfl, _⟩, hb1⟩
    have HB1 := hide (HB0.out.trans (hb1.mono HB0.out.size))
    clear hb1
    go_wp2
    go_ret2
    exact ⟨⟨_, rfl, fun h => absurd h (by decide)⟩, HB1.out⟩
  | some L =>
    have HIT := hide (show itemsO xs ps = L by unfold itemsO; rw [hk]; rfl)
    rw [HIT.out]
    cases hid : idB d with
    | false =>
      have hE : forC xs ps d = 1 := by unfold forC; rw [if_neg h8, hk, if_neg (by simp), if_pos hid]
      rw [hE]
      rw [hk] at HC
      have HNR := hide (fun X : World => specNameRight_any d X hdm)
      rw [hid] at HNR
      clear hE hk hid
      go_enter Tryz.func46, Tryz.ntmps46
      go_wp2_with fail
      refine HC.out.mono ?_
      rintro e w1 ⟨⟨v, rfl, _⟩, hb1⟩
      have HB1 := hide (HB0.out.trans (hb1.mono HB0.out.size))
      clear hb1
      go_wp2_with fail
      refine (HNR.out _).mono ?_
      rintro e w2 ⟨rfl, h2⟩
      obtain rfl := h2.symm
      go_wp2
      go_ret2
      exact ⟨⟨_, rfl, fun h => absurd h (by decide)⟩, HB1.out⟩
    | true =>
      have hE : forC xs ps d = 0 := by unfold forC; rw [if_neg h8, hk, if_neg (by simp), if_neg (by rw [hid]; simp)]
      rw [hE]
      rw [hk] at HC
      have HNR := hide (fun X : World => specNameRight_any d X hdm)
      rw [hid] at HNR
      clear hE hk hid
      go_enter Tryz.func46, Tryz.ntmps46
      go_wp2_with fail
      refine HC.out.mono ?_
      rintro e w1 ⟨⟨v, rfl, hO⟩, hb1⟩
      have HB1 := hide (HB0.out.trans (hb1.mono HB0.out.size))
      have HOI := hide (own_baseX (hO L rfl) HB0.out.size)
      clear hb1 hO
      go_wp2_with fail
      refine (HNR.out _).mono ?_
      rintro e w2 ⟨rfl, h2⟩
      obtain rfl := h2.symm
      go_wp2
      go_ret2
      exact ⟨⟨_, rfl, fun _ => HOI.out⟩, HB1.out⟩

end Go.Proofs.YtnpbmaajgiapmaaGreatDoor
/- StoreGet of the program. -/
namespace Go.Proofs.YtnpbmaajgiapmaaGreatDoor
open Go.RowKit
/-- The call ended with a map that may be asked, or with the code c. -/
def FrIs (B : Nat) (e : Ending) (w : World) (c : Int) (L : List Item) : Prop :=
  ∃ v err, e = .returned (.tuple #[v, err]) ∧ (c ≠ 0 → err = .iface 125 (.agg #[.int .i64 c])) ∧ (c = 0 → err = .nilIface ∧ ∃ b n, v = .map (some b) ∧ B ≤ b ∧ MapIs w b n L)
theorem FrIs.ill (B : Nat) (w : World) (v : Value) (c : Int) (L : List Item) (hc : c ≠ 0) : FrIs B (.returned (.tuple #[v, .iface 125 (.agg #[.int .i64 c])])) w c L := ⟨v, _, rfl, fun _ => rfl, fun h => absurd h hc⟩
theorem FrIs.ok {B b n : Nat} {w : World} {L : List Item} (hb : B ≤ b) (h : MapIs w b n L) : FrIs B (.returned (.tuple #[.map (some b), .nilIface])) w 0 L := ⟨_, _, rfl, fun h => absurd rfl h, fun _ => ⟨rfl, b, n, rfl, hb, h⟩⟩
set_option maxHeartbeats 4000000 in
theorem storeFor_any (vs vp : Value) (xs : List ByteArray) (ps : List (Int × ByteArray)) (d : ByteArray) (aF aR aU : Addr) (w : World) (hn : xs.length ≤ 1048576) (hn2 : ps.length ≤ 1048576) (hd : d.size ≤ 1048576) (hr : Reads w vs xs) (hp : ReadsP w vp ps) (hS : Sents aF aR aU w) (hG : St3.Laid w) :
    Calls Tryz.prog 54 #[.agg #[vs, vp], .string d] w fun e w' => FrIs w.heap.size e w' (forC xs ps d) (itemsO xs ps) ∧ Below w.heap.size w w' := by
  have hb0 : Below w.heap.size w (w.alloc (.cells #[vs, vp] 30)) := (Below.refl _ _).alloc (Nat.le_refl _) _
  have HB0 := hide hb0
  have HR := hide (hr.below hb0 (Nat.le_refl _))
  have HP := hide (hp.below hb0 (Nat.le_refl _))
  obtain ⟨p1, c1, rfl, _⟩ := hr
  obtain ⟨p2, c2, rfl, _⟩ := hp
  have HC := hide (readStore_any (.slice p1 xs.length c1) (.slice p2 ps.length c2) xs ps aF aR aU _ hn hn2 HR.out HP.out (Stab.go hb0 hS) (Stab.go hb0 hG))
  clear hb0 hS hG
  have hdm : d.size ≤ maxLen := by unfold maxLen; omega
  by_cases h8 : 8000 < d.size
  · have hE : forC xs ps d = 2 := by unfold forC; rw [if_pos h8]
    rw [hE]
    have h8i : (8000 : Int) < (d.size : Int) := by omega
    clear hE
    go_enter Tryz.func54, Tryz.ntmps54
    go_wp2
    go_ret2
    exact ⟨FrIs.ill _ _ _ _ _ (by decide), HB0.out⟩
  have h8i : ¬ (8000 : Int) < (d.size : Int) := by omega
  cases hk : keptO xs ps with
  | none =>
    have hE : forC xs ps d = 1 := by unfold forC; rw [if_neg h8, hk]; rfl
    rw [hE]
    rw [hk] at HC
    clear hE hk
    go_enter Tryz.func54, Tryz.ntmps54
    go_wp2_with fail
    refine HC.out.mono ?_
    rintro e w1 ⟨⟨v, err, rfl, h1, _⟩, hb1⟩
    obtain rfl := h1 rfl
    have HB1 := hide (HB0.out.trans (hb1.mono HB0.out.size))
    clear hb1 h1
    go_wp2
    go_ret2
    exact ⟨FrIs.ill _ _ _ _ _ (by decide), HB1.out⟩
  | some L =>
    have HIT := hide (show itemsO xs ps = L by unfold itemsO; rw [hk]; rfl)
    rw [HIT.out]
    have HNR := hide (fun X : World => implNameRight_any d X hdm)
    cases hid : idB d with
    | false =>
      have hE : forC xs ps d = 1 := by unfold forC; rw [if_neg h8, hk, if_neg (by simp), if_pos hid]
      rw [hE]
      rw [hk] at HC
      rw [hid] at HNR
      clear hE hk hid
      go_enter Tryz.func54, Tryz.ntmps54
      go_wp2_with fail
      refine HC.out.mono ?_
      rintro e w1 ⟨⟨v, err, rfl, _, h2⟩, hb1⟩
      obtain ⟨rfl, b, n, rfl, _, _⟩ := h2 L rfl
      have HB1 := hide (HB0.out.trans (hb1.mono HB0.out.size))
      clear hb1 h2
      go_wp2_with fail
      refine (HNR.out _).mono ?_
      rintro e w2 ⟨rfl, h2⟩
      obtain rfl := h2.symm
      go_wp2_with fail
      refine (storeRefusal_true 1 _).mono ?_
      rintro e w3 ⟨rfl, h3⟩
      obtain rfl := h3.symm
      go_wp2
      go_ret2
      exact ⟨FrIs.ill _ _ _ _ _ (by decide), HB1.out⟩
    | true =>
      have hE : forC xs ps d = 0 := by unfold forC; rw [if_neg h8, hk, if_neg (by simp), if_neg (by rw [hid]; simp)]
      rw [hE]
      rw [hk] at HC
      rw [hid] at HNR
      clear hE hk hid
      go_enter Tryz.func54, Tryz.ntmps54
      go_wp2_with fail
      refine HC.out.mono ?_
      rintro e w1 ⟨⟨v, err, rfl, _, h2⟩, hb1⟩
      obtain ⟨rfl, b, n, rfl, hbb, hm⟩ := h2 L rfl
      have HB1 := hide (HB0.out.trans (hb1.mono HB0.out.size))
      have HM := hide hm
      have HBB := hide (Nat.le_trans HB0.out.size hbb)
      clear hb1 h2 hm hbb
      go_wp2_with fail
      refine (HNR.out _).mono ?_
      rintro e w2 ⟨rfl, h2⟩
      obtain rfl := h2.symm
      go_wp2_with fail
      refine (storeRefusal_false 1 _).mono ?_
      rintro e w3 ⟨rfl, h3⟩
      obtain rfl := h3.symm
      go_wp2
      go_ret2
      exact ⟨FrIs.ok HBB.out HM.out, HB1.out⟩
set_option maxHeartbeats 4000000 in
theorem storeRefused_any (c : Int) (w : World) (hG : St3.Laid w) :
    Calls Tryz.prog 51 #[.iface 125 (.agg #[.int .i64 c])] w fun e w' => e = .returned (.agg #[.slice none 0 0, .slice none 0 0, .string ⟨#[]⟩, .int .i64 c]) ∧ Below w.heap.size w w' := by
  have HB0 := hide (below_new w (.cells #[.slice none 0 0, .slice none 0 0, .string ⟨#[]⟩, .int .i64 0] 38))
  have HRO := hide (row_new w [.slice none 0 0, .slice none 0 0, .string ⟨#[]⟩, .int .i64 0] 38)
  have HG := hide (Stab.go HB0.out hG)
  clear hG
  go_enter Tryz.func51, Tryz.ntmps51
  go_wp2_with fail
  refine (St6.storeCode_fault c _ HG.out).mono ?_
  rintro e w1 ⟨rfl, hb1⟩
  have HB1 := hide (HB0.out.trans (hb1.mono HB0.out.size))
  have HR1 := hide (HRO.out.below hb1 HRO.out.lt)
  have g0 : w1.cell? ⟨w.heap.size, 0, none⟩ = some (.slice none 0 0) := HR1.out.cell 0
  have g1 : w1.cell? ⟨w.heap.size, 1, none⟩ = some (.slice none 0 0) := HR1.out.cell 1
  have g2 : w1.cell? ⟨w.heap.size, 2, none⟩ = some (.string ⟨#[]⟩) := HR1.out.cell 2
  have g3 : w1.cell? ⟨w.heap.size, 3, none⟩ = some (.int .i64 0) := HR1.out.cell 3
  have h0 := HR1.out.free 0
  have h1 := HR1.out.free 1
  have h2 := HR1.out.free 2
  have h3 := HR1.out.free 3
  clear hb1
  go_wp2
  obtain ⟨r0, r1, r2, r3, KG⟩ := four HR1.out (.slice none 0 0) (.slice none 0 0) (.string ⟨#[]⟩) (.int .i64 c)
  exact bodyPost_ret (v := .agg #[.slice none 0 0, .slice none 0 0, .string ⟨#[]⟩, .int .i64 c]) (by simp [results, Tryz.results51, go_sem, r0, r1, r2, r3]) rfl ⟨rfl, KG.toBelow HB1.out HB1.out.size (by simp)⟩

end Go.Proofs.YtnpbmaajgiapmaaGreatDoor
/- l09Write of the model; lists of items cut and put together. -/
namespace Go.Proofs.YtnpbmaajgiapmaaGreatDoor
open Go.RowKit

theorem putOut_bad {xs : List ByteArray} {ps : List (Int × ByteArray)} {d : ByteArray} {a : Int} (h : (putOut xs ps d a).c ≠ 0) : putOut xs ps d a = aill (putOut xs ps d a).c := by
  unfold putOut at h ⊢
  split
  · rfl
  · rename_i h1
    rw [if_neg h1] at h
    split
    · rfl
    · rename_i h2
      rw [if_neg h2] at h
      split
      · rfl
      · rename_i h3
        rw [if_neg h3] at h
        split
        · rfl
        · rename_i h4
          rw [if_neg h4] at h
          split
          · rename_i h5
            rw [if_pos h5] at h
            exact absurd rfl h
          · rfl
theorem kput_bad {xs : List ByteArray} {ps : List (Int × ByteArray)} {d : ByteArray} {a : Int} (h : (putOut xs ps d a).c ≠ 0) : kput xs ps d a = kill (putOut xs ps d a).c := by
  unfold kput
  rw [putOut_bad h]
  rfl
theorem kendK {w W Z V : World} {us up : Value} {o : KOut} (h0 : Below w.heap.size w W) (hz : Below W.heap.size W Z) (hws : w.heap.size + 2 = W.heap.size) (k : Kept [w.heap.size + 1] Z V)
    (o1 : OwnS 9 (w.heap.size + 2) Z us o.xs) (o2 : OwnP 92 (w.heap.size + 2) Z up o.ps) (dd : ∀ x ∈ leads us, x ∉ leads up) :
    KOutIs w.heap.size (.returned (.agg #[us, up, .string o.t, .int .i64 o.c])) V o ∧ Below w.heap.size w V := by
  have hb := h0.trans (hz.mono h0.size)
  refine ⟨⟨us, up, rfl, (o1.kept k ?_).mono (by omega), (o2.kept k ?_).mono (by omega), dd⟩, k.toBelow hb hb.size (by simp)⟩
  · intro x hx
    have := (o1.leads x hx).1
    simp
    omega
  · intro x hx
    have := (o2.leads x hx).1
    simp
    omega
def writeO (xs : List ByteArray) (ps : List (Int × ByteArray)) (M : List Item) (a : Int) : KOut := if 8000 < (storeB M).size then kill 9 else kput xs ps (storeB M) a

set_option maxHeartbeats 8000000 in
theorem l09Write_any (vs vp v : Value) (xs : List ByteArray) (ps : List (Int × ByteArray)) (M : List Item) (a : Int) (w : World) (hn : xs.length ≤ 1048576) (hn2 : ps.length ≤ 1048576) (hr : Reads w vs xs) (hp : ReadsP w vp ps) (hi : ReadsIt w v M) (ho : ∀ x ∈ M, OkI x) (hl : M.length ≤ 20) :
    Calls Tryz.prog 53 #[.agg #[vs, vp], v, .int .i64 a] w fun e w' => KOutIs w.heap.size e w' (writeO xs ps M a) ∧ Below w.heap.size w w' := by
  have HR := hide hr
  have HP := hide hp
  obtain ⟨p1, c1, rfl, _⟩ := hr
  obtain ⟨p2, c2, rfl, _⟩ := hp
  obtain ⟨W, hW⟩ : ∃ W, W = (w.alloc (.cells #[.slice p1 xs.length c1, .slice p2 ps.length c2] 30)).alloc (.cells #[.slice none 0 0, .slice none 0 0, .string ⟨#[]⟩, .int .i64 0] 38) := ⟨_, rfl⟩
  have HB0 := hide (show Below w.heap.size w W by rw [hW]; exact ((Below.refl _ _).alloc (Nat.le_refl _) _).alloc (by simp) _)
  have HWS := hide (show w.heap.size + 2 = W.heap.size by rw [hW]; simp)
  have HRD := hide (show Row W w.heap.size 30 [.slice p1 xs.length c1, .slice p2 ps.length c2] by rw [hW]; exact (row_new w _ _).alloc _)
  have HRO := hide (show Row W (w.heap.size + 1) 38 [.slice none 0 0, .slice none 0 0, .string ⟨#[]⟩, .int .i64 0] by
    rw [hW]
    have := row_new (w.alloc (.cells #[.slice p1 xs.length c1, .slice p2 ps.length c2] 30)) [.slice none 0 0, .slice none 0 0, .string ⟨#[]⟩, .int .i64 0] 38
    simpa using this)
  have HI0 := hide (hi.below HB0.out (Nat.le_refl _))
  have HOM := hide ho
  obtain ⟨T, hT⟩ : ∃ T, T = storeB M := ⟨_, rfl⟩
  have HTS := hide (show T.size ≤ 170000 by rw [hT]; exact storeB_size ho hl)
  have HC := hide (specBytes_any v M W HI0.out ho hl)
  obtain ⟨o, hoo⟩ : ∃ o, o = writeO xs ps M a := ⟨_, rfl⟩
  have HOE := hide (show o = if 8000 < T.size then kill 9 else kput xs ps T a by rw [hoo, hT]; rfl)
  rw [← hT] at HC
  rw [← hoo]
  clear hT hoo hi ho
  have hts := HTS.out
  go_enter Tryz.func53, Tryz.ntmps53
  go_wp2_with fail
  rw [← hW]
  clear hW
  refine HC.out.mono ?_
  rintro e w1 ⟨rfl, hb1⟩
  have HX0 := hide hb1
  have HB1 := hide (HB0.out.trans (hb1.mono HB0.out.size))
  have HRO1 := hide (HRO.out.below hb1 HRO.out.lt)
  have HRD1 := hide (HRD.out.below hb1 HRD.out.lt)
  clear hb1
  by_cases h8 : 8000 < T.size
  · have HE := hide (show o = kill 9 by rw [HOE.out, if_pos h8])
    have h8i : (8000 : Int) < (T.size : Int) := by omega
    go_wp2_with fail
    refine (l09Ill_any 9 _).mono ?_
    rintro e w2 ⟨rfl, hb2⟩
    have HB2 := hide (HB1.out.trans (hb2.mono HB1.out.size))
    have HR2 := hide (HRO1.out.below hb2 HRO1.out.lt)
    clear hb2
    have g0 : w2.cell? ⟨w.heap.size + 1, 0, none⟩ = some (.slice none 0 0) := HR2.out.cell 0
    have g1 : w2.cell? ⟨w.heap.size + 1, 1, none⟩ = some (.slice none 0 0) := HR2.out.cell 1
    have g2 : w2.cell? ⟨w.heap.size + 1, 2, none⟩ = some (.string ⟨#[]⟩) := HR2.out.cell 2
    have g3 : w2.cell? ⟨w.heap.size + 1, 3, none⟩ = some (.int .i64 0) := HR2.out.cell 3
    have h0 := HR2.out.free 0
    have h1 := HR2.out.free 1
    have h2 := HR2.out.free 2
    have h3 := HR2.out.free 3
    go_wp2
    obtain ⟨r0, r1, r2, r3, KG⟩ := four HR2.out (.slice none 0 0) (.slice none 0 0) (.string ⟨#[]⟩) (.int .i64 9)
    exact bodyPost_ret (v := .agg #[.slice none 0 0, .slice none 0 0, .string ⟨#[]⟩, .int .i64 9]) (by simp [results, Tryz.results53, go_sem, r0, r1, r2, r3]) rfl ⟨by rw [HE.out]; exact KOutIs.ill _ _ _, KG.toBelow HB2.out HB2.out.size (by simp)⟩
  have h8i : ¬ (8000 : Int) < (T.size : Int) := by omega
  obtain ⟨Y, hY⟩ : ∃ Y, Y = putOut xs ps T a := ⟨_, rfl⟩
  have HY := hide hY
  have HE0 := hide (show o = kput xs ps T a by rw [HOE.out, if_neg h8])
  clear hY
  have a0 : w1.cell? ⟨w.heap.size, 0, none⟩ = some (.slice p1 xs.length c1) := HRD1.out.cell 0
  have a1 : w1.cell? ⟨w.heap.size, 1, none⟩ = some (.slice p2 ps.length c2) := HRD1.out.cell 1
  go_wp2_with fail
  refine (specAreaPut_any _ _ xs ps T a _ hn hn2 (by omega) (HR.out.below HB1.out (Nat.le_refl _)) (HP.out.below HB1.out (Nat.le_refl _))).mono ?_
  rw [← HY.out]
  rintro e w2 ⟨⟨us, up, rfl, o1, o2, dd⟩, hb2⟩
  obtain ⟨s1, s2, s3, rfl⟩ := o1.isSlice
  obtain ⟨s4, s5, s6, rfl⟩ := o2.isSlice
  obtain ⟨yt, hyt⟩ : ∃ t, t = Y.t := ⟨_, rfl⟩
  obtain ⟨yg, hyg⟩ : ∃ t, t = Y.g := ⟨_, rfl⟩
  obtain ⟨yc, hyc⟩ : ∃ t, t = Y.c := ⟨_, rfl⟩
  rw [← hyt, ← hyg, ← hyc]
  have HYC := hide hyc
  clear hyt hyg hyc a0 a1
  have HB2 := hide (HB1.out.trans (hb2.mono HB1.out.size))
  have hge : w.heap.size + 2 ≤ w1.heap.size := by have := HWS.out; have := HX0.out.size; omega
  obtain ⟨X, hX⟩ : ∃ X, X = w2.alloc (.cells #[.slice s1 s2 s3, .slice s4 s5 s6, .string yt, .int .i64 yg, .int .i64 yc] 63) := ⟨_, rfl⟩
  have bn := below_new w2 (.cells #[.slice s1 s2 s3, .slice s4 s5 s6, .string yt, .int .i64 yg, .int .i64 yc] 63)
  have HXW := hide (show Below W.heap.size W X by rw [hX]; exact (HX0.out.trans (hb2.mono HX0.out.size)).trans (bn.mono (Nat.le_trans HX0.out.size hb2.size)))
  have HBX := hide (HB0.out.trans (HXW.out.mono HB0.out.size))
  have HROX := hide (HRO.out.below HXW.out HRO.out.lt)
  have O1 := hide (show OwnS 9 (w.heap.size + 2) X (.slice s1 s2 s3) Y.xs by rw [hX]; exact (o1.below bn (Nat.le_refl _)).mono hge)
  have O2 := hide (show OwnP 92 (w.heap.size + 2) X (.slice s4 s5 s6) Y.ps by rw [hX]; exact (o2.below bn (Nat.le_refl _)).mono hge)
  have DD := hide dd
  have HRA := hide (show Row X w2.heap.size 63 [.slice s1 s2 s3, .slice s4 s5 s6, .string yt, .int .i64 yg, .int .i64 yc] by rw [hX]; exact row_new w2 _ _)
  clear hb2 bn o1 o2 dd hge
  by_cases hc : yc = 0
  · subst hc
    have HE := hide (show o = ⟨Y.xs, Y.ps, ⟨#[]⟩, 0⟩ by rw [HE0.out]; unfold kput; rw [← HY.out, ← HYC.out])
    have q0 : (w2.alloc (.cells #[.slice s1 s2 s3, .slice s4 s5 s6, .string yt, .int .i64 yg, .int .i64 0] 63)).cell? ⟨w.heap.size + 1, 0, none⟩ = some (.slice none 0 0) := by rw [← hX]; exact HROX.out.cell 0
    have q1 : (w2.alloc (.cells #[.slice s1 s2 s3, .slice s4 s5 s6, .string yt, .int .i64 yg, .int .i64 0] 63)).cell? ⟨w.heap.size + 1, 1, none⟩ = some (.slice none 0 0) := by rw [← hX]; exact HROX.out.cell 1
    have q2 : (w2.alloc (.cells #[.slice s1 s2 s3, .slice s4 s5 s6, .string yt, .int .i64 yg, .int .i64 0] 63)).cell? ⟨w.heap.size + 1, 2, none⟩ = some (.string ⟨#[]⟩) := by rw [← hX]; exact HROX.out.cell 2
    have q3 : (w2.alloc (.cells #[.slice s1 s2 s3, .slice s4 s5 s6, .string yt, .int .i64 yg, .int .i64 0] 63)).cell? ⟨w.heap.size + 1, 3, none⟩ = some (.int .i64 0) := by rw [← hX]; exact HROX.out.cell 3
    have f0 : (w2.alloc (.cells #[.slice s1 s2 s3, .slice s4 s5 s6, .string yt, .int .i64 yg, .int .i64 0] 63)).frozen? ⟨w.heap.size + 1, 0, none⟩ = false := by rw [← hX]; exact HROX.out.free 0
    have f1 : (w2.alloc (.cells #[.slice s1 s2 s3, .slice s4 s5 s6, .string yt, .int .i64 yg, .int .i64 0] 63)).frozen? ⟨w.heap.size + 1, 1, none⟩ = false := by rw [← hX]; exact HROX.out.free 1
    have f2 : (w2.alloc (.cells #[.slice s1 s2 s3, .slice s4 s5 s6, .string yt, .int .i64 yg, .int .i64 0] 63)).frozen? ⟨w.heap.size + 1, 2, none⟩ = false := by rw [← hX]; exact HROX.out.free 2
    have f3 : (w2.alloc (.cells #[.slice s1 s2 s3, .slice s4 s5 s6, .string yt, .int .i64 yg, .int .i64 0] 63)).frozen? ⟨w.heap.size + 1, 3, none⟩ = false := by rw [← hX]; exact HROX.out.free 3
    go_wp2
    rw [← hX]
    obtain ⟨r0, r1, r2, r3, KG⟩ := four HROX.out (.slice s1 s2 s3) (.slice s4 s5 s6) (.string ⟨#[]⟩) (.int .i64 0)
    exact bodyPost_ret (v := .agg #[.slice s1 s2 s3, .slice s4 s5 s6, .string ⟨#[]⟩, .int .i64 0]) (by simp [results, Tryz.results53, go_sem, r0, r1, r2, r3]) rfl
      (by rw [HE.out]; exact kendK (o := ⟨Y.xs, Y.ps, ⟨#[]⟩, 0⟩) HB0.out HXW.out HWS.out KG O1.out O2.out DD.out)
  · have HE := hide (show o = kill yc by rw [HE0.out, kput_bad (by rw [← HY.out, ← HYC.out]; exact hc), ← HY.out, ← HYC.out])
    have hcb : (yc != 0) = true := by simpa using hc
    have k4 : (w2.alloc (.cells #[.slice s1 s2 s3, .slice s4 s5 s6, .string yt, .int .i64 yg, .int .i64 yc] 63)).cell? ⟨w2.heap.size, 4, none⟩ = some (.int .i64 yc) := by rw [← hX]; exact HRA.out.cell 4
    clear hc
    go_wp2_with fail
    rw [← hX]
    clear k4 hX
    refine (l09Ill_any yc _).mono ?_
    rintro e w3 ⟨rfl, hb3⟩
    have HB3 := hide (HBX.out.trans (hb3.mono HBX.out.size))
    have HR2 := hide (HROX.out.below hb3 HROX.out.lt)
    clear hb3
    have g0 : w3.cell? ⟨w.heap.size + 1, 0, none⟩ = some (.slice none 0 0) := HR2.out.cell 0
    have g1 : w3.cell? ⟨w.heap.size + 1, 1, none⟩ = some (.slice none 0 0) := HR2.out.cell 1
    have g2 : w3.cell? ⟨w.heap.size + 1, 2, none⟩ = some (.string ⟨#[]⟩) := HR2.out.cell 2
    have g3 : w3.cell? ⟨w.heap.size + 1, 3, none⟩ = some (.int .i64 0) := HR2.out.cell 3
    have h0 := HR2.out.free 0
    have h1 := HR2.out.free 1
    have h2 := HR2.out.free 2
    have h3 := HR2.out.free 3
    go_wp2
    obtain ⟨r0, r1, r2, r3, KG⟩ := four HR2.out (.slice none 0 0) (.slice none 0 0) (.string ⟨#[]⟩) (.int .i64 yc)
    exact bodyPost_ret (v := .agg #[.slice none 0 0, .slice none 0 0, .string ⟨#[]⟩, .int .i64 yc]) (by simp [results, Tryz.results53, go_sem, r0, r1, r2, r3]) rfl ⟨by rw [HE.out]; exact KOutIs.ill _ _ _, KG.toBelow HB3.out HB3.out.size (by simp)⟩
end Go.Proofs.YtnpbmaajgiapmaaGreatDoor
/- Lists of items cut and put together. -/
namespace Go.Proofs.YtnpbmaajgiapmaaGreatDoor
open Go.RowKit
theorem run_append_noneQ {P : Program} {w : World} (base : Nat) (t ty e : TypeId) (i : TypeInfo) (size c : Nat) (ht : P.underlying t = some (.slice e)) (hi : P.info? e = some i)
    (v : Value) (n : Nat) (xs : List Value) (hown : w.ownsRow base e size v n xs) : (Builtin.append_ #[t, t] ty #[v, .slice none 0 c]).run P w = .ok v w := by
  rcases hown.2 with ⟨rfl, rfl⟩ | ⟨g, cap, cur, rfl, _, _, hnc, _⟩
  · simp [Builtin.append_, run_underlying ht, sizeOf, typeInfo, hi, Builtin.lenOf, Builtin.firstCells]
  · simp [Builtin.append_, run_underlying ht, sizeOf, typeInfo, hi, Builtin.lenOf, Builtin.firstCells, hnc, storeCells]
/-- A slice, or an empty one, put behind a list of the call's own. -/
theorem run_append_any {P : Program} (w : World) (base : Nat) (t ty e : TypeId) (i : TypeInfo) (z : Value) (size bytes : Nat) (ht : P.underlying t = some (.slice e)) (hi : P.info? e = some i) (hz : i.zero = some z)
    (hs : i.size = size) (hby : i.bytes = bytes) (hzs : z.cells.size = size) (hsz : 0 < size) (v : Value) (n : Nat) (xs : List Value) (hown : w.ownsRow base e size v n xs)
    (p : Option Addr) (m c : Nat) (news : List Value) (hl : news.length = m * size) (hnews : 0 < m → ∃ g off, p = some ⟨g, off, none⟩ ∧ ∀ j u, news[j]? = some u → w.cell? ⟨g, off + j, none⟩ = some u) (h1 : ∀ u ∈ news, u.oneCell' = true)
    (h63 : n + m ≤ maxLen) (hbytes : (n + m) * bytes ≤ 140737488355328) (hbase : base ≤ w.heap.size) :
    ∃ v' w', (Builtin.append_ #[t, t] ty #[v, .slice p m c]).run P w = .ok v' w' ∧ w'.ownsRow base e size v' (n + m) (xs ++ news) ∧ w.grownBy w' v.ownBlock := by
  by_cases hm : m = 0
  · subst hm
    have hn : news = [] := List.eq_nil_of_length_eq_zero (by simpa using hl)
    subst hn
    cases p with
    | none => exact ⟨v, w, run_append_noneQ base t ty e i size c ht hi v n xs hown, by simpa using hown, ⟨rfl, rfl, rfl, Nat.le_refl _, fun _ _ _ => rfl⟩⟩
    | some ad =>
      obtain ⟨v', w', hr, r1, r2, _, _⟩ := run_append_own_at (P := P) w base t ty e i z size bytes ht hi hz hs hby hzs hsz v n xs hown ad 0 c [] (by simp) (fun j u hu => by simp at hu) (by simp) h63 hbytes hbase
      exact ⟨v', w', hr, r1, r2⟩
  · obtain ⟨g, off, rfl, hc⟩ := hnews (by omega)
    obtain ⟨v', w', hr, r1, r2, _, _⟩ := run_append_own_at (P := P) w base t ty e i z size bytes ht hi hz hs hby hzs hsz v n xs hown ⟨g, off, none⟩ m c news hl (fun j u hu => by rw [Addr.add_lit]; exact hc j u hu) h1 h63 hbytes hbase
    exact ⟨v', w', hr, r1, r2⟩
theorem step_any {P : Program} {ops : Array Oper} {o : Oper} {a : Act} {w : World} {K : Act → World → Prop} {Q : Exit → Act → World → Prop} {E : Prop} (hgd : o.guard = none) (s x : Operand) (t : TypeId)
    (ho : o.op = .call { callee := .builtin .append, args := #[s, x], argTypes := #[t, t] })
    (base : Nat) (e : TypeId) (i : TypeInfo) (z : Value) (size bytes : Nat) (ht : P.underlying t = some (.slice e)) (hi : P.info? e = some i) (hz : i.zero = some z)
    (hsize : i.size = size) (hby : i.bytes = bytes) (hzs : z.cells.size = size) (hsz : 0 < size) (v : Value) (n : Nat) (xs : List Value) (hs : a.eval s = v) (hown : w.ownsRow base e size v n xs)
    (p : Option Addr) (m c : Nat) (news : List Value) (hx : a.eval x = .slice p m c) (hl : news.length = m * size) (hnews : 0 < m → ∃ g off, p = some ⟨g, off, none⟩ ∧ ∀ j u, news[j]? = some u → w.cell? ⟨g, off + j, none⟩ = some u) (h1 : ∀ u ∈ news, u.oneCell' = true)
    (h63 : n + m ≤ maxLen) (hbytes : (n + m) * bytes ≤ 140737488355328) (hbase : base ≤ w.heap.size)
    (h : ∀ v' w', w'.ownsRow base e size v' (n + m) (xs ++ news) → w.grownBy w' v.ownBlock → K (a.put o.dst v') w') :
    if Region.wanted o (yielded ops a.tmps) = true then Oper.wp P o a w K Q else E := by
  have hw : Region.wanted o (yielded ops a.tmps) = true := by simp [Region.wanted, hgd]
  rw [if_pos hw]
  obtain ⟨v', w', hr, h2, h3⟩ := run_append_any (P := P) w base t o.type e i z size bytes ht hi hz hsize hby hzs hsz v n xs hown p m c news hl hnews h1 h63 hbytes hbase
  unfold Oper.wp execOp
  simp only [ho, resolve, invoke, builtin, Sem.run_bind, Sem.run_pure, Result.andThen_ok, List.map_toArray, List.map_cons, List.map_nil, hs, hx, hr]
  exact h v' w' h2 h3
theorem wpList_append_any {P : Program} {w : World} {ops : Array Oper} {rest : List Oper} {o : Oper} {a : Act} {Q : Exit → Act → World → Prop} (hgd : o.guard = none) (s x : Operand) (t : TypeId)
    (ho : o.op = .call { callee := .builtin .append, args := #[s, x], argTypes := #[t, t] })
    (base : Nat) (e : TypeId) (i : TypeInfo) (z : Value) (size bytes : Nat) (ht : P.underlying t = some (.slice e)) (hi : P.info? e = some i) (hz : i.zero = some z)
    (hsize : i.size = size) (hby : i.bytes = bytes) (hzs : z.cells.size = size) (hsz : 0 < size) (v : Value) (n : Nat) (xs : List Value) (hs : a.eval s = v) (hown : w.ownsRow base e size v n xs)
    (p : Option Addr) (m c : Nat) (news : List Value) (hx : a.eval x = .slice p m c) (hl : news.length = m * size) (hnews : 0 < m → ∃ g off, p = some ⟨g, off, none⟩ ∧ ∀ j u, news[j]? = some u → w.cell? ⟨g, off + j, none⟩ = some u) (h1 : ∀ u ∈ news, u.oneCell' = true)
    (h63 : n + m ≤ maxLen) (hbytes : (n + m) * bytes ≤ 140737488355328) (hbase : base ≤ w.heap.size)
    (h : ∀ v' w', w'.ownsRow base e size v' (n + m) (xs ++ news) → w.grownBy w' v.ownBlock → wpList P ops Q rest (a.put o.dst v') w') : wpList P ops Q (o :: rest) a w := by
  refine wpList_plain hgd fun K hK => ?_
  obtain ⟨v', w', hr, h2, h3⟩ := run_append_any (P := P) w base t o.type e i z size bytes ht hi hz hsize hby hzs hsz v n xs hown p m c news hl hnews h1 h63 hbytes hbase
  unfold Oper.wp
  simp [execOp, ho, resolve, invoke, builtin, hs, hx, hr, Result.andThen]
  exact hK _ _ (h v' w' h2 h3)
def cutP (p : Option Addr) (cap l : Nat) : Option Addr := if cap = l then p else p.map (·.add (l * 2))
theorem run_cutFrom (p : Option Addr) (n cap l : Nat) (hl : l ≤ n) (w : World) : (Instr.slice 49 (.slice p n cap) (some (.int .i64 (l : Int))) none none).run Tryz.prog w = .ok (.slice (cutP p cap l) (n - l) (cap - l)) w := by
  have he : Tryz.prog.underlying 49 = some (.slice (Tryz.prog.elem 49)) := by kernel_rfl
  have hsz : ∀ w, (sizeOf (Tryz.prog.elem 49)).run Tryz.prog w = .ok 2 w := fun w => by kernel_rfl
  rw [run_slice_l w 49 p n cap he .i64 (l : Int) (by omega) (by omega), hsz]
  simp [Result.andThen, sliced, cutP]
theorem run_cutTo (p : Option Addr) (n cap k : Nat) (hk : k ≤ cap) (w : World) : (Instr.slice 49 (.slice p n cap) none (some (.int .i64 (k : Int))) none).run Tryz.prog w = .ok (.slice (cutP p cap 0) k cap) w := by
  have he : Tryz.prog.underlying 49 = some (.slice (Tryz.prog.elem 49)) := by kernel_rfl
  have hsz : ∀ w, (sizeOf (Tryz.prog.elem 49)).run Tryz.prog w = .ok 2 w := fun w => by kernel_rfl
  rw [run_slice_h w 49 p n cap he .i64 (k : Int) (by omega) (by omega), hsz]
  simp [Result.andThen, sliced, cutP]
theorem cutP_at {g off n cap l m : Nat} (h : l + m = n) (hc : n ≤ cap) (hm : 0 < m) : cutP (some ⟨g, off, none⟩) cap l = some ⟨g, off + l * 2, none⟩ := by
  unfold cutP
  rw [if_neg (by omega)]
  simp [Addr.add_lit]
theorem cutP_zero (g off cap : Nat) : cutP (some ⟨g, off, none⟩) cap 0 = some ⟨g, off, none⟩ := by
  unfold cutP
  split
  · rfl
  · simp [Addr.add_lit]
theorem itc_take (L : List Item) (k : Nat) : ∀ (j : Nat) (u : Value), (itc (L.take k))[j]? = some u → (itc L)[j]? = some u := fun j u h => by
  have e : itc L = itc (L.take k) ++ itc (L.drop k) := by rw [← itc_append, List.take_append_drop]
  rw [e, List.getElem?_append_left (List.getElem?_eq_some_iff.1 h).1]
  exact h
theorem itc_drop (L : List Item) (k : Nat) (hk : k ≤ L.length) : ∀ (j : Nat) (u : Value), (itc (L.drop k))[j]? = some u → (itc L)[k * 2 + j]? = some u := fun j u h => by
  have e : itc L = itc (L.take k) ++ itc (L.drop k) := by rw [← itc_append, List.take_append_drop]
  have hl : (itc (L.take k)).length = k * 2 := by rw [itc_len, List.length_take, Nat.min_eq_left hk]
  rw [e, List.getElem?_append_right (by omega), hl, show k * 2 + j - k * 2 = j by omega]
  exact h
theorem itc_cell {w : World} {g off : Nat} : ∀ {L : List Item}, (∀ i (h : i < L.length), w.cell? ⟨g, off + i * 2, none⟩ = some (.string L[i].1) ∧ w.cell? ⟨g, off + i * 2 + 1, none⟩ = some (.string L[i].2)) → ∀ j u, (itc L)[j]? = some u → w.cell? ⟨g, off + j, none⟩ = some u := by
  intro L h j u hu
  have hj : j < L.length * 2 := by have := (List.getElem?_eq_some_iff.1 hu).1; rw [itc_len] at this; exact this
  obtain ⟨c0, c1⟩ := h (j / 2) (by omega)
  obtain ⟨e0, e1⟩ := itc_at L (j / 2) (by omega)
  rcases (show j = j / 2 * 2 ∨ j = j / 2 * 2 + 1 by omega) with e | e
  · rw [e] at hu ⊢
    rw [hu] at e0
    rw [c0, e0]
  · rw [e] at hu ⊢
    rw [hu] at e1
    rw [← Nat.add_assoc, c1, e1]
/-- The items' cells, from a number on. -/
theorem it_news {w : World} {v : Value} {L : List Item} (h : ReadsIt w v L) : ∃ p cap, v = .slice p L.length cap ∧ L.length ≤ cap ∧ cap ≤ maxLen ∧
    (∀ k, k ≤ L.length → 0 < k → ∃ g off, cutP p cap 0 = some ⟨g, off, none⟩ ∧ ∀ j u, (itc (L.take k))[j]? = some u → w.cell? ⟨g, off + j, none⟩ = some u) ∧
    (∀ l, l ≤ L.length → 0 < L.length - l → ∃ g off, cutP p cap l = some ⟨g, off, none⟩ ∧ ∀ j u, (itc (L.drop l))[j]? = some u → w.cell? ⟨g, off + j, none⟩ = some u) := by
  obtain ⟨p, cap, rfl, h1, h2, h4⟩ := h
  refine ⟨p, cap, rfl, h1, h2, fun k hk h0 => ?_, fun l hl h0 => ?_⟩
  · obtain ⟨g, off, rfl, _, hc⟩ := h4 (by omega)
    exact ⟨g, off, cutP_zero g off cap, fun j u hu => itc_cell hc j u (itc_take L k j u hu)⟩
  · obtain ⟨g, off, rfl, _, hc⟩ := h4 (by omega)
    exact ⟨g, off + l * 2, cutP_at (n := L.length) (m := L.length - l) (Nat.add_sub_cancel' hl) h1 h0, fun j u hu => by rw [Nat.add_assoc]; exact itc_cell hc _ u (itc_drop L l hl j u hu)⟩
/-- Without the item of a number: what is left. -/
theorem delL_at {L : List Item} (hr : Rises L) (k : Nat) (hk : k < L.length) {i : ByteArray} (hi : (L[k]'hk).1 = i) : delL L i = L.take k ++ L.drop (k + 1) := by
  have e : L = L.take k ++ (L[k]'hk :: L.drop (k + 1)) := by rw [← List.drop_eq_getElem_cons hk, List.take_append_drop]
  have hr' := hr
  rw [e] at hr'
  obtain ⟨_, r2, r3⟩ := List.pairwise_append.1 hr'
  have n1 : ∀ p ∈ L.take k, sameId i p = false := fun p hp => by
    cases hs : sameId i p with
    | false => rfl
    | true => exact absurd ((sameId_iff.1 hs).trans hi.symm) (ltB_ne (r3 p hp _ (List.mem_cons_self ..)))
  have n2 : ∀ p ∈ L.drop (k + 1), sameId i p = false := fun p hp => by
    cases hs : sameId i p with
    | false => rfl
    | true => exact absurd (hi.trans (sameId_iff.1 hs).symm) (ltB_ne ((List.pairwise_cons.1 r2).1 p hp))
  unfold delL
  conv => lhs; rw [e]
  rw [List.filter_append, List.filter_cons, if_neg (by simp [sameId_iff.2 hi]), List.filter_eq_self.2 (fun p hp => by simp [n1 p hp]), List.filter_eq_self.2 (fun p hp => by simp [n2 p hp])]
end Go.Proofs.YtnpbmaajgiapmaaGreatDoor
/- StoreDrop of the model. -/
namespace Go.Proofs.YtnpbmaajgiapmaaGreatDoor
open Go.RowKit
end Go.Proofs.YtnpbmaajgiapmaaGreatDoor
/- StoreDrop of the program. -/
namespace Go.Proofs.YtnpbmaajgiapmaaGreatDoor
open Go.RowKit
end Go.Proofs.YtnpbmaajgiapmaaGreatDoor
/- One more item, or one in the place of another: plain mathematics; what StorePut answers. -/
namespace Go.Proofs.YtnpbmaajgiapmaaGreatDoor
open Go.RowKit
theorem insL_behind {x : Item} : ∀ {A B : List Item}, (∀ p ∈ A, ltB p.1 x.1 = true) → insL x (A ++ B) = A ++ insL x B
  | [], _, _ => rfl
  | y :: r, B, h => by
    rw [List.cons_append, insL, if_neg, insL_behind (fun p hp => h p (List.mem_cons_of_mem _ hp))]
    · rfl
    · intro h1
      have := ltB_trans h1 (h y (List.mem_cons_self ..))
      rw [ltB_irrefl] at this
      cases this
theorem insL_front {x : Item} {B : List Item} (h : ∀ p ∈ B, ltB x.1 p.1 = true) : insL x B = x :: B := by
  cases B with
  | nil => rfl
  | cons y r => rw [insL, if_pos (h y (List.mem_cons_self ..))]
theorem rises_at {L : List Item} (hr : Rises L) (i j : Nat) (hi : i < j) (hj : j < L.length) : ltB (L[i]'(by omega)).1 (L[j]'hj).1 = true := List.pairwise_iff_getElem.1 hr i j (by omega) hj hi
theorem mem_drop {L : List Item} {n : Nat} {p : Item} (h : p ∈ L.drop n) : ∃ j, ∃ hj : j < L.length, n ≤ j ∧ L[j]'hj = p := by
  obtain ⟨i, hi, rfl⟩ := List.getElem_of_mem h
  rw [List.length_drop] at hi
  exact ⟨n + i, by omega, by omega, by rw [List.getElem_drop]⟩
theorem mem_take {L : List Item} {n : Nat} {p : Item} (h : p ∈ L.take n) : ∃ j, ∃ hj : j < L.length, j < n ∧ L[j]'hj = p := by
  obtain ⟨i, hi, rfl⟩ := List.getElem_of_mem h
  rw [List.length_take] at hi
  exact ⟨i, by omega, by omega, by rw [List.getElem_take]⟩
theorem putL_found {L : List Item} (hr : Rises L) {i t : ByteArray} (n k : Nat) (hk : k < L.length) (hi : (L[k]'hk).1 = i) (hn : n ≤ L.length) (h1 : ∀ j (_ : j < n) (h' : j < L.length), ltB (L[j]'h').1 i = true) (h2 : ∀ h : n < L.length, ltB (L[n]'h).1 i = false) :
    n = k ∧ putL L i t = L.take n ++ (i, t) :: L.drop (n + 1) := by
  have e : n = k := by
    rcases Nat.lt_trichotomy n k with h | h | h
    · have := rises_at hr n k h hk
      rw [hi, h2 (by omega)] at this
      cases this
    · exact h
    · have := h1 k h hk
      rw [hi, ltB_irrefl] at this
      cases this
  subst e
  refine ⟨rfl, ?_⟩
  unfold putL
  rw [delL_at hr n hk hi, insL_behind, insL_front]
  · intro p hp
    obtain ⟨j, hj, hj2, rfl⟩ := mem_drop hp
    have := rises_at hr n j (by omega) hj
    rw [hi] at this
    exact this
  · intro p hp
    obtain ⟨j, hj, hj2, rfl⟩ := mem_take hp
    exact h1 j hj2 hj
theorem putL_new {L : List Item} (hr : Rises L) {i t : ByteArray} (n : Nat) (hf : ∀ j (h : j < L.length), (L[j]'h).1 ≠ i) (hn : n ≤ L.length) (h1 : ∀ j (_ : j < n) (h' : j < L.length), ltB (L[j]'h').1 i = true) (h2 : ∀ h : n < L.length, ltB (L[n]'h).1 i = false) :
    putL L i t = L.take n ++ (i, t) :: L.drop n := by
  have hd : delL L i = L := List.filter_eq_self.2 fun p hp => by
    obtain ⟨j, hj, rfl⟩ := List.getElem_of_mem hp
    have : ¬ sameId i (L[j]'hj) = true := fun e => hf j hj (sameId_iff.1 e)
    simp [this]
  unfold putL
  rw [hd]
  conv => lhs; rw [← List.take_append_drop n L]
  rw [insL_behind, insL_front]
  · intro p hp
    obtain ⟨j, hj, hj2, rfl⟩ := mem_drop hp
    have hnl : n < L.length := by omega
    have h3 : ltB i (L[n]'hnl).1 = true := by
      rcases ltB_total (hf n hnl) with h | h
      · rw [h2 hnl] at h; cases h
      · exact h
    rcases Nat.eq_or_lt_of_le hj2 with e | e
    · subst e; exact h3
    · exact ltB_trans h3 (rises_at hr n j e hj)
  · intro p hp
    obtain ⟨j, hj, hj2, rfl⟩ := mem_take hp
    exact h1 j hj2 hj
theorem find_none {L : List Item} {i : ByteArray} (h : L.find? (sameId i) = none) : ∀ j (h : j < L.length), (L[j]'h).1 ≠ i := fun j hj e => by
  have := List.find?_eq_none.1 h _ (List.getElem_mem hj)
  exact this (sameId_iff.2 e)
theorem putL_ok {L : List Item} (h : ∀ x ∈ L, OkI x) {i t : ByteArray} (hi : idB i = true) (ht : t.size ≤ 8000) : ∀ x ∈ putL L i t, OkI x := fun x hx => by
  rcases putL_mem hx with rfl | hx
  · exact ⟨hi, ht⟩
  · exact h x hx
def badM (M : List Item) : Prop := 12 < M.length ∨ 8000 < (storeB M).size
instance (M : List Item) : Decidable (badM M) := inferInstanceAs (Decidable (_ ∨ _))
def sputO (xs : List ByteArray) (ps : List (Int × ByteArray)) (d t : ByteArray) (a : Int) : KOut :=
  if 8000 < t.size then kill 2 else if forC xs ps d ≠ 0 then kill (forC xs ps d) else if badM (putL (itemsO xs ps) d t) then kill 9 else kput xs ps (storeB (putL (itemsO xs ps) d t)) a
theorem sputO_len (xs : List ByteArray) (ps : List (Int × ByteArray)) (d t : ByteArray) (a : Int) : (sputO xs ps d t a).xs.length ≤ 1048576 ∧ (sputO xs ps d t a).ps.length ≤ 1048576 := by
  unfold sputO
  split
  · exact ⟨Nat.zero_le _, Nat.zero_le _⟩
  · split
    · exact ⟨Nat.zero_le _, Nat.zero_le _⟩
    · split
      · exact ⟨Nat.zero_le _, Nat.zero_le _⟩
      · exact putOut_len _ _
end Go.Proofs.YtnpbmaajgiapmaaGreatDoor
/- StorePut of the model. -/
namespace Go.Proofs.YtnpbmaajgiapmaaGreatDoor
open Go.RowKit
theorem insL_len (x : Item) : ∀ L : List Item, (insL x L).length = L.length + 1
  | [] => rfl
  | y :: r => by rw [insL]; split <;> simp [insL_len x r]
set_option maxHeartbeats 16000000 in
set_option maxRecDepth 100000 in
theorem specStorePut_any (vs vp : Value) (xs : List ByteArray) (ps : List (Int × ByteArray)) (d t : ByteArray) (a : Int) (w : World) (hn : xs.length ≤ 1048576) (hn2 : ps.length ≤ 1048576) (hd : d.size ≤ 1048576) (ht : t.size ≤ 1048576) (hr : Reads w vs xs) (hp : ReadsP w vp ps) :
    Calls Tryz.prog 22 #[.agg #[vs, vp], .string d, .string t, .int .i64 a] w fun e w' => KOutIs w.heap.size e w' (sputO xs ps d t a) ∧ Below w.heap.size w w' := by
  obtain ⟨i0, hi, hz0, hz1, hz2⟩ := info_parts Tryz.infoItem
  have HZC := hide (show (Value.agg #[.string ⟨#[]⟩, .string ⟨#[]⟩]).cells.size = 2 from rfl)
  have HR := hide hr
  have HP := hide hp
  obtain ⟨p1, c1, rfl, _⟩ := hr
  obtain ⟨p2, c2, rfl, _⟩ := hp
  obtain ⟨W, hW⟩ : ∃ W, W = (w.alloc (.cells #[.slice p1 xs.length c1, .slice p2 ps.length c2] 30)).alloc (.cells #[.slice none 0 0, .slice none 0 0, .string ⟨#[]⟩, .int .i64 0] 38) := ⟨_, rfl⟩
  have HB0 := hide (show Below w.heap.size w W by rw [hW]; exact ((Below.refl _ _).alloc (Nat.le_refl _) _).alloc (by simp) _)
  have HWS := hide (show w.heap.size + 2 = W.heap.size by rw [hW]; simp)
  have HRD := hide (show Row W w.heap.size 30 [.slice p1 xs.length c1, .slice p2 ps.length c2] by rw [hW]; exact (row_new w _ _).alloc _)
  have HRO := hide (show Row W (w.heap.size + 1) 38 [.slice none 0 0, .slice none 0 0, .string ⟨#[]⟩, .int .i64 0] by
    rw [hW]
    have := row_new (w.alloc (.cells #[.slice p1 xs.length c1, .slice p2 ps.length c2] 30)) [.slice none 0 0, .slice none 0 0, .string ⟨#[]⟩, .int .i64 0] 38
    simpa using this)
  have HR1 := hide (HR.out.below HB0.out (Nat.le_refl _))
  have HP1 := hide (HP.out.below HB0.out (Nat.le_refl _))
  obtain ⟨o, ho⟩ : ∃ o, o = sputO xs ps d t a := ⟨_, rfl⟩
  have HOE := hide ho
  rw [← ho]
  clear ho
  by_cases h8 : 8000 < t.size
  · have HE := hide (show o = kill 2 by rw [HOE.out, sputO, if_pos h8])
    have h8i : (8000 : Int) < (t.size : Int) := by omega
    go_enter Tryz.func22, Tryz.ntmps22
    go_wp2_with fail
    rw [← hW]
    clear hW
    refine (l09Ill_any 2 _).mono ?_
    rintro e y1 ⟨rfl, hby⟩
    have HBY1 := hide (HB0.out.trans (hby.mono HB0.out.size))
    have HRY1 := hide (HRO.out.below hby HRO.out.lt)
    clear hby
    have g0 : y1.cell? ⟨w.heap.size + 1, 0, none⟩ = some (.slice none 0 0) := HRY1.out.cell 0
    have h0 := HRY1.out.free 0
    have g1 : y1.cell? ⟨w.heap.size + 1, 1, none⟩ = some (.slice none 0 0) := HRY1.out.cell 1
    have h1 := HRY1.out.free 1
    have g2 : y1.cell? ⟨w.heap.size + 1, 2, none⟩ = some (.string ⟨#[]⟩) := HRY1.out.cell 2
    have h2 := HRY1.out.free 2
    have g3 : y1.cell? ⟨w.heap.size + 1, 3, none⟩ = some (.int .i64 0) := HRY1.out.cell 3
    have h3 := HRY1.out.free 3
    go_wp2
    obtain ⟨r0, r1, r2, r3, KG⟩ := four HRY1.out (.slice none 0 0) (.slice none 0 0) (.string ⟨#[]⟩) (.int .i64 2)
    exact bodyPost_ret (v := .agg #[.slice none 0 0, .slice none 0 0, .string ⟨#[]⟩, .int .i64 2]) (by simp [results, Tryz.results22, go_sem, r0, r1, r2, r3]) rfl ⟨by rw [HE.out]; exact KOutIs.ill _ _ _, KG.toBelow HBY1.out HBY1.out.size (by simp)⟩
  have h8i : ¬ (8000 : Int) < (t.size : Int) := by omega
  obtain ⟨C, hC⟩ : ∃ C, C = forC xs ps d := ⟨_, rfl⟩
  have HCE := hide hC
  have HOE := hide (show o = if C ≠ 0 then kill C else if badM (putL (itemsO xs ps) d t) then kill 9 else kput xs ps (storeB (putL (itemsO xs ps) d t)) a by rw [HOE.out, sputO, if_neg h8, hC])
  clear hC
  go_enter Tryz.func22, Tryz.ntmps22
  go_wp2_with fail
  rw [← hW]
  clear hW
  refine (l09Begin_any _ _ xs ps d _ hn hn2 hd HR1.out HP1.out).mono ?_
  rw [← HCE.out]
  rintro e w1 ⟨⟨v, rfl, hO⟩, hb1⟩
  have HZ1 := hide hb1
  have HB1 := hide (HB0.out.trans (hb1.mono HB0.out.size))
  have HRO1 := hide (HRO.out.below hb1 HRO.out.lt)
  have HOI := hide hO
  clear hb1 hO
  by_cases hc : C = 0
  rotate_left
  · have HE := hide (show o = kill C by rw [HOE.out, if_pos hc])
    have hcb : (C != 0) = true := by simpa using hc
    clear hc
    go_wp2_with fail
    refine (l09Ill_any C _).mono ?_
    rintro e y2 ⟨rfl, hby⟩
    have HBY2 := hide (HB1.out.trans (hby.mono HB1.out.size))
    have HRY2 := hide (HRO1.out.below hby HRO1.out.lt)
    clear hby
    have g0 : y2.cell? ⟨w.heap.size + 1, 0, none⟩ = some (.slice none 0 0) := HRY2.out.cell 0
    have h0 := HRY2.out.free 0
    have g1 : y2.cell? ⟨w.heap.size + 1, 1, none⟩ = some (.slice none 0 0) := HRY2.out.cell 1
    have h1 := HRY2.out.free 1
    have g2 : y2.cell? ⟨w.heap.size + 1, 2, none⟩ = some (.string ⟨#[]⟩) := HRY2.out.cell 2
    have h2 := HRY2.out.free 2
    have g3 : y2.cell? ⟨w.heap.size + 1, 3, none⟩ = some (.int .i64 0) := HRY2.out.cell 3
    have h3 := HRY2.out.free 3
    go_wp2
    obtain ⟨r0, r1, r2, r3, KG⟩ := four HRY2.out (.slice none 0 0) (.slice none 0 0) (.string ⟨#[]⟩) (.int .i64 C)
    exact bodyPost_ret (v := .agg #[.slice none 0 0, .slice none 0 0, .string ⟨#[]⟩, .int .i64 C]) (by simp [results, Tryz.results22, go_sem, r0, r1, r2, r3]) rfl ⟨by rw [HE.out]; exact KOutIs.ill _ _ _, KG.toBelow HBY2.out HBY2.out.size (by simp)⟩
  subst hc
  obtain ⟨_, hkk, hid⟩ := forC_ok HCE.out.symm
  obtain ⟨L, hL⟩ : ∃ L, L = itemsO xs ps := ⟨_, rfl⟩
  rw [← hL] at hkk HOI
  obtain ⟨hRS, hOK, hlen⟩ := keptO_items hkk
  have HRS := hide hRS
  have HOJ := hide (HOI.out rfl)
  have HRI := hide (readsIt_of HOJ.out)
  obtain ⟨M, hM⟩ : ∃ M, M = putL L d t := ⟨_, rfl⟩
  have HGE := hide (show o = if badM M then kill 9 else kput xs ps (storeB M) a by rw [HOE.out, if_neg (by simp), hM, hL])
  have HOKM := hide (show ∀ x ∈ M, OkI x by rw [hM]; exact putL_ok hOK hid (by omega))
  have HLM := hide (show M.length ≤ 20 by rw [hM]; have := putL_len (L := L) d t; omega)
  have HME := hide hM
  clear hL hkk hRS hOK hid hM
  go_wp2_with fail
  refine (l09At_any _ L d _ HRI.out (by omega)).mono ?_
  obtain ⟨q, hq⟩ : ∃ q, q = atL L d := ⟨_, rfl⟩
  have hcs := atL_cases L d
  rw [← hq] at hcs ⊢
  clear hq
  rintro e X0 ⟨rfl, hb2⟩
  have HX0 := hide (HZ1.out.trans (hb2.mono HZ1.out.size))
  have HBX0 := hide (HB1.out.trans (hb2.mono HB1.out.size))
  have HROX := hide (HRO1.out.below hb2 HRO1.out.lt)
  have HRIX := hide (HRI.out.below hb2 (Nat.le_refl _))
  clear hb2 HZ1
  by_cases hfull : q < 0 ∧ 12 ≤ L.length
  · have HE := hide (show o = kill 9 by
      rw [HGE.out, if_pos]
      left
      rcases hcs with ⟨k, hk, e1, _⟩ | ⟨_, e2⟩
      · omega
      · have hd : delL L d = L := List.filter_eq_self.2 fun p hp => by
          have := List.find?_eq_none.1 e2 p hp
          simpa using this
        have : M.length = L.length + 1 := by
          rw [HME.out]
          unfold putL
          rw [hd]
          exact insL_len _ _
        omega)
    obtain ⟨hf1, hf2⟩ := hfull
    have hf3 : (12 : Int) ≤ (L.length : Int) := by omega
    obtain ⟨pp, cap, rfl, hcl, hcm, _, _⟩ := it_news HRIX.out
    clear hcs
    go_wp2_with fail
    refine (l09Ill_any 9 _).mono ?_
    rintro e y3 ⟨rfl, hby⟩
    have HBY3 := hide (HBX0.out.trans (hby.mono HBX0.out.size))
    have HRY3 := hide (HROX.out.below hby HROX.out.lt)
    clear hby
    have g0 : y3.cell? ⟨w.heap.size + 1, 0, none⟩ = some (.slice none 0 0) := HRY3.out.cell 0
    have h0 := HRY3.out.free 0
    have g1 : y3.cell? ⟨w.heap.size + 1, 1, none⟩ = some (.slice none 0 0) := HRY3.out.cell 1
    have h1 := HRY3.out.free 1
    have g2 : y3.cell? ⟨w.heap.size + 1, 2, none⟩ = some (.string ⟨#[]⟩) := HRY3.out.cell 2
    have h2 := HRY3.out.free 2
    have g3 : y3.cell? ⟨w.heap.size + 1, 3, none⟩ = some (.int .i64 0) := HRY3.out.cell 3
    have h3 := HRY3.out.free 3
    go_wp2
    obtain ⟨r0, r1, r2, r3, KG⟩ := four HRY3.out (.slice none 0 0) (.slice none 0 0) (.string ⟨#[]⟩) (.int .i64 9)
    exact bodyPost_ret (v := .agg #[.slice none 0 0, .slice none 0 0, .string ⟨#[]⟩, .int .i64 9]) (by simp [results, Tryz.results22, go_sem, r0, r1, r2, r3]) rfl ⟨by rw [HE.out]; exact KOutIs.ill _ _ _, KG.toBelow HBY3.out HBY3.out.size (by simp)⟩
  obtain ⟨pp, cap, rfl, hcl, hcm, hn1x, hn2x⟩ := it_news HRIX.out
  obtain ⟨p9, cap9, hv9, _, _, h49⟩ := HRIX.out
  have HCELL := hide (show ∀ j (h : j < L.length), ∃ g off, pp = some ⟨g, off, none⟩ ∧ g < X0.heap.size ∧ X0.cell? ⟨g, off + j * 2, none⟩ = some (.string (L[j]'h).1) from fun j h => by
    obtain ⟨g, off, rfl, hg, hc⟩ := h49 (by omega)
    cases hv9
    exact ⟨g, off, rfl, hg, (hc j h).1⟩)
  obtain ⟨XB, hXB⟩ : ∃ XB, XB = X0.heap.size := ⟨_, rfl⟩
  have HXW := hide (show (w.heap.size < XB ∧ W.heap.size ≤ XB) from by
    have h1 := HX0.out.size
    have h2 := HWS.out
    omega)
  have HXZ := hide (show XB ≤ X0.heap.size from Nat.le_of_eq hXB)
  have HN1A := hide (show ∀ (n : Nat) (y : World), n ≤ L.length → Below XB X0 y → 0 < n → ∃ g off, cutP pp cap 0 = some ⟨g, off, none⟩ ∧ ∀ j u, (itc (L.take n))[j]? = some u → y.cell? ⟨g, off + j, none⟩ = some u from fun n y hnl hb h0 => by
    obtain ⟨g, off, e, hc⟩ := hn1x n hnl h0
    exact ⟨g, off, e, fun j u hu => (hb.cell (p := ⟨g, off + j, none⟩) (by rw [hXB]; exact World.block_lt_of_cell? X0 ⟨g, off + j, none⟩ (hc j u hu))).trans (hc j u hu)⟩)
  have HN2A := hide (show ∀ (n : Nat) (y : World), n ≤ L.length → Below XB X0 y → 0 < L.length - n → ∃ g off, cutP pp cap n = some ⟨g, off, none⟩ ∧ ∀ j u, (itc (L.drop n))[j]? = some u → y.cell? ⟨g, off + j, none⟩ = some u from fun n y hnl hb h0 => by
    obtain ⟨g, off, e, hc⟩ := hn2x n hnl h0
    exact ⟨g, off, e, fun j u hu => (hb.cell (p := ⟨g, off + j, none⟩) (by rw [hXB]; exact World.block_lt_of_cell? X0 ⟨g, off + j, none⟩ (hc j u hu))).trans (hc j u hu)⟩)
  have HQ := hide hfull
  have HCS := hide hcs
  have hcm2 := hcm
  unfold maxLen at hcm2
  clear hn1x hn2x hv9 h49 hcs
  have hqq : q < 0 ∨ 0 ≤ q := by omega
  have HXBE := hide hXB
  clear hXB
  have hgo : (decide (q < 0) && decide ((12 : Int) ≤ (L.length : Int))) = false := by
    have := HQ.out
    rw [Bool.and_eq_false_iff]
    by_cases h1 : q < 0
    · right; simp; omega
    · left; simp; omega
  by_cases hq0 : q < 0
  · have hq12 : ¬ (12 : Int) ≤ (L.length : Int) := by have := HQ.out; omega
    have HF := hide (show L.find? (sameId d) = none from by
      rcases HCS.out with ⟨k, hk, e1, _⟩ | ⟨_, e2⟩
      · omega
      · exact e2)
    have hq1 : ¬ 0 ≤ q := by omega
    clear hfull hgo hqq
    go_wp2
    go_loopw [12] (fun x wr => ∃ (X : World) (n : Nat), X = wr ∧ x = .int .i64 (n : Int) ∧ n ≤ L.length ∧ Hid (∀ j (h : j < n) (h' : j < L.length), ltB (L[j]'h').1 d = true) ∧ Hid (Below XB X0 X)) (fun x _ => L.length - (intOf x).toNat)
    case atStart => exact ⟨_, 0, rfl, rfl, Nat.zero_le _, hide (fun j h => by omega), hide (Below.refl _ _)⟩
    case round =>
      obtain ⟨X, n, rfl, rfl, hnl, HLT, HXX⟩ := hrel
      have HXB := hide (show XB ≤ X.heap.size from Nat.le_trans HXZ.out HXX.out.size)
      by_cases hlt : n < L.length
      · have hni : (n : Int) < (L.length : Int) := by omega
        obtain ⟨g, off, hpp, hg, hcc⟩ := HCELL.out n hlt
        have c0 : X.cell? ⟨g, off + n * 2, none⟩ = some (.string (L[n]'hlt).1) := (HXX.out.cell (p := ⟨g, off + n * 2, none⟩) (by have := HXBE.out; show g < XB; omega)).trans hcc
        have hless := less_eq (L[n]'hlt).1 d
        cases hlb : ltB (L[n]'hlt).1 d with
        | true =>
          rw [hlb] at hless
          have HLT2 := hide (show ∀ j (h : j < n + 1) (h' : j < L.length), ltB (L[j]'h').1 d = true from fun j h h' => by
            by_cases e : j = n
            · subst e; exact hlb
            · exact HLT.out j (by omega) h')
          clear hlb hcc
          subst hpp
          go_wp2
          go_roundw
          case rel => exact ⟨X, n + 1, rfl, by go_num, by omega, HLT2, HXX⟩
          case measure => simp [intOf]; omega
        | false =>
          rw [hlb] at hless
          have HNL := hide (show ∀ h : n < L.length, ltB (L[n]'h).1 d = false from fun _ => hlb)
          clear hlb hcc
          have HTK := hide (show (itc (L.take n)).length = n * 2 by rw [itc_len, List.length_take, Nat.min_eq_left hnl])
          have HN1 := hide (show ∀ y : World, Below XB X0 y → 0 < n → ∃ g off, cutP pp cap 0 = some ⟨g, off, none⟩ ∧ ∀ j u, (itc (L.take n))[j]? = some u → y.cell? ⟨g, off + j, none⟩ = some u from fun y hb h0 => HN1A.out n y hnl hb h0)
          have hMe : M = L.take n ++ (d, t) :: L.drop n := by rw [HME.out]; exact putL_new HRS.out n (find_none HF.out) hnl HLT.out HNL.out
          have HMI := hide (show itc M = (itc (L.take n) ++ [.string d, .string t]) ++ itc (L.drop n) by rw [hMe, itc_append, itc]; simp)
          have HMLn := hide (show M.length = n + 1 + (L.length - n) by rw [hMe, List.length_append, List.length_cons, List.length_take, List.length_drop, Nat.min_eq_left hnl]; omega)
          have HDK := hide (show (itc (L.drop n)).length = (L.length - n) * 2 by rw [itc_len, List.length_drop])
          have HN2 := hide (show ∀ y : World, Below XB X0 y → 0 < L.length - n → ∃ g off, cutP pp cap n = some ⟨g, off, none⟩ ∧ ∀ j u, (itc (L.drop n))[j]? = some u → y.cell? ⟨g, off + j, none⟩ = some u from fun y hb h0 => HN2A.out n y hnl hb h0)
          have hM12 : M.length ≤ 12 := by have := HMLn.out; omega
          have HOW := hide (show o = writeO xs ps M a by
            rw [HGE.out]
            unfold writeO
            by_cases hb : 8000 < (storeB M).size
            · rw [if_pos (.inr hb), if_pos hb]
            · rw [if_neg (by rintro (h | h) <;> omega), if_neg hb])
          clear hMe hM12
          subst hpp
          have hsl1 := run_cutTo (some ⟨g, off, none⟩) L.length cap n (by omega)
          have HO2 := hide (show (X.alloc (.cells #[] 75)).ownsRow XB 75 2 (.slice (some ⟨X.heap.size, 0, none⟩) 0 0) 0 [] by
            have := World.ownsRow_lit (e := 75) (base := XB) (size := 2) X #[] 0 HXB.out (by unfold maxLen; omega) rfl
            simpa using this)
          have HZ2 := hide (show Below XB X0 (X.alloc (.cells #[] 75)) from HXX.out.alloc HXB.out _)
          have HSZ2 := hide (show XB ≤ (X.alloc (.cells #[] 75)).heap.size by have := HXB.out; simp; omega)
          go_wp2_with (at_builtin; refine wpList_append_any (w := X.alloc (.cells #[] 75)) rfl (.tmp 54) (.tmp 57) 49 rfl XB 75 i0 _ 2 32 Tryz.underlying49 hi hz0 hz1 hz2 HZC.out (by omega) _ 0 [] rfl HO2.out (cutP (some ⟨g, off, none⟩) cap 0) n cap (itc (L.take n)) rfl HTK.out (HN1.out _ HZ2.out) (fun u hu => itc_one _ u hu) (by unfold maxLen; omega) (by omega) HSZ2.out ?_)
          intro v5 Y hown hgrow
          have HZ5 := hide (HZ2.out.grown hgrow HSZ2.out (fun g hg => (HO2.out.lt g hg).1))
          have HO5 := hide (show Y.ownsRow XB 75 2 v5 n (itc (L.take n)) by simpa using hown)
          have HSZ5 := hide (show XB ≤ Y.heap.size from Nat.le_trans HSZ2.out hgrow.size)
          clear hown hgrow hsl1
          obtain ⟨pv5, cv5, rfl⟩ := own_sliceX HO5.out
          have HRW := hide (row_new Y [.string d, .string t] 75)
          have HO5a := hide (own_belowX HO5.out (below_new Y (.cells #[.string d, .string t] 75)))
          have HZ5a := hide (show Below XB X0 (Y.alloc (.cells #[.string d, .string t] 75)) from HZ5.out.alloc HSZ5.out _)
          have HSZ5a := hide (show XB ≤ (Y.alloc (.cells #[.string d, .string t] 75)).heap.size by have := HSZ5.out; simp; omega)
          have HNW := hide (show ∃ g off, (some ⟨Y.heap.size, 0, none⟩ : Option Addr) = some ⟨g, off, none⟩ ∧ ∀ (j : Nat) u, ([Value.string d, Value.string t] : List Value)[j]? = some u → (Y.alloc (.cells #[.string d, .string t] 75)).cell? ⟨g, off + j, none⟩ = some u from ⟨_, _, rfl, fun j u hu => by
            rw [Nat.zero_add, HRW.out.cell]; exact hu⟩)
          go_wp2_with (at_builtin; refine wpList_append_any (w := Y.alloc (.cells #[.string d, .string t] 75)) rfl (.tmp 59) (.tmp 63) 49 rfl XB 75 i0 _ 2 32 Tryz.underlying49 hi hz0 hz1 hz2 HZC.out (by omega) _ n (itc (L.take n)) rfl HO5a.out (some ⟨Y.heap.size, 0, none⟩) 1 1 [.string d, .string t] rfl rfl (fun _ => HNW.out) (by simp [Value.oneCell']) (by unfold maxLen; omega) (by omega) HSZ5a.out ?_)
          intro v6 X2 hown hgrow
          have HZ6 := hide (HZ5a.out.grown hgrow HSZ5a.out (fun g hg => (HO5a.out.lt g hg).1))
          have HO6 := hide hown
          have HSZ6 := hide (show XB ≤ X2.heap.size from Nat.le_trans HSZ5a.out hgrow.size)
          clear hown hgrow
          obtain ⟨pv6, cv6, rfl⟩ := own_sliceX HO6.out
          have HX20 := hide (HX0.out.trans (HZ6.out.mono HXW.out.2))
          have HDX := hide (HRD.out.below HX20.out HRD.out.lt)
          have HC2 := hide (show ∀ y : World, (Instr.slice 49 (.slice (some ⟨g, off, none⟩) L.length cap) (some (.int .i64 (n : Int))) none none).run Tryz.prog y = .ok (.slice (cutP (some ⟨g, off, none⟩) cap n) (L.length - n) (cap - n)) y from fun y => by
            have := run_cutFrom (some ⟨g, off, none⟩) L.length cap n (by omega) y
            exact this)
          go_upto_region 16 with fail
          refine wp_region_held (S := fun y : World => y.cell? ⟨w.heap.size, 0, none⟩ = some (.slice p1 xs.length c1) ∧ y.cell? ⟨w.heap.size, 1, none⟩ = some (.slice p2 ps.length c2)) (by kernel_rfl) ?_
          have HSS := hide (show ∀ y : World, Below XB X2 y → (y.cell? ⟨w.heap.size, 0, none⟩ = some (.slice p1 xs.length c1) ∧ y.cell? ⟨w.heap.size, 1, none⟩ = some (.slice p2 ps.length c2)) from fun y hb => ⟨(HDX.out.below hb HXW.out.1).cell 0, (HDX.out.below hb HXW.out.1).cell 1⟩)
          have HSK := hide (show ∀ (y v : World), Below XB X2 y → Kept [w.heap.size + 1] y v → (v.cell? ⟨w.heap.size, 0, none⟩ = some (.slice p1 xs.length c1) ∧ v.cell? ⟨w.heap.size, 1, none⟩ = some (.slice p2 ps.length c2)) from
            fun y v hb kk => ⟨(kk.row (HDX.out.below hb HXW.out.1) (by simp)).cell 0, (kk.row (HDX.out.below hb HXW.out.1) (by simp)).cell 1⟩)
          have HZ1 := hide (show Below XB X2 { X2 with drawn := X2.drawn + 1 } from (Below.refl _ X2).drew)
          have HO1 := hide (show ({ X2 with drawn := X2.drawn + 1 } : World).ownsRow XB 75 2 (.slice pv6 (n + 1) cv6) (n + 1) (itc (L.take n) ++ [.string d, .string t]) from HO6.out)
          generalize ({ X2 with drawn := X2.drawn + 1 } : World) = Z1 at HZ1 HO1 ⊢
          have HS := hide (HSS.out _ HZ1.out)
          refine wpAnyH_take (i := 0) (oi := _) (v := .agg #[.slice p1 xs.length c1, .slice p2 ps.length c2]) rfl (by kernel_rfl) (by kernel_rfl) (by kernel_rfl) (fun _ _ _ h => h) (Or.inl ⟨by rfl, by intro w hSw; go_split_ands; go_simp <;> omega⟩) HS.out ?_
          simp only [Act.put, List.getElem_toArray, List.getElem_cons_zero, List.setIfInBounds_toArray, List.set_cons_zero, List.set_cons_succ]
          refine wpAnyH_take (i := 1) (oi := _) (v := .slice pv6 (n + 1) cv6) rfl (by kernel_rfl) (by kernel_rfl) (by kernel_rfl) (fun _ _ _ h => h) (Or.inl ⟨by rfl, by intro w hSw; go_split_ands; go_simp <;> omega⟩) HS.out ?_
          simp only [Act.put, List.getElem_toArray, List.getElem_cons_zero, List.getElem_cons_succ, List.setIfInBounds_toArray, List.set_cons_zero, List.set_cons_succ]
          refine wpAnyH_take (i := 2) (oi := _) (v := .slice (some ⟨g, off, none⟩) L.length cap) rfl (by kernel_rfl) (by kernel_rfl) (by kernel_rfl) (fun _ _ _ h => h) (Or.inl ⟨by rfl, by intro w hSw; go_split_ands; go_simp <;> omega⟩) HS.out ?_
          simp only [Act.put, List.getElem_toArray, List.getElem_cons_zero, List.getElem_cons_succ, List.setIfInBounds_toArray, List.set_cons_zero, List.set_cons_succ]
          refine wpAnyH_take (i := 3) (oi := _) (v := .int .i64 (n : Int)) rfl (by kernel_rfl) (by kernel_rfl) (by kernel_rfl) (fun _ _ _ h => h) (Or.inl ⟨by rfl, by intro w hSw; go_split_ands; go_simp <;> omega⟩) HS.out ?_
          simp only [Act.put, List.getElem_toArray, List.getElem_cons_zero, List.getElem_cons_succ, List.setIfInBounds_toArray, List.set_cons_zero, List.set_cons_succ]
          refine wpAnyH_take (i := 4) (oi := _) (v := .slice (cutP (some ⟨g, off, none⟩) cap n) (L.length - n) (cap - n)) rfl (by kernel_rfl) (by kernel_rfl) (by kernel_rfl) (fun _ _ _ h => h) (Or.inl ⟨by rfl, by intro w hSw; go_split_ands; have hsl := HC2.out w; go_simp⟩) HS.out ?_
          simp only [Act.put, List.getElem_toArray, List.getElem_cons_zero, List.getElem_cons_succ, List.setIfInBounds_toArray, List.set_cons_zero, List.set_cons_succ]
          refine wpAnyH_take (i := 6) (oi := _) (v := .int .i64 a) rfl (by kernel_rfl) (by kernel_rfl) (by kernel_rfl) (fun _ _ _ h => h) (Or.inl ⟨by rfl, by intro w hSw; go_split_ands; go_simp <;> omega⟩) HS.out ?_
          simp only [Act.put, List.getElem_toArray, List.getElem_cons_zero, List.getElem_cons_succ, List.setIfInBounds_toArray, List.set_cons_zero, List.set_cons_succ]
          refine wpAnyH_ready (rs := [5]) (by kernel_rfl) (by simp) ?_
          refine AllReadyH.cons (o := _) rfl (fun K hK => ?_) AllReadyH.nil
          have HSZ := hide (show XB ≤ Z1.heap.size from Nat.le_trans HSZ6.out HZ1.out.size)
          refine step_any (w := Z1) rfl (.tmp 70) (.tmp 73) 49 rfl XB 75 i0 _ 2 32 Tryz.underlying49 hi hz0 hz1 hz2 HZC.out (by omega) _ (n + 1) (itc (L.take n) ++ [Value.string d, Value.string t]) rfl HO1.out (cutP (some ⟨g, off, none⟩) cap n) (L.length - n) (cap - n) (itc (L.drop n)) rfl HDK.out (HN2.out Z1 (HZ6.out.trans HZ1.out)) (fun u hu => itc_one _ u hu) (by unfold maxLen; omega) (by omega) HSZ.out ?_
          intro v2 Z2 hown hgrow
          have HZ2 := hide (HZ1.out.grown hgrow HSZ.out (fun g hg => (HO1.out.lt g hg).1))
          have HOM := hide (show Z2.ownsRow XB 75 2 v2 M.length (itc M) by rw [HMI.out, HMLn.out]; exact hown)
          clear hown hgrow
          refine hK.out _ _ (HSS.out _ HZ2.out) (fun _ => ?_)
          clear hK K HS
          have HS := hide (HSS.out _ HZ2.out)
          try simp only [Act.put, List.getElem_toArray, List.getElem_cons_zero, List.getElem_cons_succ, List.setIfInBounds_toArray, List.set_cons_zero, List.set_cons_succ]
          refine wpAnyH_ready (rs := [7]) (by kernel_rfl) (by simp) ?_
          refine AllReadyH.cons (o := _) rfl (fun K hK => ?_) AllReadyH.nil
          have HZW2 := hide (HX20.out.trans (HZ2.out.mono HXW.out.2))
          go_simp
          refine (l09Write_any _ _ _ xs ps M a _ hn hn2 (HR1.out.below HZW2.out (Nat.le_refl _)) (HP1.out.below HZW2.out (Nat.le_refl _)) (readsIt_of HOM.out) HOKM.out HLM.out).mono ?_
          rw [← HOW.out]
          rintro e Z3 ⟨⟨us, up, rfl, o1, o2, dd⟩, hbc⟩
          obtain ⟨s1, s2, s3, rfl⟩ := o1.isSlice
          obtain ⟨s4, s5, s6, rfl⟩ := o2.isSlice
          have hge : w.heap.size + 2 ≤ Z2.heap.size := by
            have h1 := HWS.out
            have h2 := HZW2.out.size
            omega
          have O1 := hide (o1.mono hge)
          have O2 := hide (o2.mono hge)
          have DD := hide dd
          have HZ3 := hide (HZ2.out.trans (hbc.mono (Nat.le_trans HSZ6.out HZ2.out.size)))
          have HZW := hide (HZW2.out.trans (hbc.mono HZW2.out.size))
          have HRZ := hide (HRO.out.below HZW.out HRO.out.lt)
          clear hbc o1 o2 dd hge
          refine hK.out _ _ (HSS.out _ HZ3.out) (fun _ => ?_)
          clear hK K HS
          have HS := hide (HSS.out _ HZ3.out)
          try simp only [Act.put, List.getElem_toArray, List.getElem_cons_zero, List.getElem_cons_succ, List.setIfInBounds_toArray, List.set_cons_zero, List.set_cons_succ]
          refine wpAnyH_ready (rs := [8]) (by kernel_rfl) (by simp) ?_
          refine AllReadyH.cons (o := _) rfl (fun K hK => ?_) AllReadyH.nil
          have d0 : Z3.cell? ⟨w.heap.size + 1, 0, none⟩ = some (.slice none 0 0) := HRZ.out.cell 0
          have d1 : Z3.cell? ⟨w.heap.size + 1, 1, none⟩ = some (.slice none 0 0) := HRZ.out.cell 1
          have d2 : Z3.cell? ⟨w.heap.size + 1, 2, none⟩ = some (.string ⟨#[]⟩) := HRZ.out.cell 2
          have d3 : Z3.cell? ⟨w.heap.size + 1, 3, none⟩ = some (.int .i64 0) := HRZ.out.cell 3
          have f0 := HRZ.out.free 0
          have f1 := HRZ.out.free 1
          have f2 := HRZ.out.free 2
          have f3 := HRZ.out.free 3
          obtain ⟨r0, r1, r2, r3, KG⟩ := four HRZ.out (.slice s1 s2 s3) (.slice s4 s5 s6) (.string o.t) (.int .i64 o.c)
          have HSF := hide (HSK.out _ _ HZ3.out KG)
          have HQ := hide (And.intro r0 (And.intro r1 (And.intro r2 r3)))
          have HKG := hide KG
          clear r0 r1 r2 r3 KG
          go_simp
          refine hK.out _ _ HSF.out (fun _ => ?_)
          clear hK K d0 d1 d2 d3 f0 f1 f2 f3 HS
          refine wpAnyH_done (by kernel_rfl) ?_ _
          go_wp2
          exact bodyPost_ret (v := .agg #[.slice s1 s2 s3, .slice s4 s5 s6, .string o.t, .int .i64 o.c]) (by simp [results, Tryz.results22, go_sem, HQ.out.1, HQ.out.2.1, HQ.out.2.2.1, HQ.out.2.2.2]) rfl
            (kendK HB0.out HZW.out HWS.out HKG.out O1.out O2.out DD.out)
      · have hni : ¬ (n : Int) < (L.length : Int) := by omega
        have HNL := hide (show ∀ h : n < L.length, ltB (L[n]'h).1 d = false from fun h => absurd h hlt)
        have HTK := hide (show (itc (L.take n)).length = n * 2 by rw [itc_len, List.length_take, Nat.min_eq_left hnl])
        have HN1 := hide (show ∀ y : World, Below XB X0 y → 0 < n → ∃ g off, cutP pp cap 0 = some ⟨g, off, none⟩ ∧ ∀ j u, (itc (L.take n))[j]? = some u → y.cell? ⟨g, off + j, none⟩ = some u from fun y hb h0 => HN1A.out n y hnl hb h0)
        have hMe : M = L.take n ++ (d, t) :: L.drop n := by rw [HME.out]; exact putL_new HRS.out n (find_none HF.out) hnl HLT.out HNL.out
        have HMI := hide (show itc M = (itc (L.take n) ++ [.string d, .string t]) ++ itc (L.drop n) by rw [hMe, itc_append, itc]; simp)
        have HMLn := hide (show M.length = n + 1 + (L.length - n) by rw [hMe, List.length_append, List.length_cons, List.length_take, List.length_drop, Nat.min_eq_left hnl]; omega)
        have HDK := hide (show (itc (L.drop n)).length = (L.length - n) * 2 by rw [itc_len, List.length_drop])
        have HN2 := hide (show ∀ y : World, Below XB X0 y → 0 < L.length - n → ∃ g off, cutP pp cap n = some ⟨g, off, none⟩ ∧ ∀ j u, (itc (L.drop n))[j]? = some u → y.cell? ⟨g, off + j, none⟩ = some u from fun y hb h0 => HN2A.out n y hnl hb h0)
        have hM12 : M.length ≤ 12 := by have := HMLn.out; omega
        have HOW := hide (show o = writeO xs ps M a by
          rw [HGE.out]
          unfold writeO
          by_cases hb : 8000 < (storeB M).size
          · rw [if_pos (.inr hb), if_pos hb]
          · rw [if_neg (by rintro (h | h) <;> omega), if_neg hb])
        clear hMe hM12
        have hsl1 := run_cutTo pp L.length cap n (by omega)
        have HO2 := hide (show (X.alloc (.cells #[] 75)).ownsRow XB 75 2 (.slice (some ⟨X.heap.size, 0, none⟩) 0 0) 0 [] by
          have := World.ownsRow_lit (e := 75) (base := XB) (size := 2) X #[] 0 HXB.out (by unfold maxLen; omega) rfl
          simpa using this)
        have HZ2 := hide (show Below XB X0 (X.alloc (.cells #[] 75)) from HXX.out.alloc HXB.out _)
        have HSZ2 := hide (show XB ≤ (X.alloc (.cells #[] 75)).heap.size by have := HXB.out; simp; omega)
        go_wp2_with (at_builtin; refine wpList_append_any (w := X.alloc (.cells #[] 75)) rfl (.tmp 54) (.tmp 57) 49 rfl XB 75 i0 _ 2 32 Tryz.underlying49 hi hz0 hz1 hz2 HZC.out (by omega) _ 0 [] rfl HO2.out (cutP pp cap 0) n cap (itc (L.take n)) rfl HTK.out (HN1.out _ HZ2.out) (fun u hu => itc_one _ u hu) (by unfold maxLen; omega) (by omega) HSZ2.out ?_)
        intro v5 Y hown hgrow
        have HZ5 := hide (HZ2.out.grown hgrow HSZ2.out (fun g hg => (HO2.out.lt g hg).1))
        have HO5 := hide (show Y.ownsRow XB 75 2 v5 n (itc (L.take n)) by simpa using hown)
        have HSZ5 := hide (show XB ≤ Y.heap.size from Nat.le_trans HSZ2.out hgrow.size)
        clear hown hgrow hsl1
        obtain ⟨pv5, cv5, rfl⟩ := own_sliceX HO5.out
        have HRW := hide (row_new Y [.string d, .string t] 75)
        have HO5a := hide (own_belowX HO5.out (below_new Y (.cells #[.string d, .string t] 75)))
        have HZ5a := hide (show Below XB X0 (Y.alloc (.cells #[.string d, .string t] 75)) from HZ5.out.alloc HSZ5.out _)
        have HSZ5a := hide (show XB ≤ (Y.alloc (.cells #[.string d, .string t] 75)).heap.size by have := HSZ5.out; simp; omega)
        have HNW := hide (show ∃ g off, (some ⟨Y.heap.size, 0, none⟩ : Option Addr) = some ⟨g, off, none⟩ ∧ ∀ (j : Nat) u, ([Value.string d, Value.string t] : List Value)[j]? = some u → (Y.alloc (.cells #[.string d, .string t] 75)).cell? ⟨g, off + j, none⟩ = some u from ⟨_, _, rfl, fun j u hu => by
          rw [Nat.zero_add, HRW.out.cell]; exact hu⟩)
        go_wp2_with (at_builtin; refine wpList_append_any (w := Y.alloc (.cells #[.string d, .string t] 75)) rfl (.tmp 59) (.tmp 63) 49 rfl XB 75 i0 _ 2 32 Tryz.underlying49 hi hz0 hz1 hz2 HZC.out (by omega) _ n (itc (L.take n)) rfl HO5a.out (some ⟨Y.heap.size, 0, none⟩) 1 1 [.string d, .string t] rfl rfl (fun _ => HNW.out) (by simp [Value.oneCell']) (by unfold maxLen; omega) (by omega) HSZ5a.out ?_)
        intro v6 X2 hown hgrow
        have HZ6 := hide (HZ5a.out.grown hgrow HSZ5a.out (fun g hg => (HO5a.out.lt g hg).1))
        have HO6 := hide hown
        have HSZ6 := hide (show XB ≤ X2.heap.size from Nat.le_trans HSZ5a.out hgrow.size)
        clear hown hgrow
        obtain ⟨pv6, cv6, rfl⟩ := own_sliceX HO6.out
        have HX20 := hide (HX0.out.trans (HZ6.out.mono HXW.out.2))
        have HDX := hide (HRD.out.below HX20.out HRD.out.lt)
        have HC2 := hide (show ∀ y : World, (Instr.slice 49 (.slice pp L.length cap) (some (.int .i64 (n : Int))) none none).run Tryz.prog y = .ok (.slice (cutP pp cap n) (L.length - n) (cap - n)) y from fun y => by
          have := run_cutFrom pp L.length cap n (by omega) y
          exact this)
        go_upto_region 16 with fail
        refine wp_region_held (S := fun y : World => y.cell? ⟨w.heap.size, 0, none⟩ = some (.slice p1 xs.length c1) ∧ y.cell? ⟨w.heap.size, 1, none⟩ = some (.slice p2 ps.length c2)) (by kernel_rfl) ?_
        have HSS := hide (show ∀ y : World, Below XB X2 y → (y.cell? ⟨w.heap.size, 0, none⟩ = some (.slice p1 xs.length c1) ∧ y.cell? ⟨w.heap.size, 1, none⟩ = some (.slice p2 ps.length c2)) from fun y hb => ⟨(HDX.out.below hb HXW.out.1).cell 0, (HDX.out.below hb HXW.out.1).cell 1⟩)
        have HSK := hide (show ∀ (y v : World), Below XB X2 y → Kept [w.heap.size + 1] y v → (v.cell? ⟨w.heap.size, 0, none⟩ = some (.slice p1 xs.length c1) ∧ v.cell? ⟨w.heap.size, 1, none⟩ = some (.slice p2 ps.length c2)) from
          fun y v hb kk => ⟨(kk.row (HDX.out.below hb HXW.out.1) (by simp)).cell 0, (kk.row (HDX.out.below hb HXW.out.1) (by simp)).cell 1⟩)
        have HZ1 := hide (show Below XB X2 { X2 with drawn := X2.drawn + 1 } from (Below.refl _ X2).drew)
        have HO1 := hide (show ({ X2 with drawn := X2.drawn + 1 } : World).ownsRow XB 75 2 (.slice pv6 (n + 1) cv6) (n + 1) (itc (L.take n) ++ [.string d, .string t]) from HO6.out)
        generalize ({ X2 with drawn := X2.drawn + 1 } : World) = Z1 at HZ1 HO1 ⊢
        have HS := hide (HSS.out _ HZ1.out)
        refine wpAnyH_take (i := 0) (oi := _) (v := .agg #[.slice p1 xs.length c1, .slice p2 ps.length c2]) rfl (by kernel_rfl) (by kernel_rfl) (by kernel_rfl) (fun _ _ _ h => h) (Or.inl ⟨by rfl, by intro w hSw; go_split_ands; go_simp <;> omega⟩) HS.out ?_
        simp only [Act.put, List.getElem_toArray, List.getElem_cons_zero, List.setIfInBounds_toArray, List.set_cons_zero, List.set_cons_succ]
        refine wpAnyH_take (i := 1) (oi := _) (v := .slice pv6 (n + 1) cv6) rfl (by kernel_rfl) (by kernel_rfl) (by kernel_rfl) (fun _ _ _ h => h) (Or.inl ⟨by rfl, by intro w hSw; go_split_ands; go_simp <;> omega⟩) HS.out ?_
        simp only [Act.put, List.getElem_toArray, List.getElem_cons_zero, List.getElem_cons_succ, List.setIfInBounds_toArray, List.set_cons_zero, List.set_cons_succ]
        refine wpAnyH_take (i := 2) (oi := _) (v := .slice pp L.length cap) rfl (by kernel_rfl) (by kernel_rfl) (by kernel_rfl) (fun _ _ _ h => h) (Or.inl ⟨by rfl, by intro w hSw; go_split_ands; go_simp <;> omega⟩) HS.out ?_
        simp only [Act.put, List.getElem_toArray, List.getElem_cons_zero, List.getElem_cons_succ, List.setIfInBounds_toArray, List.set_cons_zero, List.set_cons_succ]
        refine wpAnyH_take (i := 3) (oi := _) (v := .int .i64 (n : Int)) rfl (by kernel_rfl) (by kernel_rfl) (by kernel_rfl) (fun _ _ _ h => h) (Or.inl ⟨by rfl, by intro w hSw; go_split_ands; go_simp <;> omega⟩) HS.out ?_
        simp only [Act.put, List.getElem_toArray, List.getElem_cons_zero, List.getElem_cons_succ, List.setIfInBounds_toArray, List.set_cons_zero, List.set_cons_succ]
        refine wpAnyH_take (i := 4) (oi := _) (v := .slice (cutP pp cap n) (L.length - n) (cap - n)) rfl (by kernel_rfl) (by kernel_rfl) (by kernel_rfl) (fun _ _ _ h => h) (Or.inl ⟨by rfl, by intro w hSw; go_split_ands; have hsl := HC2.out w; go_simp⟩) HS.out ?_
        simp only [Act.put, List.getElem_toArray, List.getElem_cons_zero, List.getElem_cons_succ, List.setIfInBounds_toArray, List.set_cons_zero, List.set_cons_succ]
        refine wpAnyH_take (i := 6) (oi := _) (v := .int .i64 a) rfl (by kernel_rfl) (by kernel_rfl) (by kernel_rfl) (fun _ _ _ h => h) (Or.inl ⟨by rfl, by intro w hSw; go_split_ands; go_simp <;> omega⟩) HS.out ?_
        simp only [Act.put, List.getElem_toArray, List.getElem_cons_zero, List.getElem_cons_succ, List.setIfInBounds_toArray, List.set_cons_zero, List.set_cons_succ]
        refine wpAnyH_ready (rs := [5]) (by kernel_rfl) (by simp) ?_
        refine AllReadyH.cons (o := _) rfl (fun K hK => ?_) AllReadyH.nil
        have HSZ := hide (show XB ≤ Z1.heap.size from Nat.le_trans HSZ6.out HZ1.out.size)
        refine step_any (w := Z1) rfl (.tmp 70) (.tmp 73) 49 rfl XB 75 i0 _ 2 32 Tryz.underlying49 hi hz0 hz1 hz2 HZC.out (by omega) _ (n + 1) (itc (L.take n) ++ [Value.string d, Value.string t]) rfl HO1.out (cutP pp cap n) (L.length - n) (cap - n) (itc (L.drop n)) rfl HDK.out (HN2.out Z1 (HZ6.out.trans HZ1.out)) (fun u hu => itc_one _ u hu) (by unfold maxLen; omega) (by omega) HSZ.out ?_
        intro v2 Z2 hown hgrow
        have HZ2 := hide (HZ1.out.grown hgrow HSZ.out (fun g hg => (HO1.out.lt g hg).1))
        have HOM := hide (show Z2.ownsRow XB 75 2 v2 M.length (itc M) by rw [HMI.out, HMLn.out]; exact hown)
        clear hown hgrow
        refine hK.out _ _ (HSS.out _ HZ2.out) (fun _ => ?_)
        clear hK K HS
        have HS := hide (HSS.out _ HZ2.out)
        try simp only [Act.put, List.getElem_toArray, List.getElem_cons_zero, List.getElem_cons_succ, List.setIfInBounds_toArray, List.set_cons_zero, List.set_cons_succ]
        refine wpAnyH_ready (rs := [7]) (by kernel_rfl) (by simp) ?_
        refine AllReadyH.cons (o := _) rfl (fun K hK => ?_) AllReadyH.nil
        have HZW2 := hide (HX20.out.trans (HZ2.out.mono HXW.out.2))
        go_simp
        refine (l09Write_any _ _ _ xs ps M a _ hn hn2 (HR1.out.below HZW2.out (Nat.le_refl _)) (HP1.out.below HZW2.out (Nat.le_refl _)) (readsIt_of HOM.out) HOKM.out HLM.out).mono ?_
        rw [← HOW.out]
        rintro e Z3 ⟨⟨us, up, rfl, o1, o2, dd⟩, hbc⟩
        obtain ⟨s1, s2, s3, rfl⟩ := o1.isSlice
        obtain ⟨s4, s5, s6, rfl⟩ := o2.isSlice
        have hge : w.heap.size + 2 ≤ Z2.heap.size := by
          have h1 := HWS.out
          have h2 := HZW2.out.size
          omega
        have O1 := hide (o1.mono hge)
        have O2 := hide (o2.mono hge)
        have DD := hide dd
        have HZ3 := hide (HZ2.out.trans (hbc.mono (Nat.le_trans HSZ6.out HZ2.out.size)))
        have HZW := hide (HZW2.out.trans (hbc.mono HZW2.out.size))
        have HRZ := hide (HRO.out.below HZW.out HRO.out.lt)
        clear hbc o1 o2 dd hge
        refine hK.out _ _ (HSS.out _ HZ3.out) (fun _ => ?_)
        clear hK K HS
        have HS := hide (HSS.out _ HZ3.out)
        try simp only [Act.put, List.getElem_toArray, List.getElem_cons_zero, List.getElem_cons_succ, List.setIfInBounds_toArray, List.set_cons_zero, List.set_cons_succ]
        refine wpAnyH_ready (rs := [8]) (by kernel_rfl) (by simp) ?_
        refine AllReadyH.cons (o := _) rfl (fun K hK => ?_) AllReadyH.nil
        have d0 : Z3.cell? ⟨w.heap.size + 1, 0, none⟩ = some (.slice none 0 0) := HRZ.out.cell 0
        have d1 : Z3.cell? ⟨w.heap.size + 1, 1, none⟩ = some (.slice none 0 0) := HRZ.out.cell 1
        have d2 : Z3.cell? ⟨w.heap.size + 1, 2, none⟩ = some (.string ⟨#[]⟩) := HRZ.out.cell 2
        have d3 : Z3.cell? ⟨w.heap.size + 1, 3, none⟩ = some (.int .i64 0) := HRZ.out.cell 3
        have f0 := HRZ.out.free 0
        have f1 := HRZ.out.free 1
        have f2 := HRZ.out.free 2
        have f3 := HRZ.out.free 3
        obtain ⟨r0, r1, r2, r3, KG⟩ := four HRZ.out (.slice s1 s2 s3) (.slice s4 s5 s6) (.string o.t) (.int .i64 o.c)
        have HSF := hide (HSK.out _ _ HZ3.out KG)
        have HQ := hide (And.intro r0 (And.intro r1 (And.intro r2 r3)))
        have HKG := hide KG
        clear r0 r1 r2 r3 KG
        go_simp
        refine hK.out _ _ HSF.out (fun _ => ?_)
        clear hK K d0 d1 d2 d3 f0 f1 f2 f3 HS
        refine wpAnyH_done (by kernel_rfl) ?_ _
        go_wp2
        exact bodyPost_ret (v := .agg #[.slice s1 s2 s3, .slice s4 s5 s6, .string o.t, .int .i64 o.c]) (by simp [results, Tryz.results22, go_sem, HQ.out.1, HQ.out.2.1, HQ.out.2.2.1, HQ.out.2.2.2]) rfl
          (kendK HB0.out HZW.out HWS.out HKG.out O1.out O2.out DD.out)
  · have hq1 : 0 ≤ q := by omega
    have HF := hide (show ∃ (k : Nat) (hk : k < L.length), (L[k]'hk).1 = d from by
      rcases HCS.out with ⟨k, hk, _, e2, _⟩ | ⟨e1, _⟩
      · exact ⟨k, hk, e2⟩
      · omega)
    clear hfull hgo hqq
    go_wp2
    go_loopw [12] (fun x wr => ∃ (X : World) (n : Nat), X = wr ∧ x = .int .i64 (n : Int) ∧ n ≤ L.length ∧ Hid (∀ j (h : j < n) (h' : j < L.length), ltB (L[j]'h').1 d = true) ∧ Hid (Below XB X0 X)) (fun x _ => L.length - (intOf x).toNat)
    case atStart => exact ⟨_, 0, rfl, rfl, Nat.zero_le _, hide (fun j h => by omega), hide (Below.refl _ _)⟩
    case round =>
      obtain ⟨X, n, rfl, rfl, hnl, HLT, HXX⟩ := hrel
      have HXB := hide (show XB ≤ X.heap.size from Nat.le_trans HXZ.out HXX.out.size)
      by_cases hlt : n < L.length
      · have hni : (n : Int) < (L.length : Int) := by omega
        obtain ⟨g, off, hpp, hg, hcc⟩ := HCELL.out n hlt
        have c0 : X.cell? ⟨g, off + n * 2, none⟩ = some (.string (L[n]'hlt).1) := (HXX.out.cell (p := ⟨g, off + n * 2, none⟩) (by have := HXBE.out; show g < XB; omega)).trans hcc
        have hless := less_eq (L[n]'hlt).1 d
        cases hlb : ltB (L[n]'hlt).1 d with
        | true =>
          rw [hlb] at hless
          have HLT2 := hide (show ∀ j (h : j < n + 1) (h' : j < L.length), ltB (L[j]'h').1 d = true from fun j h h' => by
            by_cases e : j = n
            · subst e; exact hlb
            · exact HLT.out j (by omega) h')
          clear hlb hcc
          subst hpp
          go_wp2
          go_roundw
          case rel => exact ⟨X, n + 1, rfl, by go_num, by omega, HLT2, HXX⟩
          case measure => simp [intOf]; omega
        | false =>
          rw [hlb] at hless
          have HNL := hide (show ∀ h : n < L.length, ltB (L[n]'h).1 d = false from fun _ => hlb)
          clear hlb hcc
          have HTK := hide (show (itc (L.take n)).length = n * 2 by rw [itc_len, List.length_take, Nat.min_eq_left hnl])
          have HN1 := hide (show ∀ y : World, Below XB X0 y → 0 < n → ∃ g off, cutP pp cap 0 = some ⟨g, off, none⟩ ∧ ∀ j u, (itc (L.take n))[j]? = some u → y.cell? ⟨g, off + j, none⟩ = some u from fun y hb h0 => HN1A.out n y hnl hb h0)
          obtain ⟨kf, hkf, hkd⟩ := HF.out
          obtain ⟨hnk, hMe⟩ := putL_found (t := t) HRS.out n kf hkf hkd hnl HLT.out HNL.out
          rw [← HME.out] at hMe
          have hnlt : n + 1 ≤ L.length := by omega
          clear hkd hnk
          have HMI := hide (show itc M = (itc (L.take n) ++ [.string d, .string t]) ++ itc (L.drop (n + 1)) by rw [hMe, itc_append, itc]; simp)
          have HMLn := hide (show M.length = n + 1 + (L.length - (n + 1)) by rw [hMe, List.length_append, List.length_cons, List.length_take, List.length_drop, Nat.min_eq_left hnl]; omega)
          have HDK := hide (show (itc (L.drop (n + 1))).length = (L.length - (n + 1)) * 2 by rw [itc_len, List.length_drop])
          have HN2 := hide (show ∀ y : World, Below XB X0 y → 0 < L.length - (n + 1) → ∃ g off, cutP pp cap (n + 1) = some ⟨g, off, none⟩ ∧ ∀ j u, (itc (L.drop (n + 1)))[j]? = some u → y.cell? ⟨g, off + j, none⟩ = some u from fun y hb h0 => HN2A.out (n + 1) y hnlt hb h0)
          have hM12 : M.length ≤ 12 := by have := HMLn.out; omega
          have hwn : IntKind.i64.wrap ((n : Int) + 1) = (n : Int) + 1 := by rw [IntKind.wrap_i64]; omega
          have HOW := hide (show o = writeO xs ps M a by
            rw [HGE.out]
            unfold writeO
            by_cases hb : 8000 < (storeB M).size
            · rw [if_pos (.inr hb), if_pos hb]
            · rw [if_neg (by rintro (h | h) <;> omega), if_neg hb])
          clear hMe hM12
          subst hpp
          have hsl1 := run_cutTo (some ⟨g, off, none⟩) L.length cap n (by omega)
          have HO2 := hide (show (X.alloc (.cells #[] 75)).ownsRow XB 75 2 (.slice (some ⟨X.heap.size, 0, none⟩) 0 0) 0 [] by
            have := World.ownsRow_lit (e := 75) (base := XB) (size := 2) X #[] 0 HXB.out (by unfold maxLen; omega) rfl
            simpa using this)
          have HZ2 := hide (show Below XB X0 (X.alloc (.cells #[] 75)) from HXX.out.alloc HXB.out _)
          have HSZ2 := hide (show XB ≤ (X.alloc (.cells #[] 75)).heap.size by have := HXB.out; simp; omega)
          go_wp2_with (at_builtin; refine wpList_append_any (w := X.alloc (.cells #[] 75)) rfl (.tmp 54) (.tmp 57) 49 rfl XB 75 i0 _ 2 32 Tryz.underlying49 hi hz0 hz1 hz2 HZC.out (by omega) _ 0 [] rfl HO2.out (cutP (some ⟨g, off, none⟩) cap 0) n cap (itc (L.take n)) rfl HTK.out (HN1.out _ HZ2.out) (fun u hu => itc_one _ u hu) (by unfold maxLen; omega) (by omega) HSZ2.out ?_)
          intro v5 Y hown hgrow
          have HZ5 := hide (HZ2.out.grown hgrow HSZ2.out (fun g hg => (HO2.out.lt g hg).1))
          have HO5 := hide (show Y.ownsRow XB 75 2 v5 n (itc (L.take n)) by simpa using hown)
          have HSZ5 := hide (show XB ≤ Y.heap.size from Nat.le_trans HSZ2.out hgrow.size)
          clear hown hgrow hsl1
          obtain ⟨pv5, cv5, rfl⟩ := own_sliceX HO5.out
          have HRW := hide (row_new Y [.string d, .string t] 75)
          have HO5a := hide (own_belowX HO5.out (below_new Y (.cells #[.string d, .string t] 75)))
          have HZ5a := hide (show Below XB X0 (Y.alloc (.cells #[.string d, .string t] 75)) from HZ5.out.alloc HSZ5.out _)
          have HSZ5a := hide (show XB ≤ (Y.alloc (.cells #[.string d, .string t] 75)).heap.size by have := HSZ5.out; simp; omega)
          have HNW := hide (show ∃ g off, (some ⟨Y.heap.size, 0, none⟩ : Option Addr) = some ⟨g, off, none⟩ ∧ ∀ (j : Nat) u, ([Value.string d, Value.string t] : List Value)[j]? = some u → (Y.alloc (.cells #[.string d, .string t] 75)).cell? ⟨g, off + j, none⟩ = some u from ⟨_, _, rfl, fun j u hu => by
            rw [Nat.zero_add, HRW.out.cell]; exact hu⟩)
          go_wp2_with (at_builtin; refine wpList_append_any (w := Y.alloc (.cells #[.string d, .string t] 75)) rfl (.tmp 59) (.tmp 63) 49 rfl XB 75 i0 _ 2 32 Tryz.underlying49 hi hz0 hz1 hz2 HZC.out (by omega) _ n (itc (L.take n)) rfl HO5a.out (some ⟨Y.heap.size, 0, none⟩) 1 1 [.string d, .string t] rfl rfl (fun _ => HNW.out) (by simp [Value.oneCell']) (by unfold maxLen; omega) (by omega) HSZ5a.out ?_)
          intro v6 X2 hown hgrow
          have HZ6 := hide (HZ5a.out.grown hgrow HSZ5a.out (fun g hg => (HO5a.out.lt g hg).1))
          have HO6 := hide hown
          have HSZ6 := hide (show XB ≤ X2.heap.size from Nat.le_trans HSZ5a.out hgrow.size)
          clear hown hgrow
          obtain ⟨pv6, cv6, rfl⟩ := own_sliceX HO6.out
          have HX20 := hide (HX0.out.trans (HZ6.out.mono HXW.out.2))
          have HDX := hide (HRD.out.below HX20.out HRD.out.lt)
          have HC2 := hide (show ∀ y : World, (Instr.slice 49 (.slice (some ⟨g, off, none⟩) L.length cap) (some (.int .i64 ((n : Int) + 1))) none none).run Tryz.prog y = .ok (.slice (cutP (some ⟨g, off, none⟩) cap (n + 1)) (L.length - (n + 1)) (cap - (n + 1))) y from fun y => by
            have := run_cutFrom (some ⟨g, off, none⟩) L.length cap (n + 1) (by omega) y
            rw [show ((n + 1 : Nat) : Int) = (n : Int) + 1 from by omega] at this
            exact this)
          go_upto_region 16 with fail
          refine wp_region_held (S := fun y : World => y.cell? ⟨w.heap.size, 0, none⟩ = some (.slice p1 xs.length c1) ∧ y.cell? ⟨w.heap.size, 1, none⟩ = some (.slice p2 ps.length c2)) (by kernel_rfl) ?_
          have HSS := hide (show ∀ y : World, Below XB X2 y → (y.cell? ⟨w.heap.size, 0, none⟩ = some (.slice p1 xs.length c1) ∧ y.cell? ⟨w.heap.size, 1, none⟩ = some (.slice p2 ps.length c2)) from fun y hb => ⟨(HDX.out.below hb HXW.out.1).cell 0, (HDX.out.below hb HXW.out.1).cell 1⟩)
          have HSK := hide (show ∀ (y v : World), Below XB X2 y → Kept [w.heap.size + 1] y v → (v.cell? ⟨w.heap.size, 0, none⟩ = some (.slice p1 xs.length c1) ∧ v.cell? ⟨w.heap.size, 1, none⟩ = some (.slice p2 ps.length c2)) from
            fun y v hb kk => ⟨(kk.row (HDX.out.below hb HXW.out.1) (by simp)).cell 0, (kk.row (HDX.out.below hb HXW.out.1) (by simp)).cell 1⟩)
          have HZ1 := hide (show Below XB X2 { X2 with drawn := X2.drawn + 1 } from (Below.refl _ X2).drew)
          have HO1 := hide (show ({ X2 with drawn := X2.drawn + 1 } : World).ownsRow XB 75 2 (.slice pv6 (n + 1) cv6) (n + 1) (itc (L.take n) ++ [.string d, .string t]) from HO6.out)
          generalize ({ X2 with drawn := X2.drawn + 1 } : World) = Z1 at HZ1 HO1 ⊢
          have HS := hide (HSS.out _ HZ1.out)
          refine wpAnyH_take (i := 0) (oi := _) (v := .agg #[.slice p1 xs.length c1, .slice p2 ps.length c2]) rfl (by kernel_rfl) (by kernel_rfl) (by kernel_rfl) (fun _ _ _ h => h) (Or.inl ⟨by rfl, by intro w hSw; go_split_ands; go_simp <;> omega⟩) HS.out ?_
          simp only [Act.put, List.getElem_toArray, List.getElem_cons_zero, List.setIfInBounds_toArray, List.set_cons_zero, List.set_cons_succ]
          refine wpAnyH_take (i := 1) (oi := _) (v := .slice pv6 (n + 1) cv6) rfl (by kernel_rfl) (by kernel_rfl) (by kernel_rfl) (fun _ _ _ h => h) (Or.inl ⟨by rfl, by intro w hSw; go_split_ands; go_simp <;> omega⟩) HS.out ?_
          simp only [Act.put, List.getElem_toArray, List.getElem_cons_zero, List.getElem_cons_succ, List.setIfInBounds_toArray, List.set_cons_zero, List.set_cons_succ]
          refine wpAnyH_take (i := 2) (oi := _) (v := .slice (some ⟨g, off, none⟩) L.length cap) rfl (by kernel_rfl) (by kernel_rfl) (by kernel_rfl) (fun _ _ _ h => h) (Or.inl ⟨by rfl, by intro w hSw; go_split_ands; go_simp <;> omega⟩) HS.out ?_
          simp only [Act.put, List.getElem_toArray, List.getElem_cons_zero, List.getElem_cons_succ, List.setIfInBounds_toArray, List.set_cons_zero, List.set_cons_succ]
          refine wpAnyH_take (i := 3) (oi := _) (v := .int .i64 ((n : Int) + 1)) rfl (by kernel_rfl) (by kernel_rfl) (by kernel_rfl) (fun _ _ _ h => h) (Or.inl ⟨by rfl, by intro w hSw; go_split_ands; go_simp <;> omega⟩) HS.out ?_
          simp only [Act.put, List.getElem_toArray, List.getElem_cons_zero, List.getElem_cons_succ, List.setIfInBounds_toArray, List.set_cons_zero, List.set_cons_succ]
          refine wpAnyH_take (i := 4) (oi := _) (v := .slice (cutP (some ⟨g, off, none⟩) cap (n + 1)) (L.length - (n + 1)) (cap - (n + 1))) rfl (by kernel_rfl) (by kernel_rfl) (by kernel_rfl) (fun _ _ _ h => h) (Or.inl ⟨by rfl, by intro w hSw; go_split_ands; have hsl := HC2.out w; go_simp⟩) HS.out ?_
          simp only [Act.put, List.getElem_toArray, List.getElem_cons_zero, List.getElem_cons_succ, List.setIfInBounds_toArray, List.set_cons_zero, List.set_cons_succ]
          refine wpAnyH_take (i := 6) (oi := _) (v := .int .i64 a) rfl (by kernel_rfl) (by kernel_rfl) (by kernel_rfl) (fun _ _ _ h => h) (Or.inl ⟨by rfl, by intro w hSw; go_split_ands; go_simp <;> omega⟩) HS.out ?_
          simp only [Act.put, List.getElem_toArray, List.getElem_cons_zero, List.getElem_cons_succ, List.setIfInBounds_toArray, List.set_cons_zero, List.set_cons_succ]
          refine wpAnyH_ready (rs := [5]) (by kernel_rfl) (by simp) ?_
          refine AllReadyH.cons (o := _) rfl (fun K hK => ?_) AllReadyH.nil
          have HSZ := hide (show XB ≤ Z1.heap.size from Nat.le_trans HSZ6.out HZ1.out.size)
          refine step_any (w := Z1) rfl (.tmp 70) (.tmp 73) 49 rfl XB 75 i0 _ 2 32 Tryz.underlying49 hi hz0 hz1 hz2 HZC.out (by omega) _ (n + 1) (itc (L.take n) ++ [Value.string d, Value.string t]) rfl HO1.out (cutP (some ⟨g, off, none⟩) cap (n + 1)) (L.length - (n + 1)) (cap - (n + 1)) (itc (L.drop (n + 1))) rfl HDK.out (HN2.out Z1 (HZ6.out.trans HZ1.out)) (fun u hu => itc_one _ u hu) (by unfold maxLen; omega) (by omega) HSZ.out ?_
          intro v2 Z2 hown hgrow
          have HZ2 := hide (HZ1.out.grown hgrow HSZ.out (fun g hg => (HO1.out.lt g hg).1))
          have HOM := hide (show Z2.ownsRow XB 75 2 v2 M.length (itc M) by rw [HMI.out, HMLn.out]; exact hown)
          clear hown hgrow
          refine hK.out _ _ (HSS.out _ HZ2.out) (fun _ => ?_)
          clear hK K HS
          have HS := hide (HSS.out _ HZ2.out)
          try simp only [Act.put, List.getElem_toArray, List.getElem_cons_zero, List.getElem_cons_succ, List.setIfInBounds_toArray, List.set_cons_zero, List.set_cons_succ]
          refine wpAnyH_ready (rs := [7]) (by kernel_rfl) (by simp) ?_
          refine AllReadyH.cons (o := _) rfl (fun K hK => ?_) AllReadyH.nil
          have HZW2 := hide (HX20.out.trans (HZ2.out.mono HXW.out.2))
          go_simp
          refine (l09Write_any _ _ _ xs ps M a _ hn hn2 (HR1.out.below HZW2.out (Nat.le_refl _)) (HP1.out.below HZW2.out (Nat.le_refl _)) (readsIt_of HOM.out) HOKM.out HLM.out).mono ?_
          rw [← HOW.out]
          rintro e Z3 ⟨⟨us, up, rfl, o1, o2, dd⟩, hbc⟩
          obtain ⟨s1, s2, s3, rfl⟩ := o1.isSlice
          obtain ⟨s4, s5, s6, rfl⟩ := o2.isSlice
          have hge : w.heap.size + 2 ≤ Z2.heap.size := by
            have h1 := HWS.out
            have h2 := HZW2.out.size
            omega
          have O1 := hide (o1.mono hge)
          have O2 := hide (o2.mono hge)
          have DD := hide dd
          have HZ3 := hide (HZ2.out.trans (hbc.mono (Nat.le_trans HSZ6.out HZ2.out.size)))
          have HZW := hide (HZW2.out.trans (hbc.mono HZW2.out.size))
          have HRZ := hide (HRO.out.below HZW.out HRO.out.lt)
          clear hbc o1 o2 dd hge
          refine hK.out _ _ (HSS.out _ HZ3.out) (fun _ => ?_)
          clear hK K HS
          have HS := hide (HSS.out _ HZ3.out)
          try simp only [Act.put, List.getElem_toArray, List.getElem_cons_zero, List.getElem_cons_succ, List.setIfInBounds_toArray, List.set_cons_zero, List.set_cons_succ]
          refine wpAnyH_ready (rs := [8]) (by kernel_rfl) (by simp) ?_
          refine AllReadyH.cons (o := _) rfl (fun K hK => ?_) AllReadyH.nil
          have d0 : Z3.cell? ⟨w.heap.size + 1, 0, none⟩ = some (.slice none 0 0) := HRZ.out.cell 0
          have d1 : Z3.cell? ⟨w.heap.size + 1, 1, none⟩ = some (.slice none 0 0) := HRZ.out.cell 1
          have d2 : Z3.cell? ⟨w.heap.size + 1, 2, none⟩ = some (.string ⟨#[]⟩) := HRZ.out.cell 2
          have d3 : Z3.cell? ⟨w.heap.size + 1, 3, none⟩ = some (.int .i64 0) := HRZ.out.cell 3
          have f0 := HRZ.out.free 0
          have f1 := HRZ.out.free 1
          have f2 := HRZ.out.free 2
          have f3 := HRZ.out.free 3
          obtain ⟨r0, r1, r2, r3, KG⟩ := four HRZ.out (.slice s1 s2 s3) (.slice s4 s5 s6) (.string o.t) (.int .i64 o.c)
          have HSF := hide (HSK.out _ _ HZ3.out KG)
          have HQ := hide (And.intro r0 (And.intro r1 (And.intro r2 r3)))
          have HKG := hide KG
          clear r0 r1 r2 r3 KG
          go_simp
          refine hK.out _ _ HSF.out (fun _ => ?_)
          clear hK K d0 d1 d2 d3 f0 f1 f2 f3 HS
          refine wpAnyH_done (by kernel_rfl) ?_ _
          go_wp2
          exact bodyPost_ret (v := .agg #[.slice s1 s2 s3, .slice s4 s5 s6, .string o.t, .int .i64 o.c]) (by simp [results, Tryz.results22, go_sem, HQ.out.1, HQ.out.2.1, HQ.out.2.2.1, HQ.out.2.2.2]) rfl
            (kendK HB0.out HZW.out HWS.out HKG.out O1.out O2.out DD.out)
      · have hni : ¬ (n : Int) < (L.length : Int) := by omega
        have HNL := hide (show ∀ h : n < L.length, ltB (L[n]'h).1 d = false from fun h => absurd h hlt)
        obtain ⟨kf, hkf, hkd⟩ := HF.out
        have h1 := HLT.out kf (by omega) hkf
        rw [hkd, ltB_irrefl] at h1
        cases h1
end Go.Proofs.YtnpbmaajgiapmaaGreatDoor
/- The law of StorePut, from what the program's StorePut does. -/
namespace Go.Proofs.YtnpbmaajgiapmaaGreatDoor
open Go.RowKit

set_option maxRecDepth 100000 in
set_option maxHeartbeats 8000000 in
theorem lawKPut (w : World) (d : ByteArray) (t : ByteArray) (a : Int) (hd : d.size ≤ 1048576) (ht : t.size ≤ 1048576) (HI : ∀ (vs vp : Value) (xs : List ByteArray) (ps : List (Int × ByteArray)) (w' : World), Below w.heap.size w w' → xs.length ≤ 1048576 → ps.length ≤ 1048576 → Reads w' vs xs → ReadsP w' vp ps →
      Calls Tryz.prog 23 #[.agg #[vs, vp], .string d, .string t, .int .i64 a] w' fun e w'' => KOutIs w'.heap.size e w'' (sputO xs ps d t a) ∧ Below w'.heap.size w' w'')
    (vs vp : Value) (xs : List ByteArray) (ps : List (Int × ByteArray)) (hr : Reads w vs xs) (hp : ReadsP w vp ps) (HO2 : Small xs ps → ((sputO xs ps d t a)).xs.length ≤ 1048576 ∧ ((sputO xs ps d t a)).ps.length ≤ 1048576) :
    Calls Tryz.prog 6 #[.agg #[vs, vp], .string d, .string t, .int .i64 a] w fun e w' => e = .returned (.bool true) ∧ Below w.heap.size w w' := by
  have hb0 := below_new w (.cells #[vs, vp] 25)
  have HR0 := hide (hr.below hb0 (Nat.le_refl _))
  have HP0 := hide (hp.below hb0 (Nat.le_refl _))
  have HB0 := hide hb0
  have HII := hide HI
  have HOO := hide HO2
  obtain ⟨o, ho⟩ : ∃ o, o = (sputO xs ps d t a) := ⟨_, rfl⟩
  have HEQ := hide ho
  clear ho
  have I0 := hide (And.intro hr.isIn hp.isIn)
  obtain ⟨p1, c1, rfl, hq⟩ := hr
  obtain ⟨p2, c2, rfl, hq2⟩ := hp
  have HN0 := hide (row_new w [.slice p1 xs.length c1, .slice p2 ps.length c2] 25)
  clear hb0 hq hq2 HI HO2
  go_enter Tryz.func6, Tryz.ntmps6
  go_wp2_with fail
  refine (szDisk_any _ _ xs ps _ HR0.out HP0.out).mono ?_
  rintro e w1 ⟨r, rfl, hsm, hb1⟩
  have H1 := hide (Stab.go hb1 (P := fun w' => Below w.heap.size w w' ∧ Reads w' (.slice p1 xs.length c1) xs ∧ ReadsP w' (.slice p2 ps.length c2) ps ∧ Row w' w.heap.size 25 [.slice p1 xs.length c1, .slice p2 ps.length c2]) ⟨HB0.out, HR0.out, HP0.out, HN0.out⟩)
  rcases hsm with hneg | ⟨hpos, hsm⟩
  · clear hb1
    go_wp2
    go_ret
    exact ⟨rfl, H1.out.1⟩
  have hneg : ¬ r < 0 := by omega
  have a0 : w1.cell? ⟨w.heap.size, 0, none⟩ = some (.slice p1 xs.length c1) := H1.out.2.2.2.cell 0
  have a1 : w1.cell? ⟨w.heap.size, 1, none⟩ = some (.slice p2 ps.length c2) := H1.out.2.2.2.cell 1
  have HSM := hide hsm
  clear hb1 HR0 HP0 HN0 HB0 hsm
  go_wp2_with fail
  refine (toDisk_any _ _ xs ps _ H1.out.2.1 H1.out.2.2.1 HSM.out).mono ?_
  rintro e w2 ⟨us, up, rfl, o1, o2, dd, hb2⟩
  have H2 := hide (Stab.go hb2 (P := fun w' => Below w.heap.size w w' ∧ Reads w' (.slice p1 xs.length c1) xs ∧ ReadsP w' (.slice p2 ps.length c2) ps ∧ Row w' w.heap.size 25 [.slice p1 xs.length c1, .slice p2 ps.length c2]) H1.out)
  have HRu := hide o1.reads
  have HPu := hide o2.reads
  obtain ⟨x1, x2, x3, x4⟩ := HSM.out
  have S2 := hide H2.out.1.size
  clear o1 o2 dd hb2 H1 x2 x4 a0 a1
  go_wp2_with fail
  refine (specStorePut_any _ _ xs ps d t a _ x1 x3 hd ht HRu.out HPu.out).mono ?_
  rw [← HEQ.out]
  rintro e w3 ⟨⟨ss, sp, rfl, o1, o2, dd⟩, hb3⟩
  obtain ⟨i1, j1, k1, rfl⟩ := o1.isSlice
  obtain ⟨i2, j2, k2, rfl⟩ := o2.isSlice
  have bn := below_new w3 (.cells #[.slice i1 j1 k1, .slice i2 j2 k2, .string o.t, .int .i64 o.c] 38)
  have H2a := hide (Stab.go (hb3.trans (bn.mono hb3.size)) (P := fun w' => Below w.heap.size w w' ∧ Reads w' (.slice p1 xs.length c1) xs ∧ ReadsP w' (.slice p2 ps.length c2) ps ∧ Row w' w.heap.size 25 [.slice p1 xs.length c1, .slice p2 ps.length c2]) H2.out)
  have H3 := hide (show (fun w' => Below w.heap.size w w' ∧ Reads w' (.slice p1 xs.length c1) xs ∧ ReadsP w' (.slice p2 ps.length c2) ps ∧ Row w' w.heap.size 25 [.slice p1 xs.length c1, .slice p2 ps.length c2] ∧ Reads w' (.slice i1 j1 k1) o.xs ∧ ReadsP w' (.slice i2 j2 k2) o.ps ∧ Row w' w3.heap.size 38 [.slice i1 j1 k1, .slice i2 j2 k2, .string o.t, .int .i64 o.c]) (w3.alloc (.cells #[.slice i1 j1 k1, .slice i2 j2 k2, .string o.t, .int .i64 o.c] 38)) from ⟨H2a.out.1, H2a.out.2.1, H2a.out.2.2.1, H2a.out.2.2.2, o1.reads.below bn (Nat.le_refl _), o2.reads.below bn (Nat.le_refl _), row_new w3 _ _⟩)
  have I3 := hide (And.intro o1.isIn o2.isIn)
  have S3 := hide (And.intro H2.out.1.size hb3.size)
  have a0 : (w3.alloc (.cells #[.slice i1 j1 k1, .slice i2 j2 k2, .string o.t, .int .i64 o.c] 38)).cell? ⟨w.heap.size, 0, none⟩ = some (.slice p1 xs.length c1) := H3.out.2.2.2.1.cell 0
  have a1 : (w3.alloc (.cells #[.slice i1 j1 k1, .slice i2 j2 k2, .string o.t, .int .i64 o.c] 38)).cell? ⟨w.heap.size, 1, none⟩ = some (.slice p2 ps.length c2) := H3.out.2.2.2.1.cell 1
  clear o1 o2 dd hb3 bn H2 H2a HRu HPu
  go_wp2_with fail
  refine (toDisk_any _ _ xs ps _ H3.out.2.1 H3.out.2.2.1 HSM.out).mono ?_
  rintro e w4 ⟨xs', xp', rfl, o1, o2, dd, hb4⟩
  obtain ⟨q1, m1, d1, rfl⟩ := o1.isSlice
  obtain ⟨q2, m2, d2, rfl⟩ := o2.isSlice
  obtain ⟨B4, hB4⟩ : ∃ b, b = w3.heap.size + 1 := ⟨_, rfl⟩
  simp only [World.size_alloc] at o1 o2
  rw [← hB4] at o1 o2
  have bn := below_new w4 (.cells #[.slice q1 m1 d1, .slice q2 m2 d2] 30)
  have H3a := hide (Stab.go (hb4.trans (bn.mono hb4.size)) (P := fun w' => Below w.heap.size w w' ∧ Reads w' (.slice p1 xs.length c1) xs ∧ ReadsP w' (.slice p2 ps.length c2) ps ∧ Row w' w.heap.size 25 [.slice p1 xs.length c1, .slice p2 ps.length c2] ∧ Reads w' (.slice i1 j1 k1) o.xs ∧ ReadsP w' (.slice i2 j2 k2) o.ps ∧ Row w' w3.heap.size 38 [.slice i1 j1 k1, .slice i2 j2 k2, .string o.t, .int .i64 o.c]) H3.out)
  have H4 := hide (show (fun w' => Below w.heap.size w w' ∧ Reads w' (.slice p1 xs.length c1) xs ∧ ReadsP w' (.slice p2 ps.length c2) ps ∧ Row w' w.heap.size 25 [.slice p1 xs.length c1, .slice p2 ps.length c2] ∧ Reads w' (.slice i1 j1 k1) o.xs ∧ ReadsP w' (.slice i2 j2 k2) o.ps ∧ Row w' w3.heap.size 38 [.slice i1 j1 k1, .slice i2 j2 k2, .string o.t, .int .i64 o.c] ∧ OwnS 9 B4 w' (.slice q1 m1 d1) xs ∧ OwnP 92 B4 w' (.slice q2 m2 d2) ps ∧ Row w' w4.heap.size 30 [.slice q1 m1 d1, .slice q2 m2 d2]) (w4.alloc (.cells #[.slice q1 m1 d1, .slice q2 m2 d2] 30)) from ⟨H3a.out.1, H3a.out.2.1, H3a.out.2.2.1, H3a.out.2.2.2.1, H3a.out.2.2.2.2.1, H3a.out.2.2.2.2.2.1, H3a.out.2.2.2.2.2.2, o1.below bn (Nat.le_refl _), o2.below bn (Nat.le_refl _), row_new w4 _ _⟩)
  have I4 := hide (And.intro o1.isIn o2.isIn)
  have S4 := hide (show w3.heap.size + 1 ≤ w4.heap.size by have := hb4.size; simpa using this)
  have D4 := hide dd
  clear o1 o2 dd hb4 bn H3 H3a a0 a1
  go_wp2_with fail
  refine (HII.out _ _ xs ps _ H4.out.1 x1 x3 H4.out.2.2.2.2.2.2.2.1.reads H4.out.2.2.2.2.2.2.2.2.1.reads).mono ?_
  rw [← HEQ.out]
  rintro e w5 ⟨⟨gs, gp, rfl, o1, o2, dd⟩, hb5⟩
  obtain ⟨r1, n1, e1, rfl⟩ := o1.isSlice
  obtain ⟨r2, n2, e2, rfl⟩ := o2.isSlice
  obtain ⟨B5, hB5⟩ : ∃ b, b = w4.heap.size + 1 := ⟨_, rfl⟩
  simp only [World.size_alloc] at o1 o2
  rw [← hB5] at o1 o2
  have bn := below_new w5 (.cells #[.slice r1 n1 e1, .slice r2 n2 e2, .string o.t, .int .i64 o.c] 38)
  have H4a := hide (Stab.go (hb5.trans (bn.mono hb5.size)) (P := fun w' => Below w.heap.size w w' ∧ Reads w' (.slice p1 xs.length c1) xs ∧ ReadsP w' (.slice p2 ps.length c2) ps ∧ Row w' w.heap.size 25 [.slice p1 xs.length c1, .slice p2 ps.length c2] ∧ Reads w' (.slice i1 j1 k1) o.xs ∧ ReadsP w' (.slice i2 j2 k2) o.ps ∧ Row w' w3.heap.size 38 [.slice i1 j1 k1, .slice i2 j2 k2, .string o.t, .int .i64 o.c] ∧ OwnS 9 B4 w' (.slice q1 m1 d1) xs ∧ OwnP 92 B4 w' (.slice q2 m2 d2) ps ∧ Row w' w4.heap.size 30 [.slice q1 m1 d1, .slice q2 m2 d2]) H4.out)
  have H5 := hide (show (fun w' => Below w.heap.size w w' ∧ Reads w' (.slice p1 xs.length c1) xs ∧ ReadsP w' (.slice p2 ps.length c2) ps ∧ Row w' w.heap.size 25 [.slice p1 xs.length c1, .slice p2 ps.length c2] ∧ Reads w' (.slice i1 j1 k1) o.xs ∧ ReadsP w' (.slice i2 j2 k2) o.ps ∧ Row w' w3.heap.size 38 [.slice i1 j1 k1, .slice i2 j2 k2, .string o.t, .int .i64 o.c] ∧ OwnS 9 B4 w' (.slice q1 m1 d1) xs ∧ OwnP 92 B4 w' (.slice q2 m2 d2) ps ∧ Row w' w4.heap.size 30 [.slice q1 m1 d1, .slice q2 m2 d2] ∧ OwnS 9 B5 w' (.slice r1 n1 e1) o.xs ∧ OwnP 92 B5 w' (.slice r2 n2 e2) o.ps ∧ Row w' w5.heap.size 38 [.slice r1 n1 e1, .slice r2 n2 e2, .string o.t, .int .i64 o.c]) (w5.alloc (.cells #[.slice r1 n1 e1, .slice r2 n2 e2, .string o.t, .int .i64 o.c] 38)) from ⟨H4a.out.1, H4a.out.2.1, H4a.out.2.2.1, H4a.out.2.2.2.1, H4a.out.2.2.2.2.1, H4a.out.2.2.2.2.2.1, H4a.out.2.2.2.2.2.2.1, H4a.out.2.2.2.2.2.2.2.1, H4a.out.2.2.2.2.2.2.2.2.1, H4a.out.2.2.2.2.2.2.2.2.2, o1.below bn (Nat.le_refl _), o2.below bn (Nat.le_refl _), row_new w5 _ _⟩)
  have I5 := hide (And.intro o1.isIn o2.isIn)
  have S5 := hide (show w4.heap.size + 1 ≤ w5.heap.size by have := hb5.size; simpa using this)
  have D5 := hide dd
  obtain ⟨l1, l2⟩ := HOO.out HSM.out
  rw [← HEQ.out] at l1 l2
  have b0 : (w5.alloc (.cells #[.slice r1 n1 e1, .slice r2 n2 e2, .string o.t, .int .i64 o.c] 38)).cell? ⟨w3.heap.size, 0, none⟩ = some (.slice i1 j1 k1) := H5.out.2.2.2.2.2.2.1.cell 0
  have b1 : (w5.alloc (.cells #[.slice r1 n1 e1, .slice r2 n2 e2, .string o.t, .int .i64 o.c] 38)).cell? ⟨w3.heap.size, 1, none⟩ = some (.slice i2 j2 k2) := H5.out.2.2.2.2.2.2.1.cell 1
  have b2 : (w5.alloc (.cells #[.slice r1 n1 e1, .slice r2 n2 e2, .string o.t, .int .i64 o.c] 38)).cell? ⟨w3.heap.size, 2, none⟩ = some (.string o.t) := H5.out.2.2.2.2.2.2.1.cell 2
  have b3 : (w5.alloc (.cells #[.slice r1 n1 e1, .slice r2 n2 e2, .string o.t, .int .i64 o.c] 38)).cell? ⟨w3.heap.size, 3, none⟩ = some (.int .i64 o.c) := H5.out.2.2.2.2.2.2.1.cell 3
  clear o1 o2 dd hb5 bn H4 H4a HOO
  go_wp2_with fail
  refine (eqStoreOut_same _ _ _ _ o.xs o.ps o.t o.c _ l1 l2 H5.out.2.2.2.2.2.2.2.2.2.2.1.reads H5.out.2.2.2.2.2.2.2.2.2.2.2.1.reads H5.out.2.2.2.2.1 H5.out.2.2.2.2.2.1).mono ?_
  rintro e w6 ⟨rfl, hb6⟩
  have H6 := hide (Stab.go hb6 (P := fun w' => Below w.heap.size w w' ∧ Reads w' (.slice p1 xs.length c1) xs ∧ ReadsP w' (.slice p2 ps.length c2) ps ∧ Row w' w.heap.size 25 [.slice p1 xs.length c1, .slice p2 ps.length c2] ∧ Reads w' (.slice i1 j1 k1) o.xs ∧ ReadsP w' (.slice i2 j2 k2) o.ps ∧ Row w' w3.heap.size 38 [.slice i1 j1 k1, .slice i2 j2 k2, .string o.t, .int .i64 o.c] ∧ OwnS 9 B4 w' (.slice q1 m1 d1) xs ∧ OwnP 92 B4 w' (.slice q2 m2 d2) ps ∧ Row w' w4.heap.size 30 [.slice q1 m1 d1, .slice q2 m2 d2] ∧ OwnS 9 B5 w' (.slice r1 n1 e1) o.xs ∧ OwnP 92 B5 w' (.slice r2 n2 e2) o.ps ∧ Row w' w5.heap.size 38 [.slice r1 n1 e1, .slice r2 n2 e2, .string o.t, .int .i64 o.c]) H5.out)
  clear hb6 H5 b0 b1 b2 b3
  go_wp2_with fail
  have HSS := hide (show ∀ x, Below w6.heap.size w6 x → x.cell? ⟨w.heap.size, 0, none⟩ = some (.slice p1 xs.length c1) ∧ x.cell? ⟨w.heap.size, 1, none⟩ = some (.slice p2 ps.length c2) ∧ x.cell? ⟨w4.heap.size, 0, none⟩ = some (.slice q1 m1 d1) ∧ x.cell? ⟨w4.heap.size, 1, none⟩ = some (.slice q2 m2 d2) ∧ Below w6.heap.size w6 x from
    fun x h => ⟨(Row.after h H6.out.2.2.2.1).cell 0, (Row.after h H6.out.2.2.2.1).cell 1, (Row.after h H6.out.2.2.2.2.2.2.2.2.2.1).cell 0, (Row.after h H6.out.2.2.2.2.2.2.2.2.2.1).cell 1, h⟩)
  go_region_held3 (fun x => x.cell? ⟨w.heap.size, 0, none⟩ = some (.slice p1 xs.length c1) ∧ x.cell? ⟨w.heap.size, 1, none⟩ = some (.slice p2 ps.length c2) ∧ x.cell? ⟨w4.heap.size, 0, none⟩ = some (.slice q1 m1 d1) ∧ x.cell? ⟨w4.heap.size, 1, none⟩ = some (.slice q2 m2 d2) ∧ Below w6.heap.size w6 x)
    ((go_split_ands; refine HSS.out _ ?_; repeat (first | with_reducible assumption | with_reducible exact Below.refl _ _ | with_reducible refine Below.drew ?_)))
    ((first
      | (go_at_call 10; go_split_ands; refine (toDisk_any _ _ xs ps _ (H6.out.2.1.below (by assumption) (Nat.le_refl _)) (H6.out.2.2.1.below (by assumption) (Nat.le_refl _)) HSM.out).mono ?_; rintro e w7 ⟨us3, up3, rfl, o5, o6, d5, hb7⟩; have HRy := hide o5.reads; have HPy := hide o6.reads
         have hB7 : Below w6.heap.size w6 w7 := Below.trans (by assumption) (hb7.mono (Below.size (by assumption))); clear o5 o6 d5 hb7)
      | (go_at_call 12; go_split_ands; refine (eqDisk_same _ _ _ _ xs ps _ x1 x3 (H6.out.2.2.2.2.2.2.2.1.reads.below hB7 (Nat.le_refl _)) (H6.out.2.2.2.2.2.2.2.2.1.reads.below hB7 (Nat.le_refl _)) HRy.out HPy.out).mono ?_; rintro e w8 ⟨rfl, hb8⟩
         have hB8 : Below w6.heap.size w6 w8 := hB7.trans (hb8.mono hB7.size); clear hb8)))
  have H8 := hide (Stab.go hB8 (P := fun w' => Below w.heap.size w w' ∧ Reads w' (.slice p1 xs.length c1) xs ∧ ReadsP w' (.slice p2 ps.length c2) ps ∧ Row w' w.heap.size 25 [.slice p1 xs.length c1, .slice p2 ps.length c2] ∧ Reads w' (.slice i1 j1 k1) o.xs ∧ ReadsP w' (.slice i2 j2 k2) o.ps ∧ Row w' w3.heap.size 38 [.slice i1 j1 k1, .slice i2 j2 k2, .string o.t, .int .i64 o.c] ∧ OwnS 9 B4 w' (.slice q1 m1 d1) xs ∧ OwnP 92 B4 w' (.slice q2 m2 d2) ps ∧ Row w' w4.heap.size 30 [.slice q1 m1 d1, .slice q2 m2 d2] ∧ OwnS 9 B5 w' (.slice r1 n1 e1) o.xs ∧ OwnP 92 B5 w' (.slice r2 n2 e2) o.ps ∧ Row w' w5.heap.size 38 [.slice r1 n1 e1, .slice r2 n2 e2, .string o.t, .int .i64 o.c]) H6.out)
  have y0 : w8.cell? ⟨w4.heap.size, 0, none⟩ = some (.slice q1 m1 d1) := H8.out.2.2.2.2.2.2.2.2.2.1.cell 0
  have y1 : w8.cell? ⟨w4.heap.size, 1, none⟩ = some (.slice q2 m2 d2) := H8.out.2.2.2.2.2.2.2.2.2.1.cell 1
  clear hB7 hB8 HSS H6 HRy HPy
  go_wp2_with fail
  refine (markDisk_own _ _ _ xs ps 1 _ x1 x3 (by omega) H8.out.2.2.2.2.2.2.2.1 H8.out.2.2.2.2.2.2.2.2.1 D4.out).mono ?_
  rintro e w9 ⟨rfl, o1, o2, hk⟩
  have sS := S3.out
  have s4 := S4.out
  have s5 := S5.out
  have s2 := S2.out
  have ia : In (.slice q1 m1 d1) B4 w4.heap.size := I4.out.1
  have ib : In (.slice q2 m2 d2) B4 w4.heap.size := I4.out.2
  have H9 := hide (show (fun w' => Below w.heap.size w w' ∧ Reads w' (.slice p1 xs.length c1) xs ∧ ReadsP w' (.slice p2 ps.length c2) ps ∧ Row w' w.heap.size 25 [.slice p1 xs.length c1, .slice p2 ps.length c2] ∧ Reads w' (.slice i1 j1 k1) o.xs ∧ ReadsP w' (.slice i2 j2 k2) o.ps ∧ Row w' w3.heap.size 38 [.slice i1 j1 k1, .slice i2 j2 k2, .string o.t, .int .i64 o.c] ∧ OwnS 9 B5 w' (.slice r1 n1 e1) o.xs ∧ OwnP 92 B5 w' (.slice r2 n2 e2) o.ps ∧ Row w' w5.heap.size 38 [.slice r1 n1 e1, .slice r2 n2 e2, .string o.t, .int .i64 o.c]) w9 from ⟨hk.onBelow H8.out.1 (fun x hx => by have := ia.all ib x hx; omega), hk.reads H8.out.2.1 (I0.out.1.apart ia ib (.inl (by omega))), hk.readsP H8.out.2.2.1 (I0.out.2.apart ia ib (.inl (by omega))), hk.row H8.out.2.2.2.1 (ia.far ib (.inl (by omega))),
    hk.reads H8.out.2.2.2.2.1 (I3.out.1.apart ia ib (.inl (by omega))), hk.readsP H8.out.2.2.2.2.2.1 (I3.out.2.apart ia ib (.inl (by omega))), hk.row H8.out.2.2.2.2.2.2.1 (ia.far ib (.inl (by omega))),
    H8.out.2.2.2.2.2.2.2.2.2.2.1.kept hk (I5.out.1.apart ia ib (.inr (by omega))), H8.out.2.2.2.2.2.2.2.2.2.2.2.1.kept hk (I5.out.2.apart ia ib (.inr (by omega))), hk.row H8.out.2.2.2.2.2.2.2.2.2.2.2.2 (ia.far ib (.inr (by omega)))⟩)
  have b0 : w9.cell? ⟨w3.heap.size, 0, none⟩ = some (.slice i1 j1 k1) := H9.out.2.2.2.2.2.2.1.cell 0
  have b1 : w9.cell? ⟨w3.heap.size, 1, none⟩ = some (.slice i2 j2 k2) := H9.out.2.2.2.2.2.2.1.cell 1
  have b2 : w9.cell? ⟨w3.heap.size, 2, none⟩ = some (.string o.t) := H9.out.2.2.2.2.2.2.1.cell 2
  have b3 : w9.cell? ⟨w3.heap.size, 3, none⟩ = some (.int .i64 o.c) := H9.out.2.2.2.2.2.2.1.cell 3
  have h0 : w9.cell? ⟨w5.heap.size, 0, none⟩ = some (.slice r1 n1 e1) := H9.out.2.2.2.2.2.2.2.2.2.cell 0
  have h1 : w9.cell? ⟨w5.heap.size, 1, none⟩ = some (.slice r2 n2 e2) := H9.out.2.2.2.2.2.2.2.2.2.cell 1
  have h2 : w9.cell? ⟨w5.heap.size, 2, none⟩ = some (.string o.t) := H9.out.2.2.2.2.2.2.2.2.2.cell 2
  have h3 : w9.cell? ⟨w5.heap.size, 3, none⟩ = some (.int .i64 o.c) := H9.out.2.2.2.2.2.2.2.2.2.cell 3
  have tk : ¬ (((1 + xs.length + ps.length * 2 : Nat) : Int) < 0) := by omega
  clear o1 o2 hk H8 ia ib y0 y1
  go_wp2_with fail
  refine (eqStoreOut_same _ _ _ _ o.xs o.ps o.t o.c _ l1 l2 H9.out.2.2.2.2.2.2.2.1.reads H9.out.2.2.2.2.2.2.2.2.1.reads H9.out.2.2.2.2.1 H9.out.2.2.2.2.2.1).mono ?_
  rintro e w10 ⟨rfl, hb10⟩
  have H10 := hide (Stab.go hb10 (P := fun w' => Below w.heap.size w w' ∧ Reads w' (.slice p1 xs.length c1) xs ∧ ReadsP w' (.slice p2 ps.length c2) ps ∧ Row w' w.heap.size 25 [.slice p1 xs.length c1, .slice p2 ps.length c2] ∧ Reads w' (.slice i1 j1 k1) o.xs ∧ ReadsP w' (.slice i2 j2 k2) o.ps ∧ Row w' w3.heap.size 38 [.slice i1 j1 k1, .slice i2 j2 k2, .string o.t, .int .i64 o.c] ∧ OwnS 9 B5 w' (.slice r1 n1 e1) o.xs ∧ OwnP 92 B5 w' (.slice r2 n2 e2) o.ps ∧ Row w' w5.heap.size 38 [.slice r1 n1 e1, .slice r2 n2 e2, .string o.t, .int .i64 o.c]) H9.out)
  clear hb10 H9 b0 b1 b2 b3 h0 h1 h2 h3
  have h0 : w10.cell? ⟨w5.heap.size, 0, none⟩ = some (.slice r1 n1 e1) := H10.out.2.2.2.2.2.2.2.2.2.cell 0
  have h1 : w10.cell? ⟨w5.heap.size, 1, none⟩ = some (.slice r2 n2 e2) := H10.out.2.2.2.2.2.2.2.2.2.cell 1
  have h2 : w10.cell? ⟨w5.heap.size, 2, none⟩ = some (.string o.t) := H10.out.2.2.2.2.2.2.2.2.2.cell 2
  have h3 : w10.cell? ⟨w5.heap.size, 3, none⟩ = some (.int .i64 o.c) := H10.out.2.2.2.2.2.2.2.2.2.cell 3
  go_wp2_with fail
  obtain ⟨K, hK⟩ : ∃ K : Int, K = ((1 + o.xs.length + o.ps.length * 2 : Nat) : Int) := ⟨_, rfl⟩
  have tq : ¬ K < 0 := by omega
  have HKq := hide hK
  clear hK
  refine (markStoreOut_own _ _ _ o.xs o.ps o.t o.c 1 _ l1 l2 (by omega) H10.out.2.2.2.2.2.2.2.1 H10.out.2.2.2.2.2.2.2.2.1 D5.out).mono ?_
  rw [← HKq.out]
  rintro e w11 ⟨rfl, o1, o2, hk⟩
  have ia : In (.slice r1 n1 e1) B5 w5.heap.size := I5.out.1
  have ib : In (.slice r2 n2 e2) B5 w5.heap.size := I5.out.2
  have H11 := hide (show (fun w' => Below w.heap.size w w' ∧ Reads w' (.slice p1 xs.length c1) xs ∧ ReadsP w' (.slice p2 ps.length c2) ps ∧ Row w' w.heap.size 25 [.slice p1 xs.length c1, .slice p2 ps.length c2] ∧ Reads w' (.slice i1 j1 k1) o.xs ∧ ReadsP w' (.slice i2 j2 k2) o.ps ∧ Row w' w3.heap.size 38 [.slice i1 j1 k1, .slice i2 j2 k2, .string o.t, .int .i64 o.c] ∧ Reads w' (.slice r1 n1 e1) (marks 1 o.xs.length) ∧ ReadsP w' (.slice r2 n2 e2) (marksP (1 + o.xs.length) o.ps.length) ∧ Row w' w5.heap.size 38 [.slice r1 n1 e1, .slice r2 n2 e2, .string o.t, .int .i64 o.c]) w11 from ⟨hk.onBelow H10.out.1 (fun x hx => by have := ia.all ib x hx; omega), hk.reads H10.out.2.1 (I0.out.1.apart ia ib (.inl (by omega))), hk.readsP H10.out.2.2.1 (I0.out.2.apart ia ib (.inl (by omega))), hk.row H10.out.2.2.2.1 (ia.far ib (.inl (by omega))),
    hk.reads H10.out.2.2.2.2.1 (I3.out.1.apart ia ib (.inl (by omega))), hk.readsP H10.out.2.2.2.2.2.1 (I3.out.2.apart ia ib (.inl (by omega))), hk.row H10.out.2.2.2.2.2.2.1 (ia.far ib (.inl (by omega))),
    o1.reads, o2.reads, hk.row H10.out.2.2.2.2.2.2.2.2.2 (ia.far ib (.inr (Nat.le_refl _)))⟩)
  clear o1 o2 hk H10 ia ib h0 h1 h2 h3 tk
  have h0 : w11.cell? ⟨w5.heap.size, 0, none⟩ = some (.slice r1 n1 e1) := H11.out.2.2.2.2.2.2.2.2.2.cell 0
  have h1 : w11.cell? ⟨w5.heap.size, 1, none⟩ = some (.slice r2 n2 e2) := H11.out.2.2.2.2.2.2.2.2.2.cell 1
  have h2 : w11.cell? ⟨w5.heap.size, 2, none⟩ = some (.string o.t) := H11.out.2.2.2.2.2.2.2.2.2.cell 2
  have h3 : w11.cell? ⟨w5.heap.size, 3, none⟩ = some (.int .i64 o.c) := H11.out.2.2.2.2.2.2.2.2.2.cell 3
  go_wp2_with fail
  refine (heldStoreOut_any _ _ o.t o.c 1 o.xs.length o.ps.length _ l1 l2 (by omega) H11.out.2.2.2.2.2.2.2.1 H11.out.2.2.2.2.2.2.2.2.1).mono ?_
  rw [← HKq.out]
  rintro e w12 ⟨rfl, hb12⟩
  have H12 := hide (Stab.go hb12 (P := fun w' => Below w.heap.size w w' ∧ Reads w' (.slice p1 xs.length c1) xs ∧ ReadsP w' (.slice p2 ps.length c2) ps ∧ Row w' w.heap.size 25 [.slice p1 xs.length c1, .slice p2 ps.length c2] ∧ Reads w' (.slice i1 j1 k1) o.xs ∧ ReadsP w' (.slice i2 j2 k2) o.ps ∧ Row w' w3.heap.size 38 [.slice i1 j1 k1, .slice i2 j2 k2, .string o.t, .int .i64 o.c] ∧ Reads w' (.slice r1 n1 e1) (marks 1 o.xs.length) ∧ ReadsP w' (.slice r2 n2 e2) (marksP (1 + o.xs.length) o.ps.length) ∧ Row w' w5.heap.size 38 [.slice r1 n1 e1, .slice r2 n2 e2, .string o.t, .int .i64 o.c]) H11.out)
  clear hb12 H11 h0 h1 h2 h3
  have a0 : w12.cell? ⟨w.heap.size, 0, none⟩ = some (.slice p1 xs.length c1) := H12.out.2.2.2.1.cell 0
  have a1 : w12.cell? ⟨w.heap.size, 1, none⟩ = some (.slice p2 ps.length c2) := H12.out.2.2.2.1.cell 1
  go_wp2_with fail
  refine (toDisk_any _ _ xs ps _ H12.out.2.1 H12.out.2.2.1 HSM.out).mono ?_
  rintro e w13 ⟨ys, yp, rfl, o1, o2, dd, hb13⟩
  have H13 := hide (Stab.go hb13 (P := fun w' => Below w.heap.size w w' ∧ Reads w' (.slice p1 xs.length c1) xs ∧ ReadsP w' (.slice p2 ps.length c2) ps ∧ Row w' w.heap.size 25 [.slice p1 xs.length c1, .slice p2 ps.length c2] ∧ Reads w' (.slice i1 j1 k1) o.xs ∧ ReadsP w' (.slice i2 j2 k2) o.ps ∧ Row w' w3.heap.size 38 [.slice i1 j1 k1, .slice i2 j2 k2, .string o.t, .int .i64 o.c] ∧ Reads w' (.slice r1 n1 e1) (marks 1 o.xs.length) ∧ ReadsP w' (.slice r2 n2 e2) (marksP (1 + o.xs.length) o.ps.length) ∧ Row w' w5.heap.size 38 [.slice r1 n1 e1, .slice r2 n2 e2, .string o.t, .int .i64 o.c]) H12.out)
  have HRy := hide o1.reads
  have HPy := hide o2.reads
  clear hb13 H12 o1 o2 dd a0 a1
  go_wp2_with fail
  refine (HII.out _ _ xs ps _ H13.out.1 x1 x3 HRy.out HPy.out).mono ?_
  rw [← HEQ.out]
  rintro e w14 ⟨⟨zs, zp, rfl, o1, o2, dd⟩, hb14⟩
  obtain ⟨u1, y1, v1, rfl⟩ := o1.isSlice
  obtain ⟨u2, y2, v2, rfl⟩ := o2.isSlice
  have bn := below_new w14 (.cells #[.slice u1 y1 v1, .slice u2 y2 v2, .string o.t, .int .i64 o.c] 38)
  have H14 := hide (Stab.go (hb14.trans (bn.mono hb14.size)) (P := fun w' => Below w.heap.size w w' ∧ Reads w' (.slice p1 xs.length c1) xs ∧ ReadsP w' (.slice p2 ps.length c2) ps ∧ Row w' w.heap.size 25 [.slice p1 xs.length c1, .slice p2 ps.length c2] ∧ Reads w' (.slice i1 j1 k1) o.xs ∧ ReadsP w' (.slice i2 j2 k2) o.ps ∧ Row w' w3.heap.size 38 [.slice i1 j1 k1, .slice i2 j2 k2, .string o.t, .int .i64 o.c] ∧ Reads w' (.slice r1 n1 e1) (marks 1 o.xs.length) ∧ ReadsP w' (.slice r2 n2 e2) (marksP (1 + o.xs.length) o.ps.length) ∧ Row w' w5.heap.size 38 [.slice r1 n1 e1, .slice r2 n2 e2, .string o.t, .int .i64 o.c]) H13.out)
  have HRz := hide (o1.reads.below bn (Nat.le_refl _))
  have HPz := hide (o2.reads.below bn (Nat.le_refl _))
  have b0 : (w14.alloc (.cells #[.slice u1 y1 v1, .slice u2 y2 v2, .string o.t, .int .i64 o.c] 38)).cell? ⟨w3.heap.size, 0, none⟩ = some (.slice i1 j1 k1) := H14.out.2.2.2.2.2.2.1.cell 0
  have b1 : (w14.alloc (.cells #[.slice u1 y1 v1, .slice u2 y2 v2, .string o.t, .int .i64 o.c] 38)).cell? ⟨w3.heap.size, 1, none⟩ = some (.slice i2 j2 k2) := H14.out.2.2.2.2.2.2.1.cell 1
  have b2 : (w14.alloc (.cells #[.slice u1 y1 v1, .slice u2 y2 v2, .string o.t, .int .i64 o.c] 38)).cell? ⟨w3.heap.size, 2, none⟩ = some (.string o.t) := H14.out.2.2.2.2.2.2.1.cell 2
  have b3 : (w14.alloc (.cells #[.slice u1 y1 v1, .slice u2 y2 v2, .string o.t, .int .i64 o.c] 38)).cell? ⟨w3.heap.size, 3, none⟩ = some (.int .i64 o.c) := H14.out.2.2.2.2.2.2.1.cell 3
  clear hb14 bn H13 o1 o2 dd HRy HPy
  go_wp2_with fail
  refine (eqStoreOut_same _ _ _ _ o.xs o.ps o.t o.c _ l1 l2 HRz.out HPz.out H14.out.2.2.2.2.1 H14.out.2.2.2.2.2.1).mono ?_
  rintro e w15 ⟨rfl, hb15⟩
  have H15 := hide (Stab.go hb15 (P := fun w' => Below w.heap.size w w' ∧ Reads w' (.slice p1 xs.length c1) xs ∧ ReadsP w' (.slice p2 ps.length c2) ps ∧ Row w' w.heap.size 25 [.slice p1 xs.length c1, .slice p2 ps.length c2] ∧ Reads w' (.slice i1 j1 k1) o.xs ∧ ReadsP w' (.slice i2 j2 k2) o.ps ∧ Row w' w3.heap.size 38 [.slice i1 j1 k1, .slice i2 j2 k2, .string o.t, .int .i64 o.c] ∧ Reads w' (.slice r1 n1 e1) (marks 1 o.xs.length) ∧ ReadsP w' (.slice r2 n2 e2) (marksP (1 + o.xs.length) o.ps.length) ∧ Row w' w5.heap.size 38 [.slice r1 n1 e1, .slice r2 n2 e2, .string o.t, .int .i64 o.c]) H14.out)
  clear hb15 H14 b0 b1 b2 b3
  have h0 : w15.cell? ⟨w5.heap.size, 0, none⟩ = some (.slice r1 n1 e1) := H15.out.2.2.2.2.2.2.2.2.2.cell 0
  have h1 : w15.cell? ⟨w5.heap.size, 1, none⟩ = some (.slice r2 n2 e2) := H15.out.2.2.2.2.2.2.2.2.2.cell 1
  have h2 : w15.cell? ⟨w5.heap.size, 2, none⟩ = some (.string o.t) := H15.out.2.2.2.2.2.2.2.2.2.cell 2
  have h3 : w15.cell? ⟨w5.heap.size, 3, none⟩ = some (.int .i64 o.c) := H15.out.2.2.2.2.2.2.2.2.2.cell 3
  go_wp2_with fail
  refine (heldStoreOut_any _ _ o.t o.c 1 o.xs.length o.ps.length _ l1 l2 (by omega) H15.out.2.2.2.2.2.2.2.1 H15.out.2.2.2.2.2.2.2.2.1).mono ?_
  rw [← HKq.out]
  rintro e w16 ⟨rfl, hb16⟩
  have HB := hide (H15.out.1.trans (hb16.mono H15.out.1.size))
  clear hb16 H15 h0 h1 h2 h3
  go_wp2
  go_ret
  exact ⟨rfl, HB.out⟩
end Go.Proofs.YtnpbmaajgiapmaaGreatDoor
/- StorePut of the program. -/
namespace Go.Proofs.YtnpbmaajgiapmaaGreatDoor
open Go.RowKit
/-- A map's own count of entries is that of what it keeps. -/
theorem map_small {w : World} {b n : Nat} {L : List Item} (h : MapIs w b n L) : ∃ m, MapIs w b m L ∧ m = L.length := by
  have h0 := h
  obtain ⟨es, clock, hh, F, _, hD⟩ := h
  have hs : es.size = L.length := by
    have e1 : Go.Maps.size (datL L) = es.size := by rw [hD]; simp [Go.Maps.size, length_sorted]
    rw [← e1, datL_size]
  exact ⟨L.length, ⟨es, clock, hh, F, Nat.le_of_eq hs, hD⟩, rfl⟩
set_option maxHeartbeats 8000000 in
set_option maxRecDepth 100000 in
theorem keepText_any (b n : Nat) (L : List Item) (d t : ByteArray) (w : World) (hm : MapIs w b n L) (hr : Rises L) (ho : ∀ x ∈ L, OkI x) (hl : L.length ≤ 12) (hid : idB d = true) (hn : n ≤ 1000000) (ht : t.size ≤ 8000) :
    Calls Tryz.prog 55 #[.map (some b), .string d, .string t] w fun e w' => (∃ err, e = .returned err ∧ (badM (putL L d t) → err = .iface 125 (.agg #[.int .i64 9])) ∧ (¬ badM (putL L d t) → err = .nilIface) ∧ MapIs w' b (n + 1) (putL L d t)) ∧ Below b w w' := by
  have hdm : d.size ≤ maxLen := by
    have : d.size ≤ 20 := OkI.id (x := (d, ⟨#[]⟩)) ⟨hid, Nat.zero_le _⟩
    unfold maxLen; omega
  obtain ⟨M, hM⟩ : ∃ M, M = putL L d t := ⟨_, rfl⟩
  have HRM := hide (show Rises M by rw [hM]; exact putL_rises hr d t)
  have HOKM := hide (show ∀ x ∈ M, OkI x by rw [hM]; exact putL_ok ho hid ht)
  have HLM := hide (show M.length ≤ 20 by rw [hM]; have := putL_len (L := L) d t; omega)
  have HPL := hide (show (datL L).put (keyD d) (valD t) = datL M by rw [hM]; exact datL_put L d t)
  rw [← hM]
  have HMM := hide hm
  have HKY := hide (keyOf_mk d hdm)
  have HLB := hide (Nat.le_of_lt hm.lt)
  clear hm hr ho hid hM
  by_cases h12 : 12 < M.length
  · have h12i : (12 : Int) < (M.length : Int) := by omega
    have HBD := hide (show badM M from .inl h12)
    clear h12
    go_enter Tryz.func55, Tryz.ntmps55
    go_wp2_with (at_mapUpdate; refine wpList_mapUpdate_own _ rfl _ _ _ 54 rfl 9 79 keyed Tryz.underlying54 keptR b n (datL L) rfl HMM.out (by unfold maxLen; omega) _ _ (keyD d) rfl rfl HKY.out (valD t) [] (keptR_mk t) ?_)
    intro X hown hgrow
    rw [HPL.out] at hown
    have HMX := hide (show MapIs X b (n + 1) M from hown)
    have HBX := hide ((Below.refl b w).grown hgrow HLB.out (fun g hg => by cases hg; exact Nat.le_refl _))
    have hlen : ∀ ty, (Builtin.len_ #[54] ty #[.map (some b)]).run Tryz.prog X = .ok (.int .i64 (M.length : Int)) X := fun ty => by
      have := World.ownsMap.len hown Tryz.underlying54 ty
      rw [datL_size] at this
      exact this
    clear hown hgrow
    go_wp2_with fail
    refine (storeRefusal_true 9 _).mono ?_
    rintro e X2 ⟨rfl, h2⟩
    obtain rfl := h2.symm
    clear hlen
    go_wp2
    go_ret
    exact ⟨⟨_, rfl, fun _ => rfl, fun h => absurd HBD.out h, HMX.out⟩, HBX.out⟩
  have h12i : ¬ (12 : Int) < (M.length : Int) := by omega
  obtain ⟨T, hT⟩ : ∃ T, T = storeB M := ⟨_, rfl⟩
  have HTS := hide (show T.size ≤ 170000 by rw [hT]; exact storeB_size HOKM.out HLM.out)
  have HST := hide (show ∀ y : World, MapIs y b (n + 1) M → Calls Tryz.prog 83 #[.map (some b)] y fun e w'' => e = .returned (.string T) ∧ Below y.heap.size y w'' from fun y hy => by
    rw [hT]; exact storeText_own b (n + 1) M y hy HRM.out HOKM.out HLM.out)
  by_cases h8 : 8000 < T.size
  · have h8i : (8000 : Int) < (T.size : Int) := by omega
    have HBD := hide (show badM M from .inr (by rw [← hT]; exact h8))
    clear h12 h8 hT
    go_enter Tryz.func55, Tryz.ntmps55
    go_wp2_with (at_mapUpdate; refine wpList_mapUpdate_own _ rfl _ _ _ 54 rfl 9 79 keyed Tryz.underlying54 keptR b n (datL L) rfl HMM.out (by unfold maxLen; omega) _ _ (keyD d) rfl rfl HKY.out (valD t) [] (keptR_mk t) ?_)
    intro X hown hgrow
    rw [HPL.out] at hown
    have HMX := hide (show MapIs X b (n + 1) M from hown)
    have HBX := hide ((Below.refl b w).grown hgrow HLB.out (fun g hg => by cases hg; exact Nat.le_refl _))
    have hlen : ∀ ty, (Builtin.len_ #[54] ty #[.map (some b)]).run Tryz.prog X = .ok (.int .i64 (M.length : Int)) X := fun ty => by
      have := World.ownsMap.len hown Tryz.underlying54 ty
      rw [datL_size] at this
      exact this
    clear hown hgrow
    go_wp2_with fail
    refine (HST.out _ HMX.out).mono ?_
    rintro e X1 ⟨rfl, hb1⟩
    have HMX1 := hide (HMX.out.below hb1 HMX.out.lt)
    have HBX1 := hide (HBX.out.trans (hb1.mono (Nat.le_of_lt HMX.out.lt)))
    clear hb1 hlen
    have hts := HTS.out
    go_wp2_with fail
    refine (storeRefusal_true 9 _).mono ?_
    rintro e X2 ⟨rfl, h2⟩
    obtain rfl := h2.symm
    go_wp2
    go_ret
    exact ⟨⟨_, rfl, fun _ => rfl, fun h => absurd HBD.out h, HMX1.out⟩, HBX1.out⟩
  · have h8i : ¬ (8000 : Int) < (T.size : Int) := by omega
    have HBD := hide (show ¬ badM M from fun hb => hb.elim (fun h => h12 h) (fun h => h8 (by rw [hT]; exact h)))
    clear h12 h8 hT
    go_enter Tryz.func55, Tryz.ntmps55
    go_wp2_with (at_mapUpdate; refine wpList_mapUpdate_own _ rfl _ _ _ 54 rfl 9 79 keyed Tryz.underlying54 keptR b n (datL L) rfl HMM.out (by unfold maxLen; omega) _ _ (keyD d) rfl rfl HKY.out (valD t) [] (keptR_mk t) ?_)
    intro X hown hgrow
    rw [HPL.out] at hown
    have HMX := hide (show MapIs X b (n + 1) M from hown)
    have HBX := hide ((Below.refl b w).grown hgrow HLB.out (fun g hg => by cases hg; exact Nat.le_refl _))
    have hlen : ∀ ty, (Builtin.len_ #[54] ty #[.map (some b)]).run Tryz.prog X = .ok (.int .i64 (M.length : Int)) X := fun ty => by
      have := World.ownsMap.len hown Tryz.underlying54 ty
      rw [datL_size] at this
      exact this
    clear hown hgrow
    go_wp2_with fail
    refine (HST.out _ HMX.out).mono ?_
    rintro e X1 ⟨rfl, hb1⟩
    have HMX1 := hide (HMX.out.below hb1 HMX.out.lt)
    have HBX1 := hide (HBX.out.trans (hb1.mono (Nat.le_of_lt HMX.out.lt)))
    clear hb1 hlen
    have hts := HTS.out
    go_wp2_with fail
    rw [show decide ((12 : Int) < (M.length : Int)) = false from decide_eq_false (by omega), show decide ((8000 : Int) < (T.size : Int)) = false from decide_eq_false (by omega)]
    refine (storeRefusal_false 9 _).mono ?_
    rintro e X2 ⟨rfl, h2⟩
    obtain rfl := h2.symm
    go_wp2
    go_ret
    exact ⟨⟨_, rfl, fun h => absurd h HBD.out, fun _ => rfl, HMX1.out⟩, HBX1.out⟩
set_option maxHeartbeats 8000000 in
set_option maxRecDepth 100000 in
theorem implStorePut_any (vs vp : Value) (xs : List ByteArray) (ps : List (Int × ByteArray)) (d t : ByteArray) (a : Int) (aF aR aU : Addr) (w : World) (hn : xs.length ≤ 1048576) (hn2 : ps.length ≤ 1048576) (hd : d.size ≤ 1048576) (ht : t.size ≤ 1048576) (hr : Reads w vs xs) (hp : ReadsP w vp ps) (hS : Sents aF aR aU w) (hG : St3.Laid w) :
    Calls Tryz.prog 23 #[.agg #[vs, vp], .string d, .string t, .int .i64 a] w fun e w' => KOutIs w.heap.size e w' (sputO xs ps d t a) ∧ Below w.heap.size w w' := by
  have HR := hide hr
  have HP := hide hp
  have HS0 := hide hS
  have HG := hide hG
  clear hS hG
  obtain ⟨p1, c1, rfl, _⟩ := hr
  obtain ⟨p2, c2, rfl, _⟩ := hp
  obtain ⟨W, hW⟩ : ∃ W, W = (w.alloc (.cells #[.slice p1 xs.length c1, .slice p2 ps.length c2] 30)).alloc (.cells #[.slice none 0 0, .slice none 0 0, .string ⟨#[]⟩, .int .i64 0] 38) := ⟨_, rfl⟩
  have HB0 := hide (show Below w.heap.size w W by rw [hW]; exact ((Below.refl _ _).alloc (Nat.le_refl _) _).alloc (by simp) _)
  have HWS := hide (show w.heap.size + 2 = W.heap.size by rw [hW]; simp)
  have HRD := hide (show Row W w.heap.size 30 [.slice p1 xs.length c1, .slice p2 ps.length c2] by rw [hW]; exact (row_new w _ _).alloc _)
  have HRO := hide (show Row W (w.heap.size + 1) 38 [.slice none 0 0, .slice none 0 0, .string ⟨#[]⟩, .int .i64 0] by
    rw [hW]
    have := row_new (w.alloc (.cells #[.slice p1 xs.length c1, .slice p2 ps.length c2] 30)) [.slice none 0 0, .slice none 0 0, .string ⟨#[]⟩, .int .i64 0] 38
    simpa using this)
  have HR1 := hide (HR.out.below HB0.out (Nat.le_refl _))
  have HP1 := hide (HP.out.below HB0.out (Nat.le_refl _))
  obtain ⟨o, ho⟩ : ∃ o, o = sputO xs ps d t a := ⟨_, rfl⟩
  have HOE := hide ho
  rw [← ho]
  clear ho
  by_cases h8 : 8000 < t.size
  · have HE := hide (show o = kill 2 by rw [HOE.out, sputO, if_pos h8])
    have h8i : (8000 : Int) < (t.size : Int) := by omega
    clear hW
    go_enter Tryz.func23, Tryz.ntmps23
    go_wp2
    exact bodyPost_ret (v := .agg #[.slice none 0 0, .slice none 0 0, .string ⟨#[]⟩, .int .i64 2]) (by simp [results, Tryz.results23, go_sem]) rfl ⟨by rw [HE.out]; exact KOutIs.ill _ _ _, ((Below.refl _ _).alloc (Nat.le_refl _) _).alloc (by simp) _⟩
  have h8i : ¬ (8000 : Int) < (t.size : Int) := by omega
  obtain ⟨C, hC⟩ : ∃ C, C = forC xs ps d := ⟨_, rfl⟩
  have HCE := hide hC
  obtain ⟨L, hL⟩ : ∃ L, L = itemsO xs ps := ⟨_, rfl⟩
  have HLE := hide hL
  have HOE := hide (show o = if C ≠ 0 then kill C else if badM (putL L d t) then kill 9 else kput xs ps (storeB (putL L d t)) a by rw [HOE.out, sputO, if_neg h8, hC, hL])
  clear hC hL
  go_enter Tryz.func23, Tryz.ntmps23
  go_wp2_with fail
  rw [← hW]
  clear hW
  refine (storeFor_any _ _ xs ps d aF aR aU _ hn hn2 hd HR1.out HP1.out (Stab.go HB0.out HS0.out) (Stab.go HB0.out HG.out)).mono ?_
  rw [← HCE.out, ← HLE.out]
  rintro e X ⟨⟨v, err, rfl, hE1, hE2⟩, hb1⟩
  have HX0 := hide hb1
  have HBX := hide (HB0.out.trans (hb1.mono HB0.out.size))
  have HROX := hide (HRO.out.below hb1 HRO.out.lt)
  have H1 := hide hE1
  have H2 := hide hE2
  clear hb1 hE1 hE2
  by_cases hc : C = 0
  rotate_left
  · have HE := hide (show o = kill C by rw [HOE.out, if_pos hc])
    obtain rfl := H1.out hc
    clear hc H1 H2
    go_wp2_with fail
    refine (storeRefused_any C _ (Stab.go HBX.out HG.out)).mono ?_
    rintro e w2 ⟨rfl, hb2⟩
    have HB2 := hide (HBX.out.trans (hb2.mono HBX.out.size))
    have HRO2 := hide (HROX.out.below hb2 HROX.out.lt)
    clear hb2
    have g0 : w2.cell? ⟨w.heap.size + 1, 0, none⟩ = some (.slice none 0 0) := HRO2.out.cell 0
    have h0 := HRO2.out.free 0
    have g1 : w2.cell? ⟨w.heap.size + 1, 1, none⟩ = some (.slice none 0 0) := HRO2.out.cell 1
    have h1 := HRO2.out.free 1
    have g2 : w2.cell? ⟨w.heap.size + 1, 2, none⟩ = some (.string ⟨#[]⟩) := HRO2.out.cell 2
    have h2 := HRO2.out.free 2
    have g3 : w2.cell? ⟨w.heap.size + 1, 3, none⟩ = some (.int .i64 0) := HRO2.out.cell 3
    have h3 := HRO2.out.free 3
    go_wp2
    obtain ⟨r0, r1, r2, r3, KG⟩ := four HRO2.out (.slice none 0 0) (.slice none 0 0) (.string ⟨#[]⟩) (.int .i64 C)
    exact bodyPost_ret (v := .agg #[.slice none 0 0, .slice none 0 0, .string ⟨#[]⟩, .int .i64 C]) (by simp [results, Tryz.results23, go_sem, r0, r1, r2, r3]) rfl ⟨by rw [HE.out]; exact KOutIs.ill _ _ _, KG.toBelow HB2.out HB2.out.size (by simp)⟩
  subst hc
  obtain ⟨rfl, b, n0, rfl, hbb, hm0⟩ := H2.out rfl
  obtain ⟨n, hm, hn1⟩ := map_small hm0
  obtain ⟨_, hk0, hid⟩ := forC_ok HCE.out.symm
  obtain ⟨hRS, hOK, hlen⟩ := keptO_items hk0
  rw [← HLE.out] at hRS hOK hlen
  have HOE := hide (show o = if badM (putL L d t) then kill 9 else kput xs ps (storeB (putL L d t)) a by rw [HOE.out, if_neg (by simp)])
  have HMB := hide hbb
  have HKC := hide (keepText_any b n L d t X hm hRS hOK hlen hid (by omega) (by omega))
  obtain ⟨M, hM⟩ : ∃ M, M = putL L d t := ⟨_, rfl⟩
  have HRM := hide (show Rises M by rw [hM]; exact putL_rises hRS d t)
  have HOKM := hide (show ∀ x ∈ M, OkI x by rw [hM]; exact putL_ok hOK hid (by omega))
  have HLM := hide (show M.length ≤ 20 by rw [hM]; have := putL_len (L := L) d t; omega)
  rw [← hM] at HKC HOE
  clear hk0 hRS hOK hlen hid hM hbb hm hm0 H1 H2 hn1
  go_wp2_with fail
  refine HKC.out.mono ?_
  rintro e Y ⟨⟨err, rfl, hk1, hk2, hmY⟩, hbY⟩
  have HY0 := hide (HX0.out.trans (hbY.mono HMB.out))
  have HMY := hide hmY
  have hszY : X.heap.size ≤ Y.heap.size := hbY.size
  clear hbY hmY
  have HBY := hide (HB0.out.trans (HY0.out.mono HB0.out.size))
  have HROY := hide (HRO.out.below HY0.out HRO.out.lt)
  have HRDY := hide (HRD.out.below HY0.out HRD.out.lt)
  by_cases hbad : badM M
  · have HE := hide (show o = kill 9 by rw [HOE.out, if_pos hbad])
    obtain rfl := hk1 hbad
    clear hbad hk1 hk2
    go_wp2_with fail
    refine (storeRefused_any 9 _ (Stab.go HBY.out HG.out)).mono ?_
    rintro e w2 ⟨rfl, hb2⟩
    have HB2 := hide (HBY.out.trans (hb2.mono HBY.out.size))
    have HRO2 := hide (HROY.out.below hb2 HROY.out.lt)
    clear hb2
    have g0 : w2.cell? ⟨w.heap.size + 1, 0, none⟩ = some (.slice none 0 0) := HRO2.out.cell 0
    have h0 := HRO2.out.free 0
    have g1 : w2.cell? ⟨w.heap.size + 1, 1, none⟩ = some (.slice none 0 0) := HRO2.out.cell 1
    have h1 := HRO2.out.free 1
    have g2 : w2.cell? ⟨w.heap.size + 1, 2, none⟩ = some (.string ⟨#[]⟩) := HRO2.out.cell 2
    have h2 := HRO2.out.free 2
    have g3 : w2.cell? ⟨w.heap.size + 1, 3, none⟩ = some (.int .i64 0) := HRO2.out.cell 3
    have h3 := HRO2.out.free 3
    go_wp2
    obtain ⟨r0, r1, r2, r3, KG⟩ := four HRO2.out (.slice none 0 0) (.slice none 0 0) (.string ⟨#[]⟩) (.int .i64 9)
    exact bodyPost_ret (v := .agg #[.slice none 0 0, .slice none 0 0, .string ⟨#[]⟩, .int .i64 9]) (by simp [results, Tryz.results23, go_sem, r0, r1, r2, r3]) rfl ⟨by rw [HE.out]; exact KOutIs.ill _ _ _, KG.toBelow HB2.out HB2.out.size (by simp)⟩
  have HE := hide (show o = kput xs ps (storeB M) a by rw [HOE.out, if_neg hbad])
  have HTS := hide (show (storeB M).size ≤ 1048576 from by have := storeB_size HOKM.out HLM.out; omega)
  obtain rfl := hk2 hbad
  clear hbad hk1 hk2
  have a0 : Y.cell? ⟨w.heap.size, 0, none⟩ = some (.slice p1 xs.length c1) := HRDY.out.cell 0
  have a1 : Y.cell? ⟨w.heap.size, 1, none⟩ = some (.slice p2 ps.length c2) := HRDY.out.cell 1
  go_wp2_with fail
  refine (putStore_any (storeB M) (.map (some b)) _ _ xs ps a aF aR aU _ hn hn2 HTS.out (HR.out.below HBY.out (Nat.le_refl _)) (HP.out.below HBY.out (Nat.le_refl _)) (Stab.go HBY.out HS0.out) (Stab.go HBY.out HG.out)
    (fun w' hb' => storeText_own b (n + 1) M w' (HMY.out.below hb' HMY.out.lt) HRM.out HOKM.out HLM.out)).mono ?_
  rw [← HE.out]
  rintro e Z ⟨⟨us, up, rfl, o1, o2, dd⟩, hb2⟩
  obtain ⟨s1, s2, s3, rfl⟩ := o1.isSlice
  obtain ⟨s4, s5, s6, rfl⟩ := o2.isSlice
  have hge : w.heap.size + 2 ≤ Y.heap.size := by have := HWS.out; have := HY0.out.size; omega
  have O1 := hide (o1.mono hge)
  have O2 := hide (o2.mono hge)
  have DD := hide dd
  have HZW := hide (HY0.out.trans (hb2.mono HY0.out.size))
  have HRZ := hide (HRO.out.below HZW.out HRO.out.lt)
  clear o1 o2 dd hge hb2 a0 a1
  have g0 : Z.cell? ⟨w.heap.size + 1, 0, none⟩ = some (.slice none 0 0) := HRZ.out.cell 0
  have h0 := HRZ.out.free 0
  have g1 : Z.cell? ⟨w.heap.size + 1, 1, none⟩ = some (.slice none 0 0) := HRZ.out.cell 1
  have h1 := HRZ.out.free 1
  have g2 : Z.cell? ⟨w.heap.size + 1, 2, none⟩ = some (.string ⟨#[]⟩) := HRZ.out.cell 2
  have h2 := HRZ.out.free 2
  have g3 : Z.cell? ⟨w.heap.size + 1, 3, none⟩ = some (.int .i64 0) := HRZ.out.cell 3
  have h3 := HRZ.out.free 3
  go_wp2
  obtain ⟨r0, r1, r2, r3, KG⟩ := four HRZ.out (.slice s1 s2 s3) (.slice s4 s5 s6) (.string o.t) (.int .i64 o.c)
  exact bodyPost_ret (v := .agg #[.slice s1 s2 s3, .slice s4 s5 s6, .string o.t, .int .i64 o.c]) (by simp [results, Tryz.results23, go_sem, r0, r1, r2, r3]) rfl (kendK HB0.out HZW.out HWS.out KG O1.out O2.out DD.out)
end Go.Proofs.YtnpbmaajgiapmaaGreatDoor
/- The law of StorePut. -/
namespace Go.Proofs.YtnpbmaajgiapmaaGreatDoor
open Go.RowKit
set_option maxHeartbeats 2000000 in
theorem storePutLaw_long (w : World) (a : Int) (d t : ByteArray) (hd : 1048576 < d.size) (hm : d.size ≤ maxLen) (vs vp : Value) :
    Calls Tryz.prog 6 #[.agg #[vs, vp], .string d, .string t, .int .i64 a] w fun e w' => e = .returned (.bool true) ∧ Below w.heap.size w w' := by
  have HB0 := hide (below_new w (.cells #[vs, vp] 25))
  unfold maxLen at hm
  have t : (1048576 : Int) < (d.size : Int) := by omega
  go_enter Tryz.func6, Tryz.ntmps6
  go_wp2
  go_ret
  exact ⟨rfl, HB0.out⟩
set_option maxHeartbeats 2000000 in
theorem storePutLaw_long2 (w : World) (a : Int) (d t : ByteArray) (hd : d.size ≤ 1048576) (ht : 1048576 < t.size) (hm : t.size ≤ maxLen) (vs vp : Value) :
    Calls Tryz.prog 6 #[.agg #[vs, vp], .string d, .string t, .int .i64 a] w fun e w' => e = .returned (.bool true) ∧ Below w.heap.size w w' := by
  have HB0 := hide (below_new w (.cells #[vs, vp] 25))
  unfold maxLen at hm
  have t1 : ¬ (1048576 : Int) < (d.size : Int) := by omega
  have t2 : (1048576 : Int) < (t.size : Int) := by omega
  go_enter Tryz.func6, Tryz.ntmps6
  go_wp2
  go_ret
  exact ⟨rfl, HB0.out⟩
theorem storePutLaw (aF aR aU : Addr) (w : World) (hS : Sents aF aR aU w) (hG : St3.Laid w) (d : ByteArray) (hm : d.size ≤ maxLen) (t : ByteArray) (hm2 : t.size ≤ maxLen) (a : Int) (vs vp : Value) (xs : List ByteArray) (ps : List (Int × ByteArray)) (hr : Reads w vs xs) (hp : ReadsP w vp ps) :
    Calls Tryz.prog 6 #[.agg #[vs, vp], .string d, .string t, .int .i64 a] w fun e w' => e = .returned (.bool true) ∧ Below w.heap.size w w' := by
  by_cases hd : 1048576 < d.size
  · exact storePutLaw_long w a d t hd hm vs vp
  by_cases ht : 1048576 < t.size
  · exact storePutLaw_long2 w a d t (by omega) ht hm2 vs vp
  · exact lawKPut w d t a (by omega) (by omega) (fun vs vp xs ps w' hb h1 h2 h3 h4 => implStorePut_any vs vp xs ps d t a aF aR aU w' h1 h2 (by omega) (by omega) h3 h4 (Stab.go hb hS) (Stab.go hb hG)) vs vp xs ps hr hp (fun _ => sputO_len xs ps d t a)
end Go.Proofs.YtnpbmaajgiapmaaGreatDoor
