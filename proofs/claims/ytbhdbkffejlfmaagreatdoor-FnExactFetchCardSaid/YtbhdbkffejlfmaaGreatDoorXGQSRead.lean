/- What the model reads of a store. -/
import Derived.Test.YtbhdbkffejlfmaaGreatDoorXGQStText
import Derived.Test.YtbhdbkffejlfmaaGreatDoorXGSARead
import Derived.Sort.Walk0
import Derived.BigQuiet
import Derived.Laws.Cover1
namespace Go.Proofs.YtbhdbkffejlfmaaGreatDoor
open Go.RowKit

theorem lt_iff_before : ∀ (a b : List UInt8), decide (a < b) = bytesBefore a b
  | [], [] => by simp [bytesBefore]
  | [], _ :: _ => by simp [bytesBefore]
  | _ :: _, [] => by simp [bytesBefore]
  | x :: r, y :: s => by
    have ih := lt_iff_before r s
    rw [bytesBefore, ← ih]
    by_cases h : x < y
    · simp [List.cons_lt_cons_iff, h]
    · by_cases h2 : x = y
      · simp [h2]
      · simp [List.cons_lt_cons_iff, h, h2]
theorem less_eq (a b : ByteArray) : Op.bytesLess a.toList b.toList = ltB a b := by
  rw [bytesLess_eq, ByteArray.toList_eq, ByteArray.toList_eq, lt_iff_before]
  rfl
theorem str_eql (a b : ByteArray) : (a.toList == b.toList) = decide (a = b) := by
  rw [ByteArray.toList_eq, ByteArray.toList_eq, Bool.eq_iff_iff]
  simp only [beq_iff_eq, decide_eq_true_eq]
  exact ⟨toList_inj, fun h => by rw [h]⟩
/-- What a disk keeps as a store. -/
def keptO (xs : List ByteArray) (ps : List (Int × ByteArray)) : Option (List Item) := if (areaOut xs ps).c ≠ 0 then none else keptS (areaOut xs ps).t
theorem areaOut_t (xs : List ByteArray) (ps : List (Int × ByteArray)) : (areaOut xs ps).t.size ≤ 2048 := by
  unfold areaOut
  split
  · exact Nat.zero_le _
  · rename_i h1
    split
    · exact Nat.zero_le _
    · rename_i h2
      split
      · rename_i h3
        have hg := gath_size _ h3
        have hs := seen_ok (by simpa using h2 : (seen xs ps).2.2.2 = 0)
        have hr : right xs ps = true := by simpa using h1
        have hl := right_len hr
        simp only
        rw [hg]
        have : half xs.length ≤ 32 := by unfold half; omega
        omega
      · exact Nat.zero_le _
def itc : List Item → List Value
  | [] => []
  | x :: r => .string x.1 :: .string x.2 :: itc r
theorem itc_len : ∀ L : List Item, (itc L).length = L.length * 2
  | [] => rfl
  | x :: r => by rw [itc]; simp [itc_len r]; omega
theorem itc_append : ∀ a b : List Item, itc (a ++ b) = itc a ++ itc b
  | [], b => rfl
  | x :: r, b => by rw [List.cons_append, itc, itc, itc_append r b]; rfl
theorem itc_at : ∀ (L : List Item) (i : Nat) (h : i < L.length), (itc L)[i * 2]? = some (.string L[i].1) ∧ (itc L)[i * 2 + 1]? = some (.string L[i].2)
  | x :: r, 0, _ => by simp [itc]
  | x :: r, i + 1, h => by
    have := itc_at r i (by simpa using h)
    rw [itc, show (i + 1) * 2 = i * 2 + 1 + 1 by omega, show i * 2 + 1 + 1 + 1 = (i * 2 + 1) + 1 + 1 by omega]
    simpa using this
theorem itc_one (L : List Item) : ∀ u ∈ itc L, u.oneCell' = true := by
  induction L with
  | nil => simp [itc]
  | cons x r ih =>
    intro u hu
    rw [itc] at hu
    rcases List.mem_cons.1 hu with rfl | hu
    · rfl
    · rcases List.mem_cons.1 hu with rfl | hu
      · rfl
      · exact ih u hu
theorem readsIt_of {w : World} {B : Nat} {v : Value} {L : List Item} (h : w.ownsRow B 72 2 v L.length (itc L)) : ReadsIt w v L := by
  have h' := h
  obtain ⟨_, ⟨rfl, h1⟩ | ⟨g, cap, cur, rfl, _, hh, hcap, hcm, _, _⟩⟩ := h'
  · exact ⟨none, 0, by rw [h1], by omega, Nat.zero_le _, fun h0 => by omega⟩
  · refine ⟨_, cap, rfl, hcap, hcm, fun _ => ⟨g, 0, rfl, (Array.getElem?_eq_some_iff.1 hh).1, fun i hi => ?_⟩⟩
    obtain ⟨e0, e1⟩ := itc_at L i hi
    rw [Nat.zero_add, h.cellAt (i * 2) (by omega), h.cellAt (i * 2 + 1) (by omega)]
    exact ⟨e0, e1⟩
theorem Tryz.infoItem : (Tryz.prog.info? 72).map (fun i => (i.zero, i.size, i.bytes)) = some (some (.agg #[.string ⟨#[]⟩, .string ⟨#[]⟩]), 2, 32) := by kernel_rfl
theorem own_baseX {w : World} {B B' n sz : Nat} {T : TypeId} {v : Value} {xs : List Value} (h : w.ownsRow B T sz v n xs) (hB : B' ≤ B) : w.ownsRow B' T sz v n xs := by
  obtain ⟨h1, h2⟩ := h
  refine ⟨h1, ?_⟩
  rcases h2 with h2 | ⟨g, cap, cur, rfl, hb, hh, h3⟩
  · exact .inl h2
  · exact .inr ⟨g, cap, cur, rfl, Nat.le_trans hB hb, hh, h3⟩
/-- The call ended with what was read, and whether it is a store. -/
def RdIs (B : Nat) (e : Ending) (w : World) (R : Option (List Item)) : Prop :=
  ∃ v, e = .returned (.tuple #[v, .bool R.isSome]) ∧ ∀ L, R = some L → w.ownsRow B 72 2 v L.length (itc L)
theorem RdIs.none (B : Nat) (w : World) : RdIs B (.returned (.tuple #[.slice Option.none 0 0, .bool false])) w Option.none := ⟨_, rfl, fun _ h => by cases h⟩
theorem below_last {acc : List Item} (h : 0 < acc.length) (i : ByteArray) : belowB acc i = ltB (acc[acc.length - 1]'(by omega)).1 i := by
  unfold belowB
  rw [List.getLast?_eq_getElem?, List.getElem?_eq_getElem (by omega)]
theorem readU_step (s : ByteArray) (k a : Nat) (acc : List Item) (hk : 0 < k) : readU s k a acc =
    if (St4.textO s a).2.2 ≠ 0 then none
    else if (St4.textO s (St4.textO s a).2.1.toNat).2.2 ≠ 0 then none
    else if idB (St4.textO s a).1 = false then none
    else if belowB acc (St4.textO s a).1 = false then none
    else readU s (k - 1) (St4.textO s (St4.textO s a).2.1.toNat).2.1.toNat (acc ++ [((St4.textO s a).1, (St4.textO s (St4.textO s a).2.1.toNat).1)]) := by
  obtain ⟨k', rfl⟩ : ∃ k', k = k' + 1 := ⟨k - 1, by omega⟩
  rw [readU]
  rfl

set_option maxHeartbeats 16000000 in
set_option maxRecDepth 100000 in
theorem l09Read_any (vs vp : Value) (xs : List ByteArray) (ps : List (Int × ByteArray)) (w : World) (hn : xs.length ≤ 1048576) (hn2 : ps.length ≤ 1048576) (hr : Reads w vs xs) (hp : ReadsP w vp ps) :
    Calls Tryz.prog 59 #[.agg #[vs, vp]] w fun e w' => RdIs w.heap.size e w' (keptO xs ps) ∧ Below w.heap.size w w' := by
  obtain ⟨i0, hi, hz0, hz1, hz2⟩ := info_parts Tryz.infoItem
  have HZC := hide (show (Value.agg #[.string ⟨#[]⟩, .string ⟨#[]⟩]).cells.size = 2 from rfl)
  have hb0 : Below w.heap.size w (w.alloc (.cells #[vs, vp] 29)) := (Below.refl _ _).alloc (Nat.le_refl _) _
  have HB0 := hide hb0
  have HR := hide (hr.below hb0 (Nat.le_refl _))
  have HP := hide (hp.below hb0 (Nat.le_refl _))
  have htz := areaOut_t xs ps
  obtain ⟨Y, hY⟩ : ∃ Y, Y = areaOut xs ps := ⟨_, rfl⟩
  have HY := hide hY
  have HKO := hide (show keptO xs ps = if Y.c ≠ 0 then none else keptS Y.t by rw [hY]; rfl)
  rw [← hY] at htz
  obtain ⟨p1, c1, rfl, _⟩ := hr
  obtain ⟨p2, c2, rfl, _⟩ := hp
  clear hb0 hY
  obtain ⟨R, hR⟩ : ∃ R, R = keptO xs ps := ⟨_, rfl⟩
  have HRR := hide hR
  rw [← hR]
  clear hR
  go_enter Tryz.func59, Tryz.ntmps59
  go_wp2_with fail
  refine (specAreaRead_any _ _ xs ps _ hn hn2 HR.out HP.out).mono ?_
  rw [← HY.out]
  rintro e w1 ⟨⟨us, up, rfl, o1, o2, _⟩, hb1⟩
  obtain ⟨s1, s2, s3, rfl⟩ := o1.isSlice
  obtain ⟨s4, s5, s6, rfl⟩ := o2.isSlice
  have HB1 := hide (HB0.out.trans (hb1.mono HB0.out.size))
  clear hb1 o1 o2 HR HP
  obtain ⟨T, hT⟩ : ∃ T, T = Y.t := ⟨_, rfl⟩
  obtain ⟨cc, hcc⟩ : ∃ cc, cc = Y.c := ⟨_, rfl⟩
  obtain ⟨gg, hgg⟩ : ∃ gg, gg = Y.g := ⟨_, rfl⟩
  rw [← hT, ← hcc, ← hgg]
  rw [← hT] at htz
  have HKO := hide (show R = if cc ≠ 0 then none else keptS T by rw [HRR.out, HKO.out, hT, hcc])
  clear hT hcc hgg HRR HY
  obtain ⟨W1, hW1⟩ : ∃ W1, W1 = w1.alloc (.cells #[.slice s1 s2 s3, .slice s4 s5 s6, .string T, .int .i64 gg, .int .i64 cc] 105) := ⟨_, rfl⟩
  have HBW := hide (show Below w.heap.size w W1 by rw [hW1]; exact HB1.out.alloc HB1.out.size _)
  have HRA := hide (show Row W1 w1.heap.size 105 [.slice s1 s2 s3, .slice s4 s5 s6, .string T, .int .i64 gg, .int .i64 cc] by rw [hW1]; exact row_new w1 _ _)
  have HGW := hide (show w.heap.size ≤ w1.heap.size from HB1.out.size)
  by_cases hc : cc = 0
  rotate_left
  · have HE := hide (show R = none by rw [HKO.out, if_pos hc])
    have hcb : (cc != 0) = true := by simpa using hc
    clear hc
    go_wp2
    go_ret2
    exact ⟨by rw [HE.out]; exact RdIs.none _ _, HB1.out.alloc HB1.out.size _⟩
  subst hc
  have HKO := hide (show R = keptS T by rw [HKO.out, if_neg (by simp)])
  have r2 : (w1.alloc (.cells #[.slice s1 s2 s3, .slice s4 s5 s6, .string T, .int .i64 gg, .int .i64 0] 105)).cell? ⟨w1.heap.size, 2, none⟩ = some (.string T) := by rw [← hW1]; exact HRA.out.cell 2
  go_wp2_with fail
  rw [← hW1]
  clear r2 hW1 HB1
  refine (St3.specGetNum_any T 0 _ _ (by omega) (by omega) (hide rfl)).mono ?_
  obtain ⟨N, hN⟩ : ∃ N, N = St3.scan T 0 10 0 0 := ⟨_, rfl⟩
  have HKS := hide (show R = if N.2.2 ≠ 0 ∨ ¬ (0 ≤ N.1 ∧ N.1 ≤ 12) then none else match readU T N.1.toNat N.2.1.toNat [] with
    | none => none
    | some L => if storeB L = T then some L else none by rw [HKO.out, hN]; rfl)
  have hat := St4.scan_at T 0 10 0 0
  rw [← hN] at hat ⊢
  obtain ⟨N1, N2, N3⟩ := N
  have HAT := hide hat
  clear hN hat HKO
  simp only at HKS HAT ⊢
  rintro e w2 ⟨rfl, hb2⟩
  obtain ⟨W2, hW2⟩ : ∃ W2, W2 = w2.alloc (.cells #[.int .i64 N1, .int .i64 N2, .int .i64 N3] 110) := ⟨_, rfl⟩
  have bn2 := hb2.trans ((below_new w2 (.cells #[.int .i64 N1, .int .i64 N2, .int .i64 N3] 110)).mono hb2.size)
  have HBW2 := hide (show Below w.heap.size w W2 by rw [hW2]; exact HBW.out.trans (bn2.mono HBW.out.size))
  have HRA2 := hide (show Row W2 w1.heap.size 105 [.slice s1 s2 s3, .slice s4 s5 s6, .string T, .int .i64 gg, .int .i64 0] by rw [hW2]; exact HRA.out.below bn2 HRA.out.lt)
  have HRN := hide (show Row W2 w2.heap.size 110 [.int .i64 N1, .int .i64 N2, .int .i64 N3] by rw [hW2]; exact row_new w2 _ _)
  have HB2r := hide (show Below w.heap.size w w2 from HBW.out.trans (hb2.mono HBW.out.size))
  clear hb2 bn2 HRA HBW
  by_cases h3 : N3 = 0
  rotate_left
  · have HE := hide (show R = none by rw [HKS.out, if_pos (.inl h3)])
    have hcb : (N3 != 0) = true := by simpa using h3
    clear h3 HKS HAT
    go_wp2
    go_ret2
    exact ⟨by rw [HE.out]; exact RdIs.none _ _, HB2r.out.alloc HB2r.out.size _⟩
  subst h3
  by_cases hin : 0 ≤ N1 ∧ N1 ≤ 12
  rotate_left
  · have HE := hide (show R = none by rw [HKS.out, if_pos (.inr hin)])
    clear HKS HAT
    go_wp2_with fail
    refine (l02Is_no _ _ _ _ hin).mono ?_
    rintro e w3 ⟨rfl, rfl⟩
    go_wp2
    go_ret2
    exact ⟨by rw [HE.out]; exact RdIs.none _ _, HB2r.out.alloc HB2r.out.size _⟩
  obtain ⟨hin0, hin1⟩ := hin
  obtain ⟨ha0, ha1⟩ := HAT.out rfl
  obtain ⟨n, rfl⟩ := Int.eq_ofNat_of_zero_le hin0
  obtain ⟨A0, rfl⟩ := Int.eq_ofNat_of_zero_le ha0
  have HKR := hide (show R = match readU T n A0 [] with
    | none => none
    | some L => if storeB L = T then some L else none by
    have := HKS.out
    rw [if_neg (by simp; omega)] at this
    simpa using this)
  clear HKS HAT ha0
  go_wp2_with fail
  refine (l02Is_yes _ _ _ _ hin0 hin1).mono ?_
  rintro e w3 ⟨rfl, rfl⟩
  have r0 : (w2.alloc (.cells #[.int .i64 (n : Int), .int .i64 (A0 : Int), .int .i64 0] 110)).cell? ⟨w2.heap.size, 0, none⟩ = some (.int .i64 (n : Int)) := by rw [← hW2]; exact HRN.out.cell 0
  rw [← hW2]
  clear r0
  have HO3 := hide (show (W2.alloc (.cells #[] 72)).ownsRow W2.heap.size 72 2 (.slice (some ⟨W2.heap.size, 0, none⟩) 0 0) 0 [] by
    have := World.ownsRow_lit (e := 72) (base := W2.heap.size) (size := 2) W2 #[] 0 (Nat.le_refl _) (by unfold maxLen; omega) rfl
    simpa using this)
  have HB3 := hide (show Below W2.heap.size W2 (W2.alloc (.cells #[] 72)) from below_new W2 _)
  have HRN3 := hide (HRN.out.alloc (.cells #[] 72))
  have q0 : (W2.alloc (.cells #[] 72)).cell? ⟨w2.heap.size, 0, none⟩ = some (.int .i64 (n : Int)) := HRN3.out.cell 0
  have q1 : (W2.alloc (.cells #[] 72)).cell? ⟨w2.heap.size, 1, none⟩ = some (.int .i64 (A0 : Int)) := HRN3.out.cell 1
  clear hW2
  go_wp2
  go_loopw [6, 7, 8] (fun l a i wr => ∃ (X : World) (k A : Nat) (acc : List Item), X = wr ∧ a = .int .i64 (A : Int) ∧ i = .int .i64 (k : Int) ∧ acc.length + k ≤ 12 ∧ A ≤ 8000 ∧ Hid (readU T k A acc = readU T n A0 []) ∧ Hid (∀ x ∈ acc, OkI x) ∧
    Hid (X.ownsRow W2.heap.size 72 2 l acc.length (itc acc)) ∧ Hid (Below W2.heap.size W2 X)) (fun _ _ i _ => (intOf i).toNat)
  case atStart => exact ⟨_, n, A0, [], rfl, rfl, rfl, by simp; omega, by omega, hide rfl, hide (by simp), HO3, HB3⟩
  case round =>
    obtain ⟨X, k, A, acc, rfl, rfl, rfl, hle, hA, HU, HOK, HOw, HB⟩ := hrel
    have HBX := hide (HBW2.out.trans (HB.out.mono HBW2.out.size))
    have HRX := hide (HRA2.out.below HB.out HRA2.out.lt)
    obtain ⟨pl, cl, rfl⟩ := own_sliceX HOw.out
    have hk12 : k ≤ 12 := by omega
    by_cases hk0 : 0 < k
    · have hki : (0 : Int) < (k : Int) := by omega
      have HU2 := hide ((readU_step T k A acc hk0).symm.trans HU.out)
      have r2 : X.cell? ⟨w1.heap.size, 2, none⟩ = some (.string T) := HRX.out.cell 2
      go_wp2_with fail
      refine (St4.specGetText_any T A _ (by omega) (by omega)).mono ?_
      have hto := St4.textO_at T A
      obtain ⟨o1, ho1⟩ : ∃ o1, o1 = St4.textO T A := ⟨_, rfl⟩
      rw [← ho1] at hto HU2 ⊢
      obtain ⟨t1, A1, C1⟩ := o1
      simp only at hto HU2 ⊢
      clear ho1 HU
      rintro e X1 ⟨rfl, hb1⟩
      obtain ⟨Xa, hXa⟩ : ∃ Xa, Xa = X1.alloc (.cells #[.string t1, .int .i64 A1, .int .i64 C1] 113) := ⟨_, rfl⟩
      have bn1 := hb1.trans ((below_new X1 (.cells #[.string t1, .int .i64 A1, .int .i64 C1] 113)).mono hb1.size)
      have HBa := hide (show Below X.heap.size X Xa by rw [hXa]; exact bn1)
      have HBr := hide (show Below w.heap.size w X1 from HBX.out.trans (hb1.mono HBX.out.size))
      have HRXa := hide (show Row Xa w1.heap.size 105 [.slice s1 s2 s3, .slice s4 s5 s6, .string T, .int .i64 gg, .int .i64 0] by rw [hXa]; exact HRX.out.below bn1 HRX.out.lt)
      have HT1 := hide (show Row Xa X1.heap.size 113 [.string t1, .int .i64 A1, .int .i64 C1] by rw [hXa]; exact row_new X1 _ _)
      clear r2 hb1 bn1
      by_cases hC1 : C1 = 0
      rotate_left
      · have HE := hide (show R = none by rw [HKR.out, ← HU2.out, if_pos hC1])
        have hcb : (C1 != 0) = true := by simpa using hC1
        clear hC1 HU2 hto HKR
        go_wp2
        go_ret2
        exact ⟨by rw [HE.out]; exact RdIs.none _ _, HBr.out.alloc HBr.out.size _⟩
      subst hC1
      obtain ⟨a10, a11, ht1⟩ := hto rfl
      obtain ⟨B1, rfl⟩ := Int.eq_ofNat_of_zero_le a10
      have HU3 := hide (show (if (St4.textO T B1).2.2 ≠ 0 then none else if idB t1 = false then none else if belowB acc t1 = false then none else readU T (k - 1) (St4.textO T B1).2.1.toNat (acc ++ [(t1, (St4.textO T B1).1)])) = readU T n A0 [] by
        have := HU2.out
        rw [if_neg (by simp)] at this
        simpa using this)
      clear HU2
      have r2 : (X1.alloc (.cells #[.string t1, .int .i64 (B1 : Int), .int .i64 0] 113)).cell? ⟨w1.heap.size, 2, none⟩ = some (.string T) := by rw [← hXa]; exact HRXa.out.cell 2
      go_wp2_with fail
      rw [← hXa]
      clear r2 hXa
      refine (St4.specGetText_any T B1 _ (by omega) (by omega)).mono ?_
      have hto := St4.textO_at T B1
      obtain ⟨o1, ho1⟩ : ∃ o1, o1 = St4.textO T B1 := ⟨_, rfl⟩
      rw [← ho1] at hto HU3 ⊢
      obtain ⟨t2, A2, C2⟩ := o1
      simp only at hto HU3 ⊢
      clear ho1
      rintro e X2 ⟨rfl, hb2⟩
      obtain ⟨Z, hZ⟩ : ∃ Z, Z = X2.alloc (.cells #[.string t2, .int .i64 A2, .int .i64 C2] 113) := ⟨_, rfl⟩
      have bn1 := hb2.trans ((below_new X2 (.cells #[.string t2, .int .i64 A2, .int .i64 C2] 113)).mono hb2.size)
      have HXZ := hide (show Below X.heap.size X Z by rw [hZ]; exact HBa.out.trans (bn1.mono HBa.out.size))
      have HBZ := hide (show Below w.heap.size w Z from HBX.out.trans (HXZ.out.mono HBX.out.size))
      have HRZ := hide (show Row Z w1.heap.size 105 [.slice s1 s2 s3, .slice s4 s5 s6, .string T, .int .i64 gg, .int .i64 0] by rw [hZ]; exact HRXa.out.below bn1 HRXa.out.lt)
      have HT1 := hide (show Row Z X1.heap.size 113 [.string t1, .int .i64 (B1 : Int), .int .i64 0] by rw [hZ]; exact HT1.out.below bn1 HT1.out.lt)
      have HT2 := hide (show Row Z X2.heap.size 113 [.string t2, .int .i64 A2, .int .i64 C2] by rw [hZ]; exact row_new X2 _ _)
      have HOZ := hide (own_belowX HOw.out HXZ.out)
      have HZZ := hide (show Below W2.heap.size W2 Z from HB.out.trans (HXZ.out.mono HB.out.size))
      have HNB := hide (show (Value.slice pl acc.length cl).ownBlock ≠ some X2.heap.size from fun e => by have := (HOw.out.lt _ e).2; have := HBa.out.size; have := hb2.size; omega)
      clear hb2 bn1 HBa HRXa HOw HBr
      go_upto_region 16 with fail
      rw [← hZ]
      clear hZ
      have d90 : Z.cell? ⟨X1.heap.size, 0, none⟩ = some (.string t1) := HT1.out.cell 0
      have d102 : Z.cell? ⟨X2.heap.size, 2, none⟩ = some (.int .i64 C2) := HT2.out.cell 2
      by_cases hC2 : C2 = 0
      rotate_left
      · have HE := hide (show R = none by rw [HKR.out, ← HU3.out, if_pos hC2])
        have hcb : (C2 != 0) = true := by simpa using hC2
        clear hC2 HU3 hto HKR
        go_quiet (fail)
        go_wp2
        go_ret2
        exact ⟨by rw [HE.out]; exact RdIs.none _ _, below_drewN HBZ.out nq⟩
      subst hC2
      obtain ⟨a20, a21, ht2⟩ := hto rfl
      obtain ⟨B2, rfl⟩ := Int.eq_ofNat_of_zero_le a20
      have HU4 := hide (show (if idB t1 = false then none else if belowB acc t1 = false then none else readU T (k - 1) B2 (acc ++ [(t1, t2)])) = readU T n A0 [] by
        have := HU3.out
        rw [if_neg (by simp)] at this
        simpa using this)
      clear HU3
      have htm : t1.size ≤ maxLen := by unfold maxLen; omega
      cases hid : idB t1
      · have HE := hide (show R = none by rw [HKR.out, ← HU4.out, if_pos hid])
        have HNR := hide (fun X : World => specNameRight_any t1 X htm)
        rw [hid] at HNR
        clear HU4 hto HKR hid
        go_quiet ((go_at_call 65; exact Calls.quiet_of_same (HNR.out _)))
        go_wp2
        go_ret2
        exact ⟨by rw [HE.out]; exact RdIs.none _ _, below_drewN HBZ.out nq⟩
      have HNR := hide (fun X : World => specNameRight_any t1 X htm)
      rw [hid] at HNR
      have HU5 := hide (show (if belowB acc t1 = false then none else readU T (k - 1) B2 (acc ++ [(t1, t2)])) = readU T n A0 [] by
        have := HU4.out
        rw [if_neg (by rw [hid]; simp)] at this
        exact this)
      have HOKn := hide (show ∀ x ∈ acc ++ [(t1, t2)], OkI x from fun x hx => by
        rcases List.mem_append.1 hx with hx | hx
        · exact HOK.out x hx
        · obtain rfl : x = (t1, t2) := by simpa using hx
          exact ⟨hid, ht2⟩)
      have hB2 : B2 ≤ 8000 := by omega
      have hkm : ((k : Int) - 1) = ((k - 1 : Nat) : Int) := by omega
      have HKM := hide hkm
      clear HU4 hto hid hkm a20 a10
      by_cases hl0 : acc.length = 0
      · have HUN := hide (show readU T (k - 1) B2 (acc ++ [(t1, t2)]) = readU T n A0 [] by
          have := HU5.out
          rw [if_neg (by rw [List.eq_nil_of_length_eq_zero hl0]; simp [belowB])] at this
          exact this)
        have hnl : ¬ (0 : Int) < (acc.length : Int) := by omega
        have HL0 := hide hl0
        clear HU5 hl0
        refine wp_region_held (S := fun y : World => y.cell? ⟨X1.heap.size, 0, none⟩ = some (.string t1) ∧ y.cell? ⟨X2.heap.size, 2, none⟩ = some (.int .i64 0)) (by kernel_rfl) ?_
        have HS := hide (show ({ Z with drawn := Z.drawn + 1 } : World).cell? ⟨X1.heap.size, 0, none⟩ = some (.string t1) ∧ ({ Z with drawn := Z.drawn + 1 } : World).cell? ⟨X2.heap.size, 2, none⟩ = some (.int .i64 0) from ⟨d90, d102⟩)
        have HZV := hide (show Below Z.heap.size Z { Z with drawn := Z.drawn + 1 } from (Below.refl _ Z).drew)
        generalize ({ Z with drawn := Z.drawn + 1 } : World) = V at HS HZV ⊢
        clear d90 d102
        refine wpAnyH_take (i := 0) (oi := _) (v := .pointer (some ⟨X2.heap.size, 2, none⟩)) rfl (by kernel_rfl) (by kernel_rfl) (by kernel_rfl) (fun _ _ _ h => h) (Or.inl ⟨by rfl, by intro w hSw; go_split_ands; go_simp <;> omega⟩) HS.out ?_
        simp only [Act.put, List.getElem_toArray, List.getElem_cons_zero, List.setIfInBounds_toArray, List.set_cons_zero, List.set_cons_succ]
        refine wpAnyH_take (i := 1) (oi := _) (v := .int .i64 0) rfl (by kernel_rfl) (by kernel_rfl) (by kernel_rfl) (fun _ _ _ h => h) (Or.inl ⟨by rfl, by intro w hSw; go_split_ands; go_simp <;> omega⟩) HS.out ?_
        simp only [Act.put, List.getElem_toArray, List.getElem_cons_zero, List.getElem_cons_succ, List.setIfInBounds_toArray, List.set_cons_zero, List.set_cons_succ]
        refine wpAnyH_take (i := 2) (oi := _) (v := .bool false) rfl (by kernel_rfl) (by kernel_rfl) (by kernel_rfl) (fun _ _ _ h => h) (Or.inl ⟨by rfl, by intro w hSw; go_split_ands; go_simp <;> omega⟩) HS.out ?_
        simp only [Act.put, List.getElem_toArray, List.getElem_cons_zero, List.getElem_cons_succ, List.setIfInBounds_toArray, List.set_cons_zero, List.set_cons_succ]
        refine wpAnyH_take (i := 3) (oi := _) (v := .bool false) rfl (by kernel_rfl) (by kernel_rfl) (by kernel_rfl) (fun _ _ _ h => h) (Or.inl ⟨by rfl, by intro w hSw; go_split_ands; go_simp <;> omega⟩) HS.out ?_
        simp only [Act.put, List.getElem_toArray, List.getElem_cons_zero, List.getElem_cons_succ, List.setIfInBounds_toArray, List.set_cons_zero, List.set_cons_succ]
        refine wpAnyH_take (i := 4) (oi := _) (v := .pointer (some ⟨X1.heap.size, 0, none⟩)) rfl (by kernel_rfl) (by kernel_rfl) (by kernel_rfl) (fun _ _ _ h => h) (Or.inl ⟨by rfl, by intro w hSw; go_split_ands; go_simp <;> omega⟩) HS.out ?_
        simp only [Act.put, List.getElem_toArray, List.getElem_cons_zero, List.getElem_cons_succ, List.setIfInBounds_toArray, List.set_cons_zero, List.set_cons_succ]
        refine wpAnyH_take (i := 5) (oi := _) (v := .string t1) rfl (by kernel_rfl) (by kernel_rfl) (by kernel_rfl) (fun _ _ _ h => h) (Or.inl ⟨by rfl, by intro w hSw; go_split_ands; go_simp <;> omega⟩) HS.out ?_
        simp only [Act.put, List.getElem_toArray, List.getElem_cons_zero, List.getElem_cons_succ, List.setIfInBounds_toArray, List.set_cons_zero, List.set_cons_succ]
        refine wpAnyH_ready (rs := [6]) (by kernel_rfl) (by simp) ?_
        refine AllReadyH.cons (o := _) rfl (fun K hK => ?_) AllReadyH.nil
        go_simp
        refine (HNR.out _).mono ?_
        rintro e V2 ⟨rfl, hVV⟩
        obtain rfl := hVV.symm
        refine hK.out _ _ HS.out (fun _ => ?_)
        clear hK K
        try simp only [Act.put, List.getElem_toArray, List.getElem_cons_zero, List.getElem_cons_succ, List.setIfInBounds_toArray, List.set_cons_zero, List.set_cons_succ]
        refine wpAnyH_take (i := 7) (oi := _) (v := .bool false) rfl (by kernel_rfl) (by kernel_rfl) (by kernel_rfl) (fun _ _ _ h => h) (Or.inl ⟨by rfl, by intro w hSw; go_split_ands; go_simp <;> omega⟩) HS.out ?_
        simp only [Act.put, List.getElem_toArray, List.getElem_cons_zero, List.getElem_cons_succ, List.setIfInBounds_toArray, List.set_cons_zero, List.set_cons_succ]
        refine wpAnyH_take (i := 8) (oi := _) (v := .bool false) rfl (by kernel_rfl) (by kernel_rfl) (by kernel_rfl) (fun _ _ _ h => h) (Or.inl ⟨by rfl, by intro w hSw; go_split_ands; go_simp <;> omega⟩) HS.out ?_
        simp only [Act.put, List.getElem_toArray, List.getElem_cons_zero, List.getElem_cons_succ, List.setIfInBounds_toArray, List.set_cons_zero, List.set_cons_succ]
        refine wpAnyH_take (i := 9) (oi := _) (v := .bool false) rfl (by kernel_rfl) (by kernel_rfl) (by kernel_rfl) (fun _ _ _ h => h) (Or.inl ⟨by rfl, by intro w hSw; go_split_ands; go_simp <;> omega⟩) HS.out ?_
        simp only [Act.put, List.getElem_toArray, List.getElem_cons_zero, List.getElem_cons_succ, List.setIfInBounds_toArray, List.set_cons_zero, List.set_cons_succ]
        refine wpAnyH_take (i := 10) (oi := _) (v := .slice pl acc.length cl) rfl (by kernel_rfl) (by kernel_rfl) (by kernel_rfl) (fun _ _ _ h => h) (Or.inl ⟨by rfl, by intro w hSw; go_split_ands; go_simp <;> omega⟩) HS.out ?_
        simp only [Act.put, List.getElem_toArray, List.getElem_cons_zero, List.getElem_cons_succ, List.setIfInBounds_toArray, List.set_cons_zero, List.set_cons_succ]
        refine wpAnyH_take (i := 11) (oi := _) (v := .int .i64 (acc.length : Int)) rfl (by kernel_rfl) (by kernel_rfl) (by kernel_rfl) (fun _ _ _ h => h) (Or.inl ⟨by rfl, by intro w hSw; go_split_ands; go_simp <;> omega⟩) HS.out ?_
        simp only [Act.put, List.getElem_toArray, List.getElem_cons_zero, List.getElem_cons_succ, List.setIfInBounds_toArray, List.set_cons_zero, List.set_cons_succ]
        refine wpAnyH_take (i := 12) (oi := _) (v := .bool false) rfl (by kernel_rfl) (by kernel_rfl) (by kernel_rfl) (fun _ _ _ h => h) (Or.inl ⟨by rfl, by intro w hSw; go_split_ands; go_simp <;> exact List.eq_nil_of_length_eq_zero HL0.out⟩) HS.out ?_
        simp only [Act.put, List.getElem_toArray, List.getElem_cons_zero, List.getElem_cons_succ, List.setIfInBounds_toArray, List.set_cons_zero, List.set_cons_succ]
        refine wpAnyH_take (i := 13) (oi := _) (v := .bool false) rfl (by kernel_rfl) (by kernel_rfl) (by kernel_rfl) (fun _ _ _ h => h) (Or.inl ⟨by rfl, by intro w hSw; go_split_ands; go_simp <;> omega⟩) HS.out ?_
        simp only [Act.put, List.getElem_toArray, List.getElem_cons_zero, List.getElem_cons_succ, List.setIfInBounds_toArray, List.set_cons_zero, List.set_cons_succ]
        refine wpAnyH_take (i := 14) (oi := _) (v := undef) rfl (by kernel_rfl) (by kernel_rfl) (by kernel_rfl) (fun _ _ _ h => h) (Or.inr ⟨by rfl, rfl⟩) HS.out ?_
        simp only [Act.put, List.getElem_toArray, List.getElem_cons_zero, List.getElem_cons_succ, List.setIfInBounds_toArray, List.set_cons_zero, List.set_cons_succ]
        refine wpAnyH_take (i := 15) (oi := _) (v := undef) rfl (by kernel_rfl) (by kernel_rfl) (by kernel_rfl) (fun _ _ _ h => h) (Or.inr ⟨by rfl, rfl⟩) HS.out ?_
        simp only [Act.put, List.getElem_toArray, List.getElem_cons_zero, List.getElem_cons_succ, List.setIfInBounds_toArray, List.set_cons_zero, List.set_cons_succ]
        refine wpAnyH_take (i := 16) (oi := _) (v := undef) rfl (by kernel_rfl) (by kernel_rfl) (by kernel_rfl) (fun _ _ _ h => h) (Or.inr ⟨by rfl, rfl⟩) HS.out ?_
        simp only [Act.put, List.getElem_toArray, List.getElem_cons_zero, List.getElem_cons_succ, List.setIfInBounds_toArray, List.set_cons_zero, List.set_cons_succ]
        refine wpAnyH_take (i := 17) (oi := _) (v := undef) rfl (by kernel_rfl) (by kernel_rfl) (by kernel_rfl) (fun _ _ _ h => h) (Or.inr ⟨by rfl, rfl⟩) HS.out ?_
        simp only [Act.put, List.getElem_toArray, List.getElem_cons_zero, List.getElem_cons_succ, List.setIfInBounds_toArray, List.set_cons_zero, List.set_cons_succ]
        refine wpAnyH_take (i := 18) (oi := _) (v := undef) rfl (by kernel_rfl) (by kernel_rfl) (by kernel_rfl) (fun _ _ _ h => h) (Or.inr ⟨by rfl, rfl⟩) HS.out ?_
        simp only [Act.put, List.getElem_toArray, List.getElem_cons_zero, List.getElem_cons_succ, List.setIfInBounds_toArray, List.set_cons_zero, List.set_cons_succ]
        refine wpAnyH_take (i := 19) (oi := _) (v := undef) rfl (by kernel_rfl) (by kernel_rfl) (by kernel_rfl) (fun _ _ _ h => h) (Or.inr ⟨by rfl, rfl⟩) HS.out ?_
        simp only [Act.put, List.getElem_toArray, List.getElem_cons_zero, List.getElem_cons_succ, List.setIfInBounds_toArray, List.set_cons_zero, List.set_cons_succ]
        refine wpAnyH_take (i := 20) (oi := _) (v := undef) rfl (by kernel_rfl) (by kernel_rfl) (by kernel_rfl) (fun _ _ _ h => h) (Or.inr ⟨by rfl, rfl⟩) HS.out ?_
        simp only [Act.put, List.getElem_toArray, List.getElem_cons_zero, List.getElem_cons_succ, List.setIfInBounds_toArray, List.set_cons_zero, List.set_cons_succ]
        refine wpAnyH_take (i := 21) (oi := _) (v := undef) rfl (by kernel_rfl) (by kernel_rfl) (by kernel_rfl) (fun _ _ _ h => h) (Or.inr ⟨by rfl, rfl⟩) HS.out ?_
        simp only [Act.put, List.getElem_toArray, List.getElem_cons_zero, List.getElem_cons_succ, List.setIfInBounds_toArray, List.set_cons_zero, List.set_cons_succ]
        refine wpAnyH_take (i := 22) (oi := _) (v := undef) rfl (by kernel_rfl) (by kernel_rfl) (by kernel_rfl) (fun _ _ _ h => h) (Or.inr ⟨by rfl, rfl⟩) HS.out ?_
        simp only [Act.put, List.getElem_toArray, List.getElem_cons_zero, List.getElem_cons_succ, List.setIfInBounds_toArray, List.set_cons_zero, List.set_cons_succ]
        refine wpAnyH_take (i := 23) (oi := _) (v := undef) rfl (by kernel_rfl) (by kernel_rfl) (by kernel_rfl) (fun _ _ _ h => h) (Or.inr ⟨by rfl, rfl⟩) HS.out ?_
        simp only [Act.put, List.getElem_toArray, List.getElem_cons_zero, List.getElem_cons_succ, List.setIfInBounds_toArray, List.set_cons_zero, List.set_cons_succ]
        refine wpAnyH_take (i := 24) (oi := _) (v := .bool false) rfl (by kernel_rfl) (by kernel_rfl) (by kernel_rfl) (fun _ _ _ h => h) (Or.inl ⟨by rfl, by intro w hSw; go_split_ands; go_simp <;> omega⟩) HS.out ?_
        simp only [Act.put, List.getElem_toArray, List.getElem_cons_zero, List.getElem_cons_succ, List.setIfInBounds_toArray, List.set_cons_zero, List.set_cons_succ]
        refine wpAnyH_take (i := 25) (oi := _) (v := .bool false) rfl (by kernel_rfl) (by kernel_rfl) (by kernel_rfl) (fun _ _ _ h => h) (Or.inl ⟨by rfl, by intro w hSw; go_split_ands; go_simp <;> omega⟩) HS.out ?_
        simp only [Act.put, List.getElem_toArray, List.getElem_cons_zero, List.getElem_cons_succ, List.setIfInBounds_toArray, List.set_cons_zero, List.set_cons_succ]
        refine wpAnyH_done (by kernel_rfl) ?_ _
        have HVV := hide (show Below W2.heap.size W2 V from HZZ.out.trans (HZV.out.mono HZZ.out.size))
        have HOV := hide (own_belowX HOZ.out HZV.out)
        have e90 : V.cell? ⟨X1.heap.size, 0, none⟩ = some (.string t1) := (HT1.out.below HZV.out HT1.out.lt).cell 0
        have e100 : V.cell? ⟨X2.heap.size, 0, none⟩ = some (.string t2) := (HT2.out.below HZV.out HT2.out.lt).cell 0
        have HR102 := hide (HT2.out.below HZV.out HT2.out.lt)
        clear HZV
        have HRW := hide (row_new V [.string t1, .string t2] 72)
        have HOVa := hide (own_belowX HOV.out (below_new V (.cells #[.string t1, .string t2] 72)))
        have HVS := hide (show W2.heap.size ≤ (V.alloc (.cells #[.string t1, .string t2] 72)).heap.size by have := HVV.out.size; simp; omega)
        have hnews : ∀ (j : Nat) u, ([Value.string t1, Value.string t2] : List Value)[j]? = some u → (V.alloc (.cells #[.string t1, .string t2] 72)).cell? ((⟨V.heap.size, 0, none⟩ : Addr).add j) = some u := fun j u hu => by
          rw [Addr.add_lit, Nat.zero_add, HRW.out.cell]; exact hu
        have HNW := hide hnews
        clear hnews
        go_wp2_with (at_builtin; refine wpList_append_own_at (V.alloc (.cells #[.string t1, .string t2] 72)) rfl (.tmp 75) (.tmp 81) 65 rfl W2.heap.size 72 i0 _ 2 32 Tryz.underlying65 hi hz0 hz1 hz2 HZC.out (by omega) _ acc.length (itc acc) rfl HOVa.out ⟨V.heap.size, 0, none⟩ 1 _ [.string t1, .string t2] rfl rfl HNW.out (by simp [Value.oneCell']) (by unfold maxLen; omega) (by omega) HVS.out ?_)
        intro v9 Z9 hown9 hgrow _ _
        obtain ⟨pv, cv, hv9⟩ := own_sliceX hown9
        subst hv9
        have HB9 := hide ((HVV.out.alloc HVV.out.size (.cells #[.string t1, .string t2] 72)).grown hgrow HVS.out (fun g hg => (HOVa.out.lt g hg).1))
        have HO9 := hide (show Z9.ownsRow W2.heap.size 72 2 (.slice pv (acc ++ [(t1, t2)]).length cv) (acc ++ [(t1, t2)]).length (itc (acc ++ [(t1, t2)])) by
          rw [itc_append, List.length_append]
          exact hown9)
        have HR9 := hide (row_grown ((HR102.out).alloc (.cells #[.string t1, .string t2] 72)) hgrow HNB.out)
        have e101 : Z9.cell? ⟨X2.heap.size, 1, none⟩ = some (.int .i64 (B2 : Int)) := HR9.out.cell 1
        clear hown9 hgrow e90 e100
        go_wp2
        go_roundw
        case rel => exact ⟨Z9, k - 1, B2, acc ++ [(t1, t2)], rfl, rfl, by rw [HKM.out], by simp; omega, hB2, HUN, HOKn, by simpa using HO9, HB9⟩
        case measure => simp [intOf]; omega
      obtain ⟨gl, rfl⟩ : ∃ gl, pl = some ⟨gl, 0, none⟩ := by
        obtain ⟨_, ⟨_, h1⟩ | ⟨g, cap, cur, e1, _⟩⟩ := HOZ.out
        · omega
        · cases e1; exact ⟨_, rfl⟩
      have hpl : (0 : Int) < (acc.length : Int) := by omega
      have hlast : Z.cell? ⟨gl, (acc.length - 1) * 2, none⟩ = some (.string (acc[acc.length - 1]'(by omega)).1) := by
        rw [HOZ.out.cellAt ((acc.length - 1) * 2) (by omega)]
        exact (itc_at acc (acc.length - 1) (by omega)).1
      have HBL := hide (below_last (acc := acc) (by omega) t1)
      have hless := less_eq (acc[acc.length - 1]'(by omega)).1 t1
      obtain ⟨lst, hlst⟩ : ∃ lst, lst = (acc[acc.length - 1]'(by omega)).1 := ⟨_, rfl⟩
      rw [← hlst] at hlast hless HBL
      rw [← HBL.out] at hless
      have hw1 : IntKind.i64.wrap ((acc.length : Int) - 1) = (acc.length : Int) - 1 := by rw [IntKind.wrap_i64]; omega
      have hw2 : ((acc.length : Int) - 1).toNat = acc.length - 1 := by omega
      have hw3 : (0 : Int) ≤ (acc.length : Int) - 1 := by omega
      have hw4 : (acc.length : Int) - 1 < (acc.length : Int) := by omega
      clear hlst
      cases hbl : belowB acc t1
      · have HE := hide (show R = none by rw [HKR.out, ← HU5.out, if_pos hbl])
        rw [hbl] at hless
        clear HU5 HKR hbl HBL
        refine wp_region_held (S := fun y : World => y.cell? ⟨X1.heap.size, 0, none⟩ = some (.string t1) ∧ y.cell? ⟨X2.heap.size, 2, none⟩ = some (.int .i64 0) ∧ y.cell? ⟨gl, (acc.length - 1) * 2, none⟩ = some (.string lst)) (by kernel_rfl) ?_
        have HS := hide (show ({ Z with drawn := Z.drawn + 1 } : World).cell? ⟨X1.heap.size, 0, none⟩ = some (.string t1) ∧ ({ Z with drawn := Z.drawn + 1 } : World).cell? ⟨X2.heap.size, 2, none⟩ = some (.int .i64 0) ∧ ({ Z with drawn := Z.drawn + 1 } : World).cell? ⟨gl, (acc.length - 1) * 2, none⟩ = some (.string lst) from ⟨d90, d102, hlast⟩)
        have HZV := hide (show Below Z.heap.size Z { Z with drawn := Z.drawn + 1 } from (Below.refl _ Z).drew)
        generalize ({ Z with drawn := Z.drawn + 1 } : World) = V at HS HZV ⊢
        clear d90 d102 hlast
        refine wpAnyH_take (i := 0) (oi := _) (v := .pointer (some ⟨X2.heap.size, 2, none⟩)) rfl (by kernel_rfl) (by kernel_rfl) (by kernel_rfl) (fun _ _ _ h => h) (Or.inl ⟨by rfl, by intro w hSw; go_split_ands; go_simp <;> omega⟩) HS.out ?_
        simp only [Act.put, List.getElem_toArray, List.getElem_cons_zero, List.setIfInBounds_toArray, List.set_cons_zero, List.set_cons_succ]
        refine wpAnyH_take (i := 1) (oi := _) (v := .int .i64 0) rfl (by kernel_rfl) (by kernel_rfl) (by kernel_rfl) (fun _ _ _ h => h) (Or.inl ⟨by rfl, by intro w hSw; go_split_ands; go_simp <;> omega⟩) HS.out ?_
        simp only [Act.put, List.getElem_toArray, List.getElem_cons_zero, List.getElem_cons_succ, List.setIfInBounds_toArray, List.set_cons_zero, List.set_cons_succ]
        refine wpAnyH_take (i := 2) (oi := _) (v := .bool false) rfl (by kernel_rfl) (by kernel_rfl) (by kernel_rfl) (fun _ _ _ h => h) (Or.inl ⟨by rfl, by intro w hSw; go_split_ands; go_simp <;> omega⟩) HS.out ?_
        simp only [Act.put, List.getElem_toArray, List.getElem_cons_zero, List.getElem_cons_succ, List.setIfInBounds_toArray, List.set_cons_zero, List.set_cons_succ]
        refine wpAnyH_take (i := 3) (oi := _) (v := .bool false) rfl (by kernel_rfl) (by kernel_rfl) (by kernel_rfl) (fun _ _ _ h => h) (Or.inl ⟨by rfl, by intro w hSw; go_split_ands; go_simp <;> omega⟩) HS.out ?_
        simp only [Act.put, List.getElem_toArray, List.getElem_cons_zero, List.getElem_cons_succ, List.setIfInBounds_toArray, List.set_cons_zero, List.set_cons_succ]
        refine wpAnyH_take (i := 4) (oi := _) (v := .pointer (some ⟨X1.heap.size, 0, none⟩)) rfl (by kernel_rfl) (by kernel_rfl) (by kernel_rfl) (fun _ _ _ h => h) (Or.inl ⟨by rfl, by intro w hSw; go_split_ands; go_simp <;> omega⟩) HS.out ?_
        simp only [Act.put, List.getElem_toArray, List.getElem_cons_zero, List.getElem_cons_succ, List.setIfInBounds_toArray, List.set_cons_zero, List.set_cons_succ]
        refine wpAnyH_take (i := 5) (oi := _) (v := .string t1) rfl (by kernel_rfl) (by kernel_rfl) (by kernel_rfl) (fun _ _ _ h => h) (Or.inl ⟨by rfl, by intro w hSw; go_split_ands; go_simp <;> omega⟩) HS.out ?_
        simp only [Act.put, List.getElem_toArray, List.getElem_cons_zero, List.getElem_cons_succ, List.setIfInBounds_toArray, List.set_cons_zero, List.set_cons_succ]
        refine wpAnyH_ready (rs := [6]) (by kernel_rfl) (by simp) ?_
        refine AllReadyH.cons (o := _) rfl (fun K hK => ?_) AllReadyH.nil
        go_simp
        refine (HNR.out _).mono ?_
        rintro e V2 ⟨rfl, hVV⟩
        obtain rfl := hVV.symm
        refine hK.out _ _ HS.out (fun _ => ?_)
        clear hK K
        try simp only [Act.put, List.getElem_toArray, List.getElem_cons_zero, List.getElem_cons_succ, List.setIfInBounds_toArray, List.set_cons_zero, List.set_cons_succ]
        refine wpAnyH_take (i := 7) (oi := _) (v := .bool false) rfl (by kernel_rfl) (by kernel_rfl) (by kernel_rfl) (fun _ _ _ h => h) (Or.inl ⟨by rfl, by intro w hSw; go_split_ands; go_simp <;> omega⟩) HS.out ?_
        simp only [Act.put, List.getElem_toArray, List.getElem_cons_zero, List.getElem_cons_succ, List.setIfInBounds_toArray, List.set_cons_zero, List.set_cons_succ]
        refine wpAnyH_take (i := 8) (oi := _) (v := .bool false) rfl (by kernel_rfl) (by kernel_rfl) (by kernel_rfl) (fun _ _ _ h => h) (Or.inl ⟨by rfl, by intro w hSw; go_split_ands; go_simp <;> omega⟩) HS.out ?_
        simp only [Act.put, List.getElem_toArray, List.getElem_cons_zero, List.getElem_cons_succ, List.setIfInBounds_toArray, List.set_cons_zero, List.set_cons_succ]
        refine wpAnyH_take (i := 9) (oi := _) (v := .bool false) rfl (by kernel_rfl) (by kernel_rfl) (by kernel_rfl) (fun _ _ _ h => h) (Or.inl ⟨by rfl, by intro w hSw; go_split_ands; go_simp <;> omega⟩) HS.out ?_
        simp only [Act.put, List.getElem_toArray, List.getElem_cons_zero, List.getElem_cons_succ, List.setIfInBounds_toArray, List.set_cons_zero, List.set_cons_succ]
        refine wpAnyH_take (i := 10) (oi := _) (v := .slice (some ⟨gl, 0, none⟩) acc.length cl) rfl (by kernel_rfl) (by kernel_rfl) (by kernel_rfl) (fun _ _ _ h => h) (Or.inl ⟨by rfl, by intro w hSw; go_split_ands; go_simp <;> omega⟩) HS.out ?_
        simp only [Act.put, List.getElem_toArray, List.getElem_cons_zero, List.getElem_cons_succ, List.setIfInBounds_toArray, List.set_cons_zero, List.set_cons_succ]
        refine wpAnyH_take (i := 11) (oi := _) (v := .int .i64 (acc.length : Int)) rfl (by kernel_rfl) (by kernel_rfl) (by kernel_rfl) (fun _ _ _ h => h) (Or.inl ⟨by rfl, by intro w hSw; go_split_ands; go_simp <;> omega⟩) HS.out ?_
        simp only [Act.put, List.getElem_toArray, List.getElem_cons_zero, List.getElem_cons_succ, List.setIfInBounds_toArray, List.set_cons_zero, List.set_cons_succ]
        refine wpAnyH_take (i := 12) (oi := _) (v := .bool true) rfl (by kernel_rfl) (by kernel_rfl) (by kernel_rfl) (fun _ _ _ h => h) (Or.inl ⟨by rfl, by intro w hSw; go_split_ands; go_simp <;> omega⟩) HS.out ?_
        simp only [Act.put, List.getElem_toArray, List.getElem_cons_zero, List.getElem_cons_succ, List.setIfInBounds_toArray, List.set_cons_zero, List.set_cons_succ]
        refine wpAnyH_take (i := 13) (oi := _) (v := .bool true) rfl (by kernel_rfl) (by kernel_rfl) (by kernel_rfl) (fun _ _ _ h => h) (Or.inl ⟨by rfl, by intro w hSw; go_split_ands; go_simp <;> omega⟩) HS.out ?_
        simp only [Act.put, List.getElem_toArray, List.getElem_cons_zero, List.getElem_cons_succ, List.setIfInBounds_toArray, List.set_cons_zero, List.set_cons_succ]
        refine wpAnyH_take (i := 14) (oi := _) (v := .slice (some ⟨gl, 0, none⟩) acc.length cl) rfl (by kernel_rfl) (by kernel_rfl) (by kernel_rfl) (fun _ _ _ h => h) (Or.inl ⟨by rfl, by intro w hSw; go_split_ands; go_simp <;> omega⟩) HS.out ?_
        simp only [Act.put, List.getElem_toArray, List.getElem_cons_zero, List.getElem_cons_succ, List.setIfInBounds_toArray, List.set_cons_zero, List.set_cons_succ]
        refine wpAnyH_take (i := 15) (oi := _) (v := .slice (some ⟨gl, 0, none⟩) acc.length cl) rfl (by kernel_rfl) (by kernel_rfl) (by kernel_rfl) (fun _ _ _ h => h) (Or.inl ⟨by rfl, by intro w hSw; go_split_ands; go_simp <;> omega⟩) HS.out ?_
        simp only [Act.put, List.getElem_toArray, List.getElem_cons_zero, List.getElem_cons_succ, List.setIfInBounds_toArray, List.set_cons_zero, List.set_cons_succ]
        refine wpAnyH_take (i := 16) (oi := _) (v := .int .i64 (acc.length : Int)) rfl (by kernel_rfl) (by kernel_rfl) (by kernel_rfl) (fun _ _ _ h => h) (Or.inl ⟨by rfl, by intro w hSw; go_split_ands; go_simp <;> omega⟩) HS.out ?_
        simp only [Act.put, List.getElem_toArray, List.getElem_cons_zero, List.getElem_cons_succ, List.setIfInBounds_toArray, List.set_cons_zero, List.set_cons_succ]
        refine wpAnyH_take (i := 17) (oi := _) (v := .int .i64 ((acc.length : Int) - 1)) rfl (by kernel_rfl) (by kernel_rfl) (by kernel_rfl) (fun _ _ _ h => h) (Or.inl ⟨by rfl, by intro w hSw; go_split_ands; go_simp <;> omega⟩) HS.out ?_
        simp only [Act.put, List.getElem_toArray, List.getElem_cons_zero, List.getElem_cons_succ, List.setIfInBounds_toArray, List.set_cons_zero, List.set_cons_succ]
        refine wpAnyH_take (i := 18) (oi := _) (v := .pointer (some ⟨gl, (acc.length - 1) * 2, none⟩)) rfl (by kernel_rfl) (by kernel_rfl) (by kernel_rfl) (fun _ _ _ h => h) (Or.inl ⟨by rfl, by intro w hSw; go_split_ands; go_simp <;> omega⟩) HS.out ?_
        simp only [Act.put, List.getElem_toArray, List.getElem_cons_zero, List.getElem_cons_succ, List.setIfInBounds_toArray, List.set_cons_zero, List.set_cons_succ]
        refine wpAnyH_take (i := 19) (oi := _) (v := .pointer (some ⟨gl, (acc.length - 1) * 2, none⟩)) rfl (by kernel_rfl) (by kernel_rfl) (by kernel_rfl) (fun _ _ _ h => h) (Or.inl ⟨by rfl, by intro w hSw; go_split_ands; go_simp <;> omega⟩) HS.out ?_
        simp only [Act.put, List.getElem_toArray, List.getElem_cons_zero, List.getElem_cons_succ, List.setIfInBounds_toArray, List.set_cons_zero, List.set_cons_succ]
        refine wpAnyH_take (i := 20) (oi := _) (v := .string lst) rfl (by kernel_rfl) (by kernel_rfl) (by kernel_rfl) (fun _ _ _ h => h) (Or.inl ⟨by rfl, by intro w hSw; go_split_ands; go_simp <;> omega⟩) HS.out ?_
        simp only [Act.put, List.getElem_toArray, List.getElem_cons_zero, List.getElem_cons_succ, List.setIfInBounds_toArray, List.set_cons_zero, List.set_cons_succ]
        refine wpAnyH_take (i := 21) (oi := _) (v := .pointer (some ⟨X1.heap.size, 0, none⟩)) rfl (by kernel_rfl) (by kernel_rfl) (by kernel_rfl) (fun _ _ _ h => h) (Or.inl ⟨by rfl, by intro w hSw; go_split_ands; go_simp <;> omega⟩) HS.out ?_
        simp only [Act.put, List.getElem_toArray, List.getElem_cons_zero, List.getElem_cons_succ, List.setIfInBounds_toArray, List.set_cons_zero, List.set_cons_succ]
        refine wpAnyH_take (i := 22) (oi := _) (v := .string t1) rfl (by kernel_rfl) (by kernel_rfl) (by kernel_rfl) (fun _ _ _ h => h) (Or.inl ⟨by rfl, by intro w hSw; go_split_ands; go_simp <;> omega⟩) HS.out ?_
        simp only [Act.put, List.getElem_toArray, List.getElem_cons_zero, List.getElem_cons_succ, List.setIfInBounds_toArray, List.set_cons_zero, List.set_cons_succ]
        refine wpAnyH_take (i := 23) (oi := _) (v := .bool true) rfl (by kernel_rfl) (by kernel_rfl) (by kernel_rfl) (fun _ _ _ h => h) (Or.inl ⟨by rfl, by intro w hSw; go_split_ands; go_simp <;> simp [hless]⟩) HS.out ?_
        simp only [Act.put, List.getElem_toArray, List.getElem_cons_zero, List.getElem_cons_succ, List.setIfInBounds_toArray, List.set_cons_zero, List.set_cons_succ]
        refine wpAnyH_take (i := 24) (oi := _) (v := .bool true) rfl (by kernel_rfl) (by kernel_rfl) (by kernel_rfl) (fun _ _ _ h => h) (Or.inl ⟨by rfl, by intro w hSw; go_split_ands; go_simp <;> omega⟩) HS.out ?_
        simp only [Act.put, List.getElem_toArray, List.getElem_cons_zero, List.getElem_cons_succ, List.setIfInBounds_toArray, List.set_cons_zero, List.set_cons_succ]
        refine wpAnyH_take (i := 25) (oi := _) (v := .bool true) rfl (by kernel_rfl) (by kernel_rfl) (by kernel_rfl) (fun _ _ _ h => h) (Or.inl ⟨by rfl, by intro w hSw; go_split_ands; go_simp <;> omega⟩) HS.out ?_
        simp only [Act.put, List.getElem_toArray, List.getElem_cons_zero, List.getElem_cons_succ, List.setIfInBounds_toArray, List.set_cons_zero, List.set_cons_succ]
        refine wpAnyH_done (by kernel_rfl) ?_ _
        go_wp2
        go_ret2
        exact ⟨by rw [HE.out]; exact RdIs.none _ _, HBZ.out.trans (HZV.out.mono HBZ.out.size)⟩
      have HUN := hide (show readU T (k - 1) B2 (acc ++ [(t1, t2)]) = readU T n A0 [] by
        have := HU5.out
        rw [if_neg (by rw [hbl]; simp)] at this
        exact this)
      rw [hbl] at hless
      clear HU5 hbl HBL
      refine wp_region_held (S := fun y : World => y.cell? ⟨X1.heap.size, 0, none⟩ = some (.string t1) ∧ y.cell? ⟨X2.heap.size, 2, none⟩ = some (.int .i64 0) ∧ y.cell? ⟨gl, (acc.length - 1) * 2, none⟩ = some (.string lst)) (by kernel_rfl) ?_
      have HS := hide (show ({ Z with drawn := Z.drawn + 1 } : World).cell? ⟨X1.heap.size, 0, none⟩ = some (.string t1) ∧ ({ Z with drawn := Z.drawn + 1 } : World).cell? ⟨X2.heap.size, 2, none⟩ = some (.int .i64 0) ∧ ({ Z with drawn := Z.drawn + 1 } : World).cell? ⟨gl, (acc.length - 1) * 2, none⟩ = some (.string lst) from ⟨d90, d102, hlast⟩)
      have HZV := hide (show Below Z.heap.size Z { Z with drawn := Z.drawn + 1 } from (Below.refl _ Z).drew)
      generalize ({ Z with drawn := Z.drawn + 1 } : World) = V at HS HZV ⊢
      clear d90 d102 hlast
      refine wpAnyH_take (i := 0) (oi := _) (v := .pointer (some ⟨X2.heap.size, 2, none⟩)) rfl (by kernel_rfl) (by kernel_rfl) (by kernel_rfl) (fun _ _ _ h => h) (Or.inl ⟨by rfl, by intro w hSw; go_split_ands; go_simp <;> omega⟩) HS.out ?_
      simp only [Act.put, List.getElem_toArray, List.getElem_cons_zero, List.setIfInBounds_toArray, List.set_cons_zero, List.set_cons_succ]
      refine wpAnyH_take (i := 1) (oi := _) (v := .int .i64 0) rfl (by kernel_rfl) (by kernel_rfl) (by kernel_rfl) (fun _ _ _ h => h) (Or.inl ⟨by rfl, by intro w hSw; go_split_ands; go_simp <;> omega⟩) HS.out ?_
      simp only [Act.put, List.getElem_toArray, List.getElem_cons_zero, List.getElem_cons_succ, List.setIfInBounds_toArray, List.set_cons_zero, List.set_cons_succ]
      refine wpAnyH_take (i := 2) (oi := _) (v := .bool false) rfl (by kernel_rfl) (by kernel_rfl) (by kernel_rfl) (fun _ _ _ h => h) (Or.inl ⟨by rfl, by intro w hSw; go_split_ands; go_simp <;> omega⟩) HS.out ?_
      simp only [Act.put, List.getElem_toArray, List.getElem_cons_zero, List.getElem_cons_succ, List.setIfInBounds_toArray, List.set_cons_zero, List.set_cons_succ]
      refine wpAnyH_take (i := 3) (oi := _) (v := .bool false) rfl (by kernel_rfl) (by kernel_rfl) (by kernel_rfl) (fun _ _ _ h => h) (Or.inl ⟨by rfl, by intro w hSw; go_split_ands; go_simp <;> omega⟩) HS.out ?_
      simp only [Act.put, List.getElem_toArray, List.getElem_cons_zero, List.getElem_cons_succ, List.setIfInBounds_toArray, List.set_cons_zero, List.set_cons_succ]
      refine wpAnyH_take (i := 4) (oi := _) (v := .pointer (some ⟨X1.heap.size, 0, none⟩)) rfl (by kernel_rfl) (by kernel_rfl) (by kernel_rfl) (fun _ _ _ h => h) (Or.inl ⟨by rfl, by intro w hSw; go_split_ands; go_simp <;> omega⟩) HS.out ?_
      simp only [Act.put, List.getElem_toArray, List.getElem_cons_zero, List.getElem_cons_succ, List.setIfInBounds_toArray, List.set_cons_zero, List.set_cons_succ]
      refine wpAnyH_take (i := 5) (oi := _) (v := .string t1) rfl (by kernel_rfl) (by kernel_rfl) (by kernel_rfl) (fun _ _ _ h => h) (Or.inl ⟨by rfl, by intro w hSw; go_split_ands; go_simp <;> omega⟩) HS.out ?_
      simp only [Act.put, List.getElem_toArray, List.getElem_cons_zero, List.getElem_cons_succ, List.setIfInBounds_toArray, List.set_cons_zero, List.set_cons_succ]
      refine wpAnyH_ready (rs := [6]) (by kernel_rfl) (by simp) ?_
      refine AllReadyH.cons (o := _) rfl (fun K hK => ?_) AllReadyH.nil
      go_simp
      refine (HNR.out _).mono ?_
      rintro e V2 ⟨rfl, hVV⟩
      obtain rfl := hVV.symm
      refine hK.out _ _ HS.out (fun _ => ?_)
      clear hK K
      try simp only [Act.put, List.getElem_toArray, List.getElem_cons_zero, List.getElem_cons_succ, List.setIfInBounds_toArray, List.set_cons_zero, List.set_cons_succ]
      refine wpAnyH_take (i := 7) (oi := _) (v := .bool false) rfl (by kernel_rfl) (by kernel_rfl) (by kernel_rfl) (fun _ _ _ h => h) (Or.inl ⟨by rfl, by intro w hSw; go_split_ands; go_simp <;> omega⟩) HS.out ?_
      simp only [Act.put, List.getElem_toArray, List.getElem_cons_zero, List.getElem_cons_succ, List.setIfInBounds_toArray, List.set_cons_zero, List.set_cons_succ]
      refine wpAnyH_take (i := 8) (oi := _) (v := .bool false) rfl (by kernel_rfl) (by kernel_rfl) (by kernel_rfl) (fun _ _ _ h => h) (Or.inl ⟨by rfl, by intro w hSw; go_split_ands; go_simp <;> omega⟩) HS.out ?_
      simp only [Act.put, List.getElem_toArray, List.getElem_cons_zero, List.getElem_cons_succ, List.setIfInBounds_toArray, List.set_cons_zero, List.set_cons_succ]
      refine wpAnyH_take (i := 9) (oi := _) (v := .bool false) rfl (by kernel_rfl) (by kernel_rfl) (by kernel_rfl) (fun _ _ _ h => h) (Or.inl ⟨by rfl, by intro w hSw; go_split_ands; go_simp <;> omega⟩) HS.out ?_
      simp only [Act.put, List.getElem_toArray, List.getElem_cons_zero, List.getElem_cons_succ, List.setIfInBounds_toArray, List.set_cons_zero, List.set_cons_succ]
      refine wpAnyH_take (i := 10) (oi := _) (v := .slice (some ⟨gl, 0, none⟩) acc.length cl) rfl (by kernel_rfl) (by kernel_rfl) (by kernel_rfl) (fun _ _ _ h => h) (Or.inl ⟨by rfl, by intro w hSw; go_split_ands; go_simp <;> omega⟩) HS.out ?_
      simp only [Act.put, List.getElem_toArray, List.getElem_cons_zero, List.getElem_cons_succ, List.setIfInBounds_toArray, List.set_cons_zero, List.set_cons_succ]
      refine wpAnyH_take (i := 11) (oi := _) (v := .int .i64 (acc.length : Int)) rfl (by kernel_rfl) (by kernel_rfl) (by kernel_rfl) (fun _ _ _ h => h) (Or.inl ⟨by rfl, by intro w hSw; go_split_ands; go_simp <;> omega⟩) HS.out ?_
      simp only [Act.put, List.getElem_toArray, List.getElem_cons_zero, List.getElem_cons_succ, List.setIfInBounds_toArray, List.set_cons_zero, List.set_cons_succ]
      refine wpAnyH_take (i := 12) (oi := _) (v := .bool true) rfl (by kernel_rfl) (by kernel_rfl) (by kernel_rfl) (fun _ _ _ h => h) (Or.inl ⟨by rfl, by intro w hSw; go_split_ands; go_simp <;> omega⟩) HS.out ?_
      simp only [Act.put, List.getElem_toArray, List.getElem_cons_zero, List.getElem_cons_succ, List.setIfInBounds_toArray, List.set_cons_zero, List.set_cons_succ]
      refine wpAnyH_take (i := 13) (oi := _) (v := .bool true) rfl (by kernel_rfl) (by kernel_rfl) (by kernel_rfl) (fun _ _ _ h => h) (Or.inl ⟨by rfl, by intro w hSw; go_split_ands; go_simp <;> omega⟩) HS.out ?_
      simp only [Act.put, List.getElem_toArray, List.getElem_cons_zero, List.getElem_cons_succ, List.setIfInBounds_toArray, List.set_cons_zero, List.set_cons_succ]
      refine wpAnyH_take (i := 14) (oi := _) (v := .slice (some ⟨gl, 0, none⟩) acc.length cl) rfl (by kernel_rfl) (by kernel_rfl) (by kernel_rfl) (fun _ _ _ h => h) (Or.inl ⟨by rfl, by intro w hSw; go_split_ands; go_simp <;> omega⟩) HS.out ?_
      simp only [Act.put, List.getElem_toArray, List.getElem_cons_zero, List.getElem_cons_succ, List.setIfInBounds_toArray, List.set_cons_zero, List.set_cons_succ]
      refine wpAnyH_take (i := 15) (oi := _) (v := .slice (some ⟨gl, 0, none⟩) acc.length cl) rfl (by kernel_rfl) (by kernel_rfl) (by kernel_rfl) (fun _ _ _ h => h) (Or.inl ⟨by rfl, by intro w hSw; go_split_ands; go_simp <;> omega⟩) HS.out ?_
      simp only [Act.put, List.getElem_toArray, List.getElem_cons_zero, List.getElem_cons_succ, List.setIfInBounds_toArray, List.set_cons_zero, List.set_cons_succ]
      refine wpAnyH_take (i := 16) (oi := _) (v := .int .i64 (acc.length : Int)) rfl (by kernel_rfl) (by kernel_rfl) (by kernel_rfl) (fun _ _ _ h => h) (Or.inl ⟨by rfl, by intro w hSw; go_split_ands; go_simp <;> omega⟩) HS.out ?_
      simp only [Act.put, List.getElem_toArray, List.getElem_cons_zero, List.getElem_cons_succ, List.setIfInBounds_toArray, List.set_cons_zero, List.set_cons_succ]
      refine wpAnyH_take (i := 17) (oi := _) (v := .int .i64 ((acc.length : Int) - 1)) rfl (by kernel_rfl) (by kernel_rfl) (by kernel_rfl) (fun _ _ _ h => h) (Or.inl ⟨by rfl, by intro w hSw; go_split_ands; go_simp <;> omega⟩) HS.out ?_
      simp only [Act.put, List.getElem_toArray, List.getElem_cons_zero, List.getElem_cons_succ, List.setIfInBounds_toArray, List.set_cons_zero, List.set_cons_succ]
      refine wpAnyH_take (i := 18) (oi := _) (v := .pointer (some ⟨gl, (acc.length - 1) * 2, none⟩)) rfl (by kernel_rfl) (by kernel_rfl) (by kernel_rfl) (fun _ _ _ h => h) (Or.inl ⟨by rfl, by intro w hSw; go_split_ands; go_simp <;> omega⟩) HS.out ?_
      simp only [Act.put, List.getElem_toArray, List.getElem_cons_zero, List.getElem_cons_succ, List.setIfInBounds_toArray, List.set_cons_zero, List.set_cons_succ]
      refine wpAnyH_take (i := 19) (oi := _) (v := .pointer (some ⟨gl, (acc.length - 1) * 2, none⟩)) rfl (by kernel_rfl) (by kernel_rfl) (by kernel_rfl) (fun _ _ _ h => h) (Or.inl ⟨by rfl, by intro w hSw; go_split_ands; go_simp <;> omega⟩) HS.out ?_
      simp only [Act.put, List.getElem_toArray, List.getElem_cons_zero, List.getElem_cons_succ, List.setIfInBounds_toArray, List.set_cons_zero, List.set_cons_succ]
      refine wpAnyH_take (i := 20) (oi := _) (v := .string lst) rfl (by kernel_rfl) (by kernel_rfl) (by kernel_rfl) (fun _ _ _ h => h) (Or.inl ⟨by rfl, by intro w hSw; go_split_ands; go_simp <;> omega⟩) HS.out ?_
      simp only [Act.put, List.getElem_toArray, List.getElem_cons_zero, List.getElem_cons_succ, List.setIfInBounds_toArray, List.set_cons_zero, List.set_cons_succ]
      refine wpAnyH_take (i := 21) (oi := _) (v := .pointer (some ⟨X1.heap.size, 0, none⟩)) rfl (by kernel_rfl) (by kernel_rfl) (by kernel_rfl) (fun _ _ _ h => h) (Or.inl ⟨by rfl, by intro w hSw; go_split_ands; go_simp <;> omega⟩) HS.out ?_
      simp only [Act.put, List.getElem_toArray, List.getElem_cons_zero, List.getElem_cons_succ, List.setIfInBounds_toArray, List.set_cons_zero, List.set_cons_succ]
      refine wpAnyH_take (i := 22) (oi := _) (v := .string t1) rfl (by kernel_rfl) (by kernel_rfl) (by kernel_rfl) (fun _ _ _ h => h) (Or.inl ⟨by rfl, by intro w hSw; go_split_ands; go_simp <;> omega⟩) HS.out ?_
      simp only [Act.put, List.getElem_toArray, List.getElem_cons_zero, List.getElem_cons_succ, List.setIfInBounds_toArray, List.set_cons_zero, List.set_cons_succ]
      refine wpAnyH_take (i := 23) (oi := _) (v := .bool false) rfl (by kernel_rfl) (by kernel_rfl) (by kernel_rfl) (fun _ _ _ h => h) (Or.inl ⟨by rfl, by intro w hSw; go_split_ands; go_simp <;> simp [hless]⟩) HS.out ?_
      simp only [Act.put, List.getElem_toArray, List.getElem_cons_zero, List.getElem_cons_succ, List.setIfInBounds_toArray, List.set_cons_zero, List.set_cons_succ]
      refine wpAnyH_take (i := 24) (oi := _) (v := .bool false) rfl (by kernel_rfl) (by kernel_rfl) (by kernel_rfl) (fun _ _ _ h => h) (Or.inl ⟨by rfl, by intro w hSw; go_split_ands; go_simp <;> omega⟩) HS.out ?_
      simp only [Act.put, List.getElem_toArray, List.getElem_cons_zero, List.getElem_cons_succ, List.setIfInBounds_toArray, List.set_cons_zero, List.set_cons_succ]
      refine wpAnyH_take (i := 25) (oi := _) (v := .bool false) rfl (by kernel_rfl) (by kernel_rfl) (by kernel_rfl) (fun _ _ _ h => h) (Or.inl ⟨by rfl, by intro w hSw; go_split_ands; go_simp <;> omega⟩) HS.out ?_
      simp only [Act.put, List.getElem_toArray, List.getElem_cons_zero, List.getElem_cons_succ, List.setIfInBounds_toArray, List.set_cons_zero, List.set_cons_succ]
      refine wpAnyH_done (by kernel_rfl) ?_ _
      clear hless hw1 hw2 hw3 hw4
      have HVV := hide (show Below W2.heap.size W2 V from HZZ.out.trans (HZV.out.mono HZZ.out.size))
      have HOV := hide (own_belowX HOZ.out HZV.out)
      have e90 : V.cell? ⟨X1.heap.size, 0, none⟩ = some (.string t1) := (HT1.out.below HZV.out HT1.out.lt).cell 0
      have e100 : V.cell? ⟨X2.heap.size, 0, none⟩ = some (.string t2) := (HT2.out.below HZV.out HT2.out.lt).cell 0
      have HR102 := hide (HT2.out.below HZV.out HT2.out.lt)
      clear HZV
      have HRW := hide (row_new V [.string t1, .string t2] 72)
      have HOVa := hide (own_belowX HOV.out (below_new V (.cells #[.string t1, .string t2] 72)))
      have HVS := hide (show W2.heap.size ≤ (V.alloc (.cells #[.string t1, .string t2] 72)).heap.size by have := HVV.out.size; simp; omega)
      have hnews : ∀ (j : Nat) u, ([Value.string t1, Value.string t2] : List Value)[j]? = some u → (V.alloc (.cells #[.string t1, .string t2] 72)).cell? ((⟨V.heap.size, 0, none⟩ : Addr).add j) = some u := fun j u hu => by
        rw [Addr.add_lit, Nat.zero_add, HRW.out.cell]; exact hu
      have HNW := hide hnews
      clear hnews
      go_wp2_with (at_builtin; refine wpList_append_own_at (V.alloc (.cells #[.string t1, .string t2] 72)) rfl (.tmp 75) (.tmp 81) 65 rfl W2.heap.size 72 i0 _ 2 32 Tryz.underlying65 hi hz0 hz1 hz2 HZC.out (by omega) _ acc.length (itc acc) rfl HOVa.out ⟨V.heap.size, 0, none⟩ 1 _ [.string t1, .string t2] rfl rfl HNW.out (by simp [Value.oneCell']) (by unfold maxLen; omega) (by omega) HVS.out ?_)
      intro v9 Z9 hown9 hgrow _ _
      obtain ⟨pv, cv, hv9⟩ := own_sliceX hown9
      subst hv9
      have HB9 := hide ((HVV.out.alloc HVV.out.size (.cells #[.string t1, .string t2] 72)).grown hgrow HVS.out (fun g hg => (HOVa.out.lt g hg).1))
      have HO9 := hide (show Z9.ownsRow W2.heap.size 72 2 (.slice pv (acc ++ [(t1, t2)]).length cv) (acc ++ [(t1, t2)]).length (itc (acc ++ [(t1, t2)])) by
        rw [itc_append, List.length_append]
        exact hown9)
      have HR9 := hide (row_grown ((HR102.out).alloc (.cells #[.string t1, .string t2] 72)) hgrow HNB.out)
      have e101 : Z9.cell? ⟨X2.heap.size, 1, none⟩ = some (.int .i64 (B2 : Int)) := HR9.out.cell 1
      clear hown9 hgrow e90 e100
      go_wp2
      go_roundw
      case rel => exact ⟨Z9, k - 1, B2, acc ++ [(t1, t2)], rfl, rfl, by rw [HKM.out], by simp; omega, hB2, HUN, HOKn, by simpa using HO9, HB9⟩
      case measure => simp [intOf]; omega
    · have hk00 : k = 0 := by omega
      subst hk00
      have HFN := hide (show ∀ (Z2 : World) (u : Unit), Z2.ownsRow W2.heap.size 72 2 (.slice pl acc.length cl) acc.length (itc acc) → R.isSome = decide (storeB acc = T) ∧ ∀ L, R = some L → Z2.ownsRow w.heap.size 72 2 (.slice pl acc.length cl) L.length (itc L) from by
        have hRe : R = if storeB acc = T then some acc else none := by
          rw [HKR.out, ← HU.out]
          rfl
        intro Z2 _ ho
        rw [hRe]
        by_cases he : storeB acc = T
        · simp only [he, if_true]
          refine ⟨by simp, fun L hL => ?_⟩
          cases hL
          exact own_baseX ho HBW2.out.size
        · simp only [he, if_false]
          exact ⟨by simp, fun L hL => by cases hL⟩)
      have HRI := hide (readsIt_of HOw.out)
      clear HU HKR
      go_upto_region 20 with fail
      refine wp_region_held (S := fun y : World => y.cell? ⟨w1.heap.size, 2, none⟩ = some (.string T)) (by kernel_rfl) ?_
      have HSS := hide (show ∀ y : World, Below X.heap.size X y → y.cell? ⟨w1.heap.size, 2, none⟩ = some (.string T) from fun y hb => (HRX.out.below hb HRX.out.lt).cell 2)
      have HZ1 := hide (show Below X.heap.size X { X with drawn := X.drawn + 1 } from (Below.refl _ X).drew)
      generalize ({ X with drawn := X.drawn + 1 } : World) = Z1 at HZ1 ⊢
      have HS := hide (HSS.out _ HZ1.out)
      refine wpAnyH_take (i := 0) (oi := _) (v := .slice pl acc.length cl) rfl (by kernel_rfl) (by kernel_rfl) (by kernel_rfl) (fun _ _ _ h => h) (Or.inl ⟨by rfl, by intro w hSw; go_split_ands; go_simp⟩) HS.out ?_
      simp only [Act.put, List.getElem_toArray, List.getElem_cons_zero, List.setIfInBounds_toArray, List.set_cons_zero, List.set_cons_succ]
      refine wpAnyH_take (i := 1) (oi := _) (v := .slice pl acc.length cl) rfl (by kernel_rfl) (by kernel_rfl) (by kernel_rfl) (fun _ _ _ h => h) (Or.inl ⟨by rfl, by intro w hSw; go_split_ands; go_simp⟩) HS.out ?_
      simp only [Act.put, List.getElem_toArray, List.getElem_cons_zero, List.getElem_cons_succ, List.setIfInBounds_toArray, List.set_cons_zero, List.set_cons_succ]
      refine wpAnyH_take (i := 3) (oi := _) (v := .pointer (some ⟨w1.heap.size, 2, none⟩)) rfl (by kernel_rfl) (by kernel_rfl) (by kernel_rfl) (fun _ _ _ h => h) (Or.inl ⟨by rfl, by intro w hSw; go_split_ands; go_simp⟩) HS.out ?_
      simp only [Act.put, List.getElem_toArray, List.getElem_cons_zero, List.getElem_cons_succ, List.setIfInBounds_toArray, List.set_cons_zero, List.set_cons_succ]
      refine wpAnyH_take (i := 4) (oi := _) (v := .string T) rfl (by kernel_rfl) (by kernel_rfl) (by kernel_rfl) (fun _ _ _ h => h) (Or.inl ⟨by rfl, by intro w hSw; go_split_ands; go_simp⟩) HS.out ?_
      simp only [Act.put, List.getElem_toArray, List.getElem_cons_zero, List.getElem_cons_succ, List.setIfInBounds_toArray, List.set_cons_zero, List.set_cons_succ]
      refine wpAnyH_ready (rs := [2]) (by kernel_rfl) (by simp) ?_
      refine AllReadyH.cons (o := _) rfl (fun K hK => ?_) AllReadyH.nil
      go_simp
      refine (specBytes_any _ acc _ (HRI.out.below HZ1.out (Nat.le_refl _)) HOK.out (by omega)).mono ?_
      rintro e Z2 ⟨rfl, hbc⟩
      have HZ2 := hide (HZ1.out.trans (hbc.mono HZ1.out.size))
      have HOI := hide (own_belowX (own_belowX HOw.out HZ1.out) hbc)
      clear hbc
      refine hK.out _ _ (HSS.out _ HZ2.out) (fun _ => ?_)
      clear hK K HS
      have HS := hide (HSS.out _ HZ2.out)
      try simp only [Act.put, List.getElem_toArray, List.getElem_cons_zero, List.getElem_cons_succ, List.setIfInBounds_toArray, List.set_cons_zero, List.set_cons_succ]
      refine wpAnyH_take (i := 5) (oi := _) (v := .bool (decide (storeB acc = T))) rfl (by kernel_rfl) (by kernel_rfl) (by kernel_rfl) (fun _ _ _ h => h) (Or.inl ⟨by rfl, by intro w hSw; go_split_ands; have hse := str_eql (storeB acc) T; go_simp <;> rw [hse]⟩) HS.out ?_
      simp only [Act.put, List.getElem_toArray, List.getElem_cons_zero, List.getElem_cons_succ, List.setIfInBounds_toArray, List.set_cons_zero, List.set_cons_succ]
      refine wpAnyH_take (i := 6) (oi := _) (v := .slice pl acc.length cl) rfl (by kernel_rfl) (by kernel_rfl) (by kernel_rfl) (fun _ _ _ h => h) (Or.inl ⟨by rfl, by intro w hSw; go_split_ands; go_simp⟩) HS.out ?_
      simp only [Act.put, List.getElem_toArray, List.getElem_cons_zero, List.getElem_cons_succ, List.setIfInBounds_toArray, List.set_cons_zero, List.set_cons_succ]
      refine wpAnyH_take (i := 7) (oi := _) (v := .bool (decide (storeB acc = T))) rfl (by kernel_rfl) (by kernel_rfl) (by kernel_rfl) (fun _ _ _ h => h) (Or.inl ⟨by rfl, by intro w hSw; go_split_ands; go_simp⟩) HS.out ?_
      simp only [Act.put, List.getElem_toArray, List.getElem_cons_zero, List.getElem_cons_succ, List.setIfInBounds_toArray, List.set_cons_zero, List.set_cons_succ]
      refine wpAnyH_done (by kernel_rfl) ?_ _
      go_wp2
      go_ret2
      refine ⟨⟨.slice pl acc.length cl, by rw [(HFN.out Z2 () HOI.out).1]; rfl, ?_⟩, HBX.out.trans (HZ2.out.mono HBX.out.size)⟩
      exact (HFN.out Z2 () HOI.out).2
end Go.Proofs.YtbhdbkffejlfmaaGreatDoor
