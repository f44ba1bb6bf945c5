/- A Path read out of a text: of the program. -/
import Derived.Test.YtjcbojgomcakeaaDoorPReadI
import Derived.Test.YtjcbojgomcakeaaDoorPTLaw
import Derived.Laws.CopyOwn
import Derived.Laws.Tables
namespace Go.Proofs.YtjcbojgomcakeaaDoor
open Go.RowKit
def zeroP : PathM := ⟨⟨#[]⟩, 0, 0, 0, 0, 0⟩
def outI (l : List UInt8) : PathM × Int := if 8000 < l.length then (zeroP, 2) else if l.length < 3 then (zeroP, 3) else if (pathT (readI l)).data.toList = l then (readI l, 0) else (zeroP, 3)
def ZC : List Value := [.string ⟨#[]⟩, .int .i64 0, .int .i64 0, .int .i64 0, .int .i64 0, .int .i64 0, .int .i64 0]
theorem numI_len (a b l : List UInt8) : (numI a b l).2.length ≤ l.length := by
  have h1 : ∀ x y : List UInt8, (Lib.trimPrefix x y).length ≤ x.length := fun x y => by unfold Lib.trimPrefix; split <;> simp
  unfold numI
  split
  · refine Nat.le_trans (h1 _ _) ?_
    rw [List.length_drop]
    exact Nat.le_trans (Nat.sub_le _ _) (h1 _ _)
  · exact Nat.le_refl _
theorem wpList_store_row {P : Program} {ops : Array Oper} {rest : List Oper} {o : Oper} {a : Act} {w : World} {Q : Exit → Act → World → Prop} (hgd : o.guard = none) (ty : TypeId) (x y : Operand) (ho : o.op = .store ty x y)
    (g : Nat) (cells : Array Value) (hx : a.eval x = .pointer (some ⟨g, 0, none⟩)) (hy : a.eval y = .agg cells) (t : TypeId) (old : Array Value) (hg : w.heap[g]? = some (.cells old t (0, 0))) (hi : (P.info? ty).map (·.size) = some cells.size)
    (hold : old.size = cells.size) (h1 : cells.all (·.oneCell') = true) (h : wpList P ops Q rest (a.put o.dst undef) (w.setRow g cells)) : wpList P ops Q (o :: rest) a w :=
  wpList_plain hgd fun _ hK => wp_store_row ty x y ho g cells hx hy t old hg hi hold h1 (hK _ _ h)
set_option maxHeartbeats 8000000 in
set_option maxRecDepth 100000 in
theorem implPathRead_any (l : List UInt8) (w : World) (hl : l.length ≤ 1048576) (he : Errs w) :
    Calls Tryd.prog 7 #[.string ⟨l.toArray⟩] w fun e w' => e = .returned ((outI l).1.vOut (outI l).2) ∧ Below w.heap.size w w' := by
  have HE := hide he
  have hw2 := he.1
  clear he
  obtain ⟨O, hO⟩ : ∃ O, O = outI l := ⟨_, rfl⟩
  rw [← hO]
  have HO := hide hO
  clear hO
  have HA : Hid (Below w.heap.size w (w.alloc (.cells #[.string ⟨#[]⟩, .int .i64 0, .int .i64 0, .int .i64 0, .int .i64 0, .int .i64 0, .int .i64 2] 29))) := (Below.refl _ _).alloc (Nat.le_refl _) _
  have HA3 : Hid (Below w.heap.size w (w.alloc (.cells #[.string ⟨#[]⟩, .int .i64 0, .int .i64 0, .int .i64 0, .int .i64 0, .int .i64 0, .int .i64 3] 29))) := (Below.refl _ _).alloc (Nat.le_refl _) _
  by_cases h8 : (8000 : Int) < (l.length : Int)
  · have HN := hide (show O = (zeroP, 2) by rw [HO.out]; unfold outI; rw [if_pos (by omega)])
    go_enter Tryd.func7, Tryd.ntmps7
    go_wp2
    exact bodyPost_ret (v := zeroP.vOut 2) (by simp [results, Tryd.results7, go_sem, PathM.vOut, zeroP]) rfl ⟨by rw [HN.out], HA.out⟩
  by_cases h3 : (l.length : Int) < 3
  · have HN := hide (show O = (zeroP, 3) by rw [HO.out]; unfold outI; rw [if_neg (by omega), if_pos (by omega)])
    go_enter Tryd.func7, Tryd.ntmps7
    go_wp2
    exact bodyPost_ret (v := zeroP.vOut 3) (by simp [results, Tryd.results7, go_sem, PathM.vOut, zeroP]) rfl ⟨by rw [HN.out], HA3.out⟩
  have HN := hide (show O = if (pathT (readI l)).data.toList = l then (readI l, 0) else (zeroP, 3) by rw [HO.out]; unfold outI; rw [if_neg (by omega), if_neg (by omega)])
  have hl8 : l.length ≤ 8000 := by omega
  clear HA HA3 HO
  obtain ⟨W, hW⟩ : ∃ W, W = (w.alloc (.cells #[.string ⟨#[]⟩, .int .i64 0, .int .i64 0, .int .i64 0, .int .i64 0, .int .i64 0, .int .i64 0] 29)).alloc (.cells #[.string ((⟨l.toArray⟩ : ByteArray).extract 3 l.length)] 44) := ⟨_, rfl⟩
  have HB0 := hide (show Below w.heap.size w W by rw [hW]; exact ((Below.refl _ _).alloc (Nat.le_refl _) _).alloc (by simp) _)
  have HOut : Hid (Row W w.heap.size 29 ZC) := by rw [hW]; exact (row_new w ZC 29).alloc _
  have HRd : Hid (Row W (w.heap.size + 1) 44 [.string ⟨(l.drop 3).toArray⟩]) := by
    rw [hW, ext_drop]
    have := row_new (w.alloc (.cells #[.string ⟨#[]⟩, .int .i64 0, .int .i64 0, .int .i64 0, .int .i64 0, .int .i64 0, .int .i64 0] 29)) [.string ⟨(l.drop 3).toArray⟩] 44
    exact hide (by simpa using this)
  have HE0 := hide (HE.out.below HB0.out hw2)
  go_enter Tryd.func7, Tryd.ntmps7
  go_wp2_with fail
  rw [← hW, ext_take]
  clear hW
  refine (cloneP_any ⟨(l.take 3).toArray⟩ _ (by simp [ByteArray.size]; omega)).mono ?_
  rintro e w1 ⟨rfl, hb1⟩
  have hOR : w.heap.size < w.heap.size + 1 := by omega
  have HRl := hide (HRd.out.below hb1 HRd.out.lt)
  have HOl := hide (HOut.out.below hb1 HOut.out.lt)
  have HBl := hide (HB0.out.trans (hb1.mono HB0.out.size))
  have HEl := hide (HE0.out.below hb1 HE0.out.1)
  clear hb1
  have HRw := hide HRl.out.lt
  generalize hRR : w.heap.size + 1 = R at *
  clear hRR
  obtain ⟨X, hX⟩ : ∃ X, X = w1.alloc (.cells #[.string ⟨(l.take 3).toArray⟩, .int .i64 0, .int .i64 0, .int .i64 0, .int .i64 0, .int .i64 0] 24) := ⟨_, rfl⟩
  have hxb : Below w1.heap.size w1 X := by rw [hX]; exact (Below.refl _ _).alloc (Nat.le_refl _) _
  have HP0 : Hid (Row X w1.heap.size 24 [.string ⟨(l.take 3).toArray⟩, .int .i64 0, .int .i64 0, .int .i64 0, .int .i64 0, .int .i64 0]) := by rw [hX]; exact row_new w1 _ 24
  have HR0 := hide (HRl.out.below hxb HRl.out.lt)
  have HO0 := hide (HOl.out.below hxb HOl.out.lt)
  have HB1 := hide (HBl.out.trans (hxb.mono HBl.out.size))
  have HE1 := hide (HEl.out.below hxb HEl.out.1)
  have HPR := hide (show R < w1.heap.size from HRw.out)
  clear hxb HRl HOl HBl HEl
  have HL0 := hide (show (l.drop 3).length ≤ 8000 by rw [List.length_drop]; omega)
  have hR2 : 2 < R := by omega
  obtain ⟨sg, hsg⟩ : ∃ sg : ByteArray, sg = ⟨(l.take 3).toArray⟩ := ⟨_, rfl⟩
  rw [← hsg] at HP0 hX
  have HSG := hide hsg
  clear hsg
  obtain ⟨N0, hN0⟩ : ∃ N, N = numI [91] [93] (l.drop 3) := ⟨_, rfl⟩
  have HNm0 := hide hN0
  have HL1 := hide (show N0.2.length ≤ 8000 by rw [hN0]; exact Nat.le_trans (numI_len _ _ _) HL0.out)
  have HC0 := hide (number_any R (l.drop 3) [91] [93] _ HR0.out HL0.out HE1.out hR2)
  rw [← hN0] at HC0
  clear hN0
  go_wp2_with fail
  rw [← HSG.out, ← hX]
  clear hX
  generalize hPP : w1.heap.size = P at *
  clear hPP
  refine HC0.out.mono ?_
  rintro e x0 ⟨rfl, hr0, hk0⟩
  have HNP0 := hide (show P ∉ [R] by have := HPR.out; simp; omega)
  have HNO0 := hide (show w.heap.size ∉ [R] by simp; omega)
  have HPk0 := hide (hk0.row HP0.out HNP0.out)
  have s0 := HPk0.out.cell 1
  have f0 := HPk0.out.free 1
  have HKs0 := hide (show Kept [R, P] X (x0.setCell ⟨P, 1, none⟩ (.int .i64 N0.1)) from (hk0.mono (by simp)).trans ((Kept.ofSet _ _ _ _).mono (by simp)))
  have HP1 : Hid (Row (x0.setCell ⟨P, 1, none⟩ (.int .i64 N0.1)) P 24 [.string sg, .int .i64 N0.1, .int .i64 (0 : Int), .int .i64 (0 : Int), .int .i64 (0 : Int), .int .i64 (0 : Int)]) := HPk0.out.set (j := 1) (.int .i64 N0.1)
  have HR1 := hide (Row.other (w := x0) (b := P) (j := 1) hr0 (by have := HPR.out; omega) (.int .i64 N0.1))
  have HO1 := hide (HKs0.out.row HO0.out (by have := HPR.out; simp; omega))
  have HB2 := hide (HKs0.out.toBelow HB1.out HB1.out.size (by have := HPR.out; simp; omega))
  have HE2 := hide (HE1.out.kept HKs0.out (by have := HPR.out; simp; omega))
  clear hr0 hk0
  obtain ⟨Y0, hY0⟩ : ∃ Y, Y = x0.setCell ⟨P, 1, none⟩ (.int .i64 N0.1) := ⟨_, rfl⟩
  rw [← hY0] at HKs0 HP1 HR1 HO1 HB2 HE2
  obtain ⟨N1, hN1⟩ : ∃ N, N = numI [45] [] N0.2 := ⟨_, rfl⟩
  have HNm1 := hide hN1
  have HL2 := hide (show N1.2.length ≤ 8000 by rw [hN1]; exact Nat.le_trans (numI_len _ _ _) HL1.out)
  have HC1 := hide (number_any R N0.2 [45] [] _ HR1.out HL1.out HE2.out hR2)
  rw [← hN1] at HC1
  clear hN1
  go_wp2_with fail
  rw [← hY0]
  clear hY0 s0 f0
  refine HC1.out.mono ?_
  rintro e x1 ⟨rfl, hr1, hk1⟩
  have HNP1 := hide (show P ∉ [R] by have := HPR.out; simp; omega)
  have HNO1 := hide (show w.heap.size ∉ [R] by simp; omega)
  have HPk1 := hide (hk1.row HP1.out HNP1.out)
  have s1 := HPk1.out.cell 2
  have f1 := HPk1.out.free 2
  have HKs1 := hide (show Kept [R, P] Y0 (x1.setCell ⟨P, 2, none⟩ (.int .i64 N1.1)) from (hk1.mono (by simp)).trans ((Kept.ofSet _ _ _ _).mono (by simp)))
  have HP2 : Hid (Row (x1.setCell ⟨P, 2, none⟩ (.int .i64 N1.1)) P 24 [.string sg, .int .i64 N0.1, .int .i64 N1.1, .int .i64 (0 : Int), .int .i64 (0 : Int), .int .i64 (0 : Int)]) := HPk1.out.set (j := 2) (.int .i64 N1.1)
  have HR2 := hide (Row.other (w := x1) (b := P) (j := 2) hr1 (by have := HPR.out; omega) (.int .i64 N1.1))
  have HO2 := hide (HKs1.out.row HO1.out (by have := HPR.out; simp; omega))
  have HB3 := hide (HKs1.out.toBelow HB2.out HB2.out.size (by have := HPR.out; simp; omega))
  have HE3 := hide (HE2.out.kept HKs1.out (by have := HPR.out; simp; omega))
  clear hr1 hk1
  obtain ⟨Y1, hY1⟩ : ∃ Y, Y = x1.setCell ⟨P, 2, none⟩ (.int .i64 N1.1) := ⟨_, rfl⟩
  rw [← hY1] at HKs1 HP2 HR2 HO2 HB3 HE3
  obtain ⟨N2, hN2⟩ : ∃ N, N = numI [40] [41] N1.2 := ⟨_, rfl⟩
  have HNm2 := hide hN2
  have HL3 := hide (show N2.2.length ≤ 8000 by rw [hN2]; exact Nat.le_trans (numI_len _ _ _) HL2.out)
  have HC2 := hide (number_any R N1.2 [40] [41] _ HR2.out HL2.out HE3.out hR2)
  rw [← hN2] at HC2
  clear hN2
  go_wp2_with fail
  rw [← hY1]
  clear hY1 s1 f1
  refine HC2.out.mono ?_
  rintro e x2 ⟨rfl, hr2, hk2⟩
  have HNP2 := hide (show P ∉ [R] by have := HPR.out; simp; omega)
  have HNO2 := hide (show w.heap.size ∉ [R] by simp; omega)
  have HPk2 := hide (hk2.row HP2.out HNP2.out)
  have s2 := HPk2.out.cell 3
  have f2 := HPk2.out.free 3
  have HKs2 := hide (show Kept [R, P] Y1 (x2.setCell ⟨P, 3, none⟩ (.int .i64 N2.1)) from (hk2.mono (by simp)).trans ((Kept.ofSet _ _ _ _).mono (by simp)))
  have HP3 : Hid (Row (x2.setCell ⟨P, 3, none⟩ (.int .i64 N2.1)) P 24 [.string sg, .int .i64 N0.1, .int .i64 N1.1, .int .i64 N2.1, .int .i64 (0 : Int), .int .i64 (0 : Int)]) := HPk2.out.set (j := 3) (.int .i64 N2.1)
  have HR3 := hide (Row.other (w := x2) (b := P) (j := 3) hr2 (by have := HPR.out; omega) (.int .i64 N2.1))
  have HO3 := hide (HKs2.out.row HO2.out (by have := HPR.out; simp; omega))
  have HB4 := hide (HKs2.out.toBelow HB3.out HB3.out.size (by have := HPR.out; simp; omega))
  have HE4 := hide (HE3.out.kept HKs2.out (by have := HPR.out; simp; omega))
  clear hr2 hk2
  obtain ⟨Y2, hY2⟩ : ∃ Y, Y = x2.setCell ⟨P, 3, none⟩ (.int .i64 N2.1) := ⟨_, rfl⟩
  rw [← hY2] at HKs2 HP3 HR3 HO3 HB4 HE4
  obtain ⟨N3, hN3⟩ : ∃ N, N = numI [46] [] N2.2 := ⟨_, rfl⟩
  have HNm3 := hide hN3
  have HL4 := hide (show N3.2.length ≤ 8000 by rw [hN3]; exact Nat.le_trans (numI_len _ _ _) HL3.out)
  have HC3 := hide (number_any R N2.2 [46] [] _ HR3.out HL3.out HE4.out hR2)
  rw [← hN3] at HC3
  clear hN3
  go_wp2_with fail
  rw [← hY2]
  clear hY2 s2 f2
  refine HC3.out.mono ?_
  rintro e x3 ⟨rfl, hr3, hk3⟩
  have HNP3 := hide (show P ∉ [R] by have := HPR.out; simp; omega)
  have HNO3 := hide (show w.heap.size ∉ [R] by simp; omega)
  have HPk3 := hide (hk3.row HP3.out HNP3.out)
  have s3 := HPk3.out.cell 4
  have f3 := HPk3.out.free 4
  have HKs3 := hide (show Kept [R, P] Y2 (x3.setCell ⟨P, 4, none⟩ (.int .i64 N3.1)) from (hk3.mono (by simp)).trans ((Kept.ofSet _ _ _ _).mono (by simp)))
  have HP4 : Hid (Row (x3.setCell ⟨P, 4, none⟩ (.int .i64 N3.1)) P 24 [.string sg, .int .i64 N0.1, .int .i64 N1.1, .int .i64 N2.1, .int .i64 N3.1, .int .i64 (0 : Int)]) := HPk3.out.set (j := 4) (.int .i64 N3.1)
  have HR4 := hide (Row.other (w := x3) (b := P) (j := 4) hr3 (by have := HPR.out; omega) (.int .i64 N3.1))
  have HO4 := hide (HKs3.out.row HO3.out (by have := HPR.out; simp; omega))
  have HB5 := hide (HKs3.out.toBelow HB4.out HB4.out.size (by have := HPR.out; simp; omega))
  have HE5 := hide (HE4.out.kept HKs3.out (by have := HPR.out; simp; omega))
  clear hr3 hk3
  obtain ⟨Y3, hY3⟩ : ∃ Y, Y = x3.setCell ⟨P, 4, none⟩ (.int .i64 N3.1) := ⟨_, rfl⟩
  rw [← hY3] at HKs3 HP4 HR4 HO4 HB5 HE5
  obtain ⟨N4, hN4⟩ : ∃ N, N = numI [46] [] N3.2 := ⟨_, rfl⟩
  have HNm4 := hide hN4
  have HL5 := hide (show N4.2.length ≤ 8000 by rw [hN4]; exact Nat.le_trans (numI_len _ _ _) HL4.out)
  have HC4 := hide (number_any R N3.2 [46] [] _ HR4.out HL4.out HE5.out hR2)
  rw [← hN4] at HC4
  clear hN4
  go_wp2_with fail
  rw [← hY3]
  clear hY3 s3 f3
  refine HC4.out.mono ?_
  rintro e x4 ⟨rfl, hr4, hk4⟩
  have HNP4 := hide (show P ∉ [R] by have := HPR.out; simp; omega)
  have HNO4 := hide (show w.heap.size ∉ [R] by simp; omega)
  have HPk4 := hide (hk4.row HP4.out HNP4.out)
  have s4 := HPk4.out.cell 5
  have f4 := HPk4.out.free 5
  have HKs4 := hide (show Kept [R, P] Y3 (x4.setCell ⟨P, 5, none⟩ (.int .i64 N4.1)) from (hk4.mono (by simp)).trans ((Kept.ofSet _ _ _ _).mono (by simp)))
  have HP5 : Hid (Row (x4.setCell ⟨P, 5, none⟩ (.int .i64 N4.1)) P 24 [.string sg, .int .i64 N0.1, .int .i64 N1.1, .int .i64 N2.1, .int .i64 N3.1, .int .i64 N4.1]) := HPk4.out.set (j := 5) (.int .i64 N4.1)
  have HR5 := hide (Row.other (w := x4) (b := P) (j := 5) hr4 (by have := HPR.out; omega) (.int .i64 N4.1))
  have HO5 := hide (HKs4.out.row HO4.out (by have := HPR.out; simp; omega))
  have HB6 := hide (HKs4.out.toBelow HB5.out HB5.out.size (by have := HPR.out; simp; omega))
  have HE6 := hide (HE5.out.kept HKs4.out (by have := HPR.out; simp; omega))
  clear hr4 hk4
  have HQ := hide (show readI l = ⟨sg, N0.1, N1.1, N2.1, N3.1, N4.1⟩ by unfold readI; rw [← HNm0.out]; rw [← HNm1.out, ← HNm2.out, ← HNm3.out, ← HNm4.out, ← HSG.out])
  obtain ⟨Y4, hY4⟩ : ∃ Y, Y = x4.setCell ⟨P, 5, none⟩ (.int .i64 N4.1) := ⟨_, rfl⟩
  rw [← hY4] at HKs4 HP5 HR5 HO5 HB6 HE6
  have HT := hide (implPathText_any (readI l) Y4)
  rw [HQ.out] at HT
  have q0 : x4.cell? ⟨P, 0, none⟩ = some (.string sg) := HPk4.out.cell 0
  have q1 : x4.cell? ⟨P, 1, none⟩ = some (.int .i64 N0.1) := HPk4.out.cell 1
  have q2 : x4.cell? ⟨P, 2, none⟩ = some (.int .i64 N1.1) := HPk4.out.cell 2
  have q3 : x4.cell? ⟨P, 3, none⟩ = some (.int .i64 N2.1) := HPk4.out.cell 3
  have q4 : x4.cell? ⟨P, 4, none⟩ = some (.int .i64 N3.1) := HPk4.out.cell 4
  rw [HQ.out] at HN
  have HV : Hid ((PathM.mk sg N0.1 N1.1 N2.1 N3.1 N4.1).v = .agg #[.string sg, .int .i64 N0.1, .int .i64 N1.1, .int .i64 N2.1, .int .i64 N3.1, .int .i64 N4.1]) := rfl
  clear HNm0 HNm1 HNm2 HNm3 HNm4 HSG HQ
  go_wp2_with fail
  rw [← hY4, ← HV.out]
  clear hY4 s4 f4
  refine HT.out.mono ?_
  rintro e z ⟨rfl, hbz⟩
  have HOz := hide (HO5.out.below hbz HO5.out.lt)
  have HPz := hide (HP5.out.below hbz HP5.out.lt)
  have HBz := hide (HB6.out.trans (hbz.mono HB6.out.size))
  clear hbz q0 q1 q2 q3 q4 HT
  generalize hTX : pathT ⟨sg, N0.1, N1.1, N2.1, N3.1, N4.1⟩ = TX at *
  clear hTX
  have z0 : z.cell? ⟨P, 0, none⟩ = some (.string sg) := HPz.out.cell 0
  have z1 : z.cell? ⟨P, 1, none⟩ = some (.int .i64 N0.1) := HPz.out.cell 1
  have z2 : z.cell? ⟨P, 2, none⟩ = some (.int .i64 N1.1) := HPz.out.cell 2
  have z3 : z.cell? ⟨P, 3, none⟩ = some (.int .i64 N2.1) := HPz.out.cell 3
  have z4 : z.cell? ⟨P, 4, none⟩ = some (.int .i64 N3.1) := HPz.out.cell 4
  have z5 : z.cell? ⟨P, 5, none⟩ = some (.int .i64 N4.1) := HPz.out.cell 5
  by_cases heq : TX.data.toList = l
  · have HN2 := hide (show O = (⟨sg, N0.1, N1.1, N2.1, N3.1, N4.1⟩, 0) by rw [HN.out, if_pos heq])
    have hcmp : (TX.toList == l) = true := by rw [Lib.toList_data, heq]; simp
    clear heq HN
    have HHz := HOz
    have HF : Hid (Row (z.setRow w.heap.size #[.string sg, .int .i64 N0.1, .int .i64 N1.1, .int .i64 N2.1, .int .i64 N3.1, .int .i64 N4.1, .int .i64 0]) w.heap.size 29 [.string sg, .int .i64 N0.1, .int .i64 N1.1, .int .i64 N2.1, .int .i64 N3.1, .int .i64 N4.1, .int .i64 0]) := setRow_heap _ _ ZC.toArray _ 29 (0, 0) HOz.out
    have HBF := hide (below_setRow HBz.out (Nat.le_refl _) #[.string sg, .int .i64 N0.1, .int .i64 N1.1, .int .i64 N2.1, .int .i64 N3.1, .int .i64 N4.1, .int .i64 0])
    clear HOz HBz
    go_wp2_with (refine wpList_store_row rfl 29 _ _ rfl w.heap.size #[.string sg, .int .i64 N0.1, .int .i64 N1.1, .int .i64 N2.1, .int .i64 N3.1, .int .i64 N4.1, .int .i64 0] rfl rfl 29 ZC.toArray HHz.out (by kernel_rfl) rfl (by first | kernel_rfl | simp [Value.oneCell']) ?_)
    obtain ⟨V, hV⟩ : ∃ V, V = z.setRow w.heap.size #[.string sg, .int .i64 N0.1, .int .i64 N1.1, .int .i64 N2.1, .int .i64 N3.1, .int .i64 N4.1, .int .i64 0] := ⟨_, rfl⟩
    rw [← hV] at HF HBF ⊢
    clear hV
    have v0 : V.cell? ⟨w.heap.size, 0, none⟩ = some (.string sg) := HF.out.cell 0
    have v1 : V.cell? ⟨w.heap.size, 1, none⟩ = some (.int .i64 N0.1) := HF.out.cell 1
    have v2 : V.cell? ⟨w.heap.size, 2, none⟩ = some (.int .i64 N1.1) := HF.out.cell 2
    have v3 : V.cell? ⟨w.heap.size, 3, none⟩ = some (.int .i64 N2.1) := HF.out.cell 3
    have v4 : V.cell? ⟨w.heap.size, 4, none⟩ = some (.int .i64 N3.1) := HF.out.cell 4
    have v5 : V.cell? ⟨w.heap.size, 5, none⟩ = some (.int .i64 N4.1) := HF.out.cell 5
    have v6 : V.cell? ⟨w.heap.size, 6, none⟩ = some (.int .i64 0) := HF.out.cell 6
    exact bodyPost_ret (v := (PathM.mk sg N0.1 N1.1 N2.1 N3.1 N4.1).vOut 0) (by simp [results, Tryd.results7, go_sem, PathM.vOut, v0, v1, v2, v3, v4, v5, v6]) rfl ⟨by rw [HN2.out], HBF.out⟩
  · have HN2 := hide (show O = (zeroP, 3) by rw [HN.out, if_neg heq])
    have hcmp : (TX.toList == l) = false := by
      rw [beq_eq_false_iff_ne]
      intro e
      rw [Lib.toList_data] at e
      exact heq e
    clear heq HN
    have HHz := HOz
    have HF : Hid (Row (z.setRow w.heap.size #[.string ⟨#[]⟩, .int .i64 0, .int .i64 0, .int .i64 0, .int .i64 0, .int .i64 0, .int .i64 3]) w.heap.size 29 [.string ⟨#[]⟩, .int .i64 0, .int .i64 0, .int .i64 0, .int .i64 0, .int .i64 0, .int .i64 3]) := setRow_heap _ _ ZC.toArray _ 29 (0, 0) HOz.out
    have HBF := hide (below_setRow HBz.out (Nat.le_refl _) #[.string ⟨#[]⟩, .int .i64 0, .int .i64 0, .int .i64 0, .int .i64 0, .int .i64 0, .int .i64 3])
    clear HOz HBz
    go_wp2_with (refine wpList_store_row rfl 29 _ _ rfl w.heap.size #[.string ⟨#[]⟩, .int .i64 0, .int .i64 0, .int .i64 0, .int .i64 0, .int .i64 0, .int .i64 3] rfl rfl 29 ZC.toArray HHz.out (by kernel_rfl) rfl (by first | kernel_rfl | simp [Value.oneCell']) ?_)
    obtain ⟨V, hV⟩ : ∃ V, V = z.setRow w.heap.size #[.string ⟨#[]⟩, .int .i64 0, .int .i64 0, .int .i64 0, .int .i64 0, .int .i64 0, .int .i64 3] := ⟨_, rfl⟩
    rw [← hV] at HF HBF ⊢
    clear hV
    have v0 : V.cell? ⟨w.heap.size, 0, none⟩ = some (.string ⟨#[]⟩) := HF.out.cell 0
    have v1 : V.cell? ⟨w.heap.size, 1, none⟩ = some (.int .i64 0) := HF.out.cell 1
    have v2 : V.cell? ⟨w.heap.size, 2, none⟩ = some (.int .i64 0) := HF.out.cell 2
    have v3 : V.cell? ⟨w.heap.size, 3, none⟩ = some (.int .i64 0) := HF.out.cell 3
    have v4 : V.cell? ⟨w.heap.size, 4, none⟩ = some (.int .i64 0) := HF.out.cell 4
    have v5 : V.cell? ⟨w.heap.size, 5, none⟩ = some (.int .i64 0) := HF.out.cell 5
    have v6 : V.cell? ⟨w.heap.size, 6, none⟩ = some (.int .i64 3) := HF.out.cell 6
    exact bodyPost_ret (v := zeroP.vOut 3) (by simp [results, Tryd.results7, go_sem, PathM.vOut, zeroP, v0, v1, v2, v3, v4, v5, v6]) rfl ⟨by rw [HN2.out], HBF.out⟩
end Go.Proofs.YtjcbojgomcakeaaDoor
