/- PathRead of the model; both answer the same Lean function; the law. -/
import Derived.Test.YtjcbojgomcakeaaDoorPReadT
namespace Go.Proofs.YtjcbojgomcakeaaDoor
open Go.RowKit
theorem pathT_right {q : PathM} {l : List UInt8} (h : (pathT q).data.toList = l) (hl : l ≠ []) : q.right = true := by
  cases hq : q.right
  · exfalso; apply hl; rw [← h]; simp [pathT, hq]
  · rfl
theorem readI_own {q : PathM} (hq : q.right = true) : readI (pathT q).data.toList = q := by
  obtain ⟨s, n, f, r, c, b, rfl, hs, hn, hf, hr, hc, hb⟩ := right_nats hq
  simp only [pathT, hq, if_true, Int.toNat_natCast]
  exact readI_text s n f r c b hs hn hf hr hc hb
theorem readS_own {q : PathM} (hq : q.right = true) : readS (pathT q).data.toList = q := by
  obtain ⟨s, n, f, r, c, b, rfl, hs, hn, hf, hr, hc, hb⟩ := right_nats hq
  simp only [pathT, hq, if_true, Int.toNat_natCast]
  exact readS_text s n f r c b hs hn hf hr hc hb
def outS (l : List UInt8) : PathM × Int := if 8000 < l.length then (zeroP, 2) else if l = [] then (zeroP, 3) else if (pathT (readS l)).data.toList = l then (readS l, 0) else (zeroP, 3)
theorem outS_outI (l : List UInt8) : outS l = outI l := by
  unfold outS outI
  by_cases h8 : 8000 < l.length
  · rw [if_pos h8, if_pos h8]
  rw [if_neg h8, if_neg h8]
  by_cases h3 : l.length < 3
  · rw [if_pos h3]
    by_cases h0 : l = []
    · rw [if_pos h0]
    rw [if_neg h0, if_neg]
    intro e
    have hr := pathT_right e h0
    rw [show readS l = ⟨⟨#[]⟩, 1, 0, 1, 1, 1⟩ by unfold readS; rw [if_pos h3]] at hr
    exact absurd hr (by decide +kernel)
  rw [if_neg h3]
  have h0 : l ≠ [] := fun e => h3 (by rw [e]; decide)
  rw [if_neg h0]
  by_cases hI : (pathT (readI l)).data.toList = l
  · have hS : readS l = readI l := by
      have := readS_own (pathT_right hI h0)
      rw [hI] at this
      exact this
    rw [if_pos hI, hS, if_pos hI]
  · rw [if_neg hI, if_neg]
    intro e
    have := readI_own (pathT_right e h0)
    rw [e] at this
    exact hI (by rw [this]; exact e)
set_option maxHeartbeats 8000000 in
set_option maxRecDepth 100000 in
theorem specPathRead_any (l : List UInt8) (w : World) (hl : l.length ≤ 1048576) :
    Calls Tryd.prog 11 #[.string ⟨l.toArray⟩] w fun e w' => e = .returned ((outI l).1.vOut (outI l).2) ∧ Below w.heap.size w w' := by
  rw [← outS_outI]
  obtain ⟨O, hO⟩ : ∃ O, O = outS l := ⟨_, rfl⟩
  rw [← hO]
  have HO := hide hO
  clear hO
  by_cases h8 : (8000 : Int) < (l.length : Int)
  · have HN := hide (show O = (zeroP, 2) by rw [HO.out]; unfold outS; rw [if_pos (by omega)])
    have HA : Hid (Below w.heap.size w (w.alloc (.cells #[.string ⟨#[]⟩, .int .i64 0, .int .i64 0, .int .i64 0, .int .i64 0, .int .i64 0, .int .i64 2] 29))) := (Below.refl _ _).alloc (Nat.le_refl _) _
    go_enter Tryd.func11, Tryd.ntmps11
    go_wp2
    exact bodyPost_ret (v := zeroP.vOut 2) (by simp [results, Tryd.results11, go_sem, PathM.vOut, zeroP]) rfl ⟨by rw [HN.out], HA.out⟩
  have HN := hide (show O = if l = [] then (zeroP, 3) else if (pathT (readS l)).data.toList = l then (readS l, 0) else (zeroP, 3) by rw [HO.out]; unfold outS; rw [if_neg (by omega)])
  have hl8 : l.length ≤ 8000 := by omega
  clear HO
  obtain ⟨W, hW⟩ : ∃ W, W = w.alloc (.cells #[.string ⟨#[]⟩, .int .i64 0, .int .i64 0, .int .i64 0, .int .i64 0, .int .i64 0, .int .i64 0] 29) := ⟨_, rfl⟩
  have HB0 := hide (show Below w.heap.size w W by rw [hW]; exact (Below.refl _ _).alloc (Nat.le_refl _) _)
  have HO0 : Hid (Row W w.heap.size 29 ZC) := by rw [hW]; exact row_new w ZC 29
  go_enter Tryd.func11, Tryd.ntmps11
  go_wp2_with fail
  rw [← hW]
  clear hW
  refine (l05Read_any l _ hl8).mono ?_
  rintro e w1 ⟨rfl, hb1⟩
  generalize hq : readS l = q at *
  clear hq
  have HV : Hid (q.v = .agg #[.string q.seg, .int .i64 q.nth, .int .i64 q.fld, .int .i64 q.rep, .int .i64 q.comp, .int .i64 q.sub]) := rfl
  have hbn : Below w1.heap.size w1 (w1.alloc (.cells #[.string q.seg, .int .i64 q.nth, .int .i64 q.fld, .int .i64 q.rep, .int .i64 q.comp, .int .i64 q.sub] 24)) := (Below.refl _ _).alloc (Nat.le_refl _) _
  have HB1 := hide ((HB0.out.trans (hb1.mono HB0.out.size)).trans (hbn.mono (HB0.out.trans (hb1.mono HB0.out.size)).size))
  have HO1 := hide ((HO0.out.below hb1 HO0.out.lt).below hbn (HO0.out.below hb1 HO0.out.lt).lt)
  have HP1 := hide (row_new w1 [.string q.seg, .int .i64 q.nth, .int .i64 q.fld, .int .i64 q.rep, .int .i64 q.comp, .int .i64 q.sub] 24)
  have HPO := hide (show w.heap.size < w1.heap.size from Nat.lt_of_lt_of_le HO0.out.lt hb1.size)
  clear hb1 hbn
  rw [HV.out]
  by_cases h0 : l = []
  · have HN2 := hide (show O = (zeroP, 3) by rw [HN.out, if_pos h0])
    have HH : Hid (Row ((w1.alloc (.cells #[.string q.seg, .int .i64 q.nth, .int .i64 q.fld, .int .i64 q.rep, .int .i64 q.comp, .int .i64 q.sub] 24)).setRow w.heap.size #[.string ⟨#[]⟩, .int .i64 0, .int .i64 0, .int .i64 0, .int .i64 0, .int .i64 0, .int .i64 3]) w.heap.size 29 [.string ⟨#[]⟩, .int .i64 0, .int .i64 0, .int .i64 0, .int .i64 0, .int .i64 0, .int .i64 3]) := setRow_heap _ _ ZC.toArray _ 29 (0, 0) HO1.out
    have HBF := hide (below_setRow HB1.out (Nat.le_refl _) #[.string ⟨#[]⟩, .int .i64 0, .int .i64 0, .int .i64 0, .int .i64 0, .int .i64 0, .int .i64 3])
    have hcmp : (l == []) = true := by rw [h0]; rfl
    have HL0 := hide h0
    clear h0
    go_wp2_with (refine wpList_store_row rfl 29 _ _ rfl w.heap.size #[.string ⟨#[]⟩, .int .i64 0, .int .i64 0, .int .i64 0, .int .i64 0, .int .i64 0, .int .i64 3] rfl rfl 29 ZC.toArray HO1.out (by kernel_rfl) rfl (by first | kernel_rfl | simp [Value.oneCell']) ?_)
    obtain ⟨V, hV⟩ : ∃ V, V = (w1.alloc (.cells #[.string q.seg, .int .i64 q.nth, .int .i64 q.fld, .int .i64 q.rep, .int .i64 q.comp, .int .i64 q.sub] 24)).setRow w.heap.size #[.string ⟨#[]⟩, .int .i64 0, .int .i64 0, .int .i64 0, .int .i64 0, .int .i64 0, .int .i64 3] := ⟨_, rfl⟩
    rw [← hV] at HH HBF ⊢
    clear hV
    have v0 : V.cell? ⟨w.heap.size, 0, none⟩ = some (.string ⟨#[]⟩) := HH.out.cell 0
    have v1 : V.cell? ⟨w.heap.size, 1, none⟩ = some (.int .i64 0) := HH.out.cell 1
    have v2 : V.cell? ⟨w.heap.size, 2, none⟩ = some (.int .i64 0) := HH.out.cell 2
    have v3 : V.cell? ⟨w.heap.size, 3, none⟩ = some (.int .i64 0) := HH.out.cell 3
    have v4 : V.cell? ⟨w.heap.size, 4, none⟩ = some (.int .i64 0) := HH.out.cell 4
    have v5 : V.cell? ⟨w.heap.size, 5, none⟩ = some (.int .i64 0) := HH.out.cell 5
    have v6 : V.cell? ⟨w.heap.size, 6, none⟩ = some (.int .i64 3) := HH.out.cell 6
    exact bodyPost_ret (v := zeroP.vOut 3) (by simp [results, Tryd.results11, go_sem, PathM.vOut, zeroP, v0, v1, v2, v3, v4, v5, v6]) rfl ⟨by rw [HN2.out], HBF.out⟩
  rw [if_neg h0] at HN
  have hcmp0 : (l == []) = false := by simpa using h0
  clear h0
  go_wp2_with fail
  generalize hX : w1.alloc (.cells #[.string q.seg, .int .i64 q.nth, .int .i64 q.fld, .int .i64 q.rep, .int .i64 q.comp, .int .i64 q.sub] 24) = X at *
  clear hX
  generalize w1.heap.size = P at *
  rw [← HV.out]
  refine (specPathText_any q _).mono ?_
  rintro e z ⟨rfl, hbz⟩
  have HOz := hide (HO1.out.below hbz HO1.out.lt)
  have HPz := hide (HP1.out.below hbz HP1.out.lt)
  have HBz := hide (HB1.out.trans (hbz.mono HB1.out.size))
  clear hbz
  generalize pathT q = TX at *
  have z0 : z.cell? ⟨P, 0, none⟩ = some (.string q.seg) := HPz.out.cell 0
  have z1 : z.cell? ⟨P, 1, none⟩ = some (.int .i64 q.nth) := HPz.out.cell 1
  have z2 : z.cell? ⟨P, 2, none⟩ = some (.int .i64 q.fld) := HPz.out.cell 2
  have z3 : z.cell? ⟨P, 3, none⟩ = some (.int .i64 q.rep) := HPz.out.cell 3
  have z4 : z.cell? ⟨P, 4, none⟩ = some (.int .i64 q.comp) := HPz.out.cell 4
  have z5 : z.cell? ⟨P, 5, none⟩ = some (.int .i64 q.sub) := HPz.out.cell 5
  by_cases heq : TX.data.toList = l
  · have HN2 := hide (show O = (q, 0) by rw [HN.out, if_pos heq])
    have hcmp : (TX.toList == l) = true := by rw [Lib.toList_data, heq]; simp
    clear heq HN
    have HF : Hid (Row (z.setRow w.heap.size #[.string q.seg, .int .i64 q.nth, .int .i64 q.fld, .int .i64 q.rep, .int .i64 q.comp, .int .i64 q.sub, .int .i64 0]) w.heap.size 29 [.string q.seg, .int .i64 q.nth, .int .i64 q.fld, .int .i64 q.rep, .int .i64 q.comp, .int .i64 q.sub, .int .i64 0]) := setRow_heap _ _ ZC.toArray _ 29 (0, 0) HOz.out
    have HBF := hide (below_setRow HBz.out (Nat.le_refl _) #[.string q.seg, .int .i64 q.nth, .int .i64 q.fld, .int .i64 q.rep, .int .i64 q.comp, .int .i64 q.sub, .int .i64 0])
    go_wp2_with (refine wpList_store_row rfl 29 _ _ rfl w.heap.size #[.string q.seg, .int .i64 q.nth, .int .i64 q.fld, .int .i64 q.rep, .int .i64 q.comp, .int .i64 q.sub, .int .i64 0] rfl rfl 29 ZC.toArray HOz.out (by kernel_rfl) rfl (by first | kernel_rfl | simp [Value.oneCell']) ?_)
    obtain ⟨V, hV⟩ : ∃ V, V = z.setRow w.heap.size #[.string q.seg, .int .i64 q.nth, .int .i64 q.fld, .int .i64 q.rep, .int .i64 q.comp, .int .i64 q.sub, .int .i64 0] := ⟨_, rfl⟩
    rw [← hV] at HF HBF ⊢
    clear hV
    have v0 : V.cell? ⟨w.heap.size, 0, none⟩ = some (.string q.seg) := HF.out.cell 0
    have v1 : V.cell? ⟨w.heap.size, 1, none⟩ = some (.int .i64 q.nth) := HF.out.cell 1
    have v2 : V.cell? ⟨w.heap.size, 2, none⟩ = some (.int .i64 q.fld) := HF.out.cell 2
    have v3 : V.cell? ⟨w.heap.size, 3, none⟩ = some (.int .i64 q.rep) := HF.out.cell 3
    have v4 : V.cell? ⟨w.heap.size, 4, none⟩ = some (.int .i64 q.comp) := HF.out.cell 4
    have v5 : V.cell? ⟨w.heap.size, 5, none⟩ = some (.int .i64 q.sub) := HF.out.cell 5
    have v6 : V.cell? ⟨w.heap.size, 6, none⟩ = some (.int .i64 0) := HF.out.cell 6
    exact bodyPost_ret (v := q.vOut 0) (by simp [results, Tryd.results11, go_sem, PathM.vOut, v0, v1, v2, v3, v4, v5, v6]) rfl ⟨by rw [HN2.out], HBF.out⟩
  · have HN2 := hide (show O = (zeroP, 3) by rw [HN.out, if_neg heq])
    have hcmp : (TX.toList == l) = false := by
      rw [beq_eq_false_iff_ne]
      intro e
      rw [Lib.toList_data] at e
      exact heq e
    clear heq HN
    have HF : Hid (Row (z.setRow w.heap.size #[.string ⟨#[]⟩, .int .i64 0, .int .i64 0, .int .i64 0, .int .i64 0, .int .i64 0, .int .i64 3]) w.heap.size 29 [.string ⟨#[]⟩, .int .i64 0, .int .i64 0, .int .i64 0, .int .i64 0, .int .i64 0, .int .i64 3]) := setRow_heap _ _ ZC.toArray _ 29 (0, 0) HOz.out
    have HBF := hide (below_setRow HBz.out (Nat.le_refl _) #[.string ⟨#[]⟩, .int .i64 0, .int .i64 0, .int .i64 0, .int .i64 0, .int .i64 0, .int .i64 3])
    go_wp2_with (refine wpList_store_row rfl 29 _ _ rfl w.heap.size #[.string ⟨#[]⟩, .int .i64 0, .int .i64 0, .int .i64 0, .int .i64 0, .int .i64 0, .int .i64 3] rfl rfl 29 ZC.toArray HOz.out (by kernel_rfl) rfl (by first | kernel_rfl | simp [Value.oneCell']) ?_)
    obtain ⟨V, hV⟩ : ∃ V, V = z.setRow w.heap.size #[.string ⟨#[]⟩, .int .i64 0, .int .i64 0, .int .i64 0, .int .i64 0, .int .i64 0, .int .i64 3] := ⟨_, rfl⟩
    rw [← hV] at HF HBF ⊢
    clear hV
    have v0 : V.cell? ⟨w.heap.size, 0, none⟩ = some (.string ⟨#[]⟩) := HF.out.cell 0
    have v1 : V.cell? ⟨w.heap.size, 1, none⟩ = some (.int .i64 0) := HF.out.cell 1
    have v2 : V.cell? ⟨w.heap.size, 2, none⟩ = some (.int .i64 0) := HF.out.cell 2
    have v3 : V.cell? ⟨w.heap.size, 3, none⟩ = some (.int .i64 0) := HF.out.cell 3
    have v4 : V.cell? ⟨w.heap.size, 4, none⟩ = some (.int .i64 0) := HF.out.cell 4
    have v5 : V.cell? ⟨w.heap.size, 5, none⟩ = some (.int .i64 0) := HF.out.cell 5
    have v6 : V.cell? ⟨w.heap.size, 6, none⟩ = some (.int .i64 3) := HF.out.cell 6
    exact bodyPost_ret (v := zeroP.vOut 3) (by simp [results, Tryd.results11, go_sem, PathM.vOut, zeroP, v0, v1, v2, v3, v4, v5, v6]) rfl ⟨by rw [HN2.out], HBF.out⟩

end Go.Proofs.YtjcbojgomcakeaaDoor
