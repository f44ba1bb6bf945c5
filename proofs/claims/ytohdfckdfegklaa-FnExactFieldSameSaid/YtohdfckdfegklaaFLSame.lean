/- The law of FieldSame out of the two contracts. -/
import Derived.Test.YtohdfckdfegklaaFSame
namespace Go.Proofs.Ytohdfckdfegklaa
open Go.RowKit

set_option maxHeartbeats 8000000 in
set_option maxRecDepth 100000 in
theorem lawFieldSame (u v : Value) (a b : Fld3) (w : World) (hra : RFld 0 w u a) (hrb : RFld 0 w v b) :
    Calls Try.prog 6 #[.agg #[u], .agg #[v]] w fun e w' => e = .returned (.bool true) ∧ Below w.heap.size w w' := by
  obtain ⟨p, c, rfl⟩ := hra.isSlice
  obtain ⟨q, d, rfl⟩ := hrb.isSlice
  obtain ⟨W, hW⟩ : ∃ W, W = (w.alloc (.cells #[.slice p a.length c] 24)).alloc (.cells #[.slice q b.length d] 24) := ⟨_, rfl⟩
  have hbw : Below w.heap.size w W := by rw [hW]; exact ((Below.refl w.heap.size w).alloc (Nat.le_refl _) _).alloc (by simp) _
  have HA0 := hide (hra.below hbw)
  have HB0 := hide (hrb.below hbw)
  have HW0 := hide hbw
  have HRa := hide (show Row W w.heap.size 24 [.slice p a.length c] by rw [hW]; exact (row_new w [.slice p a.length c] 24).alloc _)
  have HRb := hide (show Row W (w.heap.size + 1) 24 [.slice q b.length d] by rw [hW]; have := row_new (w.alloc (.cells #[.slice p a.length c] 24)) [.slice q b.length d] 24; simpa using this)
  clear hra hrb hbw
  go_enter Try.func6, Try.ntmps6
  go_wp2_with fail
  rw [← hW]
  clear hW
  refine (szField_any _ a 1048576 _ (by omega) (by omega) HA0.out).mono ?_
  rintro e w1 ⟨rfl, hb1⟩
  have HW1 := hide hb1
  have rb1 := HRb.out.below hb1 HRb.out.lt
  have cb1 : w1.cell? ⟨w.heap.size + 1, 0, none⟩ = some (.slice q b.length d) := rb1.cell 0
  clear hb1 rb1
  by_cases hsa : ((wFld a : Nat) : Int) ≤ 1048576
  · rw [szOf_yes hsa]
    have HNA := hide (show wFld a ≤ 1048576 by omega)
    have h0 : ¬ (1048576 - ((wFld a : Nat) : Int)) < 0 := by omega
    have h1 : (1048576 - ((wFld a : Nat) : Int)) ≤ 1048576 := by omega
    clear hsa
    generalize (1048576 - ((wFld a : Nat) : Int)) = L at h0 h1
    go_wp2_with fail
    refine (szField_any _ b L _ (by omega) h1 (HB0.out.below HW1.out)).mono ?_
    rintro e w2 ⟨rfl, hb2⟩
    have HW2 := hide (HW1.out.trans (hb2.mono HW1.out.size))
    clear hb2 cb1
    by_cases hsb : ((wFld b : Nat) : Int) ≤ L
    · rw [szOf_yes hsb]
      have HNB := hide (show wFld b ≤ 1048576 by omega)
      have h2 : ¬ (L - ((wFld b : Nat) : Int)) < 0 := by omega
      clear hsb
      generalize (L - ((wFld b : Nat) : Int)) = L2 at h2
      have HSS := hide (show ∀ y, Below W.heap.size W y → y.cell? ⟨w.heap.size, 0, none⟩ = some (.slice p a.length c) ∧ y.cell? ⟨w.heap.size + 1, 0, none⟩ = some (.slice q b.length d) ∧ Below W.heap.size W y from
        fun y h => ⟨(HRa.out.below h HRa.out.lt).cell 0, (HRb.out.below h HRb.out.lt).cell 0, h⟩)
      go_wp2_with fail
      go_region_held3 (fun y => y.cell? ⟨w.heap.size, 0, none⟩ = some (.slice p a.length c) ∧ y.cell? ⟨w.heap.size + 1, 0, none⟩ = some (.slice q b.length d) ∧ Below W.heap.size W y)
        ((go_split_ands; refine HSS.out _ ?_; repeat (first | with_reducible assumption | with_reducible exact HW2.out | with_reducible refine Below.drew ?_)))
        ((first
          | (go_at_call 9; go_split_ands; first
              | (refine (toField_any (.slice p a.length c) a _ HNA.out (HA0.out.below (by assumption))).mono ?_; rintro e w3 ⟨p3, c3, rfl, hr3, hb3⟩; have HC3 := hide (RFld.mono hr3 (Nat.zero_le _)); have HX3 := hide (show Below W.heap.size W w3 from Below.trans (by assumption) (hb3.mono (Below.size (by assumption)))); have hB3 := HX3.out; clear hr3 hb3)
              | (refine (toField_any (.slice q b.length d) b _ HNB.out (HB0.out.below (by assumption))).mono ?_; rintro e w4 ⟨p4, c4, rfl, hr4, hb4⟩; have HC4 := hide (RFld.mono hr4 (Nat.zero_le _)); have HC3b := hide (HC3.out.below (by first | exact hb4 | exact (((Below.refl _ _).drew).trans hb4))); have HX4 := hide (show Below W.heap.size W w4 from Below.trans (by assumption) (hb4.mono (Below.size (by assumption)))); have hB4 := HX4.out; clear hr4 hb4))
          | (go_at_call 19; go_split_ands; refine (specFieldSame_any _ _ a b _ HNA.out HNB.out (by first | exact HC3b.out | exact HC3b.out.below ((Below.refl _ _).drew)) (by first | exact HC4.out | exact HC4.out.below ((Below.refl _ _).drew))).mono ?_; rintro e w5 ⟨rfl, hb5⟩; have hB5 : Below W.heap.size W w5 := HX4.out.trans (Below.mono (by first | exact hb5 | exact (((Below.refl _ _).drew).trans hb5)) HX4.out.size); clear hb5)))
      all_goals
        have HW5 := hide hB5
        have ra5 := HRa.out.below hB5 HRa.out.lt
        have ca5 : w5.cell? ⟨w.heap.size, 0, none⟩ = some (.slice p a.length c) := ra5.cell 0
        clear hB5 ra5
        try clear HC3 HC4 HC3b HX3 HX4
        go_wp2_with fail
        refine (toField_any _ a _ HNA.out (HA0.out.below HW5.out)).mono ?_
        rintro e w6 ⟨p6, c6, rfl, hr6, hb6⟩
        have hbn6 : Below w6.heap.size w6 (w6.alloc (.cells #[.slice p6 a.length c6] 29)) := (Below.refl _ _).alloc (Nat.le_refl _) _
        have HW6 := hide ((HW5.out.trans (hb6.mono HW5.out.size)).trans (hbn6.mono (HW5.out.trans (hb6.mono HW5.out.size)).size))
        have HC6 := hide ((RFld.mono hr6 (Nat.zero_le _)).below hbn6)
        have HR6 := hide (row_new w6 [.slice p6 a.length c6] 29)
        have rb6 := HRb.out.below HW6.out HRb.out.lt
        have cb6 : (w6.alloc (.cells #[.slice p6 a.length c6] 29)).cell? ⟨w.heap.size + 1, 0, none⟩ = some (.slice q b.length d) := rb6.cell 0
        clear hr6 hb6 hbn6 rb6 ca5
        go_wp2_with fail
        generalize hV6 : w6.alloc (.cells #[.slice p6 a.length c6] 29) = V6 at *
        generalize hG6 : w6.heap.size = G6 at *
        clear hV6 hG6
        refine (toField_any _ b _ HNB.out (HB0.out.below HW6.out)).mono ?_
        rintro e w7 ⟨p7, c7, rfl, hr7, hb7⟩
        have hbn7 : Below w7.heap.size w7 (w7.alloc (.cells #[.slice p7 b.length c7] 29)) := (Below.refl _ _).alloc (Nat.le_refl _) _
        have hb67 := hb7.trans (hbn7.mono hb7.size)
        have HW7 := hide (HW6.out.trans (hb67.mono HW6.out.size))
        have HC7 := hide ((RFld.mono hr7 (Nat.zero_le _)).below hbn7)
        have HC67 := hide (HC6.out.below hb67)
        have HR7 := hide (row_new w7 [.slice p7 b.length c7] 29)
        have HR67 := hide (HR6.out.below hb67 HR6.out.lt)
        have d6 : (w7.alloc (.cells #[.slice p7 b.length c7] 29)).cell? ⟨G6, 0, none⟩ = some (.slice p6 a.length c6) := HR67.out.cell 0
        have d7 : (w7.alloc (.cells #[.slice p7 b.length c7] 29)).cell? ⟨w7.heap.size, 0, none⟩ = some (.slice p7 b.length c7) := HR7.out.cell 0
        clear hr7 hb7 hbn7 hb67 cb6
        go_wp2_with fail
        generalize hV7 : w7.alloc (.cells #[.slice p7 b.length c7] 29) = V7 at *
        generalize hG7 : w7.heap.size = G7 at *
        clear hV7 hG7
        refine (implFieldSame_any _ _ a b _ HNA.out HNB.out HC67.out HC7.out).mono ?_
        rintro e w8 ⟨rfl, hb8⟩
        have HW8 := hide (HW7.out.trans (hb8.mono HW7.out.size))
        have HC8a := hide (HC67.out.below hb8)
        have HC8b := hide (HC7.out.below hb8)
        have HR8a := hide (HR67.out.below hb8 HR67.out.lt)
        have HR8b := hide (HR7.out.below hb8 HR7.out.lt)
        have HRa8 := hide (HRa.out.below HW8.out HRa.out.lt)
        have HRb8 := hide (HRb.out.below HW8.out HRb.out.lt)
        have HA8 := hide (HA0.out.below HW8.out)
        have HB8 := hide (HB0.out.below HW8.out)
        clear hb8 d6 d7
        have HT1 := hide (show ∀ y, Below w8.heap.size w8 y → y.cell? ⟨w.heap.size, 0, none⟩ = some (.slice p a.length c) ∧ y.cell? ⟨G6, 0, none⟩ = some (.slice p6 a.length c6) ∧ Below w8.heap.size w8 y from
          fun y h => ⟨(HRa8.out.below h HRa8.out.lt).cell 0, (HR8a.out.below h HR8a.out.lt).cell 0, h⟩)
        have HT2 := hide (show ∀ y, Below w8.heap.size w8 y → y.cell? ⟨w.heap.size + 1, 0, none⟩ = some (.slice q b.length d) ∧ y.cell? ⟨G7, 0, none⟩ = some (.slice p7 b.length c7) ∧ Below w8.heap.size w8 y from
          fun y h => ⟨(HRb8.out.below h HRb8.out.lt).cell 0, (HR8b.out.below h HR8b.out.lt).cell 0, h⟩)
        generalize sameB a b = SB
        cases SB
        all_goals
          go_wp2_with fail
          go_region_held3 (fun y => y.cell? ⟨w.heap.size, 0, none⟩ = some (.slice p a.length c) ∧ y.cell? ⟨G6, 0, none⟩ = some (.slice p6 a.length c6) ∧ Below w8.heap.size w8 y)
            ((go_split_ands; refine HT1.out _ ?_; repeat (first | with_reducible assumption | with_reducible exact Below.refl _ _ | with_reducible refine Below.drew ?_)))
            ((first
              | (go_at_call 9; go_split_ands; refine (toField_any _ a _ HNA.out (HA8.out.below (by assumption))).mono ?_; rintro e w9 ⟨p9, c9, rfl, hr9, hb9⟩; have HC9 := hide (RFld.mono hr9 (Nat.zero_le _)); have hB9 : Below w8.heap.size w8 w9 := Below.trans (by assumption) (hb9.mono (Below.size (by assumption))); clear hr9 hb9)
              | (go_at_call 11; go_split_ands; refine (eqField_same _ _ a 0 0 _ HNA.out (HC8a.out.below (by assumption)) (by first | exact HC9.out | exact HC9.out.below ((Below.refl _ _).drew))).mono ?_; rintro e w10 ⟨rfl, hb10⟩; have hB10 : Below w8.heap.size w8 w10 := Below.trans (by assumption) (hb10.mono (Below.size (by assumption))); clear hb10)))
          all_goals
            have HW10 := hide hB10
            clear hB10
            try clear HC9
            try clear hB9
            go_wp2_with fail
            go_region_held3 (fun y => y.cell? ⟨w.heap.size + 1, 0, none⟩ = some (.slice q b.length d) ∧ y.cell? ⟨G7, 0, none⟩ = some (.slice p7 b.length c7) ∧ Below w8.heap.size w8 y)
              ((go_split_ands; refine HT2.out _ ?_; repeat (first | with_reducible assumption | with_reducible exact HW10.out | with_reducible refine Below.drew ?_)))
              ((first
                | (go_at_call 9; go_split_ands; refine (toField_any _ b _ HNB.out (HB8.out.below (by assumption))).mono ?_; rintro e w11 ⟨p11, c11, rfl, hr11, hb11⟩; have HC11 := hide (RFld.mono hr11 (Nat.zero_le _)); have hB11 : Below w8.heap.size w8 w11 := Below.trans (by assumption) (hb11.mono (Below.size (by assumption))); clear hr11 hb11)
                | (go_at_call 11; go_split_ands; refine (eqField_same _ _ b 0 0 _ HNB.out (HC8b.out.below (by assumption)) (by first | exact HC11.out | exact HC11.out.below ((Below.refl _ _).drew))).mono ?_; rintro e w12 ⟨rfl, hb12⟩; have hB12 : Below w8.heap.size w8 w12 := Below.trans (by assumption) (hb12.mono (Below.size (by assumption))); clear hb12)))
            all_goals
              have HW12 := hide (HW0.out.trans ((HW8.out.trans (hB12.mono HW8.out.size)).mono HW0.out.size))
              clear hB12
              go_wp2
              go_ret
              exact ⟨rfl, HW12.out⟩
    · rw [szOf_no hsb]
      go_wp2
      go_ret
      exact ⟨rfl, HW0.out.trans (HW2.out.mono HW0.out.size)⟩
  · rw [szOf_no hsa]
    go_wp2
    go_ret
    exact ⟨rfl, HW0.out.trans (HW1.out.mono HW0.out.size)⟩
end Go.Proofs.Ytohdfckdfegklaa
