/- The law of promise 12: a time that a version takes the next one takes; it begins with a day; what is no day is no time. -/
import Derived.Test.YthlonjfjlkoojaaDoorDTime
import Derived.Test.YthlonjfjlkoojaaDoorVNum
namespace Go.Proofs.YthlonjfjlkoojaaDoor
open Go.RowKit
theorem of_bytesT {u : ByteArray} {l : List UInt8} (h : u.data.toList = l) : u = ⟨l.toArray⟩ := by subst h; rfl
theorem woFrac_dig {c : List UInt8} (h : digL c = true) : woFrac c = c := by
  unfold woFrac
  rw [if_neg]
  intro hc
  simp only [Bool.and_eq_true, decide_eq_true_eq, beq_iff_eq] at hc
  have h1 := digL_at c 6 hc.1.1 h
  have h2 := hc.1.2
  rw [getD_at c 6 hc.1.1] at h2
  rw [h2] at h1
  revert h1
  decide
theorem timeI_up (v : Int) (c : List UInt8) (h1 : 1 ≤ v) (h3 : v < 3) (h : timeI v c = true) : timeI (v + 1) c = true := by
  have hv : v = 1 ∨ v = 2 := by omega
  rcases hv with rfl | rfl
  · have h' : clk [23, 59, 59] c = true := h
    show clk [23, 59, 59] (woFrac c) = true
    rw [woFrac_dig (clk_dig _ _ h')]
    exact h'
  · have h' : clk [23, 59, 59] (woFrac c) = true := h
    show clk [23, 59, 59] (woFrac (woZone c)) = true
    have hs : hasSgn c = false := by
      cases hs : hasSgn c
      · rfl
      · rw [sgn_frac hs] at h'; cases h'
    unfold woZone
    rw [hs]
    exact h'
theorem timeB_up (v : Int) (l : List UInt8) (h3 : v < 3) (h : timeB v l = true) : timeB (v + 1) l = true := by
  simp only [timeB, Bool.and_eq_true] at h ⊢
  obtain ⟨hv, h8, hd, ht⟩ := h
  have hv1 : 1 ≤ v := by simp [verB] at hv; omega
  refine ⟨by simp [verB]; omega, h8, hd, ?_⟩
  rw [← time_eq] at ht ⊢
  exact timeI_up v _ hv1 h3 ht
theorem timeB_day (v : Int) (l : List UInt8) (h : timeB v l = true) : 8 ≤ l.length ∧ dayB (l.take 8) = true := by
  simp only [timeB, Bool.and_eq_true, decide_eq_true_eq] at h
  exact ⟨h.2.1, h.2.2.1⟩
theorem timeB_only (l : List UInt8) (h : l.length = 8) : timeB 1 l = dayB l := by
  unfold timeB
  rw [← time_eq, List.take_of_length_le (by omega), List.drop_eq_nil_of_le (by omega)]
  have h1 : timeI 1 [] = true := rfl
  have h2 : verB 1 = true := rfl
  rw [h1, h2]
  simp [h]
theorem bne_same (b : Bool) : (b != b) = false := by cases b <;> rfl
set_option maxHeartbeats 16000000 in
set_option maxRecDepth 100000 in
theorem lawFnTimes (v1 v2 : Value) (bs1 bs2 : List Int) (w : World) (h1 : ReadsB w v1 bs1) (h2 : ReadsB w v2 bs2) (he : ErrsV w) :
    Calls Tryd.prog 3 #[v1, v2] w fun e w' => e = .returned (.bool true) ∧ Below w.heap.size w w' := by
  have H1 := hide h1
  have H2 := hide h2
  have HE := hide he
  obtain ⟨p1, k1, rfl, _⟩ := h1
  obtain ⟨p2, k2, rfl, _⟩ := h2
  clear he
  by_cases hc1 : (1048576 : Int) < (bs1.length : Int)
  · go_enter Tryd.func3, Tryd.ntmps3
    go_wp2
    go_ret
    exact ⟨rfl, Below.refl _ _⟩
  by_cases hc2 : (1048576 : Int) < (bs2.length : Int)
  · go_enter Tryd.func3, Tryd.ntmps3
    go_wp2
    go_ret
    exact ⟨rfl, Below.refl _ _⟩
  have HL1 := hide (show bs1.length ≤ 1048576 by omega)
  have HL2 := hide (show bs2.length ≤ 1048576 by omega)
  go_enter Tryd.func3, Tryd.ntmps3
  go_wp2_with fail
  refine (drawTimeRight_any _ bs1 _ H1.out HL1.out).mono ?_
  rintro e w1 ⟨⟨r, u, rfl, hr0, hr5, hu⟩, hb1⟩
  have HB1 := hide hb1
  have HR := hide (show 0 ≤ r ∧ r < 5 from ⟨hr0, hr5⟩)
  obtain ⟨l, hl⟩ : ∃ l, l = u.data.toList := ⟨_, rfl⟩
  obtain rfl : u = ⟨l.toArray⟩ := of_bytesT hl.symm
  have hll : l.length ≤ 200 := by simpa [ByteArray.size] using hu
  clear hb1 hl hu hr0 hr5
  go_wp2_with fail
  refine (drawDayRight_any _ bs2 _ (H2.out.below HB1.out (Nat.le_refl _)) HL2.out).mono ?_
  rintro e w2 ⟨⟨u, rfl, hu⟩, hb2⟩
  have HB2 := hide (HB1.out.trans (hb2.mono HB1.out.size))
  obtain ⟨d, hl⟩ : ∃ l, l = u.data.toList := ⟨_, rfl⟩
  obtain rfl : u = ⟨d.toArray⟩ := of_bytesT hl.symm
  have hdl : d.length ≤ 100 := by simpa [ByteArray.size] using hu
  clear hb2 hl hu
  go_wp2_with fail
  refine (drawNumberRight_any _ bs2 _ (H2.out.below HB2.out (Nat.le_refl _)) HL2.out).mono ?_
  rintro e w3 ⟨⟨u, rfl, hu⟩, hb3⟩
  have HB3 := hide (HB2.out.trans (hb3.mono HB2.out.size))
  obtain ⟨n, hl⟩ : ∃ l, l = u.data.toList := ⟨_, rfl⟩
  obtain rfl : u = ⟨n.toArray⟩ := of_bytesT hl.symm
  have hnl : n.length ≤ 100 := by simpa [ByteArray.size] using hu
  clear hb3 hl hu
  have HLM := hide (show l.length ≤ maxLen ∧ d.length ≤ maxLen ∧ n.length ≤ maxLen by unfold maxLen; omega)
  go_wp2_with fail
  refine (implTimeRight_any r l _ HLM.out.1 (HE.out.below HB3.out HE.out.1)).mono ?_
  rintro e w4 ⟨rfl, hb4⟩
  have HB4 := hide (HB3.out.trans (hb4.mono HB3.out.size))
  clear hb4
  go_wp2_with fail
  refine (specTimeRight_all r l _).mono ?_
  rintro e w5 ⟨rfl, hb5⟩
  have HB5 := hide (HB4.out.trans (hb5.mono HB4.out.size))
  have hx := bne_same (timeB r l)
  clear hb5
  obtain ⟨X, hX⟩ : ∃ X, X = timeB r l := ⟨_, rfl⟩
  rw [← hX] at hx ⊢
  have HX := hide hX
  clear hX
  go_wp2_with fail
  refine (implDayRight_any d _ (HE.out.below HB5.out HE.out.1)).mono ?_
  rintro e w6 ⟨rfl, hb6⟩
  have HB6 := hide (HB5.out.trans (hb6.mono HB5.out.size))
  clear hb6
  go_wp2_with fail
  refine (specDayRight_any d _ HLM.out.2.1).mono ?_
  rintro e w7 ⟨rfl, hb7⟩
  have HB7 := hide (HB6.out.trans (hb7.mono HB6.out.size))
  have hy := bne_same (dayB d)
  clear hb7
  obtain ⟨Y, hY⟩ : ∃ Y, Y = dayB d := ⟨_, rfl⟩
  rw [← hY] at hy ⊢
  have HY := hide hY
  clear hY
  go_wp2_with fail
  refine (implNumberRight_any n _ HLM.out.2.2).mono ?_
  rintro e w8 ⟨rfl, hb8⟩
  have HB8 := hide (HB7.out.trans (hb8.mono HB7.out.size))
  clear hb8
  go_wp2_with fail
  refine (specNumberRight_any n _ HLM.out.2.2).mono ?_
  rintro e w9 ⟨rfl, rfl⟩
  have hz := bne_same (numberB n)
  generalize numberB n = Z at *
  have HED := hide (fun (X : World) (hB : Below w.heap.size w X) => HE.out.below hB HE.out.1)
  have HEX := hide (fun (X : World) (hB : Below w.heap.size w X) => implDayRight_any d X (HED.out X hB))
  have HET := hide (fun (X : World) (hB : Below w.heap.size w X) => implTimeRight_any 1 d X HLM.out.2.1 (HED.out X hB))
  have HOne := hide (show ¬ d.length = 8 ∨ timeB 1 d = dayB d by
    by_cases h8 : d.length = 8
    · exact .inr (timeB_only d h8)
    · exact .inl h8)
  cases X
  · go_wp2_with fail
    refine (HET.out _ HB8.out).mono ?_
    rintro e wa ⟨rfl, hba⟩
    have HBa := hide (HB8.out.trans (hba.mono HB8.out.size))
    clear hba
    go_wp2_with fail
    refine (HEX.out _ HBa.out).mono ?_
    rintro e wb ⟨rfl, hbb⟩
    have HBb := hide (HBa.out.trans (hbb.mono HBa.out.size))
    clear hbb
    rcases HOne.out with h8 | h8
    · have h8B : ((d.length : Int) != 8) = true := bne_iff_ne.2 (by omega)
      clear h8
      generalize timeB 1 d = T1 at *
      generalize dayB d = D1 at *
      cases T1
      · cases D1
        · go_wp2
          go_ret
          exact ⟨rfl, HBb.out⟩
        · go_wp2
          go_ret
          exact ⟨rfl, HBb.out⟩
      · cases D1
        · go_wp2
          go_ret
          exact ⟨rfl, HBb.out⟩
        · go_wp2
          go_ret
          exact ⟨rfl, HBb.out⟩
    · rw [h8]
      clear h8
      generalize dayB d = D1 at *
      cases D1
      · go_wp2
        go_ret
        exact ⟨rfl, HBb.out⟩
      · go_wp2
        go_ret
        exact ⟨rfl, HBb.out⟩
  · have ht := HX.out.symm
    have hd8 := timeB_day r l ht
    have h8I : ¬ (l.length : Int) < 8 := by omega
    have HD8 := hide hd8.2
    have HUP := hide (fun h3 => timeB_up r l h3 ht)
    have HLT := hide (fun (X : World) (hB : Below w.heap.size w X) => implDayRight_any (l.take 8) X (HED.out X hB))
    have HLU := hide (fun (X : World) (hB : Below w.heap.size w X) => implTimeRight_any (r + 1) l X HLM.out.1 (HED.out X hB))
    clear ht hd8
    go_wp2_with fail
    rw [ext_takeV]
    refine (HLT.out _ HB8.out).mono ?_
    rintro e wc ⟨rfl, hbc⟩
    have HBc := hide (HB8.out.trans (hbc.mono HB8.out.size))
    clear hbc
    rw [HD8.out]
    by_cases h3 : r < 3
    · have hwr : IntKind.i64.wrap (r + 1) = r + 1 := by rw [IntKind.wrap_i64]; have := HR.out; omega
      have HU := hide (HUP.out h3)
      go_wp2_with fail
      refine (HLU.out _ HBc.out).mono ?_
      rintro e wd ⟨rfl, hbd⟩
      have HBd := hide (HBc.out.trans (hbd.mono HBc.out.size))
      clear hbd
      rw [HU.out]
      go_wp2_with fail
      refine (HET.out _ HBd.out).mono ?_
      rintro e wa ⟨rfl, hba⟩
      have HBa := hide (HBd.out.trans (hba.mono HBd.out.size))
      clear hba
      go_wp2_with fail
      refine (HEX.out _ HBa.out).mono ?_
      rintro e wb ⟨rfl, hbb⟩
      have HBb := hide (HBa.out.trans (hbb.mono HBa.out.size))
      clear hbb
      rcases HOne.out with h8 | h8
      · have h8B : ((d.length : Int) != 8) = true := bne_iff_ne.2 (by omega)
        clear h8
        generalize timeB 1 d = T1 at *
        generalize dayB d = D1 at *
        cases T1
        · cases D1
          · go_wp2
            go_ret
            exact ⟨rfl, HBb.out⟩
          · go_wp2
            go_ret
            exact ⟨rfl, HBb.out⟩
        · cases D1
          · go_wp2
            go_ret
            exact ⟨rfl, HBb.out⟩
          · go_wp2
            go_ret
            exact ⟨rfl, HBb.out⟩
      · rw [h8]
        clear h8
        generalize dayB d = D1 at *
        cases D1
        · go_wp2
          go_ret
          exact ⟨rfl, HBb.out⟩
        · go_wp2
          go_ret
          exact ⟨rfl, HBb.out⟩
    · go_wp2_with fail
      refine (HET.out _ HBc.out).mono ?_
      rintro e wa ⟨rfl, hba⟩
      have HBa := hide (HBc.out.trans (hba.mono HBc.out.size))
      clear hba
      go_wp2_with fail
      refine (HEX.out _ HBa.out).mono ?_
      rintro e wb ⟨rfl, hbb⟩
      have HBb := hide (HBa.out.trans (hbb.mono HBa.out.size))
      clear hbb
      rcases HOne.out with h8 | h8
      · have h8B : ((d.length : Int) != 8) = true := bne_iff_ne.2 (by omega)
        clear h8
        generalize timeB 1 d = T1 at *
        generalize dayB d = D1 at *
        cases T1
        · cases D1
          · go_wp2
            go_ret
            exact ⟨rfl, HBb.out⟩
          · go_wp2
            go_ret
            exact ⟨rfl, HBb.out⟩
        · cases D1
          · go_wp2
            go_ret
            exact ⟨rfl, HBb.out⟩
          · go_wp2
            go_ret
            exact ⟨rfl, HBb.out⟩
      · rw [h8]
        clear h8
        generalize dayB d = D1 at *
        cases D1
        · go_wp2
          go_ret
          exact ⟨rfl, HBb.out⟩
        · go_wp2
          go_ret
          exact ⟨rfl, HBb.out⟩
end Go.Proofs.YthlonjfjlkoojaaDoor
