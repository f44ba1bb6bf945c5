/- A time: of the model. -/
import Derived.Test.YtfjjbofnfigehaaGreatDoorXG11VTimeZ
import Derived.Deep.DeepCutAuto
namespace Go.Proofs.YtfjjbofnfigehaaGreatDoor
open Go.RowKit
theorem dotAt_any (d : List UInt8) (w : World) (hd : d.length ≤ 8000) :
    Calls Tryz.prog 65 #[.string ⟨d.toArray⟩, .int .u8 46] w fun e w' => e = .returned (.int .i64 (Lib.indexByte d 46)) ∧ w' = w :=
  l04At_any ⟨d.toArray⟩ 46 w (by unfold maxLen; simp [ByteArray.size]; omega)
theorem dot_room (d : List UInt8) : 0 ≤ Lib.indexByte d 46 → Lib.indexByte d 46 + 1 ≤ (d.length : Int) := by
  intro h
  obtain ⟨k, hk⟩ : ∃ k : Nat, Lib.indexByte d 46 = (k : Int) := ⟨(Lib.indexByte d 46).toNat, by omega⟩
  obtain ⟨h46, _⟩ := Lib.indexByte_some hk
  obtain ⟨hl, _⟩ := List.getElem?_eq_some_iff.1 h46
  omega
theorem frac_spelt (v : Int) (c : List UInt8) (h : 2 ≤ v) : fracS v c = if decide (0 ≤ Lib.indexByte c 46) then
    (if decide (Lib.indexByte c 46 = 6) && (digL (c.drop 7) && (decide (1 ≤ (c.drop 7).length) && decide ((c.drop 7).length ≤ 4))) then clk [23, 59, 59] (c.take 6) else false)
  else clk [23, 59, 59] c := by
  unfold fracS
  simp only [h, decide_true, Bool.true_and]
def timeB (v : Int) (l : List UInt8) : Bool := verB v && (decide (8 ≤ l.length) && (dayB (l.take 8) && timeS v (l.drop 8)))
set_option maxHeartbeats 4000000 in
set_option maxRecDepth 100000 in
theorem specTimeRight_any (v : Int) (l : List UInt8) (w : World) (hl : l.length ≤ 8000) :
    Calls Tryz.prog 40 #[.int .i64 v, .string ⟨l.toArray⟩] w fun e w' => e = .returned (.bool (timeB v l)) ∧ Below w.heap.size w w' := by
  obtain ⟨R, hR⟩ : ∃ R, R = timeB v l := ⟨_, rfl⟩
  rw [← hR]
  have HR := hide hR
  clear hR
  have h80 : ¬ 8000 < (l.length : Int) := by omega
  cases hv : verB v
  · have HN := hide (show R = false by rw [HR.out]; simp [timeB, hv])
    go_enter Tryz.func40, Tryz.ntmps40
    go_wp2_with fail
    refine (l06Version_any v _).mono ?_
    rintro e w1 ⟨rfl, rfl⟩
    rw [hv]
    clear hv
    go_wp2
    go_ret
    exact ⟨ret_bool HN.out.symm, Below.refl _ _⟩
  · by_cases h8 : 8 ≤ l.length
    · have h8I : ¬ (l.length : Int) < 8 := by omega
      have HC := hide (fun X => specDayRight_any (l.take 8) X (by unfold maxLen; rw [List.length_take]; omega))
      go_enter Tryz.func40, Tryz.ntmps40
      go_wp2_with fail
      refine (l06Version_any v _).mono ?_
      rintro e w1 ⟨rfl, rfl⟩
      rw [hv]
      have HV := hide hv
      clear hv
      go_wp2_with fail
      rw [ext_takeV]
      refine (HC.out _).mono ?_
      rintro e w2 ⟨rfl, hb⟩
      have HB := hide hb
      clear hb HC
      cases hd : dayB (l.take 8)
      · have HN := hide (show R = false by rw [HR.out]; simp [timeB, hd])
        clear hd
        go_wp2
        go_ret
        exact ⟨ret_bool HN.out.symm, HB.out⟩
      · have HY := hide (show R = timeS v (l.drop 8) by rw [HR.out]; simp [timeB, hd, HV.out, h8])
        clear hd
        go_upto_region 4 with fail
        rw [ext_dropV]
        obtain ⟨c, hc⟩ : ∃ c, c = l.drop 8 := ⟨_, rfl⟩
        have hcl : c.length ≤ 8000 := by rw [hc, List.length_drop]; omega
        rw [← hc] at HY ⊢
        clear hc
        have hv3 : v = 1 ∨ v = 2 ∨ v = 3 := by have := HV.out; simp [verB] at this; omega
        rcases hv3 with rfl | rfl | rfl
        · have HN := hide (show R = clk [23, 59, 59] c by rw [HY.out]; rfl)
          go_wp2_with fail
          refine (dotAt_any c _ (by omega)).mono ?_
          rintro e wd ⟨rfl, rfl⟩
          generalize Lib.indexByte c 46 = K at *
          go_wp2_with fail
          refine (l06Clock_any c 23 _ (by unfold maxLen; omega)).mono ?_
          rintro e wd ⟨rfl, rfl⟩
          go_wp2
          go_ret
          exact ⟨ret_bool HN.out.symm, HB.out⟩
        · have HRc := hide (show R = fracS 2 c by rw [HY.out]; rfl)
          clear HY
          go_wp2_with fail
          refine (dotAt_any c _ (by omega)).mono ?_
          rintro e wd ⟨rfl, rfl⟩
          have HKS := hide (dot_room c)
          have HKG := hide (Lib.indexByte_ge c 46)
          have HF := hide (HRc.out.trans (frac_spelt 2 c (by decide)))
          generalize Lib.indexByte c 46 = K at *
          by_cases hk0 : 0 ≤ K
          · have hkr := HKS.out hk0
            by_cases hk6 : K = 6
            · subst hk6
              have hk7 : 7 ≤ c.length := by omega
              go_wp2_with fail
              rw [ext_dropV]
              refine (l06Digits_any (c.drop 7) _ (by unfold maxLen; rw [List.length_drop]; omega)).mono ?_
              rintro e wd ⟨rfl, rfl⟩
              have hdl : (c.drop 7).length = c.length - 7 := List.length_drop
              cases hdg : digL (c.drop 7)
              · have HN := hide (show R = false by rw [HF.out, hdg]; simp)
                clear hdg
                go_wp2
                go_ret
                exact ⟨ret_bool HN.out.symm, HB.out⟩
              · by_cases h1 : 1 ≤ c.length - 7
                · by_cases h4 : c.length - 7 ≤ 4
                  · have HN := hide (show R = clk [23, 59, 59] (c.take 6) by rw [HF.out, hdg, hdl]; simp only [h1, h4]; simp)
                    have h1I : ¬ ((c.length - 7 : Nat) : Int) < 1 := by omega
                    have h4I : ¬ 4 < ((c.length - 7 : Nat) : Int) := by omega
                    have h1J : ¬ c.length - 7 < 1 := by omega
                    have h4J : ¬ 4 < c.length - 7 := by omega
                    clear hdg
                    go_wp2_with fail
                    rw [ext_takeV]
                    refine (l06Clock_any (c.take 6) 23 _ (by unfold maxLen; rw [List.length_take]; omega)).mono ?_
                    rintro e wd ⟨rfl, rfl⟩
                    go_wp2
                    go_ret
                    exact ⟨ret_bool HN.out.symm, HB.out⟩
                  · have HN := hide (show R = false by rw [HF.out, hdl]; simp [h4])
                    have h1I : ¬ ((c.length - 7 : Nat) : Int) < 1 := by omega
                    have h4I : 4 < ((c.length - 7 : Nat) : Int) := by omega
                    have h1J : ¬ c.length - 7 < 1 := by omega
                    have h4J : 4 < c.length - 7 := by omega
                    clear hdg
                    go_wp2
                    go_ret
                    exact ⟨ret_bool HN.out.symm, HB.out⟩
                · have HN := hide (show R = false by rw [HF.out, hdl]; simp [h1])
                  have h1I : ((c.length - 7 : Nat) : Int) < 1 := by omega
                  have h1J : c.length - 7 < 1 := by omega
                  clear hdg
                  go_wp2
                  go_ret
                  exact ⟨ret_bool HN.out.symm, HB.out⟩
            · have HN := hide (show R = false by rw [HF.out]; simp [hk0, hk6])
              have hk6B : (K != 6) = true := bne_iff_ne.2 hk6
              go_wp2
              go_ret
              exact ⟨ret_bool HN.out.symm, HB.out⟩
          · have HN := hide (show R = clk [23, 59, 59] c by rw [HF.out]; simp [hk0])
            have hkm : K = -1 := by have := HKG.out; omega
            subst hkm
            go_wp2_with fail
            refine (l06Clock_any c 23 _ (by unfold maxLen; omega)).mono ?_
            rintro e wd ⟨rfl, rfl⟩
            go_wp2
            go_ret
            exact ⟨ret_bool HN.out.symm, HB.out⟩
        · by_cases h5 : 5 ≤ c.length
          · obtain ⟨p, hp⟩ : ∃ p : Nat, p = c.length - 5 := ⟨_, rfl⟩
            have hpI : ((c.length : Int) - 5) = (p : Int) := by omega
            have hp4 : ((c.length : Int) - 4) = ((p + 1 : Nat) : Int) := by omega
            have hn4 : c.length - 4 = p + 1 := by omega
            have hlt : p < c.length := by omega
            have hg := get_dataV c p hlt
            have hsz : p < (⟨c.toArray⟩ : ByteArray).size := by simpa [ByteArray.size] using hlt
            have h5I : (5 : Int) ≤ (c.length : Int) := by omega
            have HG := hide (show hasSgn c = sgn c[p] by unfold hasSgn; rw [← hp, getD_at c p hlt]; simp [h5])
            by_cases hs : sgn c[p] = true
            · have hs' := hs
              simp only [sgn, Bool.or_eq_true, beq_iff_eq] at hs'
              rw [hs] at HG
              have hsg : ((c[p].toNat : Int) == 43) = true ∨ ((c[p].toNat : Int) == 43) = false ∧ ((c[p].toNat : Int) == 45) = true := by
                rcases hs' with e | e <;> rw [e] <;> decide
              clear hs hs'
              have HP := hide hp
              have HN4 := hide hn4
              clear hp hn4
              rcases hsg with g1 | ⟨g1, g2⟩
              · have HZ := hide (show R = if clk [14, 59, 59] (c.drop (p + 1)) then fracS 3 (c.take p) else false by
                  rw [HY.out]; unfold timeS; rw [HG.out, HN4.out, ← HP.out]; rfl)
                go_wp2_with fail
                rw [ext_dropV]
                refine (l06Clock_any (c.drop (p + 1)) 14 _ (by unfold maxLen; rw [List.length_drop]; omega)).mono ?_
                rintro e wd ⟨rfl, rfl⟩
                cases hz : clk [14, 59, 59] (c.drop (p + 1))
                · have HN := hide (show R = false by rw [HZ.out, hz]; rfl)
                  clear hz HZ HY
                  go_wp2
                  go_ret
                  exact ⟨ret_bool HN.out.symm, HB.out⟩
                · have HRd' := hide (show R = fracS 3 (c.take p) by rw [HZ.out, hz]; rfl)
                  clear hz HZ HY
                  go_upto_region 9 with fail
                  rw [ext_takeV]
                  obtain ⟨d, hd⟩ : ∃ d, d = c.take p := ⟨_, rfl⟩
                  have hdlen : d.length ≤ 8000 := by rw [hd, List.length_take]; omega
                  rw [← hd] at HRd' ⊢
                  have HRd := HRd'
                  clear hd
                  go_wp2_with fail
                  refine (dotAt_any d _ (by omega)).mono ?_
                  rintro e wd ⟨rfl, rfl⟩
                  have HKS := hide (dot_room d)
                  have HKG := hide (Lib.indexByte_ge d 46)
                  have HF := hide (HRd.out.trans (frac_spelt 3 d (by decide)))
                  generalize Lib.indexByte d 46 = K at *
                  by_cases hk0 : 0 ≤ K
                  · have hkr := HKS.out hk0
                    by_cases hk6 : K = 6
                    · subst hk6
                      have hk7 : 7 ≤ d.length := by omega
                      go_wp2_with fail
                      rw [ext_dropV]
                      refine (l06Digits_any (d.drop 7) _ (by unfold maxLen; rw [List.length_drop]; omega)).mono ?_
                      rintro e wd ⟨rfl, rfl⟩
                      have hdl : (d.drop 7).length = d.length - 7 := List.length_drop
                      cases hdg : digL (d.drop 7)
                      · have HN := hide (show R = false by rw [HF.out, hdg]; simp)
                        clear hdg
                        go_wp2
                        go_ret
                        exact ⟨ret_bool HN.out.symm, HB.out⟩
                      · by_cases h1 : 1 ≤ d.length - 7
                        · by_cases h4 : d.length - 7 ≤ 4
                          · have HN := hide (show R = clk [23, 59, 59] (d.take 6) by rw [HF.out, hdg, hdl]; simp only [h1, h4]; simp)
                            have h1I : ¬ ((d.length - 7 : Nat) : Int) < 1 := by omega
                            have h4I : ¬ 4 < ((d.length - 7 : Nat) : Int) := by omega
                            have h1J : ¬ d.length - 7 < 1 := by omega
                            have h4J : ¬ 4 < d.length - 7 := by omega
                            clear hdg
                            go_wp2_with fail
                            rw [ext_takeV]
                            refine (l06Clock_any (d.take 6) 23 _ (by unfold maxLen; rw [List.length_take]; omega)).mono ?_
                            rintro e wd ⟨rfl, rfl⟩
                            go_wp2
                            go_ret
                            exact ⟨ret_bool HN.out.symm, HB.out⟩
                          · have HN := hide (show R = false by rw [HF.out, hdl]; simp [h4])
                            have h1I : ¬ ((d.length - 7 : Nat) : Int) < 1 := by omega
                            have h4I : 4 < ((d.length - 7 : Nat) : Int) := by omega
                            have h1J : ¬ d.length - 7 < 1 := by omega
                            have h4J : 4 < d.length - 7 := by omega
                            clear hdg
                            go_wp2
                            go_ret
                            exact ⟨ret_bool HN.out.symm, HB.out⟩
                        · have HN := hide (show R = false by rw [HF.out, hdl]; simp [h1])
                          have h1I : ((d.length - 7 : Nat) : Int) < 1 := by omega
                          have h1J : d.length - 7 < 1 := by omega
                          clear hdg
                          go_wp2
                          go_ret
                          exact ⟨ret_bool HN.out.symm, HB.out⟩
                    · have HN := hide (show R = false by rw [HF.out]; simp [hk0, hk6])
                      have hk6B : (K != 6) = true := bne_iff_ne.2 hk6
                      go_wp2
                      go_ret
                      exact ⟨ret_bool HN.out.symm, HB.out⟩
                  · have HN := hide (show R = clk [23, 59, 59] d by rw [HF.out]; simp [hk0])
                    have hkm : K = -1 := by have := HKG.out; omega
                    subst hkm
                    go_wp2_with fail
                    refine (l06Clock_any d 23 _ (by unfold maxLen; omega)).mono ?_
                    rintro e wd ⟨rfl, rfl⟩
                    go_wp2
                    go_ret
                    exact ⟨ret_bool HN.out.symm, HB.out⟩
              · have HZ := hide (show R = if clk [14, 59, 59] (c.drop (p + 1)) then fracS 3 (c.take p) else false by
                  rw [HY.out]; unfold timeS; rw [HG.out, HN4.out, ← HP.out]; rfl)
                go_wp2_with fail
                rw [ext_dropV]
                refine (l06Clock_any (c.drop (p + 1)) 14 _ (by unfold maxLen; rw [List.length_drop]; omega)).mono ?_
                rintro e wd ⟨rfl, rfl⟩
                cases hz : clk [14, 59, 59] (c.drop (p + 1))
                · have HN := hide (show R = false by rw [HZ.out, hz]; rfl)
                  clear hz HZ HY
                  go_wp2
                  go_ret
                  exact ⟨ret_bool HN.out.symm, HB.out⟩
                · have HRd' := hide (show R = fracS 3 (c.take p) by rw [HZ.out, hz]; rfl)
                  clear hz HZ HY
                  go_upto_region 9 with fail
                  rw [ext_takeV]
                  obtain ⟨d, hd⟩ : ∃ d, d = c.take p := ⟨_, rfl⟩
                  have hdlen : d.length ≤ 8000 := by rw [hd, List.length_take]; omega
                  rw [← hd] at HRd' ⊢
                  have HRd := HRd'
                  clear hd
                  go_wp2_with fail
                  refine (dotAt_any d _ (by omega)).mono ?_
                  rintro e wd ⟨rfl, rfl⟩
                  have HKS := hide (dot_room d)
                  have HKG := hide (Lib.indexByte_ge d 46)
                  have HF := hide (HRd.out.trans (frac_spelt 3 d (by decide)))
                  generalize Lib.indexByte d 46 = K at *
                  by_cases hk0 : 0 ≤ K
                  · have hkr := HKS.out hk0
                    by_cases hk6 : K = 6
                    · subst hk6
                      have hk7 : 7 ≤ d.length := by omega
                      go_wp2_with fail
                      rw [ext_dropV]
                      refine (l06Digits_any (d.drop 7) _ (by unfold maxLen; rw [List.length_drop]; omega)).mono ?_
                      rintro e wd ⟨rfl, rfl⟩
                      have hdl : (d.drop 7).length = d.length - 7 := List.length_drop
                      cases hdg : digL (d.drop 7)
                      · have HN := hide (show R = false by rw [HF.out, hdg]; simp)
                        clear hdg
                        go_wp2
                        go_ret
                        exact ⟨ret_bool HN.out.symm, HB.out⟩
                      · by_cases h1 : 1 ≤ d.length - 7
                        · by_cases h4 : d.length - 7 ≤ 4
                          · have HN := hide (show R = clk [23, 59, 59] (d.take 6) by rw [HF.out, hdg, hdl]; simp only [h1, h4]; simp)
                            have h1I : ¬ ((d.length - 7 : Nat) : Int) < 1 := by omega
                            have h4I : ¬ 4 < ((d.length - 7 : Nat) : Int) := by omega
                            have h1J : ¬ d.length - 7 < 1 := by omega
                            have h4J : ¬ 4 < d.length - 7 := by omega
                            clear hdg
                            go_wp2_with fail
                            rw [ext_takeV]
                            refine (l06Clock_any (d.take 6) 23 _ (by unfold maxLen; rw [List.length_take]; omega)).mono ?_
                            rintro e wd ⟨rfl, rfl⟩
                            go_wp2
                            go_ret
                            exact ⟨ret_bool HN.out.symm, HB.out⟩
                          · have HN := hide (show R = false by rw [HF.out, hdl]; simp [h4])
                            have h1I : ¬ ((d.length - 7 : Nat) : Int) < 1 := by omega
                            have h4I : 4 < ((d.length - 7 : Nat) : Int) := by omega
                            have h1J : ¬ d.length - 7 < 1 := by omega
                            have h4J : 4 < d.length - 7 := by omega
                            clear hdg
                            go_wp2
                            go_ret
                            exact ⟨ret_bool HN.out.symm, HB.out⟩
                        · have HN := hide (show R = false by rw [HF.out, hdl]; simp [h1])
                          have h1I : ((d.length - 7 : Nat) : Int) < 1 := by omega
                          have h1J : d.length - 7 < 1 := by omega
                          clear hdg
                          go_wp2
                          go_ret
                          exact ⟨ret_bool HN.out.symm, HB.out⟩
                    · have HN := hide (show R = false by rw [HF.out]; simp [hk0, hk6])
                      have hk6B : (K != 6) = true := bne_iff_ne.2 hk6
                      go_wp2
                      go_ret
                      exact ⟨ret_bool HN.out.symm, HB.out⟩
                  · have HN := hide (show R = clk [23, 59, 59] d by rw [HF.out]; simp [hk0])
                    have hkm : K = -1 := by have := HKG.out; omega
                    subst hkm
                    go_wp2_with fail
                    refine (l06Clock_any d 23 _ (by unfold maxLen; omega)).mono ?_
                    rintro e wd ⟨rfl, rfl⟩
                    go_wp2
                    go_ret
                    exact ⟨ret_bool HN.out.symm, HB.out⟩
            · have hs' : sgn c[p] = false := by simpa using hs
              rw [hs'] at HG
              have HRc := hide (show R = fracS 3 c by rw [HY.out]; unfold timeS; rw [HG.out]; rfl)
              have g1 : ((c[p].toNat : Int) == 43) = false := by
                have : ¬ c[p] = 43 := by intro e; rw [e] at hs'; simp [sgn] at hs'
                have h2 : ¬ c[p].toNat = 43 := fun e => this (UInt8.toNat_inj.1 e)
                exact beq_eq_false_iff_ne.2 (by omega)
              have g2 : ((c[p].toNat : Int) == 45) = false := by
                have : ¬ c[p] = 45 := by intro e; rw [e] at hs'; simp [sgn] at hs'
                have h2 : ¬ c[p].toNat = 45 := fun e => this (UInt8.toNat_inj.1 e)
                exact beq_eq_false_iff_ne.2 (by omega)
              clear hs hs' hp hn4 HY
              go_wp2_with fail
              refine (dotAt_any c _ (by omega)).mono ?_
              rintro e wd ⟨rfl, rfl⟩
              have HKS := hide (dot_room c)
              have HKG := hide (Lib.indexByte_ge c 46)
              have HF := hide (HRc.out.trans (frac_spelt 3 c (by decide)))
              generalize Lib.indexByte c 46 = K at *
              by_cases hk0 : 0 ≤ K
              · have hkr := HKS.out hk0
                by_cases hk6 : K = 6
                · subst hk6
                  have hk7 : 7 ≤ c.length := by omega
                  go_wp2_with fail
                  rw [ext_dropV]
                  refine (l06Digits_any (c.drop 7) _ (by unfold maxLen; rw [List.length_drop]; omega)).mono ?_
                  rintro e wd ⟨rfl, rfl⟩
                  have hdl : (c.drop 7).length = c.length - 7 := List.length_drop
                  cases hdg : digL (c.drop 7)
                  · have HN := hide (show R = false by rw [HF.out, hdg]; simp)
                    clear hdg
                    go_wp2
                    go_ret
                    exact ⟨ret_bool HN.out.symm, HB.out⟩
                  · by_cases h1 : 1 ≤ c.length - 7
                    · by_cases h4 : c.length - 7 ≤ 4
                      · have HN := hide (show R = clk [23, 59, 59] (c.take 6) by rw [HF.out, hdg, hdl]; simp only [h1, h4]; simp)
                        have h1I : ¬ ((c.length - 7 : Nat) : Int) < 1 := by omega
                        have h4I : ¬ 4 < ((c.length - 7 : Nat) : Int) := by omega
                        have h1J : ¬ c.length - 7 < 1 := by omega
                        have h4J : ¬ 4 < c.length - 7 := by omega
                        clear hdg
                        go_wp2_with fail
                        rw [ext_takeV]
                        refine (l06Clock_any (c.take 6) 23 _ (by unfold maxLen; rw [List.length_take]; omega)).mono ?_
                        rintro e wd ⟨rfl, rfl⟩
                        go_wp2
                        go_ret
                        exact ⟨ret_bool HN.out.symm, HB.out⟩
                      · have HN := hide (show R = false by rw [HF.out, hdl]; simp [h4])
                        have h1I : ¬ ((c.length - 7 : Nat) : Int) < 1 := by omega
                        have h4I : 4 < ((c.length - 7 : Nat) : Int) := by omega
                        have h1J : ¬ c.length - 7 < 1 := by omega
                        have h4J : 4 < c.length - 7 := by omega
                        clear hdg
                        go_wp2
                        go_ret
                        exact ⟨ret_bool HN.out.symm, HB.out⟩
                    · have HN := hide (show R = false by rw [HF.out, hdl]; simp [h1])
                      have h1I : ((c.length - 7 : Nat) : Int) < 1 := by omega
                      have h1J : c.length - 7 < 1 := by omega
                      clear hdg
                      go_wp2
                      go_ret
                      exact ⟨ret_bool HN.out.symm, HB.out⟩
                · have HN := hide (show R = false by rw [HF.out]; simp [hk0, hk6])
                  have hk6B : (K != 6) = true := bne_iff_ne.2 hk6
                  go_wp2
                  go_ret
                  exact ⟨ret_bool HN.out.symm, HB.out⟩
              · have HN := hide (show R = clk [23, 59, 59] c by rw [HF.out]; simp [hk0])
                have hkm : K = -1 := by have := HKG.out; omega
                subst hkm
                go_wp2_with fail
                refine (l06Clock_any c 23 _ (by unfold maxLen; omega)).mono ?_
                rintro e wd ⟨rfl, rfl⟩
                go_wp2
                go_ret
                exact ⟨ret_bool HN.out.symm, HB.out⟩
          · have h5I : ¬ (5 : Int) ≤ (c.length : Int) := by omega
            have HRc := hide (show R = fracS 3 c by rw [HY.out]; unfold timeS; rw [show hasSgn c = false by unfold hasSgn; simp [h5]]; rfl)
            clear HY
            go_wp2_with fail
            refine (dotAt_any c _ (by omega)).mono ?_
            rintro e wd ⟨rfl, rfl⟩
            have HKS := hide (dot_room c)
            have HKG := hide (Lib.indexByte_ge c 46)
            have HF := hide (HRc.out.trans (frac_spelt 3 c (by decide)))
            generalize Lib.indexByte c 46 = K at *
            by_cases hk0 : 0 ≤ K
            · have hkr := HKS.out hk0
              by_cases hk6 : K = 6
              · subst hk6
                exact absurd h5 (by omega)
              · have HN := hide (show R = false by rw [HF.out]; simp [hk0, hk6])
                have hk6B : (K != 6) = true := bne_iff_ne.2 hk6
                go_wp2
                go_ret
                exact ⟨ret_bool HN.out.symm, HB.out⟩
            · have HN := hide (show R = clk [23, 59, 59] c by rw [HF.out]; simp [hk0])
              have hkm : K = -1 := by have := HKG.out; omega
              subst hkm
              go_wp2_with fail
              refine (l06Clock_any c 23 _ (by unfold maxLen; omega)).mono ?_
              rintro e wd ⟨rfl, rfl⟩
              go_wp2
              go_ret
              exact ⟨ret_bool HN.out.symm, HB.out⟩
    · have h8I : (l.length : Int) < 8 := by omega
      have HN := hide (show R = false by rw [HR.out]; simp [timeB, h8])
      go_enter Tryz.func40, Tryz.ntmps40
      go_wp2_with fail
      refine (l06Version_any v _).mono ?_
      rintro e w1 ⟨rfl, rfl⟩
      rw [hv]
      clear hv
      go_wp2
      go_ret
      exact ⟨ret_bool HN.out.symm, Below.refl _ _⟩
end Go.Proofs.YtfjjbofnfigehaaGreatDoor
/- A time: of the program; the law of TimeRight. -/
namespace Go.Proofs.YtfjjbofnfigehaaGreatDoor
open Go.RowKit
theorem woFrac_len (c : List UInt8) (n : Nat) (h : (woFrac c).length ≤ n) : c.length ≤ n + 11 := by
  unfold woFrac at h
  split at h
  · rename_i hc
    simp only [Bool.and_eq_true, decide_eq_true_eq, List.length_drop] at hc
    omega
  · omega
theorem woZone_len (c : List UInt8) (n : Nat) (h : (woZone c).length ≤ n) : c.length ≤ n + 5 := by
  unfold woZone at h
  split at h
  · rw [List.length_take] at h; omega
  · omega
theorem woFrac_le (c : List UInt8) : (woFrac c).length ≤ c.length := by
  unfold woFrac
  split
  · rw [List.length_take]; omega
  · exact Nat.le_refl _
theorem woZone_le (c : List UInt8) : (woZone c).length ≤ c.length := by
  unfold woZone
  split
  · rw [List.length_take]; omega
  · exact Nat.le_refl _
theorem timeI_len (v : Int) (c : List UInt8) (h : timeI v c = true) : c.length ≤ 22 := by
  unfold timeI at h
  have h1 := (clk_len _ _ h).2
  simp only [List.length_cons, List.length_nil] at h1
  by_cases h3 : 3 ≤ v
  · have h2 : 2 ≤ v := by omega
    simp only [h3, h2, if_true] at h1
    have := woZone_len c _ (woFrac_len _ _ h1)
    omega
  · simp only [h3, if_false] at h1
    by_cases h2 : 2 ≤ v
    · simp only [h2, if_true] at h1
      have := woFrac_len c _ h1
      omega
    · simp only [h2, if_false] at h1
      omega
theorem timeB_long (v : Int) (l : List UInt8) (h : 8000 < l.length) : timeB v l = false := by
  cases ht : timeB v l
  · rfl
  · simp only [timeB, Bool.and_eq_true] at ht
    have := timeI_len v (l.drop 8) (by rw [time_eq]; exact ht.2.2.2)
    rw [List.length_drop] at this
    omega
set_option maxHeartbeats 4000000 in
set_option maxRecDepth 100000 in
theorem implTimeRight_any (v : Int) (l : List UInt8) (w : World) (hl : l.length ≤ maxLen) (he : ErrsV w) :
    Calls Tryz.prog 75 #[.int .i64 v, .string ⟨l.toArray⟩] w fun e w' => e = .returned (.bool (timeB v l)) ∧ Below w.heap.size w w' := by
  have HL := hide hl
  unfold maxLen at hl
  have HE := hide he
  clear he
  obtain ⟨R, hR⟩ : ∃ R, R = timeB v l := ⟨_, rfl⟩
  rw [← hR]
  have HR := hide hR
  clear hR
  cases hv : verB v
  · have HN := hide (show R = false by rw [HR.out]; simp [timeB, hv])
    go_enter Tryz.func75, Tryz.ntmps75
    go_wp2_with fail
    refine (versionRight_any v _).mono ?_
    rintro e w1 ⟨rfl, rfl⟩
    rw [hv]
    clear hv
    go_wp2
    go_ret
    exact ⟨ret_bool HN.out.symm, Below.refl _ _⟩
  · by_cases h8 : 8 ≤ l.length
    · have h8I : ¬ (l.length : Int) < 8 := by omega
      have HC := hide (fun X hE => implDayRight_any (l.take 8) X hE)
      go_enter Tryz.func75, Tryz.ntmps75
      go_wp2_with fail
      refine (versionRight_any v _).mono ?_
      rintro e w1 ⟨rfl, rfl⟩
      rw [hv]
      have HV := hide hv
      clear hv
      go_wp2_with fail
      rw [ext_takeV]
      refine (HC.out _ HE.out).mono ?_
      rintro e w2 ⟨rfl, hb⟩
      have HB := hide hb
      have HE2 := hide (HE.out.below hb HE.out.1)
      clear hb HC
      cases hd : dayB (l.take 8)
      · have HN := hide (show R = false by rw [HR.out]; simp [timeB, hd])
        clear hd
        go_wp2
        go_ret
        exact ⟨ret_bool HN.out.symm, HB.out⟩
      · have HY := hide (show R = timeI v (l.drop 8) by rw [HR.out, time_eq]; simp [timeB, hd, HV.out, h8])
        clear hd
        go_upto_region 4 with fail
        rw [ext_dropV]
        obtain ⟨c, hc⟩ : ∃ c, c = l.drop 8 := ⟨_, rfl⟩
        have hcl : Hid (c.length ≤ maxLen) := by rw [hc, List.length_drop]; have := HL.out; exact hide (by omega)
        rw [← hc] at HY ⊢
        clear hc
        have hv3 : v = 1 ∨ v = 2 ∨ v = 3 := by have := HV.out; simp [verB] at this; omega
        rcases hv3 with rfl | rfl | rfl
        · have HN := hide (show R = clk [23, 59, 59] c by rw [HY.out]; rfl)
          go_wp2_with fail
          refine (clockRight_any c _ hcl.out HE2.out).mono ?_
          rintro e w3 ⟨rfl, hb⟩
          have HB3 := hide (HB.out.trans (hb.mono HB.out.size))
          clear hb
          go_wp2
          go_ret
          exact ⟨ret_bool HN.out.symm, HB3.out⟩
        · have HN := hide (show R = clk [23, 59, 59] (woFrac c) by rw [HY.out]; rfl)
          have hfl : Hid ((woFrac c).length ≤ maxLen) := hide (Nat.le_trans (woFrac_le c) hcl.out)
          go_wp2_with fail
          refine (withoutFraction_any c _ hcl.out).mono ?_
          rintro e w3 ⟨rfl, hb⟩
          have HB3 := hide (HB.out.trans (hb.mono HB.out.size))
          have HE3 := hide (HE2.out.below hb HE2.out.1)
          clear hb
          generalize woFrac c = d at *
          go_wp2_with fail
          refine (clockRight_any d _ hfl.out HE3.out).mono ?_
          rintro e w4 ⟨rfl, hb⟩
          have HB4 := hide (HB3.out.trans (hb.mono HB3.out.size))
          clear hb
          go_wp2
          go_ret
          exact ⟨ret_bool HN.out.symm, HB4.out⟩
        · have HN := hide (show R = clk [23, 59, 59] (woFrac (woZone c)) by rw [HY.out]; rfl)
          have hzl : Hid ((woZone c).length ≤ maxLen) := hide (Nat.le_trans (woZone_le c) hcl.out)
          have hfl : Hid ((woFrac (woZone c)).length ≤ maxLen) := hide (Nat.le_trans (woFrac_le (woZone c)) hzl.out)
          go_wp2_with fail
          refine (withoutZone_any c _ hcl.out HE2.out).mono ?_
          rintro e w3 ⟨rfl, hb⟩
          have HB3 := hide (HB.out.trans (hb.mono HB.out.size))
          have HE3 := hide (HE2.out.below hb HE2.out.1)
          clear hb
          generalize woZone c = z at *
          go_wp2_with fail
          refine (withoutFraction_any z _ hzl.out).mono ?_
          rintro e w4 ⟨rfl, hb⟩
          have HB4 := hide (HB3.out.trans (hb.mono HB3.out.size))
          have HE4 := hide (HE3.out.below hb HE3.out.1)
          clear hb
          generalize woFrac z = d at *
          go_wp2_with fail
          refine (clockRight_any d _ hfl.out HE4.out).mono ?_
          rintro e w5 ⟨rfl, hb⟩
          have HB5 := hide (HB4.out.trans (hb.mono HB4.out.size))
          clear hb
          go_wp2
          go_ret
          exact ⟨ret_bool HN.out.symm, HB5.out⟩
    · have h8I : (l.length : Int) < 8 := by omega
      have HN := hide (show R = false by rw [HR.out]; simp [timeB, h8])
      go_enter Tryz.func75, Tryz.ntmps75
      go_wp2_with fail
      refine (versionRight_any v _).mono ?_
      rintro e w1 ⟨rfl, rfl⟩
      rw [hv]
      clear hv
      go_wp2
      go_ret
      exact ⟨ret_bool HN.out.symm, Below.refl _ _⟩
theorem specTimeRight_long (v : Int) (l : List UInt8) (w : World) (hl : 8000 < l.length) :
    Calls Tryz.prog 40 #[.int .i64 v, .string ⟨l.toArray⟩] w fun e w' => e = .returned (.bool (timeB v l)) ∧ Below w.heap.size w w' := by
  have HN := hide (timeB_long v l hl)
  have h80 : 8000 < (l.length : Int) := by omega
  go_enter Tryz.func40, Tryz.ntmps40
  go_wp2
  go_ret
  exact ⟨ret_bool HN.out.symm, Below.refl _ _⟩
theorem specTimeRight_all (v : Int) (l : List UInt8) (w : World) :
    Calls Tryz.prog 40 #[.int .i64 v, .string ⟨l.toArray⟩] w fun e w' => e = .returned (.bool (timeB v l)) ∧ Below w.heap.size w w' := by
  by_cases h : l.length ≤ 8000
  · exact specTimeRight_any v l w h
  · exact specTimeRight_long v l w (by omega)
end Go.Proofs.YtfjjbofnfigehaaGreatDoor
