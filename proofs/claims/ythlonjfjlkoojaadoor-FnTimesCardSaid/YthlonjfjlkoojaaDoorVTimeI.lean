/- A time: of the program; the law of TimeRight. -/
import Derived.Test.YthlonjfjlkoojaaDoorVTimeS
namespace Go.Proofs.YthlonjfjlkoojaaDoor
open Go.RowKit
theorem woFrac_len (c : List UInt8) (n : Nat) (h : (woFrac c).length ≤ n) : c.length ≤ n + 11 := by
  unfold woFrac at h
  split at h
  · rename_i hc
    simp only [Bool.and_eq_true, decide_eq_true_eq, List.length_drop] at hc
    omega
  · omega
theorem woZone_len (c : List UInt8) (n : Nat) (h : (woZone c).length ≤ n) : c.length ≤ n + 5 := by
  unfold woZone at h
  split at h
  · rw [List.length_take] at h; omega
  · omega
theorem woFrac_le (c : List UInt8) : (woFrac c).length ≤ c.length := by
  unfold woFrac
  split
  · rw [List.length_take]; omega
  · exact Nat.le_refl _
theorem woZone_le (c : List UInt8) : (woZone c).length ≤ c.length := by
  unfold woZone
  split
  · rw [List.length_take]; omega
  · exact Nat.le_refl _
theorem timeI_len (v : Int) (c : List UInt8) (h : timeI v c = true) : c.length ≤ 22 := by
  unfold timeI at h
  have h1 := (clk_len _ _ h).2
  simp only [List.length_cons, List.length_nil] at h1
  by_cases h3 : 3 ≤ v
  · have h2 : 2 ≤ v := by omega
    simp only [h3, h2, if_true] at h1
    have := woZone_len c _ (woFrac_len _ _ h1)
    omega
  · simp only [h3, if_false] at h1
    by_cases h2 : 2 ≤ v
    · simp only [h2, if_true] at h1
      have := woFrac_len c _ h1
      omega
    · simp only [h2, if_false] at h1
      omega
theorem timeB_long (v : Int) (l : List UInt8) (h : 8000 < l.length) : timeB v l = false := by
  cases ht : timeB v l
  · rfl
  · simp only [timeB, Bool.and_eq_true] at ht
    have := timeI_len v (l.drop 8) (by rw [time_eq]; exact ht.2.2.2)
    rw [List.length_drop] at this
    omega
set_option maxHeartbeats 4000000 in
set_option maxRecDepth 100000 in
theorem implTimeRight_any (v : Int) (l : List UInt8) (w : World) (hl : l.length ≤ maxLen) (he : ErrsV w) :
    Calls Tryd.prog 7 #[.int .i64 v, .string ⟨l.toArray⟩] w fun e w' => e = .returned (.bool (timeB v l)) ∧ Below w.heap.size w w' := by
  have HL := hide hl
  unfold maxLen at hl
  have HE := hide he
  clear he
  obtain ⟨R, hR⟩ : ∃ R, R = timeB v l := ⟨_, rfl⟩
  rw [← hR]
  have HR := hide hR
  clear hR
  cases hv : verB v
  · have HN := hide (show R = false by rw [HR.out]; simp [timeB, hv])
    go_enter Tryd.func7, Tryd.ntmps7
    go_wp2_with fail
    refine (versionRight_any v _).mono ?_
    rintro e w1 ⟨rfl, rfl⟩
    rw [hv]
    clear hv
    go_wp2
    go_ret
    exact ⟨ret_bool HN.out.symm, Below.refl _ _⟩
  · by_cases h8 : 8 ≤ l.length
    · have h8I : ¬ (l.length : Int) < 8 := by omega
      have HC := hide (fun X hE => implDayRight_any (l.take 8) X hE)
      go_enter Tryd.func7, Tryd.ntmps7
      go_wp2_with fail
      refine (versionRight_any v _).mono ?_
      rintro e w1 ⟨rfl, rfl⟩
      rw [hv]
      have HV := hide hv
      clear hv
      go_wp2_with fail
      rw [ext_takeV]
      refine (HC.out _ HE.out).mono ?_
      rintro e w2 ⟨rfl, hb⟩
      have HB := hide hb
      have HE2 := hide (HE.out.below hb HE.out.1)
      clear hb HC
      cases hd : dayB (l.take 8)
      · have HN := hide (show R = false by rw [HR.out]; simp [timeB, hd])
        clear hd
        go_wp2
        go_ret
        exact ⟨ret_bool HN.out.symm, HB.out⟩
      · have HY := hide (show R = timeI v (l.drop 8) by rw [HR.out, time_eq]; simp [timeB, hd, HV.out, h8])
        clear hd
        go_upto_region 4 with fail
        rw [ext_dropV]
        obtain ⟨c, hc⟩ : ∃ c, c = l.drop 8 := ⟨_, rfl⟩
        have hcl : Hid (c.length ≤ maxLen) := by rw [hc, List.length_drop]; have := HL.out; exact hide (by omega)
        rw [← hc] at HY ⊢
        clear hc
        have hv3 : v = 1 ∨ v = 2 ∨ v = 3 := by have := HV.out; simp [verB] at this; omega
        rcases hv3 with rfl | rfl | rfl
        · have HN := hide (show R = clk [23, 59, 59] c by rw [HY.out]; rfl)
          go_wp2_with fail
          refine (clockRight_any c _ hcl.out HE2.out).mono ?_
          rintro e w3 ⟨rfl, hb⟩
          have HB3 := hide (HB.out.trans (hb.mono HB.out.size))
          clear hb
          go_wp2
          go_ret
          exact ⟨ret_bool HN.out.symm, HB3.out⟩
        · have HN := hide (show R = clk [23, 59, 59] (woFrac c) by rw [HY.out]; rfl)
          have hfl : Hid ((woFrac c).length ≤ maxLen) := hide (Nat.le_trans (woFrac_le c) hcl.out)
          go_wp2_with fail
          refine (withoutFraction_any c _ hcl.out).mono ?_
          rintro e w3 ⟨rfl, hb⟩
          have HB3 := hide (HB.out.trans (hb.mono HB.out.size))
          have HE3 := hide (HE2.out.below hb HE2.out.1)
          clear hb
          generalize woFrac c = d at *
          go_wp2_with fail
          refine (clockRight_any d _ hfl.out HE3.out).mono ?_
          rintro e w4 ⟨rfl, hb⟩
          have HB4 := hide (HB3.out.trans (hb.mono HB3.out.size))
          clear hb
          go_wp2
          go_ret
          exact ⟨ret_bool HN.out.symm, HB4.out⟩
        · have HN := hide (show R = clk [23, 59, 59] (woFrac (woZone c)) by rw [HY.out]; rfl)
          have hzl : Hid ((woZone c).length ≤ maxLen) := hide (Nat.le_trans (woZone_le c) hcl.out)
          have hfl : Hid ((woFrac (woZone c)).length ≤ maxLen) := hide (Nat.le_trans (woFrac_le (woZone c)) hzl.out)
          go_wp2_with fail
          refine (withoutZone_any c _ hcl.out HE2.out).mono ?_
          rintro e w3 ⟨rfl, hb⟩
          have HB3 := hide (HB.out.trans (hb.mono HB.out.size))
          have HE3 := hide (HE2.out.below hb HE2.out.1)
          clear hb
          generalize woZone c = z at *
          go_wp2_with fail
          refine (withoutFraction_any z _ hzl.out).mono ?_
          rintro e w4 ⟨rfl, hb⟩
          have HB4 := hide (HB3.out.trans (hb.mono HB3.out.size))
          have HE4 := hide (HE3.out.below hb HE3.out.1)
          clear hb
          generalize woFrac z = d at *
          go_wp2_with fail
          refine (clockRight_any d _ hfl.out HE4.out).mono ?_
          rintro e w5 ⟨rfl, hb⟩
          have HB5 := hide (HB4.out.trans (hb.mono HB4.out.size))
          clear hb
          go_wp2
          go_ret
          exact ⟨ret_bool HN.out.symm, HB5.out⟩
    · have h8I : (l.length : Int) < 8 := by omega
      have HN := hide (show R = false by rw [HR.out]; simp [timeB, h8])
      go_enter Tryd.func7, Tryd.ntmps7
      go_wp2_with fail
      refine (versionRight_any v _).mono ?_
      rintro e w1 ⟨rfl, rfl⟩
      rw [hv]
      clear hv
      go_wp2
      go_ret
      exact ⟨ret_bool HN.out.symm, Below.refl _ _⟩
theorem specTimeRight_long (v : Int) (l : List UInt8) (w : World) (hl : 8000 < l.length) :
    Calls Tryd.prog 8 #[.int .i64 v, .string ⟨l.toArray⟩] w fun e w' => e = .returned (.bool (timeB v l)) ∧ Below w.heap.size w w' := by
  have HN := hide (timeB_long v l hl)
  have h80 : 8000 < (l.length : Int) := by omega
  go_enter Tryd.func8, Tryd.ntmps8
  go_wp2
  go_ret
  exact ⟨ret_bool HN.out.symm, Below.refl _ _⟩
theorem specTimeRight_all (v : Int) (l : List UInt8) (w : World) :
    Calls Tryd.prog 8 #[.int .i64 v, .string ⟨l.toArray⟩] w fun e w' => e = .returned (.bool (timeB v l)) ∧ Below w.heap.size w w' := by
  by_cases h : l.length ≤ 8000
  · exact specTimeRight_any v l w h
  · exact specTimeRight_long v l w (by omega)
end Go.Proofs.YthlonjfjlkoojaaDoor
