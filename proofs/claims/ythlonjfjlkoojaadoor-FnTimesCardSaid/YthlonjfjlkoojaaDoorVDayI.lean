/- A day: of the program. -/
import Derived.Test.YthlonjfjlkoojaaDoorVDayS
namespace Go.Proofs.YthlonjfjlkoojaaDoor
open Go.RowKit
theorem list8 {l : List UInt8} (h : l.length = 8) : ∃ b0 b1 b2 b3 b4 b5 b6 b7, l = [b0, b1, b2, b3, b4, b5, b6, b7] := by
  match l, h with
  | [b0, b1, b2, b3, b4, b5, b6, b7], _ => exact ⟨b0, b1, b2, b3, b4, b5, b6, b7, rfl⟩
theorem digL_split (l : List UInt8) (h : l.length = 8) : digL l = (digL (l.extract 0 4) && (digL (l.extract 4 6) && digL (l.extract 6 8))) := by
  obtain ⟨b0, b1, b2, b3, b4, b5, b6, b7, rfl⟩ := list8 h
  simp [digL, Bool.and_assoc]
theorem allD_of (l : List UInt8) (h : 0 < l.length) : allD l = digL l := by
  cases l with
  | nil => simp at h
  | cons b r => rfl
theorem day_eq (l : List UInt8) (h : l.length = 8) : (withinB (l.extract 0 4) 1800 9999 && (withinB (l.extract 4 6) 1 12 && withinB (l.extract 6 8) 1 (daysN (withinN (l.extract 0 4) 1800 9999) (withinN (l.extract 4 6) 1 12)))) = dayB l := by
  have l0 := len_ext l 0 4 (by omega) (by omega)
  have l1 := len_ext l 4 6 (by omega) (by omega)
  have l2 := len_ext l 6 8 (by omega) (by omega)
  have a0 := allD_of (l.extract 0 4) (by omega)
  have a1 := allD_of (l.extract 4 6) (by omega)
  have a2 := allD_of (l.extract 6 8) (by omega)
  unfold dayB
  rw [digL_split l h]
  have n0 : digL (l.extract 0 4) = true → numL (l.extract 0 4) < 10 ^ 4 := fun hd => by have := numL_lt _ hd; rwa [l0] at this
  generalize l.extract 0 4 = y at *
  generalize l.extract 4 6 = m at *
  generalize l.extract 6 8 = d at *
  simp only [h, withinN, withinB, a0, a1, a2]
  cases h0 : digL y
  · simp
  · cases h1 : digL m
    · simp
    · cases h2 : digL d
      · simp
      · have hn := n0 h0
        by_cases k0 : 1800 ≤ numL y
        · have k1 : numL y ≤ 9999 := by omega
          by_cases k2 : 1 ≤ numL m
          · by_cases k3 : numL m ≤ 12
            · simp [k0, k1, k2, k3]
            · simp [k3]
          · simp [k2]
        · simp [k0]
set_option maxHeartbeats 4000000 in
set_option maxRecDepth 100000 in
theorem implDayRight_any (l : List UInt8) (w : World) (he : ErrsV w) :
    Calls Tryd.prog 9 #[.string ⟨l.toArray⟩] w fun e w' => e = .returned (.bool (dayB l)) ∧ Below w.heap.size w w' := by
  have HE := hide he
  clear he
  by_cases h8 : l.length = 8
  · have hne : ((l.length : Int) != 8) = false := by simp; omega
    have HY := hide (day_eq l h8)
    have l0 := len_ext l 0 4 (by omega) (by omega)
    have l1 := len_ext l 4 6 (by omega) (by omega)
    have l2 := len_ext l 6 8 (by omega) (by omega)
    have C0 := hide (fun X hE => numberWithin_any (l.extract 0 4) 1800 9999 X (by omega) hE)
    have C1 := hide (fun X hE => numberWithin_any (l.extract 4 6) 1 12 X (by omega) hE)
    have C2 := hide (fun n X hE => numberWithin_any (l.extract 6 8) 1 n X (by omega) hE)
    clear l0 l1 l2
    have hY : withinN (l.extract 0 4) 1800 9999 ≤ 100000 := by
      unfold withinN withinB
      split
      · rename_i h
        simp only [Bool.and_eq_true, decide_eq_true_eq] at h
        omega
      · omega
    have HYY := hide hY
    clear hY
    generalize withinN (l.extract 0 4) 1800 9999 = Y at *
    generalize withinB (l.extract 0 4) 1800 9999 = yb at *
    generalize withinN (l.extract 4 6) 1 12 = M at *
    generalize withinB (l.extract 4 6) 1 12 = mb at *
    go_enter Tryd.func9, Tryd.ntmps9
    go_wp2_with fail
    rw [ext_of]
    refine (C0.out _ HE.out).mono ?_
    rintro e w1 ⟨rfl, hb1⟩
    have HB1 := hide hb1
    have HE1 := hide (HE.out.below hb1 HE.out.1)
    clear hb1
    go_wp2_with fail
    rw [ext_of]
    refine (C1.out _ HE1.out).mono ?_
    rintro e w2 ⟨rfl, hb2⟩
    have HB2 := hide (HB1.out.trans (hb2.mono HB1.out.size))
    have HE2 := hide (HE1.out.below hb2 HE1.out.1)
    clear hb2
    go_wp2_with fail
    go_region_with (first | (go_at_call 27; refine (daysOf_any Y M _ HYY.out).mono ?_; rintro e w3 ⟨rfl, rfl⟩) | (go_at_call 26; rw [ext_of]; refine (C2.out (daysN Y M) _ ?_).mono ?_; exact HE2.out; rintro e w4 ⟨rfl, hb4⟩))
    all_goals
      have HB4 := hide (HB2.out.trans ((below_drew hb4).mono HB2.out.size))
      clear hb4
      generalize withinB (l.extract 6 8) 1 (daysN Y M) = db at *
      generalize withinN (l.extract 6 8) 1 (daysN Y M) = D at *
      clear C0 C1 C2
      cases yb
      · have HN := hide (show dayB l = false by rw [← HY.out]; rfl)
        clear HY
        go_wp2
        go_ret
        exact ⟨ret_bool HN.out.symm, HB4.out⟩
      · cases mb
        · have HN := hide (show dayB l = false by rw [← HY.out]; rfl)
          clear HY
          go_wp2
          go_ret
          exact ⟨ret_bool HN.out.symm, HB4.out⟩
        · have HN := hide (show dayB l = db by rw [← HY.out]; rfl)
          clear HY
          go_wp2
          go_ret
          exact ⟨ret_bool HN.out.symm, HB4.out⟩
  · have hne : ((l.length : Int) != 8) = true := by simp; omega
    have HN := hide (show dayB l = false by simp [dayB, h8])
    go_enter Tryd.func9, Tryd.ntmps9
    go_wp2
    go_ret
    exact ⟨ret_bool HN.out.symm, Below.refl _ _⟩
end Go.Proofs.YthlonjfjlkoojaaDoor
