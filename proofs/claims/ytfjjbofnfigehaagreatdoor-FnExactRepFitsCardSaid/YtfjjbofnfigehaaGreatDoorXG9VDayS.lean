/- A day: of the model. -/
import Derived.Test.YtfjjbofnfigehaaGreatDoorXG8VDig
import Derived.Test.YtfjjbofnfigehaaGreatDoorXG7VVer
namespace Go.Proofs.YtfjjbofnfigehaaGreatDoor
open Go.RowKit
theorem ext_of (l : List UInt8) (a b : Nat) : (⟨l.toArray⟩ : ByteArray).extract a b = ⟨(l.extract a b).toArray⟩ := by
  apply ByteArray.ext
  apply Array.ext'
  simp [ByteArray.data_extract]
theorem digL_ext (l : List UInt8) (a b : Nat) (h : digL l = true) : digL (l.extract a b) = true := by
  unfold digL at h ⊢
  rw [List.all_eq_true] at h ⊢
  intro x hx
  rw [List.extract_eq_take_drop] at hx
  exact h x (List.mem_of_mem_drop (List.mem_of_mem_take hx))
theorem len_ext (l : List UInt8) (a b : Nat) (h : b ≤ l.length) (hab : a ≤ b) : (l.extract a b).length = b - a := by
  rw [List.extract_eq_take_drop, List.length_take, List.length_drop]
  omega
theorem numL_ext (l : List UInt8) (a b k : Nat) (h : b ≤ l.length) (hab : a ≤ b) (hk : b - a = k) (hd : digL l = true) : numL (l.extract a b) < 10 ^ k := by
  have := numL_lt _ (digL_ext l a b hd)
  rwa [len_ext l a b h hab, hk] at this
/-- Is it a day? -/
def dayB (l : List UInt8) : Bool :=
  decide (l.length = 8) && (digL l && (decide (1800 ≤ numL (l.extract 0 4)) && ((decide (1 ≤ numL (l.extract 4 6)) && decide (numL (l.extract 4 6) ≤ 12)) && (decide (1 ≤ numL (l.extract 6 8)) && decide (numL (l.extract 6 8) ≤ daysN (numL (l.extract 0 4)) (numL (l.extract 4 6)))))))
theorem isN (D n : Nat) (N : Int) (h : N = (n : Int)) : (decide ((1 : Int) ≤ (D : Int)) && decide ((D : Int) ≤ N)) = (decide (1 ≤ D) && decide (D ≤ n)) := by
  subst h
  congr 1
  · exact decide_eq_decide.2 (by omega)
  · exact decide_eq_decide.2 (by omega)
theorem month_parts (m : Nat) (h1 : 1 ≤ m) (h2 : m ≤ 12) : m = 1 ∨ m = 2 ∨ m = 3 ∨ m = 4 ∨ m = 5 ∨ m = 6 ∨ m = 7 ∨ m = 8 ∨ m = 9 ∨ m = 10 ∨ m = 11 ∨ m = 12 := by omega
set_option maxHeartbeats 4000000 in
set_option maxRecDepth 100000 in
theorem specDayRight_any (l : List UInt8) (w : World) (hl : l.length ≤ maxLen) :
    Calls Tryz.prog 39 #[.string ⟨l.toArray⟩] w fun e w' => e = .returned (.bool (dayB l)) ∧ Below w.heap.size w w' := by
  have hl' := hide hl
  unfold maxLen at hl
  obtain ⟨R, hR⟩ : ∃ R, R = dayB l := ⟨_, rfl⟩
  rw [← hR]
  have HR := hide hR
  clear hR
  by_cases h8 : l.length = 8
  · have hne : ((l.length : Int) != 8) = false := by simp; omega
    go_enter Tryz.func39, Tryz.ntmps39
    go_wp2_with fail
    refine (l06Digits_any l _ hl'.out).mono ?_
    rintro e w1 ⟨rfl, rfl⟩
    cases hd : digL l
    · have HN := hide (show R = false by rw [HR.out]; simp [dayB, hd])
      go_wp2
      go_ret
      exact ⟨ret_bool HN.out.symm, Below.refl _ _⟩
    · have b0 := numL_ext l 0 4 4 (by omega) (by omega) rfl hd
      have b1 := numL_ext l 4 6 2 (by omega) (by omega) rfl hd
      have b2 := numL_ext l 6 8 2 (by omega) (by omega) rfl hd
      have HY := hide (show R = (decide (1800 ≤ numL (l.extract 0 4)) && ((decide (1 ≤ numL (l.extract 4 6)) && decide (numL (l.extract 4 6) ≤ 12)) && (decide (1 ≤ numL (l.extract 6 8)) && decide (numL (l.extract 6 8) ≤ daysN (numL (l.extract 0 4)) (numL (l.extract 4 6)))))) by rw [HR.out]; simp [dayB, hd, h8])
      have HD := hide hd
      have H0 := hide (len_ext l 0 4 (by omega) (by omega))
      have H1 := hide (len_ext l 4 6 (by omega) (by omega))
      have H2 := hide (len_ext l 6 8 (by omega) (by omega))
      have C0 := hide (fun X => l06Num_any (l.extract 0 4) X (by rw [H0.out]; decide) (digL_ext l 0 4 HD.out))
      have C1 := hide (fun X => l06Num_any (l.extract 4 6) X (by rw [H1.out]; decide) (digL_ext l 4 6 HD.out))
      have C2 := hide (fun X => l06Num_any (l.extract 6 8) X (by rw [H2.out]; decide) (digL_ext l 6 8 HD.out))
      generalize numL (l.extract 0 4) = Y at *
      generalize numL (l.extract 4 6) = M at *
      generalize numL (l.extract 6 8) = D at *
      clear hd
      go_wp2_with fail
      rw [ext_of]
      refine (C0.out _).mono ?_
      rintro e w1 ⟨rfl, rfl⟩
      go_wp2_with fail
      rw [ext_of]
      refine (C1.out _).mono ?_
      rintro e w1 ⟨rfl, rfl⟩
      go_wp2_with fail
      rw [ext_of]
      refine (C2.out _).mono ?_
      rintro e w1 ⟨rfl, rfl⟩
      clear C0 C1 C2
      by_cases h18 : 1800 ≤ Y
      · go_wp2_with fail
        refine (l02Is_v _ _ _ _).mono ?_
        rintro e w1 ⟨rfl, rfl⟩
        by_cases hm1 : 1 ≤ M
        · by_cases hm2 : M ≤ 12
          · rw [show (decide ((1 : Int) ≤ (M : Int)) && decide ((M : Int) ≤ 12)) = true by simp; omega]
            rcases month_parts M hm1 hm2 with rfl | rfl | rfl | rfl | rfl | rfl | rfl | rfl | rfl | rfl | rfl | rfl
            · have HN := hide (show R = (decide ((1 : Int) ≤ (D : Int)) && decide ((D : Int) ≤ 31)) by rw [HY.out, show daysN Y 1 = 31 from rfl, isN D 31 31 rfl]; simp [h18])
              clear HY
              go_wp2_with fail
              refine (l02Is_v _ _ _ _).mono ?_
              rintro e w1 ⟨rfl, rfl⟩
              go_wp2
              go_ret
              exact ⟨ret_bool HN.out.symm, (Below.refl _ _).alloc (Nat.le_refl _) _⟩
            · have hdy : daysN Y 2 = if leapB Y then 29 else 28 := rfl
              rcases leap_parts Y with ⟨h1, h2⟩ | ⟨h1, h2, h3⟩ | ⟨h1, h2, h3, h4⟩ | ⟨h1, h2, h3, h4⟩
              · rw [h2] at hdy
                have HN := hide (show R = (decide ((1 : Int) ≤ (D : Int)) && decide ((D : Int) ≤ 28)) by rw [HY.out, hdy, isN D 28 28 rfl]; simp [h18])
                have g1 : ((Y : Int) % 4 == 0) = false := by simp; omega
                clear HY hdy h2
                go_wp2_with fail
                refine (l02Is_v _ _ _ _).mono ?_
                rintro e w1 ⟨rfl, rfl⟩
                go_wp2
                go_ret
                exact ⟨ret_bool HN.out.symm, (Below.refl _ _).alloc (Nat.le_refl _) _⟩
              · rw [h3] at hdy
                have HN := hide (show R = (decide ((1 : Int) ≤ (D : Int)) && decide ((D : Int) ≤ 29)) by rw [HY.out, hdy, isN D 29 29 rfl]; simp [h18])
                have g1 : ((Y : Int) % 4 == 0) = true := by simp; omega
                have g2 : ((Y : Int) % 100 != 0) = true := by simp; omega
                clear HY hdy h3
                go_wp2_with fail
                refine (l02Is_v _ _ _ _).mono ?_
                rintro e w1 ⟨rfl, rfl⟩
                go_wp2
                go_ret
                exact ⟨ret_bool HN.out.symm, (Below.refl _ _).alloc (Nat.le_refl _) _⟩
              · rw [h4] at hdy
                have HN := hide (show R = (decide ((1 : Int) ≤ (D : Int)) && decide ((D : Int) ≤ 29)) by rw [HY.out, hdy, isN D 29 29 rfl]; simp [h18])
                have g1 : ((Y : Int) % 4 == 0) = true := by simp; omega
                have g2 : ((Y : Int) % 100 != 0) = false := by simp; omega
                have g3 : ((Y : Int) % 400 == 0) = true := by simp; omega
                clear HY hdy h4
                go_wp2_with fail
                refine (l02Is_v _ _ _ _).mono ?_
                rintro e w1 ⟨rfl, rfl⟩
                go_wp2
                go_ret
                exact ⟨ret_bool HN.out.symm, (Below.refl _ _).alloc (Nat.le_refl _) _⟩
              · rw [h4] at hdy
                have HN := hide (show R = (decide ((1 : Int) ≤ (D : Int)) && decide ((D : Int) ≤ 28)) by rw [HY.out, hdy, isN D 28 28 rfl]; simp [h18])
                have g1 : ((Y : Int) % 4 == 0) = true := by simp; omega
                have g2 : ((Y : Int) % 100 != 0) = false := by simp; omega
                have g3 : ((Y : Int) % 400 == 0) = false := by simp; omega
                clear HY hdy h4
                go_wp2_with fail
                refine (l02Is_v _ _ _ _).mono ?_
                rintro e w1 ⟨rfl, rfl⟩
                go_wp2
                go_ret
                exact ⟨ret_bool HN.out.symm, (Below.refl _ _).alloc (Nat.le_refl _) _⟩
            · have HN := hide (show R = (decide ((1 : Int) ≤ (D : Int)) && decide ((D : Int) ≤ 31)) by rw [HY.out, show daysN Y 3 = 31 from rfl, isN D 31 31 rfl]; simp [h18])
              clear HY
              go_wp2_with fail
              refine (l02Is_v _ _ _ _).mono ?_
              rintro e w1 ⟨rfl, rfl⟩
              go_wp2
              go_ret
              exact ⟨ret_bool HN.out.symm, (Below.refl _ _).alloc (Nat.le_refl _) _⟩
            · have HN := hide (show R = (decide ((1 : Int) ≤ (D : Int)) && decide ((D : Int) ≤ 30)) by rw [HY.out, show daysN Y 4 = 30 from rfl, isN D 30 30 rfl]; simp [h18])
              clear HY
              go_wp2_with fail
              refine (l02Is_v _ _ _ _).mono ?_
              rintro e w1 ⟨rfl, rfl⟩
              go_wp2
              go_ret
              exact ⟨ret_bool HN.out.symm, (Below.refl _ _).alloc (Nat.le_refl _) _⟩
            · have HN := hide (show R = (decide ((1 : Int) ≤ (D : Int)) && decide ((D : Int) ≤ 31)) by rw [HY.out, show daysN Y 5 = 31 from rfl, isN D 31 31 rfl]; simp [h18])
              clear HY
              go_wp2_with fail
              refine (l02Is_v _ _ _ _).mono ?_
              rintro e w1 ⟨rfl, rfl⟩
              go_wp2
              go_ret
              exact ⟨ret_bool HN.out.symm, (Below.refl _ _).alloc (Nat.le_refl _) _⟩
            · have HN := hide (show R = (decide ((1 : Int) ≤ (D : Int)) && decide ((D : Int) ≤ 30)) by rw [HY.out, show daysN Y 6 = 30 from rfl, isN D 30 30 rfl]; simp [h18])
              clear HY
              go_wp2_with fail
              refine (l02Is_v _ _ _ _).mono ?_
              rintro e w1 ⟨rfl, rfl⟩
              go_wp2
              go_ret
              exact ⟨ret_bool HN.out.symm, (Below.refl _ _).alloc (Nat.le_refl _) _⟩
            · have HN := hide (show R = (decide ((1 : Int) ≤ (D : Int)) && decide ((D : Int) ≤ 31)) by rw [HY.out, show daysN Y 7 = 31 from rfl, isN D 31 31 rfl]; simp [h18])
              clear HY
              go_wp2_with fail
              refine (l02Is_v _ _ _ _).mono ?_
              rintro e w1 ⟨rfl, rfl⟩
              go_wp2
              go_ret
              exact ⟨ret_bool HN.out.symm, (Below.refl _ _).alloc (Nat.le_refl _) _⟩
            · have HN := hide (show R = (decide ((1 : Int) ≤ (D : Int)) && decide ((D : Int) ≤ 31)) by rw [HY.out, show daysN Y 8 = 31 from rfl, isN D 31 31 rfl]; simp [h18])
              clear HY
              go_wp2_with fail
              refine (l02Is_v _ _ _ _).mono ?_
              rintro e w1 ⟨rfl, rfl⟩
              go_wp2
              go_ret
              exact ⟨ret_bool HN.out.symm, (Below.refl _ _).alloc (Nat.le_refl _) _⟩
            · have HN := hide (show R = (decide ((1 : Int) ≤ (D : Int)) && decide ((D : Int) ≤ 30)) by rw [HY.out, show daysN Y 9 = 30 from rfl, isN D 30 30 rfl]; simp [h18])
              clear HY
              go_wp2_with fail
              refine (l02Is_v _ _ _ _).mono ?_
              rintro e w1 ⟨rfl, rfl⟩
              go_wp2
              go_ret
              exact ⟨ret_bool HN.out.symm, (Below.refl _ _).alloc (Nat.le_refl _) _⟩
            · have HN := hide (show R = (decide ((1 : Int) ≤ (D : Int)) && decide ((D : Int) ≤ 31)) by rw [HY.out, show daysN Y 10 = 31 from rfl, isN D 31 31 rfl]; simp [h18])
              clear HY
              go_wp2_with fail
              refine (l02Is_v _ _ _ _).mono ?_
              rintro e w1 ⟨rfl, rfl⟩
              go_wp2
              go_ret
              exact ⟨ret_bool HN.out.symm, (Below.refl _ _).alloc (Nat.le_refl _) _⟩
            · have HN := hide (show R = (decide ((1 : Int) ≤ (D : Int)) && decide ((D : Int) ≤ 30)) by rw [HY.out, show daysN Y 11 = 30 from rfl, isN D 30 30 rfl]; simp [h18])
              clear HY
              go_wp2_with fail
              refine (l02Is_v _ _ _ _).mono ?_
              rintro e w1 ⟨rfl, rfl⟩
              go_wp2
              go_ret
              exact ⟨ret_bool HN.out.symm, (Below.refl _ _).alloc (Nat.le_refl _) _⟩
            · have HN := hide (show R = (decide ((1 : Int) ≤ (D : Int)) && decide ((D : Int) ≤ 31)) by rw [HY.out, show daysN Y 12 = 31 from rfl, isN D 31 31 rfl]; simp [h18])
              clear HY
              go_wp2_with fail
              refine (l02Is_v _ _ _ _).mono ?_
              rintro e w1 ⟨rfl, rfl⟩
              go_wp2
              go_ret
              exact ⟨ret_bool HN.out.symm, (Below.refl _ _).alloc (Nat.le_refl _) _⟩
          · have HN := hide (show R = false by rw [HY.out]; simp; omega)
            rw [show (decide ((1 : Int) ≤ (M : Int)) && decide ((M : Int) ≤ 12)) = false by simp; omega]
            go_wp2
            go_ret
            exact ⟨ret_bool HN.out.symm, Below.refl _ _⟩
        · have HN := hide (show R = false by rw [HY.out]; simp; omega)
          rw [show (decide ((1 : Int) ≤ (M : Int)) && decide ((M : Int) ≤ 12)) = false by simp; omega]
          go_wp2
          go_ret
          exact ⟨ret_bool HN.out.symm, Below.refl _ _⟩
      · have HN := hide (show R = false by rw [HY.out]; simp [h18])
        go_wp2
        go_ret
        exact ⟨ret_bool HN.out.symm, Below.refl _ _⟩
  · have hne : ((l.length : Int) != 8) = true := by simp; omega
    have HN := hide (show R = false by rw [HR.out]; simp [dayB, h8])
    go_enter Tryz.func39, Tryz.ntmps39
    go_wp2
    go_ret
    exact ⟨ret_bool HN.out.symm, Below.refl _ _⟩
end Go.Proofs.YtfjjbofnfigehaaGreatDoor
/- A day: of the program. -/
namespace Go.Proofs.YtfjjbofnfigehaaGreatDoor
open Go.RowKit
theorem list8 {l : List UInt8} (h : l.length = 8) : ∃ b0 b1 b2 b3 b4 b5 b6 b7, l = [b0, b1, b2, b3, b4, b5, b6, b7] := by
  match l, h with
  | [b0, b1, b2, b3, b4, b5, b6, b7], _ => exact ⟨b0, b1, b2, b3, b4, b5, b6, b7, rfl⟩
theorem digL_split (l : List UInt8) (h : l.length = 8) : digL l = (digL (l.extract 0 4) && (digL (l.extract 4 6) && digL (l.extract 6 8))) := by
  obtain ⟨b0, b1, b2, b3, b4, b5, b6, b7, rfl⟩ := list8 h
  simp [digL, Bool.and_assoc]
theorem allD_of (l : List UInt8) (h : 0 < l.length) : allD l = digL l := by
  cases l with
  | nil => simp at h
  | cons b r => rfl
theorem day_eq (l : List UInt8) (h : l.length = 8) : (withinB (l.extract 0 4) 1800 9999 && (withinB (l.extract 4 6) 1 12 && withinB (l.extract 6 8) 1 (daysN (withinN (l.extract 0 4) 1800 9999) (withinN (l.extract 4 6) 1 12)))) = dayB l := by
  have l0 := len_ext l 0 4 (by omega) (by omega)
  have l1 := len_ext l 4 6 (by omega) (by omega)
  have l2 := len_ext l 6 8 (by omega) (by omega)
  have a0 := allD_of (l.extract 0 4) (by omega)
  have a1 := allD_of (l.extract 4 6) (by omega)
  have a2 := allD_of (l.extract 6 8) (by omega)
  unfold dayB
  rw [digL_split l h]
  have n0 : digL (l.extract 0 4) = true → numL (l.extract 0 4) < 10 ^ 4 := fun hd => by have := numL_lt _ hd; rwa [l0] at this
  generalize l.extract 0 4 = y at *
  generalize l.extract 4 6 = m at *
  generalize l.extract 6 8 = d at *
  simp only [h, withinN, withinB, a0, a1, a2]
  cases h0 : digL y
  · simp
  · cases h1 : digL m
    · simp
    · cases h2 : digL d
      · simp
      · have hn := n0 h0
        by_cases k0 : 1800 ≤ numL y
        · have k1 : numL y ≤ 9999 := by omega
          by_cases k2 : 1 ≤ numL m
          · by_cases k3 : numL m ≤ 12
            · simp [k0, k1, k2, k3]
            · simp [k3]
          · simp [k2]
        · simp [k0]
set_option maxHeartbeats 4000000 in
set_option maxRecDepth 100000 in
theorem implDayRight_any (l : List UInt8) (w : World) (he : ErrsV w) :
    Calls Tryz.prog 74 #[.string ⟨l.toArray⟩] w fun e w' => e = .returned (.bool (dayB l)) ∧ Below w.heap.size w w' := by
  have HE := hide he
  clear he
  by_cases h8 : l.length = 8
  · have hne : ((l.length : Int) != 8) = false := by simp; omega
    have HY := hide (day_eq l h8)
    have l0 := len_ext l 0 4 (by omega) (by omega)
    have l1 := len_ext l 4 6 (by omega) (by omega)
    have l2 := len_ext l 6 8 (by omega) (by omega)
    have C0 := hide (fun X hE => numberWithin_any (l.extract 0 4) 1800 9999 X (by omega) hE)
    have C1 := hide (fun X hE => numberWithin_any (l.extract 4 6) 1 12 X (by omega) hE)
    have C2 := hide (fun n X hE => numberWithin_any (l.extract 6 8) 1 n X (by omega) hE)
    clear l0 l1 l2
    have hY : withinN (l.extract 0 4) 1800 9999 ≤ 100000 := by
      unfold withinN withinB
      split
      · rename_i h
        simp only [Bool.and_eq_true, decide_eq_true_eq] at h
        omega
      · omega
    have HYY := hide hY
    clear hY
    generalize withinN (l.extract 0 4) 1800 9999 = Y at *
    generalize withinB (l.extract 0 4) 1800 9999 = yb at *
    generalize withinN (l.extract 4 6) 1 12 = M at *
    generalize withinB (l.extract 4 6) 1 12 = mb at *
    go_enter Tryz.func74, Tryz.ntmps74
    go_wp2_with fail
    rw [ext_of]
    refine (C0.out _ HE.out).mono ?_
    rintro e w1 ⟨rfl, hb1⟩
    have HB1 := hide hb1
    have HE1 := hide (HE.out.below hb1 HE.out.1)
    clear hb1
    go_wp2_with fail
    rw [ext_of]
    refine (C1.out _ HE1.out).mono ?_
    rintro e w2 ⟨rfl, hb2⟩
    have HB2 := hide (HB1.out.trans (hb2.mono HB1.out.size))
    have HE2 := hide (HE1.out.below hb2 HE1.out.1)
    clear hb2
    go_wp2_with fail
    go_region_with (first | (go_at_call 89; refine (daysOf_any Y M _ HYY.out).mono ?_; rintro e w3 ⟨rfl, rfl⟩) | (go_at_call 88; rw [ext_of]; refine (C2.out (daysN Y M) _ ?_).mono ?_; exact HE2.out; rintro e w4 ⟨rfl, hb4⟩))
    all_goals
      have HB4 := hide (HB2.out.trans ((below_drew hb4).mono HB2.out.size))
      clear hb4
      generalize withinB (l.extract 6 8) 1 (daysN Y M) = db at *
      generalize withinN (l.extract 6 8) 1 (daysN Y M) = D at *
      clear C0 C1 C2
      cases yb
      · have HN := hide (show dayB l = false by rw [← HY.out]; rfl)
        clear HY
        go_wp2
        go_ret
        exact ⟨ret_bool HN.out.symm, HB4.out⟩
      · cases mb
        · have HN := hide (show dayB l = false by rw [← HY.out]; rfl)
          clear HY
          go_wp2
          go_ret
          exact ⟨ret_bool HN.out.symm, HB4.out⟩
        · have HN := hide (show dayB l = db by rw [← HY.out]; rfl)
          clear HY
          go_wp2
          go_ret
          exact ⟨ret_bool HN.out.symm, HB4.out⟩
  · have hne : ((l.length : Int) != 8) = true := by simp; omega
    have HN := hide (show dayB l = false by simp [dayB, h8])
    go_enter Tryz.func74, Tryz.ntmps74
    go_wp2
    go_ret
    exact ⟨ret_bool HN.out.symm, Below.refl _ _⟩
end Go.Proofs.YtfjjbofnfigehaaGreatDoor
