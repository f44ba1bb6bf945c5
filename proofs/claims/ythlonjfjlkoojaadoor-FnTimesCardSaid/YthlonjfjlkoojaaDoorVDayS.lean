/- A day: of the model. -/
import Derived.Test.YthlonjfjlkoojaaDoorVDay
import Derived.Test.YthlonjfjlkoojaaDoorVVer
namespace Go.Proofs.YthlonjfjlkoojaaDoor
open Go.RowKit
theorem ext_of (l : List UInt8) (a b : Nat) : (⟨l.toArray⟩ : ByteArray).extract a b = ⟨(l.extract a b).toArray⟩ := by
  apply ByteArray.ext
  apply Array.ext'
  simp [ByteArray.data_extract]
theorem digL_ext (l : List UInt8) (a b : Nat) (h : digL l = true) : digL (l.extract a b) = true := by
  unfold digL at h ⊢
  rw [List.all_eq_true] at h ⊢
  intro x hx
  rw [List.extract_eq_take_drop] at hx
  exact h x (List.mem_of_mem_drop (List.mem_of_mem_take hx))
theorem len_ext (l : List UInt8) (a b : Nat) (h : b ≤ l.length) (hab : a ≤ b) : (l.extract a b).length = b - a := by
  rw [List.extract_eq_take_drop, List.length_take, List.length_drop]
  omega
theorem numL_ext (l : List UInt8) (a b k : Nat) (h : b ≤ l.length) (hab : a ≤ b) (hk : b - a = k) (hd : digL l = true) : numL (l.extract a b) < 10 ^ k := by
  have := numL_lt _ (digL_ext l a b hd)
  rwa [len_ext l a b h hab, hk] at this
/-- Is it a day? -/
def dayB (l : List UInt8) : Bool :=
  decide (l.length = 8) && (digL l && (decide (1800 ≤ numL (l.extract 0 4)) && ((decide (1 ≤ numL (l.extract 4 6)) && decide (numL (l.extract 4 6) ≤ 12)) && (decide (1 ≤ numL (l.extract 6 8)) && decide (numL (l.extract 6 8) ≤ daysN (numL (l.extract 0 4)) (numL (l.extract 4 6)))))))
theorem isN (D n : Nat) (N : Int) (h : N = (n : Int)) : (decide ((1 : Int) ≤ (D : Int)) && decide ((D : Int) ≤ N)) = (decide (1 ≤ D) && decide (D ≤ n)) := by
  subst h
  congr 1
  · exact decide_eq_decide.2 (by omega)
  · exact decide_eq_decide.2 (by omega)
theorem month_parts (m : Nat) (h1 : 1 ≤ m) (h2 : m ≤ 12) : m = 1 ∨ m = 2 ∨ m = 3 ∨ m = 4 ∨ m = 5 ∨ m = 6 ∨ m = 7 ∨ m = 8 ∨ m = 9 ∨ m = 10 ∨ m = 11 ∨ m = 12 := by omega
set_option maxHeartbeats 4000000 in
set_option maxRecDepth 100000 in
theorem specDayRight_any (l : List UInt8) (w : World) (hl : l.length ≤ maxLen) :
    Calls Tryd.prog 10 #[.string ⟨l.toArray⟩] w fun e w' => e = .returned (.bool (dayB l)) ∧ Below w.heap.size w w' := by
  have hl' := hide hl
  unfold maxLen at hl
  obtain ⟨R, hR⟩ : ∃ R, R = dayB l := ⟨_, rfl⟩
  rw [← hR]
  have HR := hide hR
  clear hR
  by_cases h8 : l.length = 8
  · have hne : ((l.length : Int) != 8) = false := by simp; omega
    go_enter Tryd.func10, Tryd.ntmps10
    go_wp2_with fail
    refine (l06Digits_any l _ hl'.out).mono ?_
    rintro e w1 ⟨rfl, rfl⟩
    cases hd : digL l
    · have HN := hide (show R = false by rw [HR.out]; simp [dayB, hd])
      go_wp2
      go_ret
      exact ⟨ret_bool HN.out.symm, Below.refl _ _⟩
    · have b0 := numL_ext l 0 4 4 (by omega) (by omega) rfl hd
      have b1 := numL_ext l 4 6 2 (by omega) (by omega) rfl hd
      have b2 := numL_ext l 6 8 2 (by omega) (by omega) rfl hd
      have HY := hide (show R = (decide (1800 ≤ numL (l.extract 0 4)) && ((decide (1 ≤ numL (l.extract 4 6)) && decide (numL (l.extract 4 6) ≤ 12)) && (decide (1 ≤ numL (l.extract 6 8)) && decide (numL (l.extract 6 8) ≤ daysN (numL (l.extract 0 4)) (numL (l.extract 4 6)))))) by rw [HR.out]; simp [dayB, hd, h8])
      have HD := hide hd
      have H0 := hide (len_ext l 0 4 (by omega) (by omega))
      have H1 := hide (len_ext l 4 6 (by omega) (by omega))
      have H2 := hide (len_ext l 6 8 (by omega) (by omega))
      have C0 := hide (fun X => l06Num_any (l.extract 0 4) X (by rw [H0.out]; decide) (digL_ext l 0 4 HD.out))
      have C1 := hide (fun X => l06Num_any (l.extract 4 6) X (by rw [H1.out]; decide) (digL_ext l 4 6 HD.out))
      have C2 := hide (fun X => l06Num_any (l.extract 6 8) X (by rw [H2.out]; decide) (digL_ext l 6 8 HD.out))
      generalize numL (l.extract 0 4) = Y at *
      generalize numL (l.extract 4 6) = M at *
      generalize numL (l.extract 6 8) = D at *
      clear hd
      go_wp2_with fail
      rw [ext_of]
      refine (C0.out _).mono ?_
      rintro e w1 ⟨rfl, rfl⟩
      go_wp2_with fail
      rw [ext_of]
      refine (C1.out _).mono ?_
      rintro e w1 ⟨rfl, rfl⟩
      go_wp2_with fail
      rw [ext_of]
      refine (C2.out _).mono ?_
      rintro e w1 ⟨rfl, rfl⟩
      clear C0 C1 C2
      by_cases h18 : 1800 ≤ Y
      · go_wp2_with fail
        refine (l02Is_v _ _ _ _).mono ?_
        rintro e w1 ⟨rfl, rfl⟩
        by_cases hm1 : 1 ≤ M
        · by_cases hm2 : M ≤ 12
          · rw [show (decide ((1 : Int) ≤ (M : Int)) && decide ((M : Int) ≤ 12)) = true by simp; omega]
            rcases month_parts M hm1 hm2 with rfl | rfl | rfl | rfl | rfl | rfl | rfl | rfl | rfl | rfl | rfl | rfl
            · have HN := hide (show R = (decide ((1 : Int) ≤ (D : Int)) && decide ((D : Int) ≤ 31)) by rw [HY.out, show daysN Y 1 = 31 from rfl, isN D 31 31 rfl]; simp [h18])
              clear HY
              go_wp2_with fail
              refine (l02Is_v _ _ _ _).mono ?_
              rintro e w1 ⟨rfl, rfl⟩
              go_wp2
              go_ret
              exact ⟨ret_bool HN.out.symm, (Below.refl _ _).alloc (Nat.le_refl _) _⟩
            · have hdy : daysN Y 2 = if leapB Y then 29 else 28 := rfl
              rcases leap_parts Y with ⟨h1, h2⟩ | ⟨h1, h2, h3⟩ | ⟨h1, h2, h3, h4⟩ | ⟨h1, h2, h3, h4⟩
              · rw [h2] at hdy
                have HN := hide (show R = (decide ((1 : Int) ≤ (D : Int)) && decide ((D : Int) ≤ 28)) by rw [HY.out, hdy, isN D 28 28 rfl]; simp [h18])
                have g1 : ((Y : Int) % 4 == 0) = false := by simp; omega
                clear HY hdy h2
                go_wp2_with fail
                refine (l02Is_v _ _ _ _).mono ?_
                rintro e w1 ⟨rfl, rfl⟩
                go_wp2
                go_ret
                exact ⟨ret_bool HN.out.symm, (Below.refl _ _).alloc (Nat.le_refl _) _⟩
              · rw [h3] at hdy
                have HN := hide (show R = (decide ((1 : Int) ≤ (D : Int)) && decide ((D : Int) ≤ 29)) by rw [HY.out, hdy, isN D 29 29 rfl]; simp [h18])
                have g1 : ((Y : Int) % 4 == 0) = true := by simp; omega
                have g2 : ((Y : Int) % 100 != 0) = true := by simp; omega
                clear HY hdy h3
                go_wp2_with fail
                refine (l02Is_v _ _ _ _).mono ?_
                rintro e w1 ⟨rfl, rfl⟩
                go_wp2
                go_ret
                exact ⟨ret_bool HN.out.symm, (Below.refl _ _).alloc (Nat.le_refl _) _⟩
              · rw [h4] at hdy
                have HN := hide (show R = (decide ((1 : Int) ≤ (D : Int)) && decide ((D : Int) ≤ 29)) by rw [HY.out, hdy, isN D 29 29 rfl]; simp [h18])
                have g1 : ((Y : Int) % 4 == 0) = true := by simp; omega
                have g2 : ((Y : Int) % 100 != 0) = false := by simp; omega
                have g3 : ((Y : Int) % 400 == 0) = true := by simp; omega
                clear HY hdy h4
                go_wp2_with fail
                refine (l02Is_v _ _ _ _).mono ?_
                rintro e w1 ⟨rfl, rfl⟩
                go_wp2
                go_ret
                exact ⟨ret_bool HN.out.symm, (Below.refl _ _).alloc (Nat.le_refl _) _⟩
              · rw [h4] at hdy
                have HN := hide (show R = (decide ((1 : Int) ≤ (D : Int)) && decide ((D : Int) ≤ 28)) by rw [HY.out, hdy, isN D 28 28 rfl]; simp [h18])
                have g1 : ((Y : Int) % 4 == 0) = true := by simp; omega
                have g2 : ((Y : Int) % 100 != 0) = false := by simp; omega
                have g3 : ((Y : Int) % 400 == 0) = false := by simp; omega
                clear HY hdy h4
                go_wp2_with fail
                refine (l02Is_v _ _ _ _).mono ?_
                rintro e w1 ⟨rfl, rfl⟩
                go_wp2
                go_ret
                exact ⟨ret_bool HN.out.symm, (Below.refl _ _).alloc (Nat.le_refl _) _⟩
            · have HN := hide (show R = (decide ((1 : Int) ≤ (D : Int)) && decide ((D : Int) ≤ 31)) by rw [HY.out, show daysN Y 3 = 31 from rfl, isN D 31 31 rfl]; simp [h18])
              clear HY
              go_wp2_with fail
              refine (l02Is_v _ _ _ _).mono ?_
              rintro e w1 ⟨rfl, rfl⟩
              go_wp2
              go_ret
              exact ⟨ret_bool HN.out.symm, (Below.refl _ _).alloc (Nat.le_refl _) _⟩
            · have HN := hide (show R = (decide ((1 : Int) ≤ (D : Int)) && decide ((D : Int) ≤ 30)) by rw [HY.out, show daysN Y 4 = 30 from rfl, isN D 30 30 rfl]; simp [h18])
              clear HY
              go_wp2_with fail
              refine (l02Is_v _ _ _ _).mono ?_
              rintro e w1 ⟨rfl, rfl⟩
              go_wp2
              go_ret
              exact ⟨ret_bool HN.out.symm, (Below.refl _ _).alloc (Nat.le_refl _) _⟩
            · have HN := hide (show R = (decide ((1 : Int) ≤ (D : Int)) && decide ((D : Int) ≤ 31)) by rw [HY.out, show daysN Y 5 = 31 from rfl, isN D 31 31 rfl]; simp [h18])
              clear HY
              go_wp2_with fail
              refine (l02Is_v _ _ _ _).mono ?_
              rintro e w1 ⟨rfl, rfl⟩
              go_wp2
              go_ret
              exact ⟨ret_bool HN.out.symm, (Below.refl _ _).alloc (Nat.le_refl _) _⟩
            · have HN := hide (show R = (decide ((1 : Int) ≤ (D : Int)) && decide ((D : Int) ≤ 30)) by rw [HY.out, show daysN Y 6 = 30 from rfl, isN D 30 30 rfl]; simp [h18])
              clear HY
              go_wp2_with fail
              refine (l02Is_v _ _ _ _).mono ?_
              rintro e w1 ⟨rfl, rfl⟩
              go_wp2
              go_ret
              exact ⟨ret_bool HN.out.symm, (Below.refl _ _).alloc (Nat.le_refl _) _⟩
            · have HN := hide (show R = (decide ((1 : Int) ≤ (D : Int)) && decide ((D : Int) ≤ 31)) by rw [HY.out, show daysN Y 7 = 31 from rfl, isN D 31 31 rfl]; simp [h18])
              clear HY
              go_wp2_with fail
              refine (l02Is_v _ _ _ _).mono ?_
              rintro e w1 ⟨rfl, rfl⟩
              go_wp2
              go_ret
              exact ⟨ret_bool HN.out.symm, (Below.refl _ _).alloc (Nat.le_refl _) _⟩
            · have HN := hide (show R = (decide ((1 : Int) ≤ (D : Int)) && decide ((D : Int) ≤ 31)) by rw [HY.out, show daysN Y 8 = 31 from rfl, isN D 31 31 rfl]; simp [h18])
              clear HY
              go_wp2_with fail
              refine (l02Is_v _ _ _ _).mono ?_
              rintro e w1 ⟨rfl, rfl⟩
              go_wp2
              go_ret
              exact ⟨ret_bool HN.out.symm, (Below.refl _ _).alloc (Nat.le_refl _) _⟩
            · have HN := hide (show R = (decide ((1 : Int) ≤ (D : Int)) && decide ((D : Int) ≤ 30)) by rw [HY.out, show daysN Y 9 = 30 from rfl, isN D 30 30 rfl]; simp [h18])
              clear HY
              go_wp2_with fail
              refine (l02Is_v _ _ _ _).mono ?_
              rintro e w1 ⟨rfl, rfl⟩
              go_wp2
              go_ret
              exact ⟨ret_bool HN.out.symm, (Below.refl _ _).alloc (Nat.le_refl _) _⟩
            · have HN := hide (show R = (decide ((1 : Int) ≤ (D : Int)) && decide ((D : Int) ≤ 31)) by rw [HY.out, show daysN Y 10 = 31 from rfl, isN D 31 31 rfl]; simp [h18])
              clear HY
              go_wp2_with fail
              refine (l02Is_v _ _ _ _).mono ?_
              rintro e w1 ⟨rfl, rfl⟩
              go_wp2
              go_ret
              exact ⟨ret_bool HN.out.symm, (Below.refl _ _).alloc (Nat.le_refl _) _⟩
            · have HN := hide (show R = (decide ((1 : Int) ≤ (D : Int)) && decide ((D : Int) ≤ 30)) by rw [HY.out, show daysN Y 11 = 30 from rfl, isN D 30 30 rfl]; simp [h18])
              clear HY
              go_wp2_with fail
              refine (l02Is_v _ _ _ _).mono ?_
              rintro e w1 ⟨rfl, rfl⟩
              go_wp2
              go_ret
              exact ⟨ret_bool HN.out.symm, (Below.refl _ _).alloc (Nat.le_refl _) _⟩
            · have HN := hide (show R = (decide ((1 : Int) ≤ (D : Int)) && decide ((D : Int) ≤ 31)) by rw [HY.out, show daysN Y 12 = 31 from rfl, isN D 31 31 rfl]; simp [h18])
              clear HY
              go_wp2_with fail
              refine (l02Is_v _ _ _ _).mono ?_
              rintro e w1 ⟨rfl, rfl⟩
              go_wp2
              go_ret
              exact ⟨ret_bool HN.out.symm, (Below.refl _ _).alloc (Nat.le_refl _) _⟩
          · have HN := hide (show R = false by rw [HY.out]; simp; omega)
            rw [show (decide ((1 : Int) ≤ (M : Int)) && decide ((M : Int) ≤ 12)) = false by simp; omega]
            go_wp2
            go_ret
            exact ⟨ret_bool HN.out.symm, Below.refl _ _⟩
        · have HN := hide (show R = false by rw [HY.out]; simp; omega)
          rw [show (decide ((1 : Int) ≤ (M : Int)) && decide ((M : Int) ≤ 12)) = false by simp; omega]
          go_wp2
          go_ret
          exact ⟨ret_bool HN.out.symm, Below.refl _ _⟩
      · have HN := hide (show R = false by rw [HY.out]; simp [h18])
        go_wp2
        go_ret
        exact ⟨ret_bool HN.out.symm, Below.refl _ _⟩
  · have hne : ((l.length : Int) != 8) = true := by simp; omega
    have HN := hide (show R = false by rw [HR.out]; simp [dayB, h8])
    go_enter Tryd.func10, Tryd.ntmps10
    go_wp2
    go_ret
    exact ⟨ret_bool HN.out.symm, Below.refl _ _⟩
end Go.Proofs.YthlonjfjlkoojaaDoor
