/- A number within limits, a leap year, the days of a month: of the program. -/
import Derived.Test.YtfjjbofnfigehaaGreatDoorXG11ShelfV
import Derived.Lib.SmallJoins
import Derived.Test.YtfjjbofnfigehaaGreatDoorXG2VRules
namespace Go.Proofs.YtfjjbofnfigehaaGreatDoor
open Go.RowKit
/-- The two errors of strconv lie where they were laid. -/
def ErrsV (w : World) : Prop := 2 < w.heap.size ∧ (∃ te pe, w.cell? ⟨1, 0, none⟩ = some (.iface te pe)) ∧ ∃ te pe, w.cell? ⟨2, 0, none⟩ = some (.iface te pe)
theorem ErrsV.below {w w' : World} {B : Nat} (h : ErrsV w) (hb : Below B w w') (hB : 2 < B) : ErrsV w' := by
  obtain ⟨h0, ⟨t1, p1, h1⟩, t2, p2, h2⟩ := h
  exact ⟨Nat.lt_of_lt_of_le h0 hb.size, ⟨t1, p1, by rw [hb.cell (p := ⟨1, 0, none⟩) (by show 1 < B; omega)]; exact h1⟩, t2, p2, by rw [hb.cell (p := ⟨2, 0, none⟩) (by show 2 < B; omega)]; exact h2⟩
theorem parse_of : ∀ (l : List UInt8) (acc : Nat), (acc + 1) * 10 ^ l.length ≤ 1000000000000 → Lib.parseUintM (2 ^ 64 - 1) acc l = if digL l then .ok (l.foldl (fun n b => 10 * n + (b.toNat - 48)) acc) else .syntax
  | [], acc, _ => rfl
  | c :: r, acc, h => by
    rw [List.length_cons, Nat.pow_succ, Nat.mul_comm (10 ^ r.length) 10, ← Nat.mul_assoc] at h
    have hp : 1 ≤ 10 ^ r.length := Nat.one_le_pow _ _ (by decide)
    have h1 : (acc + 1) * 10 ≤ 1000000000000 := Nat.le_trans (Nat.le_mul_of_pos_right _ hp) h
    unfold Lib.parseUintM
    by_cases hc : 48 ≤ c.toNat ∧ c.toNat ≤ 57
    · have hd : digL (c :: r) = digL r := by simp [digL, dgB, hc]
      rw [if_pos hc, if_neg (by omega), if_neg (by simp only [Nat.reducePow, Nat.reduceSub]; omega), parse_of r _ (Nat.le_trans (Nat.mul_le_mul_right _ (by omega)) h), hd, List.foldl_cons, Nat.mul_comm acc 10]
    · have hd : digL (c :: r) = false := by
        have : dgB c = false := by simp [dgB]; omega
        simp [digL, this]
      rw [if_neg hc, hd]
      rfl
theorem parseU_of (l : List UInt8) (hl : l.length ≤ 6) : Lib.parseUintB 64 l = if allD l then .ok (numL l) else .syntax := by
  unfold Lib.parseUintB
  cases l with
  | nil => rfl
  | cons c r =>
    rw [if_neg (by simp)]
    have h := parse_of (c :: r) 0 (by
      have : (10 : Nat) ^ (c :: r).length ≤ 10 ^ 6 := Nat.pow_le_pow_right (by decide) hl
      omega)
    rw [h]
    rfl
/-- Is the number within the limits? -/
def withinB (l : List UInt8) (lo hi : Nat) : Bool := allD l && (decide (lo ≤ numL l) && decide (numL l ≤ hi))
def withinN (l : List UInt8) (lo hi : Nat) : Nat := if withinB l lo hi then numL l else 0
set_option maxHeartbeats 1000000 in
theorem numberWithin_any (l : List UInt8) (lo hi : Nat) (w : World) (hl : l.length ≤ 6) (he : ErrsV w) :
    Calls Tryz.prog 88 #[.string ⟨l.toArray⟩, .int .u64 (lo : Int), .int .u64 (hi : Int)] w fun e w' => e = .returned (.tuple #[.int .u64 (withinN l lo hi : Int), .bool (withinB l lo hi)]) ∧ Below w.heap.size w w' := by
  obtain ⟨_, ⟨t1, p1, h1⟩, t2, p2, h2⟩ := he
  have hsz : (⟨l.toArray⟩ : ByteArray).size = l.length := by simp [ByteArray.size]
  have HL := hide hsz
  clear hsz
  have HP := hide (parseU_of l hl)
  cases ha : allD l
  · rw [ha] at HP
    have HN := hide (show withinB l lo hi = false by simp [withinB, ha])
    have HM := hide (show withinN l lo hi = 0 by rw [withinN, HN.out]; rfl)
    go_enter Tryz.func88, Tryz.ntmps88
    go_wp2_with fail
    refine (Tryz.strconv_ParseUint_10_at64_syntax ⟨l.toArray⟩ (by rw [HL.out]; omega) (by simpa using HP.out) _ w h1 (.inr ⟨_, _, rfl⟩)).mono ?_
    rintro e w1 ⟨B, rfl, _, _, hb⟩
    have HB := hide hb
    clear hb
    go_wp2
    exact bodyPost_ret (v := .tuple #[.int .u64 0, .bool false]) (by simp [results, Tryz.results88, go_sem]) rfl ⟨by rw [HM.out, HN.out]; rfl, HB.out⟩
  · rw [ha] at HP
    have hw : withinB l lo hi = (decide (lo ≤ numL l) && decide (numL l ≤ hi)) := by simp [withinB, ha]
    have hm : withinN l lo hi = if withinB l lo hi then numL l else 0 := rfl
    obtain ⟨M, hM⟩ : ∃ M, M = numL l := ⟨_, rfl⟩
    rw [← hM] at HP hw hm
    have hlt : M < 1000000 := by
      have h1 : numL l < 10 ^ l.length := numL_lt l (by cases l with | nil => rfl | cons b r => simpa [allD] using ha)
      have h2 : (10 : Nat) ^ l.length ≤ 10 ^ 6 := Nat.pow_le_pow_right (by decide) hl
      omega
    clear hM
    by_cases h3 : lo ≤ M
    · by_cases h4 : M ≤ hi
      · have HN := hide (show withinB l lo hi = true by simp [hw, h3, h4])
        have HM := hide (show withinN l lo hi = M by rw [hm, HN.out]; rfl)
        clear hw hm
        go_enter Tryz.func88, Tryz.ntmps88
        go_wp2_with fail
        refine (Tryz.strconv_ParseUint_10_at64_ok ⟨l.toArray⟩ (by rw [HL.out]; omega) M (by simpa using HP.out) w).mono ?_
        rintro e w1 ⟨rfl, hb⟩
        have HB := hide (show Below w.heap.size w w1 by
          rcases hb with rfl | rfl
          · exact Below.refl _ _
          · exact Go.Joins.below_bytesWorld _ w _ _ (Nat.le_refl _))
        clear hb
        go_wp2
        exact bodyPost_ret (v := .tuple #[.int .u64 (M : Int), .bool true]) (by simp [results, Tryz.results88, go_sem]) rfl ⟨by rw [HM.out, HN.out], HB.out⟩
      · have HN := hide (show withinB l lo hi = false by simp [hw, h4])
        have HM := hide (show withinN l lo hi = 0 by rw [hm, HN.out]; rfl)
        clear hw hm
        go_enter Tryz.func88, Tryz.ntmps88
        go_wp2_with fail
        refine (Tryz.strconv_ParseUint_10_at64_ok ⟨l.toArray⟩ (by rw [HL.out]; omega) M (by simpa using HP.out) w).mono ?_
        rintro e w1 ⟨rfl, hb⟩
        have HB := hide (show Below w.heap.size w w1 by
          rcases hb with rfl | rfl
          · exact Below.refl _ _
          · exact Go.Joins.below_bytesWorld _ w _ _ (Nat.le_refl _))
        clear hb
        go_wp2
        exact bodyPost_ret (v := .tuple #[.int .u64 0, .bool false]) (by simp [results, Tryz.results88, go_sem]) rfl ⟨by rw [HM.out, HN.out]; rfl, HB.out⟩
    · have HN := hide (show withinB l lo hi = false by simp [hw, h3])
      have HM := hide (show withinN l lo hi = 0 by rw [hm, HN.out]; rfl)
      clear hw hm
      go_enter Tryz.func88, Tryz.ntmps88
      go_wp2_with fail
      refine (Tryz.strconv_ParseUint_10_at64_ok ⟨l.toArray⟩ (by rw [HL.out]; omega) M (by simpa using HP.out) w).mono ?_
      rintro e w1 ⟨rfl, hb⟩
      have HB := hide (show Below w.heap.size w w1 by
        rcases hb with rfl | rfl
        · exact Below.refl _ _
        · exact Go.Joins.below_bytesWorld _ w _ _ (Nat.le_refl _))
      clear hb
      go_wp2
      exact bodyPost_ret (v := .tuple #[.int .u64 0, .bool false]) (by simp [results, Tryz.results88, go_sem]) rfl ⟨by rw [HM.out, HN.out]; rfl, HB.out⟩

def leapB (y : Nat) : Bool := (y % 4 == 0 && y % 100 != 0) || y % 400 == 0
theorem leap_parts (y : Nat) : (¬ y % 4 = 0 ∧ leapB y = false) ∨ (y % 4 = 0 ∧ ¬ y % 100 = 0 ∧ leapB y = true) ∨ (y % 4 = 0 ∧ y % 100 = 0 ∧ y % 400 = 0 ∧ leapB y = true) ∨ (y % 4 = 0 ∧ y % 100 = 0 ∧ ¬ y % 400 = 0 ∧ leapB y = false) := by
  simp [leapB]
  omega
set_option maxHeartbeats 1000000 in
theorem isLeap_any (y : Nat) (w : World) (hy : y ≤ 100000) :
    Calls Tryz.prog 99 #[.int .u64 (y : Int)] w fun e w' => e = .returned (.bool (leapB y)) ∧ w' = w := by
  rcases leap_parts y with ⟨h1, h2⟩ | ⟨h1, h2, h3⟩ | ⟨h1, h2, h3, h4⟩ | ⟨h1, h2, h3, h4⟩
  · have HN := hide h2
    clear h2
    have g1 : ((y : Int) % 4 == 0) = false := by simp; omega
    have g3 : ((y : Int) % 400 == 0) = false := by simp; omega
    go_enter Tryz.func99, Tryz.ntmps99
    go_wp2
    go_ret
    exact ⟨ret_bool HN.out.symm, rfl⟩
  · have HN := hide h3
    clear h3
    have g1 : ((y : Int) % 4 == 0) = true := by simp; omega
    have g2 : ((y : Int) % 100 != 0) = true := by simp; omega
    go_enter Tryz.func99, Tryz.ntmps99
    go_wp2
    go_ret
    exact ⟨ret_bool HN.out.symm, rfl⟩
  · have HN := hide h4
    clear h4
    have g1 : ((y : Int) % 4 == 0) = true := by simp; omega
    have g2 : ((y : Int) % 100 != 0) = false := by simp; omega
    have g3 : ((y : Int) % 400 == 0) = true := by simp; omega
    go_enter Tryz.func99, Tryz.ntmps99
    go_wp2
    go_ret
    exact ⟨ret_bool HN.out.symm, rfl⟩
  · have HN := hide h4
    clear h4
    have g1 : ((y : Int) % 4 == 0) = true := by simp; omega
    have g2 : ((y : Int) % 100 != 0) = false := by simp; omega
    have g3 : ((y : Int) % 400 == 0) = false := by simp; omega
    go_enter Tryz.func99, Tryz.ntmps99
    go_wp2
    go_ret
    exact ⟨ret_bool HN.out.symm, rfl⟩
def daysN (y m : Nat) : Nat := if m = 2 then (if leapB y then 29 else 28) else if m = 4 ∨ m = 6 ∨ m = 9 ∨ m = 11 then 30 else 31
theorem days_parts (m : Nat) : m = 2 ∨ m = 4 ∨ m = 6 ∨ m = 9 ∨ m = 11 ∨ (¬ m = 2 ∧ ¬ m = 4 ∧ ¬ m = 6 ∧ ¬ m = 9 ∧ ¬ m = 11) := by omega
set_option maxHeartbeats 1000000 in
theorem daysOf_any (y m : Nat) (w : World) (hy : y ≤ 100000) :
    Calls Tryz.prog 89 #[.int .u64 (y : Int), .int .u64 (m : Int)] w fun e w' => e = .returned (.int .u64 (daysN y m : Int)) ∧ w' = w := by
  rcases days_parts m with rfl | rfl | rfl | rfl | rfl | ⟨h1, h2, h3, h4, h5⟩
  · go_enter Tryz.func89, Tryz.ntmps89
    go_wp2_with fail
    refine (isLeap_any y _ hy).mono ?_
    rintro e w1 ⟨rfl, rfl⟩
    have hd : daysN y 2 = if leapB y then 29 else 28 := rfl
    cases hL : leapB y
    · have HN := hide (show daysN y 2 = 28 by rw [hd, hL]; rfl)
      clear hd
      go_wp2
      go_ret
      exact ⟨ret_int (by rw [HN.out]; rfl), rfl⟩
    · have HN := hide (show daysN y 2 = 29 by rw [hd, hL]; rfl)
      clear hd
      go_wp2
      go_ret
      exact ⟨ret_int (by rw [HN.out]; rfl), rfl⟩
  · go_enter Tryz.func89, Tryz.ntmps89
    go_wp2
    go_ret
    exact ⟨rfl, rfl⟩
  · go_enter Tryz.func89, Tryz.ntmps89
    go_wp2
    go_ret
    exact ⟨rfl, rfl⟩
  · go_enter Tryz.func89, Tryz.ntmps89
    go_wp2
    go_ret
    exact ⟨rfl, rfl⟩
  · go_enter Tryz.func89, Tryz.ntmps89
    go_wp2
    go_ret
    exact ⟨rfl, rfl⟩
  · have HN := hide (show daysN y m = 31 by simp [daysN, h1, h2, h3, h4, h5])
    have g1 : ((m : Int) == 2) = false := by simp; omega
    have g2 : ((m : Int) == 4) = false := by simp; omega
    have g3 : ((m : Int) == 6) = false := by simp; omega
    have g4 : ((m : Int) == 9) = false := by simp; omega
    have g5 : ((m : Int) == 11) = false := by simp; omega
    clear h1 h2 h3 h4 h5
    go_enter Tryz.func89, Tryz.ntmps89
    go_wp2
    go_ret
    exact ⟨ret_int (by rw [HN.out]; rfl), rfl⟩
end Go.Proofs.YtfjjbofnfigehaaGreatDoor
/- A day: of the model. -/
namespace Go.Proofs.YtfjjbofnfigehaaGreatDoor
open Go.RowKit
theorem ext_of (l : List UInt8) (a b : Nat) : (⟨l.toArray⟩ : ByteArray).extract a b = ⟨(l.extract a b).toArray⟩ := by
  apply ByteArray.ext
  apply Array.ext'
  simp [ByteArray.data_extract]
theorem digL_ext (l : List UInt8) (a b : Nat) (h : digL l = true) : digL (l.extract a b) = true := by
  unfold digL at h ⊢
  rw [List.all_eq_true] at h ⊢
  intro x hx
  rw [List.extract_eq_take_drop] at hx
  exact h x (List.mem_of_mem_drop (List.mem_of_mem_take hx))
theorem len_ext (l : List UInt8) (a b : Nat) (h : b ≤ l.length) (hab : a ≤ b) : (l.extract a b).length = b - a := by
  rw [List.extract_eq_take_drop, List.length_take, List.length_drop]
  omega
theorem numL_ext (l : List UInt8) (a b k : Nat) (h : b ≤ l.length) (hab : a ≤ b) (hk : b - a = k) (hd : digL l = true) : numL (l.extract a b) < 10 ^ k := by
  have := numL_lt _ (digL_ext l a b hd)
  rwa [len_ext l a b h hab, hk] at this
/-- Is it a day? -/
def dayB (l : List UInt8) : Bool :=
  decide (l.length = 8) && (digL l && (decide (1800 ≤ numL (l.extract 0 4)) && ((decide (1 ≤ numL (l.extract 4 6)) && decide (numL (l.extract 4 6) ≤ 12)) && (decide (1 ≤ numL (l.extract 6 8)) && decide (numL (l.extract 6 8) ≤ daysN (numL (l.extract 0 4)) (numL (l.extract 4 6)))))))
theorem isN (D n : Nat) (N : Int) (h : N = (n : Int)) : (decide ((1 : Int) ≤ (D : Int)) && decide ((D : Int) ≤ N)) = (decide (1 ≤ D) && decide (D ≤ n)) := by
  subst h
  congr 1
  · exact decide_eq_decide.2 (by omega)
  · exact decide_eq_decide.2 (by omega)
theorem month_parts (m : Nat) (h1 : 1 ≤ m) (h2 : m ≤ 12) : m = 1 ∨ m = 2 ∨ m = 3 ∨ m = 4 ∨ m = 5 ∨ m = 6 ∨ m = 7 ∨ m = 8 ∨ m = 9 ∨ m = 10 ∨ m = 11 ∨ m = 12 := by omega
set_option maxHeartbeats 4000000 in
set_option maxRecDepth 100000 in
theorem specDayRight_any (l : List UInt8) (w : World) (hl : l.length ≤ maxLen) :
    Calls Tryz.prog 39 #[.string ⟨l.toArray⟩] w fun e w' => e = .returned (.bool (dayB l)) ∧ Below w.heap.size w w' := by
  have hl' := hide hl
  unfold maxLen at hl
  obtain ⟨R, hR⟩ : ∃ R, R = dayB l := ⟨_, rfl⟩
  rw [← hR]
  have HR := hide hR
  clear hR
  by_cases h8 : l.length = 8
  · have hne : ((l.length : Int) != 8) = false := by simp; omega
    go_enter Tryz.func39, Tryz.ntmps39
    go_wp2_with fail
    refine (l06Digits_any l _ hl'.out).mono ?_
    rintro e w1 ⟨rfl, rfl⟩
    cases hd : digL l
    · have HN := hide (show R = false by rw [HR.out]; simp [dayB, hd])
      go_wp2
      go_ret
      exact ⟨ret_bool HN.out.symm, Below.refl _ _⟩
    · have b0 := numL_ext l 0 4 4 (by omega) (by omega) rfl hd
      have b1 := numL_ext l 4 6 2 (by omega) (by omega) rfl hd
      have b2 := numL_ext l 6 8 2 (by omega) (by omega) rfl hd
      have HY := hide (show R = (decide (1800 ≤ numL (l.extract 0 4)) && ((decide (1 ≤ numL (l.extract 4 6)) && decide (numL (l.extract 4 6) ≤ 12)) && (decide (1 ≤ numL (l.extract 6 8)) && decide (numL (l.extract 6 8) ≤ daysN (numL (l.extract 0 4)) (numL (l.extract 4 6)))))) by rw [HR.out]; simp [dayB, hd, h8])
      have HD := hide hd
      have H0 := hide (len_ext l 0 4 (by omega) (by omega))
      have H1 := hide (len_ext l 4 6 (by omega) (by omega))
      have H2 := hide (len_ext l 6 8 (by omega) (by omega))
      have C0 := hide (fun X => l06Num_any (l.extract 0 4) X (by rw [H0.out]; decide) (digL_ext l 0 4 HD.out))
      have C1 := hide (fun X => l06Num_any (l.extract 4 6) X (by rw [H1.out]; decide) (digL_ext l 4 6 HD.out))
      have C2 := hide (fun X => l06Num_any (l.extract 6 8) X (by rw [H2.out]; decide) (digL_ext l 6 8 HD.out))
      generalize numL (l.extract 0 4) = Y at *
      generalize numL (l.extract 4 6) = M at *
      generalize numL (l.extract 6 8) = D at *
      clear hd
      go_wp2_with fail
      rw [ext_of]
      refine (C0.out _).mono ?_
      rintro e w1 ⟨rfl, rfl⟩
      go_wp2_with fail
      rw [ext_of]
      refine (C1.out _).mono ?_
      rintro e w1 ⟨rfl, rfl⟩
      go_wp2_with fail
      rw [ext_of]
      refine (C2.out _).mono ?_
      rintro e w1 ⟨rfl, rfl⟩
      clear C0 C1 C2
      by_cases h18 : 1800 ≤ Y
      · go_wp2_with fail
        refine (l02Is_v _ _ _ _).mono ?_
        rintro e w1 ⟨rfl, rfl⟩
        by_cases hm1 : 1 ≤ M
        · by_cases hm2 : M ≤ 12
          · rw [show (decide ((1 : Int) ≤ (M : Int)) && decide ((M : Int) ≤ 12)) = true by simp; omega]
            rcases month_parts M hm1 hm2 with rfl | rfl | rfl | rfl | rfl | rfl | rfl | rfl | rfl | rfl | rfl | rfl
            · have HN := hide (show R = (decide ((1 : Int) ≤ (D : Int)) && decide ((D : Int) ≤ 31)) by rw [HY.out, show daysN Y 1 = 31 from rfl, isN D 31 31 rfl]; simp [h18])
              clear HY
              go_wp2_with fail
              refine (l02Is_v _ _ _ _).mono ?_
              rintro e w1 ⟨rfl, rfl⟩
              go_wp2
              go_ret
              exact ⟨ret_bool HN.out.symm, (Below.refl _ _).alloc (Nat.le_refl _) _⟩
            · have hdy : daysN Y 2 = if leapB Y then 29 else 28 := rfl
              rcases leap_parts Y with ⟨h1, h2⟩ | ⟨h1, h2, h3⟩ | ⟨h1, h2, h3, h4⟩ | ⟨h1, h2, h3, h4⟩
              · rw [h2] at hdy
                have HN := hide (show R = (decide ((1 : Int) ≤ (D : Int)) && decide ((D : Int) ≤ 28)) by rw [HY.out, hdy, isN D 28 28 rfl]; simp [h18])
                have g1 : ((Y : Int) % 4 == 0) = false := by simp; omega
                clear HY hdy h2
                go_wp2_with fail
                refine (l02Is_v _ _ _ _).mono ?_
                rintro e w1 ⟨rfl, rfl⟩
                go_wp2
                go_ret
                exact ⟨ret_bool HN.out.symm, (Below.refl _ _).alloc (Nat.le_refl _) _⟩
              · rw [h3] at hdy
                have HN := hide (show R = (decide ((1 : Int) ≤ (D : Int)) && decide ((D : Int) ≤ 29)) by rw [HY.out, hdy, isN D 29 29 rfl]; simp [h18])
                have g1 : ((Y : Int) % 4 == 0) = true := by simp; omega
                have g2 : ((Y : Int) % 100 != 0) = true := by simp; omega
                clear HY hdy h3
                go_wp2_with fail
                refine (l02Is_v _ _ _ _).mono ?_
                rintro e w1 ⟨rfl, rfl⟩
                go_wp2
                go_ret
                exact ⟨ret_bool HN.out.symm, (Below.refl _ _).alloc (Nat.le_refl _) _⟩
              · rw [h4] at hdy
                have HN := hide (show R = (decide ((1 : Int) ≤ (D : Int)) && decide ((D : Int) ≤ 29)) by rw [HY.out, hdy, isN D 29 29 rfl]; simp [h18])
                have g1 : ((Y : Int) % 4 == 0) = true := by simp; omega
                have g2 : ((Y : Int) % 100 != 0) = false := by simp; omega
                have g3 : ((Y : Int) % 400 == 0) = true := by simp; omega
                clear HY hdy h4
                go_wp2_with fail
                refine (l02Is_v _ _ _ _).mono ?_
                rintro e w1 ⟨rfl, rfl⟩
                go_wp2
                go_ret
                exact ⟨ret_bool HN.out.symm, (Below.refl _ _).alloc (Nat.le_refl _) _⟩
              · rw [h4] at hdy
                have HN := hide (show R = (decide ((1 : Int) ≤ (D : Int)) && decide ((D : Int) ≤ 28)) by rw [HY.out, hdy, isN D 28 28 rfl]; simp [h18])
                have g1 : ((Y : Int) % 4 == 0) = true := by simp; omega
                have g2 : ((Y : Int) % 100 != 0) = false := by simp; omega
                have g3 : ((Y : Int) % 400 == 0) = false := by simp; omega
                clear HY hdy h4
                go_wp2_with fail
                refine (l02Is_v _ _ _ _).mono ?_
                rintro e w1 ⟨rfl, rfl⟩
                go_wp2
                go_ret
                exact ⟨ret_bool HN.out.symm, (Below.refl _ _).alloc (Nat.le_refl _) _⟩
            · have HN := hide (show R = (decide ((1 : Int) ≤ (D : Int)) && decide ((D : Int) ≤ 31)) by rw [HY.out, show daysN Y 3 = 31 from rfl, isN D 31 31 rfl]; simp [h18])
              clear HY
              go_wp2_with fail
              refine (l02Is_v _ _ _ _).mono ?_
              rintro e w1 ⟨rfl, rfl⟩
              go_wp2
              go_ret
              exact ⟨ret_bool HN.out.symm, (Below.refl _ _).alloc (Nat.le_refl _) _⟩
            · have HN := hide (show R = (decide ((1 : Int) ≤ (D : Int)) && decide ((D : Int) ≤ 30)) by rw [HY.out, show daysN Y 4 = 30 from rfl, isN D 30 30 rfl]; simp [h18])
              clear HY
              go_wp2_with fail
              refine (l02Is_v _ _ _ _).mono ?_
              rintro e w1 ⟨rfl, rfl⟩
              go_wp2
              go_ret
              exact ⟨ret_bool HN.out.symm, (Below.refl _ _).alloc (Nat.le_refl _) _⟩
            · have HN := hide (show R = (decide ((1 : Int) ≤ (D : Int)) && decide ((D : Int) ≤ 31)) by rw [HY.out, show daysN Y 5 = 31 from rfl, isN D 31 31 rfl]; simp [h18])
              clear HY
              go_wp2_with fail
              refine (l02Is_v _ _ _ _).mono ?_
              rintro e w1 ⟨rfl, rfl⟩
              go_wp2
              go_ret
              exact ⟨ret_bool HN.out.symm, (Below.refl _ _).alloc (Nat.le_refl _) _⟩
            · have HN := hide (show R = (decide ((1 : Int) ≤ (D : Int)) && decide ((D : Int) ≤ 30)) by rw [HY.out, show daysN Y 6 = 30 from rfl, isN D 30 30 rfl]; simp [h18])
              clear HY
              go_wp2_with fail
              refine (l02Is_v _ _ _ _).mono ?_
              rintro e w1 ⟨rfl, rfl⟩
              go_wp2
              go_ret
              exact ⟨ret_bool HN.out.symm, (Below.refl _ _).alloc (Nat.le_refl _) _⟩
            · have HN := hide (show R = (decide ((1 : Int) ≤ (D : Int)) && decide ((D : Int) ≤ 31)) by rw [HY.out, show daysN Y 7 = 31 from rfl, isN D 31 31 rfl]; simp [h18])
              clear HY
              go_wp2_with fail
              refine (l02Is_v _ _ _ _).mono ?_
              rintro e w1 ⟨rfl, rfl⟩
              go_wp2
              go_ret
              exact ⟨ret_bool HN.out.symm, (Below.refl _ _).alloc (Nat.le_refl _) _⟩
            · have HN := hide (show R = (decide ((1 : Int) ≤ (D : Int)) && decide ((D : Int) ≤ 31)) by rw [HY.out, show daysN Y 8 = 31 from rfl, isN D 31 31 rfl]; simp [h18])
              clear HY
              go_wp2_with fail
              refine (l02Is_v _ _ _ _).mono ?_
              rintro e w1 ⟨rfl, rfl⟩
              go_wp2
              go_ret
              exact ⟨ret_bool HN.out.symm, (Below.refl _ _).alloc (Nat.le_refl _) _⟩
            · have HN := hide (show R = (decide ((1 : Int) ≤ (D : Int)) && decide ((D : Int) ≤ 30)) by rw [HY.out, show daysN Y 9 = 30 from rfl, isN D 30 30 rfl]; simp [h18])
              clear HY
              go_wp2_with fail
              refine (l02Is_v _ _ _ _).mono ?_
              rintro e w1 ⟨rfl, rfl⟩
              go_wp2
              go_ret
              exact ⟨ret_bool HN.out.symm, (Below.refl _ _).alloc (Nat.le_refl _) _⟩
            · have HN := hide (show R = (decide ((1 : Int) ≤ (D : Int)) && decide ((D : Int) ≤ 31)) by rw [HY.out, show daysN Y 10 = 31 from rfl, isN D 31 31 rfl]; simp [h18])
              clear HY
              go_wp2_with fail
              refine (l02Is_v _ _ _ _).mono ?_
              rintro e w1 ⟨rfl, rfl⟩
              go_wp2
              go_ret
              exact ⟨ret_bool HN.out.symm, (Below.refl _ _).alloc (Nat.le_refl _) _⟩
            · have HN := hide (show R = (decide ((1 : Int) ≤ (D : Int)) && decide ((D : Int) ≤ 30)) by rw [HY.out, show daysN Y 11 = 30 from rfl, isN D 30 30 rfl]; simp [h18])
              clear HY
              go_wp2_with fail
              refine (l02Is_v _ _ _ _).mono ?_
              rintro e w1 ⟨rfl, rfl⟩
              go_wp2
              go_ret
              exact ⟨ret_bool HN.out.symm, (Below.refl _ _).alloc (Nat.le_refl _) _⟩
            · have HN := hide (show R = (decide ((1 : Int) ≤ (D : Int)) && decide ((D : Int) ≤ 31)) by rw [HY.out, show daysN Y 12 = 31 from rfl, isN D 31 31 rfl]; simp [h18])
              clear HY
              go_wp2_with fail
              refine (l02Is_v _ _ _ _).mono ?_
              rintro e w1 ⟨rfl, rfl⟩
              go_wp2
              go_ret
              exact ⟨ret_bool HN.out.symm, (Below.refl _ _).alloc (Nat.le_refl _) _⟩
          · have HN := hide (show R = false by rw [HY.out]; simp; omega)
            rw [show (decide ((1 : Int) ≤ (M : Int)) && decide ((M : Int) ≤ 12)) = false by simp; omega]
            go_wp2
            go_ret
            exact ⟨ret_bool HN.out.symm, Below.refl _ _⟩
        · have HN := hide (show R = false by rw [HY.out]; simp; omega)
          rw [show (decide ((1 : Int) ≤ (M : Int)) && decide ((M : Int) ≤ 12)) = false by simp; omega]
          go_wp2
          go_ret
          exact ⟨ret_bool HN.out.symm, Below.refl _ _⟩
      · have HN := hide (show R = false by rw [HY.out]; simp [h18])
        go_wp2
        go_ret
        exact ⟨ret_bool HN.out.symm, Below.refl _ _⟩
  · have hne : ((l.length : Int) != 8) = true := by simp; omega
    have HN := hide (show R = false by rw [HR.out]; simp [dayB, h8])
    go_enter Tryz.func39, Tryz.ntmps39
    go_wp2
    go_ret
    exact ⟨ret_bool HN.out.symm, Below.refl _ _⟩
end Go.Proofs.YtfjjbofnfigehaaGreatDoor
