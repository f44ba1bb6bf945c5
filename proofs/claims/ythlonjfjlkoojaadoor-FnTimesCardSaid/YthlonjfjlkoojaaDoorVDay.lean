/- A number within limits, a leap year, the days of a month: of the program. -/
import Derived.Test.YthlonjfjlkoojaaDoorVDig
import Derived.Lib.SmallJoins
namespace Go.Proofs.YthlonjfjlkoojaaDoor
open Go.RowKit
/-- The two errors of strconv lie where they were laid. -/
def ErrsV (w : World) : Prop := 2 < w.heap.size ∧ (∃ te pe, w.cell? ⟨1, 0, none⟩ = some (.iface te pe)) ∧ ∃ te pe, w.cell? ⟨2, 0, none⟩ = some (.iface te pe)
theorem ErrsV.below {w w' : World} {B : Nat} (h : ErrsV w) (hb : Below B w w') (hB : 2 < B) : ErrsV w' := by
  obtain ⟨h0, ⟨t1, p1, h1⟩, t2, p2, h2⟩ := h
  exact ⟨Nat.lt_of_lt_of_le h0 hb.size, ⟨t1, p1, by rw [hb.cell (p := ⟨1, 0, none⟩) (by show 1 < B; omega)]; exact h1⟩, t2, p2, by rw [hb.cell (p := ⟨2, 0, none⟩) (by show 2 < B; omega)]; exact h2⟩
theorem parse_of : ∀ (l : List UInt8) (acc : Nat), (acc + 1) * 10 ^ l.length ≤ 1000000000000 → Lib.parseUintM (2 ^ 64 - 1) acc l = if digL l then .ok (l.foldl (fun n b => 10 * n + (b.toNat - 48)) acc) else .syntax
  | [], acc, _ => rfl
  | c :: r, acc, h => by
    rw [List.length_cons, Nat.pow_succ, Nat.mul_comm (10 ^ r.length) 10, ← Nat.mul_assoc] at h
    have hp : 1 ≤ 10 ^ r.length := Nat.one_le_pow _ _ (by decide)
    have h1 : (acc + 1) * 10 ≤ 1000000000000 := Nat.le_trans (Nat.le_mul_of_pos_right _ hp) h
    unfold Lib.parseUintM
    by_cases hc : 48 ≤ c.toNat ∧ c.toNat ≤ 57
    · have hd : digL (c :: r) = digL r := by simp [digL, dgB, hc]
      rw [if_pos hc, if_neg (by omega), if_neg (by simp only [Nat.reducePow, Nat.reduceSub]; omega), parse_of r _ (Nat.le_trans (Nat.mul_le_mul_right _ (by omega)) h), hd, List.foldl_cons, Nat.mul_comm acc 10]
    · have hd : digL (c :: r) = false := by
        have : dgB c = false := by simp [dgB]; omega
        simp [digL, this]
      rw [if_neg hc, hd]
      rfl
theorem parseU_of (l : List UInt8) (hl : l.length ≤ 6) : Lib.parseUintB 64 l = if allD l then .ok (numL l) else .syntax := by
  unfold Lib.parseUintB
  cases l with
  | nil => rfl
  | cons c r =>
    rw [if_neg (by simp)]
    have h := parse_of (c :: r) 0 (by
      have : (10 : Nat) ^ (c :: r).length ≤ 10 ^ 6 := Nat.pow_le_pow_right (by decide) hl
      omega)
    rw [h]
    rfl
/-- Is the number within the limits? -/
def withinB (l : List UInt8) (lo hi : Nat) : Bool := allD l && (decide (lo ≤ numL l) && decide (numL l ≤ hi))
def withinN (l : List UInt8) (lo hi : Nat) : Nat := if withinB l lo hi then numL l else 0
set_option maxHeartbeats 1000000 in
theorem numberWithin_any (l : List UInt8) (lo hi : Nat) (w : World) (hl : l.length ≤ 6) (he : ErrsV w) :
    Calls Tryd.prog 26 #[.string ⟨l.toArray⟩, .int .u64 (lo : Int), .int .u64 (hi : Int)] w fun e w' => e = .returned (.tuple #[.int .u64 (withinN l lo hi : Int), .bool (withinB l lo hi)]) ∧ Below w.heap.size w w' := by
  obtain ⟨_, ⟨t1, p1, h1⟩, t2, p2, h2⟩ := he
  have hsz : (⟨l.toArray⟩ : ByteArray).size = l.length := by simp [ByteArray.size]
  have HL := hide hsz
  clear hsz
  have HP := hide (parseU_of l hl)
  cases ha : allD l
  · rw [ha] at HP
    have HN := hide (show withinB l lo hi = false by simp [withinB, ha])
    have HM := hide (show withinN l lo hi = 0 by rw [withinN, HN.out]; rfl)
    go_enter Tryd.func26, Tryd.ntmps26
    go_wp2_with fail
    refine (Tryd.strconv_ParseUint_10_at64_syntax ⟨l.toArray⟩ (by rw [HL.out]; omega) (by simpa using HP.out) _ w h1 (.inr ⟨_, _, rfl⟩)).mono ?_
    rintro e w1 ⟨B, rfl, _, _, hb⟩
    have HB := hide hb
    clear hb
    go_wp2
    exact bodyPost_ret (v := .tuple #[.int .u64 0, .bool false]) (by simp [results, Tryd.results26, go_sem]) rfl ⟨by rw [HM.out, HN.out]; rfl, HB.out⟩
  · rw [ha] at HP
    have hw : withinB l lo hi = (decide (lo ≤ numL l) && decide (numL l ≤ hi)) := by simp [withinB, ha]
    have hm : withinN l lo hi = if withinB l lo hi then numL l else 0 := rfl
    obtain ⟨M, hM⟩ : ∃ M, M = numL l := ⟨_, rfl⟩
    rw [← hM] at HP hw hm
    have hlt : M < 1000000 := by
      have h1 : numL l < 10 ^ l.length := numL_lt l (by cases l with | nil => rfl | cons b r => simpa [allD] using ha)
      have h2 : (10 : Nat) ^ l.length ≤ 10 ^ 6 := Nat.pow_le_pow_right (by decide) hl
      omega
    clear hM
    by_cases h3 : lo ≤ M
    · by_cases h4 : M ≤ hi
      · have HN := hide (show withinB l lo hi = true by simp [hw, h3, h4])
        have HM := hide (show withinN l lo hi = M by rw [hm, HN.out]; rfl)
        clear hw hm
        go_enter Tryd.func26, Tryd.ntmps26
        go_wp2_with fail
        refine (Tryd.strconv_ParseUint_10_at64_ok ⟨l.toArray⟩ (by rw [HL.out]; omega) M (by simpa using HP.out) w).mono ?_
        rintro e w1 ⟨rfl, hb⟩
        have HB := hide (show Below w.heap.size w w1 by
          rcases hb with rfl | rfl
          · exact Below.refl _ _
          · exact Go.Joins.below_bytesWorld _ w _ _ (Nat.le_refl _))
        clear hb
        go_wp2
        exact bodyPost_ret (v := .tuple #[.int .u64 (M : Int), .bool true]) (by simp [results, Tryd.results26, go_sem]) rfl ⟨by rw [HM.out, HN.out], HB.out⟩
      · have HN := hide (show withinB l lo hi = false by simp [hw, h4])
        have HM := hide (show withinN l lo hi = 0 by rw [hm, HN.out]; rfl)
        clear hw hm
        go_enter Tryd.func26, Tryd.ntmps26
        go_wp2_with fail
        refine (Tryd.strconv_ParseUint_10_at64_ok ⟨l.toArray⟩ (by rw [HL.out]; omega) M (by simpa using HP.out) w).mono ?_
        rintro e w1 ⟨rfl, hb⟩
        have HB := hide (show Below w.heap.size w w1 by
          rcases hb with rfl | rfl
          · exact Below.refl _ _
          · exact Go.Joins.below_bytesWorld _ w _ _ (Nat.le_refl _))
        clear hb
        go_wp2
        exact bodyPost_ret (v := .tuple #[.int .u64 0, .bool false]) (by simp [results, Tryd.results26, go_sem]) rfl ⟨by rw [HM.out, HN.out]; rfl, HB.out⟩
    · have HN := hide (show withinB l lo hi = false by simp [hw, h3])
      have HM := hide (show withinN l lo hi = 0 by rw [hm, HN.out]; rfl)
      clear hw hm
      go_enter Tryd.func26, Tryd.ntmps26
      go_wp2_with fail
      refine (Tryd.strconv_ParseUint_10_at64_ok ⟨l.toArray⟩ (by rw [HL.out]; omega) M (by simpa using HP.out) w).mono ?_
      rintro e w1 ⟨rfl, hb⟩
      have HB := hide (show Below w.heap.size w w1 by
        rcases hb with rfl | rfl
        · exact Below.refl _ _
        · exact Go.Joins.below_bytesWorld _ w _ _ (Nat.le_refl _))
      clear hb
      go_wp2
      exact bodyPost_ret (v := .tuple #[.int .u64 0, .bool false]) (by simp [results, Tryd.results26, go_sem]) rfl ⟨by rw [HM.out, HN.out]; rfl, HB.out⟩

def leapB (y : Nat) : Bool := (y % 4 == 0 && y % 100 != 0) || y % 400 == 0
theorem leap_parts (y : Nat) : (¬ y % 4 = 0 ∧ leapB y = false) ∨ (y % 4 = 0 ∧ ¬ y % 100 = 0 ∧ leapB y = true) ∨ (y % 4 = 0 ∧ y % 100 = 0 ∧ y % 400 = 0 ∧ leapB y = true) ∨ (y % 4 = 0 ∧ y % 100 = 0 ∧ ¬ y % 400 = 0 ∧ leapB y = false) := by
  simp [leapB]
  omega
set_option maxHeartbeats 1000000 in
theorem isLeap_any (y : Nat) (w : World) (hy : y ≤ 100000) :
    Calls Tryd.prog 35 #[.int .u64 (y : Int)] w fun e w' => e = .returned (.bool (leapB y)) ∧ w' = w := by
  rcases leap_parts y with ⟨h1, h2⟩ | ⟨h1, h2, h3⟩ | ⟨h1, h2, h3, h4⟩ | ⟨h1, h2, h3, h4⟩
  · have HN := hide h2
    clear h2
    have g1 : ((y : Int) % 4 == 0) = false := by simp; omega
    have g3 : ((y : Int) % 400 == 0) = false := by simp; omega
    go_enter Tryd.func35, Tryd.ntmps35
    go_wp2
    go_ret
    exact ⟨ret_bool HN.out.symm, rfl⟩
  · have HN := hide h3
    clear h3
    have g1 : ((y : Int) % 4 == 0) = true := by simp; omega
    have g2 : ((y : Int) % 100 != 0) = true := by simp; omega
    go_enter Tryd.func35, Tryd.ntmps35
    go_wp2
    go_ret
    exact ⟨ret_bool HN.out.symm, rfl⟩
  · have HN := hide h4
    clear h4
    have g1 : ((y : Int) % 4 == 0) = true := by simp; omega
    have g2 : ((y : Int) % 100 != 0) = false := by simp; omega
    have g3 : ((y : Int) % 400 == 0) = true := by simp; omega
    go_enter Tryd.func35, Tryd.ntmps35
    go_wp2
    go_ret
    exact ⟨ret_bool HN.out.symm, rfl⟩
  · have HN := hide h4
    clear h4
    have g1 : ((y : Int) % 4 == 0) = true := by simp; omega
    have g2 : ((y : Int) % 100 != 0) = false := by simp; omega
    have g3 : ((y : Int) % 400 == 0) = false := by simp; omega
    go_enter Tryd.func35, Tryd.ntmps35
    go_wp2
    go_ret
    exact ⟨ret_bool HN.out.symm, rfl⟩
def daysN (y m : Nat) : Nat := if m = 2 then (if leapB y then 29 else 28) else if m = 4 ∨ m = 6 ∨ m = 9 ∨ m = 11 then 30 else 31
theorem days_parts (m : Nat) : m = 2 ∨ m = 4 ∨ m = 6 ∨ m = 9 ∨ m = 11 ∨ (¬ m = 2 ∧ ¬ m = 4 ∧ ¬ m = 6 ∧ ¬ m = 9 ∧ ¬ m = 11) := by omega
set_option maxHeartbeats 1000000 in
theorem daysOf_any (y m : Nat) (w : World) (hy : y ≤ 100000) :
    Calls Tryd.prog 27 #[.int .u64 (y : Int), .int .u64 (m : Int)] w fun e w' => e = .returned (.int .u64 (daysN y m : Int)) ∧ w' = w := by
  rcases days_parts m with rfl | rfl | rfl | rfl | rfl | ⟨h1, h2, h3, h4, h5⟩
  · go_enter Tryd.func27, Tryd.ntmps27
    go_wp2_with fail
    refine (isLeap_any y _ hy).mono ?_
    rintro e w1 ⟨rfl, rfl⟩
    have hd : daysN y 2 = if leapB y then 29 else 28 := rfl
    cases hL : leapB y
    · have HN := hide (show daysN y 2 = 28 by rw [hd, hL]; rfl)
      clear hd
      go_wp2
      go_ret
      exact ⟨ret_int (by rw [HN.out]; rfl), rfl⟩
    · have HN := hide (show daysN y 2 = 29 by rw [hd, hL]; rfl)
      clear hd
      go_wp2
      go_ret
      exact ⟨ret_int (by rw [HN.out]; rfl), rfl⟩
  · go_enter Tryd.func27, Tryd.ntmps27
    go_wp2
    go_ret
    exact ⟨rfl, rfl⟩
  · go_enter Tryd.func27, Tryd.ntmps27
    go_wp2
    go_ret
    exact ⟨rfl, rfl⟩
  · go_enter Tryd.func27, Tryd.ntmps27
    go_wp2
    go_ret
    exact ⟨rfl, rfl⟩
  · go_enter Tryd.func27, Tryd.ntmps27
    go_wp2
    go_ret
    exact ⟨rfl, rfl⟩
  · have HN := hide (show daysN y m = 31 by simp [daysN, h1, h2, h3, h4, h5])
    have g1 : ((m : Int) == 2) = false := by simp; omega
    have g2 : ((m : Int) == 4) = false := by simp; omega
    have g3 : ((m : Int) == 6) = false := by simp; omega
    have g4 : ((m : Int) == 9) = false := by simp; omega
    have g5 : ((m : Int) == 11) = false := by simp; omega
    clear h1 h2 h3 h4 h5
    go_enter Tryd.func27, Tryd.ntmps27
    go_wp2
    go_ret
    exact ⟨ret_int (by rw [HN.out]; rfl), rfl⟩
end Go.Proofs.YthlonjfjlkoojaaDoor
