/- Digits: what is of digits alone, and the number that they write; of the model and of the program. -/
import Derived.Test.YtfjjbofnfigehaaGreatDoorXG1FIdx
import Derived.Test.YtfjjbofnfigehaaGreatDoorXG0Mem
import Derived.Test.YtfjjbofnfigehaaGreatDoorXG7VVer
import Derived.BigQuiet
import Derived.Lib.SmallJoins
namespace Go.Proofs.YtfjjbofnfigehaaGreatDoor
open Go.RowKit
def dgB (b : UInt8) : Bool := decide (48 ≤ b.toNat) && decide (b.toNat ≤ 57)
def digL (l : List UInt8) : Bool := l.all dgB
def allD (l : List UInt8) : Bool := !l.isEmpty && digL l
def digV : List UInt8 := [48, 49, 50, 51, 52, 53, 54, 55, 56, 57]
theorem digV_of : ∀ n : Nat, n < 256 → digV.contains (UInt8.ofNat n) = dgB (UInt8.ofNat n) := by decide +kernel
theorem digV_has (b : UInt8) : digV.contains b = dgB b := by
  have := digV_of b.toNat (UInt8.toNat_lt b)
  rwa [UInt8.ofNat_toNat] at this
theorem trim_nil (l : List UInt8) : (Lib.trimLeftS l digV == []) = digL l := by
  unfold Lib.trimLeftS digL
  induction l with
  | nil => rfl
  | cons b r ih =>
    rw [List.dropWhile_cons, List.all_cons, digV_has]
    cases h : dgB b
    · simp
    · simpa using ih
theorem toList_of (l : List UInt8) : (⟨l.toArray⟩ : ByteArray).toList = l := by rw [Lib.toList_data]
theorem trimDigitsV_any (l : List UInt8) (w : World) :
    Calls Tryz.prog 97 #[.string ⟨l.toArray⟩, .string ⟨#[48, 49, 50, 51, 52, 53, 54, 55, 56, 57]⟩] w fun e w' => e = .returned (.string ⟨(Lib.trimLeftS l digV).toArray⟩) ∧ Below w.heap.size w w' :=
  Any.strings_TrimLeft_laid Tryz.lays161 (by kernel_rfl) ⟨l.toArray⟩ ⟨#[48, 49, 50, 51, 52, 53, 54, 55, 56, 57]⟩ w (by decide) (ascii_of_all (by decide))
set_option maxHeartbeats 1000000 in
theorem allDigits_any (s : ByteArray) (w : World) :
    Calls Tryz.prog 87 #[.string s] w fun e w' => e = .returned (.bool (allD s.data.toList)) ∧ Below w.heap.size w w' := by
  obtain ⟨l, rfl⟩ : ∃ l : List UInt8, s = ⟨l.toArray⟩ := ⟨s.data.toList, rfl⟩
  rw [show (⟨l.toArray⟩ : ByteArray).data.toList = l from rfl]
  have e0 := toList_of l
  cases hn : l == []
  · go_enter Tryz.func87, Tryz.ntmps87
    go_wp2_with fail
    refine (trimDigitsV_any l _).mono ?_
    rintro e w1 ⟨rfl, hb⟩
    have HB := hide hb
    clear hb
    have HT := hide (trim_nil l)
    have hae : allD l = digL l := by
      cases l with
      | nil => simp at hn
      | cons b r => rfl
    generalize Lib.trimLeftS l digV = t at *
    have e1 := toList_of t
    cases ht : t == []
    · have HN := hide (show allD l = false by rw [hae, ← HT.out, ht])
      go_wp2
      go_ret
      exact ⟨ret_bool HN.out.symm, HB.out⟩
    · have HN := hide (show allD l = true by rw [hae, ← HT.out, ht])
      go_wp2
      go_ret
      exact ⟨ret_bool HN.out.symm, HB.out⟩
  · have HN := hide (show allD l = false by rw [show l = [] from by simpa using hn]; rfl)
    go_enter Tryz.func87, Tryz.ntmps87
    go_wp2
    go_ret
    exact ⟨ret_bool HN.out.symm, Below.refl _ _⟩

/-- The number that digits write. -/
def numL (l : List UInt8) : Nat := l.foldl (fun n b => 10 * n + (b.toNat - 48)) 0
theorem numL_succ (l : List UInt8) (k : Nat) (h : k < l.length) : numL (l.take (k + 1)) = 10 * numL (l.take k) + (l[k].toNat - 48) := by
  unfold numL
  rw [List.take_succ_eq_append_getElem h, List.foldl_append]
  rfl
theorem fold_lt : ∀ (l : List UInt8) (a : Nat), digL l = true → l.foldl (fun n b => 10 * n + (b.toNat - 48)) a + 1 ≤ (a + 1) * 10 ^ l.length
  | [], a, _ => by simp
  | b :: r, a, h => by
    have h' : dgB b = true ∧ digL r = true := by simpa [digL] using h
    have h2 := h'.1
    simp [dgB] at h2
    have ih := fold_lt r (10 * a + (b.toNat - 48)) h'.2
    rw [List.foldl_cons, List.length_cons, Nat.pow_succ]
    refine Nat.le_trans ih ?_
    rw [Nat.mul_comm (10 ^ r.length) 10, ← Nat.mul_assoc]
    exact Nat.mul_le_mul_right _ (by omega)
theorem numL_lt (l : List UInt8) (h : digL l = true) : numL l < 10 ^ l.length := by
  have := fold_lt l 0 h
  unfold numL
  omega
theorem digL_take (l : List UInt8) (k : Nat) (h : digL l = true) : digL (l.take k) = true := by
  unfold digL at h ⊢
  rw [List.all_eq_true] at h ⊢
  exact fun x hx => h x (List.mem_of_mem_take hx)
theorem digL_at (l : List UInt8) (k : Nat) (hk : k < l.length) (h : digL l = true) : 48 ≤ l[k].toNat ∧ l[k].toNat ≤ 57 := by
  unfold digL at h
  rw [List.all_eq_true] at h
  have := h l[k] (List.getElem_mem hk)
  simpa [dgB] using this
theorem digL_no (l : List UInt8) (k : Nat) (hk : k < l.length) (h : dgB l[k] = false) : digL l = false := by
  unfold digL
  exact List.all_eq_false.2 ⟨l[k], List.getElem_mem hk, by simp [h]⟩
theorem digL_yes (l : List UInt8) (h : ∀ k (hk : k < l.length), dgB l[k] = true) : digL l = true := by
  unfold digL
  rw [List.all_eq_true]
  intro x hx
  obtain ⟨k, hk, rfl⟩ := List.getElem_of_mem hx
  exact h k hk
theorem get_dataV (l : List UInt8) (k : Nat) (h : k < l.length) : (⟨l.toArray⟩ : ByteArray)[k]'(by simpa [ByteArray.size] using h) = l[k] := by
  simp [ByteArray.getElem_eq_getElem_data]
set_option maxHeartbeats 1000000 in
set_option maxRecDepth 100000 in
theorem l06Digits_any (l : List UInt8) (w : World) (hl : l.length ≤ maxLen) :
    Calls Tryz.prog 66 #[.string ⟨l.toArray⟩] w fun e w' => e = .returned (.bool (digL l)) ∧ w' = w := by
  unfold maxLen at hl
  obtain ⟨R, hR⟩ : ∃ R, R = digL l := ⟨_, rfl⟩
  rw [← hR]
  have HR := hide hR
  clear hR
  go_enter Tryz.func66, Tryz.ntmps66
  go_wp2
  go_loop [3] (fun i => ∃ k : Nat, k ≤ l.length ∧ i = .int .i64 k ∧ Hid (∀ j (hj : j < l.length), j < k → dgB l[j] = true)) (fun i => l.length - (intOf i).toNat)
  case atStart => exact ⟨0, Nat.zero_le _, rfl, fun j hj h => absurd h (by omega)⟩
  case round =>
    obtain ⟨k, hk, rfl, HA⟩ := hrel
    by_cases hlt : k < l.length
    · have hg := get_dataV l k hlt
      have hsz : k < (⟨l.toArray⟩ : ByteArray).size := by simpa [ByteArray.size] using hlt
      by_cases h1 : ((l[k]'hlt).toNat : Int) < 48
      · have HN := hide (show R = false by rw [HR.out]; exact digL_no l k hlt (by simp [dgB]; omega))
        go_wp2
        go_ret
        exact ⟨ret_bool HN.out.symm, rfl⟩
      · by_cases h2 : 57 < ((l[k]'hlt).toNat : Int)
        · have HN := hide (show R = false by rw [HR.out]; exact digL_no l k hlt (by simp [dgB]; omega))
          go_wp2
          go_ret
          exact ⟨ret_bool HN.out.symm, rfl⟩
        · have HN := hide (show ∀ j (hj : j < l.length), j < k + 1 → dgB l[j] = true from fun j hj h => by
            by_cases e : j = k
            · subst e; simp [dgB]; omega
            · exact HA.out j hj (by omega))
          go_wp2
          go_round
          case rel => exact ⟨k + 1, by omega, by go_num, HN⟩
          case measure => simp [intOf]; omega
    · have HN := hide (show R = true by rw [HR.out]; exact digL_yes l (fun j hj => HA.out j hj (by omega)))
      go_wp2
      go_ret
      exact ⟨ret_bool HN.out.symm, rfl⟩
theorem sub48 (b : UInt8) (h0 : 48 ≤ b.toNat) : IntKind.u8.wrap ((b.toNat : Int) - 48) = ((b.toNat - 48 : Nat) : Int) := by
  have := UInt8.toNat_lt b
  simp only [IntKind.wrap, IntKind.signed, IntKind.bits]
  simp
  omega
set_option maxHeartbeats 2000000 in
set_option maxRecDepth 100000 in
theorem l06Num_any (l : List UInt8) (w : World) (hl : l.length ≤ 6) (hd : digL l = true) :
    Calls Tryz.prog 67 #[.string ⟨l.toArray⟩] w fun e w' => e = .returned (.int .i64 (numL l : Int)) ∧ w' = w := by
  have HD := hide hd
  clear hd
  go_enter Tryz.func67, Tryz.ntmps67
  go_wp2
  go_loop [3, 4] (fun n i => ∃ k : Nat, k ≤ l.length ∧ i = .int .i64 k ∧ n = .int .i64 (numL (l.take k) : Int)) (fun _ i => l.length - (intOf i).toNat)
  case atStart => exact ⟨0, Nat.zero_le _, rfl, rfl⟩
  case round =>
    obtain ⟨k, hk, rfl, rfl⟩ := hrel
    by_cases hlt : k < l.length
    · have hg := get_dataV l k hlt
      have hsz : k < (⟨l.toArray⟩ : ByteArray).size := by simpa [ByteArray.size] using hlt
      have hd := digL_at l k hlt HD.out
      have hw := sub48 l[k] hd.1
      have hu : (l[k].toNat - 48 : Nat) ≤ 9 := by omega
      have HN := hide (numL_succ l k hlt)
      have hb : numL (l.take k) < 100000 := by
        have h1 := numL_lt _ (digL_take l k HD.out)
        have h2 : (10 : Nat) ^ (l.take k).length ≤ 10 ^ 5 := Nat.pow_le_pow_right (by decide) (by rw [List.length_take]; omega)
        omega
      generalize l[k].toNat - 48 = D at *
      generalize numL (l.take k) = M at *
      go_wp2
      go_round
      case rel => exact ⟨k + 1, by omega, by go_num, by rw [HN.out]; go_num⟩
      case measure => simp [intOf]; omega
    · have HN := hide (show numL (l.take k) = numL l by rw [List.take_of_length_le (by omega)])
      go_wp2
      go_ret
      exact ⟨ret_int (by rw [HN.out]), rfl⟩
end Go.Proofs.YtfjjbofnfigehaaGreatDoor
/- A number within limits, a leap year, the days of a month: of the program. -/
namespace Go.Proofs.YtfjjbofnfigehaaGreatDoor
open Go.RowKit
/-- The two errors of strconv lie where they were laid. -/
def ErrsV (w : World) : Prop := 2 < w.heap.size ∧ (∃ te pe, w.cell? ⟨1, 0, none⟩ = some (.iface te pe)) ∧ ∃ te pe, w.cell? ⟨2, 0, none⟩ = some (.iface te pe)
theorem ErrsV.below {w w' : World} {B : Nat} (h : ErrsV w) (hb : Below B w w') (hB : 2 < B) : ErrsV w' := by
  obtain ⟨h0, ⟨t1, p1, h1⟩, t2, p2, h2⟩ := h
  exact ⟨Nat.lt_of_lt_of_le h0 hb.size, ⟨t1, p1, by rw [hb.cell (p := ⟨1, 0, none⟩) (by show 1 < B; omega)]; exact h1⟩, t2, p2, by rw [hb.cell (p := ⟨2, 0, none⟩) (by show 2 < B; omega)]; exact h2⟩
theorem parse_of : ∀ (l : List UInt8) (acc : Nat), (acc + 1) * 10 ^ l.length ≤ 1000000000000 → Lib.parseUintM (2 ^ 64 - 1) acc l = if digL l then .ok (l.foldl (fun n b => 10 * n + (b.toNat - 48)) acc) else .syntax
  | [], acc, _ => rfl
  | c :: r, acc, h => by
    rw [List.length_cons, Nat.pow_succ, Nat.mul_comm (10 ^ r.length) 10, ← Nat.mul_assoc] at h
    have hp : 1 ≤ 10 ^ r.length := Nat.one_le_pow _ _ (by decide)
    have h1 : (acc + 1) * 10 ≤ 1000000000000 := Nat.le_trans (Nat.le_mul_of_pos_right _ hp) h
    unfold Lib.parseUintM
    by_cases hc : 48 ≤ c.toNat ∧ c.toNat ≤ 57
    · have hd : digL (c :: r) = digL r := by simp [digL, dgB, hc]
      rw [if_pos hc, if_neg (by omega), if_neg (by simp only [Nat.reducePow, Nat.reduceSub]; omega), parse_of r _ (Nat.le_trans (Nat.mul_le_mul_right _ (by omega)) h), hd, List.foldl_cons, Nat.mul_comm acc 10]
    · have hd : digL (c :: r) = false := by
        have : dgB c = false := by simp [dgB]; omega
        simp [digL, this]
      rw [if_neg hc, hd]
      rfl
theorem parseU_of (l : List UInt8) (hl : l.length ≤ 6) : Lib.parseUintB 64 l = if allD l then .ok (numL l) else .syntax := by
  unfold Lib.parseUintB
  cases l with
  | nil => rfl
  | cons c r =>
    rw [if_neg (by simp)]
    have h := parse_of (c :: r) 0 (by
      have : (10 : Nat) ^ (c :: r).length ≤ 10 ^ 6 := Nat.pow_le_pow_right (by decide) hl
      omega)
    rw [h]
    rfl
/-- Is the number within the limits? -/
def withinB (l : List UInt8) (lo hi : Nat) : Bool := allD l && (decide (lo ≤ numL l) && decide (numL l ≤ hi))
def withinN (l : List UInt8) (lo hi : Nat) : Nat := if withinB l lo hi then numL l else 0
set_option maxHeartbeats 1000000 in
theorem numberWithin_any (l : List UInt8) (lo hi : Nat) (w : World) (hl : l.length ≤ 6) (he : ErrsV w) :
    Calls Tryz.prog 88 #[.string ⟨l.toArray⟩, .int .u64 (lo : Int), .int .u64 (hi : Int)] w fun e w' => e = .returned (.tuple #[.int .u64 (withinN l lo hi : Int), .bool (withinB l lo hi)]) ∧ Below w.heap.size w w' := by
  obtain ⟨_, ⟨t1, p1, h1⟩, t2, p2, h2⟩ := he
  have hsz : (⟨l.toArray⟩ : ByteArray).size = l.length := by simp [ByteArray.size]
  have HL := hide hsz
  clear hsz
  have HP := hide (parseU_of l hl)
  cases ha : allD l
  · rw [ha] at HP
    have HN := hide (show withinB l lo hi = false by simp [withinB, ha])
    have HM := hide (show withinN l lo hi = 0 by rw [withinN, HN.out]; rfl)
    go_enter Tryz.func88, Tryz.ntmps88
    go_wp2_with fail
    refine (Tryz.strconv_ParseUint_10_at64_syntax ⟨l.toArray⟩ (by rw [HL.out]; omega) (by simpa using HP.out) _ w h1 (.inr ⟨_, _, rfl⟩)).mono ?_
    rintro e w1 ⟨B, rfl, _, _, hb⟩
    have HB := hide hb
    clear hb
    go_wp2
    exact bodyPost_ret (v := .tuple #[.int .u64 0, .bool false]) (by simp [results, Tryz.results88, go_sem]) rfl ⟨by rw [HM.out, HN.out]; rfl, HB.out⟩
  · rw [ha] at HP
    have hw : withinB l lo hi = (decide (lo ≤ numL l) && decide (numL l ≤ hi)) := by simp [withinB, ha]
    have hm : withinN l lo hi = if withinB l lo hi then numL l else 0 := rfl
    obtain ⟨M, hM⟩ : ∃ M, M = numL l := ⟨_, rfl⟩
    rw [← hM] at HP hw hm
    have hlt : M < 1000000 := by
      have h1 : numL l < 10 ^ l.length := numL_lt l (by cases l with | nil => rfl | cons b r => simpa [allD] using ha)
      have h2 : (10 : Nat) ^ l.length ≤ 10 ^ 6 := Nat.pow_le_pow_right (by decide) hl
      omega
    clear hM
    by_cases h3 : lo ≤ M
    · by_cases h4 : M ≤ hi
      · have HN := hide (show withinB l lo hi = true by simp [hw, h3, h4])
        have HM := hide (show withinN l lo hi = M by rw [hm, HN.out]; rfl)
        clear hw hm
        go_enter Tryz.func88, Tryz.ntmps88
        go_wp2_with fail
        refine (Tryz.strconv_ParseUint_10_at64_ok ⟨l.toArray⟩ (by rw [HL.out]; omega) M (by simpa using HP.out) w).mono ?_
        rintro e w1 ⟨rfl, hb⟩
        have HB := hide (show Below w.heap.size w w1 by
          rcases hb with rfl | rfl
          · exact Below.refl _ _
          · exact Go.Joins.below_bytesWorld _ w _ _ (Nat.le_refl _))
        clear hb
        go_wp2
        exact bodyPost_ret (v := .tuple #[.int .u64 (M : Int), .bool true]) (by simp [results, Tryz.results88, go_sem]) rfl ⟨by rw [HM.out, HN.out], HB.out⟩
      · have HN := hide (show withinB l lo hi = false by simp [hw, h4])
        have HM := hide (show withinN l lo hi = 0 by rw [hm, HN.out]; rfl)
        clear hw hm
        go_enter Tryz.func88, Tryz.ntmps88
        go_wp2_with fail
        refine (Tryz.strconv_ParseUint_10_at64_ok ⟨l.toArray⟩ (by rw [HL.out]; omega) M (by simpa using HP.out) w).mono ?_
        rintro e w1 ⟨rfl, hb⟩
        have HB := hide (show Below w.heap.size w w1 by
          rcases hb with rfl | rfl
          · exact Below.refl _ _
          · exact Go.Joins.below_bytesWorld _ w _ _ (Nat.le_refl _))
        clear hb
        go_wp2
        exact bodyPost_ret (v := .tuple #[.int .u64 0, .bool false]) (by simp [results, Tryz.results88, go_sem]) rfl ⟨by rw [HM.out, HN.out]; rfl, HB.out⟩
    · have HN := hide (show withinB l lo hi = false by simp [hw, h3])
      have HM := hide (show withinN l lo hi = 0 by rw [hm, HN.out]; rfl)
      clear hw hm
      go_enter Tryz.func88, Tryz.ntmps88
      go_wp2_with fail
      refine (Tryz.strconv_ParseUint_10_at64_ok ⟨l.toArray⟩ (by rw [HL.out]; omega) M (by simpa using HP.out) w).mono ?_
      rintro e w1 ⟨rfl, hb⟩
      have HB := hide (show Below w.heap.size w w1 by
        rcases hb with rfl | rfl
        · exact Below.refl _ _
        · exact Go.Joins.below_bytesWorld _ w _ _ (Nat.le_refl _))
      clear hb
      go_wp2
      exact bodyPost_ret (v := .tuple #[.int .u64 0, .bool false]) (by simp [results, Tryz.results88, go_sem]) rfl ⟨by rw [HM.out, HN.out]; rfl, HB.out⟩

def leapB (y : Nat) : Bool := (y % 4 == 0 && y % 100 != 0) || y % 400 == 0
theorem leap_parts (y : Nat) : (¬ y % 4 = 0 ∧ leapB y = false) ∨ (y % 4 = 0 ∧ ¬ y % 100 = 0 ∧ leapB y = true) ∨ (y % 4 = 0 ∧ y % 100 = 0 ∧ y % 400 = 0 ∧ leapB y = true) ∨ (y % 4 = 0 ∧ y % 100 = 0 ∧ ¬ y % 400 = 0 ∧ leapB y = false) := by
  simp [leapB]
  omega
set_option maxHeartbeats 1000000 in
theorem isLeap_any (y : Nat) (w : World) (hy : y ≤ 100000) :
    Calls Tryz.prog 99 #[.int .u64 (y : Int)] w fun e w' => e = .returned (.bool (leapB y)) ∧ w' = w := by
  rcases leap_parts y with ⟨h1, h2⟩ | ⟨h1, h2, h3⟩ | ⟨h1, h2, h3, h4⟩ | ⟨h1, h2, h3, h4⟩
  · have HN := hide h2
    clear h2
    have g1 : ((y : Int) % 4 == 0) = false := by simp; omega
    have g3 : ((y : Int) % 400 == 0) = false := by simp; omega
    go_enter Tryz.func99, Tryz.ntmps99
    go_wp2
    go_ret
    exact ⟨ret_bool HN.out.symm, rfl⟩
  · have HN := hide h3
    clear h3
    have g1 : ((y : Int) % 4 == 0) = true := by simp; omega
    have g2 : ((y : Int) % 100 != 0) = true := by simp; omega
    go_enter Tryz.func99, Tryz.ntmps99
    go_wp2
    go_ret
    exact ⟨ret_bool HN.out.symm, rfl⟩
  · have HN := hide h4
    clear h4
    have g1 : ((y : Int) % 4 == 0) = true := by simp; omega
    have g2 : ((y : Int) % 100 != 0) = false := by simp; omega
    have g3 : ((y : Int) % 400 == 0) = true := by simp; omega
    go_enter Tryz.func99, Tryz.ntmps99
    go_wp2
    go_ret
    exact ⟨ret_bool HN.out.symm, rfl⟩
  · have HN := hide h4
    clear h4
    have g1 : ((y : Int) % 4 == 0) = true := by simp; omega
    have g2 : ((y : Int) % 100 != 0) = false := by simp; omega
    have g3 : ((y : Int) % 400 == 0) = false := by simp; omega
    go_enter Tryz.func99, Tryz.ntmps99
    go_wp2
    go_ret
    exact ⟨ret_bool HN.out.symm, rfl⟩
def daysN (y m : Nat) : Nat := if m = 2 then (if leapB y then 29 else 28) else if m = 4 ∨ m = 6 ∨ m = 9 ∨ m = 11 then 30 else 31
theorem days_parts (m : Nat) : m = 2 ∨ m = 4 ∨ m = 6 ∨ m = 9 ∨ m = 11 ∨ (¬ m = 2 ∧ ¬ m = 4 ∧ ¬ m = 6 ∧ ¬ m = 9 ∧ ¬ m = 11) := by omega
set_option maxHeartbeats 1000000 in
theorem daysOf_any (y m : Nat) (w : World) (hy : y ≤ 100000) :
    Calls Tryz.prog 89 #[.int .u64 (y : Int), .int .u64 (m : Int)] w fun e w' => e = .returned (.int .u64 (daysN y m : Int)) ∧ w' = w := by
  rcases days_parts m with rfl | rfl | rfl | rfl | rfl | ⟨h1, h2, h3, h4, h5⟩
  · go_enter Tryz.func89, Tryz.ntmps89
    go_wp2_with fail
    refine (isLeap_any y _ hy).mono ?_
    rintro e w1 ⟨rfl, rfl⟩
    have hd : daysN y 2 = if leapB y then 29 else 28 := rfl
    cases hL : leapB y
    · have HN := hide (show daysN y 2 = 28 by rw [hd, hL]; rfl)
      clear hd
      go_wp2
      go_ret
      exact ⟨ret_int (by rw [HN.out]; rfl), rfl⟩
    · have HN := hide (show daysN y 2 = 29 by rw [hd, hL]; rfl)
      clear hd
      go_wp2
      go_ret
      exact ⟨ret_int (by rw [HN.out]; rfl), rfl⟩
  · go_enter Tryz.func89, Tryz.ntmps89
    go_wp2
    go_ret
    exact ⟨rfl, rfl⟩
  · go_enter Tryz.func89, Tryz.ntmps89
    go_wp2
    go_ret
    exact ⟨rfl, rfl⟩
  · go_enter Tryz.func89, Tryz.ntmps89
    go_wp2
    go_ret
    exact ⟨rfl, rfl⟩
  · go_enter Tryz.func89, Tryz.ntmps89
    go_wp2
    go_ret
    exact ⟨rfl, rfl⟩
  · have HN := hide (show daysN y m = 31 by simp [daysN, h1, h2, h3, h4, h5])
    have g1 : ((m : Int) == 2) = false := by simp; omega
    have g2 : ((m : Int) == 4) = false := by simp; omega
    have g3 : ((m : Int) == 6) = false := by simp; omega
    have g4 : ((m : Int) == 9) = false := by simp; omega
    have g5 : ((m : Int) == 11) = false := by simp; omega
    clear h1 h2 h3 h4 h5
    go_enter Tryz.func89, Tryz.ntmps89
    go_wp2
    go_ret
    exact ⟨ret_int (by rw [HN.out]; rfl), rfl⟩
end Go.Proofs.YtfjjbofnfigehaaGreatDoor
