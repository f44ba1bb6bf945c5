/- Digits: what is of digits alone, and the number that they write; of the model and of the program. -/
import Derived.Test.YthlonjfjlkoojaaDoorFMarks
import Derived.Test.YthlonjfjlkoojaaDoorMem
import Derived.Test.YthlonjfjlkoojaaDoorShelfV
import Derived.BigQuiet
namespace Go.Proofs.YthlonjfjlkoojaaDoor
open Go.RowKit
def dgB (b : UInt8) : Bool := decide (48 ≤ b.toNat) && decide (b.toNat ≤ 57)
def digL (l : List UInt8) : Bool := l.all dgB
def allD (l : List UInt8) : Bool := !l.isEmpty && digL l
def digV : List UInt8 := [48, 49, 50, 51, 52, 53, 54, 55, 56, 57]
theorem digV_of : ∀ n : Nat, n < 256 → digV.contains (UInt8.ofNat n) = dgB (UInt8.ofNat n) := by decide +kernel
theorem digV_has (b : UInt8) : digV.contains b = dgB b := by
  have := digV_of b.toNat (UInt8.toNat_lt b)
  rwa [UInt8.ofNat_toNat] at this
theorem trim_nil (l : List UInt8) : (Lib.trimLeftS l digV == []) = digL l := by
  unfold Lib.trimLeftS digL
  induction l with
  | nil => rfl
  | cons b r ih =>
    rw [List.dropWhile_cons, List.all_cons, digV_has]
    cases h : dgB b
    · simp
    · simpa using ih
theorem toList_of (l : List UInt8) : (⟨l.toArray⟩ : ByteArray).toList = l := by rw [Lib.toList_data]
theorem trimDigitsV_any (l : List UInt8) (w : World) :
    Calls Tryd.prog 38 #[.string ⟨l.toArray⟩, .string ⟨#[48, 49, 50, 51, 52, 53, 54, 55, 56, 57]⟩] w fun e w' => e = .returned (.string ⟨(Lib.trimLeftS l digV).toArray⟩) ∧ Below w.heap.size w w' :=
  Any.strings_TrimLeft_laid Tryd.lays161 (by kernel_rfl) ⟨l.toArray⟩ ⟨#[48, 49, 50, 51, 52, 53, 54, 55, 56, 57]⟩ w (by decide) (ascii_of_all (by decide))
set_option maxHeartbeats 1000000 in
theorem allDigits_any (s : ByteArray) (w : World) :
    Calls Tryd.prog 32 #[.string s] w fun e w' => e = .returned (.bool (allD s.data.toList)) ∧ Below w.heap.size w w' := by
  obtain ⟨l, rfl⟩ : ∃ l : List UInt8, s = ⟨l.toArray⟩ := ⟨s.data.toList, rfl⟩
  rw [show (⟨l.toArray⟩ : ByteArray).data.toList = l from rfl]
  have e0 := toList_of l
  cases hn : l == []
  · go_enter Tryd.func32, Tryd.ntmps32
    go_wp2_with fail
    refine (trimDigitsV_any l _).mono ?_
    rintro e w1 ⟨rfl, hb⟩
    have HB := hide hb
    clear hb
    have HT := hide (trim_nil l)
    have hae : allD l = digL l := by
      cases l with
      | nil => simp at hn
      | cons b r => rfl
    generalize Lib.trimLeftS l digV = t at *
    have e1 := toList_of t
    cases ht : t == []
    · have HN := hide (show allD l = false by rw [hae, ← HT.out, ht])
      go_wp2
      go_ret
      exact ⟨ret_bool HN.out.symm, HB.out⟩
    · have HN := hide (show allD l = true by rw [hae, ← HT.out, ht])
      go_wp2
      go_ret
      exact ⟨ret_bool HN.out.symm, HB.out⟩
  · have HN := hide (show allD l = false by rw [show l = [] from by simpa using hn]; rfl)
    go_enter Tryd.func32, Tryd.ntmps32
    go_wp2
    go_ret
    exact ⟨ret_bool HN.out.symm, Below.refl _ _⟩

/-- The number that digits write. -/
def numL (l : List UInt8) : Nat := l.foldl (fun n b => 10 * n + (b.toNat - 48)) 0
theorem numL_succ (l : List UInt8) (k : Nat) (h : k < l.length) : numL (l.take (k + 1)) = 10 * numL (l.take k) + (l[k].toNat - 48) := by
  unfold numL
  rw [List.take_succ_eq_append_getElem h, List.foldl_append]
  rfl
theorem fold_lt : ∀ (l : List UInt8) (a : Nat), digL l = true → l.foldl (fun n b => 10 * n + (b.toNat - 48)) a + 1 ≤ (a + 1) * 10 ^ l.length
  | [], a, _ => by simp
  | b :: r, a, h => by
    have h' : dgB b = true ∧ digL r = true := by simpa [digL] using h
    have h2 := h'.1
    simp [dgB] at h2
    have ih := fold_lt r (10 * a + (b.toNat - 48)) h'.2
    rw [List.foldl_cons, List.length_cons, Nat.pow_succ]
    refine Nat.le_trans ih ?_
    rw [Nat.mul_comm (10 ^ r.length) 10, ← Nat.mul_assoc]
    exact Nat.mul_le_mul_right _ (by omega)
theorem numL_lt (l : List UInt8) (h : digL l = true) : numL l < 10 ^ l.length := by
  have := fold_lt l 0 h
  unfold numL
  omega
theorem digL_take (l : List UInt8) (k : Nat) (h : digL l = true) : digL (l.take k) = true := by
  unfold digL at h ⊢
  rw [List.all_eq_true] at h ⊢
  exact fun x hx => h x (List.mem_of_mem_take hx)
theorem digL_at (l : List UInt8) (k : Nat) (hk : k < l.length) (h : digL l = true) : 48 ≤ l[k].toNat ∧ l[k].toNat ≤ 57 := by
  unfold digL at h
  rw [List.all_eq_true] at h
  have := h l[k] (List.getElem_mem hk)
  simpa [dgB] using this
theorem digL_no (l : List UInt8) (k : Nat) (hk : k < l.length) (h : dgB l[k] = false) : digL l = false := by
  unfold digL
  exact List.all_eq_false.2 ⟨l[k], List.getElem_mem hk, by simp [h]⟩
theorem digL_yes (l : List UInt8) (h : ∀ k (hk : k < l.length), dgB l[k] = true) : digL l = true := by
  unfold digL
  rw [List.all_eq_true]
  intro x hx
  obtain ⟨k, hk, rfl⟩ := List.getElem_of_mem hx
  exact h k hk
theorem get_dataV (l : List UInt8) (k : Nat) (h : k < l.length) : (⟨l.toArray⟩ : ByteArray)[k]'(by simpa [ByteArray.size] using h) = l[k] := by
  simp [ByteArray.getElem_eq_getElem_data]
set_option maxHeartbeats 1000000 in
set_option maxRecDepth 100000 in
theorem l06Digits_any (l : List UInt8) (w : World) (hl : l.length ≤ maxLen) :
    Calls Tryd.prog 25 #[.string ⟨l.toArray⟩] w fun e w' => e = .returned (.bool (digL l)) ∧ w' = w := by
  unfold maxLen at hl
  obtain ⟨R, hR⟩ : ∃ R, R = digL l := ⟨_, rfl⟩
  rw [← hR]
  have HR := hide hR
  clear hR
  go_enter Tryd.func25, Tryd.ntmps25
  go_wp2
  go_loop [3] (fun i => ∃ k : Nat, k ≤ l.length ∧ i = .int .i64 k ∧ Hid (∀ j (hj : j < l.length), j < k → dgB l[j] = true)) (fun i => l.length - (intOf i).toNat)
  case atStart => exact ⟨0, Nat.zero_le _, rfl, fun j hj h => absurd h (by omega)⟩
  case round =>
    obtain ⟨k, hk, rfl, HA⟩ := hrel
    by_cases hlt : k < l.length
    · have hg := get_dataV l k hlt
      have hsz : k < (⟨l.toArray⟩ : ByteArray).size := by simpa [ByteArray.size] using hlt
      by_cases h1 : ((l[k]'hlt).toNat : Int) < 48
      · have HN := hide (show R = false by rw [HR.out]; exact digL_no l k hlt (by simp [dgB]; omega))
        go_wp2
        go_ret
        exact ⟨ret_bool HN.out.symm, rfl⟩
      · by_cases h2 : 57 < ((l[k]'hlt).toNat : Int)
        · have HN := hide (show R = false by rw [HR.out]; exact digL_no l k hlt (by simp [dgB]; omega))
          go_wp2
          go_ret
          exact ⟨ret_bool HN.out.symm, rfl⟩
        · have HN := hide (show ∀ j (hj : j < l.length), j < k + 1 → dgB l[j] = true from fun j hj h => by
            by_cases e : j = k
            · subst e; simp [dgB]; omega
            · exact HA.out j hj (by omega))
          go_wp2
          go_round
          case rel => exact ⟨k + 1, by omega, by go_num, HN⟩
          case measure => simp [intOf]; omega
    · have HN := hide (show R = true by rw [HR.out]; exact digL_yes l (fun j hj => HA.out j hj (by omega)))
      go_wp2
      go_ret
      exact ⟨ret_bool HN.out.symm, rfl⟩
theorem sub48 (b : UInt8) (h0 : 48 ≤ b.toNat) : IntKind.u8.wrap ((b.toNat : Int) - 48) = ((b.toNat - 48 : Nat) : Int) := by
  have := UInt8.toNat_lt b
  simp only [IntKind.wrap, IntKind.signed, IntKind.bits]
  simp
  omega
set_option maxHeartbeats 2000000 in
set_option maxRecDepth 100000 in
theorem l06Num_any (l : List UInt8) (w : World) (hl : l.length ≤ 6) (hd : digL l = true) :
    Calls Tryd.prog 28 #[.string ⟨l.toArray⟩] w fun e w' => e = .returned (.int .i64 (numL l : Int)) ∧ w' = w := by
  have HD := hide hd
  clear hd
  go_enter Tryd.func28, Tryd.ntmps28
  go_wp2
  go_loop [3, 4] (fun n i => ∃ k : Nat, k ≤ l.length ∧ i = .int .i64 k ∧ n = .int .i64 (numL (l.take k) : Int)) (fun _ i => l.length - (intOf i).toNat)
  case atStart => exact ⟨0, Nat.zero_le _, rfl, rfl⟩
  case round =>
    obtain ⟨k, hk, rfl, rfl⟩ := hrel
    by_cases hlt : k < l.length
    · have hg := get_dataV l k hlt
      have hsz : k < (⟨l.toArray⟩ : ByteArray).size := by simpa [ByteArray.size] using hlt
      have hd := digL_at l k hlt HD.out
      have hw := sub48 l[k] hd.1
      have hu : (l[k].toNat - 48 : Nat) ≤ 9 := by omega
      have HN := hide (numL_succ l k hlt)
      have hb : numL (l.take k) < 100000 := by
        have h1 := numL_lt _ (digL_take l k HD.out)
        have h2 : (10 : Nat) ^ (l.take k).length ≤ 10 ^ 5 := Nat.pow_le_pow_right (by decide) (by rw [List.length_take]; omega)
        omega
      generalize l[k].toNat - 48 = D at *
      generalize numL (l.take k) = M at *
      go_wp2
      go_round
      case rel => exact ⟨k + 1, by omega, by go_num, by rw [HN.out]; go_num⟩
      case measure => simp [intOf]; omega
    · have HN := hide (show numL (l.take k) = numL l by rw [List.take_of_length_le (by omega)])
      go_wp2
      go_ret
      exact ⟨ret_int (by rw [HN.out]), rfl⟩
end Go.Proofs.YthlonjfjlkoojaaDoor
