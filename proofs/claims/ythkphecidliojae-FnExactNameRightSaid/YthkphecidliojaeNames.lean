/- A byte that a name may have, and NameRight of the program and of the model: both answer the same Lean function of the text's bytes. -/
import Derived.Test.YthkphecidliojaeRows
import Derived.WalkKit
namespace Go.Proofs.Ythkphecidliojae
open Go.RowKit

/-- May a byte stand in a name (at its head, if 'first')? -/
def okByte (c : Int) (first : Bool) : Bool := decide (97 ≤ c ∧ c ≤ 122) || (!first && (decide (48 ≤ c ∧ c ≤ 57) || decide (c = 95)))

theorem ret_bool {a b : Bool} (h : a = b) : Ending.returned (.bool a) = .returned (.bool b) := by rw [h]
theorem byte_parts2 (c : Int) : (c < 48 ∧ (c != 95) = true) ∨ (48 ≤ c ∧ c ≤ 57) ∨ (58 ≤ c ∧ c ≤ 94 ∧ decide (c ≤ 57) = false ∧ (c != 95) = true) ∨ c = 95 ∨ c = 96 ∨ (97 ≤ c ∧ c ≤ 122) ∨
    (123 ≤ c ∧ decide (c ≤ 122) = false ∧ decide (c ≤ 57) = false ∧ (c != 95) = true) := by
  simp
  omega
theorem hide {p : Prop} (h : p) : Hid p := h
theorem byte_parts (c : Int) : c < 48 ∨ (48 ≤ c ∧ c ≤ 57) ∨ (58 ≤ c ∧ c ≤ 94) ∨ c = 95 ∨ c = 96 ∨ (97 ≤ c ∧ c ≤ 122) ∨ 123 ≤ c := by omega

set_option maxHeartbeats 400000 in
theorem isNameByte_any (c : Int) (first : Bool) (w : World) (h0 : 0 ≤ c) (h1 : c ≤ 255) :
    Calls Try.prog 15 #[.int .u8 c, .bool first] w fun e w' => e = .returned (.bool (okByte c first)) ∧ w' = w := by
  rcases byte_parts c with h | ⟨h, h'⟩ | ⟨h, h'⟩ | h | h | ⟨h, h'⟩ | h
  all_goals try subst h
  all_goals cases first
  all_goals
    go_enter Try.func15, Try.ntmps15
    go_wp2
    go_ret
    refine ⟨ret_bool ?_, rfl⟩
    rw [Bool.eq_iff_iff]
    simp [okByte] <;> omega

def okAt (s : ByteArray) (j : Nat) : Bool := if h : j < s.size then okByte ((s[j]'h).toNat : Int) ((j : Int) == 0) else true

def nameB (s : ByteArray) : Bool := decide (1 ≤ s.size) && decide (s.size ≤ 20) && (List.range s.size).all (okAt s)

theorem nameB_short (s : ByteArray) (h : s.size < 1) : nameB s = false := by
  have : ¬ 1 ≤ s.size := by omega
  simp [nameB, this]
theorem nameB_long (s : ByteArray) (h : 20 < s.size) : nameB s = false := by
  have : ¬ s.size ≤ 20 := by omega
  simp [nameB, this]
theorem nameB_yes (s : ByteArray) (h1 : 1 ≤ s.size) (h2 : s.size ≤ 20) (h : ∀ j, j < s.size → okAt s j = true) : nameB s = true := by
  simp [nameB, h1, h2, List.all_eq_true]
  exact h
theorem nameB_no (s : ByteArray) (k : Nat) (hk : k < s.size) (h : okAt s k = false) : nameB s = false := by
  simp only [nameB, Bool.and_eq_false_iff]
  exact .inr (List.all_eq_false.2 ⟨k, List.mem_range.2 hk, by simp [h]⟩)

theorem okAt_eq (s : ByteArray) (k : Nat) (hk : k < s.size) : okAt s k = okByte ((s[k]'hk).toNat : Int) ((k : Int) == 0) := by
  simp [okAt, hk]


theorem okAt_succ (s : ByteArray) (k : Nat) (h : ∀ j, j < k → okAt s j = true) (hk : okAt s k = true) : ∀ j, j < k + 1 → okAt s j = true := by
  intro j hj
  by_cases e : j = k
  · rw [e]; exact hk
  · exact h j (by omega)

set_option maxHeartbeats 1000000 in
theorem implNameRight_any (s : ByteArray) (w : World) (hs : s.size ≤ maxLen) :
    Calls Try.prog 11 #[.string s] w fun e w' => e = .returned (.bool (nameB s)) ∧ w' = w := by
  unfold maxLen at hs
  by_cases h1 : s.size < 1
  · go_enter Try.func11, Try.ntmps11
    go_wp2
    go_ret
    exact ⟨ret_bool (nameB_short s h1).symm, rfl⟩
  by_cases h2 : 20 < s.size
  · go_enter Try.func11, Try.ntmps11
    go_wp2
    go_ret
    exact ⟨ret_bool (nameB_long s h2).symm, rfl⟩
  go_enter Try.func11, Try.ntmps11
  go_wp2
  go_loop [3] (fun i => ∃ k : Nat, k ≤ s.size ∧ i = .int .i64 k ∧ ∀ j, j < k → okAt s j = true) (fun i => s.size - (intOf i).toNat)
  case atStart => exact ⟨0, Nat.zero_le _, rfl, fun j hj => absurd hj (by omega)⟩
  case round =>
    obtain ⟨k, hk, rfl, hall⟩ := hrel
    have HA := hide hall
    clear hall
    by_cases hlt : k < s.size
    · have hc := okAt_eq s k hlt
      have hb : ((s[k]'hlt).toNat : Int) ≤ 255 := by have := (s[k]'hlt).toNat_lt; omega
      have HO := hide hc
      clear hc
      go_wp2_with fail
      refine (isNameByte_any _ _ _ (by omega) hb).mono ?_
      rintro e w' ⟨rfl, rfl⟩
      cases hv : okByte ((s[k]'hlt).toNat : Int) ((k : Int) == 0)
      · rw [hv] at HO
        clear hv
        go_wp2
        go_ret
        exact ⟨ret_bool (nameB_no s k hlt HO.out).symm, rfl⟩
      · rw [hv] at HO
        clear hv
        go_wp2
        go_round
        case rel => exact ⟨k + 1, by omega, by go_num, okAt_succ s k HA.out HO.out⟩
        case measure => simp [intOf]; omega
    · go_wp2
      go_ret
      exact ⟨ret_bool (nameB_yes s (by omega) (by omega) (fun j hj => HA.out j (by omega))).symm, rfl⟩

set_option maxHeartbeats 1000000 in
theorem specNameRight_any (s : ByteArray) (w : World) (hs : s.size ≤ maxLen) :
    Calls Try.prog 10 #[.string s] w fun e w' => e = .returned (.bool (nameB s)) ∧ w' = w := by
  unfold maxLen at hs
  by_cases h1 : s.size < 1
  · go_enter Try.func10, Try.ntmps10
    go_wp2
    go_ret
    exact ⟨ret_bool (nameB_short s h1).symm, rfl⟩
  by_cases h2 : 20 < s.size
  · go_enter Try.func10, Try.ntmps10
    go_wp2
    go_ret
    exact ⟨ret_bool (nameB_long s h2).symm, rfl⟩
  go_enter Try.func10, Try.ntmps10
  go_wp2
  go_loop [3] (fun i => ∃ k : Nat, k ≤ s.size ∧ i = .int .i64 k ∧ ∀ j, j < k → okAt s j = true) (fun i => s.size - (intOf i).toNat)
  case atStart => exact ⟨0, Nat.zero_le _, rfl, fun j hj => absurd hj (by omega)⟩
  case round =>
    obtain ⟨k, hk, rfl, hall⟩ := hrel
    have HA := hide hall
    clear hall
    by_cases hlt : k < s.size
    · have hc := okAt_eq s k hlt
      have hb : ((s[k]'hlt).toNat : Int) ≤ 255 := by have := (s[k]'hlt).toNat_lt; omega
      have HO := hide hc
      clear hc
      rcases (show k = 0 ∨ 0 < k by omega) with rfl | hk0
      · rcases byte_parts2 ((s[0]'hlt).toNat : Int) with ⟨h, h2⟩ | ⟨h, h'⟩ | ⟨h, h', h2, h3⟩ | h | h | ⟨h, h'⟩ | ⟨h, h2, h3, h4⟩
        all_goals go_wp2
        all_goals first
          | (go_ret; exact ⟨ret_bool (nameB_no s 0 hlt (by rw [HO.out]; simp [okByte]; omega)).symm, rfl⟩)
          | (go_round
             case rel => exact ⟨1, by omega, rfl, okAt_succ s 0 HA.out (by rw [HO.out]; simp [okByte]; omega)⟩
             case measure => simp [intOf]; omega)
          | (exfalso; simp at *; omega)
      · have hk1 : ((k : Int) == 0) = false := by simp; omega
        rcases byte_parts2 ((s[k]'hlt).toNat : Int) with ⟨h, h2⟩ | ⟨h, h'⟩ | ⟨h, h', h2, h3⟩ | h | h | ⟨h, h'⟩ | ⟨h, h2, h3, h4⟩
        all_goals go_wp2
        all_goals first
          | (go_ret; exact ⟨ret_bool (nameB_no s k hlt (by rw [HO.out]; simp [okByte]; omega)).symm, rfl⟩)
          | (go_round
             case rel => exact ⟨k + 1, by omega, by go_num, okAt_succ s k HA.out (by rw [HO.out]; simp [okByte]; omega)⟩
             case measure => simp [intOf]; omega)
          | (exfalso; simp at *; omega)
    · go_wp2
      go_ret
      exact ⟨ret_bool (nameB_yes s (by omega) (by omega) (fun j hj => HA.out j (by omega))).symm, rfl⟩
end Go.Proofs.Ythkphecidliojae
