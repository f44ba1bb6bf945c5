/- Where a byte stands in a text, as the library's IndexByte, IndexRune (at a rune below 128) and ContainsRune tell it; what a mark may be; what is plain. -/
import Derived.Test.YtbhdbkffejlfmaaGreatDoorRows
import Derived.WalkKit
import Derived.WalkSpells
import Derived.Lib.Bytealg
import Derived.Laws.RangeAny
import Derived.OpenShut
namespace Go.Proofs.YtbhdbkffejlfmaaGreatDoor
open Go.RowKit
theorem hideF {p : Prop} (h : p) : Hid p := h
theorem ret_boolF {a b : Bool} (h : a = b) : Ending.returned (.bool a) = .returned (.bool b) := by rw [h]

end Go.Proofs.YtbhdbkffejlfmaaGreatDoor

/- MarksRight of the program and of the model: both answer the same Lean function of the text's bytes. -/
namespace Go.Proofs.YtbhdbkffejlfmaaGreatDoor
open Go.RowKit

end Go.Proofs.YtbhdbkffejlfmaaGreatDoor

/- A byte that a name may have, and NameRight of the program and of the model: both answer the same Lean function of the text's bytes. -/
namespace Go.Proofs.YtbhdbkffejlfmaaGreatDoor
open Go.RowKit

/-- May a byte stand in a name (at its head, if 'first')? -/
def idByte (c : Int) (first : Bool) : Bool := decide (97 ≤ c ∧ c ≤ 122) || (!first && (decide (48 ≤ c ∧ c ≤ 57) || decide (c = 95)))

theorem id_parts2 (c : Int) : (c < 48 ∧ (c != 95) = true) ∨ (48 ≤ c ∧ c ≤ 57) ∨ (58 ≤ c ∧ c ≤ 94 ∧ decide (c ≤ 57) = false ∧ (c != 95) = true) ∨ c = 95 ∨ c = 96 ∨ (97 ≤ c ∧ c ≤ 122) ∨
    (123 ≤ c ∧ decide (c ≤ 122) = false ∧ decide (c ≤ 57) = false ∧ (c != 95) = true) := by
  simp
  omega
theorem id_parts (c : Int) : c < 48 ∨ (48 ≤ c ∧ c ≤ 57) ∨ (58 ≤ c ∧ c ≤ 94) ∨ c = 95 ∨ c = 96 ∨ (97 ≤ c ∧ c ≤ 122) ∨ 123 ≤ c := by omega

set_option maxHeartbeats 400000 in
theorem isNameByte_any (c : Int) (first : Bool) (w : World) (h0 : 0 ≤ c) (h1 : c ≤ 255) :
    Calls Tryz.prog 111 #[.int .u8 c, .bool first] w fun e w' => e = .returned (.bool (idByte c first)) ∧ w' = w := by
  rcases id_parts c with h | ⟨h, h'⟩ | ⟨h, h'⟩ | h | h | ⟨h, h'⟩ | h
  all_goals try subst h
  all_goals cases first
  all_goals
    go_enter Tryz.func111, Tryz.ntmps111
    go_wp2
    go_ret
    refine ⟨ret_boolF ?_, rfl⟩
    rw [Bool.eq_iff_iff]
    simp [idByte] <;> omega

def idAt (s : ByteArray) (j : Nat) : Bool := if h : j < s.size then idByte ((s[j]'h).toNat : Int) ((j : Int) == 0) else true

def idB (s : ByteArray) : Bool := decide (1 ≤ s.size) && decide (s.size ≤ 20) && (List.range s.size).all (idAt s)

theorem idB_short (s : ByteArray) (h : s.size < 1) : idB s = false := by
  have : ¬ 1 ≤ s.size := by omega
  simp [idB, this]
theorem idB_long (s : ByteArray) (h : 20 < s.size) : idB s = false := by
  have : ¬ s.size ≤ 20 := by omega
  simp [idB, this]
theorem idB_yes (s : ByteArray) (h1 : 1 ≤ s.size) (h2 : s.size ≤ 20) (h : ∀ j, j < s.size → idAt s j = true) : idB s = true := by
  simp [idB, h1, h2, List.all_eq_true]
  exact h
theorem idB_no (s : ByteArray) (k : Nat) (hk : k < s.size) (h : idAt s k = false) : idB s = false := by
  simp only [idB, Bool.and_eq_false_iff]
  exact .inr (List.all_eq_false.2 ⟨k, List.mem_range.2 hk, by simp [h]⟩)

theorem idAt_eq (s : ByteArray) (k : Nat) (hk : k < s.size) : idAt s k = idByte ((s[k]'hk).toNat : Int) ((k : Int) == 0) := by
  simp [idAt, hk]


theorem idAt_succ (s : ByteArray) (k : Nat) (h : ∀ j, j < k → idAt s j = true) (hk : idAt s k = true) : ∀ j, j < k + 1 → idAt s j = true := by
  intro j hj
  by_cases e : j = k
  · rw [e]; exact hk
  · exact h j (by omega)

set_option maxHeartbeats 1000000 in
theorem implNameRight_any (s : ByteArray) (w : World) (hs : s.size ≤ maxLen) :
    Calls Tryz.prog 81 #[.string s] w fun e w' => e = .returned (.bool (idB s)) ∧ w' = w := by
  unfold maxLen at hs
  by_cases h1 : s.size < 1
  · go_enter Tryz.func81, Tryz.ntmps81
    go_wp2
    go_ret
    exact ⟨ret_boolF (idB_short s h1).symm, rfl⟩
  by_cases h2 : 20 < s.size
  · go_enter Tryz.func81, Tryz.ntmps81
    go_wp2
    go_ret
    exact ⟨ret_boolF (idB_long s h2).symm, rfl⟩
  go_enter Tryz.func81, Tryz.ntmps81
  go_wp2
  go_loop [3] (fun i => ∃ k : Nat, k ≤ s.size ∧ i = .int .i64 k ∧ ∀ j, j < k → idAt s j = true) (fun i => s.size - (intOf i).toNat)
  case atStart => exact ⟨0, Nat.zero_le _, rfl, fun j hj => absurd hj (by omega)⟩
  case round =>
    obtain ⟨k, hk, rfl, hall⟩ := hrel
    have HA := hideF hall
    clear hall
    by_cases hlt : k < s.size
    · have hc := idAt_eq s k hlt
      have hb : ((s[k]'hlt).toNat : Int) ≤ 255 := by have := (s[k]'hlt).toNat_lt; omega
      have HO := hideF hc
      clear hc
      go_wp2_with fail
      refine (isNameByte_any _ _ _ (by omega) hb).mono ?_
      rintro e w' ⟨rfl, rfl⟩
      cases hv : idByte ((s[k]'hlt).toNat : Int) ((k : Int) == 0)
      · rw [hv] at HO
        clear hv
        go_wp2
        go_ret
        exact ⟨ret_boolF (idB_no s k hlt HO.out).symm, rfl⟩
      · rw [hv] at HO
        clear hv
        go_wp2
        go_round
        case rel => exact ⟨k + 1, by omega, by go_num, idAt_succ s k HA.out HO.out⟩
        case measure => simp [intOf]; omega
    · go_wp2
      go_ret
      exact ⟨ret_boolF (idB_yes s (by omega) (by omega) (fun j hj => HA.out j (by omega))).symm, rfl⟩

set_option maxHeartbeats 1000000 in
theorem specNameRight_any (s : ByteArray) (w : World) (hs : s.size ≤ maxLen) :
    Calls Tryz.prog 65 #[.string s] w fun e w' => e = .returned (.bool (idB s)) ∧ w' = w := by
  unfold maxLen at hs
  by_cases h1 : s.size < 1
  · go_enter Tryz.func65, Tryz.ntmps65
    go_wp2
    go_ret
    exact ⟨ret_boolF (idB_short s h1).symm, rfl⟩
  by_cases h2 : 20 < s.size
  · go_enter Tryz.func65, Tryz.ntmps65
    go_wp2
    go_ret
    exact ⟨ret_boolF (idB_long s h2).symm, rfl⟩
  go_enter Tryz.func65, Tryz.ntmps65
  go_wp2
  go_loop [3] (fun i => ∃ k : Nat, k ≤ s.size ∧ i = .int .i64 k ∧ ∀ j, j < k → idAt s j = true) (fun i => s.size - (intOf i).toNat)
  case atStart => exact ⟨0, Nat.zero_le _, rfl, fun j hj => absurd hj (by omega)⟩
  case round =>
    obtain ⟨k, hk, rfl, hall⟩ := hrel
    have HA := hideF hall
    clear hall
    by_cases hlt : k < s.size
    · have hc := idAt_eq s k hlt
      have hb : ((s[k]'hlt).toNat : Int) ≤ 255 := by have := (s[k]'hlt).toNat_lt; omega
      have HO := hideF hc
      clear hc
      rcases (show k = 0 ∨ 0 < k by omega) with rfl | hk0
      · rcases id_parts2 ((s[0]'hlt).toNat : Int) with ⟨h, h2⟩ | ⟨h, h'⟩ | ⟨h, h', h2, h3⟩ | h | h | ⟨h, h'⟩ | ⟨h, h2, h3, h4⟩
        all_goals go_wp2
        all_goals first
          | (go_ret; exact ⟨ret_boolF (idB_no s 0 hlt (by rw [HO.out]; simp [idByte]; omega)).symm, rfl⟩)
          | (go_round
             case rel => exact ⟨1, by omega, rfl, idAt_succ s 0 HA.out (by rw [HO.out]; simp [idByte]; omega)⟩
             case measure => simp [intOf]; omega)
          | (exfalso; simp at *; omega)
      · have hk1 : ((k : Int) == 0) = false := by simp; omega
        rcases id_parts2 ((s[k]'hlt).toNat : Int) with ⟨h, h2⟩ | ⟨h, h'⟩ | ⟨h, h', h2, h3⟩ | h | h | ⟨h, h'⟩ | ⟨h, h2, h3, h4⟩
        all_goals go_wp2
        all_goals first
          | (go_ret; exact ⟨ret_boolF (idB_no s k hlt (by rw [HO.out]; simp [idByte]; omega)).symm, rfl⟩)
          | (go_round
             case rel => exact ⟨k + 1, by omega, by go_num, idAt_succ s k HA.out (by rw [HO.out]; simp [idByte]; omega)⟩
             case measure => simp [intOf]; omega)
          | (exfalso; simp at *; omega)
    · go_wp2
      go_ret
      exact ⟨ret_boolF (idB_yes s (by omega) (by omega) (fun j hj => HA.out j (by omega))).symm, rfl⟩
end Go.Proofs.YtbhdbkffejlfmaaGreatDoor
