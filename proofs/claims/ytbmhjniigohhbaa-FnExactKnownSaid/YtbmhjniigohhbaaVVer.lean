/- The versions and their texts, of the model and of the program. -/
import Derived.Test.YtbmhjniigohhbaaRows
import Derived.WalkKit
import Derived.WalkSpells
import Derived.OpenShut
import Derived.Below
namespace Go.Proofs.Ytbmhjniigohhbaa
open Go.RowKit
theorem hideV {p : Prop} (h : p) : Hid p := h
theorem ret_boolV {a b : Bool} (h : a = b) : Ending.returned (.bool a) = .returned (.bool b) := by rw [h]
theorem ret_strV {a b : ByteArray} (h : a = b) : Ending.returned (.string a) = .returned (.string b) := by rw [h]
theorem ret_intV {k : IntKind} {a b : Int} (h : a = b) : Ending.returned (.int k a) = .returned (.int k b) := by rw [h]
/-- The text of a version. -/
def verT (n : Int) : ByteArray := if n = 1 then ⟨#[50, 46, 51]⟩ else if n = 2 then ⟨#[50, 46, 53, 46, 49]⟩ else if n = 3 then ⟨#[50, 46, 55]⟩ else ⟨#[]⟩
/-- The version that a text names. -/
def verN (s : ByteArray) : Int := if s.toList == [50, 46, 51] then 1 else if s.toList == [50, 46, 53, 46, 49] then 2 else if s.toList == [50, 46, 55] then 3 else 0
def verB (n : Int) : Bool := decide (1 ≤ n) && decide (n ≤ 3)
theorem ver_parts (n : Int) : (n = 1) ∨ (n = 2) ∨ (n = 3) ∨ (¬ n = 1 ∧ ¬ n = 2 ∧ ¬ n = 3) := by omega
theorem l02Is_v (n lo hi : Int) (w : World) : Calls Try.prog 10 #[.int .i64 n, .int .i64 lo, .int .i64 hi] w fun e w' => e = .returned (.bool (decide (lo ≤ n) && decide (n ≤ hi))) ∧ w' = w := by
  by_cases h1 : lo ≤ n
  · by_cases h2 : n ≤ hi
    · go_enter Try.func10, Try.ntmps10
      go_wp2
      go_ret
      exact ⟨ret_boolV (by rw [decide_eq_true h1, decide_eq_true h2]; rfl), rfl⟩
    · go_enter Try.func10, Try.ntmps10
      go_wp2
      go_ret
      exact ⟨ret_boolV (by rw [decide_eq_false (by omega : ¬ n ≤ hi)]; first | done | rfl | simp), rfl⟩
  · go_enter Try.func10, Try.ntmps10
    go_wp2
    go_ret
    exact ⟨ret_boolV (by rw [decide_eq_false (by omega : ¬ lo ≤ n)]; rfl), rfl⟩
theorem l06Version_any (n : Int) (w : World) : Calls Try.prog 7 #[.int .i64 n] w fun e w' => e = .returned (.bool (verB n)) ∧ w' = w := by
  go_enter Try.func7, Try.ntmps7
  go_wp2_with fail
  refine (l02Is_v n 1 3 _).mono ?_
  rintro e w' ⟨rfl, rfl⟩
  rw [show (decide (1 ≤ n) && decide (n ≤ 3)) = verB n from rfl]
  go_wp2
  go_ret
  exact ⟨rfl, rfl⟩
theorem versionRight_any (n : Int) (w : World) : Calls Try.prog 11 #[.int .i64 n] w fun e w' => e = .returned (.bool (verB n)) ∧ w' = w := by
  unfold verB
  by_cases h1 : 1 ≤ n
  · by_cases h2 : n ≤ 3
    · go_enter Try.func11, Try.ntmps11
      go_wp2
      go_ret
      exact ⟨ret_boolV (by rw [decide_eq_true h1, decide_eq_true h2]; rfl), rfl⟩
    · go_enter Try.func11, Try.ntmps11
      go_wp2
      go_ret
      exact ⟨ret_boolV (by rw [decide_eq_false (by omega : ¬ n ≤ 3)]; first | done | rfl | simp), rfl⟩
  · go_enter Try.func11, Try.ntmps11
    go_wp2
    go_ret
    exact ⟨ret_boolV (by rw [decide_eq_false (by omega : ¬ 1 ≤ n)]; rfl), rfl⟩
end Go.Proofs.Ytbmhjniigohhbaa
