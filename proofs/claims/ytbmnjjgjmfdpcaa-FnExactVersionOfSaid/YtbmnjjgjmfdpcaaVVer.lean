/- The versions and their texts, of the model and of the program. -/
import Derived.Test.YtbmnjjgjmfdpcaaRows
import Derived.WalkKit
import Derived.WalkSpells
import Derived.OpenShut
import Derived.Below
namespace Go.Proofs.Ytbmnjjgjmfdpcaa
open Go.RowKit
theorem hideV {p : Prop} (h : p) : Hid p := h
theorem ret_boolV {a b : Bool} (h : a = b) : Ending.returned (.bool a) = .returned (.bool b) := by rw [h]
theorem ret_strV {a b : ByteArray} (h : a = b) : Ending.returned (.string a) = .returned (.string b) := by rw [h]
theorem ret_intV {k : IntKind} {a b : Int} (h : a = b) : Ending.returned (.int k a) = .returned (.int k b) := by rw [h]
/-- The text of a version. -/
def verT (n : Int) : ByteArray := if n = 1 then ⟨#[50, 46, 51]⟩ else if n = 2 then ⟨#[50, 46, 53, 46, 49]⟩ else if n = 3 then ⟨#[50, 46, 55]⟩ else ⟨#[]⟩
/-- The version that a text names. -/
def verN (s : ByteArray) : Int := if s.toList == [50, 46, 51] then 1 else if s.toList == [50, 46, 53, 46, 49] then 2 else if s.toList == [50, 46, 55] then 3 else 0
def verB (n : Int) : Bool := decide (1 ≤ n) && decide (n ≤ 3)
theorem ver_parts (n : Int) : (n = 1) ∨ (n = 2) ∨ (n = 3) ∨ (¬ n = 1 ∧ ¬ n = 2 ∧ ¬ n = 3) := by omega
theorem l02Is_v (n lo hi : Int) (w : World) : Calls Try.prog 18 #[.int .i64 n, .int .i64 lo, .int .i64 hi] w fun e w' => e = .returned (.bool (decide (lo ≤ n) && decide (n ≤ hi))) ∧ w' = w := by
  by_cases h1 : lo ≤ n
  · by_cases h2 : n ≤ hi
    · go_enter Try.func18, Try.ntmps18
      go_wp2
      go_ret
      exact ⟨ret_boolV (by rw [decide_eq_true h1, decide_eq_true h2]; rfl), rfl⟩
    · go_enter Try.func18, Try.ntmps18
      go_wp2
      go_ret
      exact ⟨ret_boolV (by rw [decide_eq_false (by omega : ¬ n ≤ hi)]; first | done | rfl | simp), rfl⟩
  · go_enter Try.func18, Try.ntmps18
    go_wp2
    go_ret
    exact ⟨ret_boolV (by rw [decide_eq_false (by omega : ¬ lo ≤ n)]; rfl), rfl⟩
theorem l06Version_any (n : Int) (w : World) : Calls Try.prog 17 #[.int .i64 n] w fun e w' => e = .returned (.bool (verB n)) ∧ w' = w := by
  go_enter Try.func17, Try.ntmps17
  go_wp2_with fail
  refine (l02Is_v n 1 3 _).mono ?_
  rintro e w' ⟨rfl, rfl⟩
  rw [show (decide (1 ≤ n) && decide (n ≤ 3)) = verB n from rfl]
  go_wp2
  go_ret
  exact ⟨rfl, rfl⟩
set_option maxHeartbeats 1000000 in
theorem implVersionText_any (n : Int) (w : World) : Calls Try.prog 14 #[.int .i64 n] w fun e w' => e = .returned (.string (verT n)) ∧ w' = w := by
  rcases ver_parts n with rfl | rfl | rfl | ⟨h1, h2, h3⟩
  · go_enter Try.func14, Try.ntmps14
    go_wp2
    go_ret
    exact ⟨rfl, rfl⟩
  · go_enter Try.func14, Try.ntmps14
    go_wp2
    go_ret
    exact ⟨rfl, rfl⟩
  · go_enter Try.func14, Try.ntmps14
    go_wp2
    go_ret
    exact ⟨rfl, rfl⟩
  · have HN := hideV (show verT n = ⟨#[]⟩ by simp [verT, h1, h2, h3])
    go_enter Try.func14, Try.ntmps14
    go_wp2
    go_ret
    exact ⟨ret_strV HN.out.symm, rfl⟩
set_option maxHeartbeats 1000000 in
theorem specVersionText_any (n : Int) (w : World) : Calls Try.prog 13 #[.int .i64 n] w fun e w' => e = .returned (.string (verT n)) ∧ Below w.heap.size w w' := by
  rcases ver_parts n with rfl | rfl | rfl | ⟨h1, h2, h3⟩
  · go_enter Try.func13, Try.ntmps13
    go_wp2_with fail
    refine (l06Version_any _ _).mono ?_
    rintro e w' ⟨rfl, rfl⟩
    rw [show verB 1 = true from rfl]
    go_wp2
    go_ret
    exact ⟨rfl, (Below.refl _ _).alloc (Nat.le_refl _) _⟩
  · go_enter Try.func13, Try.ntmps13
    go_wp2_with fail
    refine (l06Version_any _ _).mono ?_
    rintro e w' ⟨rfl, rfl⟩
    rw [show verB 2 = true from rfl]
    go_wp2
    go_ret
    exact ⟨rfl, (Below.refl _ _).alloc (Nat.le_refl _) _⟩
  · go_enter Try.func13, Try.ntmps13
    go_wp2_with fail
    refine (l06Version_any _ _).mono ?_
    rintro e w' ⟨rfl, rfl⟩
    rw [show verB 3 = true from rfl]
    go_wp2
    go_ret
    exact ⟨rfl, (Below.refl _ _).alloc (Nat.le_refl _) _⟩
  · have HN := hideV (show verT n = ⟨#[]⟩ by simp [verT, h1, h2, h3])
    have HB : verB n = false := by simp [verB]; omega
    go_enter Try.func13, Try.ntmps13
    go_wp2_with fail
    refine (l06Version_any _ _).mono ?_
    rintro e w' ⟨rfl, rfl⟩
    rw [HB]
    go_wp2
    go_ret
    exact ⟨ret_strV HN.out.symm, Below.refl _ _⟩
set_option maxHeartbeats 1000000 in
theorem implVersionOf_any (s : ByteArray) (w : World) : Calls Try.prog 12 #[.string s] w fun e w' => e = .returned (.int .i64 (verN s)) ∧ w' = w := by
  unfold verN
  cases h1 : s.toList == [50, 46, 51]
  · cases h2 : s.toList == [50, 46, 53, 46, 49]
    · cases h3 : s.toList == [50, 46, 55]
      · go_enter Try.func12, Try.ntmps12
        go_wp2
        go_ret
        exact ⟨rfl, rfl⟩
      · go_enter Try.func12, Try.ntmps12
        go_wp2
        go_ret
        exact ⟨rfl, rfl⟩
    · go_enter Try.func12, Try.ntmps12
      go_wp2
      go_ret
      exact ⟨rfl, rfl⟩
  · go_enter Try.func12, Try.ntmps12
    go_wp2
    go_ret
    exact ⟨rfl, rfl⟩
end Go.Proofs.Ytbmnjjgjmfdpcaa
