/- The same of what the disk's functions hand back: a disk, a text, a code. -/
import Derived.Test.YtmkcmajpepehmaaGreatXG8DiskTo
import Derived.Deep.QuietTactic
import Derived.BigQuiet
import Derived.WalkSmall
namespace Go.Proofs.YtmkcmajpepehmaaGreat
open Go.RowKit

end Go.Proofs.YtmkcmajpepehmaaGreat
/- When a disk is right, as the specification asks it. -/
namespace Go.Proofs.YtmkcmajpepehmaaGreat
open Go.RowKit

theorem l02Is_yes (n lo hi : Int) (w : World) (h1 : lo ≤ n) (h2 : n ≤ hi) :
    Calls Tryz.prog 60 #[.int .i64 n, .int .i64 lo, .int .i64 hi] w fun e w' => e = .returned (.bool true) ∧ w' = w := by
  go_enter Tryz.func60, Tryz.ntmps60
  go_wp2
  go_ret
  exact ⟨ret_bool (by first | rfl | exact decide_eq_true h2), rfl⟩
theorem l02Is_no (n lo hi : Int) (w : World) (h : ¬ (lo ≤ n ∧ n ≤ hi)) :
    Calls Tryz.prog 60 #[.int .i64 n, .int .i64 lo, .int .i64 hi] w fun e w' => e = .returned (.bool false) ∧ w' = w := by
  by_cases h1 : lo ≤ n
  · have h2 : ¬ (n ≤ hi) := fun x => h ⟨h1, x⟩
    clear h
    go_enter Tryz.func60, Tryz.ntmps60
    go_wp2
    go_ret
    exact ⟨ret_bool (by first | rfl | exact decide_eq_false h2), rfl⟩
  · clear h
    go_enter Tryz.func60, Tryz.ntmps60
    go_wp2
    go_ret
    exact ⟨rfl, rfl⟩

/-- The sectors are none too long. -/
def okS (xs : List ByteArray) : Bool := xs.all fun x => decide (x.size ≤ 64)
def okP (n : Nat) (ps : List (Int × ByteArray)) : Bool := ps.all fun x => decide (0 ≤ x.1) && decide (x.1 ≤ (n : Int) - 1) && decide (x.2.size ≤ 64)
/-- The disk is right. -/
def right (xs : List ByteArray) (ps : List (Int × ByteArray)) : Bool :=
  decide (1 ≤ xs.length) && decide (xs.length ≤ 64) && decide (ps.length ≤ 200) && okS xs && okP xs.length ps
theorem okS_step (xs : List ByteArray) (k : Nat) (h : k < xs.length) : okS (xs.drop k) = (decide ((xs[k]'h).size ≤ 64) && okS (xs.drop (k + 1))) := by
  rw [List.drop_eq_getElem_cons h]; rfl
theorem okP_step (n : Nat) (ps : List (Int × ByteArray)) (k : Nat) (h : k < ps.length) :
    okP n (ps.drop k) = (decide (0 ≤ (ps[k]'h).1) && decide ((ps[k]'h).1 ≤ (n : Int) - 1) && decide ((ps[k]'h).2.size ≤ 64) && okP n (ps.drop (k + 1))) := by
  rw [List.drop_eq_getElem_cons h]; rfl

end Go.Proofs.YtmkcmajpepehmaaGreat
