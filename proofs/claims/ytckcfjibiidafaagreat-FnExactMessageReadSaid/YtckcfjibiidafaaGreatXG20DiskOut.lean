/- The same of what the disk's functions hand back: a disk, a text, a code. -/
import Derived.Test.YtckcfjibiidafaaGreatXG19DiskTo
import Derived.Deep.QuietTactic
import Derived.BigQuiet
import Derived.WalkSmall
namespace Go.Proofs.YtckcfjibiidafaaGreat
open Go.RowKit

end Go.Proofs.YtckcfjibiidafaaGreat
/- When a disk is right, as the specification asks it. -/
namespace Go.Proofs.YtckcfjibiidafaaGreat
open Go.RowKit

/-- The sectors are none too long. -/
def okS (xs : List ByteArray) : Bool := xs.all fun x => decide (x.size ≤ 64)
def okP (n : Nat) (ps : List (Int × ByteArray)) : Bool := ps.all fun x => decide (0 ≤ x.1) && decide (x.1 ≤ (n : Int) - 1) && decide (x.2.size ≤ 64)
/-- The disk is right. -/
def right (xs : List ByteArray) (ps : List (Int × ByteArray)) : Bool :=
  decide (1 ≤ xs.length) && decide (xs.length ≤ 64) && decide (ps.length ≤ 200) && okS xs && okP xs.length ps
theorem okS_step (xs : List ByteArray) (k : Nat) (h : k < xs.length) : okS (xs.drop k) = (decide ((xs[k]'h).size ≤ 64) && okS (xs.drop (k + 1))) := by
  rw [List.drop_eq_getElem_cons h]; rfl
theorem okP_step (n : Nat) (ps : List (Int × ByteArray)) (k : Nat) (h : k < ps.length) :
    okP n (ps.drop k) = (decide (0 ≤ (ps[k]'h).1) && decide ((ps[k]'h).1 ≤ (n : Int) - 1) && decide ((ps[k]'h).2.size ≤ 64) && okP n (ps.drop (k + 1))) := by
  rw [List.drop_eq_getElem_cons h]; rfl

end Go.Proofs.YtckcfjibiidafaaGreat
