/-
  NARROWER THAN 'FOR EVERY INPUT', by the rows' own cells (each row's printed sentence says how): FnDisk: ifaces, laid.
  DERIVED. THE GIVEN ROWS OF THIS SEAT. 1 by the template 'for every input the law returns true; each argument reads behind the call as it read before'; 0 by the template 'total and deterministic' (their statements: YtdnbfnahhkmmnaaDoorTotals.lean).
  GIVEN WITH THE SEED: the statements are not yours to turn. If you find one false, say at which input.
  Laid BY PROGRAM, IN A SANDBOX (cutbox-rows.mjs): the forced cells as the released guide's own fill.sh prints them over the translation 7079b1a86c2025ed… (all of the seat's roots in one cut). By AI agents, Wed Nov 11 2026. No macro, syntax, notation, axiom, sorry.
-/
import Derived.Test.YtdnbfnahhkmmnaaDoorChecked
import GoSem.Claim
import GoSem.ClaimJoined
import GoSem.ClaimMapViews
import Derived.JoinedTies
import Derived.KernelRfl
namespace Go.Proofs.YtdnbfnahhkmmnaaDoor
/- THE CELL 'sum', in the pinned program and in every row, IS THE sha256 OF THE DUMP (.gsa) THAT YtdnbfnahhkmmnaaDoorProg.lean LOADS. Nothing in Lean hashes anything: it is a label: what it is worth is what the hold of that sum in a sandbox is worth. -/
noncomputable def Tryd.pinned : Pinned := { name := "ytdnbfnahhkmmnaadoor", sum := "7079b1a86c2025edc6603db64ca08ce1fe785d9bbde088967ac2243845644ca8", checked := Tryd.checked }
namespace Rows
def none {H : Type} : Left H := { results := [], args := [] }

/- WHAT THE LISTED PACKAGE-LEVEL VARIABLES READ AS WHEN THE CALL BEGINS. Each datum BY PROGRAM (the guide's laid-datum.mjs) off the statement by which the dump's own 'gosem.cut.vars' lays the variable. In a bare row this is a premise. The card (YtdnbfnahhkmmnaaDoorCards.lean) ties it to the program's text. -/
def laid_loop_example_g00416_impl_errDiskForm {H : Type} : DataW H := .iface "*errors.errorString" (.ptr (.agg [.lit (.string [116, 104, 101, 32, 100, 105, 115, 107, 44, 32, 111, 114, 32, 119, 104, 97, 116, 32, 105, 115, 32, 116, 111, 32, 98, 101, 32, 119, 114, 105, 116, 116, 101, 110, 44, 32, 105, 115, 32, 110, 111, 116, 32, 114, 105, 103, 104, 116])]))
def laid_loop_example_g00416_impl_errDiskRange {H : Type} : DataW H := .iface "*errors.errorString" (.ptr (.agg [.lit (.string [116, 104, 101, 32, 100, 105, 115, 107, 32, 104, 97, 115, 32, 110, 111, 32, 115, 117, 99, 104, 32, 115, 101, 99, 116, 111, 114])]))
def laid_loop_example_g00416_impl_errDiskFull {H : Type} : DataW H := .iface "*errors.errorString" (.ptr (.agg [.lit (.string [116, 111, 111, 32, 109, 117, 99, 104, 32, 105, 115, 32, 112, 101, 110, 100, 105, 110, 103])]))

/-- 'laws.FnDisk': WHATEVER THE INPUT: true; the input reads as it did. -/
def fnDiskSpec : ChangeSpec := { name := "fnDisk", vars := ["loop.example/g00416/impl.errDiskFull", "loop.example/g00416/impl.errDiskForm", "loop.example/g00416/impl.errDiskRange"], fn := fun _ => fun
  | [d1, d2, g1, g2, g3] => { results := [.lit (.bool true)], args := [d1, d2], vars := [g1, g2, g3] }
  | _ => none }
def fnDiskRow : OpenClaim := { program := "ytdnbfnahhkmmnaadoor", sum := "7079b1a86c2025edc6603db64ca08ce1fe785d9bbde088967ac2243845644ca8", func := "loop.example/g00416/laws.FnDisk", spec := "fnDisk", inPlace := ["internal/reflectlite.TypeOf"], unfollowed := true, recurses := true, named := ["loop.example/g00416/impl.errDiskFull", "loop.example/g00416/impl.errDiskForm", "loop.example/g00416/impl.errDiskRange"], ifaces := true, apart := false, laid := [("loop.example/g00416/impl.errDiskForm", laid_loop_example_g00416_impl_errDiskForm), ("loop.example/g00416/impl.errDiskRange", laid_loop_example_g00416_impl_errDiskRange), ("loop.example/g00416/impl.errDiskFull", laid_loop_example_g00416_impl_errDiskFull)] }
def FnDiskSaid : Prop := fnDiskRow.holds Tryd.pinned (OpenSpec.ofChange fnDiskSpec)

/-- ITS FALSE NEIGHBOUR: 'it returns false'. Refute it at one input. -/
def fnDiskWrong : ChangeSpec := { name := "fnDisk", vars := ["loop.example/g00416/impl.errDiskFull", "loop.example/g00416/impl.errDiskForm", "loop.example/g00416/impl.errDiskRange"], fn := fun _ => fun
  | [d1, d2, g1, g2, g3] => { results := [.lit (.bool false)], args := [d1, d2], vars := [g1, g2, g3] }
  | _ => none }
def FnDiskWrongFalsely : Prop := fnDiskRow.holds Tryd.pinned (OpenSpec.ofChange fnDiskWrong)

/- THE SECOND FORM. 'bulk': how many values and letters a reading holds, each counted each time it is reached (what is shared counts as often as it is met; a slice's spare places count too). A statement '..UptoSaid' is the law's where the arguments, and the package variables that the reading takes, are together of bulk at most 1048576: NARROWER than '..Said'. Prove '..Said' where nothing that the law and all that it calls make is longer than what came in: it says more and counts as full. Else prove '..UptoSaid'. A law counts once. -/
mutual
def uptoBulk {H : Type} : DataW H → Nat
  | .lit (.string bytes) => bytes.length + 1
  | .lit _ => 1
  | .nil => 1
  | .ptr d => uptoBulk d + 1
  | .slice elems spare => uptoBulkAll elems + uptoBulkAll spare + 1
  | .agg parts => uptoBulkAll parts + 1
  | .iface _ d => uptoBulk d + 1
  | .map entries => uptoBulkEntries entries + 1
  | .held _ => 1
def uptoBulkAll {H : Type} : List (DataW H) → Nat
  | [] => 0
  | d :: r => uptoBulk d + uptoBulkAll r
def uptoBulkEntries {H : Type} : List (Lit × DataW H) → Nat
  | [] => 0
  | x :: r => uptoBulkEntry x + uptoBulkEntries r
def uptoBulkEntry {H : Type} : Lit × DataW H → Nat
  | (.string bytes, d) => bytes.length + uptoBulk d + 1
  | (_, d) => uptoBulk d + 1
 end
def uptoSmall : (H : Type) → List (DataW H) → Bool := fun _ ds => decide (uptoBulkAll ds ≤ 1048576)
def OpenSpec.upto (s : _root_.Go.ChangeSpec) : _root_.Go.OpenSpec := { _root_.Go.OpenSpec.ofChange s with cond := some uptoSmall }

/-- 'laws.FnDisk', WHERE WHAT IT READS IS OF BULK AT MOST 1048576: true; the input reads as it did. -/
def fnDiskUptoRow : OpenClaim := { program := "ytdnbfnahhkmmnaadoor", sum := "7079b1a86c2025edc6603db64ca08ce1fe785d9bbde088967ac2243845644ca8", func := "loop.example/g00416/laws.FnDisk", spec := "fnDisk", inPlace := ["internal/reflectlite.TypeOf"], unfollowed := true, recurses := true, named := ["loop.example/g00416/impl.errDiskFull", "loop.example/g00416/impl.errDiskForm", "loop.example/g00416/impl.errDiskRange"], ifaces := true, apart := false, laid := [("loop.example/g00416/impl.errDiskForm", laid_loop_example_g00416_impl_errDiskForm), ("loop.example/g00416/impl.errDiskRange", laid_loop_example_g00416_impl_errDiskRange), ("loop.example/g00416/impl.errDiskFull", laid_loop_example_g00416_impl_errDiskFull)], narrowed := true }
def FnDiskUptoSaid : Prop := fnDiskUptoRow.holds Tryd.pinned (OpenSpec.upto fnDiskSpec)

end Rows
end Go.Proofs.YtdnbfnahhkmmnaaDoor
