/-
  No cell of these rows narrows 'for every input' (looked for: loops, veiled, ifaces, maps, wideKeys, modest, calm, conditions, laid).
  DERIVED. THE GIVEN ROWS OF THIS SEAT. 4 by the template 'for every input the law returns true; each argument reads behind the call as it read before'; 0 by the template 'total and deterministic' (their statements: YtlhlfcfolhlehaaTotals.lean).
  GIVEN WITH THE SEED: the statements are not yours to turn. If you find one false, say at which input.
  Laid BY PROGRAM, IN A SANDBOX (cutbox-rows.mjs): the forced cells as the released guide's own fill.sh prints them over the translation 6df188f156283299… (all of the seat's roots in one cut). By AI agents, Wed Nov 11 2026. No macro, syntax, notation, axiom, sorry.
-/
import Derived.Test.YtlhlfcfolhlehaaChecked
import GoSem.Claim
import GoSem.ClaimJoined
import GoSem.ClaimMapViews
import Derived.JoinedTies
import Derived.KernelRfl
namespace Go.Proofs.Ytlhlfcfolhlehaa
/- THE CELL 'sum', in the pinned program and in every row, IS THE sha256 OF THE DUMP (.gsa) THAT YtlhlfcfolhlehaaProg.lean LOADS. Nothing in Lean hashes anything: it is a label: what it is worth is what the hold of that sum in a sandbox is worth. -/
noncomputable def Try.pinned : Pinned := { name := "ytlhlfcfolhlehaa", sum := "6df188f1562832991511445a8ab14ff4c98ee912db2db2a0fa10ea5fde088685", checked := Try.checked }
namespace Rows
def none {H : Type} : Left H := { results := [], args := [] }

/-- 'laws.FnExactSegmentRight': WHATEVER THE INPUT: true; the input reads as it did. -/
def fnExactSegmentRightSpec : ChangeSpec := { name := "fnExactSegmentRight", fn := fun _ => fun
  | [d] => { results := [.lit (.bool true)], args := [d] }
  | _ => none }
def fnExactSegmentRightRow : OpenClaim := { program := "ytlhlfcfolhlehaa", sum := "6df188f1562832991511445a8ab14ff4c98ee912db2db2a0fa10ea5fde088685", func := "loop.example/g00416/laws.FnExactSegmentRight", spec := "fnExactSegmentRight", unfollowed := true, recurses := true, apart := false }
def FnExactSegmentRightSaid : Prop := fnExactSegmentRightRow.holds Try.pinned (OpenSpec.ofChange fnExactSegmentRightSpec)

/-- ITS FALSE NEIGHBOUR: 'it returns false'. Refute it at one input. -/
def fnExactSegmentRightWrong : ChangeSpec := { name := "fnExactSegmentRight", fn := fun _ => fun
  | [d] => { results := [.lit (.bool false)], args := [d] }
  | _ => none }
def FnExactSegmentRightWrongFalsely : Prop := fnExactSegmentRightRow.holds Try.pinned (OpenSpec.ofChange fnExactSegmentRightWrong)

/-- 'laws.FnExactSegmentText': WHATEVER THE INPUT: true; the input reads as it did. -/
def fnExactSegmentTextSpec : ChangeSpec := { name := "fnExactSegmentText", fn := fun _ => fun
  | [d1, d2] => { results := [.lit (.bool true)], args := [d1, d2] }
  | _ => none }
def fnExactSegmentTextRow : OpenClaim := { program := "ytlhlfcfolhlehaa", sum := "6df188f1562832991511445a8ab14ff4c98ee912db2db2a0fa10ea5fde088685", func := "loop.example/g00416/laws.FnExactSegmentText", spec := "fnExactSegmentText", inPlace := ["internal/bytealg.IndexByteString", "internal/bytealg.IndexString"], unfollowed := true, recurses := true, named := ["internal/bytealg.MaxLen"], apart := false }
def FnExactSegmentTextSaid : Prop := fnExactSegmentTextRow.holds Try.pinned (OpenSpec.ofChange fnExactSegmentTextSpec)

/-- ITS FALSE NEIGHBOUR: 'it returns false'. Refute it at one input. -/
def fnExactSegmentTextWrong : ChangeSpec := { name := "fnExactSegmentText", fn := fun _ => fun
  | [d1, d2] => { results := [.lit (.bool false)], args := [d1, d2] }
  | _ => none }
def FnExactSegmentTextWrongFalsely : Prop := fnExactSegmentTextRow.holds Try.pinned (OpenSpec.ofChange fnExactSegmentTextWrong)

/-- 'laws.FnExactMessageRight': WHATEVER THE INPUT: true; the input reads as it did. -/
def fnExactMessageRightSpec : ChangeSpec := { name := "fnExactMessageRight", fn := fun _ => fun
  | [d] => { results := [.lit (.bool true)], args := [d] }
  | _ => none }
def fnExactMessageRightRow : OpenClaim := { program := "ytlhlfcfolhlehaa", sum := "6df188f1562832991511445a8ab14ff4c98ee912db2db2a0fa10ea5fde088685", func := "loop.example/g00416/laws.FnExactMessageRight", spec := "fnExactMessageRight", inPlace := ["internal/bytealg.IndexByteString", "internal/bytealg.IndexString"], unfollowed := true, recurses := true, named := ["internal/bytealg.MaxLen"], apart := false }
def FnExactMessageRightSaid : Prop := fnExactMessageRightRow.holds Try.pinned (OpenSpec.ofChange fnExactMessageRightSpec)

/-- ITS FALSE NEIGHBOUR: 'it returns false'. Refute it at one input. -/
def fnExactMessageRightWrong : ChangeSpec := { name := "fnExactMessageRight", fn := fun _ => fun
  | [d] => { results := [.lit (.bool false)], args := [d] }
  | _ => none }
def FnExactMessageRightWrongFalsely : Prop := fnExactMessageRightRow.holds Try.pinned (OpenSpec.ofChange fnExactMessageRightWrong)

/-- 'laws.FnExactMessageText': WHATEVER THE INPUT: true; the input reads as it did. -/
def fnExactMessageTextSpec : ChangeSpec := { name := "fnExactMessageText", fn := fun _ => fun
  | [d] => { results := [.lit (.bool true)], args := [d] }
  | _ => none }
def fnExactMessageTextRow : OpenClaim := { program := "ytlhlfcfolhlehaa", sum := "6df188f1562832991511445a8ab14ff4c98ee912db2db2a0fa10ea5fde088685", func := "loop.example/g00416/laws.FnExactMessageText", spec := "fnExactMessageText", inPlace := ["internal/bytealg.IndexByteString", "internal/bytealg.IndexString"], unfollowed := true, recurses := true, named := ["internal/bytealg.MaxLen"], apart := false }
def FnExactMessageTextSaid : Prop := fnExactMessageTextRow.holds Try.pinned (OpenSpec.ofChange fnExactMessageTextSpec)

/-- ITS FALSE NEIGHBOUR: 'it returns false'. Refute it at one input. -/
def fnExactMessageTextWrong : ChangeSpec := { name := "fnExactMessageText", fn := fun _ => fun
  | [d] => { results := [.lit (.bool false)], args := [d] }
  | _ => none }
def FnExactMessageTextWrongFalsely : Prop := fnExactMessageTextRow.holds Try.pinned (OpenSpec.ofChange fnExactMessageTextWrong)

/- THE SECOND FORM. 'bulk': how many values and letters a reading holds, each counted each time it is reached (what is shared counts as often as it is met; a slice's spare places count too). A statement '..UptoSaid' is the law's where the arguments, and the package variables that the reading takes, are together of bulk at most 1048576: NARROWER than '..Said'. Prove '..Said' where nothing that the law and all that it calls make is longer than what came in: it says more and counts as full. Else prove '..UptoSaid'. A law counts once. -/
mutual
def uptoBulk {H : Type} : DataW H → Nat
  | .lit (.string bytes) => bytes.length + 1
  | .lit _ => 1
  | .nil => 1
  | .ptr d => uptoBulk d + 1
  | .slice elems spare => uptoBulkAll elems + uptoBulkAll spare + 1
  | .agg parts => uptoBulkAll parts + 1
  | .iface _ d => uptoBulk d + 1
  | .map entries => uptoBulkEntries entries + 1
  | .held _ => 1
def uptoBulkAll {H : Type} : List (DataW H) → Nat
  | [] => 0
  | d :: r => uptoBulk d + uptoBulkAll r
def uptoBulkEntries {H : Type} : List (Lit × DataW H) → Nat
  | [] => 0
  | x :: r => uptoBulkEntry x + uptoBulkEntries r
def uptoBulkEntry {H : Type} : Lit × DataW H → Nat
  | (.string bytes, d) => bytes.length + uptoBulk d + 1
  | (_, d) => uptoBulk d + 1
 end
def uptoSmall : (H : Type) → List (DataW H) → Bool := fun _ ds => decide (uptoBulkAll ds ≤ 1048576)
def OpenSpec.upto (s : _root_.Go.ChangeSpec) : _root_.Go.OpenSpec := { _root_.Go.OpenSpec.ofChange s with cond := some uptoSmall }

/-- 'laws.FnExactSegmentRight', WHERE WHAT IT READS IS OF BULK AT MOST 1048576: true; the input reads as it did. -/
def fnExactSegmentRightUptoRow : OpenClaim := { program := "ytlhlfcfolhlehaa", sum := "6df188f1562832991511445a8ab14ff4c98ee912db2db2a0fa10ea5fde088685", func := "loop.example/g00416/laws.FnExactSegmentRight", spec := "fnExactSegmentRight", unfollowed := true, recurses := true, apart := false, narrowed := true }
def FnExactSegmentRightUptoSaid : Prop := fnExactSegmentRightUptoRow.holds Try.pinned (OpenSpec.upto fnExactSegmentRightSpec)

/-- 'laws.FnExactSegmentText', WHERE WHAT IT READS IS OF BULK AT MOST 1048576: true; the input reads as it did. -/
def fnExactSegmentTextUptoRow : OpenClaim := { program := "ytlhlfcfolhlehaa", sum := "6df188f1562832991511445a8ab14ff4c98ee912db2db2a0fa10ea5fde088685", func := "loop.example/g00416/laws.FnExactSegmentText", spec := "fnExactSegmentText", inPlace := ["internal/bytealg.IndexByteString", "internal/bytealg.IndexString"], unfollowed := true, recurses := true, named := ["internal/bytealg.MaxLen"], apart := false, narrowed := true }
def FnExactSegmentTextUptoSaid : Prop := fnExactSegmentTextUptoRow.holds Try.pinned (OpenSpec.upto fnExactSegmentTextSpec)

/-- 'laws.FnExactMessageRight', WHERE WHAT IT READS IS OF BULK AT MOST 1048576: true; the input reads as it did. -/
def fnExactMessageRightUptoRow : OpenClaim := { program := "ytlhlfcfolhlehaa", sum := "6df188f1562832991511445a8ab14ff4c98ee912db2db2a0fa10ea5fde088685", func := "loop.example/g00416/laws.FnExactMessageRight", spec := "fnExactMessageRight", inPlace := ["internal/bytealg.IndexByteString", "internal/bytealg.IndexString"], unfollowed := true, recurses := true, named := ["internal/bytealg.MaxLen"], apart := false, narrowed := true }
def FnExactMessageRightUptoSaid : Prop := fnExactMessageRightUptoRow.holds Try.pinned (OpenSpec.upto fnExactMessageRightSpec)

/-- 'laws.FnExactMessageText', WHERE WHAT IT READS IS OF BULK AT MOST 1048576: true; the input reads as it did. -/
def fnExactMessageTextUptoRow : OpenClaim := { program := "ytlhlfcfolhlehaa", sum := "6df188f1562832991511445a8ab14ff4c98ee912db2db2a0fa10ea5fde088685", func := "loop.example/g00416/laws.FnExactMessageText", spec := "fnExactMessageText", inPlace := ["internal/bytealg.IndexByteString", "internal/bytealg.IndexString"], unfollowed := true, recurses := true, named := ["internal/bytealg.MaxLen"], apart := false, narrowed := true }
def FnExactMessageTextUptoSaid : Prop := fnExactMessageTextUptoRow.holds Try.pinned (OpenSpec.upto fnExactMessageTextSpec)

end Rows
end Go.Proofs.Ytlhlfcfolhlehaa
