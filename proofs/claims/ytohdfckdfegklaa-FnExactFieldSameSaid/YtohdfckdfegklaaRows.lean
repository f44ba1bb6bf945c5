/-
  No cell of these rows narrows 'for every input' (looked for: loops, veiled, ifaces, maps, wideKeys, modest, calm, conditions, laid).
  DERIVED. THE GIVEN ROWS OF THIS SEAT. 4 by the template 'for every input the law returns true; each argument reads behind the call as it read before'; 0 by the template 'total and deterministic' (their statements: YtohdfckdfegklaaTotals.lean).
  GIVEN WITH THE SEED: the statements are not yours to turn. If you find one false, say at which input.
  Laid BY PROGRAM, IN A SANDBOX (cutbox-rows.mjs): the forced cells as the released guide's own fill.sh prints them over the translation 2d1e9a9c4a2965d6… (all of the seat's roots in one cut). By AI agents, Wed Nov 11 2026. No macro, syntax, notation, axiom, sorry.
-/
import Derived.Test.YtohdfckdfegklaaChecked
import GoSem.Claim
import GoSem.ClaimJoined
import GoSem.ClaimMapViews
import Derived.JoinedTies
import Derived.KernelRfl
namespace Go.Proofs.Ytohdfckdfegklaa
/- THE CELL 'sum', in the pinned program and in every row, IS THE sha256 OF THE DUMP (.gsa) THAT YtohdfckdfegklaaProg.lean LOADS. Nothing in Lean hashes anything: it is a label: what it is worth is what the hold of that sum in a sandbox is worth. -/
noncomputable def Try.pinned : Pinned := { name := "ytohdfckdfegklaa", sum := "2d1e9a9c4a2965d62003ab88fda4234b6b31904d7dbf60757feda8a806c12639", checked := Try.checked }
namespace Rows
def none {H : Type} : Left H := { results := [], args := [] }

/-- 'laws.FnExactFieldRight': WHATEVER THE INPUT: true; the input reads as it did. -/
def fnExactFieldRightSpec : ChangeSpec := { name := "fnExactFieldRight", fn := fun _ => fun
  | [d] => { results := [.lit (.bool true)], args := [d] }
  | _ => none }
def fnExactFieldRightRow : OpenClaim := { program := "ytohdfckdfegklaa", sum := "2d1e9a9c4a2965d62003ab88fda4234b6b31904d7dbf60757feda8a806c12639", func := "loop.example/g00416/laws.FnExactFieldRight", spec := "fnExactFieldRight", unfollowed := true, recurses := true, apart := false }
def FnExactFieldRightSaid : Prop := fnExactFieldRightRow.holds Try.pinned (OpenSpec.ofChange fnExactFieldRightSpec)

/-- ITS FALSE NEIGHBOUR: 'it returns false'. Refute it at one input. -/
def fnExactFieldRightWrong : ChangeSpec := { name := "fnExactFieldRight", fn := fun _ => fun
  | [d] => { results := [.lit (.bool false)], args := [d] }
  | _ => none }
def FnExactFieldRightWrongFalsely : Prop := fnExactFieldRightRow.holds Try.pinned (OpenSpec.ofChange fnExactFieldRightWrong)

/-- 'laws.FnExactFieldText': WHATEVER THE INPUT: true; the input reads as it did. -/
def fnExactFieldTextSpec : ChangeSpec := { name := "fnExactFieldText", fn := fun _ => fun
  | [d1, d2] => { results := [.lit (.bool true)], args := [d1, d2] }
  | _ => none }
def fnExactFieldTextRow : OpenClaim := { program := "ytohdfckdfegklaa", sum := "2d1e9a9c4a2965d62003ab88fda4234b6b31904d7dbf60757feda8a806c12639", func := "loop.example/g00416/laws.FnExactFieldText", spec := "fnExactFieldText", inPlace := ["internal/bytealg.IndexByteString", "internal/bytealg.IndexString"], unfollowed := true, recurses := true, named := ["internal/bytealg.MaxLen"], apart := false }
def FnExactFieldTextSaid : Prop := fnExactFieldTextRow.holds Try.pinned (OpenSpec.ofChange fnExactFieldTextSpec)

/-- ITS FALSE NEIGHBOUR: 'it returns false'. Refute it at one input. -/
def fnExactFieldTextWrong : ChangeSpec := { name := "fnExactFieldText", fn := fun _ => fun
  | [d1, d2] => { results := [.lit (.bool false)], args := [d1, d2] }
  | _ => none }
def FnExactFieldTextWrongFalsely : Prop := fnExactFieldTextRow.holds Try.pinned (OpenSpec.ofChange fnExactFieldTextWrong)

/-- 'laws.FnExactFieldRead': WHATEVER THE INPUT: true; the input reads as it did. -/
def fnExactFieldReadSpec : ChangeSpec := { name := "fnExactFieldRead", fn := fun _ => fun
  | [d1, d2] => { results := [.lit (.bool true)], args := [d1, d2] }
  | _ => none }
def fnExactFieldReadRow : OpenClaim := { program := "ytohdfckdfegklaa", sum := "2d1e9a9c4a2965d62003ab88fda4234b6b31904d7dbf60757feda8a806c12639", func := "loop.example/g00416/laws.FnExactFieldRead", spec := "fnExactFieldRead", inPlace := ["internal/bytealg.IndexByteString", "internal/bytealg.IndexString"], unfollowed := true, recurses := true, named := ["internal/bytealg.MaxLen"], apart := false }
def FnExactFieldReadSaid : Prop := fnExactFieldReadRow.holds Try.pinned (OpenSpec.ofChange fnExactFieldReadSpec)

/-- ITS FALSE NEIGHBOUR: 'it returns false'. Refute it at one input. -/
def fnExactFieldReadWrong : ChangeSpec := { name := "fnExactFieldRead", fn := fun _ => fun
  | [d1, d2] => { results := [.lit (.bool false)], args := [d1, d2] }
  | _ => none }
def FnExactFieldReadWrongFalsely : Prop := fnExactFieldReadRow.holds Try.pinned (OpenSpec.ofChange fnExactFieldReadWrong)

/-- 'laws.FnExactFieldSame': WHATEVER THE INPUT: true; the input reads as it did. -/
def fnExactFieldSameSpec : ChangeSpec := { name := "fnExactFieldSame", fn := fun _ => fun
  | [d1, d2] => { results := [.lit (.bool true)], args := [d1, d2] }
  | _ => none }
def fnExactFieldSameRow : OpenClaim := { program := "ytohdfckdfegklaa", sum := "2d1e9a9c4a2965d62003ab88fda4234b6b31904d7dbf60757feda8a806c12639", func := "loop.example/g00416/laws.FnExactFieldSame", spec := "fnExactFieldSame", inPlace := ["internal/bytealg.IndexByteString", "internal/bytealg.IndexString"], unfollowed := true, recurses := true, named := ["internal/bytealg.MaxLen"], apart := false }
def FnExactFieldSameSaid : Prop := fnExactFieldSameRow.holds Try.pinned (OpenSpec.ofChange fnExactFieldSameSpec)

/-- ITS FALSE NEIGHBOUR: 'it returns false'. Refute it at one input. -/
def fnExactFieldSameWrong : ChangeSpec := { name := "fnExactFieldSame", fn := fun _ => fun
  | [d1, d2] => { results := [.lit (.bool false)], args := [d1, d2] }
  | _ => none }
def FnExactFieldSameWrongFalsely : Prop := fnExactFieldSameRow.holds Try.pinned (OpenSpec.ofChange fnExactFieldSameWrong)

/- THE SECOND FORM. 'bulk': how many values and letters a reading holds, each counted each time it is reached (what is shared counts as often as it is met; a slice's spare places count too). A statement '..UptoSaid' is the law's where the arguments, and the package variables that the reading takes, are together of bulk at most 1048576: NARROWER than '..Said'. Prove '..Said' where nothing that the law and all that it calls make is longer than what came in: it says more and counts as full. Else prove '..UptoSaid'. A law counts once. -/
mutual
def uptoBulk {H : Type} : DataW H → Nat
  | .lit (.string bytes) => bytes.length + 1
  | .lit _ => 1
  | .nil => 1
  | .ptr d => uptoBulk d + 1
  | .slice elems spare => uptoBulkAll elems + uptoBulkAll spare + 1
  | .agg parts => uptoBulkAll parts + 1
  | .iface _ d => uptoBulk d + 1
  | .map entries => uptoBulkEntries entries + 1
  | .held _ => 1
def uptoBulkAll {H : Type} : List (DataW H) → Nat
  | [] => 0
  | d :: r => uptoBulk d + uptoBulkAll r
def uptoBulkEntries {H : Type} : List (Lit × DataW H) → Nat
  | [] => 0
  | x :: r => uptoBulkEntry x + uptoBulkEntries r
def uptoBulkEntry {H : Type} : Lit × DataW H → Nat
  | (.string bytes, d) => bytes.length + uptoBulk d + 1
  | (_, d) => uptoBulk d + 1
 end
def uptoSmall : (H : Type) → List (DataW H) → Bool := fun _ ds => decide (uptoBulkAll ds ≤ 1048576)
def OpenSpec.upto (s : _root_.Go.ChangeSpec) : _root_.Go.OpenSpec := { _root_.Go.OpenSpec.ofChange s with cond := some uptoSmall }

/-- 'laws.FnExactFieldRight', WHERE WHAT IT READS IS OF BULK AT MOST 1048576: true; the input reads as it did. -/
def fnExactFieldRightUptoRow : OpenClaim := { program := "ytohdfckdfegklaa", sum := "2d1e9a9c4a2965d62003ab88fda4234b6b31904d7dbf60757feda8a806c12639", func := "loop.example/g00416/laws.FnExactFieldRight", spec := "fnExactFieldRight", unfollowed := true, recurses := true, apart := false, narrowed := true }
def FnExactFieldRightUptoSaid : Prop := fnExactFieldRightUptoRow.holds Try.pinned (OpenSpec.upto fnExactFieldRightSpec)

/-- 'laws.FnExactFieldText', WHERE WHAT IT READS IS OF BULK AT MOST 1048576: true; the input reads as it did. -/
def fnExactFieldTextUptoRow : OpenClaim := { program := "ytohdfckdfegklaa", sum := "2d1e9a9c4a2965d62003ab88fda4234b6b31904d7dbf60757feda8a806c12639", func := "loop.example/g00416/laws.FnExactFieldText", spec := "fnExactFieldText", inPlace := ["internal/bytealg.IndexByteString", "internal/bytealg.IndexString"], unfollowed := true, recurses := true, named := ["internal/bytealg.MaxLen"], apart := false, narrowed := true }
def FnExactFieldTextUptoSaid : Prop := fnExactFieldTextUptoRow.holds Try.pinned (OpenSpec.upto fnExactFieldTextSpec)

/-- 'laws.FnExactFieldRead', WHERE WHAT IT READS IS OF BULK AT MOST 1048576: true; the input reads as it did. -/
def fnExactFieldReadUptoRow : OpenClaim := { program := "ytohdfckdfegklaa", sum := "2d1e9a9c4a2965d62003ab88fda4234b6b31904d7dbf60757feda8a806c12639", func := "loop.example/g00416/laws.FnExactFieldRead", spec := "fnExactFieldRead", inPlace := ["internal/bytealg.IndexByteString", "internal/bytealg.IndexString"], unfollowed := true, recurses := true, named := ["internal/bytealg.MaxLen"], apart := false, narrowed := true }
def FnExactFieldReadUptoSaid : Prop := fnExactFieldReadUptoRow.holds Try.pinned (OpenSpec.upto fnExactFieldReadSpec)

/-- 'laws.FnExactFieldSame', WHERE WHAT IT READS IS OF BULK AT MOST 1048576: true; the input reads as it did. -/
def fnExactFieldSameUptoRow : OpenClaim := { program := "ytohdfckdfegklaa", sum := "2d1e9a9c4a2965d62003ab88fda4234b6b31904d7dbf60757feda8a806c12639", func := "loop.example/g00416/laws.FnExactFieldSame", spec := "fnExactFieldSame", inPlace := ["internal/bytealg.IndexByteString", "internal/bytealg.IndexString"], unfollowed := true, recurses := true, named := ["internal/bytealg.MaxLen"], apart := false, narrowed := true }
def FnExactFieldSameUptoSaid : Prop := fnExactFieldSameUptoRow.holds Try.pinned (OpenSpec.upto fnExactFieldSameSpec)

end Rows
end Go.Proofs.Ytohdfckdfegklaa
