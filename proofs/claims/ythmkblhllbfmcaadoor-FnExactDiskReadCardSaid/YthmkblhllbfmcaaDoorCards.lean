/-
  DERIVED. GIVEN WITH THE SEED: THE CARDS: each row of YthmkblhllbfmcaaDoorRows.lean that lists a variable, with what it lists TIED to the program's text (the seventh form; the later family's looks); each row that meets fmt, with fmt's text TOLD by the authors' own Lean function (tested against real Go, not proved from fmt's source: count such statements apart). THE CARD IS WHAT COUNTS. Prove the row's statement (the work); the ties are given (YthmkblhllbfmcaaDoorTie.lean); close each card by the builder's one call (the guide's Derived/Test/ToyasCard.lean, 'card_holds'). Laid BY PROGRAM, IN A SANDBOX (cutbox-door.mjs). By AI agents, Wed Nov 11 2026. No macro, syntax, notation, axiom, sorry.
-/
import Derived.Test.YthmkblhllbfmcaaDoorRows
import GoSem.ClaimSeven
namespace Go.Proofs.YthmkblhllbfmcaaDoor
namespace Rows

/-- THE TIED CARD OF 'laws.FnDisk'. -/
def fnDiskCard : Claim7 := { stood := { row := fnDiskRow, standIns := [], harness := (true, "c960806a4452fc0edddcb42b06c1736f57c5c3481f6c02a31ad79e03e129740a"), looks := true }, kinds := [], alts := [], laidByText := true, laidKinds := [.sentinel, .sentinel, .sentinel], laidTests := true, laidLooks := .later }
def FnDiskCardSaid : Prop := Claim7.holds Tryd.pinned (.plain (OpenSpec.ofChange fnDiskSpec)) fnDiskCard

/-- THE TIED CARD OF 'laws.FnExactDiskRight'. -/
def fnExactDiskRightCard : Claim7 := { stood := { row := fnExactDiskRightRow, standIns := [], harness := (true, "c960806a4452fc0edddcb42b06c1736f57c5c3481f6c02a31ad79e03e129740a"), looks := true }, kinds := [], alts := [], laidByText := true, laidKinds := [.sentinel, .sentinel], laidTests := true, laidLooks := .later }
def FnExactDiskRightCardSaid : Prop := Claim7.holds Tryd.pinned (.plain (OpenSpec.ofChange fnExactDiskRightSpec)) fnExactDiskRightCard

/-- THE TIED CARD OF 'laws.FnExactDiskRead'. -/
def fnExactDiskReadCard : Claim7 := { stood := { row := fnExactDiskReadRow, standIns := [], harness := (true, "c960806a4452fc0edddcb42b06c1736f57c5c3481f6c02a31ad79e03e129740a"), looks := true }, kinds := [], alts := [], laidByText := true, laidKinds := [.sentinel, .sentinel, .sentinel], laidTests := true, laidLooks := .later }
def FnExactDiskReadCardSaid : Prop := Claim7.holds Tryd.pinned (.plain (OpenSpec.ofChange fnExactDiskReadSpec)) fnExactDiskReadCard

/-- THE TIED CARD OF 'laws.FnExactDiskWrite'. -/
def fnExactDiskWriteCard : Claim7 := { stood := { row := fnExactDiskWriteRow, standIns := [], harness := (true, "c960806a4452fc0edddcb42b06c1736f57c5c3481f6c02a31ad79e03e129740a"), looks := true }, kinds := [], alts := [], laidByText := true, laidKinds := [.sentinel, .sentinel, .sentinel], laidTests := true, laidLooks := .later }
def FnExactDiskWriteCardSaid : Prop := Claim7.holds Tryd.pinned (.plain (OpenSpec.ofChange fnExactDiskWriteSpec)) fnExactDiskWriteCard

/-- THE TIED CARD OF 'laws.FnExactDiskFlush'. -/
def fnExactDiskFlushCard : Claim7 := { stood := { row := fnExactDiskFlushRow, standIns := [], harness := (true, "c960806a4452fc0edddcb42b06c1736f57c5c3481f6c02a31ad79e03e129740a"), looks := true }, kinds := [], alts := [], laidByText := true, laidKinds := [.sentinel, .sentinel, .sentinel], laidTests := true, laidLooks := .later }
def FnExactDiskFlushCardSaid : Prop := Claim7.holds Tryd.pinned (.plain (OpenSpec.ofChange fnExactDiskFlushSpec)) fnExactDiskFlushCard

/-- THE SECOND FORM's CARD OF 'laws.FnDisk'. -/
def fnDiskUptoCard : Claim7 := { stood := { row := fnDiskUptoRow, standIns := [], harness := (true, "c960806a4452fc0edddcb42b06c1736f57c5c3481f6c02a31ad79e03e129740a"), looks := true }, kinds := [], alts := [], laidByText := true, laidKinds := [.sentinel, .sentinel, .sentinel], laidTests := true, laidLooks := .later }
def FnDiskUptoCardSaid : Prop := Claim7.holds Tryd.pinned (.plain (OpenSpec.upto fnDiskSpec)) fnDiskUptoCard

/-- THE SECOND FORM's CARD OF 'laws.FnExactDiskRight'. -/
def fnExactDiskRightUptoCard : Claim7 := { stood := { row := fnExactDiskRightUptoRow, standIns := [], harness := (true, "c960806a4452fc0edddcb42b06c1736f57c5c3481f6c02a31ad79e03e129740a"), looks := true }, kinds := [], alts := [], laidByText := true, laidKinds := [.sentinel, .sentinel], laidTests := true, laidLooks := .later }
def FnExactDiskRightUptoCardSaid : Prop := Claim7.holds Tryd.pinned (.plain (OpenSpec.upto fnExactDiskRightSpec)) fnExactDiskRightUptoCard

/-- THE SECOND FORM's CARD OF 'laws.FnExactDiskRead'. -/
def fnExactDiskReadUptoCard : Claim7 := { stood := { row := fnExactDiskReadUptoRow, standIns := [], harness := (true, "c960806a4452fc0edddcb42b06c1736f57c5c3481f6c02a31ad79e03e129740a"), looks := true }, kinds := [], alts := [], laidByText := true, laidKinds := [.sentinel, .sentinel, .sentinel], laidTests := true, laidLooks := .later }
def FnExactDiskReadUptoCardSaid : Prop := Claim7.holds Tryd.pinned (.plain (OpenSpec.upto fnExactDiskReadSpec)) fnExactDiskReadUptoCard

/-- THE SECOND FORM's CARD OF 'laws.FnExactDiskWrite'. -/
def fnExactDiskWriteUptoCard : Claim7 := { stood := { row := fnExactDiskWriteUptoRow, standIns := [], harness := (true, "c960806a4452fc0edddcb42b06c1736f57c5c3481f6c02a31ad79e03e129740a"), looks := true }, kinds := [], alts := [], laidByText := true, laidKinds := [.sentinel, .sentinel, .sentinel], laidTests := true, laidLooks := .later }
def FnExactDiskWriteUptoCardSaid : Prop := Claim7.holds Tryd.pinned (.plain (OpenSpec.upto fnExactDiskWriteSpec)) fnExactDiskWriteUptoCard

/-- THE SECOND FORM's CARD OF 'laws.FnExactDiskFlush'. -/
def fnExactDiskFlushUptoCard : Claim7 := { stood := { row := fnExactDiskFlushUptoRow, standIns := [], harness := (true, "c960806a4452fc0edddcb42b06c1736f57c5c3481f6c02a31ad79e03e129740a"), looks := true }, kinds := [], alts := [], laidByText := true, laidKinds := [.sentinel, .sentinel, .sentinel], laidTests := true, laidLooks := .later }
def FnExactDiskFlushUptoCardSaid : Prop := Claim7.holds Tryd.pinned (.plain (OpenSpec.upto fnExactDiskFlushSpec)) fnExactDiskFlushUptoCard
end Rows
end Go.Proofs.YthmkblhllbfmcaaDoor
