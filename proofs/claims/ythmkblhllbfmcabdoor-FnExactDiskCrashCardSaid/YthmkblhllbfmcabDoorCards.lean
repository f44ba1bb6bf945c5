/-
  DERIVED. GIVEN WITH THE SEED: THE CARDS: each row of YthmkblhllbfmcabDoorRows.lean that lists a variable, with what it lists TIED to the program's text (the seventh form; the later family's looks); each row that meets fmt, with fmt's text TOLD by the authors' own Lean function (tested against real Go, not proved from fmt's source: count such statements apart). THE CARD IS WHAT COUNTS. Prove the row's statement (the work); the ties are given (YthmkblhllbfmcabDoorTie.lean); close each card by the builder's one call (the guide's Derived/Test/ToyasCard.lean, 'card_holds'). Laid BY PROGRAM, IN A SANDBOX (cutbox-door.mjs). By AI agents, Wed Nov 11 2026. No macro, syntax, notation, axiom, sorry.
-/
import Derived.Test.YthmkblhllbfmcabDoorRows
import GoSem.ClaimSeven
namespace Go.Proofs.YthmkblhllbfmcabDoor
namespace Rows

/-- THE TIED CARD OF 'laws.FnExactDiskCrash'. -/
def fnExactDiskCrashCard : Claim7 := { stood := { row := fnExactDiskCrashRow, standIns := [], harness := (true, "c456599ce3171cbe2c671eda5732941541433d9ad51cdafde35d5aaa8baf4aad"), looks := false }, kinds := [], alts := [], laidByText := true, laidKinds := [.sentinel, .sentinel], laidTests := true, laidLooks := .later }
def FnExactDiskCrashCardSaid : Prop := Claim7.holds Tryd.pinned (.plain (OpenSpec.ofChange fnExactDiskCrashSpec)) fnExactDiskCrashCard

/-- THE SECOND FORM's CARD OF 'laws.FnExactDiskCrash'. -/
def fnExactDiskCrashUptoCard : Claim7 := { stood := { row := fnExactDiskCrashUptoRow, standIns := [], harness := (true, "c456599ce3171cbe2c671eda5732941541433d9ad51cdafde35d5aaa8baf4aad"), looks := false }, kinds := [], alts := [], laidByText := true, laidKinds := [.sentinel, .sentinel], laidTests := true, laidLooks := .later }
def FnExactDiskCrashUptoCardSaid : Prop := Claim7.holds Tryd.pinned (.plain (OpenSpec.upto fnExactDiskCrashSpec)) fnExactDiskCrashUptoCard
end Rows
end Go.Proofs.YthmkblhllbfmcabDoor
