/-
  DERIVED. GIVEN WITH THE SEED: THE CARDS: each row of YtkmehbgepkilkaaGreatDoorRows.lean that lists a variable, with what it lists TIED to the program's text (the seventh form; the later family's looks); each row that meets fmt, with fmt's text TOLD by the authors' own Lean function (tested against real Go, not proved from fmt's source: count such statements apart). THE CARD IS WHAT COUNTS. Prove the row's statement (the work); the ties are given (YtkmehbgepkilkaaGreatDoorTie.lean); close each card by the builder's one call (the guide's Derived/Test/ToyasCard.lean, 'card_holds'). Laid BY PROGRAM, IN A SANDBOX (cutbox-door.mjs). By AI agents, Wed Nov 11 2026. No macro, syntax, notation, axiom, sorry.
-/
import Derived.Test.YtkmehbgepkilkaaGreatDoorRows
import GoSem.ClaimSeven
namespace Go.Proofs.YtkmehbgepkilkaaGreatDoor
namespace Rows

/-- THE TIED CARD OF 'laws.FnArea'. -/
def fnAreaCard : Claim7 := { stood := { row := fnAreaRow, standIns := [], harness := (true, "f8bf488d80297d73a7be3992256886e79d07cce9776dd089f3e5e417689a4d2d"), looks := true }, kinds := [], alts := [], laidByText := true, laidKinds := [.handle, .sentinel, .sentinel, .sentinel], laidTests := true, laidLooks := .later }
def FnAreaCardSaid : Prop := Claim7.holds Tryz.pinned (.plain (OpenSpec.ofChange fnAreaSpec)) fnAreaCard

/-- THE TIED CARD OF 'laws.FnAreaTorn'. -/
def fnAreaTornCard : Claim7 := { stood := { row := fnAreaTornRow, standIns := [], harness := (true, "f8bf488d80297d73a7be3992256886e79d07cce9776dd089f3e5e417689a4d2d"), looks := true }, kinds := [], alts := [], laidByText := true, laidKinds := [.handle, .sentinel, .sentinel, .sentinel], laidTests := true, laidLooks := .later }
def FnAreaTornCardSaid : Prop := Claim7.holds Tryz.pinned (.plain (OpenSpec.ofChange fnAreaTornSpec)) fnAreaTornCard

/-- THE SECOND FORM's CARD OF 'laws.FnArea'. -/
def fnAreaUptoCard : Claim7 := { stood := { row := fnAreaUptoRow, standIns := [], harness := (true, "f8bf488d80297d73a7be3992256886e79d07cce9776dd089f3e5e417689a4d2d"), looks := true }, kinds := [], alts := [], laidByText := true, laidKinds := [.handle, .sentinel, .sentinel, .sentinel], laidTests := true, laidLooks := .later }
def FnAreaUptoCardSaid : Prop := Claim7.holds Tryz.pinned (.plain (OpenSpec.upto fnAreaSpec)) fnAreaUptoCard

/-- THE SECOND FORM's CARD OF 'laws.FnAreaTorn'. -/
def fnAreaTornUptoCard : Claim7 := { stood := { row := fnAreaTornUptoRow, standIns := [], harness := (true, "f8bf488d80297d73a7be3992256886e79d07cce9776dd089f3e5e417689a4d2d"), looks := true }, kinds := [], alts := [], laidByText := true, laidKinds := [.handle, .sentinel, .sentinel, .sentinel], laidTests := true, laidLooks := .later }
def FnAreaTornUptoCardSaid : Prop := Claim7.holds Tryz.pinned (.plain (OpenSpec.upto fnAreaTornSpec)) fnAreaTornUptoCard
end Rows
end Go.Proofs.YtkmehbgepkilkaaGreatDoor
