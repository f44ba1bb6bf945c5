/-
  DERIVED. GIVEN WITH THE SEED: THE CARDS: each row of YtfjjbofnfigehaaGreatDoorRows.lean that lists a variable, with what it lists TIED to the program's text (the seventh form; the later family's looks); each row that meets fmt, with fmt's text TOLD by the authors' own Lean function (tested against real Go, not proved from fmt's source: count such statements apart). THE CARD IS WHAT COUNTS. Prove the row's statement (the work); the ties are given (YtfjjbofnfigehaaGreatDoorTie.lean); close each card by the builder's one call (the guide's Derived/Test/ToyasCard.lean, 'card_holds'). Laid BY PROGRAM, IN A SANDBOX (cutbox-door.mjs). By AI agents, Wed Nov 11 2026. No macro, syntax, notation, axiom, sorry.
-/
import Derived.Test.YtfjjbofnfigehaaGreatDoorRows
import GoSem.ClaimSeven
namespace Go.Proofs.YtfjjbofnfigehaaGreatDoor
namespace Rows

/-- THE TIED CARD OF 'laws.FnExactRepFits'. -/
def fnExactRepFitsCard : Claim7 := { stood := { row := fnExactRepFitsRow, standIns := [], harness := (true, "cf4f74a4f5a17cd0054f231613547741767445b623544eeb21299d671bf5ed7e"), looks := true }, kinds := [], alts := [], laidByText := true, laidKinds := [.data, .data, .data, .data, .sentinel, .sentinel, .pinned], laidTests := true, laidLooks := .later }
def FnExactRepFitsCardSaid : Prop := Claim7.holds Tryz.pinned (.plain (OpenSpec.ofChange fnExactRepFitsSpec)) fnExactRepFitsCard

/-- THE TIED CARD OF 'laws.FnExactCheckField'. -/
def fnExactCheckFieldCard : Claim7 := { stood := { row := fnExactCheckFieldRow, standIns := [], harness := (true, "cf4f74a4f5a17cd0054f231613547741767445b623544eeb21299d671bf5ed7e"), looks := true }, kinds := [], alts := [], laidByText := true, laidKinds := [.data, .data, .data, .data, .sentinel, .sentinel, .pinned], laidTests := true, laidLooks := .later }
def FnExactCheckFieldCardSaid : Prop := Claim7.holds Tryz.pinned (.plain (OpenSpec.ofChange fnExactCheckFieldSpec)) fnExactCheckFieldCard

/-- THE SECOND FORM's CARD OF 'laws.FnExactRepFits'. -/
def fnExactRepFitsUptoCard : Claim7 := { stood := { row := fnExactRepFitsUptoRow, standIns := [], harness := (true, "cf4f74a4f5a17cd0054f231613547741767445b623544eeb21299d671bf5ed7e"), looks := true }, kinds := [], alts := [], laidByText := true, laidKinds := [.data, .data, .data, .data, .sentinel, .sentinel, .pinned], laidTests := true, laidLooks := .later }
def FnExactRepFitsUptoCardSaid : Prop := Claim7.holds Tryz.pinned (.plain (OpenSpec.upto fnExactRepFitsSpec)) fnExactRepFitsUptoCard

/-- THE SECOND FORM's CARD OF 'laws.FnExactCheckField'. -/
def fnExactCheckFieldUptoCard : Claim7 := { stood := { row := fnExactCheckFieldUptoRow, standIns := [], harness := (true, "cf4f74a4f5a17cd0054f231613547741767445b623544eeb21299d671bf5ed7e"), looks := true }, kinds := [], alts := [], laidByText := true, laidKinds := [.data, .data, .data, .data, .sentinel, .sentinel, .pinned], laidTests := true, laidLooks := .later }
def FnExactCheckFieldUptoCardSaid : Prop := Claim7.holds Tryz.pinned (.plain (OpenSpec.upto fnExactCheckFieldSpec)) fnExactCheckFieldUptoCard
end Rows
end Go.Proofs.YtfjjbofnfigehaaGreatDoor
