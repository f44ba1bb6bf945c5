/-
  DERIVED. GIVEN WITH THE SEED: THE CARDS: each row of YtbhdbkffejlfmaaGreatDoorRows.lean that lists a variable, with what it lists TIED to the program's text (the seventh form; the later family's looks); each row that meets fmt, with fmt's text TOLD by the authors' own Lean function (tested against real Go, not proved from fmt's source: count such statements apart). THE CARD IS WHAT COUNTS. Prove the row's statement (the work); the ties are given (YtbhdbkffejlfmaaGreatDoorTie.lean); close each card by the builder's one call (the guide's Derived/Test/ToyasCard.lean, 'card_holds'). Laid BY PROGRAM, IN A SANDBOX (cutbox-door.mjs). By AI agents, Wed Nov 11 2026. No macro, syntax, notation, axiom, sorry.
-/
import Derived.Test.YtbhdbkffejlfmaaGreatDoorRows
import GoSem.ClaimSeven
namespace Go.Proofs.YtbhdbkffejlfmaaGreatDoor
namespace Rows

/-- THE TIED CARD OF 'laws.FnExactFetch'. -/
def fnExactFetchCard : Claim7 := { stood := { row := fnExactFetchRow, standIns := [], harness := (true, "b547bfe720ad17187ffb2e0c69a95422eefa99f9e4723bf573bc7df1df685c1d"), looks := true }, kinds := [], alts := [], laidByText := true, laidKinds := [.handle, .sentinel, .sentinel, .sentinel], laidTests := true, laidLooks := .later }
def FnExactFetchCardSaid : Prop := Claim7.holds Tryz.pinned (.plain (OpenSpec.ofChange fnExactFetchSpec)) fnExactFetchCard

/-- THE TIED CARD OF 'laws.FnExactForget'. -/
def fnExactForgetCard : Claim7 := { stood := { row := fnExactForgetRow, standIns := [], harness := (true, "b547bfe720ad17187ffb2e0c69a95422eefa99f9e4723bf573bc7df1df685c1d"), looks := true }, kinds := [], alts := [], laidByText := true, laidKinds := [.handle, .sentinel, .sentinel, .sentinel], laidTests := true, laidLooks := .later }
def FnExactForgetCardSaid : Prop := Claim7.holds Tryz.pinned (.plain (OpenSpec.ofChange fnExactForgetSpec)) fnExactForgetCard

/-- THE TIED CARD OF 'laws.FnExactRecover'. -/
def fnExactRecoverCard : Claim7 := { stood := { row := fnExactRecoverRow, standIns := [], harness := (true, "b547bfe720ad17187ffb2e0c69a95422eefa99f9e4723bf573bc7df1df685c1d"), looks := true }, kinds := [], alts := [], laidByText := true, laidKinds := [.handle, .sentinel, .sentinel, .sentinel], laidTests := true, laidLooks := .later }
def FnExactRecoverCardSaid : Prop := Claim7.holds Tryz.pinned (.plain (OpenSpec.ofChange fnExactRecoverSpec)) fnExactRecoverCard

/-- THE SECOND FORM's CARD OF 'laws.FnExactFetch'. -/
def fnExactFetchUptoCard : Claim7 := { stood := { row := fnExactFetchUptoRow, standIns := [], harness := (true, "b547bfe720ad17187ffb2e0c69a95422eefa99f9e4723bf573bc7df1df685c1d"), looks := true }, kinds := [], alts := [], laidByText := true, laidKinds := [.handle, .sentinel, .sentinel, .sentinel], laidTests := true, laidLooks := .later }
def FnExactFetchUptoCardSaid : Prop := Claim7.holds Tryz.pinned (.plain (OpenSpec.upto fnExactFetchSpec)) fnExactFetchUptoCard

/-- THE SECOND FORM's CARD OF 'laws.FnExactForget'. -/
def fnExactForgetUptoCard : Claim7 := { stood := { row := fnExactForgetUptoRow, standIns := [], harness := (true, "b547bfe720ad17187ffb2e0c69a95422eefa99f9e4723bf573bc7df1df685c1d"), looks := true }, kinds := [], alts := [], laidByText := true, laidKinds := [.handle, .sentinel, .sentinel, .sentinel], laidTests := true, laidLooks := .later }
def FnExactForgetUptoCardSaid : Prop := Claim7.holds Tryz.pinned (.plain (OpenSpec.upto fnExactForgetSpec)) fnExactForgetUptoCard

/-- THE SECOND FORM's CARD OF 'laws.FnExactRecover'. -/
def fnExactRecoverUptoCard : Claim7 := { stood := { row := fnExactRecoverUptoRow, standIns := [], harness := (true, "b547bfe720ad17187ffb2e0c69a95422eefa99f9e4723bf573bc7df1df685c1d"), looks := true }, kinds := [], alts := [], laidByText := true, laidKinds := [.handle, .sentinel, .sentinel, .sentinel], laidTests := true, laidLooks := .later }
def FnExactRecoverUptoCardSaid : Prop := Claim7.holds Tryz.pinned (.plain (OpenSpec.upto fnExactRecoverSpec)) fnExactRecoverUptoCard
end Rows
end Go.Proofs.YtbhdbkffejlfmaaGreatDoor
