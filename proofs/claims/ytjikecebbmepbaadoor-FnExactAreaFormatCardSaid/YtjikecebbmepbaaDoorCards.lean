/-
  DERIVED. GIVEN WITH THE SEED: THE CARDS: each row of YtjikecebbmepbaaDoorRows.lean that lists a variable, with what it lists TIED to the program's text (the seventh form; the later family's looks); each row that meets fmt, with fmt's text TOLD by the authors' own Lean function (tested against real Go, not proved from fmt's source: count such statements apart). THE CARD IS WHAT COUNTS. Prove the row's statement (the work); the ties are given (YtjikecebbmepbaaDoorTie.lean); close each card by the builder's one call (the guide's Derived/Test/ToyasCard.lean, 'card_holds'). Laid BY PROGRAM, IN A SANDBOX (cutbox-door.mjs). By AI agents, Wed Nov 11 2026. No macro, syntax, notation, axiom, sorry.
-/
import Derived.Test.YtjikecebbmepbaaDoorRows
import GoSem.ClaimSeven
namespace Go.Proofs.YtjikecebbmepbaaDoor
namespace Rows

/-- THE TIED CARD OF 'laws.FnExactAreaRoom'. -/
def fnExactAreaRoomCard : Claim7 := { stood := { row := fnExactAreaRoomRow, standIns := [], harness := (true, "c0bbff38d678dbced3c5fa0f7cbff23e98c9e6839a0a33eeeef6aec92a356080"), looks := true }, kinds := [], alts := [], laidByText := true, laidKinds := [.sentinel, .sentinel], laidTests := true, laidLooks := .later }
def FnExactAreaRoomCardSaid : Prop := Claim7.holds Tryd.pinned (.plain (OpenSpec.ofChange fnExactAreaRoomSpec)) fnExactAreaRoomCard

/-- THE TIED CARD OF 'laws.FnExactAreaFormat'. -/
def fnExactAreaFormatCard : Claim7 := { stood := { row := fnExactAreaFormatRow, standIns := [], harness := (true, "c0bbff38d678dbced3c5fa0f7cbff23e98c9e6839a0a33eeeef6aec92a356080"), looks := true }, kinds := [], alts := [], laidByText := true, laidKinds := [.sentinel, .sentinel, .sentinel], laidTests := true, laidLooks := .later }
def FnExactAreaFormatCardSaid : Prop := Claim7.holds Tryd.pinned (.plain (OpenSpec.ofChange fnExactAreaFormatSpec)) fnExactAreaFormatCard

/-- THE SECOND FORM's CARD OF 'laws.FnExactAreaRoom'. -/
def fnExactAreaRoomUptoCard : Claim7 := { stood := { row := fnExactAreaRoomUptoRow, standIns := [], harness := (true, "c0bbff38d678dbced3c5fa0f7cbff23e98c9e6839a0a33eeeef6aec92a356080"), looks := true }, kinds := [], alts := [], laidByText := true, laidKinds := [.sentinel, .sentinel], laidTests := true, laidLooks := .later }
def FnExactAreaRoomUptoCardSaid : Prop := Claim7.holds Tryd.pinned (.plain (OpenSpec.upto fnExactAreaRoomSpec)) fnExactAreaRoomUptoCard

/-- THE SECOND FORM's CARD OF 'laws.FnExactAreaFormat'. -/
def fnExactAreaFormatUptoCard : Claim7 := { stood := { row := fnExactAreaFormatUptoRow, standIns := [], harness := (true, "c0bbff38d678dbced3c5fa0f7cbff23e98c9e6839a0a33eeeef6aec92a356080"), looks := true }, kinds := [], alts := [], laidByText := true, laidKinds := [.sentinel, .sentinel, .sentinel], laidTests := true, laidLooks := .later }
def FnExactAreaFormatUptoCardSaid : Prop := Claim7.holds Tryd.pinned (.plain (OpenSpec.upto fnExactAreaFormatSpec)) fnExactAreaFormatUptoCard
end Rows
end Go.Proofs.YtjikecebbmepbaaDoor
