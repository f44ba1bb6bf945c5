/-
  DERIVED. GIVEN WITH THE SEED: THE CARDS: each row of YtjebahcmnnmfaaaDoorRows.lean that lists a variable, with what it lists TIED to the program's text (the seventh form; the later family's looks); each row that meets fmt, with fmt's text TOLD by the authors' own Lean function (tested against real Go, not proved from fmt's source: count such statements apart). THE CARD IS WHAT COUNTS. Prove the row's statement (the work); the ties are given (YtjebahcmnnmfaaaDoorTie.lean); close each card by the builder's one call (the guide's Derived/Test/ToyasCard.lean, 'card_holds'). Laid BY PROGRAM, IN A SANDBOX (cutbox-door.mjs). By AI agents, Wed Nov 11 2026. No macro, syntax, notation, axiom, sorry.
-/
import Derived.Test.YtjebahcmnnmfaaaDoorRows
import GoSem.ClaimSeven
namespace Go.Proofs.YtjebahcmnnmfaaaDoor
namespace Rows

/-- THE TIED CARD OF 'laws.FnExactPathText'. -/
def fnExactPathTextCard : Claim7 := { stood := { row := fnExactPathTextRow, standIns := [], harness := (true, "61f2f3b2d57e3383bff323c5861cbcf31ec7472c9d18be0c1efb1e21e1e3db46"), looks := true }, kinds := [], alts := [], laidByText := true, laidKinds := [.data, .data, .data], laidTests := true, laidLooks := .later }
def FnExactPathTextCardSaid : Prop := Claim7.holds Tryd.pinned (.plain (OpenSpec.ofChange fnExactPathTextSpec)) fnExactPathTextCard

/-- THE TIED CARD OF 'laws.FnExactPathRead'. -/
def fnExactPathReadCard : Claim7 := { stood := { row := fnExactPathReadRow, standIns := [], harness := (true, "61f2f3b2d57e3383bff323c5861cbcf31ec7472c9d18be0c1efb1e21e1e3db46"), looks := true }, kinds := [], alts := [], laidByText := true, laidKinds := [.data, .data, .data, .data, .sentinel, .sentinel, .pinned], laidTests := true, laidLooks := .later }
def FnExactPathReadCardSaid : Prop := Claim7.holds Tryd.pinned (.plain (OpenSpec.ofChange fnExactPathReadSpec)) fnExactPathReadCard

/-- THE SECOND FORM's CARD OF 'laws.FnExactPathText'. -/
def fnExactPathTextUptoCard : Claim7 := { stood := { row := fnExactPathTextUptoRow, standIns := [], harness := (true, "61f2f3b2d57e3383bff323c5861cbcf31ec7472c9d18be0c1efb1e21e1e3db46"), looks := true }, kinds := [], alts := [], laidByText := true, laidKinds := [.data, .data, .data], laidTests := true, laidLooks := .later }
def FnExactPathTextUptoCardSaid : Prop := Claim7.holds Tryd.pinned (.plain (OpenSpec.upto fnExactPathTextSpec)) fnExactPathTextUptoCard

/-- THE SECOND FORM's CARD OF 'laws.FnExactPathRead'. -/
def fnExactPathReadUptoCard : Claim7 := { stood := { row := fnExactPathReadUptoRow, standIns := [], harness := (true, "61f2f3b2d57e3383bff323c5861cbcf31ec7472c9d18be0c1efb1e21e1e3db46"), looks := true }, kinds := [], alts := [], laidByText := true, laidKinds := [.data, .data, .data, .data, .sentinel, .sentinel, .pinned], laidTests := true, laidLooks := .later }
def FnExactPathReadUptoCardSaid : Prop := Claim7.holds Tryd.pinned (.plain (OpenSpec.upto fnExactPathReadSpec)) fnExactPathReadUptoCard
end Rows
end Go.Proofs.YtjebahcmnnmfaaaDoor
