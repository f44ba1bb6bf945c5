/-
  DERIVED. GIVEN WITH THE SEED: THE CARDS: each row of YtchnldhnpgbmkaaDoorRows.lean that lists a variable, with what it lists TIED to the program's text (the seventh form; the later family's looks); each row that meets fmt, with fmt's text TOLD by the authors' own Lean function (tested against real Go, not proved from fmt's source: count such statements apart). THE CARD IS WHAT COUNTS. Prove the row's statement (the work); the ties are given (YtchnldhnpgbmkaaDoorTie.lean); close each card by the builder's one call (the guide's Derived/Test/ToyasCard.lean, 'card_holds'). Laid BY PROGRAM, IN A SANDBOX (cutbox-door.mjs). By AI agents, Wed Nov 11 2026. No macro, syntax, notation, axiom, sorry.
-/
import Derived.Test.YtchnldhnpgbmkaaDoorRows
import GoSem.ClaimSeven
namespace Go.Proofs.YtchnldhnpgbmkaaDoor
namespace Rows

/-- THE TIED CARD OF 'laws.FnExactNumberRight'. -/
def fnExactNumberRightCard : Claim7 := { stood := { row := fnExactNumberRightRow, standIns := [], harness := (true, "627440667341c80fbfa21dd07f71e10bed4921421452173bbdb3c4653741ba71"), looks := true }, kinds := [], alts := [], laidByText := true, laidKinds := [.data, .pinned], laidTests := true, laidLooks := .later }
def FnExactNumberRightCardSaid : Prop := Claim7.holds Tryd.pinned (.plain (OpenSpec.ofChange fnExactNumberRightSpec)) fnExactNumberRightCard

/-- THE TIED CARD OF 'laws.FnExactDayRight'. -/
def fnExactDayRightCard : Claim7 := { stood := { row := fnExactDayRightRow, standIns := [], harness := (true, "627440667341c80fbfa21dd07f71e10bed4921421452173bbdb3c4653741ba71"), looks := true }, kinds := [], alts := [], laidByText := true, laidKinds := [.data, .data, .data, .sentinel, .sentinel], laidTests := true, laidLooks := .later }
def FnExactDayRightCardSaid : Prop := Claim7.holds Tryd.pinned (.plain (OpenSpec.ofChange fnExactDayRightSpec)) fnExactDayRightCard

/-- THE TIED CARD OF 'laws.FnExactTimeRight'. -/
def fnExactTimeRightCard : Claim7 := { stood := { row := fnExactTimeRightRow, standIns := [], harness := (true, "627440667341c80fbfa21dd07f71e10bed4921421452173bbdb3c4653741ba71"), looks := true }, kinds := [], alts := [], laidByText := true, laidKinds := [.data, .data, .data, .data, .sentinel, .sentinel, .pinned], laidTests := true, laidLooks := .later }
def FnExactTimeRightCardSaid : Prop := Claim7.holds Tryd.pinned (.plain (OpenSpec.ofChange fnExactTimeRightSpec)) fnExactTimeRightCard

/-- THE SECOND FORM's CARD OF 'laws.FnExactNumberRight'. -/
def fnExactNumberRightUptoCard : Claim7 := { stood := { row := fnExactNumberRightUptoRow, standIns := [], harness := (true, "627440667341c80fbfa21dd07f71e10bed4921421452173bbdb3c4653741ba71"), looks := true }, kinds := [], alts := [], laidByText := true, laidKinds := [.data, .pinned], laidTests := true, laidLooks := .later }
def FnExactNumberRightUptoCardSaid : Prop := Claim7.holds Tryd.pinned (.plain (OpenSpec.upto fnExactNumberRightSpec)) fnExactNumberRightUptoCard

/-- THE SECOND FORM's CARD OF 'laws.FnExactDayRight'. -/
def fnExactDayRightUptoCard : Claim7 := { stood := { row := fnExactDayRightUptoRow, standIns := [], harness := (true, "627440667341c80fbfa21dd07f71e10bed4921421452173bbdb3c4653741ba71"), looks := true }, kinds := [], alts := [], laidByText := true, laidKinds := [.data, .data, .data, .sentinel, .sentinel], laidTests := true, laidLooks := .later }
def FnExactDayRightUptoCardSaid : Prop := Claim7.holds Tryd.pinned (.plain (OpenSpec.upto fnExactDayRightSpec)) fnExactDayRightUptoCard

/-- THE SECOND FORM's CARD OF 'laws.FnExactTimeRight'. -/
def fnExactTimeRightUptoCard : Claim7 := { stood := { row := fnExactTimeRightUptoRow, standIns := [], harness := (true, "627440667341c80fbfa21dd07f71e10bed4921421452173bbdb3c4653741ba71"), looks := true }, kinds := [], alts := [], laidByText := true, laidKinds := [.data, .data, .data, .data, .sentinel, .sentinel, .pinned], laidTests := true, laidLooks := .later }
def FnExactTimeRightUptoCardSaid : Prop := Claim7.holds Tryd.pinned (.plain (OpenSpec.upto fnExactTimeRightSpec)) fnExactTimeRightUptoCard
end Rows
end Go.Proofs.YtchnldhnpgbmkaaDoor
