/-
  DERIVED. GIVEN WITH THE SEED: THE CARDS: each row of YtnpbmaajgiapmaaGreatDoorRows.lean that lists a variable, with what it lists TIED to the program's text (the seventh form; the later family's looks); each row that meets fmt, with fmt's text TOLD by the authors' own Lean function (tested against real Go, not proved from fmt's source: count such statements apart). THE CARD IS WHAT COUNTS. Prove the row's statement (the work); the ties are given (YtnpbmaajgiapmaaGreatDoorTie.lean); close each card by the builder's one call (the guide's Derived/Test/ToyasCard.lean, 'card_holds'). Laid BY PROGRAM, IN A SANDBOX (cutbox-door.mjs). By AI agents, Wed Nov 11 2026. No macro, syntax, notation, axiom, sorry.
-/
import Derived.Test.YtnpbmaajgiapmaaGreatDoorRows
import GoSem.ClaimSeven
namespace Go.Proofs.YtnpbmaajgiapmaaGreatDoor
namespace Rows

/-- THE TIED CARD OF 'laws.FnExactStoreRight'. -/
def fnExactStoreRightCard : Claim7 := { stood := { row := fnExactStoreRightRow, standIns := [], harness := (true, "2ae91e321babe0a9623a2f31f0994941cd7337bacff0c0d0404c40e5c419be53"), looks := true }, kinds := [], alts := [], laidByText := true, laidKinds := [.handle, .sentinel, .sentinel, .sentinel], laidTests := true, laidLooks := .later }
def FnExactStoreRightCardSaid : Prop := Claim7.holds Tryz.pinned (.plain (OpenSpec.ofChange fnExactStoreRightSpec)) fnExactStoreRightCard

/-- THE TIED CARD OF 'laws.FnExactStoreNew'. -/
def fnExactStoreNewCard : Claim7 := { stood := { row := fnExactStoreNewRow, standIns := [], harness := (true, "2ae91e321babe0a9623a2f31f0994941cd7337bacff0c0d0404c40e5c419be53"), looks := true }, kinds := [], alts := [], laidByText := true, laidKinds := [.handle, .sentinel, .sentinel, .sentinel], laidTests := true, laidLooks := .later }
def FnExactStoreNewCardSaid : Prop := Claim7.holds Tryz.pinned (.plain (OpenSpec.ofChange fnExactStoreNewSpec)) fnExactStoreNewCard

/-- THE TIED CARD OF 'laws.FnExactStoreGet'. -/
def fnExactStoreGetCard : Claim7 := { stood := { row := fnExactStoreGetRow, standIns := [], harness := (true, "2ae91e321babe0a9623a2f31f0994941cd7337bacff0c0d0404c40e5c419be53"), looks := true }, kinds := [], alts := [], laidByText := true, laidKinds := [.handle, .sentinel, .sentinel, .sentinel], laidTests := true, laidLooks := .later }
def FnExactStoreGetCardSaid : Prop := Claim7.holds Tryz.pinned (.plain (OpenSpec.ofChange fnExactStoreGetSpec)) fnExactStoreGetCard

/-- THE TIED CARD OF 'laws.FnExactStorePut'. -/
def fnExactStorePutCard : Claim7 := { stood := { row := fnExactStorePutRow, standIns := [], harness := (true, "2ae91e321babe0a9623a2f31f0994941cd7337bacff0c0d0404c40e5c419be53"), looks := true }, kinds := [], alts := [], laidByText := true, laidKinds := [.handle, .sentinel, .sentinel, .sentinel], laidTests := true, laidLooks := .later }
def FnExactStorePutCardSaid : Prop := Claim7.holds Tryz.pinned (.plain (OpenSpec.ofChange fnExactStorePutSpec)) fnExactStorePutCard

/-- THE TIED CARD OF 'laws.FnExactStoreDrop'. -/
def fnExactStoreDropCard : Claim7 := { stood := { row := fnExactStoreDropRow, standIns := [], harness := (true, "2ae91e321babe0a9623a2f31f0994941cd7337bacff0c0d0404c40e5c419be53"), looks := true }, kinds := [], alts := [], laidByText := true, laidKinds := [.handle, .sentinel, .sentinel, .sentinel], laidTests := true, laidLooks := .later }
def FnExactStoreDropCardSaid : Prop := Claim7.holds Tryz.pinned (.plain (OpenSpec.ofChange fnExactStoreDropSpec)) fnExactStoreDropCard

/-- THE SECOND FORM's CARD OF 'laws.FnExactStoreRight'. -/
def fnExactStoreRightUptoCard : Claim7 := { stood := { row := fnExactStoreRightUptoRow, standIns := [], harness := (true, "2ae91e321babe0a9623a2f31f0994941cd7337bacff0c0d0404c40e5c419be53"), looks := true }, kinds := [], alts := [], laidByText := true, laidKinds := [.handle, .sentinel, .sentinel, .sentinel], laidTests := true, laidLooks := .later }
def FnExactStoreRightUptoCardSaid : Prop := Claim7.holds Tryz.pinned (.plain (OpenSpec.upto fnExactStoreRightSpec)) fnExactStoreRightUptoCard

/-- THE SECOND FORM's CARD OF 'laws.FnExactStoreNew'. -/
def fnExactStoreNewUptoCard : Claim7 := { stood := { row := fnExactStoreNewUptoRow, standIns := [], harness := (true, "2ae91e321babe0a9623a2f31f0994941cd7337bacff0c0d0404c40e5c419be53"), looks := true }, kinds := [], alts := [], laidByText := true, laidKinds := [.handle, .sentinel, .sentinel, .sentinel], laidTests := true, laidLooks := .later }
def FnExactStoreNewUptoCardSaid : Prop := Claim7.holds Tryz.pinned (.plain (OpenSpec.upto fnExactStoreNewSpec)) fnExactStoreNewUptoCard

/-- THE SECOND FORM's CARD OF 'laws.FnExactStoreGet'. -/
def fnExactStoreGetUptoCard : Claim7 := { stood := { row := fnExactStoreGetUptoRow, standIns := [], harness := (true, "2ae91e321babe0a9623a2f31f0994941cd7337bacff0c0d0404c40e5c419be53"), looks := true }, kinds := [], alts := [], laidByText := true, laidKinds := [.handle, .sentinel, .sentinel, .sentinel], laidTests := true, laidLooks := .later }
def FnExactStoreGetUptoCardSaid : Prop := Claim7.holds Tryz.pinned (.plain (OpenSpec.upto fnExactStoreGetSpec)) fnExactStoreGetUptoCard

/-- THE SECOND FORM's CARD OF 'laws.FnExactStorePut'. -/
def fnExactStorePutUptoCard : Claim7 := { stood := { row := fnExactStorePutUptoRow, standIns := [], harness := (true, "2ae91e321babe0a9623a2f31f0994941cd7337bacff0c0d0404c40e5c419be53"), looks := true }, kinds := [], alts := [], laidByText := true, laidKinds := [.handle, .sentinel, .sentinel, .sentinel], laidTests := true, laidLooks := .later }
def FnExactStorePutUptoCardSaid : Prop := Claim7.holds Tryz.pinned (.plain (OpenSpec.upto fnExactStorePutSpec)) fnExactStorePutUptoCard

/-- THE SECOND FORM's CARD OF 'laws.FnExactStoreDrop'. -/
def fnExactStoreDropUptoCard : Claim7 := { stood := { row := fnExactStoreDropUptoRow, standIns := [], harness := (true, "2ae91e321babe0a9623a2f31f0994941cd7337bacff0c0d0404c40e5c419be53"), looks := true }, kinds := [], alts := [], laidByText := true, laidKinds := [.handle, .sentinel, .sentinel, .sentinel], laidTests := true, laidLooks := .later }
def FnExactStoreDropUptoCardSaid : Prop := Claim7.holds Tryz.pinned (.plain (OpenSpec.upto fnExactStoreDropSpec)) fnExactStoreDropUptoCard
end Rows
end Go.Proofs.YtnpbmaajgiapmaaGreatDoor
