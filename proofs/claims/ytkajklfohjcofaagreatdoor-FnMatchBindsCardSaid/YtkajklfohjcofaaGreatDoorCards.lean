/-
  DERIVED. GIVEN WITH THE SEED: THE CARDS: each row of YtkajklfohjcofaaGreatDoorRows.lean that lists a variable, with what it lists TIED to the program's text (the seventh form; the later family's looks); each row that meets fmt, with fmt's text TOLD by the authors' own Lean function (tested against real Go, not proved from fmt's source: count such statements apart). THE CARD IS WHAT COUNTS. Prove the row's statement (the work); the ties are given (YtkajklfohjcofaaGreatDoorTie.lean); close each card by the builder's one call (the guide's Derived/Test/ToyasCard.lean, 'card_holds'). Laid BY PROGRAM, IN A SANDBOX (cutbox-door.mjs). By AI agents, Wed Nov 11 2026. No macro, syntax, notation, axiom, sorry.
-/
import Derived.Test.YtkajklfohjcofaaGreatDoorRows
import GoSem.ClaimSeven
namespace Go.Proofs.YtkajklfohjcofaaGreatDoor
namespace Rows

/-- THE TIED CARD OF 'laws.FnExactMatchSig'. -/
def fnExactMatchSigCard : Claim7 := { stood := { row := fnExactMatchSigRow, standIns := [], harness := (true, "3b9c0b29125ae3c1057be6c9ea7f3211bb3d44f2cff06c881e93488895868c60"), looks := true }, kinds := [], alts := [], laidByText := true, laidKinds := [.handle], laidTests := true, laidLooks := .later }
def FnExactMatchSigCardSaid : Prop := Claim7.holds Tryz.pinned (.plain (OpenSpec.ofChange fnExactMatchSigSpec)) fnExactMatchSigCard

/-- THE TIED CARD OF 'laws.FnExactEquivSigs'. -/
def fnExactEquivSigsCard : Claim7 := { stood := { row := fnExactEquivSigsRow, standIns := [], harness := (true, "3b9c0b29125ae3c1057be6c9ea7f3211bb3d44f2cff06c881e93488895868c60"), looks := true }, kinds := [], alts := [], laidByText := true, laidKinds := [.handle], laidTests := true, laidLooks := .later }
def FnExactEquivSigsCardSaid : Prop := Claim7.holds Tryz.pinned (.plain (OpenSpec.ofChange fnExactEquivSigsSpec)) fnExactEquivSigsCard

/-- THE TIED CARD OF 'laws.FnExactFirstMismatch'. -/
def fnExactFirstMismatchCard : Claim7 := { stood := { row := fnExactFirstMismatchRow, standIns := [], harness := (true, "3b9c0b29125ae3c1057be6c9ea7f3211bb3d44f2cff06c881e93488895868c60"), looks := true }, kinds := [], alts := [], laidByText := true, laidKinds := [.handle], laidTests := true, laidLooks := .later }
def FnExactFirstMismatchCardSaid : Prop := Claim7.holds Tryz.pinned (.plain (OpenSpec.ofChange fnExactFirstMismatchSpec)) fnExactFirstMismatchCard

/-- THE TIED CARD OF 'laws.FnExactJoinSigs'. -/
def fnExactJoinSigsCard : Claim7 := { stood := { row := fnExactJoinSigsRow, standIns := [], harness := (true, "3b9c0b29125ae3c1057be6c9ea7f3211bb3d44f2cff06c881e93488895868c60"), looks := true }, kinds := [], alts := [], laidByText := true, laidKinds := [.handle], laidTests := true, laidLooks := .later }
def FnExactJoinSigsCardSaid : Prop := Claim7.holds Tryz.pinned (.plain (OpenSpec.ofChange fnExactJoinSigsSpec)) fnExactJoinSigsCard

/-- THE TIED CARD OF 'laws.FnMatchReflexive'. -/
def fnMatchReflexiveCard : Claim7 := { stood := { row := fnMatchReflexiveRow, standIns := [], harness := (true, "3b9c0b29125ae3c1057be6c9ea7f3211bb3d44f2cff06c881e93488895868c60"), looks := true }, kinds := [], alts := [], laidByText := true, laidKinds := [.handle], laidTests := true, laidLooks := .later }
def FnMatchReflexiveCardSaid : Prop := Claim7.holds Tryz.pinned (.plain (OpenSpec.ofChange fnMatchReflexiveSpec)) fnMatchReflexiveCard

/-- THE TIED CARD OF 'laws.FnMatchEmpty'. -/
def fnMatchEmptyCard : Claim7 := { stood := { row := fnMatchEmptyRow, standIns := [], harness := (true, "3b9c0b29125ae3c1057be6c9ea7f3211bb3d44f2cff06c881e93488895868c60"), looks := true }, kinds := [], alts := [], laidByText := true, laidKinds := [.handle], laidTests := true, laidLooks := .later }
def FnMatchEmptyCardSaid : Prop := Claim7.holds Tryz.pinned (.plain (OpenSpec.ofChange fnMatchEmptySpec)) fnMatchEmptyCard

/-- THE TIED CARD OF 'laws.FnMatchNormal'. -/
def fnMatchNormalCard : Claim7 := { stood := { row := fnMatchNormalRow, standIns := [], harness := (true, "3b9c0b29125ae3c1057be6c9ea7f3211bb3d44f2cff06c881e93488895868c60"), looks := true }, kinds := [], alts := [], laidByText := true, laidKinds := [.handle], laidTests := true, laidLooks := .later }
def FnMatchNormalCardSaid : Prop := Claim7.holds Tryz.pinned (.plain (OpenSpec.ofChange fnMatchNormalSpec)) fnMatchNormalCard

/-- THE TIED CARD OF 'laws.FnMatchBinds'. -/
def fnMatchBindsCard : Claim7 := { stood := { row := fnMatchBindsRow, standIns := [], harness := (true, "3b9c0b29125ae3c1057be6c9ea7f3211bb3d44f2cff06c881e93488895868c60"), looks := true }, kinds := [], alts := [], laidByText := true, laidKinds := [.handle], laidTests := true, laidLooks := .later }
def FnMatchBindsCardSaid : Prop := Claim7.holds Tryz.pinned (.plain (OpenSpec.ofChange fnMatchBindsSpec)) fnMatchBindsCard

/-- THE TIED CARD OF 'laws.FnEquivSigs'. -/
def fnEquivSigsCard : Claim7 := { stood := { row := fnEquivSigsRow, standIns := [], harness := (true, "3b9c0b29125ae3c1057be6c9ea7f3211bb3d44f2cff06c881e93488895868c60"), looks := true }, kinds := [], alts := [], laidByText := true, laidKinds := [.handle], laidTests := true, laidLooks := .later }
def FnEquivSigsCardSaid : Prop := Claim7.holds Tryz.pinned (.plain (OpenSpec.ofChange fnEquivSigsSpec)) fnEquivSigsCard

/-- THE TIED CARD OF 'laws.FnFirstMismatch'. -/
def fnFirstMismatchCard : Claim7 := { stood := { row := fnFirstMismatchRow, standIns := [], harness := (true, "3b9c0b29125ae3c1057be6c9ea7f3211bb3d44f2cff06c881e93488895868c60"), looks := true }, kinds := [], alts := [], laidByText := true, laidKinds := [.handle], laidTests := true, laidLooks := .later }
def FnFirstMismatchCardSaid : Prop := Claim7.holds Tryz.pinned (.plain (OpenSpec.ofChange fnFirstMismatchSpec)) fnFirstMismatchCard

/-- THE TIED CARD OF 'laws.FnMatchStrengthen'. -/
def fnMatchStrengthenCard : Claim7 := { stood := { row := fnMatchStrengthenRow, standIns := [], harness := (true, "3b9c0b29125ae3c1057be6c9ea7f3211bb3d44f2cff06c881e93488895868c60"), looks := true }, kinds := [], alts := [], laidByText := true, laidKinds := [.handle], laidTests := true, laidLooks := .later }
def FnMatchStrengthenCardSaid : Prop := Claim7.holds Tryz.pinned (.plain (OpenSpec.ofChange fnMatchStrengthenSpec)) fnMatchStrengthenCard

/-- THE TIED CARD OF 'laws.FnMatchWeaken'. -/
def fnMatchWeakenCard : Claim7 := { stood := { row := fnMatchWeakenRow, standIns := [], harness := (true, "3b9c0b29125ae3c1057be6c9ea7f3211bb3d44f2cff06c881e93488895868c60"), looks := true }, kinds := [], alts := [], laidByText := true, laidKinds := [.handle], laidTests := true, laidLooks := .later }
def FnMatchWeakenCardSaid : Prop := Claim7.holds Tryz.pinned (.plain (OpenSpec.ofChange fnMatchWeakenSpec)) fnMatchWeakenCard

/-- THE SECOND FORM's CARD OF 'laws.FnExactMatchSig'. -/
def fnExactMatchSigUptoCard : Claim7 := { stood := { row := fnExactMatchSigUptoRow, standIns := [], harness := (true, "3b9c0b29125ae3c1057be6c9ea7f3211bb3d44f2cff06c881e93488895868c60"), looks := true }, kinds := [], alts := [], laidByText := true, laidKinds := [.handle], laidTests := true, laidLooks := .later }
def FnExactMatchSigUptoCardSaid : Prop := Claim7.holds Tryz.pinned (.plain (OpenSpec.upto fnExactMatchSigSpec)) fnExactMatchSigUptoCard

/-- THE SECOND FORM's CARD OF 'laws.FnExactEquivSigs'. -/
def fnExactEquivSigsUptoCard : Claim7 := { stood := { row := fnExactEquivSigsUptoRow, standIns := [], harness := (true, "3b9c0b29125ae3c1057be6c9ea7f3211bb3d44f2cff06c881e93488895868c60"), looks := true }, kinds := [], alts := [], laidByText := true, laidKinds := [.handle], laidTests := true, laidLooks := .later }
def FnExactEquivSigsUptoCardSaid : Prop := Claim7.holds Tryz.pinned (.plain (OpenSpec.upto fnExactEquivSigsSpec)) fnExactEquivSigsUptoCard

/-- THE SECOND FORM's CARD OF 'laws.FnExactFirstMismatch'. -/
def fnExactFirstMismatchUptoCard : Claim7 := { stood := { row := fnExactFirstMismatchUptoRow, standIns := [], harness := (true, "3b9c0b29125ae3c1057be6c9ea7f3211bb3d44f2cff06c881e93488895868c60"), looks := true }, kinds := [], alts := [], laidByText := true, laidKinds := [.handle], laidTests := true, laidLooks := .later }
def FnExactFirstMismatchUptoCardSaid : Prop := Claim7.holds Tryz.pinned (.plain (OpenSpec.upto fnExactFirstMismatchSpec)) fnExactFirstMismatchUptoCard

/-- THE SECOND FORM's CARD OF 'laws.FnExactJoinSigs'. -/
def fnExactJoinSigsUptoCard : Claim7 := { stood := { row := fnExactJoinSigsUptoRow, standIns := [], harness := (true, "3b9c0b29125ae3c1057be6c9ea7f3211bb3d44f2cff06c881e93488895868c60"), looks := true }, kinds := [], alts := [], laidByText := true, laidKinds := [.handle], laidTests := true, laidLooks := .later }
def FnExactJoinSigsUptoCardSaid : Prop := Claim7.holds Tryz.pinned (.plain (OpenSpec.upto fnExactJoinSigsSpec)) fnExactJoinSigsUptoCard

/-- THE SECOND FORM's CARD OF 'laws.FnMatchReflexive'. -/
def fnMatchReflexiveUptoCard : Claim7 := { stood := { row := fnMatchReflexiveUptoRow, standIns := [], harness := (true, "3b9c0b29125ae3c1057be6c9ea7f3211bb3d44f2cff06c881e93488895868c60"), looks := true }, kinds := [], alts := [], laidByText := true, laidKinds := [.handle], laidTests := true, laidLooks := .later }
def FnMatchReflexiveUptoCardSaid : Prop := Claim7.holds Tryz.pinned (.plain (OpenSpec.upto fnMatchReflexiveSpec)) fnMatchReflexiveUptoCard

/-- THE SECOND FORM's CARD OF 'laws.FnMatchEmpty'. -/
def fnMatchEmptyUptoCard : Claim7 := { stood := { row := fnMatchEmptyUptoRow, standIns := [], harness := (true, "3b9c0b29125ae3c1057be6c9ea7f3211bb3d44f2cff06c881e93488895868c60"), looks := true }, kinds := [], alts := [], laidByText := true, laidKinds := [.handle], laidTests := true, laidLooks := .later }
def FnMatchEmptyUptoCardSaid : Prop := Claim7.holds Tryz.pinned (.plain (OpenSpec.upto fnMatchEmptySpec)) fnMatchEmptyUptoCard

/-- THE SECOND FORM's CARD OF 'laws.FnMatchNormal'. -/
def fnMatchNormalUptoCard : Claim7 := { stood := { row := fnMatchNormalUptoRow, standIns := [], harness := (true, "3b9c0b29125ae3c1057be6c9ea7f3211bb3d44f2cff06c881e93488895868c60"), looks := true }, kinds := [], alts := [], laidByText := true, laidKinds := [.handle], laidTests := true, laidLooks := .later }
def FnMatchNormalUptoCardSaid : Prop := Claim7.holds Tryz.pinned (.plain (OpenSpec.upto fnMatchNormalSpec)) fnMatchNormalUptoCard

/-- THE SECOND FORM's CARD OF 'laws.FnMatchBinds'. -/
def fnMatchBindsUptoCard : Claim7 := { stood := { row := fnMatchBindsUptoRow, standIns := [], harness := (true, "3b9c0b29125ae3c1057be6c9ea7f3211bb3d44f2cff06c881e93488895868c60"), looks := true }, kinds := [], alts := [], laidByText := true, laidKinds := [.handle], laidTests := true, laidLooks := .later }
def FnMatchBindsUptoCardSaid : Prop := Claim7.holds Tryz.pinned (.plain (OpenSpec.upto fnMatchBindsSpec)) fnMatchBindsUptoCard

/-- THE SECOND FORM's CARD OF 'laws.FnEquivSigs'. -/
def fnEquivSigsUptoCard : Claim7 := { stood := { row := fnEquivSigsUptoRow, standIns := [], harness := (true, "3b9c0b29125ae3c1057be6c9ea7f3211bb3d44f2cff06c881e93488895868c60"), looks := true }, kinds := [], alts := [], laidByText := true, laidKinds := [.handle], laidTests := true, laidLooks := .later }
def FnEquivSigsUptoCardSaid : Prop := Claim7.holds Tryz.pinned (.plain (OpenSpec.upto fnEquivSigsSpec)) fnEquivSigsUptoCard

/-- THE SECOND FORM's CARD OF 'laws.FnFirstMismatch'. -/
def fnFirstMismatchUptoCard : Claim7 := { stood := { row := fnFirstMismatchUptoRow, standIns := [], harness := (true, "3b9c0b29125ae3c1057be6c9ea7f3211bb3d44f2cff06c881e93488895868c60"), looks := true }, kinds := [], alts := [], laidByText := true, laidKinds := [.handle], laidTests := true, laidLooks := .later }
def FnFirstMismatchUptoCardSaid : Prop := Claim7.holds Tryz.pinned (.plain (OpenSpec.upto fnFirstMismatchSpec)) fnFirstMismatchUptoCard

/-- THE SECOND FORM's CARD OF 'laws.FnMatchStrengthen'. -/
def fnMatchStrengthenUptoCard : Claim7 := { stood := { row := fnMatchStrengthenUptoRow, standIns := [], harness := (true, "3b9c0b29125ae3c1057be6c9ea7f3211bb3d44f2cff06c881e93488895868c60"), looks := true }, kinds := [], alts := [], laidByText := true, laidKinds := [.handle], laidTests := true, laidLooks := .later }
def FnMatchStrengthenUptoCardSaid : Prop := Claim7.holds Tryz.pinned (.plain (OpenSpec.upto fnMatchStrengthenSpec)) fnMatchStrengthenUptoCard

/-- THE SECOND FORM's CARD OF 'laws.FnMatchWeaken'. -/
def fnMatchWeakenUptoCard : Claim7 := { stood := { row := fnMatchWeakenUptoRow, standIns := [], harness := (true, "3b9c0b29125ae3c1057be6c9ea7f3211bb3d44f2cff06c881e93488895868c60"), looks := true }, kinds := [], alts := [], laidByText := true, laidKinds := [.handle], laidTests := true, laidLooks := .later }
def FnMatchWeakenUptoCardSaid : Prop := Claim7.holds Tryz.pinned (.plain (OpenSpec.upto fnMatchWeakenSpec)) fnMatchWeakenUptoCard
end Rows
end Go.Proofs.YtkajklfohjcofaaGreatDoor
