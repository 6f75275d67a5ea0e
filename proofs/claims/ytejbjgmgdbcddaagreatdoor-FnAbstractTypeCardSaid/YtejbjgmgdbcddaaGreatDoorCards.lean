/-
  DERIVED. GIVEN WITH THE SEED: THE CARDS: each row of YtejbjgmgdbcddaaGreatDoorRows.lean that lists a variable, with what it lists TIED to the program's text (the seventh form; the later family's looks); each row that meets fmt, with fmt's text TOLD by the authors' own Lean function (tested against real Go, not proved from fmt's source: count such statements apart). THE CARD IS WHAT COUNTS. Prove the row's statement (the work); the ties are given (YtejbjgmgdbcddaaGreatDoorTie.lean); close each card by the builder's one call (the guide's Derived/Test/ToyasCard.lean, 'card_holds'). Laid BY PROGRAM, IN A SANDBOX (cutbox-door.mjs). By AI agents, Wed Nov 11 2026. No macro, syntax, notation, axiom, sorry.
-/
import Derived.Test.YtejbjgmgdbcddaaGreatDoorRows
import GoSem.ClaimSeven
namespace Go.Proofs.YtejbjgmgdbcddaaGreatDoor
namespace Rows

/-- THE TIED CARD OF 'laws.FnAbstractType'. -/
def fnAbstractTypeCard : Claim7 := { stood := { row := fnAbstractTypeRow, standIns := [], harness := (true, "d8fd77e393255c5f6a6687040383f1422a1883b2acf4baddda84eba7a1600b58"), looks := true }, kinds := [], alts := [], laidByText := true, laidKinds := [.handle], laidTests := true, laidLooks := .later }
def FnAbstractTypeCardSaid : Prop := Claim7.holds Tryz.pinned (.plain (OpenSpec.ofChange fnAbstractTypeSpec)) fnAbstractTypeCard

/-- THE TIED CARD OF 'laws.FnDropVal'. -/
def fnDropValCard : Claim7 := { stood := { row := fnDropValRow, standIns := [], harness := (true, "d8fd77e393255c5f6a6687040383f1422a1883b2acf4baddda84eba7a1600b58"), looks := true }, kinds := [], alts := [], laidByText := true, laidKinds := [.handle], laidTests := true, laidLooks := .later }
def FnDropValCardSaid : Prop := Claim7.holds Tryz.pinned (.plain (OpenSpec.ofChange fnDropValSpec)) fnDropValCard

/-- THE TIED CARD OF 'laws.FnMatchWeaken'. -/
def fnMatchWeakenCard : Claim7 := { stood := { row := fnMatchWeakenRow, standIns := [], harness := (true, "d8fd77e393255c5f6a6687040383f1422a1883b2acf4baddda84eba7a1600b58"), looks := true }, kinds := [], alts := [], laidByText := true, laidKinds := [.handle], laidTests := true, laidLooks := .later }
def FnMatchWeakenCardSaid : Prop := Claim7.holds Tryz.pinned (.plain (OpenSpec.ofChange fnMatchWeakenSpec)) fnMatchWeakenCard

/-- THE SECOND FORM's CARD OF 'laws.FnAbstractType'. -/
def fnAbstractTypeUptoCard : Claim7 := { stood := { row := fnAbstractTypeUptoRow, standIns := [], harness := (true, "d8fd77e393255c5f6a6687040383f1422a1883b2acf4baddda84eba7a1600b58"), looks := true }, kinds := [], alts := [], laidByText := true, laidKinds := [.handle], laidTests := true, laidLooks := .later }
def FnAbstractTypeUptoCardSaid : Prop := Claim7.holds Tryz.pinned (.plain (OpenSpec.upto fnAbstractTypeSpec)) fnAbstractTypeUptoCard

/-- THE SECOND FORM's CARD OF 'laws.FnDropVal'. -/
def fnDropValUptoCard : Claim7 := { stood := { row := fnDropValUptoRow, standIns := [], harness := (true, "d8fd77e393255c5f6a6687040383f1422a1883b2acf4baddda84eba7a1600b58"), looks := true }, kinds := [], alts := [], laidByText := true, laidKinds := [.handle], laidTests := true, laidLooks := .later }
def FnDropValUptoCardSaid : Prop := Claim7.holds Tryz.pinned (.plain (OpenSpec.upto fnDropValSpec)) fnDropValUptoCard

/-- THE SECOND FORM's CARD OF 'laws.FnMatchWeaken'. -/
def fnMatchWeakenUptoCard : Claim7 := { stood := { row := fnMatchWeakenUptoRow, standIns := [], harness := (true, "d8fd77e393255c5f6a6687040383f1422a1883b2acf4baddda84eba7a1600b58"), looks := true }, kinds := [], alts := [], laidByText := true, laidKinds := [.handle], laidTests := true, laidLooks := .later }
def FnMatchWeakenUptoCardSaid : Prop := Claim7.holds Tryz.pinned (.plain (OpenSpec.upto fnMatchWeakenSpec)) fnMatchWeakenUptoCard
end Rows
end Go.Proofs.YtejbjgmgdbcddaaGreatDoor
