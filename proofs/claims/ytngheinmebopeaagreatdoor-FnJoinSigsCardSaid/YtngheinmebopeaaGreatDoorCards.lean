/-
  DERIVED. GIVEN WITH THE SEED: THE CARDS: each row of YtngheinmebopeaaGreatDoorRows.lean that lists a variable, with what it lists TIED to the program's text (the seventh form; the later family's looks); each row that meets fmt, with fmt's text TOLD by the authors' own Lean function (tested against real Go, not proved from fmt's source: count such statements apart). THE CARD IS WHAT COUNTS. Prove the row's statement (the work); the ties are given (YtngheinmebopeaaGreatDoorTie.lean); close each card by the builder's one call (the guide's Derived/Test/ToyasCard.lean, 'card_holds'). Laid BY PROGRAM, IN A SANDBOX (cutbox-door.mjs). By AI agents, Wed Nov 11 2026. No macro, syntax, notation, axiom, sorry.
-/
import Derived.Test.YtngheinmebopeaaGreatDoorRows
import GoSem.ClaimSeven
namespace Go.Proofs.YtngheinmebopeaaGreatDoor
namespace Rows

/-- THE TIED CARD OF 'laws.FnMatchTransitive'. -/
def fnMatchTransitiveCard : Claim7 := { stood := { row := fnMatchTransitiveRow, standIns := [], harness := (true, "5c643bf6461f8b5dc4014ed9293c99d68007f7ed1a1c852ce313b71903ffa73d"), looks := true }, kinds := [], alts := [], laidByText := true, laidKinds := [.handle], laidTests := true, laidLooks := .later }
def FnMatchTransitiveCardSaid : Prop := Claim7.holds Tryz.pinned (.plain (OpenSpec.ofChange fnMatchTransitiveSpec)) fnMatchTransitiveCard

/-- THE TIED CARD OF 'laws.FnJoinSigs'. -/
def fnJoinSigsCard : Claim7 := { stood := { row := fnJoinSigsRow, standIns := [], harness := (true, "5c643bf6461f8b5dc4014ed9293c99d68007f7ed1a1c852ce313b71903ffa73d"), looks := true }, kinds := [], alts := [], laidByText := true, laidKinds := [.handle], laidTests := true, laidLooks := .later }
def FnJoinSigsCardSaid : Prop := Claim7.holds Tryz.pinned (.plain (OpenSpec.ofChange fnJoinSigsSpec)) fnJoinSigsCard

/-- THE SECOND FORM's CARD OF 'laws.FnMatchTransitive'. -/
def fnMatchTransitiveUptoCard : Claim7 := { stood := { row := fnMatchTransitiveUptoRow, standIns := [], harness := (true, "5c643bf6461f8b5dc4014ed9293c99d68007f7ed1a1c852ce313b71903ffa73d"), looks := true }, kinds := [], alts := [], laidByText := true, laidKinds := [.handle], laidTests := true, laidLooks := .later }
def FnMatchTransitiveUptoCardSaid : Prop := Claim7.holds Tryz.pinned (.plain (OpenSpec.upto fnMatchTransitiveSpec)) fnMatchTransitiveUptoCard

/-- THE SECOND FORM's CARD OF 'laws.FnJoinSigs'. -/
def fnJoinSigsUptoCard : Claim7 := { stood := { row := fnJoinSigsUptoRow, standIns := [], harness := (true, "5c643bf6461f8b5dc4014ed9293c99d68007f7ed1a1c852ce313b71903ffa73d"), looks := true }, kinds := [], alts := [], laidByText := true, laidKinds := [.handle], laidTests := true, laidLooks := .later }
def FnJoinSigsUptoCardSaid : Prop := Claim7.holds Tryz.pinned (.plain (OpenSpec.upto fnJoinSigsSpec)) fnJoinSigsUptoCard
end Rows
end Go.Proofs.YtngheinmebopeaaGreatDoor
