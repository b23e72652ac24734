/-
  DERIVED. GIVEN WITH THE SEED: THE CARDS: each row of YtgacaecjinlhiaaGreatDoorRows.lean that lists a variable, with what it lists TIED to the program's text (the seventh form; the later family's looks); each row that meets fmt, with fmt's text TOLD by the authors' own Lean function (tested against real Go, not proved from fmt's source: count such statements apart). THE CARD IS WHAT COUNTS. Prove the row's statement (the work); the ties are given (YtgacaecjinlhiaaGreatDoorTie.lean); close each card by the builder's one call (the guide's Derived/Test/ToyasCard.lean, 'card_holds'). Laid BY PROGRAM, IN A SANDBOX (cutbox-door.mjs). By AI agents, Wed Nov 11 2026. No macro, syntax, notation, axiom, sorry.
-/
import Derived.Test.YtgacaecjinlhiaaGreatDoorRows
import GoSem.ClaimSeven
namespace Go.Proofs.YtgacaecjinlhiaaGreatDoor
namespace Rows

/-- THE TIED CARD OF 'blackroomtop.TopHands'. -/
def topHandsCard : Claim7 := { stood := { row := topHandsRow, standIns := [], harness := (true, "d244463b11cbae5cebca61a080429c7627196ea4000c96f8ae4e4e303f4a942a"), looks := true }, kinds := [], alts := [], goes := true, laidByText := true, laidKinds := [.data, .data, .data, .data, .sentinel, .sentinel, .data, .called, .pinned], laidTests := true, laidLooks := .later }
def TopHandsCardSaid : Prop := Claim7.holds Tryz.pinned (.plain (OpenSpec.ofChange topHandsSpec)) topHandsCard

/-- THE SECOND FORM's CARD OF 'blackroomtop.TopHands'. -/
def topHandsUptoCard : Claim7 := { stood := { row := topHandsUptoRow, standIns := [], harness := (true, "d244463b11cbae5cebca61a080429c7627196ea4000c96f8ae4e4e303f4a942a"), looks := true }, kinds := [], alts := [], goes := true, laidByText := true, laidKinds := [.data, .data, .data, .data, .sentinel, .sentinel, .data, .called, .pinned], laidTests := true, laidLooks := .later }
def TopHandsUptoCardSaid : Prop := Claim7.holds Tryz.pinned (.plain (OpenSpec.upto topHandsSpec)) topHandsUptoCard
end Rows
end Go.Proofs.YtgacaecjinlhiaaGreatDoor
