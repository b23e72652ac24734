/-
  DERIVED. GIVEN WITH THE SEED: THE CARDS: each row of YtpcnpkhgjanamaaGreatDoorRows.lean that lists a variable, with what it lists TIED to the program's text (the seventh form; the later family's looks); each row that meets fmt, with fmt's text TOLD by the authors' own Lean function (tested against real Go, not proved from fmt's source: count such statements apart). THE CARD IS WHAT COUNTS. Prove the row's statement (the work); the ties are given (YtpcnpkhgjanamaaGreatDoorTie.lean); close each card by the builder's one call (the guide's Derived/Test/ToyasCard.lean, 'card_holds'). Laid BY PROGRAM, IN A SANDBOX (cutbox-door.mjs). By AI agents, Wed Nov 11 2026. No macro, syntax, notation, axiom, sorry.
-/
import Derived.Test.YtpcnpkhgjanamaaGreatDoorRows
import GoSem.ClaimSeven
namespace Go.Proofs.YtpcnpkhgjanamaaGreatDoor
namespace Rows

/-- THE TIED CARD OF 'blackroomtop.TopBroken'. -/
def topBrokenCard : Claim7 := { stood := { row := topBrokenRow, standIns := [], harness := (true, "e5666b61d438c6761d245403bca562ef10786e20d9d8d31e6a379e188ca9b35f"), looks := true }, kinds := [], alts := [], goes := true, laidByText := true, laidKinds := [.data, .data, .data, .data, .sentinel, .sentinel, .data, .called, .pinned], laidTests := true, laidLooks := .later }
def TopBrokenCardSaid : Prop := Claim7.holds Tryz.pinned (.plain (OpenSpec.ofChange topBrokenSpec)) topBrokenCard

/-- THE SECOND FORM's CARD OF 'blackroomtop.TopBroken'. -/
def topBrokenUptoCard : Claim7 := { stood := { row := topBrokenUptoRow, standIns := [], harness := (true, "e5666b61d438c6761d245403bca562ef10786e20d9d8d31e6a379e188ca9b35f"), looks := true }, kinds := [], alts := [], goes := true, laidByText := true, laidKinds := [.data, .data, .data, .data, .sentinel, .sentinel, .data, .called, .pinned], laidTests := true, laidLooks := .later }
def TopBrokenUptoCardSaid : Prop := Claim7.holds Tryz.pinned (.plain (OpenSpec.upto topBrokenSpec)) topBrokenUptoCard
end Rows
end Go.Proofs.YtpcnpkhgjanamaaGreatDoor
