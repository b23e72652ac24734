/-
  DERIVED. GIVEN WITH THE SEED: THE CARDS: each row of YtkohhdkkbaifoaaGreatDoorRows.lean that lists a variable, with what it lists TIED to the program's text (the seventh form; the later family's looks); each row that meets fmt, with fmt's text TOLD by the authors' own Lean function (tested against real Go, not proved from fmt's source: count such statements apart). THE CARD IS WHAT COUNTS. Prove the row's statement (the work); the ties are given (YtkohhdkkbaifoaaGreatDoorTie.lean); close each card by the builder's one call (the guide's Derived/Test/ToyasCard.lean, 'card_holds'). Laid BY PROGRAM, IN A SANDBOX (cutbox-door.mjs). By AI agents, Wed Nov 11 2026. No macro, syntax, notation, axiom, sorry.
-/
import Derived.Test.YtkohhdkkbaifoaaGreatDoorRows
import GoSem.ClaimSeven
namespace Go.Proofs.YtkohhdkkbaifoaaGreatDoor
namespace Rows

/-- THE TIED CARD OF 'blackroomlaw17.ScriptRuns'. -/
def scriptRunsCard : Claim7 := { stood := { row := scriptRunsRow, standIns := [], harness := (true, "4bb2a71613071ffbbaeee5debb3a534deb2bf4a73d0042b90ffacc56369ac4a4"), looks := true }, kinds := [], alts := [], laidByText := true, laidKinds := [.data, .data, .data, .data, .called, .data, .data], laidTests := true, laidLooks := .later }
def ScriptRunsCardSaid : Prop := Claim7.holds Tryz.pinned (.plain (OpenSpec.ofChange scriptRunsSpec)) scriptRunsCard

/-- THE TIED CARD OF 'blackroomlaw17.ScriptTurns'. -/
def scriptTurnsCard : Claim7 := { stood := { row := scriptTurnsRow, standIns := [], harness := (true, "4bb2a71613071ffbbaeee5debb3a534deb2bf4a73d0042b90ffacc56369ac4a4"), looks := true }, kinds := [], alts := [], laidByText := true, laidKinds := [.data, .data, .data, .data, .sentinel, .sentinel, .data, .called, .data, .data, .pinned], laidTests := true, laidLooks := .later }
def ScriptTurnsCardSaid : Prop := Claim7.holds Tryz.pinned (.plain (OpenSpec.ofChange scriptTurnsSpec)) scriptTurnsCard

/-- THE TIED CARD OF 'blackroomlaw17.ScriptUndone'. -/
def scriptUndoneCard : Claim7 := { stood := { row := scriptUndoneRow, standIns := [], harness := (true, "4bb2a71613071ffbbaeee5debb3a534deb2bf4a73d0042b90ffacc56369ac4a4"), looks := true }, kinds := [], alts := [], laidByText := true, laidKinds := [.data, .data, .data, .data, .sentinel, .sentinel, .data, .called, .pinned], laidTests := true, laidLooks := .later }
def ScriptUndoneCardSaid : Prop := Claim7.holds Tryz.pinned (.plain (OpenSpec.ofChange scriptUndoneSpec)) scriptUndoneCard

/-- THE TIED CARD OF 'blackroomtop.TopSent'. -/
def topSentCard : Claim7 := { stood := { row := topSentRow, standIns := [], harness := (true, "4bb2a71613071ffbbaeee5debb3a534deb2bf4a73d0042b90ffacc56369ac4a4"), looks := true }, kinds := [], alts := [], laidByText := true, laidKinds := [.data, .data, .data, .data, .sentinel, .sentinel, .data, .called, .pinned], laidTests := true, laidLooks := .later }
def TopSentCardSaid : Prop := Claim7.holds Tryz.pinned (.plain (OpenSpec.ofChange topSentSpec)) topSentCard

/-- THE TIED CARD OF 'blackroomtop.TopHidden'. -/
def topHiddenCard : Claim7 := { stood := { row := topHiddenRow, standIns := [], harness := (true, "4bb2a71613071ffbbaeee5debb3a534deb2bf4a73d0042b90ffacc56369ac4a4"), looks := true }, kinds := [], alts := [], laidByText := true, laidKinds := [.data, .data, .data, .data, .sentinel, .sentinel, .data, .called, .pinned], laidTests := true, laidLooks := .later }
def TopHiddenCardSaid : Prop := Claim7.holds Tryz.pinned (.plain (OpenSpec.ofChange topHiddenSpec)) topHiddenCard

/-- THE TIED CARD OF 'blackroomtop.TopNever'. -/
def topNeverCard : Claim7 := { stood := { row := topNeverRow, standIns := [], harness := (true, "4bb2a71613071ffbbaeee5debb3a534deb2bf4a73d0042b90ffacc56369ac4a4"), looks := true }, kinds := [], alts := [], laidByText := true, laidKinds := [.data, .data, .data, .data, .sentinel, .sentinel, .data, .called, .pinned], laidTests := true, laidLooks := .later }
def TopNeverCardSaid : Prop := Claim7.holds Tryz.pinned (.plain (OpenSpec.ofChange topNeverSpec)) topNeverCard

/-- THE SECOND FORM's CARD OF 'blackroomlaw17.ScriptRuns'. -/
def scriptRunsUptoCard : Claim7 := { stood := { row := scriptRunsUptoRow, standIns := [], harness := (true, "4bb2a71613071ffbbaeee5debb3a534deb2bf4a73d0042b90ffacc56369ac4a4"), looks := true }, kinds := [], alts := [], laidByText := true, laidKinds := [.data, .data, .data, .data, .called, .data, .data], laidTests := true, laidLooks := .later }
def ScriptRunsUptoCardSaid : Prop := Claim7.holds Tryz.pinned (.plain (OpenSpec.upto scriptRunsSpec)) scriptRunsUptoCard

/-- THE SECOND FORM's CARD OF 'blackroomlaw17.ScriptTurns'. -/
def scriptTurnsUptoCard : Claim7 := { stood := { row := scriptTurnsUptoRow, standIns := [], harness := (true, "4bb2a71613071ffbbaeee5debb3a534deb2bf4a73d0042b90ffacc56369ac4a4"), looks := true }, kinds := [], alts := [], laidByText := true, laidKinds := [.data, .data, .data, .data, .sentinel, .sentinel, .data, .called, .data, .data, .pinned], laidTests := true, laidLooks := .later }
def ScriptTurnsUptoCardSaid : Prop := Claim7.holds Tryz.pinned (.plain (OpenSpec.upto scriptTurnsSpec)) scriptTurnsUptoCard

/-- THE SECOND FORM's CARD OF 'blackroomlaw17.ScriptUndone'. -/
def scriptUndoneUptoCard : Claim7 := { stood := { row := scriptUndoneUptoRow, standIns := [], harness := (true, "4bb2a71613071ffbbaeee5debb3a534deb2bf4a73d0042b90ffacc56369ac4a4"), looks := true }, kinds := [], alts := [], laidByText := true, laidKinds := [.data, .data, .data, .data, .sentinel, .sentinel, .data, .called, .pinned], laidTests := true, laidLooks := .later }
def ScriptUndoneUptoCardSaid : Prop := Claim7.holds Tryz.pinned (.plain (OpenSpec.upto scriptUndoneSpec)) scriptUndoneUptoCard

/-- THE SECOND FORM's CARD OF 'blackroomtop.TopSent'. -/
def topSentUptoCard : Claim7 := { stood := { row := topSentUptoRow, standIns := [], harness := (true, "4bb2a71613071ffbbaeee5debb3a534deb2bf4a73d0042b90ffacc56369ac4a4"), looks := true }, kinds := [], alts := [], laidByText := true, laidKinds := [.data, .data, .data, .data, .sentinel, .sentinel, .data, .called, .pinned], laidTests := true, laidLooks := .later }
def TopSentUptoCardSaid : Prop := Claim7.holds Tryz.pinned (.plain (OpenSpec.upto topSentSpec)) topSentUptoCard

/-- THE SECOND FORM's CARD OF 'blackroomtop.TopHidden'. -/
def topHiddenUptoCard : Claim7 := { stood := { row := topHiddenUptoRow, standIns := [], harness := (true, "4bb2a71613071ffbbaeee5debb3a534deb2bf4a73d0042b90ffacc56369ac4a4"), looks := true }, kinds := [], alts := [], laidByText := true, laidKinds := [.data, .data, .data, .data, .sentinel, .sentinel, .data, .called, .pinned], laidTests := true, laidLooks := .later }
def TopHiddenUptoCardSaid : Prop := Claim7.holds Tryz.pinned (.plain (OpenSpec.upto topHiddenSpec)) topHiddenUptoCard

/-- THE SECOND FORM's CARD OF 'blackroomtop.TopNever'. -/
def topNeverUptoCard : Claim7 := { stood := { row := topNeverUptoRow, standIns := [], harness := (true, "4bb2a71613071ffbbaeee5debb3a534deb2bf4a73d0042b90ffacc56369ac4a4"), looks := true }, kinds := [], alts := [], laidByText := true, laidKinds := [.data, .data, .data, .data, .sentinel, .sentinel, .data, .called, .pinned], laidTests := true, laidLooks := .later }
def TopNeverUptoCardSaid : Prop := Claim7.holds Tryz.pinned (.plain (OpenSpec.upto topNeverSpec)) topNeverUptoCard
end Rows
end Go.Proofs.YtkohhdkkbaifoaaGreatDoor
