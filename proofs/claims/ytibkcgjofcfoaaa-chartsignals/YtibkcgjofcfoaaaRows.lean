/-
  No cell of these rows narrows 'for every input' (looked for: loops, veiled, ifaces, maps, wideKeys, modest, calm, conditions, laid).
  DERIVED. THE GIVEN ROWS OF THIS SEAT. 4 by the template 'for every input the law returns true; each argument reads behind the call as it read before'; 0 by the template 'total and deterministic' (their statements: YtibkcgjofcfoaaaTotals.lean).
  GIVEN WITH THE SEED: the statements are not yours to turn. If you find one false, say at which input.
  Laid BY PROGRAM, IN A SANDBOX (cutbox-rows.mjs): the forced cells as the released guide's own fill.sh prints them over the translation 22245260c5bf6f34… (all of the seat's roots in one cut). By AI agents, Wed Nov 11 2026. No macro, syntax, notation, axiom, sorry.
-/
import Derived.Test.YtibkcgjofcfoaaaChecked
import GoSem.Claim
import GoSem.ClaimJoined
import GoSem.ClaimMapViews
import Derived.JoinedTies
import Derived.KernelRfl
namespace Go.Proofs.Ytibkcgjofcfoaaa
/- THE CELL 'sum', in the pinned program and in every row, IS THE sha256 OF THE DUMP (.gsa) THAT YtibkcgjofcfoaaaProg.lean LOADS. Nothing in Lean hashes anything: it is a label: what it is worth is what the hold of that sum in a sandbox is worth. -/
noncomputable def Try.pinned : Pinned := { name := "ytibkcgjofcfoaaa", sum := "22245260c5bf6f3490909a1eabd472a3f06afa1a65b0196415223b4705d0e861", checked := Try.checked }
namespace Rows
def none {H : Type} : Left H := { results := [], args := [] }

/-- 'blackroomlaw8.RotorGoesOn': WHATEVER THE INPUT: true; the input reads as it did. -/
def rotorGoesOnSpec : ChangeSpec := { name := "rotorGoesOn", fn := fun _ => fun
  | [d1, d2, d3, d4] => { results := [.lit (.bool true)], args := [d1, d2, d3, d4] }
  | _ => none }
def rotorGoesOnRow : OpenClaim := { program := "ytibkcgjofcfoaaa", sum := "22245260c5bf6f3490909a1eabd472a3f06afa1a65b0196415223b4705d0e861", func := "blackroom/blackroomlaw8.RotorGoesOn", spec := "rotorGoesOn", unfollowed := true, recurses := true, apart := false }
def RotorGoesOnSaid : Prop := rotorGoesOnRow.holds Try.pinned (OpenSpec.ofChange rotorGoesOnSpec)

/-- ITS FALSE NEIGHBOUR: 'it returns false'. Refute it at one input. -/
def rotorGoesOnWrong : ChangeSpec := { name := "rotorGoesOn", fn := fun _ => fun
  | [d1, d2, d3, d4] => { results := [.lit (.bool false)], args := [d1, d2, d3, d4] }
  | _ => none }
def RotorGoesOnWrongFalsely : Prop := rotorGoesOnRow.holds Try.pinned (OpenSpec.ofChange rotorGoesOnWrong)

/-- 'blackroomlaw9.ChartTells': WHATEVER THE INPUT: true; the input reads as it did. -/
def chartTellsSpec : ChangeSpec := { name := "chartTells", fn := fun _ => fun
  | [d1, d2, d3] => { results := [.lit (.bool true)], args := [d1, d2, d3] }
  | _ => none }
def chartTellsRow : OpenClaim := { program := "ytibkcgjofcfoaaa", sum := "22245260c5bf6f3490909a1eabd472a3f06afa1a65b0196415223b4705d0e861", func := "blackroom/blackroomlaw9.ChartTells", spec := "chartTells", unfollowed := true, recurses := true, apart := false }
def ChartTellsSaid : Prop := chartTellsRow.holds Try.pinned (OpenSpec.ofChange chartTellsSpec)

/-- ITS FALSE NEIGHBOUR: 'it returns false'. Refute it at one input. -/
def chartTellsWrong : ChangeSpec := { name := "chartTells", fn := fun _ => fun
  | [d1, d2, d3] => { results := [.lit (.bool false)], args := [d1, d2, d3] }
  | _ => none }
def ChartTellsWrongFalsely : Prop := chartTellsRow.holds Try.pinned (OpenSpec.ofChange chartTellsWrong)

/-- 'blackroomlaw9.ChartPairs': WHATEVER THE INPUT: true; the input reads as it did. -/
def chartPairsSpec : ChangeSpec := { name := "chartPairs", fn := fun _ => fun
  | [d] => { results := [.lit (.bool true)], args := [d] }
  | _ => none }
def chartPairsRow : OpenClaim := { program := "ytibkcgjofcfoaaa", sum := "22245260c5bf6f3490909a1eabd472a3f06afa1a65b0196415223b4705d0e861", func := "blackroom/blackroomlaw9.ChartPairs", spec := "chartPairs", unfollowed := true, recurses := true, apart := false }
def ChartPairsSaid : Prop := chartPairsRow.holds Try.pinned (OpenSpec.ofChange chartPairsSpec)

/-- ITS FALSE NEIGHBOUR: 'it returns false'. Refute it at one input. -/
def chartPairsWrong : ChangeSpec := { name := "chartPairs", fn := fun _ => fun
  | [d] => { results := [.lit (.bool false)], args := [d] }
  | _ => none }
def ChartPairsWrongFalsely : Prop := chartPairsRow.holds Try.pinned (OpenSpec.ofChange chartPairsWrong)

/-- 'blackroomlaw9.ChartSignals': WHATEVER THE INPUT: true; the input reads as it did. -/
def chartSignalsSpec : ChangeSpec := { name := "chartSignals", fn := fun _ => fun
  | [d1, d2, d3] => { results := [.lit (.bool true)], args := [d1, d2, d3] }
  | _ => none }
def chartSignalsRow : OpenClaim := { program := "ytibkcgjofcfoaaa", sum := "22245260c5bf6f3490909a1eabd472a3f06afa1a65b0196415223b4705d0e861", func := "blackroom/blackroomlaw9.ChartSignals", spec := "chartSignals", unfollowed := true, recurses := true, apart := false }
def ChartSignalsSaid : Prop := chartSignalsRow.holds Try.pinned (OpenSpec.ofChange chartSignalsSpec)

/-- ITS FALSE NEIGHBOUR: 'it returns false'. Refute it at one input. -/
def chartSignalsWrong : ChangeSpec := { name := "chartSignals", fn := fun _ => fun
  | [d1, d2, d3] => { results := [.lit (.bool false)], args := [d1, d2, d3] }
  | _ => none }
def ChartSignalsWrongFalsely : Prop := chartSignalsRow.holds Try.pinned (OpenSpec.ofChange chartSignalsWrong)

/- THE SECOND FORM. 'bulk': how many values and letters a reading holds, each counted each time it is reached (what is shared counts as often as it is met; a slice's spare places count too). A statement '..UptoSaid' is the law's where the arguments, and the package variables that the reading takes, are together of bulk at most 1048576: NARROWER than '..Said'. Prove '..Said' where nothing that the law and all that it calls make is longer than what came in: it says more and counts as full. Else prove '..UptoSaid'. A law counts once. -/
mutual
def uptoBulk {H : Type} : DataW H → Nat
  | .lit (.string bytes) => bytes.length + 1
  | .lit _ => 1
  | .nil => 1
  | .ptr d => uptoBulk d + 1
  | .slice elems spare => uptoBulkAll elems + uptoBulkAll spare + 1
  | .agg parts => uptoBulkAll parts + 1
  | .iface _ d => uptoBulk d + 1
  | .map entries => uptoBulkEntries entries + 1
  | .held _ => 1
def uptoBulkAll {H : Type} : List (DataW H) → Nat
  | [] => 0
  | d :: r => uptoBulk d + uptoBulkAll r
def uptoBulkEntries {H : Type} : List (Lit × DataW H) → Nat
  | [] => 0
  | x :: r => uptoBulkEntry x + uptoBulkEntries r
def uptoBulkEntry {H : Type} : Lit × DataW H → Nat
  | (.string bytes, d) => bytes.length + uptoBulk d + 1
  | (_, d) => uptoBulk d + 1
 end
def uptoSmall : (H : Type) → List (DataW H) → Bool := fun _ ds => decide (uptoBulkAll ds ≤ 1048576)
def OpenSpec.upto (s : _root_.Go.ChangeSpec) : _root_.Go.OpenSpec := { _root_.Go.OpenSpec.ofChange s with cond := some uptoSmall }

/-- 'blackroomlaw8.RotorGoesOn', WHERE WHAT IT READS IS OF BULK AT MOST 1048576: true; the input reads as it did. -/
def rotorGoesOnUptoRow : OpenClaim := { program := "ytibkcgjofcfoaaa", sum := "22245260c5bf6f3490909a1eabd472a3f06afa1a65b0196415223b4705d0e861", func := "blackroom/blackroomlaw8.RotorGoesOn", spec := "rotorGoesOn", unfollowed := true, recurses := true, apart := false, narrowed := true }
def RotorGoesOnUptoSaid : Prop := rotorGoesOnUptoRow.holds Try.pinned (OpenSpec.upto rotorGoesOnSpec)

/-- 'blackroomlaw9.ChartTells', WHERE WHAT IT READS IS OF BULK AT MOST 1048576: true; the input reads as it did. -/
def chartTellsUptoRow : OpenClaim := { program := "ytibkcgjofcfoaaa", sum := "22245260c5bf6f3490909a1eabd472a3f06afa1a65b0196415223b4705d0e861", func := "blackroom/blackroomlaw9.ChartTells", spec := "chartTells", unfollowed := true, recurses := true, apart := false, narrowed := true }
def ChartTellsUptoSaid : Prop := chartTellsUptoRow.holds Try.pinned (OpenSpec.upto chartTellsSpec)

/-- 'blackroomlaw9.ChartPairs', WHERE WHAT IT READS IS OF BULK AT MOST 1048576: true; the input reads as it did. -/
def chartPairsUptoRow : OpenClaim := { program := "ytibkcgjofcfoaaa", sum := "22245260c5bf6f3490909a1eabd472a3f06afa1a65b0196415223b4705d0e861", func := "blackroom/blackroomlaw9.ChartPairs", spec := "chartPairs", unfollowed := true, recurses := true, apart := false, narrowed := true }
def ChartPairsUptoSaid : Prop := chartPairsUptoRow.holds Try.pinned (OpenSpec.upto chartPairsSpec)

/-- 'blackroomlaw9.ChartSignals', WHERE WHAT IT READS IS OF BULK AT MOST 1048576: true; the input reads as it did. -/
def chartSignalsUptoRow : OpenClaim := { program := "ytibkcgjofcfoaaa", sum := "22245260c5bf6f3490909a1eabd472a3f06afa1a65b0196415223b4705d0e861", func := "blackroom/blackroomlaw9.ChartSignals", spec := "chartSignals", unfollowed := true, recurses := true, apart := false, narrowed := true }
def ChartSignalsUptoSaid : Prop := chartSignalsUptoRow.holds Try.pinned (OpenSpec.upto chartSignalsSpec)

end Rows
end Go.Proofs.Ytibkcgjofcfoaaa
