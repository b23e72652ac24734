/-
  No cell of these rows narrows 'for every input' (looked for: loops, veiled, ifaces, maps, wideKeys, modest, calm, conditions, laid).
  DERIVED. THE GIVEN ROWS OF THIS SEAT. 6 by the template 'for every input the law returns true; each argument reads behind the call as it read before'; 0 by the template 'total and deterministic' (their statements: YtmabamlhhmjbaadTotals.lean).
  GIVEN WITH THE SEED: the statements are not yours to turn. If you find one false, say at which input.
  Laid BY PROGRAM, IN A SANDBOX (cutbox-rows.mjs): the forced cells as the released guide's own fill.sh prints them over the translation d8a6f46d8690d818… (all of the seat's roots in one cut). By AI agents, Wed Nov 11 2026. No macro, syntax, notation, axiom, sorry.
-/
import Derived.Test.YtmabamlhhmjbaadChecked
import GoSem.Claim
import GoSem.ClaimJoined
import GoSem.ClaimMapViews
import Derived.JoinedTies
import Derived.KernelRfl
namespace Go.Proofs.Ytmabamlhhmjbaad
/- THE CELL 'sum', in the pinned program and in every row, IS THE sha256 OF THE DUMP (.gsa) THAT YtmabamlhhmjbaadProg.lean LOADS. Nothing in Lean hashes anything: it is a label: what it is worth is what the hold of that sum in a sandbox is worth. -/
noncomputable def Try.pinned : Pinned := { name := "ytmabamlhhmjbaad", sum := "d8a6f46d8690d818fb520675663454d011197b210fe97207ea0ed7a803ed8785", checked := Try.checked }
namespace Rows
def none {H : Type} : Left H := { results := [], args := [] }

/-- 'blackroomlaw5.TableauRepeats': WHATEVER THE INPUT: true; the input reads as it did. -/
def tableauRepeatsSpec : ChangeSpec := { name := "tableauRepeats", fn := fun _ => fun
  | [d1, d2, d3] => { results := [.lit (.bool true)], args := [d1, d2, d3] }
  | _ => none }
def tableauRepeatsRow : OpenClaim := { program := "ytmabamlhhmjbaad", sum := "d8a6f46d8690d818fb520675663454d011197b210fe97207ea0ed7a803ed8785", func := "blackroom/blackroomlaw5.TableauRepeats", spec := "tableauRepeats", apart := false }
def TableauRepeatsSaid : Prop := tableauRepeatsRow.holds Try.pinned (OpenSpec.ofChange tableauRepeatsSpec)

/-- ITS FALSE NEIGHBOUR: 'it returns false'. Refute it at one input. -/
def tableauRepeatsWrong : ChangeSpec := { name := "tableauRepeats", fn := fun _ => fun
  | [d1, d2, d3] => { results := [.lit (.bool false)], args := [d1, d2, d3] }
  | _ => none }
def TableauRepeatsWrongFalsely : Prop := tableauRepeatsRow.holds Try.pinned (OpenSpec.ofChange tableauRepeatsWrong)

/-- 'blackroomlaw5.TableauUndone': WHATEVER THE INPUT: true; the input reads as it did. -/
def tableauUndoneSpec : ChangeSpec := { name := "tableauUndone", fn := fun _ => fun
  | [d1, d2, d3] => { results := [.lit (.bool true)], args := [d1, d2, d3] }
  | _ => none }
def tableauUndoneRow : OpenClaim := { program := "ytmabamlhhmjbaad", sum := "d8a6f46d8690d818fb520675663454d011197b210fe97207ea0ed7a803ed8785", func := "blackroom/blackroomlaw5.TableauUndone", spec := "tableauUndone", unfollowed := true, recurses := true, apart := false }
def TableauUndoneSaid : Prop := tableauUndoneRow.holds Try.pinned (OpenSpec.ofChange tableauUndoneSpec)

/-- ITS FALSE NEIGHBOUR: 'it returns false'. Refute it at one input. -/
def tableauUndoneWrong : ChangeSpec := { name := "tableauUndone", fn := fun _ => fun
  | [d1, d2, d3] => { results := [.lit (.bool false)], args := [d1, d2, d3] }
  | _ => none }
def TableauUndoneWrongFalsely : Prop := tableauUndoneRow.holds Try.pinned (OpenSpec.ofChange tableauUndoneWrong)

/-- 'blackroomlaw5.TableauKasiski': WHATEVER THE INPUT: true; the input reads as it did. -/
def tableauKasiskiSpec : ChangeSpec := { name := "tableauKasiski", fn := fun _ => fun
  | [d1, d2, d3, d4] => { results := [.lit (.bool true)], args := [d1, d2, d3, d4] }
  | _ => none }
def tableauKasiskiRow : OpenClaim := { program := "ytmabamlhhmjbaad", sum := "d8a6f46d8690d818fb520675663454d011197b210fe97207ea0ed7a803ed8785", func := "blackroom/blackroomlaw5.TableauKasiski", spec := "tableauKasiski", unfollowed := true, recurses := true, apart := false }
def TableauKasiskiSaid : Prop := tableauKasiskiRow.holds Try.pinned (OpenSpec.ofChange tableauKasiskiSpec)

/-- ITS FALSE NEIGHBOUR: 'it returns false'. Refute it at one input. -/
def tableauKasiskiWrong : ChangeSpec := { name := "tableauKasiski", fn := fun _ => fun
  | [d1, d2, d3, d4] => { results := [.lit (.bool false)], args := [d1, d2, d3, d4] }
  | _ => none }
def TableauKasiskiWrongFalsely : Prop := tableauKasiskiRow.holds Try.pinned (OpenSpec.ofChange tableauKasiskiWrong)

/-- 'blackroomlaw6.SquareWrites': WHATEVER THE INPUT: true; the input reads as it did. -/
def squareWritesSpec : ChangeSpec := { name := "squareWrites", fn := fun _ => fun
  | [d1, d2] => { results := [.lit (.bool true)], args := [d1, d2] }
  | _ => none }
def squareWritesRow : OpenClaim := { program := "ytmabamlhhmjbaad", sum := "d8a6f46d8690d818fb520675663454d011197b210fe97207ea0ed7a803ed8785", func := "blackroom/blackroomlaw6.SquareWrites", spec := "squareWrites", apart := false }
def SquareWritesSaid : Prop := squareWritesRow.holds Try.pinned (OpenSpec.ofChange squareWritesSpec)

/-- ITS FALSE NEIGHBOUR: 'it returns false'. Refute it at one input. -/
def squareWritesWrong : ChangeSpec := { name := "squareWrites", fn := fun _ => fun
  | [d1, d2] => { results := [.lit (.bool false)], args := [d1, d2] }
  | _ => none }
def SquareWritesWrongFalsely : Prop := squareWritesRow.holds Try.pinned (OpenSpec.ofChange squareWritesWrong)

/-- 'blackroomlaw6.SquareUndone': WHATEVER THE INPUT: true; the input reads as it did. -/
def squareUndoneSpec : ChangeSpec := { name := "squareUndone", fn := fun _ => fun
  | [d1, d2] => { results := [.lit (.bool true)], args := [d1, d2] }
  | _ => none }
def squareUndoneRow : OpenClaim := { program := "ytmabamlhhmjbaad", sum := "d8a6f46d8690d818fb520675663454d011197b210fe97207ea0ed7a803ed8785", func := "blackroom/blackroomlaw6.SquareUndone", spec := "squareUndone", apart := false }
def SquareUndoneSaid : Prop := squareUndoneRow.holds Try.pinned (OpenSpec.ofChange squareUndoneSpec)

/-- ITS FALSE NEIGHBOUR: 'it returns false'. Refute it at one input. -/
def squareUndoneWrong : ChangeSpec := { name := "squareUndone", fn := fun _ => fun
  | [d1, d2] => { results := [.lit (.bool false)], args := [d1, d2] }
  | _ => none }
def SquareUndoneWrongFalsely : Prop := squareUndoneRow.holds Try.pinned (OpenSpec.ofChange squareUndoneWrong)

/-- 'blackroomlaw6.SquareNever': WHATEVER THE INPUT: true; the input reads as it did. -/
def squareNeverSpec : ChangeSpec := { name := "squareNever", fn := fun _ => fun
  | [d1, d2] => { results := [.lit (.bool true)], args := [d1, d2] }
  | _ => none }
def squareNeverRow : OpenClaim := { program := "ytmabamlhhmjbaad", sum := "d8a6f46d8690d818fb520675663454d011197b210fe97207ea0ed7a803ed8785", func := "blackroom/blackroomlaw6.SquareNever", spec := "squareNever", apart := false }
def SquareNeverSaid : Prop := squareNeverRow.holds Try.pinned (OpenSpec.ofChange squareNeverSpec)

/-- ITS FALSE NEIGHBOUR: 'it returns false'. Refute it at one input. -/
def squareNeverWrong : ChangeSpec := { name := "squareNever", fn := fun _ => fun
  | [d1, d2] => { results := [.lit (.bool false)], args := [d1, d2] }
  | _ => none }
def SquareNeverWrongFalsely : Prop := squareNeverRow.holds Try.pinned (OpenSpec.ofChange squareNeverWrong)

/- THE SECOND FORM. 'bulk': how many values and letters a reading holds, each counted each time it is reached (what is shared counts as often as it is met; a slice's spare places count too). A statement '..UptoSaid' is the law's where the arguments, and the package variables that the reading takes, are together of bulk at most 1048576: NARROWER than '..Said'. Prove '..Said' where nothing that the law and all that it calls make is longer than what came in: it says more and counts as full. Else prove '..UptoSaid'. A law counts once. -/
mutual
def uptoBulk {H : Type} : DataW H → Nat
  | .lit (.string bytes) => bytes.length + 1
  | .lit _ => 1
  | .nil => 1
  | .ptr d => uptoBulk d + 1
  | .slice elems spare => uptoBulkAll elems + uptoBulkAll spare + 1
  | .agg parts => uptoBulkAll parts + 1
  | .iface _ d => uptoBulk d + 1
  | .map entries => uptoBulkEntries entries + 1
  | .held _ => 1
def uptoBulkAll {H : Type} : List (DataW H) → Nat
  | [] => 0
  | d :: r => uptoBulk d + uptoBulkAll r
def uptoBulkEntries {H : Type} : List (Lit × DataW H) → Nat
  | [] => 0
  | x :: r => uptoBulkEntry x + uptoBulkEntries r
def uptoBulkEntry {H : Type} : Lit × DataW H → Nat
  | (.string bytes, d) => bytes.length + uptoBulk d + 1
  | (_, d) => uptoBulk d + 1
 end
def uptoSmall : (H : Type) → List (DataW H) → Bool := fun _ ds => decide (uptoBulkAll ds ≤ 1048576)
def OpenSpec.upto (s : _root_.Go.ChangeSpec) : _root_.Go.OpenSpec := { _root_.Go.OpenSpec.ofChange s with cond := some uptoSmall }

/-- 'blackroomlaw5.TableauRepeats', WHERE WHAT IT READS IS OF BULK AT MOST 1048576: true; the input reads as it did. -/
def tableauRepeatsUptoRow : OpenClaim := { program := "ytmabamlhhmjbaad", sum := "d8a6f46d8690d818fb520675663454d011197b210fe97207ea0ed7a803ed8785", func := "blackroom/blackroomlaw5.TableauRepeats", spec := "tableauRepeats", apart := false, narrowed := true }
def TableauRepeatsUptoSaid : Prop := tableauRepeatsUptoRow.holds Try.pinned (OpenSpec.upto tableauRepeatsSpec)

/-- 'blackroomlaw5.TableauUndone', WHERE WHAT IT READS IS OF BULK AT MOST 1048576: true; the input reads as it did. -/
def tableauUndoneUptoRow : OpenClaim := { program := "ytmabamlhhmjbaad", sum := "d8a6f46d8690d818fb520675663454d011197b210fe97207ea0ed7a803ed8785", func := "blackroom/blackroomlaw5.TableauUndone", spec := "tableauUndone", unfollowed := true, recurses := true, apart := false, narrowed := true }
def TableauUndoneUptoSaid : Prop := tableauUndoneUptoRow.holds Try.pinned (OpenSpec.upto tableauUndoneSpec)

/-- 'blackroomlaw5.TableauKasiski', WHERE WHAT IT READS IS OF BULK AT MOST 1048576: true; the input reads as it did. -/
def tableauKasiskiUptoRow : OpenClaim := { program := "ytmabamlhhmjbaad", sum := "d8a6f46d8690d818fb520675663454d011197b210fe97207ea0ed7a803ed8785", func := "blackroom/blackroomlaw5.TableauKasiski", spec := "tableauKasiski", unfollowed := true, recurses := true, apart := false, narrowed := true }
def TableauKasiskiUptoSaid : Prop := tableauKasiskiUptoRow.holds Try.pinned (OpenSpec.upto tableauKasiskiSpec)

/-- 'blackroomlaw6.SquareWrites', WHERE WHAT IT READS IS OF BULK AT MOST 1048576: true; the input reads as it did. -/
def squareWritesUptoRow : OpenClaim := { program := "ytmabamlhhmjbaad", sum := "d8a6f46d8690d818fb520675663454d011197b210fe97207ea0ed7a803ed8785", func := "blackroom/blackroomlaw6.SquareWrites", spec := "squareWrites", apart := false, narrowed := true }
def SquareWritesUptoSaid : Prop := squareWritesUptoRow.holds Try.pinned (OpenSpec.upto squareWritesSpec)

/-- 'blackroomlaw6.SquareUndone', WHERE WHAT IT READS IS OF BULK AT MOST 1048576: true; the input reads as it did. -/
def squareUndoneUptoRow : OpenClaim := { program := "ytmabamlhhmjbaad", sum := "d8a6f46d8690d818fb520675663454d011197b210fe97207ea0ed7a803ed8785", func := "blackroom/blackroomlaw6.SquareUndone", spec := "squareUndone", apart := false, narrowed := true }
def SquareUndoneUptoSaid : Prop := squareUndoneUptoRow.holds Try.pinned (OpenSpec.upto squareUndoneSpec)

/-- 'blackroomlaw6.SquareNever', WHERE WHAT IT READS IS OF BULK AT MOST 1048576: true; the input reads as it did. -/
def squareNeverUptoRow : OpenClaim := { program := "ytmabamlhhmjbaad", sum := "d8a6f46d8690d818fb520675663454d011197b210fe97207ea0ed7a803ed8785", func := "blackroom/blackroomlaw6.SquareNever", spec := "squareNever", apart := false, narrowed := true }
def SquareNeverUptoSaid : Prop := squareNeverUptoRow.holds Try.pinned (OpenSpec.upto squareNeverSpec)

end Rows
end Go.Proofs.Ytmabamlhhmjbaad
