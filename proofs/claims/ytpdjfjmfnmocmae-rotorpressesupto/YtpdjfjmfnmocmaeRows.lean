/-
  No cell of these rows narrows 'for every input' (looked for: loops, veiled, ifaces, maps, wideKeys, modest, calm, conditions, laid).
  DERIVED. THE GIVEN ROWS OF THIS SEAT. 6 by the template 'for every input the law returns true; each argument reads behind the call as it read before'; 0 by the template 'total and deterministic' (their statements: YtpdjfjmfnmocmaeTotals.lean).
  GIVEN WITH THE SEED: the statements are not yours to turn. If you find one false, say at which input.
  Laid BY PROGRAM, IN A SANDBOX (cutbox-rows.mjs): the forced cells as the released guide's own fill.sh prints them over the translation 50969fd71382b303… (all of the seat's roots in one cut). By AI agents, Wed Nov 11 2026. No macro, syntax, notation, axiom, sorry.
-/
import Derived.Test.YtpdjfjmfnmocmaeChecked
import GoSem.Claim
import GoSem.ClaimJoined
import GoSem.ClaimMapViews
import Derived.JoinedTies
import Derived.KernelRfl
namespace Go.Proofs.Ytpdjfjmfnmocmae
/- THE CELL 'sum', in the pinned program and in every row, IS THE sha256 OF THE DUMP (.gsa) THAT YtpdjfjmfnmocmaeProg.lean LOADS. Nothing in Lean hashes anything: it is a label: what it is worth is what the hold of that sum in a sandbox is worth. -/
noncomputable def Try.pinned : Pinned := { name := "ytpdjfjmfnmocmae", sum := "50969fd71382b3039e273610a4a0585211f41939780f77009a4e9ccc2f5176cb", checked := Try.checked }
namespace Rows
def none {H : Type} : Left H := { results := [], args := [] }

/-- 'blackroomlaw7.TallyCounts': WHATEVER THE INPUT: true; the input reads as it did. -/
def tallyCountsSpec : ChangeSpec := { name := "tallyCounts", fn := fun _ => fun
  | [d1, d2, d3] => { results := [.lit (.bool true)], args := [d1, d2, d3] }
  | _ => none }
def tallyCountsRow : OpenClaim := { program := "ytpdjfjmfnmocmae", sum := "50969fd71382b3039e273610a4a0585211f41939780f77009a4e9ccc2f5176cb", func := "blackroom/blackroomlaw7.TallyCounts", spec := "tallyCounts", apart := false }
def TallyCountsSaid : Prop := tallyCountsRow.holds Try.pinned (OpenSpec.ofChange tallyCountsSpec)

/-- ITS FALSE NEIGHBOUR: 'it returns false'. Refute it at one input. -/
def tallyCountsWrong : ChangeSpec := { name := "tallyCounts", fn := fun _ => fun
  | [d1, d2, d3] => { results := [.lit (.bool false)], args := [d1, d2, d3] }
  | _ => none }
def TallyCountsWrongFalsely : Prop := tallyCountsRow.holds Try.pinned (OpenSpec.ofChange tallyCountsWrong)

/-- 'blackroomlaw7.TallyFar': WHATEVER THE INPUT: true; the input reads as it did. -/
def tallyFarSpec : ChangeSpec := { name := "tallyFar", fn := fun _ => fun
  | [d1, d2] => { results := [.lit (.bool true)], args := [d1, d2] }
  | _ => none }
def tallyFarRow : OpenClaim := { program := "ytpdjfjmfnmocmae", sum := "50969fd71382b3039e273610a4a0585211f41939780f77009a4e9ccc2f5176cb", func := "blackroom/blackroomlaw7.TallyFar", spec := "tallyFar", inPlace := ["math.Float64bits"], apart := false }
def TallyFarSaid : Prop := tallyFarRow.holds Try.pinned (OpenSpec.ofChange tallyFarSpec)

/-- ITS FALSE NEIGHBOUR: 'it returns false'. Refute it at one input. -/
def tallyFarWrong : ChangeSpec := { name := "tallyFar", fn := fun _ => fun
  | [d1, d2] => { results := [.lit (.bool false)], args := [d1, d2] }
  | _ => none }
def TallyFarWrongFalsely : Prop := tallyFarRow.holds Try.pinned (OpenSpec.ofChange tallyFarWrong)

/-- 'blackroomlaw7.TallyStays': WHATEVER THE INPUT: true; the input reads as it did. -/
def tallyStaysSpec : ChangeSpec := { name := "tallyStays", fn := fun _ => fun
  | [d1, d2, d3] => { results := [.lit (.bool true)], args := [d1, d2, d3] }
  | _ => none }
def tallyStaysRow : OpenClaim := { program := "ytpdjfjmfnmocmae", sum := "50969fd71382b3039e273610a4a0585211f41939780f77009a4e9ccc2f5176cb", func := "blackroom/blackroomlaw7.TallyStays", spec := "tallyStays", unfollowed := true, recurses := true, apart := false }
def TallyStaysSaid : Prop := tallyStaysRow.holds Try.pinned (OpenSpec.ofChange tallyStaysSpec)

/-- ITS FALSE NEIGHBOUR: 'it returns false'. Refute it at one input. -/
def tallyStaysWrong : ChangeSpec := { name := "tallyStays", fn := fun _ => fun
  | [d1, d2, d3] => { results := [.lit (.bool false)], args := [d1, d2, d3] }
  | _ => none }
def TallyStaysWrongFalsely : Prop := tallyStaysRow.holds Try.pinned (OpenSpec.ofChange tallyStaysWrong)

/-- 'blackroomlaw7.TallyMoved': WHATEVER THE INPUT: true; the input reads as it did. -/
def tallyMovedSpec : ChangeSpec := { name := "tallyMoved", fn := fun _ => fun
  | [d1, d2, d3] => { results := [.lit (.bool true)], args := [d1, d2, d3] }
  | _ => none }
def tallyMovedRow : OpenClaim := { program := "ytpdjfjmfnmocmae", sum := "50969fd71382b3039e273610a4a0585211f41939780f77009a4e9ccc2f5176cb", func := "blackroom/blackroomlaw7.TallyMoved", spec := "tallyMoved", unfollowed := true, recurses := true, apart := false }
def TallyMovedSaid : Prop := tallyMovedRow.holds Try.pinned (OpenSpec.ofChange tallyMovedSpec)

/-- ITS FALSE NEIGHBOUR: 'it returns false'. Refute it at one input. -/
def tallyMovedWrong : ChangeSpec := { name := "tallyMoved", fn := fun _ => fun
  | [d1, d2, d3] => { results := [.lit (.bool false)], args := [d1, d2, d3] }
  | _ => none }
def TallyMovedWrongFalsely : Prop := tallyMovedRow.holds Try.pinned (OpenSpec.ofChange tallyMovedWrong)

/-- 'blackroomlaw8.RotorPresses': WHATEVER THE INPUT: true; the input reads as it did. -/
def rotorPressesSpec : ChangeSpec := { name := "rotorPresses", fn := fun _ => fun
  | [d1, d2] => { results := [.lit (.bool true)], args := [d1, d2] }
  | _ => none }
def rotorPressesRow : OpenClaim := { program := "ytpdjfjmfnmocmae", sum := "50969fd71382b3039e273610a4a0585211f41939780f77009a4e9ccc2f5176cb", func := "blackroom/blackroomlaw8.RotorPresses", spec := "rotorPresses", unfollowed := true, recurses := true, apart := false }
def RotorPressesSaid : Prop := rotorPressesRow.holds Try.pinned (OpenSpec.ofChange rotorPressesSpec)

/-- ITS FALSE NEIGHBOUR: 'it returns false'. Refute it at one input. -/
def rotorPressesWrong : ChangeSpec := { name := "rotorPresses", fn := fun _ => fun
  | [d1, d2] => { results := [.lit (.bool false)], args := [d1, d2] }
  | _ => none }
def RotorPressesWrongFalsely : Prop := rotorPressesRow.holds Try.pinned (OpenSpec.ofChange rotorPressesWrong)

/-- 'blackroomlaw8.RotorWrites': WHATEVER THE INPUT: true; the input reads as it did. -/
def rotorWritesSpec : ChangeSpec := { name := "rotorWrites", fn := fun _ => fun
  | [d1, d2, d3] => { results := [.lit (.bool true)], args := [d1, d2, d3] }
  | _ => none }
def rotorWritesRow : OpenClaim := { program := "ytpdjfjmfnmocmae", sum := "50969fd71382b3039e273610a4a0585211f41939780f77009a4e9ccc2f5176cb", func := "blackroom/blackroomlaw8.RotorWrites", spec := "rotorWrites", unfollowed := true, recurses := true, apart := false }
def RotorWritesSaid : Prop := rotorWritesRow.holds Try.pinned (OpenSpec.ofChange rotorWritesSpec)

/-- ITS FALSE NEIGHBOUR: 'it returns false'. Refute it at one input. -/
def rotorWritesWrong : ChangeSpec := { name := "rotorWrites", fn := fun _ => fun
  | [d1, d2, d3] => { results := [.lit (.bool false)], args := [d1, d2, d3] }
  | _ => none }
def RotorWritesWrongFalsely : Prop := rotorWritesRow.holds Try.pinned (OpenSpec.ofChange rotorWritesWrong)

/- THE SECOND FORM. 'bulk': how many values and letters a reading holds, each counted each time it is reached (what is shared counts as often as it is met; a slice's spare places count too). A statement '..UptoSaid' is the law's where the arguments, and the package variables that the reading takes, are together of bulk at most 1048576: NARROWER than '..Said'. Prove '..Said' where nothing that the law and all that it calls make is longer than what came in: it says more and counts as full. Else prove '..UptoSaid'. A law counts once. -/
mutual
def uptoBulk {H : Type} : DataW H → Nat
  | .lit (.string bytes) => bytes.length + 1
  | .lit _ => 1
  | .nil => 1
  | .ptr d => uptoBulk d + 1
  | .slice elems spare => uptoBulkAll elems + uptoBulkAll spare + 1
  | .agg parts => uptoBulkAll parts + 1
  | .iface _ d => uptoBulk d + 1
  | .map entries => uptoBulkEntries entries + 1
  | .held _ => 1
def uptoBulkAll {H : Type} : List (DataW H) → Nat
  | [] => 0
  | d :: r => uptoBulk d + uptoBulkAll r
def uptoBulkEntries {H : Type} : List (Lit × DataW H) → Nat
  | [] => 0
  | x :: r => uptoBulkEntry x + uptoBulkEntries r
def uptoBulkEntry {H : Type} : Lit × DataW H → Nat
  | (.string bytes, d) => bytes.length + uptoBulk d + 1
  | (_, d) => uptoBulk d + 1
 end
def uptoSmall : (H : Type) → List (DataW H) → Bool := fun _ ds => decide (uptoBulkAll ds ≤ 1048576)
def OpenSpec.upto (s : _root_.Go.ChangeSpec) : _root_.Go.OpenSpec := { _root_.Go.OpenSpec.ofChange s with cond := some uptoSmall }

/-- 'blackroomlaw7.TallyCounts', WHERE WHAT IT READS IS OF BULK AT MOST 1048576: true; the input reads as it did. -/
def tallyCountsUptoRow : OpenClaim := { program := "ytpdjfjmfnmocmae", sum := "50969fd71382b3039e273610a4a0585211f41939780f77009a4e9ccc2f5176cb", func := "blackroom/blackroomlaw7.TallyCounts", spec := "tallyCounts", apart := false, narrowed := true }
def TallyCountsUptoSaid : Prop := tallyCountsUptoRow.holds Try.pinned (OpenSpec.upto tallyCountsSpec)

/-- 'blackroomlaw7.TallyFar', WHERE WHAT IT READS IS OF BULK AT MOST 1048576: true; the input reads as it did. -/
def tallyFarUptoRow : OpenClaim := { program := "ytpdjfjmfnmocmae", sum := "50969fd71382b3039e273610a4a0585211f41939780f77009a4e9ccc2f5176cb", func := "blackroom/blackroomlaw7.TallyFar", spec := "tallyFar", inPlace := ["math.Float64bits"], apart := false, narrowed := true }
def TallyFarUptoSaid : Prop := tallyFarUptoRow.holds Try.pinned (OpenSpec.upto tallyFarSpec)

/-- 'blackroomlaw7.TallyStays', WHERE WHAT IT READS IS OF BULK AT MOST 1048576: true; the input reads as it did. -/
def tallyStaysUptoRow : OpenClaim := { program := "ytpdjfjmfnmocmae", sum := "50969fd71382b3039e273610a4a0585211f41939780f77009a4e9ccc2f5176cb", func := "blackroom/blackroomlaw7.TallyStays", spec := "tallyStays", unfollowed := true, recurses := true, apart := false, narrowed := true }
def TallyStaysUptoSaid : Prop := tallyStaysUptoRow.holds Try.pinned (OpenSpec.upto tallyStaysSpec)

/-- 'blackroomlaw7.TallyMoved', WHERE WHAT IT READS IS OF BULK AT MOST 1048576: true; the input reads as it did. -/
def tallyMovedUptoRow : OpenClaim := { program := "ytpdjfjmfnmocmae", sum := "50969fd71382b3039e273610a4a0585211f41939780f77009a4e9ccc2f5176cb", func := "blackroom/blackroomlaw7.TallyMoved", spec := "tallyMoved", unfollowed := true, recurses := true, apart := false, narrowed := true }
def TallyMovedUptoSaid : Prop := tallyMovedUptoRow.holds Try.pinned (OpenSpec.upto tallyMovedSpec)

/-- 'blackroomlaw8.RotorPresses', WHERE WHAT IT READS IS OF BULK AT MOST 1048576: true; the input reads as it did. -/
def rotorPressesUptoRow : OpenClaim := { program := "ytpdjfjmfnmocmae", sum := "50969fd71382b3039e273610a4a0585211f41939780f77009a4e9ccc2f5176cb", func := "blackroom/blackroomlaw8.RotorPresses", spec := "rotorPresses", unfollowed := true, recurses := true, apart := false, narrowed := true }
def RotorPressesUptoSaid : Prop := rotorPressesUptoRow.holds Try.pinned (OpenSpec.upto rotorPressesSpec)

/-- 'blackroomlaw8.RotorWrites', WHERE WHAT IT READS IS OF BULK AT MOST 1048576: true; the input reads as it did. -/
def rotorWritesUptoRow : OpenClaim := { program := "ytpdjfjmfnmocmae", sum := "50969fd71382b3039e273610a4a0585211f41939780f77009a4e9ccc2f5176cb", func := "blackroom/blackroomlaw8.RotorWrites", spec := "rotorWrites", unfollowed := true, recurses := true, apart := false, narrowed := true }
def RotorWritesUptoSaid : Prop := rotorWritesUptoRow.holds Try.pinned (OpenSpec.upto rotorWritesSpec)

end Rows
end Go.Proofs.Ytpdjfjmfnmocmae
