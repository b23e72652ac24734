/-
  No cell of these rows narrows 'for every input' (looked for: loops, veiled, ifaces, maps, wideKeys, modest, calm, conditions, laid).
  DERIVED. THE GIVEN ROWS OF THIS SEAT. 4 by the template 'for every input the law returns true; each argument reads behind the call as it read before'; 0 by the template 'total and deterministic' (their statements: YtigamiehnjipcaaTotals.lean).
  GIVEN WITH THE SEED: the statements are not yours to turn. If you find one false, say at which input.
  Laid BY PROGRAM, IN A SANDBOX (cutbox-rows.mjs): the forced cells as the released guide's own fill.sh prints them over the translation a0bd6dfd729f9d6a… (all of the seat's roots in one cut). By AI agents, Wed Nov 11 2026. No macro, syntax, notation, axiom, sorry.
-/
import Derived.Test.YtigamiehnjipcaaChecked
import GoSem.Claim
import GoSem.ClaimJoined
import GoSem.ClaimMapViews
import Derived.JoinedTies
import Derived.KernelRfl
namespace Go.Proofs.Ytigamiehnjipcaa
/- THE CELL 'sum', in the pinned program and in every row, IS THE sha256 OF THE DUMP (.gsa) THAT YtigamiehnjipcaaProg.lean LOADS. Nothing in Lean hashes anything: it is a label: what it is worth is what the hold of that sum in a sandbox is worth. -/
noncomputable def Try.pinned : Pinned := { name := "ytigamiehnjipcaa", sum := "a0bd6dfd729f9d6a2947ad185b265d37ddb6ffd9d5f754084f912411a7309a9c", checked := Try.checked }
namespace Rows
def none {H : Type} : Left H := { results := [], args := [] }

/-- 'blackroomlaw9.ChartTells': WHATEVER THE INPUT: true; the input reads as it did. -/
def chartTellsSpec : ChangeSpec := { name := "chartTells", fn := fun _ => fun
  | [d1, d2, d3] => { results := [.lit (.bool true)], args := [d1, d2, d3] }
  | _ => none }
def chartTellsRow : OpenClaim := { program := "ytigamiehnjipcaa", sum := "a0bd6dfd729f9d6a2947ad185b265d37ddb6ffd9d5f754084f912411a7309a9c", func := "blackroom/blackroomlaw9.ChartTells", spec := "chartTells", unfollowed := true, recurses := true, apart := false }
def ChartTellsSaid : Prop := chartTellsRow.holds Try.pinned (OpenSpec.ofChange chartTellsSpec)

/-- ITS FALSE NEIGHBOUR: 'it returns false'. Refute it at one input. -/
def chartTellsWrong : ChangeSpec := { name := "chartTells", fn := fun _ => fun
  | [d1, d2, d3] => { results := [.lit (.bool false)], args := [d1, d2, d3] }
  | _ => none }
def ChartTellsWrongFalsely : Prop := chartTellsRow.holds Try.pinned (OpenSpec.ofChange chartTellsWrong)

/-- 'blackroomlaw10.BombeTests': WHATEVER THE INPUT: true; the input reads as it did. -/
def bombeTestsSpec : ChangeSpec := { name := "bombeTests", fn := fun _ => fun
  | [d1, d2, d3, d4] => { results := [.lit (.bool true)], args := [d1, d2, d3, d4] }
  | _ => none }
def bombeTestsRow : OpenClaim := { program := "ytigamiehnjipcaa", sum := "a0bd6dfd729f9d6a2947ad185b265d37ddb6ffd9d5f754084f912411a7309a9c", func := "blackroom/blackroomlaw10.BombeTests", spec := "bombeTests", unfollowed := true, recurses := true, apart := false }
def BombeTestsSaid : Prop := bombeTestsRow.holds Try.pinned (OpenSpec.ofChange bombeTestsSpec)

/-- ITS FALSE NEIGHBOUR: 'it returns false'. Refute it at one input. -/
def bombeTestsWrong : ChangeSpec := { name := "bombeTests", fn := fun _ => fun
  | [d1, d2, d3, d4] => { results := [.lit (.bool false)], args := [d1, d2, d3, d4] }
  | _ => none }
def BombeTestsWrongFalsely : Prop := bombeTestsRow.holds Try.pinned (OpenSpec.ofChange bombeTestsWrong)

/-- 'blackroomlaw10.BombeComplete': WHATEVER THE INPUT: true; the input reads as it did. -/
def bombeCompleteSpec : ChangeSpec := { name := "bombeComplete", fn := fun _ => fun
  | [d1, d2, d3] => { results := [.lit (.bool true)], args := [d1, d2, d3] }
  | _ => none }
def bombeCompleteRow : OpenClaim := { program := "ytigamiehnjipcaa", sum := "a0bd6dfd729f9d6a2947ad185b265d37ddb6ffd9d5f754084f912411a7309a9c", func := "blackroom/blackroomlaw10.BombeComplete", spec := "bombeComplete", unfollowed := true, recurses := true, apart := false }
def BombeCompleteSaid : Prop := bombeCompleteRow.holds Try.pinned (OpenSpec.ofChange bombeCompleteSpec)

/-- ITS FALSE NEIGHBOUR: 'it returns false'. Refute it at one input. -/
def bombeCompleteWrong : ChangeSpec := { name := "bombeComplete", fn := fun _ => fun
  | [d1, d2, d3] => { results := [.lit (.bool false)], args := [d1, d2, d3] }
  | _ => none }
def BombeCompleteWrongFalsely : Prop := bombeCompleteRow.holds Try.pinned (OpenSpec.ofChange bombeCompleteWrong)

/-- 'blackroomlaw10.BombeSound': WHATEVER THE INPUT: true; the input reads as it did. -/
def bombeSoundSpec : ChangeSpec := { name := "bombeSound", fn := fun _ => fun
  | [d1, d2, d3] => { results := [.lit (.bool true)], args := [d1, d2, d3] }
  | _ => none }
def bombeSoundRow : OpenClaim := { program := "ytigamiehnjipcaa", sum := "a0bd6dfd729f9d6a2947ad185b265d37ddb6ffd9d5f754084f912411a7309a9c", func := "blackroom/blackroomlaw10.BombeSound", spec := "bombeSound", unfollowed := true, recurses := true, apart := false }
def BombeSoundSaid : Prop := bombeSoundRow.holds Try.pinned (OpenSpec.ofChange bombeSoundSpec)

/-- ITS FALSE NEIGHBOUR: 'it returns false'. Refute it at one input. -/
def bombeSoundWrong : ChangeSpec := { name := "bombeSound", fn := fun _ => fun
  | [d1, d2, d3] => { results := [.lit (.bool false)], args := [d1, d2, d3] }
  | _ => none }
def BombeSoundWrongFalsely : Prop := bombeSoundRow.holds Try.pinned (OpenSpec.ofChange bombeSoundWrong)

/- THE SECOND FORM. 'bulk': how many values and letters a reading holds, each counted each time it is reached (what is shared counts as often as it is met; a slice's spare places count too). A statement '..UptoSaid' is the law's where the arguments, and the package variables that the reading takes, are together of bulk at most 1048576: NARROWER than '..Said'. Prove '..Said' where nothing that the law and all that it calls make is longer than what came in: it says more and counts as full. Else prove '..UptoSaid'. A law counts once. -/
mutual
def uptoBulk {H : Type} : DataW H → Nat
  | .lit (.string bytes) => bytes.length + 1
  | .lit _ => 1
  | .nil => 1
  | .ptr d => uptoBulk d + 1
  | .slice elems spare => uptoBulkAll elems + uptoBulkAll spare + 1
  | .agg parts => uptoBulkAll parts + 1
  | .iface _ d => uptoBulk d + 1
  | .map entries => uptoBulkEntries entries + 1
  | .held _ => 1
def uptoBulkAll {H : Type} : List (DataW H) → Nat
  | [] => 0
  | d :: r => uptoBulk d + uptoBulkAll r
def uptoBulkEntries {H : Type} : List (Lit × DataW H) → Nat
  | [] => 0
  | x :: r => uptoBulkEntry x + uptoBulkEntries r
def uptoBulkEntry {H : Type} : Lit × DataW H → Nat
  | (.string bytes, d) => bytes.length + uptoBulk d + 1
  | (_, d) => uptoBulk d + 1
 end
def uptoSmall : (H : Type) → List (DataW H) → Bool := fun _ ds => decide (uptoBulkAll ds ≤ 1048576)
def OpenSpec.upto (s : _root_.Go.ChangeSpec) : _root_.Go.OpenSpec := { _root_.Go.OpenSpec.ofChange s with cond := some uptoSmall }

/-- 'blackroomlaw9.ChartTells', WHERE WHAT IT READS IS OF BULK AT MOST 1048576: true; the input reads as it did. -/
def chartTellsUptoRow : OpenClaim := { program := "ytigamiehnjipcaa", sum := "a0bd6dfd729f9d6a2947ad185b265d37ddb6ffd9d5f754084f912411a7309a9c", func := "blackroom/blackroomlaw9.ChartTells", spec := "chartTells", unfollowed := true, recurses := true, apart := false, narrowed := true }
def ChartTellsUptoSaid : Prop := chartTellsUptoRow.holds Try.pinned (OpenSpec.upto chartTellsSpec)

/-- 'blackroomlaw10.BombeTests', WHERE WHAT IT READS IS OF BULK AT MOST 1048576: true; the input reads as it did. -/
def bombeTestsUptoRow : OpenClaim := { program := "ytigamiehnjipcaa", sum := "a0bd6dfd729f9d6a2947ad185b265d37ddb6ffd9d5f754084f912411a7309a9c", func := "blackroom/blackroomlaw10.BombeTests", spec := "bombeTests", unfollowed := true, recurses := true, apart := false, narrowed := true }
def BombeTestsUptoSaid : Prop := bombeTestsUptoRow.holds Try.pinned (OpenSpec.upto bombeTestsSpec)

/-- 'blackroomlaw10.BombeComplete', WHERE WHAT IT READS IS OF BULK AT MOST 1048576: true; the input reads as it did. -/
def bombeCompleteUptoRow : OpenClaim := { program := "ytigamiehnjipcaa", sum := "a0bd6dfd729f9d6a2947ad185b265d37ddb6ffd9d5f754084f912411a7309a9c", func := "blackroom/blackroomlaw10.BombeComplete", spec := "bombeComplete", unfollowed := true, recurses := true, apart := false, narrowed := true }
def BombeCompleteUptoSaid : Prop := bombeCompleteUptoRow.holds Try.pinned (OpenSpec.upto bombeCompleteSpec)

/-- 'blackroomlaw10.BombeSound', WHERE WHAT IT READS IS OF BULK AT MOST 1048576: true; the input reads as it did. -/
def bombeSoundUptoRow : OpenClaim := { program := "ytigamiehnjipcaa", sum := "a0bd6dfd729f9d6a2947ad185b265d37ddb6ffd9d5f754084f912411a7309a9c", func := "blackroom/blackroomlaw10.BombeSound", spec := "bombeSound", unfollowed := true, recurses := true, apart := false, narrowed := true }
def BombeSoundUptoSaid : Prop := bombeSoundUptoRow.holds Try.pinned (OpenSpec.upto bombeSoundSpec)

end Rows
end Go.Proofs.Ytigamiehnjipcaa
