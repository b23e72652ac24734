/-
  No cell of these rows narrows 'for every input' (looked for: loops, veiled, ifaces, maps, wideKeys, modest, calm, conditions, laid).
  DERIVED. THE GIVEN ROWS OF THIS SEAT. 6 by the template 'for every input the law returns true; each argument reads behind the call as it read before'; 0 by the template 'total and deterministic' (their statements: YtlgjgppojdamiabTotals.lean).
  GIVEN WITH THE SEED: the statements are not yours to turn. If you find one false, say at which input.
  Laid BY PROGRAM, IN A SANDBOX (cutbox-rows.mjs): the forced cells as the released guide's own fill.sh prints them over the translation 5ab16cda6eed1bb9… (all of the seat's roots in one cut). By AI agents, Wed Nov 11 2026. No macro, syntax, notation, axiom, sorry.
-/
import Derived.Test.YtlgjgppojdamiabChecked
import GoSem.Claim
import GoSem.ClaimJoined
import GoSem.ClaimMapViews
import Derived.JoinedTies
import Derived.KernelRfl
namespace Go.Proofs.Ytlgjgppojdamiab
/- THE CELL 'sum', in the pinned program and in every row, IS THE sha256 OF THE DUMP (.gsa) THAT YtlgjgppojdamiabProg.lean LOADS. Nothing in Lean hashes anything: it is a label: what it is worth is what the hold of that sum in a sandbox is worth. -/
noncomputable def Try.pinned : Pinned := { name := "ytlgjgppojdamiab", sum := "5ab16cda6eed1bb920d52c7ef332f8838b0f312b508554fb32132393eeefbc32", checked := Try.checked }
namespace Rows
def none {H : Type} : Left H := { results := [], args := [] }

/-- 'blackroomlaw2.PermConjugates': WHATEVER THE INPUT: true; the input reads as it did. -/
def permConjugatesSpec : ChangeSpec := { name := "permConjugates", fn := fun _ => fun
  | [d1, d2, d3] => { results := [.lit (.bool true)], args := [d1, d2, d3] }
  | _ => none }
def permConjugatesRow : OpenClaim := { program := "ytlgjgppojdamiab", sum := "5ab16cda6eed1bb920d52c7ef332f8838b0f312b508554fb32132393eeefbc32", func := "blackroom/blackroomlaw2.PermConjugates", spec := "permConjugates", unfollowed := true, recurses := true, apart := false }
def PermConjugatesSaid : Prop := permConjugatesRow.holds Try.pinned (OpenSpec.ofChange permConjugatesSpec)

/-- ITS FALSE NEIGHBOUR: 'it returns false'. Refute it at one input. -/
def permConjugatesWrong : ChangeSpec := { name := "permConjugates", fn := fun _ => fun
  | [d1, d2, d3] => { results := [.lit (.bool false)], args := [d1, d2, d3] }
  | _ => none }
def PermConjugatesWrongFalsely : Prop := permConjugatesRow.holds Try.pinned (OpenSpec.ofChange permConjugatesWrong)

/-- 'blackroomlaw2.PermTurns': WHATEVER THE INPUT: true; the input reads as it did. -/
def permTurnsSpec : ChangeSpec := { name := "permTurns", fn := fun _ => fun
  | [d] => { results := [.lit (.bool true)], args := [d] }
  | _ => none }
def permTurnsRow : OpenClaim := { program := "ytlgjgppojdamiab", sum := "5ab16cda6eed1bb920d52c7ef332f8838b0f312b508554fb32132393eeefbc32", func := "blackroom/blackroomlaw2.PermTurns", spec := "permTurns", unfollowed := true, recurses := true, apart := false }
def PermTurnsSaid : Prop := permTurnsRow.holds Try.pinned (OpenSpec.ofChange permTurnsSpec)

/-- ITS FALSE NEIGHBOUR: 'it returns false'. Refute it at one input. -/
def permTurnsWrong : ChangeSpec := { name := "permTurns", fn := fun _ => fun
  | [d] => { results := [.lit (.bool false)], args := [d] }
  | _ => none }
def PermTurnsWrongFalsely : Prop := permTurnsRow.holds Try.pinned (OpenSpec.ofChange permTurnsWrong)

/-- 'blackroomlaw3.HillReckons': WHATEVER THE INPUT: true; the input reads as it did. -/
def hillReckonsSpec : ChangeSpec := { name := "hillReckons", fn := fun _ => fun
  | [d1, d2] => { results := [.lit (.bool true)], args := [d1, d2] }
  | _ => none }
def hillReckonsRow : OpenClaim := { program := "ytlgjgppojdamiab", sum := "5ab16cda6eed1bb920d52c7ef332f8838b0f312b508554fb32132393eeefbc32", func := "blackroom/blackroomlaw3.HillReckons", spec := "hillReckons", unfollowed := true, recurses := true, apart := false }
def HillReckonsSaid : Prop := hillReckonsRow.holds Try.pinned (OpenSpec.ofChange hillReckonsSpec)

/-- ITS FALSE NEIGHBOUR: 'it returns false'. Refute it at one input. -/
def hillReckonsWrong : ChangeSpec := { name := "hillReckons", fn := fun _ => fun
  | [d1, d2] => { results := [.lit (.bool false)], args := [d1, d2] }
  | _ => none }
def HillReckonsWrongFalsely : Prop := hillReckonsRow.holds Try.pinned (OpenSpec.ofChange hillReckonsWrong)

/-- 'blackroomlaw3.HillWrites': WHATEVER THE INPUT: true; the input reads as it did. -/
def hillWritesSpec : ChangeSpec := { name := "hillWrites", fn := fun _ => fun
  | [d1, d2, d3, d4] => { results := [.lit (.bool true)], args := [d1, d2, d3, d4] }
  | _ => none }
def hillWritesRow : OpenClaim := { program := "ytlgjgppojdamiab", sum := "5ab16cda6eed1bb920d52c7ef332f8838b0f312b508554fb32132393eeefbc32", func := "blackroom/blackroomlaw3.HillWrites", spec := "hillWrites", inPlace := ["internal/abi.NoEscape", "internal/bytealg.MakeNoZero"], unfollowed := true, recurses := true, apart := false }
def HillWritesSaid : Prop := hillWritesRow.holds Try.pinned (OpenSpec.ofChange hillWritesSpec)

/-- ITS FALSE NEIGHBOUR: 'it returns false'. Refute it at one input. -/
def hillWritesWrong : ChangeSpec := { name := "hillWrites", fn := fun _ => fun
  | [d1, d2, d3, d4] => { results := [.lit (.bool false)], args := [d1, d2, d3, d4] }
  | _ => none }
def HillWritesWrongFalsely : Prop := hillWritesRow.holds Try.pinned (OpenSpec.ofChange hillWritesWrong)

/-- 'blackroomlaw3.HillWhole': WHATEVER THE INPUT: true; the input reads as it did. -/
def hillWholeSpec : ChangeSpec := { name := "hillWhole", fn := fun _ => fun
  | [d1, d2] => { results := [.lit (.bool true)], args := [d1, d2] }
  | _ => none }
def hillWholeRow : OpenClaim := { program := "ytlgjgppojdamiab", sum := "5ab16cda6eed1bb920d52c7ef332f8838b0f312b508554fb32132393eeefbc32", func := "blackroom/blackroomlaw3.HillWhole", spec := "hillWhole", unfollowed := true, recurses := true, apart := false }
def HillWholeSaid : Prop := hillWholeRow.holds Try.pinned (OpenSpec.ofChange hillWholeSpec)

/-- ITS FALSE NEIGHBOUR: 'it returns false'. Refute it at one input. -/
def hillWholeWrong : ChangeSpec := { name := "hillWhole", fn := fun _ => fun
  | [d1, d2] => { results := [.lit (.bool false)], args := [d1, d2] }
  | _ => none }
def HillWholeWrongFalsely : Prop := hillWholeRow.holds Try.pinned (OpenSpec.ofChange hillWholeWrong)

/-- 'blackroomlaw3.HillUndone': WHATEVER THE INPUT: true; the input reads as it did. -/
def hillUndoneSpec : ChangeSpec := { name := "hillUndone", fn := fun _ => fun
  | [d1, d2, d3] => { results := [.lit (.bool true)], args := [d1, d2, d3] }
  | _ => none }
def hillUndoneRow : OpenClaim := { program := "ytlgjgppojdamiab", sum := "5ab16cda6eed1bb920d52c7ef332f8838b0f312b508554fb32132393eeefbc32", func := "blackroom/blackroomlaw3.HillUndone", spec := "hillUndone", inPlace := ["internal/abi.NoEscape", "internal/bytealg.MakeNoZero"], unfollowed := true, recurses := true, apart := false }
def HillUndoneSaid : Prop := hillUndoneRow.holds Try.pinned (OpenSpec.ofChange hillUndoneSpec)

/-- ITS FALSE NEIGHBOUR: 'it returns false'. Refute it at one input. -/
def hillUndoneWrong : ChangeSpec := { name := "hillUndone", fn := fun _ => fun
  | [d1, d2, d3] => { results := [.lit (.bool false)], args := [d1, d2, d3] }
  | _ => none }
def HillUndoneWrongFalsely : Prop := hillUndoneRow.holds Try.pinned (OpenSpec.ofChange hillUndoneWrong)

/- THE SECOND FORM. 'bulk': how many values and letters a reading holds, each counted each time it is reached (what is shared counts as often as it is met; a slice's spare places count too). A statement '..UptoSaid' is the law's where the arguments, and the package variables that the reading takes, are together of bulk at most 1048576: NARROWER than '..Said'. Prove '..Said' where nothing that the law and all that it calls make is longer than what came in: it says more and counts as full. Else prove '..UptoSaid'. A law counts once. -/
mutual
def uptoBulk {H : Type} : DataW H → Nat
  | .lit (.string bytes) => bytes.length + 1
  | .lit _ => 1
  | .nil => 1
  | .ptr d => uptoBulk d + 1
  | .slice elems spare => uptoBulkAll elems + uptoBulkAll spare + 1
  | .agg parts => uptoBulkAll parts + 1
  | .iface _ d => uptoBulk d + 1
  | .map entries => uptoBulkEntries entries + 1
  | .held _ => 1
def uptoBulkAll {H : Type} : List (DataW H) → Nat
  | [] => 0
  | d :: r => uptoBulk d + uptoBulkAll r
def uptoBulkEntries {H : Type} : List (Lit × DataW H) → Nat
  | [] => 0
  | x :: r => uptoBulkEntry x + uptoBulkEntries r
def uptoBulkEntry {H : Type} : Lit × DataW H → Nat
  | (.string bytes, d) => bytes.length + uptoBulk d + 1
  | (_, d) => uptoBulk d + 1
 end
def uptoSmall : (H : Type) → List (DataW H) → Bool := fun _ ds => decide (uptoBulkAll ds ≤ 1048576)
def OpenSpec.upto (s : _root_.Go.ChangeSpec) : _root_.Go.OpenSpec := { _root_.Go.OpenSpec.ofChange s with cond := some uptoSmall }

/-- 'blackroomlaw2.PermConjugates', WHERE WHAT IT READS IS OF BULK AT MOST 1048576: true; the input reads as it did. -/
def permConjugatesUptoRow : OpenClaim := { program := "ytlgjgppojdamiab", sum := "5ab16cda6eed1bb920d52c7ef332f8838b0f312b508554fb32132393eeefbc32", func := "blackroom/blackroomlaw2.PermConjugates", spec := "permConjugates", unfollowed := true, recurses := true, apart := false, narrowed := true }
def PermConjugatesUptoSaid : Prop := permConjugatesUptoRow.holds Try.pinned (OpenSpec.upto permConjugatesSpec)

/-- 'blackroomlaw2.PermTurns', WHERE WHAT IT READS IS OF BULK AT MOST 1048576: true; the input reads as it did. -/
def permTurnsUptoRow : OpenClaim := { program := "ytlgjgppojdamiab", sum := "5ab16cda6eed1bb920d52c7ef332f8838b0f312b508554fb32132393eeefbc32", func := "blackroom/blackroomlaw2.PermTurns", spec := "permTurns", unfollowed := true, recurses := true, apart := false, narrowed := true }
def PermTurnsUptoSaid : Prop := permTurnsUptoRow.holds Try.pinned (OpenSpec.upto permTurnsSpec)

/-- 'blackroomlaw3.HillReckons', WHERE WHAT IT READS IS OF BULK AT MOST 1048576: true; the input reads as it did. -/
def hillReckonsUptoRow : OpenClaim := { program := "ytlgjgppojdamiab", sum := "5ab16cda6eed1bb920d52c7ef332f8838b0f312b508554fb32132393eeefbc32", func := "blackroom/blackroomlaw3.HillReckons", spec := "hillReckons", unfollowed := true, recurses := true, apart := false, narrowed := true }
def HillReckonsUptoSaid : Prop := hillReckonsUptoRow.holds Try.pinned (OpenSpec.upto hillReckonsSpec)

/-- 'blackroomlaw3.HillWrites', WHERE WHAT IT READS IS OF BULK AT MOST 1048576: true; the input reads as it did. -/
def hillWritesUptoRow : OpenClaim := { program := "ytlgjgppojdamiab", sum := "5ab16cda6eed1bb920d52c7ef332f8838b0f312b508554fb32132393eeefbc32", func := "blackroom/blackroomlaw3.HillWrites", spec := "hillWrites", inPlace := ["internal/abi.NoEscape", "internal/bytealg.MakeNoZero"], unfollowed := true, recurses := true, apart := false, narrowed := true }
def HillWritesUptoSaid : Prop := hillWritesUptoRow.holds Try.pinned (OpenSpec.upto hillWritesSpec)

/-- 'blackroomlaw3.HillWhole', WHERE WHAT IT READS IS OF BULK AT MOST 1048576: true; the input reads as it did. -/
def hillWholeUptoRow : OpenClaim := { program := "ytlgjgppojdamiab", sum := "5ab16cda6eed1bb920d52c7ef332f8838b0f312b508554fb32132393eeefbc32", func := "blackroom/blackroomlaw3.HillWhole", spec := "hillWhole", unfollowed := true, recurses := true, apart := false, narrowed := true }
def HillWholeUptoSaid : Prop := hillWholeUptoRow.holds Try.pinned (OpenSpec.upto hillWholeSpec)

/-- 'blackroomlaw3.HillUndone', WHERE WHAT IT READS IS OF BULK AT MOST 1048576: true; the input reads as it did. -/
def hillUndoneUptoRow : OpenClaim := { program := "ytlgjgppojdamiab", sum := "5ab16cda6eed1bb920d52c7ef332f8838b0f312b508554fb32132393eeefbc32", func := "blackroom/blackroomlaw3.HillUndone", spec := "hillUndone", inPlace := ["internal/abi.NoEscape", "internal/bytealg.MakeNoZero"], unfollowed := true, recurses := true, apart := false, narrowed := true }
def HillUndoneUptoSaid : Prop := hillUndoneUptoRow.holds Try.pinned (OpenSpec.upto hillUndoneSpec)

end Rows
end Go.Proofs.Ytlgjgppojdamiab
