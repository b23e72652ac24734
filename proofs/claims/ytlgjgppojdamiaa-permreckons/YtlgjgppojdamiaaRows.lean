/-
  No cell of these rows narrows 'for every input' (looked for: loops, veiled, ifaces, maps, wideKeys, modest, calm, conditions, laid).
  DERIVED. THE GIVEN ROWS OF THIS SEAT. 6 by the template 'for every input the law returns true; each argument reads behind the call as it read before'; 0 by the template 'total and deterministic' (their statements: YtlgjgppojdamiaaTotals.lean).
  GIVEN WITH THE SEED: the statements are not yours to turn. If you find one false, say at which input.
  Laid BY PROGRAM, IN A SANDBOX (cutbox-rows.mjs): the forced cells as the released guide's own fill.sh prints them over the translation 1473c5064218be27… (all of the seat's roots in one cut). By AI agents, Wed Nov 11 2026. No macro, syntax, notation, axiom, sorry.
-/
import Derived.Test.YtlgjgppojdamiaaChecked
import GoSem.Claim
import GoSem.ClaimJoined
import GoSem.ClaimMapViews
import Derived.JoinedTies
import Derived.KernelRfl
namespace Go.Proofs.Ytlgjgppojdamiaa
/- THE CELL 'sum', in the pinned program and in every row, IS THE sha256 OF THE DUMP (.gsa) THAT YtlgjgppojdamiaaProg.lean LOADS. Nothing in Lean hashes anything: it is a label: what it is worth is what the hold of that sum in a sandbox is worth. -/
noncomputable def Try.pinned : Pinned := { name := "ytlgjgppojdamiaa", sum := "1473c5064218be27366dcfc72c8cad97484ba7d98158ff706b1bcfdd5b514b91", checked := Try.checked }
namespace Rows
def none {H : Type} : Left H := { results := [], args := [] }

/-- 'blackroomlaw1.LettersWrite': WHATEVER THE INPUT: true; the input reads as it did. -/
def lettersWriteSpec : ChangeSpec := { name := "lettersWrite", fn := fun _ => fun
  | [d1, d2, d3] => { results := [.lit (.bool true)], args := [d1, d2, d3] }
  | _ => none }
def lettersWriteRow : OpenClaim := { program := "ytlgjgppojdamiaa", sum := "1473c5064218be27366dcfc72c8cad97484ba7d98158ff706b1bcfdd5b514b91", func := "blackroom/blackroomlaw1.LettersWrite", spec := "lettersWrite", apart := false }
def LettersWriteSaid : Prop := lettersWriteRow.holds Try.pinned (OpenSpec.ofChange lettersWriteSpec)

/-- ITS FALSE NEIGHBOUR: 'it returns false'. Refute it at one input. -/
def lettersWriteWrong : ChangeSpec := { name := "lettersWrite", fn := fun _ => fun
  | [d1, d2, d3] => { results := [.lit (.bool false)], args := [d1, d2, d3] }
  | _ => none }
def LettersWriteWrongFalsely : Prop := lettersWriteRow.holds Try.pinned (OpenSpec.ofChange lettersWriteWrong)

/-- 'blackroomlaw1.LettersFold': WHATEVER THE INPUT: true; the input reads as it did. -/
def lettersFoldSpec : ChangeSpec := { name := "lettersFold", fn := fun _ => fun
  | [d1, d2] => { results := [.lit (.bool true)], args := [d1, d2] }
  | _ => none }
def lettersFoldRow : OpenClaim := { program := "ytlgjgppojdamiaa", sum := "1473c5064218be27366dcfc72c8cad97484ba7d98158ff706b1bcfdd5b514b91", func := "blackroom/blackroomlaw1.LettersFold", spec := "lettersFold", apart := false }
def LettersFoldSaid : Prop := lettersFoldRow.holds Try.pinned (OpenSpec.ofChange lettersFoldSpec)

/-- ITS FALSE NEIGHBOUR: 'it returns false'. Refute it at one input. -/
def lettersFoldWrong : ChangeSpec := { name := "lettersFold", fn := fun _ => fun
  | [d1, d2] => { results := [.lit (.bool false)], args := [d1, d2] }
  | _ => none }
def LettersFoldWrongFalsely : Prop := lettersFoldRow.holds Try.pinned (OpenSpec.ofChange lettersFoldWrong)

/-- 'blackroomlaw1.LettersGroup': WHATEVER THE INPUT: true; the input reads as it did. -/
def lettersGroupSpec : ChangeSpec := { name := "lettersGroup", fn := fun _ => fun
  | [d1, d2, d3] => { results := [.lit (.bool true)], args := [d1, d2, d3] }
  | _ => none }
def lettersGroupRow : OpenClaim := { program := "ytlgjgppojdamiaa", sum := "1473c5064218be27366dcfc72c8cad97484ba7d98158ff706b1bcfdd5b514b91", func := "blackroom/blackroomlaw1.LettersGroup", spec := "lettersGroup", apart := false }
def LettersGroupSaid : Prop := lettersGroupRow.holds Try.pinned (OpenSpec.ofChange lettersGroupSpec)

/-- ITS FALSE NEIGHBOUR: 'it returns false'. Refute it at one input. -/
def lettersGroupWrong : ChangeSpec := { name := "lettersGroup", fn := fun _ => fun
  | [d1, d2, d3] => { results := [.lit (.bool false)], args := [d1, d2, d3] }
  | _ => none }
def LettersGroupWrongFalsely : Prop := lettersGroupRow.holds Try.pinned (OpenSpec.ofChange lettersGroupWrong)

/-- 'blackroomlaw2.PermReckons': WHATEVER THE INPUT: true; the input reads as it did. -/
def permReckonsSpec : ChangeSpec := { name := "permReckons", fn := fun _ => fun
  | [d1, d2] => { results := [.lit (.bool true)], args := [d1, d2] }
  | _ => none }
def permReckonsRow : OpenClaim := { program := "ytlgjgppojdamiaa", sum := "1473c5064218be27366dcfc72c8cad97484ba7d98158ff706b1bcfdd5b514b91", func := "blackroom/blackroomlaw2.PermReckons", spec := "permReckons", unfollowed := true, recurses := true, apart := false }
def PermReckonsSaid : Prop := permReckonsRow.holds Try.pinned (OpenSpec.ofChange permReckonsSpec)

/-- ITS FALSE NEIGHBOUR: 'it returns false'. Refute it at one input. -/
def permReckonsWrong : ChangeSpec := { name := "permReckons", fn := fun _ => fun
  | [d1, d2] => { results := [.lit (.bool false)], args := [d1, d2] }
  | _ => none }
def PermReckonsWrongFalsely : Prop := permReckonsRow.holds Try.pinned (OpenSpec.ofChange permReckonsWrong)

/-- 'blackroomlaw2.PermReads': WHATEVER THE INPUT: true; the input reads as it did. -/
def permReadsSpec : ChangeSpec := { name := "permReads", fn := fun _ => fun
  | [d] => { results := [.lit (.bool true)], args := [d] }
  | _ => none }
def permReadsRow : OpenClaim := { program := "ytlgjgppojdamiaa", sum := "1473c5064218be27366dcfc72c8cad97484ba7d98158ff706b1bcfdd5b514b91", func := "blackroom/blackroomlaw2.PermReads", spec := "permReads", unfollowed := true, recurses := true, apart := false }
def PermReadsSaid : Prop := permReadsRow.holds Try.pinned (OpenSpec.ofChange permReadsSpec)

/-- ITS FALSE NEIGHBOUR: 'it returns false'. Refute it at one input. -/
def permReadsWrong : ChangeSpec := { name := "permReads", fn := fun _ => fun
  | [d] => { results := [.lit (.bool false)], args := [d] }
  | _ => none }
def PermReadsWrongFalsely : Prop := permReadsRow.holds Try.pinned (OpenSpec.ofChange permReadsWrong)

/-- 'blackroomlaw2.PermGroup': WHATEVER THE INPUT: true; the input reads as it did. -/
def permGroupSpec : ChangeSpec := { name := "permGroup", fn := fun _ => fun
  | [d1, d2, d3] => { results := [.lit (.bool true)], args := [d1, d2, d3] }
  | _ => none }
def permGroupRow : OpenClaim := { program := "ytlgjgppojdamiaa", sum := "1473c5064218be27366dcfc72c8cad97484ba7d98158ff706b1bcfdd5b514b91", func := "blackroom/blackroomlaw2.PermGroup", spec := "permGroup", unfollowed := true, recurses := true, apart := false }
def PermGroupSaid : Prop := permGroupRow.holds Try.pinned (OpenSpec.ofChange permGroupSpec)

/-- ITS FALSE NEIGHBOUR: 'it returns false'. Refute it at one input. -/
def permGroupWrong : ChangeSpec := { name := "permGroup", fn := fun _ => fun
  | [d1, d2, d3] => { results := [.lit (.bool false)], args := [d1, d2, d3] }
  | _ => none }
def PermGroupWrongFalsely : Prop := permGroupRow.holds Try.pinned (OpenSpec.ofChange permGroupWrong)

/- THE SECOND FORM. 'bulk': how many values and letters a reading holds, each counted each time it is reached (what is shared counts as often as it is met; a slice's spare places count too). A statement '..UptoSaid' is the law's where the arguments, and the package variables that the reading takes, are together of bulk at most 1048576: NARROWER than '..Said'. Prove '..Said' where nothing that the law and all that it calls make is longer than what came in: it says more and counts as full. Else prove '..UptoSaid'. A law counts once. -/
mutual
def uptoBulk {H : Type} : DataW H → Nat
  | .lit (.string bytes) => bytes.length + 1
  | .lit _ => 1
  | .nil => 1
  | .ptr d => uptoBulk d + 1
  | .slice elems spare => uptoBulkAll elems + uptoBulkAll spare + 1
  | .agg parts => uptoBulkAll parts + 1
  | .iface _ d => uptoBulk d + 1
  | .map entries => uptoBulkEntries entries + 1
  | .held _ => 1
def uptoBulkAll {H : Type} : List (DataW H) → Nat
  | [] => 0
  | d :: r => uptoBulk d + uptoBulkAll r
def uptoBulkEntries {H : Type} : List (Lit × DataW H) → Nat
  | [] => 0
  | x :: r => uptoBulkEntry x + uptoBulkEntries r
def uptoBulkEntry {H : Type} : Lit × DataW H → Nat
  | (.string bytes, d) => bytes.length + uptoBulk d + 1
  | (_, d) => uptoBulk d + 1
 end
def uptoSmall : (H : Type) → List (DataW H) → Bool := fun _ ds => decide (uptoBulkAll ds ≤ 1048576)
def OpenSpec.upto (s : _root_.Go.ChangeSpec) : _root_.Go.OpenSpec := { _root_.Go.OpenSpec.ofChange s with cond := some uptoSmall }

/-- 'blackroomlaw1.LettersWrite', WHERE WHAT IT READS IS OF BULK AT MOST 1048576: true; the input reads as it did. -/
def lettersWriteUptoRow : OpenClaim := { program := "ytlgjgppojdamiaa", sum := "1473c5064218be27366dcfc72c8cad97484ba7d98158ff706b1bcfdd5b514b91", func := "blackroom/blackroomlaw1.LettersWrite", spec := "lettersWrite", apart := false, narrowed := true }
def LettersWriteUptoSaid : Prop := lettersWriteUptoRow.holds Try.pinned (OpenSpec.upto lettersWriteSpec)

/-- 'blackroomlaw1.LettersFold', WHERE WHAT IT READS IS OF BULK AT MOST 1048576: true; the input reads as it did. -/
def lettersFoldUptoRow : OpenClaim := { program := "ytlgjgppojdamiaa", sum := "1473c5064218be27366dcfc72c8cad97484ba7d98158ff706b1bcfdd5b514b91", func := "blackroom/blackroomlaw1.LettersFold", spec := "lettersFold", apart := false, narrowed := true }
def LettersFoldUptoSaid : Prop := lettersFoldUptoRow.holds Try.pinned (OpenSpec.upto lettersFoldSpec)

/-- 'blackroomlaw1.LettersGroup', WHERE WHAT IT READS IS OF BULK AT MOST 1048576: true; the input reads as it did. -/
def lettersGroupUptoRow : OpenClaim := { program := "ytlgjgppojdamiaa", sum := "1473c5064218be27366dcfc72c8cad97484ba7d98158ff706b1bcfdd5b514b91", func := "blackroom/blackroomlaw1.LettersGroup", spec := "lettersGroup", apart := false, narrowed := true }
def LettersGroupUptoSaid : Prop := lettersGroupUptoRow.holds Try.pinned (OpenSpec.upto lettersGroupSpec)

/-- 'blackroomlaw2.PermReckons', WHERE WHAT IT READS IS OF BULK AT MOST 1048576: true; the input reads as it did. -/
def permReckonsUptoRow : OpenClaim := { program := "ytlgjgppojdamiaa", sum := "1473c5064218be27366dcfc72c8cad97484ba7d98158ff706b1bcfdd5b514b91", func := "blackroom/blackroomlaw2.PermReckons", spec := "permReckons", unfollowed := true, recurses := true, apart := false, narrowed := true }
def PermReckonsUptoSaid : Prop := permReckonsUptoRow.holds Try.pinned (OpenSpec.upto permReckonsSpec)

/-- 'blackroomlaw2.PermReads', WHERE WHAT IT READS IS OF BULK AT MOST 1048576: true; the input reads as it did. -/
def permReadsUptoRow : OpenClaim := { program := "ytlgjgppojdamiaa", sum := "1473c5064218be27366dcfc72c8cad97484ba7d98158ff706b1bcfdd5b514b91", func := "blackroom/blackroomlaw2.PermReads", spec := "permReads", unfollowed := true, recurses := true, apart := false, narrowed := true }
def PermReadsUptoSaid : Prop := permReadsUptoRow.holds Try.pinned (OpenSpec.upto permReadsSpec)

/-- 'blackroomlaw2.PermGroup', WHERE WHAT IT READS IS OF BULK AT MOST 1048576: true; the input reads as it did. -/
def permGroupUptoRow : OpenClaim := { program := "ytlgjgppojdamiaa", sum := "1473c5064218be27366dcfc72c8cad97484ba7d98158ff706b1bcfdd5b514b91", func := "blackroom/blackroomlaw2.PermGroup", spec := "permGroup", unfollowed := true, recurses := true, apart := false, narrowed := true }
def PermGroupUptoSaid : Prop := permGroupUptoRow.holds Try.pinned (OpenSpec.upto permGroupSpec)

end Rows
end Go.Proofs.Ytlgjgppojdamiaa
