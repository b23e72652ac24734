/-
  No cell of these rows narrows 'for every input' (looked for: loops, veiled, ifaces, maps, wideKeys, modest, calm, conditions, laid).
  DERIVED. THE GIVEN ROWS OF THIS SEAT. 4 by the template 'for every input the law returns true; each argument reads behind the call as it read before'; 0 by the template 'total and deterministic' (their statements: YtflehdigikdhmaaTotals.lean).
  GIVEN WITH THE SEED: the statements are not yours to turn. If you find one false, say at which input.
  Laid BY PROGRAM, IN A SANDBOX (cutbox-rows.mjs): the forced cells as the released guide's own fill.sh prints them over the translation 6c3c313e091ae989… (all of the seat's roots in one cut). By AI agents, Wed Nov 11 2026. No macro, syntax, notation, axiom, sorry.
-/
import Derived.Test.YtflehdigikdhmaaChecked
import GoSem.Claim
import GoSem.ClaimJoined
import GoSem.ClaimMapViews
import Derived.JoinedTies
import Derived.KernelRfl
namespace Go.Proofs.Ytflehdigikdhmaa
/- THE CELL 'sum', in the pinned program and in every row, IS THE sha256 OF THE DUMP (.gsa) THAT YtflehdigikdhmaaProg.lean LOADS. Nothing in Lean hashes anything: it is a label: what it is worth is what the hold of that sum in a sandbox is worth. -/
noncomputable def Try.pinned : Pinned := { name := "ytflehdigikdhmaa", sum := "6c3c313e091ae9895c21ab2a53eb8f7ddf6ef7e0a9a0db1114d497bfc1186eea", checked := Try.checked }
namespace Rows
def none {H : Type} : Left H := { results := [], args := [] }

/-- 'blackroomlaw11.RegisterTells': WHATEVER THE INPUT: true; the input reads as it did. -/
def registerTellsSpec : ChangeSpec := { name := "registerTells", fn := fun _ => fun
  | [d1, d2, d3, d4] => { results := [.lit (.bool true)], args := [d1, d2, d3, d4] }
  | _ => none }
def registerTellsRow : OpenClaim := { program := "ytflehdigikdhmaa", sum := "6c3c313e091ae9895c21ab2a53eb8f7ddf6ef7e0a9a0db1114d497bfc1186eea", func := "blackroom/blackroomlaw11.RegisterTells", spec := "registerTells", apart := false }
def RegisterTellsSaid : Prop := registerTellsRow.holds Try.pinned (OpenSpec.ofChange registerTellsSpec)

/-- ITS FALSE NEIGHBOUR: 'it returns false'. Refute it at one input. -/
def registerTellsWrong : ChangeSpec := { name := "registerTells", fn := fun _ => fun
  | [d1, d2, d3, d4] => { results := [.lit (.bool false)], args := [d1, d2, d3, d4] }
  | _ => none }
def RegisterTellsWrongFalsely : Prop := registerTellsRow.holds Try.pinned (OpenSpec.ofChange registerTellsWrong)

/-- 'blackroomlaw11.RegisterShortest': WHATEVER THE INPUT: true; the input reads as it did. -/
def registerShortestSpec : ChangeSpec := { name := "registerShortest", fn := fun _ => fun
  | [d1, d2] => { results := [.lit (.bool true)], args := [d1, d2] }
  | _ => none }
def registerShortestRow : OpenClaim := { program := "ytflehdigikdhmaa", sum := "6c3c313e091ae9895c21ab2a53eb8f7ddf6ef7e0a9a0db1114d497bfc1186eea", func := "blackroom/blackroomlaw11.RegisterShortest", spec := "registerShortest", apart := false }
def RegisterShortestSaid : Prop := registerShortestRow.holds Try.pinned (OpenSpec.ofChange registerShortestSpec)

/-- ITS FALSE NEIGHBOUR: 'it returns false'. Refute it at one input. -/
def registerShortestWrong : ChangeSpec := { name := "registerShortest", fn := fun _ => fun
  | [d1, d2] => { results := [.lit (.bool false)], args := [d1, d2] }
  | _ => none }
def RegisterShortestWrongFalsely : Prop := registerShortestRow.holds Try.pinned (OpenSpec.ofChange registerShortestWrong)

/-- 'blackroomlaw11.RegisterGrows': WHATEVER THE INPUT: true; the input reads as it did. -/
def registerGrowsSpec : ChangeSpec := { name := "registerGrows", fn := fun _ => fun
  | [d] => { results := [.lit (.bool true)], args := [d] }
  | _ => none }
def registerGrowsRow : OpenClaim := { program := "ytflehdigikdhmaa", sum := "6c3c313e091ae9895c21ab2a53eb8f7ddf6ef7e0a9a0db1114d497bfc1186eea", func := "blackroom/blackroomlaw11.RegisterGrows", spec := "registerGrows", apart := false }
def RegisterGrowsSaid : Prop := registerGrowsRow.holds Try.pinned (OpenSpec.ofChange registerGrowsSpec)

/-- ITS FALSE NEIGHBOUR: 'it returns false'. Refute it at one input. -/
def registerGrowsWrong : ChangeSpec := { name := "registerGrows", fn := fun _ => fun
  | [d] => { results := [.lit (.bool false)], args := [d] }
  | _ => none }
def RegisterGrowsWrongFalsely : Prop := registerGrowsRow.holds Try.pinned (OpenSpec.ofChange registerGrowsWrong)

/-- 'blackroomlaw11.RegisterFound': WHATEVER THE INPUT: true; the input reads as it did. -/
def registerFoundSpec : ChangeSpec := { name := "registerFound", fn := fun _ => fun
  | [d1, d2, d3] => { results := [.lit (.bool true)], args := [d1, d2, d3] }
  | _ => none }
def registerFoundRow : OpenClaim := { program := "ytflehdigikdhmaa", sum := "6c3c313e091ae9895c21ab2a53eb8f7ddf6ef7e0a9a0db1114d497bfc1186eea", func := "blackroom/blackroomlaw11.RegisterFound", spec := "registerFound", apart := false }
def RegisterFoundSaid : Prop := registerFoundRow.holds Try.pinned (OpenSpec.ofChange registerFoundSpec)

/-- ITS FALSE NEIGHBOUR: 'it returns false'. Refute it at one input. -/
def registerFoundWrong : ChangeSpec := { name := "registerFound", fn := fun _ => fun
  | [d1, d2, d3] => { results := [.lit (.bool false)], args := [d1, d2, d3] }
  | _ => none }
def RegisterFoundWrongFalsely : Prop := registerFoundRow.holds Try.pinned (OpenSpec.ofChange registerFoundWrong)

/- THE SECOND FORM. 'bulk': how many values and letters a reading holds, each counted each time it is reached (what is shared counts as often as it is met; a slice's spare places count too). A statement '..UptoSaid' is the law's where the arguments, and the package variables that the reading takes, are together of bulk at most 1048576: NARROWER than '..Said'. Prove '..Said' where nothing that the law and all that it calls make is longer than what came in: it says more and counts as full. Else prove '..UptoSaid'. A law counts once. -/
mutual
def uptoBulk {H : Type} : DataW H → Nat
  | .lit (.string bytes) => bytes.length + 1
  | .lit _ => 1
  | .nil => 1
  | .ptr d => uptoBulk d + 1
  | .slice elems spare => uptoBulkAll elems + uptoBulkAll spare + 1
  | .agg parts => uptoBulkAll parts + 1
  | .iface _ d => uptoBulk d + 1
  | .map entries => uptoBulkEntries entries + 1
  | .held _ => 1
def uptoBulkAll {H : Type} : List (DataW H) → Nat
  | [] => 0
  | d :: r => uptoBulk d + uptoBulkAll r
def uptoBulkEntries {H : Type} : List (Lit × DataW H) → Nat
  | [] => 0
  | x :: r => uptoBulkEntry x + uptoBulkEntries r
def uptoBulkEntry {H : Type} : Lit × DataW H → Nat
  | (.string bytes, d) => bytes.length + uptoBulk d + 1
  | (_, d) => uptoBulk d + 1
 end
def uptoSmall : (H : Type) → List (DataW H) → Bool := fun _ ds => decide (uptoBulkAll ds ≤ 1048576)
def OpenSpec.upto (s : _root_.Go.ChangeSpec) : _root_.Go.OpenSpec := { _root_.Go.OpenSpec.ofChange s with cond := some uptoSmall }

/-- 'blackroomlaw11.RegisterTells', WHERE WHAT IT READS IS OF BULK AT MOST 1048576: true; the input reads as it did. -/
def registerTellsUptoRow : OpenClaim := { program := "ytflehdigikdhmaa", sum := "6c3c313e091ae9895c21ab2a53eb8f7ddf6ef7e0a9a0db1114d497bfc1186eea", func := "blackroom/blackroomlaw11.RegisterTells", spec := "registerTells", apart := false, narrowed := true }
def RegisterTellsUptoSaid : Prop := registerTellsUptoRow.holds Try.pinned (OpenSpec.upto registerTellsSpec)

/-- 'blackroomlaw11.RegisterShortest', WHERE WHAT IT READS IS OF BULK AT MOST 1048576: true; the input reads as it did. -/
def registerShortestUptoRow : OpenClaim := { program := "ytflehdigikdhmaa", sum := "6c3c313e091ae9895c21ab2a53eb8f7ddf6ef7e0a9a0db1114d497bfc1186eea", func := "blackroom/blackroomlaw11.RegisterShortest", spec := "registerShortest", apart := false, narrowed := true }
def RegisterShortestUptoSaid : Prop := registerShortestUptoRow.holds Try.pinned (OpenSpec.upto registerShortestSpec)

/-- 'blackroomlaw11.RegisterGrows', WHERE WHAT IT READS IS OF BULK AT MOST 1048576: true; the input reads as it did. -/
def registerGrowsUptoRow : OpenClaim := { program := "ytflehdigikdhmaa", sum := "6c3c313e091ae9895c21ab2a53eb8f7ddf6ef7e0a9a0db1114d497bfc1186eea", func := "blackroom/blackroomlaw11.RegisterGrows", spec := "registerGrows", apart := false, narrowed := true }
def RegisterGrowsUptoSaid : Prop := registerGrowsUptoRow.holds Try.pinned (OpenSpec.upto registerGrowsSpec)

/-- 'blackroomlaw11.RegisterFound', WHERE WHAT IT READS IS OF BULK AT MOST 1048576: true; the input reads as it did. -/
def registerFoundUptoRow : OpenClaim := { program := "ytflehdigikdhmaa", sum := "6c3c313e091ae9895c21ab2a53eb8f7ddf6ef7e0a9a0db1114d497bfc1186eea", func := "blackroom/blackroomlaw11.RegisterFound", spec := "registerFound", apart := false, narrowed := true }
def RegisterFoundUptoSaid : Prop := registerFoundUptoRow.holds Try.pinned (OpenSpec.upto registerFoundSpec)

end Rows
end Go.Proofs.Ytflehdigikdhmaa
