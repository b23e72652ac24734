/-
  No cell of these rows narrows 'for every input' (looked for: loops, veiled, ifaces, maps, wideKeys, modest, calm, conditions, laid).
  DERIVED. THE GIVEN ROWS OF THIS SEAT. 5 by the template 'for every input the law returns true; each argument reads behind the call as it read before'; 0 by the template 'total and deterministic' (their statements: YtccdbghhjcdcfaaTotals.lean).
  GIVEN WITH THE SEED: the statements are not yours to turn. If you find one false, say at which input.
  Laid BY PROGRAM, IN A SANDBOX (cutbox-rows.mjs): the forced cells as the released guide's own fill.sh prints them over the translation b453e66ad3c76061… (all of the seat's roots in one cut). By AI agents, Wed Nov 11 2026. No macro, syntax, notation, axiom, sorry.
-/
import Derived.Test.YtccdbghhjcdcfaaChecked
import GoSem.Claim
import GoSem.ClaimJoined
import GoSem.ClaimMapViews
import Derived.JoinedTies
import Derived.KernelRfl
namespace Go.Proofs.Ytccdbghhjcdcfaa
/- THE CELL 'sum', in the pinned program and in every row, IS THE sha256 OF THE DUMP (.gsa) THAT YtccdbghhjcdcfaaProg.lean LOADS. Nothing in Lean hashes anything: it is a label: what it is worth is what the hold of that sum in a sandbox is worth. -/
noncomputable def Try.pinned : Pinned := { name := "ytccdbghhjcdcfaa", sum := "b453e66ad3c7606110fea1825d17bbb3d35fbb32ba777cf45b4c4a34f3e72c27", checked := Try.checked }
namespace Rows
def none {H : Type} : Left H := { results := [], args := [] }

/-- 'blackroomlaw14.PadWrites': WHATEVER THE INPUT: true; the input reads as it did. -/
def padWritesSpec : ChangeSpec := { name := "padWrites", fn := fun _ => fun
  | [d1, d2, d3] => { results := [.lit (.bool true)], args := [d1, d2, d3] }
  | _ => none }
def padWritesRow : OpenClaim := { program := "ytccdbghhjcdcfaa", sum := "b453e66ad3c7606110fea1825d17bbb3d35fbb32ba777cf45b4c4a34f3e72c27", func := "blackroom/blackroomlaw14.PadWrites", spec := "padWrites", apart := false }
def PadWritesSaid : Prop := padWritesRow.holds Try.pinned (OpenSpec.ofChange padWritesSpec)

/-- ITS FALSE NEIGHBOUR: 'it returns false'. Refute it at one input. -/
def padWritesWrong : ChangeSpec := { name := "padWrites", fn := fun _ => fun
  | [d1, d2, d3] => { results := [.lit (.bool false)], args := [d1, d2, d3] }
  | _ => none }
def PadWritesWrongFalsely : Prop := padWritesRow.holds Try.pinned (OpenSpec.ofChange padWritesWrong)

/-- 'blackroomlaw14.PadTells': WHATEVER THE INPUT: true; the input reads as it did. -/
def padTellsSpec : ChangeSpec := { name := "padTells", fn := fun _ => fun
  | [d1, d2, d3, d4, d5, d6] => { results := [.lit (.bool true)], args := [d1, d2, d3, d4, d5, d6] }
  | _ => none }
def padTellsRow : OpenClaim := { program := "ytccdbghhjcdcfaa", sum := "b453e66ad3c7606110fea1825d17bbb3d35fbb32ba777cf45b4c4a34f3e72c27", func := "blackroom/blackroomlaw14.PadTells", spec := "padTells", apart := false }
def PadTellsSaid : Prop := padTellsRow.holds Try.pinned (OpenSpec.ofChange padTellsSpec)

/-- ITS FALSE NEIGHBOUR: 'it returns false'. Refute it at one input. -/
def padTellsWrong : ChangeSpec := { name := "padTells", fn := fun _ => fun
  | [d1, d2, d3, d4, d5, d6] => { results := [.lit (.bool false)], args := [d1, d2, d3, d4, d5, d6] }
  | _ => none }
def PadTellsWrongFalsely : Prop := padTellsRow.holds Try.pinned (OpenSpec.ofChange padTellsWrong)

/-- 'blackroomlaw14.PadUndone': WHATEVER THE INPUT: true; the input reads as it did. -/
def padUndoneSpec : ChangeSpec := { name := "padUndone", fn := fun _ => fun
  | [d1, d2, d3, d4] => { results := [.lit (.bool true)], args := [d1, d2, d3, d4] }
  | _ => none }
def padUndoneRow : OpenClaim := { program := "ytccdbghhjcdcfaa", sum := "b453e66ad3c7606110fea1825d17bbb3d35fbb32ba777cf45b4c4a34f3e72c27", func := "blackroom/blackroomlaw14.PadUndone", spec := "padUndone", apart := false }
def PadUndoneSaid : Prop := padUndoneRow.holds Try.pinned (OpenSpec.ofChange padUndoneSpec)

/-- ITS FALSE NEIGHBOUR: 'it returns false'. Refute it at one input. -/
def padUndoneWrong : ChangeSpec := { name := "padUndone", fn := fun _ => fun
  | [d1, d2, d3, d4] => { results := [.lit (.bool false)], args := [d1, d2, d3, d4] }
  | _ => none }
def PadUndoneWrongFalsely : Prop := padUndoneRow.holds Try.pinned (OpenSpec.ofChange padUndoneWrong)

/-- 'blackroomlaw14.PadPerfect': WHATEVER THE INPUT: true; the input reads as it did. -/
def padPerfectSpec : ChangeSpec := { name := "padPerfect", fn := fun _ => fun
  | [d1, d2] => { results := [.lit (.bool true)], args := [d1, d2] }
  | _ => none }
def padPerfectRow : OpenClaim := { program := "ytccdbghhjcdcfaa", sum := "b453e66ad3c7606110fea1825d17bbb3d35fbb32ba777cf45b4c4a34f3e72c27", func := "blackroom/blackroomlaw14.PadPerfect", spec := "padPerfect", apart := false }
def PadPerfectSaid : Prop := padPerfectRow.holds Try.pinned (OpenSpec.ofChange padPerfectSpec)

/-- ITS FALSE NEIGHBOUR: 'it returns false'. Refute it at one input. -/
def padPerfectWrong : ChangeSpec := { name := "padPerfect", fn := fun _ => fun
  | [d1, d2] => { results := [.lit (.bool false)], args := [d1, d2] }
  | _ => none }
def PadPerfectWrongFalsely : Prop := padPerfectRow.holds Try.pinned (OpenSpec.ofChange padPerfectWrong)

/-- 'blackroomlaw14.PadShares': WHATEVER THE INPUT: true; the input reads as it did. -/
def padSharesSpec : ChangeSpec := { name := "padShares", fn := fun _ => fun
  | [d1, d2, d3, d4] => { results := [.lit (.bool true)], args := [d1, d2, d3, d4] }
  | _ => none }
def padSharesRow : OpenClaim := { program := "ytccdbghhjcdcfaa", sum := "b453e66ad3c7606110fea1825d17bbb3d35fbb32ba777cf45b4c4a34f3e72c27", func := "blackroom/blackroomlaw14.PadShares", spec := "padShares", apart := false }
def PadSharesSaid : Prop := padSharesRow.holds Try.pinned (OpenSpec.ofChange padSharesSpec)

/-- ITS FALSE NEIGHBOUR: 'it returns false'. Refute it at one input. -/
def padSharesWrong : ChangeSpec := { name := "padShares", fn := fun _ => fun
  | [d1, d2, d3, d4] => { results := [.lit (.bool false)], args := [d1, d2, d3, d4] }
  | _ => none }
def PadSharesWrongFalsely : Prop := padSharesRow.holds Try.pinned (OpenSpec.ofChange padSharesWrong)

/- THE SECOND FORM. 'bulk': how many values and letters a reading holds, each counted each time it is reached (what is shared counts as often as it is met; a slice's spare places count too). A statement '..UptoSaid' is the law's where the arguments, and the package variables that the reading takes, are together of bulk at most 1048576: NARROWER than '..Said'. Prove '..Said' where nothing that the law and all that it calls make is longer than what came in: it says more and counts as full. Else prove '..UptoSaid'. A law counts once. -/
mutual
def uptoBulk {H : Type} : DataW H → Nat
  | .lit (.string bytes) => bytes.length + 1
  | .lit _ => 1
  | .nil => 1
  | .ptr d => uptoBulk d + 1
  | .slice elems spare => uptoBulkAll elems + uptoBulkAll spare + 1
  | .agg parts => uptoBulkAll parts + 1
  | .iface _ d => uptoBulk d + 1
  | .map entries => uptoBulkEntries entries + 1
  | .held _ => 1
def uptoBulkAll {H : Type} : List (DataW H) → Nat
  | [] => 0
  | d :: r => uptoBulk d + uptoBulkAll r
def uptoBulkEntries {H : Type} : List (Lit × DataW H) → Nat
  | [] => 0
  | x :: r => uptoBulkEntry x + uptoBulkEntries r
def uptoBulkEntry {H : Type} : Lit × DataW H → Nat
  | (.string bytes, d) => bytes.length + uptoBulk d + 1
  | (_, d) => uptoBulk d + 1
 end
def uptoSmall : (H : Type) → List (DataW H) → Bool := fun _ ds => decide (uptoBulkAll ds ≤ 1048576)
def OpenSpec.upto (s : _root_.Go.ChangeSpec) : _root_.Go.OpenSpec := { _root_.Go.OpenSpec.ofChange s with cond := some uptoSmall }

/-- 'blackroomlaw14.PadWrites', WHERE WHAT IT READS IS OF BULK AT MOST 1048576: true; the input reads as it did. -/
def padWritesUptoRow : OpenClaim := { program := "ytccdbghhjcdcfaa", sum := "b453e66ad3c7606110fea1825d17bbb3d35fbb32ba777cf45b4c4a34f3e72c27", func := "blackroom/blackroomlaw14.PadWrites", spec := "padWrites", apart := false, narrowed := true }
def PadWritesUptoSaid : Prop := padWritesUptoRow.holds Try.pinned (OpenSpec.upto padWritesSpec)

/-- 'blackroomlaw14.PadTells', WHERE WHAT IT READS IS OF BULK AT MOST 1048576: true; the input reads as it did. -/
def padTellsUptoRow : OpenClaim := { program := "ytccdbghhjcdcfaa", sum := "b453e66ad3c7606110fea1825d17bbb3d35fbb32ba777cf45b4c4a34f3e72c27", func := "blackroom/blackroomlaw14.PadTells", spec := "padTells", apart := false, narrowed := true }
def PadTellsUptoSaid : Prop := padTellsUptoRow.holds Try.pinned (OpenSpec.upto padTellsSpec)

/-- 'blackroomlaw14.PadUndone', WHERE WHAT IT READS IS OF BULK AT MOST 1048576: true; the input reads as it did. -/
def padUndoneUptoRow : OpenClaim := { program := "ytccdbghhjcdcfaa", sum := "b453e66ad3c7606110fea1825d17bbb3d35fbb32ba777cf45b4c4a34f3e72c27", func := "blackroom/blackroomlaw14.PadUndone", spec := "padUndone", apart := false, narrowed := true }
def PadUndoneUptoSaid : Prop := padUndoneUptoRow.holds Try.pinned (OpenSpec.upto padUndoneSpec)

/-- 'blackroomlaw14.PadPerfect', WHERE WHAT IT READS IS OF BULK AT MOST 1048576: true; the input reads as it did. -/
def padPerfectUptoRow : OpenClaim := { program := "ytccdbghhjcdcfaa", sum := "b453e66ad3c7606110fea1825d17bbb3d35fbb32ba777cf45b4c4a34f3e72c27", func := "blackroom/blackroomlaw14.PadPerfect", spec := "padPerfect", apart := false, narrowed := true }
def PadPerfectUptoSaid : Prop := padPerfectUptoRow.holds Try.pinned (OpenSpec.upto padPerfectSpec)

/-- 'blackroomlaw14.PadShares', WHERE WHAT IT READS IS OF BULK AT MOST 1048576: true; the input reads as it did. -/
def padSharesUptoRow : OpenClaim := { program := "ytccdbghhjcdcfaa", sum := "b453e66ad3c7606110fea1825d17bbb3d35fbb32ba777cf45b4c4a34f3e72c27", func := "blackroom/blackroomlaw14.PadShares", spec := "padShares", apart := false, narrowed := true }
def PadSharesUptoSaid : Prop := padSharesUptoRow.holds Try.pinned (OpenSpec.upto padSharesSpec)

end Rows
end Go.Proofs.Ytccdbghhjcdcfaa
