/-
  No cell of these rows narrows 'for every input' (looked for: loops, veiled, ifaces, maps, wideKeys, modest, calm, conditions, laid).
  DERIVED. THE GIVEN ROWS OF THIS SEAT. 6 by the template 'for every input the law returns true; each argument reads behind the call as it read before'; 0 by the template 'total and deterministic' (their statements: YtlgijlfojkpeaacTotals.lean).
  GIVEN WITH THE SEED: the statements are not yours to turn. If you find one false, say at which input.
  Laid BY PROGRAM, IN A SANDBOX (cutbox-rows.mjs): the forced cells as the released guide's own fill.sh prints them over the translation 3c582817c4936af4… (all of the seat's roots in one cut). By AI agents, Wed Nov 11 2026. No macro, syntax, notation, axiom, sorry.
-/
import Derived.Test.YtlgijlfojkpeaacChecked
import GoSem.Claim
import GoSem.ClaimJoined
import GoSem.ClaimMapViews
import Derived.JoinedTies
import Derived.KernelRfl
namespace Go.Proofs.Ytlgijlfojkpeaac
/- THE CELL 'sum', in the pinned program and in every row, IS THE sha256 OF THE DUMP (.gsa) THAT YtlgijlfojkpeaacProg.lean LOADS. Nothing in Lean hashes anything: it is a label: what it is worth is what the hold of that sum in a sandbox is worth. -/
noncomputable def Try.pinned : Pinned := { name := "ytlgijlfojkpeaac", sum := "3c582817c4936af479322a8031b4694e9118718744d3714658103b59e85a92d7", checked := Try.checked }
namespace Rows
def none {H : Type} : Left H := { results := [], args := [] }

/-- 'blackroomlaw4.RailsOrder': WHATEVER THE INPUT: true; the input reads as it did. -/
def railsOrderSpec : ChangeSpec := { name := "railsOrder", fn := fun _ => fun
  | [d1, d2, d3, d4, d5] => { results := [.lit (.bool true)], args := [d1, d2, d3, d4, d5] }
  | _ => none }
def railsOrderRow : OpenClaim := { program := "ytlgijlfojkpeaac", sum := "3c582817c4936af479322a8031b4694e9118718744d3714658103b59e85a92d7", func := "blackroom/blackroomlaw4.RailsOrder", spec := "railsOrder", unfollowed := true, recurses := true, apart := false }
def RailsOrderSaid : Prop := railsOrderRow.holds Try.pinned (OpenSpec.ofChange railsOrderSpec)

/-- ITS FALSE NEIGHBOUR: 'it returns false'. Refute it at one input. -/
def railsOrderWrong : ChangeSpec := { name := "railsOrder", fn := fun _ => fun
  | [d1, d2, d3, d4, d5] => { results := [.lit (.bool false)], args := [d1, d2, d3, d4, d5] }
  | _ => none }
def RailsOrderWrongFalsely : Prop := railsOrderRow.holds Try.pinned (OpenSpec.ofChange railsOrderWrong)

/-- 'blackroomlaw4.RailsWrite': WHATEVER THE INPUT: true; the input reads as it did. -/
def railsWriteSpec : ChangeSpec := { name := "railsWrite", fn := fun _ => fun
  | [d1, d2] => { results := [.lit (.bool true)], args := [d1, d2] }
  | _ => none }
def railsWriteRow : OpenClaim := { program := "ytlgijlfojkpeaac", sum := "3c582817c4936af479322a8031b4694e9118718744d3714658103b59e85a92d7", func := "blackroom/blackroomlaw4.RailsWrite", spec := "railsWrite", apart := false }
def RailsWriteSaid : Prop := railsWriteRow.holds Try.pinned (OpenSpec.ofChange railsWriteSpec)

/-- ITS FALSE NEIGHBOUR: 'it returns false'. Refute it at one input. -/
def railsWriteWrong : ChangeSpec := { name := "railsWrite", fn := fun _ => fun
  | [d1, d2] => { results := [.lit (.bool false)], args := [d1, d2] }
  | _ => none }
def RailsWriteWrongFalsely : Prop := railsWriteRow.holds Try.pinned (OpenSpec.ofChange railsWriteWrong)

/-- 'blackroomlaw4.RailsUndone': WHATEVER THE INPUT: true; the input reads as it did. -/
def railsUndoneSpec : ChangeSpec := { name := "railsUndone", fn := fun _ => fun
  | [d1, d2, d3, d4] => { results := [.lit (.bool true)], args := [d1, d2, d3, d4] }
  | _ => none }
def railsUndoneRow : OpenClaim := { program := "ytlgijlfojkpeaac", sum := "3c582817c4936af479322a8031b4694e9118718744d3714658103b59e85a92d7", func := "blackroom/blackroomlaw4.RailsUndone", spec := "railsUndone", unfollowed := true, recurses := true, apart := false }
def RailsUndoneSaid : Prop := railsUndoneRow.holds Try.pinned (OpenSpec.ofChange railsUndoneSpec)

/-- ITS FALSE NEIGHBOUR: 'it returns false'. Refute it at one input. -/
def railsUndoneWrong : ChangeSpec := { name := "railsUndone", fn := fun _ => fun
  | [d1, d2, d3, d4] => { results := [.lit (.bool false)], args := [d1, d2, d3, d4] }
  | _ => none }
def RailsUndoneWrongFalsely : Prop := railsUndoneRow.holds Try.pinned (OpenSpec.ofChange railsUndoneWrong)

/-- 'blackroomlaw4.RailsPeriod': WHATEVER THE INPUT: true; the input reads as it did. -/
def railsPeriodSpec : ChangeSpec := { name := "railsPeriod", fn := fun _ => fun
  | [d] => { results := [.lit (.bool true)], args := [d] }
  | _ => none }
def railsPeriodRow : OpenClaim := { program := "ytlgijlfojkpeaac", sum := "3c582817c4936af479322a8031b4694e9118718744d3714658103b59e85a92d7", func := "blackroom/blackroomlaw4.RailsPeriod", spec := "railsPeriod", unfollowed := true, recurses := true, apart := false }
def RailsPeriodSaid : Prop := railsPeriodRow.holds Try.pinned (OpenSpec.ofChange railsPeriodSpec)

/-- ITS FALSE NEIGHBOUR: 'it returns false'. Refute it at one input. -/
def railsPeriodWrong : ChangeSpec := { name := "railsPeriod", fn := fun _ => fun
  | [d] => { results := [.lit (.bool false)], args := [d] }
  | _ => none }
def RailsPeriodWrongFalsely : Prop := railsPeriodRow.holds Try.pinned (OpenSpec.ofChange railsPeriodWrong)

/-- 'blackroomlaw4.RailsGrille': WHATEVER THE INPUT: true; the input reads as it did. -/
def railsGrilleSpec : ChangeSpec := { name := "railsGrille", fn := fun _ => fun
  | [d1, d2] => { results := [.lit (.bool true)], args := [d1, d2] }
  | _ => none }
def railsGrilleRow : OpenClaim := { program := "ytlgijlfojkpeaac", sum := "3c582817c4936af479322a8031b4694e9118718744d3714658103b59e85a92d7", func := "blackroom/blackroomlaw4.RailsGrille", spec := "railsGrille", unfollowed := true, recurses := true, apart := false }
def RailsGrilleSaid : Prop := railsGrilleRow.holds Try.pinned (OpenSpec.ofChange railsGrilleSpec)

/-- ITS FALSE NEIGHBOUR: 'it returns false'. Refute it at one input. -/
def railsGrilleWrong : ChangeSpec := { name := "railsGrille", fn := fun _ => fun
  | [d1, d2] => { results := [.lit (.bool false)], args := [d1, d2] }
  | _ => none }
def RailsGrilleWrongFalsely : Prop := railsGrilleRow.holds Try.pinned (OpenSpec.ofChange railsGrilleWrong)

/-- 'blackroomlaw5.TableauWrites': WHATEVER THE INPUT: true; the input reads as it did. -/
def tableauWritesSpec : ChangeSpec := { name := "tableauWrites", fn := fun _ => fun
  | [d1, d2, d3, d4, d5] => { results := [.lit (.bool true)], args := [d1, d2, d3, d4, d5] }
  | _ => none }
def tableauWritesRow : OpenClaim := { program := "ytlgijlfojkpeaac", sum := "3c582817c4936af479322a8031b4694e9118718744d3714658103b59e85a92d7", func := "blackroom/blackroomlaw5.TableauWrites", spec := "tableauWrites", unfollowed := true, recurses := true, apart := false }
def TableauWritesSaid : Prop := tableauWritesRow.holds Try.pinned (OpenSpec.ofChange tableauWritesSpec)

/-- ITS FALSE NEIGHBOUR: 'it returns false'. Refute it at one input. -/
def tableauWritesWrong : ChangeSpec := { name := "tableauWrites", fn := fun _ => fun
  | [d1, d2, d3, d4, d5] => { results := [.lit (.bool false)], args := [d1, d2, d3, d4, d5] }
  | _ => none }
def TableauWritesWrongFalsely : Prop := tableauWritesRow.holds Try.pinned (OpenSpec.ofChange tableauWritesWrong)

/- THE SECOND FORM. 'bulk': how many values and letters a reading holds, each counted each time it is reached (what is shared counts as often as it is met; a slice's spare places count too). A statement '..UptoSaid' is the law's where the arguments, and the package variables that the reading takes, are together of bulk at most 1048576: NARROWER than '..Said'. Prove '..Said' where nothing that the law and all that it calls make is longer than what came in: it says more and counts as full. Else prove '..UptoSaid'. A law counts once. -/
mutual
def uptoBulk {H : Type} : DataW H → Nat
  | .lit (.string bytes) => bytes.length + 1
  | .lit _ => 1
  | .nil => 1
  | .ptr d => uptoBulk d + 1
  | .slice elems spare => uptoBulkAll elems + uptoBulkAll spare + 1
  | .agg parts => uptoBulkAll parts + 1
  | .iface _ d => uptoBulk d + 1
  | .map entries => uptoBulkEntries entries + 1
  | .held _ => 1
def uptoBulkAll {H : Type} : List (DataW H) → Nat
  | [] => 0
  | d :: r => uptoBulk d + uptoBulkAll r
def uptoBulkEntries {H : Type} : List (Lit × DataW H) → Nat
  | [] => 0
  | x :: r => uptoBulkEntry x + uptoBulkEntries r
def uptoBulkEntry {H : Type} : Lit × DataW H → Nat
  | (.string bytes, d) => bytes.length + uptoBulk d + 1
  | (_, d) => uptoBulk d + 1
 end
def uptoSmall : (H : Type) → List (DataW H) → Bool := fun _ ds => decide (uptoBulkAll ds ≤ 1048576)
def OpenSpec.upto (s : _root_.Go.ChangeSpec) : _root_.Go.OpenSpec := { _root_.Go.OpenSpec.ofChange s with cond := some uptoSmall }

/-- 'blackroomlaw4.RailsOrder', WHERE WHAT IT READS IS OF BULK AT MOST 1048576: true; the input reads as it did. -/
def railsOrderUptoRow : OpenClaim := { program := "ytlgijlfojkpeaac", sum := "3c582817c4936af479322a8031b4694e9118718744d3714658103b59e85a92d7", func := "blackroom/blackroomlaw4.RailsOrder", spec := "railsOrder", unfollowed := true, recurses := true, apart := false, narrowed := true }
def RailsOrderUptoSaid : Prop := railsOrderUptoRow.holds Try.pinned (OpenSpec.upto railsOrderSpec)

/-- 'blackroomlaw4.RailsWrite', WHERE WHAT IT READS IS OF BULK AT MOST 1048576: true; the input reads as it did. -/
def railsWriteUptoRow : OpenClaim := { program := "ytlgijlfojkpeaac", sum := "3c582817c4936af479322a8031b4694e9118718744d3714658103b59e85a92d7", func := "blackroom/blackroomlaw4.RailsWrite", spec := "railsWrite", apart := false, narrowed := true }
def RailsWriteUptoSaid : Prop := railsWriteUptoRow.holds Try.pinned (OpenSpec.upto railsWriteSpec)

/-- 'blackroomlaw4.RailsUndone', WHERE WHAT IT READS IS OF BULK AT MOST 1048576: true; the input reads as it did. -/
def railsUndoneUptoRow : OpenClaim := { program := "ytlgijlfojkpeaac", sum := "3c582817c4936af479322a8031b4694e9118718744d3714658103b59e85a92d7", func := "blackroom/blackroomlaw4.RailsUndone", spec := "railsUndone", unfollowed := true, recurses := true, apart := false, narrowed := true }
def RailsUndoneUptoSaid : Prop := railsUndoneUptoRow.holds Try.pinned (OpenSpec.upto railsUndoneSpec)

/-- 'blackroomlaw4.RailsPeriod', WHERE WHAT IT READS IS OF BULK AT MOST 1048576: true; the input reads as it did. -/
def railsPeriodUptoRow : OpenClaim := { program := "ytlgijlfojkpeaac", sum := "3c582817c4936af479322a8031b4694e9118718744d3714658103b59e85a92d7", func := "blackroom/blackroomlaw4.RailsPeriod", spec := "railsPeriod", unfollowed := true, recurses := true, apart := false, narrowed := true }
def RailsPeriodUptoSaid : Prop := railsPeriodUptoRow.holds Try.pinned (OpenSpec.upto railsPeriodSpec)

/-- 'blackroomlaw4.RailsGrille', WHERE WHAT IT READS IS OF BULK AT MOST 1048576: true; the input reads as it did. -/
def railsGrilleUptoRow : OpenClaim := { program := "ytlgijlfojkpeaac", sum := "3c582817c4936af479322a8031b4694e9118718744d3714658103b59e85a92d7", func := "blackroom/blackroomlaw4.RailsGrille", spec := "railsGrille", unfollowed := true, recurses := true, apart := false, narrowed := true }
def RailsGrilleUptoSaid : Prop := railsGrilleUptoRow.holds Try.pinned (OpenSpec.upto railsGrilleSpec)

/-- 'blackroomlaw5.TableauWrites', WHERE WHAT IT READS IS OF BULK AT MOST 1048576: true; the input reads as it did. -/
def tableauWritesUptoRow : OpenClaim := { program := "ytlgijlfojkpeaac", sum := "3c582817c4936af479322a8031b4694e9118718744d3714658103b59e85a92d7", func := "blackroom/blackroomlaw5.TableauWrites", spec := "tableauWrites", unfollowed := true, recurses := true, apart := false, narrowed := true }
def TableauWritesUptoSaid : Prop := tableauWritesUptoRow.holds Try.pinned (OpenSpec.upto tableauWritesSpec)

end Rows
end Go.Proofs.Ytlgijlfojkpeaac
