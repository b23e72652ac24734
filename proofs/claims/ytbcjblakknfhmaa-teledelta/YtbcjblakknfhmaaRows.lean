/-
  No cell of these rows narrows 'for every input' (looked for: loops, veiled, ifaces, maps, wideKeys, modest, calm, conditions, laid).
  DERIVED. THE GIVEN ROWS OF THIS SEAT. 5 by the template 'for every input the law returns true; each argument reads behind the call as it read before'; 0 by the template 'total and deterministic' (their statements: YtbcjblakknfhmaaTotals.lean).
  GIVEN WITH THE SEED: the statements are not yours to turn. If you find one false, say at which input.
  Laid BY PROGRAM, IN A SANDBOX (cutbox-rows.mjs): the forced cells as the released guide's own fill.sh prints them over the translation 1c8abc27356aaebb… (all of the seat's roots in one cut). By AI agents, Wed Nov 11 2026. No macro, syntax, notation, axiom, sorry.
-/
import Derived.Test.YtbcjblakknfhmaaChecked
import GoSem.Claim
import GoSem.ClaimJoined
import GoSem.ClaimMapViews
import Derived.JoinedTies
import Derived.KernelRfl
namespace Go.Proofs.Ytbcjblakknfhmaa
/- THE CELL 'sum', in the pinned program and in every row, IS THE sha256 OF THE DUMP (.gsa) THAT YtbcjblakknfhmaaProg.lean LOADS. Nothing in Lean hashes anything: it is a label: what it is worth is what the hold of that sum in a sandbox is worth. -/
noncomputable def Try.pinned : Pinned := { name := "ytbcjblakknfhmaa", sum := "1c8abc27356aaebb3bddff26c28462aeb80c34fff07808934dd7376f8e9c46af", checked := Try.checked }
namespace Rows
def none {H : Type} : Left H := { results := [], args := [] }

/-- 'blackroomlaw13.TeleWrites': WHATEVER THE INPUT: true; the input reads as it did. -/
def teleWritesSpec : ChangeSpec := { name := "teleWrites", fn := fun _ => fun
  | [d1, d2, d3] => { results := [.lit (.bool true)], args := [d1, d2, d3] }
  | _ => none }
def teleWritesRow : OpenClaim := { program := "ytbcjblakknfhmaa", sum := "1c8abc27356aaebb3bddff26c28462aeb80c34fff07808934dd7376f8e9c46af", func := "blackroom/blackroomlaw13.TeleWrites", spec := "teleWrites", apart := false }
def TeleWritesSaid : Prop := teleWritesRow.holds Try.pinned (OpenSpec.ofChange teleWritesSpec)

/-- ITS FALSE NEIGHBOUR: 'it returns false'. Refute it at one input. -/
def teleWritesWrong : ChangeSpec := { name := "teleWrites", fn := fun _ => fun
  | [d1, d2, d3] => { results := [.lit (.bool false)], args := [d1, d2, d3] }
  | _ => none }
def TeleWritesWrongFalsely : Prop := teleWritesRow.holds Try.pinned (OpenSpec.ofChange teleWritesWrong)

/-- 'blackroomlaw13.TeleFinds': WHATEVER THE INPUT: true; the input reads as it did. -/
def teleFindsSpec : ChangeSpec := { name := "teleFinds", fn := fun _ => fun
  | [d1, d2, d3, d4] => { results := [.lit (.bool true)], args := [d1, d2, d3, d4] }
  | _ => none }
def teleFindsRow : OpenClaim := { program := "ytbcjblakknfhmaa", sum := "1c8abc27356aaebb3bddff26c28462aeb80c34fff07808934dd7376f8e9c46af", func := "blackroom/blackroomlaw13.TeleFinds", spec := "teleFinds", inPlace := ["(*sync.WaitGroup).Add", "internal/race.ReleaseMerge", "internal/race.Disable", "internal/race.Enable", "internal/synctest.IsInBubble", "internal/synctest.Associate[sync.WaitGroup]", "sync.fatal", "sync/atomic.OrUint64", "sync/atomic.AddUint64", "internal/race.Read", "sync/atomic.LoadUint64", "sync/atomic.StoreUint64", "internal/synctest.Disassociate[sync.WaitGroup]", "sync.runtime_Semrelease", "(*sync.WaitGroup).Done", "sync/atomic.AddInt64", "(*sync.WaitGroup).Wait", "internal/race.Acquire", "internal/synctest.IsAssociated[sync.WaitGroup]", "sync/atomic.CompareAndSwapUint64", "internal/race.Write", "sync.runtime_SemacquireWaitGroup"], unfollowed := true, recurses := true, leaving := true, apart := false }
def TeleFindsSaid : Prop := teleFindsRow.holds Try.pinned (OpenSpec.ofChange teleFindsSpec)

/-- ITS FALSE NEIGHBOUR: 'it returns false'. Refute it at one input. -/
def teleFindsWrong : ChangeSpec := { name := "teleFinds", fn := fun _ => fun
  | [d1, d2, d3, d4] => { results := [.lit (.bool false)], args := [d1, d2, d3, d4] }
  | _ => none }
def TeleFindsWrongFalsely : Prop := teleFindsRow.holds Try.pinned (OpenSpec.ofChange teleFindsWrong)

/-- 'blackroomlaw13.TeleUndone': WHATEVER THE INPUT: true; the input reads as it did. -/
def teleUndoneSpec : ChangeSpec := { name := "teleUndone", fn := fun _ => fun
  | [d1, d2, d3] => { results := [.lit (.bool true)], args := [d1, d2, d3] }
  | _ => none }
def teleUndoneRow : OpenClaim := { program := "ytbcjblakknfhmaa", sum := "1c8abc27356aaebb3bddff26c28462aeb80c34fff07808934dd7376f8e9c46af", func := "blackroom/blackroomlaw13.TeleUndone", spec := "teleUndone", apart := false }
def TeleUndoneSaid : Prop := teleUndoneRow.holds Try.pinned (OpenSpec.ofChange teleUndoneSpec)

/-- ITS FALSE NEIGHBOUR: 'it returns false'. Refute it at one input. -/
def teleUndoneWrong : ChangeSpec := { name := "teleUndone", fn := fun _ => fun
  | [d1, d2, d3] => { results := [.lit (.bool false)], args := [d1, d2, d3] }
  | _ => none }
def TeleUndoneWrongFalsely : Prop := teleUndoneRow.holds Try.pinned (OpenSpec.ofChange teleUndoneWrong)

/-- 'blackroomlaw13.TeleDelta': WHATEVER THE INPUT: true; the input reads as it did. -/
def teleDeltaSpec : ChangeSpec := { name := "teleDelta", fn := fun _ => fun
  | [d1, d2] => { results := [.lit (.bool true)], args := [d1, d2] }
  | _ => none }
def teleDeltaRow : OpenClaim := { program := "ytbcjblakknfhmaa", sum := "1c8abc27356aaebb3bddff26c28462aeb80c34fff07808934dd7376f8e9c46af", func := "blackroom/blackroomlaw13.TeleDelta", spec := "teleDelta", apart := false }
def TeleDeltaSaid : Prop := teleDeltaRow.holds Try.pinned (OpenSpec.ofChange teleDeltaSpec)

/-- ITS FALSE NEIGHBOUR: 'it returns false'. Refute it at one input. -/
def teleDeltaWrong : ChangeSpec := { name := "teleDelta", fn := fun _ => fun
  | [d1, d2] => { results := [.lit (.bool false)], args := [d1, d2] }
  | _ => none }
def TeleDeltaWrongFalsely : Prop := teleDeltaRow.holds Try.pinned (OpenSpec.ofChange teleDeltaWrong)

/-- 'blackroomlaw13.TeleBest': WHATEVER THE INPUT: true; the input reads as it did. -/
def teleBestSpec : ChangeSpec := { name := "teleBest", fn := fun _ => fun
  | [d1, d2, d3, d4, d5, d6, d7] => { results := [.lit (.bool true)], args := [d1, d2, d3, d4, d5, d6, d7] }
  | _ => none }
def teleBestRow : OpenClaim := { program := "ytbcjblakknfhmaa", sum := "1c8abc27356aaebb3bddff26c28462aeb80c34fff07808934dd7376f8e9c46af", func := "blackroom/blackroomlaw13.TeleBest", spec := "teleBest", inPlace := ["(*sync.WaitGroup).Add", "internal/race.ReleaseMerge", "internal/race.Disable", "internal/race.Enable", "internal/synctest.IsInBubble", "internal/synctest.Associate[sync.WaitGroup]", "sync.fatal", "sync/atomic.OrUint64", "sync/atomic.AddUint64", "internal/race.Read", "sync/atomic.LoadUint64", "sync/atomic.StoreUint64", "internal/synctest.Disassociate[sync.WaitGroup]", "sync.runtime_Semrelease", "(*sync.WaitGroup).Done", "sync/atomic.AddInt64", "(*sync.WaitGroup).Wait", "internal/race.Acquire", "internal/synctest.IsAssociated[sync.WaitGroup]", "sync/atomic.CompareAndSwapUint64", "internal/race.Write", "sync.runtime_SemacquireWaitGroup"], unfollowed := true, recurses := true, leaving := true, apart := false }
def TeleBestSaid : Prop := teleBestRow.holds Try.pinned (OpenSpec.ofChange teleBestSpec)

/-- ITS FALSE NEIGHBOUR: 'it returns false'. Refute it at one input. -/
def teleBestWrong : ChangeSpec := { name := "teleBest", fn := fun _ => fun
  | [d1, d2, d3, d4, d5, d6, d7] => { results := [.lit (.bool false)], args := [d1, d2, d3, d4, d5, d6, d7] }
  | _ => none }
def TeleBestWrongFalsely : Prop := teleBestRow.holds Try.pinned (OpenSpec.ofChange teleBestWrong)

/- THE SECOND FORM. 'bulk': how many values and letters a reading holds, each counted each time it is reached (what is shared counts as often as it is met; a slice's spare places count too). A statement '..UptoSaid' is the law's where the arguments, and the package variables that the reading takes, are together of bulk at most 1048576: NARROWER than '..Said'. Prove '..Said' where nothing that the law and all that it calls make is longer than what came in: it says more and counts as full. Else prove '..UptoSaid'. A law counts once. -/
mutual
def uptoBulk {H : Type} : DataW H → Nat
  | .lit (.string bytes) => bytes.length + 1
  | .lit _ => 1
  | .nil => 1
  | .ptr d => uptoBulk d + 1
  | .slice elems spare => uptoBulkAll elems + uptoBulkAll spare + 1
  | .agg parts => uptoBulkAll parts + 1
  | .iface _ d => uptoBulk d + 1
  | .map entries => uptoBulkEntries entries + 1
  | .held _ => 1
def uptoBulkAll {H : Type} : List (DataW H) → Nat
  | [] => 0
  | d :: r => uptoBulk d + uptoBulkAll r
def uptoBulkEntries {H : Type} : List (Lit × DataW H) → Nat
  | [] => 0
  | x :: r => uptoBulkEntry x + uptoBulkEntries r
def uptoBulkEntry {H : Type} : Lit × DataW H → Nat
  | (.string bytes, d) => bytes.length + uptoBulk d + 1
  | (_, d) => uptoBulk d + 1
 end
def uptoSmall : (H : Type) → List (DataW H) → Bool := fun _ ds => decide (uptoBulkAll ds ≤ 1048576)
def OpenSpec.upto (s : _root_.Go.ChangeSpec) : _root_.Go.OpenSpec := { _root_.Go.OpenSpec.ofChange s with cond := some uptoSmall }

/-- 'blackroomlaw13.TeleWrites', WHERE WHAT IT READS IS OF BULK AT MOST 1048576: true; the input reads as it did. -/
def teleWritesUptoRow : OpenClaim := { program := "ytbcjblakknfhmaa", sum := "1c8abc27356aaebb3bddff26c28462aeb80c34fff07808934dd7376f8e9c46af", func := "blackroom/blackroomlaw13.TeleWrites", spec := "teleWrites", apart := false, narrowed := true }
def TeleWritesUptoSaid : Prop := teleWritesUptoRow.holds Try.pinned (OpenSpec.upto teleWritesSpec)

/-- 'blackroomlaw13.TeleFinds', WHERE WHAT IT READS IS OF BULK AT MOST 1048576: true; the input reads as it did. -/
def teleFindsUptoRow : OpenClaim := { program := "ytbcjblakknfhmaa", sum := "1c8abc27356aaebb3bddff26c28462aeb80c34fff07808934dd7376f8e9c46af", func := "blackroom/blackroomlaw13.TeleFinds", spec := "teleFinds", inPlace := ["(*sync.WaitGroup).Add", "internal/race.ReleaseMerge", "internal/race.Disable", "internal/race.Enable", "internal/synctest.IsInBubble", "internal/synctest.Associate[sync.WaitGroup]", "sync.fatal", "sync/atomic.OrUint64", "sync/atomic.AddUint64", "internal/race.Read", "sync/atomic.LoadUint64", "sync/atomic.StoreUint64", "internal/synctest.Disassociate[sync.WaitGroup]", "sync.runtime_Semrelease", "(*sync.WaitGroup).Done", "sync/atomic.AddInt64", "(*sync.WaitGroup).Wait", "internal/race.Acquire", "internal/synctest.IsAssociated[sync.WaitGroup]", "sync/atomic.CompareAndSwapUint64", "internal/race.Write", "sync.runtime_SemacquireWaitGroup"], unfollowed := true, recurses := true, leaving := true, apart := false, narrowed := true }
def TeleFindsUptoSaid : Prop := teleFindsUptoRow.holds Try.pinned (OpenSpec.upto teleFindsSpec)

/-- 'blackroomlaw13.TeleUndone', WHERE WHAT IT READS IS OF BULK AT MOST 1048576: true; the input reads as it did. -/
def teleUndoneUptoRow : OpenClaim := { program := "ytbcjblakknfhmaa", sum := "1c8abc27356aaebb3bddff26c28462aeb80c34fff07808934dd7376f8e9c46af", func := "blackroom/blackroomlaw13.TeleUndone", spec := "teleUndone", apart := false, narrowed := true }
def TeleUndoneUptoSaid : Prop := teleUndoneUptoRow.holds Try.pinned (OpenSpec.upto teleUndoneSpec)

/-- 'blackroomlaw13.TeleDelta', WHERE WHAT IT READS IS OF BULK AT MOST 1048576: true; the input reads as it did. -/
def teleDeltaUptoRow : OpenClaim := { program := "ytbcjblakknfhmaa", sum := "1c8abc27356aaebb3bddff26c28462aeb80c34fff07808934dd7376f8e9c46af", func := "blackroom/blackroomlaw13.TeleDelta", spec := "teleDelta", apart := false, narrowed := true }
def TeleDeltaUptoSaid : Prop := teleDeltaUptoRow.holds Try.pinned (OpenSpec.upto teleDeltaSpec)

/-- 'blackroomlaw13.TeleBest', WHERE WHAT IT READS IS OF BULK AT MOST 1048576: true; the input reads as it did. -/
def teleBestUptoRow : OpenClaim := { program := "ytbcjblakknfhmaa", sum := "1c8abc27356aaebb3bddff26c28462aeb80c34fff07808934dd7376f8e9c46af", func := "blackroom/blackroomlaw13.TeleBest", spec := "teleBest", inPlace := ["(*sync.WaitGroup).Add", "internal/race.ReleaseMerge", "internal/race.Disable", "internal/race.Enable", "internal/synctest.IsInBubble", "internal/synctest.Associate[sync.WaitGroup]", "sync.fatal", "sync/atomic.OrUint64", "sync/atomic.AddUint64", "internal/race.Read", "sync/atomic.LoadUint64", "sync/atomic.StoreUint64", "internal/synctest.Disassociate[sync.WaitGroup]", "sync.runtime_Semrelease", "(*sync.WaitGroup).Done", "sync/atomic.AddInt64", "(*sync.WaitGroup).Wait", "internal/race.Acquire", "internal/synctest.IsAssociated[sync.WaitGroup]", "sync/atomic.CompareAndSwapUint64", "internal/race.Write", "sync.runtime_SemacquireWaitGroup"], unfollowed := true, recurses := true, leaving := true, apart := false, narrowed := true }
def TeleBestUptoSaid : Prop := teleBestUptoRow.holds Try.pinned (OpenSpec.upto teleBestSpec)

end Rows
end Go.Proofs.Ytbcjblakknfhmaa
