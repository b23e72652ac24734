/-
  No cell of these rows narrows 'for every input' (looked for: loops, veiled, ifaces, maps, wideKeys, modest, calm, conditions, laid).
  DERIVED. THE GIVEN ROWS OF THIS SEAT. 3 by the template 'for every input the law returns true; each argument reads behind the call as it read before'; 0 by the template 'total and deterministic' (their statements: YtpdjfjmfnmocmafTotals.lean).
  GIVEN WITH THE SEED: the statements are not yours to turn. If you find one false, say at which input.
  Laid BY PROGRAM, IN A SANDBOX (cutbox-rows.mjs): the forced cells as the released guide's own fill.sh prints them over the translation 3a23e21d0fefba46… (all of the seat's roots in one cut). By AI agents, Wed Nov 11 2026. No macro, syntax, notation, axiom, sorry.
-/
import Derived.Test.YtpdjfjmfnmocmafChecked
import GoSem.Claim
import GoSem.ClaimJoined
import GoSem.ClaimMapViews
import Derived.JoinedTies
import Derived.KernelRfl
namespace Go.Proofs.Ytpdjfjmfnmocmaf
/- THE CELL 'sum', in the pinned program and in every row, IS THE sha256 OF THE DUMP (.gsa) THAT YtpdjfjmfnmocmafProg.lean LOADS. Nothing in Lean hashes anything: it is a label: what it is worth is what the hold of that sum in a sandbox is worth. -/
noncomputable def Try.pinned : Pinned := { name := "ytpdjfjmfnmocmaf", sum := "3a23e21d0fefba4633db10cdbe90e09cd23bd21cc65be13e3e0998aa0ff18618", checked := Try.checked }
namespace Rows
def none {H : Type} : Left H := { results := [], args := [] }

/-- 'blackroomlaw8.RotorUndone': WHATEVER THE INPUT: true; the input reads as it did. -/
def rotorUndoneSpec : ChangeSpec := { name := "rotorUndone", fn := fun _ => fun
  | [d1, d2] => { results := [.lit (.bool true)], args := [d1, d2] }
  | _ => none }
def rotorUndoneRow : OpenClaim := { program := "ytpdjfjmfnmocmaf", sum := "3a23e21d0fefba4633db10cdbe90e09cd23bd21cc65be13e3e0998aa0ff18618", func := "blackroom/blackroomlaw8.RotorUndone", spec := "rotorUndone", unfollowed := true, recurses := true, apart := false }
def RotorUndoneSaid : Prop := rotorUndoneRow.holds Try.pinned (OpenSpec.ofChange rotorUndoneSpec)

/-- ITS FALSE NEIGHBOUR: 'it returns false'. Refute it at one input. -/
def rotorUndoneWrong : ChangeSpec := { name := "rotorUndone", fn := fun _ => fun
  | [d1, d2] => { results := [.lit (.bool false)], args := [d1, d2] }
  | _ => none }
def RotorUndoneWrongFalsely : Prop := rotorUndoneRow.holds Try.pinned (OpenSpec.ofChange rotorUndoneWrong)

/-- 'blackroomlaw8.RotorPlugs': WHATEVER THE INPUT: true; the input reads as it did. -/
def rotorPlugsSpec : ChangeSpec := { name := "rotorPlugs", fn := fun _ => fun
  | [d1, d2] => { results := [.lit (.bool true)], args := [d1, d2] }
  | _ => none }
def rotorPlugsRow : OpenClaim := { program := "ytpdjfjmfnmocmaf", sum := "3a23e21d0fefba4633db10cdbe90e09cd23bd21cc65be13e3e0998aa0ff18618", func := "blackroom/blackroomlaw8.RotorPlugs", spec := "rotorPlugs", unfollowed := true, recurses := true, apart := false }
def RotorPlugsSaid : Prop := rotorPlugsRow.holds Try.pinned (OpenSpec.ofChange rotorPlugsSpec)

/-- ITS FALSE NEIGHBOUR: 'it returns false'. Refute it at one input. -/
def rotorPlugsWrong : ChangeSpec := { name := "rotorPlugs", fn := fun _ => fun
  | [d1, d2] => { results := [.lit (.bool false)], args := [d1, d2] }
  | _ => none }
def RotorPlugsWrongFalsely : Prop := rotorPlugsRow.holds Try.pinned (OpenSpec.ofChange rotorPlugsWrong)

/-- 'blackroomlaw8.RotorGoesOn': WHATEVER THE INPUT: true; the input reads as it did. -/
def rotorGoesOnSpec : ChangeSpec := { name := "rotorGoesOn", fn := fun _ => fun
  | [d1, d2, d3, d4] => { results := [.lit (.bool true)], args := [d1, d2, d3, d4] }
  | _ => none }
def rotorGoesOnRow : OpenClaim := { program := "ytpdjfjmfnmocmaf", sum := "3a23e21d0fefba4633db10cdbe90e09cd23bd21cc65be13e3e0998aa0ff18618", func := "blackroom/blackroomlaw8.RotorGoesOn", spec := "rotorGoesOn", unfollowed := true, recurses := true, apart := false }
def RotorGoesOnSaid : Prop := rotorGoesOnRow.holds Try.pinned (OpenSpec.ofChange rotorGoesOnSpec)

/-- ITS FALSE NEIGHBOUR: 'it returns false'. Refute it at one input. -/
def rotorGoesOnWrong : ChangeSpec := { name := "rotorGoesOn", fn := fun _ => fun
  | [d1, d2, d3, d4] => { results := [.lit (.bool false)], args := [d1, d2, d3, d4] }
  | _ => none }
def RotorGoesOnWrongFalsely : Prop := rotorGoesOnRow.holds Try.pinned (OpenSpec.ofChange rotorGoesOnWrong)

/- THE SECOND FORM. 'bulk': how many values and letters a reading holds, each counted each time it is reached (what is shared counts as often as it is met; a slice's spare places count too). A statement '..UptoSaid' is the law's where the arguments, and the package variables that the reading takes, are together of bulk at most 1048576: NARROWER than '..Said'. Prove '..Said' where nothing that the law and all that it calls make is longer than what came in: it says more and counts as full. Else prove '..UptoSaid'. A law counts once. -/
mutual
def uptoBulk {H : Type} : DataW H → Nat
  | .lit (.string bytes) => bytes.length + 1
  | .lit _ => 1
  | .nil => 1
  | .ptr d => uptoBulk d + 1
  | .slice elems spare => uptoBulkAll elems + uptoBulkAll spare + 1
  | .agg parts => uptoBulkAll parts + 1
  | .iface _ d => uptoBulk d + 1
  | .map entries => uptoBulkEntries entries + 1
  | .held _ => 1
def uptoBulkAll {H : Type} : List (DataW H) → Nat
  | [] => 0
  | d :: r => uptoBulk d + uptoBulkAll r
def uptoBulkEntries {H : Type} : List (Lit × DataW H) → Nat
  | [] => 0
  | x :: r => uptoBulkEntry x + uptoBulkEntries r
def uptoBulkEntry {H : Type} : Lit × DataW H → Nat
  | (.string bytes, d) => bytes.length + uptoBulk d + 1
  | (_, d) => uptoBulk d + 1
 end
def uptoSmall : (H : Type) → List (DataW H) → Bool := fun _ ds => decide (uptoBulkAll ds ≤ 1048576)
def OpenSpec.upto (s : _root_.Go.ChangeSpec) : _root_.Go.OpenSpec := { _root_.Go.OpenSpec.ofChange s with cond := some uptoSmall }

/-- 'blackroomlaw8.RotorUndone', WHERE WHAT IT READS IS OF BULK AT MOST 1048576: true; the input reads as it did. -/
def rotorUndoneUptoRow : OpenClaim := { program := "ytpdjfjmfnmocmaf", sum := "3a23e21d0fefba4633db10cdbe90e09cd23bd21cc65be13e3e0998aa0ff18618", func := "blackroom/blackroomlaw8.RotorUndone", spec := "rotorUndone", unfollowed := true, recurses := true, apart := false, narrowed := true }
def RotorUndoneUptoSaid : Prop := rotorUndoneUptoRow.holds Try.pinned (OpenSpec.upto rotorUndoneSpec)

/-- 'blackroomlaw8.RotorPlugs', WHERE WHAT IT READS IS OF BULK AT MOST 1048576: true; the input reads as it did. -/
def rotorPlugsUptoRow : OpenClaim := { program := "ytpdjfjmfnmocmaf", sum := "3a23e21d0fefba4633db10cdbe90e09cd23bd21cc65be13e3e0998aa0ff18618", func := "blackroom/blackroomlaw8.RotorPlugs", spec := "rotorPlugs", unfollowed := true, recurses := true, apart := false, narrowed := true }
def RotorPlugsUptoSaid : Prop := rotorPlugsUptoRow.holds Try.pinned (OpenSpec.upto rotorPlugsSpec)

/-- 'blackroomlaw8.RotorGoesOn', WHERE WHAT IT READS IS OF BULK AT MOST 1048576: true; the input reads as it did. -/
def rotorGoesOnUptoRow : OpenClaim := { program := "ytpdjfjmfnmocmaf", sum := "3a23e21d0fefba4633db10cdbe90e09cd23bd21cc65be13e3e0998aa0ff18618", func := "blackroom/blackroomlaw8.RotorGoesOn", spec := "rotorGoesOn", unfollowed := true, recurses := true, apart := false, narrowed := true }
def RotorGoesOnUptoSaid : Prop := rotorGoesOnUptoRow.holds Try.pinned (OpenSpec.upto rotorGoesOnSpec)

end Rows
end Go.Proofs.Ytpdjfjmfnmocmaf
