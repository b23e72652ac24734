/-
  No cell of these rows narrows 'for every input' (looked for: loops, veiled, ifaces, maps, wideKeys, modest, calm, conditions, laid).
  DERIVED. THE GIVEN ROWS OF THIS SEAT. 3 by the template 'for every input the law returns true; each argument reads behind the call as it read before'; 0 by the template 'total and deterministic' (their statements: YtkangeheamknoaaTotals.lean).
  GIVEN WITH THE SEED: the statements are not yours to turn. If you find one false, say at which input.
  Laid BY PROGRAM, IN A SANDBOX (cutbox-rows.mjs): the forced cells as the released guide's own fill.sh prints them over the translation 5e9ab03e93f6b90e… (all of the seat's roots in one cut). By AI agents, Wed Nov 11 2026. No macro, syntax, notation, axiom, sorry.
-/
import Derived.Test.YtkangeheamknoaaChecked
import GoSem.Claim
import GoSem.ClaimJoined
import GoSem.ClaimMapViews
import Derived.JoinedTies
import Derived.KernelRfl
namespace Go.Proofs.Ytkangeheamknoaa
/- THE CELL 'sum', in the pinned program and in every row, IS THE sha256 OF THE DUMP (.gsa) THAT YtkangeheamknoaaProg.lean LOADS. Nothing in Lean hashes anything: it is a label: what it is worth is what the hold of that sum in a sandbox is worth. -/
noncomputable def Try.pinned : Pinned := { name := "ytkangeheamknoaa", sum := "5e9ab03e93f6b90efc3803ad0ab19df70f2fc897f71ab1b7f343887e1fa59a58", checked := Try.checked }
namespace Rows
def none {H : Type} : Left H := { results := [], args := [] }

/-- 'blackroomlaw12.PinsTell': WHATEVER THE INPUT: true; the input reads as it did. -/
def pinsTellSpec : ChangeSpec := { name := "pinsTell", fn := fun _ => fun
  | [d1, d2, d3] => { results := [.lit (.bool true)], args := [d1, d2, d3] }
  | _ => none }
def pinsTellRow : OpenClaim := { program := "ytkangeheamknoaa", sum := "5e9ab03e93f6b90efc3803ad0ab19df70f2fc897f71ab1b7f343887e1fa59a58", func := "blackroom/blackroomlaw12.PinsTell", spec := "pinsTell", apart := false }
def PinsTellSaid : Prop := pinsTellRow.holds Try.pinned (OpenSpec.ofChange pinsTellSpec)

/-- ITS FALSE NEIGHBOUR: 'it returns false'. Refute it at one input. -/
def pinsTellWrong : ChangeSpec := { name := "pinsTell", fn := fun _ => fun
  | [d1, d2, d3] => { results := [.lit (.bool false)], args := [d1, d2, d3] }
  | _ => none }
def PinsTellWrongFalsely : Prop := pinsTellRow.holds Try.pinned (OpenSpec.ofChange pinsTellWrong)

/-- 'blackroomlaw12.PinsUndone': WHATEVER THE INPUT: true; the input reads as it did. -/
def pinsUndoneSpec : ChangeSpec := { name := "pinsUndone", fn := fun _ => fun
  | [d1, d2, d3] => { results := [.lit (.bool true)], args := [d1, d2, d3] }
  | _ => none }
def pinsUndoneRow : OpenClaim := { program := "ytkangeheamknoaa", sum := "5e9ab03e93f6b90efc3803ad0ab19df70f2fc897f71ab1b7f343887e1fa59a58", func := "blackroom/blackroomlaw12.PinsUndone", spec := "pinsUndone", apart := false }
def PinsUndoneSaid : Prop := pinsUndoneRow.holds Try.pinned (OpenSpec.ofChange pinsUndoneSpec)

/-- ITS FALSE NEIGHBOUR: 'it returns false'. Refute it at one input. -/
def pinsUndoneWrong : ChangeSpec := { name := "pinsUndone", fn := fun _ => fun
  | [d1, d2, d3] => { results := [.lit (.bool false)], args := [d1, d2, d3] }
  | _ => none }
def PinsUndoneWrongFalsely : Prop := pinsUndoneRow.holds Try.pinned (OpenSpec.ofChange pinsUndoneWrong)

/-- 'blackroomlaw12.PinsRound': WHATEVER THE INPUT: true; the input reads as it did. -/
def pinsRoundSpec : ChangeSpec := { name := "pinsRound", fn := fun _ => fun
  | [d1, d2] => { results := [.lit (.bool true)], args := [d1, d2] }
  | _ => none }
def pinsRoundRow : OpenClaim := { program := "ytkangeheamknoaa", sum := "5e9ab03e93f6b90efc3803ad0ab19df70f2fc897f71ab1b7f343887e1fa59a58", func := "blackroom/blackroomlaw12.PinsRound", spec := "pinsRound", apart := false }
def PinsRoundSaid : Prop := pinsRoundRow.holds Try.pinned (OpenSpec.ofChange pinsRoundSpec)

/-- ITS FALSE NEIGHBOUR: 'it returns false'. Refute it at one input. -/
def pinsRoundWrong : ChangeSpec := { name := "pinsRound", fn := fun _ => fun
  | [d1, d2] => { results := [.lit (.bool false)], args := [d1, d2] }
  | _ => none }
def PinsRoundWrongFalsely : Prop := pinsRoundRow.holds Try.pinned (OpenSpec.ofChange pinsRoundWrong)

/- THE SECOND FORM. 'bulk': how many values and letters a reading holds, each counted each time it is reached (what is shared counts as often as it is met; a slice's spare places count too). A statement '..UptoSaid' is the law's where the arguments, and the package variables that the reading takes, are together of bulk at most 1048576: NARROWER than '..Said'. Prove '..Said' where nothing that the law and all that it calls make is longer than what came in: it says more and counts as full. Else prove '..UptoSaid'. A law counts once. -/
mutual
def uptoBulk {H : Type} : DataW H → Nat
  | .lit (.string bytes) => bytes.length + 1
  | .lit _ => 1
  | .nil => 1
  | .ptr d => uptoBulk d + 1
  | .slice elems spare => uptoBulkAll elems + uptoBulkAll spare + 1
  | .agg parts => uptoBulkAll parts + 1
  | .iface _ d => uptoBulk d + 1
  | .map entries => uptoBulkEntries entries + 1
  | .held _ => 1
def uptoBulkAll {H : Type} : List (DataW H) → Nat
  | [] => 0
  | d :: r => uptoBulk d + uptoBulkAll r
def uptoBulkEntries {H : Type} : List (Lit × DataW H) → Nat
  | [] => 0
  | x :: r => uptoBulkEntry x + uptoBulkEntries r
def uptoBulkEntry {H : Type} : Lit × DataW H → Nat
  | (.string bytes, d) => bytes.length + uptoBulk d + 1
  | (_, d) => uptoBulk d + 1
 end
def uptoSmall : (H : Type) → List (DataW H) → Bool := fun _ ds => decide (uptoBulkAll ds ≤ 1048576)
def OpenSpec.upto (s : _root_.Go.ChangeSpec) : _root_.Go.OpenSpec := { _root_.Go.OpenSpec.ofChange s with cond := some uptoSmall }

/-- 'blackroomlaw12.PinsTell', WHERE WHAT IT READS IS OF BULK AT MOST 1048576: true; the input reads as it did. -/
def pinsTellUptoRow : OpenClaim := { program := "ytkangeheamknoaa", sum := "5e9ab03e93f6b90efc3803ad0ab19df70f2fc897f71ab1b7f343887e1fa59a58", func := "blackroom/blackroomlaw12.PinsTell", spec := "pinsTell", apart := false, narrowed := true }
def PinsTellUptoSaid : Prop := pinsTellUptoRow.holds Try.pinned (OpenSpec.upto pinsTellSpec)

/-- 'blackroomlaw12.PinsUndone', WHERE WHAT IT READS IS OF BULK AT MOST 1048576: true; the input reads as it did. -/
def pinsUndoneUptoRow : OpenClaim := { program := "ytkangeheamknoaa", sum := "5e9ab03e93f6b90efc3803ad0ab19df70f2fc897f71ab1b7f343887e1fa59a58", func := "blackroom/blackroomlaw12.PinsUndone", spec := "pinsUndone", apart := false, narrowed := true }
def PinsUndoneUptoSaid : Prop := pinsUndoneUptoRow.holds Try.pinned (OpenSpec.upto pinsUndoneSpec)

/-- 'blackroomlaw12.PinsRound', WHERE WHAT IT READS IS OF BULK AT MOST 1048576: true; the input reads as it did. -/
def pinsRoundUptoRow : OpenClaim := { program := "ytkangeheamknoaa", sum := "5e9ab03e93f6b90efc3803ad0ab19df70f2fc897f71ab1b7f343887e1fa59a58", func := "blackroom/blackroomlaw12.PinsRound", spec := "pinsRound", apart := false, narrowed := true }
def PinsRoundUptoSaid : Prop := pinsRoundUptoRow.holds Try.pinned (OpenSpec.upto pinsRoundSpec)

end Rows
end Go.Proofs.Ytkangeheamknoaa
