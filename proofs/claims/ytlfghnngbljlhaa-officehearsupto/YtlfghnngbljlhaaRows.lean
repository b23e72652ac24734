/-
  No cell of these rows narrows 'for every input' (looked for: loops, veiled, ifaces, maps, wideKeys, modest, calm, conditions, laid).
  DERIVED. THE GIVEN ROWS OF THIS SEAT. 3 by the template 'for every input the law returns true; each argument reads behind the call as it read before'; 0 by the template 'total and deterministic' (their statements: YtlfghnngbljlhaaTotals.lean).
  GIVEN WITH THE SEED: the statements are not yours to turn. If you find one false, say at which input.
  Laid BY PROGRAM, IN A SANDBOX (cutbox-rows.mjs): the forced cells as the released guide's own fill.sh prints them over the translation 7d8ddb9ac9b10d54… (all of the seat's roots in one cut). By AI agents, Wed Nov 11 2026. No macro, syntax, notation, axiom, sorry.
-/
import Derived.Test.YtlfghnngbljlhaaChecked
import GoSem.Claim
import GoSem.ClaimJoined
import GoSem.ClaimMapViews
import Derived.JoinedTies
import Derived.KernelRfl
namespace Go.Proofs.Ytlfghnngbljlhaa
/- THE CELL 'sum', in the pinned program and in every row, IS THE sha256 OF THE DUMP (.gsa) THAT YtlfghnngbljlhaaProg.lean LOADS. Nothing in Lean hashes anything: it is a label: what it is worth is what the hold of that sum in a sandbox is worth. -/
noncomputable def Try.pinned : Pinned := { name := "ytlfghnngbljlhaa", sum := "7d8ddb9ac9b10d5423bdfc8ac8163af544bef9485bc77d49ee63d18c57258505", checked := Try.checked }
namespace Rows
def none {H : Type} : Left H := { results := [], args := [] }

/-- 'blackroomlaw16.OfficePlays': WHATEVER THE INPUT: true; the input reads as it did. -/
def officePlaysSpec : ChangeSpec := { name := "officePlays", fn := fun _ => fun
  | [d1, d2, d3, d4] => { results := [.lit (.bool true)], args := [d1, d2, d3, d4] }
  | _ => none }
def officePlaysRow : OpenClaim := { program := "ytlfghnngbljlhaa", sum := "7d8ddb9ac9b10d5423bdfc8ac8163af544bef9485bc77d49ee63d18c57258505", func := "blackroom/blackroomlaw16.OfficePlays", spec := "officePlays", unfollowed := true, recurses := true, apart := false }
def OfficePlaysSaid : Prop := officePlaysRow.holds Try.pinned (OpenSpec.ofChange officePlaysSpec)

/-- ITS FALSE NEIGHBOUR: 'it returns false'. Refute it at one input. -/
def officePlaysWrong : ChangeSpec := { name := "officePlays", fn := fun _ => fun
  | [d1, d2, d3, d4] => { results := [.lit (.bool false)], args := [d1, d2, d3, d4] }
  | _ => none }
def OfficePlaysWrongFalsely : Prop := officePlaysRow.holds Try.pinned (OpenSpec.ofChange officePlaysWrong)

/-- 'blackroomlaw16.OfficeOnce': WHATEVER THE INPUT: true; the input reads as it did. -/
def officeOnceSpec : ChangeSpec := { name := "officeOnce", fn := fun _ => fun
  | [d1, d2, d3] => { results := [.lit (.bool true)], args := [d1, d2, d3] }
  | _ => none }
def officeOnceRow : OpenClaim := { program := "ytlfghnngbljlhaa", sum := "7d8ddb9ac9b10d5423bdfc8ac8163af544bef9485bc77d49ee63d18c57258505", func := "blackroom/blackroomlaw16.OfficeOnce", spec := "officeOnce", unfollowed := true, recurses := true, apart := false }
def OfficeOnceSaid : Prop := officeOnceRow.holds Try.pinned (OpenSpec.ofChange officeOnceSpec)

/-- ITS FALSE NEIGHBOUR: 'it returns false'. Refute it at one input. -/
def officeOnceWrong : ChangeSpec := { name := "officeOnce", fn := fun _ => fun
  | [d1, d2, d3] => { results := [.lit (.bool false)], args := [d1, d2, d3] }
  | _ => none }
def OfficeOnceWrongFalsely : Prop := officeOnceRow.holds Try.pinned (OpenSpec.ofChange officeOnceWrong)

/-- 'blackroomlaw16.OfficeHears': WHATEVER THE INPUT: true; the input reads as it did. -/
def officeHearsSpec : ChangeSpec := { name := "officeHears", fn := fun _ => fun
  | [d1, d2, d3, d4] => { results := [.lit (.bool true)], args := [d1, d2, d3, d4] }
  | _ => none }
def officeHearsRow : OpenClaim := { program := "ytlfghnngbljlhaa", sum := "7d8ddb9ac9b10d5423bdfc8ac8163af544bef9485bc77d49ee63d18c57258505", func := "blackroom/blackroomlaw16.OfficeHears", spec := "officeHears", unfollowed := true, recurses := true, apart := false }
def OfficeHearsSaid : Prop := officeHearsRow.holds Try.pinned (OpenSpec.ofChange officeHearsSpec)

/-- ITS FALSE NEIGHBOUR: 'it returns false'. Refute it at one input. -/
def officeHearsWrong : ChangeSpec := { name := "officeHears", fn := fun _ => fun
  | [d1, d2, d3, d4] => { results := [.lit (.bool false)], args := [d1, d2, d3, d4] }
  | _ => none }
def OfficeHearsWrongFalsely : Prop := officeHearsRow.holds Try.pinned (OpenSpec.ofChange officeHearsWrong)

/- THE SECOND FORM. 'bulk': how many values and letters a reading holds, each counted each time it is reached (what is shared counts as often as it is met; a slice's spare places count too). A statement '..UptoSaid' is the law's where the arguments, and the package variables that the reading takes, are together of bulk at most 1048576: NARROWER than '..Said'. Prove '..Said' where nothing that the law and all that it calls make is longer than what came in: it says more and counts as full. Else prove '..UptoSaid'. A law counts once. -/
mutual
def uptoBulk {H : Type} : DataW H → Nat
  | .lit (.string bytes) => bytes.length + 1
  | .lit _ => 1
  | .nil => 1
  | .ptr d => uptoBulk d + 1
  | .slice elems spare => uptoBulkAll elems + uptoBulkAll spare + 1
  | .agg parts => uptoBulkAll parts + 1
  | .iface _ d => uptoBulk d + 1
  | .map entries => uptoBulkEntries entries + 1
  | .held _ => 1
def uptoBulkAll {H : Type} : List (DataW H) → Nat
  | [] => 0
  | d :: r => uptoBulk d + uptoBulkAll r
def uptoBulkEntries {H : Type} : List (Lit × DataW H) → Nat
  | [] => 0
  | x :: r => uptoBulkEntry x + uptoBulkEntries r
def uptoBulkEntry {H : Type} : Lit × DataW H → Nat
  | (.string bytes, d) => bytes.length + uptoBulk d + 1
  | (_, d) => uptoBulk d + 1
 end
def uptoSmall : (H : Type) → List (DataW H) → Bool := fun _ ds => decide (uptoBulkAll ds ≤ 1048576)
def OpenSpec.upto (s : _root_.Go.ChangeSpec) : _root_.Go.OpenSpec := { _root_.Go.OpenSpec.ofChange s with cond := some uptoSmall }

/-- 'blackroomlaw16.OfficePlays', WHERE WHAT IT READS IS OF BULK AT MOST 1048576: true; the input reads as it did. -/
def officePlaysUptoRow : OpenClaim := { program := "ytlfghnngbljlhaa", sum := "7d8ddb9ac9b10d5423bdfc8ac8163af544bef9485bc77d49ee63d18c57258505", func := "blackroom/blackroomlaw16.OfficePlays", spec := "officePlays", unfollowed := true, recurses := true, apart := false, narrowed := true }
def OfficePlaysUptoSaid : Prop := officePlaysUptoRow.holds Try.pinned (OpenSpec.upto officePlaysSpec)

/-- 'blackroomlaw16.OfficeOnce', WHERE WHAT IT READS IS OF BULK AT MOST 1048576: true; the input reads as it did. -/
def officeOnceUptoRow : OpenClaim := { program := "ytlfghnngbljlhaa", sum := "7d8ddb9ac9b10d5423bdfc8ac8163af544bef9485bc77d49ee63d18c57258505", func := "blackroom/blackroomlaw16.OfficeOnce", spec := "officeOnce", unfollowed := true, recurses := true, apart := false, narrowed := true }
def OfficeOnceUptoSaid : Prop := officeOnceUptoRow.holds Try.pinned (OpenSpec.upto officeOnceSpec)

/-- 'blackroomlaw16.OfficeHears', WHERE WHAT IT READS IS OF BULK AT MOST 1048576: true; the input reads as it did. -/
def officeHearsUptoRow : OpenClaim := { program := "ytlfghnngbljlhaa", sum := "7d8ddb9ac9b10d5423bdfc8ac8163af544bef9485bc77d49ee63d18c57258505", func := "blackroom/blackroomlaw16.OfficeHears", spec := "officeHears", unfollowed := true, recurses := true, apart := false, narrowed := true }
def OfficeHearsUptoSaid : Prop := officeHearsUptoRow.holds Try.pinned (OpenSpec.upto officeHearsSpec)

end Rows
end Go.Proofs.Ytlfghnngbljlhaa
