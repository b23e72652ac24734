/-
  No cell of these rows narrows 'for every input' (looked for: loops, veiled, ifaces, maps, wideKeys, modest, calm, conditions, laid).
  DERIVED. THE GIVEN ROWS OF THIS SEAT. 4 by the template 'for every input the law returns true; each argument reads behind the call as it read before'; 0 by the template 'total and deterministic' (their statements: YtbbpbcmpemmgjaaTotals.lean).
  GIVEN WITH THE SEED: the statements are not yours to turn. If you find one false, say at which input.
  Laid BY PROGRAM, IN A SANDBOX (cutbox-rows.mjs): the forced cells as the released guide's own fill.sh prints them over the translation d4f574750a66b579… (all of the seat's roots in one cut). By AI agents, Wed Nov 11 2026. No macro, syntax, notation, axiom, sorry.
-/
import Derived.Test.YtbbpbcmpemmgjaaChecked
import GoSem.Claim
import GoSem.ClaimJoined
import GoSem.ClaimMapViews
import Derived.JoinedTies
import Derived.KernelRfl
namespace Go.Proofs.Ytbbpbcmpemmgjaa
/- THE CELL 'sum', in the pinned program and in every row, IS THE sha256 OF THE DUMP (.gsa) THAT YtbbpbcmpemmgjaaProg.lean LOADS. Nothing in Lean hashes anything: it is a label: what it is worth is what the hold of that sum in a sandbox is worth. -/
noncomputable def Try.pinned : Pinned := { name := "ytbbpbcmpemmgjaa", sum := "d4f574750a66b57989a513c2fe71d97a4ddca5f9b0f6526a6574115affb1a32e", checked := Try.checked }
namespace Rows
def none {H : Type} : Left H := { results := [], args := [] }

/-- 'blackroomlaw9.ChartFinds': WHATEVER THE INPUT: true; the input reads as it did. -/
def chartFindsSpec : ChangeSpec := { name := "chartFinds", fn := fun _ => fun
  | [d1, d2, d3] => { results := [.lit (.bool true)], args := [d1, d2, d3] }
  | _ => none }
def chartFindsRow : OpenClaim := { program := "ytbbpbcmpemmgjaa", sum := "d4f574750a66b57989a513c2fe71d97a4ddca5f9b0f6526a6574115affb1a32e", func := "blackroom/blackroomlaw9.ChartFinds", spec := "chartFinds", unfollowed := true, recurses := true, leaving := true, apart := false }
def ChartFindsSaid : Prop := chartFindsRow.holds Try.pinned (OpenSpec.ofChange chartFindsSpec)

/-- ITS FALSE NEIGHBOUR: 'it returns false'. Refute it at one input. -/
def chartFindsWrong : ChangeSpec := { name := "chartFinds", fn := fun _ => fun
  | [d1, d2, d3] => { results := [.lit (.bool false)], args := [d1, d2, d3] }
  | _ => none }
def ChartFindsWrongFalsely : Prop := chartFindsRow.holds Try.pinned (OpenSpec.ofChange chartFindsWrong)

/-- 'blackroomlaw9.ChartSearch': WHATEVER THE INPUT: true; the input reads as it did. -/
def chartSearchSpec : ChangeSpec := { name := "chartSearch", fn := fun _ => fun
  | [d1, d2, d3] => { results := [.lit (.bool true)], args := [d1, d2, d3] }
  | _ => none }
def chartSearchRow : OpenClaim := { program := "ytbbpbcmpemmgjaa", sum := "d4f574750a66b57989a513c2fe71d97a4ddca5f9b0f6526a6574115affb1a32e", func := "blackroom/blackroomlaw9.ChartSearch", spec := "chartSearch", unfollowed := true, recurses := true, leaving := true, apart := false }
def ChartSearchSaid : Prop := chartSearchRow.holds Try.pinned (OpenSpec.ofChange chartSearchSpec)

/-- ITS FALSE NEIGHBOUR: 'it returns false'. Refute it at one input. -/
def chartSearchWrong : ChangeSpec := { name := "chartSearch", fn := fun _ => fun
  | [d1, d2, d3] => { results := [.lit (.bool false)], args := [d1, d2, d3] }
  | _ => none }
def ChartSearchWrongFalsely : Prop := chartSearchRow.holds Try.pinned (OpenSpec.ofChange chartSearchWrong)

/-- 'blackroomlaw10.BombeSearches': WHATEVER THE INPUT: true; the input reads as it did. -/
def bombeSearchesSpec : ChangeSpec := { name := "bombeSearches", fn := fun _ => fun
  | [d1, d2, d3, d4] => { results := [.lit (.bool true)], args := [d1, d2, d3, d4] }
  | _ => none }
def bombeSearchesRow : OpenClaim := { program := "ytbbpbcmpemmgjaa", sum := "d4f574750a66b57989a513c2fe71d97a4ddca5f9b0f6526a6574115affb1a32e", func := "blackroom/blackroomlaw10.BombeSearches", spec := "bombeSearches", unfollowed := true, recurses := true, leaving := true, apart := false }
def BombeSearchesSaid : Prop := bombeSearchesRow.holds Try.pinned (OpenSpec.ofChange bombeSearchesSpec)

/-- ITS FALSE NEIGHBOUR: 'it returns false'. Refute it at one input. -/
def bombeSearchesWrong : ChangeSpec := { name := "bombeSearches", fn := fun _ => fun
  | [d1, d2, d3, d4] => { results := [.lit (.bool false)], args := [d1, d2, d3, d4] }
  | _ => none }
def BombeSearchesWrongFalsely : Prop := bombeSearchesRow.holds Try.pinned (OpenSpec.ofChange bombeSearchesWrong)

/-- 'blackroomlaw10.BombeStops': WHATEVER THE INPUT: true; the input reads as it did. -/
def bombeStopsSpec : ChangeSpec := { name := "bombeStops", fn := fun _ => fun
  | [d1, d2, d3, d4] => { results := [.lit (.bool true)], args := [d1, d2, d3, d4] }
  | _ => none }
def bombeStopsRow : OpenClaim := { program := "ytbbpbcmpemmgjaa", sum := "d4f574750a66b57989a513c2fe71d97a4ddca5f9b0f6526a6574115affb1a32e", func := "blackroom/blackroomlaw10.BombeStops", spec := "bombeStops", unfollowed := true, recurses := true, leaving := true, apart := false }
def BombeStopsSaid : Prop := bombeStopsRow.holds Try.pinned (OpenSpec.ofChange bombeStopsSpec)

/-- ITS FALSE NEIGHBOUR: 'it returns false'. Refute it at one input. -/
def bombeStopsWrong : ChangeSpec := { name := "bombeStops", fn := fun _ => fun
  | [d1, d2, d3, d4] => { results := [.lit (.bool false)], args := [d1, d2, d3, d4] }
  | _ => none }
def BombeStopsWrongFalsely : Prop := bombeStopsRow.holds Try.pinned (OpenSpec.ofChange bombeStopsWrong)

/- THE SECOND FORM. 'bulk': how many values and letters a reading holds, each counted each time it is reached (what is shared counts as often as it is met; a slice's spare places count too). A statement '..UptoSaid' is the law's where the arguments, and the package variables that the reading takes, are together of bulk at most 1048576: NARROWER than '..Said'. Prove '..Said' where nothing that the law and all that it calls make is longer than what came in: it says more and counts as full. Else prove '..UptoSaid'. A law counts once. -/
mutual
def uptoBulk {H : Type} : DataW H → Nat
  | .lit (.string bytes) => bytes.length + 1
  | .lit _ => 1
  | .nil => 1
  | .ptr d => uptoBulk d + 1
  | .slice elems spare => uptoBulkAll elems + uptoBulkAll spare + 1
  | .agg parts => uptoBulkAll parts + 1
  | .iface _ d => uptoBulk d + 1
  | .map entries => uptoBulkEntries entries + 1
  | .held _ => 1
def uptoBulkAll {H : Type} : List (DataW H) → Nat
  | [] => 0
  | d :: r => uptoBulk d + uptoBulkAll r
def uptoBulkEntries {H : Type} : List (Lit × DataW H) → Nat
  | [] => 0
  | x :: r => uptoBulkEntry x + uptoBulkEntries r
def uptoBulkEntry {H : Type} : Lit × DataW H → Nat
  | (.string bytes, d) => bytes.length + uptoBulk d + 1
  | (_, d) => uptoBulk d + 1
 end
def uptoSmall : (H : Type) → List (DataW H) → Bool := fun _ ds => decide (uptoBulkAll ds ≤ 1048576)
def OpenSpec.upto (s : _root_.Go.ChangeSpec) : _root_.Go.OpenSpec := { _root_.Go.OpenSpec.ofChange s with cond := some uptoSmall }

/-- 'blackroomlaw9.ChartFinds', WHERE WHAT IT READS IS OF BULK AT MOST 1048576: true; the input reads as it did. -/
def chartFindsUptoRow : OpenClaim := { program := "ytbbpbcmpemmgjaa", sum := "d4f574750a66b57989a513c2fe71d97a4ddca5f9b0f6526a6574115affb1a32e", func := "blackroom/blackroomlaw9.ChartFinds", spec := "chartFinds", unfollowed := true, recurses := true, leaving := true, apart := false, narrowed := true }
def ChartFindsUptoSaid : Prop := chartFindsUptoRow.holds Try.pinned (OpenSpec.upto chartFindsSpec)

/-- 'blackroomlaw9.ChartSearch', WHERE WHAT IT READS IS OF BULK AT MOST 1048576: true; the input reads as it did. -/
def chartSearchUptoRow : OpenClaim := { program := "ytbbpbcmpemmgjaa", sum := "d4f574750a66b57989a513c2fe71d97a4ddca5f9b0f6526a6574115affb1a32e", func := "blackroom/blackroomlaw9.ChartSearch", spec := "chartSearch", unfollowed := true, recurses := true, leaving := true, apart := false, narrowed := true }
def ChartSearchUptoSaid : Prop := chartSearchUptoRow.holds Try.pinned (OpenSpec.upto chartSearchSpec)

/-- 'blackroomlaw10.BombeSearches', WHERE WHAT IT READS IS OF BULK AT MOST 1048576: true; the input reads as it did. -/
def bombeSearchesUptoRow : OpenClaim := { program := "ytbbpbcmpemmgjaa", sum := "d4f574750a66b57989a513c2fe71d97a4ddca5f9b0f6526a6574115affb1a32e", func := "blackroom/blackroomlaw10.BombeSearches", spec := "bombeSearches", unfollowed := true, recurses := true, leaving := true, apart := false, narrowed := true }
def BombeSearchesUptoSaid : Prop := bombeSearchesUptoRow.holds Try.pinned (OpenSpec.upto bombeSearchesSpec)

/-- 'blackroomlaw10.BombeStops', WHERE WHAT IT READS IS OF BULK AT MOST 1048576: true; the input reads as it did. -/
def bombeStopsUptoRow : OpenClaim := { program := "ytbbpbcmpemmgjaa", sum := "d4f574750a66b57989a513c2fe71d97a4ddca5f9b0f6526a6574115affb1a32e", func := "blackroom/blackroomlaw10.BombeStops", spec := "bombeStops", unfollowed := true, recurses := true, leaving := true, apart := false, narrowed := true }
def BombeStopsUptoSaid : Prop := bombeStopsUptoRow.holds Try.pinned (OpenSpec.upto bombeStopsSpec)

end Rows
end Go.Proofs.Ytbbpbcmpemmgjaa
