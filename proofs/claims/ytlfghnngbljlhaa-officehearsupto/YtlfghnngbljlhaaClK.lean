/-
  Laws of no program, for climbs.
-/
import Derived.Test.YtlfghnngbljlhaaPBuild
import Derived.Test.YtlfghnngbljlhaaRgK
namespace Go.Proofs.Ytlfghnngbljlhaa
open Go.RowKit PK

section
variable {P : Program}
/-- A slice of one that is many cells. -/
theorem run_build1c (w : World) (t e : TypeId) (n : Nat) (hn : n * 2 ≤ 2 ^ 24) (h0 : 0 < n) (hu : P.underlying t = some (.slice e)) (z c : Array Value) (hzs : z.size = n) (hc : c.size = n) (hz : (P.info? e).map (fun i => (i.zero, i.size)) = some (some (.agg z), n)) :
    (Instr.buildSlice t 1 #[(0, .agg c)]).run P w = .ok (.slice (some ⟨w.heap.size, 0, none⟩) 1 1) (w.alloc (.cells c e)) := by
  obtain ⟨hz1, hz2⟩ := zero_of_info hz
  cases hq : P.info? e with
  | none => simp [hq] at hz
  | some i =>
    have hs : i.size = n := by simpa [hq] using hz2
    have hsz : ∀ W, (sizeOf e).run P W = .ok n W := fun W => by simp [sizeOf, typeInfo, hq, hs]
    have hcc : (Value.agg c).cells = c := rfl
    have hfill : Instr.fill (fun i => some (i * n, n)) (tab n fun x => z[x % n]!) [(0, .agg c)] = some c := by
      rw [Instr.fill]
      simp only [hcc, hc, tab_size]
      rw [if_neg (by simp)]
      have hx := foldl_lay n (0 * n) c.toList 0 (fun x => z[x % n]!)
      rw [← Array.foldl_toList, Array.toList_zipIdx, hx]
      show some _ = some c
      congr 1
      apply Array.ext_getElem?
      intro i
      by_cases hi : i < n
      · rw [tab_get _ hi, if_pos (by simp [hc]; omega)]
        simp [List.getD_eq_getElem?_getD, hc, hi]
      · rw [Array.getElem?_eq_none (by rw [tab_size]; omega), Array.getElem?_eq_none (by omega)]
    have h3 : ¬ (n > 2 ^ 24) := by omega
    have h4 : ¬ (n = 0) := by omega
    have hzc : (Value.agg z).cells = z := rfl
    simp only [Instr.buildSlice, Sem.run_bind, run_underlying hu, Result.andThen_ok, hsz, Nat.one_mul, h3, h4, if_false, hz1, Sem.run_pure, hzc, hzs, range_tab, hfill]
    simp [newRow]
theorem wpList_build1c {ops : Array Oper} {rest : List Oper} {op : Oper} {a : Act} {w : World} {Q : Exit → Act → World → Prop} (hgd : op.guard = none) (t e : TypeId) (x : Operand) (ho : op.op = .buildSlice t 1 #[(0, x)])
    (n : Nat) (z c : Array Value) (hx : a.eval x = .agg c) (hn : n * 2 ≤ 2 ^ 24) (h0 : 0 < n) (hu : P.underlying t = some (.slice e)) (hzs : z.size = n) (hc : c.size = n) (hz : (P.info? e).map (fun i => (i.zero, i.size)) = some (some (.agg z), n))
    (h : wpList P ops Q rest (a.put op.dst (.slice (some ⟨w.heap.size, 0, none⟩) 1 1)) (w.alloc (.cells c e))) : wpList P ops Q (op :: rest) a w :=
  wpList_plain hgd fun _ hK => by
    unfold Oper.wp execOp
    have hm : (#[(0, x)] : Array (Nat × Operand)).map (fun (i, x) => (i, a.eval x)) = #[(0, .agg c)] := by simp [hx]
    simp only [ho, Sem.run_bind, hm, run_build1c w t e n hn h0 hu z c hzs hc hz, Result.andThen_ok]
    exact hK _ _ h
end
theorem results_cell1 {P : Program} {fn : Func} {p : Tmp} {ty : TypeId} (h : fn.results = #[.cell p ty]) (tmps : Array Value) (w : World) (g : Nat) (t : TypeId) (cs : Array Value) (fr : Nat × Nat) (d : TypeDesc)
    (hp : tmps.getD p undef = .pointer (some ⟨g, 0, none⟩)) (hg : w.heap[g]? = some (.cells cs t fr))
    (hu : P.underlying ty = some d) (hd : (match d with | .struct _ | .array _ _ => true | _ => false) = true) (hi : (P.info? ty).map (·.size) = some cs.size) :
    (results fn tmps).run P w = .ok (.agg cs) w := by
  have hp' : tmps[p]?.getD undef = .pointer (some ⟨g, 0, none⟩) := by simpa using hp
  simp [results, h, hp', asAddr, run_loadVar_row w g t ty cs fr d hg hu hd hi]
theorem wpList_buildA {P : Program} {ops : Array Oper} {rest : List Oper} {op : Oper} {a : Act} {w : World} {Q : Exit → Act → World → Prop} (hgd : op.guard = none) (t : TypeId) (xs : List (Nat × Operand)) (ho : op.op = .build t xs.toArray) (vs : List (Nat × Value)) (hv : xs.map (fun x => (x.1, a.eval x.2)) = vs)
    (cells : Array Value) (hb : P.built t vs = some cells) (h : wpList P ops Q rest (a.put op.dst (.agg cells)) w) : wpList P ops Q (op :: rest) a w :=
  wpList_plain hgd fun _ hK => by
    unfold Oper.wp execOp
    have hm : xs.toArray.map (fun (i, x) => (i, a.eval x)) = vs.toArray := by rw [← hv]; simp
    simp only [ho, Sem.run_bind, hm, run_build w t vs.toArray cells hb, Result.andThen_ok]
    exact hK _ _ h
end Go.Proofs.Ytlfghnngbljlhaa
