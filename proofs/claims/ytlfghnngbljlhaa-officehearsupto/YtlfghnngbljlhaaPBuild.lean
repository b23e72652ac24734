/-
  Laws of no program: a slice that is built of arrays (what a call with '...' is given).
-/
import Derived.Test.YtlfghnngbljlhaaPKit
namespace Go.Proofs.Ytlfghnngbljlhaa.PK
open Go.RowKit

def lay (n : Nat) (g : Nat → Value) (o : Nat) (f : Nat → Int) : Nat → Value := fun i => if o ≤ i ∧ i < o + n then .int .i64 (f (i - o)) else g i
theorem foldl_lay (N : Nat) (off : Nat) : ∀ (l : List Value) (s : Nat) (g : Nat → Value), (l.zipIdx s).foldl (fun cs x => cs.setIfInBounds (off + x.2) x.1) (tab N g) = tab N fun i => if off + s ≤ i ∧ i < off + s + l.length then l.getD (i - (off + s)) (.bool false) else g i
  | [], s, g => by
    simp only [List.zipIdx_nil, List.foldl_nil, List.length_nil]
    exact tab_ext fun i _ => by rw [if_neg (by omega)]
  | v :: l, s, g => by
    simp only [List.zipIdx_cons, List.foldl_cons]
    rw [tab_set, foldl_lay N off l (s + 1)]
    refine tab_ext fun i _ => ?_
    by_cases h1 : i = off + s
    · subst h1
      rw [if_neg (by omega), if_pos (by simp)]
      simp
    · by_cases h2 : off + s ≤ i ∧ i < off + s + (v :: l).length
      · have h3 : off + (s + 1) ≤ i ∧ i < off + (s + 1) + l.length := by simp at h2; omega
        rw [if_pos h3, if_pos h2]
        obtain ⟨j, hj⟩ : ∃ j, i - (off + s) = j + 1 := ⟨i - (off + s) - 1, by omega⟩
        have hj' : i - (off + (s + 1)) = j := by omega
        rw [hj, hj']
        simp
      · rw [if_neg (by simp at h2; omega), if_neg h2]
        simp [upd, h1]
theorem ints_toList (n : Nat) (f : Nat → Int) : (ints n f).toList = (List.range n).map fun i => .int .i64 (f i) := by simp [ints, tab]
theorem fill_step (n N : Nat) (g : Nat → Value) (k : Nat) (f : Nat → Int) (rest : List (Nat × Value)) (h : k * n + n ≤ N) :
    Instr.fill (fun i => some (i * n, n)) (tab N g) ((k, .agg (ints n f)) :: rest) = Instr.fill (fun i => some (i * n, n)) (tab N (lay n g (k * n) f)) rest := by
  rw [Instr.fill]
  have h0 : (Value.agg (ints n f)).cells = ints n f := rfl
  simp only [h0, ints_size, tab_size]
  rw [if_neg (by simp <;> omega)]
  congr 1
  rw [← Array.foldl_toList, Array.toList_zipIdx]
  have := foldl_lay N (k * n) (ints n f).toList 0 g
  rw [this]
  refine tab_ext fun i _ => ?_
  rw [ints_toList]
  simp only [List.length_map, List.length_range, Nat.add_zero, lay]
  by_cases e : k * n ≤ i ∧ i < k * n + n
  · rw [if_pos e, if_pos e]
    have : i - k * n < n := by omega
    simp [List.getD, this]
  · rw [if_neg e, if_neg e]
theorem range_tab (N : Nat) (h : Nat → Value) : (Array.range N).map h = tab N h := by
  apply Array.ext_getElem?
  intro i
  by_cases h1 : i < N
  · simp [tab, h1]
  · simp [tab, h1]

section
variable {P : Program}
theorem run_build1 (w : World) (t e : TypeId) (n : Nat) (hn : n * 2 ≤ 2 ^ 24) (hu : P.underlying t = some (.slice e)) (hz : (P.info? e).map (fun i => (i.zero, i.size)) = some (some (.agg (ints n fun _ => 0)), n)) (h0 : 0 < n) (f : Nat → Int) :
    (Instr.buildSlice t 1 #[(0, .agg (ints n f))]).run P w = .ok (.slice (some ⟨w.heap.size, 0, none⟩) 1 1) (w.alloc (.cells (ints n f) e)) := by
  obtain ⟨hz1, hz2⟩ := zero_of_info hz
  cases hq : P.info? e with
  | none => simp [hq] at hz
  | some i =>
    have hs : i.size = n := by simpa [hq] using hz2
    have hsz : ∀ W, (sizeOf e).run P W = .ok n W := fun W => by simp [sizeOf, typeInfo, hq, hs]
    have hlay : tab n (lay n (fun x => (ints n fun _ => 0)[x % n]!) (0 * n) f) = ints n f := tab_ext fun i hi => by
      unfold lay
      rw [if_pos (by omega)]
      simp
    have hfill := fill_step n n (fun x => (ints n fun _ => 0)[x % n]!) 0 f [] (by omega)
    rw [hlay] at hfill
    have hfill' := hfill.trans (rfl : _ = some (ints n f))
    have h3 : ¬ (n > 2 ^ 24) := by omega
    have h4 : ¬ (n = 0) := by omega
    have hc : (Value.agg (ints n fun _ => 0)).cells = ints n fun _ => 0 := rfl
    simp only [Instr.buildSlice, Sem.run_bind, run_underlying hu, Result.andThen_ok, hsz, Nat.one_mul, h3, h4, if_false, hz1, Sem.run_pure, hc, ints_size, range_tab, hfill']
    simp [newRow]
theorem run_build2 (w : World) (t e : TypeId) (n : Nat) (hn : n * 2 ≤ 2 ^ 24) (hu : P.underlying t = some (.slice e)) (hz : (P.info? e).map (fun i => (i.zero, i.size)) = some (some (.agg (ints n fun _ => 0)), n)) (h0 : 0 < n) (f g : Nat → Int) :
    (Instr.buildSlice t 2 #[(0, .agg (ints n f)), (1, .agg (ints n g))]).run P w = .ok (.slice (some ⟨w.heap.size, 0, none⟩) 2 2) (w.alloc (.cells (ints (2 * n) fun i => if i < n then f i else g (i - n)) e)) := by
  obtain ⟨hz1, hz2⟩ := zero_of_info hz
  cases hq : P.info? e with
  | none => simp [hq] at hz
  | some i =>
    have hs : i.size = n := by simpa [hq] using hz2
    have hsz : ∀ W, (sizeOf e).run P W = .ok n W := fun W => by simp [sizeOf, typeInfo, hq, hs]
    have hlay : tab (2 * n) (lay n (lay n (fun x => (ints n fun _ => 0)[x % n]!) (0 * n) f) (1 * n) g) = ints (2 * n) fun i => if i < n then f i else g (i - n) := tab_ext fun i hi => by
      unfold lay
      by_cases e : i < n
      · rw [if_neg (by omega), if_pos (by omega)]; simp [e]
      · rw [if_pos (by omega)]; simp [e]
    have hfill := fill_step n (2 * n) (fun x => (ints n fun _ => 0)[x % n]!) 0 f [(1, .agg (ints n g))] (by omega)
    rw [fill_step n (2 * n) _ 1 g [] (by omega), hlay] at hfill
    have hfill' := hfill.trans (rfl : _ = some (ints (2 * n) fun i => if i < n then f i else g (i - n)))
    have h3 : ¬ (2 * n > 2 ^ 24) := by omega
    have h4 : ¬ (2 * n = 0) := by omega
    have hc : (Value.agg (ints n fun _ => 0)).cells = ints n fun _ => 0 := rfl
    simp only [Instr.buildSlice, Sem.run_bind, run_underlying hu, Result.andThen_ok, hsz, h3, h4, if_false, hz1, Sem.run_pure, hc, ints_size, range_tab, hfill']
    simp [newRow]
theorem wpList_build0 {ops : Array Oper} {rest : List Oper} {op : Oper} {a : Act} {w : World} {Q : Exit → Act → World → Prop} (hgd : op.guard = none) (t : TypeId) (ho : op.op = .build t #[])
    (cells : Array Value) (hb : P.built t [] = some cells) (h : wpList P ops Q rest (a.put op.dst (.agg cells)) w) : wpList P ops Q (op :: rest) a w :=
  wpList_plain hgd fun _ hK => by
    unfold Oper.wp execOp
    have hm : (#[] : Array (Nat × Operand)).map (fun (i, x) => (i, a.eval x)) = #[] := by simp
    simp only [ho, Sem.run_bind, hm, run_build w t #[] cells hb, Result.andThen_ok]
    exact hK _ _ h
theorem wpList_build1 {ops : Array Oper} {rest : List Oper} {op : Oper} {a : Act} {w : World} {Q : Exit → Act → World → Prop} (hgd : op.guard = none) (t e : TypeId) (x : Operand) (ho : op.op = .buildSlice t 1 #[(0, x)])
    (n : Nat) (f : Nat → Int) (hx : a.eval x = .agg (ints n f)) (hn : n * 2 ≤ 2 ^ 24) (hu : P.underlying t = some (.slice e)) (hz : (P.info? e).map (fun i => (i.zero, i.size)) = some (some (.agg (ints n fun _ => 0)), n)) (h0 : 0 < n)
    (h : wpList P ops Q rest (a.put op.dst (.slice (some ⟨w.heap.size, 0, none⟩) 1 1)) (w.alloc (.cells (ints n f) e))) : wpList P ops Q (op :: rest) a w :=
  wpList_plain hgd fun _ hK => by
    unfold Oper.wp execOp
    have hm : (#[(0, x)] : Array (Nat × Operand)).map (fun (i, x) => (i, a.eval x)) = #[(0, .agg (ints n f))] := by simp [hx]
    simp only [ho, Sem.run_bind, hm, run_build1 w t e n hn hu hz h0 f, Result.andThen_ok]
    exact hK _ _ h
theorem wpList_build2 {ops : Array Oper} {rest : List Oper} {op : Oper} {a : Act} {w : World} {Q : Exit → Act → World → Prop} (hgd : op.guard = none) (t e : TypeId) (x y : Operand) (ho : op.op = .buildSlice t 2 #[(0, x), (1, y)])
    (n : Nat) (f g : Nat → Int) (hx : a.eval x = .agg (ints n f)) (hy : a.eval y = .agg (ints n g)) (hn : n * 2 ≤ 2 ^ 24) (hu : P.underlying t = some (.slice e)) (hz : (P.info? e).map (fun i => (i.zero, i.size)) = some (some (.agg (ints n fun _ => 0)), n)) (h0 : 0 < n)
    (h : wpList P ops Q rest (a.put op.dst (.slice (some ⟨w.heap.size, 0, none⟩) 2 2)) (w.alloc (.cells (ints (2 * n) fun i => if i < n then f i else g (i - n)) e))) : wpList P ops Q (op :: rest) a w :=
  wpList_plain hgd fun _ hK => by
    unfold Oper.wp execOp
    have hm : (#[(0, x), (1, y)] : Array (Nat × Operand)).map (fun (i, x) => (i, a.eval x)) = #[(0, .agg (ints n f)), (1, .agg (ints n g))] := by simp [hx, hy]
    simp only [ho, Sem.run_bind, hm, run_build2 w t e n hn hu hz h0 f g, Result.andThen_ok]
    exact hK _ _ h
end
theorem results_cell_tmp2 {P : Program} {fn : Func} {p q : Tmp} {ty : TypeId} (h : fn.results = #[.cell p ty, .tmp q]) (tmps : Array Value) (w : World) (g : Nat) (t : TypeId) (cs : Array Value) (fr : Nat × Nat) (d : TypeDesc) (v : Value)
    (hp : tmps.getD p undef = .pointer (some ⟨g, 0, none⟩)) (hv : tmps.getD q undef = v) (hg : w.heap[g]? = some (.cells cs t fr))
    (hu : P.underlying ty = some d) (hd : (match d with | .struct _ | .array _ _ => true | _ => false) = true) (hi : (P.info? ty).map (·.size) = some cs.size) :
    (results fn tmps).run P w = .ok (.tuple #[.agg cs, v]) w := by
  have hp' : tmps[p]?.getD undef = .pointer (some ⟨g, 0, none⟩) := by simpa using hp
  have hv' : tmps[q]?.getD undef = v := by simpa using hv
  simp [results, h, hp', hv', asAddr, run_loadVar_row w g t ty cs fr d hg hu hd hi]
/-- The two arrays, read out of such a block. -/
theorem range_one {w : World} {b : Nat} {T : TypeId} {f : Nat → Int} (h : RowAt w b T (ints 26 f)) : ∀ k, k < 1 → w.rangeAt b (k * 26) (ints 26 f).toList := fun k hk => by
  have : k = 0 := by omega
  subst this
  exact h.range
theorem range_two {w : World} {b : Nat} {T : TypeId} {f g : Nat → Int} (h : RowAt w b T (ints (2 * 26) fun i => if i < 26 then f i else g (i - 26))) : ∀ k, k < 2 → w.rangeAt b (k * 26) (ints 26 (if k = 0 then f else g)).toList := fun k hk j v hv => by
  have hj : j < 26 := by
    have := (List.getElem?_eq_some_iff.1 hv).1
    simpa [ints_size] using this
  have hv' : (ints 26 (if k = 0 then f else g))[j]? = some v := by simpa using hv
  rw [ints_get _ hj] at hv'
  have hc := h.cell (ints_get (n := 2 * 26) (fun i => if i < 26 then f i else g (i - 26)) (i := k * 26 + j) (by omega))
  rw [hc, ← hv']
  rcases (by omega : k = 0 ∨ k = 1) with rfl | rfl
  · simp [hj]
  · simp
    intro h5
    omega
/-- Behind a call that leaves what was there: two boxed arrays, the result's place, the slice that was built. -/
theorem after2 {w W1 : World} {T : TypeId} {f g z c : Nat → Int} {n : Nat} (hb : Below ((((w.alloc (.cells (ints 26 f) T)).alloc (.cells (ints 26 g) T)).alloc (.cells (ints 26 z) T)).alloc (.cells (ints n c) T)).heap.size ((((w.alloc (.cells (ints 26 f) T)).alloc (.cells (ints 26 g) T)).alloc (.cells (ints 26 z) T)).alloc (.cells (ints n c) T)) W1) :
    RowAt W1 w.heap.size T (ints 26 f) ∧ RowAt W1 (w.heap.size + 1) T (ints 26 g) ∧ RowAt W1 (w.heap.size + 1 + 1) T (ints 26 z) ∧ Below w.heap.size w W1 ∧ w.heap.size + 4 ≤ W1.heap.size := by
  have hs := hb.size
  simp at hs
  refine ⟨RowAt.below (((RowAt.new w _ _).alloc _).alloc _ |>.alloc _) hb (by simp <;> omega), RowAt.below ?_ hb (by simp <;> omega), RowAt.below ?_ hb (by simp), ?_, hs⟩
  · have := RowAt.new (w.alloc (.cells (ints 26 f) T)) T (ints 26 g)
    rw [World.size_alloc] at this
    exact (this.alloc _).alloc _
  · have := RowAt.new ((w.alloc (.cells (ints 26 f) T)).alloc (.cells (ints 26 g) T)) T (ints 26 z)
    rw [World.size_alloc, World.size_alloc] at this
    exact this.alloc _
  · exact ((((((Below.refl _ _).alloc (Nat.le_refl _) _).alloc (by simp) _).alloc (by simp <;> omega) _).alloc (by simp <;> omega) _).trans (hb.mono (by simp <;> omega)))
theorem after1 {w W1 : World} {T : TypeId} {f z c : Nat → Int} {n : Nat} (hb : Below (((w.alloc (.cells (ints 26 f) T)).alloc (.cells (ints 26 z) T)).alloc (.cells (ints n c) T)).heap.size (((w.alloc (.cells (ints 26 f) T)).alloc (.cells (ints 26 z) T)).alloc (.cells (ints n c) T)) W1) :
    RowAt W1 w.heap.size T (ints 26 f) ∧ RowAt W1 (w.heap.size + 1) T (ints 26 z) ∧ Below w.heap.size w W1 ∧ w.heap.size + 3 ≤ W1.heap.size := by
  have hs := hb.size
  simp at hs
  refine ⟨RowAt.below (((RowAt.new w _ _).alloc _).alloc _) hb (by simp <;> omega), RowAt.below ?_ hb (by simp), ?_, hs⟩
  · have := RowAt.new (w.alloc (.cells (ints 26 f) T)) T (ints 26 z)
    rw [World.size_alloc] at this
    exact this.alloc _
  · exact (((((Below.refl _ _).alloc (Nat.le_refl _) _).alloc (by simp) _).alloc (by simp <;> omega) _).trans (hb.mono (by simp <;> omega)))
/-- One boxed array alone (no result's place), and the slice that was built. -/
theorem after0 {w W1 : World} {T : TypeId} {f c : Nat → Int} {n : Nat} (hb : Below ((w.alloc (.cells (ints 26 f) T)).alloc (.cells (ints n c) T)).heap.size ((w.alloc (.cells (ints 26 f) T)).alloc (.cells (ints n c) T)) W1) :
    RowAt W1 w.heap.size T (ints 26 f) ∧ Below w.heap.size w W1 ∧ w.heap.size + 2 ≤ W1.heap.size := by
  have hs := hb.size
  simp at hs
  refine ⟨RowAt.below ((RowAt.new w _ _).alloc _) hb (by simp <;> omega), ?_, hs⟩
  exact ((((Below.refl _ _).alloc (Nat.le_refl _) _).alloc (by simp) _).trans (hb.mono (by simp <;> omega)))
theorem setRow_under (w : World) (c0 c : Array Value) (t : TypeId) (o : Obj) : ((w.alloc (.cells c0 t)).alloc o).setRow w.heap.size c = (w.alloc (.cells c t)).alloc o := by
  simp only [World.setRow, World.alloc]
  congr 1
  apply Array.ext_getElem?
  intro i
  rw [Array.getElem?_modify]
  by_cases h : w.heap.size = i
  · subst h
    simp [Array.getElem?_push]
  · have h' : ¬ i = w.heap.size := fun e => h e.symm
    simp [h, h', Array.getElem?_push]
theorem setRow_top (w : World) (X : Obj) (c0 c : Array Value) (t : TypeId) : ((w.alloc X).alloc (.cells c0 t)).setRow (w.heap.size + 1) c = (w.alloc X).alloc (.cells c t) := by
  have := World.setRow_alloc_new (w.alloc X) c0 c t
  rw [World.size_alloc] at this
  exact this
theorem RowAt.newAt {w : World} {b : Nat} {T : TypeId} {c : Array Value} (h : b = w.heap.size) : RowAt (w.alloc (.cells c T)) b T c := by subst h; exact RowAt.new _ _ _
end Go.Proofs.Ytlfghnngbljlhaa.PK
