/-
  Several texts, joined: PBuild, OPm, RoKit.
-/
import Derived.Test.YtkohhdkkbaifoaaGreatDoorJn2
import Derived.Test.YtkohhdkkbaifoaaGreatDoorJn5
import Derived.Deep.QuietTactic
import Derived.BigQuiet
import Derived.OrdersHeld
/-
  Laws of no program: a slice that is built of arrays (what a call with '...' is given).
-/
namespace Go.Proofs.YtkohhdkkbaifoaaGreatDoor.PK
open Go.RowKit

def lay (n : Nat) (g : Nat → Value) (o : Nat) (f : Nat → Int) : Nat → Value := fun i => if o ≤ i ∧ i < o + n then .int .i64 (f (i - o)) else g i
theorem foldl_lay (N : Nat) (off : Nat) : ∀ (l : List Value) (s : Nat) (g : Nat → Value), (l.zipIdx s).foldl (fun cs x => cs.setIfInBounds (off + x.2) x.1) (tab N g) = tab N fun i => if off + s ≤ i ∧ i < off + s + l.length then l.getD (i - (off + s)) (.bool false) else g i
  | [], s, g => by
    simp only [List.zipIdx_nil, List.foldl_nil, List.length_nil]
    exact tab_ext fun i _ => by rw [if_neg (by omega)]
  | v :: l, s, g => by
    simp only [List.zipIdx_cons, List.foldl_cons]
    rw [tab_set, foldl_lay N off l (s + 1)]
    refine tab_ext fun i _ => ?_
    by_cases h1 : i = off + s
    · subst h1
      rw [if_neg (by omega), if_pos (by simp)]
      simp
    · by_cases h2 : off + s ≤ i ∧ i < off + s + (v :: l).length
      · have h3 : off + (s + 1) ≤ i ∧ i < off + (s + 1) + l.length := by simp at h2; omega
        rw [if_pos h3, if_pos h2]
        obtain ⟨j, hj⟩ : ∃ j, i - (off + s) = j + 1 := ⟨i - (off + s) - 1, by omega⟩
        have hj' : i - (off + (s + 1)) = j := by omega
        rw [hj, hj']
        simp
      · rw [if_neg (by simp at h2; omega), if_neg h2]
        simp [upd, h1]
theorem ints_toList (n : Nat) (f : Nat → Int) : (ints n f).toList = (List.range n).map fun i => .int .i64 (f i) := by simp [ints, tab]
theorem fill_step (n N : Nat) (g : Nat → Value) (k : Nat) (f : Nat → Int) (rest : List (Nat × Value)) (h : k * n + n ≤ N) :
    Instr.fill (fun i => some (i * n, n)) (tab N g) ((k, .agg (ints n f)) :: rest) = Instr.fill (fun i => some (i * n, n)) (tab N (lay n g (k * n) f)) rest := by
  rw [Instr.fill]
  have h0 : (Value.agg (ints n f)).cells = ints n f := rfl
  simp only [h0, ints_size, tab_size]
  rw [if_neg (by simp <;> omega)]
  congr 1
  rw [← Array.foldl_toList, Array.toList_zipIdx]
  have := foldl_lay N (k * n) (ints n f).toList 0 g
  rw [this]
  refine tab_ext fun i _ => ?_
  rw [ints_toList]
  simp only [List.length_map, List.length_range, Nat.add_zero, lay]
  by_cases e : k * n ≤ i ∧ i < k * n + n
  · rw [if_pos e, if_pos e]
    have : i - k * n < n := by omega
    simp [List.getD, this]
  · rw [if_neg e, if_neg e]
theorem range_tab (N : Nat) (h : Nat → Value) : (Array.range N).map h = tab N h := by
  apply Array.ext_getElem?
  intro i
  by_cases h1 : i < N
  · simp [tab, h1]
  · simp [tab, h1]

section
variable {P : Program}
theorem run_build1 (w : World) (t e : TypeId) (n : Nat) (hn : n * 2 ≤ 2 ^ 24) (hu : P.underlying t = some (.slice e)) (hz : (P.info? e).map (fun i => (i.zero, i.size)) = some (some (.agg (ints n fun _ => 0)), n)) (h0 : 0 < n) (f : Nat → Int) :
    (Instr.buildSlice t 1 #[(0, .agg (ints n f))]).run P w = .ok (.slice (some ⟨w.heap.size, 0, none⟩) 1 1) (w.alloc (.cells (ints n f) e)) := by
  obtain ⟨hz1, hz2⟩ := zero_of_info hz
  cases hq : P.info? e with
  | none => simp [hq] at hz
  | some i =>
    have hs : i.size = n := by simpa [hq] using hz2
    have hsz : ∀ W, (sizeOf e).run P W = .ok n W := fun W => by simp [sizeOf, typeInfo, hq, hs]
    have hlay : tab n (lay n (fun x => (ints n fun _ => 0)[x % n]!) (0 * n) f) = ints n f := tab_ext fun i hi => by
      unfold lay
      rw [if_pos (by omega)]
      simp
    have hfill := fill_step n n (fun x => (ints n fun _ => 0)[x % n]!) 0 f [] (by omega)
    rw [hlay] at hfill
    have hfill' := hfill.trans (rfl : _ = some (ints n f))
    have h3 : ¬ (n > 2 ^ 24) := by omega
    have h4 : ¬ (n = 0) := by omega
    have hc : (Value.agg (ints n fun _ => 0)).cells = ints n fun _ => 0 := rfl
    simp only [Instr.buildSlice, Sem.run_bind, run_underlying hu, Result.andThen_ok, hsz, Nat.one_mul, h3, h4, if_false, hz1, Sem.run_pure, hc, ints_size, range_tab, hfill']
    simp [newRow]
theorem run_build2 (w : World) (t e : TypeId) (n : Nat) (hn : n * 2 ≤ 2 ^ 24) (hu : P.underlying t = some (.slice e)) (hz : (P.info? e).map (fun i => (i.zero, i.size)) = some (some (.agg (ints n fun _ => 0)), n)) (h0 : 0 < n) (f g : Nat → Int) :
    (Instr.buildSlice t 2 #[(0, .agg (ints n f)), (1, .agg (ints n g))]).run P w = .ok (.slice (some ⟨w.heap.size, 0, none⟩) 2 2) (w.alloc (.cells (ints (2 * n) fun i => if i < n then f i else g (i - n)) e)) := by
  obtain ⟨hz1, hz2⟩ := zero_of_info hz
  cases hq : P.info? e with
  | none => simp [hq] at hz
  | some i =>
    have hs : i.size = n := by simpa [hq] using hz2
    have hsz : ∀ W, (sizeOf e).run P W = .ok n W := fun W => by simp [sizeOf, typeInfo, hq, hs]
    have hlay : tab (2 * n) (lay n (lay n (fun x => (ints n fun _ => 0)[x % n]!) (0 * n) f) (1 * n) g) = ints (2 * n) fun i => if i < n then f i else g (i - n) := tab_ext fun i hi => by
      unfold lay
      by_cases e : i < n
      · rw [if_neg (by omega), if_pos (by omega)]; simp [e]
      · rw [if_pos (by omega)]; simp [e]
    have hfill := fill_step n (2 * n) (fun x => (ints n fun _ => 0)[x % n]!) 0 f [(1, .agg (ints n g))] (by omega)
    rw [fill_step n (2 * n) _ 1 g [] (by omega), hlay] at hfill
    have hfill' := hfill.trans (rfl : _ = some (ints (2 * n) fun i => if i < n then f i else g (i - n)))
    have h3 : ¬ (2 * n > 2 ^ 24) := by omega
    have h4 : ¬ (2 * n = 0) := by omega
    have hc : (Value.agg (ints n fun _ => 0)).cells = ints n fun _ => 0 := rfl
    simp only [Instr.buildSlice, Sem.run_bind, run_underlying hu, Result.andThen_ok, hsz, h3, h4, if_false, hz1, Sem.run_pure, hc, ints_size, range_tab, hfill']
    simp [newRow]
theorem wpList_build0 {ops : Array Oper} {rest : List Oper} {op : Oper} {a : Act} {w : World} {Q : Exit → Act → World → Prop} (hgd : op.guard = none) (t : TypeId) (ho : op.op = .build t #[])
    (cells : Array Value) (hb : P.built t [] = some cells) (h : wpList P ops Q rest (a.put op.dst (.agg cells)) w) : wpList P ops Q (op :: rest) a w :=
  wpList_plain hgd fun _ hK => by
    unfold Oper.wp execOp
    have hm : (#[] : Array (Nat × Operand)).map (fun (i, x) => (i, a.eval x)) = #[] := by simp
    simp only [ho, Sem.run_bind, hm, run_build w t #[] cells hb, Result.andThen_ok]
    exact hK _ _ h
theorem wpList_build1 {ops : Array Oper} {rest : List Oper} {op : Oper} {a : Act} {w : World} {Q : Exit → Act → World → Prop} (hgd : op.guard = none) (t e : TypeId) (x : Operand) (ho : op.op = .buildSlice t 1 #[(0, x)])
    (n : Nat) (f : Nat → Int) (hx : a.eval x = .agg (ints n f)) (hn : n * 2 ≤ 2 ^ 24) (hu : P.underlying t = some (.slice e)) (hz : (P.info? e).map (fun i => (i.zero, i.size)) = some (some (.agg (ints n fun _ => 0)), n)) (h0 : 0 < n)
    (h : wpList P ops Q rest (a.put op.dst (.slice (some ⟨w.heap.size, 0, none⟩) 1 1)) (w.alloc (.cells (ints n f) e))) : wpList P ops Q (op :: rest) a w :=
  wpList_plain hgd fun _ hK => by
    unfold Oper.wp execOp
    have hm : (#[(0, x)] : Array (Nat × Operand)).map (fun (i, x) => (i, a.eval x)) = #[(0, .agg (ints n f))] := by simp [hx]
    simp only [ho, Sem.run_bind, hm, run_build1 w t e n hn hu hz h0 f, Result.andThen_ok]
    exact hK _ _ h
theorem wpList_build2 {ops : Array Oper} {rest : List Oper} {op : Oper} {a : Act} {w : World} {Q : Exit → Act → World → Prop} (hgd : op.guard = none) (t e : TypeId) (x y : Operand) (ho : op.op = .buildSlice t 2 #[(0, x), (1, y)])
    (n : Nat) (f g : Nat → Int) (hx : a.eval x = .agg (ints n f)) (hy : a.eval y = .agg (ints n g)) (hn : n * 2 ≤ 2 ^ 24) (hu : P.underlying t = some (.slice e)) (hz : (P.info? e).map (fun i => (i.zero, i.size)) = some (some (.agg (ints n fun _ => 0)), n)) (h0 : 0 < n)
    (h : wpList P ops Q rest (a.put op.dst (.slice (some ⟨w.heap.size, 0, none⟩) 2 2)) (w.alloc (.cells (ints (2 * n) fun i => if i < n then f i else g (i - n)) e))) : wpList P ops Q (op :: rest) a w :=
  wpList_plain hgd fun _ hK => by
    unfold Oper.wp execOp
    have hm : (#[(0, x), (1, y)] : Array (Nat × Operand)).map (fun (i, x) => (i, a.eval x)) = #[(0, .agg (ints n f)), (1, .agg (ints n g))] := by simp [hx, hy]
    simp only [ho, Sem.run_bind, hm, run_build2 w t e n hn hu hz h0 f g, Result.andThen_ok]
    exact hK _ _ h
end
theorem results_cell_tmp2 {P : Program} {fn : Func} {p q : Tmp} {ty : TypeId} (h : fn.results = #[.cell p ty, .tmp q]) (tmps : Array Value) (w : World) (g : Nat) (t : TypeId) (cs : Array Value) (fr : Nat × Nat) (d : TypeDesc) (v : Value)
    (hp : tmps.getD p undef = .pointer (some ⟨g, 0, none⟩)) (hv : tmps.getD q undef = v) (hg : w.heap[g]? = some (.cells cs t fr))
    (hu : P.underlying ty = some d) (hd : (match d with | .struct _ | .array _ _ => true | _ => false) = true) (hi : (P.info? ty).map (·.size) = some cs.size) :
    (results fn tmps).run P w = .ok (.tuple #[.agg cs, v]) w := by
  have hp' : tmps[p]?.getD undef = .pointer (some ⟨g, 0, none⟩) := by simpa using hp
  have hv' : tmps[q]?.getD undef = v := by simpa using hv
  simp [results, h, hp', hv', asAddr, run_loadVar_row w g t ty cs fr d hg hu hd hi]
/-- The two arrays, read out of such a block. -/
theorem range_one {w : World} {b : Nat} {T : TypeId} {f : Nat → Int} (h : RowAt w b T (ints 26 f)) : ∀ k, k < 1 → w.rangeAt b (k * 26) (ints 26 f).toList := fun k hk => by
  have : k = 0 := by omega
  subst this
  exact h.range
theorem range_two {w : World} {b : Nat} {T : TypeId} {f g : Nat → Int} (h : RowAt w b T (ints (2 * 26) fun i => if i < 26 then f i else g (i - 26))) : ∀ k, k < 2 → w.rangeAt b (k * 26) (ints 26 (if k = 0 then f else g)).toList := fun k hk j v hv => by
  have hj : j < 26 := by
    have := (List.getElem?_eq_some_iff.1 hv).1
    simpa [ints_size] using this
  have hv' : (ints 26 (if k = 0 then f else g))[j]? = some v := by simpa using hv
  rw [ints_get _ hj] at hv'
  have hc := h.cell (ints_get (n := 2 * 26) (fun i => if i < 26 then f i else g (i - 26)) (i := k * 26 + j) (by omega))
  rw [hc, ← hv']
  rcases (by omega : k = 0 ∨ k = 1) with rfl | rfl
  · simp [hj]
  · simp
    intro h5
    omega
/-- Behind a call that leaves what was there: two boxed arrays, the result's place, the slice that was built. -/
theorem after2 {w W1 : World} {T : TypeId} {f g z c : Nat → Int} {n : Nat} (hb : Below ((((w.alloc (.cells (ints 26 f) T)).alloc (.cells (ints 26 g) T)).alloc (.cells (ints 26 z) T)).alloc (.cells (ints n c) T)).heap.size ((((w.alloc (.cells (ints 26 f) T)).alloc (.cells (ints 26 g) T)).alloc (.cells (ints 26 z) T)).alloc (.cells (ints n c) T)) W1) :
    RowAt W1 w.heap.size T (ints 26 f) ∧ RowAt W1 (w.heap.size + 1) T (ints 26 g) ∧ RowAt W1 (w.heap.size + 1 + 1) T (ints 26 z) ∧ Below w.heap.size w W1 ∧ w.heap.size + 4 ≤ W1.heap.size := by
  have hs := hb.size
  simp at hs
  refine ⟨RowAt.below (((RowAt.new w _ _).alloc _).alloc _ |>.alloc _) hb (by simp <;> omega), RowAt.below ?_ hb (by simp <;> omega), RowAt.below ?_ hb (by simp), ?_, hs⟩
  · have := RowAt.new (w.alloc (.cells (ints 26 f) T)) T (ints 26 g)
    rw [World.size_alloc] at this
    exact (this.alloc _).alloc _
  · have := RowAt.new ((w.alloc (.cells (ints 26 f) T)).alloc (.cells (ints 26 g) T)) T (ints 26 z)
    rw [World.size_alloc, World.size_alloc] at this
    exact this.alloc _
  · exact ((((((Below.refl _ _).alloc (Nat.le_refl _) _).alloc (by simp) _).alloc (by simp <;> omega) _).alloc (by simp <;> omega) _).trans (hb.mono (by simp <;> omega)))
theorem after1 {w W1 : World} {T : TypeId} {f z c : Nat → Int} {n : Nat} (hb : Below (((w.alloc (.cells (ints 26 f) T)).alloc (.cells (ints 26 z) T)).alloc (.cells (ints n c) T)).heap.size (((w.alloc (.cells (ints 26 f) T)).alloc (.cells (ints 26 z) T)).alloc (.cells (ints n c) T)) W1) :
    RowAt W1 w.heap.size T (ints 26 f) ∧ RowAt W1 (w.heap.size + 1) T (ints 26 z) ∧ Below w.heap.size w W1 ∧ w.heap.size + 3 ≤ W1.heap.size := by
  have hs := hb.size
  simp at hs
  refine ⟨RowAt.below (((RowAt.new w _ _).alloc _).alloc _) hb (by simp <;> omega), RowAt.below ?_ hb (by simp), ?_, hs⟩
  · have := RowAt.new (w.alloc (.cells (ints 26 f) T)) T (ints 26 z)
    rw [World.size_alloc] at this
    exact this.alloc _
  · exact (((((Below.refl _ _).alloc (Nat.le_refl _) _).alloc (by simp) _).alloc (by simp <;> omega) _).trans (hb.mono (by simp <;> omega)))
theorem RowAt.newAt {w : World} {b : Nat} {T : TypeId} {c : Array Value} (h : b = w.heap.size) : RowAt (w.alloc (.cells c T)) b T c := by subst h; exact RowAt.new _ _ _
end Go.Proofs.YtkohhdkkbaifoaaGreatDoor.PK

/-
  The document's Wrong and Back of chapter 2.
-/
namespace Go.Proofs.YtkohhdkkbaifoaaGreatDoor
open Go.RowKit PK

theorem built_perm : Tryz.prog.built 27 [] = some (ints 26 fun _ => 0) := by kernel_rfl
section
variable {ops : Array Oper} {rest : List Oper} {op : Oper} {a : Act} {w : World} {Q : Exit → Act → World → Prop}
end
end Go.Proofs.YtkohhdkkbaifoaaGreatDoor

/-
  A machine at work: its cells; the way back through its wheels.
-/
namespace Go.Proofs.YtkohhdkkbaifoaaGreatDoor
open Go.RowKit PK

namespace Om
open Pm
/-- Back through the first k wheels from the first one on. -/
def bk (M : Ma) (at' : Nat → Nat) : Nat → Nat → Nat
  | 0, c => c
  | k + 1, c => wheel (inv (M.wi k)) (by' M at' k) (bk M at' k c)
theorem wheel_lt (p : Nat → Nat) (b c : Nat) : wheel p b c < 26 := Nat.mod_lt _ (by decide)
theorem bk_lt {M : Ma} (at' : Nat → Nat) {c : Nat} (hc : c < 26) : ∀ k, bk M at' k c < 26
  | 0 => hc
  | _ + 1 => wheel_lt _ _ _
theorem through_lt {M : Ma} (at' : Nat → Nat) {c : Nat} (hc : c < 26) : ∀ k, through M at' k c < 26
  | 0 => hc
  | _ + 1 => wheel_lt _ _ _
theorem wheel_inv {p : Nat → Nat} (hp : IsPerm p) {b c : Nat} (hb : b < 26) (hc : c < 26) : wheel p b (wheel (inv p) b c) = c := by
  have h1 := hp.inv_spec ((c + b) % 26) (Nat.mod_lt _ (by decide))
  unfold wheel
  have e : ((inv p ((c + b) % 26) + 26 - b) % 26 + b) % 26 = inv p ((c + b) % 26) := by
    have := h1.1
    omega
  rw [e, h1.2]
  omega
theorem through_bk {M : Ma} (h : Ok M) (at' : Nat → Nat) {c : Nat} (hc : c < 26) : ∀ k, k ≤ M.n → through M at' k (bk M at' M.n c) = bk M at' (M.n - k) c
  | 0, _ => rfl
  | k + 1, hk => by
    show wheel (M.wi (M.n - 1 - k)) (by' M at' (M.n - 1 - k)) (through M at' k (bk M at' M.n c)) = _
    rw [through_bk h at' hc k (by omega), show M.n - k = (M.n - 1 - k) + 1 by omega, show M.n - (k + 1) = M.n - 1 - k by omega]
    exact wheel_inv (h.wi _ (by omega)) (by_lt _ _ _) (bk_lt at' hc _)
theorem now_eq {M : Ma} (h : Ok M) (at' : Nat → Nat) {c : Nat} (hc : c < 26) : now M at' c = M.pl (bk M at' M.n (M.rf (through M at' M.n (M.pl c)))) := by
  have hp := there_perm h at'
  have h1 : there M at' c < 26 := hp.1 c hc
  have h2 := h.rf.1 _ h1
  have h3 := bk_lt (M := M) at' h2 M.n
  unfold now
  refine inv_unique hp (h.pl.1 _ h3) ?_
  show through M at' M.n (M.pl (M.pl (bk M at' M.n (M.rf (there M at' c))))) = M.rf (there M at' c)
  rw [h.pl2 _ h3, through_bk h at' h2 M.n (Nat.le_refl _), Nat.sub_self]
  rfl
/-- Windows on the way: those from k on have turned. -/
def mid (M : Ma) (at' : Nat → Nat) (k : Nat) : Nat → Nat := fun i => if k ≤ i then step M at' i else at' i
theorem mid_now (M : Ma) (at' : Nat → Nat) {k i : Nat} (h : i < k) : mid M at' k i = at' i := if_neg (by omega)
theorem mid_turn {M : Ma} {at' : Nat → Nat} {k : Nat} (h : turns M at' k = true) : upd (mid M at' (k + 1)) k ((at' k + 1) % 26) = mid M at' k := by
  funext i
  unfold upd mid
  by_cases e : i = k
  · subst e
    rw [if_pos rfl, if_pos (Nat.le_refl _)]
    unfold step
    rw [if_pos h]
  · rw [if_neg e]
    by_cases e2 : k ≤ i
    · rw [if_pos e2, if_pos (by omega)]
    · rw [if_neg e2, if_neg (by omega)]
theorem mid_stay {M : Ma} {at' : Nat → Nat} {k : Nat} (h : turns M at' k = false) : mid M at' (k + 1) = mid M at' k := by
  funext i
  unfold mid
  by_cases e : i = k
  · subst e
    rw [if_neg (by omega), if_pos (Nat.le_refl _)]
    unfold step
    rw [h]
    rfl
  · by_cases e2 : k ≤ i
    · rw [if_pos e2, if_pos (by omega)]
    · rw [if_neg e2, if_neg (by omega)]
theorem mid_all (M : Ma) (at' : Nat → Nat) : mid M at' 0 = step M at' := by
  funext i
  unfold mid
  rw [if_pos (Nat.zero_le _)]
/-- What is carried to wheel k. -/
def car (M : Ma) (at' : Nat → Nat) (k : Nat) : Bool := k == M.n || (M.no k).contains (at' k)
theorem turns_car (M : Ma) (at' : Nat → Nat) (k : Nat) : turns M at' k = (car M at' (k + 1) || (decide (0 < k) && (M.no k).contains (at' k))) := rfl
theorem car_top (M : Ma) (at' : Nat → Nat) : car M at' M.n = true := by simp [car]
theorem car_in {M : Ma} (at' : Nat → Nat) {k : Nat} (h : k < M.n) : car M at' k = (M.no k).contains (at' k) := by
  unfold car
  rw [show (k == M.n) = false from beq_false_of_ne (by omega)]
  rfl
end Om

/-- The cells of a wheel that turns. -/
def wcl (p b : Nat → Nat) (no : Nat → Bool) (ri at' : Nat) (r : Nat) : Value :=
  if r < 26 then .int .i64 (p r : Nat) else if r < 52 then .int .i64 (b (r - 26) : Nat) else if r < 78 then .bool (no (r - 52)) else if r = 78 then .int .i64 (ri : Nat) else .int .i64 (at' : Nat)
def wlA (p b : Nat → Nat) (no : Nat → Bool) (ri at' : Nat) : Array Value := tab 80 (wcl p b no ri at')
theorem wlA_size (p b : Nat → Nat) (no : Nat → Bool) (ri at' : Nat) : (wlA p b no ri at').size = 80 := tab_size _ _
theorem wlA_one (p b : Nat → Nat) (no : Nat → Bool) (ri at' : Nat) : (wlA p b no ri at').all (·.oneCell') = true := by
  rw [Array.all_eq_true_iff_forall_mem]
  intro v hv
  simp [wlA, tab] at hv
  obtain ⟨i, _, rfl⟩ := hv
  unfold wcl
  split
  · rfl
  split
  · rfl
  split
  · rfl
  split <;> rfl
theorem wlA_no (p b : Nat → Nat) (no : Nat → Bool) (ri at' : Nat) {k : Nat} (hk : k < 26) : (wlA p b no ri at').setIfInBounds (52 + k) (.bool true) = wlA p b (upd no k true) ri at' := by
  unfold wlA
  rw [tab_set]
  refine tab_ext fun i hi => ?_
  by_cases e : i = 52 + k
  · subst e
    rw [upd_same]
    unfold wcl
    rw [if_neg (by omega), if_neg (by omega), if_pos (by omega), show 52 + k - 52 = k by omega, upd_same]
  · rw [upd_other _ _ e]
    unfold wcl
    by_cases h : 52 ≤ i ∧ i < 78
    · rw [if_neg (by omega), if_neg (by omega), if_pos h.2, if_neg (by omega), if_neg (by omega), if_pos h.2, upd_other _ _ (by omega)]
    · split
      · rfl
      split
      · rfl
      have h78 : ¬ i < 78 := by omega
      rw [if_neg h78, if_neg h78]
/-- The cells of a machine at work, m wheels of which are laid. -/
def rotC (M : Om.Ma) (at' : Nat → Nat) (m : Nat) (i : Nat) : Value :=
  if i < 320 then (if i / 80 < m then wcl (M.wi (i / 80)) (Pm.inv (M.wi (i / 80))) (fun c => (M.no (i / 80)).contains c) (M.ri (i / 80)) (at' (i / 80)) (i % 80) else wcl (fun _ => 0) (fun _ => 0) (fun _ => false) 0 0 (i % 80))
  else if i = 320 then .int .i64 (M.n : Nat) else if i < 347 then .int .i64 (M.rf (i - 321) : Nat) else .int .i64 (M.pl (i - 347) : Nat)
def rotA (M : Om.Ma) (at' : Nat → Nat) (m : Nat) : Array Value := tab 373 (rotC M at' m)
theorem rotA_size (M : Om.Ma) (at' : Nat → Nat) (m : Nat) : (rotA M at' m).size = 373 := tab_size _ _
section
variable {M : Om.Ma} {at' : Nat → Nat} {m : Nat}
theorem rot_wheel {q r : Nat} (hq : q < m) (hm : m ≤ 4) (hr : r < 80) : (rotA M at' m)[q * 80 + r]? = some (wcl (M.wi q) (Pm.inv (M.wi q)) (fun c => (M.no q).contains c) (M.ri q) (at' q) r) := by
  unfold rotA
  rw [tab_get _ (by omega)]
  unfold rotC
  rw [if_pos (by omega), show (q * 80 + r) / 80 = q by omega, show (q * 80 + r) % 80 = r by omega, if_pos hq]
theorem rot_there {q c : Nat} (hq : q < m) (hm : m ≤ 4) (hc : c < 26) : (rotA M at' m)[q * 80 + c]? = some (.int .i64 (M.wi q c : Nat)) := by
  rw [rot_wheel hq hm (by omega)]; unfold wcl; rw [if_pos hc]
theorem rot_back {q c : Nat} (hq : q < m) (hm : m ≤ 4) (hc : c < 26) : (rotA M at' m)[q * 80 + 26 + c]? = some (.int .i64 (Pm.inv (M.wi q) c : Nat)) := by
  rw [Nat.add_assoc, rot_wheel hq hm (by omega)]; unfold wcl; rw [if_neg (by omega), if_pos (by omega), show 26 + c - 26 = c by omega]
theorem rot_no {q c : Nat} (hq : q < m) (hm : m ≤ 4) (hc : c < 26) : (rotA M at' m)[q * 80 + 52 + c]? = some (.bool ((M.no q).contains c)) := by
  rw [Nat.add_assoc, rot_wheel hq hm (by omega)]; unfold wcl; rw [if_neg (by omega), if_neg (by omega), if_pos (by omega), show 52 + c - 52 = c by omega]
theorem rot_ri {q : Nat} (hq : q < m) (hm : m ≤ 4) : (rotA M at' m)[q * 80 + 78]? = some (.int .i64 (M.ri q : Nat)) := by
  rw [rot_wheel hq hm (by omega)]; unfold wcl; rw [if_neg (by omega), if_neg (by omega), if_neg (by omega), if_pos rfl]
theorem rot_at {q : Nat} (hq : q < m) (hm : m ≤ 4) : (rotA M at' m)[q * 80 + 79]? = some (.int .i64 (at' q : Nat)) := by
  rw [rot_wheel hq hm (by omega)]; unfold wcl; rw [if_neg (by omega), if_neg (by omega), if_neg (by omega), if_neg (by omega)]
theorem rot_n : (rotA M at' m)[320]? = some (.int .i64 (M.n : Nat)) := by
  unfold rotA
  rw [tab_get _ (by omega)]
  unfold rotC
  rw [if_neg (by omega), if_pos rfl]
theorem rot_rf {c : Nat} (hc : c < 26) : (rotA M at' m)[321 + c]? = some (.int .i64 (M.rf c : Nat)) := by
  unfold rotA
  rw [tab_get _ (by omega)]
  unfold rotC
  rw [if_neg (by omega), if_neg (by omega), if_pos (by omega), show 321 + c - 321 = c by omega]
theorem rot_pl {c : Nat} (hc : c < 26) : (rotA M at' m)[347 + c]? = some (.int .i64 (M.pl c : Nat)) := by
  unfold rotA
  rw [tab_get _ (by omega)]
  unfold rotC
  rw [if_neg (by omega), if_neg (by omega), if_neg (by omega), show 347 + c - 347 = c by omega]
theorem rot_set {q : Nat} (hq : q < m) (v : Nat) : (rotA M at' m).setIfInBounds (q * 80 + 79) (.int .i64 (v : Nat)) = rotA M (upd at' q v) m := by
  unfold rotA
  rw [tab_set]
  refine tab_ext fun i hi => ?_
  by_cases e : i = q * 80 + 79
  · subst e
    rw [upd_same]
    unfold rotC
    rw [if_pos (by omega), show (q * 80 + 79) / 80 = q by omega, show (q * 80 + 79) % 80 = 79 by omega, if_pos hq]
    unfold wcl
    rw [if_neg (by omega), if_neg (by omega), if_neg (by omega), if_neg (by omega), upd_same]
  · rw [upd_other _ _ e]
    unfold rotC
    by_cases h1 : i < 320
    · rw [if_pos h1, if_pos h1]
      by_cases h2 : i / 80 < m
      · rw [if_pos h2, if_pos h2]
        by_cases h3 : i / 80 = q
        · have h4 : i % 80 ≠ 79 := by omega
          have h5 : i % 80 < 79 := by omega
          generalize i % 80 = r at h4 h5
          unfold wcl
          split
          · rfl
          split
          · rfl
          split
          · rfl
          rw [if_pos (by omega), if_pos (by omega)]
        · rw [upd_other _ _ h3]
      · rw [if_neg h2, if_neg h2]
    · rw [if_neg h1, if_neg h1]
end
/-- A machine at work lies in block b. -/
structure RotAt (W : World) (b : Nat) (M : Om.Ma) (at' : Nat → Nat) : Prop where
  row : RowAt W b 191 (rotA M at' M.n)
  ok : Om.Ok M
  ins : Om.In26 M at'
section
variable {w W : World} {b : Nat} {M : Om.Ma} {at' : Nat → Nat}
theorem RotAt.below (h : RotAt w b M at') (hb : Below w.heap.size w W) : RotAt W b M at' := ⟨h.row.below hb h.row.lt, h.ok, h.ins⟩
theorem RotAt.alloc (h : RotAt w b M at') (o : Obj) : RotAt (w.alloc o) b M at' := ⟨h.row.alloc o, h.ok, h.ins⟩
theorem RotAt.drew (h : RotAt w b M at') : RotAt w.drew b M at' := ⟨h.row, h.ok, h.ins⟩
theorem RotAt.there (h : RotAt w b M at') {q c : Nat} (hq : q < M.n) (hc : c < 26) : w.cell? ⟨b, q * 80 + c, none⟩ = some (.int .i64 (M.wi q c : Nat)) := h.row.cell (rot_there hq h.ok.most hc)
theorem RotAt.back (h : RotAt w b M at') {q c : Nat} (hq : q < M.n) (hc : c < 26) : w.cell? ⟨b, q * 80 + 26 + c, none⟩ = some (.int .i64 (Pm.inv (M.wi q) c : Nat)) := h.row.cell (rot_back hq h.ok.most hc)
theorem RotAt.no (h : RotAt w b M at') {q c : Nat} (hq : q < M.n) (hc : c < 26) : w.cell? ⟨b, q * 80 + 52 + c, none⟩ = some (.bool ((M.no q).contains c)) := h.row.cell (rot_no hq h.ok.most hc)
theorem RotAt.ring (h : RotAt w b M at') {q : Nat} (hq : q < M.n) : w.cell? ⟨b, q * 80 + 78, none⟩ = some (.int .i64 (M.ri q : Nat)) := h.row.cell (rot_ri hq h.ok.most)
theorem RotAt.window (h : RotAt w b M at') {q : Nat} (hq : q < M.n) : w.cell? ⟨b, q * 80 + 79, none⟩ = some (.int .i64 (at' q : Nat)) := h.row.cell (rot_at hq h.ok.most)
theorem RotAt.many (h : RotAt w b M at') : w.cell? ⟨b, 320, none⟩ = some (.int .i64 (M.n : Nat)) := h.row.cell rot_n
theorem RotAt.refl (h : RotAt w b M at') {c : Nat} (hc : c < 26) : w.cell? ⟨b, 321 + c, none⟩ = some (.int .i64 (M.rf c : Nat)) := h.row.cell (rot_rf hc)
theorem RotAt.plug (h : RotAt w b M at') {c : Nat} (hc : c < 26) : w.cell? ⟨b, 347 + c, none⟩ = some (.int .i64 (M.pl c : Nat)) := h.row.cell (rot_pl hc)
theorem RotAt.turn (h : RotAt w b M at') {q : Nat} (hq : q < M.n) {v : Nat} (hv : v < 26) : RotAt (w.setCell ⟨b, q * 80 + 79, none⟩ (.int .i64 (v : Nat))) b M (upd at' q v) := ⟨by
  have := h.row.set (q * 80 + 79) (.int .i64 (v : Nat))
  rw [rot_set hq] at this
  exact this, h.ok, fun i hi => by
    unfold upd
    by_cases e : i = q
    · rw [if_pos e]; exact hv
    · rw [if_neg e]; exact h.ins i hi⟩
end
end Go.Proofs.YtkohhdkkbaifoaaGreatDoor
