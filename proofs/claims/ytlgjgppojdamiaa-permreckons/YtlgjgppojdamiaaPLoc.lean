/-
  The laws on whole arrays, as this program's walks meet them.
-/
import Derived.Test.YtlgjgppojdamiaaPAlive
import Derived.Test.YtlgjgppojdamiaaPEq
import Derived.OrdersHeld
namespace Go.Proofs.Ytlgjgppojdamiaa
open Go.RowKit PK

section
variable {ops : Array Oper} {rest : List Oper} {op : Oper} {a : Act} {Q : Exit → Act → World → Prop}
/-- An array, read out of its variable. -/
theorem load_perm {w : World} (hw : Region.wanted op (yielded ops a.tmps) = true) (x : Operand) (ho : op.op = .load 35 x) (g : Nat) (hx : a.eval x = .pointer (some ⟨g, 0, none⟩)) (f : Nat → Int) (hr : RowAt w g 35 (ints 26 f))
    (h : wpList Try.prog ops Q rest (a.put op.dst (.agg (ints 26 f))) w) : wpList Try.prog ops Q (op :: rest) a w :=
  wpList_step fun K hK => by
    rw [if_pos hw]
    exact wp_load_row 35 x ho g hx 35 (ints 26 f) (0, 0) _ hr Try.underlying35 rfl (by rw [ints_size]; exact info_perm) (hK _ _ h)
/-- An array, written into a variable that was made just now. -/
theorem store_new {W : World} {c0 : Array Value} (hgd : op.guard = none) (x y : Operand) (ho : op.op = .store 35 x y) (hx : a.eval x = .pointer (some ⟨W.heap.size, 0, none⟩)) (f : Nat → Int) (hy : a.eval y = .agg (ints 26 f)) (hc : c0.size = 26)
    (h : wpList Try.prog ops Q rest (a.put op.dst undef) (W.alloc (.cells (ints 26 f) 35))) : wpList Try.prog ops Q (op :: rest) a (W.alloc (.cells c0 35)) := by
  refine wpList_store_row hgd 35 x y ho W.heap.size (ints 26 f) hx hy 35 c0 (RowAt.new W _ _) (by rw [ints_size]; exact info_perm) (by rw [ints_size, hc]) (ints_one _ _) ?_
  rw [World.setRow_alloc_new]
  exact h
end
/-- '==' between two arrays. -/
theorem run_eq_perm (f g : Nat → Int) (w : World) : (Op.equalIn 10000 35 (.agg (ints 26 f)) (.agg (ints 26 g))).run Try.prog w = .ok (eqI 26 f g) w :=
  run_equalIn_ints w 9998 35 3 26 Try.underlying35 Try.underlying3 info_int f g
/-- Three boxed arrays, behind a call. -/
theorem after3 {w W1 : World} {T : TypeId} {f g h : Nat → Int} (hb : Below (((w.alloc (.cells (ints 26 f) T)).alloc (.cells (ints 26 g) T)).alloc (.cells (ints 26 h) T)).heap.size (((w.alloc (.cells (ints 26 f) T)).alloc (.cells (ints 26 g) T)).alloc (.cells (ints 26 h) T)) W1) :
    RowAt W1 w.heap.size T (ints 26 f) ∧ RowAt W1 (w.heap.size + 1) T (ints 26 g) ∧ RowAt W1 (w.heap.size + 1 + 1) T (ints 26 h) ∧ Below w.heap.size w W1 ∧ w.heap.size + 3 ≤ W1.heap.size := by
  have hs := hb.size
  simp at hs
  refine ⟨RowAt.below (((RowAt.new w _ _).alloc _).alloc _) hb (by simp <;> omega), RowAt.below ((RowAt.newAt (by simp)).alloc _) hb (by simp), RowAt.below (RowAt.newAt (by simp)) hb (by simp), ?_, hs⟩
  exact (((((Below.refl _ _).alloc (Nat.le_refl _) _).alloc (by simp) _).alloc (by simp <;> omega) _).trans (hb.mono (by simp <;> omega)))
/-- What was there is there behind a call and a new variable. -/
theorem row_step {W W' : World} {b : Nat} {T : TypeId} {c : Array Value} (h : RowAt W b T c) (hb : Below W.heap.size W W') (o : Obj) : RowAt (W'.alloc o) b T c := (h.below hb h.lt).alloc _
theorem size_step {n : Nat} {W W' : World} (h : n ≤ W.heap.size) (hb : Below W.heap.size W W') (o : Obj) : n ≤ (W'.alloc o).heap.size := by have := hb.size; rw [World.size_alloc]; omega
theorem below_step {B : Nat} {w W W' : World} (h : Below B w W) (hB : B ≤ W.heap.size) (hb : Below W.heap.size W W') (o : Obj) : Below B w (W'.alloc o) := (h.trans (hb.mono hB)).alloc (by have := hb.size; omega) _
theorem below_setCells {B : Nat} {a : World} (g : Nat) (hg : B ≤ g) : ∀ (vs : List Value) (o : Nat) (w : World), Below B a w → Below B a (w.setCells g o vs)
  | [], _, _, h => h
  | v :: vs, o, _, h => below_setCells g hg vs (o + 1) _ (h.setCell hg v)
theorem there_new {V W' : World} {c : Array Value} {T : TypeId} {n : Nat} (hb : Below (V.alloc (.cells c T)).heap.size (V.alloc (.cells c T)) W') (hc : c.size = n) : W'.there V.heap.size 0 n := fun j hj => by
  have hr : RowAt W' V.heap.size T c := (RowAt.new V T c).below hb (by simp)
  have h0 : (⟨V.heap.size, 0 + j, none⟩ : Addr) = ⟨V.heap.size, j, none⟩ := by simp
  rw [h0]
  refine ⟨?_, hr.frozen j⟩
  rw [cell_of_row W' V.heap.size j c T (0, 0) hr]
  simp [hc, hj]
theorem there_new2 {V W' : World} {c : Array Value} {T : TypeId} {n : Nat} (hb : Below (V.alloc (.cells c T)).heap.size (V.alloc (.cells c T)) W') (hc : c.size = n) : W'.there V.heap.size 0 n ∧ V.heap.size < W'.heap.size := ⟨there_new hb hc, by have := hb.size; rw [World.size_alloc] at this; omega⟩
theorem there_new3 {V W' : World} {c : Array Value} {T : TypeId} {n : Nat} (hb : Below (V.alloc (.cells c T)).drew.heap.size (V.alloc (.cells c T)).drew W') (hc : c.size = n) : W'.there V.heap.size 0 n ∧ V.heap.size < W'.heap.size := there_new2 (V := V) ⟨hb.os, hb.tape, hb.output, hb.size, hb.block⟩ hc
theorem there_keep {V W' : World} {g n : Nat} (h : V.there g 0 n) (hg : g < V.heap.size) (hb : Below V.heap.size V W') : W'.there g 0 n := fun j hj => by
  rw [hb.cell (p := ⟨g, 0 + j, none⟩) hg, hb.frozen (p := ⟨g, 0 + j, none⟩) hg]
  exact h j hj
theorem there_fresh (V : World) (c : Array Value) (T : TypeId) (n : Nat) (hc : c.size = n) : (V.alloc (.cells c T)).there V.heap.size 0 n := there_new (Below.refl _ _) hc
theorem ints_cells_one (f : Nat → Int) : ∀ v ∈ (List.range 26).map (fun i => Value.int .i64 (f i)), v.oneCell' = true := fun v hv => by
  simp at hv
  obtain ⟨i, _, rfl⟩ := hv
  rfl
theorem refl_perm (f : Nat → Int) (w : World) : (Op.equalIn 10000 35 (.agg (ints 26 f)) (.agg (ints 26 f))).run Try.prog w = .ok true w := by rw [run_eq_perm, eqI_refl]
section
variable {P : Program} {ops : Array Oper} {Q : Exit → Act → World → Prop} {md : Region.Mode} {S : World → Prop}
/-- An operation that only computes is taken first. -/
theorem take_pure (i d : Nat) (v : Value) {oi : Oper} {fuel : Nat} {listed : Array Bool} {tm : Array Value} {df : List Deferred} {w : World} (hi : ops[i]? = some oi) (hd : oi.dst = some d)
    (hs : Region.noSelect ops = true) (hf : Region.free md ops listed i = true) (hr : (Region.ready md ops listed).contains i = true)
    (hQ : ∀ c a a' w, Q (.panic c) a' w → Q (.panic c) a w) (hw : Region.wanted oi (yielded ops tm) = true) (hrun : ∀ W, (execOp (Act.eval ⟨tm, df⟩) oi).run P W = .ok (.value v) W) (hS : S w)
    (h : wpAnyH P md ops Q S fuel (listed.setIfInBounds i true) ⟨tm.setIfInBounds d v, df⟩ w) : wpAnyH P md ops Q S (fuel + 1) listed ⟨tm, df⟩ w := by
  refine wpAnyH_take (i := i) (oi := oi) (v := v) hi hs hf hr (fun c a w => hQ c a _ w) (Or.inl ⟨hw, fun W _ => hrun W⟩) hS ?_
  rw [hd]
  exact h
/-- A whole array (or struct) is read first. -/
theorem take_load (i d : Nat) {oi : Oper} {fuel : Nat} {listed : Array Bool} {tm : Array Value} {df : List Deferred} {w : World} (hi : ops[i]? = some oi) (hd : oi.dst = some d)
    (hs : Region.noSelect ops = true) (hf : Region.free md ops listed i = true) (hr : (Region.ready md ops listed).contains i = true)
    (hQ : ∀ c a a' w, Q (.panic c) a' w → Q (.panic c) a w) (hw : Region.wanted oi (yielded ops tm) = true) (ty : TypeId) (x : Operand) (ho : oi.op = .load ty x) (g : Nat) (cs : Array Value) (de : TypeDesc) (hx : (Act.eval ⟨tm, df⟩ x) = .pointer (some ⟨g, 0, none⟩))
    (hR : ∀ W, S W → W.rangeAt g 0 cs.toList) (hu : P.underlying ty = some de) (hde : de.isRow = true) (hin : (P.info? ty).map (·.size) = some cs.size) (hS : S w)
    (h : wpAnyH P md ops Q S fuel (listed.setIfInBounds i true) ⟨tm.setIfInBounds d (.agg cs), df⟩ w) : wpAnyH P md ops Q S (fuel + 1) listed ⟨tm, df⟩ w := by
  refine wpAnyH_take (i := i) (oi := oi) (v := .agg cs) hi hs hf hr (fun c a w => hQ c a _ w) ?_ hS ?_
  · have := yieldsIf_load_mid (P := P) (S := S) (a := ⟨tm, df⟩) hw ty x ho g 0 hx cs.toList de hR hu hde (by rw [Array.length_toList]; exact hin)
    rw [Array.toArray_toList] at this
    exact this
  · rw [hd]
    exact h
end
end Go.Proofs.Ytlgjgppojdamiaa
