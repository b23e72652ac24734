/-
  What a finder holds; contract of register's newFinder (chapter 11).
-/
import Derived.Test.YtflehdigikdhmaaRgP3
import Derived.RegionTactic
namespace Go.Proofs.Ytflehdigikdhmaa
open Go.RowKit PK Rg

/-- The four cells of a finder. -/
def fdA (L : Int) (vr vm : Value) (d : Int) : Array Value := #[.int .i64 L, vr, vm, .int .i64 d]
theorem v_info_fd : (Try.prog.info? 35).map (·.size) = some 4 := by kernel_rfl
theorem v_zero_fd : (Try.prog.info? 35).map (·.zero) = some (some (.agg (fdA 0 (.slice none 0 0) (.slice none 0 0) 0))) := by kernel_rfl
theorem built_fd (a b : Nat) : Try.prog.built 35 [(1, .slice (some ⟨a, 0, none⟩) 1 1), (2, .slice (some ⟨b, 0, none⟩) 1 1), (3, .int .i64 1)] = some (fdA 0 (.slice (some ⟨a, 0, none⟩) 1 1) (.slice (some ⟨b, 0, none⟩) 1 1) 1) := by kernel_rfl
theorem results_cell1 {P : Program} {fn : Func} {p : Tmp} {ty : TypeId} (h : fn.results = #[.cell p ty]) (tmps : Array Value) (w : World) (g : Nat) (t : TypeId) (cs : Array Value) (fr : Nat × Nat) (d : TypeDesc)
    (hp : tmps.getD p undef = .pointer (some ⟨g, 0, none⟩)) (hg : w.heap[g]? = some (.cells cs t fr))
    (hu : P.underlying ty = some d) (hd : (match d with | .struct _ | .array _ _ => true | _ => false) = true) (hi : (P.info? ty).map (·.size) = some cs.size) :
    (results fn tmps).run P w = .ok (.agg cs) w := by
  have hp' : tmps[p]?.getD undef = .pointer (some ⟨g, 0, none⟩) := by simpa using hp
  simp [results, h, hp', asAddr, run_loadVar_row w g t ty cs fr d hg hu hd hi]
theorem one_row : (#[.int .i64 1] : Array Value) = ints 1 (bi fun k => decide (k = 0)) := rfl
theorem fdA_one (L : Int) (a b : Option Addr) (n m n' m' : Nat) (d : Int) : (fdA L (.slice a n n') (.slice b m m') d).all (·.oneCell') = true := by simp [fdA, Value.oneCell']
theorem wpList_buildA {P : Program} {ops : Array Oper} {rest : List Oper} {op : Oper} {a : Act} {w : World} {Q : Exit → Act → World → Prop} (hgd : op.guard = none) (t : TypeId) (xs : List (Nat × Operand)) (ho : op.op = .build t xs.toArray) (vs : List (Nat × Value)) (hv : xs.map (fun x => (x.1, a.eval x.2)) = vs)
    (cells : Array Value) (hb : P.built t vs = some cells) (h : wpList P ops Q rest (a.put op.dst (.agg cells)) w) : wpList P ops Q (op :: rest) a w :=
  wpList_plain hgd fun _ hK => by
    unfold Oper.wp execOp
    have hm : xs.toArray.map (fun (i, x) => (i, a.eval x)) = vs.toArray := by rw [← hv]; simp
    simp only [ho, Sem.run_bind, hm, run_build w t vs.toArray cells hb, Result.andThen_ok]
    exact hK _ _ h
set_option maxRecDepth 100000 in
set_option maxHeartbeats 4000000 in
theorem pnew_any (w : World) : Calls Try.prog 19 #[] w fun e w' => ∃ q1 q2, e = .returned (.agg (fdA 0 (.slice (some ⟨q1, 0, none⟩) 1 1) (.slice (some ⟨q2, 0, none⟩) 1 1) 1)) ∧ w.heap.size ≤ q1 ∧ w.heap.size ≤ q2 ∧ RowAt w' q1 3 (ints 1 (bi fun k => decide (k = 0))) ∧ RowAt w' q2 3 (ints 1 (bi fun k => decide (k = 0))) ∧ Below w.heap.size w w' := by
  have hz4 := o_zero v_zero_fd
  go_enter Try.func19, Try.ntmps19
  go_upto_region 1 with fail
  have h1 : RowAt (w.alloc (.cells (fdA 0 (.slice none 0 0) (.slice none 0 0) 0) 35)) w.heap.size 35 (fdA 0 (.slice none 0 0) (.slice none 0 0) 0) := RowAt.new w _ _
  have hb1 := (Below.refl w.heap.size w).alloc (Nat.le_refl _) (.cells (fdA 0 (.slice none 0 0) (.slice none 0 0) 0) 35)
  have hl1 := h1.lt
  generalize w.alloc (.cells (fdA 0 (.slice none 0 0) (.slice none 0 0) 0) 35) = W1 at *
  have h2 : RowAt ((W1.alloc (.cells #[.int .i64 1] 3)).alloc (.cells #[.int .i64 1] 3)) w.heap.size 35 (fdA 0 (.slice none 0 0) (.slice none 0 0) 0) := (h1.alloc _).alloc _
  have e1 : RowAt ((W1.alloc (.cells #[.int .i64 1] 3)).alloc (.cells #[.int .i64 1] 3)) W1.heap.size 3 (ints 1 (bi fun k => decide (k = 0))) := (RowAt.new W1 _ _).alloc _
  have e2 : RowAt ((W1.alloc (.cells #[.int .i64 1] 3)).alloc (.cells #[.int .i64 1] 3)) (W1.heap.size + 1) 3 (ints 1 (bi fun k => decide (k = 0))) := by
    have := RowAt.new (W1.alloc (.cells #[.int .i64 1] 3)) 3 #[.int .i64 1]
    rw [World.size_alloc] at this
    exact this
  have hb2 := (hb1.alloc hb1.size (.cells #[.int .i64 1] 3)).alloc (by have := hb1.size; simp; omega) (.cells #[.int .i64 1] 3)
  go_wp2_with (first | refine wpList_buildA rfl 35 [(1, .tmp 1), (2, .tmp 2), (3, .const (.int .i64 1))] rfl [(1, .slice (some ⟨W1.heap.size, 0, none⟩) 1 1), (2, .slice (some ⟨W1.heap.size + 1, 0, none⟩) 1 1), (3, .int .i64 1)] (by simp [Act.eval]) _ (built_fd W1.heap.size (W1.heap.size + 1)) ?_ | refine wpList_store_row rfl 35 _ _ rfl w.heap.size (fdA 0 (.slice (some ⟨W1.heap.size, 0, none⟩) 1 1) (.slice (some ⟨W1.heap.size + 1, 0, none⟩) 1 1) 1) rfl rfl 35 _ h2 v_info_fd rfl (fdA_one _ _ _ _ _ _ _ _) ?_)
  refine bodyPost_ret (v := .agg (fdA 0 (.slice (some ⟨W1.heap.size, 0, none⟩) 1 1) (.slice (some ⟨W1.heap.size + 1, 0, none⟩) 1 1) 1)) (results_cell1 Try.results19 _ _ _ _ _ _ _ rfl (h2.row _) Try.underlying35 rfl v_info_fd) rfl ⟨W1.heap.size, W1.heap.size + 1, rfl, by omega, by omega, ?_, ?_, ?_⟩
  · exact e1.rowOther _ _ (by omega)
  · exact e2.rowOther _ _ (by omega)
  · exact Below.setRow hb2 _ (Nat.le_refl _) _
/-- What a finder at g holds: a register's length, its rule, the rule that mends it and how far that is moved. -/
structure FdAt (W : World) (B g L lr lb d : Nat) (R M : Nat → Bool) (qr qm : Nat) : Prop where
  row : RowAt W g 35 (fdA (L : Nat) (.slice (some ⟨qr, 0, none⟩) lr lr) (.slice (some ⟨qm, 0, none⟩) lb lb) (d : Nat))
  rule : RowAt W qr 3 (ints lr (bi R))
  mend : RowAt W qm 3 (ints lb (bi M))
  br : B ≤ qr
  bm : B ≤ qm
  bg : B ≤ g
  nr : qr ≠ g
  nm : qm ≠ g
theorem FdAt.step {W W' : World} {B g L lr lb d : Nat} {R M : Nat → Bool} {qr qm : Nat} (h : FdAt W B g L lr lb d R M qr qm) (hb : Below W.heap.size W W') : FdAt W' B g L lr lb d R M qr qm := ⟨h.row.below hb h.row.lt, h.rule.below hb h.rule.lt, h.mend.below hb h.mend.lt, h.br, h.bm, h.bg, h.nr, h.nm⟩
theorem FdAt.drew {W : World} {B g L lr lb d : Nat} {R M : Nat → Bool} {qr qm : Nat} (h : FdAt W B g L lr lb d R M qr qm) : FdAt W.drew B g L lr lb d R M qr qm := ⟨h.row, h.rule, h.mend, h.br, h.bm, h.bg, h.nr, h.nm⟩
theorem FdAt.setL {W : World} {B g L lr lb d : Nat} {R M : Nat → Bool} {qr qm : Nat} (h : FdAt W B g L lr lb d R M qr qm) (L' : Nat) : FdAt (W.setCell ⟨g, 0, none⟩ (.int .i64 (L' : Nat))) B g L' lr lb d R M qr qm := ⟨h.row.set 0 (.int .i64 (L' : Nat)), h.rule.setOther _ _ h.nr, h.mend.setOther _ _ h.nm, h.br, h.bm, h.bg, h.nr, h.nm⟩
theorem FdAt.setD {W : World} {B g L lr lb d : Nat} {R M : Nat → Bool} {qr qm : Nat} (h : FdAt W B g L lr lb d R M qr qm) (d' : Nat) : FdAt (W.setCell ⟨g, 3, none⟩ (.int .i64 (d' : Nat))) B g L lr lb d' R M qr qm := ⟨h.row.set 3 (.int .i64 (d' : Nat)), h.rule.setOther _ _ h.nr, h.mend.setOther _ _ h.nm, h.br, h.bm, h.bg, h.nr, h.nm⟩
theorem FdAt.setR {W : World} {B g L lr lb d : Nat} {R M : Nat → Bool} {qr qm : Nat} (h : FdAt W B g L lr lb d R M qr qm) {q l : Nat} {A : Nat → Bool} (hq : RowAt W q 3 (ints l (bi A))) (hB : B ≤ q) (hn : q ≠ g) : FdAt (W.setCell ⟨g, 1, none⟩ (.slice (some ⟨q, 0, none⟩) l l)) B g L l lb d A M q qm := ⟨h.row.set 1 (.slice (some ⟨q, 0, none⟩) l l), hq.setOther _ _ hn, h.mend.setOther _ _ h.nm, hB, h.bm, h.bg, hn, h.nm⟩
theorem FdAt.setM {W : World} {B g L lr lb d : Nat} {R M : Nat → Bool} {qr qm : Nat} (h : FdAt W B g L lr lb d R M qr qm) {q l : Nat} {A : Nat → Bool} (hq : RowAt W q 3 (ints l (bi A))) (hB : B ≤ q) (hn : q ≠ g) : FdAt (W.setCell ⟨g, 2, none⟩ (.slice (some ⟨q, 0, none⟩) l l)) B g L lr l d R A qr q := ⟨h.row.set 2 (.slice (some ⟨q, 0, none⟩) l l), h.rule.setOther _ _ h.nr, hq.setOther _ _ hn, h.br, hB, h.bg, h.nr, hn⟩
theorem FdAt.rnums {W : World} {B g L lr lb d : Nat} {R M : Nat → Bool} {qr qm : Nat} (h : FdAt W B g L lr lb d R M qr qm) (hl : lr ≤ 65536) : NumsAt W (.slice (some ⟨qr, 0, none⟩) lr lr) lr (bi R) := NumsAt.of_row h.rule (by unfold maxLen; omega)
theorem FdAt.mnums {W : World} {B g L lr lb d : Nat} {R M : Nat → Bool} {qr qm : Nat} (h : FdAt W B g L lr lb d R M qr qm) (hl : lb ≤ 65536) : NumsAt W (.slice (some ⟨qm, 0, none⟩) lb lb) lb (bi M) := NumsAt.of_row h.mend (by unfold maxLen; omega)
theorem FdAt.c0 {W : World} {B g L lr lb d : Nat} {R M : Nat → Bool} {qr qm : Nat} (h : FdAt W B g L lr lb d R M qr qm) : W.cell? ⟨g, 0, none⟩ = some (.int .i64 (L : Nat)) := h.row.cell rfl
theorem FdAt.c1 {W : World} {B g L lr lb d : Nat} {R M : Nat → Bool} {qr qm : Nat} (h : FdAt W B g L lr lb d R M qr qm) : W.cell? ⟨g, 1, none⟩ = some (.slice (some ⟨qr, 0, none⟩) lr lr) := h.row.cell rfl
theorem FdAt.c2 {W : World} {B g L lr lb d : Nat} {R M : Nat → Bool} {qr qm : Nat} (h : FdAt W B g L lr lb d R M qr qm) : W.cell? ⟨g, 2, none⟩ = some (.slice (some ⟨qm, 0, none⟩) lb lb) := h.row.cell rfl
theorem FdAt.c3 {W : World} {B g L lr lb d : Nat} {R M : Nat → Bool} {qr qm : Nat} (h : FdAt W B g L lr lb d R M qr qm) : W.cell? ⟨g, 3, none⟩ = some (.int .i64 (d : Nat)) := h.row.cell rfl
end Go.Proofs.Ytflehdigikdhmaa
