/-
  Several texts, joined: FdQ, FdR, FdS, FdT, OOpen, YOpen, OOpS, FdU.
-/
import Derived.Test.YthfjkhmedpilnaaFdP
import Derived.Test.YthfjkhmedpilnaaJn15
import Derived.Test.YthfjkhmedpilnaaJn17
import Derived.Test.YthfjkhmedpilnaaChecked
import Derived.Deep.Matrix
import Derived.ProofKit
import Derived.OpenShut
import Derived.ShutString
import Derived.ChangeOld
import Derived.Carry
import Derived.ChangeSlices
import Derived.Test.YthfjkhmedpilnaaJn16
import Derived.Test.YthfjkhmedpilnaaRows
import Derived.SizedLaws
/-
  The walk ahead of the pool: the channels, and on to the first 'go'.
-/
namespace Go.Proofs.Ythfjkhmedpilnaa
open Go.RowKit PK Vg Go.Conc Cs
theorem eR7_eq : eR7 = .region 7 eO7 true := by kernel_rfl
theorem terms7 (Fd : Nat) : Terms AtRel (DN Fd) := ⟨atRel_trans, dn_same⟩
theorem draw7 (Fd : Nat) : LetsDraw (DN Fd) := fun w => ⟨Nat.le_refl _, fun e he => by simp at he⟩
set_option maxRecDepth 100000 in
theorem every_b {H : Array Obj} {o : Os} {out : Array (Nat × ByteArray)} {n bM bL Fd : Nat} {p q r s v0 v2 v4 v6 v7 v8 v12 v13 v14 v15 v16 v17 v18 v19 v20 v21 v22 v23 v26 v27 v28 v29 v30 v31 v32 v33 v34 v35 v36 v37 v38 v39 v40 v41 v42 v43 v44 v45 v46 v47 v48 v49 v50 v51 v52 : Value} {w : World} (hF : Fd < H.size) (hz : Z7 H o out w) (cs : List Frame) : ∃ mu, Goes Try.prog true AtRel (DN Fd) (fun g w' => ∃ (C1 C2 bF bD : Nat) (v0 v2 v4 v6 v7 v8 v12 v13 v14 v15 v16 v17 v18 v19 v20 v21 v22 v23 v26 v27 v28 v29 v30 v31 v32 v33 v34 v35 v36 v37 v38 v39 v40 v41 v42 v43 v44 v45 v46 v47 v48 v49 v50 v51 v52 : Value), g = G (eB.at ⟨#[v0, .int .i64 (n : Nat), v2, .pointer (some ⟨bM, 0, none⟩), v4, .pointer (some ⟨bL, 0, none⟩), v6, v7, v8, .pointer (some ⟨Fd, 0, none⟩), .pointer (some ⟨bF, 0, none⟩), .pointer (some ⟨bD, 0, none⟩), v12, v13, v14, v15, v16, v17, v18, v19, v20, v21, v22, v23, .chan (some C1), .chan (some C2), v26, v27, v28, v29, v30, v31, v32, v33, v34, v35, v36, v37, v38, v39, v40, v41, v42, v43, v44, v45, v46, v47, v48, v49, v50, v51, v52], []⟩ [.code eT1]) cs ∧ Z7 H o out w' ∧ ZC H w' C1 ∧ ZC H w' C2 ∧ C1 ≠ C2 ∧ ZB H w' bF 95 (.chan (some C1)) ∧ ZB H w' bD 96 (.chan (some C2))) mu (G (eB.at ⟨#[v0, .int .i64 (n : Nat), v2, .pointer (some ⟨bM, 0, none⟩), v4, .pointer (some ⟨bL, 0, none⟩), v6, v7, v8, .pointer (some ⟨Fd, 0, none⟩), r, s, v12, v13, v14, v15, v16, v17, v18, v19, v20, v21, v22, v23, p, q, v26, v27, v28, v29, v30, v31, v32, v33, v34, v35, v36, v37, v38, v39, v40, v41, v42, v43, v44, v45, v46, v47, v48, v49, v50, v51, v52], []⟩ [.code eR7, .code eT1]) cs) w := by
  have h := wpC_region_held (P := Try.prog) (main := true) (fn := 19) (ops := eO7) (Q := Q7 H o out n bM bL Fd) (S := fun _ => True) (terms7 Fd) (draw7 Fd) (id := 7) (a := ⟨#[v0, .int .i64 (n : Nat), v2, .pointer (some ⟨bM, 0, none⟩), v4, .pointer (some ⟨bL, 0, none⟩), v6, v7, v8, .pointer (some ⟨Fd, 0, none⟩), r, s, v12, v13, v14, v15, v16, v17, v18, v19, v20, v21, v22, v23, p, q, v26, v27, v28, v29, v30, v31, v32, v33, v34, v35, v36, v37, v38, v39, v40, v41, v42, v43, v44, v45, v46, v47, v48, v49, v50, v51, v52], []⟩) (w := w) (by kernel_rfl) (fun w₁ h₁ => by
    obtain ⟨d, rfl⟩ := h₁
    exact st7_n hF ⟨hz.old, hz.size, hz.os, hz.output⟩)
  rw [eR7_eq]
  refine ⟨0 + _, wpC_goes h rfl (by decide) (fun e a' w' hQ => ?_)⟩
  obtain ⟨rfl, C1, C2, bF, bD, v0, v2, v4, v6, v7, v8, v12, v13, v14, v15, v16, v17, v18, v19, v20, v21, v22, v23, v26, v27, v28, v29, v30, v31, v32, v33, v34, v35, v36, v37, v38, v39, v40, v41, v42, v43, v44, v45, v46, v47, v48, v49, v50, v51, v52, rfl, z, k0, k1, kn, k2, k3⟩ := hQ
  exact Goes.stop fun w₂ h₂ => by
    obtain ⟨d, rfl⟩ := h₂
    exact ⟨C1, C2, bF, bD, _, _, _, _, _, _, _, _, _, _, _, _, _, _, _, _, _, _, _, _, _, _, _, _, _, _, _, _, _, _, _, _, _, _, _, _, _, _, _, _, _, _, _, _, _, rfl, z.at' d, k0, k1, kn, k2, k3⟩
set_option maxRecDepth 100000 in
set_option maxHeartbeats 4000000 in
theorem every_c {H : Array Obj} {o : Os} {out : Array (Nat × ByteArray)} {n bM bL Fd C1 C2 bF bD : Nat} {v0 v2 v4 v6 v7 v8 v12 v13 v14 v15 v16 v17 v18 v19 v20 v21 v22 v23 v26 v27 v28 v29 v30 v31 v32 v33 v34 v35 v36 v37 v38 v39 v40 v41 v42 v43 v44 v45 v46 v47 v48 v49 v50 v51 v52 : Value} {w : World} (hI : HI H o out w) (hn : 1 ≤ n) (cs : List Frame) : ∃ mu, Goes Try.prog true AtRel (DN Fd) (fun g w' => g.status = .running ∧ (∀ c : Cst, c.Fd = Fd → eGoP c bF bM bL bD n cs 0 g) ∧ HI H o out w') mu (G (eB.at ⟨#[v0, .int .i64 (n : Nat), v2, .pointer (some ⟨bM, 0, none⟩), v4, .pointer (some ⟨bL, 0, none⟩), v6, v7, v8, .pointer (some ⟨Fd, 0, none⟩), .pointer (some ⟨bF, 0, none⟩), .pointer (some ⟨bD, 0, none⟩), v12, v13, v14, v15, v16, v17, v18, v19, v20, v21, v22, v23, .chan (some C1), .chan (some C2), v26, v27, v28, v29, v30, v31, v32, v33, v34, v35, v36, v37, v38, v39, v40, v41, v42, v43, v44, v45, v46, v47, v48, v49, v50, v51, v52], []⟩ [.code eT1]) cs) w := by
  have hlt : decide (0 < n) = true := by simp; omega
  refine ⟨60, ?_⟩
  simp only [eT1, eBody, Try.f19, Option.getD_some]
  repeat (refine gstepN hI rfl (fun w₁ h₁ => ?_); walk_rw; refine ⟨dn_same _, ?_⟩; clear hI; have hI := h₁; clear h₁)
  refine gstepN hI rfl (fun w₁ h₁ => ?_)
  refine goes_oper_k rfl rfl (by decide) (fun K hK => ?_)
  go_simp
  refine hK _ _ ⟨⟨by simp, fun e he => ?_⟩, ?_⟩
  · have hm := mem_listed he
    simp [go_sem] at hm
  clear hK K hI
  have hI := h₁
  clear h₁
  refine gstepN hI rfl (fun w₁ h₁ => ?_)
  refine goes_oper_k rfl rfl (by decide) (fun K hK => ?_)
  go_simp
  refine hK _ _ ⟨⟨by simp, fun e he => ?_⟩, ?_⟩
  · have hm := mem_listed he
    simp [go_sem] at hm
  clear hK K hI
  have hI := h₁
  clear h₁
  repeat (refine gstepN hI rfl (fun w₁ h₁ => ?_); walk_rw; refine ⟨dn_same _, ?_⟩; clear hI; have hI := h₁; clear h₁)
  refine gstepN hI rfl (fun w₁ h₁ => ?_)
  refine goes_oper_k rfl rfl (by decide) (fun K hK => ?_)
  go_simp
  refine hK _ _ ⟨⟨by simp, fun e he => ?_⟩, ?_⟩
  · have hm := mem_listed he
    simp [go_sem] at hm
  clear hK K hI
  have hI := h₁
  clear h₁
  repeat (refine gstepN hI rfl (fun w₁ h₁ => ?_); walk_rw; refine ⟨dn_same _, ?_⟩; clear hI; have hI := h₁; clear h₁)
  refine gstepN hI rfl (fun w₁ h₁ => ?_)
  rw [stepG_cond (t := true) rfl]
  simp only [goes_go, ↓reduceIte]
  refine ⟨dn_same _, ?_⟩
  clear hI
  have hI := h₁
  clear h₁
  repeat (refine gstepN hI rfl (fun w₁ h₁ => ?_); walk_rw; refine ⟨dn_same _, ?_⟩; clear hI; have hI := h₁; clear h₁)
  refine gstepN hI rfl (fun w₁ h₁ => ?_)
  refine goes_oper_k rfl rfl (by decide) (fun K hK => ?_)
  go_simp
  refine hK _ _ ⟨⟨by simp, fun e he => ?_⟩, ?_⟩
  · have hm := mem_listed he
    simp [go_sem] at hm
  clear hK K hI
  have hI := h₁
  clear h₁
  exact Goes.stop fun w₂ h₂ => by
    obtain ⟨d, rfl⟩ := h₂
    refine ⟨rfl, fun c hc => ?_, hI⟩
    subst hc
    exact ⟨_, _, _, _, _, _, _, _, _, _, _, _, _, _, _, _, _, _, _, _, _, _, _, _, _, _, _, _, _, _, _, _, _, _, _, _, _, _, _, _, _, _, _, _, rfl⟩
end Go.Proofs.Ythfjkhmedpilnaa

/-
  The run of ChartFinds, where nothing is wrong with what is searched: from its start to its end.
-/
namespace Go.Proofs.Ythfjkhmedpilnaa
open Go.RowKit PK Vg Go.Conc Cs
theorem push2_old {H : Array Obj} {x y : Obj} {b : Nat} (hb : b < H.size) : ((H.push x).push y)[b]? = H[b]? := by
  rw [Array.getElem?_push, if_neg (by simp; omega), Array.getElem?_push, if_neg (by omega)]
theorem push2_one {H : Array Obj} {x y : Obj} : ((H.push x).push y)[H.size]? = some x := by
  rw [Array.getElem?_push, if_neg (by simp), Array.getElem?_push, if_pos rfl]
theorem push2_two {H : Array Obj} {x y : Obj} : ((H.push x).push y)[H.size + 1]? = some y := by
  rw [Array.getElem?_push, if_pos (by simp)]
theorem push2_size {H : Array Obj} {x y : Obj} : ((H.push x).push y).size = H.size + 2 := by simp
theorem ev_load {w : World} {a : Addr} {u : Value} {es : Array Event} (hu : w.cell? a = some u) : ∀ ev ∈ (load a).events Try.prog w es, ev ∈ es ∨ ev = ⟨.cell a, false, false⟩ := fun ev h => by
  have h1 : ev ∈ es ∨ ev = ⟨.cell a, false, Mode.plain == Mode.atomic⟩ := by simpa [go_sem, hu] using h
  exact h1
theorem ev_cells (a : Addr) : ∀ (n i : Nat) (acc : Array Value) (w : World) (es : Array Event), (∀ j, j < n → (w.cell? (a.add (i + j))).isSome) → ∀ ev ∈ (loadCellsFrom a i n acc).events Try.prog w es, ev ∈ es ∨ ∃ ad : Addr, ev = ⟨.cell ad, false, false⟩ ∧ ad.block = a.block
  | 0, _, _, _, _, _ => fun ev h => .inl (by simpa [loadCellsFrom] using h)
  | n + 1, i, acc, w, es, hc => fun ev h => by
    simp only [loadCellsFrom, Sem.events_bind] at h
    obtain ⟨u, hu⟩ := Option.isSome_iff_exists.1 (hc 0 (by omega))
    simp only [Nat.add_zero] at hu
    have hr : (load (a.add i)).run Try.prog w = .ok u w := by simp [hu]
    rw [hr] at h
    rcases ev_cells a n (i + 1) (acc.push u) w _ (fun j hj => by have := hc (j + 1) (by omega); rwa [show i + (j + 1) = i + 1 + j by omega] at this) ev h with h | h
    · rcases ev_load hu ev h with h | h
      · exact .inl h
      · exact .inr ⟨_, h, by unfold Addr.add; split <;> rfl⟩
    · exact .inr h
theorem ev_rowX {W : World} {b : Nat} {T : TypeId} {A : Array Value} {TB : TypeId} {fr : Nat × Nat} {d : TypeDesc} (hW : W.heap[b]? = some (.cells A TB fr)) (hu : Try.prog.underlying T = some d) (hd : d.isRow = true) (hi : (Try.prog.info? T).map (·.size) = some A.size) :
    ∀ e ∈ (Instr.loadAt T (.pointer (some ⟨b, 0, none⟩))).events Try.prog W #[], ∃ a : Addr, e = ⟨.cell a, false, false⟩ ∧ a.block = b := fun e he => by
  obtain ⟨i, hi1, hi2⟩ := Option.map_eq_some_iff.1 hi
  have hc := ev_cells ⟨b, 0, none⟩ A.size 0 #[] W #[] (fun j hj => by
    rw [Addr.add_lit, cell_of_row _ _ _ _ _ _ hW]
    simp [hj])
  cases d with
  | struct fs =>
    simp [Instr.loadAt, Instr.sureAddr, loadVar, isAgg, go_sem, underlying, sizeOf, typeInfo, loadCells, hu, hi1, hi2] at he
    rcases hc e he with h | h
    · simp at h
    · exact h
  | array n el =>
    simp [Instr.loadAt, Instr.sureAddr, loadVar, isAgg, go_sem, underlying, sizeOf, typeInfo, loadCells, hu, hi1, hi2] at he
    rcases hc e he with h | h
    · simp at h
    · exact h
  | _ => cases hd
/-- What is said of the world behind the run. -/
def Kept (W W' : World) : Prop := (∀ b, b < W.heap.size → W'.heap[b]? = W.heap[b]?) ∧ W'.os = W.os ∧ W'.output = W.output
/-- What stands there at the first 'go'. -/
structure AtGo (A B : Array Value) (n : Nat) (W w4 w8 : World) (h1 h2 Fd C1 C2 bF bD : Nat) : Prop where
  old4 : ∀ b, b < W.heap.size → w4.heap[b]? = W.heap[b]?
  bT : w4.heap[h1 + 1]? = some (.cells B 28 (0, 0))
  dM : w4.heap[W.heap.size]? = some (.cells A 27 (0, 0))
  dT : w4.heap[W.heap.size + 1]? = some (.cells B 28 (0, 0))
  lM : w4.heap[h2]? = some (.cells A 27 (0, 0))
  lL : w4.heap[h2 + 1]? = some (.cells #[.func (.func 20) #[] #[.pointer (some ⟨h1 + 1, 0, none⟩)]] 58 (0, 0))
  fd : Fd = w4.heap.size
  h84 : ∀ b, b < w4.heap.size → w8.heap[b]? = w4.heap[b]?
  row : w8.heap[Fd]? = some (.cells (tab 26 fun _ => .slice none 0 0) 94 (0, 0))
  c1 : Fd < C1 ∧ w8.heap[C1]? = some (.chan 0 #[] false 0 0 false)
  c2 : Fd < C2 ∧ w8.heap[C2]? = some (.chan 0 #[] false 0 0 false)
  ne : C1 ≠ C2
  bf : Fd < bF ∧ w8.heap[bF]? = some (.cells #[.chan (some C1)] 95 (0, 0))
  bd : Fd < bD ∧ w8.heap[bD]? = some (.cells #[.chan (some C2)] 96 (0, 0))
  env : w8.os = W.os ∧ w8.output = W.output
end Go.Proofs.Ythfjkhmedpilnaa

/-
  The run of ChartFinds, where nothing is wrong with what is searched: from its first 'go' to its end.
-/
namespace Go.Proofs.Ythfjkhmedpilnaa
open Go.RowKit PK Vg Go.Conc Cs
/-- The pool of that run. -/
noncomputable def cstOf (A : Array Value) (n : Nat) (W w8 : World) (h1 Fd C1 C2 : Nat) : Cst := { n := n, K := 26, S0 := 1, N1 := w8.heap.size, H0 := fun q => w8.heap[q]?, C1 := C1, C2 := C2, Fd := Fd, TF := 94, z1 := .int .i64 0, z2 := .bool false, zs1 := .tuple #[], zs2 := .tuple #[], fB := 50, ar := fun k => #[.agg A, .int .i64 (k : Nat), .func (.func 20) #[] #[.pointer (some ⟨h1 + 1, 0, none⟩)]], os0 := W.os, out0 := W.output }
section
variable {A B : Array Value} {n : Nat} {W w4 w8 : World} {h1 h2 Fd C1 C2 bF bD : Nat}
theorem AtGo.ok (k : AtGo A B n W w4 w8 h1 h2 Fd C1 C2 bF bD) : (cstOf A n W w8 h1 Fd C1 C2).Ok w8 := ⟨fun _ _ => rfl, ⟨_, k.row, tab_size _ _⟩, Nat.le_refl _, k.env⟩
theorem AtGo.low (k : AtGo A B n W w4 w8 h1 h2 Fd C1 C2 bF bD) (q : Nat) (hq : q < w4.heap.size) : (cstOf A n W w8 h1 Fd C1 C2).Fix q := by
  have h0 := k.fd
  have h3 := heap_lt k.row
  have h4 := k.c1.1
  have h5 := k.c2.1
  exact ⟨by show q < w8.heap.size; omega, by show q ≠ Fd; omega, by show q ≠ C1; omega, by show q ≠ C2; omega⟩
theorem AtGo.cells (k : AtGo A B n W w4 w8 h1 h2 Fd C1 C2 bF bD) {q : Nat} {x : Array Value} {T : TypeId} (hq : w8.heap[q]? = some (.cells x T (0, 0))) (hlt : Fd < q) : (cstOf A n W w8 h1 Fd C1 C2).Fix q := by
  refine ⟨heap_lt hq, by show q ≠ Fd; omega, fun e => ?_, fun e => ?_⟩
  · have e' : q = C1 := e
    rw [e', k.c1.2] at hq
    cases hq
  · have e' : q = C2 := e
    rw [e', k.c2.2] at hq
    cases hq
theorem one_cell {w : World} {q : Nat} {x : Value} {T : TypeId} (hq : w.heap[q]? = some (.cells #[x] T (0, 0))) : w.cell? ⟨q, 0, none⟩ = some x := by rw [cell_of_row _ _ _ _ _ _ hq]; rfl
theorem AtGo.wk (k : AtGo A B n W w4 w8 h1 h2 Fd C1 C2 bF bD) (hA : A.size = 55) : WkP (cstOf A n W w8 h1 Fd C1 C2) bF h2 (h2 + 1) bD (.agg A) (.func (.func 20) #[] #[.pointer (some ⟨h1 + 1, 0, none⟩)]) := by
  have hiA : (Try.prog.info? 27).map (·.size) = some A.size := by rw [hA]; exact v_info_mac
  have fixF := k.cells k.bf.2 k.bf.1
  have fixD := k.cells k.bd.2 k.bd.1
  have fixM := k.low h2 (heap_lt k.lM)
  have fixL := k.low (h2 + 1) (heap_lt k.lL)
  have lM : w8.heap[h2]? = some (.cells A 27 (0, 0)) := (k.h84 _ (heap_lt k.lM)).trans k.lM
  have lL : w8.heap[h2 + 1]? = some (.cells #[.func (.func 20) #[] #[.pointer (some ⟨h1 + 1, 0, none⟩)]] 58 (0, 0)) := (k.h84 _ (heap_lt k.lL)).trans k.lL
  refine ⟨⟨fixF, fixM, fixL, fixD⟩, fun w hw => one_cell ((hw.fix _ fixF).trans k.bf.2), fun w hw => one_cell ((hw.fix _ fixD).trans k.bd.2), fun w hw => one_cell ((hw.fix _ fixL).trans lL), fun w hw => ld_row ((hw.fix _ fixM).trans lM) Try.underlying27 rfl hiA, fun w hw e he => ?_⟩
  obtain ⟨ad, e1, e2⟩ := ev_rowX ((hw.fix _ fixM).trans lM) Try.underlying27 rfl hiA e he
  exact ⟨ad, e1, by rw [e2]; exact fixM⟩
end
end Go.Proofs.Ythfjkhmedpilnaa

/-
  ChartFinds where something is wrong with what is searched: no goroutine is begun (a lone walk).
-/
namespace Go.Proofs.Ythfjkhmedpilnaa
open Go.RowKit PK Vg

end Go.Proofs.Ythfjkhmedpilnaa

/-
  A machine as an argument: opened.
-/
namespace Go.Proofs.Ythfjkhmedpilnaa
open Go.RowKit PK Go.ChangeShapes Go.WideShapes Go.ChangeAt

theorem o_cells_int : Try.prog.cellsOf 3 = 1 := by kernel_rfl
theorem o_cells_perm : Try.prog.cellsOf 25 = 26 := by kernel_rfl
theorem o_cells_wheel : Try.prog.cellsOf 62 = 27 := by kernel_rfl
theorem o_cells_mac : Try.prog.cellsOf 27 = 55 := by kernel_rfl
section
variable {H : Type} {enc : TypeId × Value → H} {W : World}
set_option maxRecDepth 100000 in
theorem trod_perm {fuel : Nat} {l : List Value} {x : DataW H × List MemPlace} (h : DataW.trod enc Try.prog W 0 (fun _ => true) true fuel 25 l = some x) : ∃ f, l = (ints 26 f).toList := by
  obtain ⟨xs, m, _, _, hl, hxl, hi⟩ := DataW.trod_array Try.underlying25 h
  rw [o_cells_perm] at hl
  rw [o_cells_int] at hi
  have key : ∀ i, i < 26 → ∃ n : Int, l[i]? = some (.int .i64 n) := fun i h26 => by
    have h1 := hi i h26
    have h2 : xs[i]? = some (xs[i]'(by omega)) := List.getElem?_eq_getElem _
    rw [h2] at h1
    obtain ⟨n, e, _, _⟩ := DataW.trod_int Try.underlying3 h1
    refine ⟨n, ?_⟩
    have h3 : i < l.length := by omega
    have h4 : ((l.drop (i * 1)).take 1) = [l[i]'h3] := by
      rw [Nat.mul_one, List.drop_eq_getElem_cons h3]
      rfl
    rw [h4] at e
    simp at e
    rw [List.getElem?_eq_getElem h3, e]
  refine ⟨fun i => match l[i]? with | some (.int _ n) => n | _ => 0, ?_⟩
  apply List.ext_getElem?
  intro i
  have ex : ∀ f, (ints 26 f).toList[i]? = (ints 26 f)[i]? := fun f => Array.getElem?_toList
  rw [ex]
  by_cases h26 : i < 26
  · obtain ⟨n, hn⟩ := key i h26
    rw [ints_get _ h26, hn]
  · have e1 : l[i]? = none := List.getElem?_eq_none (by omega)
    rw [e1, Array.getElem?_eq_none (by rw [ints_size]; omega)]
end
end Go.Proofs.Ythfjkhmedpilnaa

/-
  A slice of numbers as an argument.
-/
namespace Go.Proofs.Ythfjkhmedpilnaa
open Go.RowKit PK Go.ChangeShapes Go.WideShapes Go.ChangeAt

theorem y_own : ownKnob Try.prog.godebug = none := by kernel_rfl
theorem y_laidOut : laidOutB Try.prog = true := by kernel_rfl
end Go.Proofs.Ythfjkhmedpilnaa

/-
  A machine as an argument: opened, with how much room its wheels' notches take.
-/
namespace Go.Proofs.Ythfjkhmedpilnaa
open Go.RowKit PK Go.ChangeShapes Go.WideShapes Go.ChangeAt

/-- So many numbers are told among the sizes of what came in. -/
def Fit {H : Type} (T : TypeId) (d : DataW H) (n : Nat) : Prop := n = 0 ∨ ∃ k, k ∈ d.weights Try.prog T ∧ n * 8 ≤ k
theorem weights_mem_all {H : Type} {P : Program} {e : TypeId} : ∀ {l : List (DataW H)} {d : DataW H}, d ∈ l → ∀ k ∈ d.weights P e, k ∈ DataW.weightsAll P e l
  | x :: l, d, h, k, hk => by
    simp only [DataW.weightsAll, List.mem_append]
    rcases List.mem_cons.1 h with rfl | h
    · exact .inl hk
    · exact .inr (weights_mem_all h k hk)
theorem s_bytes_int : Try.prog.bytesOf 3 = 8 := by kernel_rfl
section
variable {H : Type} {enc : TypeId × Value → H} {W : World}
end
end Go.Proofs.Ythfjkhmedpilnaa

/-
  A machine, and three lists of numbers, as arguments: opened, with the room of each slice.
-/
namespace Go.Proofs.Ythfjkhmedpilnaa
open Go.RowKit PK Go.ChangeShapes Go.WideShapes Go.ChangeAt

theorem add_zero' (a : Addr) : a.add 0 = a := by unfold Addr.add; simp
theorem rt_at {W : World} {a : Addr} {v : Value} (h : W.cell? a = some v) : a.spot = none ∧ ∃ y T fr, W.heap[a.block]? = some (.cells y T fr) := by
  refine ⟨World.cell?_spot h, ?_⟩
  unfold World.cell? at h
  split at h
  · exact ⟨_, _, _, by assumption⟩
  · cases h
theorem rt_add {W : World} {a : Addr} {v : Value} (h : W.cell? (a.add 0) = some v) : a.spot = none ∧ ∃ y T fr, W.heap[a.block]? = some (.cells y T fr) := by
  rw [add_zero'] at h
  exact rt_at h
section
variable {H : Type} {enc : TypeId × Value → H} {W : World}
set_option maxRecDepth 100000 in
theorem trod_nums_r {fuel : Nat} {l : List Value} {x : DataW H × List MemPlace} (h : DataW.trod enc Try.prog W 0 (fun _ => true) true fuel 23 l = some x) : ∃ v n f, l = [v] ∧ NumsAt W v n f ∧ Rt W v ∧ Fit 23 x.1 n := by
  rcases open_ints Try.underlying23 Try.underlying3 o_cells_int h with ⟨hcs0, _⟩ | ⟨a, len, cap, zs, hcs0, _, hl, hm, hzl, hx, hcell, _⟩
  · exact ⟨_, 0, fun _ => 0, hcs0, ⟨none, 0, rfl, by decide, fun c hc => by omega⟩, (fun _ _ _ e => by cases e), .inl rfl⟩
  · simp at hzl
    refine ⟨_, len, fun c => zs.getD c 0, hcs0, ⟨some a, cap, rfl, by omega, fun c hc => ?_⟩, (fun a' l' c' e hp => by cases e; exact rt_add (hcell 0 (by omega))), ?_⟩
    · have h0 := hcell c (by omega)
      have hsp := World.cell?_spot (hcell 0 (by omega))
      obtain ⟨bm, om, spot⟩ := a
      have hspot : spot = none := by simpa [Addr.add] using hsp
      subst hspot
      exact ⟨bm, om, rfl, by rw [← add_plain]; exact h0⟩
    · have e := (Prod.ext_iff.1 hx).1
      rw [e]
      refine .inr ⟨_, by simp only [DataW.weights, Try.underlying23]; exact List.mem_cons_self .., ?_⟩
      rw [s_bytes_int]
      refine Nat.mul_le_mul_right _ ?_
      simp [lits]
      omega
set_option maxRecDepth 100000 in
theorem trod_wheel_r {fuel : Nat} {l : List Value} {x : DataW H × List MemPlace} (h : DataW.trod enc Try.prog W 0 (fun _ => true) true fuel 62 l = some x) : ∃ f v n k, l = (whl f v).toList ∧ NumsAt W v n k ∧ Rt W v ∧ Fit 62 x.1 n := by
  obtain ⟨xs, m, _, hx, hl, hxl, hi⟩ := DataW.trod_struct Try.underlying62 h
  rw [o_cells_wheel] at hl
  have hxl2 : xs.length = 2 := hxl
  have h0 := hi 0 _ rfl
  have h1 := hi 1 _ rfl
  rw [List.getElem?_eq_getElem (by omega)] at h0 h1
  obtain ⟨f, hf⟩ := trod_perm h0
  obtain ⟨v, n, k, hv, hk, hrt, hn⟩ := trod_nums_r h1
  refine ⟨f, v, n, k, ?_, hk, hrt, ?_⟩
  · have e1 : (l.drop 0).take 26 = (ints 26 f).toList := hf
    have e2 : (l.drop 26).take 1 = [v] := hv
    have e3 : l = (l.take 26) ++ ((l.drop 26).take 1) := by
      rw [List.take_of_length_le (l := l.drop 26) (by simp; omega), List.take_append_drop]
    rw [e3, e2, show l.take 26 = (ints 26 f).toList from e1]
    simp [whl]
  · rw [hx]
    rcases hn with hn | ⟨z, hz, hle⟩
    · exact .inl hn
    · refine .inr ⟨z, ?_, hle⟩
      simp only [DataW.weights, Try.underlying62]
      exact DataW.weights_mem_each (j := 1) (t := 23) rfl (by rw [List.getElem?_map, List.getElem?_eq_getElem (by omega)]; rfl) z hz
set_option maxRecDepth 100000 in
theorem trod_wheels_r {fuel : Nat} {l : List Value} {x : DataW H × List MemPlace} (h : DataW.trod enc Try.prog W 0 (fun _ => true) true fuel 22 l = some x) : ∃ v n wi nl no, l = [v] ∧ WhR W v n wi nl no ∧ Rt W v ∧ ∀ r, r < n → Fit 22 x.1 (nl r) := by
  rcases DataW.trod_slice Try.underlying22 h with ⟨e, _⟩ | ⟨a, len, cap, elems, rest, m, _, rfl, hx, hb, hl, hm, hlen, hel, hsp0, _⟩
  · exact ⟨_, 0, fun _ _ => 0, fun _ => 0, fun _ _ => 0, e, ⟨none, 0, fun _ => .slice none 0 0, rfl, by decide, fun r hr => by omega, fun r hr => by omega⟩, (fun _ _ _ e => by cases e), fun r hr => by omega⟩
  · rw [o_cells_wheel] at hel
    have key : ∀ r, ∃ q : (Nat → Int) × Value × Nat × (Nat → Int), r < len → W.cells? 0 (a.add (r * 27)) 27 = some (whl q.1 q.2.1).toList ∧ (NumsAt W q.2.1 q.2.2.1 q.2.2.2 ∧ Rt W q.2.1) ∧ Fit 22 x.1 q.2.2.1 := fun r => by
      by_cases hr : r < len
      · have h1 := hel r hr
        rw [List.getElem?_eq_getElem (by omega)] at h1
        obtain ⟨cs, h2, h3⟩ := Option.bind_eq_some_iff.1 h1
        obtain ⟨f, v, n, k, e, hk, hrt, hn⟩ := trod_wheel_r h3
        refine ⟨(f, v, n, k), fun _ => ⟨by rw [h2, e], ⟨hk, hrt⟩, ?_⟩⟩
        rw [hx]
        rcases hn with hn | ⟨z, hz, hle⟩
        · exact .inl hn
        · refine .inr ⟨z, ?_, hle⟩
          simp only [DataW.weights, Try.underlying22]
          exact List.mem_cons_of_mem _ (List.mem_append.2 (.inl (weights_mem_all (List.mem_map.2 ⟨_, List.getElem_mem _, rfl⟩) z hz)))
      · exact ⟨(fun _ => 0, .slice none 0 0, 0, fun _ => 0), fun h => absurd h hr⟩
    obtain ⟨q, hq⟩ := Classical.axiomOfChoice key
    refine ⟨_, len, fun r => (q r).1, fun r => (q r).2.2.1, fun r => (q r).2.2.2, rfl, ⟨some a, cap, fun r => (q r).2.1, rfl, by omega, fun r hr => ?_, fun r hr => (hq r hr).2.1⟩, ?_, fun r hr => (hq r hr).2.2⟩
    rotate_left
    · intro a' l' c' e hp
      cases e
      by_cases hl0 : 0 < len
      · have h00 := (World.cells?_some (hq 0 hl0).1).2.2 0 (by omega)
        rw [Array.getElem?_toList, whl_get _ _ (by decide), Nat.zero_mul] at h00
        exact rt_add (a := a) (by rw [add_zero'] at h00; first | exact h00 | (rw [add_zero']; exact h00))
      · obtain ⟨hr1, hr2⟩ := hsp0 rfl
        have h1 := hr2 0 (by omega)
        rw [List.getElem?_eq_getElem (by omega)] at h1
        obtain ⟨cs, h2, _⟩ := Option.bind_eq_some_iff.1 h1
        rw [o_cells_wheel] at h2
        have h3 := (World.cells?_some h2).2.2 0 (by omega)
        have h4 := (World.cells?_some h2).2.1
        rw [List.getElem?_eq_getElem (by omega)] at h3
        have hl1 : len = 0 := by omega
        rw [hl1, Nat.zero_add, Nat.zero_mul, add_zero'] at h3
        exact rt_add (a := a) (by first | exact h3 | (rw [add_zero']; exact h3))
    have h1 := (World.cells?_some (hq r hr).1).2.2
    have h00 := (World.cells?_some (hq 0 (by omega)).1).2.2 0 (by omega)
    rw [Array.getElem?_toList, whl_get _ _ (by decide), Nat.zero_mul] at h00
    have hsp := World.cell?_spot h00
    obtain ⟨bm, om, spot⟩ := a
    have hspot : spot = none := by simpa [Addr.add] using hsp
    subst hspot
    refine ⟨bm, om, rfl, fun j v hv => ?_⟩
    have hj : j < 27 := by
      have := (List.getElem?_eq_some_iff.1 hv).1
      rw [Array.length_toList, whl_size] at this
      exact this
    have h2 := h1 j hj
    rw [hv, Addr.add_mid, Addr.add_mid] at h2
    exact h2
set_option maxHeartbeats 2000000 in
set_option maxRecDepth 100000 in
theorem open_machine_r {base : Nat} {v : Value} {d : DataW H} {ps : List MemPlace} (hval : Value.okWide Try.prog W .any base 27 v) (h : DataW.Trod enc Try.prog W 0 (fun _ => true) true 27 v d ps) : ∃ g, MacR W v g ∧ (∀ r, r < g.n → Fit 27 d (g.nl r)) ∧ Fit 27 d g.rl := by
  obtain ⟨cs, rfl, hsz, _⟩ : ∃ cs, v = .agg cs ∧ cs.size = Try.prog.cellsOf 27 ∧ Row.okWide Try.prog W .any base 27 cs := by
    unfold Value.okWide at hval
    rw [Try.underlying27] at hval
    exact hval
  rw [o_cells_mac] at hsz
  obtain ⟨fuel, hf⟩ := h
  have hcs : (Value.agg cs).cells.toList = cs.toList := rfl
  rw [hcs] at hf
  obtain ⟨xs, m, _, hx, hl, hxl, hi⟩ := DataW.trod_struct Try.underlying27 hf
  have hxl2 : xs.length = 5 := hxl
  have h0 := hi 0 _ rfl
  have h1 := hi 1 _ rfl
  have h2 := hi 2 _ rfl
  have h3 := hi 3 _ rfl
  have h4 := hi 4 _ rfl
  rw [List.getElem?_eq_getElem (by omega)] at h0 h1 h2 h3 h4
  obtain ⟨v0, n, wi, nl, no, e0, k0, rt0, hb0⟩ := trod_wheels_r h0
  obtain ⟨v1, rl, ri, e1, k1, rt1, hb1⟩ := trod_nums_r h1
  obtain ⟨v2, sl, st, e2, k2, rt2, _⟩ := trod_nums_r h2
  obtain ⟨rf, e3⟩ := trod_perm h3
  obtain ⟨pl, e4⟩ := trod_perm h4
  have hbd : ∀ r, r < n → Fit 27 d (nl r) := fun r hr => by
    have e' : d = .agg (xs.map (·.1)) := (Prod.ext_iff.1 hx).1
    rw [e']
    rcases hb0 r hr with hn | ⟨z, hz, hle⟩
    · exact .inl hn
    · refine .inr ⟨z, ?_, hle⟩
      simp only [DataW.weights, Try.underlying27]
      exact DataW.weights_mem_each (j := 0) (t := 22) rfl (by rw [List.getElem?_map, List.getElem?_eq_getElem (by omega)]; rfl) z hz
  have hbr : Fit 27 d rl := by
    have e' : d = .agg (xs.map (·.1)) := (Prod.ext_iff.1 hx).1
    rw [e']
    rcases hb1 with hn | ⟨z, hz, hle⟩
    · exact .inl hn
    · refine .inr ⟨z, ?_, hle⟩
      simp only [DataW.weights, Try.underlying27]
      exact DataW.weights_mem_each (j := 1) (t := 23) rfl (by rw [List.getElem?_map, List.getElem?_eq_getElem (by omega)]; rfl) z hz
  refine ⟨⟨n, wi, nl, no, rl, ri, sl, st, rf, pl⟩, ⟨v0, v1, v2, ?_, k0, k1, k2, rt0, rt1, rt2⟩, hbd, hbr⟩
  have e0' : (cs.toList.drop 0).take 1 = [v0] := e0
  have e1' : (cs.toList.drop 1).take 1 = [v1] := e1
  have e2' : (cs.toList.drop 2).take 1 = [v2] := e2
  have e3' : (cs.toList.drop 3).take 26 = (ints 26 rf).toList := e3
  have e4' : (cs.toList.drop 29).take 26 = (ints 26 pl).toList := e4
  have hlen : cs.toList.length = 55 := by simpa using hsz
  have key : cs.toList = [v0] ++ ([v1] ++ ([v2] ++ ((ints 26 rf).toList ++ (ints 26 pl).toList))) := by
    rw [← e0', ← e1', ← e2', ← e3', ← e4']
    generalize cs.toList = l at hlen
    have q4 : (l.drop 29).take 26 = l.drop 29 := List.take_of_length_le (by simp; omega)
    have q3 : (l.drop 3).take 26 ++ l.drop 29 = l.drop 3 := by
      have := List.take_append_drop 26 (l.drop 3)
      rw [List.drop_drop] at this
      exact this
    have q2 : (l.drop 2).take 1 ++ l.drop 3 = l.drop 2 := by
      have := List.take_append_drop 1 (l.drop 2)
      rw [List.drop_drop] at this
      exact this
    have q1 : (l.drop 1).take 1 ++ l.drop 2 = l.drop 1 := by
      have := List.take_append_drop 1 (l.drop 1)
      rw [List.drop_drop] at this
      exact this
    have q0 : (l.drop 0).take 1 ++ l.drop 1 = l := by
      rw [List.drop_zero]
      exact List.take_append_drop 1 l
    rw [q4, q3, q2, q1, q0]
  have e : cs = mac v0 v1 v2 rf pl := by
    refine Array.toList_inj.1 (key.trans ?_)
    unfold mac
    rw [Array.toList_append, Array.toList_append]
    rfl
  rw [e]
end
end Go.Proofs.Ythfjkhmedpilnaa
