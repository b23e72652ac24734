/-
  Several texts, joined: CuC, CtM, CtN, CtO, FdA.
-/
import Derived.Test.YthfjkhmedpilnaaCuB
import Derived.Test.YthfjkhmedpilnaaJn32
import Derived.Calls
import Derived.Below
import Derived.WalkKit
import Derived.Test.YthfjkhmedpilnaaJn19
/-
  chart.Every is a pool.
-/
namespace Go.Proofs.Ythfjkhmedpilnaa.Cs
open Go.Conc
variable [Fns]
/-- The pool of chart.Every, out of the boxes that it reads and of the job's contract. -/
noncomputable def everyScr {Post : Nat → Value → World → Prop} (c : Cst) (bF bM bL bD : Nat) (vm vl : Value) (cs : List Frame) (wk : WkP c bF bM bL bD vm vl) (hn : 1 ≤ c.n ∧ c.n ≤ 1000) (hK : c.K = 26) (hz : c.z1 = .int .i64 0 ∧ c.z2 = .bool false ∧ c.zs1 = .tuple #[] ∧ c.zs2 = .tuple #[])
    (hB : c.fB = 50) (har : c.ar = fun k => #[vm, .int .i64 (k : Nat), vl]) (s1 : 1 ≤ c.S0) (d1 : c.C1 < c.N1 ∧ c.C2 < c.N1 ∧ c.Fd < c.N1 ∧ c.C1 ≠ c.C2 ∧ c.C1 ≠ c.Fd ∧ c.C2 ≠ c.Fd) (fok : Fns.ok c.fB = true)
    (job : ∀ k, k < c.K → ∀ w, c.Ok w → ∃ (E : Env) (wl : World) (x : Array Value), (∀ b q s o, E b = some (q, s, o) → o = false ∧ c.Fix q) ∧ LR E x (c.ar k) ∧ WR Try.prog E wl w ∧ Fns.G ≤ wl.heap.size ∧ ∀ τ, Calls Try.prog c.fB x (wl.tp τ) fun e w' => ∃ v, e = .returned v ∧ Post k v w')
    (okv : ∀ k v wl (E : Env) v', Post k v wl → VR E v v' → ∃ a l cp, v' = .slice a l cp) : Scr Try.prog c Post where
  Rec := wRec c bF bM bL bD
  Snd := wSnd c bF bM bL bD
  Cal := wCal c bF bM bL bD vm vl
  Sto := wSto c bF bM bL bD
  GoP := eGoP c bF bM bL bD c.n cs
  SndP := eSndP c bF bM bL bD c.n cs
  ClP := eClP c bF bM bL bD c.n cs
  RcvP := eRcvP c bF bM bL bD c.n cs
  JnP := eJnP c bF bM bL bD c.n cs
  OkV := fun v => ∃ a l cp, v = .slice a l cp
  n1 := hn.1
  k1 := by omega
  s1 := s1
  d1 := d1
  rec_s := fun g h => by rw [hz.1]; exact wRec_s h
  rec_job := fun g h k _ w _ => wRec_job wk h k
  rec_end := fun g h w _ => by rw [hz.1]; exact wRec_end wk h
  cal := fun k g h hk => by
    obtain ⟨cal, rest, e, hc⟩ := wCal_on (by omega) h
    refine ⟨cal, rest, ?_, fun v _ w _ => hc v w⟩
    rw [hB, har]
    exact e
  sto := fun k v g h hk hv => by
    obtain ⟨a, l, cp, rfl⟩ := hv
    obtain ⟨h1, g', h2, h3, h4⟩ := wSto_s hk h
    exact ⟨h1, g', h2, h3, fun w _ => h4 w⟩
  snd_s := fun g h => by rw [hz.2.2.2]; exact wSnd_s h
  gop := fun j g h hj => by
    obtain ⟨h1, g', h2, h3⟩ := eGo_s h
    exact ⟨h1, g', _, h2, fun w _ => wBorn wk, fun w _ => eGo_on wk hn.2 hj h3⟩
  sndp := fun k g h hk => by
    obtain ⟨h1, h2⟩ := eSnd_s h
    rw [hz.2.2.1]
    refine ⟨h1, h2, fun w _ => ?_⟩
    simp only [hK]
    exact eSnd_on wk (by omega) h
  clp := fun g h => by
    obtain ⟨h1, h2, g', h3, h4, h5⟩ := eCl_s hn.1 wk h
    exact ⟨h1, h2, g', h3, h4, fun w _ => h5 w⟩
  rcvp := fun r g h hr => by
    obtain ⟨h1, h2⟩ := eRcv_s h
    rw [hz.2.1]
    exact ⟨h1, h2, fun w _ => eRcv_on wk hn.2 hr h⟩
  fok := fok
  job := job
  okv := okv
end Go.Proofs.Ythfjkhmedpilnaa.Cs

/-
  A piece of a call, from the middle on: it returns in company what it returns alone.
-/
namespace Go.Proofs.Ythfjkhmedpilnaa.Cs
open Go.Conc
/-- What a body comes to. -/
def PostE (Post : Value → World → Prop) (e : Ending) (w' : World) : Prop := ∃ v, e = .returned v ∧ Post v w'
section
variable {P : Program} {Post : Value → World → Prop} {fn : FuncId} {f : Func} {x : Array Value} {cs : List Frame} {w : World}
/-- Where code comes to, told of the frame. -/
theorem reach_of_arrives (hf : P.funcs[fn]? = some f) {m : Machine} {g : Goroutine} (hm : lone g.frame g.callers w = m) {e : Exit} {a' : Act} {w' : World} (hq : bodyPost P f (PostE Post) e a' w') (h : Arrives P m (mkF fn #[] [] .run) [] cs e a' w') : Reach P cs Post g w := by
  have hat : ∀ a todo, (mkF fn #[] [] .run).at a todo = { mkF fn a.tmps todo .run with defers := a.defers } := fun a todo => rfl
  subst hm
  cases e with
  | normal =>
    obtain ⟨hd, v, hr, u, hu, hp⟩ := hq
    cases hu
    obtain ⟨n, hn⟩ := Steps.trans h (.one step_end)
    exact ⟨n, _, w', v, hn, ⟨rfl, hd, rfl, f, hf, hr⟩, hp⟩
  | ret =>
    obtain ⟨hd, v, hr, u, hu, hp⟩ := hq
    cases hu
    obtain ⟨todo, n, hn⟩ := h
    exact ⟨n, _, w', v, hn, ⟨rfl, hd, rfl, f, hf, hr⟩, hp⟩
  | panic chain =>
    obtain ⟨_, u, hu, _⟩ := hq
    cases hu
  | outgrown =>
    obtain ⟨u, hu, _⟩ := hq
    cases hu
  | exit id => exact hq.elim
  | goto l => exact hq.elim
theorem reach_code (hf : P.funcs[fn]? = some f) {c : Code} (h : c.wp P (bodyPost P f (PostE Post)) ⟨x, []⟩ w) : Reach P cs Post (G (mkF fn x [.code c] .run) cs) w := by
  obtain ⟨e, a', w', hq, harr⟩ := h (mkF fn #[] [] .run) [] cs
  exact reach_of_arrives hf rfl hq harr
/-- The rest of a region, and code behind it. -/
theorem reach_region (hf : P.funcs[fn]? = some f) {ops : Array Oper} {l : List Nat} {c : Code} (h : wpOps P ops (Exit.then (c.wp P (bodyPost P f (PostE Post))) (bodyPost P f (PostE Post))) l ⟨x, []⟩ w) : Reach P cs Post (G (mkF fn x [.inRegion ops l, .code c] .run) cs) w := by
  obtain ⟨e, a1, w1, hq, harr⟩ := wp_ops l ⟨x, []⟩ w h (mkF fn #[] [] .run) [.code c] cs
  cases e with
  | normal =>
    obtain ⟨e2, a2, w2, hq2, harr2⟩ := hq (mkF fn #[] [] .run) [] cs
    exact reach_of_arrives hf rfl hq2 (.of_steps harr harr2)
  | exit id => exact hq.elim
  | goto l => exact hq.elim
  | ret => exact reach_of_arrives (e := .ret) hf rfl hq (.pass (x := .code c) rfl (fun _ _ => .inl (by simp)) harr)
  | panic ch => exact reach_of_arrives (e := .panic ch) hf rfl hq (.pass (x := .code c) rfl (fun _ _ => .inl (by simp)) harr)
  | outgrown => exact reach_of_arrives (e := .outgrown) hf rfl hq (.pass (x := .code c) rfl (fun _ _ => .inl (by simp)) harr)
end
variable [Fns]
section
variable {P : Program} {Post : Value → World → Prop} {c : List Frame} {E : Env} {wl w : World}
/-- From the middle of a call on. -/
theorem InCall.mid {fn : FuncId} (hf : HasF P fn) {x y : Array Value} (hx : LR E x y) (hw : WR P E wl w) (hb : Fns.G ≤ wl.heap.size) {todo : List Item} (ht : todo.all (itemOk P) = true) (hr : ∀ τ, Reach P [trap P] Post (G (mkF fn x todo .run) [trap P]) (wl.tp τ)) :
    InCall P Post c E (G (mkF fn x todo .run) [trap P]) wl (G (mkF fn y todo .run) c) w :=
  ⟨.mk' hf hx ht (.inl rfl) .base, hw, hb, fun τ _ => hr τ⟩
end
end Go.Proofs.Ythfjkhmedpilnaa.Cs

/-
  What is read in company, laid into a lone world, frozen; and what a lone world tells, told in company.
-/
namespace Go.Proofs.Ythfjkhmedpilnaa.Cs
open Go.Conc Go.RowKit
variable [Fns]
/-- A lone world of frozen copies. -/
structure Cp (P : Program) (E : Env) (wl w : World) : Prop where
  wr : WR P E wl w
  big : Fns.G ≤ wl.heap.size
  sh : ∀ b q s o, E b = some (q, s, o) → o = false
  top : ∀ b, wl.heap.size ≤ b → E b = none
/-- A copy that knows more. -/
structure CpLe (E E' : Env) (wl wl' : World) : Prop where
  le : E.le E'
  size : wl.heap.size ≤ wl'.heap.size
  old : ∀ b, b < wl.heap.size → wl'.heap[b]? = wl.heap[b]?
  os : wl'.os = wl.os
  tape : wl'.tape = wl.tape
  output : wl'.output = wl.output
omit [Fns] in
theorem CpLe.refl (E : Env) (wl : World) : CpLe E E wl wl := ⟨E.le_refl, Nat.le_refl _, fun _ _ => rfl, rfl, rfl, rfl⟩
omit [Fns] in
theorem CpLe.trans {A B C : Env} {u v w : World} (h : CpLe A B u v) (k : CpLe B C v w) : CpLe A C u w :=
  ⟨Env.le_trans h.le k.le, Nat.le_trans h.size k.size, fun b hb => (k.old b (Nat.lt_of_lt_of_le hb h.size)).trans (h.old b hb), k.os.trans h.os, k.tape.trans h.tape, k.output.trans h.output⟩
omit [Fns] in
theorem CpLe.cell {E E' : Env} {wl wl' : World} (h : CpLe E E' wl wl') {a : Addr} {v : Value} (hc : wl.cell? a = some v) : wl'.cell? a = some v := by
  have hb : a.block < wl.heap.size := World.block_lt_of_cell? _ _ hc
  have := h.old a.block hb
  unfold World.cell? at hc ⊢
  rw [this]
  exact hc
section
variable {P : Program} {w : World}
/-- It begins with nothing. -/
theorem Cp.nil (w : World) : Cp P (fun _ => none) { w with heap := Array.replicate Fns.G (.cells #[] 0) } w :=
  ⟨⟨fun _ _ _ e => (by cases e), fun _ _ _ e => (by cases e), fun _ _ _ _ _ _ e => (by cases e), fun _ _ e => (by cases e)⟩, by simp, fun _ _ _ _ e => (by cases e), fun _ _ => rfl⟩
/-- A piece of a row is laid. -/
theorem Cp.row {E : Env} {wl : World} (h : Cp P E wl w) {TJ : TypeId} (hJ : P.info? TJ = none) {q s : Nat} {y : Array Value} {T' : TypeId} {fr : Nat × Nat} (hq : w.heap[q]? = some (.cells y T' fr)) (x : Array Value) (hx : ∀ (i : Nat) u, x[i]? = some u → ∃ v, y[i + s]? = some v ∧ VR E u v) :
    ∃ E', Cp P E' (wl.alloc (.cells x TJ (0, x.size))) w ∧ CpLe E E' wl (wl.alloc (.cells x TJ (0, x.size))) ∧ (∀ o, AR E' ⟨wl.heap.size, o, none⟩ ⟨q, o + s, none⟩) ∧ ∀ i u, x[i]? = some u → (wl.alloc (.cells x TJ (0, x.size))).cell? ⟨wl.heap.size, i, none⟩ = some u := by
  let E' : Env := fun b => if b = wl.heap.size then some (q, s, false) else E b
  have hn : E wl.heap.size = none := h.top _ (Nat.le_refl _)
  have hle : E.le E' := fun b x e => by
    show (if b = wl.heap.size then some (q, s, false) else E b) = some x
    rw [if_neg (fun e' => by rw [e', hn] at e; cases e)]
    exact e
  have hsz : (wl.alloc (.cells x TJ (0, x.size))).heap.size = wl.heap.size + 1 := by simp
  have hold : ∀ b, b < wl.heap.size → (wl.alloc (.cells x TJ (0, x.size))).heap[b]? = wl.heap[b]? := fun b hb => Below.heap_alloc wl _ b hb
  have hnew : (wl.alloc (.cells x TJ (0, x.size))).heap[wl.heap.size]? = some (.cells x TJ (0, x.size)) := heap_alloc_new wl _
  have hE : ∀ b q' s' o, E' b = some (q', s', o) → (b = wl.heap.size ∧ q' = q ∧ s' = s ∧ o = false) ∨ E b = some (q', s', o) := fun b q' s' o e => by
    have e' : (if b = wl.heap.size then some (q, s, false) else E b) = some (q', s', o) := e
    by_cases hb : b = wl.heap.size
    · rw [if_pos hb] at e'
      cases e'
      exact .inl ⟨hb, rfl, rfl, rfl⟩
    · rw [if_neg hb] at e'
      exact .inr e'
  refine ⟨E', ⟨⟨fun b c s' e => ?_, fun b c s' e => ?_, fun b b' c s' s'' o e e2 => ?_, fun b x' e => ?_⟩, by rw [hsz]; exact Nat.le_succ_of_le h.big, fun b q' s' o e => ?_, fun b hb => ?_⟩, ⟨hle, by rw [hsz]; exact Nat.le_succ _, hold, rfl, rfl, rfl⟩, fun o => ⟨s, false, by show (if wl.heap.size = wl.heap.size then _ else _) = _; rw [if_pos rfl], rfl, rfl, h.big, fun e => by cases e⟩, fun i u hu => ?_⟩
  · rcases hE b c s' true e with ⟨_, _, _, e'⟩ | e'
    · cases e'
    · have := h.sh _ _ _ _ e'
      cases this
  · rcases hE b c s' false e with ⟨rfl, rfl, rfl, _⟩ | e'
    · exact ⟨x, TJ, y, T', fr, hnew, hJ, hq, fun i u hu => by
        obtain ⟨v, h1, h2⟩ := hx i u hu
        exact ⟨v, h1, h2.mono hle⟩⟩
    · obtain ⟨x', T, y', T2, fr', h1, h2, h3, h4⟩ := h.wr.shared b c s' e'
      exact ⟨x', T, y', T2, fr', (hold b (h.wr.lt e').1).trans h1, h2, h3, fun i u hu => by
        obtain ⟨v, k1, k2⟩ := h4 i u hu
        exact ⟨v, k1, k2.mono hle⟩⟩
  · rcases hE b c s' true e with ⟨_, _, _, e'⟩ | e'
    · cases e'
    · have := h.sh _ _ _ _ e'
      cases this
  · obtain ⟨q', s', o⟩ := x'
    rcases hE b q' s' o e with ⟨rfl, _⟩ | e'
    · exact h.big
    · exact h.wr.low b _ e'
  · rcases hE b q' s' o e with ⟨_, _, _, e'⟩ | e'
    · exact e'
    · exact h.sh _ _ _ _ e'
  · rw [hsz] at hb
    show (if b = wl.heap.size then some (q, s, false) else E b) = none
    rw [if_neg (by omega)]
    exact h.top b (by omega)
  · rw [cell_of_row _ _ _ _ _ _ hnew]
    exact hu
end
end Go.Proofs.Ythfjkhmedpilnaa.Cs

/-
  Whatever a frame holds is related to something.
-/
namespace Go.Proofs.Ythfjkhmedpilnaa.Cs
variable [Fns]
theorem pick_row {E : Env} {c : Array Value} (ih : ∀ (i : Nat) (hi : i < c.size), ∃ u, VR E u c[i]) : ∃ x, LR E x c := by
  refine ⟨Array.ofFn fun i : Fin c.size => (ih i i.2).choose, by simp, fun i u v hu hv => ?_⟩
  obtain ⟨hi, rfl⟩ := Array.getElem?_eq_some_iff.1 hv
  obtain ⟨hj, rfl⟩ := Array.getElem?_eq_some_iff.1 hu
  simp only [Array.getElem_ofFn]
  exact (ih i hi).choose_spec
theorem junkN (E : Env) : ∀ (n : Nat) (v : Value), SizeOf.sizeOf v < n → ∃ u, VR E u v
  | 0, _, h => absurd h (Nat.not_lt_zero _)
  | n + 1, v, h => by
    cases v with
    | agg c =>
      obtain ⟨x, hx⟩ := pick_row (E := E) (c := c) fun i hi => junkN E n c[i] (by
        have := Array.sizeOf_getElem c i hi
        simp only [Value.agg.sizeOf_spec] at h
        omega)
      exact ⟨_, .mkAgg hx⟩
    | tuple c =>
      obtain ⟨x, hx⟩ := pick_row (E := E) (c := c) fun i hi => junkN E n c[i] (by
        have := Array.sizeOf_getElem c i hi
        simp only [Value.tuple.sizeOf_spec] at h
        omega)
      exact ⟨_, .mkTuple hx⟩
    | bool b => exact ⟨_, .bool b⟩
    | nilIface => exact ⟨_, .nilIface⟩
    | _ => exact ⟨_, .any _ rfl⟩
theorem junk (E : Env) (v : Value) : ∃ u, VR E u v := junkN E _ v (Nat.lt_succ_self _)
/-- A row to a frame's: what is given at some places, anything at the others. -/
theorem row_with {E : Env} (y : Array Value) (f : Nat → Option Value) (hf : ∀ (i : Nat) u v, f i = some u → y[i]? = some v → VR E u v) : ∃ x, LR E x y ∧ ∀ (i : Nat) u, f i = some u → i < y.size → x[i]? = some u := by
  have ih : ∀ (i : Nat) (hi : i < y.size), ∃ u, VR E u y[i] ∧ ∀ u', f i = some u' → u' = u := fun i hi => by
    cases h : f i with
    | none => obtain ⟨u, hu⟩ := junk E y[i]; exact ⟨u, hu, fun u' e => by cases e⟩
    | some u => exact ⟨u, hf i u _ h (Array.getElem?_eq_getElem hi), fun u' e => by cases e; rfl⟩
  refine ⟨Array.ofFn fun i : Fin y.size => (ih i i.2).choose, ⟨by simp, fun i u v hu hv => ?_⟩, fun i u hu hi => ?_⟩
  · obtain ⟨hi, rfl⟩ := Array.getElem?_eq_some_iff.1 hv
    obtain ⟨hj, rfl⟩ := Array.getElem?_eq_some_iff.1 hu
    simp only [Array.getElem_ofFn]
    exact (ih i hi).choose_spec.1
  · rw [Array.getElem?_eq_getElem (by simpa using hi), Array.getElem_ofFn, (ih i hi).choose_spec.2 u hu]
end Go.Proofs.Ythfjkhmedpilnaa.Cs

/-
  What chart.Every does behind the last receive: the lists of the letters, one behind the other.
-/
namespace Go.Proofs.Ythfjkhmedpilnaa
open Go.RowKit PK Vg
set_option maxRecDepth 100000 in
set_option maxHeartbeats 4000000 in
theorem ev_rest (v0 v1 v2 v3 v4 v5 v6 v7 v8 v10 v11 v12 v13 v14 v15 v16 v17 v18 v19 v20 v21 v22 v23 v24 v25 v26 v27 v28 v29 v30 v31 v32 v33 v34 v35 v36 v37 v38 v39 v40 v41 v42 v43 v44 v45 v46 v47 v48 v49 v50 v51 v52 : Value) (bF : Nat) (V : Nat → Value) (T' : TypeId) (fr : Nat × Nat) (L : Nat → List Nat) (m : Nat) (hL : ∀ k, (L k).length ≤ 676) (w : World) (hF : w.heap[bF]? = some (.cells (tab 26 V) T' fr)) (hV : ∀ k, k < 26 → LsA w (V k) (L k) m) :
    Cs.eT5.wp Try.prog (bodyPost Try.prog Try.f19 (Cs.PostE fun v w' => ∃ u, v = .tuple #[u, .int .i64 0] ∧ LsN w' w.heap.size u (cats L 26) m ∧ Below w.heap.size w w')) ⟨#[v0, v1, v2, v3, v4, v5, v6, v7, v8, .pointer (some ⟨bF, 0, none⟩), v10, v11, v12, v13, v14, v15, v16, v17, v18, v19, v20, v21, v22, v23, v24, v25, v26, v27, v28, v29, v30, v31, v32, v33, v34, v35, v36, v37, v38, v39, v40, v41, v42, v43, v44, v45, v46, v47, v48, v49, v50, v51, v52], []⟩ w := by
  obtain ⟨i0, hi0, hz0, hz1, hz2⟩ := f_info_parts f_info_ints
  have hCL := cats_len hL
  have hbF : bF < w.heap.size := (Array.getElem?_eq_some_iff.1 hF).1
  have HV := (show Hid (∀ k, k < 26 → LsA w (V k) (L k) m) from hV)
  clear hV hL
  simp only [Cs.eT5, Cs.eT4, Cs.eT3, Cs.eT2, Cs.eT1, Cs.eBody, Try.f19, Option.getD_some]
  go_wp2_with (first | refine wpList_load_row rfl 94 _ rfl bF rfl T' (tab 26 V) fr _ hF Try.underlying94 rfl (by rw [tab_size]; exact f_size_26) ?_)
  clear hF
  go_loopw [13, 45] (fun o x W => ∃ (i : Nat) (u : Value), i ≤ 26 ∧ x = .int .i64 (i : Nat) ∧ u = o ∧ (∃ vs : List Value, W.ownsRow w.heap.size 23 1 u (cats L i).length vs ∧ ∀ (k : Nat) (u : Value) (N : Nat), vs[k]? = some u → (cats L i)[k]? = some N → NumsAt w u m fun i => ((dig m N i : Nat) : Int)) ∧ Below w.heap.size w W) (fun _ x _ => ((26 : Int) - intOf x).toNat)
  case atStart => exact ⟨0, .slice none 0 0, by omega, rfl, rfl, ⟨[], World.ownsRow_nil w _ _ 1, fun k u N h => by simp at h⟩, Below.refl _ _⟩
  case round =>
    obtain ⟨i, u, hi, rfl, rfl, ⟨vs, hown, hvs⟩, hbe⟩ := hrel
    by_cases hlt : i < 26
    · have HLT : Hid (i < 26) := hlt
      have hlt2 : (i : Int) < 26 := by omega
      have hix := fun W => run_index_26 V i hlt W
      have hci := hCL i
      have hci1 := hCL (i + 1)
      rw [show cats L (i + 1) = cats L i ++ L i from rfl, List.length_append] at hci1
      have hsz := hbe.size
      rcases HV.out i hlt with ⟨hv0, hL0⟩ | ⟨ab, ao, c, ws, hv0, hwl, hwc, hw1, hwN⟩
      · rw [hv0] at hix
        have HC : Hid (cats L (i + 1) = cats L i) := by show cats L i ++ L i = _; rw [hL0, List.append_nil]
        have HVS := (show Hid _ from hvs)
        have HB := (show Hid _ from hbe)
        clear hlt hv0 hL0 hvs hbe hCL hci hci1
        go_wp2_with (first | (at_builtin; refine wpList_append_own_none rfl _ _ 29 rfl w.heap.size 23 i0 1 Try.underlying29 hi0 u _ vs rfl hown rfl ?_))
        go_roundw
        case rel => exact ⟨i + 1, u, HLT.out, by go_num, by first | rfl | trivial, ⟨vs, by rw [HC.out]; exact hown, by rw [HC.out]; exact HVS.out⟩, HB.out⟩
        case measure => have := HLT.out; simp [intOf]; omega
      · rw [hv0] at hix
        have hnews : ∀ (j : Nat) x, ws[j]? = some x → wr.cell? ((⟨ab, ao, none⟩ : Addr).add j) = some x := fun j x hx => by
          have h1 := hwc j x hx
          rw [Addr.add_lit]
          exact (hbe.cell (cell_block h1)).trans h1
        have HVS := (show Hid _ from hvs)
        have HWN := (show Hid _ from hwN)
        have HWL := (show Hid _ from hwl)
        have HB := (show Hid _ from hbe)
        clear hlt hv0 hvs hbe hCL hwc hwN
        go_wp2_with (first | (at_builtin; refine wpList_append_own _ rfl _ _ 29 rfl w.heap.size 23 i0 (.slice none 0 0) 1 24 Try.underlying29 hi0 hz0 hz1 hz2 rfl (by decide) u _ vs rfl hown ⟨ab, ao, none⟩ _ c ws rfl (by rw [HWL.out, Nat.mul_one]) hnews hw1 (by unfold maxLen; omega) (by omega) hsz ?_; intro v' w1 hown' hgrow _))
        go_roundw
        case rel =>
          refine ⟨i + 1, v', HLT.out, by go_num, by first | rfl | trivial, ⟨vs ++ ws, ?_, fun k x N h1 h2 => ?_⟩, ?_⟩
          · rw [show cats L (i + 1) = cats L i ++ L i from rfl, List.length_append]
            exact hown'
          · rw [show cats L (i + 1) = cats L i ++ L i from rfl] at h2
            have hvl : vs.length = (cats L i).length := by have := hown.1; simpa using this
            by_cases hkk : k < vs.length
            · rw [List.getElem?_append_left hkk] at h1
              rw [List.getElem?_append_left (by omega)] at h2
              exact HVS.out k x N h1 h2
            · rw [List.getElem?_append_right (by omega)] at h1
              rw [List.getElem?_append_right (by omega), ← hvl] at h2
              exact HWN.out _ x N h1 h2
          · exact HB.out.grown hgrow hsz (fun p hp => (World.ownsRow.lt hown p hp).1)
        case measure => have := HLT.out; simp [intOf]; omega
    · obtain rfl : i = 26 := by omega
      have HVS := (show Hid _ from hvs)
      have HB := (show Hid _ from hbe)
      clear hlt hvs hbe hCL
      have hout : ∀ W', W' = wr → ∃ u', Value.tuple #[u, .int .i64 0] = .tuple #[u', .int .i64 0] ∧ LsN W' w.heap.size u' (cats L 26) m ∧ Below w.heap.size w W' := fun W' e => by
        subst e
        exact ⟨u, rfl, ⟨vs, hown, fun k x N h1 h2 => (HVS.out k x N h1 h2).below HB.out⟩, HB.out⟩
      have HO := (show Hid _ from hout)
      clear hout hown HVS HB
      go_wp2_with fail
      refine ⟨rfl, .tuple #[u, .int .i64 0], ?_, _, rfl, HO.out _ rfl⟩
      simp [results, Array.mapM_eq_mapM_toList, List.mapM_cons]
end Go.Proofs.Ythfjkhmedpilnaa
