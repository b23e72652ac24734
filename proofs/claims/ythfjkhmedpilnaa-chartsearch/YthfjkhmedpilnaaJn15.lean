/-
  Several texts, joined: CuC, CtM, CtN, CtO, CtP, CuD, CtQ, CtR.
-/
import Derived.Test.YthfjkhmedpilnaaCuB
import Derived.Test.YthfjkhmedpilnaaJn14
import Derived.Calls
import Derived.Below
import Derived.WalkKit
import Derived.Test.YthfjkhmedpilnaaJn7
import Derived.Test.YthfjkhmedpilnaaChecked
import Derived.KernelRfl
import Derived.Conc.CompanyCalls
/-
  chart.Every is a pool.
-/
namespace Go.Proofs.Ythfjkhmedpilnaa.Cs
open Go.Conc
variable [Fns]
/-- The pool of chart.Every, out of the boxes that it reads and of the job's contract. -/
noncomputable def everyScr {Post : Nat → Value → World → Prop} (c : Cst) (bF bM bL bD : Nat) (vm vl : Value) (cs : List Frame) (wk : WkP c bF bM bL bD vm vl) (hn : 1 ≤ c.n ∧ c.n ≤ 1000) (hK : c.K = 26) (hz : c.z1 = .int .i64 0 ∧ c.z2 = .bool false ∧ c.zs1 = .tuple #[] ∧ c.zs2 = .tuple #[])
    (hB : c.fB = 50) (har : c.ar = fun k => #[vm, .int .i64 (k : Nat), vl]) (s1 : 1 ≤ c.S0) (d1 : c.C1 < c.N1 ∧ c.C2 < c.N1 ∧ c.Fd < c.N1 ∧ c.C1 ≠ c.C2 ∧ c.C1 ≠ c.Fd ∧ c.C2 ≠ c.Fd) (fok : Fns.ok c.fB = true)
    (job : ∀ k, k < c.K → ∀ w, c.Ok w → ∃ (E : Env) (wl : World) (x : Array Value), (∀ b q s o, E b = some (q, s, o) → o = false ∧ c.Fix q) ∧ LR E x (c.ar k) ∧ WR Try.prog E wl w ∧ Fns.G ≤ wl.heap.size ∧ ∀ τ, Calls Try.prog c.fB x (wl.tp τ) fun e w' => ∃ v, e = .returned v ∧ Post k v w')
    (okv : ∀ k v wl (E : Env) v', Post k v wl → VR E v v' → ∃ a l cp, v' = .slice a l cp) : Scr Try.prog c Post where
  Rec := wRec c bF bM bL bD
  Snd := wSnd c bF bM bL bD
  Cal := wCal c bF bM bL bD vm vl
  Sto := wSto c bF bM bL bD
  GoP := eGoP c bF bM bL bD c.n cs
  SndP := eSndP c bF bM bL bD c.n cs
  ClP := eClP c bF bM bL bD c.n cs
  RcvP := eRcvP c bF bM bL bD c.n cs
  JnP := eJnP c bF bM bL bD c.n cs
  OkV := fun v => ∃ a l cp, v = .slice a l cp
  n1 := hn.1
  k1 := by omega
  s1 := s1
  d1 := d1
  rec_s := fun g h => by rw [hz.1]; exact wRec_s h
  rec_job := fun g h k _ w _ => wRec_job wk h k
  rec_end := fun g h w _ => by rw [hz.1]; exact wRec_end wk h
  cal := fun k g h hk => by
    obtain ⟨cal, rest, e, hc⟩ := wCal_on (by omega) h
    refine ⟨cal, rest, ?_, fun v _ w _ => hc v w⟩
    rw [hB, har]
    exact e
  sto := fun k v g h hk hv => by
    obtain ⟨a, l, cp, rfl⟩ := hv
    obtain ⟨h1, g', h2, h3, h4⟩ := wSto_s hk h
    exact ⟨h1, g', h2, h3, fun w _ => h4 w⟩
  snd_s := fun g h => by rw [hz.2.2.2]; exact wSnd_s h
  gop := fun j g h hj => by
    obtain ⟨h1, g', h2, h3⟩ := eGo_s h
    exact ⟨h1, g', _, h2, fun w _ => wBorn wk, fun w _ => eGo_on wk hn.2 hj h3⟩
  sndp := fun k g h hk => by
    obtain ⟨h1, h2⟩ := eSnd_s h
    rw [hz.2.2.1]
    refine ⟨h1, h2, fun w _ => ?_⟩
    simp only [hK]
    exact eSnd_on wk (by omega) h
  clp := fun g h => by
    obtain ⟨h1, h2, g', h3, h4, h5⟩ := eCl_s hn.1 wk h
    exact ⟨h1, h2, g', h3, h4, fun w _ => h5 w⟩
  rcvp := fun r g h hr => by
    obtain ⟨h1, h2⟩ := eRcv_s h
    rw [hz.2.1]
    exact ⟨h1, h2, fun w _ => eRcv_on wk hn.2 hr h⟩
  fok := fok
  job := job
  okv := okv
end Go.Proofs.Ythfjkhmedpilnaa.Cs

/-
  A piece of a call, from the middle on: it returns in company what it returns alone.
-/
namespace Go.Proofs.Ythfjkhmedpilnaa.Cs
open Go.Conc
/-- What a body comes to. -/
def PostE (Post : Value → World → Prop) (e : Ending) (w' : World) : Prop := ∃ v, e = .returned v ∧ Post v w'
section
variable {P : Program} {Post : Value → World → Prop} {fn : FuncId} {f : Func} {x : Array Value} {cs : List Frame} {w : World}
/-- Where code comes to, told of the frame. -/
theorem reach_of_arrives (hf : P.funcs[fn]? = some f) {m : Machine} {g : Goroutine} (hm : lone g.frame g.callers w = m) {e : Exit} {a' : Act} {w' : World} (hq : bodyPost P f (PostE Post) e a' w') (h : Arrives P m (mkF fn #[] [] .run) [] cs e a' w') : Reach P cs Post g w := by
  have hat : ∀ a todo, (mkF fn #[] [] .run).at a todo = { mkF fn a.tmps todo .run with defers := a.defers } := fun a todo => rfl
  subst hm
  cases e with
  | normal =>
    obtain ⟨hd, v, hr, u, hu, hp⟩ := hq
    cases hu
    obtain ⟨n, hn⟩ := Steps.trans h (.one step_end)
    exact ⟨n, _, w', v, hn, ⟨rfl, hd, rfl, f, hf, hr⟩, hp⟩
  | ret =>
    obtain ⟨hd, v, hr, u, hu, hp⟩ := hq
    cases hu
    obtain ⟨todo, n, hn⟩ := h
    exact ⟨n, _, w', v, hn, ⟨rfl, hd, rfl, f, hf, hr⟩, hp⟩
  | panic chain =>
    obtain ⟨_, u, hu, _⟩ := hq
    cases hu
  | outgrown =>
    obtain ⟨u, hu, _⟩ := hq
    cases hu
  | exit id => exact hq.elim
  | goto l => exact hq.elim
theorem reach_code (hf : P.funcs[fn]? = some f) {c : Code} (h : c.wp P (bodyPost P f (PostE Post)) ⟨x, []⟩ w) : Reach P cs Post (G (mkF fn x [.code c] .run) cs) w := by
  obtain ⟨e, a', w', hq, harr⟩ := h (mkF fn #[] [] .run) [] cs
  exact reach_of_arrives hf rfl hq harr
/-- The rest of a region, and code behind it. -/
theorem reach_region (hf : P.funcs[fn]? = some f) {ops : Array Oper} {l : List Nat} {c : Code} (h : wpOps P ops (Exit.then (c.wp P (bodyPost P f (PostE Post))) (bodyPost P f (PostE Post))) l ⟨x, []⟩ w) : Reach P cs Post (G (mkF fn x [.inRegion ops l, .code c] .run) cs) w := by
  obtain ⟨e, a1, w1, hq, harr⟩ := wp_ops l ⟨x, []⟩ w h (mkF fn #[] [] .run) [.code c] cs
  cases e with
  | normal =>
    obtain ⟨e2, a2, w2, hq2, harr2⟩ := hq (mkF fn #[] [] .run) [] cs
    exact reach_of_arrives hf rfl hq2 (.of_steps harr harr2)
  | exit id => exact hq.elim
  | goto l => exact hq.elim
  | ret => exact reach_of_arrives (e := .ret) hf rfl hq (.pass (x := .code c) rfl (fun _ _ => .inl (by simp)) harr)
  | panic ch => exact reach_of_arrives (e := .panic ch) hf rfl hq (.pass (x := .code c) rfl (fun _ _ => .inl (by simp)) harr)
  | outgrown => exact reach_of_arrives (e := .outgrown) hf rfl hq (.pass (x := .code c) rfl (fun _ _ => .inl (by simp)) harr)
end
variable [Fns]
section
variable {P : Program} {Post : Value → World → Prop} {c : List Frame} {E : Env} {wl w : World}
/-- From the middle of a call on. -/
theorem InCall.mid {fn : FuncId} (hf : HasF P fn) {x y : Array Value} (hx : LR E x y) (hw : WR P E wl w) (hb : Fns.G ≤ wl.heap.size) {todo : List Item} (ht : todo.all (itemOk P) = true) (hr : ∀ τ, Reach P [trap P] Post (G (mkF fn x todo .run) [trap P]) (wl.tp τ)) :
    InCall P Post c E (G (mkF fn x todo .run) [trap P]) wl (G (mkF fn y todo .run) c) w :=
  ⟨.mk' hf hx ht (.inl rfl) .base, hw, hb, fun τ _ => hr τ⟩
end
end Go.Proofs.Ythfjkhmedpilnaa.Cs

/-
  What is read in company, laid into a lone world, frozen; and what a lone world tells, told in company.
-/
namespace Go.Proofs.Ythfjkhmedpilnaa.Cs
open Go.Conc Go.RowKit
variable [Fns]
/-- A lone world of frozen copies. -/
structure Cp (P : Program) (E : Env) (wl w : World) : Prop where
  wr : WR P E wl w
  big : Fns.G ≤ wl.heap.size
  sh : ∀ b q s o, E b = some (q, s, o) → o = false
  top : ∀ b, wl.heap.size ≤ b → E b = none
/-- A copy that knows more. -/
structure CpLe (E E' : Env) (wl wl' : World) : Prop where
  le : E.le E'
  size : wl.heap.size ≤ wl'.heap.size
  old : ∀ b, b < wl.heap.size → wl'.heap[b]? = wl.heap[b]?
  os : wl'.os = wl.os
  tape : wl'.tape = wl.tape
  output : wl'.output = wl.output
omit [Fns] in
theorem CpLe.refl (E : Env) (wl : World) : CpLe E E wl wl := ⟨E.le_refl, Nat.le_refl _, fun _ _ => rfl, rfl, rfl, rfl⟩
omit [Fns] in
theorem CpLe.trans {A B C : Env} {u v w : World} (h : CpLe A B u v) (k : CpLe B C v w) : CpLe A C u w :=
  ⟨Env.le_trans h.le k.le, Nat.le_trans h.size k.size, fun b hb => (k.old b (Nat.lt_of_lt_of_le hb h.size)).trans (h.old b hb), k.os.trans h.os, k.tape.trans h.tape, k.output.trans h.output⟩
omit [Fns] in
theorem CpLe.cell {E E' : Env} {wl wl' : World} (h : CpLe E E' wl wl') {a : Addr} {v : Value} (hc : wl.cell? a = some v) : wl'.cell? a = some v := by
  have hb : a.block < wl.heap.size := World.block_lt_of_cell? _ _ hc
  have := h.old a.block hb
  unfold World.cell? at hc ⊢
  rw [this]
  exact hc
section
variable {P : Program} {w : World}
/-- It begins with nothing. -/
theorem Cp.nil (w : World) : Cp P (fun _ => none) { w with heap := Array.replicate Fns.G (.cells #[] 0) } w :=
  ⟨⟨fun _ _ _ e => (by cases e), fun _ _ _ e => (by cases e), fun _ _ _ _ _ _ e => (by cases e), fun _ _ e => (by cases e)⟩, by simp, fun _ _ _ _ e => (by cases e), fun _ _ => rfl⟩
/-- A piece of a row is laid. -/
theorem Cp.row {E : Env} {wl : World} (h : Cp P E wl w) {TJ : TypeId} (hJ : P.info? TJ = none) {q s : Nat} {y : Array Value} {T' : TypeId} {fr : Nat × Nat} (hq : w.heap[q]? = some (.cells y T' fr)) (x : Array Value) (hx : ∀ (i : Nat) u, x[i]? = some u → ∃ v, y[i + s]? = some v ∧ VR E u v) :
    ∃ E', Cp P E' (wl.alloc (.cells x TJ (0, x.size))) w ∧ CpLe E E' wl (wl.alloc (.cells x TJ (0, x.size))) ∧ (∀ o, AR E' ⟨wl.heap.size, o, none⟩ ⟨q, o + s, none⟩) ∧ ∀ i u, x[i]? = some u → (wl.alloc (.cells x TJ (0, x.size))).cell? ⟨wl.heap.size, i, none⟩ = some u := by
  let E' : Env := fun b => if b = wl.heap.size then some (q, s, false) else E b
  have hn : E wl.heap.size = none := h.top _ (Nat.le_refl _)
  have hle : E.le E' := fun b x e => by
    show (if b = wl.heap.size then some (q, s, false) else E b) = some x
    rw [if_neg (fun e' => by rw [e', hn] at e; cases e)]
    exact e
  have hsz : (wl.alloc (.cells x TJ (0, x.size))).heap.size = wl.heap.size + 1 := by simp
  have hold : ∀ b, b < wl.heap.size → (wl.alloc (.cells x TJ (0, x.size))).heap[b]? = wl.heap[b]? := fun b hb => Below.heap_alloc wl _ b hb
  have hnew : (wl.alloc (.cells x TJ (0, x.size))).heap[wl.heap.size]? = some (.cells x TJ (0, x.size)) := heap_alloc_new wl _
  have hE : ∀ b q' s' o, E' b = some (q', s', o) → (b = wl.heap.size ∧ q' = q ∧ s' = s ∧ o = false) ∨ E b = some (q', s', o) := fun b q' s' o e => by
    have e' : (if b = wl.heap.size then some (q, s, false) else E b) = some (q', s', o) := e
    by_cases hb : b = wl.heap.size
    · rw [if_pos hb] at e'
      cases e'
      exact .inl ⟨hb, rfl, rfl, rfl⟩
    · rw [if_neg hb] at e'
      exact .inr e'
  refine ⟨E', ⟨⟨fun b c s' e => ?_, fun b c s' e => ?_, fun b b' c s' s'' o e e2 => ?_, fun b x' e => ?_⟩, by rw [hsz]; exact Nat.le_succ_of_le h.big, fun b q' s' o e => ?_, fun b hb => ?_⟩, ⟨hle, by rw [hsz]; exact Nat.le_succ _, hold, rfl, rfl, rfl⟩, fun o => ⟨s, false, by show (if wl.heap.size = wl.heap.size then _ else _) = _; rw [if_pos rfl], rfl, rfl, h.big, fun e => by cases e⟩, fun i u hu => ?_⟩
  · rcases hE b c s' true e with ⟨_, _, _, e'⟩ | e'
    · cases e'
    · have := h.sh _ _ _ _ e'
      cases this
  · rcases hE b c s' false e with ⟨rfl, rfl, rfl, _⟩ | e'
    · exact ⟨x, TJ, y, T', fr, hnew, hJ, hq, fun i u hu => by
        obtain ⟨v, h1, h2⟩ := hx i u hu
        exact ⟨v, h1, h2.mono hle⟩⟩
    · obtain ⟨x', T, y', T2, fr', h1, h2, h3, h4⟩ := h.wr.shared b c s' e'
      exact ⟨x', T, y', T2, fr', (hold b (h.wr.lt e').1).trans h1, h2, h3, fun i u hu => by
        obtain ⟨v, k1, k2⟩ := h4 i u hu
        exact ⟨v, k1, k2.mono hle⟩⟩
  · rcases hE b c s' true e with ⟨_, _, _, e'⟩ | e'
    · cases e'
    · have := h.sh _ _ _ _ e'
      cases this
  · obtain ⟨q', s', o⟩ := x'
    rcases hE b q' s' o e with ⟨rfl, _⟩ | e'
    · exact h.big
    · exact h.wr.low b _ e'
  · rcases hE b q' s' o e with ⟨_, _, _, e'⟩ | e'
    · exact e'
    · exact h.sh _ _ _ _ e'
  · rw [hsz] at hb
    show (if b = wl.heap.size then some (q, s, false) else E b) = none
    rw [if_neg (by omega)]
    exact h.top b (by omega)
  · rw [cell_of_row _ _ _ _ _ _ hnew]
    exact hu
end
end Go.Proofs.Ythfjkhmedpilnaa.Cs

/-
  Whatever a frame holds is related to something.
-/
namespace Go.Proofs.Ythfjkhmedpilnaa.Cs
variable [Fns]
theorem pick_row {E : Env} {c : Array Value} (ih : ∀ (i : Nat) (hi : i < c.size), ∃ u, VR E u c[i]) : ∃ x, LR E x c := by
  refine ⟨Array.ofFn fun i : Fin c.size => (ih i i.2).choose, by simp, fun i u v hu hv => ?_⟩
  obtain ⟨hi, rfl⟩ := Array.getElem?_eq_some_iff.1 hv
  obtain ⟨hj, rfl⟩ := Array.getElem?_eq_some_iff.1 hu
  simp only [Array.getElem_ofFn]
  exact (ih i hi).choose_spec
theorem junkN (E : Env) : ∀ (n : Nat) (v : Value), SizeOf.sizeOf v < n → ∃ u, VR E u v
  | 0, _, h => absurd h (Nat.not_lt_zero _)
  | n + 1, v, h => by
    cases v with
    | agg c =>
      obtain ⟨x, hx⟩ := pick_row (E := E) (c := c) fun i hi => junkN E n c[i] (by
        have := Array.sizeOf_getElem c i hi
        simp only [Value.agg.sizeOf_spec] at h
        omega)
      exact ⟨_, .mkAgg hx⟩
    | tuple c =>
      obtain ⟨x, hx⟩ := pick_row (E := E) (c := c) fun i hi => junkN E n c[i] (by
        have := Array.sizeOf_getElem c i hi
        simp only [Value.tuple.sizeOf_spec] at h
        omega)
      exact ⟨_, .mkTuple hx⟩
    | bool b => exact ⟨_, .bool b⟩
    | nilIface => exact ⟨_, .nilIface⟩
    | _ => exact ⟨_, .any _ rfl⟩
theorem junk (E : Env) (v : Value) : ∃ u, VR E u v := junkN E _ v (Nat.lt_succ_self _)
end Go.Proofs.Ythfjkhmedpilnaa.Cs

/-
  A stack of calls, from the middle on: it returns in company what it returns alone.
-/
namespace Go.Proofs.Ythfjkhmedpilnaa.Cs
open Go.Conc
theorem reach_then {P : Program} {Post1 Post : Value → World → Prop} {f2 : Frame} {cs cs1 : List Frame} {g : Goroutine} {w : World} (h : Reach P (f2 :: cs1) Post1 g w) (h2 : ∀ v w', Post1 v w' → Reach P cs Post (G (f2.finish v) cs1) w') : Reach P cs Post g w := by
  obtain ⟨n, fr, w', v, hn, hl, hp⟩ := h
  obtain ⟨n2, fr2, w2, v2, hn2, hl2, hp2⟩ := h2 v w' hp
  obtain ⟨k, hk⟩ := Steps.trans ⟨n, hn⟩ (Steps.trans (.one (step_leave_returned hl)) ⟨n2, hn2⟩)
  exact ⟨k, fr2, w2, v2, hk, hl2, hp2⟩
variable [Fns]
section
variable {P : Program} {Post : Value → World → Prop} {c : List Frame} {E : Env} {wl w : World}
/-- From the middle of a stack of calls on. -/
theorem InCall.mids {fn : FuncId} (hf : HasF P fn) {x y : Array Value} (hx : LR E x y) (hw : WR P E wl w) (hb : Fns.G ≤ wl.heap.size) {todo : List Item} (ht : todo.all (itemOk P) = true) {l l' : List Frame} (hl : CR P E [trap P] c l l') (hr : ∀ τ, Reach P [trap P] Post (G (mkF fn x todo .run) l) (wl.tp τ)) :
    InCall P Post c E (G (mkF fn x todo .run) l) wl (G (mkF fn y todo .run) l') w :=
  ⟨.mk' hf hx ht (.inl rfl) hl, hw, hb, fun τ _ => hr τ⟩
end
end Go.Proofs.Ythfjkhmedpilnaa.Cs

/-
  Which functions the jobs of chart.Find reach; their code is of the list.
-/
namespace Go.Proofs.Ythfjkhmedpilnaa.Cs
def fdList : List FuncId := [8, 9, 10, 11, 12, 18, 20, 21, 22, 23, 24, 25, 26, 27, 28, 29, 35, 40, 42, 44, 46, 47, 48, 50, 51, 52, 53, 54, 55, 56, 57, 58, 59, 60, 61, 62, 74, 76, 77, 78, 79, 80, 81, 82, 83, 84, 85, 86, 87, 88, 91, 93, 94, 95, 96, 97, 98, 99, 100, 101]
noncomputable instance fdFns : Fns where
  ok := fun f => fdList.contains f
  G := Try.prog.globals.size
noncomputable def fdBad : List FuncId := fdList.filter fun f => match Try.prog.funcs[f]? with
  | some fn => (match fn.body with | some b => !(codeOk Try.prog b) | none => true) || (fn.name == "runtime.NumGoroutine")
  | none => true
theorem fd_code : fdBad = [] := by kernel_rfl
theorem fd_fnsCode : FnsCode Try.prog := fun f hf => by
  have hm : f ∈ fdList := List.contains_iff_mem.1 hf
  have hb : f ∉ fdBad := by rw [fd_code]; simp
  unfold fdBad at hb
  rw [List.mem_filter] at hb
  have hb' := fun e => hb ⟨hm, e⟩
  cases h1 : Try.prog.funcs[f]? with
  | none => exact absurd (by simp only [h1]) hb'
  | some fn =>
    cases h2 : fn.body with
    | none => exact absurd (by simp only [h1, h2, Bool.true_or]) hb'
    | some b =>
      cases h3 : codeOk Try.prog b with
      | false => exact absurd (by simp only [h1, h2, h3, Bool.not_false, Bool.true_or]) hb'
      | true =>
        cases h4 : (fn.name == "runtime.NumGoroutine") with
        | true => exact absurd (by simp only [h1, h2, h3, h4, Bool.or_true]) hb'
        | false => exact ⟨fn, b, rfl, h2, h3, h4⟩
end Go.Proofs.Ythfjkhmedpilnaa.Cs

/-
  The last call beside goroutines that only leave: its frame is the lowest one; where it returns the run ends.
-/
namespace Go.Proofs.Ythfjkhmedpilnaa.Cs
open Go.Conc
variable [Fns]
section
variable {P : Program} {Post : Value → World → Prop}
/-- A call beside goroutines that only leave comes to its return. -/
theorem beside_stop (hG : P.globals.size ≤ Fns.G) (hC : FnsCode P) {gs : Array Goroutine} {t : Trace} {q : Nat → Nat} {g : Goroutine} {w : World} {sl : Option (Nat × Nat)} {c : List Frame} {E : Env} {gl : Goroutine} {wl : World} (h0 : gs[0]? = some g) (hin : InCall P Post c E gl wl g w) (hq : Qt P gs t q w.heap.size) :
    ∃ N gs' w' sl' t' q' E' gl' wl' g', runNT P N (crowd gs w sl) t = (.next (crowd gs' w' sl'), t') ∧ gs'.size = gs.size ∧ gs'[0]? = some g' ∧ InCall P Post c E' gl' wl' g' w' ∧ Stop [trap P] gl' ∧ lastG g' = lastG g ∧ FC E E' w w' ∧ Qt P gs' t' q' w'.heap.size := by
  let Q : Goroutine → World → Prop := fun g' w' => ∃ E' gl' wl', InCall P Post c E' gl' wl' g' w' ∧ Stop [trap P] gl' ∧ lastG g' = lastG g ∧ FC E E' w w'
  let I : Option { s : Gh // Acc (After P [trap P]) s } → Goroutine → World → Prop := fun μ g' w' => match μ with
    | some s => ∃ E', InCall P Post c E' s.1.1 s.1.2 g' w' ∧ lastG g' = lastG g ∧ FC E E' w w'
    | none => False
  have fcAt : ∀ {E' : Env} {w' : World} (d : Nat), FC E E' w w' → FC E E' w (w'.at d) := fun d h => ⟨h.le, h.os, h.tape, h.output, h.size, h.keep, h.fresh⟩
  have fcAt' : ∀ {E' : Env} {w' : World} (d : Nat), FC E E' w (w'.at d) → FC E E' w w' := fun d h => ⟨h.le, h.os, h.tape, h.output, h.size, h.keep, h.fresh⟩
  have a1 : ∀ μ g' w' d, I μ g' w' → I μ g' (w'.at d) := fun μ g' w' d h => by
    cases μ with
    | none => exact h.elim
    | some s =>
      obtain ⟨E', h1, h3, h2⟩ := h
      exact ⟨E', h1.other fun _ _ _ => rfl, h3, fcAt d h2⟩
  have a2 : ∀ g' w' d, Q g' (w'.at d) → Q g' w' := fun g' w' d h => by
    obtain ⟨E', gl', wl', k1, k2, k3, k4⟩ := h
    exact ⟨E', gl', wl', k1.other fun _ _ _ => rfl, k2, k3, fcAt' d k4⟩
  have a3 : ∀ μ g' w', I μ g' w' → g'.status = .running := fun μ g' w' h => by
    cases μ with
    | none => exact h.elim
    | some s =>
      obtain ⟨E', h1, h3, h2⟩ := h
      exact h1.running
  have a4 : ∀ μ g' w', I μ g' w' → Q g' w' ∨ ∃ g2 w2 es μ', stepG P true g' w' = .go g2 w2 es ∧ OptLt P μ' μ ∧ I μ' g2 w2 ∧ w'.heap.size ≤ w2.heap.size ∧ ∀ e ∈ es, EvW w2.heap.size e := fun μ g' w' h => by
    cases μ with
    | none => exact h.elim
    | some s =>
      obtain ⟨E1, hin1, hl1, hf1⟩ := h
      by_cases hs : Stop [trap P] s.1.1
      · exact .inl ⟨E1, _, _, hin1, hs, hl1, hf1⟩
      · obtain ⟨E', gl', wl', g2, w2, es, hst, hin', haft, hev, hfc, hl2⟩ := hin1.step2 hG hC true hs
        exact .inr ⟨g2, w2, es, some ⟨(gl', wl'), live_acc hin'.live⟩, hst, .on haft, ⟨E', hin', hl2.trans hl1, hf1.trans hfc⟩, hfc.size, fun e he => evOk_low hin'.wr (hev e he)⟩
  obtain ⟨N, gs', w', sl', t', q', g', h1, h2, h3, ⟨E', gl', wl', k1, k2, k3, k4⟩, h5⟩ := beside (P := P) (optLt_wf P) I Q a1 a2 a3 a4 (μ := some ⟨(gl, wl), live_acc hin.live⟩) (sl := sl) h0 ⟨E, hin, rfl, FC.refl E w⟩ hq
  exact ⟨N, gs', w', sl', t', q', E', gl', wl', g', h1, h2, h3, k1, k2, k3, k4, h5⟩
/-- Where the lowest frame returns the run ends. -/
theorem InCall.atEnd {E : Env} {gl g : Goroutine} {wl w : World} (hin : InCall P Post [] E gl wl g w) (hs : Stop [trap P] gl) {fn0 : FuncId} {f : Func} {t : Nat} (hl : lastG g = fn0) (hf : P.funcs[fn0]? = some f) (hr : f.results = #[.tmp t]) (hn : P.inits.idxOf? fn0 = none) :
    ∃ v v' wl2, Post v wl2 ∧ VR E v v' ∧ g.status = .running ∧ ∀ w, stepG P true g w = .ended (.done v') w #[] := by
  obtain ⟨v, hlv, hp⟩ := stop_post hin.gr hs (hin.live (aligned wl w) (fun i q hi => aligned_low q hi))
  obtain ⟨fn, x, y, todo, mode, l, l', rfl, rfl, hf', hx, ht, hm, hcr⟩ := hin.gr.ex
  obtain ⟨hm2, hl2⟩ := hs
  have hm2' : mode = .returning := hm2
  have hl2' : l = [trap P] := hl2
  subst hm2' hl2'
  have hlc : l' = [] := by
    have hlen : ∀ {a b : List Frame}, CR P E [trap P] [] a b → a = [trap P] → b = [] := fun {a b} hab e => by
      cases hab with
      | base => rfl
      | cons hf2 hx2 ht2 h2 =>
        exfalso
        injection e with e1 e2
        have := congrArg Frame.todo e1
        simp only [mkF, trap] at this
        rw [this] at ht2
        simp [pend, itemOk] at ht2
    exact hlen hcr rfl
  subst hlc
  have hfn : fn = fn0 := hl
  subst hfn
  obtain ⟨_, _, _, f2, hfn2, hr2⟩ := hlv
  have e2 : f2 = f := by
    have h1 : P.funcs[fn]? = some f2 := hfn2
    rw [hf] at h1
    injection h1 with h1
    exact h1.symm
  subst e2
  have hr3 : (results f2 x).run P (wl.tp (aligned wl w)) = .ok v (wl.tp (aligned wl w)) := hr2
  rw [(resultsC_tmp (P := P) hr x (wl.tp (aligned wl w))).1] at hr3
  injection hr3 with hv _
  subst hv
  refine ⟨_, _, _, hp, lr_getD hx t, rfl, fun w => ?_⟩
  have h1 := (resultsC_tmp (P := P) hr y w).1
  have h2 := (resultsC_tmp (P := P) hr y w).2
  have h3 : (results f2 y).runT P w #[] = (.ok (y.getD t undef) w, #[]) := by
    refine Prod.ext ?_ ?_
    · rw [Sem.runT_fst]; exact h1
    · exact h2
  simp only [G, stepG, unwind, mkF, hf, doReturn, h3, hn]
  rfl
end
end Go.Proofs.Ythfjkhmedpilnaa.Cs

/-
  Goroutine 0 beside goroutines that only leave, and what its touches are.
-/
namespace Go.Proofs.Ythfjkhmedpilnaa.Cs
open Go.Conc
open Go.ConcN (sumTo sumTo_congr upd upd_same upd_ne sumTo_upd)
/-- As Qt; and each touch is as Pl says. -/
structure QtF (Pl : Touch → Prop) (P : Program) (gs : Array Goroutine) (t : Trace) (q : Nat → Nat) (size : Nat) : Prop where
  qt : Qt P gs t q size
  pl : ∀ j a, touchAt t j = some a → Pl a
section
variable {P : Program} {gs gs' : Array Goroutine} {t : Trace} {q q' : Nat → Nat} {size size' : Nat}
theorem QtF.own {Pl : Touch → Prop} (h : QtF Pl P gs t q size) {fn : FuncId} {pos : String} {es : Array Event} (hs : size ≤ size') (hes : ∀ e ∈ es, EvW size' e ∧ ∀ x, (MemAct.ofEvent e).touch? = some x → Pl x) (hlv : ∀ i g, 0 < i → gs'[i]? = some g → QuitsIn P (q i) g) : QtF Pl P gs' (t ++ MemOp.ofEvents 0 fn pos es) q size' := by
  refine ⟨h.qt.own hs (fun e he => (hes e he).1) hlv, fun j a ha => ?_⟩
  obtain ⟨x, hx, hxa⟩ := touch_of ha
  rcases getElem?_append_cases hx with ⟨_, hx'⟩ | ⟨_, hxu⟩
  · exact h.pl j a (by rw [touchAt_of hx']; exact hxa)
  · obtain ⟨e, he, rfl⟩ := Conc.mem_ofEvents hxu
    exact (hes e he).2 a hxa
theorem QtF.set {Pl : Touch → Prop} (h : QtF Pl P gs t q size) (hlv : ∀ i g, 0 < i → gs'[i]? = some g → QuitsIn P (q' i) g) : QtF Pl P gs' t q' size := ⟨h.qt.set hlv, h.pl⟩
/-- It goes on by itself: I: what holds ahead of each step, with a measure; Q: where it is to come to. -/
theorem beside_f {Pl : Touch → Prop} {α : Type} {r : α → α → Prop} (wf : WellFounded r) (I : α → Goroutine → World → Prop) (Q : Goroutine → World → Prop) (hI : ∀ μ g w d, I μ g w → I μ g (w.at d)) (hQ : ∀ g w d, Q g (w.at d) → Q g w) (hrun : ∀ μ g w, I μ g w → g.status = .running)
    (hstep : ∀ μ g w, I μ g w → Q g w ∨ ∃ g' w' es μ', stepG P true g w = .go g' w' es ∧ r μ' μ ∧ I μ' g' w' ∧ w.heap.size ≤ w'.heap.size ∧ ∀ e ∈ es, EvW w'.heap.size e ∧ ∀ x, (MemAct.ofEvent e).touch? = some x → Pl x) {μ : α} {g : Goroutine} {w : World} {sl : Option (Nat × Nat)} (h0 : gs[0]? = some g) (hi : I μ g w) (hq : QtF Pl P gs t q w.heap.size) :
    ∃ N gs' w' sl' t' q' g', runNT P N (crowd gs w sl) t = (.next (crowd gs' w' sl'), t') ∧ gs'.size = gs.size ∧ gs'[0]? = some g' ∧ Q g' w' ∧ QtF Pl P gs' t' q' w'.heap.size := by
  have key := reach_of_inv (P := P) (Prod.lex ⟨r, wf⟩ ⟨_, Nat.lt_wfRel.wf⟩).wf (fun (μ : α × Nat) m t => ∃ gs' w sl q g, m = crowd gs' w sl ∧ gs'.size = gs.size ∧ gs'[0]? = some g ∧ I μ.1 g w ∧ QtF Pl P gs' t q w.heap.size ∧ μ.2 = sumTo gs'.size q)
    (fun m t => ∃ gs' w sl q g, m = crowd gs' w sl ∧ gs'.size = gs.size ∧ gs'[0]? = some g ∧ Q g w ∧ QtF Pl P gs' t q w.heap.size) ?_ (μ, sumTo gs.size q) _ t ⟨gs, w, sl, q, g, rfl, rfl, h0, hi, hq, rfl⟩
  · obtain ⟨N, m', t', h1, gs', w', sl', q', g', rfl, h2, h3, h4, h5⟩ := key
    exact ⟨N, gs', w', sl', t', q', g', h1, h2, h3, h4, h5⟩
  · rintro ⟨μ, k⟩ m t ⟨gs, w, sl, q, g, rfl, hsz, h0, hi, hq, rfl⟩
    have hg := hrun μ g w hi
    have haw : ∀ x ∈ gs, awake x := fun x hx => by
      obtain ⟨i, hlt, rfl⟩ := Array.mem_iff_getElem.1 hx
      rcases Nat.eq_zero_or_pos i with rfl | hp
      · have : gs[0] = g := by simpa [Array.getElem?_eq_getElem hlt] using h0
        rw [this]; exact awake_of (.inl hg)
      · rcases (hq.qt.lv i _ hp (Array.getElem?_eq_getElem hlt)).status with h3 | h3
        · exact awake_of (.inl h3)
        · exact awake_of (.inr (.inr h3))
    obtain ⟨i, x, d, sl', hx, hxr, hst⟩ := crowd_pick (P := P) (w := w) (sl := sl) haw ⟨0, g, h0, hg⟩
    have quiet : ∀ (a a' y : Goroutine) (w' : World) (j : Nat), (gs.map (woken P a a' w')).setIfInBounds j y = gs.setIfInBounds j y := fun a a' y w' j => map_set_same fun k z _ hz => by
      rcases Nat.eq_zero_or_pos k with rfl | hp
      · rw [h0] at hz
        cases hz
        exact woken_running hg
      · exact woken_quits (hq.qt.lv k z hp hz)
    rcases Nat.eq_zero_or_pos i with rfl | hp
    · rw [h0] at hx
      cases hx
      rcases hstep μ g (w.at d) (hI μ g w d hi) with h1 | ⟨g', w', es, μ', h1, h2, h3, h4, h5⟩
      · exact .inl ⟨gs, w, sl, q, g, rfl, hsz, h0, hQ g w d h1, hq⟩
      · have hr := runT_crowd_go (P := P) (sl := sl') (i := 0) h0 (show stepG P (0 == 0) g (w.at d) = _ from h1)
        rw [quiet] at hr
        refine .inr ⟨_, _, (μ', sumTo gs.size q), hst.trans hr, Prod.Lex.left _ _ h2, _, w', sl', q, g', rfl, by rw [Array.size_setIfInBounds]; exact hsz, Array.getElem?_setIfInBounds_self_of_lt (idx_lt h0), h3, hq.own (gs' := gs.setIfInBounds 0 g') h4 h5 fun k z hk hz => ?_, by rw [Array.size_setIfInBounds]⟩
        rw [Array.getElem?_setIfInBounds_ne (by omega)] at hz
        exact hq.qt.lv k z hk hz
    · have hqi := hq.qt.lv i x hp hx
      cases hqe : q i with
      | zero =>
        rw [hqe] at hqi
        have : x.status = .finished := hqi
        rw [hxr] at this; cases this
      | succ n =>
        rw [hqe] at hqi
        rcases hqi with hf | ⟨_, x', hstp, hq'⟩
        · rw [hxr] at hf; cases hf
        · have hr := runT_crowd_go (P := P) (sl := sl') (i := i) hx (by rw [show (i == 0) = false by simp; omega]; exact hstp (w.at d))
          rw [quiet] at hr
          have hsum : sumTo gs.size (upd q i n) + (n + 1) = sumTo gs.size q + n := by
            have := sumTo_upd q n id (idx_lt hx)
            simpa [hqe] using this
          refine .inr ⟨_, _, (μ, sumTo gs.size (upd q i n)), hst.trans hr, Prod.Lex.right _ (show _ < _ by omega), _, w.at d, sl', upd q i n, g, rfl, by rw [Array.size_setIfInBounds]; exact hsz, ?_, hI μ g w d hi, ?_, by rw [Array.size_setIfInBounds]⟩
          · rw [Array.getElem?_setIfInBounds_ne (by omega)]; exact h0
          · have e : t ++ MemOp.ofEvents i x.frame.fn x.frame.place #[] = t := by rw [ofEvents_none, Array.append_empty]
            rw [e]
            refine hq.set fun k z hk hz => ?_
            by_cases ek : k = i
            · subst ek
              rw [Array.getElem?_setIfInBounds_self_of_lt (idx_lt hx)] at hz
              cases hz
              rw [upd_same]; exact hq'
            · rw [Array.getElem?_setIfInBounds_ne (fun e => ek e.symm)] at hz
              rw [upd_ne _ _ ek]
              exact hq.qt.lv k z hk hz
theorem beside_walk_f {Pl : Touch → Prop} {g : Goroutine} {w : World} {sl : Option (Nat × Nat)} {D : World → World → Array Event → Prop} {Stp : Goroutine → World → Prop} (hD : ∀ w w' es, D w w' es → w.heap.size ≤ w'.heap.size ∧ ∀ e ∈ es, EvW w'.heap.size e ∧ ∀ x, (MemAct.ofEvent e).touch? = some x → Pl x) (hS : ∀ g w, Stp g w → g.status = .running) {m : Nat} (h0 : gs[0]? = some g) (hG : Goes P true AtRel D Stp m g w) (hq : QtF Pl P gs t q w.heap.size) :
    ∃ N gs' w' sl' t' q' g', runNT P N (crowd gs w sl) t = (.next (crowd gs' w' sl'), t') ∧ gs'.size = gs.size ∧ gs'[0]? = some g' ∧ Stp g' w' ∧ QtF Pl P gs' t' q' w'.heap.size := by
  have a1 : ∀ (μ : Nat) g' w' d, Goes P true AtRel D Stp μ g' w' → Goes P true AtRel D Stp μ g' (w'.at d) := fun μ g' w' d h => Goes.rely atRel_trans h ⟨d, rfl⟩
  have a4 : ∀ (μ : Nat) g' w', Goes P true AtRel D Stp μ g' w' → (∀ d, Stp g' (w'.at d)) ∨ ∃ g2 w2 es μ', stepG P true g' w' = .go g2 w2 es ∧ μ' < μ ∧ Goes P true AtRel D Stp μ' g2 w2 ∧ w'.heap.size ≤ w2.heap.size ∧ ∀ e ∈ es, EvW w2.heap.size e ∧ ∀ x, (MemAct.ofEvent e).touch? = some x → Pl x := fun μ g' w' h => by
    rcases h.cases with h1 | ⟨m', rfl, h1⟩
    · exact .inl fun d => h1 _ ⟨d, rfl⟩
    · obtain ⟨g2, w2, es, k1, k2, k3⟩ := h1 w' (atRel_refl w')
      exact .inr ⟨g2, w2, es, m', k1, Nat.lt_succ_self _, k3, hD _ _ _ k2⟩
  obtain ⟨N, gs', w', sl', t', q', g', h1, h2, h3, h4, h5⟩ := beside_f (P := P) (Pl := Pl) Nat.lt_wfRel.wf (fun μ g' w' => Goes P true AtRel D Stp μ g' w') (fun g' w' => ∀ d, Stp g' (w'.at d)) a1 (fun g' w' d h d' => h d') (fun μ g' w' h => h.running hS w' (atRel_refl w')) a4 (sl := sl) h0 hG hq
  exact ⟨N, gs', w', sl', t', q', g', h1, h2, h3, h4 w'.drawn, h5⟩
end
end Go.Proofs.Ythfjkhmedpilnaa.Cs
