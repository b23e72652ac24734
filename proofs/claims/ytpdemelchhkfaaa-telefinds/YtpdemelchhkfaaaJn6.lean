/-
  Several texts, joined: CsN, CsO.
-/
import Derived.Test.YtpdemelchhkfaaaJn5
import Derived.Conc.Listed
/-
  One step of a goroutine, alike (first part): frames, items, what needs no memory.
-/
namespace Go.Proofs.Ytpdemelchhkfaaa.Cs
open Go.Conc
variable [Fns]
def codeOk (P : Program) : Code → Bool
  | .skip | .label _ | .exit _ | .goto _ | .ret => true
  | .region _ ops _ => ops.all fun o => opOk P o.op
  | .seq a b => codeOk P a && codeOk P b
  | .cond c a b => operandOk c && codeOk P a && codeOk P b
  | .block _ c | .loop c | .scope c => codeOk P c
  | _ => false
def itemOk (P : Program) : Item → Bool
  | .code c | .inLoop c | .inScope c => codeOk P c
  | .inBlock _ => true
  | .inRegion ops l => l.all fun i => match ops[i]? with
    | some o => opOk P o.op
    | none => true
  | _ => false
theorem region_ok {P : Program} {ops : Array Oper} (h : ops.all (fun o => opOk P o.op) = true) (l : List Nat) : itemOk P (.inRegion ops l) = true := by
  rw [Array.all_eq_true_iff_forall_mem] at h
  show l.all _ = true
  rw [List.all_eq_true]
  intro i _
  cases hi : ops[i]? with
  | none => rfl
  | some o => exact h o (Array.mem_of_getElem? hi)
/-- There is such a function. -/
def HasF (P : Program) (fn : FuncId) : Prop := ∃ f, P.funcs[fn]? = some f
/-- Functions that may be called have a body of such operations. -/
def FnsCode (P : Program) : Prop := ∀ f, Fns.ok f = true → ∃ fn body, P.funcs[f]? = some fn ∧ fn.body = some body ∧ codeOk P body = true ∧ (fn.name == "runtime.NumGoroutine") = false
theorem FnsCode.hasF {P : Program} (h : FnsCode P) {f : FuncId} (hf : Fns.ok f = true) : HasF P f := by
  obtain ⟨fn, _, h1, _⟩ := h f hf
  exact ⟨fn, h1⟩
theorem FnsCode.have_ {P : Program} (h : FnsCode P) : FnsHave P := fun f hf => by
  obtain ⟨fn, body, h1, h2, _, h4⟩ := h f hf
  exact ⟨fn, h1, h4, by rw [h2]; rfl⟩
def mkF (fn : FuncId) (x : Array Value) (todo : List Item) (mode : FrameMode) : Frame := { fn, tmps := x, todo, defers := [], mode, kind := .normal }
/-- What is left of a caller's work behind the call that it is in. -/
def pend : List Item → List Item
  | .inRegion ops (_ :: rest) :: k => .inRegion ops rest :: k
  | k => k
theorem pend_ok {P : Program} {k : List Item} (h : k.all (itemOk P) = true) : (pend k).all (itemOk P) = true := by
  cases k with
  | nil => exact h
  | cons i k =>
    cases i with
    | inRegion ops t =>
      cases t with
      | nil => exact h
      | cons j rest =>
        simp only [pend, List.all_cons, Bool.and_eq_true, itemOk] at h ⊢
        exact ⟨h.1.2, h.2⟩
    | _ => exact h
/-- Callers that are alike, down to those that the goroutine was in when it began. -/
inductive CR (P : Program) (E : Env) (cl c : List Frame) : List Frame → List Frame → Prop
  | base : CR P E cl c cl c
  | cons {fn : FuncId} {x y : Array Value} {todo : List Item} {l l' : List Frame} (hf : HasF P fn) (hx : LR E x y) (ht : (pend todo).all (itemOk P) = true) (h : CR P E cl c l l') : CR P E cl c (mkF fn x todo .run :: l) (mkF fn y todo .run :: l')
theorem CR.mono {P : Program} {E E' : Env} (hl : E.le E') {cl c l l' : List Frame} (h : CR P E cl c l l') : CR P E' cl c l l' := by
  induction h with
  | base => exact .base
  | cons hf hx ht _ ih => exact .cons hf (hx.mono hl) ht ih
/-- The goroutine alone and in company. -/
structure GR (P : Program) (E : Env) (cl c : List Frame) (gl g : Goroutine) : Prop where
  ex : ∃ (fn : FuncId) (x y : Array Value) (todo : List Item) (mode : FrameMode) (l l' : List Frame), gl = G (mkF fn x todo mode) l ∧ g = G (mkF fn y todo mode) l' ∧ HasF P fn ∧ LR E x y ∧ todo.all (itemOk P) = true ∧ (mode = .run ∨ mode = .returning) ∧ CR P E cl c l l'
theorem GR.mk' {P : Program} {E : Env} {cl c l l' : List Frame} {fn : FuncId} {x y : Array Value} {todo : List Item} {mode : FrameMode} (hf : HasF P fn) (hx : LR E x y) (ht : todo.all (itemOk P) = true) (hm : mode = .run ∨ mode = .returning) (h : CR P E cl c l l') : GR P E cl c (G (mkF fn x todo mode) l) (G (mkF fn y todo mode) l') := ⟨fn, x, y, todo, mode, l, l', rfl, rfl, hf, hx, ht, hm, h⟩
theorem exitTo_ok {P : Program} (id : Nat) : ∀ {k k' : List Item}, k.all (itemOk P) = true → exitTo id k = some k' → k'.all (itemOk P) = true
  | [], _, _, h => by cases h
  | i :: k, k', hk, h => by
    simp only [List.all_cons, Bool.and_eq_true] at hk
    cases i with
    | inBlock id' =>
      simp only [exitTo] at h
      split at h
      · cases h; exact hk.2
      · exact exitTo_ok id hk.2 h
    | _ => exact exitTo_ok id hk.2 h
theorem findLabel_ok {P : Program} : ∀ {c c' : Code} {l : Nat}, codeOk P c = true → findLabel c l = some c' → codeOk P c' = true
  | .seq a b, c', l, hc, h => by
    simp only [codeOk, Bool.and_eq_true] at hc
    simp only [findLabel] at h
    split at h
    · rename_i rest hr
      cases h
      simp only [codeOk, Bool.and_eq_true]
      exact ⟨findLabel_ok hc.1 hr, hc.2⟩
    · exact findLabel_ok hc.2 h
  | .label l', c', l, _, h => by
    simp only [findLabel] at h
    split at h
    · cases h; rfl
    · cases h
  | .skip, _, _, _, h | .ret, _, _, _, h => by cases h
  | .region _ _ _, _, _, _, h | .cond _ _ _, _, _, _, h | .block _ _, _, _, _, h | .loop _, _, _, _, h | .scope _, _, _, _, h | .exit _, _, _, _, h | .goto _, _, _, _, h => by cases h
  | .rangeFunc _ _ _ _, _, _, hc, _ => by cases hc
  | .refuse _, _, _, hc, _ => by cases hc
theorem gotoIn_ok {P : Program} (l : Nat) : ∀ {k k' : List Item}, k.all (itemOk P) = true → gotoIn l k = some k' → k'.all (itemOk P) = true
  | [], _, _, h => by cases h
  | i :: k, k', hk, h => by
    simp only [List.all_cons, Bool.and_eq_true] at hk
    cases i with
    | inScope body =>
      simp only [gotoIn] at h
      split at h
      · rename_i rest hr
        cases h
        simp only [List.all_cons, Bool.and_eq_true]
        exact ⟨findLabel_ok hk.1 hr, hk.1, hk.2⟩
      · exact gotoIn_ok l hk.2 h
    | _ => exact gotoIn_ok l hk.2 h
theorem lr_getD {E : Env} {x y : Array Value} (h : LR E x y) (t : Nat) : VR E (x.getD t undef) (y.getD t undef) := by
  simp only [Array.getD_eq_getD_getElem?]
  cases hx : x[t]? with
  | none =>
    rw [h.none hx]
    exact .mkTuple (LR.nil _)
  | some u =>
    obtain ⟨v, h1, h2⟩ := h.get hx
    rw [h1]
    exact h2
theorem eval_er {E : Env} {fn : FuncId} {x y : Array Value} {todo : List Item} {mode : FrameMode} (h : LR E x y) : ER E (mkF fn x todo mode).eval (mkF fn y todo mode).eval := fun o ho => by
  cases o with
  | tmp t => exact lr_getD h t
  | const v => exact plainV_vr ho
  | global g => cases ho
  | func f => exact .func f ho rfl (fun i u v hu => by simp at hu) rfl (fun i u v hu => by simp at hu)
theorem yielded_lr {E : Env} {x y : Array Value} (h : LR E x y) (ops : Array Oper) : yielded ops x = yielded ops y := by
  funext j
  unfold yielded
  cases hd : (ops[j]?).bind (·.dst) with
  | none => rfl
  | some d =>
    simp only [Option.bind_some]
    cases hx : x[d]? with
    | none => rw [h.none hx]
    | some u =>
      obtain ⟨v, h1, h2⟩ := h.get hx
      rw [h1]
      cases h2 with
      | any v hv => cases v <;> first | rfl | cases hv
      | _ => rfl
omit [Fns] in
theorem finish_mk (fn : FuncId) (x : Array Value) (ops : Array Oper) (i : Nat) (rest : List Nat) (k : List Item) (mode : FrameMode) (v : Value) : (mkF fn x (.inRegion ops (i :: rest) :: k) mode).finish v = mkF fn (match (ops[i]?).bind (·.dst) with | some d => x.setIfInBounds d v | none => x) (.inRegion ops rest :: k) mode := rfl
theorem lr_put {E : Env} {x y : Array Value} (h : LR E x y) {u v : Value} (hv : VR E u v) (d : Option Tmp) : LR E (match d with | some d => x.setIfInBounds d u | none => x) (match d with | some d => y.setIfInBounds d v | none => y) := by
  cases d with
  | none => exact h
  | some d => exact h.set d hv
end Go.Proofs.Ytpdemelchhkfaaa.Cs

/-
  One step of a goroutine, alike.
-/
namespace Go.Proofs.Ytpdemelchhkfaaa.Cs
open Go.Conc
variable [Fns]
/-- No package-level variable waits to be laid. -/
def NoEarly (P : Program) : Prop := ∀ fr cs dy g w, ∃ o w' es, early P fr cs dy g w = .ended o w' es
section
variable {P : Program} {E : Env} {cl c l l' : List Frame} {wl w : World} {main : Bool}
/-- What the lone step does hangs on that part of the tape alone that it draws. -/
def LocG (P : Program) (gl : Goroutine) (wl : World) (gl' : Goroutine) (wl' : World) : Prop :=
  wl.drawn ≤ wl'.drawn ∧ wl'.tape = wl.tape ∧ ∀ τ, (∀ i q, wl.drawn ≤ i → i < wl'.drawn → τ i q = wl.tape i q) → ∃ es, stepG P true gl (wl.tp τ) = .go gl' (wl'.tp τ) es
/-- The function of the last frame. -/
def lastFn : Frame → List Frame → FuncId
  | f, [] => f.fn
  | _, g :: l => lastFn g l
omit [Fns] in
theorem lastFn_same {f f' : Frame} (h : f.fn = f'.fn) : ∀ l : List Frame, lastFn f l = lastFn f' l
  | [] => h
  | _ :: _ => rfl
def lastG (g : Goroutine) : FuncId := lastFn g.frame g.callers
omit [Fns] in
theorem lastG_mk {fn : FuncId} {x y : Array Value} {k k' : List Item} {m m' : FrameMode} (l : List Frame) : lastG (G (mkF fn x k m) l) = lastG (G (mkF fn y k' m') l) := lastFn_same (f := mkF fn x k m) (f' := mkF fn y k' m') rfl l
omit [Fns] in
theorem lastG_in {fn : FuncId} {x y : Array Value} {k k' : List Item} {m m' : FrameMode} {fr : Frame} (l : List Frame) : lastG (G fr (mkF fn x k m :: l)) = lastG (G (mkF fn y k' m') l) := lastFn_same (f := mkF fn x k m) (f' := mkF fn y k' m') rfl l
omit [Fns] in
theorem lastG_out {fn : FuncId} {x y : Array Value} {k k' : List Item} {m m' : FrameMode} {fr : Frame} (l : List Frame) : lastG (G (mkF fn y k' m') l) = lastG (G fr (mkF fn x k m :: l)) := lastFn_same (f := mkF fn y k' m') (f' := mkF fn x k m) rfl l
/-- Both go on, alike. -/
def Goes2 (P : Program) (E : Env) (cl c : List Frame) (main : Bool) (gl g : Goroutine) (wl w : World) : Prop :=
  ∃ gl' wl' esl E' g' w' es, stepG P true gl wl = .go gl' wl' esl ∧ stepG P main g w = .go g' w' es ∧ GR P E' cl c gl' g' ∧ Both P E' wl' w' ∧ (∀ e ∈ es, EvOk E' e) ∧ lastG g' = lastG g ∧ FC E E' w w' ∧ LocG P gl wl gl' wl'
/-- The lone one has come to its end, or panics. -/
def Lost (P : Program) (gl : Goroutine) (wl : World) : Prop :=
  (∃ o w' es, stepG P true gl wl = .ended o w' es) ∨ ∃ fn x todo chain w' es, stepG P true gl wl = .go (G (mkF fn x todo (.panicking chain)) gl.callers) w' es ∧ ∃ f, P.funcs[fn]? = some f
theorem goes2_still {fn : FuncId} {x y : Array Value} {todo todo' : List Item} {mode mode' : FrameMode} (hf : HasF P fn) (hx : LR E x y) (ht : todo'.all (itemOk P) = true) (hm : mode' = .run ∨ mode' = .returning) (hcr : CR P E cl c l l') (hb : Both P E wl w)
    (h1 : ∀ wl, stepG P true (G (mkF fn x todo mode) l) wl = .go (G (mkF fn x todo' mode') l) wl) (h2 : stepG P main (G (mkF fn y todo mode) l') w = .go (G (mkF fn y todo' mode') l') w) : Goes2 P E cl c main (G (mkF fn x todo mode) l) (G (mkF fn y todo mode) l') wl w :=
  ⟨_, _, _, E, _, _, _, h1 _, h2, .mk' hf hx ht hm hcr, hb, fun e he => by simp at he, lastG_mk _, FC.refl _ _, Nat.le_refl _, rfl, fun _ _ => ⟨_, h1 _⟩⟩
omit [Fns] in
theorem stepG_cond' (fn : FuncId) (x : Array Value) (cnd : Operand) (a b : Code) (k : List Item) (l : List Frame) (w : World) : stepG P main (G (mkF fn x (.code (.cond cnd a b) :: k) .run) l) w = match (mkF fn x (.code (.cond cnd a b) :: k) .run).eval cnd with
    | .bool t => .go (G (mkF fn x (.code (if t then a else b) :: k) .run) l) w
    | _ => .ended (.stuck "cond: bool expected" ((mkF fn x (.code (.cond cnd a b) :: k) .run).pos P)) w := rfl
/-- What an operation that came to this does to the frame. -/
def upon (P : Program) (fr : Frame) (cs : List Frame) (es : Array Event) : Next → World → GStep
  | .value v, w => .go (G (fr.finish v) cs) w es
  | .skip, w => .go (G (fr.finish undef) cs) w es
  | .enter f args, w => .go (G (Frame.enter P f args .normal) (fr :: cs)) w es
  | _, w => .ended (.stuck "" "") w
omit [Fns] in
theorem apply_ok {fn : FuncId} {x : Array Value} {ops : Array Oper} {i : Nat} {rest : List Nat} {k cs} {s : Sem Next} {nx : Next} {w w' : World} {es : Array Event} (h : s.runT P w #[] = (.ok nx w', es)) (hn : (∃ v, nx = .value v) ∨ nx = .skip ∨ ∃ f a, nx = .enter f a) :
    stepG.apply P true (mkF fn x (.inRegion ops (i :: rest) :: k) .run) cs none s w = upon P (mkF fn x (.inRegion ops (i :: rest) :: k) .run) cs (seen P fn es) nx w' := by
  unfold stepG.apply
  simp only [h, if_true]
  rcases hn with ⟨v, rfl⟩ | rfl | ⟨f, a, rfl⟩
  · simp [GStep.after, upon, mkF, G]
  · simp [GStep.after, upon, mkF, G]
  · simp [GStep.after, upon, mkF, G]
end
end Go.Proofs.Ytpdemelchhkfaaa.Cs
