/-
  Several texts, joined: CsR, CsS.
-/
import Derived.Test.YtpdemelchhkfaaaJn7
import Derived.KernelRfl
/-
  A lone run that ends on every tape: it ends in whatever company.
-/
namespace Go.Proofs.Ytpdemelchhkfaaa.Cs
open Go.Conc
/-- A goroutine and its lone world. -/
abbrev Gh := Goroutine × World
/-- It stands at its return, above the callers that it began with. -/
def Stop (cl : List Frame) (g : Goroutine) : Prop := g.frame.mode = .returning ∧ g.callers = cl
/-- The lone machine comes to the return. -/
def Reach (P : Program) (cl : List Frame) (Post : Value → World → Prop) (g : Goroutine) (w : World) : Prop :=
  ∃ n fr w' v, runN P n (lone g.frame g.callers w) = .next (lone fr cl w') ∧ fr.leaving P w' (.returned v) ∧ Post v w'
def Live (P : Program) (cl : List Frame) (Post : Value → World → Prop) (g : Goroutine) (w : World) : Prop := ∀ τ, (∀ i q, i < w.drawn → τ i q = w.tape i q) → Reach P cl Post g (w.tp τ)
/-- One step on. -/
def After (P : Program) (cl : List Frame) (s' s : Gh) : Prop :=
  ¬ Stop cl s.1 ∧ (∃ fr cs, s.1 = G fr cs) ∧ (∃ fr cs, s'.1 = G fr cs) ∧ ∃ τ, LocG P s.1 (s.2.tp τ) s'.1 s'.2
section
variable {P : Program} {cl : List Frame} {Post : Value → World → Prop}
theorem step_of_loc {s s' : Gh} {τ τ' : Nat → Question → Nat} (h1 : ∃ fr cs, s.1 = G fr cs) (h2 : ∃ fr cs, s'.1 = G fr cs) (h : LocG P s.1 (s.2.tp τ) s'.1 s'.2) (ht : ∀ i q, s.2.drawn ≤ i → i < s'.2.drawn → τ' i q = τ i q) : step P (lone s.1.frame s.1.callers (s.2.tp τ')) = .next (lone s'.1.frame s'.1.callers (s'.2.tp τ')) := by
  obtain ⟨fr, cs, e1⟩ := h1
  obtain ⟨fr', cs', e2⟩ := h2
  obtain ⟨_, _, h3⟩ := h
  obtain ⟨es, h4⟩ := h3 τ' ht
  rw [e1, e2] at h4
  rw [e1, e2]
  refine step_lone_go ?_
  have h5 : stepG P true { frame := fr, callers := cs, status := .running, dying := none } (s.2.tp τ') = .go (G fr' cs') (s'.2.tp τ') es := h4
  show (stepG P true { frame := fr, callers := cs, status := .running, dying := none } (s.2.tp τ')).bare = _
  rw [h5]
  rfl
theorem notAcc_chain {α : Type} {r : α → α → Prop} {a : α} (h : ¬ Acc r a) : ∃ f : Nat → α, f 0 = a ∧ ∀ n, r (f (n + 1)) (f n) := by
  have nx : ∀ x : { x // ¬ Acc r x }, ∃ y : { x // ¬ Acc r x }, r y.1 x.1 := fun x => by
    apply Classical.byContradiction
    intro hn
    refine x.2 (Acc.intro _ fun y hy => ?_)
    apply Classical.byContradiction
    intro hy'
    exact hn ⟨⟨y, hy'⟩, hy⟩
  let g : { x // ¬ Acc r x } → { x // ¬ Acc r x } := fun x => Classical.choose (nx x)
  let f : Nat → { x // ¬ Acc r x } := fun n => Nat.rec ⟨a, h⟩ (fun _ x => g x) n
  exact ⟨fun n => (f n).1, rfl, fun n => Classical.choose_spec (nx (f n))⟩
theorem live_acc {g : Goroutine} {w : World} (h : Live P cl Post g w) : Acc (After P cl) (g, w) := by
  apply Classical.byContradiction
  intro hn
  obtain ⟨f, f0, hf⟩ := notAcc_chain hn
  let d : Nat → Nat := fun k => (f k).2.drawn
  let t : Nat → Nat → Question → Nat := fun k => Classical.choose (hf k).2.2.2
  have ht : ∀ k, LocG P (f k).1 ((f k).2.tp (t k)) (f (k + 1)).1 (f (k + 1)).2 := fun k => Classical.choose_spec (hf k).2.2.2
  have hd : ∀ k, d k ≤ d (k + 1) := fun k => (ht k).1
  have hmono : ∀ k j, d k ≤ d (k + j) := fun k j => by
    induction j with
    | zero => exact Nat.le_refl _
    | succ j ih => exact Nat.le_trans ih (hd (k + j))
  let T : Nat → Question → Nat := fun i q => open Classical in if hk : ∃ k, d k ≤ i ∧ i < d (k + 1) then t (Classical.choose hk) i q else w.tape i q
  have hT : ∀ k i q, d k ≤ i → i < d (k + 1) → T i q = t k i q := fun k i q h1 h2 => by
    have hk : ∃ k, d k ≤ i ∧ i < d (k + 1) := ⟨k, h1, h2⟩
    show (open Classical in if hk : ∃ k, d k ≤ i ∧ i < d (k + 1) then t (Classical.choose hk) i q else w.tape i q) = _
    rw [dif_pos hk]
    obtain ⟨h3, h4⟩ := Classical.choose_spec hk
    have : Classical.choose hk = k := by
      rcases Nat.lt_trichotomy (Classical.choose hk) k with hlt | heq | hgt
      · have := hmono (Classical.choose hk + 1) (k - (Classical.choose hk + 1))
        rw [show Classical.choose hk + 1 + (k - (Classical.choose hk + 1)) = k by omega] at this
        omega
      · exact heq
      · have := hmono (k + 1) (Classical.choose hk - (k + 1))
        rw [show k + 1 + (Classical.choose hk - (k + 1)) = Classical.choose hk by omega] at this
        omega
    rw [this]
  have hrun : ∀ k, runN P k (lone (f 0).1.frame (f 0).1.callers ((f 0).2.tp T)) = .next (lone (f k).1.frame (f k).1.callers ((f k).2.tp T)) := fun k => by
    induction k with
    | zero => rfl
    | succ k ih =>
      have hs := step_of_loc (τ' := T) (hf k).2.1 (hf k).2.2.1 (ht k) (fun i q h1 h2 => hT k i q h1 h2)
      rw [runN_add, ih]
      show runN P 1 _ = _
      simp only [runN, hs]
  have hd0 : d 0 = w.drawn := by show (f 0).2.drawn = _; rw [f0]
  obtain ⟨n, fr, w', v, h1, h2, _⟩ := h T (fun i q hi => by
    show (open Classical in if hk : ∃ k, d k ≤ i ∧ i < d (k + 1) then t (Classical.choose hk) i q else w.tape i q) = _
    rw [dif_neg (fun ⟨k, h3, _⟩ => by have := hmono 0 k; rw [Nat.zero_add] at this; omega)])
  have hfn := hrun n
  rw [f0] at hfn
  rw [hfn] at h1
  injection h1 with h1
  have e1 : (f n).1.frame = fr ∧ (f n).1.callers = cl := by
    unfold lone at h1
    injection h1 with hw hg hr
    have : ({ frame := (f n).1.frame, callers := (f n).1.callers, status := .running, dying := none } : Goroutine) = { frame := fr, callers := cl, status := .running, dying := none } := by
      have := congrArg (fun a => a[0]?) hg
      simpa using this
    injection this with a b
    exact ⟨a, b⟩
  exact (hf n).1 ⟨by rw [e1.1]; exact h2.1, e1.2⟩
end
end Go.Proofs.Ytpdemelchhkfaaa.Cs

/-
  A call in company: its ghost, the same call alone.
-/
namespace Go.Proofs.Ytpdemelchhkfaaa.Cs
open Go.Conc
/-- What the lone one returns to: it goes no further. -/
def trap (P : Program) : Frame := { fn := P.funcs.size, tmps := #[], todo := [.call default false "fmt's door" #[]], defers := [], mode := .run, kind := .normal }
theorem next_none : Extern.next "fmt's door" = none := by kernel_rfl
theorem door_self : ("fmt's door".startsWith "fmt's door") = true := by kernel_rfl
section
variable {P : Program} {Post : Value → World → Prop}
theorem trap_step (v : Value) (w : World) : ∃ o w' , step P (lone ((trap P).finish v) [] w) = .ended o w' := by
  have h : stepG P true (G ((trap P).finish v) []) w = .ended (.stuck ("no extern row " ++ "fmt's door") (((trap P).finish v).pos P)) w := by
    simp only [G, stepG, stepG.exec, trap, Frame.finish, next_none, Option.elim_none]
  exact ⟨_, _, step_lone_ended (by
    have h5 : stepG P true { frame := (trap P).finish v, callers := [], status := .running, dying := none } w = _ := h
    rw [h5]
    rfl)⟩
theorem trap_panic (chain : List PanicEntry) (w : World) : ∃ o w', step P (lone ((trap P).raise chain) [] w) = .ended o w' := by
  have hc : ((trap P).raise chain).catches P = true := by
    unfold Frame.catches
    have : P.funcs[((trap P).raise chain).fn]? = none := by simp [trap, Frame.raise]
    rw [this]
    show ("fmt's door".startsWith "fmt's door") = true
    exact door_self
  have h : ∃ o w' es, stepG P true (G ((trap P).raise chain) []) w = .ended o w' es := by
    have e : stepG P true (G ((trap P).raise chain) []) w = unwind P true ((trap P).raise chain) [] none w := rfl
    rw [e]
    unfold unwind
    simp only [trap, Frame.raise] at hc ⊢
    simp only [hc, if_true]
    exact ⟨_, _, _, rfl⟩
  obtain ⟨o, w', es, h⟩ := h
  exact ⟨_, _, step_lone_ended (by
    have h5 : stepG P true { frame := (trap P).raise chain, callers := [], status := .running, dying := none } w = _ := h
    rw [h5]
    rfl)⟩
theorem runN_dead {m : Machine} {o : Outcome} {w : World} (h : step P m = .ended o w) : ∀ n m', runN P (n + 1) m ≠ .next m' := fun n m' e => by
  simp only [runN, h] at e
  cases e
theorem lone_inj {fr fr' : Frame} {cs cs' : List Frame} {w w' : World} (h : lone fr cs w = lone fr' cs' w') : fr = fr' ∧ cs = cs' ∧ w = w' := by
  unfold lone at h
  injection h with hw hg hr
  have : ({ frame := fr, callers := cs, status := .running, dying := none } : Goroutine) = { frame := fr', callers := cs', status := .running, dying := none } := by
    have := congrArg (fun a => a[0]?) hg
    simpa using this
  injection this with a b
  exact ⟨a, b, hw⟩
/-- Callers that no panic comes out of. -/
inductive PanL (P : Program) : List Frame → Prop
  | base : PanL P [trap P]
  | cons {fn : FuncId} {x : Array Value} {todo : List Item} {l : List Frame} (hf : ∃ f, P.funcs[fn]? = some f) (h : PanL P l) : PanL P (mkF fn x todo .run :: l)
theorem never_back : ∀ (n : Nat) {l : List Frame}, PanL P l → ∀ {fn : FuncId} {x : Array Value} {todo : List Item} {chain : List PanicEntry} {w : World}, (∃ f, P.funcs[fn]? = some f) → ∀ {fr' : Frame} {cs' : List Frame} {w' : World}, runN P n (lone (mkF fn x todo (.panicking chain)) l w) = .next (lone fr' cs' w') → fr'.mode ≠ .returning
  | 0, l, _, fn, x, todo, chain, w, _, fr', cs', w', h => by
    injection h with h
    obtain ⟨rfl, _⟩ := lone_inj h
    exact fun e => by cases e
  | n + 1, l, hl, fn, x, todo, chain, w, ⟨f, hf⟩, fr', cs', w', h => by
    have hstep : ∀ (cal : Frame) (rest : List Frame), l = cal :: rest → step P (lone (mkF fn x todo (.panicking chain)) l w) = .next (lone (cal.raise chain) rest w) := fun cal rest e => by
      subst e
      refine step_lone_go ?_
      have hc : (mkF fn x todo (.panicking chain)).catches P = false := by
        unfold Frame.catches
        have : P.funcs[(mkF fn x todo (.panicking chain)).fn]? = some f := hf
        rw [this]
      show GStep.bare (unwind P true (mkF fn x todo (.panicking chain)) (cal :: rest) none w) = _
      unfold unwind
      simp only [mkF] at hc ⊢
      simp only [hc, Bool.false_eq_true, if_false]
      rfl
    cases hl with
    | base =>
      simp only [runN, hstep _ _ rfl] at h
      cases n with
      | zero =>
        injection h with h
        obtain ⟨rfl, _⟩ := lone_inj h
        exact fun e => by cases e
      | succ n =>
        obtain ⟨o, w2, hd⟩ := trap_panic (P := P) chain w
        exact absurd h (runN_dead hd n _)
    | cons hf2 hl2 =>
      simp only [runN, hstep _ _ rfl] at h
      exact never_back n hl2 hf2 h
variable [Fns]
theorem CR.panL {E : Env} {c l l' : List Frame} (h : CR P E [trap P] c l l') : PanL P l := by
  induction h with
  | base => exact .base
  | cons hf _ _ _ ih => exact .cons hf ih
/-- Who is lost does not return. -/
theorem lost_not {E : Env} {c : List Frame} {gl g : Goroutine} {wl : World} (hg : GR P E [trap P] c gl g) (hns : ¬ Stop [trap P] gl) (h : Lost P gl wl) : ¬ Reach P [trap P] Post gl wl := by
  rintro ⟨n, fr, w', v, h1, h2, _⟩
  obtain ⟨fn, x, y, todo, mode, l, l', rfl, rfl, hf, hx, ht, hm, hcr⟩ := hg.ex
  cases n with
  | zero =>
    injection h1 with h1
    obtain ⟨e1, e2, _⟩ := lone_inj h1
    exact hns ⟨by rw [e1]; exact h2.1, e2⟩
  | succ n =>
    rcases h with ⟨o, w2, es, h⟩ | ⟨fn2, x2, todo2, chain, w2, es, h, hf2⟩
    · have : step P (lone (mkF fn x todo mode) l wl) = .ended o w2 := step_lone_ended (by
        have h5 : stepG P true { frame := mkF fn x todo mode, callers := l, status := .running, dying := none } wl = _ := h
        rw [h5]
        rfl)
      exact runN_dead this n _ h1
    · have : step P (lone (mkF fn x todo mode) l wl) = .next (lone (mkF fn2 x2 todo2 (.panicking chain)) l w2) := step_lone_go (by
        have h5 : stepG P true { frame := mkF fn x todo mode, callers := l, status := .running, dying := none } wl = _ := h
        rw [h5]
        rfl)
      have h1' : runN P (n + 1) (lone (mkF fn x todo mode) l wl) = .next (lone fr [trap P] w') := h1
      simp only [runN, this] at h1'
      exact never_back n hcr.panL hf2 h1' h2.1
/-- Who stands at its return returns what was asked for. -/
theorem stop_post {E : Env} {c : List Frame} {gl g : Goroutine} {wl : World} (hg : GR P E [trap P] c gl g) (hs : Stop [trap P] gl) (h : Reach P [trap P] Post gl wl) : ∃ v, gl.frame.leaving P wl (.returned v) ∧ Post v wl := by
  obtain ⟨n, fr, w', v, h1, h2, h3⟩ := h
  obtain ⟨fn, x, y, todo, mode, l, l', rfl, rfl, hf, hx, ht, hm, hcr⟩ := hg.ex
  cases n with
  | zero =>
    injection h1 with h1
    obtain ⟨rfl, _, rfl⟩ := lone_inj h1
    exact ⟨v, h2, h3⟩
  | succ n =>
    exfalso
    obtain ⟨hm2, hl⟩ := hs
    have hm2' : mode = .returning := hm2
    have hl' : l = [trap P] := hl
    subst hm2' hl'
    obtain ⟨f, hfn⟩ := hf
    have h1' : runN P (n + 1) (lone (mkF fn x todo .returning) [trap P] wl) = .next (lone fr [trap P] w') := h1
    have s1 := stepG_returns (P := P) (main := true) (x := x) (todo := todo) (l := []) (w := wl) (cal := trap P) hfn
    cases hr : (results f x).run P wl with
    | halt hh w2 =>
      rw [hr] at s1
      have : ∃ o w3, step P (lone (mkF fn x todo .returning) [trap P] wl) = .ended o w3 := by
        cases hh <;> exact ⟨_, _, step_lone_ended (by
          have h5 : stepG P true { frame := mkF fn x todo .returning, callers := [trap P], status := .running, dying := none } wl = _ := s1
          rw [h5]
          rfl)⟩
      obtain ⟨o, w3, h4⟩ := this
      exact runN_dead h4 n _ h1'
    | ok u w2 =>
      rw [hr] at s1
      have h4 : step P (lone (mkF fn x todo .returning) [trap P] wl) = .next (lone ((trap P).finish u) [] w2) := step_lone_go (by
        have h5 : stepG P true { frame := mkF fn x todo .returning, callers := [trap P], status := .running, dying := none } wl = _ := s1
        rw [h5]
        rfl)
      simp only [runN, h4] at h1'
      cases n with
      | zero =>
        injection h1' with h1'
        obtain ⟨_, e2, _⟩ := lone_inj h1'
        cases e2
      | succ n =>
        obtain ⟨o, w3, h5⟩ := trap_step (P := P) u w2
        exact runN_dead h5 n _ h1'
end
end Go.Proofs.Ytpdemelchhkfaaa.Cs
