/-
  Several texts, joined: CsT, CsU, CsV.
-/
import Derived.Test.YtpdemelchhkfaaaJn8
import Derived.Conc.Beside
/-
  A call in company: it begins, goes on, and returns what the same call returns alone.
-/
namespace Go.Proofs.Ytpdemelchhkfaaa.Cs
open Go.Conc
variable [Fns]
/-- A call in company, with its ghost: the same call alone. -/
structure InCall (P : Program) (Post : Value → World → Prop) (c : List Frame) (E : Env) (gl : Goroutine) (wl : World) (g : Goroutine) (w : World) : Prop where
  gr : GR P E [trap P] c gl g
  wr : WR P E wl w
  big : Fns.G ≤ wl.heap.size
  live : Live P [trap P] Post gl wl
section
variable {P : Program} {Post : Value → World → Prop} {c : List Frame} {E : Env} {gl g : Goroutine} {wl w : World}
theorem InCall.other {w2 : World} (h : InCall P Post c E gl wl g w) (hw : ∀ b x, E b = some x → w2.heap[x.1]? = w.heap[x.1]?) : InCall P Post c E gl wl g w2 := by
  refine ⟨h.gr, ⟨fun b q s e => ?_, fun b q s e => ?_, h.wr.inj, h.wr.low⟩, h.big, h.live⟩
  · obtain ⟨h1, ol, o, h2, h3, h4⟩ := h.wr.own b q s e
    exact ⟨h1, ol, o, h2, (hw b _ e).trans h3, h4⟩
  · obtain ⟨x, T, y, T', fr, h1, h2, h3, h4⟩ := h.wr.shared b q s e
    exact ⟨x, T, y, T', fr, h1, h2, (hw b _ e).trans h3, h4⟩
theorem InCall.running (h : InCall P Post c E gl wl g w) : g.status = .running := by
  obtain ⟨fn, x, y, todo, mode, l, l', rfl, rfl, _⟩ := h.gr.ex
  rfl
theorem InCall.start (hC : FnsCode P) {f : FuncId} (hf : Fns.ok f = true) {x y : Array Value} (hx : LR E x y) (hw : WR P E wl w) (hb : Fns.G ≤ wl.heap.size) (hc : ∀ τ, Calls P f x (wl.tp τ) fun e w' => ∃ v, e = .returned v ∧ Post v w') :
    InCall P Post c E (G (Frame.enter P f x .normal) [trap P]) wl (G (Frame.enter P f y .normal) c) w := by
  obtain ⟨x', y', todo, e1, e2, e3, e4⟩ := enter_ok hC hf hx
  refine ⟨?_, hw, hb, fun τ _ => ?_⟩
  · rw [e1, e2]
    exact .mk' (hC.hasF hf) e3 e4 (.inl rfl) .base
  · obtain ⟨e, w', fr, ⟨v, rfl, hp⟩, ⟨n, hn⟩, _, hl⟩ := hc τ [trap P]
    exact ⟨n, fr, w', v, hn, hl, hp⟩
/-- The lone tape that tells what the tape in company will tell. -/
def aligned (wl w : World) : Nat → Question → Nat := fun i q => if i < wl.drawn then wl.tape i q else w.tape (i - wl.drawn + w.drawn) q
omit [Fns] in
theorem aligned_ta (wl w : World) : TA (wl.tp (aligned wl w)) w := fun i q => by
  show aligned wl w (wl.drawn + i) q = _
  unfold aligned
  rw [if_neg (by omega), show wl.drawn + i - wl.drawn + w.drawn = w.drawn + i by omega]
omit [Fns] in
theorem aligned_low {wl w : World} {i : Nat} (q : Question) (h : i < wl.drawn) : aligned wl w i q = wl.tape i q := by
  unfold aligned
  rw [if_pos h]
theorem WR.tp (h : WR P E wl w) (τ : Nat → Question → Nat) : WR P E (wl.tp τ) w := ⟨h.own, h.shared, h.inj, h.low⟩
theorem InCall.step2 (hG : P.globals.size ≤ Fns.G) (hC : FnsCode P) (main : Bool) (h : InCall P Post c E gl wl g w) (hns : ¬ Stop [trap P] gl) :
    ∃ E' gl' wl' g' w' es, stepG P main g w = .go g' w' es ∧ InCall P Post c E' gl' wl' g' w' ∧ After P [trap P] (gl', wl') (gl, wl) ∧ (∀ e ∈ es, EvOk E' e) ∧ FC E E' w w' ∧ lastG g' = lastG g := by
  have hb : Both P E (wl.tp (aligned wl w)) w := ⟨h.wr.tp _, aligned_ta _ _, h.big⟩
  rcases step_alike (main := main) hG hC h.gr hb hns with ⟨gl', wl', esl, E', g', w', es, s1, s2, hg, hB, hev, hlast, hfc, hloc⟩ | hlost
  · have f1 : ∃ fr cs, gl = G fr cs := by
      obtain ⟨fn, x, y, todo, mode, l, l', e, _⟩ := h.gr.ex
      exact ⟨_, _, e⟩
    have f2 : ∃ fr cs, gl' = G fr cs := by
      obtain ⟨fn, x, y, todo, mode, l, l', e, _⟩ := hg.ex
      exact ⟨_, _, e⟩
    refine ⟨E', gl', wl', g', w', es, s2, ⟨hg, hB.wr, hB.big, fun τ hτ => ?_⟩, ⟨hns, f1, f2, _, hloc⟩, hev, hfc, hlast⟩
    obtain ⟨l1, l2, l3⟩ := hloc
    have l1' : wl.drawn ≤ wl'.drawn := l1
    have l2' : wl'.tape = aligned wl w := l2
    rw [l2'] at hτ
    obtain ⟨n, fr, w2, v, h1, h2, h3⟩ := h.live τ (fun i q hi => by rw [hτ i q (by omega), aligned_low q hi])
    cases n with
    | zero =>
      injection h1 with h1
      obtain ⟨e1, e2, _⟩ := lone_inj h1
      exact absurd ⟨by rw [e1]; exact h2.1, e2⟩ hns
    | succ n =>
      have hs := step_of_loc (P := P) (s := (gl, wl)) (s' := (gl', wl')) (τ := aligned wl w) (τ' := τ) f1 f2 ⟨l1, l2, l3⟩ (fun i q h4 h5 => hτ i q h5)
      simp only [runN, hs] at h1
      exact ⟨n, fr, w2, v, h1, h2, h3⟩
  · exact absurd (h.live (aligned wl w) (fun i q hi => aligned_low q hi)) (lost_not h.gr hns hlost)
theorem InCall.step (hG : P.globals.size ≤ Fns.G) (hC : FnsCode P) (main : Bool) (h : InCall P Post c E gl wl g w) (hns : ¬ Stop [trap P] gl) :
    ∃ E' gl' wl' g' w' es, stepG P main g w = .go g' w' es ∧ InCall P Post c E' gl' wl' g' w' ∧ After P [trap P] (gl', wl') (gl, wl) ∧ (∀ e ∈ es, EvOk E' e) ∧ FC E E' w w' := by
  obtain ⟨E', gl', wl', g', w', es, h1, h2, h3, h4, h5, _⟩ := h.step2 hG hC main hns
  exact ⟨E', gl', wl', g', w', es, h1, h2, h3, h4, h5⟩
theorem InCall.ret (main : Bool) {cal : Frame} {rest : List Frame} (h : InCall P Post (cal :: rest) E gl wl g w) (hs : Stop [trap P] gl) :
    ∃ v wl2 E' v' w' es, Post v wl2 ∧ VR E' v v' ∧ WR P E' wl2 w' ∧ stepG P main g w = .go (G (cal.finish v') rest) w' es ∧ (∀ e ∈ es, EvOk E' e) ∧ FC E E' w w' := by
  have hb : Both P E (wl.tp (aligned wl w)) w := ⟨h.wr.tp _, aligned_ta _ _, h.big⟩
  obtain ⟨v, hl, hp⟩ := stop_post h.gr hs (h.live (aligned wl w) (fun i q hi => aligned_low q hi))
  obtain ⟨fn, x, y, todo, mode, l, l', rfl, rfl, hf, hx, ht, hm, hcr⟩ := h.gr.ex
  obtain ⟨hm2, hl2⟩ := hs
  have hm2' : mode = .returning := hm2
  have hl2' : l = [trap P] := hl2
  subst hm2' hl2'
  obtain ⟨_, _, _, f, hfn, hr⟩ := hl
  have hfn' : P.funcs[fn]? = some f := hfn
  have hr' : (results f x).run P (wl.tp (aligned wl w)) = .ok v (wl.tp (aligned wl w)) := hr
  have hout := (sr_results (P := P) f hx).run _ w #[] hb
  rw [hr'] at hout
  obtain ⟨E', v', w', es', k1, k2, k3, k4, k5⟩ := hout
  have hlc : l' = cal :: rest := by
    have hlen : ∀ {a b : List Frame}, CR P E [trap P] (cal :: rest) a b → a = [trap P] → b = cal :: rest := fun {a b} hab e => by
      cases hab with
      | base => rfl
      | cons hf2 hx2 ht2 h2 =>
        exfalso
        injection e with e1 e2
        have := congrArg Frame.todo e1
        simp only [mkF, trap] at this
        rw [this] at ht2
        simp [pend, itemOk] at ht2
    exact hlen hcr rfl
  subst hlc
  have s2 := stepG_returns (P := P) (main := main) (x := y) (todo := todo) (l := rest) (w := w) (cal := cal) hfn'
  have hr2 : (results f y).run P w = .ok v' w' := by rw [← Sem.runT_fst P _ w #[], k1]
  rw [hr2, k1] at s2
  dsimp only [GStep.after] at s2
  refine ⟨v, _, E', v', w', _, hp, k2, k3.wr, s2, fun e he => ?_, k5⟩
  simp only [Array.append_empty, Array.empty_append] at he
  exact k4 e (mem_seen he)
end
end Go.Proofs.Ytpdemelchhkfaaa.Cs

/-
  Who may touch what: a trace in which each place is one goroutine's own, or read by all.
-/
namespace Go.Proofs.Ytpdemelchhkfaaa.Cs
open Go.Conc

/-- 'own l': whose the place is; none: nobody writes it. 'act': who is at work. -/
structure TI (t : Trace) (own : _root_.Go.Loc → Option Nat) (act : Nat → Prop) : Prop where
  clean : ∀ said, ¬ Race said t
  mine : ∀ l g, own l = some g → Perm t g l
  read : ∀ l, own l = none → ∀ g, act g → ∀ i a, touchAt t i = some a → a.loc = l → a.write = true → Knows t g i
  words : Wordless t
section
variable {t u : Trace} {own : _root_.Go.Loc → Option Nat} {act : Nat → Prop}
/-- What goroutine g may list. -/
def OkBy (own : _root_.Go.Loc → Option Nat) (g : Nat) (op : MemOp) : Prop := op.g = g ∧ ∀ b, op.act.touch? = some b → own b.loc = some g ∨ (own b.loc = none ∧ b.write = false)
theorem TI.step {g : Nat} (h : TI t own act) (hg : act g) (hu : ∀ op ∈ u, OkBy own g op) (hw : Wordless u) : TI (t ++ u) own act := by
  refine ⟨fun said => noRace_append (h.clean said) (fun op hop => (hu op hop).1) fun i a ha op hop b hb hc => ?_, fun l g' hl => ?_, fun l hl g' hg' i a ha hal haw => ?_, h.words.append hw⟩
  · rcases (hu op hop).2 b hb with h1 | ⟨h1, h2⟩
    · exact h.mine b.loc g h1 i a ha hc.1
    · rcases hc.2.2.1 with h3 | h3
      · exact h.read b.loc h1 g hg i a ha hc.1 h3
      · rw [h2] at h3; cases h3
  · refine (h.mine l g' hl).app fun op hop b hb e => ?_
    rcases (hu op hop).2 b hb with h1 | ⟨h1, _⟩
    · rw [e, hl] at h1
      cases h1
      exact (hu op hop).1
    · rw [e, hl] at h1; cases h1
  · obtain ⟨x, hx, hxa⟩ := touch_of ha
    rcases getElem?_append_cases hx with ⟨hi, hx'⟩ | ⟨_, hxu⟩
    · exact (h.read l hl g' hg' i a (by rw [touchAt_of hx']; exact hxa) hal haw).app u
    · rcases (hu x hxu).2 a hxa with h1 | ⟨_, h2⟩
      · rw [hal, hl] at h1; cases h1
      · rw [h2] at haw; cases haw
/-- Operations that touch nothing, whoever's. -/
theorem TI.mute (h : TI t own act) (hn : ∀ op ∈ u, op.act.touch? = none) (hw : Wordless u) : TI (t ++ u) own act := by
  refine ⟨fun said => ?_, fun l g' hl => ?_, fun l hl g' hg' i a ha hal haw => ?_, h.words.append hw⟩
  · rintro ⟨i, j, hij, ⟨a, b, ha, hb, hc⟩, n1, n2⟩
    obtain ⟨x, hx, hxa⟩ := touch_of ha
    obtain ⟨y, hy, hyb⟩ := touch_of hb
    rcases getElem?_append_cases hy with ⟨hj, hy'⟩ | ⟨_, hyu⟩
    · have hi : i < t.size := Nat.lt_trans hij hj
      have hx' : t[i]? = some x := by rw [← getElem?_append_old (u := u) hi]; exact hx
      exact h.clean said ⟨i, j, hij, ⟨a, b, by simp [Trace.act?, hx', hxa], by simp [Trace.act?, hy', hyb], hc⟩, fun e => n1 (hb_app u e), fun e => n2 (hb_app u e)⟩
    · rw [hn y hyu] at hyb; cases hyb
  · exact (h.mine l g' hl).app fun op hop b hb _ => by rw [hn op hop] at hb; cases hb
  · obtain ⟨x, hx, hxa⟩ := touch_of ha
    rcases getElem?_append_cases hx with ⟨hi, hx'⟩ | ⟨_, hxu⟩
    · exact (h.read l hl g' hg' i a (by rw [touchAt_of hx']; exact hxa) hal haw).app u
    · rw [hn x hxu] at hxa; cases hxa
/-- Whose places are is told anew: each place stays whose it was, or nobody has touched it, or whoever has it now knows all of it. -/
theorem TI.turn {own' : _root_.Go.Loc → Option Nat} (h : TI t own act) (hm : ∀ l g, own' l = some g → own l = some g ∨ (∀ i a, touchAt t i = some a → a.loc ≠ l) ∨ Perm t g l) (hr : ∀ l, own' l = none → own l = none ∨ ∀ i a, touchAt t i = some a → a.loc ≠ l) : TI t own' act := by
  refine ⟨h.clean, fun l g hl => ?_, fun l hl g hg i a ha hal haw => ?_, h.words⟩
  · rcases hm l g hl with h1 | h1 | h1
    · exact h.mine l g h1
    · exact fun i a ha hal => absurd hal (h1 i a ha)
    · exact h1
  · rcases hr l hl with h1 | h1
    · exact h.read l h1 g hg i a ha hal haw
    · exact absurd hal (h1 i a ha)
/-- Goroutine 0 alone is at work: what it knows all of may be read by all from now on. -/
theorem TI.share {own' : _root_.Go.Loc → Option Nat} (h : TI t own act) (h0 : ∀ g, act g → g = 0) (hm : ∀ l g, own' l = some g → own l = some g) (hr : ∀ l, own' l = none → own l = none ∨ own l = some 0) : TI t own' act := by
  refine ⟨h.clean, fun l g hl => h.mine l g (hm l g hl), fun l hl g hg i a ha hal haw => ?_, h.words⟩
  rcases hr l hl with h1 | h1
  · exact h.read l h1 g hg i a ha hal haw
  · rw [h0 g hg]
    exact h.mine l 0 h1 i a ha hal
/-- Who is no more at work. -/
theorem TI.less {act' : Nat → Prop} (h : TI t own act) (ha : ∀ g, act' g → act g) : TI t own act' := ⟨h.clean, h.mine, fun l hl g hg => h.read l hl g (ha g hg), h.words⟩
/-- What was known to one is known to another one who has noticed a later operation of its. -/
theorem Knows.over {g g' i p q : Nat} {x y : MemOp} (hw : Wordless t) (h : Knows (t.extract 0 p) g i) (hx : t[p]? = some x) (hg : x.g = g) (hy : t[q]? = some y) (hg' : y.g = g') (hn : Notices t p q) : Knows t g' i := by
  have hp : p < t.size := lt_size_of_getElem? hx
  obtain ⟨j, z, hz, hzg, hb⟩ := h
  have hjp : j < p := by
    have := lt_size_of_getElem? hz
    simp at this
    omega
  have e : t.extract 0 p ++ t.extract p t.size = t := by simp; omega
  have hz' : t[j]? = some z := by
    have := getElem?_append_old (u := t.extract p t.size) (lt_size_of_getElem? hz)
    rw [e] at this
    rw [this]
    exact hz
  have hb' : Before t i j := by
    have := hb.app (t.extract p t.size)
    rw [e] at this
    exact this
  refine ⟨q, y, hy, hg', .inr ?_⟩
  have h1 : HappensBefore t j p := hb_po hjp hz' hx (hzg.trans hg.symm)
  have h2 : HappensBefore t p q := Relation.TransGen.single (.inr ⟨hn, hw.heard hx, hw.heard hy⟩)
  exact (hb'.hb h1).trans h2
end
end Go.Proofs.Ytpdemelchhkfaaa.Cs

/-
  A measure for many at work: one falls, the others stay; and a run that comes to a goal.
-/
namespace Go.Proofs.Ytpdemelchhkfaaa.Cs
open Go.Conc
section
variable {α : Type} {r : α → α → Prop}
/-- One of a list is less. -/
inductive OneLess (r : α → α → Prop) : List α → List α → Prop
  | head {a b : α} (l : List α) (h : r a b) : OneLess r (a :: l) (b :: l)
  | tail (a : α) {l l' : List α} (h : OneLess r l l') : OneLess r (a :: l) (a :: l')
theorem oneLess_cons {a : α} (ha : Acc r a) : ∀ {l : List α}, Acc (OneLess r) l → Acc (OneLess r) (a :: l) := by
  induction ha with
  | intro a _ iha =>
    intro l hl
    induction hl with
    | intro l hl ihl =>
      refine Acc.intro _ fun y hy => ?_
      cases hy with
      | head _ h => exact iha _ h (Acc.intro _ hl)
      | tail _ h => exact ihl _ h
theorem oneLess_wf (wf : WellFounded r) : WellFounded (OneLess r) := ⟨fun l => by
  induction l with
  | nil => exact Acc.intro _ fun y hy => by cases hy
  | cons a l ih => exact oneLess_cons (wf.apply a) ih⟩
theorem oneLess_map {ι : Type} (f f' : ι → α) : ∀ {l : List ι} {i : ι}, l.Nodup → i ∈ l → r (f' i) (f i) → (∀ j, j ≠ i → f' j = f j) → OneLess r (l.map f') (l.map f)
  | [], _, _, h, _, _ => by cases h
  | a :: l, i, hn, hi, hr, ho => by
    have hna : a ∉ l := (List.nodup_cons.1 hn).1
    by_cases e : a = i
    · subst e
      have : l.map f' = l.map f := List.map_congr_left fun j hj => ho j (fun e => hna (e ▸ hj))
      rw [List.map_cons, List.map_cons, this]
      exact .head _ hr
    · have hi' : i ∈ l := by
        rcases List.mem_cons.1 hi with h | h
        · exact absurd h.symm e
        · exact h
      rw [List.map_cons, List.map_cons, ho a e]
      exact .tail _ (oneLess_map f f' (List.nodup_cons.1 hn).2 hi' hr ho)
end
/-- How far one is within its phase: steps of a walk, or a ghost. -/
abbrev Mi (P : Program) (cl : List Frame) := Nat ⊕ { s : Gh // Acc (After P cl) s }
inductive MiLt (P : Program) (cl : List Frame) : Mi P cl → Mi P cl → Prop
  | walk {m n : Nat} (h : m < n) : MiLt P cl (.inl m) (.inl n)
  | call {s s' : { s : Gh // Acc (After P cl) s }} (h : After P cl s'.1 s.1) : MiLt P cl (.inr s') (.inr s)
theorem mi_wf (P : Program) (cl : List Frame) : WellFounded (MiLt P cl) := ⟨fun a => by
  cases a with
  | inl n =>
    induction n using Nat.strongRecOn with
    | _ n ih =>
      refine Acc.intro _ fun y hy => ?_
      cases hy with
      | walk h => exact ih _ h
  | inr s =>
    obtain ⟨s, hs⟩ := s
    induction hs with
    | intro s hs ih =>
      refine Acc.intro _ fun y hy => ?_
      cases hy with
      | @call _ s' h => exact ih s'.1 h⟩
/-- The whole measure: moves from phase to phase that are left, and within. -/
abbrev Me (P : Program) (cl : List Frame) := Nat × List (Mi P cl)
def MeLt (P : Program) (cl : List Frame) : Me P cl → Me P cl → Prop := Prod.Lex (· < ·) (OneLess (MiLt P cl))
theorem me_wf (P : Program) (cl : List Frame) : WellFounded (MeLt P cl) := (Prod.lex ⟨_, Nat.lt_wfRel.wf⟩ ⟨_, oneLess_wf (mi_wf P cl)⟩).wf
theorem reach_of_inv {P : Program} {α : Type} {r : α → α → Prop} (wf : WellFounded r) (Inv : α → Machine → Trace → Prop) (Q : Machine → Trace → Prop)
    (h : ∀ μ m t, Inv μ m t → Q m t ∨ ∃ m' ops μ', stepT P m = (.next m', ops) ∧ r μ' μ ∧ Inv μ' m' (t ++ ops)) :
    ∀ μ m t, Inv μ m t → ∃ N m' t', runNT P N m t = (.next m', t') ∧ Q m' t' := by
  intro μ
  induction μ using wf.induction with
  | _ μ ih =>
    intro m t hI
    rcases h μ m t hI with hq | ⟨m', ops, μ', hs, hr, hI'⟩
    · exact ⟨0, m, t, rfl, hq⟩
    · obtain ⟨N, m2, t2, h1, h2⟩ := ih μ' hr m' (t ++ ops) hI'
      exact ⟨N + 1, m2, t2, by rw [runNT_succ_next hs]; exact h1, h2⟩
end Go.Proofs.Ytpdemelchhkfaaa.Cs
