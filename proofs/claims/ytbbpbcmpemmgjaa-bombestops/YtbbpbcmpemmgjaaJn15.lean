/-
  Several texts, joined: CtQ, CtR.
-/
import Derived.Test.YtbbpbcmpemmgjaaJn14
import Derived.Conc.CompanyCalls
/-
  The last call beside goroutines that only leave: its frame is the lowest one; where it returns the run ends.
-/
namespace Go.Proofs.Ytbbpbcmpemmgjaa.Cs
open Go.Conc
variable [Fns]
section
variable {P : Program} {Post : Value → World → Prop}
/-- A call beside goroutines that only leave comes to its return. -/
theorem beside_stop (hG : P.globals.size ≤ Fns.G) (hC : FnsCode P) {gs : Array Goroutine} {t : Trace} {q : Nat → Nat} {g : Goroutine} {w : World} {sl : Option (Nat × Nat)} {c : List Frame} {E : Env} {gl : Goroutine} {wl : World} (h0 : gs[0]? = some g) (hin : InCall P Post c E gl wl g w) (hq : Qt P gs t q w.heap.size) :
    ∃ N gs' w' sl' t' q' E' gl' wl' g', runNT P N (crowd gs w sl) t = (.next (crowd gs' w' sl'), t') ∧ gs'.size = gs.size ∧ gs'[0]? = some g' ∧ InCall P Post c E' gl' wl' g' w' ∧ Stop [trap P] gl' ∧ lastG g' = lastG g ∧ FC E E' w w' ∧ Qt P gs' t' q' w'.heap.size := by
  let Q : Goroutine → World → Prop := fun g' w' => ∃ E' gl' wl', InCall P Post c E' gl' wl' g' w' ∧ Stop [trap P] gl' ∧ lastG g' = lastG g ∧ FC E E' w w'
  let I : Option { s : Gh // Acc (After P [trap P]) s } → Goroutine → World → Prop := fun μ g' w' => match μ with
    | some s => ∃ E', InCall P Post c E' s.1.1 s.1.2 g' w' ∧ lastG g' = lastG g ∧ FC E E' w w'
    | none => False
  have fcAt : ∀ {E' : Env} {w' : World} (d : Nat), FC E E' w w' → FC E E' w (w'.at d) := fun d h => ⟨h.le, h.os, h.tape, h.output, h.size, h.keep, h.fresh⟩
  have fcAt' : ∀ {E' : Env} {w' : World} (d : Nat), FC E E' w (w'.at d) → FC E E' w w' := fun d h => ⟨h.le, h.os, h.tape, h.output, h.size, h.keep, h.fresh⟩
  have a1 : ∀ μ g' w' d, I μ g' w' → I μ g' (w'.at d) := fun μ g' w' d h => by
    cases μ with
    | none => exact h.elim
    | some s =>
      obtain ⟨E', h1, h3, h2⟩ := h
      exact ⟨E', h1.other fun _ _ _ => rfl, h3, fcAt d h2⟩
  have a2 : ∀ g' w' d, Q g' (w'.at d) → Q g' w' := fun g' w' d h => by
    obtain ⟨E', gl', wl', k1, k2, k3, k4⟩ := h
    exact ⟨E', gl', wl', k1.other fun _ _ _ => rfl, k2, k3, fcAt' d k4⟩
  have a3 : ∀ μ g' w', I μ g' w' → g'.status = .running := fun μ g' w' h => by
    cases μ with
    | none => exact h.elim
    | some s =>
      obtain ⟨E', h1, h3, h2⟩ := h
      exact h1.running
  have a4 : ∀ μ g' w', I μ g' w' → Q g' w' ∨ ∃ g2 w2 es μ', stepG P true g' w' = .go g2 w2 es ∧ OptLt P μ' μ ∧ I μ' g2 w2 ∧ w'.heap.size ≤ w2.heap.size ∧ ∀ e ∈ es, EvW w2.heap.size e := fun μ g' w' h => by
    cases μ with
    | none => exact h.elim
    | some s =>
      obtain ⟨E1, hin1, hl1, hf1⟩ := h
      by_cases hs : Stop [trap P] s.1.1
      · exact .inl ⟨E1, _, _, hin1, hs, hl1, hf1⟩
      · obtain ⟨E', gl', wl', g2, w2, es, hst, hin', haft, hev, hfc, hl2⟩ := hin1.step2 hG hC true hs
        exact .inr ⟨g2, w2, es, some ⟨(gl', wl'), live_acc hin'.live⟩, hst, .on haft, ⟨E', hin', hl2.trans hl1, hf1.trans hfc⟩, hfc.size, fun e he => evOk_low hin'.wr (hev e he)⟩
  obtain ⟨N, gs', w', sl', t', q', g', h1, h2, h3, ⟨E', gl', wl', k1, k2, k3, k4⟩, h5⟩ := beside (P := P) (optLt_wf P) I Q a1 a2 a3 a4 (μ := some ⟨(gl, wl), live_acc hin.live⟩) (sl := sl) h0 ⟨E, hin, rfl, FC.refl E w⟩ hq
  exact ⟨N, gs', w', sl', t', q', E', gl', wl', g', h1, h2, h3, k1, k2, k3, k4, h5⟩
/-- Where the lowest frame returns the run ends. -/
theorem InCall.atEnd {E : Env} {gl g : Goroutine} {wl w : World} (hin : InCall P Post [] E gl wl g w) (hs : Stop [trap P] gl) {fn0 : FuncId} {f : Func} {t : Nat} (hl : lastG g = fn0) (hf : P.funcs[fn0]? = some f) (hr : f.results = #[.tmp t]) (hn : P.inits.idxOf? fn0 = none) :
    ∃ v v' wl2, Post v wl2 ∧ VR E v v' ∧ g.status = .running ∧ ∀ w, stepG P true g w = .ended (.done v') w #[] := by
  obtain ⟨v, hlv, hp⟩ := stop_post hin.gr hs (hin.live (aligned wl w) (fun i q hi => aligned_low q hi))
  obtain ⟨fn, x, y, todo, mode, l, l', rfl, rfl, hf', hx, ht, hm, hcr⟩ := hin.gr.ex
  obtain ⟨hm2, hl2⟩ := hs
  have hm2' : mode = .returning := hm2
  have hl2' : l = [trap P] := hl2
  subst hm2' hl2'
  have hlc : l' = [] := by
    have hlen : ∀ {a b : List Frame}, CR P E [trap P] [] a b → a = [trap P] → b = [] := fun {a b} hab e => by
      cases hab with
      | base => rfl
      | cons hf2 hx2 ht2 h2 =>
        exfalso
        injection e with e1 e2
        have := congrArg Frame.todo e1
        simp only [mkF, trap] at this
        rw [this] at ht2
        simp [pend, itemOk] at ht2
    exact hlen hcr rfl
  subst hlc
  have hfn : fn = fn0 := hl
  subst hfn
  obtain ⟨_, _, _, f2, hfn2, hr2⟩ := hlv
  have e2 : f2 = f := by
    have h1 : P.funcs[fn]? = some f2 := hfn2
    rw [hf] at h1
    injection h1 with h1
    exact h1.symm
  subst e2
  have hr3 : (results f2 x).run P (wl.tp (aligned wl w)) = .ok v (wl.tp (aligned wl w)) := hr2
  rw [(resultsC_tmp (P := P) hr x (wl.tp (aligned wl w))).1] at hr3
  injection hr3 with hv _
  subst hv
  refine ⟨_, _, _, hp, lr_getD hx t, rfl, fun w => ?_⟩
  have h1 := (resultsC_tmp (P := P) hr y w).1
  have h2 := (resultsC_tmp (P := P) hr y w).2
  have h3 : (results f2 y).runT P w #[] = (.ok (y.getD t undef) w, #[]) := by
    refine Prod.ext ?_ ?_
    · rw [Sem.runT_fst]; exact h1
    · exact h2
  simp only [G, stepG, unwind, mkF, hf, doReturn, h3, hn]
  rfl
end
end Go.Proofs.Ytbbpbcmpemmgjaa.Cs

/-
  Goroutine 0 beside goroutines that only leave, and what its touches are.
-/
namespace Go.Proofs.Ytbbpbcmpemmgjaa.Cs
open Go.Conc
open Go.ConcN (sumTo sumTo_congr upd upd_same upd_ne sumTo_upd)
/-- As Qt; and each touch is as Pl says. -/
structure QtF (Pl : Touch → Prop) (P : Program) (gs : Array Goroutine) (t : Trace) (q : Nat → Nat) (size : Nat) : Prop where
  qt : Qt P gs t q size
  pl : ∀ j a, touchAt t j = some a → Pl a
section
variable {P : Program} {gs gs' : Array Goroutine} {t : Trace} {q q' : Nat → Nat} {size size' : Nat}
theorem QtF.own {Pl : Touch → Prop} (h : QtF Pl P gs t q size) {fn : FuncId} {pos : String} {es : Array Event} (hs : size ≤ size') (hes : ∀ e ∈ es, EvW size' e ∧ ∀ x, (MemAct.ofEvent e).touch? = some x → Pl x) (hlv : ∀ i g, 0 < i → gs'[i]? = some g → QuitsIn P (q i) g) : QtF Pl P gs' (t ++ MemOp.ofEvents 0 fn pos es) q size' := by
  refine ⟨h.qt.own hs (fun e he => (hes e he).1) hlv, fun j a ha => ?_⟩
  obtain ⟨x, hx, hxa⟩ := touch_of ha
  rcases getElem?_append_cases hx with ⟨_, hx'⟩ | ⟨_, hxu⟩
  · exact h.pl j a (by rw [touchAt_of hx']; exact hxa)
  · obtain ⟨e, he, rfl⟩ := Conc.mem_ofEvents hxu
    exact (hes e he).2 a hxa
theorem QtF.set {Pl : Touch → Prop} (h : QtF Pl P gs t q size) (hlv : ∀ i g, 0 < i → gs'[i]? = some g → QuitsIn P (q' i) g) : QtF Pl P gs' t q' size := ⟨h.qt.set hlv, h.pl⟩
/-- It goes on by itself: I: what holds ahead of each step, with a measure; Q: where it is to come to. -/
theorem beside_f {Pl : Touch → Prop} {α : Type} {r : α → α → Prop} (wf : WellFounded r) (I : α → Goroutine → World → Prop) (Q : Goroutine → World → Prop) (hI : ∀ μ g w d, I μ g w → I μ g (w.at d)) (hQ : ∀ g w d, Q g (w.at d) → Q g w) (hrun : ∀ μ g w, I μ g w → g.status = .running)
    (hstep : ∀ μ g w, I μ g w → Q g w ∨ ∃ g' w' es μ', stepG P true g w = .go g' w' es ∧ r μ' μ ∧ I μ' g' w' ∧ w.heap.size ≤ w'.heap.size ∧ ∀ e ∈ es, EvW w'.heap.size e ∧ ∀ x, (MemAct.ofEvent e).touch? = some x → Pl x) {μ : α} {g : Goroutine} {w : World} {sl : Option (Nat × Nat)} (h0 : gs[0]? = some g) (hi : I μ g w) (hq : QtF Pl P gs t q w.heap.size) :
    ∃ N gs' w' sl' t' q' g', runNT P N (crowd gs w sl) t = (.next (crowd gs' w' sl'), t') ∧ gs'.size = gs.size ∧ gs'[0]? = some g' ∧ Q g' w' ∧ QtF Pl P gs' t' q' w'.heap.size := by
  have key := reach_of_inv (P := P) (Prod.lex ⟨r, wf⟩ ⟨_, Nat.lt_wfRel.wf⟩).wf (fun (μ : α × Nat) m t => ∃ gs' w sl q g, m = crowd gs' w sl ∧ gs'.size = gs.size ∧ gs'[0]? = some g ∧ I μ.1 g w ∧ QtF Pl P gs' t q w.heap.size ∧ μ.2 = sumTo gs'.size q)
    (fun m t => ∃ gs' w sl q g, m = crowd gs' w sl ∧ gs'.size = gs.size ∧ gs'[0]? = some g ∧ Q g w ∧ QtF Pl P gs' t q w.heap.size) ?_ (μ, sumTo gs.size q) _ t ⟨gs, w, sl, q, g, rfl, rfl, h0, hi, hq, rfl⟩
  · obtain ⟨N, m', t', h1, gs', w', sl', q', g', rfl, h2, h3, h4, h5⟩ := key
    exact ⟨N, gs', w', sl', t', q', g', h1, h2, h3, h4, h5⟩
  · rintro ⟨μ, k⟩ m t ⟨gs, w, sl, q, g, rfl, hsz, h0, hi, hq, rfl⟩
    have hg := hrun μ g w hi
    have haw : ∀ x ∈ gs, awake x := fun x hx => by
      obtain ⟨i, hlt, rfl⟩ := Array.mem_iff_getElem.1 hx
      rcases Nat.eq_zero_or_pos i with rfl | hp
      · have : gs[0] = g := by simpa [Array.getElem?_eq_getElem hlt] using h0
        rw [this]; exact awake_of (.inl hg)
      · rcases (hq.qt.lv i _ hp (Array.getElem?_eq_getElem hlt)).status with h3 | h3
        · exact awake_of (.inl h3)
        · exact awake_of (.inr (.inr h3))
    obtain ⟨i, x, d, sl', hx, hxr, hst⟩ := crowd_pick (P := P) (w := w) (sl := sl) haw ⟨0, g, h0, hg⟩
    have quiet : ∀ (a a' y : Goroutine) (w' : World) (j : Nat), (gs.map (woken P a a' w')).setIfInBounds j y = gs.setIfInBounds j y := fun a a' y w' j => map_set_same fun k z _ hz => by
      rcases Nat.eq_zero_or_pos k with rfl | hp
      · rw [h0] at hz
        cases hz
        exact woken_running hg
      · exact woken_quits (hq.qt.lv k z hp hz)
    rcases Nat.eq_zero_or_pos i with rfl | hp
    · rw [h0] at hx
      cases hx
      rcases hstep μ g (w.at d) (hI μ g w d hi) with h1 | ⟨g', w', es, μ', h1, h2, h3, h4, h5⟩
      · exact .inl ⟨gs, w, sl, q, g, rfl, hsz, h0, hQ g w d h1, hq⟩
      · have hr := runT_crowd_go (P := P) (sl := sl') (i := 0) h0 (show stepG P (0 == 0) g (w.at d) = _ from h1)
        rw [quiet] at hr
        refine .inr ⟨_, _, (μ', sumTo gs.size q), hst.trans hr, Prod.Lex.left _ _ h2, _, w', sl', q, g', rfl, by rw [Array.size_setIfInBounds]; exact hsz, Array.getElem?_setIfInBounds_self_of_lt (idx_lt h0), h3, hq.own (gs' := gs.setIfInBounds 0 g') h4 h5 fun k z hk hz => ?_, by rw [Array.size_setIfInBounds]⟩
        rw [Array.getElem?_setIfInBounds_ne (by omega)] at hz
        exact hq.qt.lv k z hk hz
    · have hqi := hq.qt.lv i x hp hx
      cases hqe : q i with
      | zero =>
        rw [hqe] at hqi
        have : x.status = .finished := hqi
        rw [hxr] at this; cases this
      | succ n =>
        rw [hqe] at hqi
        rcases hqi with hf | ⟨_, x', hstp, hq'⟩
        · rw [hxr] at hf; cases hf
        · have hr := runT_crowd_go (P := P) (sl := sl') (i := i) hx (by rw [show (i == 0) = false by simp; omega]; exact hstp (w.at d))
          rw [quiet] at hr
          have hsum : sumTo gs.size (upd q i n) + (n + 1) = sumTo gs.size q + n := by
            have := sumTo_upd q n id (idx_lt hx)
            simpa [hqe] using this
          refine .inr ⟨_, _, (μ, sumTo gs.size (upd q i n)), hst.trans hr, Prod.Lex.right _ (show _ < _ by omega), _, w.at d, sl', upd q i n, g, rfl, by rw [Array.size_setIfInBounds]; exact hsz, ?_, hI μ g w d hi, ?_, by rw [Array.size_setIfInBounds]⟩
          · rw [Array.getElem?_setIfInBounds_ne (by omega)]; exact h0
          · have e : t ++ MemOp.ofEvents i x.frame.fn x.frame.place #[] = t := by rw [ofEvents_none, Array.append_empty]
            rw [e]
            refine hq.set fun k z hk hz => ?_
            by_cases ek : k = i
            · subst ek
              rw [Array.getElem?_setIfInBounds_self_of_lt (idx_lt hx)] at hz
              cases hz
              rw [upd_same]; exact hq'
            · rw [Array.getElem?_setIfInBounds_ne (fun e => ek e.symm)] at hz
              rw [upd_ne _ _ ek]
              exact hq.qt.lv k z hk hz
theorem beside_walk_f {Pl : Touch → Prop} {g : Goroutine} {w : World} {sl : Option (Nat × Nat)} {D : World → World → Array Event → Prop} {Stp : Goroutine → World → Prop} (hD : ∀ w w' es, D w w' es → w.heap.size ≤ w'.heap.size ∧ ∀ e ∈ es, EvW w'.heap.size e ∧ ∀ x, (MemAct.ofEvent e).touch? = some x → Pl x) (hS : ∀ g w, Stp g w → g.status = .running) {m : Nat} (h0 : gs[0]? = some g) (hG : Goes P true AtRel D Stp m g w) (hq : QtF Pl P gs t q w.heap.size) :
    ∃ N gs' w' sl' t' q' g', runNT P N (crowd gs w sl) t = (.next (crowd gs' w' sl'), t') ∧ gs'.size = gs.size ∧ gs'[0]? = some g' ∧ Stp g' w' ∧ QtF Pl P gs' t' q' w'.heap.size := by
  have a1 : ∀ (μ : Nat) g' w' d, Goes P true AtRel D Stp μ g' w' → Goes P true AtRel D Stp μ g' (w'.at d) := fun μ g' w' d h => Goes.rely atRel_trans h ⟨d, rfl⟩
  have a4 : ∀ (μ : Nat) g' w', Goes P true AtRel D Stp μ g' w' → (∀ d, Stp g' (w'.at d)) ∨ ∃ g2 w2 es μ', stepG P true g' w' = .go g2 w2 es ∧ μ' < μ ∧ Goes P true AtRel D Stp μ' g2 w2 ∧ w'.heap.size ≤ w2.heap.size ∧ ∀ e ∈ es, EvW w2.heap.size e ∧ ∀ x, (MemAct.ofEvent e).touch? = some x → Pl x := fun μ g' w' h => by
    rcases h.cases with h1 | ⟨m', rfl, h1⟩
    · exact .inl fun d => h1 _ ⟨d, rfl⟩
    · obtain ⟨g2, w2, es, k1, k2, k3⟩ := h1 w' (atRel_refl w')
      exact .inr ⟨g2, w2, es, m', k1, Nat.lt_succ_self _, k3, hD _ _ _ k2⟩
  obtain ⟨N, gs', w', sl', t', q', g', h1, h2, h3, h4, h5⟩ := beside_f (P := P) (Pl := Pl) Nat.lt_wfRel.wf (fun μ g' w' => Goes P true AtRel D Stp μ g' w') (fun g' w' => ∀ d, Stp g' (w'.at d)) a1 (fun g' w' d h d' => h d') (fun μ g' w' h => h.running hS w' (atRel_refl w')) a4 (sl := sl) h0 hG hq
  exact ⟨N, gs', w', sl', t', q', g', h1, h2, h3, h4 w'.drawn, h5⟩
end
end Go.Proofs.Ytbbpbcmpemmgjaa.Cs
