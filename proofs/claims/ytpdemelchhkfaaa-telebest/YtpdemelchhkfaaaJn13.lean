/-
  Several texts, joined: CtJ, CtK.
-/
import Derived.Test.YtpdemelchhkfaaaCtI
/-
  The pool's two ends: how it begins; what goroutine 0 has behind the last receive.
-/
namespace Go.Proofs.Ytpdemelchhkfaaa.Cs
open Go.Conc
open Go.ConcN (sumTo sumTo_congr)
theorem deaf_wordless {t : Trace} (h : Wordless t) (g : Nat) : Deaf t g = 0 := by
  have : ∀ l : List MemOp, (∀ op ∈ l, ∀ m, op.act = .mark m → Neutral m) → l.foldl (deafStep g) 0 = 0 := fun l => by
    induction l with
    | nil => intro _; rfl
    | cons a l ih =>
      intro hl
      have ha := hl a (List.mem_cons_self ..)
      have e : deafStep g 0 a = 0 := by
        unfold deafStep
        split
        · rename_i e; exact absurd (ha _ e) (fun h => h.ne_disable rfl)
        · split <;> rfl
        · rfl
      show l.foldl (deafStep g) (deafStep g 0 a) = 0
      rw [e]
      exact ih fun op hop => hl op (List.mem_cons_of_mem _ hop)
  have h1 := Deaf_append #[] g t.toList
  have e0 : (#[] : Trace) ++ t.toList.toArray = t := by simp
  rw [e0] at h1
  rw [h1]
  exact this t.toList fun op hop => h op (Array.mem_toList_iff.1 hop)
/-- Whatever a trace names lies below some number. -/
theorem low_some (t : Trace) : ∃ B0, ∀ B, B0 ≤ B → ∀ op ∈ t, op.act.low B := by
  have one : ∀ x : MemAct, ∃ B0, ∀ B, B0 ≤ B → x.low B := fun x => by
    cases x with
    | access e =>
      obtain ⟨l, wr, s⟩ := e
      cases l with
      | cell a => exact ⟨a.block + 1, fun B hB => (show a.block < B by omega)⟩
      | obj r => exact ⟨r + 1, fun B hB => (show r < B by omega)⟩
      | _ => exact ⟨0, fun _ _ => trivial⟩
    | mark m =>
      cases m with
      | acquire a | release a | releaseMerge a | read a | write a => exact ⟨a.block + 1, fun B hB => (show a.block < B by omega)⟩
      | _ => exact ⟨0, fun _ _ => trivial⟩
    | go _ | start => exact ⟨0, fun _ _ => trivial⟩
    | send c _ | sendDone c _ | recv c _ _ | recvDone c _ | close c | recvClosed c => exact ⟨c + 1, fun B hB => (show c < B by omega)⟩
  have : ∀ l : List MemOp, ∃ B0, ∀ B, B0 ≤ B → ∀ op ∈ l, op.act.low B := fun l => by
    induction l with
    | nil => exact ⟨0, fun _ _ _ h => by cases h⟩
    | cons a l ih =>
      obtain ⟨b1, h1⟩ := ih
      obtain ⟨b2, h2⟩ := one a.act
      refine ⟨b1 + b2, fun B hB op hop => ?_⟩
      rcases List.mem_cons.1 hop with rfl | h
      · exact h2 B (by omega)
      · exact h1 B (by omega) op h
  obtain ⟨b, h⟩ := this t.toList
  exact ⟨b, fun B hB op hop => h B hB op (Array.mem_toList_iff.2 hop)⟩
variable [Fns]
section
variable {P : Program} {c : Cst} {Post : Nat → Value → World → Prop} {S : Scr P c Post}
variable {w : World} {t : Trace} {g : Goroutine}
/-- How the pool begins: goroutine 0 alone. -/
theorem Pool.begins (S : Scr P c Post) (h1 : c.S0 = 1) {m : Nat} (hw : Walk P c true (S.GoP 0) m g w) (ok : c.Ok w) (c1 : w.heap[c.C1]? = some (.chan 0 #[] false 0 0 false)) (c2 : w.heap[c.C2]? = some (.chan 0 #[] false 0 0 false)) (hcl : ∀ said, ¬ Race said t) (hwl : Wordless t) (h0 : ∀ op ∈ t, op.g = 0)
    (low : ∀ j a, touchAt t j = some a → locLow w.heap.size a.loc) (fd : ∀ j a ad, touchAt t j = some a → a.loc = .cell ad → ad.block ≠ c.Fd) :
    Pool S #[g] w t (.sp 0 m) (fun _ => .wt) (fun _ => none) (fun _ _ => False) (fun _ => none) := by
  have kn : ∀ j (x : MemOp), t[j]? = some x → Knows t 0 j := fun j x hx => by
    have := knows_own hx
    rw [h0 x (Array.mem_of_getElem? hx)] at this
    exact this
  have hno : ∀ i : Nat, 1 ≤ i → i < (#[g] : Array Goroutine).size → False := fun i a b => by simp at b; omega
  have hno' : ∀ i : Nat, c.S0 ≤ i → i < (#[g] : Array Goroutine).size → False := fun i a b => by simp at b; omega
  refine ⟨by rw [h1]; rfl, ⟨g, rfl, S.n1, hw⟩, fun i x a b => (hno i a (idx_lt b)).elim, fun i a b => by omega, c1, c2, (fun e => by cases e), fun _ i a b => (hno' i a b).elim, (fun ⟨_, e⟩ => by cases e), (fun ⟨_, e⟩ => by cases e), ?_, fun i k E s a b => (hno' i a b).elim, ?_, ?_⟩
  · show 0 + lvF c 0 _ = 0
    unfold lvF
    rw [if_pos (by omega)]
  · exact ⟨ok, fun _ _ => rfl, (fun k hk => by cases hk), fun i _ a b => (hno' i a b).elim, (fun _ _ e => by cases e), fun i _ _ _ a b => (hno' i a b).elim, fun i _ a b => (hno' i a b).elim, fun _ _ e => e.elim, fun i _ _ a b => (hno' i a b).elim, (fun _ _ e => by cases e)⟩
  · refine ⟨⟨hcl, fun l g hl => ?_, fun l _ g hg i a ha _ _ => ?_, hwl⟩, low, fun j a ad ha e1 e2 => absurd e2 (fd j a ad ha e1), fun j x a hx ha => .inl (kn j x hx)⟩
    · cases l <;> simp [ownOf] at hl
    · rcases hg with rfl | ⟨a1, a2⟩
      · obtain ⟨x, hx, _⟩ := touch_of ha
        exact kn i x hx
      · exact (hno' _ a1 a2).elim
/-- What goroutine 0 has behind the last receive: the others only leave; it knows all; each job's result lies there. -/
theorem Joined.past {mm : Machine} (h : Joined S mm t) : ∃ gs w sl g q, mm = crowd gs w sl ∧ gs[0]? = some g ∧ S.JnP g ∧ g.status = .running ∧ Leavers P t gs q ∧ (∃ B0, ∀ B, B0 ≤ B → Past (fun _ => False) B t) ∧ c.Ok w ∧ ∃ RS : Nat → Nat → Prop, (∀ k q, RS k q → c.N1 ≤ q ∧ q < w.heap.size) ∧ ∀ k, k < c.K → ∃ v, w.cell? ⟨c.Fd, k, none⟩ = some v ∧ Res P c Post k v (RS k) w := by
  obtain ⟨gs, w, sl, zs, fnd, RS, blk, m, g, rfl, h, hg, hj, hr⟩ := h
  have hsz : gs.size = c.S0 + c.n := h.sz
  have hall : ∀ i, c.S0 ≤ i → i < gs.size → ∃ q, zs i = .lv q := fun i h1 h2 => by
    have hc : sumTo gs.size (fun i => lvF c i (zs i)) = c.n := h.cnt
    rw [hsz] at hc
    have := lv_each c.n hc (i - c.S0) (by omega)
    rw [show c.S0 + (i - c.S0) = i by omega] at this
    cases hz : zs i with
    | lv q => exact ⟨q, rfl⟩
    | _ => rw [hz] at this; cases this
  have hlv : ∀ i, 1 ≤ i → i < gs.size → ∃ q, zs i = .lv q := fun i h1 h2 => by
    rcases Nat.lt_or_ge i c.S0 with h3 | h3
    · exact h.old i h1 h3
    · exact hall i h3 h2
  have kn : ∀ j (x : MemOp) a, t[j]? = some x → x.act.touch? = some a → Knows t 0 j := fun j x a hx ha => by
    rcases h.tr.kn j x a hx ha with h1 | ⟨h1, h2, h3⟩
    · exact h1
    · obtain ⟨q, hq⟩ := hall x.g h1 h2
      rw [hq] at h3
      exact absurd trivial h3
  have hdeaf := deaf_wordless h.tr.ti.words
  let q : Nat → Nat := fun i => match zs i with
    | .lv q => q
    | _ => 0
  refine ⟨gs, w, sl, g, q, rfl, hg, hj, hr, ⟨fun i x h1 h2 => ?_, fun j _ => hdeaf j⟩, ?_, h.mem.ok, RS, h.mem.us2, fun k hk => ?_⟩
  · obtain ⟨q', hq'⟩ := hlv i h1 (idx_lt h2)
    have hs := h.wk i x h1 h2
    rw [hq'] at hs
    have e : q i = q' := by show (match zs i with | .lv q => q | _ => 0) = q'; rw [hq']
    rw [hdeaf i, e]
    exact QuitsD.of_quitsIn hs
  · obtain ⟨B0, hB0⟩ := low_some t
    refine ⟨B0, fun B hB => ⟨h.tr.ti.clean, fun i a ha _ => ?_, fun i g hg0 hne hc => ?_, hdeaf 0, hB0 B hB⟩⟩
    · obtain ⟨x, hx, hxa⟩ := touch_of ha
      exact .inl (kn i x a hx hxa)
    · obtain ⟨a, ha, _⟩ := hc
      obtain ⟨x, hx, hxa⟩ := touch_of ha
      obtain ⟨j, z, h1, h2, h3⟩ := kn i x a hx hxa
      refine ⟨j, by simp [Trace.g?, h1, h2], ?_⟩
      rcases h3 with rfl | h3
      · rw [hx] at h1
        cases h1
        simp [Trace.g?, hx] at hg0
        omega
      · exact h3
  · obtain ⟨i, h1, h2, h3⟩ := h.mem.jb1 k hk
    refine h.mem.jb3 k i h3 fun e => ?_
    obtain ⟨q, hq⟩ := hall i h1 h2
    rw [hq] at e
    exact e.elim
end
end Go.Proofs.Ytpdemelchhkfaaa.Cs

/-
  Goroutine 0 beside goroutines that only leave: it goes on, whatever it does by itself; a call there; the pool begins there, and ends there.
-/
namespace Go.Proofs.Ytpdemelchhkfaaa.Cs
open Go.Conc
open Go.ConcN (sumTo sumTo_congr upd upd_same upd_ne sumTo_upd)
/-- All but goroutine 0 only leave; it knows all that was touched. -/
structure Qt (P : Program) (gs : Array Goroutine) (t : Trace) (q : Nat → Nat) (size : Nat) : Prop where
  lv : ∀ i g, 0 < i → gs[i]? = some g → QuitsIn P (q i) g
  clean : ∀ said, ¬ Race said t
  words : Wordless t
  kn : ∀ j x a, t[j]? = some x → x.act.touch? = some a → Knows t 0 j
  low : ∀ j a, touchAt t j = some a → locLow size a.loc
/-- What goroutine 0 may list. -/
def EvW (size : Nat) (e : Event) : Prop := (∀ x, (MemAct.ofEvent e).touch? = some x → locLow size x.loc) ∧ ∀ m, MemAct.ofEvent e = .mark m → Neutral m
section
variable {P : Program} {gs gs' : Array Goroutine} {t : Trace} {q q' : Nat → Nat} {size size' : Nat}
theorem Qt.own (h : Qt P gs t q size) {fn : FuncId} {pos : String} {es : Array Event} (hs : size ≤ size') (hes : ∀ e ∈ es, EvW size' e) (hlv : ∀ i g, 0 < i → gs'[i]? = some g → QuitsIn P (q i) g) : Qt P gs' (t ++ MemOp.ofEvents 0 fn pos es) q size' := by
  have key : ∀ op ∈ MemOp.ofEvents 0 fn pos es, op.g = 0 ∧ (∀ x, op.act.touch? = some x → locLow size' x.loc) ∧ ∀ m, op.act = .mark m → Neutral m := fun op hop => by
    obtain ⟨e, he, rfl⟩ := Conc.mem_ofEvents hop
    exact ⟨rfl, hes e he⟩
  refine ⟨hlv, fun said => noRace_append (h.clean said) (fun op hop => (key op hop).1) fun i a ha op hop b hb hc => ?_, h.words.append fun op hop m hm => (key op hop).2.2 m hm, fun j x a hx ha => ?_, fun j a ha => ?_⟩
  · obtain ⟨x, hx, hxa⟩ := touch_of ha
    exact h.kn i x a hx hxa
  · rcases getElem?_append_cases hx with ⟨_, hx'⟩ | ⟨_, hxu⟩
    · exact (h.kn j x a hx' ha).app _
    · have := knows_own hx
      rw [(key x hxu).1] at this
      exact this
  · obtain ⟨x, hx, hxa⟩ := touch_of ha
    rcases getElem?_append_cases hx with ⟨_, hx'⟩ | ⟨_, hxu⟩
    · exact locLow_mono hs (h.low j a (by rw [touchAt_of hx']; exact hxa))
    · exact (key x hxu).2.1 a hxa
theorem Qt.set (h : Qt P gs t q size) (hlv : ∀ i g, 0 < i → gs'[i]? = some g → QuitsIn P (q' i) g) : Qt P gs' t q' size := ⟨hlv, h.clean, h.words, h.kn, h.low⟩
theorem Qt.leavers (h : Qt P gs t q size) : Leavers P t gs q := ⟨fun i g h1 h2 => by rw [deaf_wordless h.words]; exact QuitsD.of_quitsIn (h.lv i g h1 h2), fun j _ => deaf_wordless h.words j⟩
theorem Qt.past (h : Qt P gs t q size) : ∃ B0, ∀ B, B0 ≤ B → Past (fun _ => False) B t := by
  obtain ⟨B0, hB0⟩ := low_some t
  refine ⟨B0, fun B hB => ⟨h.clean, fun i a ha _ => ?_, fun i g hg0 hne hc => ?_, deaf_wordless h.words 0, hB0 B hB⟩⟩
  · obtain ⟨x, hx, hxa⟩ := touch_of ha
    exact .inl (h.kn i x a hx hxa)
  · obtain ⟨a, ha, _⟩ := hc
    obtain ⟨x, hx, hxa⟩ := touch_of ha
    obtain ⟨j, z, h1, h2, h3⟩ := h.kn i x a hx hxa
    refine ⟨j, by simp [Trace.g?, h1, h2], ?_⟩
    rcases h3 with rfl | h3
    · rw [hx] at h1
      cases h1
      simp [Trace.g?, hx] at hg0
      omega
    · exact h3
/-- It goes on by itself: I: what holds ahead of each step, with a measure; Q: where it is to come to. -/
theorem beside {α : Type} {r : α → α → Prop} (wf : WellFounded r) (I : α → Goroutine → World → Prop) (Q : Goroutine → World → Prop) (hI : ∀ μ g w d, I μ g w → I μ g (w.at d)) (hQ : ∀ g w d, Q g (w.at d) → Q g w) (hrun : ∀ μ g w, I μ g w → g.status = .running)
    (hstep : ∀ μ g w, I μ g w → Q g w ∨ ∃ g' w' es μ', stepG P true g w = .go g' w' es ∧ r μ' μ ∧ I μ' g' w' ∧ w.heap.size ≤ w'.heap.size ∧ ∀ e ∈ es, EvW w'.heap.size e) {μ : α} {g : Goroutine} {w : World} {sl : Option (Nat × Nat)} (h0 : gs[0]? = some g) (hi : I μ g w) (hq : Qt P gs t q w.heap.size) :
    ∃ N gs' w' sl' t' q' g', runNT P N (crowd gs w sl) t = (.next (crowd gs' w' sl'), t') ∧ gs'.size = gs.size ∧ gs'[0]? = some g' ∧ Q g' w' ∧ Qt P gs' t' q' w'.heap.size := by
  have key := reach_of_inv (P := P) (Prod.lex ⟨r, wf⟩ ⟨_, Nat.lt_wfRel.wf⟩).wf (fun (μ : α × Nat) m t => ∃ gs' w sl q g, m = crowd gs' w sl ∧ gs'.size = gs.size ∧ gs'[0]? = some g ∧ I μ.1 g w ∧ Qt P gs' t q w.heap.size ∧ μ.2 = sumTo gs'.size q)
    (fun m t => ∃ gs' w sl q g, m = crowd gs' w sl ∧ gs'.size = gs.size ∧ gs'[0]? = some g ∧ Q g w ∧ Qt P gs' t q w.heap.size) ?_ (μ, sumTo gs.size q) _ t ⟨gs, w, sl, q, g, rfl, rfl, h0, hi, hq, rfl⟩
  · obtain ⟨N, m', t', h1, gs', w', sl', q', g', rfl, h2, h3, h4, h5⟩ := key
    exact ⟨N, gs', w', sl', t', q', g', h1, h2, h3, h4, h5⟩
  · rintro ⟨μ, k⟩ m t ⟨gs, w, sl, q, g, rfl, hsz, h0, hi, hq, rfl⟩
    have hg := hrun μ g w hi
    have haw : ∀ x ∈ gs, awake x := fun x hx => by
      obtain ⟨i, hlt, rfl⟩ := Array.mem_iff_getElem.1 hx
      rcases Nat.eq_zero_or_pos i with rfl | hp
      · have : gs[0] = g := by simpa [Array.getElem?_eq_getElem hlt] using h0
        rw [this]; exact awake_of (.inl hg)
      · rcases (hq.lv i _ hp (Array.getElem?_eq_getElem hlt)).status with h3 | h3
        · exact awake_of (.inl h3)
        · exact awake_of (.inr (.inr h3))
    obtain ⟨i, x, d, sl', hx, hxr, hst⟩ := crowd_pick (P := P) (w := w) (sl := sl) haw ⟨0, g, h0, hg⟩
    have quiet : ∀ (a a' y : Goroutine) (w' : World) (j : Nat), (gs.map (woken P a a' w')).setIfInBounds j y = gs.setIfInBounds j y := fun a a' y w' j => map_set_same fun k z _ hz => by
      rcases Nat.eq_zero_or_pos k with rfl | hp
      · rw [h0] at hz
        cases hz
        exact woken_running hg
      · exact woken_quits (hq.lv k z hp hz)
    rcases Nat.eq_zero_or_pos i with rfl | hp
    · rw [h0] at hx
      cases hx
      rcases hstep μ g (w.at d) (hI μ g w d hi) with h1 | ⟨g', w', es, μ', h1, h2, h3, h4, h5⟩
      · exact .inl ⟨gs, w, sl, q, g, rfl, hsz, h0, hQ g w d h1, hq⟩
      · have hr := runT_crowd_go (P := P) (sl := sl') (i := 0) h0 (show stepG P (0 == 0) g (w.at d) = _ from h1)
        rw [quiet] at hr
        refine .inr ⟨_, _, (μ', sumTo gs.size q), hst.trans hr, Prod.Lex.left _ _ h2, _, w', sl', q, g', rfl, by rw [Array.size_setIfInBounds]; exact hsz, Array.getElem?_setIfInBounds_self_of_lt (idx_lt h0), h3, hq.own (gs' := gs.setIfInBounds 0 g') h4 h5 fun k z hk hz => ?_, by rw [Array.size_setIfInBounds]⟩
        rw [Array.getElem?_setIfInBounds_ne (by omega)] at hz
        exact hq.lv k z hk hz
    · have hqi := hq.lv i x hp hx
      cases hqe : q i with
      | zero =>
        rw [hqe] at hqi
        have : x.status = .finished := hqi
        rw [hxr] at this; cases this
      | succ n =>
        rw [hqe] at hqi
        rcases hqi with hf | ⟨_, x', hstp, hq'⟩
        · rw [hxr] at hf; cases hf
        · have hr := runT_crowd_go (P := P) (sl := sl') (i := i) hx (by rw [show (i == 0) = false by simp; omega]; exact hstp (w.at d))
          rw [quiet] at hr
          have hsum : sumTo gs.size (upd q i n) + (n + 1) = sumTo gs.size q + n := by
            have := sumTo_upd q n id (idx_lt hx)
            simpa [hqe] using this
          refine .inr ⟨_, _, (μ, sumTo gs.size (upd q i n)), hst.trans hr, Prod.Lex.right _ (show _ < _ by omega), _, w.at d, sl', upd q i n, g, rfl, by rw [Array.size_setIfInBounds]; exact hsz, ?_, hI μ g w d hi, ?_, by rw [Array.size_setIfInBounds]⟩
          · rw [Array.getElem?_setIfInBounds_ne (by omega)]; exact h0
          · have e : t ++ MemOp.ofEvents i x.frame.fn x.frame.place #[] = t := by rw [ofEvents_none, Array.append_empty]
            rw [e]
            refine hq.set fun k z hk hz => ?_
            by_cases ek : k = i
            · subst ek
              rw [Array.getElem?_setIfInBounds_self_of_lt (idx_lt hx)] at hz
              cases hz
              rw [upd_same]; exact hq'
            · rw [Array.getElem?_setIfInBounds_ne (fun e => ek e.symm)] at hz
              rw [upd_ne _ _ ek]
              exact hq.lv k z hk hz
end
variable [Fns]
section
variable {P : Program} {c : Cst} {S : Nat → Value → World → Prop}
/-- Less: it has come back, or it is a step on. -/
inductive OptLt (P : Program) : Option { s : Gh // Acc (After P [trap P]) s } → Option { s : Gh // Acc (After P [trap P]) s } → Prop
  | back (s) : OptLt P none (some s)
  | on {s s'} (h : After P [trap P] s'.1 s.1) : OptLt P (some s') (some s)
omit [Fns] in
theorem optLt_wf (P : Program) : WellFounded (OptLt P) := by
  have h0 : Acc (OptLt P) none := Acc.intro _ fun y hy => by cases hy
  refine ⟨fun a => ?_⟩
  cases a with
  | none => exact h0
  | some s =>
    obtain ⟨s, hs⟩ := s
    induction hs with
    | intro s hs ih =>
      refine Acc.intro _ fun y hy => ?_
      cases hy with
      | back => exact h0
      | @on _ s' h => exact ih s'.1 h
theorem evOk_low {E : Env} {wl w : World} (hw : WR P E wl w) {e : Event} (h : EvOk E e) : EvW w.heap.size e := by
  have lo : ∀ b q s o, E b = some (q, s, o) → q < w.heap.size := fun b q s o e => by
    cases o with
    | true =>
      obtain ⟨_, _, o', _, h3, _⟩ := hw.own b q s e
      exact (Array.getElem?_eq_some_iff.1 h3).1
    | false =>
      obtain ⟨_, _, _, _, _, _, _, h3, _⟩ := hw.shared b q s e
      exact (Array.getElem?_eq_some_iff.1 h3).1
  cases h with
  | read hE => exact ⟨(fun x e => by cases e; exact lo _ _ _ _ hE), (fun m e => by cases e)⟩
  | write hE => exact ⟨(fun x e => by cases e; exact lo _ _ _ _ hE), (fun m e => by cases e)⟩
  | @obj r b s wr hE =>
    have e1 : MemAct.ofEvent ⟨.obj r, wr, false⟩ = .access ⟨.obj r, wr, false⟩ := by cases wr <;> rfl
    exact ⟨(fun x e => by rw [e1] at e; cases e; exact lo _ _ _ _ hE), (fun m e => by rw [e1] at e; cases e)⟩
  | noRoom => exact ⟨(fun x e => by cases e), (fun m e => by cases e; rfl)⟩
/-- A call beside goroutines that only leave: it returns what the same call returns alone. -/
theorem beside_call {Post : Value → World → Prop} (hG : P.globals.size ≤ Fns.G) (hC : FnsCode P) {gs : Array Goroutine} {t : Trace} {q : Nat → Nat} {g : Goroutine} {w : World} {sl : Option (Nat × Nat)} {cal : Frame} {rest : List Frame} {E : Env} {gl : Goroutine} {wl : World} (h0 : gs[0]? = some g) (hin : InCall P Post (cal :: rest) E gl wl g w) (hq : Qt P gs t q w.heap.size) :
    ∃ N gs' w' sl' t' q' E' v v' wl2, runNT P N (crowd gs w sl) t = (.next (crowd gs' w' sl'), t') ∧ gs'.size = gs.size ∧ gs'[0]? = some (G (cal.finish v') rest) ∧ Post v wl2 ∧ VR E' v v' ∧ WR P E' wl2 w' ∧ FC E E' w w' ∧ Qt P gs' t' q' w'.heap.size := by
  let Q : Goroutine → World → Prop := fun g' w' => ∃ E' v v' wl2, g' = G (cal.finish v') rest ∧ Post v wl2 ∧ VR E' v v' ∧ WR P E' wl2 w' ∧ FC E E' w w'
  let I : Option { s : Gh // Acc (After P [trap P]) s } → Goroutine → World → Prop := fun μ g' w' => match μ with
    | some s => ∃ E', InCall P Post (cal :: rest) E' s.1.1 s.1.2 g' w' ∧ FC E E' w w'
    | none => Q g' w'
  have fcAt : ∀ {E' : Env} {w' : World} (d : Nat), FC E E' w w' → FC E E' w (w'.at d) := fun d h => ⟨h.le, h.os, h.tape, h.output, h.size, h.keep, h.fresh⟩
  have fcAt' : ∀ {E' : Env} {w' : World} (d : Nat), FC E E' w (w'.at d) → FC E E' w w' := fun d h => ⟨h.le, h.os, h.tape, h.output, h.size, h.keep, h.fresh⟩
  have a1 : ∀ μ g' w' d, I μ g' w' → I μ g' (w'.at d) := fun μ g' w' d h => by
    cases μ with
    | none =>
      obtain ⟨E', v, v', wl2, e, k1, k2, k3, k4⟩ := h
      exact ⟨E', v, v', wl2, e, k1, k2, k3.keep fun _ _ _ _ _ => rfl, fcAt d k4⟩
    | some s =>
      obtain ⟨E', h1, h2⟩ := h
      exact ⟨E', h1.other fun _ _ _ => rfl, fcAt d h2⟩
  have a2 : ∀ g' w' d, Q g' (w'.at d) → Q g' w' := fun g' w' d h => by
    obtain ⟨E', v, v', wl2, e, k1, k2, k3, k4⟩ := h
    exact ⟨E', v, v', wl2, e, k1, k2, k3.keep fun _ _ _ _ _ => rfl, fcAt' d k4⟩
  have a3 : ∀ μ g' w', I μ g' w' → g'.status = .running := fun μ g' w' h => by
    cases μ with
    | none =>
      obtain ⟨E', v, v', wl2, rfl, _⟩ := h
      rfl
    | some s =>
      obtain ⟨E', h1, h2⟩ := h
      exact h1.running
  have a4 : ∀ μ g' w', I μ g' w' → Q g' w' ∨ ∃ g2 w2 es μ', stepG P true g' w' = .go g2 w2 es ∧ OptLt P μ' μ ∧ I μ' g2 w2 ∧ w'.heap.size ≤ w2.heap.size ∧ ∀ e ∈ es, EvW w2.heap.size e := fun μ g' w' h => by
    cases μ with
    | none => exact .inl h
    | some s =>
      obtain ⟨E1, hin1, hf1⟩ := h
      right
      by_cases hs : Stop [trap P] s.1.1
      · obtain ⟨v, wl2, E', v', w2, es, hpost, hvr, hwr, hst, hev, hfc⟩ := hin1.ret true hs
        exact ⟨_, w2, es, none, hst, .back s, ⟨E', v, v', wl2, rfl, hpost, hvr, hwr, hf1.trans hfc⟩, hfc.size, fun e he => evOk_low hwr (hev e he)⟩
      · obtain ⟨E', gl', wl', g2, w2, es, hst, hin', haft, hev, hfc⟩ := hin1.step hG hC true hs
        exact ⟨g2, w2, es, some ⟨(gl', wl'), live_acc hin'.live⟩, hst, .on haft, ⟨E', hin', hf1.trans hfc⟩, hfc.size, fun e he => evOk_low hin'.wr (hev e he)⟩
  obtain ⟨N, gs', w', sl', t', q', g', h1, h2, h3, ⟨E', v, v', wl2, rfl, k1, k2, k3, k4⟩, h5⟩ := beside (P := P) (optLt_wf P) I Q a1 a2 a3 a4 (μ := some ⟨(gl, wl), live_acc hin.live⟩) (sl := sl) h0 ⟨E, hin, FC.refl E w⟩ hq
  exact ⟨N, gs', w', sl', t', q', E', v, v', wl2, h1, h2, h3, k1, k2, k3, k4, h5⟩
end
end Go.Proofs.Ytpdemelchhkfaaa.Cs
