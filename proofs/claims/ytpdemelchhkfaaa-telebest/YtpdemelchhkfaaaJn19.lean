/-
  Several texts, joined: CwK, CwL.
-/
import Derived.Test.YtpdemelchhkfaaaJn18
/-
  The other pool's moves: the last worker lets goroutine 0 go.
-/
namespace Go.Proofs.Ytpdemelchhkfaaa.Cs
open Go.Conc
open Go.ConcN (sumTo sumTo_congr)
open Go.ConcR (KK WgAt wgBlock stA smA rd wr)
variable [Fns]
section
variable {P : Program} {c : Cst} {tW tT : TypeId} {F : Nat → Value} {Sn : Nat → Prop} {S : Scr2 P c tW tT F}
variable {gs gs' : Array Goroutine} {w w' : World} {t t' : Trace} {z0 z0' : Y0} {zs : Nat → YW P} {ct ct' i : Nat} {fnd fnd' blk blk' : Nat → Option Nat} {g g' : Goroutine} {z' : YW P} {es : Array Event}
omit [Fns] in
/-- Who closes is the one. -/
theorem WgS.closes {n : Nat} (h : WgS c tW z0 zs n w) (hi : c.S0 ≤ i) (his : i < n) (hc : closing (zs i)) : (∀ j, c.S0 ≤ j → j < n → j ≠ i → ¬ closing (zs j)) ∧ reg z0 = 1 ∧ lft c z0 zs n = 0 ∧ (isSe (zs i) → WgAt tW c.C2 w 0 0) ∧ (¬ isSe (zs i) → WgAt tW c.C2 w 1 0) := by
  cases h with
  | run hn _ _ _ => exact absurd hc (hn i hi his)
  | rls hn _ _ _ _ => exact absurd hc (hn i hi his)
  | pst hn _ _ _ => exact absurd hc (hn i hi his)
  | cls j hj hs hcj hu hr hl hw =>
    have e : i = j := Classical.byContradiction fun e => hu i hi his e hc
    subst e
    exact ⟨hu, hr, hl, hw.1, hw.2⟩
/-- It looks once more. -/
theorem Pool2.looks (h : Pool2 S Sn gs w t z0 zs ct fnd blk) (hn : SnOk c Sn) (hi : c.S0 ≤ i) (hg : gs[i]? = some g) {m : Nat} (hz : zs i = .lo m) (hT : S.Lod g) : Moves2 S Sn gs w t z0 zs ct i := by
  have hs1 := S.s1
  have his := idx_lt hg
  obtain ⟨_, g', hst, hon⟩ := S.lod g hT
  obtain ⟨_, _, _, _, hw1⟩ := h.wg.closes hi his (by rw [hz]; trivial)
  have hst' := hst w (hw1 (by rw [hz]; exact fun e => e))
  obtain ⟨m', hw'⟩ := hon.2 w h.ok2
  have hdz : Deaf t i = 1 := by have := h.dfW i hi his; rw [hz] at this; exact this
  refine h.moveW (z' := .ze m') (ct' := ct) (fnd' := fnd) (blk' := blk) (by omega) hg hst' h.ok2 hw' (fun e => by omega) (fun _ => by rw [hdz]; rfl) (fun _ _ _ _ _ _ => rfl) (fun z0' k1 _ => h.wg.sameW k1 his (by rw [hz]; rfl) (by rw [hz]; exact Iff.rfl) (by rw [hz]; exact Iff.rfl) rfl) (out_keep his (by rw [hz]; rfl) h.ovr) (fun k E s e => by cases e) ?_ ?_ (.inl (tot_less his (by rw [hz]; exact Nat.le_refl _) (by rw [hz]; show _ + 2 < _ + 3; omega)))
  · exact h.mem.one S.apart (fun q _ => rfl) ⟨rfl, rfl, rfl⟩ (fun k => by rw [hz]; exact Iff.rfl) (fun q e => e.elim)
  · exact h.tr.atom hn (.inr ⟨hi, his⟩) (fun e he => by simp at he; subst he; exact .inl ⟨_, _, rfl, hn.c2⟩) h.mem.ok.big (told_upd (fun _ => by rw [hz]; trivial)) (.inr (.inr fun k e he _ => by have hd : Deaf t i = 1 := (by have := h.dfW i hi his; rw [hz] at this; exact this); rw [hd]; exact deaf_pos (fun e he => by simp at he; first | (rcases he with rfl | rfl <;> exact ⟨_, _, rfl⟩) | (subst he; exact ⟨_, _, rfl⟩)) k))
/-- It lays the group's word to nought. -/
theorem Pool2.clears (h : Pool2 S Sn gs w t z0 zs ct fnd blk) (hn : SnOk c Sn) (hi : c.S0 ≤ i) (hg : gs[i]? = some g) {m : Nat} (hz : zs i = .ze m) (hT : S.Zer g) : Moves2 S Sn gs w t z0 zs ct i := by
  have hs1 := S.s1
  have his := idx_lt hg
  obtain ⟨_, g', hst, hon⟩ := S.zer g hT
  obtain ⟨hu, hr, hl, _, hw1⟩ := h.wg.closes hi his (by rw [hz]; trivial)
  have hw0 := hw1 (by rw [hz]; exact fun e => e)
  have hst' := hst w hw0
  have hw2 : WgAt tW c.C2 (w.setCell (stA c.C2) (.int .u64 0)) 0 0 := wg_st hw0
  have hok := h.okWg (a := stA c.C2) rfl hw2
  have hoth := wg_other (c := c) w (stA c.C2) (.int .u64 0) rfl
  have hsz := setCell_size w (stA c.C2) (.int .u64 0)
  obtain ⟨m', hw'⟩ := hon.2 _ hok
  have hdz : Deaf t i = 1 := by have := h.dfW i hi his; rw [hz] at this; exact this
  refine h.moveW (z' := .se m') (ct' := ct) (fnd' := fnd) (blk' := blk) (by omega) hg hst' hok hw' (fun e => by omega) (fun _ => by rw [hdz]; rfl) (fun j q a1 a2 _ a3 => hoth q (by have := (h.mem.us1 j q a1 a2 a3).1; have := S.d1; omega)) (fun z0' k1 _ => ?_) (out_keep his (by rw [hz]; rfl) h.ovr) (fun k E s e => by cases e) ?_ ?_ (.inl (tot_less his (by rw [hz]; exact Nat.le_refl _) (by rw [hz]; show _ + 1 < _ + 2; omega)))
  · refine .cls i hi his (by rw [upd'_same]; trivial) (fun j j1 j2 j3 => by rw [upd'_ne _ _ j3]; exact hu j j1 j2 j3) (by rw [(woke_same (P := P) (c := c) k1).2.1]; exact hr) (by rw [lft_woke k1, lft_eq his (by rw [hz]; rfl)]; exact hl) ⟨fun _ => hw2, fun e => ?_⟩
    rw [upd'_same] at e
    exact absurd trivial e
  · exact h.mem.one S.apart hoth ⟨hsz, rfl, rfl⟩ (fun k => by rw [hz]; exact Iff.rfl) (fun q e => e.elim)
  · rw [hsz]
    exact h.tr.atom hn (.inr ⟨hi, his⟩) (fun e he => by simp at he; subst he; exact .inl ⟨_, _, rfl, hn.c2⟩) h.mem.ok.big (told_upd (fun _ => by rw [hz]; trivial)) (.inr (.inr fun k e he _ => by have hd : Deaf t i = 1 := (by have := h.dfW i hi his; rw [hz] at this; exact this); rw [hd]; exact deaf_pos (fun e he => by simp at he; first | (rcases he with rfl | rfl <;> exact ⟨_, _, rfl⟩) | (subst he; exact ⟨_, _, rfl⟩)) k))
omit [Fns] in
theorem sem_deaf (d : Nat) (a : Addr) : deafBehind d (semEvents a) = d := by simp [deafBehind, semEvents]
omit [Fns] in
theorem sem_evs {e : Event} (he : e ∈ semEvents (smA c.C2)) (hn : SnOk c Sn) : (∃ a wr, e = ⟨.cell a, wr, true⟩ ∧ Sn a.block) ∨ e = Go.ConcR.mk .disable ∨ e = Go.ConcR.mk .enable := by
  simp [semEvents] at he
  rcases he with rfl | rfl | rfl | rfl
  · exact .inr (.inl rfl)
  · exact .inl ⟨_, _, rfl, hn.c2⟩
  · exact .inl ⟨_, _, rfl, hn.c2⟩
  · exact .inr (.inr rfl)
omit [Fns] in
/-- It lets goroutine 0 go. -/
theorem sem_deaf2 {c : Cst} (k : Nat) (e : Event) (he : (semEvents (smA c.C2))[k]? = some e) (_ : ∃ a wr, e = (⟨.cell a, wr, true⟩ : Event)) : 0 < deafBehind 1 ((semEvents (smA c.C2)).extract 0 k) := by
  have hk : k < 4 := (Array.getElem?_eq_some_iff.1 he).1
  match k, hk with
  | 0, _ => exact Nat.zero_lt_one
  | 1, _ => exact Nat.zero_lt_succ _
  | 2, _ => exact Nat.zero_lt_succ _
  | 3, _ => exact Nat.zero_lt_succ _
theorem Pool2.frees (h : Pool2 S Sn gs w t z0 zs ct fnd blk) (hn : SnOk c Sn) (hi : c.S0 ≤ i) (hg : gs[i]? = some g) {m : Nat} (hz : zs i = .se m) (hT : S.Sem g) : Moves2 S Sn gs w t z0 zs ct i := by
  have hs1 := S.s1
  have his := idx_lt hg
  obtain ⟨_, hmw, g', hst, q, hq⟩ := S.sem g hT
  obtain ⟨hu, hr, hl, hw1, _⟩ := h.wg.closes hi his (by rw [hz]; trivial)
  have hw0 := hw1 (by rw [hz]; trivial)
  have hst' := hst w hw0
  have hw2 : WgAt tW c.C2 (w.setCell (smA c.C2) (.int .u32 1)) 0 1 := wg_sm hw0
  have hok := h.okWg (a := smA c.C2) rfl hw2
  have hoth := wg_other (c := c) w (smA c.C2) (.int .u32 1) rfl
  have hsz := setCell_size w (smA c.C2) (.int .u32 1)
  have hdz : Deaf t i = 1 := by have := h.dfW i hi his; rw [hz] at this; exact this
  refine h.moveW (z' := .lv q) (ct' := ct) (fnd' := fnd) (blk' := blk) (by omega) hg hst' hok (by rw [sem_deaf, hdz]; exact hq) (fun e => by omega) (fun _ => trivial) (fun j q a1 a2 _ a3 => hoth q (by have := (h.mem.us1 j q a1 a2 a3).1; have := S.d1; omega)) (fun z0' k1 k2 => ?_) (out_keep his (by rw [hz]; rfl) h.ovr) (fun k E s e => by cases e) ?_ ?_ (.inl (tot_less his (by rw [hz]; exact Nat.le_refl _) (by rw [hz]; show _ + 0 < _ + 1; omega)))
  · refine .rls (fun j j1 j2 => ?_) (by rw [lft_woke k1, lft_eq his (by rw [hz]; rfl)]; exact hl) (by rw [(woke_same (P := P) (c := c) k1).2.1]; exact hr) (fun e => ?_) hw2
    · by_cases e : j = i
      · subst e; rw [upd'_same]; exact fun e => e
      · rw [upd'_ne _ _ e]; exact hu j j1 j2 e
    · have := k2 e
      rw [hmw] at this
      rcases hq.status with e1 | e1
      · rw [e1] at this; exact absurd this (by decide)
      · rw [e1] at this; exact absurd this (by decide)
  · exact h.mem.one S.apart hoth ⟨hsz, rfl, rfl⟩ (fun k => by rw [hz]; exact Iff.rfl) (fun q e => e.elim)
  · rw [hsz]
    exact h.tr.atom hn (.inr ⟨hi, his⟩) (fun e he => sem_evs he hn) h.mem.ok.big (told_upd (fun _ => by rw [hz]; trivial)) (.inr (.inr fun k e he _ => by have hd : Deaf t i = 1 := (by have := h.dfW i hi his; rw [hz] at this; exact this); rw [hd]; exact sem_deaf2 k e he ‹_›))
end
end Go.Proofs.Ytpdemelchhkfaaa.Cs

/-
  The other pool's moves: a worker's job goes on.
-/
namespace Go.Proofs.Ytpdemelchhkfaaa.Cs
open Go.Conc
open Go.ConcN (sumTo sumTo_congr)
open Go.ConcR (KK WgAt wgBlock stA smA rd wr)
variable [Fns]
section
variable {P : Program} {c : Cst} {tW tT : TypeId} {F : Nat → Value} {Sn : Nat → Prop} {S : Scr2 P c tW tT F}
variable {gs gs' : Array Goroutine} {w w' : World} {t t' : Trace} {z0 z0' : Y0} {zs : Nat → YW P} {ct ct' i : Nat} {fnd fnd' blk blk' : Nat → Option Nat} {g g' : Goroutine} {z' : YW P} {es : Array Event}
omit [Fns] in
theorem evOk_still {E : Env} (hes : ∀ e ∈ es, EvOk E e) (d : Nat) : deafBehind d es = d := deafBehind_still (fun e he => by
  cases hes e he with
  | read _ => exact ⟨(fun e => by cases e), (fun e => by cases e)⟩
  | write _ => exact ⟨(fun e => by cases e), (fun e => by cases e)⟩
  | obj _ _ => exact ⟨(fun e => by cases e), (fun e => by cases e)⟩
  | noRoom => exact ⟨(fun e => by cases e), (fun e => by cases e)⟩) d
omit [Fns] in
/-- What a call lists. -/
theorem Tr2.works {zs' : Nat → YW P} {top size size' : Nat} {fn : FuncId} {pos : String} {E' : Env} (h : Tr2 c Sn zs top fnd blk size t) (hn : SnOk c Sn) (hi : c.S0 ≤ i ∧ i < top) (hb : ∀ q, blk' q = blk q ∨ (size ≤ q ∧ blk' q = some i)) (hown : ∀ b q s, E' b = some (q, s, true) → blk' q = some i) (hshr : ∀ b q s, E' b = some (q, s, false) → c.Fix q)
    (hlo : ∀ q i, blk' q = some i → c.N1 ≤ q ∧ q < size') (hFd : c.Fd < c.N1) (hes : ∀ e ∈ es, EvOk E' e) (hN : c.N1 ≤ size') (hs : size ≤ size') (hz : ∀ j, told (zs' j) → told (zs j)) (hzi : ¬ told (zs' i)) : Tr2 c Sn zs' top fnd blk' size' (t ++ MemOp.ofEvents i fn pos es) := by
  have key : ∀ op ∈ MemOp.ofEvents i fn pos es, op.g = i ∧ isRel op.act ≠ true ∧ (op.act.touch? = none ∨ (∃ b, op.act.touch? = some b ∧ locLow size' b.loc ∧ (∀ ad, b.loc = .cell ad → ad.block ≠ c.Fd) ∧ ¬ snL Sn b.loc ∧ (ownOf c fnd blk' b.loc = some i ∨ (ownOf c fnd blk' b.loc = none ∧ b.write = false)))) := fun op hop => by
    obtain ⟨e, he, rfl⟩ := Conc.mem_ofEvents hop
    refine ⟨rfl, ?_⟩
    have own : ∀ b q s, E' b = some (q, s, true) → q < size' ∧ q ≠ c.Fd ∧ ¬ q < c.N1 ∧ blk' q = some i ∧ ¬ Sn q := fun b q s e => by
      have h1 := hown b q s e
      have h2 := hlo q i h1
      exact ⟨h2.2, by omega, by omega, h1, fun e => by have := (hn.lt q e).1; omega⟩
    have cell : ∀ (a : Addr) (wr : Bool) b s o, E' b = some (a.block, s, o) → (wr = true → o = true) → isRel (MemAct.ofEvent ⟨.cell a, wr, false⟩) ≠ true ∧ (∃ x, (MemAct.ofEvent ⟨.cell a, wr, false⟩).touch? = some x ∧ locLow size' x.loc ∧ (∀ ad, x.loc = .cell ad → ad.block ≠ c.Fd) ∧ ¬ snL Sn x.loc ∧ (ownOf c fnd blk' x.loc = some i ∨ (ownOf c fnd blk' x.loc = none ∧ x.write = false))) := fun a wr b s o hE ho => by
      refine ⟨(fun e => by cases e), _, rfl, ?_⟩
      cases o with
      | true =>
        obtain ⟨k1, k2, k3, k4, k5⟩ := own b _ s hE
        exact ⟨k1, (fun ad e => by cases e; exact k2), k5, .inl (by simp only [ownOf, if_neg k2, if_neg k3, k4])⟩
      | false =>
        have hf := hshr b _ s hE
        refine ⟨Nat.lt_of_lt_of_le hf.1 hN, (fun ad e => by cases e; exact hf.2.1), (fun e => hn.fix _ e hf), .inr ⟨by simp only [ownOf, if_neg hf.2.1, if_pos hf.1], ?_⟩⟩
        cases wr with
        | false => rfl
        | true => cases ho rfl
    cases hes e he with
    | read hE => obtain ⟨k1, k2⟩ := cell _ false _ _ _ hE (fun e => by cases e); exact ⟨k1, .inr k2⟩
    | write hE => obtain ⟨k1, k2⟩ := cell _ true _ _ _ hE (fun _ => rfl); exact ⟨k1, .inr k2⟩
    | @obj r b s wr hE =>
      obtain ⟨k1, k2, k3, k4, k5⟩ := own b r s hE
      have e1 : MemAct.ofEvent ⟨.obj r, wr, false⟩ = .access ⟨.obj r, wr, false⟩ := by cases wr <;> rfl
      refine ⟨(fun e => by rw [e1] at e; cases e), .inr ⟨⟨.obj r, wr, .plain⟩, by rw [e1]; rfl, k1, (fun ad e => by cases e), k5, .inl (by simp only [ownOf, if_neg k3, k4])⟩⟩
    | noRoom => exact ⟨(fun e => by cases e), .inl rfl⟩
  refine (h.newBlk hb).own (sn_own hn.lt) (.inr hi) (fun op hop => ?_) hs (fun op hop b hb => ?_) (fun op hop b ad hb hl hd => ?_) (fun op hop => (key op hop).2.1) hz (.inr (.inr hzi))
  · obtain ⟨h1, _, h2⟩ := key op hop
    refine ⟨h1, fun b hb => ?_⟩
    rcases h2 with h2 | ⟨b', h2, _, _, h3, h4⟩
    · rw [h2] at hb; cases hb
    · rw [h2] at hb; cases hb; exact .inr ⟨h3, h4⟩
  · rcases (key op hop).2.2 with h2 | ⟨b', h2, h3, _⟩
    · rw [h2] at hb; cases hb
    · rw [h2] at hb; cases hb; exact h3
  · rcases (key op hop).2.2 with h2 | ⟨b', h2, _, h3, _⟩
    · rw [h2] at hb; cases hb
    · rw [h2] at hb; cases hb; exact absurd hd (h3 ad hl)
/-- The job goes on. -/
theorem Pool2.works (hG : P.globals.size ≤ Fns.G) (hC : FnsCode P) (h : Pool2 S Sn gs w t z0 zs ct fnd blk) (hn : SnOk c Sn) (hi : c.S0 ≤ i) (hg : gs[i]? = some g) {k : Nat} (hk : k < c.K) {E : Env} {gl : Goroutine} {wl : World} {cal : Frame} {rest : List Frame} (hin : InCall P (fun v _ => v = F k) (cal :: rest) E gl wl g w)
    (hcont : On P c tW tT false (S.Sto k) (G (cal.finish (F k)) rest)) (hz1 : ∀ q, (∃ b s, E b = some (q, s, true)) → inUse2 (zs i) q) (hsh : ∀ b q s, E b = some (q, s, false) → c.Fix q) (hp : (∃ m, zs i = .pr k m) ∨ ∃ s, zs i = .ca k E s ∧ s.1 = (gl, wl)) : Moves2 S Sn gs w t z0 zs ct i := by
  have hs1 := S.s1
  have hd := S.d1
  have his := idx_lt hg
  have hph : bef (zs i) = 1 ∧ ¬ closing (zs i) ∧ ¬ isSe (zs i) ∧ outN (zs i) = 0 ∧ (∀ j, holds2 (zs i) j ↔ k = j) ∧ Deaf t i = 0 ∧ ¬ told (zs i) := by
    have h9 := h.dfW i hi his
    rcases hp with ⟨m, e⟩ | ⟨s, e, _⟩
    · rw [e] at h9 ⊢
      exact ⟨rfl, (fun e => e), (fun e => e), rfl, fun j => Iff.rfl, h9, fun e => e⟩
    · rw [e] at h9 ⊢
      exact ⟨rfl, (fun e => e), (fun e => e), rfl, fun j => Iff.rfl, h9, fun e => e⟩
  obtain ⟨p1, p2, p3, p4, p5, p6, p7⟩ := hph
  have hown : ∀ b q s, E b = some (q, s, true) → c.N1 ≤ q ∧ q < w.heap.size ∧ blk q = some i := fun b q s e => h.mem.us1 i q hi his (hz1 q ⟨b, s, e⟩)
  have low : ∀ {E' : Env} {w' : World}, FC E E' w w' → ∀ q, q < c.N1 → w'.heap[q]? = w.heap[q]? := fun hf q hq => hf.keep q (Nat.lt_of_lt_of_le hq h.mem.ok.big) fun b s e => by have := (hown b q s e).1; omega
  have oth : ∀ {E' : Env} {w' : World}, FC E E' w w' → ∀ j q, c.S0 ≤ j → j < gs.size → j ≠ i → inUse2 (zs j) q → w'.heap[q]? = w.heap[q]? := fun hf j q a1 a2 a3 a4 => by
    obtain ⟨b1, b2, b3⟩ := h.mem.us1 j q a1 a2 a4
    refine hf.keep q b2 fun b s e => ?_
    have := (hown b q s e).2.2
    rw [b3] at this
    cases this
    exact a3 rfl
  have ok2 : ∀ {E' : Env} {w' : World}, FC E E' w w' → Ok2 c tW tT w' := fun hf => by
    refine ⟨h.mem.ok.keep (fun q hq => low hf q hq.1) (low hf _ hd.2.2.1) hf.size ⟨hf.os, hf.output⟩, ⟨ct, ?_⟩, ?_⟩
    · unfold TkAt; rw [low hf _ hd.1]; exact h.mem.tk
    · obtain ⟨a, b, hk⟩ := h.wg.live
      exact ⟨a, b, by unfold WgAt at hk ⊢; rw [low hf _ hd.2.1]; exact hk⟩
  by_cases hs : Stop [trap P] gl
  · obtain ⟨v, wl2, E', v', w', es, hpost, hvr, hwr, hst, hev, hfc⟩ := hin.ret false hs
    have hpost' : v = F k := hpost
    subst hpost'
    have ev := S.vr k E' v' hvr
    subst ev
    have hok := ok2 hfc
    obtain ⟨m, hw⟩ := hcont.go hok
    obtain ⟨blk', mem1, hb, hown', hshr'⟩ := h.mem.call (z' := .po k m) ⟨hd.2.2.1, hd.1⟩ hi his hz1 (fun j => (p5 j).symm) (fun q e => e.elim) hfc hsh
    refine h.moveW (z' := .po k m) (ct' := ct) (fnd' := fnd) (blk' := blk') (by omega) hg hst hok ⟨hk, hw⟩ (fun e => by omega) (fun _ => by rw [evOk_still hev]; exact p6) (oth hfc) (fun z0' k1 _ => h.wg.sameW k1 his (by rw [p1]; rfl) ⟨fun e => e.elim, fun e => absurd e p2⟩ ⟨fun e => e.elim, fun e => absurd e p3⟩ (low hfc _ hd.2.1)) (out_keep his (by rw [p4]; rfl) h.ovr) (fun k E s e => by cases e) mem1 ?_ (.inl (tot_less his (by rw [p1]; exact Nat.le_refl _) ?_))
    · exact h.tr.works hn ⟨hi, his⟩ hb hown' hshr' mem1.us4 hd.2.2.1 hev mem1.ok.big hfc.size (told_upd (fun e => e.elim)) (by rw [upd'_same]; exact fun e => e)
    · rcases hp with ⟨m, e⟩ | ⟨s, e, _⟩
      · rw [e]; show _ + 8 < _ + 10; omega
      · rw [e]; show _ + 8 < _ + 9; omega
  · obtain ⟨E', gl', wl', g', w', es, hst, hin', haft, hev, hfc⟩ := hin.step hG hC false hs
    have hok := ok2 hfc
    obtain ⟨blk', mem1, hb, hown', hshr'⟩ := h.mem.call (z' := .ca k E' ⟨(gl', wl'), live_acc hin'.live⟩) ⟨hd.2.2.1, hd.1⟩ hi his hz1 (fun j => (p5 j).symm) (fun q e => e) hfc hsh
    refine h.moveW (z' := .ca k E' ⟨(gl', wl'), live_acc hin'.live⟩) (ct' := ct) (fnd' := fnd) (blk' := blk') (by omega) hg hst hok ⟨hk, cal, rest, hin', hcont⟩ (fun e => by omega) (fun _ => by rw [evOk_still hev]; exact p6) (oth hfc) (fun z0' k1 _ => h.wg.sameW k1 his (by rw [p1]; rfl) ⟨fun e => e.elim, fun e => absurd e p2⟩ ⟨fun e => e.elim, fun e => absurd e p3⟩ (low hfc _ hd.2.1)) (out_keep his (by rw [p4]; rfl) h.ovr) (fun k E s e => by cases e; exact hshr') mem1 ?_ ?_
    · exact h.tr.works hn ⟨hi, his⟩ hb hown' hshr' mem1.us4 hd.2.2.1 hev mem1.ok.big hfc.size (told_upd (fun e => e.elim)) (by rw [upd'_same]; exact fun e => e)
    · rcases hp with ⟨m, e⟩ | ⟨s, e, hse⟩
      · exact .inl (tot_less his (by rw [e]; exact Nat.le_refl _) (by rw [e]; show _ + 9 < _ + 10; omega))
      · exact .inr ⟨tot_same his (by rw [e]; rfl) (by rw [e]; rfl), by rw [e]; exact .call (by rw [hse]; exact haft)⟩
/-- The job's call begins. -/
theorem Pool2.calls (hG : P.globals.size ≤ Fns.G) (hC : FnsCode P) (h : Pool2 S Sn gs w t z0 zs ct fnd blk) (hn : SnOk c Sn) (hi : c.S0 ≤ i) (hg : gs[i]? = some g) {k m : Nat} (hk : k < c.K) (hz : zs i = .pr k m) (hT : S.Cal k g) : Moves2 S Sn gs w t z0 zs ct i := by
  obtain ⟨cal, rest, rfl, hcont⟩ := S.cal k g hT hk
  obtain ⟨E, wl, x, hE, hx, hw, hb, hc⟩ := S.job k hk w h.mem.ok
  have hin : InCall P (fun v _ => v = F k) (cal :: rest) E (G (Frame.enter P c.fB x .normal) [trap P]) wl (G (Frame.enter P c.fB (c.ar k) .normal) (cal :: rest)) w := InCall.start hC S.fok hx hw hb hc
  exact h.works hG hC hn hi hg hk hin hcont (fun q ⟨b, s, e⟩ => by have := (hE b q s true e).1; cases this) (fun b q s e => (hE b q s false e).2) (.inl ⟨m, hz⟩)
end
end Go.Proofs.Ytpdemelchhkfaaa.Cs
