/-
  Several texts, joined: CwI, CwJ.
-/
import Derived.Test.YtpdemelchhkfaaaJn17
/-
  The other pool's moves: a worker by itself: it leaves, it walks, it takes a number, it stores what came out, it tells that it is done.
-/
namespace Go.Proofs.Ytpdemelchhkfaaa.Cs
open Go.Conc
open Go.ConcN (sumTo sumTo_congr)
open Go.ConcR (KK WgAt wgBlock stA smA rd wr mk)
/-- The counter and the group are touched by atomic means alone; what is so touched is none of what is read plainly. -/
structure SnOk (c : Cst) (Sn : Nat → Prop) : Prop where
  lt : ∀ b, Sn b → b < c.N1 ∧ b ≠ c.Fd
  fix : ∀ b, Sn b → ¬ c.Fix b
  c1 : Sn c.C1
  c2 : Sn c.C2
theorem ofEvents_app (g : Nat) (fn : FuncId) (pos : String) (a b : Array Event) : MemOp.ofEvents g fn pos (a ++ b) = MemOp.ofEvents g fn pos a ++ MemOp.ofEvents g fn pos b := by
  have h : ∀ es : Array Event, MemOp.ofEvents g fn pos es = es.map fun e => { g, fn, pos, act := .ofEvent e } := fun es => by
    unfold MemOp.ofEvents
    split
    · rename_i h
      rw [Array.isEmpty_iff.1 h]
      simp
    · rfl
  rw [h, h, h, Array.map_append]
theorem ofEvents_size (g : Nat) (fn : FuncId) (pos : String) (es : Array Event) : (MemOp.ofEvents g fn pos es).size = es.size := by
  unfold MemOp.ofEvents
  split
  · rename_i h
    rw [Array.isEmpty_iff.1 h]
    rfl
  · simp
/-- Atomic touches alone leave it as deaf as it was. -/
theorem deaf_pos {es : Array Event} (h : ∀ e ∈ es, ∃ a wr, e = (⟨.cell a, wr, true⟩ : Event)) (k : Nat) : 0 < deafBehind 1 (es.extract 0 k) := by
  rw [deafBehind_still (fun e he => ?_)]
  · decide
  · obtain ⟨j, hj⟩ := Array.mem_iff_getElem?.1 he
    rw [Array.getElem?_extract] at hj
    split at hj
    rotate_left
    · cases hj
    obtain ⟨a, wr, rfl⟩ := h e (Array.mem_of_getElem? hj)
    exact ⟨(fun e => by cases e), fun e => by cases e⟩
/-- How deaf it is within a step's list. -/
theorem deaf_within (t : Trace) (g : Nat) (fn : FuncId) (pos : String) (es : Array Event) {k : Nat} (hk : k ≤ es.size) : (t ++ MemOp.ofEvents g fn pos es).deaf g (t.size + k) = deafBehind (Deaf t g) (es.extract 0 k) := by
  have e : es = es.extract 0 k ++ es.extract k es.size := by simp [hk]
  have hs : (es.extract 0 k).size = k := by simp; omega
  have hsz : (t ++ MemOp.ofEvents g fn pos (es.extract 0 k)).size = t.size + k := by rw [Array.size_append, ofEvents_size, hs]
  calc (t ++ MemOp.ofEvents g fn pos es).deaf g (t.size + k) = ((t ++ MemOp.ofEvents g fn pos (es.extract 0 k)) ++ MemOp.ofEvents g fn pos (es.extract k es.size)).deaf g (t.size + k) := by
        rw [Array.append_assoc, ← ofEvents_app, ← e]
    _ = (t ++ MemOp.ofEvents g fn pos (es.extract 0 k)).deaf g (t.size + k) := deaf_old (by rw [hsz]; exact Nat.le_refl _)
    _ = Deaf (t ++ MemOp.ofEvents g fn pos (es.extract 0 k)) g := by rw [Deaf, hsz]
    _ = _ := Deaf_own t g fn pos _
variable [Fns]
section
variable {P : Program} {c : Cst} {tW tT : TypeId} {F : Nat → Value} {Sn : Nat → Prop} {S : Scr2 P c tW tT F}
variable {gs gs' : Array Goroutine} {w w' : World} {t t' : Trace} {z0 z0' : Y0} {zs : Nat → YW P} {ct ct' i : Nat} {fnd fnd' blk blk' : Nat → Option Nat} {g g' : Goroutine} {z' : YW P} {es : Array Event}
theorem Scr2.apart (S : Scr2 P c tW tT F) : c.Fd ≠ c.C2 ∧ c.C1 ≠ c.C2 ∧ c.C2 < c.N1 := ⟨fun e => S.d1.2.2.2.2.2 e.symm, S.d1.2.2.2.1, S.d1.2.1⟩
omit [Fns] in
/-- One's phase is another, memory is as it was (but the group's). -/
theorem Mem2.one {top : Nat} (h : Mem2 P c tT F zs top ct fnd blk w) (hC : c.Fd ≠ c.C2 ∧ c.C1 ≠ c.C2 ∧ c.C2 < c.N1) (hk : ∀ q, q ≠ c.C2 → w'.heap[q]? = w.heap[q]?) (hs : w'.heap.size = w.heap.size ∧ w'.os = w.os ∧ w'.output = w.output) (hh : ∀ k, holds2 z' k ↔ holds2 (zs i) k) (hu : ∀ q, inUse2 z' q → inUse2 (zs i) q) : Mem2 P c tT F (upd' zs i z') top ct fnd blk w' := by
  refine h.turn hk hs hC (fun j k _ _ => ?_) (fun j q _ _ => ?_)
  · by_cases e : j = i
    · subst e; rw [upd'_same]; exact hh k
    · rw [upd'_ne _ _ e]
  · by_cases e : j = i
    · subst e; rw [upd'_same]; exact hu q
    · rw [upd'_ne _ _ e]; exact id
/-- A step that turns nothing. -/
theorem Pool2.walks (h : Pool2 S Sn gs w t z0 zs ct fnd blk) (hn : SnOk c Sn) (hi : c.S0 ≤ i) (hg : gs[i]? = some g) (hst : stepG P false g w = .go g' w' es) (hq : DQ c w w' es) (st : TW S (Deaf t i) z' g' w') (hb : bef z' = bef (zs i)) (hc : closing z' ↔ closing (zs i)) (hs : isSe z' ↔ isSe (zs i)) (ho : outN z' = outN (zs i)) (hqw : qW z' = qW (zs i))
    (ht : told z' → told (zs i)) (hze : es = #[] ∨ ¬ told z') (hdw : deafW z' (Deaf t i)) (hh : ∀ k, holds2 z' k ↔ holds2 (zs i) k) (hu : ∀ q, ¬ inUse2 z' q) (hnc : ∀ k E s, z' ≠ .ca k E s) (hm : MiLt P [trap P] (yiW z') (yiW (zs i))) : Moves2 S Sn gs w t z0 zs ct i := by
  have hs1 := S.s1
  have his := idx_lt hg
  have hok := dq_ok hq h.ok2
  have hsz : w'.heap.size = w.heap.size := by rw [hq.heap]
  refine h.moveW (ct' := ct) (fnd' := fnd) (blk' := blk) (by omega) hg hst hok (by rw [dq_still hq]; exact st) (fun e => by omega) (fun _ => by rw [dq_still hq]; exact hdw) (fun _ _ _ _ _ _ => by rw [hq.heap]) (fun z0' k1 _ => h.wg.sameW k1 his hb hc hs (by rw [hq.heap])) (out_keep his ho h.ovr) (fun k E s e => absurd e (hnc k E s)) ?_ ?_ (.inr ⟨tot_same his hb hqw, hm⟩)
  · exact h.mem.one S.apart (fun q _ => by rw [hq.heap]) ⟨hsz, hq.os, hq.output⟩ hh (fun q e => absurd e (hu q))
  · exact h.tr.reads hn.lt hn.fix (.inr ⟨hi, his⟩) hq.evs (by rw [hsz]; exact h.mem.ok.big) (by rw [hsz]; exact Nat.le_refl _) (told_upd ht) (hze.elim .inl fun e => .inr (.inr (by rw [upd'_same]; exact e)))
/-- Who leaves, leaves. -/
theorem Pool2.leaves (h : Pool2 S Sn gs w t z0 zs ct fnd blk) (hi : 1 ≤ i) (hg : gs[i]? = some g) (hr : g.status = .running) {q : Nat} (hz : zs i = .lv q) : Moves2 S Sn gs w t z0 zs ct i := by
  have his := idx_lt hg
  have hw := h.wk i g hi hg
  rw [hz] at hw
  have hq : QuitsD P q (Deaf t i) g := hw
  cases q with
  | zero => rw [hq.1] at hr; cases hr
  | succ n =>
    rcases hq with ⟨hf, _⟩ | ⟨_, g', es, hm, hst, hq'⟩
    · rw [hr] at hf; cases hf
    have hn : ∀ op ∈ MemOp.ofEvents i g.frame.fn g.frame.place es, op.act.touch? = none ∧ isRel op.act ≠ true := fun op hop => by
      obtain ⟨e, he, rfl⟩ := Conc.mem_ofEvents hop
      refine ⟨touch_mute (hm e he), fun e2 => ?_⟩
      have := hm e he
      obtain ⟨loc, a, b⟩ := e
      cases loc with
      | mark m => cases m <;> simp_all [Event.mute, MemAct.ofEvent, isRel]
      | _ => simp_all [Event.mute, MemAct.ofEvent]
    refine h.moveW (z' := .lv n) (ct' := ct) (fnd' := fnd) (blk' := blk) hi hg (hst w) h.ok2 hq' (fun _ => ⟨n, rfl⟩) (fun _ => trivial) (fun _ _ _ _ _ _ => rfl) (fun z0' k1 _ => h.wg.sameW k1 his (by rw [hz]; rfl) (by rw [hz]; exact Iff.rfl) (by rw [hz]; exact Iff.rfl) rfl) (out_keep his (by rw [hz]; rfl) h.ovr) (fun k E s e => by cases e) ?_ ?_ (.inr ⟨tot_same his (by rw [hz]; rfl) (by rw [hz]; rfl), by rw [hz]; exact .walk (Nat.lt_succ_self _)⟩)
    · exact h.mem.one S.apart (fun q _ => rfl) ⟨rfl, rfl, rfl⟩ (fun k => by rw [hz]; exact Iff.rfl) (fun q e => e.elim)
    · exact h.tr.mute (fun op hop => (hn op hop).1) (fun op hop => (hn op hop).2) (Nat.le_refl _) (told_upd (fun _ => by rw [hz]; trivial))
omit [Fns] in
theorem On.go {main : Bool} {Stp : Goroutine → Prop} (h : On P c tW tT main Stp g) (ok : Ok2 c tW tT w) : ∃ m, Walk2 P c tW tT main Stp m g w := h.2 w ok
omit [Fns] in
/-- What is listed of a block that is touched by atomic means alone. -/
theorem Tr2.atom {zs' : Nat → YW P} {top size : Nat} {fn : FuncId} {pos : String} (h : Tr2 c Sn zs top fnd blk size t) (hn : SnOk c Sn) (hi : i = 0 ∨ (c.S0 ≤ i ∧ i < top)) (hes : ∀ e ∈ es, (∃ a wr, e = ⟨.cell a, wr, true⟩ ∧ Sn a.block) ∨ e = Go.ConcR.mk .disable ∨ e = Go.ConcR.mk .enable) (hs : c.N1 ≤ size) (hz : ∀ j, told (zs' j) → told (zs j)) (hzd : i = 0 ∨ ¬ told (zs' i) ∨ ∀ (k : Nat) (e : Event), es[k]? = some e → (∃ a wr, e = ⟨.cell a, wr, true⟩) → 0 < deafBehind (Deaf t i) (es.extract 0 k)) : Tr2 c Sn zs' top fnd blk size (t ++ MemOp.ofEvents i fn pos es) := by
  have key : ∀ op ∈ MemOp.ofEvents i fn pos es, op.g = i ∧ ((∃ a wr, op.act = .access ⟨.cell a, wr, true⟩ ∧ Sn a.block) ∨ op.act = .mark .disable ∨ op.act = .mark .enable) := fun op hop => by
    obtain ⟨e, he, rfl⟩ := Conc.mem_ofEvents hop
    refine ⟨rfl, ?_⟩
    rcases hes e he with ⟨a, wr, rfl, h2⟩ | rfl | rfl
    · exact .inl ⟨a, wr, rfl, h2⟩
    · exact .inr (.inl rfl)
    · exact .inr (.inr rfl)
  have hb : ∀ op ∈ MemOp.ofEvents i fn pos es, ∀ b, op.act.touch? = some b → ∃ a wr, b = ⟨.cell a, wr, .atomic⟩ ∧ Sn a.block := fun op hop b hb => by
    rcases (key op hop).2 with ⟨a, wr, h1, h2⟩ | h1 | h1
    · rw [h1] at hb; cases hb; exact ⟨a, wr, rfl, h2⟩
    · rw [h1] at hb; cases hb
    · rw [h1] at hb; cases hb
  refine h.own (sn_own hn.lt) hi (fun op hop => ⟨(key op hop).1, fun b hb' => ?_⟩) (Nat.le_refl _) (fun op hop b hb' => ?_) (fun op hop b ad hb' hl hd => ?_) (fun op hop => ?_) hz ?_
  · obtain ⟨a, wr, rfl, h2⟩ := hb op hop b hb'
    exact .inl ⟨h2, (fun e => by cases e), (fun e => by cases e)⟩
  · obtain ⟨a, wr, rfl, h2⟩ := hb op hop b hb'
    exact Nat.lt_of_lt_of_le (hn.lt _ h2).1 hs
  · obtain ⟨a, wr, rfl, h2⟩ := hb op hop b hb'
    cases hl
    exact absurd hd (hn.lt _ h2).2
  · rcases (key op hop).2 with ⟨a, wr, h1, _⟩ | h1 | h1
    · rw [h1]; exact fun e => by cases e
    · rw [h1]; exact fun e => by cases e
    · rw [h1]; exact fun e => by cases e
  · rcases hzd with h1 | h1 | h1
    · exact .inr (.inl h1)
    · exact .inr (.inr h1)
    · refine .inl fun j x b hj hx hxb hc => ?_
      obtain ⟨k, rfl⟩ : ∃ k, j = t.size + k := ⟨j - t.size, by omega⟩
      have hxu : (MemOp.ofEvents i fn pos es)[k]? = some x := by
        rw [Array.getElem?_append_right (Nat.le_add_right _ _), Nat.add_sub_cancel_left] at hx
        exact hx
      obtain ⟨a, wr, rfl, h2⟩ := hb x (Array.mem_of_getElem? hxu) b hxb
      rcases hc with hc | ⟨g', hg1, hg2⟩
      · exact hc h2
      · have hke : ∃ e, es[k]? = some e ∧ x = { g := i, fn := fn, pos := pos, act := .ofEvent e } := by
          unfold MemOp.ofEvents at hxu
          split at hxu
          · simp at hxu
          · rw [Array.getElem?_map, Option.map_eq_some_iff] at hxu
            obtain ⟨e, h3, h4⟩ := hxu
            exact ⟨e, h3, h4.symm⟩
        obtain ⟨e, he, rfl⟩ := hke
        have hgi : g' = i := by
          rw [Trace.g?, hx] at hg1
          exact (Option.some.inj hg1).symm
        subst hgi
        rw [deaf_within t g' fn pos es (Nat.le_of_lt (Array.getElem?_eq_some_iff.1 he).1)] at hg2
        have := h1 k e he (by
          rcases hes e (Array.mem_of_getElem? he) with ⟨a', wr', h5, _⟩ | h5 | h5
          · exact ⟨a', wr', h5⟩
          · rw [h5] at hxb; cases hxb
          · rw [h5] at hxb; cases hxb)
        omega
/-- It takes a number. -/
theorem Pool2.takes (h : Pool2 S Sn gs w t z0 zs ct fnd blk) (hn : SnOk c Sn) (hi : c.S0 ≤ i) (hg : gs[i]? = some g) {m : Nat} (hz : zs i = .st m) (hT : S.Tak g) : Moves2 S Sn gs w t z0 zs ct i := by
  have hs1 := S.s1
  have his := idx_lt hg
  have hd1 := S.d1
  have hsum : sumTo gs.size (fun j => outF c j (zs j)) ≤ c.n := by
    have hb : ∀ n, sumTo (c.S0 + n) (fun j => outF c j (zs j)) ≤ n := fun n => by
      induction n with
      | zero =>
        have : ∀ m, m ≤ c.S0 → sumTo m (fun j => outF c j (zs j)) = 0 := fun m => by
          induction m with
          | zero => intro _; rfl
          | succ m ih =>
            intro hm
            show sumTo m _ + outF c m _ = 0
            rw [ih (by omega)]
            unfold outF
            rw [if_pos (by omega)]
        rw [Nat.add_zero, this _ (Nat.le_refl _)]
        exact Nat.le_refl _
      | succ n ih =>
        show sumTo (c.S0 + n) _ + outF c (c.S0 + n) _ ≤ n + 1
        have h9 : outF c (c.S0 + n) (zs (c.S0 + n)) ≤ 1 := by
          unfold outF
          split
          · omega
          · unfold outN; split <;> omega
        exact Nat.add_le_add ih h9
    have := h.sz
    have hsp : spawned2 c z0 ≤ c.n := by
      obtain ⟨a, _, h2⟩ := h.a0
      cases z0 with
      | sp j m => exact Nat.le_of_lt h2.1
      | _ => exact Nat.le_refl _
    rw [h.sz]
    exact Nat.le_trans (hb _) hsp
  have hctb : ct ≤ 1099511629000 := by have := h.ovr.1; have := S.k1; have := S.n1; omega
  obtain ⟨_, hk⟩ := S.tak g hT
  obtain ⟨g', hst, hon⟩ := hk ct hctb
  have hst' := hst w h.ok2 h.mem.tk
  have hsz := setCell_size w ⟨c.C1, 0, none⟩ (.int .i64 ((ct + 1 : Nat) : Int))
  have hoth : ∀ q, q ≠ c.C1 → (w.setCell ⟨c.C1, 0, none⟩ (.int .i64 ((ct + 1 : Nat) : Int))).heap[q]? = w.heap[q]? := fun q hq => heap_setCell_other w ⟨c.C1, 0, none⟩ q _ hq
  have hok : Ok2 c tW tT (w.setCell ⟨c.C1, 0, none⟩ (.int .i64 ((ct + 1 : Nat) : Int))) := ⟨h.mem.ok.keep (fun q hq => hoth q hq.2.2.1) (hoth _ (fun e => hd1.2.2.2.2.1 e.symm)) (by rw [hsz]; exact Nat.le_refl _) ⟨rfl, rfl⟩, ⟨_, tk_set h.mem.tk⟩, by obtain ⟨a, b, hk⟩ := h.wg.live; exact ⟨a, b, by unfold WgAt at hk ⊢; rw [hoth _ (fun e => hd1.2.2.2.1 e.symm)]; exact hk⟩⟩
  obtain ⟨m', hw'⟩ := hon.go hok
  have hdz : Deaf t i = 0 := by have := h.dfW i hi his; rw [hz] at this; exact this
  have hst0 : deafBehind (Deaf t i) #[rd ⟨c.C1, 0, none⟩, wr ⟨c.C1, 0, none⟩] = 0 := by rw [hdz]; rfl
  by_cases hlt : ct < c.K
  · have hw2 : Walk2 P c tW tT false (S.Cal ct) m' g' (w.setCell ⟨c.C1, 0, none⟩ (.int .i64 ((ct + 1 : Nat) : Int))) := by
      have e : (fun g => if ct < c.K then S.Cal ct g else S.Rel g) = S.Cal ct := by funext g; rw [if_pos hlt]
      rw [e] at hw'
      exact hw'
    have mem := h.mem.take (z' := .pr ct m') ⟨fun e => hd1.2.2.2.2.1 e.symm, hd1.1⟩ hi his (fun k e => by rw [hz] at e; exact e) (fun k => ⟨fun e => ⟨hlt, Eq.symm e⟩, fun e => e.2.symm⟩) (fun q e => e)
    rw [if_pos hlt] at mem
    refine h.moveW (z' := .pr ct m') (ct' := ct + 1) (by omega) hg hst' hok ⟨hlt, hw2⟩ (fun e => by omega) (fun _ => hst0) (fun j q a1 a2 _ a3 => hoth q (by have := (h.mem.us1 j q a1 a2 a3).1; omega)) (fun z0' k1 _ => h.wg.sameW k1 his (by rw [hz]; rfl) (by rw [hz]; exact Iff.rfl) (by rw [hz]; exact Iff.rfl) (hoth _ (fun e => hd1.2.2.2.1 e.symm))) ?_ (fun k E s e => by cases e) mem ?_ (.inl (tot_less his (by rw [hz]; exact Nat.le_refl _) ?_))
    · refine ⟨by rw [out_same his (by rw [hz]; rfl)]; omega, fun j j1 j2 j3 => ?_⟩
      by_cases e : j = i
      · subst e; rw [upd'_same] at j3; cases j3
      · rw [upd'_ne _ _ e] at j3
        exact Nat.le_succ_of_le (h.ovr.2 j j1 j2 j3)
    · rw [hsz]
      exact (h.tr.give (h.mem.jb0 ct (by unfold took; omega))).atom hn (.inr ⟨hi, his⟩) (fun e he => by simp at he; rcases he with rfl | rfl; exact .inl ⟨_, _, rfl, hn.c1⟩; exact .inl ⟨_, _, rfl, hn.c1⟩) h.mem.ok.big (told_upd (fun e => e.elim)) (.inr (.inl (by rw [upd'_same]; exact fun e => e)))
    · rw [hz]
      show 11 * (c.K - took c (ct + 1)) + 10 < 11 * (c.K - took c ct) + 7
      unfold took
      omega
  · have hw2 : Walk2 P c tW tT false S.Rel m' g' (w.setCell ⟨c.C1, 0, none⟩ (.int .i64 ((ct + 1 : Nat) : Int))) := by
      have e : (fun g => if ct < c.K then S.Cal ct g else S.Rel g) = S.Rel := by funext g; rw [if_neg hlt]
      rw [e] at hw'
      exact hw'
    have mem := h.mem.take (z' := .re m') ⟨fun e => hd1.2.2.2.2.1 e.symm, hd1.1⟩ hi his (fun k e => by rw [hz] at e; exact e) (fun k => ⟨fun e => e.elim, fun e => absurd e.1 hlt⟩) (fun q e => e)
    rw [if_neg hlt] at mem
    refine h.moveW (z' := .re m') (ct' := ct + 1) (by omega) hg hst' hok hw2 (fun e => by omega) (fun _ => hst0) (fun j q a1 a2 _ a3 => hoth q (by have := (h.mem.us1 j q a1 a2 a3).1; omega)) (fun z0' k1 _ => h.wg.sameW k1 his (by rw [hz]; rfl) (by rw [hz]; exact Iff.rfl) (by rw [hz]; exact Iff.rfl) (hoth _ (fun e => hd1.2.2.2.1 e.symm))) ?_ (fun k E s e => by cases e) mem ?_ (.inl (tot_less his (by rw [hz]; exact Nat.le_refl _) ?_))
    · have k1 := sum_upd (outF c) zs (.re m') his
      have e1 : outF c i (.re m' : YW P) = 1 := by unfold outF; rw [if_neg (by omega)]; rfl
      have e2 : outF c i (zs i) = 0 := by unfold outF; rw [if_neg (by omega), hz]; rfl
      have := h.ovr.1
      exact ⟨by omega, fun _ _ _ _ => by omega⟩
    · rw [hsz]
      exact h.tr.atom hn (.inr ⟨hi, his⟩) (fun e he => by simp at he; rcases he with rfl | rfl; exact .inl ⟨_, _, rfl, hn.c1⟩; exact .inl ⟨_, _, rfl, hn.c1⟩) h.mem.ok.big (told_upd (fun e => e.elim)) (.inr (.inl (by rw [upd'_same]; exact fun e => e)))
    · rw [hz]
      show 11 * (c.K - took c (ct + 1)) + 6 < 11 * (c.K - took c ct) + 7
      unfold took
      omega
end
end Go.Proofs.Ytpdemelchhkfaaa.Cs

/-
  The other pool's moves: a worker stores what came out; it tells that it is done, and is counted down; the last one lets goroutine 0 go.
-/
namespace Go.Proofs.Ytpdemelchhkfaaa.Cs
open Go.Conc
open Go.ConcN (sumTo sumTo_congr)
open Go.ConcR (KK WgAt wgBlock stA smA rd wr)
section
variable {P : Program} {c : Cst} {z0 : Y0} {zs : Nat → YW P} {z' : YW P} {n i : Nat} {w : World} {tW : TypeId} {Wg : Nat}
theorem lft_dec (hi : i < n) (hs : c.S0 ≤ i) (h1 : bef (zs i) = 1) (h0 : bef z' = 0) : lft c z0 (upd' zs i z') n + 1 = lft c z0 zs n := by
  have := sum_upd (befF c) zs z' hi
  have e : befF c i z' = 0 := by unfold befF; rw [if_neg (by omega), h0]
  have e' : befF c i (zs i) = 1 := by unfold befF; rw [if_neg (by omega), h1]
  unfold lft
  omega
theorem lft_pos (hi : i < n) (hs : c.S0 ≤ i) (h1 : bef (zs i) = 1) : 0 < lft c z0 zs n := by
  have := lft_dec (c := c) (z0 := z0) (zs := zs) (z' := .lv 0) hi hs h1 rfl
  omega
theorem wg_st {st sm st' : Int} (h : WgAt tW Wg w st sm) : WgAt tW Wg (w.setCell (stA Wg) (.int .u64 st')) st' sm := by
  unfold WgAt at h ⊢
  unfold World.setCell
  simp only [stA, Array.getElem?_modify, h]
  simp [wgBlock]
theorem wg_sm {st sm sm' : Int} (h : WgAt tW Wg w st sm) : WgAt tW Wg (w.setCell (smA Wg) (.int .u32 sm')) st sm' := by
  unfold WgAt at h ⊢
  unfold World.setCell
  simp only [smA, Array.getElem?_modify, h]
  simp [wgBlock]
theorem lft_woke {z0' : Y0} (h : z0' = z0 ∨ (z0 = .w3b ∧ z0' = .w3 0)) : lft c z0' zs n = lft c z0 zs n := by
  unfold lft
  rw [(woke_same (P := P) (c := c) h).1]
end
variable [Fns]
section
variable {P : Program} {c : Cst} {tW tT : TypeId} {F : Nat → Value} {Sn : Nat → Prop} {S : Scr2 P c tW tT F}
variable {gs gs' : Array Goroutine} {w w' : World} {t t' : Trace} {z0 z0' : Y0} {zs : Nat → YW P} {ct ct' i : Nat} {fnd fnd' blk blk' : Nat → Option Nat} {g g' : Goroutine} {z' : YW P} {es : Array Event}
omit [Fns] in
theorem wg_other (w : World) (a : Addr) (v : Value) (ha : a.block = c.C2) : ∀ q, q ≠ c.C2 → (w.setCell a v).heap[q]? = w.heap[q]? := fun q hq => heap_setCell_other w a q v (by rw [ha]; exact hq)
/-- The world behind a step at the group's cells. -/
theorem Pool2.okWg (h : Pool2 S Sn gs w t z0 zs ct fnd blk) {a : Addr} {v : Value} (ha : a.block = c.C2) {st sm : Int} (hw : WgAt tW c.C2 (w.setCell a v) st sm) : Ok2 c tW tT (w.setCell a v) := by
  have hd := S.d1
  have ho := wg_other (c := c) w a v ha
  exact ⟨h.mem.ok.keep (fun q hq => ho q hq.2.2.2.1) (ho _ (fun e => hd.2.2.2.2.2 e.symm)) (by rw [setCell_size]; exact Nat.le_refl _) ⟨rfl, rfl⟩, ⟨ct, by unfold TkAt; rw [ho _ hd.2.2.2.1]; exact h.mem.tk⟩, ⟨_, _, hw⟩⟩
/-- It stores what came out. -/
theorem Pool2.stores (h : Pool2 S Sn gs w t z0 zs ct fnd blk) (hn : SnOk c Sn) (hi : c.S0 ≤ i) (hg : gs[i]? = some g) {k m : Nat} (hz : zs i = .po k m) (hkK : k < c.K) (hT : S.Sto k g) : Moves2 S Sn gs w t z0 zs ct i := by
  have hs1 := S.s1
  have his := idx_lt hg
  have hd1 := S.d1
  obtain ⟨_, g', hst, hon⟩ := S.sto k g hT hkK
  have hst' := hst w h.ok2
  have mem := h.mem.store (z' := .st 0) hd1.2.2.2.2.1 hi his (fun j => by rw [hz]; exact Iff.rfl) (fun j e => e) (fun q e => e) hkK
  have hsz := setCell_size w ⟨c.Fd, k, none⟩ (F k)
  have hoth : ∀ q, q ≠ c.Fd → (w.setCell ⟨c.Fd, k, none⟩ (F k)).heap[q]? = w.heap[q]? := fun q hq => heap_setCell_other w ⟨c.Fd, k, none⟩ q _ hq
  have hok : Ok2 c tW tT (w.setCell ⟨c.Fd, k, none⟩ (F k)) := ⟨mem.ok, ⟨_, mem.tk⟩, by obtain ⟨a, b, hk⟩ := h.wg.live; exact ⟨a, b, by unfold WgAt at hk ⊢; rw [hoth _ hd1.2.2.2.2.2]; exact hk⟩⟩
  obtain ⟨m', hw'⟩ := hon.go hok
  have mem' := h.mem.store (z' := .st m') hd1.2.2.2.2.1 hi his (fun j => by rw [hz]; exact Iff.rfl) (fun j e => e) (fun q e => e) hkK
  have hdz : Deaf t i = 0 := by have := h.dfW i hi his; rw [hz] at this; exact this
  have hfk : fnd k = some i := (h.mem.jb2 i k hi his (by rw [hz]; rfl)).2
  refine h.moveW (z' := .st m') (ct' := ct) (by omega) hg hst' hok hw' (fun e => by omega) (fun _ => by rw [hdz]; rfl) (fun j q a1 a2 _ a3 => hoth q (by have := (h.mem.us1 j q a1 a2 a3).1; omega)) (fun z0' k1 _ => h.wg.sameW k1 his (by rw [hz]; rfl) (by rw [hz]; exact Iff.rfl) (by rw [hz]; exact Iff.rfl) (hoth _ hd1.2.2.2.2.2)) (out_keep his (by rw [hz]; rfl) h.ovr) (fun k E s e => by cases e) mem' ?_ (.inl (tot_less his (by rw [hz]; exact Nat.le_refl _) (by rw [hz]; show _ + 7 < _ + 8; omega)))
  rw [hsz]
  refine h.tr.own (sn_own hn.lt) (.inr ⟨hi, his⟩) (fun op hop => ?_) (Nat.le_refl _) (fun op hop b hb => ?_) (fun op hop b ad hb hl hd => ?_) (fun op hop => ?_) (told_upd (fun e => e.elim)) (.inr (.inr (by rw [upd'_same]; exact fun e => e)))
  · obtain ⟨e, he, rfl⟩ := Conc.mem_ofEvents hop
    simp at he
    subst he
    refine ⟨rfl, fun b hb => .inr ?_⟩
    cases hb
    exact ⟨fun e => (hn.lt _ e).2 rfl, .inl (by simp only [ownOf, if_pos]; exact hfk)⟩
  · obtain ⟨e, he, rfl⟩ := Conc.mem_ofEvents hop
    simp at he
    subst he
    cases hb
    exact Nat.lt_of_lt_of_le hd1.2.2.1 h.mem.ok.big
  · obtain ⟨e, he, rfl⟩ := Conc.mem_ofEvents hop
    simp at he
    subst he
    cases hb
    cases hl
    exact ⟨i, hfk⟩
  · obtain ⟨e, he, rfl⟩ := Conc.mem_ofEvents hop
    simp at he
    subst he
    exact fun e => by cases e
/-- It tells that it is done. -/
theorem Pool2.tells (h : Pool2 S Sn gs w t z0 zs ct fnd blk) (hi : c.S0 ≤ i) (hg : gs[i]? = some g) {m : Nat} (hz : zs i = .re m) (hT : S.Rel g) : Moves2 S Sn gs w t z0 zs ct i := by
  have hs1 := S.s1
  have his := idx_lt hg
  obtain ⟨_, g', hst, hon⟩ := S.rel g hT
  obtain ⟨m', hw'⟩ := hon.2 w h.ok2
  have hdz : Deaf t i = 0 := by have := h.dfW i hi his; rw [hz] at this; exact this
  refine h.moveW (z' := .di m') (ct' := ct) (fnd' := fnd) (blk' := blk) (by omega) hg (hst w h.ok2) h.ok2 hw' (fun e => by omega) (fun _ => by rw [hdz]; rfl) (fun _ _ _ _ _ _ => rfl) (fun z0' k1 _ => h.wg.sameW k1 his (by rw [hz]; rfl) (by rw [hz]; exact Iff.rfl) (by rw [hz]; exact Iff.rfl) rfl) (out_keep his (by rw [hz]; rfl) h.ovr) (fun k E s e => by cases e) ?_ ?_ (.inl (tot_less his (by rw [hz]; exact Nat.le_refl _) (by rw [hz]; show _ + 5 < _ + 6; omega)))
  · exact h.mem.one S.apart (fun q _ => rfl) ⟨rfl, rfl, rfl⟩ (fun k => by rw [hz]; exact Iff.rfl) (fun q e => e.elim)
  · have hx := h.tr.rel (zs' := upd' zs i (.di m')) (y := { g := i, fn := g.frame.fn, pos := g.frame.place, act := .mark (.releaseMerge (stA c.C2)) }) ⟨rfl, rfl⟩ hdz (fun j hj e => by
      have hj2 : j ≠ i := hj
      rw [upd'_ne _ _ hj2] at e
      exact e)
    have he : MemOp.ofEvents i g.frame.fn g.frame.place #[ConcR.mk (.releaseMerge (stA c.C2))] = #[{ g := i, fn := g.frame.fn, pos := g.frame.place, act := .mark (.releaseMerge (stA c.C2)) }] := by simp [MemOp.ofEvents, ConcR.mk, MemAct.ofEvent]
    rw [he]
    exact hx
/-- It hears no more. -/
theorem Pool2.hushes (h : Pool2 S Sn gs w t z0 zs ct fnd blk) (hn : SnOk c Sn) (hi : c.S0 ≤ i) (hg : gs[i]? = some g) {m : Nat} (hz : zs i = .di m) (hT : S.Dis g) : Moves2 S Sn gs w t z0 zs ct i := by
  have hs1 := S.s1
  have his := idx_lt hg
  obtain ⟨_, g', hst, hon⟩ := S.dis g hT
  obtain ⟨m', hw'⟩ := hon.2 w h.ok2
  have hdz : Deaf t i = 0 := by have := h.dfW i hi his; rw [hz] at this; exact this
  refine h.moveW (z' := .de m') (ct' := ct) (fnd' := fnd) (blk' := blk) (by omega) hg (hst w h.ok2) h.ok2 hw' (fun e => by omega) (fun _ => by rw [hdz]; rfl) (fun _ _ _ _ _ _ => rfl) (fun z0' k1 _ => h.wg.sameW k1 his (by rw [hz]; rfl) (by rw [hz]; exact Iff.rfl) (by rw [hz]; exact Iff.rfl) rfl) (out_keep his (by rw [hz]; rfl) h.ovr) (fun k E s e => by cases e) ?_ ?_ (.inl (tot_less his (by rw [hz]; exact Nat.le_refl _) (by rw [hz]; show _ + 4 < _ + 5; omega)))
  · exact h.mem.one S.apart (fun q _ => rfl) ⟨rfl, rfl, rfl⟩ (fun k => by rw [hz]; exact Iff.rfl) (fun q e => e.elim)
  · exact h.tr.atom hn (.inr ⟨hi, his⟩) (fun e he => by simp at he; exact .inr (.inl he)) h.mem.ok.big (told_upd (fun _ => by rw [hz]; trivial)) (.inr (.inr fun k e he ⟨a, wr, ea⟩ => by have := Array.mem_of_getElem? he; simp at this; rw [this] at ea; cases ea))
/-- It is counted down. -/
theorem Pool2.counts (h : Pool2 S Sn gs w t z0 zs ct fnd blk) (hn : SnOk c Sn) (hi : c.S0 ≤ i) (hg : gs[i]? = some g) {m : Nat} (hz : zs i = .de m) (hT : S.Dec g) (hlb : lft c z0 zs gs.size ≤ 2147483647) : Moves2 S Sn gs w t z0 zs ct i := by
  have hs1 := S.s1
  have his := idx_lt hg
  have hp : 0 < lft c z0 zs gs.size := lft_pos his hi (by rw [hz]; rfl)
  obtain ⟨v, hv⟩ : ∃ v, lft c z0 zs gs.size = v + 1 := ⟨lft c z0 zs gs.size - 1, by omega⟩
  have hrg : reg z0 ≤ 1 := by cases z0 <;> simp [reg]
  obtain ⟨_, hk⟩ := S.dec g hT
  obtain ⟨g', hst, hlast, hmore⟩ := hk v (reg z0) hrg (by omega)
  have hdz : Deaf t i = 1 := by have := h.dfW i hi his; rw [hz] at this; exact this
  have hd1 : deafBehind (Deaf t i) #[rd (stA c.C2), wr (stA c.C2)] = 1 := by rw [hdz]; rfl
  cases hwg : h.wg with
  | cls j _ _ _ _ _ hl _ => omega
  | rls _ hl _ _ _ => omega
  | pst _ hl _ _ => omega
  | run hnc hps hr hw =>
    have hw1 : WgAt tW c.C2 w (((v : Int) + 1) * KK + (reg z0 : Int)) 0 := by
      rw [hv] at hw
      exact_mod_cast hw
    have hst' := hst w hw1
    have hw2 : WgAt tW c.C2 (w.setCell (stA c.C2) (.int .u64 ((v : Int) * KK + (reg z0 : Int)))) ((v : Int) * KK + (reg z0 : Int)) 0 := wg_st hw1
    have hok := h.okWg (a := stA c.C2) rfl hw2
    have hoth := wg_other (c := c) w (stA c.C2) (.int .u64 ((v : Int) * KK + (reg z0 : Int))) rfl
    have hsz := setCell_size w (stA c.C2) (.int .u64 ((v : Int) * KK + (reg z0 : Int)))
    have htr : ∀ z' : YW P, told z' → Tr2 c Sn (upd' zs i z') gs.size fnd blk (w.setCell (stA c.C2) (.int .u64 ((v : Int) * KK + (reg z0 : Int)))).heap.size (t ++ MemOp.ofEvents i g.frame.fn g.frame.place #[rd (stA c.C2), wr (stA c.C2)]) := fun z' _ => by
      rw [hsz]
      exact h.tr.atom hn (.inr ⟨hi, his⟩) (fun e he => by simp at he; rcases he with rfl | rfl; exact .inl ⟨_, _, rfl, hn.c2⟩; exact .inl ⟨_, _, rfl, hn.c2⟩) h.mem.ok.big (told_upd (fun _ => by rw [hz]; trivial)) (.inr (.inr fun k e he _ => by have hd : Deaf t i = 1 := (by have := h.dfW i hi his; rw [hz] at this; exact this); rw [hd]; exact deaf_pos (fun e he => by simp at he; first | (rcases he with rfl | rfl <;> exact ⟨_, _, rfl⟩) | (subst he; exact ⟨_, _, rfl⟩)) k))
    have hmem : ∀ z' : YW P, (∀ k, ¬ holds2 z' k) → (∀ q, ¬ inUse2 z' q) → Mem2 P c tT F (upd' zs i z') gs.size ct fnd blk (w.setCell (stA c.C2) (.int .u64 ((v : Int) * KK + (reg z0 : Int)))) := fun z' h1 h2 => h.mem.one S.apart hoth ⟨hsz, rfl, rfl⟩ (fun k => by rw [hz]; exact ⟨fun e => (h1 k e).elim, fun e => e.elim⟩) (fun q e => (h2 q e).elim)
    by_cases hvl : v = 0 ∧ reg z0 = 1
    · obtain ⟨m', hw'⟩ := (hlast hvl).2 _ hok
      refine h.moveW (z' := .lo m') (ct' := ct) (fnd' := fnd) (blk' := blk) (by omega) hg hst' hok hw' (fun e => by omega) (fun _ => hd1) (fun j q a1 a2 _ a3 => hoth q (by have := (h.mem.us1 j q a1 a2 a3).1; have := S.d1; omega)) (fun z0' k1 _ => ?_) (out_keep his (by rw [hz]; rfl) h.ovr) (fun k E s e => by cases e) (hmem _ (fun k e => e) (fun q e => e)) (htr _ trivial) (.inl (tot_less his (by rw [hz]; exact Nat.zero_le _) (by rw [hz]; show _ + 3 < _ + 4; omega)))
      have hld := lft_dec (c := c) (z0 := z0) (zs := zs) (z' := (.lo m' : YW P)) his hi (by rw [hz]; rfl) rfl
      refine .cls i hi his (by rw [upd'_same]; trivial) (fun j j1 j2 j3 => by rw [upd'_ne _ _ j3]; exact hnc j j1 j2) (by rw [(woke_same (P := P) (c := c) k1).2.1]; exact hvl.2) (by rw [lft_woke k1]; omega) ⟨fun e => ?_, fun _ => ?_⟩
      · rw [upd'_same] at e; exact e.elim
      · have e : ((v : Int) * KK + (reg z0 : Int)) = 1 := by rw [hvl.1, hvl.2]; simp
        rw [e] at hw2 ⊢
        exact hw2
    · obtain ⟨q, hq⟩ := hmore hvl
      refine h.moveW (z' := .lv q) (ct' := ct) (fnd' := fnd) (blk' := blk) (by omega) hg hst' hok (by rw [hd1]; exact hq) (fun e => by omega) (fun _ => trivial) (fun j q a1 a2 _ a3 => hoth q (by have := (h.mem.us1 j q a1 a2 a3).1; have := S.d1; omega)) (fun z0' k1 _ => ?_) (out_keep his (by rw [hz]; rfl) h.ovr) (fun k E s e => by cases e) (hmem _ (fun k e => e) (fun q e => e)) (htr _ trivial) (.inl (tot_less his (by rw [hz]; exact Nat.zero_le _) (by rw [hz]; show _ + 0 < _ + 4; omega)))
      have hld := lft_dec (c := c) (z0 := z0) (zs := zs) (z' := (.lv q : YW P)) his hi (by rw [hz]; rfl) rfl
      obtain ⟨_, e2, _, e4, _, _⟩ := woke_same (P := P) (c := c) k1
      have hlv : lft c z0' (upd' zs i (.lv q)) gs.size = v := by rw [lft_woke k1]; omega
      refine .run (noCl_same hnc (fun e => e.elim)) (fun e => hps (e4.1 e)) ⟨fun e => ?_, fun u m e => ?_⟩ (by rw [hlv, e2]; exact hw2)
      · rw [hlv]
        rw [e2] at e
        omega
      · rw [hlv]
        rcases k1 with e' | ⟨_, e'⟩
        · have := hr.2 u m (e' ▸ e)
          omega
        · rw [e'] at e; cases e
end
end Go.Proofs.Ytpdemelchhkfaaa.Cs
