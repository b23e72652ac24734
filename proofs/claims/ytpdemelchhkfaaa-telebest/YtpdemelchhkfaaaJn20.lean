/-
  Several texts, joined: CwM, CwN.
-/
import Derived.Test.YtpdemelchhkfaaaJn19
/-
  The other pool's moves: goroutine 0 walks, begins workers, and waits for the group.
-/
namespace Go.Proofs.Ytpdemelchhkfaaa.Cs
open Go.Conc
open Go.ConcN (sumTo sumTo_congr)
open Go.ConcR (KK WgAt wgBlock stA smA rd wr)
section
variable {P : Program} {c : Cst} {tW : TypeId} {z0 z0' : Y0} {zs : Nat → YW P} {z' : YW P} {n i ct ct' : Nat} {w w' : World}
/-- What the group holds is not changed by goroutine 0's walk. -/
theorem WgS.same0 (h : WgS c tW z0 zs n w) (e1 : spawned2 c z0' = spawned2 c z0) (e2 : reg z0' = reg z0) (e3 : past0 z0' ↔ past0 z0) (hb : z0' ≠ .w3b) (h2 : ∀ u m, z0' = .w2 u m → ∃ m', z0 = .w2 u m') (hw : w'.heap[c.C2]? = w.heap[c.C2]?) : WgS c tW z0' zs n w' := by
  have hl : lft c z0' zs n = lft c z0 zs n := by unfold lft; rw [e1]
  refine WgS.keep (w := w) ?_ hw
  cases h with
  | run hn hp hr hw =>
    refine .run hn (fun e => hp (e3.1 e)) ⟨by rw [hl, e2]; exact hr.1, fun u m e => ?_⟩ (by rw [hl, e2]; exact hw)
    obtain ⟨m', e'⟩ := h2 u m e
    rw [hl]
    exact hr.2 u m' e'
  | cls j hj hs hc hu hr hlf hw => exact .cls j hj hs hc hu (by rw [e2]; exact hr) (by rw [hl]; exact hlf) hw
  | rls hn hlf hr _ hw => exact .rls hn (by rw [hl]; exact hlf) (by rw [e2]; exact hr) hb hw
  | pst hn hlf hp hw => exact .pst hn (by rw [hl]; exact hlf) (e3.2 hp) hw
theorem tot_0 (e1 : spawned2 c z0' = spawned2 c z0) (h : q0 c (lft c z0 zs n) z0' < q0 c (lft c z0 zs n) z0) : tot c z0' zs n ct < tot c z0 zs n ct := by
  have hl : lft c z0' zs n = lft c z0 zs n := by unfold lft; rw [e1]
  unfold tot
  rw [hl]
  omega
theorem tot_0s (e1 : spawned2 c z0' = spawned2 c z0) (h : q0 c (lft c z0 zs n) z0' = q0 c (lft c z0 zs n) z0) : tot c z0' zs n ct = tot c z0 zs n ct := by
  have hl : lft c z0' zs n = lft c z0 zs n := by unfold lft; rw [e1]
  unfold tot
  rw [hl]
  omega
theorem bef_sum (zs : Nat → YW P) : ∀ m, sumTo (c.S0 + m) (fun i => befF c i (zs i)) ≤ m := fun m => by
  induction m with
  | zero =>
    have : ∀ k, k ≤ c.S0 → sumTo k (fun j => befF c j (zs j)) = 0 := fun k => by
      induction k with
      | zero => intro _; rfl
      | succ k ih =>
        intro hm
        show sumTo k _ + befF c k _ = 0
        rw [ih (by omega)]
        unfold befF
        rw [if_pos (by omega)]
    rw [Nat.add_zero, this _ (Nat.le_refl _)]
    exact Nat.le_refl _
  | succ m ih =>
    show sumTo (c.S0 + m) _ + befF c (c.S0 + m) _ ≤ m + 1
    have h9 : befF c (c.S0 + m) (zs (c.S0 + m)) ≤ 1 := by
      unfold befF
      split
      · omega
      · unfold bef; split <;> omega
    exact Nat.add_le_add ih h9
theorem bef_zero {f : Nat → Nat} : ∀ m, sumTo m f = 0 → ∀ i, i < m → f i = 0 := fun m => by
  induction m with
  | zero => intro _ i hi; omega
  | succ m ih =>
    intro h i hi
    have h' : sumTo m f + f m = 0 := h
    by_cases e : i = m
    · subst e; omega
    · exact ih (by omega) i (by omega)
/-- All are done: all have told, all only leave. -/
theorem all_lv (hn : NoCl c zs n) (hl : lft c z0 zs n = 0) (hi : c.S0 ≤ i) (his : i < n) : ∃ q, zs i = .lv q := by
  have h1 : sumTo n (fun i => befF c i (zs i)) = 0 := by unfold lft at hl; omega
  have h2 := bef_zero n h1 i his
  have h3 := hn i hi his
  simp only [befF, if_neg (Nat.not_lt.2 hi)] at h2
  cases hz : zs i with
  | lv q => exact ⟨q, rfl⟩
  | st m => rw [hz] at h2; cases h2
  | pr k m => rw [hz] at h2; cases h2
  | ca k E s => rw [hz] at h2; cases h2
  | po k m => rw [hz] at h2; cases h2
  | re m => rw [hz] at h2; cases h2
  | di m => rw [hz] at h2; cases h2
  | de m => rw [hz] at h2; cases h2
  | lo m => rw [hz] at h3; exact absurd trivial h3
  | ze m => rw [hz] at h3; exact absurd trivial h3
  | se m => rw [hz] at h3; exact absurd trivial h3
end
variable [Fns]
section
variable {P : Program} {c : Cst} {tW tT : TypeId} {F : Nat → Value} {Sn : Nat → Prop} {S : Scr2 P c tW tT F}
variable {gs gs' : Array Goroutine} {w w' : World} {t t' : Trace} {z0 z0' : Y0} {zs : Nat → YW P} {ct ct' i : Nat} {fnd fnd' blk blk' : Nat → Option Nat} {g g' : Goroutine} {z' : YW P} {es : Array Event}
theorem Pool2.spn (h : Pool2 S Sn gs w t z0 zs ct fnd blk) : spawned2 c z0 ≤ c.n := by
  obtain ⟨a, _, h2⟩ := h.a0
  cases z0 with
  | sp j m => exact Nat.le_of_lt h2.1
  | _ => exact Nat.le_refl _
theorem Pool2.lftn (h : Pool2 S Sn gs w t z0 zs ct fnd blk) : lft c z0 zs gs.size ≤ c.n := by
  have h1 := bef_sum (c := c) zs (spawned2 c z0)
  have h2 := h.spn
  unfold lft
  rw [h.sz]
  omega
inductive Alike2 (S : Scr2 P c tW tT F) : Y0 → Y0 → Nat → (Goroutine → Prop) → Prop
  | sp (j m : Nat) : Alike2 S (.sp j (m + 1)) (.sp j m) m (S.GoP j)
  | wd (m : Nat) : Alike2 S (.wd (m + 1)) (.wd m) m S.WtD
  | w1 (m : Nat) : Alike2 S (.w1 (m + 1)) (.w1 m) m S.W1
  | w2 (v m : Nat) : Alike2 S (.w2 v (m + 1)) (.w2 v m) m (S.W2 v)
  | sa (m : Nat) : Alike2 S (.sa (m + 1)) (.sa m) m S.Sai
  | w3 (m : Nat) : Alike2 S (.w3 (m + 1)) (.w3 m) m S.W3
  | w4 (m : Nat) : Alike2 S (.w4 (m + 1)) (.w4 m) m S.W4
  | ke (m : Nat) : Alike2 S (.ke (m + 1)) (.ke m) m S.Ke
  | ac (m : Nat) : Alike2 S (.ac (m + 1)) (.ac m) m S.Acq
/-- It walks. -/
theorem Pool2.walks0 (h : Pool2 S Sn gs w t z0 zs ct fnd blk) (hn : SnOk c Sn) (hg : gs[0]? = some g) {m : Nat} {Stp : Goroutine → Prop} (al : Alike2 S z0 z0' m Stp) (hst : stepG P true g w = .go g' w' es) (hd : DQ c w w' es) (hw : Walk2 P c tW tT true Stp m g' w') : Moves2 S Sn gs w t z0 zs ct 0 := by
  obtain ⟨a, hg1, st0⟩ := h.a0
  have hsz : w'.heap.size = w.heap.size := by rw [hd.heap]
  have facts : T0 S z0' g' w' ∧ spawned2 c z0' = spawned2 c z0 ∧ reg z0' = reg z0 ∧ (past0 z0' ↔ past0 z0) ∧ deaf0 z0' = deaf0 z0 ∧ z0' ≠ .w3b ∧ (∀ u m, z0' = .w2 u m → ∃ m', z0 = .w2 u m') ∧ (∀ v, q0 c v z0' = q0 c v z0) ∧ MiLt P [trap P] (yi0 z0') (yi0 z0) := by
    cases al with
    | sp j m => exact ⟨⟨st0.1, hw⟩, rfl, rfl, Iff.rfl, rfl, (fun e => by cases e), (fun u m e => by cases e), fun _ => rfl, .walk (Nat.lt_succ_self _)⟩
    | w2 v m => exact ⟨⟨st0.1, st0.2.1, hw⟩, rfl, rfl, Iff.rfl, rfl, (fun e => by cases e), (fun u m e => by cases e; exact ⟨_, rfl⟩), fun _ => rfl, .walk (Nat.lt_succ_self _)⟩
    | wd m => exact ⟨hw, rfl, rfl, Iff.rfl, rfl, (fun e => by cases e), (fun u m e => by cases e), fun _ => rfl, .walk (Nat.lt_succ_self _)⟩
    | w1 m => exact ⟨hw, rfl, rfl, Iff.rfl, rfl, (fun e => by cases e), (fun u m e => by cases e), fun _ => rfl, .walk (Nat.lt_succ_self _)⟩
    | sa m => exact ⟨hw, rfl, rfl, Iff.rfl, rfl, (fun e => by cases e), (fun u m e => by cases e), fun _ => rfl, .walk (Nat.lt_succ_self _)⟩
    | w3 m => exact ⟨hw, rfl, rfl, Iff.rfl, rfl, (fun e => by cases e), (fun u m e => by cases e), fun _ => rfl, .walk (Nat.lt_succ_self _)⟩
    | w4 m => exact ⟨hw, rfl, rfl, Iff.rfl, rfl, (fun e => by cases e), (fun u m e => by cases e), fun _ => rfl, .walk (Nat.lt_succ_self _)⟩
    | ke m => exact ⟨hw, rfl, rfl, Iff.rfl, rfl, (fun e => by cases e), (fun u m e => by cases e), fun _ => rfl, .walk (Nat.lt_succ_self _)⟩
    | ac m => exact ⟨hw, rfl, rfl, Iff.rfl, rfl, (fun e => by cases e), (fun u m e => by cases e), fun _ => rfl, .walk (Nat.lt_succ_self _)⟩
  obtain ⟨f1, f2, f3, f4, f5, f6, f7, f8, f9⟩ := facts
  refine h.move0 hg hst (dq_ok hd h.ok2) f1 f2 (by rw [dq_still hd, f5]) (fun q _ => by rw [hd.heap]) ⟨hsz, hd.os, hd.output⟩ (h.wg.same0 f2 f3 f4 f6 f7 (by rw [hd.heap])) ?_ (me2_0 (tot_0s f2 (f8 _)) f9)
  exact h.tr.reads hn.lt hn.fix (.inl rfl) hd.evs (by rw [hsz]; exact h.mem.ok.big) (by rw [hsz]; exact Nat.le_refl _) (fun _ e => e) (.inr (.inl rfl))
/-- It begins to wait. -/
theorem Pool2.waits (h : Pool2 S Sn gs w t z0 zs ct fnd blk) (hn : SnOk c Sn) (hg : gs[0]? = some g) {m : Nat} (hz : z0 = .wd m) (hT : S.WtD g) : Moves2 S Sn gs w t z0 zs ct 0 := by
  subst hz
  obtain ⟨_, g', hst, hon⟩ := S.wtd g hT
  obtain ⟨m', hw⟩ := hon.go h.ok2
  have hl := h.lftn
  refine h.move0 (z0' := .w1 m') hg (hst w h.ok2) h.ok2 hw rfl rfl (fun _ _ => rfl) ⟨rfl, rfl, rfl⟩ (h.wg.same0 rfl rfl Iff.rfl (fun e => by cases e) (fun u m e => by cases e) rfl) ?_ (me2_1 (tot_0 rfl ?_))
  · exact h.tr.atom hn (.inl rfl) (fun e he => by simp at he; exact .inr (.inl he)) h.mem.ok.big (fun _ e => e) (.inl rfl)
  · show 3 * _ + 12 < 3 * c.n + 15
    omega
/-- It looks at the group. -/
theorem Pool2.reads1 (h : Pool2 S Sn gs w t z0 zs ct fnd blk) (hn : SnOk c Sn) (hg : gs[0]? = some g) {m : Nat} (hz : z0 = .w1 m) (hT : S.W1 g) : Moves2 S Sn gs w t z0 zs ct 0 := by
  subst hz
  have hl := h.lftn
  have hn1 := S.n1
  obtain ⟨_, hk⟩ := S.w1 g hT
  obtain ⟨g', hst, hon⟩ := hk (lft c (.w1 m) zs gs.size) (by omega)
  obtain ⟨m', hw⟩ := hon.go h.ok2
  have htr : Tr2 c Sn zs gs.size fnd blk w.heap.size (t ++ MemOp.ofEvents 0 g.frame.fn g.frame.place #[rd (stA c.C2)]) := h.tr.atom hn (.inl rfl) (fun e he => by simp at he; subst he; exact .inl ⟨_, _, rfl, hn.c2⟩) h.mem.ok.big (fun _ e => e) (.inl rfl)
  cases hwg : h.wg with
  | cls j _ _ _ _ hr _ _ => cases hr
  | rls _ _ hr _ _ => cases hr
  | pst _ _ hp _ => exact hp.elim
  | run hnc hps hr hw0 =>
    have hw1 : WgAt tW c.C2 w ((lft c (.w1 m) zs gs.size : Int) * KK) 0 := by
      have e : ((lft c (.w1 m) zs gs.size : Int) * KK + (reg (.w1 m) : Int)) = (lft c (.w1 m) zs gs.size : Int) * KK := by show _ + (0 : Int) = _; omega
      rw [e] at hw0
      exact hw0
    by_cases hv : lft c (.w1 m) zs gs.size = 0
    · have hw2 : Walk2 P c tW tT true S.Ke m' g' w := by
        have e : (fun g => if lft c (.w1 m) zs gs.size = 0 then S.Ke g else S.W2 (lft c (.w1 m) zs gs.size) g) = S.Ke := by funext g; rw [if_pos hv]
        rw [e] at hw
        exact hw
      have hw3 : WgAt tW c.C2 w 0 0 := by rw [hv] at hw1; simpa using hw1
      exact h.move0 (z0' := .ke m') hg (hst w hw1) h.ok2 hw2 rfl rfl (fun _ _ => rfl) ⟨rfl, rfl, rfl⟩ (.pst hnc hv trivial hw3) htr (me2_1 (tot_0 rfl (by show 5 < 3 * _ + 12; omega)))
    · have hw2 : Walk2 P c tW tT true (S.W2 (lft c (.w1 m) zs gs.size)) m' g' w := by
        have e : (fun g => if lft c (.w1 m) zs gs.size = 0 then S.Ke g else S.W2 (lft c (.w1 m) zs gs.size) g) = S.W2 (lft c (.w1 m) zs gs.size) := by funext g; rw [if_neg hv]
        rw [e] at hw
        exact hw
      refine h.move0 (z0' := .w2 (lft c (.w1 m) zs gs.size) m') hg (hst w hw1) h.ok2 ⟨by omega, by omega, hw2⟩ rfl rfl (fun _ _ => rfl) ⟨rfl, rfl, rfl⟩ (.run hnc (fun e => e) ⟨(fun e => by cases e), fun u m e => ?_⟩ hw0) htr (me2_1 (tot_0 rfl (by show 3 * _ + 11 < 3 * _ + 12; omega)))
      cases e
      exact Nat.le_refl _
/-- It counts itself among those who wait, or looks again. -/
theorem Pool2.joins (h : Pool2 S Sn gs w t z0 zs ct fnd blk) (hn : SnOk c Sn) (hg : gs[0]? = some g) {u m : Nat} (hz : z0 = .w2 u m) (hT : S.W2 u g) : Moves2 S Sn gs w t z0 zs ct 0 := by
  subst hz
  have hl := h.lftn
  have hn1 := S.n1
  obtain ⟨a, _, hu0, hu1, _⟩ := h.a0
  cases hwg : h.wg with
  | cls j _ _ _ _ hr _ _ => cases hr
  | rls _ _ hr _ _ => cases hr
  | pst _ _ hp _ => exact hp.elim
  | run hnc hps hr hw0 =>
    have hle := hr.2 u m rfl
    have hw1 : WgAt tW c.C2 w ((lft c (.w2 u m) zs gs.size : Int) * KK) 0 := by
      have e : ((lft c (.w2 u m) zs gs.size : Int) * KK + (reg (.w2 u m) : Int)) = (lft c (.w2 u m) zs gs.size : Int) * KK := by show _ + (0 : Int) = _; omega
      rw [e] at hw0
      exact hw0
    by_cases hv : lft c (.w2 u m) zs gs.size = u
    · obtain ⟨_, g', hst, hon⟩ := S.w2h u g hT hu0 hu1
      rw [hv] at hw1
      have hst' := hst w hw1
      have hw2 : WgAt tW c.C2 (w.setCell (stA c.C2) (.int .u64 ((u : Int) * KK + 1))) ((u : Int) * KK + 1) 0 := wg_st hw1
      have hok := h.okWg (a := stA c.C2) rfl hw2
      have hsz := setCell_size w (stA c.C2) (.int .u64 ((u : Int) * KK + 1))
      obtain ⟨m', hw⟩ := hon.go hok
      have hls : lft c (.sa m') zs gs.size = u := hv
      refine h.move0 (z0' := .sa m') hg hst' hok hw rfl rfl (wg_other (c := c) w (stA c.C2) _ rfl) ⟨hsz, rfl, rfl⟩ (.run hnc (fun e => e) ⟨fun _ => by rw [hls]; exact hu0, fun u m e => by cases e⟩ (by rw [hls]; exact hw2)) ?_ (me2_1 (tot_0 rfl (by show 8 < 3 * u + 11; omega)))
      rw [hsz]
      exact h.tr.atom hn (.inl rfl) (fun e he => by simp at he; rcases he with rfl | rfl; exact .inl ⟨_, _, rfl, hn.c2⟩; exact .inl ⟨_, _, rfl, hn.c2⟩) h.mem.ok.big (fun _ e => e) (.inl rfl)
    · obtain ⟨g', hst, hon⟩ := S.w2m u g hT (lft c (.w2 u m) zs gs.size) (by omega) hv
      obtain ⟨m', hw⟩ := hon.go h.ok2
      refine h.move0 (z0' := .w1 m') hg (hst w hw1) h.ok2 hw rfl rfl (fun _ _ => rfl) ⟨rfl, rfl, rfl⟩ (h.wg.same0 rfl rfl Iff.rfl (fun e => by cases e) (fun u m e => by cases e) rfl) ?_ (me2_1 (tot_0 rfl ?_))
      · exact h.tr.atom hn (.inl rfl) (fun e he => by simp at he; subst he; exact .inl ⟨_, _, rfl, hn.c2⟩) h.mem.ok.big (fun _ e => e) (.inl rfl)
      · show 3 * lft c (.w2 u m) zs gs.size + 12 < 3 * u + 11
        omega
end
end Go.Proofs.Ytpdemelchhkfaaa.Cs

/-
  The other pool's moves: goroutine 0 sleeps, is let go, and hears again; it begins a worker.
-/
namespace Go.Proofs.Ytpdemelchhkfaaa.Cs
open Go.Conc
open Go.ConcN (sumTo sumTo_congr)
open Go.ConcR (KK WgAt wgBlock stA smA rd wr)
variable [Fns]
section
variable {P : Program} {c : Cst} {tW tT : TypeId} {F : Nat → Value} {Sn : Nat → Prop} {S : Scr2 P c tW tT F}
variable {gs gs' : Array Goroutine} {w w' : World} {t t' : Trace} {z0 z0' : Y0} {zs : Nat → YW P} {ct ct' i : Nat} {fnd fnd' blk blk' : Nat → Option Nat} {g g' : Goroutine} {z' : YW P} {es : Array Event}
omit [Fns] in
theorem fork_deaf (t : Trace) {x y : MemOp} (hx : ∀ m, x.act ≠ .mark m) (hy : ∀ m, y.act ≠ .mark m) (i : Nat) : Deaf (t ++ #[x, y]) i = Deaf t i := by
  have h1 : ∀ z : MemOp, (∀ m, z.act ≠ .mark m) → ∀ d, deafStep i d z = d := fun z hz d => by
    unfold deafStep
    split
    · rename_i e; exact absurd e (hz _)
    · rename_i e; exact absurd e (hz _)
    · rfl
  have h2 := Deaf_append t i [x, y]
  show Deaf (t ++ [x, y].toArray) i = _
  rw [h2]
  show deafStep i (deafStep i (Deaf t i) x) y = _
  rw [h1 x hx, h1 y hy]
omit [Fns] in
theorem Tr2.said {top size : Nat} {fn : FuncId} {pos : String} (h : Tr2 c Sn zs top fnd blk size t) (hn : SnOk c Sn) (hs : c.N1 ≤ size) : Tr2 c Sn zs top fnd blk size (t ++ MemOp.ofEvents 0 fn pos #[Go.ConcR.mk (.write (smA c.C2))]) := by
  have key : ∀ op ∈ MemOp.ofEvents 0 fn pos #[Go.ConcR.mk (.write (smA c.C2))], op.g = 0 ∧ op.act = .mark (.write (smA c.C2)) := fun op hop => by
    obtain ⟨e, he, rfl⟩ := Conc.mem_ofEvents hop
    simp at he
    subst he
    exact ⟨rfl, rfl⟩
  have hb : ∀ op ∈ MemOp.ofEvents 0 fn pos #[Go.ConcR.mk (.write (smA c.C2))], ∀ b, op.act.touch? = some b → b.loc = .cell (smA c.C2) ∧ b.kind = .said := fun op hop b hb => by
    rw [(key op hop).2] at hb
    cases hb
    exact ⟨rfl, rfl⟩
  have hsn : ∀ b : Touch, b.loc = .cell (smA c.C2) → snL Sn b.loc := fun b e => by rw [e]; exact hn.c2
  refine h.own (sn_own hn.lt) (.inl rfl) (fun op hop => ⟨(key op hop).1, fun b hb' => ?_⟩) (Nat.le_refl _) (fun op hop b hb' => ?_) (fun op hop b ad hb' hl hd => ?_) (fun op hop => ?_) (fun _ e => e) (.inr (.inl rfl))
  · obtain ⟨k1, k2⟩ := hb op hop b hb'
    exact .inl ⟨hsn b k1, (fun e => by rw [k2] at e; cases e), fun _ => rfl⟩
  · obtain ⟨k1, _⟩ := hb op hop b hb'
    rw [k1]
    exact Nat.lt_of_lt_of_le (hn.lt _ hn.c2).1 hs
  · obtain ⟨k1, _⟩ := hb op hop b hb'
    rw [k1] at hl
    cases hl
    exact absurd hd (hn.lt _ hn.c2).2
  · rw [(key op hop).2]
    exact fun e => by cases e
/-- It says that it waits. -/
theorem Pool2.says (h : Pool2 S Sn gs w t z0 zs ct fnd blk) (hn : SnOk c Sn) (hg : gs[0]? = some g) {m : Nat} (hz : z0 = .sa m) (hT : S.Sai g) : Moves2 S Sn gs w t z0 zs ct 0 := by
  subst hz
  obtain ⟨_, g', hst, hon⟩ := S.sai g hT
  obtain ⟨m', hw⟩ := hon.go h.ok2
  exact h.move0 (z0' := .w3 m') hg (hst w h.ok2) h.ok2 hw rfl rfl (fun _ _ => rfl) ⟨rfl, rfl, rfl⟩ (h.wg.same0 rfl rfl Iff.rfl (fun e => by cases e) (fun u m e => by cases e) rfl) (h.tr.said hn h.mem.ok.big) (me2_1 (tot_0 rfl (by show 7 < 8; omega)))
/-- It sleeps, or is let go. -/
theorem Pool2.sleeps (h : Pool2 S Sn gs w t z0 zs ct fnd blk) (hn : SnOk c Sn) (hg : gs[0]? = some g) {m : Nat} (hz : z0 = .w3 m) (hT : S.W3 g) : Moves2 S Sn gs w t z0 zs ct 0 := by
  subst hz
  obtain ⟨_, _, hbl, g', hst, hon⟩ := S.w3 g hT
  have hme : Me2Lt P (me2 c .w3b zs gs.size ct) (me2 c (.w3 m) zs gs.size ct) := by
    cases m with
    | zero => exact me2_b rfl (by decide)
    | succ m => exact me2_0 (tot_0s rfl rfl) (.walk (Nat.succ_pos _))
  have blk0 : ∀ st, WgAt tW c.C2 w st 0 → WgS c tW .w3b zs gs.size w → Moves2 S Sn gs w t (.w3 m) zs ct 0 := fun st hw hwg => by
    refine h.move0 (z0' := .w3b) hg (hbl w st hw) h.ok2 ⟨g, hT, rfl⟩ rfl rfl (fun _ _ => rfl) ⟨rfl, rfl, rfl⟩ hwg ?_ hme
    exact h.tr.mute (fun op hop => by obtain ⟨e, he, _⟩ := Conc.mem_ofEvents hop; simp at he) (fun op hop => by obtain ⟨e, he, _⟩ := Conc.mem_ofEvents hop; simp at he) (Nat.le_refl _) (fun _ e => e)
  cases hwg : h.wg with
  | run hnc hps hr hw0 => exact blk0 _ hw0 (.run hnc (fun e => e) ⟨hr.1, fun u m e => by cases e⟩ hw0)
  | cls j hj hs hc hu hr hl hw0 =>
    have hk : WgS c tW .w3b zs gs.size w := .cls j hj hs hc hu rfl hl hw0
    by_cases e : isSe (zs j)
    · exact blk0 _ (hw0.1 e) hk
    · exact blk0 _ (hw0.2 e) hk
  | pst _ _ hp _ => exact hp.elim
  | rls hnc hl hr _ hw0 =>
    have hst' := hst w hw0
    have hw2 : WgAt tW c.C2 (w.setCell (smA c.C2) (.int .u32 0)) 0 0 := wg_sm hw0
    have hok := h.okWg (a := smA c.C2) rfl hw2
    have hsz := setCell_size w (smA c.C2) (.int .u32 0)
    obtain ⟨m', hw⟩ := hon.go hok
    refine h.move0 (z0' := .w4 m') hg hst' hok hw rfl (by rw [sem_deaf]; rfl) (wg_other (c := c) w (smA c.C2) _ rfl) ⟨hsz, rfl, rfl⟩ (.pst hnc hl trivial hw2) ?_ (me2_1 (tot_0 rfl (by show 6 < 7; omega)))
    rw [hsz]
    exact h.tr.atom hn (.inl rfl) (fun e he => sem_evs he hn) h.mem.ok.big (fun _ e => e) (.inl rfl)
/-- It looks once more. -/
theorem Pool2.reads4 (h : Pool2 S Sn gs w t z0 zs ct fnd blk) (hn : SnOk c Sn) (hg : gs[0]? = some g) {m : Nat} (hz : z0 = .w4 m) (hT : S.W4 g) : Moves2 S Sn gs w t z0 zs ct 0 := by
  subst hz
  obtain ⟨_, g', hst, hon⟩ := S.w4 g hT
  obtain ⟨m', hw⟩ := hon.go h.ok2
  cases hwg : h.wg with
  | run _ hp _ _ => exact absurd trivial hp
  | cls j _ _ _ _ hr _ _ => cases hr
  | rls _ _ hr _ _ => cases hr
  | pst hnc hl _ hw0 =>
    refine h.move0 (z0' := .ke m') hg (hst w hw0) h.ok2 hw rfl rfl (fun _ _ => rfl) ⟨rfl, rfl, rfl⟩ (.pst hnc hl trivial hw0) ?_ (me2_1 (tot_0 rfl (by show 5 < 6; omega)))
    exact h.tr.atom hn (.inl rfl) (fun e he => by simp at he; subst he; exact .inl ⟨_, _, rfl, hn.c2⟩) h.mem.ok.big (fun _ e => e) (.inl rfl)
/-- It hears again. -/
theorem Pool2.hears (h : Pool2 S Sn gs w t z0 zs ct fnd blk) (hn : SnOk c Sn) (hg : gs[0]? = some g) {m : Nat} (hz : z0 = .ke m) (hT : S.Ke g) : Moves2 S Sn gs w t z0 zs ct 0 := by
  subst hz
  obtain ⟨_, g', hst, hon⟩ := S.ke g hT
  obtain ⟨m', hw⟩ := hon.go h.ok2
  refine h.move0 (z0' := .ac m') hg (hst w h.ok2) h.ok2 hw rfl rfl (fun _ _ => rfl) ⟨rfl, rfl, rfl⟩ (h.wg.same0 rfl rfl Iff.rfl (fun e => by cases e) (fun u m e => by cases e) rfl) ?_ (me2_1 (tot_0 rfl (by show 4 < 5; omega)))
  exact h.tr.atom hn (.inl rfl) (fun e he => by simp at he; exact .inr (.inr he)) h.mem.ok.big (fun _ e => e) (.inl rfl)
/-- A worker begins. -/
theorem Pool2.spawns (h : Pool2 S Sn gs w t z0 zs ct fnd blk) (hg : gs[0]? = some g) {j m : Nat} (hz : z0 = .sp j m) (hT : S.GoP j g) : Moves2 S Sn gs w t z0 zs ct 0 := fun sl => by
  subst hz
  obtain ⟨a, hg1, hj, _⟩ := h.a0
  obtain ⟨_, g', ch, h1, h2, h3⟩ := S.gop j g hT hj
  obtain ⟨mc, hwc⟩ := h2.go h.ok2
  obtain ⟨m0, hw0⟩ := h3.go h.ok2
  have hr := runT_crowd_spawn (P := P) (sl := sl) (i := 0) hg (show stepG P (0 == 0) g w = _ from h1 w)
  have hsz : gs.size = c.S0 + j := h.sz
  have hs1 := S.s1
  have hs : ((gs.setIfInBounds 0 g').push ch).size = gs.size + 1 := by simp
  have mem := h.mem.grow (m := mc)
  have hdf : ∀ i, Deaf (t ++ ((MemOp.ofEvents 0 g.frame.fn g.frame.place #[]).push { g := 0, fn := g.frame.fn, pos := g.frame.place, act := .go gs.size } |>.push { g := gs.size, fn := ch.frame.fn, pos := g.frame.place, act := .start })) i = Deaf t i := fun i => fork_deaf t (fun m e => by cases e) (fun m e => by cases e) i
  have hfr : ∀ f : Nat → YW P → Nat, sumTo gs.size (fun i => f i (upd' zs gs.size (.st mc) i)) = sumTo gs.size (fun i => f i (zs i)) := fun f => sumTo_congr fun i hi => by rw [upd'_ne _ _ (by omega)]
  have hbf : sumTo (gs.size + 1) (fun i => befF c i (upd' zs gs.size (.st mc) i)) = sumTo gs.size (fun i => befF c i (zs i)) + 1 := by
    show sumTo gs.size _ + befF c gs.size (upd' zs gs.size (.st mc) gs.size) = _
    rw [hfr, upd'_same]
    unfold befF
    rw [if_neg (by omega)]
    rfl
  have hnc' : NoCl c zs gs.size → NoCl c (upd' zs gs.size (.st mc)) (gs.size + 1) := fun hn i g1 g2 => by
    by_cases e : i = gs.size
    · subst e; rw [upd'_same]; exact fun e => e
    · rw [upd'_ne _ _ e]; exact hn i g1 (by omega)
  have hrun : NoCl c zs gs.size ∧ WgAt tW c.C2 w ((lft c (.sp j m) zs gs.size : Int) * KK) 0 := by
    cases hwg : h.wg with
    | cls j _ _ _ _ hr _ _ => cases hr
    | rls _ _ hr _ _ => cases hr
    | pst _ _ hp _ => exact hp.elim
    | run hnc hps hr hw0 =>
      have e : ((lft c (.sp j m) zs gs.size : Int) * KK + (reg (.sp j m) : Int)) = (lft c (.sp j m) zs gs.size : Int) * KK := by show _ + (0 : Int) = _; omega
      rw [e] at hw0
      exact ⟨hnc, hw0⟩
  have pool : ∀ z0', spawned2 c z0' = j + 1 → reg z0' = 0 → ¬ past0 z0' → deaf0 z0' = 0 → (∀ u m, z0' ≠ .w2 u m) → T0 S z0' g' w → Pool2 S Sn ((gs.setIfInBounds 0 g').push ch) w (t ++ ((MemOp.ofEvents 0 g.frame.fn g.frame.place #[]).push { g := 0, fn := g.frame.fn, pos := g.frame.place, act := .go gs.size } |>.push { g := gs.size, fn := ch.frame.fn, pos := g.frame.place, act := .start })) z0' (upd' zs gs.size (.st mc)) ct fnd blk := fun z0' e1 e2 e3 e4 e5 st => by
    have hlf : lft c z0' (upd' zs gs.size (.st mc)) (gs.size + 1) = lft c (.sp j m) zs gs.size := by
      unfold lft
      rw [hbf, e1]
      show _ = (c.n - j) + _
      omega
    refine ⟨by rw [hs, e1]; omega, ⟨g', ?_, st⟩, fun i x g1 g2 => ?_, fun i g1 g2 => ?_, by rw [hdf, h.df0, e4]; rfl, fun i g1 g2 => ?_, fun i g1 => ?_, ?_, ?_, fun i k E s g1 g2 g3 => ?_, by rw [hs]; exact mem, by rw [hs]; exact h.tr.fork h.df0 (h.dfA _ (Nat.le_refl _)) ⟨rfl, rfl⟩ ⟨rfl, rfl⟩⟩
    · rw [Array.getElem?_push, if_neg (by simp; omega), Array.getElem?_setIfInBounds_self_of_lt h.pos]
    · rw [hdf]
      rw [Array.getElem?_push] at g2
      by_cases e : i = (gs.setIfInBounds 0 g').size
      · rw [if_pos e] at g2
        cases g2
        rw [show i = gs.size by rw [e]; simp, upd'_same]
        exact hwc
      · rw [if_neg e, Array.getElem?_setIfInBounds_ne (by omega)] at g2
        rw [upd'_ne _ _ (by simp at e; exact e)]
        exact h.wk i x g1 g2
    · rw [upd'_ne _ _ (by omega)]; exact h.old i g1 g2
    · rw [hs] at g2
      rw [hdf]
      by_cases e : i = gs.size
      · subst e; rw [upd'_same]; exact h.dfA _ (Nat.le_refl _)
      · rw [upd'_ne _ _ e]; exact h.dfW i g1 (by omega)
    · rw [hs] at g1
      rw [hdf]; exact h.dfA i (by omega)
    · rw [hs]
      refine .run (hnc' hrun.1) e3 ⟨(fun e => by rw [e2] at e; cases e), fun u m e => absurd e (e5 u m)⟩ ?_
      rw [hlf, e2]
      have e : ((lft c (.sp j m) zs gs.size : Int) * KK + ((0 : Nat) : Int)) = (lft c (.sp j m) zs gs.size : Int) * KK := by omega
      rw [e]
      exact hrun.2
    · rw [hs]
      refine ⟨?_, fun i g1 g2 g3 => ?_⟩
      · show ct ≤ c.K + (sumTo gs.size _ + outF c gs.size (upd' zs gs.size (.st mc) gs.size))
        rw [hfr]
        have := h.ovr.1
        omega
      · by_cases e' : i = gs.size
        · subst e'; rw [upd'_same] at g3; cases g3
        · rw [upd'_ne _ _ e'] at g3; exact h.ovr.2 i g1 (by omega) g3
    · rw [hs] at g2
      by_cases e' : i = gs.size
      · subst e'; rw [upd'_same] at g3; cases g3
      · rw [upd'_ne _ _ e'] at g3; exact h.shr i k E s g1 (by omega) g3
  have sum : sumTo (gs.size + 1) (fun i => qW (upd' zs gs.size (.st mc) i)) = sumTo gs.size (fun i => qW (zs i)) + 7 := by
    show sumTo gs.size _ + qW (upd' zs gs.size (.st mc) gs.size) = _
    rw [hfr (fun _ z => qW z), upd'_same]
    rfl
  by_cases hlast : j + 1 < c.n
  · simp only [if_pos hlast] at hw0
    refine ⟨_, _, _, .sp (j + 1) m0, _, ct, fnd, blk, hr, pool _ rfl rfl (fun e => e) rfl (fun u m e => by cases e) ⟨hlast, hw0⟩, ?_⟩
    rw [hs]
    refine me2_1 ?_
    unfold tot
    rw [sum]
    simp only [q0]
    omega
  · simp only [if_neg hlast] at hw0
    refine ⟨_, _, _, .wd m0, _, ct, fnd, blk, hr, pool _ (show c.n = j + 1 by omega) rfl (fun e => e) rfl (fun u m e => by cases e) hw0, ?_⟩
    rw [hs]
    refine me2_1 ?_
    unfold tot
    rw [sum]
    simp only [q0]
    omega
end
end Go.Proofs.Ytpdemelchhkfaaa.Cs
