/-
  Several texts, joined: CwO, CwP.
-/
import Derived.Test.YtpdemelchhkfaaaJn20
/-
  The other pool: somebody runs, whoever runs moves; so on whatever tape goroutine 0 comes to hear of all.
-/
namespace Go.Proofs.Ytpdemelchhkfaaa.Cs
open Go.Conc
open Go.ConcN (sumTo sumTo_congr)
open Go.ConcR (KK WgAt wgBlock stA smA rd wr)
variable [Fns]
section
variable {P : Program} {c : Cst} {tW tT : TypeId} {F : Nat → Value} {Sn : Nat → Prop} {S : Scr2 P c tW tT F}
variable {gs gs' : Array Goroutine} {w w' : World} {t t' : Trace} {z0 z0' : Y0} {zs : Nat → YW P} {ct ct' i : Nat} {fnd fnd' blk blk' : Nat → Option Nat} {g g' : Goroutine} {z' : YW P} {es : Array Event}
theorem Pool2.ofAt (h : Pool2 S Sn gs w t z0 zs ct fnd blk) (d : Nat) : Pool2 S Sn gs (w.at d) t z0 zs ct fnd blk := by
  have ok : Ok2 c tW tT (w.at d) := ⟨⟨h.mem.ok.fix, h.mem.ok.fd, h.mem.ok.big, h.mem.ok.env⟩, ⟨_, h.mem.tk⟩, h.wg.live⟩
  obtain ⟨g, h1, h2⟩ := h.a0
  exact ⟨h.sz, ⟨g, h1, h2.keep ok⟩, fun j g h1 h2 => (h.wk j g h1 h2).keep ok fun _ _ _ _ _ _ _ => rfl, h.old, h.df0, h.dfW, h.dfA, h.wg.keep rfl, h.ovr, h.shr, h.mem.turn (fun _ _ => rfl) ⟨rfl, rfl, rfl⟩ S.apart (fun _ _ _ _ => Iff.rfl) (fun _ _ _ _ h => h), h.tr⟩
/-- Somebody runs. -/
theorem Pool2.alive (h : Pool2 S Sn gs w t z0 zs ct fnd blk) : ∃ (i : Nat) (g : Goroutine), gs[i]? = some g ∧ g.status = .running := by
  obtain ⟨a, hg0, st0⟩ := h.a0
  have hs1 := S.s1
  rcases st0.status h.ok2 with hr | ⟨rfl, _⟩
  · exact ⟨0, a, hg0, hr⟩
  · have key : ∀ i, c.S0 ≤ i → (hi : i < gs.size) → (∀ q, zs i ≠ .lv q) → ∃ (i : Nat) (g : Goroutine), gs[i]? = some g ∧ g.status = .running := fun i h1 h2 h3 => by
      refine ⟨i, gs[i], Array.getElem?_eq_getElem h2, ?_⟩
      rcases (h.wk i _ (by omega) (Array.getElem?_eq_getElem h2)).status h.ok2 with h4 | ⟨_, q, h4⟩
      · exact h4
      · exact absurd h4 (h3 q)
    cases hwg : h.wg with
    | pst _ _ hp _ => exact hp.elim
    | rls _ _ _ hb _ => exact absurd rfl hb
    | cls j hj hs hc _ _ _ _ => exact key j hj hs fun q e => by rw [e] at hc; exact hc
    | run hnc hps hr hw0 =>
      have hp := hr.1 rfl
      have hsum : 0 < sumTo gs.size (fun i => befF c i (zs i)) := by
        have e : lft c .w3b zs gs.size = (c.n - c.n) + sumTo gs.size (fun i => befF c i (zs i)) := rfl
        omega
      have hex : ∃ i, i < gs.size ∧ befF c i (zs i) ≠ 0 := by
        apply Classical.byContradiction
        intro hno
        have : ∀ n, n ≤ gs.size → sumTo n (fun i => befF c i (zs i)) = 0 := fun n => by
          induction n with
          | zero => intro _; rfl
          | succ n ih =>
            intro hn
            show sumTo n _ + befF c n (zs n) = 0
            have e : befF c n (zs n) = 0 := Classical.byContradiction fun e => hno ⟨n, by omega, e⟩
            rw [ih (by omega), e]
        have := this _ (Nat.le_refl _)
        omega
      obtain ⟨i, hi, hb⟩ := hex
      have hS : c.S0 ≤ i := by
        apply Classical.byContradiction
        intro e
        exact hb (by unfold befF; rw [if_pos (by omega)])
      exact key i hS hi fun q e => by
        rw [e] at hb
        exact hb (by unfold befF; split <;> rfl)
/-- A worker that runs moves. -/
theorem Pool2.movesW (hG : P.globals.size ≤ Fns.G) (hC : FnsCode P) (h : Pool2 S Sn gs w t z0 zs ct fnd blk) (hn : SnOk c Sn) (hi : 1 ≤ i) (hg : gs[i]? = some g) (hr : g.status = .running) : Moves2 S Sn gs w t z0 zs ct i := by
  have his := idx_lt hg
  have hln := h.lftn
  have hn1 := S.n1
  rcases Nat.lt_or_ge i c.S0 with hlo | hS
  · obtain ⟨q, hq⟩ := h.old i hi hlo
    exact h.leaves hi hg hr hq
  · have st0 := h.wk i g hi hg
    have hdf := h.dfW i hS his
    cases hz : zs i with
    | lv q => exact h.leaves hi hg hr hz
    | st m =>
      rw [hz] at st0 hdf
      have st1 : Walk2 P c tW tT false S.Tak m g w := st0
      rcases st1.cases with hs | ⟨m', rfl, hs⟩
      · exact h.takes hn hS hg hz (hs w h.ok2).2
      · obtain ⟨g', w', es, h1, h2, h3⟩ := hs w h.ok2
        exact h.walks (z' := .st m') hn hS hg h1 h2 h3 (by rw [hz]; rfl) (by rw [hz]; exact Iff.rfl) (by rw [hz]; exact Iff.rfl) (by rw [hz]; rfl) (by rw [hz]; rfl) (fun e => e.elim) (.inr fun e => e) hdf (fun k => by rw [hz]; exact Iff.rfl) (fun q e => e) (fun _ _ _ e => by cases e) (by rw [hz]; exact .walk (Nat.lt_succ_self _))
    | pr k m =>
      rw [hz] at st0 hdf
      rcases st0.2.cases with hs | ⟨m', rfl, hs⟩
      · exact h.calls hG hC hn hS hg st0.1 hz (hs w h.ok2).2
      · obtain ⟨g', w', es, h1, h2, h3⟩ := hs w h.ok2
        exact h.walks (z' := .pr k m') hn hS hg h1 h2 ⟨st0.1, h3⟩ (by rw [hz]; rfl) (by rw [hz]; exact Iff.rfl) (by rw [hz]; exact Iff.rfl) (by rw [hz]; rfl) (by rw [hz]; rfl) (fun e => e.elim) (.inr fun e => e) hdf (fun k => by rw [hz]; exact Iff.rfl) (fun q e => e) (fun _ _ _ e => by cases e) (by rw [hz]; exact .walk (Nat.lt_succ_self _))
    | ca k E s =>
      rw [hz] at st0
      obtain ⟨hk, cal, rest, hin, hcont⟩ := st0
      exact h.works hG hC hn hS hg hk hin hcont (fun q e => by rw [hz]; exact e) (h.shr i k E s hS his hz) (.inr ⟨s, hz, rfl⟩)
    | po k m =>
      rw [hz] at st0 hdf
      rcases st0.2.cases with hs | ⟨m', rfl, hs⟩
      · exact h.stores hn hS hg hz st0.1 (hs w h.ok2).2
      · obtain ⟨g', w', es, h1, h2, h3⟩ := hs w h.ok2
        exact h.walks (z' := .po k m') hn hS hg h1 h2 ⟨st0.1, h3⟩ (by rw [hz]; rfl) (by rw [hz]; exact Iff.rfl) (by rw [hz]; exact Iff.rfl) (by rw [hz]; rfl) (by rw [hz]; rfl) (fun e => e.elim) (.inr fun e => e) hdf (fun k => by rw [hz]; exact Iff.rfl) (fun q e => e) (fun _ _ _ e => by cases e) (by rw [hz]; exact .walk (Nat.lt_succ_self _))
    | re m =>
      rw [hz] at st0 hdf
      have st1 : Walk2 P c tW tT false S.Rel m g w := st0
      rcases st1.cases with hs | ⟨m', rfl, hs⟩
      · exact h.tells hS hg hz (hs w h.ok2).2
      · obtain ⟨g', w', es, h1, h2, h3⟩ := hs w h.ok2
        exact h.walks (z' := .re m') hn hS hg h1 h2 h3 (by rw [hz]; rfl) (by rw [hz]; exact Iff.rfl) (by rw [hz]; exact Iff.rfl) (by rw [hz]; rfl) (by rw [hz]; rfl) (fun e => e.elim) (.inr fun e => e) hdf (fun k => by rw [hz]; exact Iff.rfl) (fun q e => e) (fun _ _ _ e => by cases e) (by rw [hz]; exact .walk (Nat.lt_succ_self _))
    | di m =>
      rw [hz] at st0 hdf
      have st1 : Walk3 P c tW tT S.Dis m g w := st0
      rcases st1.cases with hs | ⟨m', rfl, hs⟩
      · exact h.hushes hn hS hg hz (hs w h.ok2).2
      · obtain ⟨g', w', es, h1, ⟨h2, h2'⟩, h3⟩ := hs w h.ok2
        exact h.walks (z' := .di m') hn hS hg h1 h2 h3 (by rw [hz]; rfl) (by rw [hz]; exact Iff.rfl) (by rw [hz]; exact Iff.rfl) (by rw [hz]; rfl) (by rw [hz]; rfl) (fun _ => by rw [hz]; trivial) (.inl h2') hdf (fun k => by rw [hz]; exact Iff.rfl) (fun q e => e) (fun _ _ _ e => by cases e) (by rw [hz]; exact .walk (Nat.lt_succ_self _))
    | de m =>
      rw [hz] at st0 hdf
      have st1 : Walk3 P c tW tT S.Dec m g w := st0
      rcases st1.cases with hs | ⟨m', rfl, hs⟩
      · exact h.counts hn hS hg hz (hs w h.ok2).2 (by omega)
      · obtain ⟨g', w', es, h1, ⟨h2, h2'⟩, h3⟩ := hs w h.ok2
        exact h.walks (z' := .de m') hn hS hg h1 h2 h3 (by rw [hz]; rfl) (by rw [hz]; exact Iff.rfl) (by rw [hz]; exact Iff.rfl) (by rw [hz]; rfl) (by rw [hz]; rfl) (fun _ => by rw [hz]; trivial) (.inl h2') hdf (fun k => by rw [hz]; exact Iff.rfl) (fun q e => e) (fun _ _ _ e => by cases e) (by rw [hz]; exact .walk (Nat.lt_succ_self _))
    | lo m =>
      rw [hz] at st0 hdf
      have st1 : Walk3 P c tW tT S.Lod m g w := st0
      rcases st1.cases with hs | ⟨m', rfl, hs⟩
      · exact h.looks hn hS hg hz (hs w h.ok2).2
      · obtain ⟨g', w', es, h1, ⟨h2, h2'⟩, h3⟩ := hs w h.ok2
        exact h.walks (z' := .lo m') hn hS hg h1 h2 h3 (by rw [hz]; rfl) (by rw [hz]; exact Iff.rfl) (by rw [hz]; exact Iff.rfl) (by rw [hz]; rfl) (by rw [hz]; rfl) (fun _ => by rw [hz]; trivial) (.inl h2') hdf (fun k => by rw [hz]; exact Iff.rfl) (fun q e => e) (fun _ _ _ e => by cases e) (by rw [hz]; exact .walk (Nat.lt_succ_self _))
    | ze m =>
      rw [hz] at st0 hdf
      have st1 : Walk3 P c tW tT S.Zer m g w := st0
      rcases st1.cases with hs | ⟨m', rfl, hs⟩
      · exact h.clears hn hS hg hz (hs w h.ok2).2
      · obtain ⟨g', w', es, h1, ⟨h2, h2'⟩, h3⟩ := hs w h.ok2
        exact h.walks (z' := .ze m') hn hS hg h1 h2 h3 (by rw [hz]; rfl) (by rw [hz]; exact Iff.rfl) (by rw [hz]; exact Iff.rfl) (by rw [hz]; rfl) (by rw [hz]; rfl) (fun _ => by rw [hz]; trivial) (.inl h2') hdf (fun k => by rw [hz]; exact Iff.rfl) (fun q e => e) (fun _ _ _ e => by cases e) (by rw [hz]; exact .walk (Nat.lt_succ_self _))
    | se m =>
      rw [hz] at st0 hdf
      have st1 : Walk3 P c tW tT S.Sem m g w := st0
      rcases st1.cases with hs | ⟨m', rfl, hs⟩
      · exact h.frees hn hS hg hz (hs w h.ok2).2
      · obtain ⟨g', w', es, h1, ⟨h2, h2'⟩, h3⟩ := hs w h.ok2
        exact h.walks (z' := .se m') hn hS hg h1 h2 h3 (by rw [hz]; rfl) (by rw [hz]; exact Iff.rfl) (by rw [hz]; exact Iff.rfl) (by rw [hz]; rfl) (by rw [hz]; rfl) (fun _ => by rw [hz]; trivial) (.inl h2') hdf (fun k => by rw [hz]; exact Iff.rfl) (fun q e => e) (fun _ _ _ e => by cases e) (by rw [hz]; exact .walk (Nat.lt_succ_self _))
/-- Goroutine 0 where it runs moves, but where it takes note of all. -/
theorem Pool2.moves0 (h : Pool2 S Sn gs w t z0 zs ct fnd blk) (hn : SnOk c Sn) (hg : gs[0]? = some g) (hr : g.status = .running) : Moves2 S Sn gs w t z0 zs ct 0 ∨ (S.Acq g ∧ ∃ m, z0 = .ac m) := by
  obtain ⟨a, hg0, st0⟩ := h.a0
  rw [hg] at hg0
  cases hg0
  cases z0 with
  | jn m => exact st0.elim
  | w3b =>
    obtain ⟨g', _, rfl⟩ := st0
    cases hr
  | sp j m =>
    rcases st0.2.cases with hs | ⟨m', rfl, hs⟩
    · exact .inl (h.spawns hg rfl (hs w h.ok2).2)
    · obtain ⟨g', w', es, h1, h2, h3⟩ := hs w h.ok2
      exact .inl (h.walks0 hn hg (.sp j m') h1 h2 h3)
  | wd m =>
    have st1 : Walk2 P c tW tT true S.WtD m g w := st0
    rcases st1.cases with hs | ⟨m', rfl, hs⟩
    · exact .inl (h.waits hn hg rfl (hs w h.ok2).2)
    · obtain ⟨g', w', es, h1, h2, h3⟩ := hs w h.ok2
      exact .inl (h.walks0 hn hg (.wd m') h1 h2 h3)
  | w1 m =>
    have st1 : Walk2 P c tW tT true S.W1 m g w := st0
    rcases st1.cases with hs | ⟨m', rfl, hs⟩
    · exact .inl (h.reads1 hn hg rfl (hs w h.ok2).2)
    · obtain ⟨g', w', es, h1, h2, h3⟩ := hs w h.ok2
      exact .inl (h.walks0 hn hg (.w1 m') h1 h2 h3)
  | w2 v m =>
    rcases st0.2.2.cases with hs | ⟨m', rfl, hs⟩
    · exact .inl (h.joins hn hg rfl (hs w h.ok2).2)
    · obtain ⟨g', w', es, h1, h2, h3⟩ := hs w h.ok2
      exact .inl (h.walks0 hn hg (.w2 v m') h1 h2 h3)
  | sa m =>
    have st1 : Walk2 P c tW tT true S.Sai m g w := st0
    rcases st1.cases with hs | ⟨m', rfl, hs⟩
    · exact .inl (h.says hn hg rfl (hs w h.ok2).2)
    · obtain ⟨g', w', es, h1, h2, h3⟩ := hs w h.ok2
      exact .inl (h.walks0 hn hg (.sa m') h1 h2 h3)
  | w3 m =>
    have st1 : Walk2 P c tW tT true S.W3 m g w := st0
    rcases st1.cases with hs | ⟨m', rfl, hs⟩
    · exact .inl (h.sleeps hn hg rfl (hs w h.ok2).2)
    · obtain ⟨g', w', es, h1, h2, h3⟩ := hs w h.ok2
      exact .inl (h.walks0 hn hg (.w3 m') h1 h2 h3)
  | w4 m =>
    have st1 : Walk2 P c tW tT true S.W4 m g w := st0
    rcases st1.cases with hs | ⟨m', rfl, hs⟩
    · exact .inl (h.reads4 hn hg rfl (hs w h.ok2).2)
    · obtain ⟨g', w', es, h1, h2, h3⟩ := hs w h.ok2
      exact .inl (h.walks0 hn hg (.w4 m') h1 h2 h3)
  | ke m =>
    have st1 : Walk2 P c tW tT true S.Ke m g w := st0
    rcases st1.cases with hs | ⟨m', rfl, hs⟩
    · exact .inl (h.hears hn hg rfl (hs w h.ok2).2)
    · obtain ⟨g', w', es, h1, h2, h3⟩ := hs w h.ok2
      exact .inl (h.walks0 hn hg (.ke m') h1 h2 h3)
  | ac m =>
    have st1 : Walk2 P c tW tT true S.Acq m g w := st0
    rcases st1.cases with hs | ⟨m', rfl, hs⟩
    · exact .inr ⟨(hs w h.ok2).2, m, rfl⟩
    · obtain ⟨g', w', es, h1, h2, h3⟩ := hs w h.ok2
      exact .inl (h.walks0 hn hg (.ac m') h1 h2 h3)
end
end Go.Proofs.Ytpdemelchhkfaaa.Cs

/-
  The other pool's two ends: how it begins; what goroutine 0 has where it has heard of all.
-/
namespace Go.Proofs.Ytpdemelchhkfaaa.Cs
open Go.Conc
open Go.ConcN (sumTo sumTo_congr)
open Go.ConcR (KK WgAt wgBlock stA smA rd wr)
theorem runNT_snoc {P : Program} {m1 m2 : Machine} {t1 : Trace} {ops : Array MemOp} : ∀ {N : Nat} {m : Machine} {t : Trace}, runNT P N m t = (.next m1, t1) → stepT P m1 = (.next m2, ops) → runNT P (N + 1) m t = (.next m2, t1 ++ ops)
  | 0, m, t, h, hs => by
    cases h
    simp only [runNT, hs]
  | N + 1, m, t, h, hs => by
    unfold runNT at h ⊢
    split at h
    · rename_i m' o e
      exact runNT_snoc h hs
    · rename_i e o hne e'
      cases h
      exact (hne m1 rfl).elim
variable [Fns]
section
variable {P : Program} {c : Cst} {tW tT : TypeId} {F : Nat → Value} {Sn : Nat → Prop} {S : Scr2 P c tW tT F}
variable {gs gs' : Array Goroutine} {w w' : World} {t t' : Trace} {z0 z0' : Y0} {zs : Nat → YW P} {ct ct' i : Nat} {fnd fnd' blk blk' : Nat → Option Nat} {g g' : Goroutine} {z' : YW P} {es : Array Event} {q : Nat → Nat}
/-- What the pool comes to. -/
def Heard (S : Scr2 P c tW tT F) (Sn : Nat → Prop) (m : Machine) (t : Trace) : Prop :=
  ∃ gs w sl q g, m = crowd gs w sl ∧ gs.size = c.S0 + c.n ∧ gs[0]? = some g ∧ On P c tW tT true S.JnP g ∧ Qs P Sn gs t q 0 w.heap.size ∧ Ok2 c tW tT w ∧ WgAt tW c.C2 w 0 0 ∧ ∀ k, k < c.K → w.cell? ⟨c.Fd, k, none⟩ = some (F k)
/-- It takes note of all. -/
theorem Pool2.ends (h : Pool2 S Sn gs w t z0 zs ct fnd blk) (hg : gs[0]? = some g) {m : Nat} (hz : z0 = .ac m) (hT : S.Acq g) (sl : Option (Nat × Nat)) : ∃ m' ops, runT P (crowd gs w sl) 0 = (.next m', ops) ∧ Heard S Sn m' (t ++ ops) := by
  subst hz
  have hs1 := S.s1
  have hn1 := S.n1
  obtain ⟨_, g', hst, hon⟩ := S.acq g hT
  have hr := runT_crowd_go (P := P) (sl := sl) (i := 0) hg (show stepG P (0 == 0) g w = _ from hst w h.ok2)
  have hq : (gs.map (woken P g g' w)).setIfInBounds 0 g' = gs.setIfInBounds 0 g' := map_set_same fun j x hj hx => h.quiet j x (by omega) hx
  rw [hq] at hr
  have hsz : gs.size = c.S0 + c.n := h.sz
  have hend : NoCl c zs gs.size ∧ lft c (.ac m) zs gs.size = 0 ∧ WgAt tW c.C2 w 0 0 := by
    cases hwg : h.wg with
    | run _ hp _ _ => exact absurd trivial hp
    | cls j _ _ _ _ hr _ _ => cases hr
    | rls _ _ hr _ _ => cases hr
    | pst hnc hl _ hw0 => exact ⟨hnc, hl, hw0⟩
  obtain ⟨hnc, hl, hw0⟩ := hend
  have hall : ∀ i, c.S0 ≤ i → i < gs.size → ∃ q, zs i = .lv q := fun i h1 h2 => all_lv hnc hl h1 h2
  have hlv : ∀ i, 1 ≤ i → i < gs.size → ∃ q, zs i = .lv q := fun i h1 h2 => by
    rcases Nat.lt_or_ge i c.S0 with h3 | h3
    · exact h.old i h1 h3
    · exact hall i h3 h2
  have he : MemOp.ofEvents 0 g.frame.fn g.frame.place #[Go.ConcR.mk (.acquire (stA c.C2))] = #[{ g := 0, fn := g.frame.fn, pos := g.frame.place, act := .mark (.acquire (stA c.C2)) }] := by simp [MemOp.ofEvents, Go.ConcR.mk, MemAct.ofEvent]
  obtain ⟨tr, kn⟩ := h.tr.acq (y := { g := 0, fn := g.frame.fn, pos := g.frame.place, act := .mark (.acquire (stA c.C2)) }) ⟨rfl, rfl⟩ h.df0 (fun i h1 h2 => by obtain ⟨q, e⟩ := hall i h1 h2; rw [e]; trivial)
  let q : Nat → Nat := fun i => match zs i with
    | .lv q => q
    | _ => 0
  have lv : Leavers P t gs q := by
    refine ⟨fun i x h1 h2 => ?_, h.dfA⟩
    obtain ⟨q', e⟩ := hlv i h1 (idx_lt h2)
    have hw := h.wk i x h1 h2
    rw [e] at hw
    show QuitsD P (match zs i with | .lv q => q | _ => 0) (Deaf t i) x
    rw [e]
    exact hw
  have lv2 := leavers_own lv h.pos (g' := g') g.frame.fn g.frame.place #[Go.ConcR.mk (.acquire (stA c.C2))]
  have d0 : Deaf (t ++ MemOp.ofEvents 0 g.frame.fn g.frame.place #[Go.ConcR.mk (.acquire (stA c.C2))]) 0 = 0 := by rw [Deaf_own, h.df0]; rfl
  have htk : took c ct = c.K := by
    have h1 : c.S0 < gs.size := by omega
    obtain ⟨q, e⟩ := hall c.S0 (Nat.le_refl _) h1
    have := h.ovr.2 c.S0 (Nat.le_refl _) h1 (by rw [e]; rfl)
    unfold took
    omega
  refine ⟨_, _, hr, gs.setIfInBounds 0 g', w, sl, q, g', rfl, by simpa using hsz, Array.getElem?_setIfInBounds_self_of_lt h.pos, hon, ?_, h.ok2, hw0, fun k hk => ?_⟩
  · rw [he] at lv2 d0 ⊢
    exact ⟨lv2, tr.ti.clean, d0, kn, tr.ti.shn, tr.low, tr.nor⟩
  · obtain ⟨i, h1, h2, h3⟩ := h.mem.jb1 k (by omega)
    obtain ⟨q, e⟩ := hall i h1 h2
    exact h.mem.jb3 k i h3 (by rw [e]; exact fun e => e)
/-- On whatever tape the pool comes to its end. -/
theorem Pool2.runs (hG : P.globals.size ≤ Fns.G) (hC : FnsCode P) (h : Pool2 S Sn gs w t z0 zs ct fnd blk) (hn : SnOk c Sn) (sl : Option (Nat × Nat)) : ∃ N m' t', runNT P N (crowd gs w sl) t = (.next m', t') ∧ Heard S Sn m' t' := by
  obtain ⟨N, m1, t1, h1, m2, ops, h2, h3⟩ := reach_of_inv (P := P) (me2_wf P) (fun μ m t => ∃ gs w sl z0 zs ct fnd blk, m = crowd gs w sl ∧ Pool2 S Sn gs w t z0 zs ct fnd blk ∧ μ = me2 c z0 zs gs.size ct) (fun m t => ∃ m' ops, stepT P m = (.next m', ops) ∧ Heard S Sn m' (t ++ ops)) (fun μ m t hI => by
    obtain ⟨gs, w, sl, z0, zs, ct, fnd, blk, rfl, h, rfl⟩ := hI
    obtain ⟨i, g, d, sl', hi, hr, hst⟩ := crowd_pick (P := P) (w := w) (sl := sl) h.awake h.alive
    have h' := h.ofAt d
    have mv : Moves2 S Sn gs (w.at d) t z0 zs ct i ∨ (i = 0 ∧ S.Acq g ∧ ∃ m, z0 = .ac m) := by
      rcases Nat.eq_zero_or_pos i with rfl | hp
      · rcases h'.moves0 hn hi hr with h1 | h1
        · exact .inl h1
        · exact .inr ⟨rfl, h1⟩
      · exact .inl (h'.movesW hG hC hn hp hi hr)
    rcases mv with hm | ⟨rfl, ha, m, hz⟩
    · obtain ⟨gs', w', ops, z0', zs', ct', fnd', blk', k1, k2, k3⟩ := hm sl'
      exact .inr ⟨_, ops, _, hst.trans k1, k3, gs', w', sl', z0', zs', ct', fnd', blk', rfl, k2, rfl⟩
    · obtain ⟨m', ops, k1, k2⟩ := h'.ends hi hz ha sl'
      exact .inl ⟨m', ops, hst.trans k1, k2⟩) (me2 c z0 zs gs.size ct) _ t ⟨gs, w, sl, z0, zs, ct, fnd, blk, rfl, h, rfl⟩
  exact ⟨N + 1, m2, t1 ++ ops, runNT_snoc h1 h2, h3⟩
/-- It begins so. -/
theorem Pool2.starts (S : Scr2 P c tW tT F) (h1 : c.S0 = gs.size) (h0 : gs[0]? = some g) (hq : Qs P Sn gs t q 0 w.heap.size) {m : Nat} (hw : Walk2 P c tW tT true (S.GoP 0) m g w) (ok : c.Ok w) (c1 : TkAt c tT w 0) (c2 : WgAt tW c.C2 w ((c.n : Int) * KK) 0)
    (fd : ∀ j a ad, touchAt t j = some a → a.loc = .cell ad → ad.block ≠ c.Fd) :
    Pool2 S Sn gs w t (.sp 0 m) (fun i => .lv (q i)) 0 (fun _ => none) (fun _ => none) := by
  have hno : ∀ i : Nat, c.S0 ≤ i → i < gs.size → False := fun i a b => by omega
  have hn1 := S.n1
  have zero : ∀ f : Nat → YW P → Nat, (∀ i z, i < c.S0 → f i z = 0) → sumTo gs.size (fun i => f i (YW.lv (q i))) = 0 := fun f hf => by
    have : ∀ n, n ≤ gs.size → sumTo n (fun i => f i (YW.lv (q i))) = 0 := fun n => by
      induction n with
      | zero => intro _; rfl
      | succ n ih =>
        intro hn
        show sumTo n _ + f n _ = 0
        rw [ih (by omega), hf _ _ (by omega)]
    exact this _ (Nat.le_refl _)
  have hlf : lft c (.sp 0 m) (fun i => (YW.lv (q i) : YW P)) gs.size = c.n := by
    unfold lft
    rw [zero (befF c) (fun i z hi => by unfold befF; rw [if_pos hi])]
    show c.n - 0 + 0 = c.n
    omega
  refine ⟨by rw [h1]; rfl, ⟨g, h0, by omega, hw⟩, fun i x a b => hq.lv.old i x a b, fun i a b => ⟨q i, rfl⟩, hq.df, fun i a b => (hno i a b).elim, hq.lv.above, ?_, ⟨Nat.zero_le _, fun i a b => (hno i a b).elim⟩, fun i k E s a b => (hno i a b).elim, ?_, ?_⟩
  · refine .run (fun i a b => (hno i a b).elim) (fun e => e) ⟨(fun e => by cases e), fun u m e => by cases e⟩ ?_
    rw [hlf]
    have e : ((c.n : Int) * KK + (reg (.sp 0 m) : Int)) = (c.n : Int) * KK := by show _ + (0 : Int) = _; omega
    rw [e]
    exact c2
  · exact ⟨ok, c1, fun _ _ => rfl, (fun k hk => by unfold took at hk; omega), fun i _ a b => (hno i a b).elim, (fun _ _ e => by cases e), fun i _ a b => (hno i a b).elim, (fun _ _ e => by cases e)⟩
  · refine ⟨⟨hq.clean, fun l g hl => ?_, fun l _ hs g hg i a ha hl _ => ?_, hq.sn⟩, hq.low, fun j a ad ha e1 e2 => absurd e2 (fd j a ad ha e1), fun j x a hx ha hs => .inl (hq.kn j x a hx ha hs), hq.nor⟩
    · cases l <;> simp [ownOf] at hl
    · rcases hg with rfl | ⟨a1, a2⟩
      · obtain ⟨x, hx, hxa⟩ := touch_of ha
        exact hq.kn i x a hx hxa (.inl (by rw [hl]; exact hs))
      · exact (hno _ a1 a2).elim
/-- From the first 'go' to where goroutine 0 has heard of all. -/
theorem pool2_runs (hG : P.globals.size ≤ Fns.G) (hC : FnsCode P) (S : Scr2 P c tW tT F) (hn : SnOk c Sn) (h1 : c.S0 = gs.size) (h0 : gs[0]? = some g) (hq : Qs P Sn gs t q 0 w.heap.size) {m : Nat} (hw : Walk2 P c tW tT true (S.GoP 0) m g w) (ok : c.Ok w) (c1 : TkAt c tT w 0) (c2 : WgAt tW c.C2 w ((c.n : Int) * KK) 0)
    (fd : ∀ j a ad, touchAt t j = some a → a.loc = .cell ad → ad.block ≠ c.Fd) (sl : Option (Nat × Nat)) :
    ∃ N gs' w' sl' t' q' g', runNT P N (crowd gs w sl) t = (.next (crowd gs' w' sl'), t') ∧ gs'.size = c.S0 + c.n ∧ gs'[0]? = some g' ∧ On P c tW tT true S.JnP g' ∧ Qs P Sn gs' t' q' 0 w'.heap.size ∧ Ok2 c tW tT w' ∧ WgAt tW c.C2 w' 0 0 ∧ ∀ k, k < c.K → w'.cell? ⟨c.Fd, k, none⟩ = some (F k) := by
  obtain ⟨N, m', t', k1, gs', w', sl', q', g', rfl, k2⟩ := (Pool2.starts S h1 h0 hq hw ok c1 c2 fd).runs hG hC hn sl
  exact ⟨N, gs', w', sl', t', q', g', k1, k2⟩
end
end Go.Proofs.Ytpdemelchhkfaaa.Cs
