/-
  The pool: goroutine 0 closes; any step; the whole run, from the first 'go' to behind the last receive.
-/
import Derived.Test.YtpdemelchhkfaaaJn12
namespace Go.Proofs.Ytpdemelchhkfaaa.Cs
open Go.Conc
open Go.ConcN (sumTo sumTo_congr)
variable [Fns]
section
variable {P : Program} {c : Cst} {Post : Nat → Value → World → Prop} {S : Scr P c Post}
variable {z0 z0' : Z0} {zs : Nat → ZW P} {n i : Nat}
variable {gs : Array Goroutine} {w w' : World} {t : Trace} {fnd : Nat → Option Nat} {RS RS' : Nat → Nat → Prop} {blk blk' : Nat → Option Nat} {g g' g2 : Goroutine} {es : Array Event}
def awk : ZW P → ZW P
  | .wt => .aw
  | z => z
theorem Pool.closes (h : Pool S gs w t z0 zs fnd RS blk) (hg : gs[0]? = some g) {m : Nat} (hz : z0 = .cl m) (hst : S.ClP g) : Moves S gs w t z0 zs 0 := fun sl => by
  subst hz
  have hd := S.d1
  obtain ⟨_, hmw, g', h1, h2, h3⟩ := S.clp g hst
  have hstep := h1 w _ _ h.c1
  have hr := runT_crowd_go (P := P) (sl := sl) (i := 0) hg (show stepG P (0 == 0) g w = _ from hstep)
  generalize hw' : ({ w with heap := w.heap.setIfInBounds c.C1 (.chan 0 #[] true (sent c (.cl m)) (sent c (.cl m)) false) } : World) = w' at hr
  have hat : w'.heap[c.C1]? = some (.chan 0 #[] true c.K c.K false) := by rw [← hw']; exact setChan_at (w := w) h.c1
  have hne : ∀ q, q ≠ c.C1 → w'.heap[q]? = w.heap[q]? := fun q hq => by rw [← hw']; exact setChan_ne (w := w) hq
  have hsize : w'.heap.size = w.heap.size := by rw [← hw']; exact setChan_size (w := w)
  have hc2 : w'.heap[c.C2]? = some (.chan 0 #[] false 0 0 false) := (hne _ (fun e => hd.2.2.2.1 e.symm)).trans h.c2
  have hh : ∀ z : ZW P, (∀ k, holds (awk z) k ↔ holds z k) ∧ (∀ q, inUse (awk z) q → inUse z q) ∧ (∀ k v m, awk z = .po k v m → z = .po k v m) ∧ awk z ≠ .wt ∧ lvN (awk z) = lvN z ∧ pW (awk z) ≤ pW z ∧ (¬ isLv z → ¬ isLv (awk z)) ∧ (∀ k E s, awk z = .ca k E s → z = .ca k E s) ∧ (z ≠ .wt → awk z = z) ∧ ((∃ q, z = .lv q) → ∃ q, awk z = .lv q) := fun z => by
    cases z with
    | wt => exact ⟨(fun _ => Iff.rfl), (fun _ e => e), (fun _ _ _ e => by cases e), (fun e => by cases e), rfl, (show 3 ≤ 4 by omega), (fun e => e), (fun _ _ _ e => by cases e), (fun e => absurd rfl e), (fun ⟨_, e⟩ => by cases e)⟩
    | _ => exact ⟨(fun _ => Iff.rfl), (fun _ e => e), (fun _ _ _ e => e), (fun e => by cases e), rfl, (Nat.le_refl _), (fun e => e), (fun _ _ _ e => e), (fun _ => rfl), (fun e => e)⟩
  have mem : Mem P c Post (fun i => awk (zs i)) gs.size c.K fnd RS blk w' := h.mem.turn (fun q hq _ => hne q hq) ⟨hsize, by rw [← hw'], by rw [← hw']⟩ S.chans (fun i k _ _ => (hh (zs i)).1 k) (fun i q _ _ => (hh (zs i)).2.1 q) (fun i k v m _ _ e => ⟨m, (hh (zs i)).2.2.1 k v m e⟩)
  obtain ⟨m0, hw0⟩ := h3 w' mem.ok
  have e0 : (fun g => if 0 < c.n then S.RcvP 0 g else S.JnP g) = S.RcvP 0 := funext fun g => if_pos S.n1
  have hsz : ((gs.map (woken P g g' w')).setIfInBounds 0 g').size = gs.size := by simp
  refine ⟨_, _, _, .rc 0 m0, fun i => awk (zs i), fnd, RS, blk, hr, ⟨by rw [hsz]; exact h.sz, ⟨g', Array.getElem?_setIfInBounds_self_of_lt (by simpa using h.pos), Nat.zero_le _, by rw [e0]; exact hw0⟩, fun j x g1 g2 => ?_, fun j g1 g2 => (hh (zs j)).2.2.2.2.2.2.2.2.2 (h.old j g1 g2), hat, hc2, fun _ j _ _ => (hh (zs j)).2.2.2.1, (fun e => by cases e), (fun ⟨_, e⟩ => by cases e), (fun ⟨_, e⟩ => by cases e), ?_, fun j k E s g1 g2 g3 => h.shr j k E s g1 (hsz ▸ g2) ((hh (zs j)).2.2.2.2.2.2.2.1 k E s g3), by rw [hsz]; exact mem, ?_⟩, ?_⟩
  · rw [Array.getElem?_setIfInBounds_ne (by omega), Array.getElem?_map] at g2
    obtain ⟨y, hy, rfl⟩ := Option.map_eq_some_iff.1 g2
    by_cases e : zs j = .wt
    · have hs := h.wk j y g1 hy
      rw [e] at hs
      obtain ⟨g1', hrec, rfl⟩ := hs
      show StW S (awk (zs j)) _ w'
      rw [e]
      refine ⟨g1', hrec, ?_⟩
      unfold woken
      rw [if_pos (by rw [hmw, h2]; rfl)]
      exact again_recv_closed hat
    · show StW S (awk (zs j)) _ w'
      rw [(hh (zs j)).2.2.2.2.2.2.2.2.1 e, (h.wk j y g1 hy).woken h.mem.ok (fun e' => absurd e' e) ⟨_, _, hc2⟩]
      exact h.keep mem.ok (i := 0) (fun j q a1 a2 _ a3 => hne q (by have := (h.mem.us1 j q a1 a2 a3).1; omega)) j y g1 (by omega) hy
  · rw [hsz]
    have k1 : sumTo gs.size (fun i => lvF c i (awk (zs i))) = sumTo gs.size (fun i => lvF c i (zs i)) := sumTo_congr fun i _ => by unfold lvF; rw [(hh (zs i)).2.2.2.2.1]
    rw [k1]
    exact h.cnt
  · rw [hsz, hsize]
    have key : ∀ op ∈ MemOp.ofEvents 0 g.frame.fn g.frame.place #[⟨.obj c.C1, false, true⟩, ⟨.obj c.C1, true, true⟩], op.g = 0 ∧ (op.act = .access ⟨.obj c.C1, false, true⟩ ∨ op.act = .close c.C1) := fun op hop => by
      obtain ⟨e, he, rfl⟩ := Conc.mem_ofEvents hop
      simp at he
      rcases he with rfl | rfl
      · exact ⟨rfl, .inl rfl⟩
      · exact ⟨rfl, .inr rfl⟩
    refine h.tr.own (.inl rfl) (fun op hop => ⟨(key op hop).1, fun b hb => ?_⟩) (fun op hop m hm => ?_) (Nat.le_refl _) (fun op hop b hb => ?_) (fun op hop b ad hb hl _ => ?_) (fun j => (hh (zs j)).2.2.2.2.2.2.1) (fun e => absurd rfl e)
    · rcases (key op hop).2 with e | e <;> rw [e] at hb <;> cases hb
      exact .inr ⟨by simp only [ownOf, if_pos hd.1], rfl⟩
    · rcases (key op hop).2 with e | e <;> rw [e] at hm <;> cases hm
    · rcases (key op hop).2 with e | e <;> rw [e] at hb <;> cases hb
      exact Nat.lt_of_lt_of_le hd.1 h.mem.ok.big
    · rcases (key op hop).2 with e | e <;> rw [e] at hb <;> cases hb
      cases hl
  · rw [hsz]
    refine Prod.Lex.left _ _ ?_
    have := sumTo_mono (fun i => (hh (zs i)).2.2.2.2.2.1) gs.size
    simp only [p0]
    omega
omit [Fns] in
theorem lv_all {zs : Nat → ZW P} {S0 : Nat} : ∀ n, (∀ j, j < n → lvN (zs (S0 + j)) = 1) → sumTo (S0 + n) (fun i => if i < S0 then 0 else lvN (zs i)) = n
  | 0, _ => by
    have : ∀ k, k ≤ S0 → sumTo k (fun i => if i < S0 then 0 else lvN (zs i)) = 0 := fun k => by
      induction k with
      | zero => intro _; rfl
      | succ k ih =>
        intro hk
        show sumTo k _ + (if k < S0 then 0 else _) = 0
        rw [ih (by omega), if_pos (by omega)]
    exact this S0 (Nat.le_refl _)
  | n + 1, h => by
    show sumTo (S0 + n) _ + (if S0 + n < S0 then 0 else lvN (zs (S0 + n))) = n + 1
    rw [lv_all n (fun j hj => h j (by omega)), if_neg (by omega), h n (by omega)]
omit [Fns] in
theorem lv_le {zs : Nat → ZW P} {S0 : Nat} : ∀ n, sumTo (S0 + n) (fun i => if i < S0 then 0 else lvN (zs i)) ≤ n
  | 0 => by
    have : ∀ k, k ≤ S0 → sumTo k (fun i => if i < S0 then 0 else lvN (zs i)) = 0 := fun k => by
      induction k with
      | zero => intro _; rfl
      | succ k ih =>
        intro hk
        show sumTo k _ + (if k < S0 then 0 else _) = 0
        rw [ih (by omega), if_pos (by omega)]
    exact Nat.le_of_eq (this S0 (Nat.le_refl _))
  | n + 1 => by
    show sumTo (S0 + n) _ + (if S0 + n < S0 then 0 else lvN (zs (S0 + n))) ≤ n + 1
    have := lv_le (zs := zs) (S0 := S0) n
    rw [if_neg (by omega)]
    have : lvN (zs (S0 + n)) ≤ 1 := by cases zs (S0 + n) <;> first | exact Nat.zero_le _ | exact Nat.le_refl _
    omega
omit [Fns] in
theorem lv_each {zs : Nat → ZW P} {S0 : Nat} : ∀ n, sumTo (S0 + n) (fun i => if i < S0 then 0 else lvN (zs i)) = n → ∀ j, j < n → lvN (zs (S0 + j)) = 1
  | 0, _ => fun j hj => by omega
  | n + 1, h => fun j hj => by
    have h1 : sumTo (S0 + n) (fun i => if i < S0 then 0 else lvN (zs i)) + (if S0 + n < S0 then 0 else lvN (zs (S0 + n))) = n + 1 := h
    rw [if_neg (by omega)] at h1
    have h2 := lv_le (zs := zs) (S0 := S0) n
    have h3 : lvN (zs (S0 + n)) ≤ 1 := by cases zs (S0 + n) <;> first | exact Nat.zero_le _ | exact Nat.le_refl _
    rcases Nat.lt_or_ge j n with h4 | h4
    · exact lv_each n (by omega) j h4
    · obtain rfl : j = n := by omega
      omega
/-- Some goroutine can run. -/
theorem Pool.alive (h : Pool S gs w t z0 zs fnd RS blk) : ∃ (i : Nat) (g : Goroutine), gs[i]? = some g ∧ g.status = .running := by
  obtain ⟨a, hg0, st0⟩ := h.a0
  have hn1 := S.n1
  have hs1 := S.s1
  rcases st0.status h.mem.ok with hr | ⟨_, ⟨k, rfl⟩ | ⟨r, rfl⟩⟩
  · exact ⟨0, a, hg0, hr⟩
  · have hsz : gs.size = c.S0 + c.n := h.sz
    have hlt : c.S0 < gs.size := by omega
    refine ⟨c.S0, gs[c.S0], Array.getElem?_eq_getElem hlt, ?_⟩
    have he := h.ph2 rfl c.S0 (Nat.le_refl _) hlt
    rcases (h.wk c.S0 _ (by omega) (Array.getElem?_eq_getElem hlt)).status h.mem.ok with h1 | ⟨_, h1 | h1⟩ | ⟨_, q, h1⟩
    · exact h1
    · exact absurd h1 (h.nw1 ⟨k, rfl⟩ c.S0 (by omega) hlt)
    · rw [h1] at he; exact he.elim
    · rw [h1] at he; exact he.elim
  · have hsz : gs.size = c.S0 + c.n := h.sz
    have hrn : r < c.n := st0.1
    have hex : ∃ j, j < c.n ∧ lvN (zs (c.S0 + j)) ≠ 1 := by
      apply Classical.byContradiction
      intro hno
      have : sumTo gs.size (fun i => lvF c i (zs i)) = c.n := by
        rw [hsz]
        exact lv_all c.n fun j hj => Classical.byContradiction fun e => hno ⟨j, hj, e⟩
      rw [h.cnt] at this
      have this : r = c.n := this
      omega
    obtain ⟨j, hj, hl⟩ := hex
    have hlt : c.S0 + j < gs.size := by omega
    refine ⟨c.S0 + j, gs[c.S0 + j], Array.getElem?_eq_getElem hlt, ?_⟩
    rcases (h.wk (c.S0 + j) _ (by omega) (Array.getElem?_eq_getElem hlt)).status h.mem.ok with h1 | ⟨_, h1 | h1⟩ | ⟨_, q, h1⟩
    · exact h1
    · exact absurd h1 (h.ph1 rfl _ (by omega) hlt)
    · exact absurd h1 (h.nw2 ⟨r, rfl⟩ _ (by omega) hlt)
    · rw [h1] at hl; exact absurd rfl hl
/-- Whoever runs moves, but for goroutine 0 behind its last receive. -/
theorem Pool.moves (hG : P.globals.size ≤ Fns.G) (hC : FnsCode P) (h : Pool S gs w t z0 zs fnd RS blk) (hg : gs[i]? = some g) (hr : g.status = .running) : Moves S gs w t z0 zs i ∨ (i = 0 ∧ S.JnP g ∧ ∃ m, z0 = .rc c.n m) := by
  rcases Nat.eq_zero_or_pos i with rfl | hi
  · obtain ⟨a, hg0, st0⟩ := h.a0
    rw [hg] at hg0
    cases hg0
    cases z0 with
    | sp j m =>
      rcases st0.2.cases with hs | ⟨m', rfl, hs⟩
      · exact .inl (h.spawns hg rfl (hs w h.mem.ok).2)
      · obtain ⟨g', w', es, h1, h2, h3⟩ := hs w h.mem.ok
        exact .inl (h.walks0 hg (.sp j m') h1 h2 h3)
    | sd k m =>
      rcases st0.2.cases with hs | ⟨m', rfl, hs⟩
      · exact .inl (h.sends0 hg rfl (hs w h.mem.ok).2)
      · obtain ⟨g', w', es, h1, h2, h3⟩ := hs w h.mem.ok
        exact .inl (h.walks0 hg (.sd k m') h1 h2 h3)
    | sdW k =>
      obtain ⟨_, g', _, rfl⟩ := st0
      cases hr
    | cl m =>
      have st1 : Walk P c true S.ClP m g w := st0
      rcases st1.cases with hs | ⟨m', rfl, hs⟩
      · exact .inl (h.closes hg rfl (hs w h.mem.ok).2)
      · obtain ⟨g', w', es, h1, h2, h3⟩ := hs w h.mem.ok
        exact .inl (h.walks0 hg (.cl m') h1 h2 h3)
    | rc r m =>
      rcases st0.2.cases with hs | ⟨m', rfl, hs⟩
      · have hst := (hs w h.mem.ok).2
        by_cases hrn : r < c.n
        · simp only [if_pos hrn] at hst
          exact .inl (h.recvs0 hg rfl hrn hst)
        · simp only [if_neg hrn] at hst
          have : r ≤ c.n := st0.1
          obtain rfl : r = c.n := by omega
          exact .inr ⟨rfl, hst, m, rfl⟩
      · obtain ⟨g', w', es, h1, h2, h3⟩ := hs w h.mem.ok
        exact .inl (h.walks0 hg (.rc r m') h1 h2 h3)
    | rcW r =>
      obtain ⟨_, g', _, rfl⟩ := st0
      cases hr
  · left
    have his := idx_lt hg
    rcases Nat.lt_or_ge i c.S0 with hlo | hS
    · obtain ⟨q, hq⟩ := h.old i hi hlo
      exact h.leaves hi hg hr hq
    · have st0 := h.wk i g hi hg
      cases hz : zs i with
      | st m =>
        rw [hz] at st0
        have st1 : Walk P c false S.Rec m g w := st0
        rcases st1.cases with hs | ⟨m', rfl, hs⟩
        · have hrec := (hs w h.mem.ok).2
          exact h.asks hS hg ((S.rec_s g hrec).2 w) hrec (.inl ⟨m, hz⟩)
        · obtain ⟨g', w', es, h1, h2, h3⟩ := hs w h.mem.ok
          exact h.walks hS hg hz (.st m') h1 h2 h3
      | wt =>
        rw [hz] at st0
        obtain ⟨g', _, rfl⟩ := st0
        cases hr
      | aw =>
        rw [hz] at st0
        obtain ⟨g', hrec, rfl⟩ := st0
        obtain ⟨⟨fr, cs, rfl⟩, hcm⟩ := S.rec_s g' hrec
        exact h.asks hS hg (by rw [stepG_tries]; exact hcm w) hrec (.inr hz)
      | pr k m =>
        have st0' := st0
        rw [hz] at st0'
        rcases st0'.2.cases with hs | ⟨m', rfl, hs⟩
        · have hk : k < c.K := st0'.1
          obtain ⟨cal, rest, rfl, hcont⟩ := S.cal k g (hs w h.mem.ok).2 hk
          obtain ⟨E, wl, x, e1, e2, e3, e4, e5⟩ := S.job k hk w h.mem.ok
          refine h.works hG hC hS hg hk (InCall.start hC S.fok e2 e3 e4 e5) hcont (fun q => ?_) (fun j => by rw [hz]; exact Iff.rfl) (fun b q s e => (e1 b q s false e).2) (by rw [hz]; rfl) (.inl (by rw [hz]; rfl))
          rw [hz]
          exact ⟨fun e => e.elim, fun ⟨b, s, e⟩ => by have := (e1 b q s true e).1; cases this⟩
        · obtain ⟨g', w', es, h1, h2, h3⟩ := hs w h.mem.ok
          exact h.walks hS hg hz (.pr k m') h1 h2 h3
      | ca k E s =>
        rw [hz] at st0
        obtain ⟨hk, cal, rest, hin, hcont⟩ := st0
        exact h.works hG hC hS hg hk hin hcont (fun q => by rw [hz]; exact Iff.rfl) (fun j => by rw [hz]; exact Iff.rfl) (h.shr i k E s hS his hz) (by rw [hz]; rfl) (.inr ⟨s, hz, rfl⟩)
      | po k v m =>
        have st0' := st0
        rw [hz] at st0'
        rcases st0'.2.2.cases with hs | ⟨m', rfl, hs⟩
        · exact h.stores hS hg hz (hs w h.mem.ok).2
        · obtain ⟨g', w', es, h1, h2, h3⟩ := hs w h.mem.ok
          exact h.walks hS hg hz (.po k v m') h1 h2 h3
      | fi m =>
        rw [hz] at st0
        have st1 : Walk P c false S.Snd m g w := st0
        rcases st1.cases with hs | ⟨m', rfl, hs⟩
        · exact h.tells hS hg (hs w h.mem.ok).2 hz
        · obtain ⟨g', w', es, h1, h2, h3⟩ := hs w h.mem.ok
          exact h.walks hS hg hz (.fi m') h1 h2 h3
      | fw =>
        rw [hz] at st0
        obtain ⟨g', _, rfl⟩ := st0
        cases hr
      | lv q => exact h.leaves hi hg hr hz
/-- What the pool comes to. -/
def Joined (S : Scr P c Post) (m : Machine) (t : Trace) : Prop :=
  ∃ gs w sl zs fnd RS blk mm g, m = crowd gs w sl ∧ Pool S gs w t (.rc c.n mm) zs fnd RS blk ∧ gs[0]? = some g ∧ S.JnP g ∧ g.status = .running
/-- The pool runs, on whatever tape: it comes behind the last receive. -/
theorem Pool.runs (hG : P.globals.size ≤ Fns.G) (hC : FnsCode P) (h : Pool S gs w t z0 zs fnd RS blk) (sl : Option (Nat × Nat)) : ∃ N m' t', runNT P N (crowd gs w sl) t = (.next m', t') ∧ Joined S m' t' := by
  refine reach_of_inv (me_wf P [trap P]) (fun μ m t => ∃ gs w sl z0 zs fnd RS blk, m = crowd gs w sl ∧ Pool S gs w t z0 zs fnd RS blk ∧ μ = me c z0 zs gs.size) (Joined S) ?_ (me c z0 zs gs.size) _ t ⟨gs, w, sl, z0, zs, fnd, RS, blk, rfl, h, rfl⟩
  rintro μ m t ⟨gs, w, sl, z0, zs, fnd, RS, blk, rfl, h, rfl⟩
  obtain ⟨i, g, d, sl', hi, hr, hst⟩ := crowd_pick (P := P) (w := w) (sl := sl) h.awake h.alive
  rcases (h.ofAt d).moves hG hC hi hr with hm | ⟨rfl, hj, mm, rfl⟩
  · obtain ⟨gs', w', ops, z0', zs', fnd', RS', blk', h1, h2, h3⟩ := hm sl'
    exact .inr ⟨_, ops, _, hst.trans h1, h3, gs', w', sl', z0', zs', fnd', RS', blk', rfl, h2, rfl⟩
  · exact .inl ⟨gs, w, sl, zs, fnd, RS, blk, mm, g, rfl, h, hi, hj, hr⟩
end
end Go.Proofs.Ytpdemelchhkfaaa.Cs
