/-
  Several texts, joined: CsY, CtA.
-/
import Derived.Test.YtpdemelchhkfaaaJn10
/-
  The pool's memory: a call has told, what it told is stored, a job is handed out, one more is at work.
-/
namespace Go.Proofs.Ytpdemelchhkfaaa.Cs
open Go.Conc
variable [Fns]
section
variable {P : Program} {c : Cst} {Post : Nat → Value → World → Prop}
variable {zs zs' : Nat → ZW P} {top snt : Nat} {fnd : Nat → Option Nat} {RS : Nat → Nat → Prop} {blk : Nat → Option Nat} {w w' : World}
theorem Mem.fin (h : Mem P c Post zs top snt fnd RS blk w) {k i : Nat} (e : fnd k = some i) : c.S0 ≤ i ∧ i < top := by
  by_cases hks : k < snt
  · obtain ⟨i', h1, h2, h3⟩ := h.jb1 k hks
    rw [e] at h3
    cases h3
    exact ⟨h1, h2⟩
  · rw [h.jb0 k (by omega)] at e; cases e
/-- A call has told. -/
theorem Mem.tell (h : Mem P c Post zs top snt fnd RS blk w) {i k m : Nat} (hi : c.S0 ≤ i) (hit : i < top) {E : Env} {s : { s : Gh // Acc (After P [trap P]) s }} (hz : zs i = .ca k E s) (hsh : ∀ b q s, E b = some (q, s, false) → c.Fix q) {vl v : Value} {wl : World} (h1 : Post k vl wl) (h2 : VR E vl v) (h3 : WR P E wl w) :
    Mem P c Post (upd' zs i (.po k v m)) top snt fnd (upd' RS k fun q => ∃ b s, E b = some (q, s, true)) blk w := by
  have hk := h.jb2 i k hi hit (by rw [hz]; rfl)
  have hown : ∀ b q s, E b = some (q, s, true) → c.N1 ≤ q ∧ q < w.heap.size ∧ blk q = some i := fun b q s e => h.us1 i q hi hit (by rw [hz]; exact ⟨b, s, e⟩)
  refine ⟨h.ok, h.jb0, h.jb1, fun j k' g1 g2 g3 => ?_, fun k' j g1 g2 => ?_, fun j k' u m' g1 g2 g3 => ?_, fun j q g1 g2 g3 => ?_, fun k' q g1 => ?_, fun j k' q g1 g2 g3 => ?_, h.us4⟩
  · by_cases e : j = i
    · subst e
      rw [upd'_same] at g3
      have g4 : k = k' := g3
      rw [← g4]; exact hk
    · rw [upd'_ne _ _ e] at g3; exact h.jb2 j k' g1 g2 g3
  · by_cases ek : k' = k
    · subst ek
      exfalso
      rw [hk.2] at g1
      injection g1 with g1
      subst g1
      exact g2 (by rw [upd'_same]; rfl)
    · rw [upd'_ne _ _ ek]
      refine h.jb3 k' j g1 fun e => g2 ?_
      by_cases ej : j = i
      · subst ej
        rw [hz] at e
        exact absurd (show k = k' from e).symm ek
      · rw [upd'_ne _ _ ej]; exact e
  · by_cases e : j = i
    · subst e
      rw [upd'_same] at g3
      cases g3
      rw [upd'_same]
      exact ⟨E, vl, wl, h1, h2, h3, fun b q s o e => by
        cases o
        · exact .inl ⟨rfl, hsh b q s e⟩
        · exact .inr ⟨b, s, e⟩⟩
    · rw [upd'_ne _ _ e] at g3
      have ek : k' ≠ k := fun ek => by
        subst ek
        have := (h.jb2 j k' g1 g2 (by rw [g3]; rfl)).2
        rw [hk.2] at this
        injection this with this
        exact e this.symm
      rw [upd'_ne _ _ ek]
      exact h.jb4 j k' u m' g1 g2 g3
  · by_cases e : j = i
    · subst e; rw [upd'_same] at g3; exact g3.elim
    · rw [upd'_ne _ _ e] at g3; exact h.us1 j q g1 g2 g3
  · by_cases ek : k' = k
    · subst ek
      rw [upd'_same] at g1
      obtain ⟨b, s, e⟩ := g1
      exact ⟨(hown b q s e).1, (hown b q s e).2.1⟩
    · rw [upd'_ne _ _ ek] at g1; exact h.us2 k' q g1
  · by_cases e : j = i
    · subst e; rw [upd'_same] at g3; exact g3.elim
    · rw [upd'_ne _ _ e] at g3
      by_cases ek : k' = k
      · subst ek
        rw [upd'_same]
        rintro ⟨b, s, g4⟩
        have g5 := (hown b q s g4).2.2
        rw [(h.us1 j q g1 g2 g3).2.2] at g5
        injection g5 with g5
        exact e g5
      · rw [upd'_ne _ _ ek]; exact h.us3 j k' q g1 g2 g3
/-- What it told is stored. -/
theorem Mem.store (h : Mem P c Post zs top snt fnd RS blk w) {i k m m' : Nat} {v : Value} (hi : c.S0 ≤ i) (hit : i < top) (hz : zs i = .po k v m) (hk : k < c.K) (hC : c.Fd < c.N1) : Mem P c Post (upd' zs i (.st m')) top snt fnd RS blk (w.setCell ⟨c.Fd, k, none⟩ v) := by
  have hki := h.jb2 i k hi hit (by rw [hz]; rfl)
  obtain ⟨cs, hcs, hsz⟩ := h.ok.fd
  have hat := setCell_at w ⟨c.Fd, k, none⟩ v hcs rfl
  have hne : ∀ q, q ≠ c.Fd → (w.setCell ⟨c.Fd, k, none⟩ v).heap[q]? = w.heap[q]? := fun q hq => by rw [hat, if_neg (fun e => hq e.symm)]
  have hsize : (w.setCell ⟨c.Fd, k, none⟩ v).heap.size = w.heap.size := by unfold World.setCell; simp
  have hres : ∀ j u, Res P c Post j u (RS j) w → Res P c Post j u (RS j) (w.setCell ⟨c.Fd, k, none⟩ v) := fun j u hr => hr.keep fun q hq => by
    rcases hq with hq | hq
    · exact hne q hq.2.1
    · exact hne q (by have := (h.us2 j q hq).1; omega)
  have hcell : ∀ j, (w.setCell ⟨c.Fd, k, none⟩ v).cell? ⟨c.Fd, j, none⟩ = (cs.setIfInBounds k v)[j]? := fun j => by
    unfold World.cell?
    rw [hat, if_pos rfl]
    rfl
  have hcell0 : ∀ j, w.cell? ⟨c.Fd, j, none⟩ = cs[j]? := fun j => by
    unfold World.cell?
    rw [hcs]
    rfl
  refine ⟨⟨fun q hq => (hne q hq.2.1).trans (h.ok.fix q hq), ⟨cs.setIfInBounds k v, by rw [hat, if_pos rfl], by simpa using hsz⟩, by rw [hsize]; exact h.ok.big, h.ok.env⟩, h.jb0, h.jb1, fun j k' g1 g2 g3 => ?_, fun k' j g1 g2 => ?_, fun j k' u m' g1 g2 g3 => ?_, fun j q g1 g2 g3 => ?_, fun k' q g1 => ?_, fun j k' q g1 g2 g3 => ?_, fun q j g1 => ?_⟩
  · by_cases e : j = i
    · subst e; rw [upd'_same] at g3; exact g3.elim
    · rw [upd'_ne _ _ e] at g3; exact h.jb2 j k' g1 g2 g3
  · by_cases ek : k' = k
    · subst ek
      refine ⟨v, ?_, hres _ _ (h.jb4 i k' v m hi hit hz)⟩
      rw [hcell, Array.getElem?_setIfInBounds, if_pos rfl, if_pos (by omega)]
    · obtain ⟨u, g3, g4⟩ := h.jb3 k' j g1 fun e => g2 (by
        by_cases ej : j = i
        · subst ej
          rw [hz] at e
          exact absurd (show k = k' from e).symm ek
        · rw [upd'_ne _ _ ej]; exact e)
      refine ⟨u, ?_, hres _ _ g4⟩
      rw [hcell, Array.getElem?_setIfInBounds, if_neg (fun e => ek e.symm), ← hcell0]
      exact g3
  · by_cases e : j = i
    · subst e; rw [upd'_same] at g3; cases g3
    · rw [upd'_ne _ _ e] at g3
      exact hres _ _ (h.jb4 j k' u m' g1 g2 g3)
  · by_cases e : j = i
    · subst e; rw [upd'_same] at g3; exact g3.elim
    · rw [upd'_ne _ _ e] at g3; rw [hsize]; exact h.us1 j q g1 g2 g3
  · rw [hsize]; exact h.us2 k' q g1
  · by_cases e : j = i
    · subst e; rw [upd'_same] at g3; exact g3.elim
    · rw [upd'_ne _ _ e] at g3; exact h.us3 j k' q g1 g2 g3
  · rw [hsize]; exact h.us4 q j g1
/-- A job is handed out. -/
theorem Mem.give (h : Mem P c Post zs top snt fnd RS blk w) {i m : Nat} (hi : c.S0 ≤ i) (hit : i < top) (hn : ∀ k, ¬ holds (zs i) k) : Mem P c Post (upd' zs i (.pr snt m)) top (snt + 1) (upd' fnd snt (some i)) RS blk w := by
  refine ⟨h.ok, fun k hk => ?_, fun k hk => ?_, fun j k g1 g2 g3 => ?_, fun k j g1 g2 => ?_, fun j k u m' g1 g2 g3 => ?_, fun j q g1 g2 g3 => ?_, h.us2, fun j k q g1 g2 g3 => ?_, h.us4⟩
  · rw [upd'_ne _ _ (show k ≠ snt by omega)]; exact h.jb0 k (by omega)
  · by_cases e : k = snt
    · subst e; exact ⟨i, hi, hit, upd'_same _ _ _⟩
    · rw [upd'_ne _ _ e]; exact h.jb1 k (by omega)
  · by_cases e : j = i
    · subst e
      rw [upd'_same] at g3
      have : snt = k := g3
      subst this
      exact ⟨by omega, upd'_same _ _ _⟩
    · rw [upd'_ne _ _ e] at g3
      obtain ⟨g4, g5⟩ := h.jb2 j k g1 g2 g3
      exact ⟨by omega, by rw [upd'_ne _ _ (show k ≠ snt by omega)]; exact g5⟩
  · by_cases e : k = snt
    · subst e
      exfalso
      rw [upd'_same] at g1
      injection g1 with g1
      subst g1
      exact g2 (by rw [upd'_same]; rfl)
    · rw [upd'_ne _ _ e] at g1
      refine h.jb3 k j g1 fun g3 => g2 ?_
      by_cases ej : j = i
      · subst ej; exact absurd g3 (hn k)
      · rw [upd'_ne _ _ ej]; exact g3
  · by_cases e : j = i
    · subst e; rw [upd'_same] at g3; cases g3
    · rw [upd'_ne _ _ e] at g3; exact h.jb4 j k u m' g1 g2 g3
  · by_cases e : j = i
    · subst e; rw [upd'_same] at g3; exact g3.elim
    · rw [upd'_ne _ _ e] at g3; exact h.us1 j q g1 g2 g3
  · by_cases e : j = i
    · subst e; rw [upd'_same] at g3; exact g3.elim
    · rw [upd'_ne _ _ e] at g3; exact h.us3 j k q g1 g2 g3
/-- One more is at work. -/
theorem Mem.grow (h : Mem P c Post zs top snt fnd RS blk w) {m : Nat} : Mem P c Post (upd' zs top (.st m)) (top + 1) snt fnd RS blk w := by
  have hlt : ∀ j, j < top + 1 → j ≠ top → j < top := fun j h1 h2 => by omega
  refine ⟨h.ok, h.jb0, fun k hk => ?_, fun j k g1 g2 g3 => ?_, fun k j g1 g2 => ?_, fun j k u m' g1 g2 g3 => ?_, fun j q g1 g2 g3 => ?_, h.us2, fun j k q g1 g2 g3 => ?_, h.us4⟩
  · obtain ⟨i, a, b, d⟩ := h.jb1 k hk
    exact ⟨i, a, by omega, d⟩
  · by_cases e : j = top
    · subst e; rw [upd'_same] at g3; exact g3.elim
    · rw [upd'_ne _ _ e] at g3; exact h.jb2 j k g1 (hlt j g2 e) g3
  · have := (h.fin g1).2
    rw [upd'_ne _ _ (show j ≠ top by omega)] at g2
    exact h.jb3 k j g1 g2
  · by_cases e : j = top
    · subst e; rw [upd'_same] at g3; cases g3
    · rw [upd'_ne _ _ e] at g3; exact h.jb4 j k u m' g1 (hlt j g2 e) g3
  · by_cases e : j = top
    · subst e; rw [upd'_same] at g3; exact g3.elim
    · rw [upd'_ne _ _ e] at g3; exact h.us1 j q g1 (hlt j g2 e) g3
  · by_cases e : j = top
    · subst e; rw [upd'_same] at g3; exact g3.elim
    · rw [upd'_ne _ _ e] at g3; exact h.us3 j k q g1 (hlt j g2 e) g3
end
end Go.Proofs.Ytpdemelchhkfaaa.Cs

/-
  The pool's trace: who knows what.
-/
namespace Go.Proofs.Ytpdemelchhkfaaa.Cs
open Go.Conc
variable [Fns]
section
variable {P : Program} {c : Cst}
def isLv : ZW P → Prop
  | .lv _ => True
  | _ => False
def ownOf (c : Cst) (fnd blk : Nat → Option Nat) : _root_.Go.Loc → Option Nat
  | .cell a => if a.block = c.Fd then fnd a.off else if a.block < c.N1 then none else blk a.block
  | .obj q => if q < c.N1 then none else blk q
  | _ => none
def locLow (size : Nat) : _root_.Go.Loc → Prop
  | .cell a => a.block < size
  | .obj q => q < size
  | _ => True
structure Tr (c : Cst) (zs : Nat → ZW P) (top : Nat) (fnd blk : Nat → Option Nat) (size : Nat) (t : Trace) : Prop where
  ti : TI t (ownOf c fnd blk) (fun i => i = 0 ∨ (c.S0 ≤ i ∧ i < top))
  low : ∀ j a, touchAt t j = some a → locLow size a.loc
  fdT : ∀ j a ad, touchAt t j = some a → a.loc = .cell ad → ad.block = c.Fd → ∃ i, fnd ad.off = some i
  kn : ∀ j x a, t[j]? = some x → x.act.touch? = some a → Knows t 0 j ∨ (c.S0 ≤ x.g ∧ x.g < top ∧ ¬ isLv (zs x.g))
variable {zs zs' : Nat → ZW P} {top : Nat} {fnd blk : Nat → Option Nat} {size size' : Nat} {t u : Trace}
omit [Fns] in
theorem locLow_mono (h : size ≤ size') : ∀ {l : _root_.Go.Loc}, locLow size l → locLow size' l
  | .cell _, x | .obj _, x => Nat.lt_of_lt_of_le x h
  | .output, _ | .goroutines, _ | .mark _, _ => trivial
omit [Fns] in
/-- Operations of one who is at work. -/
theorem Tr.own {i : Nat} (h : Tr c zs top fnd blk size t) (hi : i = 0 ∨ (c.S0 ≤ i ∧ i < top)) (hu : ∀ op ∈ u, OkBy (ownOf c fnd blk) i op) (hw : Wordless u) (hs : size ≤ size') (hl : ∀ op ∈ u, ∀ b, op.act.touch? = some b → locLow size' b.loc) (hfd : ∀ op ∈ u, ∀ b ad, op.act.touch? = some b → b.loc = .cell ad → ad.block = c.Fd → ∃ i, fnd ad.off = some i)
    (hz : ∀ j, ¬ isLv (zs j) → ¬ isLv (zs' j)) (hzi : i ≠ 0 → ¬ isLv (zs' i)) : Tr c zs' top fnd blk size' (t ++ u) := by
  refine ⟨h.ti.step hi hu hw, fun j a ha => ?_, fun j a ad ha e1 e2 => ?_, fun j x a hx ha => ?_⟩
  · obtain ⟨x, hx, hxa⟩ := touch_of ha
    rcases getElem?_append_cases hx with ⟨_, hx'⟩ | ⟨_, hxu⟩
    · exact locLow_mono hs (h.low j a (by rw [touchAt_of hx']; exact hxa))
    · exact hl x hxu a hxa
  · obtain ⟨x, hx, hxa⟩ := touch_of ha
    rcases getElem?_append_cases hx with ⟨_, hx'⟩ | ⟨_, hxu⟩
    · exact h.fdT j a ad (by rw [touchAt_of hx']; exact hxa) e1 e2
    · exact hfd x hxu a ad hxa e1 e2
  · rcases getElem?_append_cases hx with ⟨_, hx'⟩ | ⟨_, hxu⟩
    · rcases h.kn j x a hx' ha with h1 | ⟨h1, h2, h3⟩
      · exact .inl (h1.app u)
      · exact .inr ⟨h1, h2, hz _ h3⟩
    · have hxg := (hu x hxu).1
      rcases hi with rfl | ⟨h1, h2⟩
      · have := knows_own hx
        rw [hxg] at this
        exact .inl this
      · by_cases e : i = 0
        · have := knows_own hx
          rw [hxg, e] at this
          exact .inl this
        · rw [hxg]; exact .inr ⟨h1, h2, hzi e⟩
omit [Fns] in
/-- Operations that touch nothing. -/
theorem Tr.mute (h : Tr c zs top fnd blk size t) (hn : ∀ op ∈ u, op.act.touch? = none) (hw : Wordless u) (hs : size ≤ size') (hz : ∀ j, ¬ isLv (zs j) → ¬ isLv (zs' j)) : Tr c zs' top fnd blk size' (t ++ u) := by
  refine ⟨h.ti.mute hn hw, fun j a ha => ?_, fun j a ad ha e1 e2 => ?_, fun j x a hx ha => ?_⟩
  · obtain ⟨x, hx, hxa⟩ := touch_of ha
    rcases getElem?_append_cases hx with ⟨_, hx'⟩ | ⟨_, hxu⟩
    · exact locLow_mono hs (h.low j a (by rw [touchAt_of hx']; exact hxa))
    · rw [hn x hxu] at hxa; cases hxa
  · obtain ⟨x, hx, hxa⟩ := touch_of ha
    rcases getElem?_append_cases hx with ⟨_, hx'⟩ | ⟨_, hxu⟩
    · exact h.fdT j a ad (by rw [touchAt_of hx']; exact hxa) e1 e2
    · rw [hn x hxu] at hxa; cases hxa
  · rcases getElem?_append_cases hx with ⟨_, hx'⟩ | ⟨_, hxu⟩
    · rcases h.kn j x a hx' ha with h1 | ⟨h1, h2, h3⟩
      · exact .inl (h1.app u)
      · exact .inr ⟨h1, h2, hz _ h3⟩
    · rw [hn x hxu] at ha; cases ha
omit [Fns] in
/-- New blocks are whose they are. -/
theorem Tr.newBlk {blk' : Nat → Option Nat} {i : Nat} (h : Tr c zs top fnd blk size t) (hb : ∀ q, blk' q = blk q ∨ (size ≤ q ∧ blk' q = some i)) : Tr c zs top fnd blk' size t := by
  have same : ∀ l, ownOf c fnd blk' l = ownOf c fnd blk l ∨ ∀ j a, touchAt t j = some a → a.loc ≠ l := fun l => by
    cases l with
    | cell ad =>
      by_cases e1 : ad.block = c.Fd
      · left; simp only [ownOf, if_pos e1]
      · by_cases e2 : ad.block < c.N1
        · left; simp only [ownOf, if_neg e1, if_pos e2]
        · rcases hb ad.block with h1 | ⟨h1, _⟩
          · left; simp only [ownOf, if_neg e1, if_neg e2, h1]
          · right
            intro j a ha hl
            have := h.low j a ha
            rw [hl] at this
            have : ad.block < size := this
            omega
    | obj q =>
      by_cases e2 : q < c.N1
      · left; simp only [ownOf, if_pos e2]
      · rcases hb q with h1 | ⟨h1, _⟩
        · left; simp only [ownOf, if_neg e2, h1]
        · right
          intro j a ha hl
          have := h.low j a ha
          rw [hl] at this
          have : q < size := this
          omega
    | _ => exact .inl rfl
  refine ⟨h.ti.turn (fun l g hl => ?_) (fun l hl => ?_), h.low, h.fdT, h.kn⟩
  · rcases same l with h1 | h1
    · exact .inl (by rw [← h1]; exact hl)
    · exact .inr (.inl h1)
  · rcases same l with h1 | h1
    · exact .inl (by rw [← h1]; exact hl)
    · exact .inr h1
omit [Fns] in
/-- A job is handed out: its place in the row is the worker's. -/
theorem Tr.give {k i : Nat} (h : Tr c zs top fnd blk size t) (hk : fnd k = none) : Tr c zs top (upd' fnd k (some i)) blk size t := by
  have same : ∀ l, ownOf c (upd' fnd k (some i)) blk l = ownOf c fnd blk l ∨ ∀ j a, touchAt t j = some a → a.loc ≠ l := fun l => by
    cases l with
    | cell ad =>
      by_cases e1 : ad.block = c.Fd
      · by_cases e2 : ad.off = k
        · right
          intro j a ha hl
          obtain ⟨i', h1⟩ := h.fdT j a ad ha hl e1
          rw [e2, hk] at h1
          cases h1
        · left; simp only [ownOf, if_pos e1, upd'_ne _ _ e2]
      · left; simp only [ownOf, if_neg e1]
    | _ => exact .inl rfl
  refine ⟨h.ti.turn (fun l g hl => ?_) (fun l hl => ?_), h.low, fun j a ad h1 h2 h3 => ?_, h.kn⟩
  · rcases same l with h1 | h1
    · exact .inl (by rw [← h1]; exact hl)
    · exact .inr (.inl h1)
  · rcases same l with h1 | h1
    · exact .inl (by rw [← h1]; exact hl)
    · exact .inr h1
  · obtain ⟨i', h4⟩ := h.fdT j a ad h1 h2 h3
    by_cases e2 : ad.off = k
    · exact ⟨i, by rw [e2, upd'_same]⟩
    · exact ⟨i', by rw [upd'_ne _ _ e2]; exact h4⟩
omit [Fns] in
/-- A worker has told that it is done: goroutine 0 knows all that it did. -/
theorem Tr.done {i s : Nat} {x1 x2 x3 x4 : MemOp} (h : Tr c zs top fnd blk size t) (e1 : x1.g = i ∧ x1.act = .send c.C2 s) (e2 : x2.act.touch? = none ∧ ∀ m, x2.act ≠ .mark m) (e3 : x3.act.touch? = none ∧ ∀ m, x3.act ≠ .mark m) (e4 : x4.g = 0 ∧ x4.act = .recvDone c.C2 s) (hz : ∀ j, j ≠ i → ¬ isLv (zs j) → ¬ isLv (zs' j)) : Tr c zs' top fnd blk size (t ++ #[x1, x2, x3, x4]) := by
  have hn : ∀ op ∈ (#[x1, x2, x3, x4] : Trace), op.act.touch? = none := fun op hop => by
    simp at hop
    rcases hop with rfl | rfl | rfl | rfl
    · rw [e1.2]; rfl
    · exact e2.1
    · exact e3.1
    · rw [e4.2]; rfl
  have hw : Wordless (#[x1, x2, x3, x4] : Trace) := fun op hop m hm => by
    simp at hop
    rcases hop with rfl | rfl | rfl | rfl
    · rw [e1.2] at hm; cases hm
    · exact absurd hm (e2.2 m)
    · exact absurd hm (e3.2 m)
    · rw [e4.2] at hm; cases hm
  have h1 := h.mute (zs' := zs) hn hw (Nat.le_refl _) (fun _ hj => hj)
  refine ⟨h1.ti, h1.low, h1.fdT, fun j x a hx ha => ?_⟩
  rcases getElem?_append_cases hx with ⟨hj, hx'⟩ | ⟨_, hxu⟩
  · rcases h.kn j x a hx' ha with k1 | ⟨k1, k2, k3⟩
    · exact .inl (k1.app _)
    · by_cases e : x.g = i
      · left
        have hp : (t ++ #[x1, x2, x3, x4])[t.size]? = some x1 := by simp
        have hq : (t ++ #[x1, x2, x3, x4])[t.size + 3]? = some x4 := by
          rw [Array.getElem?_append, if_neg (by omega)]
          simp
        refine Knows.over (g := i) h1.ti.words (p := t.size) (q := t.size + 3) ?_ hp e1.1 hq e4.1 (.handOver (c := c.C2) (k := s) (by simp [Trace.act?, e1.2]) (by simp [Trace.act?, e4.2]))
        have : (t ++ #[x1, x2, x3, x4]).extract 0 t.size = t := by simp
        rw [this, ← e]
        exact knows_own hx'
      · exact .inr ⟨k1, k2, hz _ e k3⟩
  · rw [hn x hxu] at ha; cases ha
omit [Fns] in
/-- One more is started. -/
theorem Tr.fork {x y : MemOp} {m : Nat} (h : Tr c zs top fnd blk size t) (hx : x.g = 0 ∧ x.act = .go top) (hy : y.g = top ∧ y.act = .start) : Tr c (upd' zs top (.st m)) (top + 1) fnd blk size (t ++ #[x, y]) := by
  have hn : ∀ op ∈ (#[x, y] : Trace), op.act.touch? = none := fun op hop => by
    simp at hop
    rcases hop with rfl | rfl
    · rw [hx.2]; rfl
    · rw [hy.2]; rfl
  have hw : Wordless (#[x, y] : Trace) := fun op hop m hm => by
    simp at hop
    rcases hop with rfl | rfl
    · rw [hx.2] at hm; cases hm
    · rw [hy.2] at hm; cases hm
  have h1 := h.mute (zs' := zs) hn hw (Nat.le_refl _) (fun _ hj => hj)
  refine ⟨⟨h1.ti.clean, h1.ti.mine, fun l hl g hg j a ha hal haw => ?_, h1.ti.words⟩, h1.low, h1.fdT, fun j z a hz ha => ?_⟩
  · by_cases e : g = top
    · subst e
      obtain ⟨z, hz, hza⟩ := touch_of ha
      rcases getElem?_append_cases hz with ⟨hj, hz'⟩ | ⟨_, hzu⟩
      · have k0 := h.ti.read l hl 0 (.inl rfl) j a (by rw [touchAt_of hz']; exact hza) hal haw
        have hp : (t ++ #[x, y])[t.size]? = some x := by simp
        have hq : (t ++ #[x, y])[t.size + 1]? = some y := by
          rw [Array.getElem?_append, if_neg (by omega)]
          simp
        refine Knows.over (g := 0) h1.ti.words (p := t.size) (q := t.size + 1) ?_ hp hx.1 hq hy.1 (.spawn (child := g) (by simp [Trace.act?, hx.2]) (by simp [Trace.act?, hy.2]) (by simp [Trace.g?, hy.1]))
        have : (t ++ #[x, y]).extract 0 t.size = t := by simp
        rw [this]
        exact k0
      · rw [hn z hzu] at hza; cases hza
    · exact h1.ti.read l hl g (by rcases hg with h2 | ⟨h2, h3⟩; exact .inl h2; exact .inr ⟨h2, by omega⟩) j a ha hal haw
  · rcases h1.kn j z a hz ha with k1 | ⟨k1, k2, k3⟩
    · exact .inl k1
    · exact .inr ⟨k1, by omega, by rw [upd'_ne _ _ (show z.g ≠ top by omega)]; exact k3⟩
end
end Go.Proofs.Ytpdemelchhkfaaa.Cs
