/-
  Several texts, joined: CwF, CwG, CwH.
-/
import Derived.Test.YtpdemelchhkfaaaJn16
/-
  The other pool's state: what holds between any two steps; what one's move leaves of the others.
-/
namespace Go.Proofs.Ytpdemelchhkfaaa.Cs
open Go.Conc
open Go.ConcN (sumTo sumTo_congr)
open Go.ConcR (KK WgAt wgBlock stA smA rd wr mk)
section
variable {P : Program} {c : Cst}
def isSe : YW P → Prop
  | .se _ => True
  | _ => False
/-- It has taken a number that is none. -/
def outN : YW P → Nat
  | .re _ | .di _ | .de _ | .lo _ | .ze _ | .se _ | .lv _ => 1
  | _ => 0
def befF (c : Cst) (i : Nat) (z : YW P) : Nat := if i < c.S0 then 0 else bef z
def outF (c : Cst) (i : Nat) (z : YW P) : Nat := if i < c.S0 then 0 else outN z
/-- How many are not yet counted down. -/
def lft (c : Cst) (z0 : Y0) (zs : Nat → YW P) (size : Nat) : Nat := (c.n - spawned2 c z0) + sumTo size (fun i => befF c i (zs i))
/-- Who took a number that is none took it behind the last one. -/
def OutOk (c : Cst) (zs : Nat → YW P) (size ct : Nat) : Prop := ct ≤ c.K + sumTo size (fun i => outF c i (zs i)) ∧ ∀ i, c.S0 ≤ i → i < size → outN (zs i) = 1 → c.K ≤ ct
def NoCl (c : Cst) (zs : Nat → YW P) (size : Nat) : Prop := ∀ i, c.S0 ≤ i → i < size → ¬ closing (zs i)
/-- What the group holds. -/
inductive WgS (c : Cst) (tW : TypeId) (z0 : Y0) (zs : Nat → YW P) (size : Nat) (w : World) : Prop
  | run (hn : NoCl c zs size) (hp : ¬ past0 z0) (hr : (reg z0 = 1 → 0 < lft c z0 zs size) ∧ ∀ u m, z0 = .w2 u m → lft c z0 zs size ≤ u) (hw : WgAt tW c.C2 w ((lft c z0 zs size : Int) * KK + (reg z0 : Int)) 0)
  | cls (i : Nat) (hi : c.S0 ≤ i) (hs : i < size) (hc : closing (zs i)) (hu : ∀ j, c.S0 ≤ j → j < size → j ≠ i → ¬ closing (zs j)) (hr : reg z0 = 1) (hl : lft c z0 zs size = 0) (hw : (isSe (zs i) → WgAt tW c.C2 w 0 0) ∧ (¬ isSe (zs i) → WgAt tW c.C2 w 1 0))
  | rls (hn : NoCl c zs size) (hl : lft c z0 zs size = 0) (hr : reg z0 = 1) (hb : z0 ≠ .w3b) (hw : WgAt tW c.C2 w 0 1)
  | pst (hn : NoCl c zs size) (hl : lft c z0 zs size = 0) (hp : past0 z0) (hw : WgAt tW c.C2 w 0 0)
theorem WgS.live {tW : TypeId} {z0 : Y0} {zs : Nat → YW P} {size : Nat} {w : World} (h : WgS c tW z0 zs size w) : ∃ st sm, WgAt tW c.C2 w st sm := by
  cases h with
  | run _ _ _ hw => exact ⟨_, _, hw⟩
  | cls i _ _ _ _ _ _ hw =>
    by_cases e : isSe (zs i)
    · exact ⟨_, _, hw.1 e⟩
    · exact ⟨_, _, hw.2 e⟩
  | rls _ _ _ _ hw => exact ⟨_, _, hw⟩
  | pst _ _ _ hw => exact ⟨_, _, hw⟩
theorem WgS.keep {tW : TypeId} {z0 : Y0} {zs : Nat → YW P} {size : Nat} {w w' : World} (h : WgS c tW z0 zs size w) (hw' : w'.heap[c.C2]? = w.heap[c.C2]?) : WgS c tW z0 zs size w' := by
  have k : ∀ st sm, WgAt tW c.C2 w st sm → WgAt tW c.C2 w' st sm := fun st sm h => by unfold WgAt at h ⊢; rw [hw']; exact h
  cases h with
  | run hn hp hr hw => exact .run hn hp hr (k _ _ hw)
  | cls i hi hs hc hu hr hl hw => exact .cls i hi hs hc hu hr hl ⟨fun e => k _ _ (hw.1 e), fun e => k _ _ (hw.2 e)⟩
  | rls hn hl hr hb hw => exact .rls hn hl hr hb (k _ _ hw)
  | pst hn hl hp hw => exact .pst hn hl hp (k _ _ hw)
end
variable [Fns]
section
variable {P : Program} {c : Cst} {tW tT : TypeId} {F : Nat → Value} {Sn : Nat → Prop}
structure Pool2 (S : Scr2 P c tW tT F) (Sn : Nat → Prop) (gs : Array Goroutine) (w : World) (t : Trace) (z0 : Y0) (zs : Nat → YW P) (ct : Nat) (fnd blk : Nat → Option Nat) : Prop where
  sz : gs.size = c.S0 + spawned2 c z0
  a0 : ∃ g, gs[0]? = some g ∧ T0 S z0 g w
  wk : ∀ i g, 1 ≤ i → gs[i]? = some g → TW S (Deaf t i) (zs i) g w
  old : ∀ i, 1 ≤ i → i < c.S0 → ∃ q, zs i = .lv q
  df0 : Deaf t 0 = deaf0 z0
  dfW : ∀ i, c.S0 ≤ i → i < gs.size → deafW (zs i) (Deaf t i)
  dfA : ∀ j, gs.size ≤ j → Deaf t j = 0
  wg : WgS c tW z0 zs gs.size w
  ovr : OutOk c zs gs.size ct
  shr : ∀ i k E s, c.S0 ≤ i → i < gs.size → zs i = .ca k E s → ∀ b q s, E b = some (q, s, false) → c.Fix q
  mem : Mem2 P c tT F zs gs.size ct fnd blk w
  tr : Tr2 c Sn zs gs.size fnd blk w.heap.size t
variable {S : Scr2 P c tW tT F} {gs : Array Goroutine} {w w' : World} {t : Trace} {z0 : Y0} {zs : Nat → YW P} {ct : Nat} {fnd blk : Nat → Option Nat} {g g' : Goroutine} {z : YW P} {d : Nat}
omit [Fns] in
theorem walk2_keep {main : Bool} {Stp : Goroutine → Prop} {m : Nat} (h : Walk2 P c tW tT main Stp m g w) (ok : Ok2 c tW tT w') : Walk2 P c tW tT main Stp m g w' := Goes.rely (fun _ _ _ _ h => h) h ok
omit [Fns] in
theorem walk2_running {main : Bool} {Stp : Goroutine → Prop} {m : Nat} (h : Walk2 P c tW tT main Stp m g w) (ok : Ok2 c tW tT w) : g.status = .running := Goes.running (fun _ _ h => h.1) w ok h
omit [Fns] in
theorem walk3_keep {Stp : Goroutine → Prop} {m : Nat} (h : Walk3 P c tW tT Stp m g w) (ok : Ok2 c tW tT w') : Walk3 P c tW tT Stp m g w' := Goes.rely (fun _ _ _ _ h => h) h ok
omit [Fns] in
theorem walk3_running {Stp : Goroutine → Prop} {m : Nat} (h : Walk3 P c tW tT Stp m g w) (ok : Ok2 c tW tT w) : g.status = .running := Goes.running (fun _ _ h => h.1) w ok h
omit [Fns] in
theorem walk2_stop {main : Bool} {Stp : Goroutine → Prop} (hr : g.status = .running) (hs : Stp g) : Walk2 P c tW tT main Stp 0 g w := fun _ _ => ⟨hr, hs⟩
theorem T0.keep (h : T0 S z0 g w) (ok : Ok2 c tW tT w') : T0 S z0 g w' := by
  cases z0 with
  | sp j m => exact ⟨h.1, walk2_keep h.2 ok⟩
  | w2 v m => exact ⟨h.1, h.2.1, walk2_keep h.2.2 ok⟩
  | w3b => exact h
  | wd m => exact walk2_keep (show Walk2 P c tW tT true S.WtD m g w from h) ok
  | w1 m => exact walk2_keep (show Walk2 P c tW tT true S.W1 m g w from h) ok
  | sa m => exact walk2_keep (show Walk2 P c tW tT true S.Sai m g w from h) ok
  | w3 m => exact walk2_keep (show Walk2 P c tW tT true S.W3 m g w from h) ok
  | w4 m => exact walk2_keep (show Walk2 P c tW tT true S.W4 m g w from h) ok
  | ke m => exact walk2_keep (show Walk2 P c tW tT true S.Ke m g w from h) ok
  | ac m => exact walk2_keep (show Walk2 P c tW tT true S.Acq m g w from h) ok
  | jn m => exact h.elim
theorem TW.keep (h : TW S d z g w) (ok : Ok2 c tW tT w') (hE : ∀ k E s, z = .ca k E s → ∀ b x, E b = some x → w'.heap[x.1]? = w.heap[x.1]?) : TW S d z g w' := by
  cases z with
  | pr k m => exact ⟨h.1, walk2_keep h.2 ok⟩
  | po k m => exact ⟨h.1, walk2_keep h.2 ok⟩
  | ca k E s =>
    obtain ⟨h1, cal, rest, h2, h3⟩ := h
    exact ⟨h1, cal, rest, h2.other (hE k E s rfl), h3⟩
  | lv q => exact h
  | st m => exact walk2_keep (show Walk2 P c tW tT false S.Tak m g w from h) ok
  | re m => exact walk2_keep (show Walk2 P c tW tT false S.Rel m g w from h) ok
  | di m => exact walk3_keep (show Walk3 P c tW tT S.Dis m g w from h) ok
  | de m => exact walk3_keep (show Walk3 P c tW tT S.Dec m g w from h) ok
  | lo m => exact walk3_keep (show Walk3 P c tW tT S.Lod m g w from h) ok
  | ze m => exact walk3_keep (show Walk3 P c tW tT S.Zer m g w from h) ok
  | se m => exact walk3_keep (show Walk3 P c tW tT S.Sem m g w from h) ok
theorem T0.status (h : T0 S z0 g w) (ok : Ok2 c tW tT w) : g.status = .running ∨ (z0 = .w3b ∧ ∃ g', S.W3 g' ∧ g = { g' with status := .blocked }) := by
  cases z0 with
  | sp j m => exact .inl (walk2_running h.2 ok)
  | w2 v m => exact .inl (walk2_running h.2.2 ok)
  | w3b => exact .inr ⟨rfl, h⟩
  | wd m => exact .inl (walk2_running (show Walk2 P c tW tT true S.WtD m g w from h) ok)
  | w1 m => exact .inl (walk2_running (show Walk2 P c tW tT true S.W1 m g w from h) ok)
  | sa m => exact .inl (walk2_running (show Walk2 P c tW tT true S.Sai m g w from h) ok)
  | w3 m => exact .inl (walk2_running (show Walk2 P c tW tT true S.W3 m g w from h) ok)
  | w4 m => exact .inl (walk2_running (show Walk2 P c tW tT true S.W4 m g w from h) ok)
  | ke m => exact .inl (walk2_running (show Walk2 P c tW tT true S.Ke m g w from h) ok)
  | ac m => exact .inl (walk2_running (show Walk2 P c tW tT true S.Acq m g w from h) ok)
  | jn m => exact h.elim
theorem TW.status (h : TW S d z g w) (ok : Ok2 c tW tT w) : g.status = .running ∨ (g.status = .finished ∧ ∃ q, z = .lv q) := by
  cases z with
  | pr k m => exact .inl (walk2_running h.2 ok)
  | po k m => exact .inl (walk2_running h.2 ok)
  | ca k E s =>
    obtain ⟨_, cal, rest, h2, _⟩ := h
    exact .inl h2.running
  | lv q =>
    have h' : QuitsD P q d g := h
    rcases h'.status with h1 | h1
    · exact .inl h1
    · exact .inr ⟨h1, q, rfl⟩
  | st m => exact .inl (walk2_running (show Walk2 P c tW tT false S.Tak m g w from h) ok)
  | re m => exact .inl (walk2_running (show Walk2 P c tW tT false S.Rel m g w from h) ok)
  | di m => exact .inl (walk3_running (show Walk3 P c tW tT S.Dis m g w from h) ok)
  | de m => exact .inl (walk3_running (show Walk3 P c tW tT S.Dec m g w from h) ok)
  | lo m => exact .inl (walk3_running (show Walk3 P c tW tT S.Lod m g w from h) ok)
  | ze m => exact .inl (walk3_running (show Walk3 P c tW tT S.Zer m g w from h) ok)
  | se m => exact .inl (walk3_running (show Walk3 P c tW tT S.Sem m g w from h) ok)
section
variable (h : Pool2 S Sn gs w t z0 zs ct fnd blk)
include h
theorem Pool2.pos : 0 < gs.size := by have := h.sz; have := S.s1; omega
theorem Pool2.ok2 : Ok2 c tW tT w := ⟨h.mem.ok, ⟨_, h.mem.tk⟩, h.wg.live⟩
theorem Pool2.keep (ok : Ok2 c tW tT w') {i : Nat} {t' : Trace} (hd : ∀ j, j ≠ i → Deaf t' j = Deaf t j) (hu : ∀ j q, c.S0 ≤ j → j < gs.size → j ≠ i → inUse2 (zs j) q → w'.heap[q]? = w.heap[q]?) : ∀ j g, 1 ≤ j → j ≠ i → gs[j]? = some g → TW S (Deaf t' j) (zs j) g w' := fun j g h1 h2 h3 => by
  rw [hd j h2]
  refine (h.wk j g h1 h3).keep ok fun k E s e b x hx => ?_
  have hj : c.S0 ≤ j := by
    rcases Nat.lt_or_ge j c.S0 with h4 | h4
    · obtain ⟨q, h5⟩ := h.old j h1 h4
      rw [h5] at e; cases e
    · exact h4
  obtain ⟨q, s', o⟩ := x
  cases o with
  | true => exact hu j q hj (idx_lt h3) h2 (by rw [e]; exact ⟨b, s', hx⟩)
  | false =>
    have hf := h.shr j k E s hj (idx_lt h3) e b q s' hx
    exact (ok.ok.fix q hf).trans (h.mem.ok.fix q hf).symm
theorem Pool2.awake : ∀ g ∈ gs, awake g := fun g hg => by
  obtain ⟨i, hi, rfl⟩ := Array.mem_iff_getElem.1 hg
  rcases Nat.eq_zero_or_pos i with rfl | hp
  · obtain ⟨a, h1, h2⟩ := h.a0
    have : gs[0] = a := by simpa [Array.getElem?_eq_getElem hi] using h1
    rw [this]
    rcases h2.status h.ok2 with h3 | ⟨_, g', _, rfl⟩
    · exact awake_of (.inl h3)
    · exact awake_of (.inr (.inl rfl))
  · rcases (h.wk i _ hp (Array.getElem?_eq_getElem hi)).status h.ok2 with h3 | ⟨h3, _⟩
    · exact awake_of (.inl h3)
    · exact awake_of (.inr (.inr h3))
/-- Goroutine 0 behind a step of another one's: as it was, or let try again. -/
theorem Pool2.woken0 {a a' : Goroutine} {w' : World} (hg : gs[0]? = some g) : ∃ z0', (z0' = z0 ∨ (z0 = .w3b ∧ z0' = .w3 0)) ∧ (T0 S z0' (woken P a a' w' g) w) ∧ (z0' = .w3b → woken P a a' w' g = g ∧ (mayWake P a && a'.status != .blocked && a'.status != .waiting) = false) ∧ (z0' ≠ .w3b → (woken P a a' w' g).status = .running) := by
  obtain ⟨g1, h1, h2⟩ := h.a0
  rw [hg] at h1
  cases h1
  rcases h2.status h.ok2 with h3 | ⟨rfl, g', h4, rfl⟩
  · have e : woken P a a' w' g = g := woken_running h3
    refine ⟨z0, .inl rfl, by rw [e]; exact h2, fun e2 => ?_, fun _ => by rw [e]; exact h3⟩
    subst e2
    obtain ⟨g', h5, h6⟩ := h2
    rw [h6] at h3
    cases h3
  · obtain ⟨⟨fr, cs, rfl⟩, h5, _⟩ := S.w3 g' h4
    by_cases hm : (mayWake P a && a'.status != .blocked && a'.status != .waiting) = true
    · have e : woken P a a' w' { G fr cs with status := .blocked } = G fr cs := by
        unfold woken
        rw [if_pos hm]
        rfl
      refine ⟨.w3 0, .inr ⟨rfl, rfl⟩, by rw [e]; exact walk2_stop rfl h4, (fun e2 => by cases e2), fun _ => by rw [e]; rfl⟩
    · have hm' : (mayWake P a && a'.status != .blocked && a'.status != .waiting) = false := by simpa using hm
      have e : woken P a a' w' { G fr cs with status := .blocked } = { G fr cs with status := .blocked } := by
        unfold woken
        rw [if_neg hm]
      exact ⟨.w3b, .inl rfl, by rw [e]; exact ⟨_, h4, rfl⟩, fun _ => ⟨e, hm'⟩, fun e2 => absurd rfl e2⟩
/-- The others behind a step. -/
theorem Pool2.quiet {a a' : Goroutine} {w' : World} : ∀ j x, 1 ≤ j → gs[j]? = some x → woken P a a' w' x = x := fun j x hj hx => by
  rcases (h.wk j x hj hx).status h.ok2 with h3 | ⟨h3, _⟩
  · exact woken_running h3
  · unfold woken
    split
    · unfold Goroutine.again
      rw [h3]
    · rfl
end
end
end Go.Proofs.Ytpdemelchhkfaaa.Cs

/-
  The other pool's moves, in general: one worker; goroutine 0.
-/
namespace Go.Proofs.Ytpdemelchhkfaaa.Cs
open Go.Conc
open Go.ConcN (sumTo sumTo_congr)
open Go.ConcR (KK WgAt wgBlock stA smA rd wr mk)
section
variable {P : Program} {c : Cst}
abbrev Me2 (P : Program) := Me P [trap P] × Nat
def Me2Lt (P : Program) : Me2 P → Me2 P → Prop := Prod.Lex (MeLt P [trap P]) (· < ·)
theorem me2_wf (P : Program) : WellFounded (Me2Lt P) := (Prod.lex ⟨_, me_wf P [trap P]⟩ ⟨_, Nat.lt_wfRel.wf⟩).wf
def bit0 : Y0 → Nat
  | .w3b => 0
  | _ => 1
def tot (c : Cst) (z0 : Y0) (zs : Nat → YW P) (n ct : Nat) : Nat := q0 c (lft c z0 zs n) z0 + 11 * (c.K - took c ct) + sumTo n (fun i => qW (zs i))
def me2 (c : Cst) (z0 : Y0) (zs : Nat → YW P) (n ct : Nat) : Me2 P := ((tot c z0 zs n ct, yi0 z0 :: (List.range n).map fun i => yiW (zs i)), bit0 z0)
variable {z0 z0' : Y0} {zs zs' : Nat → YW P} {z' : YW P} {n n' i ct ct' : Nat}
theorem me2_1 (h : tot c z0' zs' n' ct' < tot c z0 zs n ct) : Me2Lt P (me2 c z0' zs' n' ct') (me2 c z0 zs n ct) := Prod.Lex.left _ _ (Prod.Lex.left _ _ h)
theorem me2_w (hi : i < n) (h : tot c z0' (upd' zs i z') n ct' = tot c z0 zs n ct) (h0 : (yi0 z0' : Mi P [trap P]) = yi0 z0) (hm : MiLt P [trap P] (yiW z') (yiW (zs i))) : Me2Lt P (me2 c z0' (upd' zs i z') n ct') (me2 c z0 zs n ct) := by
  refine Prod.Lex.left _ _ ?_
  show MeLt P [trap P] (tot c z0' (upd' zs i z') n ct', _) (tot c z0 zs n ct, _)
  rw [h, h0]
  exact Prod.Lex.right _ (.tail _ (oneLess_map (fun j => yiW (zs j)) (fun j => yiW (upd' zs i z' j)) List.nodup_range (List.mem_range.2 hi) (by rw [upd'_same]; exact hm) (fun j hj => by rw [upd'_ne _ _ hj])))
theorem me2_0 (h : tot c z0' zs n ct = tot c z0 zs n ct) (hm : MiLt P [trap P] (yi0 z0') (yi0 z0)) : Me2Lt P (me2 c z0' zs n ct) (me2 c z0 zs n ct) := by
  refine Prod.Lex.left _ _ ?_
  show MeLt P [trap P] (tot c z0' zs n ct, _) (tot c z0 zs n ct, _)
  rw [h]
  exact Prod.Lex.right _ (.head _ hm)
theorem me2_b (h : (me2 c z0' zs n ct).1 = (me2 c z0 zs n ct).1) (hm : bit0 z0' < bit0 z0) : Me2Lt P (me2 c z0' zs n ct) (me2 c z0 zs n ct) := by
  have e2 : me2 c z0' zs n ct = ((me2 c z0 zs n ct).1, bit0 z0') := Prod.ext h rfl
  rw [e2]
  exact Prod.Lex.right _ hm
/-- Woken or not, it is as far. -/
theorem woke_same (h : z0' = z0 ∨ (z0 = .w3b ∧ z0' = .w3 0)) : spawned2 c z0' = spawned2 c z0 ∧ reg z0' = reg z0 ∧ deaf0 z0' = deaf0 z0 ∧ (past0 z0' ↔ past0 z0) ∧ (∀ v, q0 c v z0' = q0 c v z0) ∧ (yi0 z0' : Mi P [trap P]) = yi0 z0 := by
  rcases h with rfl | ⟨rfl, rfl⟩
  · exact ⟨rfl, rfl, rfl, Iff.rfl, fun _ => rfl, rfl⟩
  · exact ⟨rfl, rfl, rfl, Iff.rfl, fun _ => rfl, rfl⟩
theorem q0_mono {u v : Nat} (h : u ≤ v) : q0 c u z0 ≤ q0 c v z0 := by cases z0 <;> simp only [q0] <;> omega
end
variable [Fns]
section
variable {P : Program} {c : Cst} {tW tT : TypeId} {F : Nat → Value} {Sn : Nat → Prop} {S : Scr2 P c tW tT F}
variable {gs gs' : Array Goroutine} {w w' : World} {t t' : Trace} {z0 z0' : Y0} {zs : Nat → YW P} {ct ct' i : Nat} {fnd fnd' blk blk' : Nat → Option Nat} {g g' : Goroutine} {z' : YW P} {es : Array Event}
/-- What a move does: the machine's step, and the pool behind it. -/
def Moves2 (S : Scr2 P c tW tT F) (Sn : Nat → Prop) (gs : Array Goroutine) (w : World) (t : Trace) (z0 : Y0) (zs : Nat → YW P) (ct i : Nat) : Prop :=
  ∀ sl, ∃ gs' w' ops z0' zs' ct' fnd' blk', runT P (crowd gs w sl) i = (.next (crowd gs' w' sl), ops) ∧ Pool2 S Sn gs' w' (t ++ ops) z0' zs' ct' fnd' blk' ∧ Me2Lt P (me2 c z0' zs' gs'.size ct') (me2 c z0 zs gs.size ct)
theorem Pool2.moveW (h : Pool2 S Sn gs w t z0 zs ct fnd blk) (hi : 1 ≤ i) (hg : gs[i]? = some g) (hst : stepG P false g w = .go g' w' es) (ok : Ok2 c tW tT w') (st : TW S (deafBehind (Deaf t i) es) z' g' w') (ho : i < c.S0 → ∃ q, z' = .lv q) (hdw : c.S0 ≤ i → deafW z' (deafBehind (Deaf t i) es))
    (hu : ∀ j q, c.S0 ≤ j → j < gs.size → j ≠ i → inUse2 (zs j) q → w'.heap[q]? = w.heap[q]?) (hwg : ∀ z0', (z0' = z0 ∨ (z0 = .w3b ∧ z0' = .w3 0)) → (z0' = .w3b → (mayWake P g && g'.status != .blocked && g'.status != .waiting) = false) → WgS c tW z0' (upd' zs i z') gs.size w')
    (hov : OutOk c (upd' zs i z') gs.size ct') (hsh : ∀ k E s, z' = .ca k E s → ∀ b q s, E b = some (q, s, false) → c.Fix q) (mem : Mem2 P c tT F (upd' zs i z') gs.size ct' fnd' blk' w') (tr : Tr2 c Sn (upd' zs i z') gs.size fnd' blk' w'.heap.size (t ++ MemOp.ofEvents i g.frame.fn g.frame.place es))
    (hm : tot c z0 (upd' zs i z') gs.size ct' < tot c z0 zs gs.size ct ∨ (tot c z0 (upd' zs i z') gs.size ct' = tot c z0 zs gs.size ct ∧ MiLt P [trap P] (yiW z') (yiW (zs i)))) : Moves2 S Sn gs w t z0 zs ct i := fun sl => by
  have his := idx_lt hg
  have hs1 := S.s1
  obtain ⟨a, h1, h2⟩ := h.a0
  obtain ⟨z0', k1, k2, k3, k4⟩ := h.woken0 (a := g) (a' := g') (w' := w') h1
  obtain ⟨e1, e2, e3, e4, e5, e6⟩ := woke_same (P := P) (c := c) k1
  have hr := runT_crowd_go (P := P) (sl := sl) (i := i) hg (by rw [show (i == 0) = false by simp; omega]; exact hst)
  have hs : ((gs.map (woken P g g' w')).setIfInBounds i g').size = gs.size := by simp
  have hd : ∀ j, j ≠ i → Deaf (t ++ MemOp.ofEvents i g.frame.fn g.frame.place es) j = Deaf t j := fun j hj => Deaf_other t (fun e => hj e.symm) _ (fun op hop => by obtain ⟨e, _, rfl⟩ := Conc.mem_ofEvents hop; rfl)
  have hdi : Deaf (t ++ MemOp.ofEvents i g.frame.fn g.frame.place es) i = deafBehind (Deaf t i) es := Deaf_own _ _ _ _ _
  have hkp := h.keep ok hd hu
  have hlf : ∀ zs : Nat → YW P, lft c z0' zs gs.size = lft c z0 zs gs.size := fun zs => by unfold lft; rw [e1]
  have htt : ∀ (zs : Nat → YW P) ct, tot c z0' zs gs.size ct = tot c z0 zs gs.size ct := fun zs ct => by unfold tot; rw [hlf, e5]
  refine ⟨_, w', _, z0', upd' zs i z', ct', fnd', blk', hr, ⟨by rw [hs, e1]; exact h.sz, ⟨woken P g g' w' a, ?_, k2.keep ok⟩, fun j x g1 g2 => ?_, fun j g1 g2 => ?_, ?_, fun j g1 g2 => ?_, fun j g1 => ?_, ?_, by rw [hs]; exact hov, fun j k E s g1 g2 g3 => ?_, by rw [hs]; exact mem, by rw [hs]; exact tr⟩, ?_⟩
  · rw [Array.getElem?_setIfInBounds_ne (by omega), Array.getElem?_map, h1]; rfl
  · by_cases e : j = i
    · subst e
      rw [Array.getElem?_setIfInBounds_self_of_lt (by simpa using his)] at g2
      cases g2
      rw [upd'_same, hdi]; exact st
    · rw [Array.getElem?_setIfInBounds_ne (fun e' => e e'.symm), Array.getElem?_map] at g2
      obtain ⟨y, hy, rfl⟩ := Option.map_eq_some_iff.1 g2
      rw [upd'_ne _ _ e, h.quiet j y g1 hy]
      exact hkp j y g1 e hy
  · by_cases e : j = i
    · subst e; rw [upd'_same]; exact ho g2
    · rw [upd'_ne _ _ e]; exact h.old j g1 g2
  · rw [hd 0 (by omega), e3]; exact h.df0
  · rw [hs] at g2
    by_cases e : j = i
    · subst e; rw [upd'_same, hdi]; exact hdw g1
    · rw [upd'_ne _ _ e, hd j e]; exact h.dfW j g1 g2
  · rw [hs] at g1
    rw [hd j (by omega)]; exact h.dfA j g1
  · rw [hs]
    exact hwg z0' k1 fun e => (k3 e).2
  · rw [hs] at g2
    by_cases e' : j = i
    · subst e'; rw [upd'_same] at g3; exact hsh k E s g3
    · rw [upd'_ne _ _ e'] at g3; exact h.shr j k E s g1 g2 g3
  · rw [hs]
    rcases hm with hm | ⟨hm, hm2⟩
    · exact me2_1 (by rw [htt]; exact hm)
    · exact me2_w his (by rw [htt]; exact hm) e6 hm2
/-- A step of goroutine 0's. -/
theorem Pool2.move0 (h : Pool2 S Sn gs w t z0 zs ct fnd blk) (hg : gs[0]? = some g) (hst : stepG P true g w = .go g' w' es) (ok : Ok2 c tW tT w') (st : T0 S z0' g' w') (e1 : spawned2 c z0' = spawned2 c z0) (hd0 : deafBehind (deaf0 z0) es = deaf0 z0') (hk : ∀ q, q ≠ c.C2 → w'.heap[q]? = w.heap[q]?) (hse : w'.heap.size = w.heap.size ∧ w'.os = w.os ∧ w'.output = w.output)
    (hwg : WgS c tW z0' zs gs.size w') (tr : Tr2 c Sn zs gs.size fnd blk w'.heap.size (t ++ MemOp.ofEvents 0 g.frame.fn g.frame.place es)) (hm : Me2Lt P (me2 c z0' zs gs.size ct) (me2 c z0 zs gs.size ct)) : Moves2 S Sn gs w t z0 zs ct 0 := fun sl => by
  have his := idx_lt hg
  have hs1 := S.s1
  have hc := S.d1
  have hr := runT_crowd_go (P := P) (sl := sl) (i := 0) hg (show stepG P (0 == 0) g w = _ from hst)
  have hq : (gs.map (woken P g g' w')).setIfInBounds 0 g' = gs.setIfInBounds 0 g' := map_set_same fun j x hj hx => h.quiet j x (by omega) hx
  rw [hq] at hr
  have hs : (gs.setIfInBounds 0 g').size = gs.size := by simp
  have hd : ∀ j, j ≠ 0 → Deaf (t ++ MemOp.ofEvents 0 g.frame.fn g.frame.place es) j = Deaf t j := fun j hj => Deaf_other t (fun e => hj e.symm) _ (fun op hop => by obtain ⟨e, _, rfl⟩ := Conc.mem_ofEvents hop; rfl)
  have hkp := h.keep (i := 0) ok hd (fun j q a1 a2 _ a3 => hk q (by have := (h.mem.us1 j q a1 a2 a3).1; omega))
  refine ⟨_, w', _, z0', zs, ct, fnd, blk, hr, ⟨by rw [hs, e1]; exact h.sz, ⟨g', Array.getElem?_setIfInBounds_self_of_lt his, st⟩, fun j x g1 g2 => ?_, h.old, by rw [Deaf_own, h.df0]; exact hd0, fun j g1 g2 => ?_, fun j g1 => ?_, by rw [hs]; exact hwg, by rw [hs]; exact h.ovr, fun j k E s g1 g2 => h.shr j k E s g1 (hs ▸ g2), ?_, by rw [hs]; exact tr⟩, by rw [hs]; exact hm⟩
  · rw [Array.getElem?_setIfInBounds_ne (by omega)] at g2
    exact hkp j x g1 (by omega) g2
  · rw [hs] at g2
    rw [hd j (by omega)]; exact h.dfW j g1 g2
  · rw [hs] at g1
    rw [hd j (by omega)]; exact h.dfA j g1
  · rw [hs]
    exact h.mem.turn hk hse ⟨fun e => hc.2.2.2.2.2 e.symm, hc.2.2.2.1, hc.2.1⟩ (fun _ _ _ _ => Iff.rfl) (fun _ _ _ _ h => h)
end
end Go.Proofs.Ytpdemelchhkfaaa.Cs

/-
  The other pool's moves: a worker walks on, or leaves.
-/
namespace Go.Proofs.Ytpdemelchhkfaaa.Cs
open Go.Conc
open Go.ConcN (sumTo sumTo_congr)
open Go.ConcR (KK WgAt wgBlock stA smA rd wr mk)
section
variable {P : Program} {c : Cst} {tW : TypeId} {z0 z0' : Y0} {zs : Nat → YW P} {z' : YW P} {n i ct ct' : Nat} {w w' : World}
theorem lft_le (hi : i < n) (hb : bef z' ≤ bef (zs i)) : lft c z0 (upd' zs i z') n ≤ lft c z0 zs n := by
  have := sum_upd (befF c) zs z' hi
  have e : befF c i z' ≤ befF c i (zs i) := by unfold befF; split <;> omega
  unfold lft
  omega
theorem lft_eq (hi : i < n) (hb : bef z' = bef (zs i)) : lft c z0 (upd' zs i z') n = lft c z0 zs n := by
  have := sum_upd (befF c) zs z' hi
  have e : befF c i z' = befF c i (zs i) := by unfold befF; rw [hb]
  unfold lft
  omega
theorem tot_less (hi : i < n) (hb : bef z' ≤ bef (zs i)) (hq : 11 * (c.K - took c ct') + qW z' < 11 * (c.K - took c ct) + qW (zs i)) : tot c z0 (upd' zs i z') n ct' < tot c z0 zs n ct := by
  have h1 := sum_upd (fun _ z => qW z) zs z' hi
  have h2 := q0_mono (c := c) (z0 := z0) (lft_le (c := c) (z0 := z0) hi hb)
  unfold tot
  omega
theorem tot_same (hi : i < n) (hb : bef z' = bef (zs i)) (hq : qW z' = qW (zs i)) : tot c z0 (upd' zs i z') n ct = tot c z0 zs n ct := by
  have h1 := sum_upd (fun _ z => qW z) zs z' hi
  unfold tot
  rw [lft_eq hi hb]
  omega
theorem out_same (hi : i < n) (ho : outN z' = outN (zs i)) : sumTo n (fun j => outF c j (upd' zs i z' j)) = sumTo n (fun j => outF c j (zs j)) := by
  have h1 := sum_upd (outF c) zs z' hi
  have e : outF c i z' = outF c i (zs i) := by unfold outF; rw [ho]
  omega
theorem out_keep (hi : i < n) (ho : outN z' = outN (zs i)) (h : OutOk c zs n ct) : OutOk c (upd' zs i z') n ct := by
  refine ⟨by rw [out_same hi ho]; exact h.1, fun j h1 h2 h3 => ?_⟩
  by_cases e : j = i
  · subst e; rw [upd'_same, ho] at h3; exact h.2 j h1 h2 h3
  · rw [upd'_ne _ _ e] at h3; exact h.2 j h1 h2 h3
theorem noCl_same (h : NoCl c zs n) (hc : closing z' → closing (zs i)) : NoCl c (upd' zs i z') n := fun j h1 h2 => by
  by_cases e : j = i
  · subst e; rw [upd'_same]; exact fun e => h j h1 h2 (hc e)
  · rw [upd'_ne _ _ e]; exact h j h1 h2
/-- What the group holds is not changed by who walks. -/
theorem WgS.sameW (h : WgS c tW z0 zs n w) (hz : z0' = z0 ∨ (z0 = .w3b ∧ z0' = .w3 0)) (hi : i < n) (hb : bef z' = bef (zs i)) (hc : closing z' ↔ closing (zs i)) (hs : isSe z' ↔ isSe (zs i)) (hw : w'.heap[c.C2]? = w.heap[c.C2]?) : WgS c tW z0' (upd' zs i z') n w' := by
  obtain ⟨e1, e2, _, e4, _, _⟩ := woke_same (P := P) (c := c) hz
  have hl : lft c z0' (upd' zs i z') n = lft c z0 zs n := by
    rw [← lft_eq (c := c) (z0 := z0) hi hb]
    unfold lft
    rw [e1]
  refine WgS.keep (w := w) ?_ hw
  cases h with
  | run hn hp hr hw => exact .run (noCl_same hn hc.1) (fun e => hp (e4.1 e)) (by
      rw [hl, e2]
      refine ⟨hr.1, fun u m e => ?_⟩
      rcases hz with e' | ⟨_, e'⟩
      · exact hr.2 u m (e' ▸ e)
      · rw [e'] at e; cases e) (by rw [hl, e2]; exact hw)
  | cls j hj hs' hcj hu hr hlf hw =>
    have hup : ∀ Q : YW P → Prop, (Q z' ↔ Q (zs i)) → (Q (upd' zs i z' j) ↔ Q (zs j)) := fun Q hQ => by
      by_cases e : j = i
      · subst e; rw [upd'_same]; exact hQ
      · rw [upd'_ne _ _ e]
    refine .cls j hj hs' ((hup closing hc).2 hcj) (fun k k1 k2 k3 => ?_) (by rw [e2]; exact hr) (by rw [hl]; exact hlf) ⟨fun e => hw.1 ((hup isSe hs).1 e), fun e => hw.2 fun e' => e ((hup isSe hs).2 e')⟩
    by_cases e : k = i
    · subst e; rw [upd'_same]; exact fun e => hu k k1 k2 k3 (hc.1 e)
    · rw [upd'_ne _ _ e]; exact hu k k1 k2 k3
  | rls hn hlf hr hb' hw =>
    have e : z0' = z0 := by
      rcases hz with e | ⟨e, _⟩
      · exact e
      · exact absurd e hb'
    exact .rls (noCl_same hn hc.1) (by rw [hl]; exact hlf) (by rw [e2]; exact hr) (by rw [e]; exact hb') hw
  | pst hn hlf hp hw => exact .pst (noCl_same hn hc.1) (by rw [hl]; exact hlf) (e4.2 hp) hw
theorem told_upd (h : told z' → told (zs i)) : ∀ j, told (upd' zs i z' j) → told (zs j) := fun j hj => by
  by_cases e : j = i
  · subst e; rw [upd'_same] at hj; exact h hj
  · rw [upd'_ne _ _ e] at hj; exact hj
end
variable [Fns]
section
variable {P : Program} {c : Cst} {tW tT : TypeId} {F : Nat → Value} {Sn : Nat → Prop} {S : Scr2 P c tW tT F}
variable {gs gs' : Array Goroutine} {w w' : World} {t t' : Trace} {z0 z0' : Y0} {zs : Nat → YW P} {ct ct' i : Nat} {fnd fnd' blk blk' : Nat → Option Nat} {g g' : Goroutine} {z' : YW P} {es : Array Event}
omit [Fns] in
/-- Places of the pool's own sync blocks are nobody's. -/
theorem sn_own (hSn : ∀ b, Sn b → b < c.N1 ∧ b ≠ c.Fd) : ∀ l, snL Sn l → ownOf c fnd blk l = none := fun l hl => by
  cases l with
  | cell a => have := hSn _ hl; simp only [ownOf, if_neg this.2, if_pos this.1]
  | obj q => have := hSn _ hl; simp only [ownOf, if_pos this.1]
  | _ => rfl
omit [Fns] in
/-- Reads of what nobody writes. -/
theorem Tr2.reads {zs' : Nat → YW P} {top size size' : Nat} {fn : FuncId} {pos : String} (h : Tr2 c Sn zs top fnd blk size t) (hSn : ∀ b, Sn b → b < c.N1 ∧ b ≠ c.Fd) (hFx : ∀ b, Sn b → ¬ c.Fix b) (hi : i = 0 ∨ (c.S0 ≤ i ∧ i < top)) (hes : ∀ e ∈ es, ∃ a : Addr, e = ⟨.cell a, false, false⟩ ∧ c.Fix a.block) (hN : c.N1 ≤ size') (hs : size ≤ size') (hz : ∀ j, told (zs' j) → told (zs j)) (hzi : es = #[] ∨ i = 0 ∨ ¬ told (zs' i)) : Tr2 c Sn zs' top fnd blk size' (t ++ MemOp.ofEvents i fn pos es) := by
  have key : ∀ op ∈ MemOp.ofEvents i fn pos es, op.g = i ∧ ∃ a : Addr, op.act = .access ⟨.cell a, false, false⟩ ∧ c.Fix a.block := fun op hop => by
    obtain ⟨e, he, rfl⟩ := Conc.mem_ofEvents hop
    obtain ⟨a, rfl, ha⟩ := hes e he
    exact ⟨rfl, a, rfl, ha⟩
  refine h.own (sn_own hSn) hi (fun op hop => ?_) hs (fun op hop b hb => ?_) (fun op hop b ad hb hl hd => ?_) (fun op hop => ?_) hz ?_
  · obtain ⟨h1, a, h2, h3⟩ := key op hop
    refine ⟨h1, fun b hb => .inr ?_⟩
    rw [h2] at hb
    cases hb
    exact ⟨fun e => hFx _ e h3, .inr ⟨by simp only [ownOf, if_neg h3.2.1, if_pos h3.1], rfl⟩⟩
  · obtain ⟨h1, a, h2, h3⟩ := key op hop
    rw [h2] at hb
    cases hb
    exact Nat.lt_of_lt_of_le h3.1 hN
  · obtain ⟨h1, a, h2, h3⟩ := key op hop
    rw [h2] at hb
    cases hb
    cases hl
    exact absurd hd h3.2.1
  · obtain ⟨_, a, h2, _⟩ := key op hop
    rw [h2]
    exact fun e => by cases e
  · rcases hzi with rfl | h1 | h1
    · exact .inl fun j x b hj hx => by
        have e : MemOp.ofEvents i fn pos #[] = #[] := rfl
        rw [e, Array.append_empty, Array.getElem?_eq_none hj] at hx
        cases hx
    · exact .inr (.inl h1)
    · exact .inr (.inr h1)
omit [Fns] in
theorem dq_still {c : Cst} (h : DQ c w w' es) (d : Nat) : deafBehind d es = d := deafBehind_still (fun e he => by
  obtain ⟨a, rfl, _⟩ := h.evs e he
  exact ⟨(fun e => by cases e), (fun e => by cases e)⟩) d
omit [Fns] in
theorem dq_ok {c : Cst} (h : DQ c w w' es) (ok : Ok2 c tW tT w) : Ok2 c tW tT w' :=
  ⟨ok.ok.keep (fun q _ => by rw [h.heap]) (by rw [h.heap]) (by rw [h.heap]; exact Nat.le_refl _) ⟨h.os, h.output⟩, by obtain ⟨k, hk⟩ := ok.tk; exact ⟨k, by unfold TkAt at hk ⊢; rw [h.heap]; exact hk⟩, by obtain ⟨a, b, hk⟩ := ok.wg; exact ⟨a, b, by unfold WgAt at hk ⊢; rw [h.heap]; exact hk⟩⟩
end
end Go.Proofs.Ytpdemelchhkfaaa.Cs
