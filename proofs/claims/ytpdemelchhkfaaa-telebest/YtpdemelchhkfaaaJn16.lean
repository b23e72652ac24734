/-
  Several texts, joined: CwD, CwE.
-/
import Derived.Test.YtpdemelchhkfaaaJn15
/-
  The other pool: places that become somebody's; one more is started. What is held of memory.
-/
namespace Go.Proofs.Ytpdemelchhkfaaa.Cs
open Go.Conc
open Go.ConcN (sumTo sumTo_congr)
open Go.ConcR (KK WgAt wgBlock stA smA rd wr mk)
section
variable {P : Program} {c : Cst} {Sn : Nat → Prop} {zs zs' : Nat → YW P} {top : Nat} {fnd blk : Nat → Option Nat} {size size' : Nat} {t u : Trace}
/-- New blocks are whose they are. -/
theorem Tr2.newBlk {blk' : Nat → Option Nat} {i : Nat} (h : Tr2 c Sn zs top fnd blk size t) (hb : ∀ q, blk' q = blk q ∨ (size ≤ q ∧ blk' q = some i)) : Tr2 c Sn zs top fnd blk' size t := by
  have same : ∀ l, ownOf c fnd blk' l = ownOf c fnd blk l ∨ ∀ j a, touchAt t j = some a → a.loc ≠ l := fun l => by
    cases l with
    | cell ad =>
      by_cases e1 : ad.block = c.Fd
      · left; simp only [ownOf, if_pos e1]
      · by_cases e2 : ad.block < c.N1
        · left; simp only [ownOf, if_neg e1, if_pos e2]
        · rcases hb ad.block with h1 | ⟨h1, _⟩
          · left; simp only [ownOf, if_neg e1, if_neg e2, h1]
          · right
            intro j a ha hl
            have := h.low j a ha
            rw [hl] at this
            have : ad.block < size := this
            omega
    | obj q =>
      by_cases e2 : q < c.N1
      · left; simp only [ownOf, if_pos e2]
      · rcases hb q with h1 | ⟨h1, _⟩
        · left; simp only [ownOf, if_neg e2, h1]
        · right
          intro j a ha hl
          have := h.low j a ha
          rw [hl] at this
          have : q < size := this
          omega
    | _ => exact .inl rfl
  refine ⟨h.ti.turn (fun l g hl => ?_) (fun l hl => ?_), h.low, h.fdT, h.kn, h.nor⟩
  · rcases same l with h1 | h1
    · exact .inl (by rw [← h1]; exact hl)
    · exact .inr (.inl h1)
  · rcases same l with h1 | h1
    · exact .inl (by rw [← h1]; exact hl)
    · exact .inr h1
/-- A job is handed out: its place in the row is the worker's. -/
theorem Tr2.give {k i : Nat} (h : Tr2 c Sn zs top fnd blk size t) (hk : fnd k = none) : Tr2 c Sn zs top (upd' fnd k (some i)) blk size t := by
  have same : ∀ l, ownOf c (upd' fnd k (some i)) blk l = ownOf c fnd blk l ∨ ∀ j a, touchAt t j = some a → a.loc ≠ l := fun l => by
    cases l with
    | cell ad =>
      by_cases e1 : ad.block = c.Fd
      · by_cases e2 : ad.off = k
        · right
          intro j a ha hl
          obtain ⟨i', h1⟩ := h.fdT j a ad ha hl e1
          rw [e2, hk] at h1
          cases h1
        · left; simp only [ownOf, if_pos e1, upd'_ne _ _ e2]
      · left; simp only [ownOf, if_neg e1]
    | _ => exact .inl rfl
  refine ⟨h.ti.turn (fun l g hl => ?_) (fun l hl => ?_), h.low, fun j a ad h1 h2 h3 => ?_, h.kn, h.nor⟩
  · rcases same l with h1 | h1
    · exact .inl (by rw [← h1]; exact hl)
    · exact .inr (.inl h1)
  · rcases same l with h1 | h1
    · exact .inl (by rw [← h1]; exact hl)
    · exact .inr h1
  · obtain ⟨i', h4⟩ := h.fdT j a ad h1 h2 h3
    by_cases e2 : ad.off = k
    · exact ⟨i, by rw [e2, upd'_same]⟩
    · exact ⟨i', by rw [upd'_ne _ _ e2]; exact h4⟩
/-- One more is started. -/
theorem Tr2.fork {x y : MemOp} {m : Nat} (h : Tr2 c Sn zs top fnd blk size t) (h0 : Deaf t 0 = 0) (ht : Deaf t top = 0) (hx : x.g = 0 ∧ x.act = .go top) (hy : y.g = top ∧ y.act = .start) : Tr2 c Sn (upd' zs top (.st m)) (top + 1) fnd blk size (t ++ #[x, y]) := by
  have hn : ∀ op ∈ (#[x, y] : Trace), op.act.touch? = none := fun op hop => by
    simp at hop
    rcases hop with rfl | rfl
    · rw [hx.2]; rfl
    · rw [hy.2]; rfl
  have hr : ∀ op ∈ (#[x, y] : Trace), isRel op.act ≠ true := fun op hop => by
    simp at hop
    rcases hop with rfl | rfl
    · rw [hx.2]; exact fun e => by cases e
    · rw [hy.2]; exact fun e => by cases e
  have h1 := h.mute (zs' := zs) hn hr (Nat.le_refl _) (fun _ hj => hj)
  refine ⟨⟨h1.ti.clean, h1.ti.mine, fun l hl hs g hg j a ha hal haw => ?_, h1.ti.shn⟩, h1.low, h1.fdT, fun j z a hz ha hs => ?_, h1.nor⟩
  · by_cases e : g = top
    · subst e
      obtain ⟨z, hz, hza⟩ := touch_of ha
      have hz' := mute_keep hn hz hza
      exact Go.ConcN.fork_knows hx hy h0 ht (h.ti.read l hl hs 0 (.inl rfl) j a (by rw [touchAt_of hz']; exact hza) hal haw)
    · exact h1.ti.read l hl hs g (by rcases hg with h2 | ⟨h2, h3⟩; exact .inl h2; exact .inr ⟨h2, by omega⟩) j a ha hal haw
  · rcases h1.kn j z a hz ha hs with k1 | ⟨k1, k2, k3⟩
    · exact .inl k1
    · exact .inr ⟨k1, by omega, fun e => k3 (by rw [upd'_ne _ _ (show z.g ≠ top by omega)] at e; exact e)⟩
end
section
variable {P : Program} {c : Cst} {tW tT : TypeId} {F : Nat → Value}
/-- Numbers that are taken: so many jobs are handed out. -/
def took (c : Cst) (k : Nat) : Nat := min k c.K
structure Mem2 (P : Program) (c : Cst) (tT : TypeId) (F : Nat → Value) (zs : Nat → YW P) (top ct : Nat) (fnd blk : Nat → Option Nat) (w : World) : Prop where
  ok : c.Ok w
  tk : TkAt c tT w ct
  jb0 : ∀ k, took c ct ≤ k → fnd k = none
  jb1 : ∀ k, k < took c ct → ∃ i, c.S0 ≤ i ∧ i < top ∧ fnd k = some i
  jb2 : ∀ i k, c.S0 ≤ i → i < top → holds2 (zs i) k → k < took c ct ∧ fnd k = some i
  jb3 : ∀ k i, fnd k = some i → ¬ holds2 (zs i) k → w.cell? ⟨c.Fd, k, none⟩ = some (F k)
  us1 : ∀ i q, c.S0 ≤ i → i < top → inUse2 (zs i) q → c.N1 ≤ q ∧ q < w.heap.size ∧ blk q = some i
  us4 : ∀ q i, blk q = some i → c.N1 ≤ q ∧ q < w.heap.size
variable {zs zs' : Nat → YW P} {top ct : Nat} {fnd blk : Nat → Option Nat} {w w' : World}
/-- Nothing of memory has changed that anybody holds: phases that hold alike. -/
theorem Mem2.turn (h : Mem2 P c tT F zs top ct fnd blk w) (hk : ∀ q, q ≠ c.C2 → w'.heap[q]? = w.heap[q]?) (hse : w'.heap.size = w.heap.size ∧ w'.os = w.os ∧ w'.output = w.output) (hC : c.Fd ≠ c.C2 ∧ c.C1 ≠ c.C2 ∧ c.C2 < c.N1)
    (hh : ∀ i k, c.S0 ≤ i → i < top → (holds2 (zs' i) k ↔ holds2 (zs i) k)) (hu : ∀ i q, c.S0 ≤ i → i < top → inUse2 (zs' i) q → inUse2 (zs i) q) : Mem2 P c tT F zs' top ct fnd blk w' := by
  obtain ⟨hs, he⟩ := hse
  have hfx : ∀ q, c.Fix q → w'.heap[q]? = w.heap[q]? := fun q hq => hk q hq.2.2.2.1
  have hfd : w'.heap[c.Fd]? = w.heap[c.Fd]? := hk _ hC.1
  have hin : ∀ k i, fnd k = some i → c.S0 ≤ i ∧ i < top := fun k i e => by
    by_cases hks : k < took c ct
    · obtain ⟨i', h1, h2, h3⟩ := h.jb1 k hks
      rw [e] at h3
      cases h3
      exact ⟨h1, h2⟩
    · rw [h.jb0 k (by omega)] at e; cases e
  refine ⟨h.ok.keep hfx hfd (by omega) he, ?_, h.jb0, h.jb1, fun i k h1 h2 h3 => h.jb2 i k h1 h2 ((hh i k h1 h2).1 h3), fun k i h1 h2 => ?_, fun i q h1 h2 h3 => ?_, fun q i h1 => ?_⟩
  · unfold TkAt
    rw [hk _ hC.2.1]
    exact h.tk
  · obtain ⟨ha, hb⟩ := hin k i h1
    rw [← h.jb3 k i h1 (fun e => h2 ((hh i k ha hb).2 e))]
    unfold World.cell?
    rw [hfd]
  · rw [hs]; exact h.us1 i q h1 h2 (hu i q h1 h2 h3)
  · rw [hs]; exact h.us4 q i h1
end
end Go.Proofs.Ytpdemelchhkfaaa.Cs

/-
  The other pool's memory, move by move: a number is taken; a job goes on; what came out is stored; one more is started.
-/
namespace Go.Proofs.Ytpdemelchhkfaaa.Cs
open Go.Conc
open Go.ConcR (KK WgAt wgBlock stA smA rd wr mk)
section
variable {P : Program} {c : Cst} {tT : TypeId} {F : Nat → Value} {zs zs' : Nat → YW P} {top ct : Nat} {fnd blk : Nat → Option Nat} {w w' : World}
theorem Mem2.inn (h : Mem2 P c tT F zs top ct fnd blk w) {k i : Nat} (e : fnd k = some i) : c.S0 ≤ i ∧ i < top := by
  by_cases hks : k < took c ct
  · obtain ⟨i', h1, h2, h3⟩ := h.jb1 k hks
    rw [e] at h3
    cases h3
    exact ⟨h1, h2⟩
  · rw [h.jb0 k (by omega)] at e; cases e
theorem tk_set (h : TkAt c tT w ct) : TkAt c tT (w.setCell ⟨c.C1, 0, none⟩ (.int .i64 ((ct + 1 : Nat) : Int))) (ct + 1) := by
  unfold TkAt at h ⊢
  unfold World.setCell
  simp only [Array.getElem?_modify, h]
  simp
theorem setCell_size (w : World) (a : Addr) (v : Value) : (w.setCell a v).heap.size = w.heap.size := World.size_setCell w a v
/-- A worker takes a number: a job, or that none is left. -/
theorem Mem2.take (h : Mem2 P c tT F zs top ct fnd blk w) (hC : c.Fd ≠ c.C1 ∧ c.C1 < c.N1) {i : Nat} {z' : YW P} (hi : c.S0 ≤ i) (hit : i < top) (hz0 : ∀ k, ¬ holds2 (zs i) k) (hz : ∀ k, holds2 z' k ↔ (ct < c.K ∧ k = ct)) (hu : ∀ q, ¬ inUse2 z' q) :
    Mem2 P c tT F (upd' zs i z') top (ct + 1) (if ct < c.K then upd' fnd ct (some i) else fnd) blk (w.setCell ⟨c.C1, 0, none⟩ (.int .i64 ((ct + 1 : Nat) : Int))) := by
  have hk : ∀ q, q ≠ c.C1 → (w.setCell ⟨c.C1, 0, none⟩ (.int .i64 ((ct + 1 : Nat) : Int))).heap[q]? = w.heap[q]? := fun q hq => heap_setCell_other w ⟨c.C1, 0, none⟩ q _ hq
  have hs := setCell_size w ⟨c.C1, 0, none⟩ (.int .i64 ((ct + 1 : Nat) : Int))
  have ht : took c (ct + 1) = if ct < c.K then ct + 1 else c.K := by unfold took; split <;> omega
  have ht0 : took c ct = if ct < c.K then ct else c.K := by unfold took; split <;> omega
  have hcell : ∀ k, (w.setCell ⟨c.C1, 0, none⟩ (.int .i64 ((ct + 1 : Nat) : Int))).cell? ⟨c.Fd, k, none⟩ = w.cell? ⟨c.Fd, k, none⟩ := fun k => by
    unfold World.cell?
    rw [hk _ hC.1]
  refine ⟨h.ok.keep (fun q hq => hk q hq.2.2.1) (hk _ hC.1) (by omega) ⟨rfl, rfl⟩, tk_set h.tk, fun k h1 => ?_, fun k h1 => ?_, fun j k h1 h2 h3 => ?_, fun k j h1 h2 => ?_, fun j q h1 h2 h3 => ?_, fun q j h1 => ?_⟩
  · by_cases e : ct < c.K
    · rw [if_pos e, upd'_ne _ _ (by rw [ht, if_pos e] at h1; omega)]
      exact h.jb0 k (by rw [ht0, if_pos e]; rw [ht, if_pos e] at h1; omega)
    · rw [if_neg e]
      exact h.jb0 k (by rw [ht0, if_neg e]; rw [ht, if_neg e] at h1; omega)
  · by_cases e : ct < c.K
    · rw [if_pos e]
      by_cases ek : k = ct
      · exact ⟨i, hi, hit, by rw [ek, upd'_same]⟩
      · rw [upd'_ne _ _ ek]
        exact h.jb1 k (by rw [ht0, if_pos e]; rw [ht, if_pos e] at h1; omega)
    · rw [if_neg e]
      exact h.jb1 k (by rw [ht0, if_neg e]; rw [ht, if_neg e] at h1; omega)
  · by_cases ej : j = i
    · subst ej
      rw [upd'_same] at h3
      obtain ⟨e1, e2⟩ := (hz k).1 h3
      rw [ht, if_pos e1, if_pos e1, e2, upd'_same]
      exact ⟨by omega, rfl⟩
    · rw [upd'_ne _ _ ej] at h3
      obtain ⟨k1, k2⟩ := h.jb2 j k h1 h2 h3
      by_cases e : ct < c.K
      · rw [ht0, if_pos e] at k1
        rw [ht, if_pos e, if_pos e, upd'_ne _ _ (by omega)]
        exact ⟨by omega, k2⟩
      · rw [ht0, if_neg e] at k1
        rw [ht, if_neg e, if_neg e]
        exact ⟨k1, k2⟩
  · rw [hcell]
    by_cases e : ct < c.K ∧ k = ct
    · rw [if_pos e.1, e.2, upd'_same] at h1
      cases h1
      rw [upd'_same] at h2
      exact absurd ((hz k).2 e) h2
    · have h1' : fnd k = some j := by
        by_cases e1 : ct < c.K
        · rw [if_pos e1, upd'_ne _ _ (fun e2 => e ⟨e1, e2⟩)] at h1; exact h1
        · rw [if_neg e1] at h1; exact h1
      refine h.jb3 k j h1' fun e2 => h2 ?_
      by_cases ej : j = i
      · subst ej; exact absurd e2 (hz0 k)
      · rw [upd'_ne _ _ ej]; exact e2
  · by_cases ej : j = i
    · subst ej
      rw [upd'_same] at h3
      exact absurd h3 (hu q)
    · rw [upd'_ne _ _ ej] at h3
      rw [hs]
      exact h.us1 j q h1 h2 h3
  · rw [hs]; exact h.us4 q j h1
/-- What came out is stored. -/
theorem Mem2.store (h : Mem2 P c tT F zs top ct fnd blk w) (hC : c.C1 ≠ c.Fd) {i k : Nat} {z' : YW P} (hi : c.S0 ≤ i) (hit : i < top) (hz0 : ∀ j, holds2 (zs i) j ↔ k = j) (hz : ∀ j, ¬ holds2 z' j) (hu : ∀ q, ¬ inUse2 z' q) (hkK : k < c.K) :
    Mem2 P c tT F (upd' zs i z') top ct fnd blk (w.setCell ⟨c.Fd, k, none⟩ (F k)) := by
  have hk : ∀ q, q ≠ c.Fd → (w.setCell ⟨c.Fd, k, none⟩ (F k)).heap[q]? = w.heap[q]? := fun q hq => heap_setCell_other w ⟨c.Fd, k, none⟩ q _ hq
  have hs := setCell_size w ⟨c.Fd, k, none⟩ (F k)
  obtain ⟨cs, hcs, hsz⟩ := h.ok.fd
  have hnew : (w.setCell ⟨c.Fd, k, none⟩ (F k)).heap[c.Fd]? = some (.cells (cs.setIfInBounds k (F k)) c.TF (0, 0)) := by
    unfold World.setCell
    simp only [Array.getElem?_modify, hcs]
    simp
  have hcell : ∀ j, (w.setCell ⟨c.Fd, k, none⟩ (F k)).cell? ⟨c.Fd, j, none⟩ = if j = k then some (F k) else w.cell? ⟨c.Fd, j, none⟩ := fun j => by
    rw [cell_of_row _ c.Fd j _ c.TF (0, 0) hnew, cell_of_row _ c.Fd j _ c.TF (0, 0) hcs]
    by_cases e : j = k
    · rw [if_pos e, e, Array.getElem?_setIfInBounds_self_of_lt (by omega)]
    · rw [if_neg e, Array.getElem?_setIfInBounds_ne (fun e' => e e'.symm)]
  refine ⟨⟨fun q hq => (hk q hq.2.1).trans (h.ok.fix q hq), ⟨_, hnew, by rw [Array.size_setIfInBounds]; exact hsz⟩, by rw [hs]; exact h.ok.big, h.ok.env⟩, ?_, h.jb0, h.jb1, fun j k' h1 h2 h3 => ?_, fun k' j h1 h2 => ?_, fun j q h1 h2 h3 => ?_, fun q j h1 => ?_⟩
  · unfold TkAt
    rw [hk _ hC]
    exact h.tk
  · by_cases ej : j = i
    · subst ej; rw [upd'_same] at h3; exact absurd h3 (hz k')
    · rw [upd'_ne _ _ ej] at h3; exact h.jb2 j k' h1 h2 h3
  · rw [hcell]
    by_cases e : k' = k
    · rw [if_pos e, e]
    · rw [if_neg e]
      refine h.jb3 k' j h1 fun e2 => h2 ?_
      by_cases ej : j = i
      · subst ej; exact absurd ((hz0 k').1 e2) (fun e3 => e e3.symm)
      · rw [upd'_ne _ _ ej]; exact e2
  · by_cases ej : j = i
    · subst ej; rw [upd'_same] at h3; exact absurd h3 (hu q)
    · rw [upd'_ne _ _ ej] at h3
      rw [hs]
      exact h.us1 j q h1 h2 h3
  · rw [hs]; exact h.us4 q j h1
/-- One more is started. -/
theorem Mem2.grow (h : Mem2 P c tT F zs top ct fnd blk w) (m : Nat) : Mem2 P c tT F (upd' zs top (.st m)) (top + 1) ct fnd blk w := by
  have hne : ∀ {j}, j ≠ top → upd' zs top (.st m) j = zs j := fun h => upd'_ne _ _ h
  refine ⟨h.ok, h.tk, h.jb0, fun k h1 => ?_, fun j k h1 h2 h3 => ?_, fun k j h1 h2 => ?_, fun j q h1 h2 h3 => ?_, h.us4⟩
  · obtain ⟨i, k1, k2, k3⟩ := h.jb1 k h1
    exact ⟨i, k1, by omega, k3⟩
  · by_cases e : j = top
    · subst e; rw [upd'_same] at h3; exact h3.elim
    · rw [hne e] at h3; exact h.jb2 j k h1 (by omega) h3
  · have := h.inn h1
    refine h.jb3 k j h1 fun e => h2 ?_
    rw [hne (by omega)]
    exact e
  · by_cases e : j = top
    · subst e; rw [upd'_same] at h3; exact h3.elim
    · rw [hne e] at h3; exact h.us1 j q h1 (by omega) h3
end
variable [Fns]
section
variable {P : Program} {c : Cst} {tT : TypeId} {F : Nat → Value} {zs zs' : Nat → YW P} {top ct : Nat} {fnd blk : Nat → Option Nat} {w w' : World}
omit [Fns] in
/-- A call goes on: what is its own changes, and grows. -/
theorem Mem2.call (h : Mem2 P c tT F zs top ct fnd blk w) (hC : c.Fd < c.N1 ∧ c.C1 < c.N1) {i : Nat} (hi : c.S0 ≤ i) (hit : i < top) {E E' : Env} {z' : YW P} (hz : ∀ q, (∃ b s, E b = some (q, s, true)) → inUse2 (zs i) q) (hh : ∀ j, holds2 z' j ↔ holds2 (zs i) j) (hu : ∀ q, inUse2 z' q → ∃ b s, E' b = some (q, s, true)) (hf : FC E E' w w') (hsh : ∀ b q s, E b = some (q, s, false) → c.Fix q) :
    ∃ blk', Mem2 P c tT F (upd' zs i z') top ct fnd blk' w' ∧ (∀ q, blk' q = blk q ∨ (w.heap.size ≤ q ∧ blk' q = some i)) ∧ (∀ b q s, E' b = some (q, s, true) → blk' q = some i) ∧ ∀ b q s, E' b = some (q, s, false) → c.Fix q := by
  have hown : ∀ b q s, E b = some (q, s, true) → c.N1 ≤ q ∧ q < w.heap.size ∧ blk q = some i := fun b q s e => h.us1 i q hi hit (hz q ⟨b, s, e⟩)
  have hkeep : ∀ q, q < w.heap.size → (∀ b s, E b ≠ some (q, s, true)) → w'.heap[q]? = w.heap[q]? := hf.keep
  have hfix : ∀ q, q < c.N1 → w'.heap[q]? = w.heap[q]? := fun q hq => hkeep q (Nat.lt_of_lt_of_le hq h.ok.big) (fun b s e => by have := (hown b q s e).1; omega)
  have hfr : ∀ b q s, E' b = some (q, s, true) → (∃ b s, E b = some (q, s, true)) ∨ w.heap.size ≤ q ∧ q < w'.heap.size := fun b q s e => by
    rcases hf.fresh b q s true e with h1 | ⟨h1, h2, _⟩
    · exact .inl ⟨b, s, h1⟩
    · exact .inr ⟨h1, h2⟩
  classical
  refine ⟨fun q => if ∃ b s, E' b = some (q, s, true) then some i else blk q, ⟨h.ok.keep (fun q hq => hfix q hq.1) (hfix _ hC.1) hf.size ⟨hf.os, hf.output⟩, ?_, h.jb0, h.jb1, fun j k' h1 h2 h3 => ?_, fun k' j h1 h2 => ?_, fun j q h1 h2 h3 => ?_, fun q j h1 => ?_⟩, fun q => ?_, fun b q s e => ?_, fun b q s e => ?_⟩
  · unfold TkAt
    rw [hfix _ hC.2]
    exact h.tk
  · by_cases e : j = i
    · subst e
      rw [upd'_same] at h3
      exact h.jb2 j k' h1 h2 ((hh k').1 h3)
    · rw [upd'_ne _ _ e] at h3
      exact h.jb2 j k' h1 h2 h3
  · have h2' : ¬ holds2 (zs j) k' := fun e => h2 (by
      by_cases ej : j = i
      · subst ej
        rw [upd'_same]
        exact (hh k').2 e
      · rw [upd'_ne _ _ ej]; exact e)
    rw [← h.jb3 k' j h1 h2']
    unfold World.cell?
    rw [hfix _ hC.1]
  · by_cases e : j = i
    · subst e
      rw [upd'_same] at h3
      obtain ⟨b, s, h4⟩ := hu q h3
      refine ⟨?_, ?_, by show (if _ then _ else _) = _; rw [if_pos ⟨b, s, h4⟩]⟩
      · rcases hfr b q s h4 with ⟨b2, s2, h5⟩ | ⟨h5, _⟩
        · exact (hown b2 q s2 h5).1
        · exact Nat.le_trans h.ok.big h5
      · rcases hfr b q s h4 with ⟨b2, s2, h5⟩ | ⟨_, h5⟩
        · exact Nat.lt_of_lt_of_le (hown b2 q s2 h5).2.1 hf.size
        · exact h5
    · rw [upd'_ne _ _ e] at h3
      obtain ⟨h4, h5, h6⟩ := h.us1 j q h1 h2 h3
      refine ⟨h4, Nat.lt_of_lt_of_le h5 hf.size, ?_⟩
      show (if _ then _ else _) = _
      rw [if_neg]
      · exact h6
      · rintro ⟨b, s, h7⟩
        rcases hfr b q s h7 with ⟨b2, s2, h8⟩ | ⟨h8, _⟩
        · have := (hown b2 q s2 h8).2.2
          rw [h6] at this
          injection this with this
          exact e this
        · omega
  · have h1' : (if ∃ b s, E' b = some (q, s, true) then some i else blk q) = some j := h1
    by_cases hq : ∃ b s, E' b = some (q, s, true)
    · obtain ⟨b, s, h4⟩ := hq
      rcases hfr b q s h4 with ⟨b2, s2, h5⟩ | ⟨h5, h6⟩
      · obtain ⟨h6, h7, _⟩ := hown b2 q s2 h5
        exact ⟨h6, Nat.lt_of_lt_of_le h7 hf.size⟩
      · exact ⟨Nat.le_trans h.ok.big h5, h6⟩
    · rw [if_neg hq] at h1'
      obtain ⟨h6, h7⟩ := h.us4 q j h1'
      exact ⟨h6, Nat.lt_of_lt_of_le h7 hf.size⟩
  · show (if ∃ b s, E' b = some (q, s, true) then some i else blk q) = blk q ∨ _ ∧ (if _ then _ else _) = _
    by_cases hq : ∃ b s, E' b = some (q, s, true)
    · rw [if_pos hq]
      obtain ⟨b, s, h4⟩ := hq
      rcases hfr b q s h4 with ⟨b2, s2, h5⟩ | ⟨h5, h6⟩
      · exact .inl (hown b2 q s2 h5).2.2.symm
      · exact .inr ⟨h5, rfl⟩
    · rw [if_neg hq]; exact .inl rfl
  · show (if ∃ b s, E' b = some (q, s, true) then some i else blk q) = some i
    rw [if_pos ⟨b, s, e⟩]
  · rcases hf.fresh b q s false e with h1 | ⟨_, _, h2⟩
    · exact hsh b q s h1
    · cases h2
end
end Go.Proofs.Ytpdemelchhkfaaa.Cs
