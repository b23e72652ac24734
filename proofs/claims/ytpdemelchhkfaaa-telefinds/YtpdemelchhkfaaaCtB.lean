/-
  The pool's state: what holds between any two steps; what one's move leaves of the others.
-/
import Derived.Test.YtpdemelchhkfaaaJn11
import Derived.Conc.Pipeline3
namespace Go.Proofs.Ytpdemelchhkfaaa.Cs
open Go.Conc
open Go.ConcN (sumTo sumTo_congr)
theorem sum_upd {α : Type} (F : Nat → α → Nat) (f : Nat → α) (x : α) {i : Nat} : ∀ {n : Nat}, i < n → sumTo n (fun a => F a (upd' f i x a)) + F i (f i) = sumTo n (fun a => F a (f a)) + F i x
  | n + 1, h => by
    rcases Nat.lt_or_ge i n with hlt | hge
    · have := sum_upd F f x hlt
      simp only [sumTo, upd'_ne f x (show n ≠ i by omega)]
      omega
    · obtain rfl : i = n := by omega
      have : sumTo i (fun a => F a (upd' f i x a)) = sumTo i (fun a => F a (f a)) := sumTo_congr fun a ha => by rw [upd'_ne f x (by omega)]
      simp only [sumTo, upd'_same, this]
      omega
theorem map_set_same {α : Type} {gs : Array α} {i : Nat} {f : α → α} {y : α} (h : ∀ j x, j ≠ i → gs[j]? = some x → f x = x) : (gs.map f).setIfInBounds i y = gs.setIfInBounds i y := by
  apply Array.ext_getElem?
  intro j
  by_cases e : i = j
  · subst e
    by_cases hl : i < gs.size
    · rw [Array.getElem?_setIfInBounds_self_of_lt (by simpa using hl), Array.getElem?_setIfInBounds_self_of_lt hl]
    · rw [Array.getElem?_eq_none (by simpa using hl), Array.getElem?_eq_none (by simpa using hl)]
  · rw [Array.getElem?_setIfInBounds_ne e, Array.getElem?_setIfInBounds_ne e, Array.getElem?_map]
    cases hx : gs[j]? with
    | none => rfl
    | some x => rw [Option.map_some, h j x (fun e' => e e'.symm) hx]
theorem idx_lt {α : Type} {gs : Array α} {i : Nat} {g : α} (hi : gs[i]? = some g) : i < gs.size := (Array.getElem?_eq_some_iff.1 hi).1
theorem closed_sdW {z0 : Z0} : (∃ k, z0 = .sdW k) → closed z0 = false := by rintro ⟨k, rfl⟩; rfl
variable [Fns]
section
variable {P : Program} {c : Cst} {Post : Nat → Value → World → Prop} {S : Scr P c Post}
def lvN : ZW P → Nat
  | .lv _ => 1
  | _ => 0
/-- What a worker may be at while the jobs are not yet all handed out. -/
def early : ZW P → Prop
  | .aw | .fi _ | .fw | .lv _ => False
  | _ => True
def lvF (c : Cst) (i : Nat) (z : ZW P) : Nat := if i < c.S0 then 0 else lvN z
structure Pool (S : Scr P c Post) (gs : Array Goroutine) (w : World) (t : Trace) (z0 : Z0) (zs : Nat → ZW P) (fnd : Nat → Option Nat) (RS : Nat → Nat → Prop) (blk : Nat → Option Nat) : Prop where
  sz : gs.size = c.S0 + spawned c z0
  a0 : ∃ g, gs[0]? = some g ∧ St0 S z0 g w
  wk : ∀ i g, 1 ≤ i → gs[i]? = some g → StW S (zs i) g w
  old : ∀ i, 1 ≤ i → i < c.S0 → ∃ q, zs i = .lv q
  c1 : w.heap[c.C1]? = some (.chan 0 #[] (closed z0) (sent c z0) (sent c z0) false)
  c2 : w.heap[c.C2]? = some (.chan 0 #[] false (rcvd z0) (rcvd z0) false)
  ph1 : closed z0 = true → ∀ i, 1 ≤ i → i < gs.size → zs i ≠ .wt
  ph2 : closed z0 = false → ∀ i, c.S0 ≤ i → i < gs.size → early (zs i)
  nw1 : (∃ k, z0 = .sdW k) → ∀ i, 1 ≤ i → i < gs.size → zs i ≠ .wt
  nw2 : (∃ r, z0 = .rcW r) → ∀ i, 1 ≤ i → i < gs.size → zs i ≠ .fw
  cnt : sumTo gs.size (fun i => lvF c i (zs i)) = rcvd z0
  shr : ∀ i k E s, c.S0 ≤ i → i < gs.size → zs i = .ca k E s → ∀ b q s, E b = some (q, s, false) → c.Fix q
  mem : Mem P c Post zs gs.size (sent c z0) fnd RS blk w
  tr : Tr c zs gs.size fnd blk w.heap.size t
variable {gs : Array Goroutine} {w w' : World} {t : Trace} {z0 : Z0} {zs : Nat → ZW P} {fnd : Nat → Option Nat} {RS : Nat → Nat → Prop} {blk : Nat → Option Nat} {g g' : Goroutine} {z : ZW P}
omit [Fns] in
theorem walk_keep {main : Bool} {Stp : Goroutine → Prop} {m : Nat} (h : Walk P c main Stp m g w) (ok : c.Ok w') : Walk P c main Stp m g w' := Goes.rely (fun _ _ _ _ h => h) h ok
omit [Fns] in
theorem walk_running {main : Bool} {Stp : Goroutine → Prop} {m : Nat} (h : Walk P c main Stp m g w) (ok : c.Ok w) : g.status = .running := Goes.running (fun _ _ h => h.1) w ok h
theorem St0.keep (h : St0 S z0 g w) (ok : c.Ok w') : St0 S z0 g w' := by
  cases z0 with
  | sp j m => exact ⟨h.1, walk_keep h.2 ok⟩
  | sd j m => exact ⟨h.1, walk_keep h.2 ok⟩
  | sdW j => exact h
  | cl m => exact walk_keep (show Walk P c true S.ClP m g w from h) ok
  | rc r m => exact ⟨h.1, walk_keep h.2 ok⟩
  | rcW r => exact h
theorem StW.keep (h : StW S z g w) (ok : c.Ok w') (hE : ∀ k E s, z = .ca k E s → ∀ b x, E b = some x → w'.heap[x.1]? = w.heap[x.1]?) : StW S z g w' := by
  cases z with
  | st m => exact walk_keep (show Walk P c false S.Rec m g w from h) ok
  | wt => exact h
  | aw => exact h
  | pr k m => exact ⟨h.1, walk_keep h.2 ok⟩
  | ca k E s =>
    obtain ⟨h1, cal, rest, h2, h3⟩ := h
    exact ⟨h1, cal, rest, h2.other (hE k E s rfl), h3⟩
  | po k v m => exact ⟨h.1, h.2.1, walk_keep h.2.2 ok⟩
  | fi m => exact walk_keep (show Walk P c false S.Snd m g w from h) ok
  | fw => exact h
  | lv q => exact h
theorem St0.status (h : St0 S z0 g w) (ok : c.Ok w) : g.status = .running ∨ (g.status = .blocked ∧ ((∃ k, z0 = .sdW k) ∨ ∃ r, z0 = .rcW r)) := by
  cases z0 with
  | sp j m => exact .inl (walk_running h.2 ok)
  | sd j m => exact .inl (walk_running h.2 ok)
  | sdW j =>
    obtain ⟨_, g', _, rfl⟩ := h
    exact .inr ⟨rfl, .inl ⟨j, rfl⟩⟩
  | cl m => exact .inl (walk_running (show Walk P c true S.ClP m g w from h) ok)
  | rc r m => exact .inl (walk_running h.2 ok)
  | rcW r =>
    obtain ⟨_, g', _, rfl⟩ := h
    exact .inr ⟨rfl, .inr ⟨r, rfl⟩⟩
theorem StW.status (h : StW S z g w) (ok : c.Ok w) : g.status = .running ∨ (g.status = .blocked ∧ (z = .wt ∨ z = .fw)) ∨ (g.status = .finished ∧ ∃ q, z = .lv q) := by
  cases z with
  | st m => exact .inl (walk_running (show Walk P c false S.Rec m g w from h) ok)
  | wt =>
    obtain ⟨g', _, rfl⟩ := h
    exact .inr (.inl ⟨rfl, .inl rfl⟩)
  | aw =>
    obtain ⟨g', _, rfl⟩ := h
    exact .inl rfl
  | pr k m => exact .inl (walk_running h.2 ok)
  | ca k E s =>
    obtain ⟨_, cal, rest, h2, _⟩ := h
    exact .inl h2.running
  | po k v m => exact .inl (walk_running h.2.2 ok)
  | fi m => exact .inl (walk_running (show Walk P c false S.Snd m g w from h) ok)
  | fw =>
    obtain ⟨g', _, rfl⟩ := h
    exact .inr (.inl ⟨rfl, .inr rfl⟩)
  | lv q =>
    have h' : QuitsIn P q g := h
    rcases h'.status with h1 | h1
    · exact .inl h1
    · exact .inr (.inr ⟨h1, q, rfl⟩)
theorem St0.woken {a a' : Goroutine} (h : St0 S z0 g w) (ok : c.Ok w) (h1 : (∃ k, z0 = .sdW k) → ∃ s r, w'.heap[c.C1]? = some (.chan 0 #[] false s r false)) (h2 : ∃ s r, w'.heap[c.C2]? = some (.chan 0 #[] false s r false)) : Conc.woken P a a' w' g = g := by
  rcases h.status ok with hr | ⟨_, ⟨k, rfl⟩ | ⟨r, rfl⟩⟩
  · exact woken_running hr
  · obtain ⟨_, g', _, rfl⟩ := h
    obtain ⟨s, r, h3⟩ := h1 ⟨k, rfl⟩
    exact woken_send_open _ _ h3
  · obtain ⟨_, g', _, rfl⟩ := h
    obtain ⟨s, r, h3⟩ := h2
    exact woken_recv_open _ _ h3
theorem StW.woken {a a' : Goroutine} (h : StW S z g w) (ok : c.Ok w) (h1 : z = .wt → ∃ s r, w'.heap[c.C1]? = some (.chan 0 #[] false s r false)) (h2 : ∃ s r, w'.heap[c.C2]? = some (.chan 0 #[] false s r false)) : Conc.woken P a a' w' g = g := by
  rcases h.status ok with hr | ⟨_, rfl | rfl⟩ | ⟨_, q, rfl⟩
  · exact woken_running hr
  · obtain ⟨g', _, rfl⟩ := h
    obtain ⟨s, r, h3⟩ := h1 rfl
    exact woken_recv_open _ _ h3
  · obtain ⟨g', _, rfl⟩ := h
    obtain ⟨s, r, h3⟩ := h2
    exact woken_send_open _ _ h3
  · exact woken_quits (show QuitsIn P q g from h)
theorem St0.off (h : St0 S z0 g w) (ok : c.Ok w) (r : Nat) (send : Bool) : offersAt g r send = [] ∨ ((∃ k, z0 = .sdW k) ∧ r = c.C1 ∧ send = true) ∨ ((∃ k, z0 = .rcW k) ∧ r = c.C2 ∧ send = false) := by
  rcases h.status ok with hr | ⟨_, ⟨k, rfl⟩ | ⟨k, rfl⟩⟩
  · exact .inl (offersAt_of_not_blocked (by rw [hr]; exact fun e => by cases e) _ _)
  · obtain ⟨_, g', _, rfl⟩ := h
    cases send with
    | false => exact .inl (offersAt_parked_send' _ _ _ _ _ _)
    | true =>
      by_cases e : r = c.C1
      · exact .inr (.inl ⟨⟨k, rfl⟩, e, rfl⟩)
      · exact .inl (by rw [offersAt_parked_send, if_neg (fun e' => e e'.symm)])
  · obtain ⟨_, g', _, rfl⟩ := h
    cases send with
    | true => exact .inl (offersAt_parked_recv' _ _ _ _ _)
    | false =>
      by_cases e : r = c.C2
      · exact .inr (.inr ⟨⟨k, rfl⟩, e, rfl⟩)
      · exact .inl (by rw [offersAt_parked_recv, if_neg (fun e' => e e'.symm)])
theorem StW.off (h : StW S z g w) (ok : c.Ok w) (r : Nat) (send : Bool) : offersAt g r send = [] ∨ (z = .wt ∧ r = c.C1 ∧ send = false) ∨ (z = .fw ∧ r = c.C2 ∧ send = true) := by
  rcases h.status ok with hr | ⟨_, rfl | rfl⟩ | ⟨hr, _⟩
  · exact .inl (offersAt_of_not_blocked (by rw [hr]; exact fun e => by cases e) _ _)
  · obtain ⟨g', _, rfl⟩ := h
    cases send with
    | true => exact .inl (offersAt_parked_recv' _ _ _ _ _)
    | false =>
      by_cases e : r = c.C1
      · exact .inr (.inl ⟨rfl, e, rfl⟩)
      · exact .inl (by rw [offersAt_parked_recv, if_neg (fun e' => e e'.symm)])
  · obtain ⟨g', _, rfl⟩ := h
    cases send with
    | false => exact .inl (offersAt_parked_send' _ _ _ _ _ _)
    | true =>
      by_cases e : r = c.C2
      · exact .inr (.inr ⟨rfl, e, rfl⟩)
      · exact .inl (by rw [offersAt_parked_send, if_neg (fun e' => e e'.symm)])
  · exact .inl (offersAt_of_not_blocked (by rw [hr]; exact fun e => by cases e) _ _)
section
variable (h : Pool S gs w t z0 zs fnd RS blk)
include h
theorem Pool.pos : 0 < gs.size := by have := h.sz; have := S.s1; omega
/-- Others are as they were, where what is theirs is as it was. -/
theorem Pool.keep (ok : c.Ok w') {i : Nat} (hu : ∀ j q, c.S0 ≤ j → j < gs.size → j ≠ i → inUse (zs j) q → w'.heap[q]? = w.heap[q]?) : ∀ j g, 1 ≤ j → j ≠ i → gs[j]? = some g → StW S (zs j) g w' := fun j g h1 h2 h3 => by
  refine (h.wk j g h1 h3).keep ok fun k E s e b x hx => ?_
  have hj : c.S0 ≤ j := by
    rcases Nat.lt_or_ge j c.S0 with h4 | h4
    · obtain ⟨q, h5⟩ := h.old j h1 h4
      rw [h5] at e; cases e
    · exact h4
  obtain ⟨q, s', o⟩ := x
  cases o with
  | true => exact hu j q hj (idx_lt h3) h2 (by rw [e]; exact ⟨b, s', hx⟩)
  | false =>
    have hf := h.shr j k E s hj (idx_lt h3) e b q s' hx
    exact (ok.fix q hf).trans (h.mem.ok.fix q hf).symm
/-- A step of one's own wakes nobody. -/
theorem Pool.quiet {i : Nat} {a a' y : Goroutine} (hc1 : w'.heap[c.C1]? = w.heap[c.C1]?) (hc2 : w'.heap[c.C2]? = w.heap[c.C2]?) : (gs.map (woken P a a' w')).setIfInBounds i y = gs.setIfInBounds i y := by
  refine map_set_same fun j x _ hx => ?_
  have k2 : ∃ s r, w'.heap[c.C2]? = some (.chan 0 #[] false s r false) := ⟨_, _, by rw [hc2]; exact h.c2⟩
  rcases Nat.eq_zero_or_pos j with rfl | hj
  · obtain ⟨g, h1, h2⟩ := h.a0
    rw [hx] at h1
    cases h1
    exact h2.woken h.mem.ok (fun e => ⟨_, _, by rw [hc1, h.c1, closed_sdW e]⟩) k2
  · refine (h.wk j x hj hx).woken h.mem.ok (fun e => ?_) k2
    cases hcl : closed z0 with
    | false => exact ⟨_, _, by rw [hc1, h.c1, hcl]⟩
    | true => exact absurd e (h.ph1 hcl j hj (idx_lt hx))
theorem Pool.awake : ∀ g ∈ gs, awake g := fun g hg => by
  obtain ⟨i, hi, rfl⟩ := Array.mem_iff_getElem.1 hg
  rcases Nat.eq_zero_or_pos i with rfl | hp
  · obtain ⟨a, h1, h2⟩ := h.a0
    have : gs[0] = a := by simpa [Array.getElem?_eq_getElem hi] using h1
    rw [this]
    rcases h2.status h.mem.ok with h3 | ⟨h3, _⟩
    · exact awake_of (.inl h3)
    · exact awake_of (.inr (.inl h3))
  · rcases (h.wk i _ hp (Array.getElem?_eq_getElem hi)).status h.mem.ok with h3 | ⟨h3, _⟩ | ⟨h3, _⟩
    · exact awake_of (.inl h3)
    · exact awake_of (.inr (.inl h3))
    · exact awake_of (.inr (.inr h3))
theorem Pool.ofAt (d : Nat) : Pool S gs (w.at d) t z0 zs fnd RS blk := by
  have ok : c.Ok (w.at d) := ⟨h.mem.ok.fix, h.mem.ok.fd, h.mem.ok.big, h.mem.ok.env⟩
  obtain ⟨g, h1, h2⟩ := h.a0
  refine ⟨h.sz, ⟨g, h1, h2.keep ok⟩, fun j g h1 h2 => (h.wk j g h1 h2).keep ok fun _ _ _ _ _ _ _ => rfl, h.old, h.c1, h.c2, h.ph1, h.ph2, h.nw1, h.nw2, h.cnt, h.shr, ?_, h.tr⟩
  have hd := S.d1
  exact h.mem.turn (fun _ _ _ => rfl) ⟨rfl, rfl, rfl⟩ ⟨fun e => hd.2.2.2.2.1 e.symm, fun e => hd.2.2.2.2.2 e.symm, hd.1, hd.2.1⟩ (fun _ _ _ _ => Iff.rfl) (fun _ _ _ _ h => h) (fun _ _ _ m _ _ h => ⟨m, h⟩)
end
end
end Go.Proofs.Ytpdemelchhkfaaa.Cs
