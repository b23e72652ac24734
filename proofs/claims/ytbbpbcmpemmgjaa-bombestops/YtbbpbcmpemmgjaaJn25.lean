/-
  Several texts, joined: FdE, FdF, FdG, FdH, FdI, FdJ, FdL.
-/
import Derived.Test.YtbbpbcmpemmgjaaJn24
import Derived.Test.YtbbpbcmpemmgjaaJn14
import Derived.DuoClaim
import Derived.Test.YtbbpbcmpemmgjaaJn15
import Derived.Deep.MidRow
import Derived.Conc.AppendEvents3
/-
  Copies into a lone world: rows of numbers, and many of them.
-/
namespace Go.Proofs.Ytbbpbcmpemmgjaa
open Go.RowKit PK Vg Go.Conc Cs
/-- A slice with room lies in a row of cells. -/
def Rt (w : World) (v : Value) : Prop := ∀ a l c, v = .slice (some a) l c → 0 < c → a.spot = none ∧ ∃ y T fr, w.heap[a.block]? = some (.cells y T fr)
theorem cp_nums_keep {E E' : Env} {wl wl' : World} (h : CpLe E E' wl wl') {v : Value} {n : Nat} {f : Nat → Int} (hv : NumsAt wl v n f) : NumsAt wl' v n f := by
  obtain ⟨a, cap, h1, h2, h3⟩ := hv
  refine ⟨a, cap, h1, h2, fun c hc => ?_⟩
  obtain ⟨b, o, e, k⟩ := h3 c hc
  exact ⟨b, o, e, h.cell k⟩
variable [Fns]
section
variable {P : Program} {E : Env} {wl w : World}
theorem cp_nums (h : Cp P E wl w) {TJ : TypeId} (hJ : P.info? TJ = none) {v : Value} {n : Nat} {f : Nat → Int} (hv : NumsAt w v n f) (hr : Rt w v) : ∃ E' wl' u, Cp P E' wl' w ∧ CpLe E E' wl wl' ∧ VR E' u v ∧ NumsAt wl' u n f := by
  obtain ⟨a, cap, rfl, hn, hc⟩ := hv
  cases a with
  | none =>
    refine ⟨E, wl, _, h, CpLe.refl _ _, .sliceNil n cap, none, cap, rfl, hn, fun c hc' => ?_⟩
    obtain ⟨b, o, e, _⟩ := hc c hc'
    cases e
  | some ad =>
    by_cases hz : n = 0 ∧ cap = 0
    · obtain ⟨rfl, rfl⟩ := hz
      exact ⟨E, wl, _, h, CpLe.refl _ _, .sliceNo ad ad, some ad, 0, rfl, hn, fun c hc' => absurd hc' (Nat.not_lt_zero _)⟩
    · have hrow : ad.spot = none ∧ ∃ y T fr, w.heap[ad.block]? = some (.cells y T fr) := by
        by_cases h0 : 0 < n
        · obtain ⟨b, o, e, k⟩ := hc 0 h0
          cases e
          obtain ⟨y, T, fr, k1, _⟩ := cell_some k
          exact ⟨rfl, y, T, fr, k1⟩
        · exact hr ad n cap rfl (by omega)
      obtain ⟨b, o, sp⟩ := ad
      obtain ⟨hsp, y, T, fr, hq⟩ := hrow
      dsimp only at hsp hq
      subst hsp
      obtain ⟨E', c1, c2, c3, c4⟩ := h.row hJ (s := o) hq (Array.ofFn fun i : Fin n => Value.int .i64 (f i)) (fun i u hu => by
        obtain ⟨hi, rfl⟩ := Array.getElem?_eq_some_iff.1 hu
        simp only [Array.size_ofFn] at hi
        obtain ⟨b', o', e, k⟩ := hc i hi
        cases e
        refine ⟨.int .i64 (f i), ?_, by rw [Array.getElem_ofFn]; exact .int _ _⟩
        rw [cell_of_row _ _ _ _ _ _ hq] at k
        rw [Nat.add_comm]
        exact k)
      refine ⟨E', _, .slice (some ⟨wl.heap.size, 0, none⟩) n cap, c1, c2, .slice n cap ?_, some ⟨wl.heap.size, 0, none⟩, cap, rfl, hn, fun c hc' => ⟨wl.heap.size, 0, rfl, ?_⟩⟩
      · have := c3 0
        rw [Nat.zero_add] at this
        exact this
      · rw [Nat.zero_add]
        exact c4 c _ (by rw [Array.getElem?_eq_getElem (by simpa using hc'), Array.getElem_ofFn])
theorem cp_numss {TJ : TypeId} (hJ : P.info? TJ = none) (R : Nat → Value) (nl : Nat → Nat) (no : Nat → Nat → Int) : ∀ (n : Nat) {E : Env} {wl : World}, Cp P E wl w → (∀ r, r < n → NumsAt w (R r) (nl r) (no r) ∧ Rt w (R r)) → ∃ (E' : Env) (wl' : World) (Ul : Nat → Value), Cp P E' wl' w ∧ CpLe E E' wl wl' ∧ ∀ r, r < n → VR E' (Ul r) (R r) ∧ NumsAt wl' (Ul r) (nl r) (no r)
  | 0, E, wl, h, _ => ⟨E, wl, R, h, CpLe.refl _ _, fun r hr => absurd hr (Nat.not_lt_zero _)⟩
  | n + 1, E, wl, h, hR => by
    obtain ⟨E1, wl1, Ul, h1, h2, h3⟩ := cp_numss hJ R nl no n h fun r hr => hR r (Nat.lt_succ_of_lt hr)
    obtain ⟨k1, k2⟩ := hR n (Nat.lt_succ_self n)
    obtain ⟨E2, wl2, u, g1, g2, g3, g4⟩ := cp_nums h1 hJ k1 k2
    refine ⟨E2, wl2, fun r => if r = n then u else Ul r, g1, h2.trans g2, fun r hr => ?_⟩
    by_cases e : r = n
    · subst e
      simp only [if_true]
      exact ⟨g3, g4⟩
    · simp only [if_neg e]
      obtain ⟨a, b⟩ := h3 r (by omega)
      exact ⟨a.mono g2.le, cp_nums_keep g2 b⟩
end
end Go.Proofs.Ytbbpbcmpemmgjaa

/-
  Copies into a lone world: wheels and machines.
-/
namespace Go.Proofs.Ytbbpbcmpemmgjaa
open Go.RowKit PK Vg Go.Conc Cs
/-- Wheels behind a slice, and their rows of notches lie in cells. -/
def WhR (W : World) (v : Value) (n : Nat) (wi : Nat → Nat → Int) (nl : Nat → Nat) (no : Nat → Nat → Int) : Prop :=
  ∃ (a : Option Addr) (cap : Nat) (R : Nat → Value), v = .slice a n cap ∧ n ≤ maxLen ∧ (∀ r, r < n → ∃ b o, a = some ⟨b, o, none⟩ ∧ W.rangeAt b (o + r * 27) (whl (wi r) (R r)).toList) ∧ ∀ r, r < n → NumsAt W (R r) (nl r) (no r) ∧ Rt W (R r)
def MacR (W : World) (v : Value) (g : Gm) : Prop := ∃ a b c, v = .agg (mac a b c g.rf g.pl) ∧ WhR W a g.n g.wi g.nl g.no ∧ NumsAt W b g.rl g.ri ∧ NumsAt W c g.sl g.st ∧ Rt W a ∧ Rt W b ∧ Rt W c
theorem WhR.at_ {W : World} {v : Value} {n : Nat} {wi : Nat → Nat → Int} {nl : Nat → Nat} {no : Nat → Nat → Int} (h : WhR W v n wi nl no) : WheelsAt W v n wi nl no := by
  obtain ⟨a, cap, R, h1, h2, h3, h4⟩ := h
  exact ⟨a, cap, R, h1, h2, h3, fun r hr => (h4 r hr).1⟩
theorem MacR.at_ {W : World} {v : Value} {g : Gm} (h : MacR W v g) : MacAt W v g := by
  obtain ⟨a, b, c, h1, h2, h3, h4, _⟩ := h
  exact ⟨a, b, c, h1, h2.at_, h3, h4⟩
theorem cp_wheels_keep {E E' : Env} {wl wl' : World} (h : CpLe E E' wl wl') {v : Value} {n : Nat} {wi : Nat → Nat → Int} {nl : Nat → Nat} {no : Nat → Nat → Int} (hv : WheelsAt wl v n wi nl no) : WheelsAt wl' v n wi nl no := by
  obtain ⟨a, cap, R, h1, h2, h3, h4⟩ := hv
  refine ⟨a, cap, R, h1, h2, fun r hr => ?_, fun r hr => cp_nums_keep h (h4 r hr)⟩
  obtain ⟨b, o, e, k⟩ := h3 r hr
  exact ⟨b, o, e, fun j v hj => h.cell (k j v hj)⟩
variable [Fns]
section
variable {P : Program} {E : Env} {wl w : World}
theorem whl_rel {f : Nat → Int} {U R : Value} (h : VR E U R) {j : Nat} (hj : j < 27) : ∃ u v, (whl f U)[j]? = some u ∧ (whl f R)[j]? = some v ∧ VR E u v := by
  by_cases h26 : j < 26
  · exact ⟨_, _, whl_get f U h26, whl_get f R h26, .int _ _⟩
  · obtain rfl : j = 26 := by omega
    exact ⟨_, _, whl_last f U, whl_last f R, h⟩
theorem cp_wheels (h : Cp P E wl w) {TJ : TypeId} (hJ : P.info? TJ = none) {v : Value} {n : Nat} {wi : Nat → Nat → Int} {nl : Nat → Nat} {no : Nat → Nat → Int} (hv : WhR w v n wi nl no) (hr : Rt w v) : ∃ E' wl' u, Cp P E' wl' w ∧ CpLe E E' wl wl' ∧ VR E' u v ∧ WheelsAt wl' u n wi nl no := by
  obtain ⟨a, cap, R, rfl, hn, hc, hR⟩ := hv
  obtain ⟨E1, wl1, Ul, h1, h2, h3⟩ := cp_numss hJ R nl no n h hR
  cases a with
  | none =>
    refine ⟨E1, wl1, _, h1, h2, .sliceNil n cap, none, cap, Ul, rfl, hn, fun r hr => ?_, fun r hr => (h3 r hr).2⟩
    obtain ⟨b, o, e, _⟩ := hc r hr
    cases e
  | some ad =>
    by_cases hz : n = 0 ∧ cap = 0
    · obtain ⟨rfl, rfl⟩ := hz
      exact ⟨E1, wl1, _, h1, h2, .sliceNo ad ad, some ad, 0, Ul, rfl, hn, fun r hr => absurd hr (Nat.not_lt_zero _), fun r hr => absurd hr (Nat.not_lt_zero _)⟩
    · have hrow : ad.spot = none ∧ ∃ y T fr, w.heap[ad.block]? = some (.cells y T fr) := by
        by_cases h0 : 0 < n
        · obtain ⟨b, o, e, k⟩ := hc 0 h0
          cases e
          obtain ⟨y, T, fr, k1, _⟩ := cell_some (k 0 _ (by rw [Array.getElem?_toList]; exact whl_get _ _ (by decide)))
          exact ⟨rfl, y, T, fr, k1⟩
        · exact hr ad n cap rfl (by omega)
      obtain ⟨b, o, sp⟩ := ad
      obtain ⟨hsp, y, T, fr, hq⟩ := hrow
      dsimp only at hsp hq
      subst hsp
      have hx : ∀ i, i < n * 27 → (Array.ofFn fun i : Fin (n * 27) => ((whl (wi (i / 27)) (Ul (i / 27)))[i.1 % 27]?).getD (.bool false))[i]? = (whl (wi (i / 27)) (Ul (i / 27)))[i % 27]? := fun i hi => by
        rw [Array.getElem?_eq_getElem (by simpa using hi), Array.getElem_ofFn]
        obtain ⟨u, v, e1, _⟩ := whl_rel (f := wi (i / 27)) (h3 (i / 27) (by omega)).1 (Nat.mod_lt i (by decide : 0 < 27))
        simp only [e1, Option.getD_some]
      obtain ⟨E', c1, c2, c3, c4⟩ := h1.row hJ (s := o) hq (Array.ofFn fun i : Fin (n * 27) => ((whl (wi (i / 27)) (Ul (i / 27)))[i.1 % 27]?).getD (.bool false)) (fun i u hu => by
        have hi : i < n * 27 := by simpa using (Array.getElem?_eq_some_iff.1 hu).1
        rw [hx i hi] at hu
        obtain ⟨u', v', e1, e2, e3⟩ := whl_rel (f := wi (i / 27)) (h3 (i / 27) (by omega)).1 (Nat.mod_lt i (by decide : 0 < 27))
        rw [hu] at e1
        cases e1
        obtain ⟨b', o', e, k⟩ := hc (i / 27) (by omega)
        cases e
        have k2 := k (i % 27) v' (by rw [Array.getElem?_toList]; exact e2)
        rw [cell_of_row _ _ _ _ _ _ hq] at k2
        refine ⟨v', ?_, e3⟩
        rw [show i + o = o + i / 27 * 27 + i % 27 by omega]
        exact k2)
      refine ⟨E', _, .slice (some ⟨wl1.heap.size, 0, none⟩) n cap, c1, h2.trans c2, .slice n cap ?_, some ⟨wl1.heap.size, 0, none⟩, cap, Ul, rfl, hn, fun r hr => ⟨wl1.heap.size, 0, rfl, fun j v hj => ?_⟩, fun r hr => cp_nums_keep c2 (h3 r hr).2⟩
      · have := c3 0
        rw [Nat.zero_add] at this
        exact this
      · rw [Array.getElem?_toList] at hj
        have hj27 : j < 27 := by have := (Array.getElem?_eq_some_iff.1 hj).1; rwa [whl_size] at this
        refine c4 (0 + r * 27 + j) v ?_
        rw [hx _ (by omega), show (0 + r * 27 + j) / 27 = r by omega, show (0 + r * 27 + j) % 27 = j by omega]
        exact hj
theorem lr_mac {a b c a' b' c' : Value} {rf pl : Nat → Int} (ha : VR E a a') (hb : VR E b b') (hc : VR E c c') : LR E (mac a b c rf pl) (mac a' b' c' rf pl) := by
  refine ⟨by rw [mac_size, mac_size], fun i u v hu hv => ?_⟩
  have hi : i < 55 := by have := (Array.getElem?_eq_some_iff.1 hu).1; rwa [mac_size] at this
  have hcs : i = 0 ∨ i = 1 ∨ i = 2 ∨ (∃ k, k < 26 ∧ i = 3 + k) ∨ ∃ k, k < 26 ∧ i = 29 + k := by
    rcases (by omega : i = 0 ∨ i = 1 ∨ i = 2 ∨ (3 ≤ i ∧ i < 29) ∨ 29 ≤ i) with h | h | h | h | h
    · exact .inl h
    · exact .inr (.inl h)
    · exact .inr (.inr (.inl h))
    · exact .inr (.inr (.inr (.inl ⟨i - 3, by omega, by omega⟩)))
    · exact .inr (.inr (.inr (.inr ⟨i - 29, by omega, by omega⟩)))
  rcases hcs with rfl | rfl | rfl | ⟨k, hk, rfl⟩ | ⟨k, hk, rfl⟩
  · rw [mac_0] at hu hv; cases hu; cases hv; exact ha
  · rw [mac_1] at hu hv; cases hu; cases hv; exact hb
  · rw [mac_2] at hu hv; cases hu; cases hv; exact hc
  · rw [mac_rf _ _ _ _ _ hk] at hu hv; cases hu; cases hv; exact .int _ _
  · rw [mac_pl _ _ _ _ _ hk] at hu hv; cases hu; cases hv; exact .int _ _
theorem cp_mac (h : Cp P E wl w) {TJ : TypeId} (hJ : P.info? TJ = none) {a b c : Value} {g : Gm} (ha : WhR w a g.n g.wi g.nl g.no) (hb : NumsAt w b g.rl g.ri) (hc : NumsAt w c g.sl g.st) (ra : Rt w a) (rb : Rt w b) (rc : Rt w c) : ∃ E' wl' a' b' c', Cp P E' wl' w ∧ CpLe E E' wl wl' ∧ VR E' a' a ∧ VR E' b' b ∧ VR E' c' c ∧ MacAt wl' (.agg (mac a' b' c' g.rf g.pl)) g := by
  obtain ⟨E1, wl1, u1, h1, h2, h3, h4⟩ := cp_wheels h hJ ha ra
  obtain ⟨E2, wl2, u2, k1, k2, k3, k4⟩ := cp_nums h1 hJ hb rb
  obtain ⟨E3, wl3, u3, l1, l2, l3, l4⟩ := cp_nums k1 hJ hc rc
  exact ⟨E3, wl3, u1, u2, u3, l1, (h2.trans k2).trans l2, (h3.mono k2.le).mono l2.le, k3.mono l2.le, l3, u1, u2, u3, rfl, cp_wheels_keep l2 (cp_wheels_keep k2 h4), cp_nums_keep l2 k4, l4⟩
end
end Go.Proofs.Ytbbpbcmpemmgjaa

/-
  Lists that the jobs told, as they lie in company; their copies into a lone world.
-/
namespace Go.Proofs.Ytbbpbcmpemmgjaa
open Go.RowKit PK Vg Go.Conc Cs
variable [Fns]
section
variable {P : Program} {E : Env} {wl w : World}
theorem ar_lit {a : Addr} {g o : Nat} (h : AR E ⟨g, o, none⟩ a) : ∃ b s, a = ⟨b, o + s, none⟩ ∧ ∀ j, AR E ⟨g, o + j, none⟩ ⟨b, o + s + j, none⟩ := by
  obtain ⟨b, o', sp⟩ := a
  obtain ⟨s, ow, e1, e2, e3, e4, e5⟩ := h
  dsimp only at e1 e2 e3 e4
  subst e2 e3
  exact ⟨b, s, rfl, fun j => ⟨s, ow, e1, by show o + s + j = o + j + s; omega, rfl, e4, e5⟩⟩
omit [Fns] in
theorem rt_cell {W : World} {b o l c : Nat} {v : Value} (h : W.cell? ⟨b, o, none⟩ = some v) (o' : Nat) : Rt W (.slice (some ⟨b, o', none⟩) l c) := fun a l' c' e _ => by
  cases e
  obtain ⟨y, T, fr, k, _⟩ := cell_some h
  exact ⟨rfl, y, T, fr, k⟩
omit [Fns] in
theorem rt_no {W : World} {a : Option Addr} {l : Nat} : Rt W (.slice a l 0) := fun a l' c' e h => by
  cases e
  exact absurd h (Nat.lt_irrefl _)
end
end Go.Proofs.Ytbbpbcmpemmgjaa

/-
  From the join on to the law's end, in company.
-/
namespace Go.Proofs.Ytbbpbcmpemmgjaa
open Go.RowKit PK Vg Go.Conc Cs
theorem mac_keep {E E' : Env} {wl wl' : World} (h : CpLe E E' wl wl') {v : Value} {g : Gm} (hv : MacAt wl v g) : MacAt wl' v g := by
  obtain ⟨a, b, c, e, h1, h2, h3⟩ := hv
  exact ⟨a, b, c, e, cp_wheels_keep h h1, cp_nums_keep h h2, cp_nums_keep h h3⟩
section
variable [Fns]
variable {P : Program} {E : Env} {wl w : World}
theorem lr_nil : LR E ([] : List Value).toArray ([] : List Value).toArray := ⟨rfl, fun i u v hu => by simp at hu⟩
theorem lr_cons {u v : Value} {l l' : List Value} (h : VR E u v) (t : LR E l.toArray l'.toArray) : LR E (u :: l).toArray (v :: l').toArray := by
  refine ⟨by have := t.size; simp at this ⊢; exact this, fun i a b ha hb => ?_⟩
  cases i with
  | zero => simp at ha hb; subst ha hb; exact h
  | succ i => exact t.at_ i a b (by simpa using ha) (by simpa using hb)
theorem cp_whole (h : Cp P E wl w) {TJ : TypeId} (hJ : P.info? TJ = none) {q : Nat} {y : Array Value} {T' : TypeId} {fr : Nat × Nat} (hq : w.heap[q]? = some (.cells y T' fr)) (x : Array Value) (hx : ∀ (i : Nat) u, x[i]? = some u → ∃ v, y[i]? = some v ∧ VR E u v) :
    ∃ E' wl' b, Cp P E' wl' w ∧ CpLe E E' wl wl' ∧ VR E' (.pointer (some ⟨b, 0, none⟩)) (.pointer (some ⟨q, 0, none⟩)) ∧ wl'.heap[b]? = some (.cells x TJ (0, x.size)) := by
  obtain ⟨E', c1, c2, c3, _⟩ := h.row hJ (s := 0) hq x hx
  exact ⟨E', _, wl.heap.size, c1, c2, .ptr (c3 0), heap_alloc_new wl _⟩
end
end Go.Proofs.Ytbbpbcmpemmgjaa

/-
  A job of chart.Find, in company.
-/
namespace Go.Proofs.Ytbbpbcmpemmgjaa
open Go.RowKit PK Vg Go.Conc Cs
theorem no_type : Try.prog.info? 1000000000 = none := by kernel_rfl
theorem wr_move {P : Program} [Fns] {E : Env} {wl w w2 : World} (h : WR P E wl w) (hw : ∀ b x, E b = some x → w2.heap[x.1]? = w.heap[x.1]?) : WR P E wl w2 := by
  refine ⟨fun b q s e => ?_, fun b q s e => ?_, h.inj, h.low⟩
  · obtain ⟨h1, ol, o, h2, h3, h4⟩ := h.own b q s e
    exact ⟨h1, ol, o, h2, (hw b _ e).trans h3, h4⟩
  · obtain ⟨x, T, y, T', fr, h1, h2, h3, h4⟩ := h.shared b q s e
    exact ⟨x, T, y, T', fr, h1, h2, (hw b _ e).trans h3, h4⟩
end Go.Proofs.Ytbbpbcmpemmgjaa

/-
  From the first 'go' of chart.Find to the law's end.
-/
namespace Go.Proofs.Ytbbpbcmpemmgjaa
open Go.RowKit PK Vg Go.Conc Cs
section
variable {w w' : World} (hag : ∀ b, b < w.heap.size → w'.heap[b]? = w.heap[b]?)
include hag
theorem cell_ag {a : Addr} {v : Value} (h : w.cell? a = some v) : w'.cell? a = some v := by
  have := hag a.block (cell_block h)
  unfold World.cell? at h ⊢
  rw [this]
  exact h
theorem nums_ag {v : Value} {n : Nat} {f : Nat → Int} (h : NumsAt w v n f) : NumsAt w' v n f := by
  obtain ⟨a, cap, h1, h2, h3⟩ := h
  refine ⟨a, cap, h1, h2, fun c hc => ?_⟩
  obtain ⟨b, o, e, k⟩ := h3 c hc
  exact ⟨b, o, e, cell_ag hag k⟩
theorem row_ag {b : Nat} {o : Obj} (h : w.heap[b]? = some o) : w'.heap[b]? = some o := (hag b (Array.getElem?_eq_some_iff.1 h).1).trans h
theorem rt_ag {v : Value} (h : Rt w v) : Rt w' v := fun a l c e hp => by
  obtain ⟨h1, y, T, fr, h2⟩ := h a l c e hp
  exact ⟨h1, y, T, fr, row_ag hag h2⟩
theorem whr_ag {v : Value} {n : Nat} {wi : Nat → Nat → Int} {nl : Nat → Nat} {no : Nat → Nat → Int} (h : WhR w v n wi nl no) : WhR w' v n wi nl no := by
  obtain ⟨a, cap, R, h1, h2, h3, h4⟩ := h
  refine ⟨a, cap, R, h1, h2, fun r hr => ?_, fun r hr => ⟨nums_ag hag (h4 r hr).1, rt_ag hag (h4 r hr).2⟩⟩
  obtain ⟨b, o, e, k⟩ := h3 r hr
  exact ⟨b, o, e, fun j v hj => cell_ag hag (k j v hj)⟩
end
end Go.Proofs.Ytbbpbcmpemmgjaa

/-
  What goroutine 0 lists when it loads a row.
-/
namespace Go.Proofs.Ytbbpbcmpemmgjaa
open Go.RowKit PK Vg Go.Conc Cs
theorem ev_read {s : Nat} {a : Addr} {e : Event} (h : e.loc = .cell a ∧ e.write = false) (ha : a.block < s)  : EvW s e := by
  obtain ⟨l, w, at1⟩ := e
  obtain ⟨h1, h2⟩ := h
  dsimp only at h1 h2
  subst h1 h2
  cases at1
  all_goals exact ⟨fun x e => (by cases e; exact ha), fun m e => by cases e⟩
theorem ev_row {W : World} {b : Nat} {T : TypeId} {A : Array Value} {TB : TypeId} {fr : Nat × Nat} {d : TypeDesc} (hW : W.heap[b]? = some (.cells A TB fr)) (hu : Try.prog.underlying T = some d) (hd : d.isRow = true) (hi : (Try.prog.info? T).map (·.size) = some A.size) :
    ∀ e ∈ (Instr.loadAt T (.pointer (some ⟨b, 0, none⟩))).events Try.prog W #[], EvW W.heap.size e := fun e he => by
  obtain ⟨i, hi1, hi2⟩ := Option.map_eq_some_iff.1 hi
  have hb : b < W.heap.size := (Array.getElem?_eq_some_iff.1 hW).1
  have hc := events_loadCellsFrom_at (P := Try.prog) ⟨b, 0, none⟩ (fun q => q < W.heap.size) hb A.size 0 #[] W #[] (fun j hj => by
    rw [Addr.add_lit, cell_of_row _ _ _ _ _ _ hW]
    simp [hj])
  cases d with
  | struct fs =>
    simp [Instr.loadAt, Instr.sureAddr, loadVar, isAgg, go_sem, underlying, sizeOf, typeInfo, loadCells, hu, hi1, hi2] at he
    rcases hc e he with h | ⟨ad, h1, h2, h3⟩
    · simp at h
    · exact ev_read ⟨h1, h2⟩ h3
  | array n el =>
    simp [Instr.loadAt, Instr.sureAddr, loadVar, isAgg, go_sem, underlying, sizeOf, typeInfo, loadCells, hu, hi1, hi2] at he
    rcases hc e he with h | ⟨ad, h1, h2, h3⟩
    · simp at h
    · exact ev_read ⟨h1, h2⟩ h3
  | _ => cases hd
/-- A row that lies whole is loaded. -/
theorem ld_row {W : World} {b : Nat} {T : TypeId} {A : Array Value} {TB : TypeId} {fr : Nat × Nat} {d : TypeDesc} (hW : W.heap[b]? = some (.cells A TB fr)) (hu : Try.prog.underlying T = some d) (hd : d.isRow = true) (hi : (Try.prog.info? T).map (·.size) = some A.size) : (Instr.loadAt T (.pointer (some ⟨b, 0, none⟩))).run Try.prog W = .ok (.agg A) W := by
  have h := run_loadAt_mid (P := Try.prog) W b 0 T A.toList d (fun j v hj => by rw [Nat.zero_add, cell_of_row _ _ _ _ _ _ hW, ← Array.getElem?_toList]; exact hj) hu hd (by rw [hi]; simp)
  simpa using h
/-- What a walk of goroutine 0 holds of the world. -/
def HI (H : Array Obj) (o : Os) (out : Array (Nat × ByteArray)) (W : World) : Prop := W.heap = H ∧ W.os = o ∧ W.output = out
theorem HI.at' {H : Array Obj} {o : Os} {out : Array (Nat × ByteArray)} {W : World} (h : HI H o out W) (d : Nat) : HI H o out (W.at d) := h
theorem HI.alloc {H : Array Obj} {o : Os} {out : Array (Nat × ByteArray)} {W : World} (h : HI H o out W) (x : Obj) : HI (H.push x) o out (W.alloc x) := ⟨by show W.heap.push x = _; rw [h.1], h.2.1, h.2.2⟩
theorem gstep {Stp : Goroutine → World → Prop} {H : Array Obj} {o : Os} {out : Array (Nat × ByteArray)} {mu : Nat} {g : Goroutine} {w : World} (hI : HI H o out w) (hs : g.status = .running) (h : ∀ w₁, HI H o out w₁ → (stepG Try.prog true g w₁).goes fun g' w' es => DW w₁ w' es ∧ Goes Try.prog true AtRel DW Stp mu g' w') : Goes Try.prog true AtRel DW Stp (mu + 1) g w :=
  Goes.step hs fun w₁ h₁ => by
    obtain ⟨d, rfl⟩ := h₁
    exact h _ (hI.at' d)
theorem dw_same (w : World) : DW w w #[] := ⟨Nat.le_refl _, fun e he => by simp at he⟩
end Go.Proofs.Ytbbpbcmpemmgjaa
