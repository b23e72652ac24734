/-
  Several texts, joined: FdB, FdC, FdD, FdE, FdF, FdG, FdH, FdI, FdJ.
-/
import Derived.Test.YthfjkhmedpilnaaJn27
import Derived.Test.YthfjkhmedpilnaaJn15
import Derived.DuoClaim
/-
  SameLists of what the program found and of what the document finds.
-/
namespace Go.Proofs.Ythfjkhmedpilnaa
open Go.RowKit PK Vg
theorem lists_of_a {W : World} {v : Value} {L : List Nat} {m : Nat} (h : LsA W v L m) (hL : 0 < L.length) : ∃ V, ListsAt W v L.length V (fun _ => m) fun i j => ((dig m (L.getD i 0) j : Nat) : Int) := by
  rcases h with ⟨_, h⟩ | ⟨b, o, c, vs, h1, h2, h3, h4, h5⟩
  · rw [h] at hL; simp at hL
  · refine ⟨fun i => vs.getD i (.bool false), b, o, c, h1, fun i hi => ?_⟩
    have hv : vs[i]? = some (vs.getD i (.bool false)) := by rw [List.getElem?_eq_getElem (by omega)]; simp [List.getD, List.getElem?_eq_getElem (show i < vs.length by omega)]
    have hl : L[i]? = some (L.getD i 0) := by rw [List.getElem?_eq_getElem hi]; simp [List.getD, List.getElem?_eq_getElem hi]
    exact ⟨h3 i _ hv, h5 i _ _ hv hl⟩
end Go.Proofs.Ythfjkhmedpilnaa

/-
  What the law ChartFinds does behind the program's Find.
-/
namespace Go.Proofs.Ythfjkhmedpilnaa
open Go.RowKit PK Vg
noncomputable def lB : Code := Try.f3.body.getD .skip
noncomputable def lT1 : Code := match lB with | .seq _ r => r | _ => .skip
noncomputable def lO1 : Array Oper := match lT1 with | .seq (.region _ o _) _ => o | _ => #[]
noncomputable def lT2 : Code := match lT1 with | .seq _ r => r | _ => .skip
theorem ops_from {P : Program} {ops : Array Oper} {Q : Exit → Act → World → Prop} {a : Act} {w : World} (k n : Nat) (hn : n = ops.size - k) (h : wpList P ops Q (ops.toList.drop k) a w) : wpOps P ops Q (List.range' k n) a w := by
  have e := wpOps_eq_wpList (P := P) (ops := ops) (Q := Q) (ops.toList.drop k) k (fun j => by simp [List.getElem?_drop])
  rw [show (ops.toList.drop k).length = n by simp [hn]] at e
  rw [e]
  exact h
end Go.Proofs.Ythfjkhmedpilnaa

/-
  From the join on to the law's end, alone.
-/
namespace Go.Proofs.Ythfjkhmedpilnaa
open Go.RowKit PK Vg Go.Conc
noncomputable def fB : Code := Try.f7.body.getD .skip
noncomputable def fT1 : Code := match fB with | .seq _ r => r | _ => .skip
noncomputable def fO1 : Array Oper := match fT1 with | .seq (.region _ o _) _ => o | _ => #[]
set_option maxRecDepth 100000 in
set_option maxHeartbeats 4000000 in
theorem find_rest (x0 x1 x2 x3 x4 x5 x6 x7 x8 x9 x10 x12 x13 u : Value) (w : World) :
    wpOps Try.prog fO1 (Exit.then (Code.ret.wp Try.prog (bodyPost Try.prog Try.f7 (Cs.PostE fun v w' => v = .tuple #[u, .int .i64 0] ∧ w' = w))) (bodyPost Try.prog Try.f7 (Cs.PostE fun v w' => v = .tuple #[u, .int .i64 0] ∧ w' = w))) (List.range' 4 4) ⟨#[x0, x1, x2, x3, x4, x5, x6, x7, x8, x9, x10, .tuple #[u, .int .i64 0], x12, x13], []⟩ w := by
  refine ops_from 4 4 rfl ?_
  simp only [fO1, fT1, fB, Try.f7, Option.getD_some, List.drop]
  go_wp2_with fail
  refine ⟨rfl, .tuple #[u, .int .i64 0], ?_, _, rfl, rfl, rfl⟩
  simp [results, Array.mapM_eq_mapM_toList, List.mapM_cons]
end Go.Proofs.Ythfjkhmedpilnaa

/-
  Copies into a lone world: rows of numbers, and many of them.
-/
namespace Go.Proofs.Ythfjkhmedpilnaa
open Go.RowKit PK Vg Go.Conc Cs
/-- A slice with room lies in a row of cells. -/
def Rt (w : World) (v : Value) : Prop := ∀ a l c, v = .slice (some a) l c → 0 < c → a.spot = none ∧ ∃ y T fr, w.heap[a.block]? = some (.cells y T fr)
theorem cp_nums_keep {E E' : Env} {wl wl' : World} (h : CpLe E E' wl wl') {v : Value} {n : Nat} {f : Nat → Int} (hv : NumsAt wl v n f) : NumsAt wl' v n f := by
  obtain ⟨a, cap, h1, h2, h3⟩ := hv
  refine ⟨a, cap, h1, h2, fun c hc => ?_⟩
  obtain ⟨b, o, e, k⟩ := h3 c hc
  exact ⟨b, o, e, h.cell k⟩
variable [Fns]
section
variable {P : Program} {E : Env} {wl w : World}
theorem cp_nums (h : Cp P E wl w) {TJ : TypeId} (hJ : P.info? TJ = none) {v : Value} {n : Nat} {f : Nat → Int} (hv : NumsAt w v n f) (hr : Rt w v) : ∃ E' wl' u, Cp P E' wl' w ∧ CpLe E E' wl wl' ∧ VR E' u v ∧ NumsAt wl' u n f := by
  obtain ⟨a, cap, rfl, hn, hc⟩ := hv
  cases a with
  | none =>
    refine ⟨E, wl, _, h, CpLe.refl _ _, .sliceNil n cap, none, cap, rfl, hn, fun c hc' => ?_⟩
    obtain ⟨b, o, e, _⟩ := hc c hc'
    cases e
  | some ad =>
    by_cases hz : n = 0 ∧ cap = 0
    · obtain ⟨rfl, rfl⟩ := hz
      exact ⟨E, wl, _, h, CpLe.refl _ _, .sliceNo ad ad, some ad, 0, rfl, hn, fun c hc' => absurd hc' (Nat.not_lt_zero _)⟩
    · have hrow : ad.spot = none ∧ ∃ y T fr, w.heap[ad.block]? = some (.cells y T fr) := by
        by_cases h0 : 0 < n
        · obtain ⟨b, o, e, k⟩ := hc 0 h0
          cases e
          obtain ⟨y, T, fr, k1, _⟩ := cell_some k
          exact ⟨rfl, y, T, fr, k1⟩
        · exact hr ad n cap rfl (by omega)
      obtain ⟨b, o, sp⟩ := ad
      obtain ⟨hsp, y, T, fr, hq⟩ := hrow
      dsimp only at hsp hq
      subst hsp
      obtain ⟨E', c1, c2, c3, c4⟩ := h.row hJ (s := o) hq (Array.ofFn fun i : Fin n => Value.int .i64 (f i)) (fun i u hu => by
        obtain ⟨hi, rfl⟩ := Array.getElem?_eq_some_iff.1 hu
        simp only [Array.size_ofFn] at hi
        obtain ⟨b', o', e, k⟩ := hc i hi
        cases e
        refine ⟨.int .i64 (f i), ?_, by rw [Array.getElem_ofFn]; exact .int _ _⟩
        rw [cell_of_row _ _ _ _ _ _ hq] at k
        rw [Nat.add_comm]
        exact k)
      refine ⟨E', _, .slice (some ⟨wl.heap.size, 0, none⟩) n cap, c1, c2, .slice n cap ?_, some ⟨wl.heap.size, 0, none⟩, cap, rfl, hn, fun c hc' => ⟨wl.heap.size, 0, rfl, ?_⟩⟩
      · have := c3 0
        rw [Nat.zero_add] at this
        exact this
      · rw [Nat.zero_add]
        exact c4 c _ (by rw [Array.getElem?_eq_getElem (by simpa using hc'), Array.getElem_ofFn])
theorem cp_numss {TJ : TypeId} (hJ : P.info? TJ = none) (R : Nat → Value) (nl : Nat → Nat) (no : Nat → Nat → Int) : ∀ (n : Nat) {E : Env} {wl : World}, Cp P E wl w → (∀ r, r < n → NumsAt w (R r) (nl r) (no r) ∧ Rt w (R r)) → ∃ (E' : Env) (wl' : World) (Ul : Nat → Value), Cp P E' wl' w ∧ CpLe E E' wl wl' ∧ ∀ r, r < n → VR E' (Ul r) (R r) ∧ NumsAt wl' (Ul r) (nl r) (no r)
  | 0, E, wl, h, _ => ⟨E, wl, R, h, CpLe.refl _ _, fun r hr => absurd hr (Nat.not_lt_zero _)⟩
  | n + 1, E, wl, h, hR => by
    obtain ⟨E1, wl1, Ul, h1, h2, h3⟩ := cp_numss hJ R nl no n h fun r hr => hR r (Nat.lt_succ_of_lt hr)
    obtain ⟨k1, k2⟩ := hR n (Nat.lt_succ_self n)
    obtain ⟨E2, wl2, u, g1, g2, g3, g4⟩ := cp_nums h1 hJ k1 k2
    refine ⟨E2, wl2, fun r => if r = n then u else Ul r, g1, h2.trans g2, fun r hr => ?_⟩
    by_cases e : r = n
    · subst e
      simp only [if_true]
      exact ⟨g3, g4⟩
    · simp only [if_neg e]
      obtain ⟨a, b⟩ := h3 r (by omega)
      exact ⟨a.mono g2.le, cp_nums_keep g2 b⟩
end
end Go.Proofs.Ythfjkhmedpilnaa

/-
  Copies into a lone world: wheels and machines.
-/
namespace Go.Proofs.Ythfjkhmedpilnaa
open Go.RowKit PK Vg Go.Conc Cs
/-- Wheels behind a slice, and their rows of notches lie in cells. -/
def WhR (W : World) (v : Value) (n : Nat) (wi : Nat → Nat → Int) (nl : Nat → Nat) (no : Nat → Nat → Int) : Prop :=
  ∃ (a : Option Addr) (cap : Nat) (R : Nat → Value), v = .slice a n cap ∧ n ≤ maxLen ∧ (∀ r, r < n → ∃ b o, a = some ⟨b, o, none⟩ ∧ W.rangeAt b (o + r * 27) (whl (wi r) (R r)).toList) ∧ ∀ r, r < n → NumsAt W (R r) (nl r) (no r) ∧ Rt W (R r)
def MacR (W : World) (v : Value) (g : Gm) : Prop := ∃ a b c, v = .agg (mac a b c g.rf g.pl) ∧ WhR W a g.n g.wi g.nl g.no ∧ NumsAt W b g.rl g.ri ∧ NumsAt W c g.sl g.st ∧ Rt W a ∧ Rt W b ∧ Rt W c
theorem WhR.at_ {W : World} {v : Value} {n : Nat} {wi : Nat → Nat → Int} {nl : Nat → Nat} {no : Nat → Nat → Int} (h : WhR W v n wi nl no) : WheelsAt W v n wi nl no := by
  obtain ⟨a, cap, R, h1, h2, h3, h4⟩ := h
  exact ⟨a, cap, R, h1, h2, h3, fun r hr => (h4 r hr).1⟩
theorem MacR.at_ {W : World} {v : Value} {g : Gm} (h : MacR W v g) : MacAt W v g := by
  obtain ⟨a, b, c, h1, h2, h3, h4, _⟩ := h
  exact ⟨a, b, c, h1, h2.at_, h3, h4⟩
theorem cp_wheels_keep {E E' : Env} {wl wl' : World} (h : CpLe E E' wl wl') {v : Value} {n : Nat} {wi : Nat → Nat → Int} {nl : Nat → Nat} {no : Nat → Nat → Int} (hv : WheelsAt wl v n wi nl no) : WheelsAt wl' v n wi nl no := by
  obtain ⟨a, cap, R, h1, h2, h3, h4⟩ := hv
  refine ⟨a, cap, R, h1, h2, fun r hr => ?_, fun r hr => cp_nums_keep h (h4 r hr)⟩
  obtain ⟨b, o, e, k⟩ := h3 r hr
  exact ⟨b, o, e, fun j v hj => h.cell (k j v hj)⟩
variable [Fns]
section
variable {P : Program} {E : Env} {wl w : World}
theorem whl_rel {f : Nat → Int} {U R : Value} (h : VR E U R) {j : Nat} (hj : j < 27) : ∃ u v, (whl f U)[j]? = some u ∧ (whl f R)[j]? = some v ∧ VR E u v := by
  by_cases h26 : j < 26
  · exact ⟨_, _, whl_get f U h26, whl_get f R h26, .int _ _⟩
  · obtain rfl : j = 26 := by omega
    exact ⟨_, _, whl_last f U, whl_last f R, h⟩
theorem cp_wheels (h : Cp P E wl w) {TJ : TypeId} (hJ : P.info? TJ = none) {v : Value} {n : Nat} {wi : Nat → Nat → Int} {nl : Nat → Nat} {no : Nat → Nat → Int} (hv : WhR w v n wi nl no) (hr : Rt w v) : ∃ E' wl' u, Cp P E' wl' w ∧ CpLe E E' wl wl' ∧ VR E' u v ∧ WheelsAt wl' u n wi nl no := by
  obtain ⟨a, cap, R, rfl, hn, hc, hR⟩ := hv
  obtain ⟨E1, wl1, Ul, h1, h2, h3⟩ := cp_numss hJ R nl no n h hR
  cases a with
  | none =>
    refine ⟨E1, wl1, _, h1, h2, .sliceNil n cap, none, cap, Ul, rfl, hn, fun r hr => ?_, fun r hr => (h3 r hr).2⟩
    obtain ⟨b, o, e, _⟩ := hc r hr
    cases e
  | some ad =>
    by_cases hz : n = 0 ∧ cap = 0
    · obtain ⟨rfl, rfl⟩ := hz
      exact ⟨E1, wl1, _, h1, h2, .sliceNo ad ad, some ad, 0, Ul, rfl, hn, fun r hr => absurd hr (Nat.not_lt_zero _), fun r hr => absurd hr (Nat.not_lt_zero _)⟩
    · have hrow : ad.spot = none ∧ ∃ y T fr, w.heap[ad.block]? = some (.cells y T fr) := by
        by_cases h0 : 0 < n
        · obtain ⟨b, o, e, k⟩ := hc 0 h0
          cases e
          obtain ⟨y, T, fr, k1, _⟩ := cell_some (k 0 _ (by rw [Array.getElem?_toList]; exact whl_get _ _ (by decide)))
          exact ⟨rfl, y, T, fr, k1⟩
        · exact hr ad n cap rfl (by omega)
      obtain ⟨b, o, sp⟩ := ad
      obtain ⟨hsp, y, T, fr, hq⟩ := hrow
      dsimp only at hsp hq
      subst hsp
      have hx : ∀ i, i < n * 27 → (Array.ofFn fun i : Fin (n * 27) => ((whl (wi (i / 27)) (Ul (i / 27)))[i.1 % 27]?).getD (.bool false))[i]? = (whl (wi (i / 27)) (Ul (i / 27)))[i % 27]? := fun i hi => by
        rw [Array.getElem?_eq_getElem (by simpa using hi), Array.getElem_ofFn]
        obtain ⟨u, v, e1, _⟩ := whl_rel (f := wi (i / 27)) (h3 (i / 27) (by omega)).1 (Nat.mod_lt i (by decide : 0 < 27))
        simp only [e1, Option.getD_some]
      obtain ⟨E', c1, c2, c3, c4⟩ := h1.row hJ (s := o) hq (Array.ofFn fun i : Fin (n * 27) => ((whl (wi (i / 27)) (Ul (i / 27)))[i.1 % 27]?).getD (.bool false)) (fun i u hu => by
        have hi : i < n * 27 := by simpa using (Array.getElem?_eq_some_iff.1 hu).1
        rw [hx i hi] at hu
        obtain ⟨u', v', e1, e2, e3⟩ := whl_rel (f := wi (i / 27)) (h3 (i / 27) (by omega)).1 (Nat.mod_lt i (by decide : 0 < 27))
        rw [hu] at e1
        cases e1
        obtain ⟨b', o', e, k⟩ := hc (i / 27) (by omega)
        cases e
        have k2 := k (i % 27) v' (by rw [Array.getElem?_toList]; exact e2)
        rw [cell_of_row _ _ _ _ _ _ hq] at k2
        refine ⟨v', ?_, e3⟩
        rw [show i + o = o + i / 27 * 27 + i % 27 by omega]
        exact k2)
      refine ⟨E', _, .slice (some ⟨wl1.heap.size, 0, none⟩) n cap, c1, h2.trans c2, .slice n cap ?_, some ⟨wl1.heap.size, 0, none⟩, cap, Ul, rfl, hn, fun r hr => ⟨wl1.heap.size, 0, rfl, fun j v hj => ?_⟩, fun r hr => cp_nums_keep c2 (h3 r hr).2⟩
      · have := c3 0
        rw [Nat.zero_add] at this
        exact this
      · rw [Array.getElem?_toList] at hj
        have hj27 : j < 27 := by have := (Array.getElem?_eq_some_iff.1 hj).1; rwa [whl_size] at this
        refine c4 (0 + r * 27 + j) v ?_
        rw [hx _ (by omega), show (0 + r * 27 + j) / 27 = r by omega, show (0 + r * 27 + j) % 27 = j by omega]
        exact hj
theorem lr_mac {a b c a' b' c' : Value} {rf pl : Nat → Int} (ha : VR E a a') (hb : VR E b b') (hc : VR E c c') : LR E (mac a b c rf pl) (mac a' b' c' rf pl) := by
  refine ⟨by rw [mac_size, mac_size], fun i u v hu hv => ?_⟩
  have hi : i < 55 := by have := (Array.getElem?_eq_some_iff.1 hu).1; rwa [mac_size] at this
  have hcs : i = 0 ∨ i = 1 ∨ i = 2 ∨ (∃ k, k < 26 ∧ i = 3 + k) ∨ ∃ k, k < 26 ∧ i = 29 + k := by
    rcases (by omega : i = 0 ∨ i = 1 ∨ i = 2 ∨ (3 ≤ i ∧ i < 29) ∨ 29 ≤ i) with h | h | h | h | h
    · exact .inl h
    · exact .inr (.inl h)
    · exact .inr (.inr (.inl h))
    · exact .inr (.inr (.inr (.inl ⟨i - 3, by omega, by omega⟩)))
    · exact .inr (.inr (.inr (.inr ⟨i - 29, by omega, by omega⟩)))
  rcases hcs with rfl | rfl | rfl | ⟨k, hk, rfl⟩ | ⟨k, hk, rfl⟩
  · rw [mac_0] at hu hv; cases hu; cases hv; exact ha
  · rw [mac_1] at hu hv; cases hu; cases hv; exact hb
  · rw [mac_2] at hu hv; cases hu; cases hv; exact hc
  · rw [mac_rf _ _ _ _ _ hk] at hu hv; cases hu; cases hv; exact .int _ _
  · rw [mac_pl _ _ _ _ _ hk] at hu hv; cases hu; cases hv; exact .int _ _
theorem cp_mac (h : Cp P E wl w) {TJ : TypeId} (hJ : P.info? TJ = none) {a b c : Value} {g : Gm} (ha : WhR w a g.n g.wi g.nl g.no) (hb : NumsAt w b g.rl g.ri) (hc : NumsAt w c g.sl g.st) (ra : Rt w a) (rb : Rt w b) (rc : Rt w c) : ∃ E' wl' a' b' c', Cp P E' wl' w ∧ CpLe E E' wl wl' ∧ VR E' a' a ∧ VR E' b' b ∧ VR E' c' c ∧ MacAt wl' (.agg (mac a' b' c' g.rf g.pl)) g := by
  obtain ⟨E1, wl1, u1, h1, h2, h3, h4⟩ := cp_wheels h hJ ha ra
  obtain ⟨E2, wl2, u2, k1, k2, k3, k4⟩ := cp_nums h1 hJ hb rb
  obtain ⟨E3, wl3, u3, l1, l2, l3, l4⟩ := cp_nums k1 hJ hc rc
  exact ⟨E3, wl3, u1, u2, u3, l1, (h2.trans k2).trans l2, (h3.mono k2.le).mono l2.le, k3.mono l2.le, l3, u1, u2, u3, rfl, cp_wheels_keep l2 (cp_wheels_keep k2 h4), cp_nums_keep l2 k4, l4⟩
end
end Go.Proofs.Ythfjkhmedpilnaa

/-
  Lists that the jobs told, as they lie in company; their copies into a lone world.
-/
namespace Go.Proofs.Ythfjkhmedpilnaa
open Go.RowKit PK Vg Go.Conc Cs
/-- A list of rows in company. -/
def LsC (W : World) (v : Value) (L : List Nat) (m : Nat) : Prop := ∃ (a : Option Addr) (cap : Nat), v = .slice a L.length cap ∧ (a = none → cap = 0) ∧ Rt W v ∧ ∀ (j : Nat) N, L[j]? = some N → ∃ b o u, a = some ⟨b, o, none⟩ ∧ W.cell? ⟨b, o + j, none⟩ = some u ∧ (NumsAt W u m fun i => ((dig m N i : Nat) : Int)) ∧ Rt W u
variable [Fns]
section
variable {P : Program} {E : Env} {wl w : World}
theorem ar_lit {a : Addr} {g o : Nat} (h : AR E ⟨g, o, none⟩ a) : ∃ b s, a = ⟨b, o + s, none⟩ ∧ ∀ j, AR E ⟨g, o + j, none⟩ ⟨b, o + s + j, none⟩ := by
  obtain ⟨b, o', sp⟩ := a
  obtain ⟨s, ow, e1, e2, e3, e4, e5⟩ := h
  dsimp only at e1 e2 e3 e4
  subst e2 e3
  exact ⟨b, s, rfl, fun j => ⟨s, ow, e1, by show o + s + j = o + j + s; omega, rfl, e4, e5⟩⟩
omit [Fns] in
theorem rt_cell {W : World} {b o l c : Nat} {v : Value} (h : W.cell? ⟨b, o, none⟩ = some v) (o' : Nat) : Rt W (.slice (some ⟨b, o', none⟩) l c) := fun a l' c' e _ => by
  cases e
  obtain ⟨y, T, fr, k, _⟩ := cell_some h
  exact ⟨rfl, y, T, fr, k⟩
omit [Fns] in
theorem rt_no {W : World} {a : Option Addr} {l : Nat} : Rt W (.slice a l 0) := fun a l' c' e h => by
  cases e
  exact absurd h (Nat.lt_irrefl _)
theorem nums_back (h : WR P E wl w) {g m : Nat} {u : Value} {f : Nat → Int} (hm : m ≤ maxLen) (hr : RowAt wl g 3 (ints m f)) (hu : VR E (.slice (some ⟨g, 0, none⟩) m m) u) : NumsAt w u m f ∧ Rt w u := by
  cases hu with
  | sliceNo a b => exact ⟨⟨some b, 0, rfl, hm, fun c hc => absurd hc (Nat.not_lt_zero _)⟩, rt_no⟩
  | slice l c ha =>
    obtain ⟨b, s, rfl, hj⟩ := ar_lit ha
    have hc : ∀ c, c < m → w.cell? ⟨b, 0 + s + c, none⟩ = some (.int .i64 (f c)) := fun c hc => by
      have h1 : wl.cell? ⟨g, 0 + c, none⟩ = some (.int .i64 (f c)) := by rw [Nat.zero_add]; exact hr.cell (ints_get f hc)
      obtain ⟨v, k1, k2⟩ := h.cell (hj c) h1
      cases k2
      exact k1
    refine ⟨⟨_, _, rfl, hm, fun c hc' => ⟨b, 0 + s, rfl, hc c hc'⟩⟩, fun a l c e hp => ?_⟩
    cases e
    obtain ⟨y, T, fr, k, _⟩ := cell_some (hc 0 hp)
    exact ⟨rfl, y, T, fr, k⟩
theorem list_back (h : WR P E wl w) {B m : Nat} {v v' : Value} {L : List Nat} (hm : m ≤ maxLen) (hv : LsOwn wl B v L m) (hr : VR E v v') : LsC w v' L m := by
  obtain ⟨vs, ⟨h1, h2⟩, h3⟩ := hv
  have hvl : vs.length = L.length := by omega
  rcases h2 with ⟨rfl, h4⟩ | ⟨g, cap, cur, rfl, _, h4, h5, h6, h7, h8⟩
  · obtain rfl := List.eq_nil_of_length_eq_zero h4
    cases hr with
    | sliceNil l c => exact ⟨none, 0, rfl, fun _ => rfl, rt_no, fun j N hj => by simp at hj⟩
  · generalize hn : L.length = n at hr
    cases hr with
    | sliceNo a b =>
      obtain rfl := List.eq_nil_of_length_eq_zero hn
      exact ⟨some b, 0, rfl, fun e => (by cases e), rt_no, fun j N hj => by simp at hj⟩
    | slice l c ha =>
      obtain ⟨b, s, rfl, hj⟩ := ar_lit ha
      subst hn
      have hcell : ∀ (j : Nat) u, cur[j]? = some u → ∃ u', w.cell? ⟨b, 0 + s + j, none⟩ = some u' ∧ VR E u u' := fun j u hu => h.cell (hj j) (by rw [Nat.zero_add, cell_of_row _ _ _ _ _ _ h4]; exact hu)
      refine ⟨_, cap, rfl, fun e => (by cases e), fun a l c e hp => ?_, fun j N hN => ?_⟩
      · cases e
        obtain ⟨u', k1, _⟩ := hcell 0 _ (Array.getElem?_eq_getElem (by omega))
        obtain ⟨y, T, fr, k, _⟩ := cell_some k1
        exact ⟨rfl, y, T, fr, k⟩
      · have hjl := (List.getElem?_eq_some_iff.1 hN).1
        obtain ⟨x, hvj⟩ : ∃ x, vs[j]? = some x := ⟨vs[j], List.getElem?_eq_getElem (by omega)⟩
        have hcj : cur[j]? = some x := by
          have e := hvj
          rw [← h8, List.getElem?_take_of_lt (by omega), Array.getElem?_toList] at e
          exact e
        obtain ⟨u', k1, k2⟩ := hcell j _ hcj
        obtain ⟨g2, e2, hrow⟩ := h3 j _ N hvj hN
        rw [e2] at k2
        obtain ⟨n1, n2⟩ := nums_back h hm hrow k2
        exact ⟨b, 0 + s, u', rfl, k1, n1, n2⟩
theorem cp_list (h : Cp P E wl w) {TJ : TypeId} (hJ : P.info? TJ = none) {v : Value} {L : List Nat} {m : Nat} (hv : LsC w v L m) : ∃ E' wl' u, Cp P E' wl' w ∧ CpLe E E' wl wl' ∧ VR E' u v ∧ LsA wl' u L m := by
  obtain ⟨a, cap, rfl, ha0, hr, hc⟩ := hv
  cases a with
  | none =>
    obtain rfl := ha0 rfl
    cases L with
    | nil => exact ⟨E, wl, _, h, CpLe.refl _ _, .sliceNil 0 0, .inl ⟨rfl, rfl⟩⟩
    | cons N l =>
      obtain ⟨b, o, u, e, _⟩ := hc 0 N rfl
      cases e
  | some ad =>
    by_cases hz : L.length = 0 ∧ cap = 0
    · obtain ⟨hz, rfl⟩ := hz
      obtain rfl := List.eq_nil_of_length_eq_zero hz
      exact ⟨E, wl, .slice (some ⟨0, 0, none⟩) 0 0, h, CpLe.refl _ _, .sliceNo _ _, .inr ⟨0, 0, 0, [], rfl, rfl, fun j u hj => by simp at hj, fun u hu => by simp at hu, fun j u N hj => by simp at hj⟩⟩
    · have hLn : ∀ j, j < L.length → L[j]? = some (L.getD j 0) := fun j hj => by rw [List.getElem?_eq_getElem hj]; simp [List.getD, List.getElem?_eq_getElem hj]
      have hrow : ad.spot = none ∧ ∃ y T fr, w.heap[ad.block]? = some (.cells y T fr) := by
        by_cases h0 : 0 < L.length
        · obtain ⟨b, o, u, e, k, _⟩ := hc 0 _ (hLn 0 h0)
          cases e
          obtain ⟨y, T, fr, k1, _⟩ := cell_some k
          exact ⟨rfl, y, T, fr, k1⟩
        · exact hr ad _ cap rfl (by omega)
      obtain ⟨b, o, sp⟩ := ad
      obtain ⟨hsp, y, T, fr, hq⟩ := hrow
      dsimp only at hsp hq
      subst hsp
      have hR : ∀ j, j < L.length → w.cell? ⟨b, o + j, none⟩ = some ((w.cell? ⟨b, o + j, none⟩).getD (.bool false)) ∧ (NumsAt w ((w.cell? ⟨b, o + j, none⟩).getD (.bool false)) m fun i => ((dig m (L.getD j 0) i : Nat) : Int)) ∧ Rt w ((w.cell? ⟨b, o + j, none⟩).getD (.bool false)) := fun j hj => by
        obtain ⟨b', o', u, e, k1, k2, k3⟩ := hc j _ (hLn j hj)
        cases e
        rw [k1]
        exact ⟨rfl, k2, k3⟩
      obtain ⟨E1, wl1, Ul, h1, h2, h3⟩ := cp_numss hJ (fun j => (w.cell? ⟨b, o + j, none⟩).getD (.bool false)) (fun _ => m) (fun j i => ((dig m (L.getD j 0) i : Nat) : Int)) L.length h fun j hj => (hR j hj).2
      obtain ⟨E', c1, c2, c3, c4⟩ := h1.row hJ (s := o) hq (Array.ofFn fun i : Fin L.length => Ul i) (fun i u hu => by
        obtain ⟨hi, rfl⟩ := Array.getElem?_eq_some_iff.1 hu
        simp only [Array.size_ofFn] at hi
        have k := (hR i hi).1
        rw [cell_of_row _ _ _ _ _ _ hq] at k
        rw [Array.getElem_ofFn]
        refine ⟨_, ?_, (h3 i hi).1⟩
        rw [cell_of_row _ _ _ _ _ _ hq, Nat.add_comm i o]
        exact k)
      have hg : ∀ j, j < L.length → (Array.ofFn fun i : Fin L.length => Ul i)[j]? = some (Ul j) := fun j hj => by rw [Array.getElem?_eq_getElem (by simpa using hj), Array.getElem_ofFn]
      refine ⟨E', _, .slice (some ⟨wl1.heap.size, 0, none⟩) L.length cap, c1, h2.trans c2, .slice _ _ ?_, .inr ⟨wl1.heap.size, 0, cap, (Array.ofFn fun i : Fin L.length => Ul i).toList, rfl, by simp, fun j u hj => ?_, fun u hu => ?_, fun j u N hj hN => ?_⟩⟩
      · have := c3 0
        rw [Nat.zero_add] at this
        exact this
      · rw [Nat.zero_add]
        rw [Array.getElem?_toList] at hj
        exact c4 j u hj
      · obtain ⟨j, hj, rfl⟩ := List.mem_iff_getElem.1 hu
        have hj' : j < L.length := by simpa using hj
        have e : (Array.ofFn fun i : Fin L.length => Ul i).toList[j] = Ul j := by simp
        rw [e]
        obtain ⟨x, y', hx, _⟩ := (h3 j hj').2
        rw [hx]
        rfl
      · have hj' : j < L.length := (List.getElem?_eq_some_iff.1 hN).1
        rw [Array.getElem?_toList, hg j hj'] at hj
        cases hj
        rw [hLn j hj'] at hN
        cases hN
        exact cp_nums_keep c2 (h3 j hj').2
end
end Go.Proofs.Ythfjkhmedpilnaa

/-
  From the join on to the law's end, in company.
-/
namespace Go.Proofs.Ythfjkhmedpilnaa
open Go.RowKit PK Vg Go.Conc Cs
theorem lsa_keep {E E' : Env} {wl wl' : World} (h : CpLe E E' wl wl') {v : Value} {L : List Nat} {m : Nat} (hv : LsA wl v L m) : LsA wl' v L m := by
  rcases hv with hv | ⟨b, o, c, vs, h1, h2, h3, h4, h5⟩
  · exact .inl hv
  · exact .inr ⟨b, o, c, vs, h1, h2, fun j u hj => h.cell (h3 j u hj), h4, fun j u N a b => cp_nums_keep h (h5 j u N a b)⟩
theorem mac_keep {E E' : Env} {wl wl' : World} (h : CpLe E E' wl wl') {v : Value} {g : Gm} (hv : MacAt wl v g) : MacAt wl' v g := by
  obtain ⟨a, b, c, e, h1, h2, h3⟩ := hv
  exact ⟨a, b, c, e, cp_wheels_keep h h1, cp_nums_keep h h2, cp_nums_keep h h3⟩
section
variable [Fns]
variable {P : Program} {E : Env} {wl w : World}
theorem lr_nil : LR E ([] : List Value).toArray ([] : List Value).toArray := ⟨rfl, fun i u v hu => by simp at hu⟩
theorem lr_cons {u v : Value} {l l' : List Value} (h : VR E u v) (t : LR E l.toArray l'.toArray) : LR E (u :: l).toArray (v :: l').toArray := by
  refine ⟨by have := t.size; simp at this ⊢; exact this, fun i a b ha hb => ?_⟩
  cases i with
  | zero => simp at ha hb; subst ha hb; exact h
  | succ i => exact t.at_ i a b (by simpa using ha) (by simpa using hb)
theorem cp_lists {TJ : TypeId} (hJ : P.info? TJ = none) (V : Nat → Value) (L : Nat → List Nat) (m : Nat) : ∀ (n : Nat) {E : Env} {wl : World}, Cp P E wl w → (∀ r, r < n → LsC w (V r) (L r) m) → ∃ (E' : Env) (wl' : World) (Ul : Nat → Value), Cp P E' wl' w ∧ CpLe E E' wl wl' ∧ ∀ r, r < n → VR E' (Ul r) (V r) ∧ LsA wl' (Ul r) (L r) m
  | 0, E, wl, h, _ => ⟨E, wl, V, h, CpLe.refl _ _, fun r hr => absurd hr (Nat.not_lt_zero _)⟩
  | n + 1, E, wl, h, hR => by
    obtain ⟨E1, wl1, Ul, h1, h2, h3⟩ := cp_lists hJ V L m n h fun r hr => hR r (Nat.lt_succ_of_lt hr)
    obtain ⟨E2, wl2, u, g1, g2, g3, g4⟩ := cp_list h1 hJ (hR n (Nat.lt_succ_self n))
    refine ⟨E2, wl2, fun r => if r = n then u else Ul r, g1, h2.trans g2, fun r hr => ?_⟩
    by_cases e : r = n
    · subst e
      simp only [if_true]
      exact ⟨g3, g4⟩
    · simp only [if_neg e]
      obtain ⟨a, b⟩ := h3 r (by omega)
      exact ⟨a.mono g2.le, lsa_keep g2 b⟩
theorem cp_whole (h : Cp P E wl w) {TJ : TypeId} (hJ : P.info? TJ = none) {q : Nat} {y : Array Value} {T' : TypeId} {fr : Nat × Nat} (hq : w.heap[q]? = some (.cells y T' fr)) (x : Array Value) (hx : ∀ (i : Nat) u, x[i]? = some u → ∃ v, y[i]? = some v ∧ VR E u v) :
    ∃ E' wl' b, Cp P E' wl' w ∧ CpLe E E' wl wl' ∧ VR E' (.pointer (some ⟨b, 0, none⟩)) (.pointer (some ⟨q, 0, none⟩)) ∧ wl'.heap[b]? = some (.cells x TJ (0, x.size)) := by
  obtain ⟨E', c1, c2, c3, _⟩ := h.row hJ (s := 0) hq x hx
  exact ⟨E', _, wl.heap.size, c1, c2, .ptr (c3 0), heap_alloc_new wl _⟩
end
theorem rest_item1 : [Item.code Cs.eT5].all (itemOk Try.prog) = true := by kernel_rfl
theorem rest_item2 : (pend [Item.inRegion fO1 (3 :: List.range' 4 4), .code .ret]).all (itemOk Try.prog) = true := by kernel_rfl
end Go.Proofs.Ythfjkhmedpilnaa

/-
  A job of chart.Find, in company.
-/
namespace Go.Proofs.Ythfjkhmedpilnaa
open Go.RowKit PK Vg Go.Conc Cs
theorem no_type : Try.prog.info? 1000000000 = none := by kernel_rfl
theorem wr_move {P : Program} [Fns] {E : Env} {wl w w2 : World} (h : WR P E wl w) (hw : ∀ b x, E b = some x → w2.heap[x.1]? = w.heap[x.1]?) : WR P E wl w2 := by
  refine ⟨fun b q s e => ?_, fun b q s e => ?_, h.inj, h.low⟩
  · obtain ⟨h1, ol, o, h2, h3, h4⟩ := h.own b q s e
    exact ⟨h1, ol, o, h2, (hw b _ e).trans h3, h4⟩
  · obtain ⟨x, T, y, T', fr, h1, h2, h3, h4⟩ := h.shared b q s e
    exact ⟨x, T, y, T', fr, h1, h2, (hw b _ e).trans h3, h4⟩
theorem job_ghost (k : Nat) (hk : k < 26) (bT : Nat) (a b c : Value) (g : Gm) (U : Nat → Value) (m : Nat → Nat) (fb : Nat → Nat → Int) (h : Int) (hE : swE g h = 0) (hfit : ∀ r, r < g.n → g.nl r * 8 ≤ 140737488355328) (hrl : g.rl * 8 ≤ 140737488355328) (TT : TypeId) (fT : Nat × Nat) (w : World) (hT : w.heap[bT]? = some (.cells (tab 3 U) TT fT)) (ha : WhR w a g.n g.wi g.nl g.no) (hb : NumsAt w b g.rl g.ri) (hc : NumsAt w c g.sl g.st) (ra : Rt w a) (rb : Rt w b) (rc : Rt w c) (hU : ∀ i, i < 3 → NumsAt w (U i) (m i) (fb i) ∧ Rt w (U i)) :
    ∃ (E : Env) (wl : World) (x : Array Value), (∀ b q s o, E b = some (q, s, o) → o = false ∧ q < w.heap.size) ∧ LR E x #[.agg (mac a b c g.rf g.pl), .int .i64 (k : Nat), .func (.func 20) #[] #[.pointer (some ⟨bT, 0, none⟩)]] ∧ WR Try.prog E wl w ∧ Fns.G ≤ wl.heap.size ∧ ∀ τ, Calls Try.prog 50 x (wl.tp τ) fun e w' => ∃ v, e = .returned v ∧ LsOwn w' wl.heap.size v (hitsTo g m fb k (26 ^ (g.n - 1))) g.n := by
  obtain ⟨hgE, hn3, _, _⟩ := swE_zero hE
  have hn1 : 1 ≤ g.n := by
    refine Nat.lt_of_not_le fun hc => ?_
    unfold gE at hgE
    rw [if_pos (.inl (by omega))] at hgE
    cases hgE
  obtain ⟨E1, wl1, a', b', c', p1, q1, ra', rb', rc', hm1⟩ := cp_mac (Cp.nil (P := Try.prog) w) no_type ha hb hc ra rb rc
  obtain ⟨E2, wl2, U', p2, q2, hU2⟩ := cp_numss no_type U m fb 3 p1 hU
  obtain ⟨E3, wl3, dT, p3, q3, rT, kT⟩ := cp_whole p2 no_type hT (tab 3 U') (fun i u hu => by
    have hi : i < 3 := by have := (Array.getElem?_eq_some_iff.1 hu).1; rwa [tab_size] at this
    rw [tab_get _ hi] at hu
    cases hu
    exact ⟨_, tab_get _ hi, (hU2 i hi).1⟩)
  have hm3 := mac_keep q3 (mac_keep q2 hm1)
  have hU3 : TsAt wl3 U' m fb := fun i hi => cp_nums_keep q3 (hU2 i hi).2
  have hlm : LR E3 (mac a' b' c' g.rf g.pl) (mac a b c g.rf g.pl) := lr_mac ((ra'.mono q2.le).mono q3.le) ((rb'.mono q2.le).mono q3.le) ((rc'.mono q2.le).mono q3.le)
  have hra : wl3.rangeAt dT 0 (tab 3 U').toList := fun j v hj => by
    rw [cell_of_row _ _ _ _ _ _ kT, Nat.zero_add, ← Array.getElem?_toList]
    exact hj
  have hfn : VR E3 (.func (.func 20) #[] #[.pointer (some ⟨dT, 0, none⟩)]) (.func (.func 20) #[] #[.pointer (some ⟨bT, 0, none⟩)]) := by
    have l1 : LR E3 #[.pointer (some ⟨dT, 0, none⟩)] #[.pointer (some ⟨bT, 0, none⟩)] := lr_cons rT lr_nil
    exact .func _ (by kernel_rfl) rfl (fun i u v hu => by simp at hu) l1.size l1.at_
  refine ⟨E3, wl3, #[.agg (mac a' b' c' g.rf g.pl), .int .i64 (k : Nat), .func (.func 20) #[] #[.pointer (some ⟨dT, 0, none⟩)]], fun b q s o e => ⟨p3.sh _ _ _ _ e, (p3.wr.lt e).2⟩, lr_cons (.mkAgg hlm) (lr_cons (.int _ _) (lr_cons hfn lr_nil)), p3.wr, p3.big, fun τ => ?_⟩
  refine (pbeh_any _ g hgE hn1 (by omega) hfit hrl k hk dT U' m fb (wl3.tp τ) hm3 hra hU3).mono ?_
  rintro e w' ⟨v, rfl, h1, _⟩
  exact ⟨v, rfl, h1⟩
end Go.Proofs.Ythfjkhmedpilnaa

/-
  From the first 'go' of chart.Find to the law's end.
-/
namespace Go.Proofs.Ythfjkhmedpilnaa
open Go.RowKit PK Vg Go.Conc Cs
section
variable {w w' : World} (hag : ∀ b, b < w.heap.size → w'.heap[b]? = w.heap[b]?)
include hag
theorem cell_ag {a : Addr} {v : Value} (h : w.cell? a = some v) : w'.cell? a = some v := by
  have := hag a.block (cell_block h)
  unfold World.cell? at h ⊢
  rw [this]
  exact h
theorem nums_ag {v : Value} {n : Nat} {f : Nat → Int} (h : NumsAt w v n f) : NumsAt w' v n f := by
  obtain ⟨a, cap, h1, h2, h3⟩ := h
  refine ⟨a, cap, h1, h2, fun c hc => ?_⟩
  obtain ⟨b, o, e, k⟩ := h3 c hc
  exact ⟨b, o, e, cell_ag hag k⟩
theorem row_ag {b : Nat} {o : Obj} (h : w.heap[b]? = some o) : w'.heap[b]? = some o := (hag b (Array.getElem?_eq_some_iff.1 h).1).trans h
theorem rt_ag {v : Value} (h : Rt w v) : Rt w' v := fun a l c e hp => by
  obtain ⟨h1, y, T, fr, h2⟩ := h a l c e hp
  exact ⟨h1, y, T, fr, row_ag hag h2⟩
theorem whr_ag {v : Value} {n : Nat} {wi : Nat → Nat → Int} {nl : Nat → Nat} {no : Nat → Nat → Int} (h : WhR w v n wi nl no) : WhR w' v n wi nl no := by
  obtain ⟨a, cap, R, h1, h2, h3, h4⟩ := h
  refine ⟨a, cap, R, h1, h2, fun r hr => ?_, fun r hr => ⟨nums_ag hag (h4 r hr).1, rt_ag hag (h4 r hr).2⟩⟩
  obtain ⟨b, o, e, k⟩ := h3 r hr
  exact ⟨b, o, e, fun j v hj => cell_ag hag (k j v hj)⟩
end
end Go.Proofs.Ythfjkhmedpilnaa
