/-
  Several texts, joined: TgG, TgH.
-/
import Derived.Test.YtpdemelchhkfaaaJn32
import Derived.Deep.MidRow
import Derived.Conc.AppendEvents3
/-
  tele.Best in company: the pool, to behind Wait.
-/
namespace Go.Proofs.Ytpdemelchhkfaaa.Cs
open Go.Conc Go.RowKit PK Tl
open Go.ConcR (KK WgAt wgBlock)
/-- A row that lies whole is loaded. -/
theorem ld_row {W : World} {b : Nat} {T : TypeId} {A : Array Value} {TB : TypeId} {fr : Nat × Nat} {d : TypeDesc} (hW : W.heap[b]? = some (.cells A TB fr)) (hu : Try.prog.underlying T = some d) (hd : d.isRow = true) (hi : (Try.prog.info? T).map (·.size) = some A.size) : (Instr.loadAt T (.pointer (some ⟨b, 0, none⟩))).run Try.prog W = .ok (.agg A) W := by
  have h := run_loadAt_mid (P := Try.prog) W b 0 T A.toList d (fun j v hj => by rw [Nat.zero_add, cell_of_row _ _ _ _ _ _ hW, ← Array.getElem?_toList]; exact hj) hu hd (by rw [hi]; simp)
  simpa using h
theorem ev_load {w : World} {a : Addr} {u : Value} {es : Array Event} (hu : w.cell? a = some u) : ∀ ev ∈ (load a).events Try.prog w es, ev ∈ es ∨ ev = ⟨.cell a, false, false⟩ := fun ev h => by
  have h1 : ev ∈ es ∨ ev = ⟨.cell a, false, Mode.plain == Mode.atomic⟩ := by simpa [go_sem, hu] using h
  exact h1
theorem ev_cells (a : Addr) : ∀ (n i : Nat) (acc : Array Value) (w : World) (es : Array Event), (∀ j, j < n → (w.cell? (a.add (i + j))).isSome) → ∀ ev ∈ (loadCellsFrom a i n acc).events Try.prog w es, ev ∈ es ∨ ∃ ad : Addr, ev = ⟨.cell ad, false, false⟩ ∧ ad.block = a.block
  | 0, _, _, _, _, _ => fun ev h => .inl (by simpa [loadCellsFrom] using h)
  | n + 1, i, acc, w, es, hc => fun ev h => by
    simp only [loadCellsFrom, Sem.events_bind] at h
    obtain ⟨u, hu⟩ := Option.isSome_iff_exists.1 (hc 0 (by omega))
    simp only [Nat.add_zero] at hu
    have hr : (load (a.add i)).run Try.prog w = .ok u w := by simp [hu]
    rw [hr] at h
    rcases ev_cells a n (i + 1) (acc.push u) w _ (fun j hj => by have := hc (j + 1) (by omega); rwa [show i + (j + 1) = i + 1 + j by omega] at this) ev h with h | h
    · rcases ev_load hu ev h with h | h
      · exact .inl h
      · exact .inr ⟨_, h, by unfold Addr.add; split <;> rfl⟩
    · exact .inr h
theorem ev_rowT {W : World} {b : Nat} {T : TypeId} {A : Array Value} {TB : TypeId} {fr : Nat × Nat} {d : TypeDesc} (hW : W.heap[b]? = some (.cells A TB fr)) (hu : Try.prog.underlying T = some d) (hd : d.isRow = true) (hi : (Try.prog.info? T).map (·.size) = some A.size) :
    ∀ e ∈ (Instr.loadAt T (.pointer (some ⟨b, 0, none⟩))).events Try.prog W #[], ∃ ad : Addr, e = ⟨.cell ad, false, false⟩ ∧ ad.block = b := fun e he => by
  obtain ⟨i, hi1, hi2⟩ := Option.map_eq_some_iff.1 hi
  have hc := ev_cells ⟨b, 0, none⟩ A.size 0 #[] W #[] (fun j hj => by
    rw [Addr.add_lit, cell_of_row _ _ _ _ _ _ hW]
    simp [hj])
  cases d with
  | struct fs =>
    simp [Instr.loadAt, Instr.sureAddr, loadVar, isAgg, go_sem, underlying, sizeOf, typeInfo, loadCells, hu, hi1, hi2] at he
    rcases hc e he with h | h
    · simp at h
    · exact h
  | array n el =>
    simp [Instr.loadAt, Instr.sureAddr, loadVar, isAgg, go_sem, underlying, sizeOf, typeInfo, loadCells, hu, hi1, hi2] at he
    rcases hc e he with h | h
    · simp at h
    · exact h
  | _ => cases hd
variable [Fns] in
/-- A slice whose cells are told by a relation is laid: m cells. -/
theorem cq_cells {P : Program} {w : World} {E : Env} {wl : World} (h : Cq P E wl w) (hsh : ∀ b q s, E b ≠ some (q, s, true)) {TJ : TypeId} (hJ : P.info? TJ = none) {a : Option Addr} {m n cap : Nat} (hmn : n ≤ m) {f : Nat → Value} (hf : ∀ i E', VR E' (f i) (f i)) (hc : ∀ c, c < m → ∃ b o, a = some ⟨b, o, none⟩ ∧ w.cell? ⟨b, o + c, none⟩ = some (f c)) (hr : Rt w (.slice a n cap)) :
    ∃ E' wl' a', Cq P E' wl' w ∧ (∀ b q s, E' b ≠ some (q, s, true)) ∧ (∀ b q s o, E' b = some (q, s, o) → E b = some (q, s, o) ∨ (q < w.heap.size ∧ ∃ ad, a = some ad ∧ q = ad.block ∧ ¬ (m = 0 ∧ cap = 0))) ∧ CpLe E E' wl wl' ∧ VR E' (.slice a' n cap) (.slice a n cap) ∧ ∀ c, c < m → ∃ b o, a' = some ⟨b, o, none⟩ ∧ wl'.cell? ⟨b, o + c, none⟩ = some (f c) := by
  cases a with
  | none =>
    refine ⟨E, wl, none, h, hsh, fun _ _ _ _ e => .inl e, CpLe.refl _ _, .sliceNil n cap, fun c hc' => ?_⟩
    obtain ⟨b, o, e, _⟩ := hc c hc'
    cases e
  | some ad =>
    by_cases hz : m = 0 ∧ cap = 0
    · obtain ⟨rfl, rfl⟩ := hz
      obtain rfl : n = 0 := by omega
      exact ⟨E, wl, some ad, h, hsh, fun _ _ _ _ e => .inl e, CpLe.refl _ _, .sliceNo ad ad, fun c hc' => absurd hc' (Nat.not_lt_zero _)⟩
    · have hrow : ad.spot = none ∧ ∃ y T fr, w.heap[ad.block]? = some (.cells y T fr) := by
        by_cases h0 : 0 < m
        · obtain ⟨b, o, e, k⟩ := hc 0 h0
          cases e
          obtain ⟨y, T, fr, k1⟩ := cell_someT k
          exact ⟨rfl, y, T, fr, k1⟩
        · exact hr ad n cap rfl (by omega)
      obtain ⟨b, o, sp⟩ := ad
      obtain ⟨hsp, y, T, fr, hq⟩ := hrow
      dsimp only at hsp hq
      subst hsp
      obtain ⟨E', c1, c2, c3, c4, c5⟩ := h.row hJ (s := o) hq (fun b s' => hsh b _ s') (Array.ofFn fun i : Fin m => f i) (fun i u hu => by
        obtain ⟨hi, rfl⟩ := Array.getElem?_eq_some_iff.1 hu
        simp only [Array.size_ofFn] at hi
        obtain ⟨b', o', e, k⟩ := hc i hi
        cases e
        refine ⟨f i, ?_, by rw [Array.getElem_ofFn]; exact hf _ _⟩
        rw [cell_of_row _ _ _ _ _ _ hq] at k
        rw [Nat.add_comm]
        exact k)
      refine ⟨E', _, some ⟨wl.heap.size, 0, none⟩, c1, fun b' q' s' e => ?_, fun b' q' s' o' e => ?_, c2, .slice n cap ?_, fun c hc' => ⟨wl.heap.size, 0, rfl, ?_⟩⟩
      · rcases c5 b' q' s' true e with ⟨_, _, _, e'⟩ | e'
        · cases e'
        · exact hsh _ _ _ e'
      · rcases c5 b' q' s' o' e with ⟨_, rfl, _, _⟩ | e'
        · exact .inr ⟨(Array.getElem?_eq_some_iff.1 hq).1, _, rfl, rfl, hz⟩
        · exact .inl e'
      · have := c3 0
        rw [Nat.zero_add] at this
        exact this
      · rw [Nat.zero_add]
        exact c4 c _ (by rw [Array.getElem?_eq_getElem (by simpa using hc'), Array.getElem_ofFn])
/-- The job: fits, in company. -/
theorem fits_ghost (x y s la lb : Nat) (ap aa ab : Option Addr) (G : Nat → Nat → Nat) (A B : Nat → Nat) (hs : s ≤ 2209) (ha : 1 ≤ la ∧ la ≤ 47) (hb : 1 ≤ lb ∧ lb ≤ 47) (hx : x < 47) (hy : y < 47) (hG : ∀ r k, G r k ≤ 65536) (hA : ∀ c, A c < 2) (hB : ∀ c, B c < 2) (w : World) (hp : PrC w ap s G) (h1 : NmC w aa la A) (h2 : NmC w ab lb B) (rp : Rt w (.slice ap s s)) (ra : Rt w (.slice aa la la)) (rb : Rt w (.slice ab lb lb)) :
    ∃ (E : Env) (wl : World) (u : Array Value), (∀ b q s' o, E b = some (q, s', o) → o = false ∧ q < w.heap.size ∧ ((∃ ad, ap = some ad ∧ q = ad.block ∧ 0 < s) ∨ (∃ ad, aa = some ad ∧ q = ad.block) ∨ ∃ ad, ab = some ad ∧ q = ad.block)) ∧ LR E u #[.agg #[.slice ap s s, .slice aa la la, .slice ab lb lb], .int .i64 (x : Nat), .int .i64 (y : Nat)] ∧ WR Try.prog E wl w ∧ Fns.G ≤ wl.heap.size ∧ ∀ τ, Calls Try.prog 22 u (wl.tp τ) fun e _ => ∃ v, e = .returned v ∧ v = .int .i64 (fitS G A B la lb x y s : Nat) := by
  have hn0 : ∀ b q s, (fun _ => none : Env) b ≠ some (q, s, true) := fun b q s e => by cases e
  obtain ⟨E1, wl1, ap', c1, s1, b1, e1, r1, k1⟩ := cq_cells (P := Try.prog) (w := w) (Cp.nil w).cq hn0 no_type (m := s * 2) (n := s) (cap := s) (by omega) (f := fun i => .int .i64 (G (i / 2) (i % 2) : Nat)) (fun i E => .int _ _) (fun c hc => by
    obtain ⟨b, o, e, k⟩ := hp (c / 2) (by omega)
    refine ⟨b, o, e, ?_⟩
    have := k (c % 2) (Nat.mod_lt _ (by decide))
    rw [show c / 2 * 2 + c % 2 = c by omega] at this
    exact this) rp
  obtain ⟨E2, wl2, aa', c2, s2, b2, e2, r2, k2⟩ := cq_cells c1 s1 no_type (m := la) (n := la) (cap := la) (Nat.le_refl _) (f := fun i => .int .i64 (A i : Nat)) (fun i E => .int _ _) h1 ra
  obtain ⟨E3, wl3, ab', c3, s3, b3, e3, r3, k3⟩ := cq_cells c2 s2 no_type (m := lb) (n := lb) (cap := lb) (Nat.le_refl _) (f := fun i => .int .i64 (B i : Nat)) (fun i E => .int _ _) h2 rb
  refine ⟨E3, wl3, #[.agg #[.slice ap' s s, .slice aa' la la, .slice ab' lb lb], .int .i64 (x : Nat), .int .i64 (y : Nat)], fun b q s' o e => ?_, lr_cons (.mkAgg (lr_cons ((r1.mono e2.le).mono e3.le) (lr_cons (r2.mono e3.le) (lr_cons r3 lr_nil)))) (lr_cons (.int _ _) (lr_cons (.int _ _) lr_nil)), c3.wr, c3.big, fun τ => ?_⟩
  · refine ⟨?_, ?_⟩
    · cases o with
      | false => rfl
      | true => exact absurd e (s3 b q s')
    · rcases b3 b q s' o e with e | ⟨e, ad, e1, e2, _⟩
      · rcases b2 b q s' o e with e | ⟨e, ad, e1, e2, _⟩
        · rcases b1 b q s' o e with e | ⟨e, ad, e1, e2, e3⟩
          · cases e
          · exact ⟨e, .inl ⟨ad, e1, e2, by omega⟩⟩
        · exact ⟨e, .inr (.inl ⟨ad, e1, e2⟩)⟩
      · exact ⟨e, .inr (.inr ⟨ad, e1, e2⟩)⟩
  · refine (pfit_any ap' aa' ab' s s la la lb lb x y G A B hs ha hb hx hy hG hA hB (wl3.tp τ) (fun r hr => ?_) (fun c hc => ?_) k3).mono ?_
    · obtain ⟨b, o, e, _⟩ := k1 (r * 2) (by omega)
      refine ⟨b, o, e, fun k hk => ?_⟩
      obtain ⟨b', o', e', k'⟩ := k1 (r * 2 + k) (by omega)
      rw [e] at e'
      cases e'
      rw [show (r * 2 + k) / 2 = r by omega, show (r * 2 + k) % 2 = k by omega] at k'
      exact (e2.trans e3).cell k'
    · obtain ⟨b, o, e, k⟩ := k2 c hc
      exact ⟨b, o, e, e3.cell k⟩
    · rintro e w' ⟨rfl, _⟩
      exact ⟨_, rfl, rfl⟩
section
variable {c : Cst} {tW tT : TypeId}
theorem ok2_heap {w w' : World} (e1 : w'.heap = w.heap) (e2 : w'.os = w.os) (e3 : w'.output = w.output) (h : Ok2 c tW tT w) : Ok2 c tW tT w' := by
  obtain ⟨⟨f1, f2, f3, f4⟩, ⟨k, hk⟩, st, sm, hw⟩ := h
  refine ⟨⟨fun q hq => by rw [e1]; exact f1 q hq, by rw [e1]; exact f2, by rw [e1]; exact f3, by rw [e2, e3]; exact f4⟩, ⟨k, ?_⟩, st, sm, ?_⟩
  · show w'.heap[c.C1]? = _
    rw [e1]
    exact hk
  · show w'.heap[c.C2]? = _
    rw [e1]
    exact hw
theorem goes_big {A : Goroutine → World → Prop} {n : Nat} : ∀ {m : Nat} {g : Goroutine} {w : World}, n ≤ w.heap.size → Goes Try.prog true AtRel (DQ c) A m g w → Goes Try.prog true AtRel (fun w w' es => DQ c w w' es ∧ n ≤ w.heap.size) A m g w
  | 0, _, _, _, h => h
  | m + 1, g, w, hn, h => by
    rcases h with h | ⟨hs, h⟩
    · exact .inl h
    · refine .inr ⟨hs, fun w₁ h₁ => ?_⟩
      have := h w₁ h₁
      obtain ⟨d, rfl⟩ := h₁
      revert this
      cases stepG Try.prog true g (w.at d) <;> simp only [GStep.goes, imp_self]
      rintro ⟨hd, h3⟩
      exact ⟨⟨hd, hn⟩, goes_big (by rw [hd.heap]; exact hn) h3⟩
end
section
variable {c : Cst} {tW tT : TypeId} {Sn : Nat → Prop} {gs : Array Goroutine} {t : Trace} {q : Nat → Nat} {d : Nat} {g : Goroutine} {w : World}
theorem goes_on2 {A : Goroutine → World → Prop} {I : World → Prop} (hI : ∀ w w', w'.heap = w.heap → w'.os = w.os → w'.output = w.output → I w → I w') : ∀ {m : Nat} {g : Goroutine} {w : World}, Ok2 c tW tT w → I w → Goes Try.prog true (fun _ w => Ok2 c tW tT w) (DQ c) A m g w → Goes Try.prog true AtRel (DQ c) (fun g w => A g w ∧ I w) m g w
  | 0, _, w, hk, hi, h => fun w₁ h₁ => by
    obtain ⟨d, rfl⟩ := h₁
    exact ⟨h (w.at d) (ok2_heap (w := w) (w' := w.at d) rfl rfl rfl hk), hI w (w.at d) rfl rfl rfl hi⟩
  | m + 1, g, w, hk, hi, h => by
    rcases h with h | ⟨hs, h⟩
    · exact .inl fun w₁ h₁ => by
        obtain ⟨d, rfl⟩ := h₁
        exact ⟨h (w.at d) (ok2_heap (w := w) (w' := w.at d) rfl rfl rfl hk), hI w (w.at d) rfl rfl rfl hi⟩
    · refine .inr ⟨hs, fun w₁ h₁ => ?_⟩
      obtain ⟨d, rfl⟩ := h₁
      have := h (w.at d) (ok2_heap (w := w) (w' := w.at d) rfl rfl rfl hk)
      revert this
      cases stepG Try.prog true g (w.at d) <;> simp only [GStep.goes, imp_self]
      rintro ⟨hd, h3⟩
      exact ⟨hd, goes_on2 hI (ok2_heap (w := w) hd.heap hd.os hd.output hk) (hI w _ hd.heap hd.os hd.output hi) h3⟩
/-- A walk that only reads what stays, beside them. -/
theorem beside_on (hsn : ∀ b, Sn b → ¬ c.Fix b) {Stp : Goroutine → Prop} (h0 : gs[0]? = some g) (hg : On Try.prog c tW tT true Stp g) (hk : Ok2 c tW tT w) (hq : Qs Try.prog Sn gs t q d w.heap.size) (sl : Option (Nat × Nat)) :
    ∃ N gs' w' sl' t' q' g', runNT Try.prog N (crowd gs w sl) t = (.next (crowd gs' w' sl'), t') ∧ gs'.size = gs.size ∧ gs'[0]? = some g' ∧ g'.status = .running ∧ Stp g' ∧ w'.heap = w.heap ∧ w'.os = w.os ∧ w'.output = w.output ∧ Qs Try.prog Sn gs' t' q' d w'.heap.size := by
  obtain ⟨m, hm⟩ := hg.2 w hk
  have h1 := goes_on2 (I := fun w' => (c.N1 ≤ w'.heap.size) ∧ w'.heap = w.heap ∧ w'.os = w.os ∧ w'.output = w.output) (fun w1 w2 e1 e2 e3 h => ⟨by rw [e1]; exact h.1, e1.trans h.2.1, e2.trans h.2.2.1, e3.trans h.2.2.2⟩) hk ⟨hk.ok.big, rfl, rfl, rfl⟩ hm
  have h2 := goes_big (n := c.N1) hk.ok.big h1
  obtain ⟨N, gs', w', sl', t', q', g', r, z, i, ⟨⟨s1, s2⟩, s3⟩, Q⟩ := beside_walk2 (Sn := Sn) (D := fun w w' es => DQ c w w' es ∧ c.N1 ≤ w.heap.size) (sl := sl) (fun w w' es h => ⟨by rw [h.1.heap]; exact Nat.le_refl _, fun e he => by
    obtain ⟨a, rfl, ha⟩ := h.1.evs e he
    have hl : a.block < w'.heap.size := by rw [h.1.heap]; exact Nat.lt_of_lt_of_le ha.1 h.2
    exact (dg_cell (Sn := Sn) (Fd := a.block + 1) hl (fun k => hsn _ k ha) (by omega)).1⟩) (fun g w h => h.1.1) h0 h2 hq
  exact ⟨N, gs', w', sl', t', q', g', r, z, i, s1, s2, s3.2.1, s3.2.2.1, s3.2.2.2, Q⟩
end
end Go.Proofs.Ytpdemelchhkfaaa.Cs

/-
  tele.Best in company: the pool, to behind Wait.
-/
namespace Go.Proofs.Ytpdemelchhkfaaa.Cs
open Go.Conc Go.RowKit PK Tl
open Go.ConcR (KK WgAt wgBlock)
theorem push6 (H : Array Obj) (a b c d e f : Obj) : ((((((H.push a).push b).push c).push d).push e).push f).size = H.size + 6 ∧ ((((((H.push a).push b).push c).push d).push e).push f)[H.size]? = some a ∧ ((((((H.push a).push b).push c).push d).push e).push f)[H.size + 1]? = some b ∧ ((((((H.push a).push b).push c).push d).push e).push f)[H.size + 2]? = some c ∧ ((((((H.push a).push b).push c).push d).push e).push f)[H.size + 3]? = some d ∧ ((((((H.push a).push b).push c).push d).push e).push f)[H.size + 4]? = some e ∧ ((((((H.push a).push b).push c).push d).push e).push f)[H.size + 5]? = some f ∧ ∀ i, i < H.size → ((((((H.push a).push b).push c).push d).push e).push f)[i]? = H[i]? := by
  refine ⟨by simp, ?_, ?_, ?_, ?_, ?_, ?_, fun i hi => ?_⟩
  · simp only [Array.getElem?_push, Array.size_push]
    rw [if_neg (by omega), if_neg (by omega), if_neg (by omega), if_neg (by omega), if_neg (by omega), if_pos trivial]
  · simp only [Array.getElem?_push, Array.size_push]
    rw [if_neg (by omega), if_neg (by omega), if_neg (by omega), if_neg (by omega), if_pos trivial]
  · simp only [Array.getElem?_push, Array.size_push]
    rw [if_neg (by omega), if_neg (by omega), if_neg (by omega), if_pos trivial]
  · simp only [Array.getElem?_push, Array.size_push]
    rw [if_neg (by omega), if_neg (by omega), if_pos trivial]
  · simp only [Array.getElem?_push, Array.size_push]
    rw [if_neg (by omega), if_pos trivial]
  · simp only [Array.getElem?_push, Array.size_push]
    rw [if_pos trivial]
  · simp only [Array.getElem?_push, Array.size_push]
    rw [if_neg (by omega), if_neg (by omega), if_neg (by omega), if_neg (by omega), if_neg (by omega), if_neg (by omega)]
/-- The pool of Best. -/
def cstB (ex : Nat → Prop) (h R S0 hs lb : Nat) (vs : Value) (w : World) : Cst := { ex := ex, n := h, K := R, S0 := S0, N1 := w.heap.size, H0 := fun q => w.heap[q]?, C1 := hs + 4, C2 := hs + 5, Fd := hs, TF := 3, z1 := undef, z2 := undef, zs1 := undef, zs2 := undef, fB := 22, ar := fun k => #[vs, .int .i64 (k / lb : Nat), .int .i64 (k % lb : Nat)], os0 := w.os, out0 := w.output }
/-- What is held behind Wait. -/
structure AtJ (Sn0 : Nat → Prop) (W0 W w8 w : World) (E : Env) (wl : World) (x : Array Value) (n la lb h : Nat) (f : Nat → Nat) (p q : Nat → Bool) (g : Nat → Value) (ya yb : Option Addr) (ca cb bb b8 bs hs : Nat) : Prop where
  at8 : At8 W0 W w8 E wl x #[g 0, .slice ya la ca, g 2, .int .i64 (h : Nat), g 4, g 5, .pointer (some ⟨bb, 0, none⟩), g 7, .pointer (some ⟨b8, 0, none⟩), g 9, g 10, g 11, g 12, .pointer (some ⟨bs, 0, none⟩), g 14, g 15, g 16, g 17, g 18, g 19, g 20, g 21, g 22, g 23, g 24, g 25, g 26, g 27, g 28, g 29, g 30, g 31, g 32, g 33, g 34, g 35, g 36, g 37, g 38, g 39, g 40, g 41, g 42, g 43, g 44, g 45, g 46, g 47, g 48, g 49, g 50, g 51, g 52, g 53, g 54, g 55, g 56, g 57, g 58, g 59, g 60, g 61, g 62, g 63, g 64, g 65, g 66, g 67, g 68, g 69, g 70, g 71] h (min (n - 1) (la * lb)) la lb (gaF (fun i => unN (f i ^^^ f (i + 1))) (la * lb) (n - 1)) (fun k => (chN p la k : Int)) (fun k => (chN q lb k : Int))
  hsz : hs = w8.heap.size
  old : ∀ b, b < hs → ¬ Sn0 b → w.heap[b]? = w8.heap[b]?
  bbx : w8.heap[bb]? = some (.cells #[.slice yb lb cb] 24 (0, 0))
  row : ∃ cs, w.heap[hs]? = some (.cells cs 3 (0, 0)) ∧ cs.size = la * lb
  cnt : ∀ k, k < la * lb → w.cell? ⟨hs, k, none⟩ = some (.int .i64 (plF f n p la q lb k : Nat))
  box : w.heap[hs + 1]? = some (.cells #[.slice (some ⟨hs, 0, none⟩) (la * lb) (la * lb)] 22 (0, 0))
  size : hs + 6 ≤ w.heap.size
  env : w.os = W.os ∧ w.output = W.output
set_option maxRecDepth 100000 in
set_option maxHeartbeats 8000000 in
theorem best_join (v va vb : Value) (n la lb h : Nat) (f : Nat → Nat) (p q : Nat → Bool) (hn : n ≤ 65536) (hf : ∀ i, i < n → f i < 32) (ha : 1 ≤ la ∧ la ≤ 47) (hb : 1 ≤ lb ∧ lb ≤ 47) (hh : 1 ≤ h ∧ h ≤ 16) (W0 W : World) (hv : NumsAt W0 v n (fun i => (f i : Int))) (h1 : PinsAt W0 va la p) (h2 : PinsAt W0 vb lb q) (rv : Rt W0 v) (ra : Rt W0 va) (rb : Rt W0 vb) (hag : ∀ b, b < W0.heap.size → W.heap[b]? = W0.heap[b]?) {Sn0 : Nat → Prop} (hS : ∀ b, Sn0 b → W0.heap.size ≤ b ∧ b < W.heap.size) (c0 : List Frame) {gs : Array Goroutine} {t : Trace} {qq : Nat → Nat} (i0 : gs[0]? = some (G (mkF 7 #[v, va, vb, .int .i64 (h : Nat), undef, undef, undef, undef, undef, undef, undef, undef, undef, undef, undef, undef, undef, undef, undef, undef, undef, undef, undef, undef, undef, undef, undef, undef, undef, undef, undef, undef, undef, undef, undef, undef, undef, undef, undef, undef, undef, undef, undef, undef, undef, undef, undef, undef, undef, undef, undef, undef, undef, undef, undef, undef, undef, undef, undef, undef, undef, undef, undef, undef, undef, undef, undef, undef, undef, undef, undef, undef] [.code bBody] .run) c0)) (hq : Qs Try.prog Sn0 gs t qq 0 W.heap.size) (sl : Option (Nat × Nat)) :
    ∃ N gs' w8 w' sl' t' q' E wl x, ∃ (g : Nat → Value) (ya yb : Option Addr) (ca cb bb b8 bs hs : Nat) (T : Array Value), runNT Try.prog N (crowd gs W sl) t = (.next (crowd gs' w' sl'), t') ∧ T.size = 16 ∧ gs'[0]? = some (G ((base 20).at ⟨T, []⟩ [.inRegion gO8 []]) (mkF 7 #[g 0, .slice ya la ca, g 2, .int .i64 (h : Nat), g 4, g 5, .pointer (some ⟨bb, 0, none⟩), g 7, .pointer (some ⟨b8, 0, none⟩), g 9, g 10, g 11, g 12, .pointer (some ⟨bs, 0, none⟩), .pointer (some ⟨hs + 1, 0, none⟩), g 15, g 16, g 17, g 18, g 19, g 20, g 21, g 22, g 23, g 24, g 25, g 26, g 27, g 28, g 29, g 30, g 31, g 32, g 33, g 34, g 35, g 36, g 37, g 38, g 39, g 40, g 41, g 42, g 43, g 44, g 45, .slice ya la ca, .int .i64 (la : Nat), .slice yb lb cb, .int .i64 (lb : Nat), .int .i64 ((la * lb : Nat) : Int), .slice (some ⟨hs, 0, none⟩) (la * lb) (la * lb), .int .i64 (h : Nat), .slice (some ⟨hs, 0, none⟩) (la * lb) (la * lb), .int .i64 ((la * lb : Nat) : Int), .func (.func 21) #[] #[.pointer (some ⟨bs, 0, none⟩), .pointer (some ⟨bb, 0, none⟩), .pointer (some ⟨hs + 1, 0, none⟩)], g 56, g 57, g 58, g 59, g 60, g 61, g 62, g 63, g 64, g 65, g 66, g 67, g 68, g 69, g 70, g 71] [.inRegion bO9 [4], .code (restAt 7 bBody)] .run :: c0)) ∧ AtJ Sn0 W0 W w8 w' E wl x n la lb h f p q g ya yb ca cb bb b8 bs hs ∧ Qs Try.prog (fun b => Sn0 b ∨ b = hs + 4 ∨ b = hs + 5) gs' t' q' 0 w'.heap.size := by
  have hG : Try.prog.globals.size ≤ Fns.G := Nat.le_refl _
  obtain ⟨N1, gs1, w1, sl1, t1, q1, E, x, y, wl, r1, z1, i1, k8, Q1⟩ := best_to8 v va vb n la lb h f p q hn hf ha hb hh W0 W hv h1 h2 rv ra rb hag hS c0 i0 hq sl
  have gpos : ∀ j, 0 ≤ (gaF (fun i => unN (f i ^^^ f (i + 1))) (la * lb) (n - 1)) j := fun j => (gaF_le _ _ _ _).1
  have cpos : ∀ (p : Nat → Bool) (l j : Nat), 0 ≤ (chN p l j : Int) := fun _ _ _ => Int.natCast_nonneg _
  obtain ⟨g, ya, yb, ca, cb, bb, b8, bs, ap, aa, ab, rfl, cbb, cbs, hpr, hnA, hnB, rp, rA, rB, obb, obs, oap, oaa, oab⟩ := k8.facts ha.1 hb.1 gpos (cpos p la) (cpos q lb)
  obtain ⟨hs, hhs⟩ : ∃ hs, hs = w1.heap.size := ⟨_, rfl⟩
  have lbb : bb < hs := by rw [hhs]; exact (Array.getElem?_eq_some_iff.1 cbb).1
  have lbs : bs < hs := by rw [hhs]; exact (Array.getElem?_eq_some_iff.1 cbs).1
  have hR : la * lb ≤ 2209 := Nat.mul_le_mul ha.2 hb.2
  have hR1 : 1 ≤ la * lb := Nat.mul_pos ha.1 hb.1
  -- the two blocks that will be touched by atomic means
  have hSlt : ∀ b, Sn0 b → b < hs := fun b hb => by have := (hS b hb).2; have := k8.size; omega
  have hSw : ∀ b, W.heap.size ≤ b → ¬ Sn0 b := fun b hb hc => by have := (hS b hc).2; omega
  have Q1' : Qs Try.prog (fun b => Sn0 b ∨ b = hs + 4 ∨ b = hs + 5) gs1 t1 q1 0 w1.heap.size := Q1.shun (fun _ e => .inl e) (fun j y a hy hya hl => by
    have hlow := Q1.low j a (by simp [touchAt, Trace.act?, hy, hya])
    cases hl2 : a.loc with
    | cell b =>
      rw [hl2] at hlow hl
      have h3 : b.block < w1.heap.size := hlow
      rcases (show Sn0 b.block ∨ b.block = hs + 4 ∨ b.block = hs + 5 from hl) with e | e | e
      · exact e
      · omega
      · omega
    | obj b =>
      rw [hl2] at hlow hl
      have h3 : b < w1.heap.size := hlow
      rcases (show Sn0 b ∨ b = hs + 4 ∨ b = hs + 5 from hl) with e | e | e
      · exact e
      · omega
      · omega
    | output => rw [hl2] at hl; exact hl.elim
    | goroutines => rw [hl2] at hl; exact hl.elim
    | mark m => rw [hl2] at hl; exact hl.elim)
  have P1 : ∀ j a, touchAt t1 j = some a → PlF hs a := fun j a hy ad e => by
    have hlow := Q1.low j a hy
    rw [e] at hlow
    have h3 : ad.block < w1.heap.size := hlow
    omega
  have I1 : HI w1.heap w1.os w1.output w1 := ⟨rfl, rfl, rfl⟩
  obtain ⟨mu, G2⟩ := to_add g ya yb ca cb bb b8 bs h la lb (la * lb) rfl ha hb c0 (fun b => Sn0 b ∨ b = hs + 4 ∨ b = hs + 5) w1.heap w1.os w1.output cbb (by rintro (e | e | e); exact hSw _ obb e; omega; omega) (by rintro (e | e | e); have := hSlt _ e; omega; omega; omega) w1 I1
  rw [← hhs] at G2
  obtain ⟨N2, gs2, w2, sl2, t2, q2, g2, r2, z2, i2, ⟨rfl, I2⟩, Q2, P2⟩ := beside_walkF (Pl := PlF hs) (sl := sl1) (fun w w' es h => h) (fun g w h => by rw [h.1]; rfl) i1 G2 Q1' P1
  obtain ⟨X, hX⟩ : ∃ X, X = ((((((w1.heap.push (.cells (ints (la * lb) fun _ => 0) 3)).push (.cells #[.slice (some ⟨hs, 0, none⟩) (la * lb) (la * lb)] 22)).push (.cells #[.int .i64 ((la * lb : Nat) : Int)] 3)).push (.cells #[.func (.func 21) #[] #[.pointer (some ⟨bs, 0, none⟩), .pointer (some ⟨bb, 0, none⟩), .pointer (some ⟨hs + 1, 0, none⟩)]] 57)).push (.cells #[.int .i64 0] 85)).push (.cells #[.int .u64 0, .int .u32 0] 91)) := ⟨_, rfl⟩
  have I2' : HI X w1.os w1.output w2 := by rw [hX]; exact I2
  have p6 := push6 w1.heap (.cells (ints (la * lb) fun _ => 0) 3) (.cells #[.slice (some ⟨hs, 0, none⟩) (la * lb) (la * lb)] 22) (.cells #[.int .i64 ((la * lb : Nat) : Int)] 3) (.cells #[.func (.func 21) #[] #[.pointer (some ⟨bs, 0, none⟩), .pointer (some ⟨bb, 0, none⟩), .pointer (some ⟨hs + 1, 0, none⟩)]] 57) (.cells #[.int .i64 0] 85) (.cells #[.int .u64 0, .int .u32 0] 91)
  rw [← hX, ← hhs] at p6
  obtain ⟨s6, x0, x1, x2, x3, x4, x5, xo⟩ := p6
  clear hX I2 G2
  obtain ⟨N3, gs3, w3, sl3, t3, q3, g3, r3, z3, i3, s3, go3, hp3, sz3, os3, ou3, wg3, Q3, P3⟩ := add_run h (la * lb) hs bs bb hh (mkF 7 #[g 0, .slice ya la ca, g 2, .int .i64 (h : Nat), g 4, g 5, .pointer (some ⟨bb, 0, none⟩), g 7, .pointer (some ⟨b8, 0, none⟩), g 9, g 10, g 11, g 12, .pointer (some ⟨bs, 0, none⟩), .pointer (some ⟨hs + 1, 0, none⟩), g 15, g 16, g 17, g 18, g 19, g 20, g 21, g 22, g 23, g 24, g 25, g 26, g 27, g 28, g 29, g 30, g 31, g 32, g 33, g 34, g 35, g 36, g 37, g 38, g 39, g 40, g 41, g 42, g 43, g 44, g 45, .slice ya la ca, .int .i64 (la : Nat), .slice yb lb cb, .int .i64 (lb : Nat), .int .i64 ((la * lb : Nat) : Int), .slice (some ⟨hs, 0, none⟩) (la * lb) (la * lb), .int .i64 (h : Nat), .slice (some ⟨hs, 0, none⟩) (la * lb) (la * lb), .int .i64 ((la * lb : Nat) : Int), .func (.func 21) #[] #[.pointer (some ⟨bs, 0, none⟩), .pointer (some ⟨bb, 0, none⟩), .pointer (some ⟨hs + 1, 0, none⟩)], g 56, g 57, g 58, g 59, g 60, g 61, g 62, g 63, g 64, g 65, g 66, g 67, g 68, g 69, g 70, g 71] [.inRegion bO9 [4], .code (restAt 7 bBody)] .run :: c0) (Fd := hs) (by omega) i2 I2' x5 Q2 P2 sl2
  have hold : ∀ b, b < hs → w3.heap[b]? = w1.heap[b]? := fun b hb => (hp3 b (by omega)).trans (xo b hb)
  have size3 : w3.heap.size = hs + 6 := sz3.trans s6
  obtain ⟨cst, hcst⟩ : ∃ cst, cst = cstB Sn0 h (la * lb) gs3.size hs lb (.agg #[.slice ap (min (n - 1) (la * lb)) (min (n - 1) (la * lb)), .slice aa la la, .slice ab lb lb]) w3 := ⟨_, rfl⟩
  have fixOld : ∀ b, b < hs → ¬ Sn0 b → cst.Fix b := fun b hb hne => by
    rw [hcst]
    exact ⟨by show b < w3.heap.size; omega, by show b ≠ hs; omega, by show b ≠ hs + 4; omega, by show b ≠ hs + 5; omega, hne⟩
  have fix3 : ∀ b, b = hs + 1 ∨ b = hs + 2 ∨ b = hs + 3 → cst.Fix b := fun b hb => by
    rw [hcst]
    exact ⟨by show b < w3.heap.size; omega, by show b ≠ hs; omega, by show b ≠ hs + 4; omega, by show b ≠ hs + 5; omega, fun hc => by have := hSlt b hc; omega⟩
  have h0 : ∀ w, cst.Ok w → ∀ b, cst.Fix b → w.heap[b]? = w3.heap[b]? := fun w hw b hb => by
    have := hw.fix b hb
    rw [hcst] at this
    exact this
  have okw : cst.Ok w3 := by
    rw [hcst]
    exact ⟨fun _ _ => rfl, ⟨_, (hp3 hs (by omega)).trans x0, by simp [ints_size]; rfl⟩, Nat.le_refl _, rfl, rfl⟩
  have c1 : w3.heap[hs + 1]? = _ := (hp3 (hs + 1) (by omega)).trans x1
  have c2 : w3.heap[hs + 2]? = _ := (hp3 (hs + 2) (by omega)).trans x2
  have c3 : w3.heap[hs + 3]? = _ := (hp3 (hs + 3) (by omega)).trans x3
  have c4 : w3.heap[hs + 4]? = _ := (hp3 (hs + 4) (by omega)).trans x4
  have cb3 := (hold bb lbb).trans cbb
  have cs3 := (hold bs lbs).trans cbs
  have e1 : cst.n = h := by rw [hcst]; rfl
  have e2 : cst.K = la * lb := by rw [hcst]; rfl
  have e3 : cst.C1 = hs + 4 := by rw [hcst]; rfl
  have e4 : cst.C2 = hs + 5 := by rw [hcst]; rfl
  have e5 : cst.Fd = hs := by rw [hcst]; rfl
  have e6 : cst.S0 = gs3.size := by rw [hcst]; rfl
  have e7 : cst.N1 = w3.heap.size := by rw [hcst]; rfl
  have e8 : cst.TF = 3 := by rw [hcst]; rfl
  have e9 : cst.os0 = w3.os ∧ cst.out0 = w3.output := by rw [hcst]; exact ⟨rfl, rfl⟩
  have eX : cst.ex = Sn0 := by rw [hcst]; rfl
  have eB : cst.fB = 22 := by rw [hcst]; rfl
  have eA : ∀ k, cst.ar k = #[.agg #[.slice ap (min (n - 1) (la * lb)) (min (n - 1) (la * lb)), .slice aa la la, .slice ab lb lb], .int .i64 (k / lb : Nat), .int .i64 (k % lb : Nat)] := fun k => by rw [hcst]; rfl
  clear hcst
  have tep : TeP cst (fun k => .int .i64 (plF f n p la q lb k : Nat)) (hs + 2) (hs + 3) bs bb (hs + 1) (.agg #[.slice ap (min (n - 1) (la * lb)) (min (n - 1) (la * lb)), .slice aa la la, .slice ab lb lb]) yb lb cb := by
    refine ⟨⟨fix3 _ (.inr (.inl rfl)), fix3 _ (.inr (.inr rfl)), fixOld _ lbs (hSw _ obs), fixOld _ lbb (hSw _ obb), fix3 _ (.inl rfl)⟩, fun w hw => ?_, fun w hw => ?_, fun w hw => ?_, fun w hw e he => ?_, fun w hw => ?_, fun w hw => ?_, ⟨by omega, by omega⟩, by rw [e2]; omega, eB, eA, fun k => ⟨_, rfl⟩⟩
    · rw [e2]
      exact one_cellT ((h0 w hw _ (fix3 _ (.inr (.inl rfl)))).trans c2)
    · exact one_cellT ((h0 w hw _ (fix3 _ (.inr (.inr rfl)))).trans c3)
    · exact ld_row ((h0 w hw _ (fixOld _ lbs (hSw _ obs))).trans cs3) Try.underlying55 rfl tf_info_search
    · obtain ⟨ad, k1, k2⟩ := ev_rowT ((h0 w hw _ (fixOld _ lbs (hSw _ obs))).trans cs3) Try.underlying55 rfl tf_info_search e he
      exact ⟨ad, k1, by rw [k2]; exact fixOld _ lbs (hSw _ obs)⟩
    · exact one_cellT ((h0 w hw _ (fixOld _ lbb (hSw _ obb))).trans cb3)
    · rw [e2, e5]
      exact one_cellT ((h0 w hw _ (fix3 _ (.inl rfl))).trans c1)
  have d1 : cst.C1 < cst.N1 ∧ cst.C2 < cst.N1 ∧ cst.Fd < cst.N1 ∧ cst.C1 ≠ cst.C2 ∧ cst.C1 ≠ cst.Fd ∧ cst.C2 ≠ cst.Fd := by
    rw [e3, e4, e5, e7]
    omega
  have s0 : 1 ≤ cst.S0 := by
    rw [e6]
    have := idx_lt i3
    omega
  let SC := teleScr (tT := 85) tep (mkF 7 #[g 0, .slice ya la ca, g 2, .int .i64 (h : Nat), g 4, g 5, .pointer (some ⟨bb, 0, none⟩), g 7, .pointer (some ⟨b8, 0, none⟩), g 9, g 10, g 11, g 12, .pointer (some ⟨bs, 0, none⟩), .pointer (some ⟨hs + 1, 0, none⟩), g 15, g 16, g 17, g 18, g 19, g 20, g 21, g 22, g 23, g 24, g 25, g 26, g 27, g 28, g 29, g 30, g 31, g 32, g 33, g 34, g 35, g 36, g 37, g 38, g 39, g 40, g 41, g 42, g 43, g 44, g 45, .slice ya la ca, .int .i64 (la : Nat), .slice yb lb cb, .int .i64 (lb : Nat), .int .i64 ((la * lb : Nat) : Int), .slice (some ⟨hs, 0, none⟩) (la * lb) (la * lb), .int .i64 (h : Nat), .slice (some ⟨hs, 0, none⟩) (la * lb) (la * lb), .int .i64 ((la * lb : Nat) : Int), .func (.func 21) #[] #[.pointer (some ⟨bs, 0, none⟩), .pointer (some ⟨bb, 0, none⟩), .pointer (some ⟨hs + 1, 0, none⟩)], g 56, g 57, g 58, g 59, g 60, g 61, g 62, g 63, g 64, g 65, g 66, g 67, g 68, g 69, g 70, g 71] [.inRegion bO9 [4], .code (restAt 7 bBody)] .run :: c0) (by rw [e1]; omega) s0 d1 (by rw [eB]; kernel_rfl) (fun k hk w hw => by
    rw [e2] at hk
    have hx : k / lb < 47 := by
      have : k / lb < la := Nat.div_lt_of_lt_mul (by rw [Nat.mul_comm]; exact hk)
      omega
    have hy : k % lb < 47 := by
      have := Nat.mod_lt k (show 0 < lb by omega)
      omega
    obtain ⟨E', wl', u, k1, k2, k3, k4, k5⟩ := fits_ghost (k / lb) (k % lb) (min (n - 1) (la * lb)) la lb ap aa ab _ _ _ (by omega) ha hb hx hy (fun r j => by
      have := (gaF_le (fun i => unN (f i ^^^ f (i + 1))) (la * lb) (n - 1) (r * 2 + j)).2
      omega) (fun j => by have := chN_lt p la j; simpa using this) (fun j => by have := chN_lt q lb j; simpa using this) w1 hpr hnA hnB rp rA rB
    have hQn : ∀ b q s o, E' b = some (q, s, o) → ¬ Sn0 q := fun b q s o e => by
      refine hSw q ?_
      rcases (k1 b q s o e).2.2 with ⟨ad, e1, e2, e3⟩ | ⟨ad, e1, e2⟩ | ⟨ad, e1, e2⟩
      · rw [e2]; exact oap ad e1 e3
      · rw [e2]; exact oaa ad e1
      · rw [e2]; exact oab ad e1
    refine ⟨E', wl', u, fun b q s o e => ⟨(k1 b q s o e).1, fixOld q (by rw [hhs]; exact (k1 b q s o e).2.1) (hQn b q s o e)⟩, by rw [eA]; exact k2, wr_move k3 fun b y e => ?_, k4, fun τ => ?_⟩
    · obtain ⟨q', s', o'⟩ := y
      have hq' := (k1 b q' s' o' e).2.1
      rw [← hhs] at hq'
      exact (h0 w hw q' (fixOld q' hq' (hQn b q' s' o' e))).trans (hold q' hq')
    · rw [eB]
      refine (k5 τ).mono ?_
      rintro e w' ⟨v', rfl, hv'⟩
      refine ⟨v', rfl, ?_⟩
      rw [hv']
      have hfc := fit_cnt f n p la q lb (k / lb) (k % lb) hf ha.1 hb.1
      unfold plF
      rw [← hfc]
      congr 2
      unfold fitS
      refine Tf.sm_congr fun r _ => ?_
      simp only [gaF, Int.toNat_natCast]
      have hx2 : ∀ u : Nat, u < 2 → (r * 2 + u) / 2 = r ∧ (r * 2 + u) % 2 = u := fun u hu => by omega
      have hu := xor_lt2 (chN_lt p la ((k / lb + r) % la)) (chN_lt q lb ((k % lb + r) % lb))
      rw [(hx2 _ hu).1, (hx2 _ hu).2])
  have hsn : SnOk cst (fun b => Sn0 b ∨ b = hs + 4 ∨ b = hs + 5) := ⟨fun b hb => by
    rw [e7, e5]
    rcases hb with hb | hb | hb
    · have := hSlt b hb
      omega
    · omega
    · omega, fun b hb hf => by
    have h3 := hf.2.2
    rw [e3, e4, eX] at h3
    rcases hb with hb | hb | hb
    · exact h3.2.2 hb
    · exact h3.1 hb
    · exact h3.2.1 hb, by rw [e3]; exact .inr (.inl rfl), by rw [e4]; exact .inr (.inr rfl)⟩
  have hW : Walk2 Try.prog cst Go.Proofs.Ytpdemelchhkfaaa.Cs.wgL.tWg 85 true (SC.GoP 0) 0 g3 w3 := Goes.stop fun _ _ => ⟨s3, go3 cst e1 e3 e4⟩
  obtain ⟨N4, gs4, w4, sl4, t4, q4, g4, r4, z4, i4, on4, Q4, ok4, wg4, res4⟩ := pool2_runs hG tf_fnsCode SC hsn (by rw [e6]) i3 Q3 hW okw (by show w3.heap[cst.C1]? = _; rw [e3]; exact c4) (by rw [e4, e1]; exact wg3) (by rw [e5]; exact fun j a ad k1 k2 => P3 j a k1 ad k2) sl3
  obtain ⟨N5, gs5, w5, sl5, t5, q5, g5, r5, z5, i5, s5, jn5, hp5, os5, ou5, Q5⟩ := beside_on (fun b hb => hsn.fix b hb) i4 on4 ok4 Q4 sl4
  obtain ⟨T, hT, rfl⟩ := jn5
  refine ⟨N1 + (N2 + (N3 + (N4 + N5))), gs5, w1, w5, sl5, t5, q5, E, wl, x, g, ya, yb, ca, cb, bb, b8, bs, hs, T, ?_, hT, i5, ⟨k8, hhs, fun b hb hne => ?_, cbb, ?_, fun k hk => ?_, ?_, ?_, ?_⟩, Q5⟩
  · rw [runNT_add, r1]
    show runNT Try.prog (N2 + (N3 + (N4 + N5))) (crowd gs1 w1 sl1) t1 = _
    rw [runNT_add, r2]
    show runNT Try.prog (N3 + (N4 + N5)) (crowd gs2 w2 sl2) t2 = _
    rw [runNT_add, r3]
    show runNT Try.prog (N4 + N5) (crowd gs3 w3 sl3) t3 = _
    rw [runNT_add, r4]
    exact r5
  · rw [hp5]
    exact (h0 w4 ok4.ok b (fixOld b hb hne)).trans (hold b hb)
  · obtain ⟨cs, k1, k2⟩ := ok4.ok.fd
    rw [e5, e8] at k1
    rw [e2] at k2
    exact ⟨cs, by rw [hp5]; exact k1, k2⟩
  · have := res4 k (by rw [e2]; exact hk)
    rw [e5] at this
    have hcell : ∀ a, w5.cell? a = w4.cell? a := fun a => by unfold World.cell?; rw [hp5]
    rw [hcell]
    exact this
  · rw [hp5]
    exact (h0 w4 ok4.ok _ (fix3 _ (.inl rfl))).trans c1
  · have := ok4.ok.big
    rw [e7, size3] at this
    rw [hp5]
    exact this
  · have := ok4.ok.env
    rw [e9.1, e9.2] at this
    exact ⟨os5.trans (this.1.trans (os3.trans k8.env.1)), ou5.trans (this.2.trans (ou3.trans k8.env.2))⟩
end Go.Proofs.Ytpdemelchhkfaaa.Cs
