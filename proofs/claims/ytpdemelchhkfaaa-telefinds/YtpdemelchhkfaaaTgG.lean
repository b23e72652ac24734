/-
  tele.Best in company: the pool, to behind Wait.
-/
import Derived.Test.YtpdemelchhkfaaaJn35
import Derived.Deep.MidRow
import Derived.Conc.AppendEvents3
namespace Go.Proofs.Ytpdemelchhkfaaa.Cs
open Go.Conc Go.RowKit PK Tl
open Go.ConcR (KK WgAt wgBlock)
/-- A row that lies whole is loaded. -/
theorem ld_row {W : World} {b : Nat} {T : TypeId} {A : Array Value} {TB : TypeId} {fr : Nat × Nat} {d : TypeDesc} (hW : W.heap[b]? = some (.cells A TB fr)) (hu : Try.prog.underlying T = some d) (hd : d.isRow = true) (hi : (Try.prog.info? T).map (·.size) = some A.size) : (Instr.loadAt T (.pointer (some ⟨b, 0, none⟩))).run Try.prog W = .ok (.agg A) W := by
  have h := run_loadAt_mid (P := Try.prog) W b 0 T A.toList d (fun j v hj => by rw [Nat.zero_add, cell_of_row _ _ _ _ _ _ hW, ← Array.getElem?_toList]; exact hj) hu hd (by rw [hi]; simp)
  simpa using h
theorem ev_load {w : World} {a : Addr} {u : Value} {es : Array Event} (hu : w.cell? a = some u) : ∀ ev ∈ (load a).events Try.prog w es, ev ∈ es ∨ ev = ⟨.cell a, false, false⟩ := fun ev h => by
  have h1 : ev ∈ es ∨ ev = ⟨.cell a, false, Mode.plain == Mode.atomic⟩ := by simpa [go_sem, hu] using h
  exact h1
theorem ev_cells (a : Addr) : ∀ (n i : Nat) (acc : Array Value) (w : World) (es : Array Event), (∀ j, j < n → (w.cell? (a.add (i + j))).isSome) → ∀ ev ∈ (loadCellsFrom a i n acc).events Try.prog w es, ev ∈ es ∨ ∃ ad : Addr, ev = ⟨.cell ad, false, false⟩ ∧ ad.block = a.block
  | 0, _, _, _, _, _ => fun ev h => .inl (by simpa [loadCellsFrom] using h)
  | n + 1, i, acc, w, es, hc => fun ev h => by
    simp only [loadCellsFrom, Sem.events_bind] at h
    obtain ⟨u, hu⟩ := Option.isSome_iff_exists.1 (hc 0 (by omega))
    simp only [Nat.add_zero] at hu
    have hr : (load (a.add i)).run Try.prog w = .ok u w := by simp [hu]
    rw [hr] at h
    rcases ev_cells a n (i + 1) (acc.push u) w _ (fun j hj => by have := hc (j + 1) (by omega); rwa [show i + (j + 1) = i + 1 + j by omega] at this) ev h with h | h
    · rcases ev_load hu ev h with h | h
      · exact .inl h
      · exact .inr ⟨_, h, by unfold Addr.add; split <;> rfl⟩
    · exact .inr h
theorem ev_rowT {W : World} {b : Nat} {T : TypeId} {A : Array Value} {TB : TypeId} {fr : Nat × Nat} {d : TypeDesc} (hW : W.heap[b]? = some (.cells A TB fr)) (hu : Try.prog.underlying T = some d) (hd : d.isRow = true) (hi : (Try.prog.info? T).map (·.size) = some A.size) :
    ∀ e ∈ (Instr.loadAt T (.pointer (some ⟨b, 0, none⟩))).events Try.prog W #[], ∃ ad : Addr, e = ⟨.cell ad, false, false⟩ ∧ ad.block = b := fun e he => by
  obtain ⟨i, hi1, hi2⟩ := Option.map_eq_some_iff.1 hi
  have hc := ev_cells ⟨b, 0, none⟩ A.size 0 #[] W #[] (fun j hj => by
    rw [Addr.add_lit, cell_of_row _ _ _ _ _ _ hW]
    simp [hj])
  cases d with
  | struct fs =>
    simp [Instr.loadAt, Instr.sureAddr, loadVar, isAgg, go_sem, underlying, sizeOf, typeInfo, loadCells, hu, hi1, hi2] at he
    rcases hc e he with h | h
    · simp at h
    · exact h
  | array n el =>
    simp [Instr.loadAt, Instr.sureAddr, loadVar, isAgg, go_sem, underlying, sizeOf, typeInfo, loadCells, hu, hi1, hi2] at he
    rcases hc e he with h | h
    · simp at h
    · exact h
  | _ => cases hd
variable [Fns] in
/-- A slice whose cells are told by a relation is laid: m cells. -/
theorem cq_cells {P : Program} {w : World} {E : Env} {wl : World} (h : Cq P E wl w) (hsh : ∀ b q s, E b ≠ some (q, s, true)) {TJ : TypeId} (hJ : P.info? TJ = none) {a : Option Addr} {m n cap : Nat} (hmn : n ≤ m) {f : Nat → Value} (hf : ∀ i E', VR E' (f i) (f i)) (hc : ∀ c, c < m → ∃ b o, a = some ⟨b, o, none⟩ ∧ w.cell? ⟨b, o + c, none⟩ = some (f c)) (hr : Rt w (.slice a n cap)) :
    ∃ E' wl' a', Cq P E' wl' w ∧ (∀ b q s, E' b ≠ some (q, s, true)) ∧ (∀ b q s o, E' b = some (q, s, o) → E b = some (q, s, o) ∨ q < w.heap.size) ∧ CpLe E E' wl wl' ∧ VR E' (.slice a' n cap) (.slice a n cap) ∧ ∀ c, c < m → ∃ b o, a' = some ⟨b, o, none⟩ ∧ wl'.cell? ⟨b, o + c, none⟩ = some (f c) := by
  cases a with
  | none =>
    refine ⟨E, wl, none, h, hsh, fun _ _ _ _ e => .inl e, CpLe.refl _ _, .sliceNil n cap, fun c hc' => ?_⟩
    obtain ⟨b, o, e, _⟩ := hc c hc'
    cases e
  | some ad =>
    by_cases hz : m = 0 ∧ cap = 0
    · obtain ⟨rfl, rfl⟩ := hz
      obtain rfl : n = 0 := by omega
      exact ⟨E, wl, some ad, h, hsh, fun _ _ _ _ e => .inl e, CpLe.refl _ _, .sliceNo ad ad, fun c hc' => absurd hc' (Nat.not_lt_zero _)⟩
    · have hrow : ad.spot = none ∧ ∃ y T fr, w.heap[ad.block]? = some (.cells y T fr) := by
        by_cases h0 : 0 < m
        · obtain ⟨b, o, e, k⟩ := hc 0 h0
          cases e
          obtain ⟨y, T, fr, k1⟩ := cell_someT k
          exact ⟨rfl, y, T, fr, k1⟩
        · exact hr ad n cap rfl (by omega)
      obtain ⟨b, o, sp⟩ := ad
      obtain ⟨hsp, y, T, fr, hq⟩ := hrow
      dsimp only at hsp hq
      subst hsp
      obtain ⟨E', c1, c2, c3, c4, c5⟩ := h.row hJ (s := o) hq (fun b s' => hsh b _ s') (Array.ofFn fun i : Fin m => f i) (fun i u hu => by
        obtain ⟨hi, rfl⟩ := Array.getElem?_eq_some_iff.1 hu
        simp only [Array.size_ofFn] at hi
        obtain ⟨b', o', e, k⟩ := hc i hi
        cases e
        refine ⟨f i, ?_, by rw [Array.getElem_ofFn]; exact hf _ _⟩
        rw [cell_of_row _ _ _ _ _ _ hq] at k
        rw [Nat.add_comm]
        exact k)
      refine ⟨E', _, some ⟨wl.heap.size, 0, none⟩, c1, fun b' q' s' e => ?_, fun b' q' s' o' e => ?_, c2, .slice n cap ?_, fun c hc' => ⟨wl.heap.size, 0, rfl, ?_⟩⟩
      · rcases c5 b' q' s' true e with ⟨_, _, _, e'⟩ | e'
        · cases e'
        · exact hsh _ _ _ e'
      · rcases c5 b' q' s' o' e with ⟨_, rfl, _, _⟩ | e'
        · exact .inr (Array.getElem?_eq_some_iff.1 hq).1
        · exact .inl e'
      · have := c3 0
        rw [Nat.zero_add] at this
        exact this
      · rw [Nat.zero_add]
        exact c4 c _ (by rw [Array.getElem?_eq_getElem (by simpa using hc'), Array.getElem_ofFn])
/-- The job: fits, in company. -/
theorem fits_ghost (x y s la lb : Nat) (ap aa ab : Option Addr) (G : Nat → Nat → Nat) (A B : Nat → Nat) (hs : s ≤ 2209) (ha : 1 ≤ la ∧ la ≤ 47) (hb : 1 ≤ lb ∧ lb ≤ 47) (hx : x < 47) (hy : y < 47) (hG : ∀ r k, G r k ≤ 65536) (hA : ∀ c, A c < 2) (hB : ∀ c, B c < 2) (w : World) (hp : PrC w ap s G) (h1 : NmC w aa la A) (h2 : NmC w ab lb B) (rp : Rt w (.slice ap s s)) (ra : Rt w (.slice aa la la)) (rb : Rt w (.slice ab lb lb)) :
    ∃ (E : Env) (wl : World) (u : Array Value), (∀ b q s o, E b = some (q, s, o) → o = false ∧ q < w.heap.size) ∧ LR E u #[.agg #[.slice ap s s, .slice aa la la, .slice ab lb lb], .int .i64 (x : Nat), .int .i64 (y : Nat)] ∧ WR Try.prog E wl w ∧ Fns.G ≤ wl.heap.size ∧ ∀ τ, Calls Try.prog 22 u (wl.tp τ) fun e _ => ∃ v, e = .returned v ∧ v = .int .i64 (fitS G A B la lb x y s : Nat) := by
  have hn0 : ∀ b q s, (fun _ => none : Env) b ≠ some (q, s, true) := fun b q s e => by cases e
  obtain ⟨E1, wl1, ap', c1, s1, b1, e1, r1, k1⟩ := cq_cells (P := Try.prog) (w := w) (Cp.nil w).cq hn0 no_type (m := s * 2) (n := s) (cap := s) (by omega) (f := fun i => .int .i64 (G (i / 2) (i % 2) : Nat)) (fun i E => .int _ _) (fun c hc => by
    obtain ⟨b, o, e, k⟩ := hp (c / 2) (by omega)
    refine ⟨b, o, e, ?_⟩
    have := k (c % 2) (Nat.mod_lt _ (by decide))
    rw [show c / 2 * 2 + c % 2 = c by omega] at this
    exact this) rp
  obtain ⟨E2, wl2, aa', c2, s2, b2, e2, r2, k2⟩ := cq_cells c1 s1 no_type (m := la) (n := la) (cap := la) (Nat.le_refl _) (f := fun i => .int .i64 (A i : Nat)) (fun i E => .int _ _) h1 ra
  obtain ⟨E3, wl3, ab', c3, s3, b3, e3, r3, k3⟩ := cq_cells c2 s2 no_type (m := lb) (n := lb) (cap := lb) (Nat.le_refl _) (f := fun i => .int .i64 (B i : Nat)) (fun i E => .int _ _) h2 rb
  refine ⟨E3, wl3, #[.agg #[.slice ap' s s, .slice aa' la la, .slice ab' lb lb], .int .i64 (x : Nat), .int .i64 (y : Nat)], fun b q s o e => ?_, lr_cons (.mkAgg (lr_cons ((r1.mono e2.le).mono e3.le) (lr_cons (r2.mono e3.le) (lr_cons r3 lr_nil)))) (lr_cons (.int _ _) (lr_cons (.int _ _) lr_nil)), c3.wr, c3.big, fun τ => ?_⟩
  · refine ⟨?_, ?_⟩
    · cases o with
      | false => rfl
      | true => exact absurd e (s3 b q s)
    · rcases b3 b q s o e with e | e
      · rcases b2 b q s o e with e | e
        · rcases b1 b q s o e with e | e
          · cases e
          · exact e
        · exact e
      · exact e
  · refine (pfit_any ap' aa' ab' s s la la lb lb x y G A B hs ha hb hx hy hG hA hB (wl3.tp τ) (fun r hr => ?_) (fun c hc => ?_) k3).mono ?_
    · obtain ⟨b, o, e, _⟩ := k1 (r * 2) (by omega)
      refine ⟨b, o, e, fun k hk => ?_⟩
      obtain ⟨b', o', e', k'⟩ := k1 (r * 2 + k) (by omega)
      rw [e] at e'
      cases e'
      rw [show (r * 2 + k) / 2 = r by omega, show (r * 2 + k) % 2 = k by omega] at k'
      exact (e2.trans e3).cell k'
    · obtain ⟨b, o, e, k⟩ := k2 c hc
      exact ⟨b, o, e, e3.cell k⟩
    · rintro e w' ⟨rfl, _⟩
      exact ⟨_, rfl, rfl⟩
section
variable {c : Cst} {tW tT : TypeId}
theorem ok2_heap {w w' : World} (e1 : w'.heap = w.heap) (e2 : w'.os = w.os) (e3 : w'.output = w.output) (h : Ok2 c tW tT w) : Ok2 c tW tT w' := by
  obtain ⟨⟨f1, f2, f3, f4⟩, ⟨k, hk⟩, st, sm, hw⟩ := h
  refine ⟨⟨fun q hq => by rw [e1]; exact f1 q hq, by rw [e1]; exact f2, by rw [e1]; exact f3, by rw [e2, e3]; exact f4⟩, ⟨k, ?_⟩, st, sm, ?_⟩
  · show w'.heap[c.C1]? = _
    rw [e1]
    exact hk
  · show w'.heap[c.C2]? = _
    rw [e1]
    exact hw
theorem goes_big {A : Goroutine → World → Prop} {n : Nat} : ∀ {m : Nat} {g : Goroutine} {w : World}, n ≤ w.heap.size → Goes Try.prog true AtRel (DQ c) A m g w → Goes Try.prog true AtRel (fun w w' es => DQ c w w' es ∧ n ≤ w.heap.size) A m g w
  | 0, _, _, _, h => h
  | m + 1, g, w, hn, h => by
    rcases h with h | ⟨hs, h⟩
    · exact .inl h
    · refine .inr ⟨hs, fun w₁ h₁ => ?_⟩
      have := h w₁ h₁
      obtain ⟨d, rfl⟩ := h₁
      revert this
      cases stepG Try.prog true g (w.at d) <;> simp only [GStep.goes, imp_self]
      rintro ⟨hd, h3⟩
      exact ⟨⟨hd, hn⟩, goes_big (by rw [hd.heap]; exact hn) h3⟩
end
section
variable {c : Cst} {tW tT : TypeId} {Sn : Nat → Prop} {gs : Array Goroutine} {t : Trace} {q : Nat → Nat} {d : Nat} {g : Goroutine} {w : World}
theorem goes_on2 {A : Goroutine → World → Prop} {I : World → Prop} (hI : ∀ w w', w'.heap = w.heap → w'.os = w.os → w'.output = w.output → I w → I w') : ∀ {m : Nat} {g : Goroutine} {w : World}, Ok2 c tW tT w → I w → Goes Try.prog true (fun _ w => Ok2 c tW tT w) (DQ c) A m g w → Goes Try.prog true AtRel (DQ c) (fun g w => A g w ∧ I w) m g w
  | 0, _, w, hk, hi, h => fun w₁ h₁ => by
    obtain ⟨d, rfl⟩ := h₁
    exact ⟨h (w.at d) (ok2_heap (w := w) (w' := w.at d) rfl rfl rfl hk), hI w (w.at d) rfl rfl rfl hi⟩
  | m + 1, g, w, hk, hi, h => by
    rcases h with h | ⟨hs, h⟩
    · exact .inl fun w₁ h₁ => by
        obtain ⟨d, rfl⟩ := h₁
        exact ⟨h (w.at d) (ok2_heap (w := w) (w' := w.at d) rfl rfl rfl hk), hI w (w.at d) rfl rfl rfl hi⟩
    · refine .inr ⟨hs, fun w₁ h₁ => ?_⟩
      obtain ⟨d, rfl⟩ := h₁
      have := h (w.at d) (ok2_heap (w := w) (w' := w.at d) rfl rfl rfl hk)
      revert this
      cases stepG Try.prog true g (w.at d) <;> simp only [GStep.goes, imp_self]
      rintro ⟨hd, h3⟩
      exact ⟨hd, goes_on2 hI (ok2_heap (w := w) hd.heap hd.os hd.output hk) (hI w _ hd.heap hd.os hd.output hi) h3⟩
/-- A walk that only reads what stays, beside them. -/
theorem beside_on (hsn : ∀ b, Sn b → ¬ c.Fix b) {Stp : Goroutine → Prop} (h0 : gs[0]? = some g) (hg : On Try.prog c tW tT true Stp g) (hk : Ok2 c tW tT w) (hq : Qs Try.prog Sn gs t q d w.heap.size) (sl : Option (Nat × Nat)) :
    ∃ N gs' w' sl' t' q' g', runNT Try.prog N (crowd gs w sl) t = (.next (crowd gs' w' sl'), t') ∧ gs'.size = gs.size ∧ gs'[0]? = some g' ∧ g'.status = .running ∧ Stp g' ∧ w'.heap = w.heap ∧ w'.os = w.os ∧ w'.output = w.output ∧ Qs Try.prog Sn gs' t' q' d w'.heap.size := by
  obtain ⟨m, hm⟩ := hg.2 w hk
  have h1 := goes_on2 (I := fun w' => (c.N1 ≤ w'.heap.size) ∧ w'.heap = w.heap ∧ w'.os = w.os ∧ w'.output = w.output) (fun w1 w2 e1 e2 e3 h => ⟨by rw [e1]; exact h.1, e1.trans h.2.1, e2.trans h.2.2.1, e3.trans h.2.2.2⟩) hk ⟨hk.ok.big, rfl, rfl, rfl⟩ hm
  have h2 := goes_big (n := c.N1) hk.ok.big h1
  obtain ⟨N, gs', w', sl', t', q', g', r, z, i, ⟨⟨s1, s2⟩, s3⟩, Q⟩ := beside_walk2 (Sn := Sn) (D := fun w w' es => DQ c w w' es ∧ c.N1 ≤ w.heap.size) (sl := sl) (fun w w' es h => ⟨by rw [h.1.heap]; exact Nat.le_refl _, fun e he => by
    obtain ⟨a, rfl, ha⟩ := h.1.evs e he
    have hl : a.block < w'.heap.size := by rw [h.1.heap]; exact Nat.lt_of_lt_of_le ha.1 h.2
    exact (dg_cell (Sn := Sn) (Fd := a.block + 1) hl (fun k => hsn _ k ha) (by omega)).1⟩) (fun g w h => h.1.1) h0 h2 hq
  exact ⟨N, gs', w', sl', t', q', g', r, z, i, s1, s2, s3.2.1, s3.2.2.1, s3.2.2.2, Q⟩
end
end Go.Proofs.Ytpdemelchhkfaaa.Cs
