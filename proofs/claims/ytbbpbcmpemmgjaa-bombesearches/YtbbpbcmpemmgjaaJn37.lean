/-
  Several texts, joined: FgJ, FeA, FeB, FeC.
-/
import Derived.Test.YtbbpbcmpemmgjaaJn34
import Derived.Test.YtbbpbcmpemmgjaaJn36
/-
  The jobs of bombe.Search, and its pool.
-/
namespace Go.Proofs.Ytbbpbcmpemmgjaa
open Go.RowKit PK Vg Go.Conc Cs
/-- What a search by a crib tells at each window. -/
structure BmS (g : Gm) (h : Hl) (cr te : ByteArray) : Prop where
  n : h.n = g.n
  t : ∀ N, ∃ A ok pr, Tst (gmN g N) cr te A ok pr ∧ h.gs N = (fun b => gsF A b (pr b)) ∧ h.lg N = okTo ok 26
theorem bwE_gmN {g : Gm} {cr te : ByteArray} (h : bwE g cr.data.toList te.data.toList = 0) (N : Nat) : bwE (gmN g N) cr.data.toList te.data.toList = 0 := by
  have h1 := gmN_ok (bwE_zero h).1 N
  have h0 := (bwE_zero h).1
  unfold bwE at h ⊢
  rw [h1]
  rw [h0] at h
  exact h
theorem bms_exists {g : Gm} {cr te : ByteArray} (h : bwE g cr.data.toList te.data.toList = 0) : ∃ hl, BmS g hl cr te := by
  have key : ∀ N, ∃ x : Nat × (Nat → Bool) × (Nat → Nat → Int), Tst (gmN g N) cr te x.1 x.2.1 x.2.2 := fun N => by
    obtain ⟨A, ok, pr, ht⟩ := tst_exists (bwE_gmN h N)
    exact ⟨(A, ok, pr), ht⟩
  exact ⟨⟨g.n, fun N b => gsF (key N).choose.1 b ((key N).choose.2.2 b), fun N => okTo (key N).choose.2.1 26⟩, rfl, fun N => ⟨_, _, _, (key N).choose_spec, rfl, rfl⟩⟩
theorem ml_gmN (g : Gm) (cr te : ByteArray) (N c : Nat) : ∀ k, Bo.ml (mnu (gmN g N) cr te) c k = Bo.ml (mnu g cr te) c k
  | 0 => rfl
  | k + 1 => by rw [Bo.ml, Bo.ml, ml_gmN g cr te N c k]; rfl
theorem swE_n {g : Gm} {h : Int} (hE : swE g h = 0) : 1 ≤ g.n ∧ g.n ≤ 3 ∧ gE g = 0 := by
  obtain ⟨hgE, hn3, _, _⟩ := swE_zero hE
  refine ⟨?_, hn3, hgE⟩
  refine Nat.lt_of_not_le fun hc => ?_
  unfold gE at hgE
  rw [if_pos (.inl (by omega))] at hgE
  cases hgE
section
variable {w w' : World} (hag : ∀ b, b < w.heap.size → w'.heap[b]? = w.heap[b]?)
include hag
theorem ints_ag {v : Value} {s n : Nat} {f : Nat → Int} (h : IntsC w v s n f) : IntsC w' v s n f := by
  obtain ⟨a, cap, h1, h3⟩ := h
  refine ⟨a, cap, h1, fun c hc => ?_⟩
  obtain ⟨b, o, e, k⟩ := h3 c hc
  exact ⟨b, o, e, cell_ag hag k⟩
theorem menu_ag {q s : Nat} {L : Nat → List (Nat × Nat)} (h : MnC w q s L) : MnC w' q s L := by
  obtain ⟨y, T, fr, h1, h2⟩ := h
  refine ⟨y, T, fr, row_ag hag h1, fun c hc => ?_⟩
  obtain ⟨v, e, k1, k2⟩ := h2 c hc
  exact ⟨v, e, ints_ag hag k1, rt_ag hag k2⟩
end
set_option maxHeartbeats 2000000 in
theorem job_ghostH (k : Nat) (hk : k < 26) (bN bC q s : Nat) (a b c : Value) (g : Gm) (cr te : ByteArray) (h : Hl) (hB : BmS g h cr te) (hd : Int) (hE : swE g hd = 0) (hfit : ∀ r, r < g.n → g.nl r * 8 ≤ 140737488355328) (hrl : g.rl * 8 ≤ 140737488355328) (TN TC : TypeId) (fN fC : Nat × Nat) (w : World) (hN : w.heap[bN]? = some (.cells #[.pointer (some ⟨q, s, none⟩)] TN fN)) (hC : w.heap[bC]? = some (.cells #[.string cr] TC fC)) (hmn : MnC w q s (fun c => Bo.ml (mnu g cr te) c (mnu g cr te).k)) (ha : WhR w a g.n g.wi g.nl g.no) (hb : NumsAt w b g.rl g.ri) (hc : NumsAt w c g.sl g.st) (ra : Rt w a) (rb : Rt w b) (rc : Rt w c) :
    ∃ (E : Env) (wl : World) (x : Array Value), (∀ b q s o, E b = some (q, s, o) → o = false ∧ q < w.heap.size) ∧ LR E x #[.agg (mac a b c g.rf g.pl), .int .i64 (k : Nat), .func (.func 33) #[] #[.pointer (some ⟨bN, 0, none⟩), .pointer (some ⟨bC, 0, none⟩)]] ∧ WR Try.prog E wl w ∧ Fns.G ≤ wl.heap.size ∧ ∀ τ, Calls Try.prog 66 x (wl.tp τ) fun e w' => ∃ v, e = .returned v ∧ HsO w' wl.heap.size v (h.hits k (26 ^ (g.n - 1))) h := by
  obtain ⟨hn1, hn3, hgE⟩ := swE_n hE
  obtain ⟨E1, wl1, a', b', c', p1, q1, ra', rb', rc', hm1⟩ := cp_mac (Cp.nil (P := Try.prog) w) no_type ha hb hc ra rb rc
  obtain ⟨E2, wl2, d, p2, q2, rd, hd2⟩ := cp_menu p1 no_type hmn
  obtain ⟨E3, wl3, dN, p3, q3, rN, kN⟩ := cp_whole p2 no_type hN #[.pointer (some ⟨d, 0, none⟩)] (fun i u hu => by
    have hi : i = 0 := by have := (Array.getElem?_eq_some_iff.1 hu).1; simp at this; exact this
    subst hi
    cases hu
    exact ⟨_, rfl, rd⟩)
  obtain ⟨E4, wl4, dC, p4, q4, rC, kC⟩ := cp_whole p3 no_type hC #[.string cr] (fun i u hu => by
    have hi : i = 0 := by have := (Array.getElem?_eq_some_iff.1 hu).1; simp at this; exact this
    subst hi
    cases hu
    exact ⟨_, rfl, .string _⟩)
  have hm4 := mac_keep q4 (mac_keep q3 (mac_keep q2 hm1))
  have hlm : LR E4 (mac a' b' c' g.rf g.pl) (mac a b c g.rf g.pl) := lr_mac (((ra'.mono q2.le).mono q3.le).mono q4.le) (((rb'.mono q2.le).mono q3.le).mono q4.le) (((rc'.mono q2.le).mono q3.le).mono q4.le)
  have hcN : wl4.cell? ⟨dN, 0, none⟩ = some (.pointer (some ⟨d, 0, none⟩)) := q4.cell (by rw [cell_of_row _ _ _ _ _ _ kN]; rfl)
  have hcC : wl4.cell? ⟨dC, 0, none⟩ = some (.string cr) := by rw [cell_of_row _ _ _ _ _ _ kC]; rfl
  have hmn4 : MnAt wl4 d (fun c => Bo.ml (mnu g cr te) c (mnu g cr te).k) := by
    obtain ⟨vals, h1, h2⟩ := hd2
    refine ⟨vals, fun c hc => q4.cell (q3.cell (h1 c hc)), fun c hc => ?_⟩
    obtain ⟨x, y, e, k⟩ := h2 c hc
    refine ⟨x, y, e, fun c hc => ?_⟩
    obtain ⟨b, e1, e2, e3⟩ := k c hc
    exact ⟨b, e1, q4.cell (q3.cell e2), q4.cell (q3.cell e3)⟩
  have hfn : VR E4 (.func (.func 33) #[] #[.pointer (some ⟨dN, 0, none⟩), .pointer (some ⟨dC, 0, none⟩)]) (.func (.func 33) #[] #[.pointer (some ⟨bN, 0, none⟩), .pointer (some ⟨bC, 0, none⟩)]) := by
    have l1 : LR E4 #[.pointer (some ⟨dN, 0, none⟩), .pointer (some ⟨dC, 0, none⟩)] #[.pointer (some ⟨bN, 0, none⟩), .pointer (some ⟨bC, 0, none⟩)] := lr_cons (rN.mono q4.le) (lr_cons rC lr_nil)
    exact .func _ (by kernel_rfl) rfl (fun i u v hu => by simp at hu) l1.size l1.at_
  refine ⟨E4, wl4, #[.agg (mac a' b' c' g.rf g.pl), .int .i64 (k : Nat), .func (.func 33) #[] #[.pointer (some ⟨dN, 0, none⟩), .pointer (some ⟨dC, 0, none⟩)]], fun b q s o e => ⟨p4.sh _ _ _ _ e, (p4.wr.lt e).2⟩, lr_cons (.mkAgg hlm) (lr_cons (.int _ _) (lr_cons hfn lr_nil)), p4.wr, p4.big, fun τ => ?_⟩
  obtain ⟨hn, ht⟩ := hB
  obtain ⟨hh, gs, lg⟩ := h
  dsimp only at hn
  subst hn
  refine (pbehH _ g hn1 (by omega) hfit hrl k hk dN dC gs lg (wl4.tp τ) hm4 (fun N a2 b2 c2 W hb2 hm2 => ?_)).mono ?_
  · obtain ⟨A, ok, pr, htN, e1, e2⟩ := ht N
    dsimp only at e1 e2
    have hmW : MnAt W d (fun c => Bo.ml (mnu (gmN g N) cr te) c (mnu (gmN g N) cr te).k) := by
      have e3 : (fun c => Bo.ml (mnu (gmN g N) cr te) c (mnu (gmN g N) cr te).k) = (fun c => Bo.ml (mnu g cr te) c (mnu g cr te).k) := funext fun c => ml_gmN g cr te N c _
      rw [e3]
      exact MnAt.below (W := wl4.tp τ) hmn4 hb2
    have hcN' : (wl4.tp τ).cell? ⟨dN, 0, none⟩ = some (.pointer (some ⟨d, 0, none⟩)) := hcN
    have hcC' : (wl4.tp τ).cell? ⟨dC, 0, none⟩ = some (.string cr) := hcC
    refine (plookH a2 b2 c2 (gmN g N) cr te A ok pr htN (by show g.n * 8 ≤ _; omega) dN dC d W hm2 ((hb2.cell (cell_block hcN')).trans hcN') ((hb2.cell (cell_block hcC')).trans hcC') hmW).mono ?_
    rintro e w' ⟨us, ug, rfl, k1, ⟨B, k2⟩, k3⟩
    refine ⟨us, ug, ?_, ⟨k1, B, ?_⟩, k3⟩
    · show Ending.returned (.tuple #[.agg #[us, ug], .bool (decide (0 < (okTo ok 26).length))]) = .returned (.tuple #[.agg #[us, ug], .bool (decide (0 < (lg N).length))])
      rw [e2]
    · show OwnsG w' B ug (gs N) (lg N)
      rw [e1, e2]
      exact k2
  · rintro e w' ⟨v, rfl, h1, _⟩
    exact ⟨v, rfl, h1⟩
set_option maxRecDepth 100000 in
set_option maxHeartbeats 4000000 in
theorem pool_joinH (cst : Cst) (bF bM bL bD bN bC q s : Nat) (a b c : Value) (g : Gm) (cr te : ByteArray) (hl : Hl) (hBm : BmS g hl cr te) (h : Int) (hE : swE g h = 0) (hfit : ∀ r, r < g.n → g.nl r * 8 ≤ 140737488355328) (hrl : g.rl * 8 ≤ 140737488355328) (TN TC : TypeId) (fN fC : Nat × Nat) (wp : World)
    (hpre : ∀ w, cst.Ok w → ∀ b, b < wp.heap.size → w.heap[b]? = wp.heap[b]?) (hfix : ∀ q, q < wp.heap.size → cst.Fix q)
    (hN : wp.heap[bN]? = some (.cells #[.pointer (some ⟨q, s, none⟩)] TN fN)) (hC : wp.heap[bC]? = some (.cells #[.string cr] TC fC)) (hmn : MnC wp q s (fun c => Bo.ml (mnu g cr te) c (mnu g cr te).k)) (ha : WhR wp a g.n g.wi g.nl g.no) (hb : NumsAt wp b g.rl g.ri) (hc : NumsAt wp c g.sl g.st) (ra : Rt wp a) (rb : Rt wp b) (rc : Rt wp c)
    (wk : Hb.WkP cst bF bM bL bD (.agg (mac a b c g.rf g.pl)) (.func (.func 33) #[] #[.pointer (some ⟨bN, 0, none⟩), .pointer (some ⟨bC, 0, none⟩)])) (hn : 1 ≤ cst.n ∧ cst.n ≤ 1000) (hK : cst.K = 26) (hz : cst.z1 = .int .i64 0 ∧ cst.z2 = .bool false ∧ cst.zs1 = .tuple #[] ∧ cst.zs2 = .tuple #[]) (hB : cst.fB = 66) (har : cst.ar = fun k => #[.agg (mac a b c g.rf g.pl), .int .i64 (k : Nat), .func (.func 33) #[] #[.pointer (some ⟨bN, 0, none⟩), .pointer (some ⟨bC, 0, none⟩)]]) (s1 : 1 ≤ cst.S0) (d1 : cst.C1 < cst.N1 ∧ cst.C2 < cst.N1 ∧ cst.Fd < cst.N1 ∧ cst.C1 ≠ cst.C2 ∧ cst.C1 ≠ cst.Fd ∧ cst.C2 ≠ cst.Fd)
    (cs : List Frame) {gs : Array Goroutine} {t : Trace} {qq : Nat → Nat} {g0 : Goroutine} {w : World} (hS : cst.S0 = gs.size) (h0 : gs[0]? = some g0) (hq : Qt Try.prog gs t qq w.heap.size) {μ : Nat} (hw : Walk Try.prog cst true (Hb.eGoP cst bF bM bL bD cst.n cs 0) μ g0 w) (ok : cst.Ok w) (c1 : w.heap[cst.C1]? = some (.chan 0 #[] false 0 0 false)) (c2 : w.heap[cst.C2]? = some (.chan 0 #[] false 0 0 false)) (fd : ∀ j a ad, touchAt t j = some a → a.loc = .cell ad → ad.block ≠ cst.Fd) (sl : Option (Nat × Nat)) :
    ∃ N gs' w' sl' t' q' V, ∃ v0 v2 v4 v6 v7 v8 v12 v13 v14 v15 v16 v17 v18 v19 v20 v21 v22 v23 v24 v25 v26 v27 v28 v29 v30 v31 v32 v33 v34 v35 v36 v37 v38 v39 v40 v41 v42 v43 v44 v45 v46 v47 v48 v49 v50 v51 v52 : Value, runNT Try.prog N (crowd gs w sl) t = (.next (crowd gs' w' sl'), t') ∧ gs'[0]? = some (G (mkF 32 #[v0, .int .i64 (cst.n : Nat), v2, .pointer (some ⟨bM, 0, none⟩), v4, .pointer (some ⟨bL, 0, none⟩), v6, v7, v8, .pointer (some ⟨cst.Fd, 0, none⟩), .pointer (some ⟨bF, 0, none⟩), .pointer (some ⟨bD, 0, none⟩), v12, v13, v14, v15, v16, v17, v18, v19, v20, v21, v22, v23, v24, v25, v26, v27, v28, v29, v30, v31, v32, v33, v34, v35, v36, v37, v38, v39, v40, v41, v42, v43, v44, v45, v46, v47, v48, v49, v50, v51, v52] [.code Hb.eT5] .run) cs) ∧ w'.heap[cst.Fd]? = some (.cells (tab 26 V) cst.TF (0, 0)) ∧ (∀ k, k < 26 → HsC w' (V k) (hl.hits k (26 ^ (g.n - 1))) hl) ∧ cst.Ok w' ∧ Qt Try.prog gs' t' q' w'.heap.size := by
  have hG : Try.prog.globals.size ≤ Fns.G := Nat.le_refl _
  obtain ⟨hn1, hn3, hgE⟩ := swE_n hE
  have hln := hBm.n
  let S := Hb.everyScr (Post := fun k v wl => ∃ B, HsO wl B v (hl.hits k (26 ^ (g.n - 1))) hl) cst bF bM bL bD _ _ cs wk hn hK hz hB har s1 d1 (by rw [hB]; kernel_rfl) (fun k hk w hw => by
      obtain ⟨E, wl, x, k1, k2, k3, k4, k5⟩ := job_ghostH k (by omega) bN bC q s a b c g cr te hl hBm h hE hfit hrl TN TC fN fC wp hN hC hmn ha hb hc ra rb rc
      refine ⟨E, wl, x, fun b q s o e => ⟨(k1 b q s o e).1, hfix q (k1 b q s o e).2⟩, by rw [har]; exact k2, wr_move k3 fun b x e => ?_, k4, fun τ => ?_⟩
      · obtain ⟨q, s, o⟩ := x
        exact hpre w hw q (k1 b q s o e).2
      · rw [hB]
        refine (k5 τ).mono ?_
        rintro e w' ⟨v, rfl, hv⟩
        exact ⟨v, rfl, _, hv⟩) (fun k v wl E v' hp hr => by
      obtain ⟨B, hp⟩ := hp
      obtain ⟨vs, ⟨_, h2⟩, _⟩ := hp
      generalize (hl.hits k (26 ^ (g.n - 1))).length = nn at h2
      rcases h2 with ⟨rfl, _⟩ | ⟨_, _, _, rfl, _⟩ <;> cases hr <;> exact ⟨_, _, _, rfl⟩)
  obtain ⟨N1, gs1, w1, sl1, t1, q1, g1, r1, i1, jn, run1, Q1, ok1, RS, hRS, hres⟩ := pool_runs (S := S) hG fd_fnsCode hS h0 hq hw ok c1 c2 fd sl
  obtain ⟨v0, v2, v4, v6, v7, v8, v12, v13, v14, v15, v16, v17, v18, v19, v20, v21, v22, v23, v24, v25, v26, v27, v28, v29, v30, v31, v32, v33, v34, v35, v36, v37, v38, v39, v40, v41, v42, v43, v44, v45, v46, v47, v48, v49, v50, v51, v52, rfl⟩ := jn
  obtain ⟨cs, hcs, hcsz⟩ := ok1.fd
  rw [hK] at hcsz hres
  have hVk : ∀ k, ∃ v, k < 26 → cs[k]? = some v ∧ HsC w1 v (hl.hits k (26 ^ (g.n - 1))) hl := fun k => by
    by_cases hk : k < 26
    · obtain ⟨v, e1, E, vl, wl, ⟨B, p1⟩, p2, p3, _⟩ := hres k hk
      rw [cell_of_row _ _ _ _ _ _ hcs] at e1
      exact ⟨v, fun _ => ⟨e1, halts_back p3 (by rw [hln]; unfold maxLen; omega) p1 p2⟩⟩
    · exact ⟨.bool false, fun e => absurd e hk⟩
  have htab : cs = tab 26 fun k => (hVk k).choose := by
    apply Array.ext_getElem?
    intro i
    by_cases hi : i < 26
    · rw [tab_get _ hi]
      exact ((hVk i).choose_spec hi).1
    · rw [Array.getElem?_eq_none (by omega), Array.getElem?_eq_none (by rw [tab_size]; omega)]
  rw [htab] at hcs
  exact ⟨N1, gs1, w1, sl1, t1, q1, fun k => (hVk k).choose, v0, v2, v4, v6, v7, v8, v12, v13, v14, v15, v16, v17, v18, v19, v20, v21, v22, v23, v24, v25, v26, v27, v28, v29, v30, v31, v32, v33, v34, v35, v36, v37, v38, v39, v40, v41, v42, v43, v44, v45, v46, v47, v48, v49, v50, v51, v52, r1, i1, hcs, fun k hk => ((hVk k).choose_spec hk).2, ok1, Q1⟩
end Go.Proofs.Ytbbpbcmpemmgjaa

/-
  A call of chart.Find beside goroutines that only leave: to its first 'go'.
-/
namespace Go.Proofs.Ytbbpbcmpemmgjaa
open Go.RowKit PK Vg Go.Conc Cs
end Go.Proofs.Ytbbpbcmpemmgjaa

/-
  A call of chart.Find beside goroutines that only leave: from its first 'go' to behind the last receive.
-/
namespace Go.Proofs.Ytbbpbcmpemmgjaa
open Go.RowKit PK Vg Go.Conc Cs
(cs : List Frame) {gs : Array Goroutine} {t : Trace} {q : Nat → Nat} {g0 : Goroutine} {w : World} (hS : cst.S0 = gs.size) (h0 : gs[0]? = some g0) (hq : Qt Try.prog gs t q w.heap.size) {μ : Nat} (hw : Walk Try.prog cst true (eGoP cst bF bM bL bD cst.n (mkF 7 #[x0, x1, x2, x3, x4, x5, x6, x7, x8, x9, x10, x11, x12, x13] [.inRegion fO1 (3 :: List.range' 4 4), .code .ret] .run :: cs) 0) μ g0 w) (ok : cst.Ok w) (c1 : w.heap[cst.C1]? = some (.chan 0 #[] false 0 0 false)) (c2 : w.heap[cst.C2]? = some (.chan 0 #[] false 0 0 false)) (fd : ∀ j a ad, touchAt t j = some a → a.loc = .cell ad → ad.block ≠ cst.Fd) (sl : Option (Nat × Nat)) :
    ∃ N gs' w' sl' t' q' V, ∃ v0 v2 v4 v6 v7 v8 v12 v13 v14 v15 v16 v17 v18 v19 v20 v21 v22 v23 v24 v25 v26 v27 v28 v29 v30 v31 v32 v33 v34 v35 v36 v37 v38 v39 v40 v41 v42 v43 v44 v45 v46 v47 v48 v49 v50 v51 v52 : Value, runNT Try.prog N (crowd gs w sl) t = (.next (crowd gs' w' sl'), t') ∧ gs'[0]? = some (G (mkF 19 #[v0, .int .i64 (cst.n : Nat), v2, .pointer (some ⟨bM, 0, none⟩), v4, .pointer (some ⟨bL, 0, none⟩), v6, v7, v8, .pointer (some ⟨cst.Fd, 0, none⟩), .pointer (some ⟨bF, 0, none⟩), .pointer (some ⟨bD, 0, none⟩), v12, v13, v14, v15, v16, v17, v18, v19, v20, v21, v22, v23, v24, v25, v26, v27, v28, v29, v30, v31, v32, v33, v34, v35, v36, v37, v38, v39, v40, v41, v42, v43, v44, v45, v46, v47, v48, v49, v50, v51, v52] [.code eT5] .run) (mkF 7 #[x0, x1, x2, x3, x4, x5, x6, x7, x8, x9, x10, x11, x12, x13] [.inRegion fO1 (3 :: List.range' 4 4), .code .ret] .run :: cs)) ∧ w'.heap[cst.Fd]? = some (.cells (tab 26 V) cst.TF (0, 0)) ∧ (∀ k, k < 26 → LsC w' (V k) (hitsTo g m fb k (26 ^ (g.n - 1))) g.n) ∧ cst.Ok w' ∧ Qt Try.prog gs' t' q' w'.heap.size := by
  have hG : Try.prog.globals.size ≤ Fns.G := Nat.le_refl _
  obtain ⟨hgE, hn3, _, _⟩ := swE_zero hE
  let S := everyScr (Post := fun k v wl => ∃ B, LsOwn wl B v (hitsTo g m fb k (26 ^ (g.n - 1))) g.n) cst bF bM bL bD _ _ (mkF 7 #[x0, x1, x2, x3, x4, x5, x6, x7, x8, x9, x10, x11, x12, x13] [.inRegion fO1 (3 :: List.range' 4 4), .code .ret] .run :: cs) wk hn hK hz hB har s1 d1 (by rw [hB]; kernel_rfl) (fun k hk w hw => by
      obtain ⟨E, wl, x, k1, k2, k3, k4, k5⟩ := job_ghost k (by omega) bT a b c g U m fb h hE hfit hrl TT fT wp hT ha hb hc ra rb rc hU
      refine ⟨E, wl, x, fun b q s o e => ⟨(k1 b q s o e).1, hfix q (k1 b q s o e).2⟩, by rw [har]; exact k2, wr_move k3 fun b x e => ?_, k4, fun τ => ?_⟩
      · obtain ⟨q, s, o⟩ := x
        exact hpre w hw q (k1 b q s o e).2
      · rw [hB]
        refine (k5 τ).mono ?_
        rintro e w' ⟨v, rfl, hv⟩
        exact ⟨v, rfl, _, hv⟩) (fun k v wl E v' hp hr => by
      obtain ⟨B, hp⟩ := hp
      obtain ⟨vs, ⟨_, h2⟩, _⟩ := hp
      generalize (hitsTo g m fb k (26 ^ (g.n - 1))).length = nn at h2
      rcases h2 with ⟨rfl, _⟩ | ⟨_, _, _, rfl, _⟩ <;> cases hr <;> exact ⟨_, _, _, rfl⟩)
  obtain ⟨N1, gs1, w1, sl1, t1, q1, g1, r1, i1, jn, run1, Q1, ok1, RS, hRS, hres⟩ := pool_runs (S := S) hG fd_fnsCode hS h0 hq hw ok c1 c2 fd sl
  obtain ⟨v0, v2, v4, v6, v7, v8, v12, v13, v14, v15, v16, v17, v18, v19, v20, v21, v22, v23, v24, v25, v26, v27, v28, v29, v30, v31, v32, v33, v34, v35, v36, v37, v38, v39, v40, v41, v42, v43, v44, v45, v46, v47, v48, v49, v50, v51, v52, rfl⟩ := jn
  obtain ⟨cs, hcs, hcsz⟩ := ok1.fd
  rw [hK] at hcsz hres
  have hVk : ∀ k, ∃ v, k < 26 → cs[k]? = some v ∧ LsC w1 v (hitsTo g m fb k (26 ^ (g.n - 1))) g.n := fun k => by
    by_cases hk : k < 26
    · obtain ⟨v, e1, E, vl, wl, ⟨B, p1⟩, p2, p3, _⟩ := hres k hk
      rw [cell_of_row _ _ _ _ _ _ hcs] at e1
      exact ⟨v, fun _ => ⟨e1, list_back p3 (by unfold maxLen; omega) p1 p2⟩⟩
    · exact ⟨.bool false, fun e => absurd e hk⟩
  have htab : cs = tab 26 fun k => (hVk k).choose := by
    apply Array.ext_getElem?
    intro i
    by_cases hi : i < 26
    · rw [tab_get _ hi]
      exact ((hVk i).choose_spec hi).1
    · rw [Array.getElem?_eq_none (by omega), Array.getElem?_eq_none (by rw [tab_size]; omega)]
  rw [htab] at hcs
  exact ⟨N1, gs1, w1, sl1, t1, q1, fun k => (hVk k).choose, v0, v2, v4, v6, v7, v8, v12, v13, v14, v15, v16, v17, v18, v19, v20, v21, v22, v23, v24, v25, v26, v27, v28, v29, v30, v31, v32, v33, v34, v35, v36, v37, v38, v39, v40, v41, v42, v43, v44, v45, v46, v47, v48, v49, v50, v51, v52, r1, i1, hcs, fun k hk => ((hVk k).choose_spec hk).2, ok1, Q1⟩
end Go.Proofs.Ytbbpbcmpemmgjaa

/-
  A call of chart.Find beside goroutines that only leave: behind the last receive; the whole call.
-/
namespace Go.Proofs.Ytbbpbcmpemmgjaa
open Go.RowKit PK Vg Go.Conc Cs
section
variable {A B : Array Value} {n S0 : Nat} {W w4 w8 : World} {h2 Fd C1 C2 bF bD : Nat}
end
end Go.Proofs.Ytbbpbcmpemmgjaa
