/-
  Several texts, joined: FdJ, FdL, FdK.
-/
import Derived.Test.YthfjkhmedpilnaaJn36
import Derived.DuoClaim
import Derived.Deep.MidRow
import Derived.Conc.AppendEvents3
/-
  From the first 'go' of chart.Find to the law's end.
-/
namespace Go.Proofs.Ythfjkhmedpilnaa
open Go.RowKit PK Vg Go.Conc Cs
section
variable {w w' : World} (hag : ∀ b, b < w.heap.size → w'.heap[b]? = w.heap[b]?)
include hag
theorem cell_ag {a : Addr} {v : Value} (h : w.cell? a = some v) : w'.cell? a = some v := by
  have := hag a.block (cell_block h)
  unfold World.cell? at h ⊢
  rw [this]
  exact h
theorem nums_ag {v : Value} {n : Nat} {f : Nat → Int} (h : NumsAt w v n f) : NumsAt w' v n f := by
  obtain ⟨a, cap, h1, h2, h3⟩ := h
  refine ⟨a, cap, h1, h2, fun c hc => ?_⟩
  obtain ⟨b, o, e, k⟩ := h3 c hc
  exact ⟨b, o, e, cell_ag hag k⟩
theorem row_ag {b : Nat} {o : Obj} (h : w.heap[b]? = some o) : w'.heap[b]? = some o := (hag b (Array.getElem?_eq_some_iff.1 h).1).trans h
theorem rt_ag {v : Value} (h : Rt w v) : Rt w' v := fun a l c e hp => by
  obtain ⟨h1, y, T, fr, h2⟩ := h a l c e hp
  exact ⟨h1, y, T, fr, row_ag hag h2⟩
theorem whr_ag {v : Value} {n : Nat} {wi : Nat → Nat → Int} {nl : Nat → Nat} {no : Nat → Nat → Int} (h : WhR w v n wi nl no) : WhR w' v n wi nl no := by
  obtain ⟨a, cap, R, h1, h2, h3, h4⟩ := h
  refine ⟨a, cap, R, h1, h2, fun r hr => ?_, fun r hr => ⟨nums_ag hag (h4 r hr).1, rt_ag hag (h4 r hr).2⟩⟩
  obtain ⟨b, o, e, k⟩ := h3 r hr
  exact ⟨b, o, e, fun j v hj => cell_ag hag (k j v hj)⟩
end
set_option maxRecDepth 100000 in
set_option maxHeartbeats 4000000 in
theorem pool_to_end (x0 x1 x2 x3 x4 x5 x6 x7 x8 x9 x10 x11 x12 x13 y0 y1 y5 y6 y7 y8 y9 y10 y11 y12 y13 y14 y15 y16 y17 y18 y19 y20 y21 y22 y23 y24 y25 y26 y27 y28 y29 y30 y31 y32 : Value) (cst : Cst) (bF bM bL bD bT dM dT : Nat) (a b c : Value) (g : Gm) (U : Nat → Value) (m : Nat → Nat) (fb : Nat → Nat → Int) (h : Int) (hE : swE g h = 0) (hfit : ∀ r, r < g.n → g.nl r * 8 ≤ 140737488355328) (hrl : g.rl * 8 ≤ 140737488355328) (TT TM TT' : TypeId) (fT fM fT' : Nat × Nat) (wp : World)
    (hpre : ∀ w, cst.Ok w → ∀ b, b < wp.heap.size → w.heap[b]? = wp.heap[b]?) (hfix : ∀ q, q < wp.heap.size → cst.Fix q)
    (hT : wp.heap[bT]? = some (.cells (tab 3 U) TT fT)) (hdM : wp.heap[dM]? = some (.cells (mac a b c g.rf g.pl) TM fM)) (hdT : wp.heap[dT]? = some (.cells (tab 3 U) TT' fT')) (ha : WhR wp a g.n g.wi g.nl g.no) (hb : NumsAt wp b g.rl g.ri) (hc : NumsAt wp c g.sl g.st) (ra : Rt wp a) (rb : Rt wp b) (rc : Rt wp c) (hU : ∀ i, i < 3 → NumsAt wp (U i) (m i) (fb i) ∧ Rt wp (U i))
    (wk : WkP cst bF bM bL bD (.agg (mac a b c g.rf g.pl)) (.func (.func 20) #[] #[.pointer (some ⟨bT, 0, none⟩)])) (hn : 1 ≤ cst.n ∧ cst.n ≤ 1000) (hK : cst.K = 26) (hz : cst.z1 = .int .i64 0 ∧ cst.z2 = .bool false ∧ cst.zs1 = .tuple #[] ∧ cst.zs2 = .tuple #[]) (hB : cst.fB = 50) (har : cst.ar = fun k => #[.agg (mac a b c g.rf g.pl), .int .i64 (k : Nat), .func (.func 20) #[] #[.pointer (some ⟨bT, 0, none⟩)]]) (s1 : 1 ≤ cst.S0) (d1 : cst.C1 < cst.N1 ∧ cst.C2 < cst.N1 ∧ cst.Fd < cst.N1 ∧ cst.C1 ≠ cst.C2 ∧ cst.C1 ≠ cst.Fd ∧ cst.C2 ≠ cst.Fd)
    {gs : Array Goroutine} {t : Trace} {q : Nat → Nat} {g0 : Goroutine} {w : World} (hS : cst.S0 = gs.size) (h0 : gs[0]? = some g0) (hq : Qt Try.prog gs t q w.heap.size) {μ : Nat} (hw : Walk Try.prog cst true (eGoP cst bF bM bL bD cst.n (mkF 7 #[x0, x1, x2, x3, x4, x5, x6, x7, x8, x9, x10, x11, x12, x13] [.inRegion fO1 (3 :: List.range' 4 4), .code .ret] .run :: mkF 3 #[y0, y1, .int .i64 h, .pointer (some ⟨dM, 0, none⟩), .pointer (some ⟨dT, 0, none⟩), y5, y6, y7, y8, y9, y10, y11, y12, y13, y14, y15, y16, y17, y18, y19, y20, y21, y22, y23, y24, y25, y26, y27, y28, y29, y30, y31, y32] [.inRegion lO1 (3 :: List.range' 4 5), .code lT2] .run :: []) 0) μ g0 w) (ok : cst.Ok w) (c1 : w.heap[cst.C1]? = some (.chan 0 #[] false 0 0 false)) (c2 : w.heap[cst.C2]? = some (.chan 0 #[] false 0 0 false)) (fd : ∀ j a ad, touchAt t j = some a → a.loc = .cell ad → ad.block ≠ cst.Fd) (sl : Option (Nat × Nat)) :
    ∃ N gs' w' sl' t' q' g', runNT Try.prog N (crowd gs w sl) t = (.next (crowd gs' w' sl'), t') ∧ gs'[0]? = some g' ∧ g'.status = .running ∧ (∀ W, stepG Try.prog true g' W = .ended (.done (.bool true)) W #[]) ∧ Qt Try.prog gs' t' q' w'.heap.size ∧ (∀ b, b < wp.heap.size → w'.heap[b]? = wp.heap[b]?) ∧ w'.os = cst.os0 ∧ w'.output = cst.out0 := by
  have hG : Try.prog.globals.size ≤ Fns.G := Nat.le_refl _
  obtain ⟨hgE, hn3, _, _⟩ := swE_zero hE
  let S := everyScr (Post := fun k v wl => ∃ B, LsOwn wl B v (hitsTo g m fb k (26 ^ (g.n - 1))) g.n) cst bF bM bL bD _ _ (mkF 7 #[x0, x1, x2, x3, x4, x5, x6, x7, x8, x9, x10, x11, x12, x13] [.inRegion fO1 (3 :: List.range' 4 4), .code .ret] .run :: mkF 3 #[y0, y1, .int .i64 h, .pointer (some ⟨dM, 0, none⟩), .pointer (some ⟨dT, 0, none⟩), y5, y6, y7, y8, y9, y10, y11, y12, y13, y14, y15, y16, y17, y18, y19, y20, y21, y22, y23, y24, y25, y26, y27, y28, y29, y30, y31, y32] [.inRegion lO1 (3 :: List.range' 4 5), .code lT2] .run :: []) wk hn hK hz hB har s1 d1 (by rw [hB]; kernel_rfl) (fun k hk w hw => by
      obtain ⟨E, wl, x, k1, k2, k3, k4, k5⟩ := job_ghost k (by omega) bT a b c g U m fb h hE hfit hrl TT fT wp hT ha hb hc ra rb rc hU
      refine ⟨E, wl, x, fun b q s o e => ⟨(k1 b q s o e).1, hfix q (k1 b q s o e).2⟩, by rw [har]; exact k2, wr_move k3 fun b x e => ?_, k4, fun τ => ?_⟩
      · obtain ⟨q, s, o⟩ := x
        exact hpre w hw q (k1 b q s o e).2
      · rw [hB]
        refine (k5 τ).mono ?_
        rintro e w' ⟨v, rfl, hv⟩
        exact ⟨v, rfl, _, hv⟩) (fun k v wl E v' hp hr => by
      obtain ⟨B, hp⟩ := hp
      obtain ⟨vs, ⟨_, h2⟩, _⟩ := hp
      generalize (hitsTo g m fb k (26 ^ (g.n - 1))).length = nn at h2
      rcases h2 with ⟨rfl, _⟩ | ⟨_, _, _, rfl, _⟩ <;> cases hr <;> exact ⟨_, _, _, rfl⟩)
  obtain ⟨N1, gs1, w1, sl1, t1, q1, g1, r1, i1, jn, run1, Q1, ok1, RS, hRS, hres⟩ := pool_runs (S := S) hG fd_fnsCode hS h0 hq hw ok c1 c2 fd sl
  obtain ⟨v0, v2, v4, v6, v7, v8, v12, v13, v14, v15, v16, v17, v18, v19, v20, v21, v22, v23, v24, v25, v26, v27, v28, v29, v30, v31, v32, v33, v34, v35, v36, v37, v38, v39, v40, v41, v42, v43, v44, v45, v46, v47, v48, v49, v50, v51, v52, rfl⟩ := jn
  obtain ⟨cs, hcs, hcsz⟩ := ok1.fd
  rw [hK] at hcsz hres
  have hag := hpre w1 ok1
  have hVk : ∀ k, ∃ v, k < 26 → cs[k]? = some v ∧ LsC w1 v (hitsTo g m fb k (26 ^ (g.n - 1))) g.n := fun k => by
    by_cases hk : k < 26
    · obtain ⟨v, e1, E, vl, wl, ⟨B, p1⟩, p2, p3, _⟩ := hres k hk
      rw [cell_of_row _ _ _ _ _ _ hcs] at e1
      exact ⟨v, fun _ => ⟨e1, list_back p3 (by unfold maxLen; omega) p1 p2⟩⟩
    · exact ⟨.bool false, fun e => absurd e hk⟩
  have htab : cs = tab 26 fun k => (hVk k).choose := by
    apply Array.ext_getElem?
    intro i
    by_cases hi : i < 26
    · rw [tab_get _ hi]
      exact ((hVk i).choose_spec hi).1
    · rw [Array.getElem?_eq_none (by omega), Array.getElem?_eq_none (by rw [tab_size]; omega)]
  rw [htab] at hcs
  obtain ⟨E, gl, wl, hin, hsh⟩ := rest_ghost v0 (.int .i64 (cst.n : Nat)) v2 (.pointer (some ⟨bM, 0, none⟩)) v4 (.pointer (some ⟨bL, 0, none⟩)) v6 v7 v8 (.pointer (some ⟨bF, 0, none⟩)) (.pointer (some ⟨bD, 0, none⟩)) v12 v13 v14 v15 v16 v17 v18 v19 v20 v21 v22 v23 v24 v25 v26 v27 v28 v29 v30 v31 v32 v33 v34 v35 v36 v37 v38 v39 v40 v41 v42 v43 v44 v45 v46 v47 v48 v49 v50 v51 v52 x0 x1 x2 x3 x4 x5 x6 x7 x8 x9 x10 x11 x12 x13 y0 y1 y5 y6 y7 y8 y9 y10 y11 y12 y13 y14 y15 y16 y17 y18 y19 y20 y21 y22 y23 y24 y25 y26 y27 y28 y29 y30 y31 y32 cst.Fd dM dT (fun k => (hVk k).choose) a b c g U m fb h hE 1000000000 _ _ _ _ _ _ w1 no_type hcs (row_ag hag hdM) (row_ag hag hdT) (whr_ag hag ha) (nums_ag hag hb) (nums_ag hag hc) (rt_ag hag ra) (rt_ag hag rb) (rt_ag hag rc) (fun i hi => ⟨nums_ag hag (hU i hi).1, rt_ag hag (hU i hi).2⟩) (fun k hk => ((hVk k).choose_spec hk).2) []
  obtain ⟨N2, gs2, w2, sl2, t2, q2, E2, gl2, wl2, g2, r2, z2, i2, in2, st2, la2, fc2, Q2⟩ := beside_stop (sl := sl1) hG fd_fnsCode i1 hin Q1
  obtain ⟨v, v', wl3, hp, vr, hs, hend⟩ := in2.atEnd st2 (fn0 := 3) (t := 6) (la2.trans rfl) Try.func3 rfl (by kernel_rfl)
  subst hp
  cases vr
  refine ⟨N1 + N2, gs2, w2, sl2, t2, q2, g2, by rw [runNT_add, r1]; exact r2, i2, hs, hend, Q2, fun b hb => ?_, fc2.os.trans ok1.env.1, fc2.output.trans ok1.env.2⟩
  have h1 := hag b hb
  have h2 : b < w1.heap.size := by
    have h3 : (w1.heap[b]?).isSome = true := by rw [h1]; simp [hb]
    simpa using h3
  exact (fc2.keep b h2 (fun b' s e => by have := hsh _ _ _ _ e; cases this)).trans h1
end Go.Proofs.Ythfjkhmedpilnaa

/-
  What goroutine 0 lists when it loads a row.
-/
namespace Go.Proofs.Ythfjkhmedpilnaa
open Go.RowKit PK Vg Go.Conc Cs
theorem ev_read {s : Nat} {a : Addr} {e : Event} (h : e.loc = .cell a ∧ e.write = false) (ha : a.block < s)  : EvW s e := by
  obtain ⟨l, w, at1⟩ := e
  obtain ⟨h1, h2⟩ := h
  dsimp only at h1 h2
  subst h1 h2
  cases at1
  all_goals exact ⟨fun x e => (by cases e; exact ha), fun m e => by cases e⟩
theorem ev_row {W : World} {b : Nat} {T : TypeId} {A : Array Value} {TB : TypeId} {fr : Nat × Nat} {d : TypeDesc} (hW : W.heap[b]? = some (.cells A TB fr)) (hu : Try.prog.underlying T = some d) (hd : d.isRow = true) (hi : (Try.prog.info? T).map (·.size) = some A.size) :
    ∀ e ∈ (Instr.loadAt T (.pointer (some ⟨b, 0, none⟩))).events Try.prog W #[], EvW W.heap.size e := fun e he => by
  obtain ⟨i, hi1, hi2⟩ := Option.map_eq_some_iff.1 hi
  have hb : b < W.heap.size := (Array.getElem?_eq_some_iff.1 hW).1
  have hc := events_loadCellsFrom_at (P := Try.prog) ⟨b, 0, none⟩ (fun q => q < W.heap.size) hb A.size 0 #[] W #[] (fun j hj => by
    rw [Addr.add_lit, cell_of_row _ _ _ _ _ _ hW]
    simp [hj])
  cases d with
  | struct fs =>
    simp [Instr.loadAt, Instr.sureAddr, loadVar, isAgg, go_sem, underlying, sizeOf, typeInfo, loadCells, hu, hi1, hi2] at he
    rcases hc e he with h | ⟨ad, h1, h2, h3⟩
    · simp at h
    · exact ev_read ⟨h1, h2⟩ h3
  | array n el =>
    simp [Instr.loadAt, Instr.sureAddr, loadVar, isAgg, go_sem, underlying, sizeOf, typeInfo, loadCells, hu, hi1, hi2] at he
    rcases hc e he with h | ⟨ad, h1, h2, h3⟩
    · simp at h
    · exact ev_read ⟨h1, h2⟩ h3
  | _ => cases hd
/-- A row that lies whole is loaded. -/
theorem ld_row {W : World} {b : Nat} {T : TypeId} {A : Array Value} {TB : TypeId} {fr : Nat × Nat} {d : TypeDesc} (hW : W.heap[b]? = some (.cells A TB fr)) (hu : Try.prog.underlying T = some d) (hd : d.isRow = true) (hi : (Try.prog.info? T).map (·.size) = some A.size) : (Instr.loadAt T (.pointer (some ⟨b, 0, none⟩))).run Try.prog W = .ok (.agg A) W := by
  have h := run_loadAt_mid (P := Try.prog) W b 0 T A.toList d (fun j v hj => by rw [Nat.zero_add, cell_of_row _ _ _ _ _ _ hW, ← Array.getElem?_toList]; exact hj) hu hd (by rw [hi]; simp)
  simpa using h
/-- What a walk of goroutine 0 holds of the world. -/
def HI (H : Array Obj) (o : Os) (out : Array (Nat × ByteArray)) (W : World) : Prop := W.heap = H ∧ W.os = o ∧ W.output = out
theorem HI.at' {H : Array Obj} {o : Os} {out : Array (Nat × ByteArray)} {W : World} (h : HI H o out W) (d : Nat) : HI H o out (W.at d) := h
theorem HI.alloc {H : Array Obj} {o : Os} {out : Array (Nat × ByteArray)} {W : World} (h : HI H o out W) (x : Obj) : HI (H.push x) o out (W.alloc x) := ⟨by show W.heap.push x = _; rw [h.1], h.2.1, h.2.2⟩
theorem gstep {Stp : Goroutine → World → Prop} {H : Array Obj} {o : Os} {out : Array (Nat × ByteArray)} {mu : Nat} {g : Goroutine} {w : World} (hI : HI H o out w) (hs : g.status = .running) (h : ∀ w₁, HI H o out w₁ → (stepG Try.prog true g w₁).goes fun g' w' es => DW w₁ w' es ∧ Goes Try.prog true AtRel DW Stp mu g' w') : Goes Try.prog true AtRel DW Stp (mu + 1) g w :=
  Goes.step hs fun w₁ h₁ => by
    obtain ⟨d, rfl⟩ := h₁
    exact h _ (hI.at' d)
theorem dw_same (w : World) : DW w w #[] := ⟨Nat.le_refl _, fun e he => by simp at he⟩
end Go.Proofs.Ythfjkhmedpilnaa

/-
  The walk ahead of the pool: the law to the call of Find.
-/
namespace Go.Proofs.Ythfjkhmedpilnaa
open Go.RowKit PK Vg Go.Conc Cs
set_option maxRecDepth 100000 in
set_option maxHeartbeats 4000000 in
theorem law_head (A B : Array Value) (hA : A.size = 55) (hBs : B.size = 3) (h : Int) (cs : List Frame) (H : Array Obj) (o : Os) (out : Array (Nat × ByteArray)) (w : World) (hI : HI H o out w) : ∃ mu, Goes Try.prog true AtRel DW (fun g w' => g = G ((base 7).at ⟨#[.agg A, .agg B, .int .i64 h, undef, undef, undef, undef, undef, undef, undef, undef, undef, undef, undef], []⟩ [.code fB]) ((base 3).at ⟨#[.agg A, .agg B, .int .i64 h, .pointer (some ⟨H.size, 0, none⟩), .pointer (some ⟨H.size + 1, 0, none⟩), undef, .bool false, undef, undef, undef, undef, undef, .agg A, .agg B, .int .i64 h, undef, undef, undef, undef, undef, undef, undef, undef, undef, undef, undef, undef, undef, undef, undef, undef, undef, undef], []⟩ [.inRegion lO1 (3 :: List.range' 4 5), .code lT2] :: cs) ∧ HI ((H.push (.cells A 27)).push (.cells B 28)) o out w') mu (G ((base 3).at ⟨#[.agg A, .agg B, .int .i64 h, undef, undef, undef, undef, undef, undef, undef, undef, undef, undef, undef, undef, undef, undef, undef, undef, undef, undef, undef, undef, undef, undef, undef, undef, undef, undef, undef, undef, undef, undef], []⟩ [.code lB]) cs) w := by
  have hiA : (Try.prog.info? 27).map (·.size) = some A.size := by rw [hA]; exact v_info_mac
  have hiB : (Try.prog.info? 28).map (·.size) = some B.size := by rw [hBs]; exact f_size_sl3
  refine ⟨40, ?_⟩
  simp only [lB, Try.f3, Option.getD_some]
  repeat (refine gstep hI rfl (fun w₁ h₁ => ?_); walk_rw; refine ⟨dw_same _, ?_⟩; clear hI; have hI := h₁; clear h₁)
  refine gstep hI rfl (fun w₁ h₁ => ?_)
  refine goes_oper_k rfl rfl (by decide) (fun K hK => ?_)
  go_simp
  refine hK _ _ ⟨⟨by simp, fun e he => ?_⟩, ?_⟩
  · have hm := mem_listed he
    simp [go_sem] at hm
  clear hK K hI
  have hI := h₁.alloc (.cells A 27)
  rw [h₁.1]
  clear h₁
  refine gstep hI rfl (fun w₁ h₁ => ?_)
  refine goes_oper_k rfl rfl (by decide) (fun K hK => ?_)
  go_simp
  refine hK _ _ ⟨⟨by simp, fun e he => ?_⟩, ?_⟩
  · have hm := mem_listed he
    simp [go_sem] at hm
  clear hK K hI
  have hI := h₁.alloc (.cells B 28)
  rw [h₁.1]
  clear h₁
  simp only [Array.size_push]
  refine gstep hI rfl (fun w₁ h₁ => ?_)
  refine goes_oper_k rfl rfl (by decide) (fun K hK => ?_)
  go_simp
  refine hK _ _ ⟨⟨by simp, fun e he => ?_⟩, ?_⟩
  · have hm := mem_listed he
    simp [go_sem] at hm
  clear hK K hI
  have hI := h₁
  clear h₁
  repeat (refine gstep hI rfl (fun w₁ h₁ => ?_); walk_rw; refine ⟨dw_same _, ?_⟩; clear hI; have hI := h₁; clear h₁)
  refine gstep hI rfl (fun w₁ h₁ => ?_)
  have hWr := show w₁.heap[H.size]? = some (.cells A 27 (0, 0)) from by rw [h₁.1, Array.getElem?_push, if_neg (by simp), Array.getElem?_push, if_pos rfl]
  rw [stepG_value (v := .agg A) (w' := w₁) rfl rfl (by decide) (run_exec_load rfl rfl (ld_row hWr Try.underlying27 rfl hiA))]
  simp only [goes_go]
  refine ⟨⟨Nat.le_refl _, fun e he => ev_row hWr Try.underlying27 rfl hiA e (by have hm := mem_listed he; rw [events_exec_load rfl rfl] at hm; exact hm)⟩, ?_⟩
  clear hWr hI
  have hI := h₁
  clear h₁
  refine gstep hI rfl (fun w₁ h₁ => ?_)
  have hWr := show w₁.heap[H.size + 1]? = some (.cells B 28 (0, 0)) from by rw [h₁.1, Array.getElem?_push, if_pos (by simp)]
  rw [stepG_value (v := .agg B) (w' := w₁) rfl rfl (by decide) (run_exec_load rfl rfl (ld_row hWr Try.underlying28 rfl hiB))]
  simp only [goes_go]
  refine ⟨⟨Nat.le_refl _, fun e he => ev_row hWr Try.underlying28 rfl hiB e (by have hm := mem_listed he; rw [events_exec_load rfl rfl] at hm; exact hm)⟩, ?_⟩
  clear hWr hI
  have hI := h₁
  clear h₁
  refine gstep hI rfl (fun w₁ h₁ => ?_)
  refine goes_oper_k rfl rfl (by decide) (fun K hK => ?_)
  go_simp
  refine hK _ _ ⟨⟨by simp, fun e he => ?_⟩, ?_⟩
  · have hm := mem_listed he
    simp [go_sem] at hm
  clear hK K hI
  have hI := h₁
  clear h₁
  refine gstep hI rfl (fun w₁ h₁ => ?_)
  refine goes_call rfl rfl (by decide) rfl Try.func7 (by kernel_rfl) rfl ?_
  refine ⟨dw_same _, ?_⟩
  exact Goes.stop fun w₂ h₂ => by
    obtain ⟨d, rfl⟩ := h₂
    refine ⟨?_, h₁⟩
    have e1 : ∀ (a : Act), a.eval (.tmp 12) = .agg A → a.eval (.tmp 13) = .agg B → a.eval (.tmp 14) = .int .i64 h → (#[Operand.tmp 12, .tmp 13, .tmp 14].map a.eval ++ Array.replicate (Try.f7.ntmps - (#[Operand.tmp 12, .tmp 13, .tmp 14].map a.eval).size) undef) = #[.agg A, .agg B, .int .i64 h, undef, undef, undef, undef, undef, undef, undef, undef, undef, undef, undef] := fun a k1 k2 k3 => by
      simp [k1, k2, k3, Array.replicate, List.replicate]
    rw [e1 _ rfl rfl rfl]
    rfl
end Go.Proofs.Ythfjkhmedpilnaa
