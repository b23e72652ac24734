/-
  Contract of tele's turn (chapter 13).
-/
import Derived.Test.YtbcjblakknfhmaaTpS
import Derived.Test.YtbcjblakknfhmaaOLate
namespace Go.Proofs.Ytbcjblakknfhmaa
open Go.RowKit PK Tl

theorem late_storeI {P : Program} {md : Region.Mode} {ops : Array Oper} {Q : Exit → Act → World → Prop} {S T : World → Prop} {late : Nat → Bool} {fuel : Nat} {listed : Array Bool} {tm : Array Value} {df : List Deferred} {w : World} (i : Nat) (o : Oper) (ho : ops[i]? = some o) (hw : Region.wanted o (yielded ops tm) = true)
    (hd : o.dst = none) (t : TypeId) (x y : Operand) (hop : o.op = .store t x y) (hti : (P.info? t).map (·.size) = some 1) (p : Addr) (hx : Act.eval ⟨tm, df⟩ x = .pointer (some p)) (k : IntKind) (z : Int) (hy : Act.eval ⟨tm, df⟩ y = .int k z)
    (u : Value) (hc : w.cell? p = some u) (hf : w.frozen? p = false) (hl : cleanL ops late (listed.setIfInBounds i true) = false) (hT : T (w.setCell p (.int k z)))
    (h : wpAnyL P md ops Q S T late fuel (listed.setIfInBounds i true) ⟨tm, df⟩ (w.setCell p (.int k z))) : StepL P md ops Q S T late fuel listed ⟨tm, df⟩ w i := by
  refine wpOp_step ho (fun K hK => ?_)
  rw [if_pos hw]
  unfold Oper.wp execOp
  have hsz : (sizeOf t).run P w = .ok 1 w := by
    cases hq : P.info? t with
    | none => simp [hq] at hti
    | some i =>
      have hs : i.size = 1 := by simpa [hq] using hti
      simp [sizeOf, typeInfo, hq, hs]
  simp only [hop, hx, hy]
  simp [go_sem, hc, hf, hsz]
  have hp : Act.put ⟨tm, df⟩ o.dst undef = ⟨tm, df⟩ := by rw [hd]; rfl
  rw [← hp] at h
  exact hK _ _ ⟨fun e => (by rw [hl] at e; cases e), hT, h⟩
section
variable {P : Program} {md : Region.Mode} {ops : Array Oper} {Q : Exit → Act → World → Prop} {S T : World → Prop} {late : Nat → Bool}
/-- An array is stored into the middle of a row, late. -/
theorem late_store_mid {fuel : Nat} {listed : Array Bool} {tm : Array Value} {df : List Deferred} {w : World} (i : Nat) (o : Oper) (ho : ops[i]? = some o) (hw : Region.wanted o (yielded ops tm) = true)
    (hd : o.dst = none) (t : TypeId) (x y : Operand) (hop : o.op = .store t x y) (b k : Nat) (cells : Array Value) (hx : Act.eval ⟨tm, df⟩ x = .pointer (some ⟨b, k, none⟩)) (hy : Act.eval ⟨tm, df⟩ y = .agg cells)
    (ht : w.there b k cells.size) (hi : (P.info? t).map (·.size) = some cells.size) (h1 : cells.all (·.oneCell') = true) (hl : cleanL ops late (listed.setIfInBounds i true) = false) (hT : T (w.setCells b k cells.toList))
    (h : wpAnyL P md ops Q S T late fuel (listed.setIfInBounds i true) ⟨tm, df⟩ (w.setCells b k cells.toList)) : StepL P md ops Q S T late fuel listed ⟨tm, df⟩ w i := by
  refine wpOp_step ho (fun K hK => ?_)
  rw [if_pos hw]
  unfold Oper.wp execOp
  simp only [hop, hx, hy]
  have hr := run_storeAt_mid (P := P) w b k t cells ht hi h1
  simp only [Sem.run_bind, hr, Result.andThen_ok, Sem.run_pure]
  have hp : Act.put ⟨tm, df⟩ o.dst undef = ⟨tm, df⟩ := by rw [hd]; rfl
  rw [← hp] at h
  exact hK _ _ ⟨fun e => (by rw [hl] at e; cases e), hT, h⟩
end
theorem g_size_int : (Try.prog.info? 3).map (·.size) = some 1 := by kernel_rfl
/-- A machine that is turned: its box is b, all else that was there stays. -/
structure TuAt (w0 w W : World) (b : Nat) (R : Nat → Value) (a : Nat → Int) : Prop where
  row : RowAt W b 27 (teA R a)
  base : Below w0.heap.size w0 W
  grown : w.grownBy W (some b)
theorem TuAt.drew {w0 w W : World} {b : Nat} {R : Nat → Value} {a : Nat → Int} (h : TuAt w0 w W b R a) : TuAt w0 w W.drew b R a := ⟨h.row, h.base.drew, rg_drew h.grown⟩
theorem TuAt.drewN {w0 w W : World} {b : Nat} {R : Nat → Value} {a : Nat → Int} (h : TuAt w0 w W b R a) (n : Nat) : TuAt w0 w (W.drewN n) b R a := ⟨h.row, ⟨h.base.os, h.base.tape, h.base.output, h.base.size, h.base.block⟩, ⟨h.grown.os, h.grown.tape, h.grown.output, h.grown.size, h.grown.block⟩⟩
theorem TuAt.step {w0 w W W' : World} {b : Nat} {R : Nat → Value} {a : Nat → Int} (h : TuAt w0 w W b R a) (hb : Below W.heap.size W W') : TuAt w0 w W' b R a := ⟨h.row.below hb h.row.lt, h.base.trans (hb.mono h.base.size), rg_below h.grown hb⟩
theorem TuAt.chi {w0 w W : World} {b : Nat} {R : Nat → Value} {a : Nat → Int} (h : TuAt w0 w W b R a) (hb : w0.heap.size ≤ b) (g : Nat → Int) : TuAt w0 w (W.setCells b 11 (ints 5 g).toList) b R fun k => if k < 5 then g k else a k := by
  refine ⟨?_, below_setCells hb h.base, rg_sets h.grown⟩
  have := row_setCells (l := (ints 5 g).toList) (o := 11) h.row
  rw [teA_chi] at this
  exact this
theorem TuAt.psi {w0 w W : World} {b : Nat} {R : Nat → Value} {a : Nat → Int} (h : TuAt w0 w W b R a) (hb : w0.heap.size ≤ b) (g : Nat → Int) : TuAt w0 w (W.setCells b 16 (ints 5 g).toList) b R fun k => if 5 ≤ k ∧ k < 10 then g (k - 5) else a k := by
  refine ⟨?_, below_setCells hb h.base, rg_sets h.grown⟩
  have := row_setCells (l := (ints 5 g).toList) (o := 16) h.row
  rw [teA_psi] at this
  exact this
theorem TuAt.motor {w0 w W : World} {b : Nat} {R : Nat → Value} {a : Nat → Int} (h : TuAt w0 w W b R a) (hb : w0.heap.size ≤ b) (x : Int) : TuAt w0 w (W.setCell ⟨b, 21, none⟩ (.int .i64 x)) b R fun k => if k = 10 then x else a k := by
  refine ⟨?_, h.base.setCell (p := ⟨b, 21, none⟩) hb _, rg_set h.grown _ _⟩
  have := h.row.set 21 (.int .i64 x)
  rw [teA_motor] at this
  exact this
theorem TuAt.ext {w0 w W : World} {b : Nat} {R : Nat → Value} {a c : Nat → Int} (h : TuAt w0 w W b R a) (e : ∀ k, k < 11 → a k = c k) : TuAt w0 w W b R c := ⟨by have := h.row; rw [teA_ext e] at this; exact this, h.base, h.grown⟩
set_option maxRecDepth 100000 in
set_option maxHeartbeats 8000000 in
theorem pturn_any (b : Nat) (R : Nat → Value) (T : Te) (hz : teE T = 0) (i : Nat) (w0 w : World) (hb : w0.heap.size ≤ b) (hp : ∀ k, k < 11 → PinsAt w0 (R k) (T.ln k) (T.pin k)) (hw : TuAt w0 w w b R fun k => ((pos T i k : Nat) : Int)) :
    Calls Try.prog 24 #[.pointer (some ⟨b, 0, none⟩)] w fun e w' => e = .returned (.tuple #[]) ∧ TuAt w0 w w' b R fun k => ((pos T (i + 1) k : Nat) : Int) := by
  have HB : Hid (w0.heap.size ≤ b) := hb
  obtain ⟨bm, om, cm, hv, hml, hc⟩ := (hp 10 (by decide)).form (teE_zero hz (k := 10) (by decide)).1
  have hm1 := pos_lt hz i (k := 10) (by decide)
  have hc0 := hc _ hm1
  have hcm := (hw.base.cell (p := ⟨bm, om + pos T i 10, none⟩) (cell_block hc0)).trans hc0
  have c1 := te_wheel hw.row (k := 10) (by decide)
  have c2 : w.cell? ⟨b, 21, none⟩ = some (.int .i64 ((pos T i 10 : Nat) : Int)) := te_place hw.row (k := 10) (by decide)
  rw [hv] at c1
  have hl47 := (teE_zero hz (k := 10) (by decide)).2.1
  have HCP := (show Hid (∀ W, Calls Try.prog 39 #[.agg (tab 5 fun k => R (5 + k)), .agg (ints 5 fun k => ((pos T i (5 + k) : Nat) : Int))] W fun e w' => e = .returned (.agg (ints 5 fun k => (((pos T i (5 + k) + 1) % T.ln (5 + k) : Nat) : Int))) ∧ Below W.heap.size W w') from fun W => ponward_any (fun k => R (5 + k)) (fun k => T.ln (5 + k)) (fun k => pos T i (5 + k)) (fun k hk => ⟨pos_lt hz i (by omega), (teE_zero hz (k := 5 + k) (by omega)).2.1⟩) W (fun k hk => by obtain ⟨a, c, e, _⟩ := hp (5 + k) (by omega); exact ⟨a, c, e⟩))
  have HCC := (show Hid (∀ W, Calls Try.prog 39 #[.agg (tab 5 R), .agg (ints 5 fun k => ((pos T i k : Nat) : Int))] W fun e w' => e = .returned (.agg (ints 5 fun k => (((pos T i k + 1) % T.ln k : Nat) : Int))) ∧ Below W.heap.size W w') from fun W => ponward_any R T.ln (pos T i) (fun k hk => ⟨pos_lt hz i (by omega), (teE_zero hz (k := k) (by omega)).2.1⟩) W (fun k hk => by obtain ⟨a, c, e, _⟩ := hp k (by omega); exact ⟨a, c, e⟩))
  have HMO := (show Hid (∀ W, Calls Try.prog 40 #[.slice (some ⟨bm, om, none⟩) (T.ln 10) cm, .int .i64 (pos T i 10 : Nat)] W fun e w' => e = .returned (.int .i64 (((pos T i 10 + 1) % T.ln 10 : Nat) : Int)) ∧ W = w') from fun W => pnx_any _ (T.ln 10) cm (pos T i 10) (by omega) hl47 hm1 W)
  have HPS := (show Hid (∀ k, ¬ k < 5 → k < 10 → pos T (i + 1) k = if bit T 10 i = true then (pos T i k + 1) % T.ln k else pos T i k) from fun k h1 h2 => pos_psi T i h1 h2)
  have HBM := (show Hid (bit T 10 i = T.pin 10 (pos T i 10)) from rfl)
  have hq1 : ((pos T i 10 : Nat) : Int) < (T.ln 10 : Int) := by omega
  rw [← HBM.out] at hcm
  have HW := (show Hid (∀ n, TuAt w0 w (w.drewN n) b R fun k => ((pos T i k : Nat) : Int)) from fun n => hw.drewN n)
  clear hz hp hc hc0 hm1 hw hb HBM
  generalize hyy : bit T 10 i = y at *
  have HYY := (show Hid (bit T 10 i = y) from hyy)
  clear hyy
  obtain ⟨q, hq⟩ : ∃ q, q = pos T i 10 := ⟨_, rfl⟩
  obtain ⟨l, hl⟩ : ∃ l, l = T.ln 10 := ⟨_, rfl⟩
  obtain ⟨q', hq'⟩ : ∃ q', q' = (q + 1) % l := ⟨_, rfl⟩
  have HQ := (show Hid _ from hq)
  have HL := (show Hid _ from hl)
  have HQQ := (show Hid (q' = pos T (i + 1) 10) from by rw [Hid, hq', hq, hl]; exact pos_motor T i)
  rw [← hq] at hcm c2 hq1 HMO
  rw [← hl] at c1 hq1 hl47 HMO hml
  rw [← hq'] at HMO
  clear hq hl hq'
  obtain ⟨QP, hQP⟩ : ∃ x, x = tab 5 fun k => R (5 + k) := ⟨_, rfl⟩
  have HQP := (show Hid _ from hQP)
  obtain ⟨AP, hAP⟩ : ∃ x, x = ints 5 fun k => ((pos T i (5 + k) : Nat) : Int) := ⟨_, rfl⟩
  have HAP := (show Hid _ from hAP)
  obtain ⟨OP, hOP⟩ : ∃ x, x = ints 5 fun k => (((pos T i (5 + k) + 1) % T.ln (5 + k) : Nat) : Int) := ⟨_, rfl⟩
  have HOP := (show Hid _ from hOP)
  obtain ⟨QC, hQC⟩ : ∃ x, x = tab 5 R := ⟨_, rfl⟩
  have HQC := (show Hid _ from hQC)
  obtain ⟨AC, hAC⟩ : ∃ x, x = ints 5 fun k => ((pos T i k : Nat) : Int) := ⟨_, rfl⟩
  have HAC := (show Hid _ from hAC)
  obtain ⟨OC, hOC⟩ : ∃ x, x = ints 5 fun k => (((pos T i k + 1) % T.ln k : Nat) : Int) := ⟨_, rfl⟩
  have HOC := (show Hid _ from hOC)
  rw [← hQP, ← hAP, ← hOP] at HCP
  rw [← hQC, ← hAC, ← hOC] at HCC
  clear hQP hAP hOP hQC hAC hOC
  have HSOP : Hid (OP.size = 5) := by rw [Hid, HOP.out, ints_size]
  have HOOP : Hid (OP.all (·.oneCell') = true) := by rw [Hid, HOP.out]; exact ints_one _ _
  have HSOC : Hid (OC.size = 5) := by rw [Hid, HOC.out, ints_size]
  have HOOC : Hid (OC.all (·.oneCell') = true) := by rw [Hid, HOC.out]; exact ints_one _ _
  -- what the three stores leave
  have HA1 := (show Hid (∀ W, y = true → TuAt w0 w W b R (fun k => ((pos T i k : Nat) : Int)) → TuAt w0 w (W.setCells b 16 OP.toList) b R (fun k => ((if 5 ≤ k ∧ k < 10 then pos T (i + 1) k else pos T i k : Nat) : Int))) from fun W hy hW => by
    have h := hW.psi HB.out (fun k => (((pos T i (5 + k) + 1) % T.ln (5 + k) : Nat) : Int))
    rw [← HOP.out] at h
    refine h.ext fun k hk => ?_
    try dsimp only
    by_cases e : 5 ≤ k ∧ k < 10
    · rw [if_pos e, if_pos e, HPS.out k (by omega) e.2, if_pos hy, show 5 + (k - 5) = k by omega]
    · rw [if_neg e, if_neg e])
  have HA1f := (show Hid (∀ W, y = false → TuAt w0 w W b R (fun k => ((pos T i k : Nat) : Int)) → TuAt w0 w W b R (fun k => ((if 5 ≤ k ∧ k < 10 then pos T (i + 1) k else pos T i k : Nat) : Int))) from fun W hy hW => by
    refine hW.ext fun k hk => ?_
    try dsimp only
    by_cases e : 5 ≤ k ∧ k < 10
    · rw [if_pos e, HPS.out k (by omega) e.2, hy, if_neg (by decide)]
    · rw [if_neg e])
  obtain ⟨a1, ha1⟩ : ∃ a1 : Nat → Int, a1 = fun k => ((if 5 ≤ k ∧ k < 10 then pos T (i + 1) k else pos T i k : Nat) : Int) := ⟨_, rfl⟩
  obtain ⟨a2, ha2⟩ : ∃ a2 : Nat → Int, a2 = fun k => if k = 10 then ((q' : Nat) : Int) else a1 k := ⟨_, rfl⟩
  have HE1 := (show Hid _ from ha1)
  have HE2 := (show Hid _ from ha2)
  rw [← ha1] at HA1 HA1f
  have HA2 := (show Hid (∀ W, TuAt w0 w W b R a1 → TuAt w0 w (W.setCell ⟨b, 21, none⟩ (.int .i64 ((q' : Nat) : Int))) b R a2) from fun W hW => by rw [HE2.out]; exact hW.motor HB.out _)
  have HA3 := (show Hid (∀ W, TuAt w0 w W b R a2 → TuAt w0 w (W.setCells b 11 OC.toList) b R (fun k => ((pos T (i + 1) k : Nat) : Int))) from fun W hW => by
    have h := hW.chi HB.out (fun k => (((pos T i k + 1) % T.ln k : Nat) : Int))
    rw [← HOC.out] at h
    refine h.ext fun k hk => ?_
    try dsimp only
    by_cases e : k < 5
    · rw [if_pos e, pos_chi T i e]
    · rw [if_neg e, HE2.out, HE1.out]
      try dsimp only
      by_cases e1 : k = 10
      · rw [if_pos e1, HQQ.out, e1]
      · rw [if_neg e1, if_pos (by omega)])
  clear ha1 ha2
  have HLP := (show Hid (∀ W, TuAt w0 w W b R (fun k => ((pos T i k : Nat) : Int)) → (Instr.loadAt 24 (.pointer (some ⟨b, 5, none⟩))).run Try.prog W = .ok (.agg QP) W) from fun W hW => by
    have u := run_loadAt_mid (P := Try.prog) W b 5 24 (tab 5 fun k => R (5 + k)).toList _ (show W.rangeAt b 5 (tab 5 fun k => R (5 + k)).toList from te_psi hW.row) Try.underlying24 rfl (by rw [Array.length_toList, tab_size]; exact t_info_fivep)
    rw [Array.toArray_toList] at u
    rw [HQP.out]
    exact u)
  have HLQ := (show Hid (∀ W, TuAt w0 w W b R (fun k => ((pos T i k : Nat) : Int)) → (Instr.loadAt 25 (.pointer (some ⟨b, 16, none⟩))).run Try.prog W = .ok (.agg AP) W) from fun W hW => by
    have u := run_loadAt_mid (P := Try.prog) W b 16 25 (ints 5 fun k => ((pos T i (5 + k) : Nat) : Int)).toList _ (show W.rangeAt b 16 (ints 5 fun k => ((pos T i (5 + k) : Nat) : Int)).toList from te_psiAt hW.row) Try.underlying25 rfl (by rw [Array.length_toList, ints_size]; exact t_info_fivei)
    rw [Array.toArray_toList] at u
    rw [HAP.out]
    exact u)
  have HLC := (show Hid (∀ W, TuAt w0 w W b R a2 → (Instr.loadAt 24 (.pointer (some ⟨b, 0, none⟩))).run Try.prog W = .ok (.agg QC) W) from fun W hW => by
    have u := run_loadAt_mid (P := Try.prog) W b 0 24 (tab 5 R).toList _ (show W.rangeAt b 0 (tab 5 R).toList from te_chi hW.row) Try.underlying24 rfl (by rw [Array.length_toList, tab_size]; exact t_info_fivep)
    rw [Array.toArray_toList] at u
    rw [HQC.out]
    exact u)
  have HLD := (show Hid (∀ W, TuAt w0 w W b R a2 → (Instr.loadAt 25 (.pointer (some ⟨b, 11, none⟩))).run Try.prog W = .ok (.agg AC) W) from fun W hW => by
    have u := run_loadAt_mid (P := Try.prog) W b 11 25 (ints 5 a2).toList _ (te_chiAt hW.row) Try.underlying25 rfl (by rw [Array.length_toList, ints_size]; exact t_info_fivei)
    rw [Array.toArray_toList] at u
    have e : AC = ints 5 a2 := by
      rw [HAC.out]
      refine ints_ext fun k hk => ?_
      rw [HE2.out, HE1.out]
      try dsimp only
      rw [if_neg (by omega), if_neg (by omega)]
    rw [e]
    exact u)
  have HLM := (show Hid (∀ W, TuAt w0 w W b R a1 → W.cell? ⟨b, 10, none⟩ = some (.slice (some ⟨bm, om, none⟩) l cm) ∧ W.cell? ⟨b, 21, none⟩ = some (.int .i64 (q : Nat)) ∧ W.frozen? ⟨b, 21, none⟩ = false) from fun W hW => by
    refine ⟨?_, ?_, hW.row.frozen 21⟩
    · have := te_wheel hW.row (k := 10) (by decide)
      rw [hv, ← HL.out] at this
      exact this
    · have : W.cell? ⟨b, 21, none⟩ = some (.int .i64 (a1 10)) := te_place hW.row (k := 10) (by decide)
      rw [HE1.out] at this
      dsimp only at this
      rw [if_neg (by decide), ← HQ.out] at this
      exact this)
  clear hv HPS HQ HL HQQ HYY HQP HAP HOP HQC HAC HOC HE1 HE2
  go_enter Try.func24, Try.ntmps24
  go_wp2_with fail
  go_quiet (fail)
  have hw1 := HW.out nq
  generalize w.drewN nq = W1 at *
  clear HW c1 c2 hcm
  cases y
  · have hw1 := HA1f.out _ (by first | rfl | trivial) hw1
    go_wp2_with fail
    refine wp_region_noPanic ?_
    refine wp_region_late_drew (S := fun W => TuAt w0 w W b R a1) (T := fun _ => True) (fun j => j == 12) (by kernel_rfl) ?_
    have hS := hw1.drew
    have hT : True := trivial
    obtain ⟨U, hU⟩ : ∃ x, x = W1.drew := ⟨_, rfl⟩
    rw [← hU] at hS ⊢
    clear hU hw1
    refine ltake 0 24 (.pointer (some ⟨b, 0, none⟩)) rfl rfl (by kernel_rfl) (by kernel_rfl) (by kernel_rfl) rfl (by kernel_rfl) (by kernel_rfl) (fun _ _ _ _ h => h) (by rfl) (fun W hW => by clear hS hT hW; go_simp) hS hT ?_
    simp only [List.setIfInBounds_toArray, List.set_cons_succ, List.set_cons_zero]
    refine ltake 1 25 (.pointer (some ⟨b, 0, none⟩)) rfl rfl (by kernel_rfl) (by kernel_rfl) (by kernel_rfl) rfl (by kernel_rfl) (by kernel_rfl) (fun _ _ _ _ h => h) (by rfl) (fun W hW => by clear hS hT hW; go_simp) hS hT ?_
    simp only [List.setIfInBounds_toArray, List.set_cons_succ, List.set_cons_zero]
    refine ltake 2 26 (.pointer (some ⟨b, 0, none⟩)) rfl rfl (by kernel_rfl) (by kernel_rfl) (by kernel_rfl) rfl (by kernel_rfl) (by kernel_rfl) (fun _ _ _ _ h => h) (by rfl) (fun W hW => by clear hS hT hW; go_simp) hS hT ?_
    simp only [List.setIfInBounds_toArray, List.set_cons_succ, List.set_cons_zero]
    refine ltake 3 27 (.pointer (some ⟨b, 10, none⟩)) rfl rfl (by kernel_rfl) (by kernel_rfl) (by kernel_rfl) rfl (by kernel_rfl) (by kernel_rfl) (fun _ _ _ _ h => h) (by rfl) (fun W hW => by clear hS hT hW; go_simp) hS hT ?_
    simp only [List.setIfInBounds_toArray, List.set_cons_succ, List.set_cons_zero]
    refine ltake 4 28 (.slice (some ⟨bm, om, none⟩) l cm) rfl rfl (by kernel_rfl) (by kernel_rfl) (by kernel_rfl) rfl (by kernel_rfl) (by kernel_rfl) (fun _ _ _ _ h => h) (by rfl) (fun W hW => by obtain ⟨u1, u2, u3⟩ := HLM.out W hW; clear hS hT hW; go_simp) hS hT ?_
    simp only [List.setIfInBounds_toArray, List.set_cons_succ, List.set_cons_zero]
    refine ltake 5 29 (.pointer (some ⟨b, 0, none⟩)) rfl rfl (by kernel_rfl) (by kernel_rfl) (by kernel_rfl) rfl (by kernel_rfl) (by kernel_rfl) (fun _ _ _ _ h => h) (by rfl) (fun W hW => by clear hS hT hW; go_simp) hS hT ?_
    simp only [List.setIfInBounds_toArray, List.set_cons_succ, List.set_cons_zero]
    refine ltake 6 30 (.pointer (some ⟨b, 0, none⟩)) rfl rfl (by kernel_rfl) (by kernel_rfl) (by kernel_rfl) rfl (by kernel_rfl) (by kernel_rfl) (fun _ _ _ _ h => h) (by rfl) (fun W hW => by clear hS hT hW; go_simp) hS hT ?_
    simp only [List.setIfInBounds_toArray, List.set_cons_succ, List.set_cons_zero]
    refine ltake 7 31 (.pointer (some ⟨b, 21, none⟩)) rfl rfl (by kernel_rfl) (by kernel_rfl) (by kernel_rfl) rfl (by kernel_rfl) (by kernel_rfl) (fun _ _ _ _ h => h) (by rfl) (fun W hW => by clear hS hT hW; go_simp) hS hT ?_
    simp only [List.setIfInBounds_toArray, List.set_cons_succ, List.set_cons_zero]
    refine ltake 8 32 (.int .i64 (q : Nat)) rfl rfl (by kernel_rfl) (by kernel_rfl) (by kernel_rfl) rfl (by kernel_rfl) (by kernel_rfl) (fun _ _ _ _ h => h) (by rfl) (fun W hW => by obtain ⟨u1, u2, u3⟩ := HLM.out W hW; clear hS hT hW; go_simp) hS hT ?_
    simp only [List.setIfInBounds_toArray, List.set_cons_succ, List.set_cons_zero]
    refine late_one 9 (by kernel_rfl) ?_
    refine wpOp_step rfl (fun K hK => ?_)
    have HK := (show Hid _ from hK)
    clear hK
    rw [if_pos (by rfl)]
    go_simp
    refine Calls.mono (HMO.out _) ?_
    rintro e Y ⟨rfl, rfl⟩
    refine HK.out _ _ ⟨fun _ => hS, trivial, ?_⟩
    clear HK K
    refine ttake 10 34 (.pointer (some ⟨b, 0, none⟩)) rfl rfl (by kernel_rfl) (by kernel_rfl) (by kernel_rfl) rfl (fun _ _ _ _ h => h) (by rfl) (fun W hW => by clear hS hT hW; go_simp) (fun _ => hS) hT ?_
    simp only [List.setIfInBounds_toArray, List.set_cons_succ, List.set_cons_zero]
    refine ttake 11 35 (.pointer (some ⟨b, 21, none⟩)) rfl rfl (by kernel_rfl) (by kernel_rfl) (by kernel_rfl) rfl (fun _ _ _ _ h => h) (by rfl) (fun W hW => by clear hS hT hW; go_simp) (fun _ => hS) hT ?_
    simp only [List.setIfInBounds_toArray, List.set_cons_succ, List.set_cons_zero]
    refine late_one 12 (by kernel_rfl) (late_storeI 12 _ rfl (by rfl) rfl 3 (.tmp 35) (.tmp 33) rfl g_size_int ⟨b, 21, none⟩ rfl .i64 ((q' : Nat) : Int) rfl _ (HLM.out _ hS).2.1 (HLM.out _ hS).2.2 (by kernel_rfl) trivial ?_)
    have hw1 := HA2.out _ hS
    refine late_done (by kernel_rfl) ?_ _
    refine NoPanic.normal ?_
    clear hS
    generalize U.setCell ⟨b, 21, none⟩ (.int .i64 ((q' : Nat) : Int)) = W1 at *
    go_wp2_with fail
    refine wp_region_noPanic ?_
    refine wp_region_late_drew (S := fun W => TuAt w0 w W b R a2) (T := fun _ => True) (fun j => j == 12) (by kernel_rfl) ?_
    have hS := hw1.drew
    have hT : True := trivial
    obtain ⟨U, hU⟩ : ∃ x, x = W1.drew := ⟨_, rfl⟩
    rw [← hU] at hS ⊢
    clear hU hw1
    refine ltake 0 36 (.pointer (some ⟨b, 0, none⟩)) rfl rfl (by kernel_rfl) (by kernel_rfl) (by kernel_rfl) rfl (by kernel_rfl) (by kernel_rfl) (fun _ _ _ _ h => h) (by rfl) (fun W hW => by clear hS hT hW; go_simp) hS hT ?_
    simp only [List.setIfInBounds_toArray, List.set_cons_succ, List.set_cons_zero]
    refine ltake 1 37 (.pointer (some ⟨b, 0, none⟩)) rfl rfl (by kernel_rfl) (by kernel_rfl) (by kernel_rfl) rfl (by kernel_rfl) (by kernel_rfl) (fun _ _ _ _ h => h) (by rfl) (fun W hW => by clear hS hT hW; go_simp) hS hT ?_
    simp only [List.setIfInBounds_toArray, List.set_cons_succ, List.set_cons_zero]
    refine ltake 2 38 (.pointer (some ⟨b, 0, none⟩)) rfl rfl (by kernel_rfl) (by kernel_rfl) (by kernel_rfl) rfl (by kernel_rfl) (by kernel_rfl) (fun _ _ _ _ h => h) (by rfl) (fun W hW => by clear hS hT hW; go_simp) hS hT ?_
    simp only [List.setIfInBounds_toArray, List.set_cons_succ, List.set_cons_zero]
    refine ltake 3 39 (.pointer (some ⟨b, 0, none⟩)) rfl rfl (by kernel_rfl) (by kernel_rfl) (by kernel_rfl) rfl (by kernel_rfl) (by kernel_rfl) (fun _ _ _ _ h => h) (by rfl) (fun W hW => by clear hS hT hW; go_simp) hS hT ?_
    simp only [List.setIfInBounds_toArray, List.set_cons_succ, List.set_cons_zero]
    refine ltake 4 40 (.agg QC) rfl rfl (by kernel_rfl) (by kernel_rfl) (by kernel_rfl) rfl (by kernel_rfl) (by kernel_rfl) (fun _ _ _ _ h => h) (by rfl) (fun W hW => by have u := HLC.out W hW; clear hS hT hW; simp [execOp, Act.eval, u]) hS hT ?_
    simp only [List.setIfInBounds_toArray, List.set_cons_succ, List.set_cons_zero]
    refine ltake 5 41 (.pointer (some ⟨b, 0, none⟩)) rfl rfl (by kernel_rfl) (by kernel_rfl) (by kernel_rfl) rfl (by kernel_rfl) (by kernel_rfl) (fun _ _ _ _ h => h) (by rfl) (fun W hW => by clear hS hT hW; go_simp) hS hT ?_
    simp only [List.setIfInBounds_toArray, List.set_cons_succ, List.set_cons_zero]
    refine ltake 6 42 (.pointer (some ⟨b, 0, none⟩)) rfl rfl (by kernel_rfl) (by kernel_rfl) (by kernel_rfl) rfl (by kernel_rfl) (by kernel_rfl) (fun _ _ _ _ h => h) (by rfl) (fun W hW => by clear hS hT hW; go_simp) hS hT ?_
    simp only [List.setIfInBounds_toArray, List.set_cons_succ, List.set_cons_zero]
    refine ltake 7 43 (.pointer (some ⟨b, 11, none⟩)) rfl rfl (by kernel_rfl) (by kernel_rfl) (by kernel_rfl) rfl (by kernel_rfl) (by kernel_rfl) (fun _ _ _ _ h => h) (by rfl) (fun W hW => by clear hS hT hW; go_simp) hS hT ?_
    simp only [List.setIfInBounds_toArray, List.set_cons_succ, List.set_cons_zero]
    refine ltake 8 44 (.agg AC) rfl rfl (by kernel_rfl) (by kernel_rfl) (by kernel_rfl) rfl (by kernel_rfl) (by kernel_rfl) (fun _ _ _ _ h => h) (by rfl) (fun W hW => by have u := HLD.out W hW; clear hS hT hW; simp [execOp, Act.eval, u]) hS hT ?_
    simp only [List.setIfInBounds_toArray, List.set_cons_succ, List.set_cons_zero]
    refine late_one 9 (by kernel_rfl) ?_
    refine wpOp_step rfl (fun K hK => ?_)
    have HK := (show Hid _ from hK)
    clear hK
    rw [if_pos (by rfl)]
    go_simp
    refine Calls.mono (HCC.out _) ?_
    rintro e Y ⟨rfl, hb8⟩
    refine HK.out _ _ ⟨fun _ => hS.step hb8, trivial, ?_⟩
    have hY := hS.step hb8
    clear HK hS hb8 K
    refine ttake 10 46 (.pointer (some ⟨b, 0, none⟩)) rfl rfl (by kernel_rfl) (by kernel_rfl) (by kernel_rfl) rfl (fun _ _ _ _ h => h) (by rfl) (fun W hW => by clear hY hT hW; go_simp) (fun _ => hY) hT ?_
    simp only [List.setIfInBounds_toArray, List.set_cons_succ, List.set_cons_zero]
    refine ttake 11 47 (.pointer (some ⟨b, 11, none⟩)) rfl rfl (by kernel_rfl) (by kernel_rfl) (by kernel_rfl) rfl (fun _ _ _ _ h => h) (by rfl) (fun W hW => by clear hY hT hW; go_simp) (fun _ => hY) hT ?_
    simp only [List.setIfInBounds_toArray, List.set_cons_succ, List.set_cons_zero]
    refine late_one 12 (by kernel_rfl) (late_store_mid 12 _ rfl (by rfl) rfl 25 (.tmp 47) (.tmp 45) rfl b 11 OC rfl rfl (by rw [HSOC.out]; exact there_row hY.row (by rw [teA_size]; decide)) (by rw [HSOC.out]; exact t_info_fivei) HOOC.out (by kernel_rfl) trivial ?_)
    refine late_done (by kernel_rfl) ?_ _
    refine NoPanic.normal ?_
    have HF := (show Hid _ from HA3.out _ hY)
    clear hY
    go_wp2
    exact bodyPost_end (results_none Try.results24 _ _ _) rfl ⟨rfl, HF.out⟩
  · go_wp2_with fail
    refine wp_region_noPanic ?_
    refine wp_region_late_drew (S := fun W => TuAt w0 w W b R (fun k => ((pos T i k : Nat) : Int))) (T := fun _ => True) (fun j => j == 12) (by kernel_rfl) ?_
    have hS := hw1.drew
    have hT : True := trivial
    obtain ⟨U, hU⟩ : ∃ x, x = W1.drew := ⟨_, rfl⟩
    rw [← hU] at hS ⊢
    clear hU hw1
    refine ltake 0 12 (.pointer (some ⟨b, 0, none⟩)) rfl rfl (by kernel_rfl) (by kernel_rfl) (by kernel_rfl) rfl (by kernel_rfl) (by kernel_rfl) (fun _ _ _ _ h => h) (by rfl) (fun W hW => by clear hS hT hW; go_simp) hS hT ?_
    simp only [List.setIfInBounds_toArray, List.set_cons_succ, List.set_cons_zero]
    refine ltake 1 13 (.pointer (some ⟨b, 0, none⟩)) rfl rfl (by kernel_rfl) (by kernel_rfl) (by kernel_rfl) rfl (by kernel_rfl) (by kernel_rfl) (fun _ _ _ _ h => h) (by rfl) (fun W hW => by clear hS hT hW; go_simp) hS hT ?_
    simp only [List.setIfInBounds_toArray, List.set_cons_succ, List.set_cons_zero]
    refine ltake 2 14 (.pointer (some ⟨b, 0, none⟩)) rfl rfl (by kernel_rfl) (by kernel_rfl) (by kernel_rfl) rfl (by kernel_rfl) (by kernel_rfl) (fun _ _ _ _ h => h) (by rfl) (fun W hW => by clear hS hT hW; go_simp) hS hT ?_
    simp only [List.setIfInBounds_toArray, List.set_cons_succ, List.set_cons_zero]
    refine ltake 3 15 (.pointer (some ⟨b, 5, none⟩)) rfl rfl (by kernel_rfl) (by kernel_rfl) (by kernel_rfl) rfl (by kernel_rfl) (by kernel_rfl) (fun _ _ _ _ h => h) (by rfl) (fun W hW => by clear hS hT hW; go_simp) hS hT ?_
    simp only [List.setIfInBounds_toArray, List.set_cons_succ, List.set_cons_zero]
    refine ltake 4 16 (.agg QP) rfl rfl (by kernel_rfl) (by kernel_rfl) (by kernel_rfl) rfl (by kernel_rfl) (by kernel_rfl) (fun _ _ _ _ h => h) (by rfl) (fun W hW => by have u := HLP.out W hW; clear hS hT hW; simp [execOp, Act.eval, u]) hS hT ?_
    simp only [List.setIfInBounds_toArray, List.set_cons_succ, List.set_cons_zero]
    refine ltake 5 17 (.pointer (some ⟨b, 0, none⟩)) rfl rfl (by kernel_rfl) (by kernel_rfl) (by kernel_rfl) rfl (by kernel_rfl) (by kernel_rfl) (fun _ _ _ _ h => h) (by rfl) (fun W hW => by clear hS hT hW; go_simp) hS hT ?_
    simp only [List.setIfInBounds_toArray, List.set_cons_succ, List.set_cons_zero]
    refine ltake 6 18 (.pointer (some ⟨b, 0, none⟩)) rfl rfl (by kernel_rfl) (by kernel_rfl) (by kernel_rfl) rfl (by kernel_rfl) (by kernel_rfl) (fun _ _ _ _ h => h) (by rfl) (fun W hW => by clear hS hT hW; go_simp) hS hT ?_
    simp only [List.setIfInBounds_toArray, List.set_cons_succ, List.set_cons_zero]
    refine ltake 7 19 (.pointer (some ⟨b, 16, none⟩)) rfl rfl (by kernel_rfl) (by kernel_rfl) (by kernel_rfl) rfl (by kernel_rfl) (by kernel_rfl) (fun _ _ _ _ h => h) (by rfl) (fun W hW => by clear hS hT hW; go_simp) hS hT ?_
    simp only [List.setIfInBounds_toArray, List.set_cons_succ, List.set_cons_zero]
    refine ltake 8 20 (.agg AP) rfl rfl (by kernel_rfl) (by kernel_rfl) (by kernel_rfl) rfl (by kernel_rfl) (by kernel_rfl) (fun _ _ _ _ h => h) (by rfl) (fun W hW => by have u := HLQ.out W hW; clear hS hT hW; simp [execOp, Act.eval, u]) hS hT ?_
    simp only [List.setIfInBounds_toArray, List.set_cons_succ, List.set_cons_zero]
    refine late_one 9 (by kernel_rfl) ?_
    refine wpOp_step rfl (fun K hK => ?_)
    have HK := (show Hid _ from hK)
    clear hK
    rw [if_pos (by rfl)]
    go_simp
    refine Calls.mono (HCP.out _) ?_
    rintro e Y ⟨rfl, hb8⟩
    refine HK.out _ _ ⟨fun _ => hS.step hb8, trivial, ?_⟩
    have hY := hS.step hb8
    clear HK hS hb8 K
    refine ttake 10 22 (.pointer (some ⟨b, 0, none⟩)) rfl rfl (by kernel_rfl) (by kernel_rfl) (by kernel_rfl) rfl (fun _ _ _ _ h => h) (by rfl) (fun W hW => by clear hY hT hW; go_simp) (fun _ => hY) hT ?_
    simp only [List.setIfInBounds_toArray, List.set_cons_succ, List.set_cons_zero]
    refine ttake 11 23 (.pointer (some ⟨b, 16, none⟩)) rfl rfl (by kernel_rfl) (by kernel_rfl) (by kernel_rfl) rfl (fun _ _ _ _ h => h) (by rfl) (fun W hW => by clear hY hT hW; go_simp) (fun _ => hY) hT ?_
    simp only [List.setIfInBounds_toArray, List.set_cons_succ, List.set_cons_zero]
    refine late_one 12 (by kernel_rfl) (late_store_mid 12 _ rfl (by rfl) rfl 25 (.tmp 23) (.tmp 21) rfl b 16 OP rfl rfl (by rw [HSOP.out]; exact there_row hY.row (by rw [teA_size]; decide)) (by rw [HSOP.out]; exact t_info_fivei) HOOP.out (by kernel_rfl) trivial ?_)
    refine late_done (by kernel_rfl) ?_ _
    refine NoPanic.normal ?_
    have hw1 := HA1.out _ (by first | rfl | trivial) hY
    clear hY
    generalize Y.setCells b 16 OP.toList = W1 at *
    go_wp2_with fail
    refine wp_region_noPanic ?_
    refine wp_region_late_drew (S := fun W => TuAt w0 w W b R a1) (T := fun _ => True) (fun j => j == 12) (by kernel_rfl) ?_
    have hS := hw1.drew
    have hT : True := trivial
    obtain ⟨U, hU⟩ : ∃ x, x = W1.drew := ⟨_, rfl⟩
    rw [← hU] at hS ⊢
    clear hU hw1
    refine ltake 0 24 (.pointer (some ⟨b, 0, none⟩)) rfl rfl (by kernel_rfl) (by kernel_rfl) (by kernel_rfl) rfl (by kernel_rfl) (by kernel_rfl) (fun _ _ _ _ h => h) (by rfl) (fun W hW => by clear hS hT hW; go_simp) hS hT ?_
    simp only [List.setIfInBounds_toArray, List.set_cons_succ, List.set_cons_zero]
    refine ltake 1 25 (.pointer (some ⟨b, 0, none⟩)) rfl rfl (by kernel_rfl) (by kernel_rfl) (by kernel_rfl) rfl (by kernel_rfl) (by kernel_rfl) (fun _ _ _ _ h => h) (by rfl) (fun W hW => by clear hS hT hW; go_simp) hS hT ?_
    simp only [List.setIfInBounds_toArray, List.set_cons_succ, List.set_cons_zero]
    refine ltake 2 26 (.pointer (some ⟨b, 0, none⟩)) rfl rfl (by kernel_rfl) (by kernel_rfl) (by kernel_rfl) rfl (by kernel_rfl) (by kernel_rfl) (fun _ _ _ _ h => h) (by rfl) (fun W hW => by clear hS hT hW; go_simp) hS hT ?_
    simp only [List.setIfInBounds_toArray, List.set_cons_succ, List.set_cons_zero]
    refine ltake 3 27 (.pointer (some ⟨b, 10, none⟩)) rfl rfl (by kernel_rfl) (by kernel_rfl) (by kernel_rfl) rfl (by kernel_rfl) (by kernel_rfl) (fun _ _ _ _ h => h) (by rfl) (fun W hW => by clear hS hT hW; go_simp) hS hT ?_
    simp only [List.setIfInBounds_toArray, List.set_cons_succ, List.set_cons_zero]
    refine ltake 4 28 (.slice (some ⟨bm, om, none⟩) l cm) rfl rfl (by kernel_rfl) (by kernel_rfl) (by kernel_rfl) rfl (by kernel_rfl) (by kernel_rfl) (fun _ _ _ _ h => h) (by rfl) (fun W hW => by obtain ⟨u1, u2, u3⟩ := HLM.out W hW; clear hS hT hW; go_simp) hS hT ?_
    simp only [List.setIfInBounds_toArray, List.set_cons_succ, List.set_cons_zero]
    refine ltake 5 29 (.pointer (some ⟨b, 0, none⟩)) rfl rfl (by kernel_rfl) (by kernel_rfl) (by kernel_rfl) rfl (by kernel_rfl) (by kernel_rfl) (fun _ _ _ _ h => h) (by rfl) (fun W hW => by clear hS hT hW; go_simp) hS hT ?_
    simp only [List.setIfInBounds_toArray, List.set_cons_succ, List.set_cons_zero]
    refine ltake 6 30 (.pointer (some ⟨b, 0, none⟩)) rfl rfl (by kernel_rfl) (by kernel_rfl) (by kernel_rfl) rfl (by kernel_rfl) (by kernel_rfl) (fun _ _ _ _ h => h) (by rfl) (fun W hW => by clear hS hT hW; go_simp) hS hT ?_
    simp only [List.setIfInBounds_toArray, List.set_cons_succ, List.set_cons_zero]
    refine ltake 7 31 (.pointer (some ⟨b, 21, none⟩)) rfl rfl (by kernel_rfl) (by kernel_rfl) (by kernel_rfl) rfl (by kernel_rfl) (by kernel_rfl) (fun _ _ _ _ h => h) (by rfl) (fun W hW => by clear hS hT hW; go_simp) hS hT ?_
    simp only [List.setIfInBounds_toArray, List.set_cons_succ, List.set_cons_zero]
    refine ltake 8 32 (.int .i64 (q : Nat)) rfl rfl (by kernel_rfl) (by kernel_rfl) (by kernel_rfl) rfl (by kernel_rfl) (by kernel_rfl) (fun _ _ _ _ h => h) (by rfl) (fun W hW => by obtain ⟨u1, u2, u3⟩ := HLM.out W hW; clear hS hT hW; go_simp) hS hT ?_
    simp only [List.setIfInBounds_toArray, List.set_cons_succ, List.set_cons_zero]
    refine late_one 9 (by kernel_rfl) ?_
    refine wpOp_step rfl (fun K hK => ?_)
    have HK := (show Hid _ from hK)
    clear hK
    rw [if_pos (by rfl)]
    go_simp
    refine Calls.mono (HMO.out _) ?_
    rintro e Y ⟨rfl, rfl⟩
    refine HK.out _ _ ⟨fun _ => hS, trivial, ?_⟩
    clear HK K
    refine ttake 10 34 (.pointer (some ⟨b, 0, none⟩)) rfl rfl (by kernel_rfl) (by kernel_rfl) (by kernel_rfl) rfl (fun _ _ _ _ h => h) (by rfl) (fun W hW => by clear hS hT hW; go_simp) (fun _ => hS) hT ?_
    simp only [List.setIfInBounds_toArray, List.set_cons_succ, List.set_cons_zero]
    refine ttake 11 35 (.pointer (some ⟨b, 21, none⟩)) rfl rfl (by kernel_rfl) (by kernel_rfl) (by kernel_rfl) rfl (fun _ _ _ _ h => h) (by rfl) (fun W hW => by clear hS hT hW; go_simp) (fun _ => hS) hT ?_
    simp only [List.setIfInBounds_toArray, List.set_cons_succ, List.set_cons_zero]
    refine late_one 12 (by kernel_rfl) (late_storeI 12 _ rfl (by rfl) rfl 3 (.tmp 35) (.tmp 33) rfl g_size_int ⟨b, 21, none⟩ rfl .i64 ((q' : Nat) : Int) rfl _ (HLM.out _ hS).2.1 (HLM.out _ hS).2.2 (by kernel_rfl) trivial ?_)
    have hw1 := HA2.out _ hS
    refine late_done (by kernel_rfl) ?_ _
    refine NoPanic.normal ?_
    clear hS
    generalize U.setCell ⟨b, 21, none⟩ (.int .i64 ((q' : Nat) : Int)) = W1 at *
    go_wp2_with fail
    refine wp_region_noPanic ?_
    refine wp_region_late_drew (S := fun W => TuAt w0 w W b R a2) (T := fun _ => True) (fun j => j == 12) (by kernel_rfl) ?_
    have hS := hw1.drew
    have hT : True := trivial
    obtain ⟨U, hU⟩ : ∃ x, x = W1.drew := ⟨_, rfl⟩
    rw [← hU] at hS ⊢
    clear hU hw1
    refine ltake 0 36 (.pointer (some ⟨b, 0, none⟩)) rfl rfl (by kernel_rfl) (by kernel_rfl) (by kernel_rfl) rfl (by kernel_rfl) (by kernel_rfl) (fun _ _ _ _ h => h) (by rfl) (fun W hW => by clear hS hT hW; go_simp) hS hT ?_
    simp only [List.setIfInBounds_toArray, List.set_cons_succ, List.set_cons_zero]
    refine ltake 1 37 (.pointer (some ⟨b, 0, none⟩)) rfl rfl (by kernel_rfl) (by kernel_rfl) (by kernel_rfl) rfl (by kernel_rfl) (by kernel_rfl) (fun _ _ _ _ h => h) (by rfl) (fun W hW => by clear hS hT hW; go_simp) hS hT ?_
    simp only [List.setIfInBounds_toArray, List.set_cons_succ, List.set_cons_zero]
    refine ltake 2 38 (.pointer (some ⟨b, 0, none⟩)) rfl rfl (by kernel_rfl) (by kernel_rfl) (by kernel_rfl) rfl (by kernel_rfl) (by kernel_rfl) (fun _ _ _ _ h => h) (by rfl) (fun W hW => by clear hS hT hW; go_simp) hS hT ?_
    simp only [List.setIfInBounds_toArray, List.set_cons_succ, List.set_cons_zero]
    refine ltake 3 39 (.pointer (some ⟨b, 0, none⟩)) rfl rfl (by kernel_rfl) (by kernel_rfl) (by kernel_rfl) rfl (by kernel_rfl) (by kernel_rfl) (fun _ _ _ _ h => h) (by rfl) (fun W hW => by clear hS hT hW; go_simp) hS hT ?_
    simp only [List.setIfInBounds_toArray, List.set_cons_succ, List.set_cons_zero]
    refine ltake 4 40 (.agg QC) rfl rfl (by kernel_rfl) (by kernel_rfl) (by kernel_rfl) rfl (by kernel_rfl) (by kernel_rfl) (fun _ _ _ _ h => h) (by rfl) (fun W hW => by have u := HLC.out W hW; clear hS hT hW; simp [execOp, Act.eval, u]) hS hT ?_
    simp only [List.setIfInBounds_toArray, List.set_cons_succ, List.set_cons_zero]
    refine ltake 5 41 (.pointer (some ⟨b, 0, none⟩)) rfl rfl (by kernel_rfl) (by kernel_rfl) (by kernel_rfl) rfl (by kernel_rfl) (by kernel_rfl) (fun _ _ _ _ h => h) (by rfl) (fun W hW => by clear hS hT hW; go_simp) hS hT ?_
    simp only [List.setIfInBounds_toArray, List.set_cons_succ, List.set_cons_zero]
    refine ltake 6 42 (.pointer (some ⟨b, 0, none⟩)) rfl rfl (by kernel_rfl) (by kernel_rfl) (by kernel_rfl) rfl (by kernel_rfl) (by kernel_rfl) (fun _ _ _ _ h => h) (by rfl) (fun W hW => by clear hS hT hW; go_simp) hS hT ?_
    simp only [List.setIfInBounds_toArray, List.set_cons_succ, List.set_cons_zero]
    refine ltake 7 43 (.pointer (some ⟨b, 11, none⟩)) rfl rfl (by kernel_rfl) (by kernel_rfl) (by kernel_rfl) rfl (by kernel_rfl) (by kernel_rfl) (fun _ _ _ _ h => h) (by rfl) (fun W hW => by clear hS hT hW; go_simp) hS hT ?_
    simp only [List.setIfInBounds_toArray, List.set_cons_succ, List.set_cons_zero]
    refine ltake 8 44 (.agg AC) rfl rfl (by kernel_rfl) (by kernel_rfl) (by kernel_rfl) rfl (by kernel_rfl) (by kernel_rfl) (fun _ _ _ _ h => h) (by rfl) (fun W hW => by have u := HLD.out W hW; clear hS hT hW; simp [execOp, Act.eval, u]) hS hT ?_
    simp only [List.setIfInBounds_toArray, List.set_cons_succ, List.set_cons_zero]
    refine late_one 9 (by kernel_rfl) ?_
    refine wpOp_step rfl (fun K hK => ?_)
    have HK := (show Hid _ from hK)
    clear hK
    rw [if_pos (by rfl)]
    go_simp
    refine Calls.mono (HCC.out _) ?_
    rintro e Y ⟨rfl, hb8⟩
    refine HK.out _ _ ⟨fun _ => hS.step hb8, trivial, ?_⟩
    have hY := hS.step hb8
    clear HK hS hb8 K
    refine ttake 10 46 (.pointer (some ⟨b, 0, none⟩)) rfl rfl (by kernel_rfl) (by kernel_rfl) (by kernel_rfl) rfl (fun _ _ _ _ h => h) (by rfl) (fun W hW => by clear hY hT hW; go_simp) (fun _ => hY) hT ?_
    simp only [List.setIfInBounds_toArray, List.set_cons_succ, List.set_cons_zero]
    refine ttake 11 47 (.pointer (some ⟨b, 11, none⟩)) rfl rfl (by kernel_rfl) (by kernel_rfl) (by kernel_rfl) rfl (fun _ _ _ _ h => h) (by rfl) (fun W hW => by clear hY hT hW; go_simp) (fun _ => hY) hT ?_
    simp only [List.setIfInBounds_toArray, List.set_cons_succ, List.set_cons_zero]
    refine late_one 12 (by kernel_rfl) (late_store_mid 12 _ rfl (by rfl) rfl 25 (.tmp 47) (.tmp 45) rfl b 11 OC rfl rfl (by rw [HSOC.out]; exact there_row hY.row (by rw [teA_size]; decide)) (by rw [HSOC.out]; exact t_info_fivei) HOOC.out (by kernel_rfl) trivial ?_)
    refine late_done (by kernel_rfl) ?_ _
    refine NoPanic.normal ?_
    have HF := (show Hid _ from HA3.out _ hY)
    clear hY
    go_wp2
    exact bodyPost_end (results_none Try.results24 _ _ _) rfl ⟨rfl, HF.out⟩
end Go.Proofs.Ytbcjblakknfhmaa
