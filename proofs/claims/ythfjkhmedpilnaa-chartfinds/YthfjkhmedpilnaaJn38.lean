/-
  Several texts, joined: FdQ, FdR.
-/
import Derived.Test.YthfjkhmedpilnaaFdP
import Derived.Test.YthfjkhmedpilnaaJn15
/-
  The walk ahead of the pool: the channels, and on to the first 'go'.
-/
namespace Go.Proofs.Ythfjkhmedpilnaa
open Go.RowKit PK Vg Go.Conc Cs
theorem eR7_eq : eR7 = .region 7 eO7 true := by kernel_rfl
theorem terms7 (Fd : Nat) : Terms AtRel (DN Fd) := ⟨atRel_trans, dn_same⟩
theorem draw7 (Fd : Nat) : LetsDraw (DN Fd) := fun w => ⟨Nat.le_refl _, fun e he => by simp at he⟩
set_option maxRecDepth 100000 in
theorem every_b {H : Array Obj} {o : Os} {out : Array (Nat × ByteArray)} {n bM bL Fd : Nat} {p q r s v0 v2 v4 v6 v7 v8 v12 v13 v14 v15 v16 v17 v18 v19 v20 v21 v22 v23 v26 v27 v28 v29 v30 v31 v32 v33 v34 v35 v36 v37 v38 v39 v40 v41 v42 v43 v44 v45 v46 v47 v48 v49 v50 v51 v52 : Value} {w : World} (hF : Fd < H.size) (hz : Z7 H o out w) (cs : List Frame) : ∃ mu, Goes Try.prog true AtRel (DN Fd) (fun g w' => ∃ (C1 C2 bF bD : Nat) (v0 v2 v4 v6 v7 v8 v12 v13 v14 v15 v16 v17 v18 v19 v20 v21 v22 v23 v26 v27 v28 v29 v30 v31 v32 v33 v34 v35 v36 v37 v38 v39 v40 v41 v42 v43 v44 v45 v46 v47 v48 v49 v50 v51 v52 : Value), g = G (eB.at ⟨#[v0, .int .i64 (n : Nat), v2, .pointer (some ⟨bM, 0, none⟩), v4, .pointer (some ⟨bL, 0, none⟩), v6, v7, v8, .pointer (some ⟨Fd, 0, none⟩), .pointer (some ⟨bF, 0, none⟩), .pointer (some ⟨bD, 0, none⟩), v12, v13, v14, v15, v16, v17, v18, v19, v20, v21, v22, v23, .chan (some C1), .chan (some C2), v26, v27, v28, v29, v30, v31, v32, v33, v34, v35, v36, v37, v38, v39, v40, v41, v42, v43, v44, v45, v46, v47, v48, v49, v50, v51, v52], []⟩ [.code eT1]) cs ∧ Z7 H o out w' ∧ ZC H w' C1 ∧ ZC H w' C2 ∧ C1 ≠ C2 ∧ ZB H w' bF 95 (.chan (some C1)) ∧ ZB H w' bD 96 (.chan (some C2))) mu (G (eB.at ⟨#[v0, .int .i64 (n : Nat), v2, .pointer (some ⟨bM, 0, none⟩), v4, .pointer (some ⟨bL, 0, none⟩), v6, v7, v8, .pointer (some ⟨Fd, 0, none⟩), r, s, v12, v13, v14, v15, v16, v17, v18, v19, v20, v21, v22, v23, p, q, v26, v27, v28, v29, v30, v31, v32, v33, v34, v35, v36, v37, v38, v39, v40, v41, v42, v43, v44, v45, v46, v47, v48, v49, v50, v51, v52], []⟩ [.code eR7, .code eT1]) cs) w := by
  have h := wpC_region_held (P := Try.prog) (main := true) (fn := 19) (ops := eO7) (Q := Q7 H o out n bM bL Fd) (S := fun _ => True) (terms7 Fd) (draw7 Fd) (id := 7) (a := ⟨#[v0, .int .i64 (n : Nat), v2, .pointer (some ⟨bM, 0, none⟩), v4, .pointer (some ⟨bL, 0, none⟩), v6, v7, v8, .pointer (some ⟨Fd, 0, none⟩), r, s, v12, v13, v14, v15, v16, v17, v18, v19, v20, v21, v22, v23, p, q, v26, v27, v28, v29, v30, v31, v32, v33, v34, v35, v36, v37, v38, v39, v40, v41, v42, v43, v44, v45, v46, v47, v48, v49, v50, v51, v52], []⟩) (w := w) (by kernel_rfl) (fun w₁ h₁ => by
    obtain ⟨d, rfl⟩ := h₁
    exact st7_n hF ⟨hz.old, hz.size, hz.os, hz.output⟩)
  rw [eR7_eq]
  refine ⟨0 + _, wpC_goes h rfl (by decide) (fun e a' w' hQ => ?_)⟩
  obtain ⟨rfl, C1, C2, bF, bD, v0, v2, v4, v6, v7, v8, v12, v13, v14, v15, v16, v17, v18, v19, v20, v21, v22, v23, v26, v27, v28, v29, v30, v31, v32, v33, v34, v35, v36, v37, v38, v39, v40, v41, v42, v43, v44, v45, v46, v47, v48, v49, v50, v51, v52, rfl, z, k0, k1, kn, k2, k3⟩ := hQ
  exact Goes.stop fun w₂ h₂ => by
    obtain ⟨d, rfl⟩ := h₂
    exact ⟨C1, C2, bF, bD, _, _, _, _, _, _, _, _, _, _, _, _, _, _, _, _, _, _, _, _, _, _, _, _, _, _, _, _, _, _, _, _, _, _, _, _, _, _, _, _, _, _, _, _, _, rfl, z.at' d, k0, k1, kn, k2, k3⟩
set_option maxRecDepth 100000 in
set_option maxHeartbeats 4000000 in
theorem every_c {H : Array Obj} {o : Os} {out : Array (Nat × ByteArray)} {n bM bL Fd C1 C2 bF bD : Nat} {v0 v2 v4 v6 v7 v8 v12 v13 v14 v15 v16 v17 v18 v19 v20 v21 v22 v23 v26 v27 v28 v29 v30 v31 v32 v33 v34 v35 v36 v37 v38 v39 v40 v41 v42 v43 v44 v45 v46 v47 v48 v49 v50 v51 v52 : Value} {w : World} (hI : HI H o out w) (hn : 1 ≤ n) (cs : List Frame) : ∃ mu, Goes Try.prog true AtRel (DN Fd) (fun g w' => g.status = .running ∧ (∀ c : Cst, c.Fd = Fd → eGoP c bF bM bL bD n cs 0 g) ∧ HI H o out w') mu (G (eB.at ⟨#[v0, .int .i64 (n : Nat), v2, .pointer (some ⟨bM, 0, none⟩), v4, .pointer (some ⟨bL, 0, none⟩), v6, v7, v8, .pointer (some ⟨Fd, 0, none⟩), .pointer (some ⟨bF, 0, none⟩), .pointer (some ⟨bD, 0, none⟩), v12, v13, v14, v15, v16, v17, v18, v19, v20, v21, v22, v23, .chan (some C1), .chan (some C2), v26, v27, v28, v29, v30, v31, v32, v33, v34, v35, v36, v37, v38, v39, v40, v41, v42, v43, v44, v45, v46, v47, v48, v49, v50, v51, v52], []⟩ [.code eT1]) cs) w := by
  have hlt : decide (0 < n) = true := by simp; omega
  refine ⟨60, ?_⟩
  simp only [eT1, eBody, Try.f19, Option.getD_some]
  repeat (refine gstepN hI rfl (fun w₁ h₁ => ?_); walk_rw; refine ⟨dn_same _, ?_⟩; clear hI; have hI := h₁; clear h₁)
  refine gstepN hI rfl (fun w₁ h₁ => ?_)
  refine goes_oper_k rfl rfl (by decide) (fun K hK => ?_)
  go_simp
  refine hK _ _ ⟨⟨by simp, fun e he => ?_⟩, ?_⟩
  · have hm := mem_listed he
    simp [go_sem] at hm
  clear hK K hI
  have hI := h₁
  clear h₁
  refine gstepN hI rfl (fun w₁ h₁ => ?_)
  refine goes_oper_k rfl rfl (by decide) (fun K hK => ?_)
  go_simp
  refine hK _ _ ⟨⟨by simp, fun e he => ?_⟩, ?_⟩
  · have hm := mem_listed he
    simp [go_sem] at hm
  clear hK K hI
  have hI := h₁
  clear h₁
  repeat (refine gstepN hI rfl (fun w₁ h₁ => ?_); walk_rw; refine ⟨dn_same _, ?_⟩; clear hI; have hI := h₁; clear h₁)
  refine gstepN hI rfl (fun w₁ h₁ => ?_)
  refine goes_oper_k rfl rfl (by decide) (fun K hK => ?_)
  go_simp
  refine hK _ _ ⟨⟨by simp, fun e he => ?_⟩, ?_⟩
  · have hm := mem_listed he
    simp [go_sem] at hm
  clear hK K hI
  have hI := h₁
  clear h₁
  repeat (refine gstepN hI rfl (fun w₁ h₁ => ?_); walk_rw; refine ⟨dn_same _, ?_⟩; clear hI; have hI := h₁; clear h₁)
  refine gstepN hI rfl (fun w₁ h₁ => ?_)
  rw [stepG_cond (t := true) rfl]
  simp only [goes_go, ↓reduceIte]
  refine ⟨dn_same _, ?_⟩
  clear hI
  have hI := h₁
  clear h₁
  repeat (refine gstepN hI rfl (fun w₁ h₁ => ?_); walk_rw; refine ⟨dn_same _, ?_⟩; clear hI; have hI := h₁; clear h₁)
  refine gstepN hI rfl (fun w₁ h₁ => ?_)
  refine goes_oper_k rfl rfl (by decide) (fun K hK => ?_)
  go_simp
  refine hK _ _ ⟨⟨by simp, fun e he => ?_⟩, ?_⟩
  · have hm := mem_listed he
    simp [go_sem] at hm
  clear hK K hI
  have hI := h₁
  clear h₁
  exact Goes.stop fun w₂ h₂ => by
    obtain ⟨d, rfl⟩ := h₂
    refine ⟨rfl, fun c hc => ?_, hI⟩
    subst hc
    exact ⟨_, _, _, _, _, _, _, _, _, _, _, _, _, _, _, _, _, _, _, _, _, _, _, _, _, _, _, _, _, _, _, _, _, _, _, _, _, _, _, _, _, _, _, _, rfl⟩
end Go.Proofs.Ythfjkhmedpilnaa

/-
  The run of ChartFinds, where nothing is wrong with what is searched: from its start to its end.
-/
namespace Go.Proofs.Ythfjkhmedpilnaa
open Go.RowKit PK Vg Go.Conc Cs
theorem push2_old {H : Array Obj} {x y : Obj} {b : Nat} (hb : b < H.size) : ((H.push x).push y)[b]? = H[b]? := by
  rw [Array.getElem?_push, if_neg (by simp; omega), Array.getElem?_push, if_neg (by omega)]
theorem push2_one {H : Array Obj} {x y : Obj} : ((H.push x).push y)[H.size]? = some x := by
  rw [Array.getElem?_push, if_neg (by simp), Array.getElem?_push, if_pos rfl]
theorem push2_two {H : Array Obj} {x y : Obj} : ((H.push x).push y)[H.size + 1]? = some y := by
  rw [Array.getElem?_push, if_pos (by simp)]
theorem push2_size {H : Array Obj} {x y : Obj} : ((H.push x).push y).size = H.size + 2 := by simp
theorem enter_law (A B : Array Value) (h : Int) : Frame.enter Try.prog 3 #[.agg A, .agg B, .int .i64 h] .normal = (base 3).at ⟨#[.agg A, .agg B, .int .i64 h, undef, undef, undef, undef, undef, undef, undef, undef, undef, undef, undef, undef, undef, undef, undef, undef, undef, undef, undef, undef, undef, undef, undef, undef, undef, undef, undef, undef, undef, undef], []⟩ [.code lB] := by
  simp [Frame.enter, Try.func3, Try.f3, lB, base, Frame.at, Array.replicate, List.replicate]
theorem ev_load {w : World} {a : Addr} {u : Value} {es : Array Event} (hu : w.cell? a = some u) : ∀ ev ∈ (load a).events Try.prog w es, ev ∈ es ∨ ev = ⟨.cell a, false, false⟩ := fun ev h => by
  have h1 : ev ∈ es ∨ ev = ⟨.cell a, false, Mode.plain == Mode.atomic⟩ := by simpa [go_sem, hu] using h
  exact h1
theorem ev_cells (a : Addr) : ∀ (n i : Nat) (acc : Array Value) (w : World) (es : Array Event), (∀ j, j < n → (w.cell? (a.add (i + j))).isSome) → ∀ ev ∈ (loadCellsFrom a i n acc).events Try.prog w es, ev ∈ es ∨ ∃ ad : Addr, ev = ⟨.cell ad, false, false⟩ ∧ ad.block = a.block
  | 0, _, _, _, _, _ => fun ev h => .inl (by simpa [loadCellsFrom] using h)
  | n + 1, i, acc, w, es, hc => fun ev h => by
    simp only [loadCellsFrom, Sem.events_bind] at h
    obtain ⟨u, hu⟩ := Option.isSome_iff_exists.1 (hc 0 (by omega))
    simp only [Nat.add_zero] at hu
    have hr : (load (a.add i)).run Try.prog w = .ok u w := by simp [hu]
    rw [hr] at h
    rcases ev_cells a n (i + 1) (acc.push u) w _ (fun j hj => by have := hc (j + 1) (by omega); rwa [show i + (j + 1) = i + 1 + j by omega] at this) ev h with h | h
    · rcases ev_load hu ev h with h | h
      · exact .inl h
      · exact .inr ⟨_, h, by unfold Addr.add; split <;> rfl⟩
    · exact .inr h
theorem ev_rowX {W : World} {b : Nat} {T : TypeId} {A : Array Value} {TB : TypeId} {fr : Nat × Nat} {d : TypeDesc} (hW : W.heap[b]? = some (.cells A TB fr)) (hu : Try.prog.underlying T = some d) (hd : d.isRow = true) (hi : (Try.prog.info? T).map (·.size) = some A.size) :
    ∀ e ∈ (Instr.loadAt T (.pointer (some ⟨b, 0, none⟩))).events Try.prog W #[], ∃ a : Addr, e = ⟨.cell a, false, false⟩ ∧ a.block = b := fun e he => by
  obtain ⟨i, hi1, hi2⟩ := Option.map_eq_some_iff.1 hi
  have hc := ev_cells ⟨b, 0, none⟩ A.size 0 #[] W #[] (fun j hj => by
    rw [Addr.add_lit, cell_of_row _ _ _ _ _ _ hW]
    simp [hj])
  cases d with
  | struct fs =>
    simp [Instr.loadAt, Instr.sureAddr, loadVar, isAgg, go_sem, underlying, sizeOf, typeInfo, loadCells, hu, hi1, hi2] at he
    rcases hc e he with h | h
    · simp at h
    · exact h
  | array n el =>
    simp [Instr.loadAt, Instr.sureAddr, loadVar, isAgg, go_sem, underlying, sizeOf, typeInfo, loadCells, hu, hi1, hi2] at he
    rcases hc e he with h | h
    · simp at h
    · exact h
  | _ => cases hd
/-- What is said of the world behind the run. -/
def Kept (W W' : World) : Prop := (∀ b, b < W.heap.size → W'.heap[b]? = W.heap[b]?) ∧ W'.os = W.os ∧ W'.output = W.output
/-- What stands there at the first 'go'. -/
structure AtGo (A B : Array Value) (n : Nat) (W w4 w8 : World) (h1 h2 Fd C1 C2 bF bD : Nat) : Prop where
  old4 : ∀ b, b < W.heap.size → w4.heap[b]? = W.heap[b]?
  bT : w4.heap[h1 + 1]? = some (.cells B 28 (0, 0))
  dM : w4.heap[W.heap.size]? = some (.cells A 27 (0, 0))
  dT : w4.heap[W.heap.size + 1]? = some (.cells B 28 (0, 0))
  lM : w4.heap[h2]? = some (.cells A 27 (0, 0))
  lL : w4.heap[h2 + 1]? = some (.cells #[.func (.func 20) #[] #[.pointer (some ⟨h1 + 1, 0, none⟩)]] 58 (0, 0))
  fd : Fd = w4.heap.size
  h84 : ∀ b, b < w4.heap.size → w8.heap[b]? = w4.heap[b]?
  row : w8.heap[Fd]? = some (.cells (tab 26 fun _ => .slice none 0 0) 94 (0, 0))
  c1 : Fd < C1 ∧ w8.heap[C1]? = some (.chan 0 #[] false 0 0 false)
  c2 : Fd < C2 ∧ w8.heap[C2]? = some (.chan 0 #[] false 0 0 false)
  ne : C1 ≠ C2
  bf : Fd < bF ∧ w8.heap[bF]? = some (.cells #[.chan (some C1)] 95 (0, 0))
  bd : Fd < bD ∧ w8.heap[bD]? = some (.cells #[.chan (some C2)] 96 (0, 0))
  env : w8.os = W.os ∧ w8.output = W.output
set_option maxRecDepth 100000 in
set_option maxHeartbeats 8000000 in
theorem finds_to_go (a b c : Value) (g : Gm) (B : Array Value) (hB : B.size = 3) (n : Nat) (hE : swE g (n : Int) = 0) (W : World) (ha : WhR W a g.n g.wi g.nl g.no) (hb : NumsAt W b g.rl g.ri) (hc : NumsAt W c g.sl g.st) (ra : Rt W a) (rb : Rt W b) (rc : Rt W c) (A : Array Value) (hA0 : A = mac a b c g.rf g.pl) :
    ∃ N gs w4 w8 sl t q g8 h1 h2 Fd C1 C2 bF bD, runNT Try.prog N (crowd #[G (Frame.enter Try.prog 3 #[.agg A, .agg B, .int .i64 (n : Int)] .normal) []] W none) #[] = (.next (crowd gs w8 sl), t) ∧ gs.size = 1 ∧ gs[0]? = some g8 ∧ g8.status = .running ∧ (∀ c : Cst, c.Fd = Fd → eGoP c bF h2 (h2 + 1) bD n [(base 7).at ⟨#[.agg A, .agg B, .int .i64 (n : Nat), .pointer (some ⟨h1, 0, none⟩), .pointer (some ⟨h1 + 1, 0, none⟩), undef, .slice none 0 0, .int .i64 0, .agg A, .int .i64 (n : Nat), .func (.func 20) #[] #[.pointer (some ⟨h1 + 1, 0, none⟩)], undef, undef, undef], []⟩ [.inRegion fO1 (3 :: List.range' 4 4), .code .ret], (base 3).at ⟨#[.agg A, .agg B, .int .i64 (n : Nat), .pointer (some ⟨W.heap.size, 0, none⟩), .pointer (some ⟨W.heap.size + 1, 0, none⟩), undef, .bool false, undef, undef, undef, undef, undef, .agg A, .agg B, .int .i64 (n : Nat), undef, undef, undef, undef, undef, undef, undef, undef, undef, undef, undef, undef, undef, undef, undef, undef, undef, undef], []⟩ [.inRegion lO1 (3 :: List.range' 4 5), .code lT2]] 0 g8) ∧ QtF (fun x => ∀ ad, x.loc = .cell ad → ad.block ≠ Fd) Try.prog gs t q w8.heap.size ∧ AtGo A B n W w4 w8 h1 h2 Fd C1 C2 bF bD := by
  obtain ⟨_, _, hh1, hh2⟩ := swE_zero hE
  have hG : Try.prog.globals.size ≤ Fns.G := Nat.le_refl _
  have hA : A.size = 55 := by rw [hA0]; exact mac_size ..
  rw [enter_law]
  -- the law, to the call of Find
  obtain ⟨mu1, G1⟩ := law_head A B hA hB (n : Int) [] W.heap W.os W.output W ⟨rfl, rfl, rfl⟩
  obtain ⟨N1, gs1, w1, sl1, t1, q1, g1, r1, z1, i1, ⟨rfl, I1⟩, Q1⟩ := beside_walk (sl := none) (gs := #[_]) (fun _ _ _ h => h) (fun g w h => by rw [h.1]; rfl) rfl G1 (qt_one Try.prog _ (fun _ => 0) W.heap.size)
  obtain ⟨H1, hH1⟩ : ∃ H1, H1 = (W.heap.push (.cells A 27)).push (.cells B 28) := ⟨_, rfl⟩
  rw [← hH1] at I1
  have o1 : ∀ b, b < W.heap.size → H1[b]? = W.heap[b]? := fun b hb => by rw [hH1]; exact push2_old hb
  have d1 : H1[W.heap.size]? = some (.cells A 27) := by rw [hH1]; exact push2_one
  have e1 : H1[W.heap.size + 1]? = some (.cells B 28) := by rw [hH1]; exact push2_two
  have s1 : H1.size = W.heap.size + 2 := by rw [hH1]; exact push2_size
  clear hH1 G1
  -- Find, to the call of Every
  obtain ⟨mu2, G2⟩ := find_head A B hA (n : Int) _ H1 W.os W.output w1 I1
  obtain ⟨N2, gs2, w2, sl2, t2, q2, g2, r2, z2, i2, ⟨rfl, I2⟩, Q2⟩ := beside_walk (sl := sl1) (fun _ _ _ h => h) (fun g w h => by rw [h.1]; rfl) i1 G2 Q1
  obtain ⟨H2, hH2⟩ : ∃ H2, H2 = (H1.push (.cells A 27)).push (.cells B 28) := ⟨_, rfl⟩
  rw [← hH2] at I2
  have o2 : ∀ b, b < H1.size → H2[b]? = H1[b]? := fun b hb => by rw [hH2]; exact push2_old hb
  have e2 : H2[H1.size + 1]? = some (.cells B 28) := by rw [hH2]; exact push2_two
  have s2 : H2.size = H1.size + 2 := by rw [hH2]; exact push2_size
  clear hH2 G2
  -- Every, to the call of searchWrong
  obtain ⟨mu3, G3⟩ := every_head A hA (n : Int) 20 #[] #[.pointer (some ⟨H1.size + 1, 0, none⟩)] _ H2 W.os W.output w2 I2
  obtain ⟨N3, gs3, w3, sl3, t3, q3, g3, r3, z3, i3, ⟨rfl, I3⟩, Q3⟩ := beside_walk (sl := sl2) (fun _ _ _ h => h) (fun g w h => by rw [h.1]; rfl) i2 G3 Q2
  obtain ⟨H3, hH3⟩ : ∃ H3, H3 = (H2.push (.cells A 27)).push (.cells #[.func (.func 20) #[] #[.pointer (some ⟨H1.size + 1, 0, none⟩)]] 58) := ⟨_, rfl⟩
  rw [← hH3] at I3
  have o3 : ∀ b, b < H2.size → H3[b]? = H2[b]? := fun b hb => by rw [hH3]; exact push2_old hb
  have d3 : H3[H2.size]? = some (.cells A 27) := by rw [hH3]; exact push2_one
  have e3 : H3[H2.size + 1]? = some (.cells #[.func (.func 20) #[] #[.pointer (some ⟨H1.size + 1, 0, none⟩)]] 58) := by rw [hH3]; exact push2_two
  have s3 : H3.size = H2.size + 2 := by rw [hH3]; exact push2_size
  clear hH3 G3
  have hag3 : ∀ b, b < W.heap.size → w3.heap[b]? = W.heap[b]? := fun b hb => by
    rw [I3.1, o3 b (by omega), o2 b (by omega), o1 b hb]
  -- searchWrong
  obtain ⟨E1, wl1, a', b', c', p1, c1, ra', rb', rc', hm1⟩ := cp_mac (Cp.nil (P := Try.prog) w3) no_type (whr_ag hag3 ha) (nums_ag hag3 hb) (nums_ag hag3 hc) (rt_ag hag3 ra) (rt_ag hag3 rb) (rt_ag hag3 rc)
  have hin : ∀ cs, InCall Try.prog (fun v _ => v = .int .i64 0) cs E1 (G (Frame.enter Try.prog 48 #[.agg (mac a' b' c' g.rf g.pl), .int .i64 (n : Nat)] .normal) [trap Try.prog]) wl1 (G (Frame.enter Try.prog 48 #[.agg A, .int .i64 (n : Nat)] .normal) cs) w3 := fun cs => InCall.start (c := cs) fd_fnsCode (f := 48) (by kernel_rfl) (x := #[.agg (mac a' b' c' g.rf g.pl), .int .i64 (n : Nat)]) (y := #[.agg A, .int .i64 (n : Nat)]) (lr_cons (.mkAgg (by rw [hA0]; exact lr_mac ra' rb' rc')) (lr_cons (.int _ _) lr_nil)) p1.wr p1.big (fun τ => by
    refine (psw_any _ g (n : Int) (wl1.tp τ) hm1).mono ?_
    rintro e w' ⟨rfl, _⟩
    exact ⟨_, rfl, by rw [hE]⟩)
  obtain ⟨N4, gs4, w4, sl4, t4, q4, E4, v, v', wl4, r4, z4, i4, p4, vr, _, fc4, Q4⟩ := beside_call (sl := sl3) hG fd_fnsCode i3 (hin _) Q3
  subst p4
  cases vr
  have k4 : ∀ b, b < H3.size → w4.heap[b]? = H3[b]? := fun b hb => by
    rw [← I3.1]
    exact fc4.keep b (by rw [I3.1]; exact hb) (fun b' s e => by have := p1.sh _ _ _ _ e; cases this)
  have s4 : H3.size ≤ w4.heap.size := by have := fc4.size; rw [I3.1] at this; exact this
  have I4 : HI w4.heap W.os W.output w4 := ⟨rfl, fc4.os.trans I3.2.1, fc4.output.trans I3.2.2⟩
  have e4 : w4.heap[H2.size + 1]? = some (.cells #[.func (.func 20) #[] #[.pointer (some ⟨H1.size + 1, 0, none⟩)]] 58 (0, 0)) := by rw [k4 _ (by omega)]; exact e3
  have hag4 : ∀ b, b < W.heap.size → w4.heap[b]? = W.heap[b]? := fun b hb => by
    rw [k4 b (by omega), o3 b (by omega), o2 b (by omega), o1 b hb]
  -- Every, on to its first 'go'
  obtain ⟨mu5, G5⟩ := every_a A n 20 #[] #[.pointer (some ⟨H1.size + 1, 0, none⟩)] H2.size (H2.size + 1) _ w4.heap W.os W.output w4 I4 e4
  obtain ⟨N5, gs5, w5, sl5, t5, q5, g5, r5, z5, i5, ⟨rfl, I5⟩, Q5⟩ := beside_walk (sl := sl4) (fun _ _ _ h => h) (fun g w h => by rw [h.1]; rfl) i4 G5 Q4
  obtain ⟨Fd, hFd⟩ : ∃ Fd, Fd = w4.heap.size := ⟨_, rfl⟩
  have F5 : QtF (fun x => ∀ ad, x.loc = .cell ad → ad.block ≠ Fd) Try.prog gs5 t5 q5 w5.heap.size := ⟨Q5, fun j x hx ad e => by
    have h1 := Q5.low j x hx
    rw [e] at h1
    have h2 : ad.block < w5.heap.size := h1
    rw [I5.1] at h2
    omega⟩
  obtain ⟨mu6, G6⟩ := every_a2 Fd A n 20 #[] #[.pointer (some ⟨H1.size + 1, 0, none⟩)] H2.size (H2.size + 1) _ w4.heap W.os W.output w5 I5
  obtain ⟨N6, gs6, w6, sl6, t6, q6, g6, r6, z6, i6, ⟨rfl, I6⟩, F6⟩ := beside_walk_f (sl := sl5) (fun _ _ _ h => h) (fun g w h => by rw [h.1]; rfl) i5 G6 F5
  rw [← hFd] at i6
  obtain ⟨H6, hH6⟩ : ∃ H6, H6 = w4.heap.push (.cells (tab 26 fun _ => .slice none 0 0) 94) := ⟨_, rfl⟩
  rw [← hH6] at I6
  have o6 : ∀ b, b < Fd → H6[b]? = w4.heap[b]? := fun b hb => by rw [hH6, Array.getElem?_push, if_neg (by omega)]
  have d6 : H6[Fd]? = some (.cells (tab 26 fun _ => .slice none 0 0) 94) := by rw [hH6, Array.getElem?_push, if_pos hFd]
  have s6 : H6.size = Fd + 1 := by rw [hH6, Array.size_push]; omega
  clear hH6
  have Z6 : Z7 H6 W.os W.output w6 := ⟨fun b _ => by rw [I6.1], by rw [I6.1]; exact Nat.le_refl _, I6.2.1, I6.2.2⟩
  obtain ⟨mu7, G7⟩ := every_b (n := n) (bM := H2.size) (bL := H2.size + 1) (Fd := Fd) (by omega) Z6 _
  obtain ⟨N7, gs7, w7, sl7, t7, q7, g7, r7, z7, i7, hst7, F7⟩ := beside_walk_f (sl := sl6) (fun _ _ _ h => h) (fun g w h => by obtain ⟨_, _, _, _, _, _, _, _, _, _, _, _, _, _, _, _, _, _, _, _, _, _, _, _, _, _, _, _, _, _, _, _, _, _, _, _, _, _, _, _, _, _, _, _, _, _, _, _, _, e, _⟩ := h; rw [e]; rfl) i6 G7 F6
  obtain ⟨C1, C2, bF, bD, u0, u2, u4, u6, u7, u8, u12, u13, u14, u15, u16, u17, u18, u19, u20, u21, u22, u23, u26, u27, u28, u29, u30, u31, u32, u33, u34, u35, u36, u37, u38, u39, u40, u41, u42, u43, u44, u45, u46, u47, u48, u49, u50, u51, u52, rfl, Z7', zc1, zc2, hcc, zb1, zb2⟩ := hst7
  obtain ⟨mu8, G8⟩ := every_c (n := n) (bM := H2.size) (bL := H2.size + 1) (Fd := Fd) (C1 := C1) (C2 := C2) (bF := bF) (bD := bD) (H := w7.heap) (w := w7) ⟨rfl, Z7'.os, Z7'.output⟩ (by omega) _
  obtain ⟨N8, gs8, w8, sl8, t8, q8, g8, r8, z8, i8, ⟨hrun8, hgo8, I8⟩, F8⟩ := beside_walk_f (sl := sl7) (fun _ _ _ h => h) (fun g w h => h.1) i7 G8 F7
  have h84 : ∀ b, b < w4.heap.size → w8.heap[b]? = w4.heap[b]? := fun b hb => by
    rw [I8.1, Z7'.old b (by omega), o6 b (by omega)]
  refine ⟨N1 + (N2 + (N3 + (N4 + (N5 + (N6 + (N7 + N8)))))), gs8, w4, w8, sl8, t8, q8, g8, H1.size, H2.size, Fd, C1, C2, bF, bD, ?_, by rw [z8, z7, z6, z5, z4, z3, z2, z1]; rfl, i8, hrun8, hgo8, F8, ?_⟩
  · rw [runNT_add, show runNT Try.prog N1 (crowd #[G ((base 3).at ⟨#[.agg A, .agg B, .int .i64 (n : Int), undef, undef, undef, undef, undef, undef, undef, undef, undef, undef, undef, undef, undef, undef, undef, undef, undef, undef, undef, undef, undef, undef, undef, undef, undef, undef, undef, undef, undef, undef], []⟩ [.code lB]) []] W none) #[] = (.next (crowd gs1 w1 sl1), t1) from r1]
    show runNT Try.prog (N2 + (N3 + (N4 + (N5 + (N6 + (N7 + N8)))))) (crowd gs1 w1 sl1) t1 = _
    rw [runNT_add, r2]
    show runNT Try.prog (N3 + (N4 + (N5 + (N6 + (N7 + N8))))) (crowd gs2 w2 sl2) t2 = _
    rw [runNT_add, r3]
    show runNT Try.prog (N4 + (N5 + (N6 + (N7 + N8)))) (crowd gs3 w3 sl3) t3 = _
    rw [runNT_add, r4]
    show runNT Try.prog (N5 + (N6 + (N7 + N8))) (crowd gs4 w4 sl4) t4 = _
    rw [runNT_add, r5]
    show runNT Try.prog (N6 + (N7 + N8)) (crowd gs5 w5 sl5) t5 = _
    rw [runNT_add, r6]
    show runNT Try.prog (N7 + N8) (crowd gs6 w6 sl6) t6 = _
    rw [runNT_add, r7]
    exact r8
  · exact ⟨hag4, by rw [k4 _ (by omega), o3 _ (by omega)]; exact e2, by rw [k4 _ (by omega), o3 _ (by omega), o2 _ (by omega)]; exact d1, by rw [k4 _ (by omega), o3 _ (by omega), o2 _ (by omega)]; exact e1, by rw [k4 _ (by omega)]; exact d3, e4, hFd, h84, by rw [I8.1, Z7'.old Fd (by omega)]; exact d6, ⟨by have := zc1.1; omega, by rw [I8.1]; exact zc1.2⟩, ⟨by have := zc2.1; omega, by rw [I8.1]; exact zc2.2⟩, hcc, ⟨by have := zb1.1; omega, by rw [I8.1]; exact zb1.2⟩, ⟨by have := zb2.1; omega, by rw [I8.1]; exact zb2.2⟩, I8.2.1, I8.2.2⟩
end Go.Proofs.Ythfjkhmedpilnaa
