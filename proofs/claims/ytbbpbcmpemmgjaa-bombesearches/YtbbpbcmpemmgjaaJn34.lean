/-
  Several texts, joined: FgI, FdK, FdM, FdN, FdO, FdP, FdQ, FdR, FdS, BoTe, BRSc.
-/
import Derived.Test.YtbbpbcmpemmgjaaFgH
import Derived.Test.YtbbpbcmpemmgjaaJn15
import Derived.Test.YtbbpbcmpemmgjaaJn26
import Derived.Conc.CompanyDraw
import Derived.Test.YtbbpbcmpemmgjaaJn32
import Derived.Test.YtbbpbcmpemmgjaaJn31
import Derived.Test.YtbbpbcmpemmgjaaBoFo
import Derived.Test.YtbbpbcmpemmgjaaJn20
/-
  chart.Every of halts beside goroutines that only leave: to its first 'go'.
-/
namespace Go.Proofs.Ytbbpbcmpemmgjaa
open Go.RowKit PK Vg Go.Conc Cs
theorem hpush2_old {H : Array Obj} {x y : Obj} {b : Nat} (h : b < H.size) : ((H.push x).push y)[b]? = H[b]? := by
  rw [Array.getElem?_push, if_neg (by simp; omega), Array.getElem?_push, if_neg (by omega)]
theorem hpush2_one {H : Array Obj} {x y : Obj} : ((H.push x).push y)[H.size]? = some x := by
  rw [Array.getElem?_push, if_neg (by simp), Array.getElem?_push, if_pos rfl]
theorem hpush2_two {H : Array Obj} {x y : Obj} : ((H.push x).push y)[H.size + 1]? = some y := by
  rw [Array.getElem?_push, if_pos (by simp)]
theorem hpush2_size {H : Array Obj} {x y : Obj} : ((H.push x).push y).size = H.size + 2 := by simp
/-- What stands there at the first 'go'. -/
structure AtH (A : Array Value) (vl : Value) (W w4 w8 : World) (Fd C1 C2 bF bD : Nat) : Prop where
  old4 : ∀ b, b < W.heap.size → w4.heap[b]? = W.heap[b]?
  lM : w4.heap[W.heap.size]? = some (.cells A 27 (0, 0))
  lL : w4.heap[W.heap.size + 1]? = some (.cells #[vl] 79 (0, 0))
  fd : Fd = w4.heap.size
  h84 : ∀ b, b < w4.heap.size → w8.heap[b]? = w4.heap[b]?
  row : w8.heap[Fd]? = some (.cells (tab 26 fun _ => .slice none 0 0) 116 (0, 0))
  c1 : Fd < C1 ∧ w8.heap[C1]? = some (.chan 0 #[] false 0 0 false)
  c2 : Fd < C2 ∧ w8.heap[C2]? = some (.chan 0 #[] false 0 0 false)
  ne : C1 ≠ C2
  bf : Fd < bF ∧ w8.heap[bF]? = some (.cells #[.chan (some C1)] 95 (0, 0))
  bd : Fd < bD ∧ w8.heap[bD]? = some (.cells #[.chan (some C2)] 96 (0, 0))
  env : w8.os = W.os ∧ w8.output = W.output
set_option maxRecDepth 100000 in
set_option maxHeartbeats 8000000 in
theorem every_to_goH (a b c : Value) (g : Gm) (n : Nat) (hE : swE g (n : Int) = 0) (f : FuncId) (c1 c2 : Array Value) (W : World) (ha : WhR W a g.n g.wi g.nl g.no) (hb : NumsAt W b g.rl g.ri) (hc : NumsAt W c g.sl g.st) (ra : Rt W a) (rb : Rt W b) (rc : Rt W c) (A : Array Value) (hA0 : A = mac a b c g.rf g.pl) (cs : List Frame) {gs : Array Goroutine} {t : Trace} {q : Nat → Nat} (i2 : gs[0]? = some (G ((base 32).at ⟨#[.agg A, .int .i64 (n : Nat), .func (.func f) c1 c2, undef, undef, undef, undef, undef, undef, undef, undef, undef, undef, undef, undef, undef, undef, undef, undef, undef, undef, undef, undef, undef, undef, undef, undef, undef, undef, undef, undef, undef, undef, undef, undef, undef, undef, undef, undef, undef, undef, undef, undef, undef, undef, undef, undef, undef, undef, undef, undef, undef, undef], []⟩ [.code Hb.eBody]) cs)) (Q2 : Qt Try.prog gs t q W.heap.size) (sl2 : Option (Nat × Nat)) :
    ∃ N gs' w4 w8 sl' t' q' g8 Fd C1 C2 bF bD, runNT Try.prog N (crowd gs W sl2) t = (.next (crowd gs' w8 sl'), t') ∧ gs'.size = gs.size ∧ gs'[0]? = some g8 ∧ g8.status = .running ∧ (∀ c : Cst, c.Fd = Fd → Hb.eGoP c bF W.heap.size (W.heap.size + 1) bD n cs 0 g8) ∧ QtF (fun x => ∀ ad, x.loc = .cell ad → ad.block ≠ Fd) Try.prog gs' t' q' w8.heap.size ∧ AtH A (.func (.func f) c1 c2) W w4 w8 Fd C1 C2 bF bD := by
  obtain ⟨_, _, hh1, hh2⟩ := swE_zero hE
  have hG : Try.prog.globals.size ≤ Fns.G := Nat.le_refl _
  have hA : A.size = 55 := by rw [hA0]; exact mac_size ..
  have I2 : HI W.heap W.os W.output W := ⟨rfl, rfl, rfl⟩
  -- to the call of searchWrong
  obtain ⟨mu3, G3⟩ := Hb.every_head A hA (n : Int) f c1 c2 cs W.heap W.os W.output W I2
  obtain ⟨N3, gs3, w3, sl3, t3, q3, g3, r3, z3, i3, ⟨rfl, I3⟩, Q3⟩ := beside_walk (sl := sl2) (fun _ _ _ h => h) (fun g w h => by rw [h.1]; rfl) i2 G3 Q2
  obtain ⟨H3, hH3⟩ : ∃ H3, H3 = (W.heap.push (.cells A 27)).push (.cells #[.func (.func f) c1 c2] 79) := ⟨_, rfl⟩
  rw [← hH3] at I3
  have o3 : ∀ b, b < W.heap.size → H3[b]? = W.heap[b]? := fun b hb => by rw [hH3]; exact hpush2_old hb
  have d3 : H3[W.heap.size]? = some (.cells A 27) := by rw [hH3]; exact hpush2_one
  have e3 : H3[W.heap.size + 1]? = some (.cells #[.func (.func f) c1 c2] 79) := by rw [hH3]; exact hpush2_two
  have s3 : H3.size = W.heap.size + 2 := by rw [hH3]; exact hpush2_size
  clear hH3 G3
  have hag3 : ∀ b, b < W.heap.size → w3.heap[b]? = W.heap[b]? := fun b hb => by
    rw [I3.1, o3 b hb]
  -- searchWrong
  obtain ⟨E1, wl1, a', b', c', p1, cc1, ra', rb', rc', hm1⟩ := cp_mac (Cp.nil (P := Try.prog) w3) no_type (whr_ag hag3 ha) (nums_ag hag3 hb) (nums_ag hag3 hc) (rt_ag hag3 ra) (rt_ag hag3 rb) (rt_ag hag3 rc)
  have hin : ∀ cs, InCall Try.prog (fun v _ => v = .int .i64 0) cs E1 (G (Frame.enter Try.prog 48 #[.agg (mac a' b' c' g.rf g.pl), .int .i64 (n : Nat)] .normal) [trap Try.prog]) wl1 (G (Frame.enter Try.prog 48 #[.agg A, .int .i64 (n : Nat)] .normal) cs) w3 := fun cs => InCall.start (c := cs) fd_fnsCode (f := 48) (by kernel_rfl) (x := #[.agg (mac a' b' c' g.rf g.pl), .int .i64 (n : Nat)]) (y := #[.agg A, .int .i64 (n : Nat)]) (lr_cons (.mkAgg (by rw [hA0]; exact lr_mac ra' rb' rc')) (lr_cons (.int _ _) lr_nil)) p1.wr p1.big (fun τ => by
    refine (psw_any _ g (n : Int) (wl1.tp τ) hm1).mono ?_
    rintro e w' ⟨rfl, _⟩
    exact ⟨_, rfl, by rw [hE]⟩)
  obtain ⟨N4, gs4, w4, sl4, t4, q4, E4, v, v', wl4, r4, z4, i4, p4, vr, _, fc4, Q4⟩ := beside_call (sl := sl3) hG fd_fnsCode i3 (hin _) Q3
  subst p4
  cases vr
  have k4 : ∀ b, b < H3.size → w4.heap[b]? = H3[b]? := fun b hb => by
    rw [← I3.1]
    exact fc4.keep b (by rw [I3.1]; exact hb) (fun b' s e => by have := p1.sh _ _ _ _ e; cases this)
  have s4 : H3.size ≤ w4.heap.size := by have := fc4.size; rw [I3.1] at this; exact this
  have I4 : HI w4.heap W.os W.output w4 := ⟨rfl, fc4.os.trans I3.2.1, fc4.output.trans I3.2.2⟩
  have e4 : w4.heap[W.heap.size + 1]? = some (.cells #[.func (.func f) c1 c2] 79 (0, 0)) := by rw [k4 _ (by omega)]; exact e3
  have hag4 : ∀ b, b < W.heap.size → w4.heap[b]? = W.heap[b]? := fun b hb => by
    rw [k4 b (by omega), o3 b hb]
  -- on to the first 'go'
  obtain ⟨mu5, G5⟩ := Hb.every_a A n f c1 c2 W.heap.size (W.heap.size + 1) cs w4.heap W.os W.output w4 I4 e4
  obtain ⟨N5, gs5, w5, sl5, t5, q5, g5, r5, z5, i5, ⟨rfl, I5⟩, Q5⟩ := beside_walk (sl := sl4) (fun _ _ _ h => h) (fun g w h => by rw [h.1]; rfl) i4 G5 Q4
  obtain ⟨Fd, hFd⟩ : ∃ Fd, Fd = w4.heap.size := ⟨_, rfl⟩
  have F5 : QtF (fun x => ∀ ad, x.loc = .cell ad → ad.block ≠ Fd) Try.prog gs5 t5 q5 w5.heap.size := ⟨Q5, fun j x hx ad e => by
    have h1 := Q5.low j x hx
    rw [e] at h1
    have h2 : ad.block < w5.heap.size := h1
    rw [I5.1] at h2
    omega⟩
  obtain ⟨mu6, G6⟩ := Hb.every_a2 Fd A n f c1 c2 W.heap.size (W.heap.size + 1) cs w4.heap W.os W.output w5 I5
  obtain ⟨N6, gs6, w6, sl6, t6, q6, g6, r6, z6, i6, ⟨rfl, I6⟩, F6⟩ := beside_walk_f (sl := sl5) (fun _ _ _ h => h) (fun g w h => by rw [h.1]; rfl) i5 G6 F5
  rw [← hFd] at i6
  obtain ⟨H6, hH6⟩ : ∃ H6, H6 = w4.heap.push (.cells (tab 26 fun _ => .slice none 0 0) 116) := ⟨_, rfl⟩
  rw [← hH6] at I6
  have o6 : ∀ b, b < Fd → H6[b]? = w4.heap[b]? := fun b hb => by rw [hH6, Array.getElem?_push, if_neg (by omega)]
  have d6 : H6[Fd]? = some (.cells (tab 26 fun _ => .slice none 0 0) 116) := by rw [hH6, Array.getElem?_push, if_pos hFd]
  have s6 : H6.size = Fd + 1 := by rw [hH6, Array.size_push]; omega
  clear hH6
  have Z6 : Hb.Z7 H6 W.os W.output w6 := ⟨fun b _ => by rw [I6.1], by rw [I6.1]; exact Nat.le_refl _, I6.2.1, I6.2.2⟩
  obtain ⟨mu7, G7⟩ := Hb.every_b (n := n) (bM := W.heap.size) (bL := W.heap.size + 1) (Fd := Fd) (by omega) Z6 _
  obtain ⟨N7, gs7, w7, sl7, t7, q7, g7, r7, z7, i7, hst7, F7⟩ := beside_walk_f (sl := sl6) (fun _ _ _ h => h) (fun g w h => by obtain ⟨_, _, _, _, _, _, _, _, _, _, _, _, _, _, _, _, _, _, _, _, _, _, _, _, _, _, _, _, _, _, _, _, _, _, _, _, _, _, _, _, _, _, _, _, _, _, _, _, _, e, _⟩ := h; rw [e]; rfl) i6 G7 F6
  obtain ⟨C1, C2, bF, bD, u0, u2, u4, u6, u7, u8, u12, u13, u14, u15, u16, u17, u18, u19, u20, u21, u22, u23, u26, u27, u28, u29, u30, u31, u32, u33, u34, u35, u36, u37, u38, u39, u40, u41, u42, u43, u44, u45, u46, u47, u48, u49, u50, u51, u52, rfl, Z7', zc1, zc2, hcc, zb1, zb2⟩ := hst7
  obtain ⟨mu8, G8⟩ := Hb.every_c (n := n) (bM := W.heap.size) (bL := W.heap.size + 1) (Fd := Fd) (C1 := C1) (C2 := C2) (bF := bF) (bD := bD) (H := w7.heap) (w := w7) ⟨rfl, Z7'.os, Z7'.output⟩ (by omega) _
  obtain ⟨N8, gs8, w8, sl8, t8, q8, g8, r8, z8, i8, ⟨hrun8, hgo8, I8⟩, F8⟩ := beside_walk_f (sl := sl7) (fun _ _ _ h => h) (fun g w h => h.1) i7 G8 F7
  have h84 : ∀ b, b < w4.heap.size → w8.heap[b]? = w4.heap[b]? := fun b hb => by
    rw [I8.1, Z7'.old b (by omega), o6 b (by omega)]
  refine ⟨N3 + (N4 + (N5 + (N6 + (N7 + N8)))), gs8, w4, w8, sl8, t8, q8, g8, Fd, C1, C2, bF, bD, ?_, by rw [z8, z7, z6, z5, z4, z3], i8, hrun8, hgo8, F8, ?_⟩
  · rw [runNT_add, r3]
    show runNT Try.prog (N4 + (N5 + (N6 + (N7 + N8)))) (crowd gs3 w3 sl3) t3 = _
    rw [runNT_add, r4]
    show runNT Try.prog (N5 + (N6 + (N7 + N8))) (crowd gs4 w4 sl4) t4 = _
    rw [runNT_add, r5]
    show runNT Try.prog (N6 + (N7 + N8)) (crowd gs5 w5 sl5) t5 = _
    rw [runNT_add, r6]
    show runNT Try.prog (N7 + N8) (crowd gs6 w6 sl6) t6 = _
    rw [runNT_add, r7]
    exact r8
  · exact ⟨hag4, by rw [k4 _ (by omega)]; exact d3, e4, hFd, h84, by rw [I8.1, Z7'.old Fd (by omega)]; exact d6, ⟨by have := zc1.1; omega, by rw [I8.1]; exact zc1.2⟩, ⟨by have := zc2.1; omega, by rw [I8.1]; exact zc2.2⟩, hcc, ⟨by have := zb1.1; omega, by rw [I8.1]; exact zb1.2⟩, ⟨by have := zb2.1; omega, by rw [I8.1]; exact zb2.2⟩, I8.2.1, I8.2.2⟩
end Go.Proofs.Ytbbpbcmpemmgjaa

/-
  The walk ahead of the pool: the law to the call of Find.
-/
namespace Go.Proofs.Ytbbpbcmpemmgjaa
open Go.RowKit PK Vg Go.Conc Cs
end Go.Proofs.Ytbbpbcmpemmgjaa

/-
  The walk ahead of the pool: Find to the call of Every.
-/
namespace Go.Proofs.Ytbbpbcmpemmgjaa
open Go.RowKit PK Vg Go.Conc Cs
end Go.Proofs.Ytbbpbcmpemmgjaa

/-
  The walk ahead of the pool: Every to the call of searchWrong.
-/
namespace Go.Proofs.Ytbbpbcmpemmgjaa
open Go.RowKit PK Vg Go.Conc Cs
end Go.Proofs.Ytbbpbcmpemmgjaa

/-
  The walk ahead of the pool: Every behind searchWrong, to where it makes its channels.
-/
namespace Go.Proofs.Ytbbpbcmpemmgjaa
open Go.RowKit PK Vg Go.Conc Cs
end Go.Proofs.Ytbbpbcmpemmgjaa

/-
  The walk ahead of the pool: Every's channels and their variables, made in any order; on to the first 'go'.
-/
namespace Go.Proofs.Ytbbpbcmpemmgjaa
open Go.RowKit PK Vg Go.Conc Cs
section
variable {H : Array Obj} {o : Os} {out : Array (Nat × ByteArray)} {W : World}
theorem heap_lt {b : Nat} {x : Obj} (h : W.heap[b]? = some x) : b < W.heap.size := (Array.getElem?_eq_some_iff.1 h).1
end
section
variable {n bM bL Fd : Nat} {p q r s v0 v2 v4 v6 v7 v8 v12 v13 v14 v15 v16 v17 v18 v19 v20 v21 v22 v23 v26 v27 v28 v29 v30 v31 v32 v33 v34 v35 v36 v37 v38 v39 v40 v41 v42 v43 v44 v45 v46 v47 v48 v49 v50 v51 v52 : Value} {W : World} {K : Act → World → Prop}
end
section
variable {H : Array Obj} {o : Os} {out : Array (Nat × ByteArray)} {n bM bL Fd : Nat} {p q r s v0 v2 v4 v6 v7 v8 v12 v13 v14 v15 v16 v17 v18 v19 v20 v21 v22 v23 v26 v27 v28 v29 v30 v31 v32 v33 v34 v35 v36 v37 v38 v39 v40 v41 v42 v43 v44 v45 v46 v47 v48 v49 v50 v51 v52 : Value} {W : World}
end
end Go.Proofs.Ytbbpbcmpemmgjaa

/-
  The walk ahead of the pool: the channels, and on to the first 'go'.
-/
namespace Go.Proofs.Ytbbpbcmpemmgjaa
open Go.RowKit PK Vg Go.Conc Cs
end Go.Proofs.Ytbbpbcmpemmgjaa

/-
  The run of ChartFinds, where nothing is wrong with what is searched: from its start to its end.
-/
namespace Go.Proofs.Ytbbpbcmpemmgjaa
open Go.RowKit PK Vg Go.Conc Cs
theorem ev_load {w : World} {a : Addr} {u : Value} {es : Array Event} (hu : w.cell? a = some u) : ∀ ev ∈ (load a).events Try.prog w es, ev ∈ es ∨ ev = ⟨.cell a, false, false⟩ := fun ev h => by
  have h1 : ev ∈ es ∨ ev = ⟨.cell a, false, Mode.plain == Mode.atomic⟩ := by simpa [go_sem, hu] using h
  exact h1
theorem ev_cells (a : Addr) : ∀ (n i : Nat) (acc : Array Value) (w : World) (es : Array Event), (∀ j, j < n → (w.cell? (a.add (i + j))).isSome) → ∀ ev ∈ (loadCellsFrom a i n acc).events Try.prog w es, ev ∈ es ∨ ∃ ad : Addr, ev = ⟨.cell ad, false, false⟩ ∧ ad.block = a.block
  | 0, _, _, _, _, _ => fun ev h => .inl (by simpa [loadCellsFrom] using h)
  | n + 1, i, acc, w, es, hc => fun ev h => by
    simp only [loadCellsFrom, Sem.events_bind] at h
    obtain ⟨u, hu⟩ := Option.isSome_iff_exists.1 (hc 0 (by omega))
    simp only [Nat.add_zero] at hu
    have hr : (load (a.add i)).run Try.prog w = .ok u w := by simp [hu]
    rw [hr] at h
    rcases ev_cells a n (i + 1) (acc.push u) w _ (fun j hj => by have := hc (j + 1) (by omega); rwa [show i + (j + 1) = i + 1 + j by omega] at this) ev h with h | h
    · rcases ev_load hu ev h with h | h
      · exact .inl h
      · exact .inr ⟨_, h, by unfold Addr.add; split <;> rfl⟩
    · exact .inr h
theorem ev_rowX {W : World} {b : Nat} {T : TypeId} {A : Array Value} {TB : TypeId} {fr : Nat × Nat} {d : TypeDesc} (hW : W.heap[b]? = some (.cells A TB fr)) (hu : Try.prog.underlying T = some d) (hd : d.isRow = true) (hi : (Try.prog.info? T).map (·.size) = some A.size) :
    ∀ e ∈ (Instr.loadAt T (.pointer (some ⟨b, 0, none⟩))).events Try.prog W #[], ∃ a : Addr, e = ⟨.cell a, false, false⟩ ∧ a.block = b := fun e he => by
  obtain ⟨i, hi1, hi2⟩ := Option.map_eq_some_iff.1 hi
  have hc := ev_cells ⟨b, 0, none⟩ A.size 0 #[] W #[] (fun j hj => by
    rw [Addr.add_lit, cell_of_row _ _ _ _ _ _ hW]
    simp [hj])
  cases d with
  | struct fs =>
    simp [Instr.loadAt, Instr.sureAddr, loadVar, isAgg, go_sem, underlying, sizeOf, typeInfo, loadCells, hu, hi1, hi2] at he
    rcases hc e he with h | h
    · simp at h
    · exact h
  | array n el =>
    simp [Instr.loadAt, Instr.sureAddr, loadVar, isAgg, go_sem, underlying, sizeOf, typeInfo, loadCells, hu, hi1, hi2] at he
    rcases hc e he with h | h
    · simp at h
    · exact h
  | _ => cases hd
/-- What is said of the world behind the run. -/
def Kept (W W' : World) : Prop := (∀ b, b < W.heap.size → W'.heap[b]? = W.heap[b]?) ∧ W'.os = W.os ∧ W'.output = W.output
end Go.Proofs.Ytbbpbcmpemmgjaa

/-
  The run of ChartFinds, where nothing is wrong with what is searched: from its first 'go' to its end.
-/
namespace Go.Proofs.Ytbbpbcmpemmgjaa
open Go.RowKit PK Vg Go.Conc Cs
section
variable {A B : Array Value} {n : Nat} {W w4 w8 : World} {h1 h2 Fd C1 C2 bF bD : Nat}
theorem one_cell {w : World} {q : Nat} {x : Value} {T : TypeId} (hq : w.heap[q]? = some (.cells #[x] T (0, 0))) : w.cell? ⟨q, 0, none⟩ = some x := by rw [cell_of_row _ _ _ _ _ _ hq]; rfl
end
end Go.Proofs.Ytbbpbcmpemmgjaa

/-
  Contract of bombe.Test.
-/
namespace Go.Proofs.Ytbbpbcmpemmgjaa
open Go.RowKit PK Vg

end Go.Proofs.Ytbbpbcmpemmgjaa

/-
  Contract of the document's Scramblers (chapter 10).
-/
namespace Go.Proofs.Ytbbpbcmpemmgjaa
open Go.RowKit PK Vg

theorem flat_snoc (S : Nat → Nat → Nat) (j : Nat) : (ints (j * 26) (flat S)).toList ++ (ints 26 (Pm.up (S j))).toList = (ints ((j + 1) * 26) (flat S)).toList := by
  rw [← Array.toList_append]
  refine congrArg Array.toList ?_
  apply Array.ext_getElem?
  intro i
  by_cases h1 : i < j * 26
  · rw [Array.getElem?_append_left (by rw [ints_size]; exact h1), ints_get _ h1, ints_get _ (by omega)]
  · rw [Array.getElem?_append_right (by rw [ints_size]; omega), ints_size]
    by_cases h2 : i < (j + 1) * 26
    · rw [ints_get _ (by omega), ints_get _ h2]
      unfold flat Pm.up
      rw [show i / 26 = j by omega, show i % 26 = i - j * 26 by omega]
    · rw [Array.getElem?_eq_none (by rw [ints_size]; omega), Array.getElem?_eq_none (by rw [ints_size]; omega)]
theorem keys_of_own {W : World} {B k : Nat} {v : Value} {S : Nat → Nat → Nat} (h : W.ownsRow B 25 26 v k (ints (k * 26) (flat S)).toList) (hk : k ≠ 0) : KeysAt W v k S := by
  rcases h.2 with ⟨_, h0⟩ | ⟨g, cap, cur, rfl, hB, hg, hnc, hcm, hcs, htake⟩
  · exact absurd h0 hk
  · refine ⟨g, cap, rfl, fun i c hi hc => ?_⟩
    refine RowAt.cell (w := W) (b := g) (T := 25) hg ?_
    have h2 : (ints (k * 26) (flat S)).toList[i * 26 + c]? = some (.int .i64 (S i c : Nat)) := by
      rw [Array.getElem?_toList, ints_get _ (by omega)]
      unfold flat
      rw [show (i * 26 + c) / 26 = i by omega, show (i * 26 + c) % 26 = c by omega]
    rw [← htake, List.getElem?_take_of_lt (by omega)] at h2
    simpa using h2
/-- What Scramblers holds. -/
structure ScS (w W : World) (a b c v : Value) (rf pl : Nat → Int) (j : Nat) (S : Nat → Nat → Nat) : Prop where
  mg : MgAt w W a b c rf pl
  own : W.ownsRow (w.heap.size + 1) 25 26 v j (ints (j * 26) (flat S)).toList
set_option maxRecDepth 100000 in
set_option maxHeartbeats 4000000 in
theorem rscr_run (S : Nat → Nat → Nat) (n : Nat) (hn : n ≤ 65536) (a b c : Value) (rf pl : Nat → Int) (w : World) (HAT : Hid (∀ W (k : Nat) (z : Int), z = ((k + 1 : Nat) : Int) → k < n → Below w.heap.size w W → Calls Try.prog 81 #[.agg (mac a b c rf (Pm.up fun i => i)), .int .i64 z] W fun e w' => e = .returned (.agg (ints 26 (Pm.up (S k)))) ∧ Below W.heap.size W w')) : Calls Try.prog 71 #[.agg (mac a b c rf pl), .int .i64 (n : Nat)] w fun e w' => ∃ v, e = .returned v ∧ w'.ownsRow (w.heap.size + 1) 25 26 v n (ints (n * 26) (flat S)).toList ∧ Below w.heap.size w w' := by
  obtain ⟨i0, hi0, hz0, hz1, hz2⟩ := x_info_parts b_info_perm
  have h0 := MgAt.new w a b c rf pl
  have HS := (show Hid (∀ W, Calls Try.prog 91 #[.int .i64 0] W fun e w' => e = .returned (.agg (ints 26 (Pm.up fun i => i))) ∧ Below W.heap.size W w') from fun W => by
    have := rturned_any 0 (by decide) (by decide) W
    rw [ints_ext (g := Pm.up fun i => i) fun i hi => by show ((i : Int) + 0) % 26 = ((i : Nat) : Int); omega] at this
    exact this)
  go_enter Try.func71, Try.ntmps71
  go_wp2_with fail
  refine (HS.out _).mono ?_
  rintro e W1 ⟨rfl, hb⟩
  have h1 := h0.step hb
  clear hb h0 HS
  have hth := there_row h1.row (o := 29) (n := 26) (by rw [mac_size]; decide)
  go_upto_region 2 with (first | refine wpList_store_mid rfl 25 _ _ rfl w.heap.size 29 (ints 26 (Pm.up fun i => i)) rfl rfl (by rw [ints_size]; exact hth) (by rw [ints_size]; exact info_perm) (ints_one _ _) ?_)
  have h2 : MgAt w (W1.setCells w.heap.size 29 (ints 26 (Pm.up fun i => i)).toList) a b c rf (Pm.up fun i => i) := by
    refine ⟨?_, below_setCells (Nat.le_refl _) h1.below⟩
    have := row_setCells (l := (ints 26 (Pm.up fun i => i)).toList) (o := 29) h1.row
    rw [mac_plugs] at this
    exact this
  generalize W1.setCells w.heap.size 29 (ints 26 (Pm.up fun i => i)).toList = V1 at *
  clear h1 hth
  go_wp2_with fail
  go_loopw [5, 6] (fun o i W => ∃ (j : Nat) (v : Value), j ≤ n ∧ i = .int .i64 ((j : Int) + 1) ∧ v = o ∧ ScS w W a b c v rf (Pm.up fun i => i) j S) (fun _ i _ => ((n : Int) + 1 - intOf i).toNat)
  case atStart => exact ⟨0, _, by omega, rfl, rfl, h2, World.ownsRow_nil _ _ _ _⟩
  case round =>
    clear h2
    obtain ⟨j, v, hj, rfl, rfl, hg⟩ := hrel
    by_cases hlt : j < n
    · have HLT : Hid (j < n) := hlt
      have hlt2 : (j : Int) + 1 ≤ (n : Int) := by omega
      have hmr := hg.mg.row
      have HG := (show Hid _ from hg)
      clear hg hlt
      go_wp2_with (first | refine wpList_load_row rfl 27 _ rfl w.heap.size rfl 27 (mac a b c rf (Pm.up fun i => i)) (0, 0) _ hmr Try.underlying27 rfl (by rw [mac_size]; exact v_info_mac) ?_)
      refine (HAT.out _ j _ (by omega) HLT.out HG.out.mg.below).mono ?_
      rintro e X ⟨rfl, hb⟩
      have hmX := HG.out.mg.step hb
      have hown := own_step HG.out.own hb
      have hlX := hmX.lt
      clear hb hmr HG
      go_wp2_with (first | refine wpList_build1 rfl 118 25 _ rfl 26 (Pm.up (S j)) rfl (by decide) Try.underlying118 zero_perm (by decide) ?_ | (at_builtin; refine wpList_append_own _ rfl _ _ 118 rfl (w.heap.size + 1) 25 i0 (.agg (ints 26 fun _ => 0)) 26 208 Try.underlying118 hi0 hz0 hz1 hz2 (ints_size _ _) (by decide) _ _ _ rfl (World.ownsRow.alloc hown _) ⟨X.heap.size, 0, none⟩ 1 1 (ints 26 (Pm.up (S j))).toList rfl (by rw [Array.length_toList, ints_size]) (fun q u hu => by rw [Addr.add_mid, Nat.zero_add]; exact (RowAt.new X 25 (ints 26 (Pm.up (S j)))).cell (by rw [← Array.getElem?_toList]; exact hu)) (fun u hu => all_one78 hu) (by unfold maxLen; omega) (by omega) (by simp; omega) ?_; intro v' w5 hown5 hgrow5 _))
      have HNX : Hid (ScS w w5 a b c v' rf (Pm.up fun i => i) (j + 1) S) := by
        have ha := hmX.alloc (.cells (ints 26 (Pm.up (S j))) 25)
        refine ⟨⟨(hgrow5.block w.heap.size (by simp; omega) (fun e => by have := (World.ownsRow.lt hown _ e.symm).1; omega)).trans ha.row, ha.below.grown hgrow5 ha.below.size (fun q hq => by have := (World.ownsRow.lt hown q hq).1; omega)⟩, ?_⟩
        rw [← flat_snoc]
        exact hown5
      go_roundw
      case rel => exact ⟨j + 1, v', HLT.out, by go_num, rfl, HNX.out⟩
      case measure => have := HLT.out; simp [intOf]; omega
    · obtain rfl : j = n := by omega
      have hnn : ¬ (j : Int) + 1 ≤ (j : Int) := by omega
      have HOWN := (show Hid _ from hg.own)
      have HBE := (show Hid _ from hg.mg.below)
      clear hg hlt
      go_wp2
      go_ret
      exact ⟨v, rfl, HOWN.out, HBE.out⟩
theorem rscr_any (vm : Value) (g : Gm) (hg : gE g = 0) (n : Nat) (hn : n ≤ 1000) (w : World) (hm : MacAt w vm g) : Calls Try.prog 71 #[vm, .int .i64 (n : Nat)] w fun e w' => ∃ v, e = .returned v ∧ w'.ownsRow (w.heap.size + 1) 25 26 v n (ints (n * 26) (flat (chE (Om.unplugged (maOf g))))).toList ∧ Below w.heap.size w w' := by
  have hbg := gE_bare hg
  obtain ⟨hM, hgo⟩ := ok_maOf hbg
  obtain ⟨a, b, c, rfl, m1, m2, m3⟩ := hm
  have HA := fun W (hb : Below w.heap.size w W) => hgo W (.agg (mac a b c g.rf (Pm.up fun i => i))) ⟨a, b, c, rfl, m1.below hb, m2.below hb, m3.below hb⟩
  refine rscr_run (chE (Om.unplugged (maOf g))) n (by omega) a b c g.rf g.pl w (fun W k z hz hk hb => ?_)
  subst hz
  exact rat_any (maOf (bare g)) hM _ (k + 1) (by omega) W (HA W hb)
end Go.Proofs.Ytbbpbcmpemmgjaa
