/-
  ChartSearch's own walk between its calls, in company.
-/
import Derived.Test.YthfjkhmedpilnaaFeC
namespace Go.Proofs.Ythfjkhmedpilnaa
open Go.RowKit PK Vg Go.Conc Cs
noncomputable def sB : Code := Try.f4.body.getD .skip
noncomputable def sT1 : Code := match sB with | .seq _ r => r | _ => .skip
noncomputable def sO1 : Array Oper := match sT1 with | .seq (.seq (.region _ o _) _) _ => o | _ => #[]
noncomputable def sC1 : Code := match sT1 with | .seq (.seq _ c) _ => c | _ => .skip
noncomputable def sT3 : Code := match sT1 with | .seq _ r => r | _ => .skip
noncomputable def sO3 : Array Oper := match sT3 with | .seq (.region _ o _) _ => o | _ => #[]
noncomputable def sT4 : Code := match sT3 with | .seq _ r => r | _ => .skip
noncomputable def sO4 : Array Oper := match sT4 with | .seq (.seq (.region _ o _) _) _ => o | _ => #[]
noncomputable def sC4 : Code := match sT4 with | .seq (.seq _ c) _ => c | _ => .skip
noncomputable def sT6 : Code := match sT4 with | .seq _ r => r | _ => .skip
noncomputable def sO6 : Array Oper := match sT6 with | .seq (.region _ o _) _ => o | _ => #[]
noncomputable def sT7 : Code := match sT6 with | .seq _ r => r | _ => .skip
noncomputable def sO7 : Array Oper := match sT7 with | .seq (.region _ o _) _ => o | _ => #[]
noncomputable def sT8 : Code := match sT7 with | .seq _ r => r | _ => .skip
set_option maxRecDepth 100000 in
set_option maxHeartbeats 4000000 in
theorem search_a (A : Array Value) (n k : Nat) (cs : List Frame) (H : Array Obj) (o : Os) (out : Array (Nat × ByteArray)) (w : World) (hI : HI H o out w) : ∃ mu, Goes Try.prog true AtRel DW (fun g w' => g = G (Frame.enter Try.prog 10 #[] .normal) ((base 4).at ⟨#[.agg A, .int .i64 (n : Nat), .int .i64 (k : Nat), .pointer (some ⟨H.size, 0, none⟩), undef, undef, .bool false, undef, undef, undef, undef, undef, undef, undef, undef, undef, undef, undef, undef, undef, undef, undef, undef, undef, undef, undef, undef, undef, undef, undef, undef, undef, undef, undef, undef, undef, undef, undef, undef, undef, undef, undef, undef, undef, undef, undef, undef, undef, undef, undef, undef, undef, undef, undef, undef, undef, undef, undef, undef, undef, undef, undef, undef, undef, undef, undef, undef, undef, undef, undef, undef, undef, undef, undef, undef, undef, undef, undef, undef, undef, undef, undef, undef, undef, undef, undef, undef, undef, undef, undef, undef, undef, undef, undef, undef, undef, undef, undef, undef, undef, undef, undef, undef, undef, undef, undef], []⟩ [.inRegion sO1 (0 :: List.range' 1 1), .code sC1, .code sT3] :: cs) ∧ HI (H.push (.cells A 27)) o out w') mu (G ((base 4).at ⟨#[.agg A, .int .i64 (n : Nat), .int .i64 (k : Nat), undef, undef, undef, undef, undef, undef, undef, undef, undef, undef, undef, undef, undef, undef, undef, undef, undef, undef, undef, undef, undef, undef, undef, undef, undef, undef, undef, undef, undef, undef, undef, undef, undef, undef, undef, undef, undef, undef, undef, undef, undef, undef, undef, undef, undef, undef, undef, undef, undef, undef, undef, undef, undef, undef, undef, undef, undef, undef, undef, undef, undef, undef, undef, undef, undef, undef, undef, undef, undef, undef, undef, undef, undef, undef, undef, undef, undef, undef, undef, undef, undef, undef, undef, undef, undef, undef, undef, undef, undef, undef, undef, undef, undef, undef, undef, undef, undef, undef, undef, undef, undef, undef, undef], []⟩ [.code sB]) cs) w := by
  refine ⟨40, ?_⟩
  simp only [sB, Try.f4, Option.getD_some]
  repeat (refine gstep hI rfl (fun w₁ h₁ => ?_); walk_rw; refine ⟨dw_same _, ?_⟩; clear hI; have hI := h₁; clear h₁)
  refine gstep hI rfl (fun w₁ h₁ => ?_)
  refine goes_oper_k rfl rfl (by decide) (fun K hK => ?_)
  go_simp
  refine hK _ _ ⟨⟨by simp, fun e he => ?_⟩, ?_⟩
  · have hm := mem_listed he
    simp [go_sem] at hm
  clear hK K hI
  have hI := h₁.alloc (.cells A 27)
  rw [h₁.1]
  clear h₁
  refine gstep hI rfl (fun w₁ h₁ => ?_)
  refine goes_oper_k rfl rfl (by decide) (fun K hK => ?_)
  go_simp
  refine hK _ _ ⟨⟨by simp, fun e he => ?_⟩, ?_⟩
  · have hm := mem_listed he
    simp [go_sem] at hm
  clear hK K hI
  have hI := h₁
  clear h₁
  repeat (refine gstep hI rfl (fun w₁ h₁ => ?_); walk_rw; refine ⟨dw_same _, ?_⟩; clear hI; have hI := h₁; clear h₁)
  refine gstep hI rfl (fun w₁ h₁ => ?_)
  rw [stepG_enter (f := 10) (args := #[]) (w' := w₁) rfl rfl (by decide) (by simp [execOp, go_sem])]
  rw [listed_nil (by simp [go_sem, callFunc, Try.func10, Try.f10])]
  simp only [goes_go]
  refine ⟨dw_same _, ?_⟩
  exact Goes.stop fun w₂ h₂ => by
    obtain ⟨d, rfl⟩ := h₂
    exact ⟨rfl, h₁⟩
set_option maxRecDepth 100000 in
set_option maxHeartbeats 4000000 in
theorem search_b (A : Array Value) (hA : A.size = 55) (n k bM : Nat) (cs : List Frame) (H : Array Obj) (o : Os) (out : Array (Nat × ByteArray)) (w : World) (hI : HI H o out w) (hM : H[bM]? = some (.cells A 27 (0, 0))) : ∃ mu, Goes Try.prog true AtRel DW (fun g w' => g = G (Frame.enter Try.prog 11 #[.agg A] .normal) ((base 4).at ⟨#[.agg A, .int .i64 (n : Nat), .int .i64 (k : Nat), .pointer (some ⟨bM, 0, none⟩), undef, undef, .bool false, undef, undef, undef, undef, undef, undef, undef, undef, undef, undef, undef, .bool true, .bool false, undef, .agg A, undef, undef, undef, undef, undef, undef, undef, undef, undef, undef, undef, undef, undef, undef, undef, undef, undef, undef, undef, undef, undef, undef, undef, undef, undef, undef, undef, undef, undef, undef, undef, undef, undef, undef, undef, undef, undef, undef, undef, undef, undef, undef, undef, undef, undef, undef, undef, undef, undef, undef, undef, undef, undef, undef, undef, undef, undef, undef, undef, undef, undef, undef, undef, undef, undef, undef, undef, undef, undef, undef, undef, undef, undef, undef, undef, undef, undef, undef, undef, undef, undef, undef, undef, undef], []⟩ [.inRegion sO3 (1 :: List.range' 2 6), .code sT4] :: cs) ∧ HI H o out w') mu (G ((base 4).at ⟨#[.agg A, .int .i64 (n : Nat), .int .i64 (k : Nat), .pointer (some ⟨bM, 0, none⟩), undef, undef, .bool false, undef, undef, undef, undef, undef, undef, undef, undef, undef, undef, undef, .bool true, undef, undef, undef, undef, undef, undef, undef, undef, undef, undef, undef, undef, undef, undef, undef, undef, undef, undef, undef, undef, undef, undef, undef, undef, undef, undef, undef, undef, undef, undef, undef, undef, undef, undef, undef, undef, undef, undef, undef, undef, undef, undef, undef, undef, undef, undef, undef, undef, undef, undef, undef, undef, undef, undef, undef, undef, undef, undef, undef, undef, undef, undef, undef, undef, undef, undef, undef, undef, undef, undef, undef, undef, undef, undef, undef, undef, undef, undef, undef, undef, undef, undef, undef, undef, undef, undef, undef], []⟩ [.inRegion sO1 [1], .code sC1, .code sT3]) cs) w := by
  have hiA : (Try.prog.info? 27).map (·.size) = some A.size := by rw [hA]; exact v_info_mac
  refine ⟨40, ?_⟩
  simp only [sO1, sC1, sT3, sT1, sB, Try.f4, Option.getD_some]
  refine gstep hI rfl (fun w₁ h₁ => ?_)
  refine goes_oper_k rfl rfl (by decide) (fun K hK => ?_)
  go_simp
  refine hK _ _ ⟨⟨by simp, fun e he => ?_⟩, ?_⟩
  · have hm := mem_listed he
    simp [go_sem] at hm
  clear hK K hI
  have hI := h₁
  clear h₁
  repeat (refine gstep hI rfl (fun w₁ h₁ => ?_); walk_rw; refine ⟨dw_same _, ?_⟩; clear hI; have hI := h₁; clear h₁)
  refine gstep hI rfl (fun w₁ h₁ => ?_)
  rw [stepG_cond (t := false) rfl]
  simp only [goes_go, Bool.false_eq_true, ↓reduceIte]
  refine ⟨dw_same _, ?_⟩
  clear hI
  have hI := h₁
  clear h₁
  repeat (refine gstep hI rfl (fun w₁ h₁ => ?_); walk_rw; refine ⟨dw_same _, ?_⟩; clear hI; have hI := h₁; clear h₁)
  refine gstep hI rfl (fun w₁ h₁ => ?_)
  have hWr := show w₁.heap[bM]? = some (.cells A 27 (0, 0)) from by rw [h₁.1]; exact hM
  rw [stepG_value (v := .agg A) (w' := w₁) rfl rfl (by decide) (run_exec_load rfl rfl (ld_row hWr Try.underlying27 rfl hiA))]
  simp only [goes_go]
  refine ⟨⟨Nat.le_refl _, fun e he => ev_row hWr Try.underlying27 rfl hiA e (by have hm := mem_listed he; rw [events_exec_load rfl rfl] at hm; exact hm)⟩, ?_⟩
  clear hWr hI
  have hI := h₁
  clear h₁
  refine gstep hI rfl (fun w₁ h₁ => ?_)
  rw [stepG_enter (f := 11) (args := #[.agg A]) (w' := w₁) rfl rfl (by decide) (by simp [execOp, go_sem])]
  rw [listed_nil (by simp [go_sem, callFunc, Try.func11, Try.f11])]
  simp only [goes_go]
  refine ⟨dw_same _, ?_⟩
  exact Goes.stop fun w₂ h₂ => by
    obtain ⟨d, rfl⟩ := h₂
    exact ⟨rfl, h₁⟩
theorem run_exec_storeR {ev : Operand → Value} {o : Oper} {T : TypeId} {x y : Operand} {p v : Value} {w w' : World} (ho : o.op = .store T x y) (hx : ev x = p) (hy : ev y = v) (hr : (Instr.storeAt T p v).run Try.prog w = .ok () w') : (execOp ev o).run Try.prog w = .ok .skip w' := by
  simp [execOp, ho, hx, hy, hr]
theorem events_exec_storeR {ev : Operand → Value} {o : Oper} {T : TypeId} {x y : Operand} {p v : Value} {w : World} {es : Array Event} (ho : o.op = .store T x y) (hx : ev x = p) (hy : ev y = v) : (execOp ev o).events Try.prog w es = (Instr.storeAt T p v).events Try.prog w es := by
  simp [execOp, ho, hx, hy]
theorem st3_run {w : World} {b : Nat} {x y z : Value} (hr : w.heap[b]? = some (.cells #[.slice none 0 0, .slice none 0 0, .slice none 0 0] 28 (0, 0))) (h1 : #[x, y, z].all (·.oneCell') = true) : (Instr.storeAt 28 (.pointer (some ⟨b, 0, none⟩)) (.agg #[x, y, z])).run Try.prog w = .ok () (w.setCells b 0 [x, y, z]) := by
  refine run_storeAt_mid w b 0 28 #[x, y, z] (fun j hj => ?_) f_size_sl3 h1
  have hj' : j < 3 := hj
  refine ⟨?_, frozen_of_row w b _ _ _ hr⟩
  rw [cell_of_row _ _ _ _ _ _ hr]
  rcases (by omega : j = 0 ∨ j = 1 ∨ j = 2) with rfl | rfl | rfl <;> rfl
theorem st3_size {w : World} {b : Nat} {x y z : Value} : (w.setCells b 0 [x, y, z]).heap.size = w.heap.size := by
  simp [World.setCells]
theorem ev_cell {s : Nat} {a : Addr} {e : Event} (h : e.loc = .cell a) (ha : a.block < s) : EvW s e := by
  obtain ⟨l, w, at1⟩ := e
  dsimp only at h
  subst h
  cases w <;> cases at1
  all_goals exact ⟨fun x e => (by cases e; exact ha), fun m e => by cases e⟩
theorem st3_ev {w : World} {b : Nat} {x y z : Value} (hr : w.heap[b]? = some (.cells #[.slice none 0 0, .slice none 0 0, .slice none 0 0] 28 (0, 0))) (h1 : #[x, y, z].all (·.oneCell') = true) : ∀ e ∈ (Instr.storeAt 28 (.pointer (some ⟨b, 0, none⟩)) (.agg #[x, y, z])).events Try.prog w #[], EvW (w.setCells b 0 [x, y, z]).heap.size e := fun e he => by
  rw [st3_size]
  have hb : b < w.heap.size := heap_lt hr
  obtain ⟨i, hi1, hi2⟩ := Option.map_eq_some_iff.1 f_size_sl3
  have key := events_storeCells_at (P := Try.prog) b 0 28 [x, y, z] 0 _ w #[] hr (by simp) (fun v hv => by
    have := (Array.all_eq_true_iff_forall_mem.1 h1) v (by simpa using hv)
    exact this) e
  have e0 : (Instr.storeAt 28 (.pointer (some ⟨b, 0, none⟩)) (.agg #[x, y, z])).events Try.prog w #[] = (storeCells ⟨b, 0, none⟩ [x, y, z] 0).events Try.prog w #[] := by
    simp only [Instr.storeAt, Instr.sureAddr, storeVar, sizeOf, typeInfo]
    simp [go_sem, hi1, hi2, Value.cells]
  rw [e0] at he
  rcases key he with h | ⟨ad, h2, h3⟩
  · simp at h
  · exact ev_cell h2 (by rw [h3]; exact hb)
theorem HI.st3 {H : Array Obj} {o : Os} {out : Array (Nat × ByteArray)} {W : World} {x y z : Value} (h : HI (H.push (.cells #[.slice none 0 0, .slice none 0 0, .slice none 0 0] 28 (0, 0))) o out W) : HI (H.push (.cells #[x, y, z] 28 (0, 0))) o out (W.setCells H.size 0 [x, y, z]) := by
  have r0 : W.heap[H.size]? = some (.cells #[.slice none 0 0, .slice none 0 0, .slice none 0 0] 28 (0, 0)) := by rw [h.1, Array.getElem?_push, if_pos rfl]
  have r1 := heap_setCell_same W H.size 0 _ _ x r0
  have r2 := heap_setCell_same _ H.size 1 _ _ y r1
  have r3 := heap_setCell_same _ H.size 2 _ _ z r2
  have hB := (((Below.refl 0 W).setCell (p := ⟨H.size, 0, none⟩) (Nat.zero_le _) x).setCell (p := ⟨H.size, 1, none⟩) (Nat.zero_le _) y).setCell (p := ⟨H.size, 2, none⟩) (Nat.zero_le _) z
  refine ⟨?_, hB.os.trans h.2.1, hB.output.trans h.2.2⟩
  have hs : (W.setCells H.size 0 [x, y, z]).heap.size = H.size + 1 := by rw [st3_size, h.1, Array.size_push]
  apply Array.ext_getElem?
  intro i
  by_cases hi : i < H.size
  · rw [Array.getElem?_push, if_neg (by omega)]
    have e1 := heap_setCell_other W ⟨H.size, 0, none⟩ i x (by show i ≠ H.size; omega)
    have e2 := heap_setCell_other (W.setCell ⟨H.size, 0, none⟩ x) ⟨H.size, 1, none⟩ i y (by show i ≠ H.size; omega)
    have e3 := heap_setCell_other ((W.setCell ⟨H.size, 0, none⟩ x).setCell ⟨H.size, 1, none⟩ y) ⟨H.size, 2, none⟩ i z (by show i ≠ H.size; omega)
    show (((W.setCell ⟨H.size, 0, none⟩ x).setCell ⟨H.size, 1, none⟩ y).setCell ⟨H.size, 2, none⟩ z).heap[i]? = _
    rw [e3, e2, e1, h.1, Array.getElem?_push, if_neg (by omega)]
  · by_cases hi2 : i = H.size
    · rw [hi2, Array.getElem?_push, if_pos rfl]
      exact r3
    · rw [Array.getElem?_eq_none (by rw [hs]; omega), Array.getElem?_eq_none (by rw [Array.size_push]; omega)]
set_option maxRecDepth 100000 in
set_option maxHeartbeats 8000000 in
theorem search_c (A : Array Value) (hA : A.size = 55) (x y z : Value) (hxyz : #[x, y, z].all (·.oneCell') = true) (n k bM : Nat) (aw : Option Addr) (gn cw : Nat) (hA0 : A[0]? = some (.slice aw gn cw)) (hg : gn ≤ 2) (hn : 1 ≤ n ∧ n ≤ 16) (hk : 1 ≤ k ∧ k ≤ 16) (cs : List Frame) (H : Array Obj) (o : Os) (out : Array (Nat × ByteArray)) (w : World) (hI : HI H o out w) (hM : H[bM]? = some (.cells A 27 (0, 0))) : ∃ mu, Goes Try.prog true AtRel DW (fun g w' => ∃ v : Nat → Value, g = G ((base 7).at ⟨#[.agg A, .agg #[x, y, z], .int .i64 (n : Nat), undef, undef, undef, undef, undef, undef, undef, undef, undef, undef, undef], []⟩ [.code fB]) ((base 4).at ⟨#[.agg A, .int .i64 (n : Nat), .int .i64 (k : Nat), .pointer (some ⟨bM, 0, none⟩), v 4, v 5, .bool false, .pointer (some ⟨H.size, 0, none⟩), .int .i64 0, v 9, v 10, v 11, v 12, v 13, v 14, v 15, v 16, v 17, v 18, v 19, v 20, v 21, v 22, v 23, v 24, v 25, v 26, v 27, v 28, v 29, v 30, v 31, v 32, v 33, v 34, v 35, v 36, v 37, v 38, v 39, v 40, v 41, v 42, v 43, v 44, v 45, v 46, v 47, v 48, v 49, .agg A, .agg #[x, y, z], .int .i64 (n : Nat), v 53, v 54, v 55, v 56, v 57, v 58, v 59, v 60, v 61, v 62, v 63, v 64, v 65, v 66, v 67, v 68, v 69, v 70, v 71, v 72, v 73, v 74, v 75, v 76, v 77, v 78, v 79, v 80, v 81, v 82, v 83, v 84, v 85, v 86, v 87, v 88, v 89, v 90, v 91, v 92, v 93, v 94, v 95, v 96, v 97, v 98, v 99, v 100, v 101, v 102, v 103, v 104, v 105], []⟩ [.inRegion sO6 (3 :: List.range' 4 5), .code sT7] :: cs) ∧ HI (H.push (.cells #[x, y, z] 28)) o out w') mu (G ((base 4).at ⟨#[.agg A, .int .i64 (n : Nat), .int .i64 (k : Nat), .pointer (some ⟨bM, 0, none⟩), undef, undef, .bool false, undef, undef, undef, undef, undef, undef, undef, undef, undef, undef, undef, .bool true, .bool false, undef, .agg A, .tuple #[.agg #[x, y, z], .int .i64 0], undef, undef, undef, undef, undef, undef, undef, undef, undef, undef, undef, undef, undef, undef, undef, undef, undef, undef, undef, undef, undef, undef, undef, undef, undef, undef, undef, undef, undef, undef, undef, undef, undef, undef, undef, undef, undef, undef, undef, undef, undef, undef, undef, undef, undef, undef, undef, undef, undef, undef, undef, undef, undef, undef, undef, undef, undef, undef, undef, undef, undef, undef, undef, undef, undef, undef, undef, undef, undef, undef, undef, undef, undef, undef, undef, undef, undef, undef, undef, undef, undef, undef, undef], []⟩ [.inRegion sO3 [2, 3, 4, 5, 6, 7], .code sT4]) cs) w := by
  have hiA : (Try.prog.info? 27).map (·.size) = some A.size := by rw [hA]; exact v_info_mac
  have hiB : (Try.prog.info? 28).map (·.size) = some #[x, y, z].size := f_size_sl3
  have hz3 : (Try.prog.info? 28).map (·.zero) = some (some (.agg #[.slice none 0 0, .slice none 0 0, .slice none 0 0])) := by kernel_rfl
  have hM' : (H.push (.cells #[x, y, z] 28))[bM]? = some (.cells A 27 (0, 0)) := by
    have := (Array.getElem?_eq_some_iff.1 hM).1
    rw [Array.getElem?_push, if_neg (by omega)]
    exact hM
  have d1 : decide ((2 : Int) < (gn : Int)) = false := decide_eq_false (by omega)
  have d2 : decide ((n : Int) < 1) = false := decide_eq_false (by omega)
  have d2b : decide (n = 0) = false := decide_eq_false (by omega)
  have d3 : decide ((16 : Int) < (n : Int)) = false := decide_eq_false (by omega)
  have d4 : decide ((k : Int) < 1) = false := decide_eq_false (by omega)
  have d4b : decide (k = 0) = false := decide_eq_false (by omega)
  have d5 : decide ((16 : Int) < (k : Int)) = false := decide_eq_false (by omega)
  refine ⟨140, ?_⟩
  simp only [sO3, sT4, sT3, sT1, sB, Try.f4, Option.getD_some]
  refine gstep hI rfl (fun w₁ h₁ => ?_)
  refine goes_oper_k rfl rfl (by decide) (fun K hK => ?_)
  go_simp
  refine hK _ _ ⟨⟨by simp, fun e he => ?_⟩, ?_⟩
  · have hm := mem_listed he
    simp [go_sem] at hm
  clear hK K hI
  have hI := h₁
  clear h₁
  refine gstep hI rfl (fun w₁ h₁ => ?_)
  refine goes_oper_k rfl rfl (by decide) (fun K hK => ?_)
  go_simp
  refine hK _ _ ⟨⟨by simp, fun e he => ?_⟩, ?_⟩
  · have hm := mem_listed he
    simp [go_sem] at hm
  clear hK K hI
  have hI := h₁
  clear h₁
  refine gstep hI rfl (fun w₁ h₁ => ?_)
  refine goes_oper_k rfl rfl (by decide) (fun K hK => ?_)
  go_simp
  refine hK _ _ ⟨⟨by simp, fun e he => ?_⟩, ?_⟩
  · have hm := mem_listed he
    simp [go_sem] at hm
  clear hK K hI
  have hI := h₁
  clear h₁
  refine gstep hI rfl (fun w₁ h₁ => ?_)
  refine goes_oper_k rfl rfl (by decide) (fun K hK => ?_)
  go_simp
  refine hK _ _ ⟨⟨by simp, fun e he => ?_⟩, ?_⟩
  · have hm := mem_listed he
    simp [go_sem] at hm
  clear hK K hI
  have hI := h₁.alloc (.cells #[.slice none 0 0, .slice none 0 0, .slice none 0 0] 28)
  rw [h₁.1]
  clear h₁
  refine gstep hI rfl (fun w₁ h₁ => ?_)
  refine goes_oper_k rfl rfl (by decide) (fun K hK => ?_)
  have hrow : w₁.heap[H.size]? = some (.cells #[.slice none 0 0, .slice none 0 0, .slice none 0 0] 28 (0, 0)) := by rw [h₁.1, Array.getElem?_push, if_pos rfl]
  rw [run_exec_storeR rfl rfl rfl (st3_run hrow hxyz)]
  refine hK _ _ ⟨⟨by rw [st3_size]; exact Nat.le_refl _, fun e he => ?_⟩, ?_⟩
  · have hm := mem_listed he
    rw [events_exec_storeR rfl rfl rfl] at hm
    exact st3_ev hrow hxyz e hm
  clear hK K hI
  have hI := h₁.st3 (x := x) (y := y) (z := z)
  clear h₁ hrow
  refine gstep hI rfl (fun w₁ h₁ => ?_)
  refine goes_oper_k rfl rfl (by decide) (fun K hK => ?_)
  go_simp
  refine hK _ _ ⟨⟨by simp, fun e he => ?_⟩, ?_⟩
  · have hm := mem_listed he
    simp [go_sem] at hm
  clear hK K hI
  have hI := h₁
  clear h₁
  repeat (refine gstep hI rfl (fun w₁ h₁ => ?_); walk_rw; refine ⟨dw_same _, ?_⟩; clear hI; have hI := h₁; clear h₁)
  refine gstep hI rfl (fun w₁ h₁ => ?_)
  refine goes_oper_k rfl rfl (by decide) (fun K hK => ?_)
  go_simp
  refine hK _ _ ⟨⟨by simp, fun e he => ?_⟩, ?_⟩
  · have hm := mem_listed he
    simp [go_sem] at hm
  clear hK K hI
  have hI := h₁
  clear h₁
  refine gstep hI rfl (fun w₁ h₁ => ?_)
  refine goes_oper_k rfl rfl (by decide) (fun K hK => ?_)
  go_simp
  refine hK _ _ ⟨⟨by simp, fun e he => ?_⟩, ?_⟩
  · have hm := mem_listed he
    simp [go_sem] at hm
  clear hK K hI
  have hI := h₁
  clear h₁
  refine gstep hI rfl (fun w₁ h₁ => ?_)
  refine goes_oper_k rfl rfl (by decide) (fun K hK => ?_)
  go_simp
  refine hK _ _ ⟨⟨by simp, fun e he => ?_⟩, ?_⟩
  · have hm := mem_listed he
    simp [go_sem] at hm
  clear hK K hI
  have hI := h₁
  clear h₁
  refine gstep hI rfl (fun w₁ h₁ => ?_)
  refine goes_oper_k rfl rfl (by decide) (fun K hK => ?_)
  go_simp
  refine hK _ _ ⟨⟨by simp, fun e he => ?_⟩, ?_⟩
  · have hm := mem_listed he
    simp [go_sem] at hm
  clear hK K hI
  have hI := h₁
  clear h₁
  refine gstep hI rfl (fun w₁ h₁ => ?_)
  refine goes_oper_k rfl rfl (by decide) (fun K hK => ?_)
  have hbL : bM < w₁.heap.size := by rw [h₁.1]; exact (Array.getElem?_eq_some_iff.1 hM').1
  have hC : w₁.cell? ⟨bM, 0, none⟩ = some (.slice aw gn cw) := by
    have h2 : w₁.heap[bM]? = some (.cells A 27 (0, 0)) := (by rw [h₁.1]; exact hM')
    rw [cell_of_row _ _ _ _ _ _ h2]
    exact hA0
  go_simp
  refine hK _ _ ⟨⟨by simp, fun e he => ?_⟩, ?_⟩
  · have hm := mem_listed he
    simp [go_sem, hC] at hm
    subst hm
    exact ev_read ⟨rfl, rfl⟩ hbL
  clear hK K hI hC hbL
  have hI := h₁
  clear h₁
  refine gstep hI rfl (fun w₁ h₁ => ?_)
  refine goes_oper_k rfl rfl (by decide) (fun K hK => ?_)
  go_simp
  refine hK _ _ ⟨⟨by simp, fun e he => ?_⟩, ?_⟩
  · have hm := mem_listed he
    simp [go_sem] at hm
  clear hK K hI
  have hI := h₁
  clear h₁
  refine gstep hI rfl (fun w₁ h₁ => ?_)
  refine goes_oper_k rfl rfl (by decide) (fun K hK => ?_)
  go_simp
  refine hK _ _ ⟨⟨by simp, fun e he => ?_⟩, ?_⟩
  · have hm := mem_listed he
    simp [go_sem] at hm
  clear hK K hI
  have hI := h₁
  clear h₁
  refine gstep hI rfl (fun w₁ h₁ => ?_)
  refine goes_oper_k rfl rfl (by decide) (fun K hK => ?_)
  go_simp
  refine hK _ _ ⟨⟨by simp, fun e he => ?_⟩, ?_⟩
  · have hm := mem_listed he
    simp [go_sem] at hm
  clear hK K hI
  have hI := h₁
  clear h₁
  refine gstep hI rfl (fun w₁ h₁ => ?_)
  refine goes_oper_k rfl rfl (by decide) (fun K hK => ?_)
  go_simp
  refine hK _ _ ⟨⟨by simp, fun e he => ?_⟩, ?_⟩
  · have hm := mem_listed he
    simp [go_sem] at hm
  clear hK K hI
  have hI := h₁
  clear h₁
  refine gstep hI rfl (fun w₁ h₁ => ?_)
  refine goes_oper_k rfl rfl (by decide) (fun K hK => ?_)
  go_simp
  refine hK _ _ ⟨⟨by simp, fun e he => ?_⟩, ?_⟩
  · have hm := mem_listed he
    simp [go_sem] at hm
  clear hK K hI
  have hI := h₁
  clear h₁
  refine gstep hI rfl (fun w₁ h₁ => ?_)
  refine goes_oper_k rfl rfl (by decide) (fun K hK => ?_)
  go_simp
  refine hK _ _ ⟨⟨by simp, fun e he => ?_⟩, ?_⟩
  · have hm := mem_listed he
    simp [go_sem] at hm
  clear hK K hI
  have hI := h₁
  clear h₁
  refine gstep hI rfl (fun w₁ h₁ => ?_)
  refine goes_oper_k rfl rfl (by decide) (fun K hK => ?_)
  go_simp
  refine hK _ _ ⟨⟨by simp, fun e he => ?_⟩, ?_⟩
  · have hm := mem_listed he
    simp [go_sem] at hm
  clear hK K hI
  have hI := h₁
  clear h₁
  refine gstep hI rfl (fun w₁ h₁ => ?_)
  refine goes_oper_k rfl rfl (by decide) (fun K hK => ?_)
  go_simp
  refine hK _ _ ⟨⟨by simp, fun e he => ?_⟩, ?_⟩
  · have hm := mem_listed he
    simp [go_sem] at hm
  clear hK K hI
  have hI := h₁
  clear h₁
  refine gstep hI rfl (fun w₁ h₁ => ?_)
  refine goes_oper_k rfl rfl (by decide) (fun K hK => ?_)
  go_simp
  refine hK _ _ ⟨⟨by simp, fun e he => ?_⟩, ?_⟩
  · have hm := mem_listed he
    simp [go_sem] at hm
  clear hK K hI
  have hI := h₁
  clear h₁
  refine gstep hI rfl (fun w₁ h₁ => ?_)
  refine goes_oper_k rfl rfl (by decide) (fun K hK => ?_)
  go_simp
  refine hK _ _ ⟨⟨by simp, fun e he => ?_⟩, ?_⟩
  · have hm := mem_listed he
    simp [go_sem] at hm
  clear hK K hI
  have hI := h₁
  clear h₁
  refine gstep hI rfl (fun w₁ h₁ => ?_)
  refine goes_oper_k rfl rfl (by decide) (fun K hK => ?_)
  go_simp
  refine hK _ _ ⟨⟨by simp, fun e he => ?_⟩, ?_⟩
  · have hm := mem_listed he
    simp [go_sem] at hm
  clear hK K hI
  have hI := h₁
  clear h₁
  refine gstep hI rfl (fun w₁ h₁ => ?_)
  refine goes_oper_k rfl rfl (by decide) (fun K hK => ?_)
  go_simp
  refine hK _ _ ⟨⟨by simp, fun e he => ?_⟩, ?_⟩
  · have hm := mem_listed he
    simp [go_sem] at hm
  clear hK K hI
  have hI := h₁
  clear h₁
  refine gstep hI rfl (fun w₁ h₁ => ?_)
  refine goes_oper_k rfl rfl (by decide) (fun K hK => ?_)
  go_simp
  refine hK _ _ ⟨⟨by simp, fun e he => ?_⟩, ?_⟩
  · have hm := mem_listed he
    simp [go_sem] at hm
  clear hK K hI
  have hI := h₁
  clear h₁
  refine gstep hI rfl (fun w₁ h₁ => ?_)
  refine goes_oper_k rfl rfl (by decide) (fun K hK => ?_)
  go_simp
  refine hK _ _ ⟨⟨by simp, fun e he => ?_⟩, ?_⟩
  · have hm := mem_listed he
    simp [go_sem] at hm
  clear hK K hI
  have hI := h₁
  clear h₁
  refine gstep hI rfl (fun w₁ h₁ => ?_)
  refine goes_oper_k rfl rfl (by decide) (fun K hK => ?_)
  go_simp
  refine hK _ _ ⟨⟨by simp, fun e he => ?_⟩, ?_⟩
  · have hm := mem_listed he
    simp [go_sem] at hm
  clear hK K hI
  have hI := h₁
  clear h₁
  refine gstep hI rfl (fun w₁ h₁ => ?_)
  refine goes_oper_k rfl rfl (by decide) (fun K hK => ?_)
  go_simp
  refine hK _ _ ⟨⟨by simp, fun e he => ?_⟩, ?_⟩
  · have hm := mem_listed he
    simp [go_sem] at hm
  clear hK K hI
  have hI := h₁
  clear h₁
  refine gstep hI rfl (fun w₁ h₁ => ?_)
  refine goes_oper_k rfl rfl (by decide) (fun K hK => ?_)
  go_simp
  refine hK _ _ ⟨⟨by simp, fun e he => ?_⟩, ?_⟩
  · have hm := mem_listed he
    simp [go_sem] at hm
  clear hK K hI
  have hI := h₁
  clear h₁
  refine gstep hI rfl (fun w₁ h₁ => ?_)
  refine goes_oper_k rfl rfl (by decide) (fun K hK => ?_)
  go_simp
  refine hK _ _ ⟨⟨by simp, fun e he => ?_⟩, ?_⟩
  · have hm := mem_listed he
    simp [go_sem] at hm
  clear hK K hI
  have hI := h₁
  clear h₁
  refine gstep hI rfl (fun w₁ h₁ => ?_)
  refine goes_oper_k rfl rfl (by decide) (fun K hK => ?_)
  go_simp
  refine hK _ _ ⟨⟨by simp, fun e he => ?_⟩, ?_⟩
  · have hm := mem_listed he
    simp [go_sem] at hm
  clear hK K hI
  have hI := h₁
  clear h₁
  repeat (refine gstep hI rfl (fun w₁ h₁ => ?_); walk_rw; refine ⟨dw_same _, ?_⟩; clear hI; have hI := h₁; clear h₁)
  refine gstep hI rfl (fun w₁ h₁ => ?_)
  rw [stepG_cond (t := false) rfl]
  simp only [goes_go, Bool.false_eq_true, ↓reduceIte]
  refine ⟨dw_same _, ?_⟩
  clear hI
  have hI := h₁
  clear h₁
  repeat (refine gstep hI rfl (fun w₁ h₁ => ?_); walk_rw; refine ⟨dw_same _, ?_⟩; clear hI; have hI := h₁; clear h₁)
  refine gstep hI rfl (fun w₁ h₁ => ?_)
  have hWr := show w₁.heap[bM]? = some (.cells A 27 (0, 0)) from by rw [h₁.1]; exact hM'
  rw [stepG_value (v := .agg A) (w' := w₁) rfl rfl (by decide) (run_exec_load rfl rfl (ld_row hWr Try.underlying27 rfl hiA))]
  simp only [goes_go]
  refine ⟨⟨Nat.le_refl _, fun e he => ev_row hWr Try.underlying27 rfl hiA e (by have hm := mem_listed he; rw [events_exec_load rfl rfl] at hm; exact hm)⟩, ?_⟩
  clear hWr hI
  have hI := h₁
  clear h₁
  refine gstep hI rfl (fun w₁ h₁ => ?_)
  have hWr := show w₁.heap[H.size]? = some (.cells #[x, y, z] 28 (0, 0)) from by rw [h₁.1, Array.getElem?_push, if_pos rfl]
  rw [stepG_value (v := .agg #[x, y, z]) (w' := w₁) rfl rfl (by decide) (run_exec_load rfl rfl (ld_row hWr Try.underlying28 rfl hiB))]
  simp only [goes_go]
  refine ⟨⟨Nat.le_refl _, fun e he => ev_row hWr Try.underlying28 rfl hiB e (by have hm := mem_listed he; rw [events_exec_load rfl rfl] at hm; exact hm)⟩, ?_⟩
  clear hWr hI
  have hI := h₁
  clear h₁
  refine gstep hI rfl (fun w₁ h₁ => ?_)
  refine goes_oper_k rfl rfl (by decide) (fun K hK => ?_)
  go_simp
  refine hK _ _ ⟨⟨by simp, fun e he => ?_⟩, ?_⟩
  · have hm := mem_listed he
    simp [go_sem] at hm
  clear hK K hI
  have hI := h₁
  clear h₁
  refine gstep hI rfl (fun w₁ h₁ => ?_)
  refine goes_call rfl rfl (by decide) rfl Try.func7 (by kernel_rfl) rfl ?_
  refine ⟨dw_same _, ?_⟩
  exact Goes.stop fun w₂ h₂ => by
    obtain ⟨d, rfl⟩ := h₂
    have e1 : ∀ (a : Act), a.eval (.tmp 50) = .agg A → a.eval (.tmp 51) = .agg #[x, y, z] → a.eval (.tmp 52) = .int .i64 (n : Nat) → (#[Operand.tmp 50, .tmp 51, .tmp 52].map a.eval ++ Array.replicate (Try.f7.ntmps - (#[Operand.tmp 50, .tmp 51, .tmp 52].map a.eval).size) undef) = #[.agg A, .agg #[x, y, z], .int .i64 (n : Nat), undef, undef, undef, undef, undef, undef, undef, undef, undef, undef, undef] := fun a k1 k2 k3 => by
      simp [k1, k2, k3, Array.replicate, List.replicate]
    rw [e1 _ rfl rfl rfl]
    exact ⟨fun i => ([undef, undef, undef, undef, _, _, undef, undef, undef, _, _, _, _, _, _, _, _, _, _, _, _, _, _, _, _, _, _, _, _, _, _, _, _, _, _, _, _, _, _, _, _, _, _, _, _, _, _, _, _, _, undef, undef, undef, _, _, _, _, _, _, _, _, _, _, _, _, _, _, _, _, _, _, _, _, _, _, _, _, _, _, _, _, _, _, _, _, _, _, _, _, _, _, _, _, _, _, _, _, _, _, _, _, _, _, _, _, _] : List Value).getD i undef, rfl, h₁⟩
end Go.Proofs.Ythfjkhmedpilnaa
