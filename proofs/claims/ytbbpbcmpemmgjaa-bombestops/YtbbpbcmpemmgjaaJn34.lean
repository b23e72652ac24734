/-
  Several texts, joined: FgH, FgI.
-/
import Derived.Test.YtbbpbcmpemmgjaaJn27
import Derived.Test.YtbbpbcmpemmgjaaJn33
import Derived.Test.YtbbpbcmpemmgjaaJn15
/-
  bombe.Search's own walk between its calls, in company.
-/
namespace Go.Proofs.Ytbbpbcmpemmgjaa
open Go.RowKit PK Vg Go.Conc Cs
noncomputable def bB : Code := Try.f13.body.getD .skip
noncomputable def bT1 : Code := match bB with | .seq _ r => r | _ => .skip
noncomputable def bO1 : Array Oper := match bT1 with | .seq (.seq (.region _ o _) _) _ => o | _ => #[]
noncomputable def bC2 : Code := match bT1 with | .seq (.seq _ c) _ => c | _ => .skip
noncomputable def bT4 : Code := match bT1 with | .seq _ r => r | _ => .skip
noncomputable def bO4 : Array Oper := match bT4 with | .seq (.region _ o _) _ => o | _ => #[]
noncomputable def bT5 : Code := match bT4 with | .seq _ r => r | _ => .skip
noncomputable def bO5 : Array Oper := match bT5 with | .seq (.region _ o _) _ => o | _ => #[]
theorem ev_cell' {s : Nat} {a : Addr} {e : Event} (h : e.loc = .cell a) (ha : a.block < s) : EvW s e := by
  obtain ⟨l, w, at1⟩ := e
  dsimp only at h
  subst h
  cases w <;> cases at1
  all_goals exact ⟨fun x e => (by cases e; exact ha), fun m e => by cases e⟩
theorem ev_store_p (P : Program) (w : World) (es : Array Event) (ad : Addr) (m : Mode) (b : Option Addr) : (store ad (.pointer b) m).events P w es = storedEv P w es ad (.pointer b) m := events_store P w es ad _ m rfl
theorem set1_size {W : World} {b : Nat} {T : TypeId} {v u : Value} (_h : W.heap[b]? = some (.cells #[v] T (0, 0))) : (W.setCell ⟨b, 0, none⟩ u).heap.size = W.heap.size := by
  simp [World.setCell]
theorem HI.set1 {H : Array Obj} {o : Os} {out : Array (Nat × ByteArray)} {W : World} {T : TypeId} {v u : Value} (h : HI (H.push (.cells #[v] T (0, 0))) o out W) : HI (H.push (.cells #[u] T (0, 0))) o out (W.setCell ⟨H.size, 0, none⟩ u) := by
  have r0 : W.heap[H.size]? = some (.cells #[v] T (0, 0)) := by rw [h.1, Array.getElem?_push, if_pos rfl]
  have r1 := heap_setCell_same W H.size 0 _ _ u r0
  have hB := (Below.refl 0 W).setCell (p := ⟨H.size, 0, none⟩) (Nat.zero_le _) u
  refine ⟨?_, hB.os.trans h.2.1, hB.output.trans h.2.2⟩
  have hs : (W.setCell ⟨H.size, 0, none⟩ u).heap.size = H.size + 1 := by rw [set1_size r0, h.1, Array.size_push]
  apply Array.ext_getElem?
  intro i
  by_cases hi : i < H.size
  · rw [Array.getElem?_push, if_neg (by omega), heap_setCell_other W ⟨H.size, 0, none⟩ i u (by show i ≠ H.size; omega), h.1, Array.getElem?_push, if_neg (by omega)]
  · by_cases hi2 : i = H.size
    · rw [hi2, Array.getElem?_push, if_pos rfl]
      exact r1
    · rw [Array.getElem?_eq_none (by rw [hs]; omega), Array.getElem?_eq_none (by rw [Array.size_push]; omega)]
set_option maxRecDepth 100000 in
set_option maxHeartbeats 4000000 in
theorem bs_a (A : Array Value) (hA : A.size = 55) (cr te : ByteArray) (n : Int) (cs : List Frame) (H : Array Obj) (o : Os) (out : Array (Nat × ByteArray)) (w : World) (hI : HI H o out w) : ∃ mu, Goes Try.prog true AtRel DW (fun g w' => g = G (Frame.enter Try.prog 30 #[.agg A, .string cr, .string te] .normal) ((base 13).at ⟨#[.agg A, .string cr, .string te, .int .i64 n, .pointer (some ⟨H.size, 0, none⟩), .pointer (some ⟨H.size + 1, 0, none⟩), undef, undef, .slice none 0 0, .int .i64 0, undef, undef, .agg A, .string cr, .string te, undef, undef, undef, undef, undef, undef, undef, undef, undef, undef, undef, undef, undef], []⟩ [.inRegion bO1 (3 :: List.range' 4 1), .code bC2, .code bT4] :: cs) ∧ HI ((H.push (.cells A 27)).push (.cells #[.string cr] 9)) o out w') mu (G ((base 13).at ⟨#[.agg A, .string cr, .string te, .int .i64 n, undef, undef, undef, undef, undef, undef, undef, undef, undef, undef, undef, undef, undef, undef, undef, undef, undef, undef, undef, undef, undef, undef, undef, undef], []⟩ [.code bB]) cs) w := by
  have hiA : (Try.prog.info? 27).map (·.size) = some A.size := by rw [hA]; exact v_info_mac
  refine ⟨40, ?_⟩
  simp only [bB, Try.f13, Option.getD_some]
  repeat (refine gstep hI rfl (fun w₁ h₁ => ?_); walk_rw; refine ⟨dw_same _, ?_⟩; clear hI; have hI := h₁; clear h₁)
  refine gstep hI rfl (fun w₁ h₁ => ?_)
  refine goes_oper_k rfl rfl (by decide) (fun K hK => ?_)
  go_simp
  refine hK _ _ ⟨⟨by simp, fun e he => ?_⟩, ?_⟩
  · have hm := mem_listed he
    simp [go_sem] at hm
  clear hK K hI
  have hI := h₁.alloc (.cells A 27)
  rw [h₁.1]
  clear h₁
  refine gstep hI rfl (fun w₁ h₁ => ?_)
  refine goes_oper_k rfl rfl (by decide) (fun K hK => ?_)
  go_simp
  refine hK _ _ ⟨⟨by simp, fun e he => ?_⟩, ?_⟩
  · have hm := mem_listed he
    simp [go_sem] at hm
  clear hK K hI
  have hI := h₁.alloc (.cells #[.string cr] 9)
  rw [h₁.1]
  clear h₁
  simp only [Array.size_push]
  refine gstep hI rfl (fun w₁ h₁ => ?_)
  refine goes_oper_k rfl rfl (by decide) (fun K hK => ?_)
  go_simp
  refine hK _ _ ⟨⟨by simp, fun e he => ?_⟩, ?_⟩
  · have hm := mem_listed he
    simp [go_sem] at hm
  clear hK K hI
  have hI := h₁
  clear h₁
  refine gstep hI rfl (fun w₁ h₁ => ?_)
  refine goes_oper_k rfl rfl (by decide) (fun K hK => ?_)
  go_simp
  refine hK _ _ ⟨⟨by simp, fun e he => ?_⟩, ?_⟩
  · have hm := mem_listed he
    simp [go_sem] at hm
  clear hK K hI
  have hI := h₁
  clear h₁
  repeat (refine gstep hI rfl (fun w₁ h₁ => ?_); walk_rw; refine ⟨dw_same _, ?_⟩; clear hI; have hI := h₁; clear h₁)
  refine gstep hI rfl (fun w₁ h₁ => ?_)
  have hWr := show w₁.heap[H.size]? = some (.cells A 27 (0, 0)) from by rw [h₁.1, Array.getElem?_push, if_neg (by simp), Array.getElem?_push, if_pos rfl]
  rw [stepG_value (v := .agg A) (w' := w₁) rfl rfl (by decide) (run_exec_load rfl rfl (ld_row hWr Try.underlying27 rfl hiA))]
  simp only [goes_go]
  refine ⟨⟨Nat.le_refl _, fun e he => ev_row hWr Try.underlying27 rfl hiA e (by have hm := mem_listed he; rw [events_exec_load rfl rfl] at hm; exact hm)⟩, ?_⟩
  clear hWr hI
  have hI := h₁
  clear h₁
  refine gstep hI rfl (fun w₁ h₁ => ?_)
  refine goes_oper_k rfl rfl (by decide) (fun K hK => ?_)
  have hB : w₁.heap[H.size + 1]? = some (.cells #[.string cr] 9 (0, 0)) := by rw [h₁.1, Array.getElem?_push, if_pos (by simp)]
  have hbL : H.size + 1 < w₁.heap.size := (Array.getElem?_eq_some_iff.1 hB).1
  have hC : w₁.cell? ⟨H.size + 1, 0, none⟩ = some (.string cr) := by rw [cell_of_row _ _ _ _ _ _ hB]; rfl
  go_simp
  refine hK _ _ ⟨⟨by simp, fun e he => ?_⟩, ?_⟩
  · have hm := mem_listed he
    simp [go_sem, hC] at hm
    subst hm
    exact ev_read ⟨rfl, rfl⟩ hbL
  clear hK K hI hC hbL hB
  have hI := h₁
  clear h₁
  refine gstep hI rfl (fun w₁ h₁ => ?_)
  refine goes_oper_k rfl rfl (by decide) (fun K hK => ?_)
  go_simp
  refine hK _ _ ⟨⟨by simp, fun e he => ?_⟩, ?_⟩
  · have hm := mem_listed he
    simp [go_sem] at hm
  clear hK K hI
  have hI := h₁
  clear h₁
  refine gstep hI rfl (fun w₁ h₁ => ?_)
  rw [stepG_enter (f := 30) (args := #[.agg A, .string cr, .string te]) (w' := w₁) rfl rfl (by decide) (by simp [execOp, go_sem])]
  rw [listed_nil (by simp [go_sem, callFunc, Try.func30, Try.f30])]
  simp only [goes_go]
  refine ⟨dw_same _, ?_⟩
  exact Goes.stop fun w₂ h₂ => by
    obtain ⟨d, rfl⟩ := h₂
    exact ⟨rfl, h₁⟩
set_option maxRecDepth 100000 in
set_option maxHeartbeats 4000000 in
theorem bs_b (A : Array Value) (cr te : ByteArray) (n : Int) (bM bC : Nat) (cs : List Frame) (H : Array Obj) (o : Os) (out : Array (Nat × ByteArray)) (w : World) (hI : HI H o out w) (hbC : H[bC]? = some (.cells #[.string cr] 9 (0, 0))) : ∃ mu, Goes Try.prog true AtRel DW (fun g w' => g = G (Frame.enter Try.prog 31 #[.string cr, .string te] .normal) ((base 13).at ⟨#[.agg A, .string cr, .string te, .int .i64 n, .pointer (some ⟨bM, 0, none⟩), .pointer (some ⟨bC, 0, none⟩), undef, undef, .slice none 0 0, .int .i64 0, .int .i64 0, undef, .agg A, .string cr, .string te, .int .i64 0, .int .i64 0, .bool false, undef, .string cr, .string te, undef, undef, undef, undef, undef, undef, undef], []⟩ [.inRegion bO4 (2 :: List.range' 3 2), .code bT5] :: cs) ∧ HI H o out w') mu (G ((base 13).at ⟨#[.agg A, .string cr, .string te, .int .i64 n, .pointer (some ⟨bM, 0, none⟩), .pointer (some ⟨bC, 0, none⟩), undef, undef, .slice none 0 0, .int .i64 0, undef, undef, .agg A, .string cr, .string te, .int .i64 0, undef, undef, undef, undef, undef, undef, undef, undef, undef, undef, undef, undef], []⟩ [.inRegion bO1 [4], .code bC2, .code bT4]) cs) w := by
  refine ⟨40, ?_⟩
  simp only [bO1, bC2, bT4, bT1, bB, Try.f13, Option.getD_some]
  refine gstep hI rfl (fun w₁ h₁ => ?_)
  refine goes_oper_k rfl rfl (by decide) (fun K hK => ?_)
  go_simp
  refine hK _ _ ⟨⟨by simp, fun e he => ?_⟩, ?_⟩
  · have hm := mem_listed he
    simp [go_sem] at hm
  clear hK K hI
  have hI := h₁
  clear h₁
  repeat (refine gstep hI rfl (fun w₁ h₁ => ?_); walk_rw; refine ⟨dw_same _, ?_⟩; clear hI; have hI := h₁; clear h₁)
  refine gstep hI rfl (fun w₁ h₁ => ?_)
  refine goes_oper_k rfl rfl (by decide) (fun K hK => ?_)
  go_simp
  refine hK _ _ ⟨⟨by simp, fun e he => ?_⟩, ?_⟩
  · have hm := mem_listed he
    simp [go_sem] at hm
  clear hK K hI
  have hI := h₁
  clear h₁
  refine gstep hI rfl (fun w₁ h₁ => ?_)
  refine goes_oper_k rfl rfl (by decide) (fun K hK => ?_)
  go_simp
  refine hK _ _ ⟨⟨by simp, fun e he => ?_⟩, ?_⟩
  · have hm := mem_listed he
    simp [go_sem] at hm
  clear hK K hI
  have hI := h₁
  clear h₁
  repeat (refine gstep hI rfl (fun w₁ h₁ => ?_); walk_rw; refine ⟨dw_same _, ?_⟩; clear hI; have hI := h₁; clear h₁)
  refine gstep hI rfl (fun w₁ h₁ => ?_)
  rw [stepG_cond (t := false) rfl]
  simp only [goes_go, Bool.false_eq_true, ↓reduceIte]
  refine ⟨dw_same _, ?_⟩
  clear hI
  have hI := h₁
  clear h₁
  repeat (refine gstep hI rfl (fun w₁ h₁ => ?_); walk_rw; refine ⟨dw_same _, ?_⟩; clear hI; have hI := h₁; clear h₁)
  refine gstep hI rfl (fun w₁ h₁ => ?_)
  refine goes_oper_k rfl rfl (by decide) (fun K hK => ?_)
  have hB : w₁.heap[bC]? = some (.cells #[.string cr] 9 (0, 0)) := by rw [h₁.1]; exact hbC
  have hbL : bC < w₁.heap.size := (Array.getElem?_eq_some_iff.1 hB).1
  have hC : w₁.cell? ⟨bC, 0, none⟩ = some (.string cr) := by rw [cell_of_row _ _ _ _ _ _ hB]; rfl
  go_simp
  refine hK _ _ ⟨⟨by simp, fun e he => ?_⟩, ?_⟩
  · have hm := mem_listed he
    simp [go_sem, hC] at hm
    subst hm
    exact ev_read ⟨rfl, rfl⟩ hbL
  clear hK K hI hC hbL hB
  have hI := h₁
  clear h₁
  refine gstep hI rfl (fun w₁ h₁ => ?_)
  refine goes_oper_k rfl rfl (by decide) (fun K hK => ?_)
  go_simp
  refine hK _ _ ⟨⟨by simp, fun e he => ?_⟩, ?_⟩
  · have hm := mem_listed he
    simp [go_sem] at hm
  clear hK K hI
  have hI := h₁
  clear h₁
  refine gstep hI rfl (fun w₁ h₁ => ?_)
  rw [stepG_enter (f := 31) (args := #[.string cr, .string te]) (w' := w₁) rfl rfl (by decide) (by simp [execOp, go_sem])]
  rw [listed_nil (by simp [go_sem, callFunc, Try.func31, Try.f31])]
  simp only [goes_go]
  refine ⟨dw_same _, ?_⟩
  exact Goes.stop fun w₂ h₂ => by
    obtain ⟨d, rfl⟩ := h₂
    exact ⟨rfl, h₁⟩
set_option maxRecDepth 100000 in
set_option maxHeartbeats 4000000 in
theorem bs_c (A : Array Value) (hA : A.size = 55) (cr te : ByteArray) (n : Int) (bM bC : Nat) (p : Addr) (cs : List Frame) (H : Array Obj) (o : Os) (out : Array (Nat × ByteArray)) (w : World) (hI : HI H o out w) (hM : H[bM]? = some (.cells A 27 (0, 0))) : ∃ mu, Goes Try.prog true AtRel DW (fun g w' => g = G ((base 32).at ⟨#[.agg A, .int .i64 n, .func (.func 33) #[] #[.pointer (some ⟨H.size, 0, none⟩), .pointer (some ⟨bC, 0, none⟩)], undef, undef, undef, undef, undef, undef, undef, undef, undef, undef, undef, undef, undef, undef, undef, undef, undef, undef, undef, undef, undef, undef, undef, undef, undef, undef, undef, undef, undef, undef, undef, undef, undef, undef, undef, undef, undef, undef, undef, undef, undef, undef, undef, undef, undef, undef, undef, undef, undef, undef], []⟩ [.code Hb.eBody]) ((base 13).at ⟨#[.agg A, .string cr, .string te, .int .i64 n, .pointer (some ⟨bM, 0, none⟩), .pointer (some ⟨bC, 0, none⟩), undef, undef, .slice none 0 0, .int .i64 0, .int .i64 0, .pointer (some ⟨H.size, 0, none⟩), .agg A, .string cr, .string te, .int .i64 0, .int .i64 0, .bool false, undef, .string cr, .string te, .pointer (some p), .agg A, .int .i64 n, .func (.func 33) #[] #[.pointer (some ⟨H.size, 0, none⟩), .pointer (some ⟨bC, 0, none⟩)], undef, undef, undef], []⟩ [.inRegion bO5 (3 :: List.range' 4 4), .code .ret] :: cs) ∧ HI (H.push (.cells #[.pointer (some p)] 74)) o out w') mu (G ((base 13).at ⟨#[.agg A, .string cr, .string te, .int .i64 n, .pointer (some ⟨bM, 0, none⟩), .pointer (some ⟨bC, 0, none⟩), undef, undef, .slice none 0 0, .int .i64 0, .int .i64 0, undef, .agg A, .string cr, .string te, .int .i64 0, .int .i64 0, .bool false, undef, .string cr, .string te, .pointer (some p), undef, undef, undef, undef, undef, undef], []⟩ [.inRegion bO4 [3, 4], .code bT5]) cs) w := by
  have hiA : (Try.prog.info? 27).map (·.size) = some A.size := by rw [hA]; exact v_info_mac
  have hzp : (Try.prog.info? 74).map (·.zero) = some (some (.pointer none)) := by kernel_rfl
  have hzq := o_zero hzp
  have hM' : (H.push (.cells #[.pointer (some p)] 74))[bM]? = some (.cells A 27 (0, 0)) := by
    have := (Array.getElem?_eq_some_iff.1 hM).1
    rw [Array.getElem?_push, if_neg (by omega)]
    exact hM
  refine ⟨40, ?_⟩
  simp only [bO4, bT5, bT4, bT1, bB, Try.f13, Option.getD_some]
  refine gstep hI rfl (fun w₁ h₁ => ?_)
  refine goes_oper_k rfl rfl (by decide) (fun K hK => ?_)
  go_simp
  refine hK _ _ ⟨⟨by simp, fun e he => ?_⟩, ?_⟩
  · have hm := mem_listed he
    simp [go_sem] at hm
  clear hK K hI
  have hI := h₁.alloc (.cells #[.pointer none] 74)
  rw [h₁.1]
  clear h₁
  refine gstep hI rfl (fun w₁ h₁ => ?_)
  refine goes_oper_k rfl rfl (by decide) (fun K hK => ?_)
  have hB : w₁.heap[H.size]? = some (.cells #[.pointer none] 74 (0, 0)) := by rw [h₁.1, Array.getElem?_push, if_pos rfl]
  have hbL : H.size < w₁.heap.size := (Array.getElem?_eq_some_iff.1 hB).1
  have hC : w₁.cell? ⟨H.size, 0, none⟩ = some (.pointer none) := by rw [cell_of_row _ _ _ _ _ _ hB]; rfl
  have hF : w₁.frozen? ⟨H.size, 0, none⟩ = false := frozen_of_row w₁ H.size _ _ _ hB
  have hs := set1_size (W := w₁) (u := .pointer (some p)) hB
  go_simp
  refine hK _ _ ⟨⟨by rw [hs]; exact Nat.le_refl _, fun e he => ?_⟩, ?_⟩
  · have hm := mem_listed he
    simp [go_sem, ev_store_p, hC, hF] at hm
    subst hm
    rw [hs]
    exact ev_cell' rfl hbL
  clear hK K hI hC hF hbL hB hs
  have hI := h₁.set1 (u := .pointer (some p))
  clear h₁
  repeat (refine gstep hI rfl (fun w₁ h₁ => ?_); walk_rw; refine ⟨dw_same _, ?_⟩; clear hI; have hI := h₁; clear h₁)
  refine gstep hI rfl (fun w₁ h₁ => ?_)
  have hWr := show w₁.heap[bM]? = some (.cells A 27 (0, 0)) from by rw [h₁.1]; exact hM'
  rw [stepG_value (v := .agg A) (w' := w₁) rfl rfl (by decide) (run_exec_load rfl rfl (ld_row hWr Try.underlying27 rfl hiA))]
  simp only [goes_go]
  refine ⟨⟨Nat.le_refl _, fun e he => ev_row hWr Try.underlying27 rfl hiA e (by have hm := mem_listed he; rw [events_exec_load rfl rfl] at hm; exact hm)⟩, ?_⟩
  clear hWr hI
  have hI := h₁
  clear h₁
  refine gstep hI rfl (fun w₁ h₁ => ?_)
  refine goes_oper_k rfl rfl (by decide) (fun K hK => ?_)
  go_simp
  refine hK _ _ ⟨⟨by simp, fun e he => ?_⟩, ?_⟩
  · have hm := mem_listed he
    simp [go_sem] at hm
  clear hK K hI
  have hI := h₁
  clear h₁
  refine gstep hI rfl (fun w₁ h₁ => ?_)
  refine goes_oper_k rfl rfl (by decide) (fun K hK => ?_)
  go_simp
  refine hK _ _ ⟨⟨by simp, fun e he => ?_⟩, ?_⟩
  · have hm := mem_listed he
    simp [go_sem] at hm
  clear hK K hI
  have hI := h₁
  clear h₁
  refine gstep hI rfl (fun w₁ h₁ => ?_)
  refine goes_call rfl rfl (by decide) rfl Try.func32 (by kernel_rfl) rfl ?_
  refine ⟨dw_same _, ?_⟩
  exact Goes.stop fun w₂ h₂ => by
    obtain ⟨d, rfl⟩ := h₂
    refine ⟨?_, h₁⟩
    have e1 : ∀ (a : Act), a.eval (.tmp 22) = .agg A → a.eval (.tmp 23) = .int .i64 n → a.eval (.tmp 24) = .func (.func 33) #[] #[.pointer (some ⟨H.size, 0, none⟩), .pointer (some ⟨bC, 0, none⟩)] → (#[Operand.tmp 22, .tmp 23, .tmp 24].map a.eval ++ Array.replicate (Try.f32.ntmps - (#[Operand.tmp 22, .tmp 23, .tmp 24].map a.eval).size) undef) = #[.agg A, .int .i64 n, .func (.func 33) #[] #[.pointer (some ⟨H.size, 0, none⟩), .pointer (some ⟨bC, 0, none⟩)], undef, undef, undef, undef, undef, undef, undef, undef, undef, undef, undef, undef, undef, undef, undef, undef, undef, undef, undef, undef, undef, undef, undef, undef, undef, undef, undef, undef, undef, undef, undef, undef, undef, undef, undef, undef, undef, undef, undef, undef, undef, undef, undef, undef, undef, undef, undef, undef, undef, undef] := fun a k0 k1 k2 => by
      simp [k0, k1, k2, Array.replicate, List.replicate]
    rw [e1 _ rfl rfl rfl]
    rfl
end Go.Proofs.Ytbbpbcmpemmgjaa

/-
  chart.Every of halts beside goroutines that only leave: to its first 'go'.
-/
namespace Go.Proofs.Ytbbpbcmpemmgjaa
open Go.RowKit PK Vg Go.Conc Cs
theorem hpush2_old {H : Array Obj} {x y : Obj} {b : Nat} (h : b < H.size) : ((H.push x).push y)[b]? = H[b]? := by
  rw [Array.getElem?_push, if_neg (by simp; omega), Array.getElem?_push, if_neg (by omega)]
theorem hpush2_one {H : Array Obj} {x y : Obj} : ((H.push x).push y)[H.size]? = some x := by
  rw [Array.getElem?_push, if_neg (by simp), Array.getElem?_push, if_pos rfl]
theorem hpush2_two {H : Array Obj} {x y : Obj} : ((H.push x).push y)[H.size + 1]? = some y := by
  rw [Array.getElem?_push, if_pos (by simp)]
theorem hpush2_size {H : Array Obj} {x y : Obj} : ((H.push x).push y).size = H.size + 2 := by simp
/-- What stands there at the first 'go'. -/
structure AtH (A : Array Value) (vl : Value) (W w4 w8 : World) (Fd C1 C2 bF bD : Nat) : Prop where
  old4 : ∀ b, b < W.heap.size → w4.heap[b]? = W.heap[b]?
  lM : w4.heap[W.heap.size]? = some (.cells A 27 (0, 0))
  lL : w4.heap[W.heap.size + 1]? = some (.cells #[vl] 79 (0, 0))
  fd : Fd = w4.heap.size
  h84 : ∀ b, b < w4.heap.size → w8.heap[b]? = w4.heap[b]?
  row : w8.heap[Fd]? = some (.cells (tab 26 fun _ => .slice none 0 0) 116 (0, 0))
  c1 : Fd < C1 ∧ w8.heap[C1]? = some (.chan 0 #[] false 0 0 false)
  c2 : Fd < C2 ∧ w8.heap[C2]? = some (.chan 0 #[] false 0 0 false)
  ne : C1 ≠ C2
  bf : Fd < bF ∧ w8.heap[bF]? = some (.cells #[.chan (some C1)] 95 (0, 0))
  bd : Fd < bD ∧ w8.heap[bD]? = some (.cells #[.chan (some C2)] 96 (0, 0))
  env : w8.os = W.os ∧ w8.output = W.output
set_option maxRecDepth 100000 in
set_option maxHeartbeats 8000000 in
theorem every_to_goH (a b c : Value) (g : Gm) (n : Nat) (hE : swE g (n : Int) = 0) (f : FuncId) (c1 c2 : Array Value) (W : World) (ha : WhR W a g.n g.wi g.nl g.no) (hb : NumsAt W b g.rl g.ri) (hc : NumsAt W c g.sl g.st) (ra : Rt W a) (rb : Rt W b) (rc : Rt W c) (A : Array Value) (hA0 : A = mac a b c g.rf g.pl) (cs : List Frame) {gs : Array Goroutine} {t : Trace} {q : Nat → Nat} (i2 : gs[0]? = some (G ((base 32).at ⟨#[.agg A, .int .i64 (n : Nat), .func (.func f) c1 c2, undef, undef, undef, undef, undef, undef, undef, undef, undef, undef, undef, undef, undef, undef, undef, undef, undef, undef, undef, undef, undef, undef, undef, undef, undef, undef, undef, undef, undef, undef, undef, undef, undef, undef, undef, undef, undef, undef, undef, undef, undef, undef, undef, undef, undef, undef, undef, undef, undef, undef], []⟩ [.code Hb.eBody]) cs)) (Q2 : Qt Try.prog gs t q W.heap.size) (sl2 : Option (Nat × Nat)) :
    ∃ N gs' w4 w8 sl' t' q' g8 Fd C1 C2 bF bD, runNT Try.prog N (crowd gs W sl2) t = (.next (crowd gs' w8 sl'), t') ∧ gs'.size = gs.size ∧ gs'[0]? = some g8 ∧ g8.status = .running ∧ (∀ c : Cst, c.Fd = Fd → Hb.eGoP c bF W.heap.size (W.heap.size + 1) bD n cs 0 g8) ∧ QtF (fun x => ∀ ad, x.loc = .cell ad → ad.block ≠ Fd) Try.prog gs' t' q' w8.heap.size ∧ AtH A (.func (.func f) c1 c2) W w4 w8 Fd C1 C2 bF bD := by
  obtain ⟨_, _, hh1, hh2⟩ := swE_zero hE
  have hG : Try.prog.globals.size ≤ Fns.G := Nat.le_refl _
  have hA : A.size = 55 := by rw [hA0]; exact mac_size ..
  have I2 : HI W.heap W.os W.output W := ⟨rfl, rfl, rfl⟩
  -- to the call of searchWrong
  obtain ⟨mu3, G3⟩ := Hb.every_head A hA (n : Int) f c1 c2 cs W.heap W.os W.output W I2
  obtain ⟨N3, gs3, w3, sl3, t3, q3, g3, r3, z3, i3, ⟨rfl, I3⟩, Q3⟩ := beside_walk (sl := sl2) (fun _ _ _ h => h) (fun g w h => by rw [h.1]; rfl) i2 G3 Q2
  obtain ⟨H3, hH3⟩ : ∃ H3, H3 = (W.heap.push (.cells A 27)).push (.cells #[.func (.func f) c1 c2] 79) := ⟨_, rfl⟩
  rw [← hH3] at I3
  have o3 : ∀ b, b < W.heap.size → H3[b]? = W.heap[b]? := fun b hb => by rw [hH3]; exact hpush2_old hb
  have d3 : H3[W.heap.size]? = some (.cells A 27) := by rw [hH3]; exact hpush2_one
  have e3 : H3[W.heap.size + 1]? = some (.cells #[.func (.func f) c1 c2] 79) := by rw [hH3]; exact hpush2_two
  have s3 : H3.size = W.heap.size + 2 := by rw [hH3]; exact hpush2_size
  clear hH3 G3
  have hag3 : ∀ b, b < W.heap.size → w3.heap[b]? = W.heap[b]? := fun b hb => by
    rw [I3.1, o3 b hb]
  -- searchWrong
  obtain ⟨E1, wl1, a', b', c', p1, cc1, ra', rb', rc', hm1⟩ := cp_mac (Cp.nil (P := Try.prog) w3) no_type (whr_ag hag3 ha) (nums_ag hag3 hb) (nums_ag hag3 hc) (rt_ag hag3 ra) (rt_ag hag3 rb) (rt_ag hag3 rc)
  have hin : ∀ cs, InCall Try.prog (fun v _ => v = .int .i64 0) cs E1 (G (Frame.enter Try.prog 48 #[.agg (mac a' b' c' g.rf g.pl), .int .i64 (n : Nat)] .normal) [trap Try.prog]) wl1 (G (Frame.enter Try.prog 48 #[.agg A, .int .i64 (n : Nat)] .normal) cs) w3 := fun cs => InCall.start (c := cs) fd_fnsCode (f := 48) (by kernel_rfl) (x := #[.agg (mac a' b' c' g.rf g.pl), .int .i64 (n : Nat)]) (y := #[.agg A, .int .i64 (n : Nat)]) (lr_cons (.mkAgg (by rw [hA0]; exact lr_mac ra' rb' rc')) (lr_cons (.int _ _) lr_nil)) p1.wr p1.big (fun τ => by
    refine (psw_any _ g (n : Int) (wl1.tp τ) hm1).mono ?_
    rintro e w' ⟨rfl, _⟩
    exact ⟨_, rfl, by rw [hE]⟩)
  obtain ⟨N4, gs4, w4, sl4, t4, q4, E4, v, v', wl4, r4, z4, i4, p4, vr, _, fc4, Q4⟩ := beside_call (sl := sl3) hG fd_fnsCode i3 (hin _) Q3
  subst p4
  cases vr
  have k4 : ∀ b, b < H3.size → w4.heap[b]? = H3[b]? := fun b hb => by
    rw [← I3.1]
    exact fc4.keep b (by rw [I3.1]; exact hb) (fun b' s e => by have := p1.sh _ _ _ _ e; cases this)
  have s4 : H3.size ≤ w4.heap.size := by have := fc4.size; rw [I3.1] at this; exact this
  have I4 : HI w4.heap W.os W.output w4 := ⟨rfl, fc4.os.trans I3.2.1, fc4.output.trans I3.2.2⟩
  have e4 : w4.heap[W.heap.size + 1]? = some (.cells #[.func (.func f) c1 c2] 79 (0, 0)) := by rw [k4 _ (by omega)]; exact e3
  have hag4 : ∀ b, b < W.heap.size → w4.heap[b]? = W.heap[b]? := fun b hb => by
    rw [k4 b (by omega), o3 b hb]
  -- on to the first 'go'
  obtain ⟨mu5, G5⟩ := Hb.every_a A n f c1 c2 W.heap.size (W.heap.size + 1) cs w4.heap W.os W.output w4 I4 e4
  obtain ⟨N5, gs5, w5, sl5, t5, q5, g5, r5, z5, i5, ⟨rfl, I5⟩, Q5⟩ := beside_walk (sl := sl4) (fun _ _ _ h => h) (fun g w h => by rw [h.1]; rfl) i4 G5 Q4
  obtain ⟨Fd, hFd⟩ : ∃ Fd, Fd = w4.heap.size := ⟨_, rfl⟩
  have F5 : QtF (fun x => ∀ ad, x.loc = .cell ad → ad.block ≠ Fd) Try.prog gs5 t5 q5 w5.heap.size := ⟨Q5, fun j x hx ad e => by
    have h1 := Q5.low j x hx
    rw [e] at h1
    have h2 : ad.block < w5.heap.size := h1
    rw [I5.1] at h2
    omega⟩
  obtain ⟨mu6, G6⟩ := Hb.every_a2 Fd A n f c1 c2 W.heap.size (W.heap.size + 1) cs w4.heap W.os W.output w5 I5
  obtain ⟨N6, gs6, w6, sl6, t6, q6, g6, r6, z6, i6, ⟨rfl, I6⟩, F6⟩ := beside_walk_f (sl := sl5) (fun _ _ _ h => h) (fun g w h => by rw [h.1]; rfl) i5 G6 F5
  rw [← hFd] at i6
  obtain ⟨H6, hH6⟩ : ∃ H6, H6 = w4.heap.push (.cells (tab 26 fun _ => .slice none 0 0) 116) := ⟨_, rfl⟩
  rw [← hH6] at I6
  have o6 : ∀ b, b < Fd → H6[b]? = w4.heap[b]? := fun b hb => by rw [hH6, Array.getElem?_push, if_neg (by omega)]
  have d6 : H6[Fd]? = some (.cells (tab 26 fun _ => .slice none 0 0) 116) := by rw [hH6, Array.getElem?_push, if_pos hFd]
  have s6 : H6.size = Fd + 1 := by rw [hH6, Array.size_push]; omega
  clear hH6
  have Z6 : Hb.Z7 H6 W.os W.output w6 := ⟨fun b _ => by rw [I6.1], by rw [I6.1]; exact Nat.le_refl _, I6.2.1, I6.2.2⟩
  obtain ⟨mu7, G7⟩ := Hb.every_b (n := n) (bM := W.heap.size) (bL := W.heap.size + 1) (Fd := Fd) (by omega) Z6 _
  obtain ⟨N7, gs7, w7, sl7, t7, q7, g7, r7, z7, i7, hst7, F7⟩ := beside_walk_f (sl := sl6) (fun _ _ _ h => h) (fun g w h => by obtain ⟨_, _, _, _, _, _, _, _, _, _, _, _, _, _, _, _, _, _, _, _, _, _, _, _, _, _, _, _, _, _, _, _, _, _, _, _, _, _, _, _, _, _, _, _, _, _, _, _, _, e, _⟩ := h; rw [e]; rfl) i6 G7 F6
  obtain ⟨C1, C2, bF, bD, u0, u2, u4, u6, u7, u8, u12, u13, u14, u15, u16, u17, u18, u19, u20, u21, u22, u23, u26, u27, u28, u29, u30, u31, u32, u33, u34, u35, u36, u37, u38, u39, u40, u41, u42, u43, u44, u45, u46, u47, u48, u49, u50, u51, u52, rfl, Z7', zc1, zc2, hcc, zb1, zb2⟩ := hst7
  obtain ⟨mu8, G8⟩ := Hb.every_c (n := n) (bM := W.heap.size) (bL := W.heap.size + 1) (Fd := Fd) (C1 := C1) (C2 := C2) (bF := bF) (bD := bD) (H := w7.heap) (w := w7) ⟨rfl, Z7'.os, Z7'.output⟩ (by omega) _
  obtain ⟨N8, gs8, w8, sl8, t8, q8, g8, r8, z8, i8, ⟨hrun8, hgo8, I8⟩, F8⟩ := beside_walk_f (sl := sl7) (fun _ _ _ h => h) (fun g w h => h.1) i7 G8 F7
  have h84 : ∀ b, b < w4.heap.size → w8.heap[b]? = w4.heap[b]? := fun b hb => by
    rw [I8.1, Z7'.old b (by omega), o6 b (by omega)]
  refine ⟨N3 + (N4 + (N5 + (N6 + (N7 + N8)))), gs8, w4, w8, sl8, t8, q8, g8, Fd, C1, C2, bF, bD, ?_, by rw [z8, z7, z6, z5, z4, z3], i8, hrun8, hgo8, F8, ?_⟩
  · rw [runNT_add, r3]
    show runNT Try.prog (N4 + (N5 + (N6 + (N7 + N8)))) (crowd gs3 w3 sl3) t3 = _
    rw [runNT_add, r4]
    show runNT Try.prog (N5 + (N6 + (N7 + N8))) (crowd gs4 w4 sl4) t4 = _
    rw [runNT_add, r5]
    show runNT Try.prog (N6 + (N7 + N8)) (crowd gs5 w5 sl5) t5 = _
    rw [runNT_add, r6]
    show runNT Try.prog (N7 + N8) (crowd gs6 w6 sl6) t6 = _
    rw [runNT_add, r7]
    exact r8
  · exact ⟨hag4, by rw [k4 _ (by omega)]; exact d3, e4, hFd, h84, by rw [I8.1, Z7'.old Fd (by omega)]; exact d6, ⟨by have := zc1.1; omega, by rw [I8.1]; exact zc1.2⟩, ⟨by have := zc2.1; omega, by rw [I8.1]; exact zc2.2⟩, hcc, ⟨by have := zb1.1; omega, by rw [I8.1]; exact zb1.2⟩, ⟨by have := zb2.1; omega, by rw [I8.1]; exact zb2.2⟩, I8.2.1, I8.2.2⟩
end Go.Proofs.Ytbbpbcmpemmgjaa
