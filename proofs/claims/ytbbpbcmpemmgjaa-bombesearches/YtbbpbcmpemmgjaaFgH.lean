/-
  bombe.Search's own walk between its calls, in company.
-/
import Derived.Test.YtbbpbcmpemmgjaaJn28
import Derived.Test.YtbbpbcmpemmgjaaJn33
namespace Go.Proofs.Ytbbpbcmpemmgjaa
open Go.RowKit PK Vg Go.Conc Cs
noncomputable def bB : Code := Try.f13.body.getD .skip
noncomputable def bT1 : Code := match bB with | .seq _ r => r | _ => .skip
noncomputable def bO1 : Array Oper := match bT1 with | .seq (.seq (.region _ o _) _) _ => o | _ => #[]
noncomputable def bC2 : Code := match bT1 with | .seq (.seq _ c) _ => c | _ => .skip
noncomputable def bT4 : Code := match bT1 with | .seq _ r => r | _ => .skip
noncomputable def bO4 : Array Oper := match bT4 with | .seq (.region _ o _) _ => o | _ => #[]
noncomputable def bT5 : Code := match bT4 with | .seq _ r => r | _ => .skip
noncomputable def bO5 : Array Oper := match bT5 with | .seq (.region _ o _) _ => o | _ => #[]
theorem ev_cell' {s : Nat} {a : Addr} {e : Event} (h : e.loc = .cell a) (ha : a.block < s) : EvW s e := by
  obtain ⟨l, w, at1⟩ := e
  dsimp only at h
  subst h
  cases w <;> cases at1
  all_goals exact ⟨fun x e => (by cases e; exact ha), fun m e => by cases e⟩
theorem ev_store_p (P : Program) (w : World) (es : Array Event) (ad : Addr) (m : Mode) (b : Option Addr) : (store ad (.pointer b) m).events P w es = storedEv P w es ad (.pointer b) m := events_store P w es ad _ m rfl
theorem set1_size {W : World} {b : Nat} {T : TypeId} {v u : Value} (_h : W.heap[b]? = some (.cells #[v] T (0, 0))) : (W.setCell ⟨b, 0, none⟩ u).heap.size = W.heap.size := by
  simp [World.setCell]
theorem HI.set1 {H : Array Obj} {o : Os} {out : Array (Nat × ByteArray)} {W : World} {T : TypeId} {v u : Value} (h : HI (H.push (.cells #[v] T (0, 0))) o out W) : HI (H.push (.cells #[u] T (0, 0))) o out (W.setCell ⟨H.size, 0, none⟩ u) := by
  have r0 : W.heap[H.size]? = some (.cells #[v] T (0, 0)) := by rw [h.1, Array.getElem?_push, if_pos rfl]
  have r1 := heap_setCell_same W H.size 0 _ _ u r0
  have hB := (Below.refl 0 W).setCell (p := ⟨H.size, 0, none⟩) (Nat.zero_le _) u
  refine ⟨?_, hB.os.trans h.2.1, hB.output.trans h.2.2⟩
  have hs : (W.setCell ⟨H.size, 0, none⟩ u).heap.size = H.size + 1 := by rw [set1_size r0, h.1, Array.size_push]
  apply Array.ext_getElem?
  intro i
  by_cases hi : i < H.size
  · rw [Array.getElem?_push, if_neg (by omega), heap_setCell_other W ⟨H.size, 0, none⟩ i u (by show i ≠ H.size; omega), h.1, Array.getElem?_push, if_neg (by omega)]
  · by_cases hi2 : i = H.size
    · rw [hi2, Array.getElem?_push, if_pos rfl]
      exact r1
    · rw [Array.getElem?_eq_none (by rw [hs]; omega), Array.getElem?_eq_none (by rw [Array.size_push]; omega)]
set_option maxRecDepth 100000 in
set_option maxHeartbeats 4000000 in
theorem bs_a (A : Array Value) (hA : A.size = 55) (cr te : ByteArray) (n : Int) (cs : List Frame) (H : Array Obj) (o : Os) (out : Array (Nat × ByteArray)) (w : World) (hI : HI H o out w) : ∃ mu, Goes Try.prog true AtRel DW (fun g w' => g = G (Frame.enter Try.prog 30 #[.agg A, .string cr, .string te] .normal) ((base 13).at ⟨#[.agg A, .string cr, .string te, .int .i64 n, .pointer (some ⟨H.size, 0, none⟩), .pointer (some ⟨H.size + 1, 0, none⟩), undef, undef, .slice none 0 0, .int .i64 0, undef, undef, .agg A, .string cr, .string te, undef, undef, undef, undef, undef, undef, undef, undef, undef, undef, undef, undef, undef], []⟩ [.inRegion bO1 (3 :: List.range' 4 1), .code bC2, .code bT4] :: cs) ∧ HI ((H.push (.cells A 27)).push (.cells #[.string cr] 9)) o out w') mu (G ((base 13).at ⟨#[.agg A, .string cr, .string te, .int .i64 n, undef, undef, undef, undef, undef, undef, undef, undef, undef, undef, undef, undef, undef, undef, undef, undef, undef, undef, undef, undef, undef, undef, undef, undef], []⟩ [.code bB]) cs) w := by
  have hiA : (Try.prog.info? 27).map (·.size) = some A.size := by rw [hA]; exact v_info_mac
  refine ⟨40, ?_⟩
  simp only [bB, Try.f13, Option.getD_some]
  repeat (refine gstep hI rfl (fun w₁ h₁ => ?_); walk_rw; refine ⟨dw_same _, ?_⟩; clear hI; have hI := h₁; clear h₁)
  refine gstep hI rfl (fun w₁ h₁ => ?_)
  refine goes_oper_k rfl rfl (by decide) (fun K hK => ?_)
  go_simp
  refine hK _ _ ⟨⟨by simp, fun e he => ?_⟩, ?_⟩
  · have hm := mem_listed he
    simp [go_sem] at hm
  clear hK K hI
  have hI := h₁.alloc (.cells A 27)
  rw [h₁.1]
  clear h₁
  refine gstep hI rfl (fun w₁ h₁ => ?_)
  refine goes_oper_k rfl rfl (by decide) (fun K hK => ?_)
  go_simp
  refine hK _ _ ⟨⟨by simp, fun e he => ?_⟩, ?_⟩
  · have hm := mem_listed he
    simp [go_sem] at hm
  clear hK K hI
  have hI := h₁.alloc (.cells #[.string cr] 9)
  rw [h₁.1]
  clear h₁
  simp only [Array.size_push]
  refine gstep hI rfl (fun w₁ h₁ => ?_)
  refine goes_oper_k rfl rfl (by decide) (fun K hK => ?_)
  go_simp
  refine hK _ _ ⟨⟨by simp, fun e he => ?_⟩, ?_⟩
  · have hm := mem_listed he
    simp [go_sem] at hm
  clear hK K hI
  have hI := h₁
  clear h₁
  refine gstep hI rfl (fun w₁ h₁ => ?_)
  refine goes_oper_k rfl rfl (by decide) (fun K hK => ?_)
  go_simp
  refine hK _ _ ⟨⟨by simp, fun e he => ?_⟩, ?_⟩
  · have hm := mem_listed he
    simp [go_sem] at hm
  clear hK K hI
  have hI := h₁
  clear h₁
  repeat (refine gstep hI rfl (fun w₁ h₁ => ?_); walk_rw; refine ⟨dw_same _, ?_⟩; clear hI; have hI := h₁; clear h₁)
  refine gstep hI rfl (fun w₁ h₁ => ?_)
  have hWr := show w₁.heap[H.size]? = some (.cells A 27 (0, 0)) from by rw [h₁.1, Array.getElem?_push, if_neg (by simp), Array.getElem?_push, if_pos rfl]
  rw [stepG_value (v := .agg A) (w' := w₁) rfl rfl (by decide) (run_exec_load rfl rfl (ld_row hWr Try.underlying27 rfl hiA))]
  simp only [goes_go]
  refine ⟨⟨Nat.le_refl _, fun e he => ev_row hWr Try.underlying27 rfl hiA e (by have hm := mem_listed he; rw [events_exec_load rfl rfl] at hm; exact hm)⟩, ?_⟩
  clear hWr hI
  have hI := h₁
  clear h₁
  refine gstep hI rfl (fun w₁ h₁ => ?_)
  refine goes_oper_k rfl rfl (by decide) (fun K hK => ?_)
  have hB : w₁.heap[H.size + 1]? = some (.cells #[.string cr] 9 (0, 0)) := by rw [h₁.1, Array.getElem?_push, if_pos (by simp)]
  have hbL : H.size + 1 < w₁.heap.size := (Array.getElem?_eq_some_iff.1 hB).1
  have hC : w₁.cell? ⟨H.size + 1, 0, none⟩ = some (.string cr) := by rw [cell_of_row _ _ _ _ _ _ hB]; rfl
  go_simp
  refine hK _ _ ⟨⟨by simp, fun e he => ?_⟩, ?_⟩
  · have hm := mem_listed he
    simp [go_sem, hC] at hm
    subst hm
    exact ev_read ⟨rfl, rfl⟩ hbL
  clear hK K hI hC hbL hB
  have hI := h₁
  clear h₁
  refine gstep hI rfl (fun w₁ h₁ => ?_)
  refine goes_oper_k rfl rfl (by decide) (fun K hK => ?_)
  go_simp
  refine hK _ _ ⟨⟨by simp, fun e he => ?_⟩, ?_⟩
  · have hm := mem_listed he
    simp [go_sem] at hm
  clear hK K hI
  have hI := h₁
  clear h₁
  refine gstep hI rfl (fun w₁ h₁ => ?_)
  rw [stepG_enter (f := 30) (args := #[.agg A, .string cr, .string te]) (w' := w₁) rfl rfl (by decide) (by simp [execOp, go_sem])]
  rw [listed_nil (by simp [go_sem, callFunc, Try.func30, Try.f30])]
  simp only [goes_go]
  refine ⟨dw_same _, ?_⟩
  exact Goes.stop fun w₂ h₂ => by
    obtain ⟨d, rfl⟩ := h₂
    exact ⟨rfl, h₁⟩
set_option maxRecDepth 100000 in
set_option maxHeartbeats 4000000 in
theorem bs_b (A : Array Value) (cr te : ByteArray) (n : Int) (bM bC : Nat) (cs : List Frame) (H : Array Obj) (o : Os) (out : Array (Nat × ByteArray)) (w : World) (hI : HI H o out w) (hbC : H[bC]? = some (.cells #[.string cr] 9 (0, 0))) : ∃ mu, Goes Try.prog true AtRel DW (fun g w' => g = G (Frame.enter Try.prog 31 #[.string cr, .string te] .normal) ((base 13).at ⟨#[.agg A, .string cr, .string te, .int .i64 n, .pointer (some ⟨bM, 0, none⟩), .pointer (some ⟨bC, 0, none⟩), undef, undef, .slice none 0 0, .int .i64 0, .int .i64 0, undef, .agg A, .string cr, .string te, .int .i64 0, .int .i64 0, .bool false, undef, .string cr, .string te, undef, undef, undef, undef, undef, undef, undef], []⟩ [.inRegion bO4 (2 :: List.range' 3 2), .code bT5] :: cs) ∧ HI H o out w') mu (G ((base 13).at ⟨#[.agg A, .string cr, .string te, .int .i64 n, .pointer (some ⟨bM, 0, none⟩), .pointer (some ⟨bC, 0, none⟩), undef, undef, .slice none 0 0, .int .i64 0, undef, undef, .agg A, .string cr, .string te, .int .i64 0, undef, undef, undef, undef, undef, undef, undef, undef, undef, undef, undef, undef], []⟩ [.inRegion bO1 [4], .code bC2, .code bT4]) cs) w := by
  refine ⟨40, ?_⟩
  simp only [bO1, bC2, bT4, bT1, bB, Try.f13, Option.getD_some]
  refine gstep hI rfl (fun w₁ h₁ => ?_)
  refine goes_oper_k rfl rfl (by decide) (fun K hK => ?_)
  go_simp
  refine hK _ _ ⟨⟨by simp, fun e he => ?_⟩, ?_⟩
  · have hm := mem_listed he
    simp [go_sem] at hm
  clear hK K hI
  have hI := h₁
  clear h₁
  repeat (refine gstep hI rfl (fun w₁ h₁ => ?_); walk_rw; refine ⟨dw_same _, ?_⟩; clear hI; have hI := h₁; clear h₁)
  refine gstep hI rfl (fun w₁ h₁ => ?_)
  refine goes_oper_k rfl rfl (by decide) (fun K hK => ?_)
  go_simp
  refine hK _ _ ⟨⟨by simp, fun e he => ?_⟩, ?_⟩
  · have hm := mem_listed he
    simp [go_sem] at hm
  clear hK K hI
  have hI := h₁
  clear h₁
  refine gstep hI rfl (fun w₁ h₁ => ?_)
  refine goes_oper_k rfl rfl (by decide) (fun K hK => ?_)
  go_simp
  refine hK _ _ ⟨⟨by simp, fun e he => ?_⟩, ?_⟩
  · have hm := mem_listed he
    simp [go_sem] at hm
  clear hK K hI
  have hI := h₁
  clear h₁
  repeat (refine gstep hI rfl (fun w₁ h₁ => ?_); walk_rw; refine ⟨dw_same _, ?_⟩; clear hI; have hI := h₁; clear h₁)
  refine gstep hI rfl (fun w₁ h₁ => ?_)
  rw [stepG_cond (t := false) rfl]
  simp only [goes_go, Bool.false_eq_true, ↓reduceIte]
  refine ⟨dw_same _, ?_⟩
  clear hI
  have hI := h₁
  clear h₁
  repeat (refine gstep hI rfl (fun w₁ h₁ => ?_); walk_rw; refine ⟨dw_same _, ?_⟩; clear hI; have hI := h₁; clear h₁)
  refine gstep hI rfl (fun w₁ h₁ => ?_)
  refine goes_oper_k rfl rfl (by decide) (fun K hK => ?_)
  have hB : w₁.heap[bC]? = some (.cells #[.string cr] 9 (0, 0)) := by rw [h₁.1]; exact hbC
  have hbL : bC < w₁.heap.size := (Array.getElem?_eq_some_iff.1 hB).1
  have hC : w₁.cell? ⟨bC, 0, none⟩ = some (.string cr) := by rw [cell_of_row _ _ _ _ _ _ hB]; rfl
  go_simp
  refine hK _ _ ⟨⟨by simp, fun e he => ?_⟩, ?_⟩
  · have hm := mem_listed he
    simp [go_sem, hC] at hm
    subst hm
    exact ev_read ⟨rfl, rfl⟩ hbL
  clear hK K hI hC hbL hB
  have hI := h₁
  clear h₁
  refine gstep hI rfl (fun w₁ h₁ => ?_)
  refine goes_oper_k rfl rfl (by decide) (fun K hK => ?_)
  go_simp
  refine hK _ _ ⟨⟨by simp, fun e he => ?_⟩, ?_⟩
  · have hm := mem_listed he
    simp [go_sem] at hm
  clear hK K hI
  have hI := h₁
  clear h₁
  refine gstep hI rfl (fun w₁ h₁ => ?_)
  rw [stepG_enter (f := 31) (args := #[.string cr, .string te]) (w' := w₁) rfl rfl (by decide) (by simp [execOp, go_sem])]
  rw [listed_nil (by simp [go_sem, callFunc, Try.func31, Try.f31])]
  simp only [goes_go]
  refine ⟨dw_same _, ?_⟩
  exact Goes.stop fun w₂ h₂ => by
    obtain ⟨d, rfl⟩ := h₂
    exact ⟨rfl, h₁⟩
set_option maxRecDepth 100000 in
set_option maxHeartbeats 4000000 in
theorem bs_c (A : Array Value) (hA : A.size = 55) (cr te : ByteArray) (n : Int) (bM bC : Nat) (p : Addr) (cs : List Frame) (H : Array Obj) (o : Os) (out : Array (Nat × ByteArray)) (w : World) (hI : HI H o out w) (hM : H[bM]? = some (.cells A 27 (0, 0))) : ∃ mu, Goes Try.prog true AtRel DW (fun g w' => g = G ((base 32).at ⟨#[.agg A, .int .i64 n, .func (.func 33) #[] #[.pointer (some ⟨H.size, 0, none⟩), .pointer (some ⟨bC, 0, none⟩)], undef, undef, undef, undef, undef, undef, undef, undef, undef, undef, undef, undef, undef, undef, undef, undef, undef, undef, undef, undef, undef, undef, undef, undef, undef, undef, undef, undef, undef, undef, undef, undef, undef, undef, undef, undef, undef, undef, undef, undef, undef, undef, undef, undef, undef, undef, undef, undef, undef, undef], []⟩ [.code Hb.eBody]) ((base 13).at ⟨#[.agg A, .string cr, .string te, .int .i64 n, .pointer (some ⟨bM, 0, none⟩), .pointer (some ⟨bC, 0, none⟩), undef, undef, .slice none 0 0, .int .i64 0, .int .i64 0, .pointer (some ⟨H.size, 0, none⟩), .agg A, .string cr, .string te, .int .i64 0, .int .i64 0, .bool false, undef, .string cr, .string te, .pointer (some p), .agg A, .int .i64 n, .func (.func 33) #[] #[.pointer (some ⟨H.size, 0, none⟩), .pointer (some ⟨bC, 0, none⟩)], undef, undef, undef], []⟩ [.inRegion bO5 (3 :: List.range' 4 4), .code .ret] :: cs) ∧ HI (H.push (.cells #[.pointer (some p)] 74)) o out w') mu (G ((base 13).at ⟨#[.agg A, .string cr, .string te, .int .i64 n, .pointer (some ⟨bM, 0, none⟩), .pointer (some ⟨bC, 0, none⟩), undef, undef, .slice none 0 0, .int .i64 0, .int .i64 0, undef, .agg A, .string cr, .string te, .int .i64 0, .int .i64 0, .bool false, undef, .string cr, .string te, .pointer (some p), undef, undef, undef, undef, undef, undef], []⟩ [.inRegion bO4 [3, 4], .code bT5]) cs) w := by
  have hiA : (Try.prog.info? 27).map (·.size) = some A.size := by rw [hA]; exact v_info_mac
  have hzp : (Try.prog.info? 74).map (·.zero) = some (some (.pointer none)) := by kernel_rfl
  have hzq := o_zero hzp
  have hM' : (H.push (.cells #[.pointer (some p)] 74))[bM]? = some (.cells A 27 (0, 0)) := by
    have := (Array.getElem?_eq_some_iff.1 hM).1
    rw [Array.getElem?_push, if_neg (by omega)]
    exact hM
  refine ⟨40, ?_⟩
  simp only [bO4, bT5, bT4, bT1, bB, Try.f13, Option.getD_some]
  refine gstep hI rfl (fun w₁ h₁ => ?_)
  refine goes_oper_k rfl rfl (by decide) (fun K hK => ?_)
  go_simp
  refine hK _ _ ⟨⟨by simp, fun e he => ?_⟩, ?_⟩
  · have hm := mem_listed he
    simp [go_sem] at hm
  clear hK K hI
  have hI := h₁.alloc (.cells #[.pointer none] 74)
  rw [h₁.1]
  clear h₁
  refine gstep hI rfl (fun w₁ h₁ => ?_)
  refine goes_oper_k rfl rfl (by decide) (fun K hK => ?_)
  have hB : w₁.heap[H.size]? = some (.cells #[.pointer none] 74 (0, 0)) := by rw [h₁.1, Array.getElem?_push, if_pos rfl]
  have hbL : H.size < w₁.heap.size := (Array.getElem?_eq_some_iff.1 hB).1
  have hC : w₁.cell? ⟨H.size, 0, none⟩ = some (.pointer none) := by rw [cell_of_row _ _ _ _ _ _ hB]; rfl
  have hF : w₁.frozen? ⟨H.size, 0, none⟩ = false := frozen_of_row w₁ H.size _ _ _ hB
  have hs := set1_size (W := w₁) (u := .pointer (some p)) hB
  go_simp
  refine hK _ _ ⟨⟨by rw [hs]; exact Nat.le_refl _, fun e he => ?_⟩, ?_⟩
  · have hm := mem_listed he
    simp [go_sem, ev_store_p, hC, hF] at hm
    subst hm
    rw [hs]
    exact ev_cell' rfl hbL
  clear hK K hI hC hF hbL hB hs
  have hI := h₁.set1 (u := .pointer (some p))
  clear h₁
  repeat (refine gstep hI rfl (fun w₁ h₁ => ?_); walk_rw; refine ⟨dw_same _, ?_⟩; clear hI; have hI := h₁; clear h₁)
  refine gstep hI rfl (fun w₁ h₁ => ?_)
  have hWr := show w₁.heap[bM]? = some (.cells A 27 (0, 0)) from by rw [h₁.1]; exact hM'
  rw [stepG_value (v := .agg A) (w' := w₁) rfl rfl (by decide) (run_exec_load rfl rfl (ld_row hWr Try.underlying27 rfl hiA))]
  simp only [goes_go]
  refine ⟨⟨Nat.le_refl _, fun e he => ev_row hWr Try.underlying27 rfl hiA e (by have hm := mem_listed he; rw [events_exec_load rfl rfl] at hm; exact hm)⟩, ?_⟩
  clear hWr hI
  have hI := h₁
  clear h₁
  refine gstep hI rfl (fun w₁ h₁ => ?_)
  refine goes_oper_k rfl rfl (by decide) (fun K hK => ?_)
  go_simp
  refine hK _ _ ⟨⟨by simp, fun e he => ?_⟩, ?_⟩
  · have hm := mem_listed he
    simp [go_sem] at hm
  clear hK K hI
  have hI := h₁
  clear h₁
  refine gstep hI rfl (fun w₁ h₁ => ?_)
  refine goes_oper_k rfl rfl (by decide) (fun K hK => ?_)
  go_simp
  refine hK _ _ ⟨⟨by simp, fun e he => ?_⟩, ?_⟩
  · have hm := mem_listed he
    simp [go_sem] at hm
  clear hK K hI
  have hI := h₁
  clear h₁
  refine gstep hI rfl (fun w₁ h₁ => ?_)
  refine goes_call rfl rfl (by decide) rfl Try.func32 (by kernel_rfl) rfl ?_
  refine ⟨dw_same _, ?_⟩
  exact Goes.stop fun w₂ h₂ => by
    obtain ⟨d, rfl⟩ := h₂
    refine ⟨?_, h₁⟩
    have e1 : ∀ (a : Act), a.eval (.tmp 22) = .agg A → a.eval (.tmp 23) = .int .i64 n → a.eval (.tmp 24) = .func (.func 33) #[] #[.pointer (some ⟨H.size, 0, none⟩), .pointer (some ⟨bC, 0, none⟩)] → (#[Operand.tmp 22, .tmp 23, .tmp 24].map a.eval ++ Array.replicate (Try.f32.ntmps - (#[Operand.tmp 22, .tmp 23, .tmp 24].map a.eval).size) undef) = #[.agg A, .int .i64 n, .func (.func 33) #[] #[.pointer (some ⟨H.size, 0, none⟩), .pointer (some ⟨bC, 0, none⟩)], undef, undef, undef, undef, undef, undef, undef, undef, undef, undef, undef, undef, undef, undef, undef, undef, undef, undef, undef, undef, undef, undef, undef, undef, undef, undef, undef, undef, undef, undef, undef, undef, undef, undef, undef, undef, undef, undef, undef, undef, undef, undef, undef, undef, undef, undef, undef, undef, undef, undef] := fun a k0 k1 k2 => by
      simp [k0, k1, k2, Array.replicate, List.replicate]
    rw [e1 _ rfl rfl rfl]
    rfl
end Go.Proofs.Ytbbpbcmpemmgjaa
