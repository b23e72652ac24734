/-
  Several texts, joined: FdL, FdK, FdM, FdN, FdO.
-/
import Derived.Test.YthfjkhmedpilnaaJn28
import Derived.Deep.MidRow
import Derived.Conc.AppendEvents3
/-
  What goroutine 0 lists when it loads a row.
-/
namespace Go.Proofs.Ythfjkhmedpilnaa
open Go.RowKit PK Vg Go.Conc Cs
theorem ev_read {s : Nat} {a : Addr} {e : Event} (h : e.loc = .cell a ∧ e.write = false) (ha : a.block < s)  : EvW s e := by
  obtain ⟨l, w, at1⟩ := e
  obtain ⟨h1, h2⟩ := h
  dsimp only at h1 h2
  subst h1 h2
  cases at1
  all_goals exact ⟨fun x e => (by cases e; exact ha), fun m e => by cases e⟩
theorem ev_row {W : World} {b : Nat} {T : TypeId} {A : Array Value} {TB : TypeId} {fr : Nat × Nat} {d : TypeDesc} (hW : W.heap[b]? = some (.cells A TB fr)) (hu : Try.prog.underlying T = some d) (hd : d.isRow = true) (hi : (Try.prog.info? T).map (·.size) = some A.size) :
    ∀ e ∈ (Instr.loadAt T (.pointer (some ⟨b, 0, none⟩))).events Try.prog W #[], EvW W.heap.size e := fun e he => by
  obtain ⟨i, hi1, hi2⟩ := Option.map_eq_some_iff.1 hi
  have hb : b < W.heap.size := (Array.getElem?_eq_some_iff.1 hW).1
  have hc := events_loadCellsFrom_at (P := Try.prog) ⟨b, 0, none⟩ (fun q => q < W.heap.size) hb A.size 0 #[] W #[] (fun j hj => by
    rw [Addr.add_lit, cell_of_row _ _ _ _ _ _ hW]
    simp [hj])
  cases d with
  | struct fs =>
    simp [Instr.loadAt, Instr.sureAddr, loadVar, isAgg, go_sem, underlying, sizeOf, typeInfo, loadCells, hu, hi1, hi2] at he
    rcases hc e he with h | ⟨ad, h1, h2, h3⟩
    · simp at h
    · exact ev_read ⟨h1, h2⟩ h3
  | array n el =>
    simp [Instr.loadAt, Instr.sureAddr, loadVar, isAgg, go_sem, underlying, sizeOf, typeInfo, loadCells, hu, hi1, hi2] at he
    rcases hc e he with h | ⟨ad, h1, h2, h3⟩
    · simp at h
    · exact ev_read ⟨h1, h2⟩ h3
  | _ => cases hd
/-- A row that lies whole is loaded. -/
theorem ld_row {W : World} {b : Nat} {T : TypeId} {A : Array Value} {TB : TypeId} {fr : Nat × Nat} {d : TypeDesc} (hW : W.heap[b]? = some (.cells A TB fr)) (hu : Try.prog.underlying T = some d) (hd : d.isRow = true) (hi : (Try.prog.info? T).map (·.size) = some A.size) : (Instr.loadAt T (.pointer (some ⟨b, 0, none⟩))).run Try.prog W = .ok (.agg A) W := by
  have h := run_loadAt_mid (P := Try.prog) W b 0 T A.toList d (fun j v hj => by rw [Nat.zero_add, cell_of_row _ _ _ _ _ _ hW, ← Array.getElem?_toList]; exact hj) hu hd (by rw [hi]; simp)
  simpa using h
/-- What a walk of goroutine 0 holds of the world. -/
def HI (H : Array Obj) (o : Os) (out : Array (Nat × ByteArray)) (W : World) : Prop := W.heap = H ∧ W.os = o ∧ W.output = out
theorem HI.at' {H : Array Obj} {o : Os} {out : Array (Nat × ByteArray)} {W : World} (h : HI H o out W) (d : Nat) : HI H o out (W.at d) := h
theorem HI.alloc {H : Array Obj} {o : Os} {out : Array (Nat × ByteArray)} {W : World} (h : HI H o out W) (x : Obj) : HI (H.push x) o out (W.alloc x) := ⟨by show W.heap.push x = _; rw [h.1], h.2.1, h.2.2⟩
theorem gstep {Stp : Goroutine → World → Prop} {H : Array Obj} {o : Os} {out : Array (Nat × ByteArray)} {mu : Nat} {g : Goroutine} {w : World} (hI : HI H o out w) (hs : g.status = .running) (h : ∀ w₁, HI H o out w₁ → (stepG Try.prog true g w₁).goes fun g' w' es => DW w₁ w' es ∧ Goes Try.prog true AtRel DW Stp mu g' w') : Goes Try.prog true AtRel DW Stp (mu + 1) g w :=
  Goes.step hs fun w₁ h₁ => by
    obtain ⟨d, rfl⟩ := h₁
    exact h _ (hI.at' d)
theorem dw_same (w : World) : DW w w #[] := ⟨Nat.le_refl _, fun e he => by simp at he⟩
end Go.Proofs.Ythfjkhmedpilnaa

/-
  The walk ahead of the pool: the law to the call of Find.
-/
namespace Go.Proofs.Ythfjkhmedpilnaa
open Go.RowKit PK Vg Go.Conc Cs
end Go.Proofs.Ythfjkhmedpilnaa

/-
  The walk ahead of the pool: Find to the call of Every.
-/
namespace Go.Proofs.Ythfjkhmedpilnaa
open Go.RowKit PK Vg Go.Conc Cs
set_option maxRecDepth 100000 in
set_option maxHeartbeats 4000000 in
theorem find_head (A B : Array Value) (hA : A.size = 55) (h : Int) (cs : List Frame) (H : Array Obj) (o : Os) (out : Array (Nat × ByteArray)) (w : World) (hI : HI H o out w) : ∃ mu, Goes Try.prog true AtRel DW (fun g w' => g = G ((base 19).at ⟨#[.agg A, .int .i64 h, .func (.func 20) #[] #[.pointer (some ⟨H.size + 1, 0, none⟩)], undef, undef, undef, undef, undef, undef, undef, undef, undef, undef, undef, undef, undef, undef, undef, undef, undef, undef, undef, undef, undef, undef, undef, undef, undef, undef, undef, undef, undef, undef, undef, undef, undef, undef, undef, undef, undef, undef, undef, undef, undef, undef, undef, undef, undef, undef, undef, undef, undef, undef], []⟩ [.code eBody]) ((base 7).at ⟨#[.agg A, .agg B, .int .i64 h, .pointer (some ⟨H.size, 0, none⟩), .pointer (some ⟨H.size + 1, 0, none⟩), undef, .slice none 0 0, .int .i64 0, .agg A, .int .i64 h, .func (.func 20) #[] #[.pointer (some ⟨H.size + 1, 0, none⟩)], undef, undef, undef], []⟩ [.inRegion fO1 (3 :: List.range' 4 4), .code .ret] :: cs) ∧ HI ((H.push (.cells A 27)).push (.cells B 28)) o out w') mu (G ((base 7).at ⟨#[.agg A, .agg B, .int .i64 h, undef, undef, undef, undef, undef, undef, undef, undef, undef, undef, undef], []⟩ [.code fB]) cs) w := by
  have hiA : (Try.prog.info? 27).map (·.size) = some A.size := by rw [hA]; exact v_info_mac
  refine ⟨40, ?_⟩
  simp only [fB, Try.f7, Option.getD_some]
  repeat (refine gstep hI rfl (fun w₁ h₁ => ?_); walk_rw; refine ⟨dw_same _, ?_⟩; clear hI; have hI := h₁; clear h₁)
  refine gstep hI rfl (fun w₁ h₁ => ?_)
  refine goes_oper_k rfl rfl (by decide) (fun K hK => ?_)
  go_simp
  refine hK _ _ ⟨⟨by simp, fun e he => ?_⟩, ?_⟩
  · have hm := mem_listed he
    simp [go_sem] at hm
  clear hK K hI
  have hI := h₁.alloc (.cells A 27)
  rw [h₁.1]
  clear h₁
  refine gstep hI rfl (fun w₁ h₁ => ?_)
  refine goes_oper_k rfl rfl (by decide) (fun K hK => ?_)
  go_simp
  refine hK _ _ ⟨⟨by simp, fun e he => ?_⟩, ?_⟩
  · have hm := mem_listed he
    simp [go_sem] at hm
  clear hK K hI
  have hI := h₁.alloc (.cells B 28)
  rw [h₁.1]
  clear h₁
  simp only [Array.size_push]
  refine gstep hI rfl (fun w₁ h₁ => ?_)
  refine goes_oper_k rfl rfl (by decide) (fun K hK => ?_)
  go_simp
  refine hK _ _ ⟨⟨by simp, fun e he => ?_⟩, ?_⟩
  · have hm := mem_listed he
    simp [go_sem] at hm
  clear hK K hI
  have hI := h₁
  clear h₁
  refine gstep hI rfl (fun w₁ h₁ => ?_)
  refine goes_oper_k rfl rfl (by decide) (fun K hK => ?_)
  go_simp
  refine hK _ _ ⟨⟨by simp, fun e he => ?_⟩, ?_⟩
  · have hm := mem_listed he
    simp [go_sem] at hm
  clear hK K hI
  have hI := h₁
  clear h₁
  repeat (refine gstep hI rfl (fun w₁ h₁ => ?_); walk_rw; refine ⟨dw_same _, ?_⟩; clear hI; have hI := h₁; clear h₁)
  refine gstep hI rfl (fun w₁ h₁ => ?_)
  have hWr := show w₁.heap[H.size]? = some (.cells A 27 (0, 0)) from by rw [h₁.1, Array.getElem?_push, if_neg (by simp), Array.getElem?_push, if_pos rfl]
  rw [stepG_value (v := .agg A) (w' := w₁) rfl rfl (by decide) (run_exec_load rfl rfl (ld_row hWr Try.underlying27 rfl hiA))]
  simp only [goes_go]
  refine ⟨⟨Nat.le_refl _, fun e he => ev_row hWr Try.underlying27 rfl hiA e (by have hm := mem_listed he; rw [events_exec_load rfl rfl] at hm; exact hm)⟩, ?_⟩
  clear hWr hI
  have hI := h₁
  clear h₁
  refine gstep hI rfl (fun w₁ h₁ => ?_)
  refine goes_oper_k rfl rfl (by decide) (fun K hK => ?_)
  go_simp
  refine hK _ _ ⟨⟨by simp, fun e he => ?_⟩, ?_⟩
  · have hm := mem_listed he
    simp [go_sem] at hm
  clear hK K hI
  have hI := h₁
  clear h₁
  refine gstep hI rfl (fun w₁ h₁ => ?_)
  refine goes_oper_k rfl rfl (by decide) (fun K hK => ?_)
  go_simp
  refine hK _ _ ⟨⟨by simp, fun e he => ?_⟩, ?_⟩
  · have hm := mem_listed he
    simp [go_sem] at hm
  clear hK K hI
  have hI := h₁
  clear h₁
  refine gstep hI rfl (fun w₁ h₁ => ?_)
  refine goes_call rfl rfl (by decide) rfl Try.func19 (by kernel_rfl) rfl ?_
  refine ⟨dw_same _, ?_⟩
  exact Goes.stop fun w₂ h₂ => by
    obtain ⟨d, rfl⟩ := h₂
    refine ⟨?_, h₁⟩
    have e1 : ∀ (a : Act), a.eval (.tmp 8) = .agg A → a.eval (.tmp 9) = .int .i64 h → a.eval (.tmp 10) = .func (.func 20) #[] #[.pointer (some ⟨H.size + 1, 0, none⟩)] → (#[Operand.tmp 8, .tmp 9, .tmp 10].map a.eval ++ Array.replicate (Try.f19.ntmps - (#[Operand.tmp 8, .tmp 9, .tmp 10].map a.eval).size) undef) = #[.agg A, .int .i64 h, .func (.func 20) #[] #[.pointer (some ⟨H.size + 1, 0, none⟩)], undef, undef, undef, undef, undef, undef, undef, undef, undef, undef, undef, undef, undef, undef, undef, undef, undef, undef, undef, undef, undef, undef, undef, undef, undef, undef, undef, undef, undef, undef, undef, undef, undef, undef, undef, undef, undef, undef, undef, undef, undef, undef, undef, undef, undef, undef, undef, undef, undef, undef] := fun a k0 k1 k2 => by
      simp [k0, k1, k2, Array.replicate, List.replicate]
    rw [e1 _ rfl rfl rfl]
    rfl
end Go.Proofs.Ythfjkhmedpilnaa

/-
  The walk ahead of the pool: Every to the call of searchWrong.
-/
namespace Go.Proofs.Ythfjkhmedpilnaa
open Go.RowKit PK Vg Go.Conc Cs
noncomputable def eX1 : Code := match eBody with | .seq _ r => r | _ => .skip
noncomputable def eX2 : Code := match eX1 with | .seq _ r => r | _ => .skip
noncomputable def eX3 : Code := match eX1 with | .seq (.seq _ r) _ => r | _ => .skip
noncomputable def eO1 : Array Oper := match eX1 with | .seq (.seq (.region _ o _) _) _ => o | _ => #[]
set_option maxRecDepth 100000 in
set_option maxHeartbeats 4000000 in
theorem every_head (A : Array Value) (hA : A.size = 55) (h : Int) (f : FuncId) (c1 c2 : Array Value) (cs : List Frame) (H : Array Obj) (o : Os) (out : Array (Nat × ByteArray)) (w : World) (hI : HI H o out w) : ∃ mu, Goes Try.prog true AtRel DW (fun g w' => g = G (Frame.enter Try.prog 48 #[.agg A, .int .i64 h] .normal) ((base 19).at ⟨#[.agg A, .int .i64 h, .func (.func f) c1 c2, .pointer (some ⟨H.size, 0, none⟩), undef, .pointer (some ⟨H.size + 1, 0, none⟩), .slice none 0 0, .int .i64 0, undef, undef, undef, undef, undef, undef, undef, undef, .agg A, .int .i64 h, undef, undef, undef, undef, undef, undef, undef, undef, undef, undef, undef, undef, undef, undef, undef, undef, undef, undef, undef, undef, undef, undef, undef, undef, undef, undef, undef, undef, undef, undef, undef, undef, undef, undef, undef], []⟩ [.inRegion eO1 (2 :: List.range' 3 1), .code eX3, .code eX2] :: cs) ∧ HI ((H.push (.cells A 27)).push (.cells #[.func (.func f) c1 c2] 58)) o out w') mu (G ((base 19).at ⟨#[.agg A, .int .i64 h, .func (.func f) c1 c2, undef, undef, undef, undef, undef, undef, undef, undef, undef, undef, undef, undef, undef, undef, undef, undef, undef, undef, undef, undef, undef, undef, undef, undef, undef, undef, undef, undef, undef, undef, undef, undef, undef, undef, undef, undef, undef, undef, undef, undef, undef, undef, undef, undef, undef, undef, undef, undef, undef, undef], []⟩ [.code eBody]) cs) w := by
  have hiA : (Try.prog.info? 27).map (·.size) = some A.size := by rw [hA]; exact v_info_mac
  refine ⟨40, ?_⟩
  simp only [eBody, Try.f19, Option.getD_some]
  repeat (refine gstep hI rfl (fun w₁ h₁ => ?_); walk_rw; refine ⟨dw_same _, ?_⟩; clear hI; have hI := h₁; clear h₁)
  refine gstep hI rfl (fun w₁ h₁ => ?_)
  refine goes_oper_k rfl rfl (by decide) (fun K hK => ?_)
  go_simp
  refine hK _ _ ⟨⟨by simp, fun e he => ?_⟩, ?_⟩
  · have hm := mem_listed he
    simp [go_sem] at hm
  clear hK K hI
  have hI := h₁.alloc (.cells A 27)
  rw [h₁.1]
  clear h₁
  refine gstep hI rfl (fun w₁ h₁ => ?_)
  refine goes_oper_k rfl rfl (by decide) (fun K hK => ?_)
  go_simp
  refine hK _ _ ⟨⟨by simp, fun e he => ?_⟩, ?_⟩
  · have hm := mem_listed he
    simp [go_sem] at hm
  clear hK K hI
  have hI := h₁.alloc (.cells #[.func (.func f) c1 c2] 58)
  rw [h₁.1]
  clear h₁
  simp only [Array.size_push]
  refine gstep hI rfl (fun w₁ h₁ => ?_)
  refine goes_oper_k rfl rfl (by decide) (fun K hK => ?_)
  go_simp
  refine hK _ _ ⟨⟨by simp, fun e he => ?_⟩, ?_⟩
  · have hm := mem_listed he
    simp [go_sem] at hm
  clear hK K hI
  have hI := h₁
  clear h₁
  refine gstep hI rfl (fun w₁ h₁ => ?_)
  refine goes_oper_k rfl rfl (by decide) (fun K hK => ?_)
  go_simp
  refine hK _ _ ⟨⟨by simp, fun e he => ?_⟩, ?_⟩
  · have hm := mem_listed he
    simp [go_sem] at hm
  clear hK K hI
  have hI := h₁
  clear h₁
  repeat (refine gstep hI rfl (fun w₁ h₁ => ?_); walk_rw; refine ⟨dw_same _, ?_⟩; clear hI; have hI := h₁; clear h₁)
  refine gstep hI rfl (fun w₁ h₁ => ?_)
  have hWr := show w₁.heap[H.size]? = some (.cells A 27 (0, 0)) from by rw [h₁.1, Array.getElem?_push, if_neg (by simp), Array.getElem?_push, if_pos rfl]
  rw [stepG_value (v := .agg A) (w' := w₁) rfl rfl (by decide) (run_exec_load rfl rfl (ld_row hWr Try.underlying27 rfl hiA))]
  simp only [goes_go]
  refine ⟨⟨Nat.le_refl _, fun e he => ev_row hWr Try.underlying27 rfl hiA e (by have hm := mem_listed he; rw [events_exec_load rfl rfl] at hm; exact hm)⟩, ?_⟩
  clear hWr hI
  have hI := h₁
  clear h₁
  refine gstep hI rfl (fun w₁ h₁ => ?_)
  refine goes_oper_k rfl rfl (by decide) (fun K hK => ?_)
  go_simp
  refine hK _ _ ⟨⟨by simp, fun e he => ?_⟩, ?_⟩
  · have hm := mem_listed he
    simp [go_sem] at hm
  clear hK K hI
  have hI := h₁
  clear h₁
  refine gstep hI rfl (fun w₁ h₁ => ?_)
  rw [stepG_enter (f := 48) (args := #[.agg A, .int .i64 h]) (w' := w₁) rfl rfl (by decide) (by simp [execOp, go_sem])]
  rw [listed_nil (by simp [go_sem, callFunc, Try.func48, Try.f48])]
  simp only [goes_go]
  refine ⟨dw_same _, ?_⟩
  exact Goes.stop fun w₂ h₂ => by
    obtain ⟨d, rfl⟩ := h₂
    exact ⟨rfl, h₁⟩
end Go.Proofs.Ythfjkhmedpilnaa

/-
  The walk ahead of the pool: Every behind searchWrong, to where it makes its channels.
-/
namespace Go.Proofs.Ythfjkhmedpilnaa
open Go.RowKit PK Vg Go.Conc Cs
noncomputable def eX4 : Code := match eX2 with | .seq _ (.seq _ r) => r | _ => .skip
noncomputable def eO6 : Array Oper := match eX2 with | .seq _ (.seq (.region _ o _) _) => o | _ => #[]
noncomputable def eR7 : Code := match eX4 with | .seq a _ => a | _ => .skip
noncomputable def eO7 : Array Oper := match eX4 with | .seq (.region _ o _) _ => o | _ => #[]
theorem ev_eq (d : Nat) (f : FuncId) (c1 c2 : Array Value) (w : World) (es : Array Event) : Sem.events Try.prog (Op.equalIn (d + 1) 58 (.func (.func f) c1 c2) .nilFunc) w es = es := by
  unfold Op.equalIn
  simp [go_sem, underlying, Try.underlying58]
theorem ev_nil (f : FuncId) (c1 c2 : Array Value) (w : World) : Sem.events Try.prog (binOp .eql 58 (.func (.func f) c1 c2) .nilFunc) w #[] = #[] := by
  obtain ⟨d, hd⟩ : ∃ d, Op.maxDepth = d + 1 := ⟨9999, rfl⟩
  have h1 := ev_eq d f c1 c2 w #[]
  unfold binOp Op.equal
  rw [hd]
  simp [go_sem, h1]
set_option maxRecDepth 100000 in
set_option maxHeartbeats 4000000 in
theorem every_a (A : Array Value) (n : Nat) (f : FuncId) (c1 c2 : Array Value) (bM bL : Nat) (cs : List Frame) (H : Array Obj) (o : Os) (out : Array (Nat × ByteArray)) (w : World) (hI : HI H o out w) (hL : H[bL]? = some (.cells #[.func (.func f) c1 c2] 58 (0, 0))) : ∃ mu, Goes Try.prog true AtRel DW (fun g w' => g = G ((base 19).at ⟨#[.agg A, .int .i64 (n : Nat), .func (.func f) c1 c2, .pointer (some ⟨bM, 0, none⟩), undef, .pointer (some ⟨bL, 0, none⟩), .slice none 0 0, .int .i64 0, .int .i64 0, undef, undef, undef, undef, undef, undef, undef, .agg A, .int .i64 (n : Nat), .int .i64 0, .int .i64 0, .bool false, undef, .func (.func f) c1 c2, .bool false, undef, undef, undef, undef, undef, undef, undef, undef, undef, undef, undef, undef, undef, undef, undef, undef, undef, undef, undef, undef, undef, undef, undef, undef, undef, undef, undef, undef, undef], []⟩ [.inRegion eO6 [0], .code eX4]) cs ∧ HI H o out w') mu (G ((base 19).at ⟨#[.agg A, .int .i64 (n : Nat), .func (.func f) c1 c2, .pointer (some ⟨bM, 0, none⟩), undef, .pointer (some ⟨bL, 0, none⟩), .slice none 0 0, .int .i64 0, undef, undef, undef, undef, undef, undef, undef, undef, .agg A, .int .i64 (n : Nat), .int .i64 0, undef, undef, undef, undef, undef, undef, undef, undef, undef, undef, undef, undef, undef, undef, undef, undef, undef, undef, undef, undef, undef, undef, undef, undef, undef, undef, undef, undef, undef, undef, undef, undef, undef, undef], []⟩ [.inRegion eO1 [3], .code eX3, .code eX2]) cs) w := by
  refine ⟨60, ?_⟩
  simp only [eO1, eX3, eX2, eX1, eBody, Try.f19, Option.getD_some]
  refine gstep hI rfl (fun w₁ h₁ => ?_)
  refine goes_oper_k rfl rfl (by decide) (fun K hK => ?_)
  go_simp
  refine hK _ _ ⟨⟨by simp, fun e he => ?_⟩, ?_⟩
  · have hm := mem_listed he
    simp [go_sem] at hm
  clear hK K hI
  have hI := h₁
  clear h₁
  repeat (refine gstep hI rfl (fun w₁ h₁ => ?_); walk_rw; refine ⟨dw_same _, ?_⟩; clear hI; have hI := h₁; clear h₁)
  refine gstep hI rfl (fun w₁ h₁ => ?_)
  refine goes_oper_k rfl rfl (by decide) (fun K hK => ?_)
  go_simp
  refine hK _ _ ⟨⟨by simp, fun e he => ?_⟩, ?_⟩
  · have hm := mem_listed he
    simp [go_sem] at hm
  clear hK K hI
  have hI := h₁
  clear h₁
  refine gstep hI rfl (fun w₁ h₁ => ?_)
  refine goes_oper_k rfl rfl (by decide) (fun K hK => ?_)
  go_simp
  refine hK _ _ ⟨⟨by simp, fun e he => ?_⟩, ?_⟩
  · have hm := mem_listed he
    simp [go_sem] at hm
  clear hK K hI
  have hI := h₁
  clear h₁
  repeat (refine gstep hI rfl (fun w₁ h₁ => ?_); walk_rw; refine ⟨dw_same _, ?_⟩; clear hI; have hI := h₁; clear h₁)
  refine gstep hI rfl (fun w₁ h₁ => ?_)
  rw [stepG_cond (t := false) rfl]
  simp only [goes_go, Bool.false_eq_true, ↓reduceIte]
  refine ⟨dw_same _, ?_⟩
  clear hI
  have hI := h₁
  clear h₁
  repeat (refine gstep hI rfl (fun w₁ h₁ => ?_); walk_rw; refine ⟨dw_same _, ?_⟩; clear hI; have hI := h₁; clear h₁)
  refine gstep hI rfl (fun w₁ h₁ => ?_)
  refine goes_oper_k rfl rfl (by decide) (fun K hK => ?_)
  have hbL : bL < w₁.heap.size := by rw [h₁.1]; exact (Array.getElem?_eq_some_iff.1 hL).1
  have hC : w₁.cell? ⟨bL, 0, none⟩ = some (.func (.func f) c1 c2) := by
    have h2 : w₁.heap[bL]? = some (.cells #[.func (.func f) c1 c2] 58 (0, 0)) := (by rw [h₁.1]; exact hL)
    rw [cell_of_row _ _ _ _ _ _ h2]
    rfl
  go_simp
  refine hK _ _ ⟨⟨by simp, fun e he => ?_⟩, ?_⟩
  · have hm := mem_listed he
    simp [go_sem, hC] at hm
    subst hm
    exact ev_read ⟨rfl, rfl⟩ hbL
  clear hK K hI hC hbL
  have hI := h₁
  clear h₁
  refine gstep hI rfl (fun w₁ h₁ => ?_)
  refine goes_oper_k rfl rfl (by decide) (fun K hK => ?_)
  go_simp
  refine hK _ _ ⟨⟨by simp, fun e he => ?_⟩, ?_⟩
  · have hm := mem_listed he
    simp [go_sem] at hm
    rw [ev_nil] at hm
    simp at hm
  clear hK K hI
  have hI := h₁
  clear h₁
  repeat (refine gstep hI rfl (fun w₁ h₁ => ?_); walk_rw; refine ⟨dw_same _, ?_⟩; clear hI; have hI := h₁; clear h₁)
  refine gstep hI rfl (fun w₁ h₁ => ?_)
  rw [stepG_cond (t := false) rfl]
  simp only [goes_go, Bool.false_eq_true, ↓reduceIte]
  refine ⟨dw_same _, ?_⟩
  clear hI
  have hI := h₁
  clear h₁
  repeat (refine gstep hI rfl (fun w₁ h₁ => ?_); walk_rw; refine ⟨dw_same _, ?_⟩; clear hI; have hI := h₁; clear h₁)
  exact Goes.stop fun w₂ h₂ => by
    obtain ⟨d, rfl⟩ := h₂
    exact ⟨rfl, hI⟩
/-- What a step of goroutine 0's keeps that does not touch block Fd. -/
def DN (Fd : Nat) (w w' : World) (es : Array Event) : Prop := w.heap.size ≤ w'.heap.size ∧ ∀ e ∈ es, EvW w'.heap.size e ∧ ∀ x, (MemAct.ofEvent e).touch? = some x → ∀ ad, x.loc = .cell ad → ad.block ≠ Fd
theorem dn_same {Fd : Nat} (w : World) : DN Fd w w #[] := ⟨Nat.le_refl _, fun e he => by simp at he⟩
theorem gstepN {Fd : Nat} {Stp : Goroutine → World → Prop} {H : Array Obj} {o : Os} {out : Array (Nat × ByteArray)} {mu : Nat} {g : Goroutine} {w : World} (hI : HI H o out w) (hs : g.status = .running) (h : ∀ w₁, HI H o out w₁ → (stepG Try.prog true g w₁).goes fun g' w' es => DN Fd w₁ w' es ∧ Goes Try.prog true AtRel (DN Fd) Stp mu g' w') : Goes Try.prog true AtRel (DN Fd) Stp (mu + 1) g w :=
  Goes.step hs fun w₁ h₁ => by
    obtain ⟨d, rfl⟩ := h₁
    exact h _ (hI.at' d)
set_option maxRecDepth 100000 in
set_option maxHeartbeats 4000000 in
theorem every_a2 (Fd : Nat) (A : Array Value) (n : Nat) (f : FuncId) (c1 c2 : Array Value) (bM bL : Nat) (cs : List Frame) (H : Array Obj) (o : Os) (out : Array (Nat × ByteArray)) (w : World) (hI : HI H o out w) : ∃ mu, Goes Try.prog true AtRel (DN Fd) (fun g w' => g = G ((base 19).at ⟨#[.agg A, .int .i64 (n : Nat), .func (.func f) c1 c2, .pointer (some ⟨bM, 0, none⟩), undef, .pointer (some ⟨bL, 0, none⟩), .slice none 0 0, .int .i64 0, .int .i64 0, .pointer (some ⟨H.size, 0, none⟩), undef, undef, undef, undef, undef, undef, .agg A, .int .i64 (n : Nat), .int .i64 0, .int .i64 0, .bool false, undef, .func (.func f) c1 c2, .bool false, undef, undef, undef, undef, undef, undef, undef, undef, undef, undef, undef, undef, undef, undef, undef, undef, undef, undef, undef, undef, undef, undef, undef, undef, undef, undef, undef, undef, undef], []⟩ [.code eR7, .code eT1]) cs ∧ HI (H.push (.cells (tab 26 fun _ => .slice none 0 0) 94)) o out w') mu (G ((base 19).at ⟨#[.agg A, .int .i64 (n : Nat), .func (.func f) c1 c2, .pointer (some ⟨bM, 0, none⟩), undef, .pointer (some ⟨bL, 0, none⟩), .slice none 0 0, .int .i64 0, .int .i64 0, undef, undef, undef, undef, undef, undef, undef, .agg A, .int .i64 (n : Nat), .int .i64 0, .int .i64 0, .bool false, undef, .func (.func f) c1 c2, .bool false, undef, undef, undef, undef, undef, undef, undef, undef, undef, undef, undef, undef, undef, undef, undef, undef, undef, undef, undef, undef, undef, undef, undef, undef, undef, undef, undef, undef, undef], []⟩ [.inRegion eO6 [0], .code eX4]) cs) w := by
  have hz26 : (Try.prog.info? 94).map (·.zero) = some (some (.agg (tab 26 fun _ => .slice none 0 0))) := by kernel_rfl
  refine ⟨60, ?_⟩
  simp only [eO6, eX4, eX2, eX1, eBody, Try.f19, Option.getD_some]
  refine gstepN hI rfl (fun w₁ h₁ => ?_)
  refine goes_oper_k rfl rfl (by decide) (fun K hK => ?_)
  go_simp
  refine hK _ _ ⟨⟨by simp, fun e he => ?_⟩, ?_⟩
  · have hm := mem_listed he
    simp [go_sem] at hm
  clear hK K hI
  have hI := h₁.alloc (.cells (tab 26 fun _ => .slice none 0 0) 94)
  rw [h₁.1]
  clear h₁
  repeat (refine gstepN hI rfl (fun w₁ h₁ => ?_); walk_rw; refine ⟨dn_same _, ?_⟩; clear hI; have hI := h₁; clear h₁)
  exact Goes.stop fun w₂ h₂ => by
    obtain ⟨d, rfl⟩ := h₂
    exact ⟨rfl, hI⟩

end Go.Proofs.Ythfjkhmedpilnaa
