/-
  TeleBest in company: the law's own walk between its calls.
-/
import Derived.Test.YtpdemelchhkfaaaJn36
import Derived.Test.YtpdemelchhkfaaaTgR
import Derived.Test.YtpdemelchhkfaaaJn37
namespace Go.Proofs.Ytpdemelchhkfaaa
open Go.Conc Go.RowKit PK Tl Cs
noncomputable def lbO1 : Array Oper := match restAt 1 lbB with | .seq (.seq (.region _ o _) _) _ => o | _ => #[]
noncomputable def lbC1 : Code := match restAt 1 lbB with | .seq (.seq _ c) _ => c | _ => .skip
noncomputable def lbO3 : Array Oper := match restAt 2 lbB with | .seq (.region _ o _) _ => o | _ => #[]
noncomputable def alB : Code := Try.f9.body.getD .skip
theorem enter_lb (av aa ab : Option Addr) (n la lb cv ca cb : Nat) (h o x y : Int) : Frame.enter Try.prog 4 #[.slice av n cv, .slice aa la ca, .slice ab lb cb, .int .i64 h, .int .i64 o, .int .i64 x, .int .i64 y] .normal = (base 4).at ⟨#[.slice av n cv, .slice aa la ca, .slice ab lb cb, .int .i64 h, .int .i64 o, .int .i64 x, .int .i64 y, undef, undef, undef, undef, undef, undef, undef, undef, undef, undef, undef, undef, undef, undef, undef, undef, undef, undef, undef, undef, undef, undef, undef, undef, undef, undef, undef, undef, undef, undef, undef, undef, undef, undef, undef, undef, undef, undef, undef, undef, undef, undef, undef, undef, undef, undef, undef, undef, undef, undef, undef, undef, undef, undef, undef, undef, undef, undef, undef, undef, undef, undef, undef, undef, undef, undef, undef, undef, undef, undef, undef, undef, undef, undef, undef, undef, undef, undef, undef, undef, undef, undef, undef, undef, undef, undef, undef, undef, undef, undef, undef, undef, undef, undef, undef, undef, undef, undef, undef, undef, undef, undef, undef, undef, undef, undef, undef, undef, undef, undef, undef, undef, undef, undef, undef, undef, undef, undef, undef, undef, undef, undef, undef], []⟩ [.code lbB] := by
  simp [Frame.enter, Try.func4, Try.f4, lbB, base, Frame.at, Array.replicate, List.replicate]
set_option maxRecDepth 100000 in
set_option maxHeartbeats 4000000 in
theorem lb_a (av aa ab : Option Addr) (n la lb cv ca cb : Nat) (h : Nat) (o x y : Int) (H : Array Obj) (os : Os) (out : Array (Nat × ByteArray)) (w : World) (hI : HI H os out w) :
    ∃ mu, Goes Try.prog true AtRel (DG (fun _ => False) H.size) (fun g' w' => g' = G ((base 9).at ⟨(Array.replicate Try.f9.ntmps undef), []⟩ [.code alB]) [mkF 4 #[.slice av n cv, .slice aa la ca, .slice ab lb cb, .int .i64 (h : Nat), .int .i64 o, .int .i64 x, .int .i64 y, .pointer (some ⟨H.size, 0, none⟩), .pointer (some ⟨H.size + 1, 0, none⟩), .pointer (some ⟨H.size + 2, 0, none⟩), undef, undef, undef, undef, .bool false, undef, undef, undef, undef, undef, undef, undef, undef, undef, undef, undef, undef, undef, undef, undef, undef, undef, undef, undef, undef, undef, undef, undef, undef, undef, undef, undef, undef, undef, undef, undef, undef, undef, undef, undef, undef, undef, undef, undef, undef, undef, undef, undef, undef, undef, undef, undef, undef, undef, undef, undef, undef, undef, undef, undef, undef, undef, undef, undef, undef, undef, undef, undef, undef, undef, undef, undef, undef, undef, undef, undef, undef, undef, undef, undef, undef, undef, undef, undef, undef, undef, undef, undef, undef, undef, undef, undef, undef, undef, undef, undef, undef, undef, undef, undef, undef, undef, undef, undef, undef, undef, undef, undef, undef, undef, undef, undef, undef, undef, undef, undef, undef, undef, undef, undef] [.inRegion lbO1 [0, 1], .code lbC1, .code (restAt 2 lbB)] .run] ∧ HI (((H.push (.cells #[.slice av n cv] 22)).push (.cells #[.slice aa la ca] 24)).push (.cells #[.slice ab lb cb] 24)) os out w') mu (G ((base 4).at ⟨#[.slice av n cv, .slice aa la ca, .slice ab lb cb, .int .i64 (h : Nat), .int .i64 o, .int .i64 x, .int .i64 y, undef, undef, undef, undef, undef, undef, undef, undef, undef, undef, undef, undef, undef, undef, undef, undef, undef, undef, undef, undef, undef, undef, undef, undef, undef, undef, undef, undef, undef, undef, undef, undef, undef, undef, undef, undef, undef, undef, undef, undef, undef, undef, undef, undef, undef, undef, undef, undef, undef, undef, undef, undef, undef, undef, undef, undef, undef, undef, undef, undef, undef, undef, undef, undef, undef, undef, undef, undef, undef, undef, undef, undef, undef, undef, undef, undef, undef, undef, undef, undef, undef, undef, undef, undef, undef, undef, undef, undef, undef, undef, undef, undef, undef, undef, undef, undef, undef, undef, undef, undef, undef, undef, undef, undef, undef, undef, undef, undef, undef, undef, undef, undef, undef, undef, undef, undef, undef, undef, undef, undef, undef, undef, undef], []⟩ [.code lbB]) []) w := by
  refine ⟨40, ?_⟩
  simp only [lbB, lbO1, lbC1, restAt, Try.f4, Option.getD_some]
  repeat (refine gstepG hI rfl (fun w₁ h₁ => ?_); walk_rw; refine ⟨dg_same _, ?_⟩; clear hI; have hI := h₁; clear h₁)
  refine gstepG hI rfl (fun w₁ h₁ => ?_)
  refine goes_oper_k rfl rfl (by decide) (fun K hK => ?_)
  go_simp
  refine hK _ _ ⟨dg_of (by simp) (fun e he => ?_), ?_⟩
  · have hm := mem_listed he
    simp [go_sem, *] at hm
  clear hK K hI
  have hI := h₁.alloc (.cells #[.slice av n cv] 22)
  rw [h₁.1]
  clear h₁
  refine gstepG hI rfl (fun w₁ h₁ => ?_)
  refine goes_oper_k rfl rfl (by decide) (fun K hK => ?_)
  go_simp
  refine hK _ _ ⟨dg_of (by simp) (fun e he => ?_), ?_⟩
  · have hm := mem_listed he
    simp [go_sem, *] at hm
  clear hK K hI
  have hI := h₁.alloc (.cells #[.slice aa la ca] 24)
  rw [h₁.1]
  clear h₁
  simp only [Array.size_push]
  refine gstepG hI rfl (fun w₁ h₁ => ?_)
  refine goes_oper_k rfl rfl (by decide) (fun K hK => ?_)
  go_simp
  refine hK _ _ ⟨dg_of (by simp) (fun e he => ?_), ?_⟩
  · have hm := mem_listed he
    simp [go_sem, *] at hm
  clear hK K hI
  have hI := h₁.alloc (.cells #[.slice ab lb cb] 24)
  rw [h₁.1]
  clear h₁
  simp only [Array.size_push]
  refine gstepG hI rfl (fun w₁ h₁ => ?_)
  refine goes_oper_k rfl rfl (by decide) (fun K hK => ?_)
  go_simp
  refine hK _ _ ⟨dg_of (by simp) (fun e he => ?_), ?_⟩
  · have hm := mem_listed he
    simp [go_sem, *] at hm
  clear hK K hI
  have hI := h₁
  clear h₁
  repeat (refine gstepG hI rfl (fun w₁ h₁ => ?_); walk_rw; refine ⟨dg_same _, ?_⟩; clear hI; have hI := h₁; clear h₁)
  refine gstepG hI rfl (fun w₁ h₁ => ?_)
  refine goes_call rfl rfl (by decide) rfl Try.func9 (by kernel_rfl) rfl ?_
  refine ⟨dg_same _, ?_⟩
  exact Goes.stop fun w₂ h₂ => by
    obtain ⟨d, rfl⟩ := h₂
    refine ⟨?_, h₁⟩
    have e1 : ∀ (a : Act) (k : Nat), ((#[] : Array Operand).map a.eval ++ Array.replicate (k - ((#[] : Array Operand).map a.eval).size) undef) = Array.replicate k undef := fun a k => by simp
    rw [e1]
    rfl
set_option maxRecDepth 100000 in
set_option maxHeartbeats 4000000 in
theorem lb_b (av aa ab : Option Addr) (n la lb cv ca cb : Nat) (h : Nat) (o x y : Int) (dT dA dB : Nat) (H : Array Obj) (hT : H[dT]? = some (.cells #[.slice av n cv] 22 (0, 0))) (hA : H[dA]? = some (.cells #[.slice aa la ca] 24 (0, 0))) (hB : H[dB]? = some (.cells #[.slice ab lb cb] 24 (0, 0))) (os : Os) (out : Array (Nat × ByteArray)) (w : World) (hI : HI H os out w) :
    ∃ mu, Goes Try.prog true AtRel (DG (fun _ => False) H.size) (fun g' w' => g' = G (mkF 7 #[.slice av n cv, .slice aa la ca, .slice ab lb cb, .int .i64 (h : Nat), undef, undef, undef, undef, undef, undef, undef, undef, undef, undef, undef, undef, undef, undef, undef, undef, undef, undef, undef, undef, undef, undef, undef, undef, undef, undef, undef, undef, undef, undef, undef, undef, undef, undef, undef, undef, undef, undef, undef, undef, undef, undef, undef, undef, undef, undef, undef, undef, undef, undef, undef, undef, undef, undef, undef, undef, undef, undef, undef, undef, undef, undef, undef, undef, undef, undef, undef, undef] [.code bBody] .run) [mkF 4 #[.slice av n cv, .slice aa la ca, .slice ab lb cb, .int .i64 (h : Nat), .int .i64 o, .int .i64 x, .int .i64 y, .pointer (some ⟨dT, 0, none⟩), .pointer (some ⟨dA, 0, none⟩), .pointer (some ⟨dB, 0, none⟩), undef, undef, undef, undef, .bool false, undef, undef, undef, undef, undef, undef, .bool true, .bool false, undef, .slice av n cv, .slice aa la ca, .slice ab lb cb, .int .i64 (h : Nat), undef, undef, undef, undef, undef, undef, undef, undef, undef, undef, undef, undef, undef, undef, undef, undef, undef, undef, undef, undef, undef, undef, undef, undef, undef, undef, undef, undef, undef, undef, undef, undef, undef, undef, undef, undef, undef, undef, undef, undef, undef, undef, undef, undef, undef, undef, undef, undef, undef, undef, undef, undef, undef, undef, undef, undef, undef, undef, undef, undef, undef, undef, undef, undef, undef, undef, undef, undef, undef, undef, undef, undef, undef, undef, undef, undef, undef, undef, undef, undef, undef, undef, undef, undef, undef, undef, undef, undef, undef, undef, undef, undef, undef, undef, undef, undef, undef, undef, undef, undef, undef, undef] [.inRegion lbO3 (4 :: List.range' 5 6), .code (restAt 3 lbB)] .run] ∧ HI H os out w') mu (G (mkF 4 #[.slice av n cv, .slice aa la ca, .slice ab lb cb, .int .i64 (h : Nat), .int .i64 o, .int .i64 x, .int .i64 y, .pointer (some ⟨dT, 0, none⟩), .pointer (some ⟨dA, 0, none⟩), .pointer (some ⟨dB, 0, none⟩), undef, undef, undef, undef, .bool false, undef, undef, undef, undef, undef, undef, .bool true, undef, undef, undef, undef, undef, undef, undef, undef, undef, undef, undef, undef, undef, undef, undef, undef, undef, undef, undef, undef, undef, undef, undef, undef, undef, undef, undef, undef, undef, undef, undef, undef, undef, undef, undef, undef, undef, undef, undef, undef, undef, undef, undef, undef, undef, undef, undef, undef, undef, undef, undef, undef, undef, undef, undef, undef, undef, undef, undef, undef, undef, undef, undef, undef, undef, undef, undef, undef, undef, undef, undef, undef, undef, undef, undef, undef, undef, undef, undef, undef, undef, undef, undef, undef, undef, undef, undef, undef, undef, undef, undef, undef, undef, undef, undef, undef, undef, undef, undef, undef, undef, undef, undef, undef, undef, undef, undef, undef] [.inRegion lbO1 [1], .code lbC1, .code (restAt 2 lbB)] .run) []) w := by
  refine ⟨60, ?_⟩
  have hS : ∀ b, b < H.size → ¬ (fun _ : Nat => False) b := fun _ _ e => e
  have hT_lt := (Array.getElem?_eq_some_iff.1 hT).1
  have hA_lt := (Array.getElem?_eq_some_iff.1 hA).1
  have hB_lt := (Array.getElem?_eq_some_iff.1 hB).1
  simp only [lbB, lbO1, lbC1, lbO3, restAt, Try.f4, Option.getD_some]
  show Goes _ _ _ _ _ _ (G ((base 4).at ⟨#[.slice av n cv, .slice aa la ca, .slice ab lb cb, .int .i64 (h : Nat), .int .i64 o, .int .i64 x, .int .i64 y, .pointer (some ⟨dT, 0, none⟩), .pointer (some ⟨dA, 0, none⟩), .pointer (some ⟨dB, 0, none⟩), undef, undef, undef, undef, .bool false, undef, undef, undef, undef, undef, undef, .bool true, undef, undef, undef, undef, undef, undef, undef, undef, undef, undef, undef, undef, undef, undef, undef, undef, undef, undef, undef, undef, undef, undef, undef, undef, undef, undef, undef, undef, undef, undef, undef, undef, undef, undef, undef, undef, undef, undef, undef, undef, undef, undef, undef, undef, undef, undef, undef, undef, undef, undef, undef, undef, undef, undef, undef, undef, undef, undef, undef, undef, undef, undef, undef, undef, undef, undef, undef, undef, undef, undef, undef, undef, undef, undef, undef, undef, undef, undef, undef, undef, undef, undef, undef, undef, undef, undef, undef, undef, undef, undef, undef, undef, undef, undef, undef, undef, undef, undef, undef, undef, undef, undef, undef, undef, undef, undef, undef, undef], []⟩ _) []) w
  refine gstepG hI rfl (fun w₁ h₁ => ?_)
  refine goes_oper_k rfl rfl (by decide) (fun K hK => ?_)
  go_simp
  refine hK _ _ ⟨dg_of (by simp) (fun e he => ?_), ?_⟩
  · have hm := mem_listed he
    simp [go_sem, *] at hm
  clear hK K hI
  have hI := h₁
  clear h₁
  repeat (refine gstepG hI rfl (fun w₁ h₁ => ?_); walk_rw; refine ⟨dg_same _, ?_⟩; clear hI; have hI := h₁; clear h₁)
  refine gstepG hI rfl (fun w₁ h₁ => ?_)
  rw [stepG_cond (t := false) rfl]
  simp only [goes_go, Bool.false_eq_true, ↓reduceIte]
  refine ⟨dg_same _, ?_⟩
  clear hI
  have hI := h₁
  clear h₁
  repeat (refine gstepG hI rfl (fun w₁ h₁ => ?_); walk_rw; refine ⟨dg_same _, ?_⟩; clear hI; have hI := h₁; clear h₁)
  refine gstepG hI rfl (fun w₁ h₁ => ?_)
  refine goes_oper_k rfl rfl (by decide) (fun K hK => ?_)
  have hC : w₁.cell? ⟨dT, 0, none⟩ = some (.slice av n cv) := one_cellT (by rw [h₁.1]; exact hT)
  have hbl : dT < w₁.heap.size := by rw [h₁.1]; exact (Array.getElem?_eq_some_iff.1 hT).1
  go_simp
  refine hK _ _ ⟨dg_of (by simp) (fun e he => ?_), ?_⟩
  · have hm := mem_listed he
    simp [go_sem, hC] at hm
    subst hm
    exact dg_cell hbl (hS _ hT_lt) (show dT ≠ H.size by have := hT_lt; omega)
  clear hK K hI
  clear hC hbl
  have hI := h₁
  clear h₁
  refine gstepG hI rfl (fun w₁ h₁ => ?_)
  refine goes_oper_k rfl rfl (by decide) (fun K hK => ?_)
  have hC : w₁.cell? ⟨dA, 0, none⟩ = some (.slice aa la ca) := one_cellT (by rw [h₁.1]; exact hA)
  have hbl : dA < w₁.heap.size := by rw [h₁.1]; exact (Array.getElem?_eq_some_iff.1 hA).1
  go_simp
  refine hK _ _ ⟨dg_of (by simp) (fun e he => ?_), ?_⟩
  · have hm := mem_listed he
    simp [go_sem, hC] at hm
    subst hm
    exact dg_cell hbl (hS _ hA_lt) (show dA ≠ H.size by have := hA_lt; omega)
  clear hK K hI
  clear hC hbl
  have hI := h₁
  clear h₁
  refine gstepG hI rfl (fun w₁ h₁ => ?_)
  refine goes_oper_k rfl rfl (by decide) (fun K hK => ?_)
  have hC : w₁.cell? ⟨dB, 0, none⟩ = some (.slice ab lb cb) := one_cellT (by rw [h₁.1]; exact hB)
  have hbl : dB < w₁.heap.size := by rw [h₁.1]; exact (Array.getElem?_eq_some_iff.1 hB).1
  go_simp
  refine hK _ _ ⟨dg_of (by simp) (fun e he => ?_), ?_⟩
  · have hm := mem_listed he
    simp [go_sem, hC] at hm
    subst hm
    exact dg_cell hbl (hS _ hB_lt) (show dB ≠ H.size by have := hB_lt; omega)
  clear hK K hI
  clear hC hbl
  have hI := h₁
  clear h₁
  refine gstepG hI rfl (fun w₁ h₁ => ?_)
  refine goes_oper_k rfl rfl (by decide) (fun K hK => ?_)
  go_simp
  refine hK _ _ ⟨dg_of (by simp) (fun e he => ?_), ?_⟩
  · have hm := mem_listed he
    simp [go_sem, *] at hm
  clear hK K hI
  have hI := h₁
  clear h₁
  refine gstepG hI rfl (fun w₁ h₁ => ?_)
  refine goes_call rfl rfl (by decide) rfl Try.func7 (by kernel_rfl) rfl ?_
  refine ⟨dg_same _, ?_⟩
  exact Goes.stop fun w₂ h₂ => by
    obtain ⟨d, rfl⟩ := h₂
    refine ⟨?_, h₁⟩
    have e1 : ∀ (a : Act), a.eval (.tmp 24) = .slice av n cv → a.eval (.tmp 25) = .slice aa la ca → a.eval (.tmp 26) = .slice ab lb cb → a.eval (.tmp 27) = .int .i64 (h : Nat) → (#[Operand.tmp 24, .tmp 25, .tmp 26, .tmp 27].map a.eval ++ Array.replicate (Try.f7.ntmps - (#[Operand.tmp 24, .tmp 25, .tmp 26, .tmp 27].map a.eval).size) undef) = #[.slice av n cv, .slice aa la ca, .slice ab lb cb, .int .i64 (h : Nat), undef, undef, undef, undef, undef, undef, undef, undef, undef, undef, undef, undef, undef, undef, undef, undef, undef, undef, undef, undef, undef, undef, undef, undef, undef, undef, undef, undef, undef, undef, undef, undef, undef, undef, undef, undef, undef, undef, undef, undef, undef, undef, undef, undef, undef, undef, undef, undef, undef, undef, undef, undef, undef, undef, undef, undef, undef, undef, undef, undef, undef, undef, undef, undef, undef, undef, undef, undef] := fun a k1 k2 k3 k4 => by
      simp [k1, k2, k3, k4, Array.replicate, List.replicate]
    rw [e1 _ rfl rfl rfl rfl]
    rfl
theorem hi_set3 {X : Array Obj} {W : World} {os : Os} {out : Array (Nat × ByteArray)} {u1 u2 u3 v1 v2 v3 : Value} {T : TypeId} (h : HI (X.push (.cells #[u1, u2, u3] T (0, 0))) os out W) {q : Nat} (hq : q = X.size) : HI (X.push (.cells #[v1, v2, v3] T (0, 0))) os out (((W.setCell ⟨q, 0, none⟩ v1).setCell ⟨q, 1, none⟩ v2).setCell ⟨q, 2, none⟩ v3) := by
  subst hq
  have hr : RowAt W X.size T #[u1, u2, u3] := by
    show W.heap[X.size]? = _
    rw [h.1, Array.getElem?_push, if_pos rfl]
  refine ⟨Array.ext_getElem? fun i => ?_, h.2.1, h.2.2⟩
  by_cases e : i = X.size
  · subst e
    rw [Array.getElem?_push, if_pos rfl]
    exact ((hr.set 0 v1).set 1 v2).set 2 v3
  · have h2 : (((W.setCell ⟨X.size, 0, none⟩ v1).setCell ⟨X.size, 1, none⟩ v2).setCell ⟨X.size, 2, none⟩ v3).heap[i]? = W.heap[i]? := (Below.heap_setCell _ _ _ _ e).trans ((Below.heap_setCell _ _ _ _ e).trans (Below.heap_setCell _ _ _ _ e))
    rw [h2, h.1, Array.getElem?_push, Array.getElem?_push, if_neg e, if_neg e]
set_option maxRecDepth 100000 in
set_option maxHeartbeats 4000000 in
theorem lb_c (av aa ab : Option Addr) (n la lb cv ca cb : Nat) (h : Nat) (o x y : Int) (dT dA dB qd qr M : Nat) (Sn : Nat → Prop) (H : Array Obj) (hT : H[dT]? = some (.cells #[.slice av n cv] 22 (0, 0))) (hA : H[dA]? = some (.cells #[.slice aa la ca] 24 (0, 0))) (hB : H[dB]? = some (.cells #[.slice ab lb cb] 24 (0, 0))) (nT : ¬ Sn dT) (nA : ¬ Sn dA) (nB : ¬ Sn dB) (nH : ¬ Sn H.size) (os : Os) (out : Array (Nat × ByteArray)) (w : World) (hI : HI H os out w) :
    ∃ mu, Goes Try.prog true AtRel (DG Sn (H.size + 1)) (fun g' w' => g' = G (mkF 7 #[.slice av n cv, .slice aa la ca, .slice ab lb cb, .int .i64 o, undef, undef, undef, undef, undef, undef, undef, undef, undef, undef, undef, undef, undef, undef, undef, undef, undef, undef, undef, undef, undef, undef, undef, undef, undef, undef, undef, undef, undef, undef, undef, undef, undef, undef, undef, undef, undef, undef, undef, undef, undef, undef, undef, undef, undef, undef, undef, undef, undef, undef, undef, undef, undef, undef, undef, undef, undef, undef, undef, undef, undef, undef, undef, undef, undef, undef, undef, undef] [.code bBody] .run) [mkF 4 #[.slice av n cv, .slice aa la ca, .slice ab lb cb, .int .i64 (h : Nat), .int .i64 o, .int .i64 x, .int .i64 y, .pointer (some ⟨dT, 0, none⟩), .pointer (some ⟨dA, 0, none⟩), .pointer (some ⟨dB, 0, none⟩), undef, undef, undef, undef, .bool false, .pointer (some ⟨H.size, 0, none⟩), .int .i64 0, undef, undef, undef, undef, .bool true, .bool false, .tuple #[.agg #[.int .i64 (qd : Nat), .int .i64 (qr : Nat), .int .i64 (M : Nat)], .int .i64 0], .slice av n cv, .slice aa la ca, .slice ab lb cb, .int .i64 (h : Nat), .tuple #[.agg #[.int .i64 (qd : Nat), .int .i64 (qr : Nat), .int .i64 (M : Nat)], .int .i64 0], .agg #[.int .i64 (qd : Nat), .int .i64 (qr : Nat), .int .i64 (M : Nat)], .int .i64 0, .int .i64 0, .bool false, undef, .slice av n cv, .slice aa la ca, .slice ab lb cb, .int .i64 o, undef, undef, undef, undef, undef, undef, undef, undef, undef, undef, undef, undef, undef, undef, undef, undef, undef, undef, undef, undef, undef, undef, undef, undef, undef, undef, undef, undef, undef, undef, undef, undef, undef, undef, undef, undef, undef, undef, undef, undef, undef, undef, undef, undef, undef, undef, undef, undef, undef, undef, undef, undef, undef, undef, undef, undef, undef, undef, undef, undef, undef, undef, undef, undef, undef, undef, undef, undef, undef, undef, undef, undef, undef, undef, undef, undef, undef, undef, undef, undef, undef, undef, undef, undef, undef, undef, undef, undef, undef, undef, undef, undef] [.inRegion lbO6 (4 :: List.range' 5 6), .code lbC7, .code (restAt 5 lbB)] .run] ∧ HI (H.push (.cells #[.int .i64 (qd : Nat), .int .i64 (qr : Nat), .int .i64 (M : Nat)] 26)) os out w') mu (G (mkF 4 #[.slice av n cv, .slice aa la ca, .slice ab lb cb, .int .i64 (h : Nat), .int .i64 o, .int .i64 x, .int .i64 y, .pointer (some ⟨dT, 0, none⟩), .pointer (some ⟨dA, 0, none⟩), .pointer (some ⟨dB, 0, none⟩), undef, undef, undef, undef, .bool false, undef, undef, undef, undef, undef, undef, .bool true, .bool false, undef, .slice av n cv, .slice aa la ca, .slice ab lb cb, .int .i64 (h : Nat), .tuple #[.agg #[.int .i64 (qd : Nat), .int .i64 (qr : Nat), .int .i64 (M : Nat)], .int .i64 0], undef, undef, undef, undef, undef, undef, undef, undef, undef, undef, undef, undef, undef, undef, undef, undef, undef, undef, undef, undef, undef, undef, undef, undef, undef, undef, undef, undef, undef, undef, undef, undef, undef, undef, undef, undef, undef, undef, undef, undef, undef, undef, undef, undef, undef, undef, undef, undef, undef, undef, undef, undef, undef, undef, undef, undef, undef, undef, undef, undef, undef, undef, undef, undef, undef, undef, undef, undef, undef, undef, undef, undef, undef, undef, undef, undef, undef, undef, undef, undef, undef, undef, undef, undef, undef, undef, undef, undef, undef, undef, undef, undef, undef, undef, undef, undef, undef, undef, undef, undef, undef] [.inRegion lbO3 [5, 6, 7, 8, 9, 10], .code (restAt 3 lbB)] .run) []) w := by
  refine ⟨80, ?_⟩
  have hz := tf_zero (P := Try.prog) tf_zero_hit
  have hT_lt := (Array.getElem?_eq_some_iff.1 hT).1
  have hA_lt := (Array.getElem?_eq_some_iff.1 hA).1
  have hB_lt := (Array.getElem?_eq_some_iff.1 hB).1
  simp only [lbB, lbO3, lbO6, lbC7, restAt, Try.f4, Option.getD_some]
  show Goes _ _ _ _ _ _ (G ((base 4).at ⟨#[.slice av n cv, .slice aa la ca, .slice ab lb cb, .int .i64 (h : Nat), .int .i64 o, .int .i64 x, .int .i64 y, .pointer (some ⟨dT, 0, none⟩), .pointer (some ⟨dA, 0, none⟩), .pointer (some ⟨dB, 0, none⟩), undef, undef, undef, undef, .bool false, undef, undef, undef, undef, undef, undef, .bool true, .bool false, undef, .slice av n cv, .slice aa la ca, .slice ab lb cb, .int .i64 (h : Nat), .tuple #[.agg #[.int .i64 (qd : Nat), .int .i64 (qr : Nat), .int .i64 (M : Nat)], .int .i64 0], undef, undef, undef, undef, undef, undef, undef, undef, undef, undef, undef, undef, undef, undef, undef, undef, undef, undef, undef, undef, undef, undef, undef, undef, undef, undef, undef, undef, undef, undef, undef, undef, undef, undef, undef, undef, undef, undef, undef, undef, undef, undef, undef, undef, undef, undef, undef, undef, undef, undef, undef, undef, undef, undef, undef, undef, undef, undef, undef, undef, undef, undef, undef, undef, undef, undef, undef, undef, undef, undef, undef, undef, undef, undef, undef, undef, undef, undef, undef, undef, undef, undef, undef, undef, undef, undef, undef, undef, undef, undef, undef, undef, undef, undef, undef, undef, undef, undef, undef, undef, undef], []⟩ _) []) w
  refine gstepG hI rfl (fun w₁ h₁ => ?_)
  refine goes_oper_k rfl rfl (by decide) (fun K hK => ?_)
  go_simp
  refine hK _ _ ⟨dg_of (by simp) (fun e he => ?_), ?_⟩
  · have hm := mem_listed he
    simp [go_sem, *] at hm
  clear hK K hI
  have hI := h₁
  clear h₁
  refine gstepG hI rfl (fun w₁ h₁ => ?_)
  refine goes_oper_k rfl rfl (by decide) (fun K hK => ?_)
  go_simp
  refine hK _ _ ⟨dg_of (by simp) (fun e he => ?_), ?_⟩
  · have hm := mem_listed he
    simp [go_sem, *] at hm
  clear hK K hI
  have hI := h₁
  clear h₁
  refine gstepG hI rfl (fun w₁ h₁ => ?_)
  refine goes_oper_k rfl rfl (by decide) (fun K hK => ?_)
  go_simp
  refine hK _ _ ⟨dg_of (by simp) (fun e he => ?_), ?_⟩
  · have hm := mem_listed he
    simp [go_sem, *] at hm
  clear hK K hI
  have hI := h₁
  clear h₁
  refine gstepG hI rfl (fun w₁ h₁ => ?_)
  refine goes_oper_k rfl rfl (by decide) (fun K hK => ?_)
  go_simp
  refine hK _ _ ⟨dg_of (by simp) (fun e he => ?_), ?_⟩
  · have hm := mem_listed he
    simp [go_sem, *] at hm
  clear hK K hI
  have hI := h₁.alloc (.cells #[.int .i64 0, .int .i64 0, .int .i64 0] 26)
  rw [h₁.1]
  clear h₁
  refine gstepG hI rfl (fun w₁ h₁ => ?_)
  refine goes_oper_k rfl rfl (by decide) (fun K hK => ?_)
  have hr : RowAt w₁ H.size 26 #[.int .i64 0, .int .i64 0, .int .i64 0] := by
    show w₁.heap[H.size]? = _
    rw [h₁.1, Array.getElem?_push, if_pos rfl]
  have d0 := hr.cell (i := 0) rfl
  have d1 := hr.cell (i := 1) rfl
  have d2 := hr.cell (i := 2) rfl
  have f0 := hr.frozen 0
  have f1 := hr.frozen 1
  have f2 := hr.frozen 2
  have hbl : H.size < w₁.heap.size := hr.lt
  go_simp
  refine hK _ _ ⟨dg_of (by simp) (fun e he => ?_), ?_⟩
  · have hm := mem_listed he
    simp [go_sem, *] at hm
    rcases hm with rfl | rfl | rfl <;> exact dg_cell (by simpa using hbl) nH (show H.size ≠ H.size + 1 by omega)
  clear hK K hI
  clear d0 d1 d2 f0 f1 f2 hbl hr
  have hI := hi_set3 (q := H.size) (v1 := .int .i64 (qd : Nat)) (v2 := .int .i64 (qr : Nat)) (v3 := .int .i64 (M : Nat)) h₁ rfl
  clear h₁
  refine gstepG hI rfl (fun w₁ h₁ => ?_)
  refine goes_oper_k rfl rfl (by decide) (fun K hK => ?_)
  go_simp
  refine hK _ _ ⟨dg_of (by simp) (fun e he => ?_), ?_⟩
  · have hm := mem_listed he
    simp [go_sem, *] at hm
  clear hK K hI
  have hI := h₁
  clear h₁
  repeat (refine gstepG hI rfl (fun w₁ h₁ => ?_); walk_rw; refine ⟨dg_same _, ?_⟩; clear hI; have hI := h₁; clear h₁)
  refine gstepG hI rfl (fun w₁ h₁ => ?_)
  refine goes_oper_k rfl rfl (by decide) (fun K hK => ?_)
  go_simp
  refine hK _ _ ⟨dg_of (by simp) (fun e he => ?_), ?_⟩
  · have hm := mem_listed he
    simp [go_sem, *] at hm
  clear hK K hI
  have hI := h₁
  clear h₁
  refine gstepG hI rfl (fun w₁ h₁ => ?_)
  refine goes_oper_k rfl rfl (by decide) (fun K hK => ?_)
  go_simp
  refine hK _ _ ⟨dg_of (by simp) (fun e he => ?_), ?_⟩
  · have hm := mem_listed he
    simp [go_sem, *] at hm
  clear hK K hI
  have hI := h₁
  clear h₁
  repeat (refine gstepG hI rfl (fun w₁ h₁ => ?_); walk_rw; refine ⟨dg_same _, ?_⟩; clear hI; have hI := h₁; clear h₁)
  refine gstepG hI rfl (fun w₁ h₁ => ?_)
  rw [stepG_cond (t := false) rfl]
  simp only [goes_go, Bool.false_eq_true, ↓reduceIte]
  refine ⟨dg_same _, ?_⟩
  clear hI
  have hI := h₁
  clear h₁
  repeat (refine gstepG hI rfl (fun w₁ h₁ => ?_); walk_rw; refine ⟨dg_same _, ?_⟩; clear hI; have hI := h₁; clear h₁)
  refine gstepG hI rfl (fun w₁ h₁ => ?_)
  refine goes_oper_k rfl rfl (by decide) (fun K hK => ?_)
  have hC : w₁.cell? ⟨dT, 0, none⟩ = some (.slice av n cv) := one_cellT (by rw [h₁.1, Array.getElem?_push, if_neg (by have := hT_lt; omega)]; exact hT)
  have hbl : dT < w₁.heap.size := by rw [h₁.1, Array.size_push]; have := hT_lt; omega
  go_simp
  refine hK _ _ ⟨dg_of (by simp) (fun e he => ?_), ?_⟩
  · have hm := mem_listed he
    simp [go_sem, hC] at hm
    subst hm
    exact dg_cell hbl nT (show dT ≠ H.size + 1 by have := hT_lt; omega)
  clear hK K hI
  clear hC hbl
  have hI := h₁
  clear h₁
  refine gstepG hI rfl (fun w₁ h₁ => ?_)
  refine goes_oper_k rfl rfl (by decide) (fun K hK => ?_)
  have hC : w₁.cell? ⟨dA, 0, none⟩ = some (.slice aa la ca) := one_cellT (by rw [h₁.1, Array.getElem?_push, if_neg (by have := hA_lt; omega)]; exact hA)
  have hbl : dA < w₁.heap.size := by rw [h₁.1, Array.size_push]; have := hA_lt; omega
  go_simp
  refine hK _ _ ⟨dg_of (by simp) (fun e he => ?_), ?_⟩
  · have hm := mem_listed he
    simp [go_sem, hC] at hm
    subst hm
    exact dg_cell hbl nA (show dA ≠ H.size + 1 by have := hA_lt; omega)
  clear hK K hI
  clear hC hbl
  have hI := h₁
  clear h₁
  refine gstepG hI rfl (fun w₁ h₁ => ?_)
  refine goes_oper_k rfl rfl (by decide) (fun K hK => ?_)
  have hC : w₁.cell? ⟨dB, 0, none⟩ = some (.slice ab lb cb) := one_cellT (by rw [h₁.1, Array.getElem?_push, if_neg (by have := hB_lt; omega)]; exact hB)
  have hbl : dB < w₁.heap.size := by rw [h₁.1, Array.size_push]; have := hB_lt; omega
  go_simp
  refine hK _ _ ⟨dg_of (by simp) (fun e he => ?_), ?_⟩
  · have hm := mem_listed he
    simp [go_sem, hC] at hm
    subst hm
    exact dg_cell hbl nB (show dB ≠ H.size + 1 by have := hB_lt; omega)
  clear hK K hI
  clear hC hbl
  have hI := h₁
  clear h₁
  refine gstepG hI rfl (fun w₁ h₁ => ?_)
  refine goes_oper_k rfl rfl (by decide) (fun K hK => ?_)
  go_simp
  refine hK _ _ ⟨dg_of (by simp) (fun e he => ?_), ?_⟩
  · have hm := mem_listed he
    simp [go_sem, *] at hm
  clear hK K hI
  have hI := h₁
  clear h₁
  refine gstepG hI rfl (fun w₁ h₁ => ?_)
  refine goes_call rfl rfl (by decide) rfl Try.func7 (by kernel_rfl) rfl ?_
  refine ⟨dg_same _, ?_⟩
  exact Goes.stop fun w₂ h₂ => by
    obtain ⟨d, rfl⟩ := h₂
    refine ⟨?_, h₁⟩
    have e1 : ∀ (a : Act), a.eval (.tmp 34) = .slice av n cv → a.eval (.tmp 35) = .slice aa la ca → a.eval (.tmp 36) = .slice ab lb cb → a.eval (.tmp 37) = .int .i64 o → (#[Operand.tmp 34, .tmp 35, .tmp 36, .tmp 37].map a.eval ++ Array.replicate (Try.f7.ntmps - (#[Operand.tmp 34, .tmp 35, .tmp 36, .tmp 37].map a.eval).size) undef) = #[.slice av n cv, .slice aa la ca, .slice ab lb cb, .int .i64 o, undef, undef, undef, undef, undef, undef, undef, undef, undef, undef, undef, undef, undef, undef, undef, undef, undef, undef, undef, undef, undef, undef, undef, undef, undef, undef, undef, undef, undef, undef, undef, undef, undef, undef, undef, undef, undef, undef, undef, undef, undef, undef, undef, undef, undef, undef, undef, undef, undef, undef, undef, undef, undef, undef, undef, undef, undef, undef, undef, undef, undef, undef, undef, undef, undef, undef, undef, undef] := fun a k1 k2 k3 k4 => by
      simp [k1, k2, k3, k4, Array.replicate, List.replicate]
    rw [e1 _ rfl rfl rfl rfl]
    rfl
end Go.Proofs.Ytpdemelchhkfaaa
