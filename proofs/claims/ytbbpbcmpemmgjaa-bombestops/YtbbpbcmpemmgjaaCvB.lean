/-
  Goroutine 0 in chart.Every, from the first 'go' to behind the last receive.
-/
import Derived.Test.YtbbpbcmpemmgjaaCvA
import Derived.Conc.TokenWalk
namespace Go.Proofs.Ytbbpbcmpemmgjaa.Hb
open Go.Conc Cs
noncomputable def eBody : Code := Try.f32.body.getD .skip
noncomputable def eT1 : Code := match eBody with | .seq _ (.seq _ (.seq _ (.seq _ (.seq _ r)))) => r | _ => .skip
noncomputable def eT2 : Code := match eT1 with | .seq _ r => r | _ => .skip
noncomputable def eT3 : Code := match eT2 with | .seq _ r => r | _ => .skip
noncomputable def eT4 : Code := match eT3 with | .seq _ r => r | _ => .skip
noncomputable def eT5 : Code := match eT4 with | .seq _ r => r | _ => .skip
noncomputable def eLG : Code := match eT1 with | .seq (.seq _ (.block _ (.loop c))) _ => c | _ => .skip
noncomputable def eLS : Code := match eT2 with | .seq (.seq _ (.block _ (.loop c))) _ => c | _ => .skip
noncomputable def eLR : Code := match eT4 with | .seq (.seq _ (.block _ (.loop c))) _ => c | _ => .skip
noncomputable def eR11 : Code := match eLG with | .seq _ (.seq _ (.seq _ r)) => r | _ => .skip
noncomputable def eR16 : Code := match eLS with | .seq _ (.seq _ (.seq _ r)) => r | _ => .skip
noncomputable def eR21 : Code := match eLR with | .seq _ (.seq _ (.seq _ r)) => r | _ => .skip
noncomputable def eO10 : Array Oper := match eLG with | .seq _ (.seq _ (.seq (.block _ (.region _ o _)) _)) => o | _ => #[]
noncomputable def eO15 : Array Oper := match eLS with | .seq _ (.seq _ (.seq (.block _ (.seq _ (.region _ o _))) _)) => o | _ => #[]
noncomputable def eO17 : Array Oper := match eT3 with | .seq (.region _ o _) _ => o | _ => #[]
noncomputable def eO20 : Array Oper := match eLR with | .seq _ (.seq _ (.seq (.block _ (.region _ o _)) _)) => o | _ => #[]
def eB : Frame := base 32
def eGoP (c : Cst) (bF bM bL bD n : Nat) (cs : List Frame) (j : Nat) (g : Goroutine) : Prop := ∃ v0 v2 v4 v6 v7 v8 v12 v13 v14 v15 v16 v17 v18 v19 v20 v21 v22 v23 v24 v25 v28 v30 v31 v32 v33 v34 v35 v36 v37 v38 v39 v40 v41 v42 v43 v44 v45 v46 v47 v48 v49 v50 v51 v52 : Value, g = G (eB.at ⟨#[v0, .int .i64 (n : Nat), v2, .pointer (some ⟨bM, 0, none⟩), v4, .pointer (some ⟨bL, 0, none⟩), v6, v7, v8, .pointer (some ⟨c.Fd, 0, none⟩), .pointer (some ⟨bF, 0, none⟩), .pointer (some ⟨bD, 0, none⟩), v12, v13, v14, v15, v16, v17, v18, v19, v20, v21, v22, v23, v24, v25, .int .i64 (n : Nat), .int .i64 (j : Nat), v28, .func (.func 65) #[] #[.pointer (some ⟨bF, 0, none⟩), .pointer (some ⟨bM, 0, none⟩), .pointer (some ⟨bL, 0, none⟩), .pointer (some ⟨c.Fd, 0, none⟩), .pointer (some ⟨bD, 0, none⟩)], v30, v31, v32, v33, v34, v35, v36, v37, v38, v39, v40, v41, v42, v43, v44, v45, v46, v47, v48, v49, v50, v51, v52], []⟩ [.inRegion eO10 [1], .inBlock 1, .code eR11, .inLoop eLG, .inBlock 0, .code eT2]) cs
def eSndP (c : Cst) (bF bM bL bD n : Nat) (cs : List Frame) (j : Nat) (g : Goroutine) : Prop := ∃ v0 v2 v4 v6 v7 v8 v12 v13 v14 v15 v16 v17 v18 v19 v20 v21 v22 v23 v24 v25 v26 v27 v28 v29 v30 v32 v33 v36 v37 v38 v39 v40 v41 v42 v43 v44 v45 v46 v47 v48 v49 v50 v51 v52 : Value, g = G (eB.at ⟨#[v0, .int .i64 (n : Nat), v2, .pointer (some ⟨bM, 0, none⟩), v4, .pointer (some ⟨bL, 0, none⟩), v6, v7, v8, .pointer (some ⟨c.Fd, 0, none⟩), .pointer (some ⟨bF, 0, none⟩), .pointer (some ⟨bD, 0, none⟩), v12, v13, v14, v15, v16, v17, v18, v19, v20, v21, v22, v23, v24, v25, v26, v27, v28, v29, v30, .int .i64 (j : Nat), v32, v33, .chan (some c.C1), .int .i64 (j : Nat), v36, v37, v38, v39, v40, v41, v42, v43, v44, v45, v46, v47, v48, v49, v50, v51, v52], []⟩ [.inRegion eO15 [2], .inBlock 3, .code eR16, .inLoop eLS, .inBlock 2, .code eT3]) cs
def eClP (c : Cst) (bF bM bL bD n : Nat) (cs : List Frame) (g : Goroutine) : Prop := ∃ v0 v2 v4 v6 v7 v8 v12 v13 v14 v15 v16 v17 v18 v19 v20 v21 v22 v23 v24 v25 v26 v27 v28 v29 v30 v31 v32 v33 v34 v35 v36 v38 v39 v40 v41 v42 v43 v44 v45 v46 v47 v48 v49 v50 v51 v52 : Value, g = G (eB.at ⟨#[v0, .int .i64 (n : Nat), v2, .pointer (some ⟨bM, 0, none⟩), v4, .pointer (some ⟨bL, 0, none⟩), v6, v7, v8, .pointer (some ⟨c.Fd, 0, none⟩), .pointer (some ⟨bF, 0, none⟩), .pointer (some ⟨bD, 0, none⟩), v12, v13, v14, v15, v16, v17, v18, v19, v20, v21, v22, v23, v24, v25, v26, v27, v28, v29, v30, v31, v32, v33, v34, v35, v36, .chan (some c.C1), v38, v39, v40, v41, v42, v43, v44, v45, v46, v47, v48, v49, v50, v51, v52], []⟩ [.inRegion eO17 [1], .code eT4]) cs
def eRcvP (c : Cst) (bF bM bL bD n : Nat) (cs : List Frame) (j : Nat) (g : Goroutine) : Prop := ∃ v0 v2 v4 v6 v7 v8 v12 v13 v14 v15 v16 v17 v18 v19 v20 v21 v22 v23 v24 v25 v26 v27 v28 v29 v30 v31 v32 v33 v34 v35 v36 v37 v40 v42 v43 v44 v45 v46 v47 v48 v49 v50 v51 v52 : Value, g = G (eB.at ⟨#[v0, .int .i64 (n : Nat), v2, .pointer (some ⟨bM, 0, none⟩), v4, .pointer (some ⟨bL, 0, none⟩), v6, v7, v8, .pointer (some ⟨c.Fd, 0, none⟩), .pointer (some ⟨bF, 0, none⟩), .pointer (some ⟨bD, 0, none⟩), v12, v13, v14, v15, v16, v17, v18, v19, v20, v21, v22, v23, v24, v25, v26, v27, v28, v29, v30, v31, v32, v33, v34, v35, v36, v37, .int .i64 (n : Nat), .int .i64 (j : Nat), v40, .chan (some c.C2), v42, v43, v44, v45, v46, v47, v48, v49, v50, v51, v52], []⟩ [.inRegion eO20 [1], .inBlock 5, .code eR21, .inLoop eLR, .inBlock 4, .code eT5]) cs
def eJnP (c : Cst) (bF bM bL bD n : Nat) (cs : List Frame) (g : Goroutine) : Prop := ∃ v0 v2 v4 v6 v7 v8 v12 v13 v14 v15 v16 v17 v18 v19 v20 v21 v22 v23 v24 v25 v26 v27 v28 v29 v30 v31 v32 v33 v34 v35 v36 v37 v38 v39 v40 v41 v42 v43 v44 v45 v46 v47 v48 v49 v50 v51 v52 : Value, g = G (eB.at ⟨#[v0, .int .i64 (n : Nat), v2, .pointer (some ⟨bM, 0, none⟩), v4, .pointer (some ⟨bL, 0, none⟩), v6, v7, v8, .pointer (some ⟨c.Fd, 0, none⟩), .pointer (some ⟨bF, 0, none⟩), .pointer (some ⟨bD, 0, none⟩), v12, v13, v14, v15, v16, v17, v18, v19, v20, v21, v22, v23, v24, v25, v26, v27, v28, v29, v30, v31, v32, v33, v34, v35, v36, v37, v38, v39, v40, v41, v42, v43, v44, v45, v46, v47, v48, v49, v50, v51, v52], []⟩ [.code eT5]) cs
section
variable {c : Cst} {bF bM bL bD n : Nat} {vm vl : Value} {cs : List Frame} {g : Goroutine} {w : World}
set_option maxRecDepth 100000 in
set_option maxHeartbeats 8000000 in
theorem eSnd_s {j : Nat} (h : eSndP c bF bM bL bD n cs j g) : isG g ∧ ∀ w, stepG Try.prog true g w = .comm g #[scase c.C1 (.int .i64 (j : Nat)) (.tuple #[])] true .send w #[] := by
  obtain ⟨v0, v2, v4, v6, v7, v8, v12, v13, v14, v15, v16, v17, v18, v19, v20, v21, v22, v23, v24, v25, v26, v27, v28, v29, v30, v32, v33, v36, v37, v38, v39, v40, v41, v42, v43, v44, v45, v46, v47, v48, v49, v50, v51, v52, rfl⟩ := h
  refine ⟨⟨_, _, rfl⟩, fun w => ?_⟩
  simp only [eO15, eLS, eT2, eT1, eBody, Try.f32, Option.getD_some]
  rw [stepG_comm (cases := #[scase c.C1 (.int .i64 (j : Nat)) (.tuple #[])]) (blocking := true) (shape := .send) (w' := w) rfl rfl (by decide) (by simp [execOp, scase, go_sem])]
  rw [listed_nil (by simp [go_sem])]
set_option maxRecDepth 100000 in
set_option maxHeartbeats 8000000 in
theorem eSnd_on (k : WkP c bF bM bL bD vm vl) {j : Nat} (hj : j < 26) (h : eSndP c bF bM bL bD n cs j g) : ∃ m, Walk Try.prog c true (fun g => if j + 1 < 26 then eSndP c bF bM bL bD n cs (j + 1) g else eClP c bF bM bL bD n cs g) m (Conc.served g undef) w := by
  obtain ⟨v0, v2, v4, v6, v7, v8, v12, v13, v14, v15, v16, v17, v18, v19, v20, v21, v22, v23, v24, v25, v26, v27, v28, v29, v30, v32, v33, v36, v37, v38, v39, v40, v41, v42, v43, v44, v45, v46, v47, v48, v49, v50, v51, v52, rfl⟩ := h
  refine ⟨0 + 60, ?_⟩
  show Goes _ _ _ _ _ _ _ _
  rw [served_at (o := eO15.getD 2 default) rfl]
  simp only [eO15, eLS, eR16, eT3, eT2, eT1, eBody, Try.f32, Option.getD_some]
  have hwr : IntKind.i64.wrap ((j : Int) + 1) = ((j + 1 : Nat) : Int) := by rw [IntKind.wrap_i64]; omega
  by_cases hl : j + 1 < 26
  · simp only [if_pos hl]
    have hl' : decide ((j : Int) + 1 < 26) = true := by simp; omega
    repeat (first
      | (refine Goes.step rfl (fun w₁ h₁ => ?_); walk_rw; refine ⟨dq_idle c w₁, ?_⟩)
      | (refine Goes.step rfl (fun w₁ h₁ => ?_)
         refine goes_oper_k rfl rfl (by decide) (fun K hK => ?_)
         have hF := k.ldF w₁ h₁
         have hD := k.ldD w₁ h₁
         go_simp
         refine hK _ _ ⟨⟨rfl, rfl, rfl, rfl, fun e he => ?_⟩, ?_⟩
         · have hm := mem_listed he
           simp [go_sem, *] at hm
           try (subst hm; first | exact ⟨_, rfl, k.fx.1⟩ | exact ⟨_, rfl, k.fx.2.2.2⟩)
         clear hK K hF hD h₁))
    refine Goes.step rfl (fun w₁ h₁ => ?_)
    rw [stepG_cond (t := true) rfl]
    simp only [goes_go, ↓reduceIte]
    refine ⟨dq_idle c w₁, ?_⟩
    repeat (first
      | (refine Goes.step rfl (fun w₁ h₁ => ?_); walk_rw; refine ⟨dq_idle c w₁, ?_⟩)
      | (refine Goes.step rfl (fun w₁ h₁ => ?_)
         refine goes_oper_k rfl rfl (by decide) (fun K hK => ?_)
         have hF := k.ldF w₁ h₁
         have hD := k.ldD w₁ h₁
         go_simp
         refine hK _ _ ⟨⟨rfl, rfl, rfl, rfl, fun e he => ?_⟩, ?_⟩
         · have hm := mem_listed he
           simp [go_sem, *] at hm
           try (subst hm; first | exact ⟨_, rfl, k.fx.1⟩ | exact ⟨_, rfl, k.fx.2.2.2⟩)
         clear hK K hF hD h₁))
    exact Goes.stop fun w₁ _ => ⟨rfl, _, _, _, _, _, _, _, _, _, _, _, _, _, _, _, _, _, _, _, _, _, _, _, _, _, _, _, _, _, _, _, _, _, _, _, _, _, _, _, _, _, _, _, _, rfl⟩
  · simp only [if_neg hl]
    have hl' : decide ((j : Int) + 1 < 26) = false := by simp; omega
    repeat (first
      | (refine Goes.step rfl (fun w₁ h₁ => ?_); walk_rw; refine ⟨dq_idle c w₁, ?_⟩)
      | (refine Goes.step rfl (fun w₁ h₁ => ?_)
         refine goes_oper_k rfl rfl (by decide) (fun K hK => ?_)
         have hF := k.ldF w₁ h₁
         have hD := k.ldD w₁ h₁
         go_simp
         refine hK _ _ ⟨⟨rfl, rfl, rfl, rfl, fun e he => ?_⟩, ?_⟩
         · have hm := mem_listed he
           simp [go_sem, *] at hm
           try (subst hm; first | exact ⟨_, rfl, k.fx.1⟩ | exact ⟨_, rfl, k.fx.2.2.2⟩)
         clear hK K hF hD h₁))
    refine Goes.step rfl (fun w₁ h₁ => ?_)
    rw [stepG_cond (t := false) rfl]
    simp only [goes_go, Bool.false_eq_true, ↓reduceIte]
    refine ⟨dq_idle c w₁, ?_⟩
    refine Goes.step rfl (fun w₁ h₁ => ?_)
    apply goes_exit
    · rfl
    refine ⟨dq_idle c w₁, ?_⟩
    repeat (first
      | (refine Goes.step rfl (fun w₁ h₁ => ?_); walk_rw; refine ⟨dq_idle c w₁, ?_⟩)
      | (refine Goes.step rfl (fun w₁ h₁ => ?_)
         refine goes_oper_k rfl rfl (by decide) (fun K hK => ?_)
         have hF := k.ldF w₁ h₁
         have hD := k.ldD w₁ h₁
         go_simp
         refine hK _ _ ⟨⟨rfl, rfl, rfl, rfl, fun e he => ?_⟩, ?_⟩
         · have hm := mem_listed he
           simp [go_sem, *] at hm
           try (subst hm; first | exact ⟨_, rfl, k.fx.1⟩ | exact ⟨_, rfl, k.fx.2.2.2⟩)
         clear hK K hF hD h₁))
    exact Goes.stop fun w₁ _ => ⟨rfl, _, _, _, _, _, _, _, _, _, _, _, _, _, _, _, _, _, _, _, _, _, _, _, _, _, _, _, _, _, _, _, _, _, _, _, _, _, _, _, _, _, _, _, _, _, _, rfl⟩
set_option maxRecDepth 100000 in
set_option maxHeartbeats 8000000 in
theorem eGo_s {j : Nat} (h : eGoP c bF bM bL bD n cs j g) : isG g ∧ ∃ g', (∀ w, stepG Try.prog true g w = .spawn g' (born Try.prog (wGo c bF bM bL bD)) w #[]) ∧ ∃ v0 v2 v4 v6 v7 v8 v12 v13 v14 v15 v16 v17 v18 v19 v20 v21 v22 v23 v24 v25 v28 v30 v31 v32 v33 v34 v35 v36 v37 v38 v39 v40 v41 v42 v43 v44 v45 v46 v47 v48 v49 v50 v51 v52 : Value, g' = G (eB.at ⟨#[v0, .int .i64 (n : Nat), v2, .pointer (some ⟨bM, 0, none⟩), v4, .pointer (some ⟨bL, 0, none⟩), v6, v7, v8, .pointer (some ⟨c.Fd, 0, none⟩), .pointer (some ⟨bF, 0, none⟩), .pointer (some ⟨bD, 0, none⟩), v12, v13, v14, v15, v16, v17, v18, v19, v20, v21, v22, v23, v24, v25, .int .i64 (n : Nat), .int .i64 (j : Nat), v28, .func (.func 65) #[] #[.pointer (some ⟨bF, 0, none⟩), .pointer (some ⟨bM, 0, none⟩), .pointer (some ⟨bL, 0, none⟩), .pointer (some ⟨c.Fd, 0, none⟩), .pointer (some ⟨bD, 0, none⟩)], v30, v31, v32, v33, v34, v35, v36, v37, v38, v39, v40, v41, v42, v43, v44, v45, v46, v47, v48, v49, v50, v51, v52], []⟩ [.inRegion eO10 [], .inBlock 1, .code eR11, .inLoop eLG, .inBlock 0, .code eT2]) cs := by
  obtain ⟨v0, v2, v4, v6, v7, v8, v12, v13, v14, v15, v16, v17, v18, v19, v20, v21, v22, v23, v24, v25, v28, v30, v31, v32, v33, v34, v35, v36, v37, v38, v39, v40, v41, v42, v43, v44, v45, v46, v47, v48, v49, v50, v51, v52, rfl⟩ := h
  refine ⟨⟨_, _, rfl⟩, _, fun w => ?_, v0, v2, v4, v6, v7, v8, v12, v13, v14, v15, v16, v17, v18, v19, v20, v21, v22, v23, v24, v25, v28, v30, v31, v32, v33, v34, v35, v36, v37, v38, v39, v40, v41, v42, v43, v44, v45, v46, v47, v48, v49, v50, v51, v52, rfl⟩
  simp only [eO10, eLG, eT1, eBody, Try.f32, Option.getD_some]
  rw [stepG_spawn (d := wGo c bF bM bL bD) (w' := w) (f := .func 65) (c := #[.pointer (some ⟨bF, 0, none⟩), .pointer (some ⟨bM, 0, none⟩), .pointer (some ⟨bL, 0, none⟩), .pointer (some ⟨c.Fd, 0, none⟩), .pointer (some ⟨bD, 0, none⟩)]) rfl rfl (by decide) (by simp [execOp, go_sem, wGo]) rfl]
  rw [listed_nil (by simp [go_sem])]
  rfl
set_option maxRecDepth 100000 in
set_option maxHeartbeats 8000000 in
theorem eRcv_s {j : Nat} (h : eRcvP c bF bM bL bD n cs j g) : isG g ∧ ∀ w, stepG Try.prog true g w = .comm g #[rcase c.C2 (.bool false)] true (.recv false) w #[] := by
  obtain ⟨v0, v2, v4, v6, v7, v8, v12, v13, v14, v15, v16, v17, v18, v19, v20, v21, v22, v23, v24, v25, v26, v27, v28, v29, v30, v31, v32, v33, v34, v35, v36, v37, v40, v42, v43, v44, v45, v46, v47, v48, v49, v50, v51, v52, rfl⟩ := h
  refine ⟨⟨_, _, rfl⟩, fun w => ?_⟩
  simp only [eO20, eLR, eT4, eT3, eT2, eT1, eBody, Try.f32, Option.getD_some]
  rw [stepG_comm (cases := #[rcase c.C2 (.bool false)]) (blocking := true) (shape := .recv false) (w' := w) rfl rfl (by decide) (by simp [execOp, rcase, go_sem])]
  rw [listed_nil (by simp [go_sem])]
set_option maxRecDepth 100000 in
set_option maxHeartbeats 8000000 in
theorem eRcv_on (k : WkP c bF bM bL bD vm vl) (hn : n ≤ 1000) {j : Nat} (hj : j < n) (h : eRcvP c bF bM bL bD n cs j g) : ∃ m, Walk Try.prog c true (fun g => if j + 1 < n then eRcvP c bF bM bL bD n cs (j + 1) g else eJnP c bF bM bL bD n cs g) m (Conc.served g (.bool true)) w := by
  obtain ⟨v0, v2, v4, v6, v7, v8, v12, v13, v14, v15, v16, v17, v18, v19, v20, v21, v22, v23, v24, v25, v26, v27, v28, v29, v30, v31, v32, v33, v34, v35, v36, v37, v40, v42, v43, v44, v45, v46, v47, v48, v49, v50, v51, v52, rfl⟩ := h
  refine ⟨0 + 60, ?_⟩
  show Goes _ _ _ _ _ _ _ _
  rw [served_at (o := eO20.getD 1 default) rfl]
  simp only [eO20, eLR, eR21, eT4, eT3, eT2, eT1, eBody, Try.f32, Option.getD_some]
  have hwr : IntKind.i64.wrap ((j : Int) + 1) = ((j + 1 : Nat) : Int) := by rw [IntKind.wrap_i64]; omega
  by_cases hl : j + 1 < n
  · simp only [if_pos hl]
    have hl' : decide ((j : Int) + 1 < (n : Int)) = true := by simp; omega
    repeat (first
      | (refine Goes.step rfl (fun w₁ h₁ => ?_); walk_rw; refine ⟨dq_idle c w₁, ?_⟩)
      | (refine Goes.step rfl (fun w₁ h₁ => ?_)
         refine goes_oper_k rfl rfl (by decide) (fun K hK => ?_)
         have hF := k.ldF w₁ h₁
         have hD := k.ldD w₁ h₁
         go_simp
         refine hK _ _ ⟨⟨rfl, rfl, rfl, rfl, fun e he => ?_⟩, ?_⟩
         · have hm := mem_listed he
           simp [go_sem, *] at hm
           try (subst hm; first | exact ⟨_, rfl, k.fx.1⟩ | exact ⟨_, rfl, k.fx.2.2.2⟩)
         clear hK K hF hD h₁))
    refine Goes.step rfl (fun w₁ h₁ => ?_)
    rw [stepG_cond (t := true) rfl]
    simp only [goes_go, ↓reduceIte]
    refine ⟨dq_idle c w₁, ?_⟩
    repeat (first
      | (refine Goes.step rfl (fun w₁ h₁ => ?_); walk_rw; refine ⟨dq_idle c w₁, ?_⟩)
      | (refine Goes.step rfl (fun w₁ h₁ => ?_)
         refine goes_oper_k rfl rfl (by decide) (fun K hK => ?_)
         have hF := k.ldF w₁ h₁
         have hD := k.ldD w₁ h₁
         go_simp
         refine hK _ _ ⟨⟨rfl, rfl, rfl, rfl, fun e he => ?_⟩, ?_⟩
         · have hm := mem_listed he
           simp [go_sem, *] at hm
           try (subst hm; first | exact ⟨_, rfl, k.fx.1⟩ | exact ⟨_, rfl, k.fx.2.2.2⟩)
         clear hK K hF hD h₁))
    exact Goes.stop fun w₁ _ => ⟨rfl, _, _, _, _, _, _, _, _, _, _, _, _, _, _, _, _, _, _, _, _, _, _, _, _, _, _, _, _, _, _, _, _, _, _, _, _, _, _, _, _, _, _, _, _, rfl⟩
  · simp only [if_neg hl]
    have hl' : decide ((j : Int) + 1 < (n : Int)) = false := by simp; omega
    repeat (first
      | (refine Goes.step rfl (fun w₁ h₁ => ?_); walk_rw; refine ⟨dq_idle c w₁, ?_⟩)
      | (refine Goes.step rfl (fun w₁ h₁ => ?_)
         refine goes_oper_k rfl rfl (by decide) (fun K hK => ?_)
         have hF := k.ldF w₁ h₁
         have hD := k.ldD w₁ h₁
         go_simp
         refine hK _ _ ⟨⟨rfl, rfl, rfl, rfl, fun e he => ?_⟩, ?_⟩
         · have hm := mem_listed he
           simp [go_sem, *] at hm
           try (subst hm; first | exact ⟨_, rfl, k.fx.1⟩ | exact ⟨_, rfl, k.fx.2.2.2⟩)
         clear hK K hF hD h₁))
    refine Goes.step rfl (fun w₁ h₁ => ?_)
    rw [stepG_cond (t := false) rfl]
    simp only [goes_go, Bool.false_eq_true, ↓reduceIte]
    refine ⟨dq_idle c w₁, ?_⟩
    refine Goes.step rfl (fun w₁ h₁ => ?_)
    apply goes_exit
    · rfl
    refine ⟨dq_idle c w₁, ?_⟩
    exact Goes.stop fun w₁ _ => ⟨rfl, _, _, _, _, _, _, _, _, _, _, _, _, _, _, _, _, _, _, _, _, _, _, _, _, _, _, _, _, _, _, _, _, _, _, _, _, _, _, _, _, _, _, _, _, _, _, _, rfl⟩
set_option maxRecDepth 100000 in
set_option maxHeartbeats 8000000 in
theorem eGo_on (k : WkP c bF bM bL bD vm vl) (hn : n ≤ 1000) {j : Nat} (hj : j < n) (h : ∃ v0 v2 v4 v6 v7 v8 v12 v13 v14 v15 v16 v17 v18 v19 v20 v21 v22 v23 v24 v25 v28 v30 v31 v32 v33 v34 v35 v36 v37 v38 v39 v40 v41 v42 v43 v44 v45 v46 v47 v48 v49 v50 v51 v52 : Value, g = G (eB.at ⟨#[v0, .int .i64 (n : Nat), v2, .pointer (some ⟨bM, 0, none⟩), v4, .pointer (some ⟨bL, 0, none⟩), v6, v7, v8, .pointer (some ⟨c.Fd, 0, none⟩), .pointer (some ⟨bF, 0, none⟩), .pointer (some ⟨bD, 0, none⟩), v12, v13, v14, v15, v16, v17, v18, v19, v20, v21, v22, v23, v24, v25, .int .i64 (n : Nat), .int .i64 (j : Nat), v28, .func (.func 65) #[] #[.pointer (some ⟨bF, 0, none⟩), .pointer (some ⟨bM, 0, none⟩), .pointer (some ⟨bL, 0, none⟩), .pointer (some ⟨c.Fd, 0, none⟩), .pointer (some ⟨bD, 0, none⟩)], v30, v31, v32, v33, v34, v35, v36, v37, v38, v39, v40, v41, v42, v43, v44, v45, v46, v47, v48, v49, v50, v51, v52], []⟩ [.inRegion eO10 [], .inBlock 1, .code eR11, .inLoop eLG, .inBlock 0, .code eT2]) cs) : ∃ m, Walk Try.prog c true (fun g => if j + 1 < n then eGoP c bF bM bL bD n cs (j + 1) g else eSndP c bF bM bL bD n cs 0 g) m g w := by
  obtain ⟨v0, v2, v4, v6, v7, v8, v12, v13, v14, v15, v16, v17, v18, v19, v20, v21, v22, v23, v24, v25, v28, v30, v31, v32, v33, v34, v35, v36, v37, v38, v39, v40, v41, v42, v43, v44, v45, v46, v47, v48, v49, v50, v51, v52, rfl⟩ := h
  refine ⟨0 + 60, ?_⟩
  show Goes _ _ _ _ _ _ _ _
  simp only [eO10, eLG, eR11, eT2, eT1, eBody, Try.f32, Option.getD_some]
  have hwr : IntKind.i64.wrap ((j : Int) + 1) = ((j + 1 : Nat) : Int) := by rw [IntKind.wrap_i64]; omega
  by_cases hl : j + 1 < n
  · simp only [if_pos hl]
    have hl' : decide ((j : Int) + 1 < (n : Int)) = true := by simp; omega
    repeat (first
      | (refine Goes.step rfl (fun w₁ h₁ => ?_); walk_rw; refine ⟨dq_idle c w₁, ?_⟩)
      | (refine Goes.step rfl (fun w₁ h₁ => ?_)
         refine goes_oper_k rfl rfl (by decide) (fun K hK => ?_)
         have hF := k.ldF w₁ h₁
         have hD := k.ldD w₁ h₁
         go_simp
         refine hK _ _ ⟨⟨rfl, rfl, rfl, rfl, fun e he => ?_⟩, ?_⟩
         · have hm := mem_listed he
           simp [go_sem, *] at hm
           try (subst hm; first | exact ⟨_, rfl, k.fx.1⟩ | exact ⟨_, rfl, k.fx.2.2.2⟩)
         clear hK K hF hD h₁))
    refine Goes.step rfl (fun w₁ h₁ => ?_)
    rw [stepG_cond (t := true) rfl]
    simp only [goes_go, ↓reduceIte]
    refine ⟨dq_idle c w₁, ?_⟩
    repeat (first
      | (refine Goes.step rfl (fun w₁ h₁ => ?_); walk_rw; refine ⟨dq_idle c w₁, ?_⟩)
      | (refine Goes.step rfl (fun w₁ h₁ => ?_)
         refine goes_oper_k rfl rfl (by decide) (fun K hK => ?_)
         have hF := k.ldF w₁ h₁
         have hD := k.ldD w₁ h₁
         go_simp
         refine hK _ _ ⟨⟨rfl, rfl, rfl, rfl, fun e he => ?_⟩, ?_⟩
         · have hm := mem_listed he
           simp [go_sem, *] at hm
           try (subst hm; first | exact ⟨_, rfl, k.fx.1⟩ | exact ⟨_, rfl, k.fx.2.2.2⟩)
         clear hK K hF hD h₁))
    try (refine Goes.step rfl (fun w₁ h₁ => ?_)
         rw [stepG_value (v := .func (.func 65) #[] #[.pointer (some ⟨bF, 0, none⟩), .pointer (some ⟨bM, 0, none⟩), .pointer (some ⟨bL, 0, none⟩), .pointer (some ⟨c.Fd, 0, none⟩), .pointer (some ⟨bD, 0, none⟩)]) (w' := w₁) rfl rfl (by decide) (by simp [execOp]; rfl)]
         rw [listed_nil (by simp [execOp]; rfl)]
         simp only [goes_go]
         refine ⟨dq_idle c w₁, ?_⟩)
    exact Goes.stop fun w₁ _ => ⟨rfl, _, _, _, _, _, _, _, _, _, _, _, _, _, _, _, _, _, _, _, _, _, _, _, _, _, _, _, _, _, _, _, _, _, _, _, _, _, _, _, _, _, _, _, _, rfl⟩
  · simp only [if_neg hl]
    have hl' : decide ((j : Int) + 1 < (n : Int)) = false := by simp; omega
    repeat (first
      | (refine Goes.step rfl (fun w₁ h₁ => ?_); walk_rw; refine ⟨dq_idle c w₁, ?_⟩)
      | (refine Goes.step rfl (fun w₁ h₁ => ?_)
         refine goes_oper_k rfl rfl (by decide) (fun K hK => ?_)
         have hF := k.ldF w₁ h₁
         have hD := k.ldD w₁ h₁
         go_simp
         refine hK _ _ ⟨⟨rfl, rfl, rfl, rfl, fun e he => ?_⟩, ?_⟩
         · have hm := mem_listed he
           simp [go_sem, *] at hm
           try (subst hm; first | exact ⟨_, rfl, k.fx.1⟩ | exact ⟨_, rfl, k.fx.2.2.2⟩)
         clear hK K hF hD h₁))
    refine Goes.step rfl (fun w₁ h₁ => ?_)
    rw [stepG_cond (t := false) rfl]
    simp only [goes_go, Bool.false_eq_true, ↓reduceIte]
    refine ⟨dq_idle c w₁, ?_⟩
    refine Goes.step rfl (fun w₁ h₁ => ?_)
    apply goes_exit
    · rfl
    refine ⟨dq_idle c w₁, ?_⟩
    repeat (first
      | (refine Goes.step rfl (fun w₁ h₁ => ?_); walk_rw; refine ⟨dq_idle c w₁, ?_⟩)
      | (refine Goes.step rfl (fun w₁ h₁ => ?_)
         refine goes_oper_k rfl rfl (by decide) (fun K hK => ?_)
         have hF := k.ldF w₁ h₁
         have hD := k.ldD w₁ h₁
         go_simp
         refine hK _ _ ⟨⟨rfl, rfl, rfl, rfl, fun e he => ?_⟩, ?_⟩
         · have hm := mem_listed he
           simp [go_sem, *] at hm
           try (subst hm; first | exact ⟨_, rfl, k.fx.1⟩ | exact ⟨_, rfl, k.fx.2.2.2⟩)
         clear hK K hF hD h₁))
    refine Goes.step rfl (fun w₁ h₁ => ?_)
    rw [stepG_cond (t := true) rfl]
    simp only [goes_go, ↓reduceIte]
    refine ⟨dq_idle c w₁, ?_⟩
    repeat (first
      | (refine Goes.step rfl (fun w₁ h₁ => ?_); walk_rw; refine ⟨dq_idle c w₁, ?_⟩)
      | (refine Goes.step rfl (fun w₁ h₁ => ?_)
         refine goes_oper_k rfl rfl (by decide) (fun K hK => ?_)
         have hF := k.ldF w₁ h₁
         have hD := k.ldD w₁ h₁
         go_simp
         refine hK _ _ ⟨⟨rfl, rfl, rfl, rfl, fun e he => ?_⟩, ?_⟩
         · have hm := mem_listed he
           simp [go_sem, *] at hm
           try (subst hm; first | exact ⟨_, rfl, k.fx.1⟩ | exact ⟨_, rfl, k.fx.2.2.2⟩)
         clear hK K hF hD h₁))
    exact Goes.stop fun w₁ _ => ⟨rfl, _, _, _, _, _, _, _, _, _, _, _, _, _, _, _, _, _, _, _, _, _, _, _, _, _, _, _, _, _, _, _, _, _, _, _, _, _, _, _, _, _, _, _, _, rfl⟩
theorem eLoud : (Try.prog.funcs[eB.fn]?).any (·.norace) = false := by kernel_rfl
set_option maxRecDepth 100000 in
set_option maxHeartbeats 8000000 in
theorem eCl_s (h1 : 1 ≤ n) (k : WkP c bF bM bL bD vm vl) (h : eClP c bF bM bL bD n cs g) : isG g ∧ mayWake Try.prog g = true ∧ ∃ g', (∀ w s r, w.heap[c.C1]? = some (.chan 0 #[] false s r false) → stepG Try.prog true g w = .go g' { w with heap := w.heap.setIfInBounds c.C1 (.chan 0 #[] true s r false) } #[⟨.obj c.C1, false, true⟩, ⟨.obj c.C1, true, true⟩]) ∧ g'.status = .running ∧ ∀ w, ∃ m, Walk Try.prog c true (eRcvP c bF bM bL bD n cs 0) m g' w := by
  obtain ⟨v0, v2, v4, v6, v7, v8, v12, v13, v14, v15, v16, v17, v18, v19, v20, v21, v22, v23, v24, v25, v26, v27, v28, v29, v30, v31, v32, v33, v34, v35, v36, v38, v39, v40, v41, v42, v43, v44, v45, v46, v47, v48, v49, v50, v51, v52, rfl⟩ := h
  refine ⟨⟨_, _, rfl⟩, by simp [mayWake, G, Frame.at, eO17, eT3, eT2, eT1, eBody, Try.f32], G (eB.at ⟨#[v0, .int .i64 (n : Nat), v2, .pointer (some ⟨bM, 0, none⟩), v4, .pointer (some ⟨bL, 0, none⟩), v6, v7, v8, .pointer (some ⟨c.Fd, 0, none⟩), .pointer (some ⟨bF, 0, none⟩), .pointer (some ⟨bD, 0, none⟩), v12, v13, v14, v15, v16, v17, v18, v19, v20, v21, v22, v23, v24, v25, v26, v27, v28, v29, v30, v31, v32, v33, v34, v35, v36, .chan (some c.C1), v38, v39, v40, v41, v42, v43, v44, v45, v46, v47, v48, v49, v50, v51, v52], []⟩ [.inRegion eO17 [], .code eT4]) cs, fun w s r hc => ?_, rfl, fun w => ⟨0 + 60, ?_⟩⟩
  · simp only [eO17, eT3, eT2, eT1, eBody, Try.f32, Option.getD_some]
    rw [stepG_close rfl rfl (by decide) rfl rfl hc eLoud]
    rfl
  · show Goes _ _ _ _ _ _ _ _
    simp only [eO17, eT4, eT3, eT2, eT1, eBody, Try.f32, Option.getD_some]
    have hl' : 0 < n := h1
    repeat (first
      | (refine Goes.step rfl (fun w₁ h₁ => ?_); walk_rw; refine ⟨dq_idle c w₁, ?_⟩)
      | (refine Goes.step rfl (fun w₁ h₁ => ?_)
         refine goes_oper_k rfl rfl (by decide) (fun K hK => ?_)
         have hF := k.ldF w₁ h₁
         have hD := k.ldD w₁ h₁
         go_simp
         refine hK _ _ ⟨⟨rfl, rfl, rfl, rfl, fun e he => ?_⟩, ?_⟩
         · have hm := mem_listed he
           simp [go_sem, *] at hm
           try (subst hm; first | exact ⟨_, rfl, k.fx.1⟩ | exact ⟨_, rfl, k.fx.2.2.2⟩)
         clear hK K hF hD h₁))
    refine Goes.step rfl (fun w₁ h₁ => ?_)
    rw [stepG_cond (t := true) rfl]
    simp only [goes_go, ↓reduceIte]
    refine ⟨dq_idle c w₁, ?_⟩
    repeat (first
      | (refine Goes.step rfl (fun w₁ h₁ => ?_); walk_rw; refine ⟨dq_idle c w₁, ?_⟩)
      | (refine Goes.step rfl (fun w₁ h₁ => ?_)
         refine goes_oper_k rfl rfl (by decide) (fun K hK => ?_)
         have hF := k.ldF w₁ h₁
         have hD := k.ldD w₁ h₁
         go_simp
         refine hK _ _ ⟨⟨rfl, rfl, rfl, rfl, fun e he => ?_⟩, ?_⟩
         · have hm := mem_listed he
           simp [go_sem, *] at hm
           try (subst hm; first | exact ⟨_, rfl, k.fx.1⟩ | exact ⟨_, rfl, k.fx.2.2.2⟩)
         clear hK K hF hD h₁))
    exact Goes.stop fun w₁ _ => ⟨rfl, _, _, _, _, _, _, _, _, _, _, _, _, _, _, _, _, _, _, _, _, _, _, _, _, _, _, _, _, _, _, _, _, _, _, _, _, _, _, _, _, _, _, _, _, rfl⟩
end
end Go.Proofs.Ytbbpbcmpemmgjaa.Hb
