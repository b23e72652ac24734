import Derived.Test.YtgacaecjinlhiaaGreatDoorCvA
import Derived.Test.YtgacaecjinlhiaaGreatDoorJn22
namespace Go.Proofs.YtgacaecjinlhiaaGreatDoor
namespace Hb
open Go.Conc Cs
noncomputable def dm:Code:=Tryz.f11.body.getD .skip
noncomputable def eT1:Code:=match dm with | .seq _ (.seq _ (.seq _ (.seq _ (.seq _ r))))=>r | _=>.skip
noncomputable def eT2:Code:=match eT1 with | .seq _ r=>r | _=>.skip
noncomputable def eT3:Code:=match eT2 with | .seq _ r=>r | _=>.skip
noncomputable def eT4:Code:=match eT3 with | .seq _ r=>r | _=>.skip
noncomputable def eT5:Code:=match eT4 with | .seq _ r=>r | _=>.skip
noncomputable def eLG:Code:=match eT1 with | .seq (.seq _ (.block _ (.loop c))) _=>c | _=>.skip
noncomputable def eLS:Code:=match eT2 with | .seq (.seq _ (.block _ (.loop c))) _=>c | _=>.skip
noncomputable def eLR:Code:=match eT4 with | .seq (.seq _ (.block _ (.loop c))) _=>c | _=>.skip
noncomputable def Fj:Code:=match eLG with | .seq _ (.seq _ (.seq _ r))=>r | _=>.skip
noncomputable def Lc:Code:=match eLS with | .seq _ (.seq _ (.seq _ r))=>r | _=>.skip
noncomputable def K6:Code:=match eLR with | .seq _ (.seq _ (.seq _ r))=>r | _=>.skip
noncomputable def CG:Array Oper:=match eLG with | .seq _ (.seq _ (.seq (.block _ (.region _ o _)) _))=>o | _=>#[]
noncomputable def Hp:Array Oper:=match eLS with | .seq _ (.seq _ (.seq (.block _ (.seq _ (.region _ o _))) _))=>o | _=>#[]
noncomputable def Ei:Array Oper:=match eT3 with | .seq (.region _ o _) _=>o | _=>#[]
noncomputable def Hq:Array Oper:=match eLR with | .seq _ (.seq _ (.seq (.block _ (.region _ o _)) _))=>o | _=>#[]
def eB:Frame:=base 11
def xp (c:Cst) (bF bM bL bD n:Nat) (cs:List Frame) (j:Nat) (g:Goroutine):Prop:=∃v0 v2 v4 v6 v7 v8 v12 v13 v14 v15 v16 v17 v18 v19 v20 v21 v22 v23 v24 v25 v28 v30 v31 v32 v33 v34 v35 v36 v37 v38 v39 v40 v41 v42 v43 v44 v45 v46 v47 v48 v49 v50 v51 v52:Value,g=G (eB.at ⟨#[v0,.int .i64 (n:Nat),v2,.pointer (some ⟨bM,0,none⟩),v4,.pointer (some ⟨bL,0,none⟩),v6,v7,v8,.pointer (some ⟨c.Fd,0,none⟩),.pointer (some ⟨bF,0,none⟩),.pointer (some ⟨bD,0,none⟩),v12,v13,v14,v15,v16,v17,v18,v19,v20,v21,v22,v23,v24,v25,.int .i64 (n:Nat),.int .i64 (j:Nat),v28,.func (.func 32) #[] #[.pointer (some ⟨bF,0,none⟩),.pointer (some ⟨bM,0,none⟩),.pointer (some ⟨bL,0,none⟩),.pointer (some ⟨c.Fd,0,none⟩),.pointer (some ⟨bD,0,none⟩)],v30,v31,v32,v33,v34,v35,v36,v37,v38,v39,v40,v41,v42,v43,v44,v45,v46,v47,v48,v49,v50,v51,v52],[]⟩ [.inRegion CG [1],.inBlock 1,.code Fj,.inLoop eLG,.inBlock 0,.code eT2]) cs
def wO (c:Cst) (bF bM bL bD n:Nat) (cs:List Frame) (j:Nat) (g:Goroutine):Prop:=∃v0 v2 v4 v6 v7 v8 v12 v13 v14 v15 v16 v17 v18 v19 v20 v21 v22 v23 v24 v25 v26 v27 v28 v29 v30 v32 v33 v36 v37 v38 v39 v40 v41 v42 v43 v44 v45 v46 v47 v48 v49 v50 v51 v52:Value,g=G (eB.at ⟨#[v0,.int .i64 (n:Nat),v2,.pointer (some ⟨bM,0,none⟩),v4,.pointer (some ⟨bL,0,none⟩),v6,v7,v8,.pointer (some ⟨c.Fd,0,none⟩),.pointer (some ⟨bF,0,none⟩),.pointer (some ⟨bD,0,none⟩),v12,v13,v14,v15,v16,v17,v18,v19,v20,v21,v22,v23,v24,v25,v26,v27,v28,v29,v30,.int .i64 (j:Nat),v32,v33,.chan (some c.C1),.int .i64 (j:Nat),v36,v37,v38,v39,v40,v41,v42,v43,v44,v45,v46,v47,v48,v49,v50,v51,v52],[]⟩ [.inRegion Hp [2],.inBlock 3,.code Lc,.inLoop eLS,.inBlock 2,.code eT3]) cs
def JF (c:Cst) (bF bM bL bD n:Nat) (cs:List Frame) (g:Goroutine):Prop:=∃v0 v2 v4 v6 v7 v8 v12 v13 v14 v15 v16 v17 v18 v19 v20 v21 v22 v23 v24 v25 v26 v27 v28 v29 v30 v31 v32 v33 v34 v35 v36 v38 v39 v40 v41 v42 v43 v44 v45 v46 v47 v48 v49 v50 v51 v52:Value,g=G (eB.at ⟨#[v0,.int .i64 (n:Nat),v2,.pointer (some ⟨bM,0,none⟩),v4,.pointer (some ⟨bL,0,none⟩),v6,v7,v8,.pointer (some ⟨c.Fd,0,none⟩),.pointer (some ⟨bF,0,none⟩),.pointer (some ⟨bD,0,none⟩),v12,v13,v14,v15,v16,v17,v18,v19,v20,v21,v22,v23,v24,v25,v26,v27,v28,v29,v30,v31,v32,v33,v34,v35,v36,.chan (some c.C1),v38,v39,v40,v41,v42,v43,v44,v45,v46,v47,v48,v49,v50,v51,v52],[]⟩ [.inRegion Ei [1],.code eT4]) cs
def vJ (c:Cst) (bF bM bL bD n:Nat) (cs:List Frame) (j:Nat) (g:Goroutine):Prop:=∃v0 v2 v4 v6 v7 v8 v12 v13 v14 v15 v16 v17 v18 v19 v20 v21 v22 v23 v24 v25 v26 v27 v28 v29 v30 v31 v32 v33 v34 v35 v36 v37 v40 v42 v43 v44 v45 v46 v47 v48 v49 v50 v51 v52:Value,g=G (eB.at ⟨#[v0,.int .i64 (n:Nat),v2,.pointer (some ⟨bM,0,none⟩),v4,.pointer (some ⟨bL,0,none⟩),v6,v7,v8,.pointer (some ⟨c.Fd,0,none⟩),.pointer (some ⟨bF,0,none⟩),.pointer (some ⟨bD,0,none⟩),v12,v13,v14,v15,v16,v17,v18,v19,v20,v21,v22,v23,v24,v25,v26,v27,v28,v29,v30,v31,v32,v33,v34,v35,v36,v37,.int .i64 (n:Nat),.int .i64 (j:Nat),v40,.chan (some c.C2),v42,v43,v44,v45,v46,v47,v48,v49,v50,v51,v52],[]⟩ [.inRegion Hq [1],.inBlock 5,.code K6,.inLoop eLR,.inBlock 4,.code eT5]) cs
def KE (c:Cst) (bF bM bL bD n:Nat) (cs:List Frame) (g:Goroutine):Prop:=∃v0 v2 v4 v6 v7 v8 v12 v13 v14 v15 v16 v17 v18 v19 v20 v21 v22 v23 v24 v25 v26 v27 v28 v29 v30 v31 v32 v33 v34 v35 v36 v37 v38 v39 v40 v41 v42 v43 v44 v45 v46 v47 v48 v49 v50 v51 v52:Value,g=G (eB.at ⟨#[v0,.int .i64 (n:Nat),v2,.pointer (some ⟨bM,0,none⟩),v4,.pointer (some ⟨bL,0,none⟩),v6,v7,v8,.pointer (some ⟨c.Fd,0,none⟩),.pointer (some ⟨bF,0,none⟩),.pointer (some ⟨bD,0,none⟩),v12,v13,v14,v15,v16,v17,v18,v19,v20,v21,v22,v23,v24,v25,v26,v27,v28,v29,v30,v31,v32,v33,v34,v35,v36,v37,v38,v39,v40,v41,v42,v43,v44,v45,v46,v47,v48,v49,v50,v51,v52],[]⟩ [.code eT5]) cs
section
variable {c:Cst} {bF bM bL bD n:Nat} {vm vl:Value} {cs:List Frame} {g:Goroutine} {w:World}
set_option maxRecDepth 100000 in
set_option maxHeartbeats 8000000 in
theorem JC {j:Nat} (h:wO c bF bM bL bD n cs j g):isG g∧∀w,stepG Tryz.prog true g w=.comm g #[scase c.C1 (.int .i64 (j:Nat)) (.tuple #[])] true .send w #[]:=by
 obtain ⟨v0,v2,v4,v6,v7,v8,v12,v13,v14,v15,v16,v17,v18,v19,v20,v21,v22,v23,v24,v25,v26,v27,v28,v29,v30,v32,v33,v36,v37,v38,v39,v40,v41,v42,v43,v44,v45,v46,v47,v48,v49,v50,v51,v52,rfl⟩:=h
 refine ⟨⟨_,_,rfl⟩,fun w=>?_⟩
 simp only[Hp,eLS,eT2,eT1,dm,Tryz.f11,Option.getD_some]
 rw[stepG_comm (cases:=#[scase c.C1 (.int .i64 (j:Nat)) (.tuple #[])]) (blocking:=true) (shape:=.send) (w':=w) rfl rfl (by decide) (by simp[execOp,scase,go_sem])]
 rw[listed_nil (by simp[go_sem])]
set_option maxRecDepth 100000 in
set_option maxHeartbeats 8000000 in
theorem Gi (k : WkP c bF bM bL bD vm vl) {j : Nat} (hj : j < 26) (h : wO c bF bM bL bD n cs j g) : ∃ m, Walk Tryz.prog c true (fun g => if j + 1 < 26 then wO c bF bM bL bD n cs (j + 1) g else JF c bF bM bL bD n cs g) m (Conc.served g undef) w := by
  obtain ⟨v0, v2, v4, v6, v7, v8, v12, v13, v14, v15, v16, v17, v18, v19, v20, v21, v22, v23, v24, v25, v26, v27, v28, v29, v30, v32, v33, v36, v37, v38, v39, v40, v41, v42, v43, v44, v45, v46, v47, v48, v49, v50, v51, v52, rfl⟩ := h
  refine ⟨0 + 60, ?_⟩
  show Goes _ _ _ _ _ _ _ _
  rw [gL (o := Hp.getD 2 default) rfl]
  simp only [Hp, eLS, Lc, eT3, eT2, eT1, dm, Tryz.f11, Option.getD_some]
  have hwr : IntKind.i64.wrap ((j : Int) + 1) = ((j + 1 : Nat) : Int) := by rw [IntKind.wrap_i64]; omega
  by_cases hl : j + 1 < 26
  · simp only [if_pos hl]
    have hl' : decide ((j : Int) + 1 < 26) = true := by simp; omega
    repeat (first
      | (refine Goes.step rfl (fun w₁ h₁ => ?_); walk_rw; refine ⟨aP c w₁, ?_⟩)
      | (refine Goes.step rfl (fun w₁ h₁ => ?_)
         refine goes_oper_k rfl rfl (by decide) (fun K hK => ?_)
         have hF := k.ldF w₁ h₁
         have hD := k.ldD w₁ h₁
         go_simp
         refine hK _ _ ⟨⟨rfl, rfl, rfl, rfl, fun e he => ?_⟩, ?_⟩
         · have hm := mem_listed he
           simp [go_sem, *] at hm
           try (subst hm; first | exact ⟨_, rfl, k.fx.1⟩ | exact ⟨_, rfl, k.fx.2.2.2⟩)
         clear hK K hF hD h₁))
    refine Goes.step rfl (fun w₁ h₁ => ?_)
    rw [stepG_cond (t := true) rfl]
    simp only [goes_go, ↓reduceIte]
    refine ⟨aP c w₁, ?_⟩
    repeat (first
      | (refine Goes.step rfl (fun w₁ h₁ => ?_); walk_rw; refine ⟨aP c w₁, ?_⟩)
      | (refine Goes.step rfl (fun w₁ h₁ => ?_)
         refine goes_oper_k rfl rfl (by decide) (fun K hK => ?_)
         have hF := k.ldF w₁ h₁
         have hD := k.ldD w₁ h₁
         go_simp
         refine hK _ _ ⟨⟨rfl, rfl, rfl, rfl, fun e he => ?_⟩, ?_⟩
         · have hm := mem_listed he
           simp [go_sem, *] at hm
           try (subst hm; first | exact ⟨_, rfl, k.fx.1⟩ | exact ⟨_, rfl, k.fx.2.2.2⟩)
         clear hK K hF hD h₁))
    exact Goes.stop fun w₁ _ => ⟨rfl, _, _, _, _, _, _, _, _, _, _, _, _, _, _, _, _, _, _, _, _, _, _, _, _, _, _, _, _, _, _, _, _, _, _, _, _, _, _, _, _, _, _, _, _, rfl⟩
  · simp only [if_neg hl]
    have hl' : decide ((j : Int) + 1 < 26) = false := by simp; omega
    repeat (first
      | (refine Goes.step rfl (fun w₁ h₁ => ?_); walk_rw; refine ⟨aP c w₁, ?_⟩)
      | (refine Goes.step rfl (fun w₁ h₁ => ?_)
         refine goes_oper_k rfl rfl (by decide) (fun K hK => ?_)
         have hF := k.ldF w₁ h₁
         have hD := k.ldD w₁ h₁
         go_simp
         refine hK _ _ ⟨⟨rfl, rfl, rfl, rfl, fun e he => ?_⟩, ?_⟩
         · have hm := mem_listed he
           simp [go_sem, *] at hm
           try (subst hm; first | exact ⟨_, rfl, k.fx.1⟩ | exact ⟨_, rfl, k.fx.2.2.2⟩)
         clear hK K hF hD h₁))
    refine Goes.step rfl (fun w₁ h₁ => ?_)
    rw [stepG_cond (t := false) rfl]
    simp only [goes_go, Bool.false_eq_true, ↓reduceIte]
    refine ⟨aP c w₁, ?_⟩
    refine Goes.step rfl (fun w₁ h₁ => ?_)
    apply goes_exit
    · rfl
    refine ⟨aP c w₁, ?_⟩
    repeat (first
      | (refine Goes.step rfl (fun w₁ h₁ => ?_); walk_rw; refine ⟨aP c w₁, ?_⟩)
      | (refine Goes.step rfl (fun w₁ h₁ => ?_)
         refine goes_oper_k rfl rfl (by decide) (fun K hK => ?_)
         have hF := k.ldF w₁ h₁
         have hD := k.ldD w₁ h₁
         go_simp
         refine hK _ _ ⟨⟨rfl, rfl, rfl, rfl, fun e he => ?_⟩, ?_⟩
         · have hm := mem_listed he
           simp [go_sem, *] at hm
           try (subst hm; first | exact ⟨_, rfl, k.fx.1⟩ | exact ⟨_, rfl, k.fx.2.2.2⟩)
         clear hK K hF hD h₁))
    exact Goes.stop fun w₁ _ => ⟨rfl, _, _, _, _, _, _, _, _, _, _, _, _, _, _, _, _, _, _, _, _, _, _, _, _, _, _, _, _, _, _, _, _, _, _, _, _, _, _, _, _, _, _, _, _, _, _, rfl⟩
set_option maxRecDepth 100000 in
set_option maxHeartbeats 8000000 in
theorem KF {j:Nat} (h:xp c bF bM bL bD n cs j g):isG g∧∃g',(∀w,stepG Tryz.prog true g w=.spawn g' (born Tryz.prog (wGo c bF bM bL bD)) w #[])∧∃v0 v2 v4 v6 v7 v8 v12 v13 v14 v15 v16 v17 v18 v19 v20 v21 v22 v23 v24 v25 v28 v30 v31 v32 v33 v34 v35 v36 v37 v38 v39 v40 v41 v42 v43 v44 v45 v46 v47 v48 v49 v50 v51 v52:Value,g'=G (eB.at ⟨#[v0,.int .i64 (n:Nat),v2,.pointer (some ⟨bM,0,none⟩),v4,.pointer (some ⟨bL,0,none⟩),v6,v7,v8,.pointer (some ⟨c.Fd,0,none⟩),.pointer (some ⟨bF,0,none⟩),.pointer (some ⟨bD,0,none⟩),v12,v13,v14,v15,v16,v17,v18,v19,v20,v21,v22,v23,v24,v25,.int .i64 (n:Nat),.int .i64 (j:Nat),v28,.func (.func 32) #[] #[.pointer (some ⟨bF,0,none⟩),.pointer (some ⟨bM,0,none⟩),.pointer (some ⟨bL,0,none⟩),.pointer (some ⟨c.Fd,0,none⟩),.pointer (some ⟨bD,0,none⟩)],v30,v31,v32,v33,v34,v35,v36,v37,v38,v39,v40,v41,v42,v43,v44,v45,v46,v47,v48,v49,v50,v51,v52],[]⟩ [.inRegion CG [],.inBlock 1,.code Fj,.inLoop eLG,.inBlock 0,.code eT2]) cs:=by
 obtain ⟨v0,v2,v4,v6,v7,v8,v12,v13,v14,v15,v16,v17,v18,v19,v20,v21,v22,v23,v24,v25,v28,v30,v31,v32,v33,v34,v35,v36,v37,v38,v39,v40,v41,v42,v43,v44,v45,v46,v47,v48,v49,v50,v51,v52,rfl⟩:=h
 refine ⟨⟨_,_,rfl⟩,_,fun w=>?_,v0,v2,v4,v6,v7,v8,v12,v13,v14,v15,v16,v17,v18,v19,v20,v21,v22,v23,v24,v25,v28,v30,v31,v32,v33,v34,v35,v36,v37,v38,v39,v40,v41,v42,v43,v44,v45,v46,v47,v48,v49,v50,v51,v52,rfl⟩
 simp only[CG,eLG,eT1,dm,Tryz.f11,Option.getD_some]
 rw[stepG_spawn (d:=wGo c bF bM bL bD) (w':=w) (f:=.func 32) (c:=#[.pointer (some ⟨bF,0,none⟩),.pointer (some ⟨bM,0,none⟩),.pointer (some ⟨bL,0,none⟩),.pointer (some ⟨c.Fd,0,none⟩),.pointer (some ⟨bD,0,none⟩)]) rfl rfl (by decide) (by simp[execOp,go_sem,wGo]) rfl]
 rw[listed_nil (by simp[go_sem])]
 rfl
set_option maxRecDepth 100000 in
set_option maxHeartbeats 8000000 in
theorem Jt {j:Nat} (h:vJ c bF bM bL bD n cs j g):isG g∧∀w,stepG Tryz.prog true g w=.comm g #[rcase c.C2 (.bool false)] true (.recv false) w #[]:=by
 obtain ⟨v0,v2,v4,v6,v7,v8,v12,v13,v14,v15,v16,v17,v18,v19,v20,v21,v22,v23,v24,v25,v26,v27,v28,v29,v30,v31,v32,v33,v34,v35,v36,v37,v40,v42,v43,v44,v45,v46,v47,v48,v49,v50,v51,v52,rfl⟩:=h
 refine ⟨⟨_,_,rfl⟩,fun w=>?_⟩
 simp only[Hq,eLR,eT4,eT3,eT2,eT1,dm,Tryz.f11,Option.getD_some]
 rw[stepG_comm (cases:=#[rcase c.C2 (.bool false)]) (blocking:=true) (shape:=.recv false) (w':=w) rfl rfl (by decide) (by simp[execOp,rcase,go_sem])]
 rw[listed_nil (by simp[go_sem])]
set_option maxRecDepth 100000 in
set_option maxHeartbeats 8000000 in
theorem Gb (k : WkP c bF bM bL bD vm vl) (hn : n ≤ 1000) {j : Nat} (hj : j < n) (h : vJ c bF bM bL bD n cs j g) : ∃ m, Walk Tryz.prog c true (fun g => if j + 1 < n then vJ c bF bM bL bD n cs (j + 1) g else KE c bF bM bL bD n cs g) m (Conc.served g (.bool true)) w := by
  obtain ⟨v0, v2, v4, v6, v7, v8, v12, v13, v14, v15, v16, v17, v18, v19, v20, v21, v22, v23, v24, v25, v26, v27, v28, v29, v30, v31, v32, v33, v34, v35, v36, v37, v40, v42, v43, v44, v45, v46, v47, v48, v49, v50, v51, v52, rfl⟩ := h
  refine ⟨0 + 60, ?_⟩
  show Goes _ _ _ _ _ _ _ _
  rw [gL (o := Hq.getD 1 default) rfl]
  simp only [Hq, eLR, K6, eT4, eT3, eT2, eT1, dm, Tryz.f11, Option.getD_some]
  have hwr : IntKind.i64.wrap ((j : Int) + 1) = ((j + 1 : Nat) : Int) := by rw [IntKind.wrap_i64]; omega
  by_cases hl : j + 1 < n
  · simp only [if_pos hl]
    have hl' : decide ((j : Int) + 1 < (n : Int)) = true := by simp; omega
    repeat (first
      | (refine Goes.step rfl (fun w₁ h₁ => ?_); walk_rw; refine ⟨aP c w₁, ?_⟩)
      | (refine Goes.step rfl (fun w₁ h₁ => ?_)
         refine goes_oper_k rfl rfl (by decide) (fun K hK => ?_)
         have hF := k.ldF w₁ h₁
         have hD := k.ldD w₁ h₁
         go_simp
         refine hK _ _ ⟨⟨rfl, rfl, rfl, rfl, fun e he => ?_⟩, ?_⟩
         · have hm := mem_listed he
           simp [go_sem, *] at hm
           try (subst hm; first | exact ⟨_, rfl, k.fx.1⟩ | exact ⟨_, rfl, k.fx.2.2.2⟩)
         clear hK K hF hD h₁))
    refine Goes.step rfl (fun w₁ h₁ => ?_)
    rw [stepG_cond (t := true) rfl]
    simp only [goes_go, ↓reduceIte]
    refine ⟨aP c w₁, ?_⟩
    repeat (first
      | (refine Goes.step rfl (fun w₁ h₁ => ?_); walk_rw; refine ⟨aP c w₁, ?_⟩)
      | (refine Goes.step rfl (fun w₁ h₁ => ?_)
         refine goes_oper_k rfl rfl (by decide) (fun K hK => ?_)
         have hF := k.ldF w₁ h₁
         have hD := k.ldD w₁ h₁
         go_simp
         refine hK _ _ ⟨⟨rfl, rfl, rfl, rfl, fun e he => ?_⟩, ?_⟩
         · have hm := mem_listed he
           simp [go_sem, *] at hm
           try (subst hm; first | exact ⟨_, rfl, k.fx.1⟩ | exact ⟨_, rfl, k.fx.2.2.2⟩)
         clear hK K hF hD h₁))
    exact Goes.stop fun w₁ _ => ⟨rfl, _, _, _, _, _, _, _, _, _, _, _, _, _, _, _, _, _, _, _, _, _, _, _, _, _, _, _, _, _, _, _, _, _, _, _, _, _, _, _, _, _, _, _, _, rfl⟩
  · simp only [if_neg hl]
    have hl' : decide ((j : Int) + 1 < (n : Int)) = false := by simp; omega
    repeat (first
      | (refine Goes.step rfl (fun w₁ h₁ => ?_); walk_rw; refine ⟨aP c w₁, ?_⟩)
      | (refine Goes.step rfl (fun w₁ h₁ => ?_)
         refine goes_oper_k rfl rfl (by decide) (fun K hK => ?_)
         have hF := k.ldF w₁ h₁
         have hD := k.ldD w₁ h₁
         go_simp
         refine hK _ _ ⟨⟨rfl, rfl, rfl, rfl, fun e he => ?_⟩, ?_⟩
         · have hm := mem_listed he
           simp [go_sem, *] at hm
           try (subst hm; first | exact ⟨_, rfl, k.fx.1⟩ | exact ⟨_, rfl, k.fx.2.2.2⟩)
         clear hK K hF hD h₁))
    refine Goes.step rfl (fun w₁ h₁ => ?_)
    rw [stepG_cond (t := false) rfl]
    simp only [goes_go, Bool.false_eq_true, ↓reduceIte]
    refine ⟨aP c w₁, ?_⟩
    refine Goes.step rfl (fun w₁ h₁ => ?_)
    apply goes_exit
    · rfl
    refine ⟨aP c w₁, ?_⟩
    exact Goes.stop fun w₁ _ => ⟨rfl, _, _, _, _, _, _, _, _, _, _, _, _, _, _, _, _, _, _, _, _, _, _, _, _, _, _, _, _, _, _, _, _, _, _, _, _, _, _, _, _, _, _, _, _, _, _, _, rfl⟩
set_option maxRecDepth 100000 in
set_option maxHeartbeats 8000000 in
theorem JS (k : WkP c bF bM bL bD vm vl) (hn : n ≤ 1000) {j : Nat} (hj : j < n) (h : ∃ v0 v2 v4 v6 v7 v8 v12 v13 v14 v15 v16 v17 v18 v19 v20 v21 v22 v23 v24 v25 v28 v30 v31 v32 v33 v34 v35 v36 v37 v38 v39 v40 v41 v42 v43 v44 v45 v46 v47 v48 v49 v50 v51 v52 : Value, g = G (eB.at ⟨#[v0, .int .i64 (n : Nat), v2, .pointer (some ⟨bM, 0, none⟩), v4, .pointer (some ⟨bL, 0, none⟩), v6, v7, v8, .pointer (some ⟨c.Fd, 0, none⟩), .pointer (some ⟨bF, 0, none⟩), .pointer (some ⟨bD, 0, none⟩), v12, v13, v14, v15, v16, v17, v18, v19, v20, v21, v22, v23, v24, v25, .int .i64 (n : Nat), .int .i64 (j : Nat), v28, .func (.func 32) #[] #[.pointer (some ⟨bF, 0, none⟩), .pointer (some ⟨bM, 0, none⟩), .pointer (some ⟨bL, 0, none⟩), .pointer (some ⟨c.Fd, 0, none⟩), .pointer (some ⟨bD, 0, none⟩)], v30, v31, v32, v33, v34, v35, v36, v37, v38, v39, v40, v41, v42, v43, v44, v45, v46, v47, v48, v49, v50, v51, v52], []⟩ [.inRegion CG [], .inBlock 1, .code Fj, .inLoop eLG, .inBlock 0, .code eT2]) cs) : ∃ m, Walk Tryz.prog c true (fun g => if j + 1 < n then xp c bF bM bL bD n cs (j + 1) g else wO c bF bM bL bD n cs 0 g) m g w := by
  obtain ⟨v0, v2, v4, v6, v7, v8, v12, v13, v14, v15, v16, v17, v18, v19, v20, v21, v22, v23, v24, v25, v28, v30, v31, v32, v33, v34, v35, v36, v37, v38, v39, v40, v41, v42, v43, v44, v45, v46, v47, v48, v49, v50, v51, v52, rfl⟩ := h
  refine ⟨0 + 60, ?_⟩
  show Goes _ _ _ _ _ _ _ _
  simp only [CG, eLG, Fj, eT2, eT1, dm, Tryz.f11, Option.getD_some]
  have hwr : IntKind.i64.wrap ((j : Int) + 1) = ((j + 1 : Nat) : Int) := by rw [IntKind.wrap_i64]; omega
  by_cases hl : j + 1 < n
  · simp only [if_pos hl]
    have hl' : decide ((j : Int) + 1 < (n : Int)) = true := by simp; omega
    repeat (first
      | (refine Goes.step rfl (fun w₁ h₁ => ?_); walk_rw; refine ⟨aP c w₁, ?_⟩)
      | (refine Goes.step rfl (fun w₁ h₁ => ?_)
         refine goes_oper_k rfl rfl (by decide) (fun K hK => ?_)
         have hF := k.ldF w₁ h₁
         have hD := k.ldD w₁ h₁
         go_simp
         refine hK _ _ ⟨⟨rfl, rfl, rfl, rfl, fun e he => ?_⟩, ?_⟩
         · have hm := mem_listed he
           simp [go_sem, *] at hm
           try (subst hm; first | exact ⟨_, rfl, k.fx.1⟩ | exact ⟨_, rfl, k.fx.2.2.2⟩)
         clear hK K hF hD h₁))
    refine Goes.step rfl (fun w₁ h₁ => ?_)
    rw [stepG_cond (t := true) rfl]
    simp only [goes_go, ↓reduceIte]
    refine ⟨aP c w₁, ?_⟩
    repeat (first
      | (refine Goes.step rfl (fun w₁ h₁ => ?_); walk_rw; refine ⟨aP c w₁, ?_⟩)
      | (refine Goes.step rfl (fun w₁ h₁ => ?_)
         refine goes_oper_k rfl rfl (by decide) (fun K hK => ?_)
         have hF := k.ldF w₁ h₁
         have hD := k.ldD w₁ h₁
         go_simp
         refine hK _ _ ⟨⟨rfl, rfl, rfl, rfl, fun e he => ?_⟩, ?_⟩
         · have hm := mem_listed he
           simp [go_sem, *] at hm
           try (subst hm; first | exact ⟨_, rfl, k.fx.1⟩ | exact ⟨_, rfl, k.fx.2.2.2⟩)
         clear hK K hF hD h₁))
    try (refine Goes.step rfl (fun w₁ h₁ => ?_)
         rw [stepG_value (v := .func (.func 32) #[] #[.pointer (some ⟨bF, 0, none⟩), .pointer (some ⟨bM, 0, none⟩), .pointer (some ⟨bL, 0, none⟩), .pointer (some ⟨c.Fd, 0, none⟩), .pointer (some ⟨bD, 0, none⟩)]) (w' := w₁) rfl rfl (by decide) (by simp [execOp]; rfl)]
         rw [listed_nil (by simp [execOp]; rfl)]
         simp only [goes_go]
         refine ⟨aP c w₁, ?_⟩)
    exact Goes.stop fun w₁ _ => ⟨rfl, _, _, _, _, _, _, _, _, _, _, _, _, _, _, _, _, _, _, _, _, _, _, _, _, _, _, _, _, _, _, _, _, _, _, _, _, _, _, _, _, _, _, _, _, rfl⟩
  · simp only [if_neg hl]
    have hl' : decide ((j : Int) + 1 < (n : Int)) = false := by simp; omega
    repeat (first
      | (refine Goes.step rfl (fun w₁ h₁ => ?_); walk_rw; refine ⟨aP c w₁, ?_⟩)
      | (refine Goes.step rfl (fun w₁ h₁ => ?_)
         refine goes_oper_k rfl rfl (by decide) (fun K hK => ?_)
         have hF := k.ldF w₁ h₁
         have hD := k.ldD w₁ h₁
         go_simp
         refine hK _ _ ⟨⟨rfl, rfl, rfl, rfl, fun e he => ?_⟩, ?_⟩
         · have hm := mem_listed he
           simp [go_sem, *] at hm
           try (subst hm; first | exact ⟨_, rfl, k.fx.1⟩ | exact ⟨_, rfl, k.fx.2.2.2⟩)
         clear hK K hF hD h₁))
    refine Goes.step rfl (fun w₁ h₁ => ?_)
    rw [stepG_cond (t := false) rfl]
    simp only [goes_go, Bool.false_eq_true, ↓reduceIte]
    refine ⟨aP c w₁, ?_⟩
    refine Goes.step rfl (fun w₁ h₁ => ?_)
    apply goes_exit
    · rfl
    refine ⟨aP c w₁, ?_⟩
    repeat (first
      | (refine Goes.step rfl (fun w₁ h₁ => ?_); walk_rw; refine ⟨aP c w₁, ?_⟩)
      | (refine Goes.step rfl (fun w₁ h₁ => ?_)
         refine goes_oper_k rfl rfl (by decide) (fun K hK => ?_)
         have hF := k.ldF w₁ h₁
         have hD := k.ldD w₁ h₁
         go_simp
         refine hK _ _ ⟨⟨rfl, rfl, rfl, rfl, fun e he => ?_⟩, ?_⟩
         · have hm := mem_listed he
           simp [go_sem, *] at hm
           try (subst hm; first | exact ⟨_, rfl, k.fx.1⟩ | exact ⟨_, rfl, k.fx.2.2.2⟩)
         clear hK K hF hD h₁))
    refine Goes.step rfl (fun w₁ h₁ => ?_)
    rw [stepG_cond (t := true) rfl]
    simp only [goes_go, ↓reduceIte]
    refine ⟨aP c w₁, ?_⟩
    repeat (first
      | (refine Goes.step rfl (fun w₁ h₁ => ?_); walk_rw; refine ⟨aP c w₁, ?_⟩)
      | (refine Goes.step rfl (fun w₁ h₁ => ?_)
         refine goes_oper_k rfl rfl (by decide) (fun K hK => ?_)
         have hF := k.ldF w₁ h₁
         have hD := k.ldD w₁ h₁
         go_simp
         refine hK _ _ ⟨⟨rfl, rfl, rfl, rfl, fun e he => ?_⟩, ?_⟩
         · have hm := mem_listed he
           simp [go_sem, *] at hm
           try (subst hm; first | exact ⟨_, rfl, k.fx.1⟩ | exact ⟨_, rfl, k.fx.2.2.2⟩)
         clear hK K hF hD h₁))
    exact Goes.stop fun w₁ _ => ⟨rfl, _, _, _, _, _, _, _, _, _, _, _, _, _, _, _, _, _, _, _, _, _, _, _, _, _, _, _, _, _, _, _, _, _, _, _, _, _, _, _, _, _, _, _, _, rfl⟩
theorem Kr:(Tryz.prog.funcs[eB.fn]?).any (·.norace)=false:=by kernel_rfl
set_option maxRecDepth 100000 in
set_option maxHeartbeats 8000000 in
theorem Lb (h1 : 1 ≤ n) (k : WkP c bF bM bL bD vm vl) (h : JF c bF bM bL bD n cs g) : isG g ∧ mayWake Tryz.prog g = true ∧ ∃ g', (∀ w s r, w.heap[c.C1]? = some (.chan 0 #[] false s r false) → stepG Tryz.prog true g w = .go g' { w with heap := w.heap.setIfInBounds c.C1 (.chan 0 #[] true s r false) } #[⟨.obj c.C1, false, true⟩, ⟨.obj c.C1, true, true⟩]) ∧ g'.status = .running ∧ ∀ w, ∃ m, Walk Tryz.prog c true (vJ c bF bM bL bD n cs 0) m g' w := by
  obtain ⟨v0, v2, v4, v6, v7, v8, v12, v13, v14, v15, v16, v17, v18, v19, v20, v21, v22, v23, v24, v25, v26, v27, v28, v29, v30, v31, v32, v33, v34, v35, v36, v38, v39, v40, v41, v42, v43, v44, v45, v46, v47, v48, v49, v50, v51, v52, rfl⟩ := h
  refine ⟨⟨_, _, rfl⟩, by simp [mayWake, G, Frame.at, Ei, eT3, eT2, eT1, dm, Tryz.f11], G (eB.at ⟨#[v0, .int .i64 (n : Nat), v2, .pointer (some ⟨bM, 0, none⟩), v4, .pointer (some ⟨bL, 0, none⟩), v6, v7, v8, .pointer (some ⟨c.Fd, 0, none⟩), .pointer (some ⟨bF, 0, none⟩), .pointer (some ⟨bD, 0, none⟩), v12, v13, v14, v15, v16, v17, v18, v19, v20, v21, v22, v23, v24, v25, v26, v27, v28, v29, v30, v31, v32, v33, v34, v35, v36, .chan (some c.C1), v38, v39, v40, v41, v42, v43, v44, v45, v46, v47, v48, v49, v50, v51, v52], []⟩ [.inRegion Ei [], .code eT4]) cs, fun w s r hc => ?_, rfl, fun w => ⟨0 + 60, ?_⟩⟩
  · simp only [Ei, eT3, eT2, eT1, dm, Tryz.f11, Option.getD_some]
    rw [stepG_close rfl rfl (by decide) rfl rfl hc Kr]
    rfl
  · show Goes _ _ _ _ _ _ _ _
    simp only [Ei, eT4, eT3, eT2, eT1, dm, Tryz.f11, Option.getD_some]
    have hl' : 0 < n := h1
    repeat (first
      | (refine Goes.step rfl (fun w₁ h₁ => ?_); walk_rw; refine ⟨aP c w₁, ?_⟩)
      | (refine Goes.step rfl (fun w₁ h₁ => ?_)
         refine goes_oper_k rfl rfl (by decide) (fun K hK => ?_)
         have hF := k.ldF w₁ h₁
         have hD := k.ldD w₁ h₁
         go_simp
         refine hK _ _ ⟨⟨rfl, rfl, rfl, rfl, fun e he => ?_⟩, ?_⟩
         · have hm := mem_listed he
           simp [go_sem, *] at hm
           try (subst hm; first | exact ⟨_, rfl, k.fx.1⟩ | exact ⟨_, rfl, k.fx.2.2.2⟩)
         clear hK K hF hD h₁))
    refine Goes.step rfl (fun w₁ h₁ => ?_)
    rw [stepG_cond (t := true) rfl]
    simp only [goes_go, ↓reduceIte]
    refine ⟨aP c w₁, ?_⟩
    repeat (first
      | (refine Goes.step rfl (fun w₁ h₁ => ?_); walk_rw; refine ⟨aP c w₁, ?_⟩)
      | (refine Goes.step rfl (fun w₁ h₁ => ?_)
         refine goes_oper_k rfl rfl (by decide) (fun K hK => ?_)
         have hF := k.ldF w₁ h₁
         have hD := k.ldD w₁ h₁
         go_simp
         refine hK _ _ ⟨⟨rfl, rfl, rfl, rfl, fun e he => ?_⟩, ?_⟩
         · have hm := mem_listed he
           simp [go_sem, *] at hm
           try (subst hm; first | exact ⟨_, rfl, k.fx.1⟩ | exact ⟨_, rfl, k.fx.2.2.2⟩)
         clear hK K hF hD h₁))
    exact Goes.stop fun w₁ _ => ⟨rfl, _, _, _, _, _, _, _, _, _, _, _, _, _, _, _, _, _, _, _, _, _, _, _, _, _, _, _, _, _, _, _, _, _, _, _, _, _, _, _, _, _, _, _, _, rfl⟩
end
end Hb
namespace Hb
open Go.Conc Cs
variable [Fns]
noncomputable def CI {Post:Nat→Value→World→Prop} (c:Cst) (bF bM bL bD:Nat) (vm vl:Value) (cs:List Frame) (wk:WkP c bF bM bL bD vm vl) (hn:1≤c.n∧c.n≤1000) (hK:c.K=26) (hz:c.z1=.int .i64 0∧c.z2=.bool false∧c.zs1=.tuple #[]∧c.zs2=.tuple #[])
  (hB:c.fB=33) (har:c.ar=fun k=>#[vm,.int .i64 (k:Nat),vl]) (s1:1≤c.S0) (d1:c.C1<c.N1∧c.C2<c.N1∧c.Fd<c.N1∧c.C1≠c.C2∧c.C1≠c.Fd∧c.C2≠c.Fd) (fok:Fns.ok c.fB=true)
  (job:∀k,k<c.K→∀w,c.Ok w→∃(E:Env) (wl:World) (x:Array Value),(∀b q s o,E b=some (q,s,o)→o=false∧c.Fix q)∧LR E x (c.ar k)∧WR Tryz.prog E wl w∧Fns.G≤wl.heap.size∧∀τ,Calls Tryz.prog c.fB x (wl.tp τ) fun e w'=>∃v,e=.returned v∧Post k v w')
  (okv:∀k v wl (E:Env) v',Post k v wl→VR E v v'→∃a l cp,v'=.slice a l cp):Scr Tryz.prog c Post where
 Rec:=AX c bF bM bL bD
 Snd:=Jv c bF bM bL bD
 Cal:=Jf c bF bM bL bD vm vl
 Sto:=Ka c bF bM bL bD
 GoP:=xp c bF bM bL bD c.n cs
 tE:=wO c bF bM bL bD c.n cs
 ClP:=JF c bF bM bL bD c.n cs
 oW:=vJ c bF bM bL bD c.n cs
 JnP:=KE c bF bM bL bD c.n cs
 OkV:=fun v=>∃a l cp,v=.slice a l cp
 n1:=hn.1
 k1:=by omega
 s1:=s1
 d1:=d1
 B5:=fun g h=>by rw[hz.1];exact IE h
 zn:=fun g h k _ w _=>DF wk h k
 zC:=fun g h w _=>by rw[hz.1];exact EO wk h
 cal:=fun k g h hk=>by
  obtain ⟨cal,rest,e,hc⟩:=Hu (by omega) h
  refine ⟨cal,rest,?_,fun v _ w _=>hc v w⟩
  rw[hB,har]
  exact e
 sto:=fun k v g h hk hv=>by
  obtain ⟨a,l,cp,rfl⟩:=hv
  obtain ⟨h1,g',h2,h3,h4⟩:=Jx hk h
  exact ⟨h1,g',h2,h3,fun w _=>h4 w⟩
 CZ:=fun g h=>by rw[hz.2.2.2];exact IN h
 gop:=fun j g h hj=>by
  obtain ⟨h1,g',h2,h3⟩:=KF h
  exact ⟨h1,g',_,h2,fun w _=>KQ wk,fun w _=>JS wk hn.2 hj h3⟩
 Kl:=fun k g h hk=>by
  obtain ⟨h1,h2⟩:=JC h
  rw[hz.2.2.1]
  refine ⟨h1,h2,fun w _=>?_⟩
  simp only[hK]
  exact Gi wk (by omega) h
 clp:=fun g h=>by
  obtain ⟨h1,h2,g',h3,h4,h5⟩:=Lb hn.1 wk h
  exact ⟨h1,h2,g',h3,h4,fun w _=>h5 w⟩
 JA:=fun r g h hr=>by
  obtain ⟨h1,h2⟩:=Jt h
  rw[hz.2.1]
  exact ⟨h1,h2,fun w _=>Gb wk hn.2 hr h⟩
 fok:=fok
 job:=job
 okv:=okv
end Hb
namespace Hb
open Go.RowKit PK Vg Go.Conc Cs
noncomputable def eX1:Code:=match dm with | .seq _ r=>r | _=>.skip
noncomputable def eX2:Code:=match eX1 with | .seq _ r=>r | _=>.skip
noncomputable def eX3:Code:=match eX1 with | .seq (.seq _ r) _=>r | _=>.skip
noncomputable def eO1:Array Oper:=match eX1 with | .seq (.seq (.region _ o _) _) _=>o | _=>#[]
set_option maxRecDepth 100000 in
set_option maxHeartbeats 4000000 in
theorem yw (A:Array Value) (hA:A.size=55) (h:Int) (f:FuncId) (c1 c2:Array Value) (cs:List Frame) (H:Array Obj) (o:Os) (out:Array (Nat × ByteArray)) (w:World) (hI:HI H o out w):∃mu,Goes Tryz.prog true AtRel DW (fun g w'=>g=G (Frame.enter Tryz.prog 31 #[.agg A,.int .i64 h] .normal) ((base 11).at ⟨#[.agg A,.int .i64 h,.func (.func f) c1 c2,.pointer (some ⟨H.size,0,none⟩),undef,.pointer (some ⟨H.size+1,0,none⟩),.slice none 0 0,.int .i64 0,undef,undef,undef,undef,undef,undef,undef,undef,.agg A,.int .i64 h,undef,undef,undef,undef,undef,undef,undef,undef,undef,undef,undef,undef,undef,undef,undef,undef,undef,undef,undef,undef,undef,undef,undef,undef,undef,undef,undef,undef,undef,undef,undef,undef,undef,undef,undef],[]⟩ [.inRegion eO1 (2 :: List.range' 3 1),.code eX3,.code eX2] :: cs)∧HI ((H.push (.cells A 27)).push (.cells #[.func (.func f) c1 c2] 51)) o out w') mu (G ((base 11).at ⟨#[.agg A,.int .i64 h,.func (.func f) c1 c2,undef,undef,undef,undef,undef,undef,undef,undef,undef,undef,undef,undef,undef,undef,undef,undef,undef,undef,undef,undef,undef,undef,undef,undef,undef,undef,undef,undef,undef,undef,undef,undef,undef,undef,undef,undef,undef,undef,undef,undef,undef,undef,undef,undef,undef,undef,undef,undef,undef,undef],[]⟩ [.code dm]) cs) w:=by
 have hiA:(Tryz.prog.info? 27).map (·.size)=some A.size:=by rw[hA];exact aF
 refine ⟨40,?_⟩
 simp only[dm,Tryz.f11,Option.getD_some]
 repeat (refine aQ hI rfl (fun w₁ h₁=>?_);walk_rw;refine ⟨bQ _,?_⟩;clear hI;have hI:=h₁;clear h₁)
 refine aQ hI rfl (fun w₁ h₁=>?_)
 refine goes_oper_k rfl rfl (by decide) (fun K hK=>?_)
 go_simp
 refine hK _ _ ⟨⟨by simp,fun e he=>?_⟩,?_⟩
 ·have hm:=mem_listed he
  simp[go_sem] at hm
 clear hK K hI
 have hI:=h₁.alloc (.cells A 27)
 rw[h₁.1]
 clear h₁
 refine aQ hI rfl (fun w₁ h₁=>?_)
 refine goes_oper_k rfl rfl (by decide) (fun K hK=>?_)
 go_simp
 refine hK _ _ ⟨⟨by simp,fun e he=>?_⟩,?_⟩
 ·have hm:=mem_listed he
  simp[go_sem] at hm
 clear hK K hI
 have hI:=h₁.alloc (.cells #[.func (.func f) c1 c2] 51)
 rw[h₁.1]
 clear h₁
 simp only[Array.size_push]
 refine aQ hI rfl (fun w₁ h₁=>?_)
 refine goes_oper_k rfl rfl (by decide) (fun K hK=>?_)
 go_simp
 refine hK _ _ ⟨⟨by simp,fun e he=>?_⟩,?_⟩
 ·have hm:=mem_listed he
  simp[go_sem] at hm
 clear hK K hI
 have hI:=h₁
 clear h₁
 refine aQ hI rfl (fun w₁ h₁=>?_)
 refine goes_oper_k rfl rfl (by decide) (fun K hK=>?_)
 go_simp
 refine hK _ _ ⟨⟨by simp,fun e he=>?_⟩,?_⟩
 ·have hm:=mem_listed he
  simp[go_sem] at hm
 clear hK K hI
 have hI:=h₁
 clear h₁
 repeat (refine aQ hI rfl (fun w₁ h₁=>?_);walk_rw;refine ⟨bQ _,?_⟩;clear hI;have hI:=h₁;clear h₁)
 refine aQ hI rfl (fun w₁ h₁=>?_)
 have hWr:=show w₁.heap[H.size]? = some (.cells A 27 (0,0)) from by rw[h₁.1,Array.getElem?_push,if_neg (by simp),Array.getElem?_push,if_pos rfl]
 rw[stepG_value (v:=.agg A) (w':=w₁) rfl rfl (by decide) (cN rfl rfl (mB hWr Tryz.underlying27 rfl hiA))]
 simp only[goes_go]
 refine ⟨⟨Nat.le_refl _,fun e he=>o8 hWr Tryz.underlying27 rfl hiA e (by have hm:=mem_listed he;rw[bY rfl rfl] at hm;exact hm)⟩,?_⟩
 clear hWr hI
 have hI:=h₁
 clear h₁
 refine aQ hI rfl (fun w₁ h₁=>?_)
 refine goes_oper_k rfl rfl (by decide) (fun K hK=>?_)
 go_simp
 refine hK _ _ ⟨⟨by simp,fun e he=>?_⟩,?_⟩
 ·have hm:=mem_listed he
  simp[go_sem] at hm
 clear hK K hI
 have hI:=h₁
 clear h₁
 refine aQ hI rfl (fun w₁ h₁=>?_)
 rw[stepG_enter (f:=31) (args:=#[.agg A,.int .i64 h]) (w':=w₁) rfl rfl (by decide) (by simp[execOp,go_sem])]
 rw[listed_nil (by simp[go_sem,callFunc,Tryz.func31,Tryz.f31])]
 simp only[goes_go]
 refine ⟨bQ _,?_⟩
 exact Goes.stop fun w₂ h₂=>by
  obtain ⟨d,rfl⟩:=h₂
  exact ⟨rfl,h₁⟩
end Hb
namespace Hb
open Go.RowKit PK Vg Go.Conc Cs
noncomputable def eX4:Code:=match eX2 with | .seq _ (.seq _ r)=>r | _=>.skip
noncomputable def eO6:Array Oper:=match eX2 with | .seq _ (.seq (.region _ o _) _)=>o | _=>#[]
noncomputable def eR7:Code:=match eX4 with | .seq a _=>a | _=>.skip
noncomputable def eO7:Array Oper:=match eX4 with | .seq (.region _ o _) _=>o | _=>#[]
theorem KG (d:Nat) (f:FuncId) (c1 c2:Array Value) (w:World) (es:Array Event):Sem.events Tryz.prog (Op.equalIn (d+1) 51 (.func (.func f) c1 c2) .nilFunc) w es=es:=by
 unfold Op.equalIn
 simp[go_sem,underlying,Tryz.underlying51]
theorem Km (f:FuncId) (c1 c2:Array Value) (w:World):Sem.events Tryz.prog (binOp .eql 51 (.func (.func f) c1 c2) .nilFunc) w #[]=#[]:=by
 obtain ⟨d,hd⟩:∃d,Op.maxDepth=d+1:=⟨9999,rfl⟩
 have h1:=KG d f c1 c2 w #[]
 unfold binOp Op.equal
 rw[hd]
 simp[go_sem,h1]
set_option maxRecDepth 100000 in
set_option maxHeartbeats 4000000 in
theorem Gx (A:Array Value) (n:Nat) (f:FuncId) (c1 c2:Array Value) (bM bL:Nat) (cs:List Frame) (H:Array Obj) (o:Os) (out:Array (Nat × ByteArray)) (w:World) (hI:HI H o out w) (hL:H[bL]? = some (.cells #[.func (.func f) c1 c2] 51 (0,0))):∃mu,Goes Tryz.prog true AtRel DW (fun g w'=>g=G ((base 11).at ⟨#[.agg A,.int .i64 (n:Nat),.func (.func f) c1 c2,.pointer (some ⟨bM,0,none⟩),undef,.pointer (some ⟨bL,0,none⟩),.slice none 0 0,.int .i64 0,.int .i64 0,undef,undef,undef,undef,undef,undef,undef,.agg A,.int .i64 (n:Nat),.int .i64 0,.int .i64 0,.bool false,undef,.func (.func f) c1 c2,.bool false,undef,undef,undef,undef,undef,undef,undef,undef,undef,undef,undef,undef,undef,undef,undef,undef,undef,undef,undef,undef,undef,undef,undef,undef,undef,undef,undef,undef,undef],[]⟩ [.inRegion eO6 [0],.code eX4]) cs∧HI H o out w') mu (G ((base 11).at ⟨#[.agg A,.int .i64 (n:Nat),.func (.func f) c1 c2,.pointer (some ⟨bM,0,none⟩),undef,.pointer (some ⟨bL,0,none⟩),.slice none 0 0,.int .i64 0,undef,undef,undef,undef,undef,undef,undef,undef,.agg A,.int .i64 (n:Nat),.int .i64 0,undef,undef,undef,undef,undef,undef,undef,undef,undef,undef,undef,undef,undef,undef,undef,undef,undef,undef,undef,undef,undef,undef,undef,undef,undef,undef,undef,undef,undef,undef,undef,undef,undef,undef],[]⟩ [.inRegion eO1 [3],.code eX3,.code eX2]) cs) w:=by
 refine ⟨60,?_⟩
 simp only[eO1,eX3,eX2,eX1,dm,Tryz.f11,Option.getD_some]
 refine aQ hI rfl (fun w₁ h₁=>?_)
 refine goes_oper_k rfl rfl (by decide) (fun K hK=>?_)
 go_simp
 refine hK _ _ ⟨⟨by simp,fun e he=>?_⟩,?_⟩
 ·have hm:=mem_listed he
  simp[go_sem] at hm
 clear hK K hI
 have hI:=h₁
 clear h₁
 repeat (refine aQ hI rfl (fun w₁ h₁=>?_);walk_rw;refine ⟨bQ _,?_⟩;clear hI;have hI:=h₁;clear h₁)
 refine aQ hI rfl (fun w₁ h₁=>?_)
 refine goes_oper_k rfl rfl (by decide) (fun K hK=>?_)
 go_simp
 refine hK _ _ ⟨⟨by simp,fun e he=>?_⟩,?_⟩
 ·have hm:=mem_listed he
  simp[go_sem] at hm
 clear hK K hI
 have hI:=h₁
 clear h₁
 refine aQ hI rfl (fun w₁ h₁=>?_)
 refine goes_oper_k rfl rfl (by decide) (fun K hK=>?_)
 go_simp
 refine hK _ _ ⟨⟨by simp,fun e he=>?_⟩,?_⟩
 ·have hm:=mem_listed he
  simp[go_sem] at hm
 clear hK K hI
 have hI:=h₁
 clear h₁
 repeat (refine aQ hI rfl (fun w₁ h₁=>?_);walk_rw;refine ⟨bQ _,?_⟩;clear hI;have hI:=h₁;clear h₁)
 refine aQ hI rfl (fun w₁ h₁=>?_)
 rw[stepG_cond (t:=false) rfl]
 simp only[goes_go,Bool.false_eq_true,↓reduceIte]
 refine ⟨bQ _,?_⟩
 clear hI
 have hI:=h₁
 clear h₁
 repeat (refine aQ hI rfl (fun w₁ h₁=>?_);walk_rw;refine ⟨bQ _,?_⟩;clear hI;have hI:=h₁;clear h₁)
 refine aQ hI rfl (fun w₁ h₁=>?_)
 refine goes_oper_k rfl rfl (by decide) (fun K hK=>?_)
 have hbL:bL<w₁.heap.size:=by rw[h₁.1];exact (Array.getElem?_eq_some_iff.1 hL).1
 have hC:w₁.cell? ⟨bL,0,none⟩=some (.func (.func f) c1 c2):=by
  have h2:w₁.heap[bL]? = some (.cells #[.func (.func f) c1 c2] 51 (0,0)):=(by rw[h₁.1];exact hL)
  rw[cell_of_row _ _ _ _ _ _ h2]
  rfl
 go_simp
 refine hK _ _ ⟨⟨by simp,fun e he=>?_⟩,?_⟩
 ·have hm:=mem_listed he
  simp[go_sem,hC] at hm
  subst hm
  exact mj ⟨rfl,rfl⟩ hbL
 clear hK K hI hC hbL
 have hI:=h₁
 clear h₁
 refine aQ hI rfl (fun w₁ h₁=>?_)
 refine goes_oper_k rfl rfl (by decide) (fun K hK=>?_)
 go_simp
 refine hK _ _ ⟨⟨by simp,fun e he=>?_⟩,?_⟩
 ·have hm:=mem_listed he
  simp[go_sem] at hm
  rw[Km] at hm
  simp at hm
 clear hK K hI
 have hI:=h₁
 clear h₁
 repeat (refine aQ hI rfl (fun w₁ h₁=>?_);walk_rw;refine ⟨bQ _,?_⟩;clear hI;have hI:=h₁;clear h₁)
 refine aQ hI rfl (fun w₁ h₁=>?_)
 rw[stepG_cond (t:=false) rfl]
 simp only[goes_go,Bool.false_eq_true,↓reduceIte]
 refine ⟨bQ _,?_⟩
 clear hI
 have hI:=h₁
 clear h₁
 repeat (refine aQ hI rfl (fun w₁ h₁=>?_);walk_rw;refine ⟨bQ _,?_⟩;clear hI;have hI:=h₁;clear h₁)
 exact Goes.stop fun w₂ h₂=>by
  obtain ⟨d,rfl⟩:=h₂
  exact ⟨rfl,hI⟩
def DN (Fd:Nat) (w w':World) (es:Array Event):Prop:=w.heap.size≤w'.heap.size∧∀e ∈ es,EvW w'.heap.size e∧∀x,(MemAct.ofEvent e).touch? = some x→∀ad,x.loc=.cell ad→ad.block≠Fd
theorem ij {Fd:Nat} (w:World):DN Fd w w #[]:=⟨Nat.le_refl _,fun e he=>by simp at he⟩
theorem fU {Fd:Nat} {Stp:Goroutine→World→Prop} {H:Array Obj} {o:Os} {out:Array (Nat × ByteArray)} {mu:Nat} {g:Goroutine} {w:World} (hI:HI H o out w) (hs:g.status=.running) (h:∀w₁,HI H o out w₁→(stepG Tryz.prog true g w₁).goes fun g' w' es=>DN Fd w₁ w' es∧Goes Tryz.prog true AtRel (DN Fd) Stp mu g' w'):Goes Tryz.prog true AtRel (DN Fd) Stp (mu+1) g w :=
 Goes.step hs fun w₁ h₁=>by
  obtain ⟨d,rfl⟩:=h₁
  exact h _ (hI.at' d)
set_option maxRecDepth 100000 in
set_option maxHeartbeats 4000000 in
theorem DJ (Fd:Nat) (A:Array Value) (n:Nat) (f:FuncId) (c1 c2:Array Value) (bM bL:Nat) (cs:List Frame) (H:Array Obj) (o:Os) (out:Array (Nat × ByteArray)) (w:World) (hI:HI H o out w):∃mu,Goes Tryz.prog true AtRel (DN Fd) (fun g w'=>g=G ((base 11).at ⟨#[.agg A,.int .i64 (n:Nat),.func (.func f) c1 c2,.pointer (some ⟨bM,0,none⟩),undef,.pointer (some ⟨bL,0,none⟩),.slice none 0 0,.int .i64 0,.int .i64 0,.pointer (some ⟨H.size,0,none⟩),undef,undef,undef,undef,undef,undef,.agg A,.int .i64 (n:Nat),.int .i64 0,.int .i64 0,.bool false,undef,.func (.func f) c1 c2,.bool false,undef,undef,undef,undef,undef,undef,undef,undef,undef,undef,undef,undef,undef,undef,undef,undef,undef,undef,undef,undef,undef,undef,undef,undef,undef,undef,undef,undef,undef],[]⟩ [.code eR7,.code eT1]) cs∧HI (H.push (.cells (tab 26 fun _=>.slice none 0 0) 77)) o out w') mu (G ((base 11).at ⟨#[.agg A,.int .i64 (n:Nat),.func (.func f) c1 c2,.pointer (some ⟨bM,0,none⟩),undef,.pointer (some ⟨bL,0,none⟩),.slice none 0 0,.int .i64 0,.int .i64 0,undef,undef,undef,undef,undef,undef,undef,.agg A,.int .i64 (n:Nat),.int .i64 0,.int .i64 0,.bool false,undef,.func (.func f) c1 c2,.bool false,undef,undef,undef,undef,undef,undef,undef,undef,undef,undef,undef,undef,undef,undef,undef,undef,undef,undef,undef,undef,undef,undef,undef,undef,undef,undef,undef,undef,undef],[]⟩ [.inRegion eO6 [0],.code eX4]) cs) w:=by
 have hz26:(Tryz.prog.info? 77).map (·.zero)=some (some (.agg (tab 26 fun _=>.slice none 0 0))):=by kernel_rfl
 refine ⟨60,?_⟩
 simp only[eO6,eX4,eX2,eX1,dm,Tryz.f11,Option.getD_some]
 refine fU hI rfl (fun w₁ h₁=>?_)
 refine goes_oper_k rfl rfl (by decide) (fun K hK=>?_)
 go_simp
 refine hK _ _ ⟨⟨by simp,fun e he=>?_⟩,?_⟩
 ·have hm:=mem_listed he
  simp[go_sem] at hm
 clear hK K hI
 have hI:=h₁.alloc (.cells (tab 26 fun _=>.slice none 0 0) 77)
 rw[h₁.1]
 clear h₁
 repeat (refine fU hI rfl (fun w₁ h₁=>?_);walk_rw;refine ⟨ij _,?_⟩;clear hI;have hI:=h₁;clear h₁)
 exact Goes.stop fun w₂ h₂=>by
  obtain ⟨d,rfl⟩:=h₂
  exact ⟨rfl,hI⟩
end Hb
end Go.Proofs.YtgacaecjinlhiaaGreatDoor
