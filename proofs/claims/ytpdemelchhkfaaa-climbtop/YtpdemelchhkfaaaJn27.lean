import Derived.Test.YtpdemelchhkfaaaJn26
import Derived.Test.YtpdemelchhkfaaaDxB
namespace Go.Proofs.Ytpdemelchhkfaaa
namespace Cs
open Go.Conc PK Go.RowKit Go.Conc.Lib Go.ConcR.Gen Go.ConcN.Gen
open Go.ConcR (KK WgAt wgBlock stA smA rd wr mk DC0)
open Go.ConcM (OsLater goes_pad goes_le)
noncomputable def wkB:Code:=Try.f53.body.getD .skip
noncomputable def wC1:Code:=match wkB with | .seq _ c=>c | _=>.skip
noncomputable def wO1:Array Oper:=match wC1 with | .seq (.region _ o _) _=>o | _=>#[]
noncomputable def wC2:Code:=match wC1 with | .seq _ c=>c | _=>.skip
noncomputable def fO:Code:=match wC2 with | .block _ (.loop c)=>c | _=>.skip
noncomputable def wO4:Array Oper:=match fO with | .seq _ (.seq (.block _ (.region _ o _)) _)=>o | _=>#[]
noncomputable def wR3:Code:=match fO with | .seq _ (.seq _ c)=>c | _=>.skip
def wF:Frame:={ (default:Frame) with fn:=53,kind:=.deferred }
noncomputable def lp:Frame:={ (default:Frame) with fn:=Try.prog.funcs.size,defers:=[],mode:=.panicking [goexitEntry] }
theorem iV (c:Cst) (w:World):DQ c w w #[]:=⟨rfl,rfl,rfl,rfl,fun e he=>by simp at he⟩
structure ClP (c:Cst) (J bT bH bL bS bD:Nat):Prop where
 fx:c.Fix bT∧c.Fix bH∧c.Fix bL
 ldT:∀w,OkT c w→w.cell? ⟨bT,0,none⟩=some (.int .i64 (J:Nat))
 ldH:∀w,OkT c w→w.cell? ⟨bH,0,none⟩=some (.int .i64 (c.n:Nat))
 ldL:∀w,OkT c w→w.cell? ⟨bL,0,none⟩=some (.func (.func 36) #[] #[.pointer (some ⟨bS,0,none⟩),.pointer (some ⟨bD,0,none⟩)])
 j1:J≤1000
 n1:c.n≤1000
 hK:c.K=30
 hC:c.C2≠c.Fd
 fB:c.fB=36
 ar:∀k,c.ar k=#[.int .i64 (k:Nat),.pointer (some ⟨bS,0,none⟩),.pointer (some ⟨bD,0,none⟩)]
def tlV (K:Nat→Nat→Int) (Z:Nat→Int) (k:Nat):Value:=.agg (ints 28 (ek K Z k))
def wAn (c:Cst) (bT bH bL k:Nat) (g:Goroutine):Prop:=∃v:Nat→Value,g=G (wF.at ⟨#[.pointer (some ⟨c.C2,0,none⟩),v 1,.pointer (some ⟨bT,0,none⟩),.pointer (some ⟨bH,0,none⟩),.pointer (some ⟨c.Fd,0,none⟩),.pointer (some ⟨bL,0,none⟩),.int .i64 (k:Nat),v 7,v 8,v 9,v 10,v 11,v 12,v 13,v 14,v 15,v 16,v 17],[dcall 47 #[.pointer (some ⟨c.C2,0,none⟩)]]⟩ [.code fO,.inLoop fO,.inBlock 0]) [lp]
theorem wH {c:Cst} {bT bH bL k:Nat} (l:Array Value) (hl:l.size=18) (h0:l[0]? = some (.pointer (some ⟨c.C2,0,none⟩))) (h2:l[2]? = some (.pointer (some ⟨bT,0,none⟩))) (h3:l[3]? = some (.pointer (some ⟨bH,0,none⟩))) (h4:l[4]? = some (.pointer (some ⟨c.Fd,0,none⟩))) (h5:l[5]? = some (.pointer (some ⟨bL,0,none⟩))) (h6:l[6]? = some (.int .i64 (k:Nat))):wAn c bT bH bL k (G (wF.at ⟨l,[dcall 47 #[.pointer (some ⟨c.C2,0,none⟩)]]⟩ [.code fO,.inLoop fO,.inBlock 0]) [lp]):=by
 have e:=bU l 18 hl
 generalize hv:(fun i=>l.getD i undef)=v at e
 have fv:∀i x,l[i]? = some x→v i=x:=fun i x hx=>by rw[←hv];simp[Array.getD_eq_getD_getElem?,hx]
 refine ⟨v,?_⟩
 have q:l=#[v 0,v 1,v 2,v 3,v 4,v 5,v 6,v 7,v 8,v 9,v 10,v 11,v 12,v 13,v 14,v 15,v 16,v 17]:=e.trans rfl
 rw[fv 0 _ h0,fv 2 _ h2,fv 3 _ h3,fv 4 _ h4,fv 5 _ h5,fv 6 _ h6] at q
 rw[q]
def wSt (c:Cst) (bT bH bL k:Nat):Goroutine→Prop:=wAn c bT bH bL (k+c.n)
def B1 (K:Nat→Nat→Int) (Z:Nat→Int) (c:Cst) (tW:TypeId) (bT bH bL k:Nat) (g:Goroutine):Prop:=∃cal rest,g=G (Frame.enter Try.prog c.fB (c.ar k) .normal) (cal :: rest)∧OnA Try.prog c tW false (BC K Z c tW (wSt c bT bH bL) k) (G (cal.finish (tlV K Z k)) rest)
def wHl (c:Cst) (bT bH bL q:Nat) (g:Goroutine):Prop:=g=G (wF.at ⟨#[.pointer (some ⟨c.C2,0,none⟩),.pointer (some ⟨q,0,none⟩),.pointer (some ⟨bT,0,none⟩),.pointer (some ⟨bH,0,none⟩),.pointer (some ⟨c.Fd,0,none⟩),.pointer (some ⟨bL,0,none⟩),undef,undef,undef,undef,undef,undef,undef,undef,undef,undef,undef,undef],[dcall 47 #[.pointer (some ⟨c.C2,0,none⟩)]]⟩ [.inRegion wO1 [0,1],.code wC2]) [lp]
section
variable {K:Nat→Nat→Int} {Z:Nat→Int} {c:Cst} {J bT bH bL bS bD k q:Nat} {g:Goroutine}
set_option maxRecDepth 100000 in
set_option maxHeartbeats 8000000 in
theorem Dz (p : ClP c J bT bH bL bS bD) (hk : k ≤ 3000) (l : Array Value) (hl : l.size = 18) (h0 : l[0]? = some (.pointer (some ⟨c.C2, 0, none⟩))) (h2 : l[2]? = some (.pointer (some ⟨bT, 0, none⟩))) (h3 : l[3]? = some (.pointer (some ⟨bH, 0, none⟩))) (h4 : l[4]? = some (.pointer (some ⟨c.Fd, 0, none⟩))) (h5 : l[5]? = some (.pointer (some ⟨bL, 0, none⟩))) (h6 : l[6]? = some (.int .i64 (k : Nat))) : OnA Try.prog c wgL.tWg false (wSt c bT bH bL k) (G (wF.at ⟨l, [dcall 47 #[.pointer (some ⟨c.C2, 0, none⟩)]]⟩ [.inRegion wO4 [], .inBlock 1, .code wR3, .inLoop fO, .inBlock 0]) [lp]) := by
  have e := bU l 18 hl
  generalize hv : (fun i => l.getD i undef) = v at e
  have fv : ∀ i x, l[i]? = some x → v i = x := fun i x hx => by rw [← hv]; simp [Array.getD_eq_getD_getElem?, hx]
  have q : l = #[v 0, v 1, v 2, v 3, v 4, v 5, v 6, v 7, v 8, v 9, v 10, v 11, v 12, v 13, v 14, v 15, v 16, v 17] := e.trans rfl
  rw [fv 0 _ h0, fv 2 _ h2, fv 3 _ h3, fv 4 _ h4, fv 5 _ h5, fv 6 _ h6] at q
  subst q
  clear fv hv e hl h0 h2 h3 h4 h5 h6
  have hn := p.n1
  have eA : IntKind.i64.wrap ((k : Int) + (c.n : Int)) = ((k + c.n : Nat) : Int) := by rw [IntKind.wrap_i64]; omega
  refine ⟨rfl, fun w _ => ⟨0 + 60, ?_⟩⟩
  show Goes _ _ _ _ _ _ _ _
  obtain ⟨X, hX⟩ : ∃ X, X = fO := ⟨_, rfl⟩
  rw [← hX]
  simp only [wR3, fO, wC2, wC1, wkB, Try.f53, Option.getD_some]
  repeat (first
    | (refine Goes.step rfl (fun w₁ h₁ => ?_); walk_rw; refine ⟨iV c w₁, ?_⟩; clear h₁)
    | (rw [aG]
       refine Goes.step rfl (fun w₁ h₁ => ?_)
       refine goes_oper_k rfl rfl (by decide) (fun K hK => ?_)
       have hT := p.ldT w₁ h₁.ok
       have hH := p.ldH w₁ h₁.ok
       have hL := p.ldL w₁ h₁.ok
       go_simp
       refine hK _ _ ⟨⟨rfl, rfl, rfl, rfl, fun e he => ?_⟩, ?_⟩
       · have hm := mem_listed he
         simp [go_sem, *] at hm
         try (subst hm; first | exact ⟨_, rfl, p.fx.1⟩ | exact ⟨_, rfl, p.fx.2.1⟩ | exact ⟨_, rfl, p.fx.2.2⟩)
       clear hK K hT hH hL h₁))
  subst hX
  exact Goes.stop fun w₁ _ => ⟨rfl, wH _ rfl rfl rfl rfl rfl rfl rfl⟩
set_option maxRecDepth 100000 in
set_option maxHeartbeats 8000000 in
theorem uo (p : ClP c J bT bH bL bS bD) (hk : k ≤ 3000) (h : wAn c bT bH bL k g) : ∀ w, Ok3 c wgL.tWg w → WalkA Try.prog c wgL.tWg false (fun g => if k < J then B1 K Z c wgL.tWg bT bH bL k g else Ak Try.prog c wgL.tWg g) 160 g w := by
  intro w hK
  have hr := Dz (k := k) p hk
  obtain ⟨v, rfl⟩ := h
  show Goes _ _ _ _ _ _ _ _
  by_cases hlt : k < J
  · have q1 : decide ((k : Int) < (J : Int)) = true := by simp; omega
    simp only [if_pos hlt]
    simp only [fO, wC2, wC1, wkB, Try.f53, Option.getD_some]
    repeat (first
      | (refine Goes.step rfl (fun w₁ h₁ => ?_); walk_rw; refine ⟨iV c w₁, ?_⟩; clear h₁)
      | (rw [aG]
         refine Goes.step rfl (fun w₁ h₁ => ?_)
         refine goes_oper_k rfl rfl (by decide) (fun K hK => ?_)
         have hT := p.ldT w₁ h₁.ok
         have hH := p.ldH w₁ h₁.ok
         have hL := p.ldL w₁ h₁.ok
         go_simp
         refine hK _ _ ⟨⟨rfl, rfl, rfl, rfl, fun e he => ?_⟩, ?_⟩
         · have hm := mem_listed he
           simp [go_sem, *] at hm
           try (subst hm; first | exact ⟨_, rfl, p.fx.1⟩ | exact ⟨_, rfl, p.fx.2.1⟩ | exact ⟨_, rfl, p.fx.2.2⟩)
         clear hK K hT hH hL h₁))
    refine Goes.step rfl (fun w₁ h₁ => ?_)
    rw [stepG_cond (t := true) rfl]
    simp only [goes_go, ↓reduceIte]
    refine ⟨iV c w₁, ?_⟩
    clear h₁
    repeat (first
      | (refine Goes.step rfl (fun w₁ h₁ => ?_); walk_rw; refine ⟨iV c w₁, ?_⟩; clear h₁)
      | (rw [aG]
         refine Goes.step rfl (fun w₁ h₁ => ?_)
         refine goes_oper_k rfl rfl (by decide) (fun K hK => ?_)
         have hT := p.ldT w₁ h₁.ok
         have hH := p.ldH w₁ h₁.ok
         have hL := p.ldL w₁ h₁.ok
         go_simp
         refine hK _ _ ⟨⟨rfl, rfl, rfl, rfl, fun e he => ?_⟩, ?_⟩
         · have hm := mem_listed he
           simp [go_sem, *] at hm
           try (subst hm; first | exact ⟨_, rfl, p.fx.1⟩ | exact ⟨_, rfl, p.fx.2.1⟩ | exact ⟨_, rfl, p.fx.2.2⟩)
         clear hK K hT hH hL h₁))
    refine Goes.step rfl (fun w₁ h₁ => ?_)
    rw [stepG_enter (f := 36) (args := #[.int .i64 (k : Nat), .pointer (some ⟨bS, 0, none⟩), .pointer (some ⟨bD, 0, none⟩)]) (w' := w₁) rfl rfl (by decide) (by simp [execOp, go_sem])]
    rw [listed_nil (by simp [execOp, go_sem, callFunc, Try.func36, Try.f36])]
    rw [goes_go]
    refine ⟨iV c w₁, Goes.stop fun w₂ h₂ => ⟨rfl, _, _, by rw [p.fB, p.ar], ?_⟩⟩
    rw [Frame.finish_at]
    refine dX 40 rfl fun w hF => ?_
    walk_nrm
    u_call Try.func54 (by kernel_rfl) Try.f54 aa hF
    u_c stepG_seq aa hF
    u_reg aa hF
    refine Goes.stop (fun w₁ h₁ => ⟨rfl, ⟨wF, _, wO4, 3, [], _, [lp]⟩, ?_, rfl⟩)
    exact hr _ rfl rfl rfl rfl rfl rfl rfl
  · have q1 : decide ((k : Int) < (J : Int)) = false := by simp; omega
    simp only [if_neg hlt]
    simp only [fO, wC2, wC1, wkB, Try.f53, Option.getD_some]
    repeat (first
      | (refine Goes.step rfl (fun w₁ h₁ => ?_); walk_rw; refine ⟨iV c w₁, ?_⟩; clear h₁)
      | (rw [aG]
         refine Goes.step rfl (fun w₁ h₁ => ?_)
         refine goes_oper_k rfl rfl (by decide) (fun K hK => ?_)
         have hT := p.ldT w₁ h₁.ok
         have hH := p.ldH w₁ h₁.ok
         have hL := p.ldL w₁ h₁.ok
         go_simp
         refine hK _ _ ⟨⟨rfl, rfl, rfl, rfl, fun e he => ?_⟩, ?_⟩
         · have hm := mem_listed he
           simp [go_sem, *] at hm
           try (subst hm; first | exact ⟨_, rfl, p.fx.1⟩ | exact ⟨_, rfl, p.fx.2.1⟩ | exact ⟨_, rfl, p.fx.2.2⟩)
         clear hK K hT hH hL h₁))
    refine Goes.step rfl (fun w₁ h₁ => ?_)
    rw [stepG_cond (t := false) rfl]
    simp only [goes_go, Bool.false_eq_true, ↓reduceIte]
    refine ⟨iV c w₁, ?_⟩
    clear h₁
    refine Goes.step rfl (fun w₁ h₁ => ?_)
    apply goes_exit
    · rfl
    refine ⟨iV c w₁, ?_⟩
    clear h₁
    repeat (refine Goes.step rfl (fun w₁ h₁ => ?_); walk_rw; refine ⟨iV c w₁, ?_⟩; clear h₁)
    refine Goes.step rfl (fun w₁ h₁ => ?_)
    rw [stepG_unwind_enter rfl Try.func47 (by kernel_rfl) rfl]
    rw [goes_go]
    refine ⟨iV c w₁, ?_⟩
    refine goes_le (n := 60) (by omega) (aR (gI c) (fun _ _ x => x) (zn (L := wgL) eg (qt := 2) rfl ?_ _ h₁))
    refine QuitsD.of_quitsIn (.inr ⟨rfl, G lp [], fun w => ?_, ?_⟩)
    · simp [G, stepG, unwind, doReturn, results, Frame.at, wF, lp, Try.func53, Try.f53, seen, GStep.after, goexitEntry]
    refine .inr ⟨rfl, { G lp [] with status := .finished }, fun w => ?_, rfl⟩
    simp [G, stepG, unwind, lp, goexitEntry, Frame.catches]
    rfl
end
end Cs
namespace Cs
open Go.Conc Go.RowKit Go.Conc.Lib Go.ConcR.Gen Go.ConcN.Gen
open Go.ConcR (KK WgAt wgBlock stA smA rd wr mk DC0)
open Go.ConcN (st_flag st_waiters)
variable {L:WgLink} {P:Program} {c:Cst}
theorem AL {A B:Goroutine→Prop} {g:Goroutine} (h:OnA P c L.tWg true A g):OnA P c L.tWg true (fun g=>if (0:Nat)=0 then A g else B g) g:=h
theorem By {v:Nat} (hv:0<v) {A B:Goroutine→Prop} {g:Goroutine} (h:OnA P c L.tWg true B g):OnA P c L.tWg true (fun g=>if v=0 then A g else B g) g:=by
 simp only[show ¬v=0 by omega,↓reduceIte]
 exact h
section
variable {b₀:Frame} {a₀:Act} {ops₀:Array Oper} {i₀:Nat} {rest₀:List Nat} {k₀:List Item} {cs:List Frame} {mT:Nat} {Jn:Goroutine→Prop}
def xAn (L:WgLink) (c:Cst) (fs:List Frame) (g:Goroutine):Prop:=∃T:Array Value,g=G ((base L.wait).at ⟨T,[]⟩ [.code (L7 L),.inLoop (L7 L),.inBlock 0]) fs∧T.size=84∧T[0]? = some (.pointer (some ⟨c.C2,0,none⟩))
set_option maxRecDepth 100000 in
set_option maxHeartbeats 8000000 in
theorem lN (H:WgLib P L) (hT:∀w,Ok3 c L.tWg w→Goes P true (fun _ w=>Ok3 c L.tWg w) DC0 (fun g _=>g.status=.running∧Jn g) mT (G (b₀.at (a₀.put ((ops₀[i₀]?).bind (·.dst)) (.tuple #[])) (.inRegion ops₀ rest₀ :: k₀)) cs) w)
  (g:Goroutine) (h:xAn L c (b₀.at a₀ (.inRegion ops₀ (i₀ :: rest₀) :: k₀) :: cs) g) :
  ∀w,Ok3 c L.tWg w→Goes P true (fun _ w=>Ok3 c L.tWg w) DC0 (fun g _=>g.status=.running∧xW1 P c L.tWg Jn (xAn L c (b₀.at a₀ (.inRegion ops₀ (i₀ :: rest₀) :: k₀) :: cs)) g) 60 g w:=by
 intro w hK
 lib_facts
 obtain ⟨T,rfl,hT84,t0⟩:=h
 obtain ⟨v0,v1,v2,v3,v4,v5,v6,v7,v8,v9,v10,v11,v12,v13,v14,v15,v16,v17,v18,v19,v20,v21,v22,v23,v24,v25,v26,v27,v28,v29,v30,v31,v32,v33,v34,v35,v36,v37,v38,v39,v40,v41,v42,v43,v44,v45,v46,v47,v48,v49,v50,v51,v52,v53,v54,v55,v56,v57,v58,v59,v60,v61,v62,v63,v64,v65,v66,v67,v68,v69,v70,v71,v72,v73,v74,v75,v76,v77,v78,v79,v80,v81,v82,v83,rfl⟩:=array84 T hT84
 simp only[List.getElem?_toArray,List.getElem?_cons_zero,Option.some.injEq] at t0
 subst t0
 clear hT84
 simp only[L7,body_wait,waitFn,Option.getD_some]
 repeat (first
  | u_c stepG_seq aa hK
  | u_c stepG_region_end aa hK
  | u_reg aa hK
  | u_cond true aa hK
  | u_cond false aa hK
  | u_c stepG_skip aa hK
  | u_c stepG_block aa hK
  | u_c stepG_loop aa hK
  | u_c stepG_inBlock aa hK
  | u_c stepG_inLoop aa hK
  | (rw[aG];u_skip aa hK)
  | (rw[aG];u_op aa hK))
 u_call H.f_uLoad (nm_uLoad L) uLoadFn aa hK
 repeat (first
  | u_c stepG_seq aa hK
  | u_c stepG_region_end aa hK
  | u_reg aa hK
  | u_cond true aa hK
  | u_cond false aa hK
  | u_c stepG_skip aa hK
  | u_c stepG_block aa hK
  | u_c stepG_loop aa hK
  | u_c stepG_inBlock aa hK
  | u_c stepG_inLoop aa hK
  | (rw[aG];u_skip aa hK)
  | (rw[aG];u_op aa hK))
 refine Goes.stop (fun w₁ h₁=>?_)
 clear h₁ hK
 refine ⟨rfl,⟨_,_,rfl⟩,fun v hv=>?_⟩
 rcases Nat.eq_zero_or_pos v with rfl | hvp
 ·rw[show ((0:Nat):Int)*KK=0 by simp]
  refine ⟨_,fun w hw=>stepG_load_atomic (v:=0) rfl rfl (by k_ne) rfl H.f_loadU64 (x_loadU64_n L) (x_loadU64_b L) (x_loadU64_x L) .u64 (x_loadU64_f L) rfl hw.cellSt,AL (dX 80 rfl fun w hK=>?_)⟩
  walk_nrm
  repeat (first
   | u_c stepG_seq aa hK
   | u_c stepG_region_end aa hK
   | u_reg aa hK
   | u_cond true aa hK
   | u_cond false aa hK
   | u_c stepG_skip aa hK
   | u_c stepG_block aa hK
   | u_c stepG_loop aa hK
   | u_c stepG_inBlock aa hK
   | u_c stepG_inLoop aa hK
   | (rw[aG];u_skip aa hK)
   | (rw[aG];u_op aa hK))
  u_c stepG_ret' aa hK
  u_leave1 H.f_uLoad aa hK
  repeat (first
   | u_c stepG_seq aa hK
   | u_c stepG_region_end aa hK
   | u_reg aa hK
   | u_cond true aa hK
   | u_cond false aa hK
   | u_c stepG_skip aa hK
   | u_c stepG_block aa hK
   | u_c stepG_loop aa hK
   | u_c stepG_inBlock aa hK
   | u_c stepG_inLoop aa hK
   | (rw[aG];u_skip aa hK)
   | (rw[aG];u_op aa hK))
  refine Goes.stop (fun w₁ h₁=>?_)
  clear h₁ hK
  refine ⟨rfl,?_⟩
  refine ⟨⟨_,_,rfl⟩,_,fun w₁ _=>stepG_mark0 .enable (by simp) rfl rfl (by k_ne) rfl H.f_enable (x_enable_n L) (x_enable_b L) (x_enable_x L) (x_enable_f L),dX 40 rfl fun w hK=>?_⟩
  walk_nrm
  repeat (first
   | u_c stepG_seq aa hK
   | u_c stepG_region_end aa hK
   | u_reg aa hK
   | u_cond true aa hK
   | u_cond false aa hK
   | u_c stepG_skip aa hK
   | u_c stepG_block aa hK
   | u_c stepG_loop aa hK
   | u_c stepG_inBlock aa hK
   | u_c stepG_inLoop aa hK
   | (rw[aG];u_skip aa hK)
   | (rw[aG];u_op aa hK))
  u_conv H.underlying_tWgP H.room_tWg (WgLive.cell0 hK.wg).choose_spec aa hK
  refine Goes.stop (fun w₁ h₁=>?_)
  clear h₁ hK
  refine ⟨rfl,⟨⟨_,_,rfl⟩,_,fun w₁ _=>stepG_markAt .acquire (by simp) rfl rfl (by k_ne) rfl H.f_acquire (x_acquire_n L) (x_acquire_b L) (x_acquire_x L) (x_acquire_f L) (by simp[Act.eval,stA]),dX (mT+60) rfl fun w hK=>?_⟩⟩
  walk_nrm
  repeat (first
   | u_c stepG_seq aa hK
   | u_c stepG_region_end aa hK
   | u_reg aa hK
   | u_cond true aa hK
   | u_cond false aa hK
   | u_c stepG_skip aa hK
   | u_c stepG_block aa hK
   | u_c stepG_loop aa hK
   | u_c stepG_inBlock aa hK
   | u_c stepG_inLoop aa hK
   | (rw[aG];u_skip aa hK)
   | (rw[aG];u_op aa hK))
  u_c stepG_ret' aa hK
  u_leave0 H.f_wait aa hK
  exact (hT _ hK).mono (Nat.le_add_right _ _)
 ·obtain ⟨S,hS⟩:∃S:Int,(v:Int)*KK=S:=⟨_,rfl⟩
  have a1:S / 4294967296=(v:Int):=by rw[←hS];simp only[KK];omega
  have b1:bits .and .u64 S 2147483648=0:=by rw[←hS];have:=st_flag v 0 (by omega) (by omega);simpa [KK] using this
  have b2:bits .and .u64 S 2147483647=0:=by rw[←hS];have:=st_waiters v 0 (by omega) (by omega);simpa [KK] using this
  have c1:IntKind.i32.wrap (v:Int)=(v:Int):=by rw[IntKind.wrap_i32];omega
  have w1:IntKind.u64.wrap (S+1)=S+1:=by rw[IntKind.wrap_u64,←hS];simp only[KK];omega
  have q5:((v:Int)==0)=false:=by simp;omega
  have q6:decide ((v:Int)=0)=false:=decide_eq_false (by omega)
  rw[hS]
  refine ⟨_,fun w hw=>stepG_load_atomic (v:=S) rfl rfl (by k_ne) rfl H.f_loadU64 (x_loadU64_n L) (x_loadU64_b L) (x_loadU64_x L) .u64 (x_loadU64_f L) rfl hw.cellSt,By hvp (dX 100 rfl fun w hK=>?_)⟩
  walk_nrm
  repeat (first
   | u_c stepG_seq aa hK
   | u_c stepG_region_end aa hK
   | u_reg aa hK
   | u_cond true aa hK
   | u_cond false aa hK
   | u_c stepG_skip aa hK
   | u_c stepG_block aa hK
   | u_c stepG_loop aa hK
   | u_c stepG_inBlock aa hK
   | u_c stepG_inLoop aa hK
   | (rw[aG];u_skip aa hK)
   | (rw[aG];u_op aa hK))
  u_c stepG_ret' aa hK
  u_leave1 H.f_uLoad aa hK
  repeat (first
   | u_c stepG_seq aa hK
   | u_c stepG_region_end aa hK
   | u_reg aa hK
   | u_cond true aa hK
   | u_cond false aa hK
   | u_c stepG_skip aa hK
   | u_c stepG_block aa hK
   | u_c stepG_loop aa hK
   | u_c stepG_inBlock aa hK
   | u_c stepG_inLoop aa hK
   | (rw[aG];u_skip aa hK)
   | (rw[aG];u_op aa hK))
  u_call H.f_uCas (nm_uCas L) uCasFn aa hK
  repeat (first
   | u_c stepG_seq aa hK
   | u_c stepG_region_end aa hK
   | u_reg aa hK
   | u_cond true aa hK
   | u_cond false aa hK
   | u_c stepG_skip aa hK
   | u_c stepG_block aa hK
   | u_c stepG_loop aa hK
   | u_c stepG_inBlock aa hK
   | u_c stepG_inLoop aa hK
   | (rw[aG];u_skip aa hK)
   | (rw[aG];u_op aa hK))
  refine Goes.stop (fun w₁ h₁=>?_)
  clear h₁ hK
  refine ⟨rfl,⟨_,_,rfl⟩,?_,fun v' hv' hne=>?_⟩
  ·rw[hS]
   refine ⟨_,fun w hw=>(stepG_cas_hit (v:=S) (n:=S+1) rfl rfl (by k_ne) rfl H.f_casU64 (x_casU64_n L) (x_casU64_b L) (x_casU64_x L) .u64 (x_casU64_f L) rfl rfl rfl hw.cellSt (hw.thaw 0)).trans (by rfl),dX 120 rfl fun w hK=>?_⟩
   walk_nrm
   repeat (first
    | u_c stepG_seq aa hK
    | u_c stepG_region_end aa hK
    | u_reg aa hK
    | u_cond true aa hK
    | u_cond false aa hK
    | u_c stepG_skip aa hK
    | u_c stepG_block aa hK
    | u_c stepG_loop aa hK
    | u_c stepG_inBlock aa hK
    | u_c stepG_inLoop aa hK
    | (rw[aG];u_skip aa hK)
    | (rw[aG];u_op aa hK))
   u_c stepG_ret' aa hK
   u_leave1 H.f_uCas aa hK
   repeat (first
    | u_c stepG_seq aa hK
    | u_c stepG_region_end aa hK
    | u_reg aa hK
    | u_cond true aa hK
    | u_cond false aa hK
    | u_c stepG_skip aa hK
    | u_c stepG_block aa hK
    | u_c stepG_loop aa hK
    | u_c stepG_inBlock aa hK
    | u_c stepG_inLoop aa hK
    | (rw[aG];u_skip aa hK)
    | (rw[aG];u_op aa hK))
   u_conv H.underlying_tPU32 H.room_tU32 (WgLive.cell1 hK.wg).choose_spec aa hK
   refine Goes.stop (fun w₁ h₁=>?_)
   clear h₁ hK
   refine ⟨rfl,⟨⟨_,_,rfl⟩,_,fun w₁ _=>stepG_markAt .write (by simp) rfl rfl (by k_ne) rfl H.f_raceWrite (x_raceWrite_n L) (x_raceWrite_b L) (x_raceWrite_x L) (x_raceWrite_f L) (by simp[Act.eval,smA]),dX (80) rfl fun w hK=>?_⟩⟩
   walk_nrm
   repeat (first
    | u_c stepG_seq aa hK
    | u_c stepG_region_end aa hK
    | u_reg aa hK
    | u_cond true aa hK
    | u_cond false aa hK
    | u_c stepG_skip aa hK
    | u_c stepG_block aa hK
    | u_c stepG_loop aa hK
    | u_c stepG_inBlock aa hK
    | u_c stepG_inLoop aa hK
    | (rw[aG];u_skip aa hK)
    | (rw[aG];u_op aa hK))
   refine Goes.stop (fun w₁ h₁=>?_)
   clear h₁ hK
   refine ⟨rfl,⟨_,_,rfl⟩,rfl,fun w st hw=>stepG_semacquire_wait rfl rfl rfl H.f_semacquire (x_semacquire_n L) (x_semacquire_b L) (x_semacquire_x L) (x_semacquire_f L) (by simp[Act.eval,smA]) hw.cellSm,_,fun w hw=>(stepG_semacquire (n:=1) rfl rfl (by k_ne) rfl H.f_semacquire (x_semacquire_n L) (x_semacquire_b L) (x_semacquire_x L) (x_semacquire_f L) (by simp[Act.eval,smA]) hw.cellSm (by k_ne) (hw.thaw 1)).trans (by rfl),dX 60 rfl fun w hK=>?_⟩
   walk_nrm
   repeat (first
    | u_c stepG_seq aa hK
    | u_c stepG_region_end aa hK
    | u_reg aa hK
    | u_cond true aa hK
    | u_cond false aa hK
    | u_c stepG_skip aa hK
    | u_c stepG_block aa hK
    | u_c stepG_loop aa hK
    | u_c stepG_inBlock aa hK
    | u_c stepG_inLoop aa hK
    | (rw[aG];u_skip aa hK)
    | (rw[aG];u_op aa hK))
   u_call H.f_uLoad (nm_uLoad L) uLoadFn aa hK
   repeat (first
    | u_c stepG_seq aa hK
    | u_c stepG_region_end aa hK
    | u_reg aa hK
    | u_cond true aa hK
    | u_cond false aa hK
    | u_c stepG_skip aa hK
    | u_c stepG_block aa hK
    | u_c stepG_loop aa hK
    | u_c stepG_inBlock aa hK
    | u_c stepG_inLoop aa hK
    | (rw[aG];u_skip aa hK)
    | (rw[aG];u_op aa hK))
   refine Goes.stop (fun w₁ h₁=>?_)
   clear h₁ hK
   refine ⟨rfl,⟨_,_,rfl⟩,_,fun w hw=>stepG_load_atomic (v:=0) rfl rfl (by k_ne) rfl H.f_loadU64 (x_loadU64_n L) (x_loadU64_b L) (x_loadU64_x L) .u64 (x_loadU64_f L) rfl hw.cellSt,dX 60 rfl fun w hK=>?_⟩
   walk_nrm
   repeat (first
    | u_c stepG_seq aa hK
    | u_c stepG_region_end aa hK
    | u_reg aa hK
    | u_cond true aa hK
    | u_cond false aa hK
    | u_c stepG_skip aa hK
    | u_c stepG_block aa hK
    | u_c stepG_loop aa hK
    | u_c stepG_inBlock aa hK
    | u_c stepG_inLoop aa hK
    | (rw[aG];u_skip aa hK)
    | (rw[aG];u_op aa hK))
   u_c stepG_ret' aa hK
   u_leave1 H.f_uLoad aa hK
   repeat (first
    | u_c stepG_seq aa hK
    | u_c stepG_region_end aa hK
    | u_reg aa hK
    | u_cond true aa hK
    | u_cond false aa hK
    | u_c stepG_skip aa hK
    | u_c stepG_block aa hK
    | u_c stepG_loop aa hK
    | u_c stepG_inBlock aa hK
    | u_c stepG_inLoop aa hK
    | (rw[aG];u_skip aa hK)
    | (rw[aG];u_op aa hK))
   refine Goes.stop (fun w₁ h₁=>?_)
   clear h₁ hK
   refine ⟨rfl,⟨⟨_,_,rfl⟩,_,fun w₁ _=>stepG_mark0 .enable (by simp) rfl rfl (by k_ne) rfl H.f_enable (x_enable_n L) (x_enable_b L) (x_enable_x L) (x_enable_f L),dX 40 rfl fun w hK=>?_⟩⟩
   walk_nrm
   repeat (first
    | u_c stepG_seq aa hK
    | u_c stepG_region_end aa hK
    | u_reg aa hK
    | u_cond true aa hK
    | u_cond false aa hK
    | u_c stepG_skip aa hK
    | u_c stepG_block aa hK
    | u_c stepG_loop aa hK
    | u_c stepG_inBlock aa hK
    | u_c stepG_inLoop aa hK
    | (rw[aG];u_skip aa hK)
    | (rw[aG];u_op aa hK))
   u_conv H.underlying_tWgP H.room_tWg (WgLive.cell0 hK.wg).choose_spec aa hK
   refine Goes.stop (fun w₁ h₁=>?_)
   clear h₁ hK
   refine ⟨rfl,⟨⟨_,_,rfl⟩,_,fun w₁ _=>stepG_markAt .acquire (by simp) rfl rfl (by k_ne) rfl H.f_acquire (x_acquire_n L) (x_acquire_b L) (x_acquire_x L) (x_acquire_f L) (by simp[Act.eval,stA]),dX (mT+60) rfl fun w hK=>?_⟩⟩
   walk_nrm
   repeat (first
    | u_c stepG_seq aa hK
    | u_c stepG_region_end aa hK
    | u_reg aa hK
    | u_cond true aa hK
    | u_cond false aa hK
    | u_c stepG_skip aa hK
    | u_c stepG_block aa hK
    | u_c stepG_loop aa hK
    | u_c stepG_inBlock aa hK
    | u_c stepG_inLoop aa hK
    | (rw[aG];u_skip aa hK)
    | (rw[aG];u_op aa hK))
   u_c stepG_ret' aa hK
   u_leave0 H.f_wait aa hK
   exact (hT _ hK).mono (Nat.le_add_right _ _)
  ·refine ⟨_,fun w hw=>stepG_cas_miss (v:=(v':Int)*KK) (old:=S) (n:=S+1) rfl rfl (by k_ne) rfl H.f_casU64 (x_casU64_n L) (x_casU64_b L) (x_casU64_x L) .u64 (x_casU64_f L) rfl rfl rfl hw.cellSt (hw.thaw 0) (by rw[←hS];simp only[KK];omega),dX 60 rfl fun w hK=>?_⟩
   walk_nrm
   repeat (first
    | u_c stepG_seq aa hK
    | u_c stepG_region_end aa hK
    | u_reg aa hK
    | u_cond true aa hK
    | u_cond false aa hK
    | u_c stepG_skip aa hK
    | u_c stepG_block aa hK
    | u_c stepG_loop aa hK
    | u_c stepG_inBlock aa hK
    | u_c stepG_inLoop aa hK
    | (rw[aG];u_skip aa hK)
    | (rw[aG];u_op aa hK))
   u_c stepG_ret' aa hK
   u_leave1 H.f_uCas aa hK
   repeat (first
    | u_c stepG_seq aa hK
    | u_c stepG_region_end aa hK
    | u_reg aa hK
    | u_cond true aa hK
    | u_cond false aa hK
    | u_c stepG_skip aa hK
    | u_c stepG_block aa hK
    | u_c stepG_loop aa hK
    | u_c stepG_inBlock aa hK
    | (rw[aG];u_skip aa hK)
    | (rw[aG];u_op aa hK))
   u_c stepG_inLoop aa hK
   exact Goes.stop fun w₁ _=>⟨rfl,_,rfl,by simp,by simp⟩
set_option maxRecDepth 100000 in
theorem rG (H:WgLib P L) {fs:List Frame} :
  ∀w,Ok3 c L.tWg w→Goes P true (fun _ w=>Ok3 c L.tWg w) DC0 (fun g _=>g.status=.running∧xQ P c L.tWg (xAn L c fs) g) 20 (G ((base L.wait).at ⟨#[.pointer (some ⟨c.C2,0,none⟩),undef,undef,undef,undef,undef,undef,undef,undef,undef,undef,undef,undef,undef,undef,undef,undef,undef,undef,undef,undef,undef,undef,undef,undef,undef,undef,undef,undef,undef,undef,undef,undef,undef,undef,undef,undef,undef,undef,undef,undef,undef,undef,undef,undef,undef,undef,undef,undef,undef,undef,undef,undef,undef,undef,undef,undef,undef,undef,undef,undef,undef,undef,undef,undef,undef,undef,undef,undef,undef,undef,undef,undef,undef,undef,undef,undef,undef,undef,undef,undef,undef,undef,undef],[]⟩ [.code (body_wait L)]) fs) w:=by
 intro w hK
 lib_facts
 simp only[body_wait,waitFn,Option.getD_some]
 repeat (first
  | u_c stepG_seq aa hK
  | u_c stepG_region_end aa hK
  | u_reg aa hK
  | u_cond true aa hK
  | u_cond false aa hK
  | u_c stepG_skip aa hK
  | u_c stepG_block aa hK
  | u_c stepG_loop aa hK
  | u_c stepG_inBlock aa hK
  | u_c stepG_inLoop aa hK
  | (rw[aG];u_skip aa hK)
  | (rw[aG];u_op aa hK))
 refine Goes.stop (fun w₁ h₁=>?_)
 clear h₁ hK
 refine ⟨rfl,⟨⟨_,_,rfl⟩,_,fun w₁ _=>stepG_mark0 .disable (by simp) rfl rfl (by k_ne) rfl H.f_disable (x_disable_n L) (x_disable_b L) (x_disable_x L) (x_disable_f L),dX 20 rfl fun w hK=>?_⟩⟩
 walk_nrm
 u_c stepG_region_end aa hK
 u_c stepG_block aa hK
 u_c stepG_loop aa hK
 exact Goes.stop fun w₁ _=>⟨rfl,_,rfl,by simp,by simp⟩
end
end Cs
end Go.Proofs.Ytpdemelchhkfaaa
