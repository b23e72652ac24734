import Derived.Test.YtgacaecjinlhiaaGreatDoorJn12
namespace Go.Proofs.YtgacaecjinlhiaaGreatDoor
namespace Hb
open Go.Conc Cs
noncomputable def iP:Code:=Tryz.f32.body.getD .skip
noncomputable def gR:Code:=match iP with | .seq (.seq _ (.block _ (.loop c))) _=>c | _=>.skip
noncomputable def iQ:Code:=match iP with | .seq _ r=>r | _=>.skip
noncomputable def qs:Code:=match gR with | .seq _ r=>r | _=>.skip
noncomputable def rW:Array Oper:=match gR with | .seq (.region _ o _) _=>o | _=>#[]
noncomputable def pn:Array Oper:=match qs with | .seq _ (.block _ (.seq _ (.region _ o _)))=>o | _=>#[]
noncomputable def zk:Array Oper:=match iQ with | .region _ o _=>o | _=>#[]
def wB:Frame:={ (default:Frame) with fn:=32,kind:=.deferred }
noncomputable def oC:Frame:={ (default:Frame) with fn:=Tryz.prog.funcs.size,defers:=[],mode:=.panicking [goexitEntry] }
theorem KY:(Tryz.prog.funcs[wB.fn]?).any (·.norace)=false:=by kernel_rfl
theorem aP (c:Cst) (w:World):DQ c w w #[]:=⟨rfl,rfl,rfl,rfl,fun e he=>by simp at he⟩
theorem gL {b:Frame} {a:Act} {ops:Array Oper} {i:Nat} {rest:List Nat} {k:List Item} {cs:List Frame} {v:Value} {o:Oper} (ho:ops[i]? = some o):Conc.served (G (b.at a (.inRegion ops (i :: rest) :: k)) cs) v=G (b.at (a.put o.dst v) (.inRegion ops rest :: k)) cs:=by
 have hfin:(b.at a (.inRegion ops (i :: rest) :: k)).finish v=b.at (a.put o.dst v) (.inRegion ops rest :: k):=by rw[Frame.finish_at,ho];rfl
 show G ((b.at a (.inRegion ops (i :: rest) :: k)).finish v) cs=_
 rw[hfin]
theorem cN {P:Program} {ρ:Operand→Value} {o:Oper} {ty:TypeId} {x:Operand} {p v:Value} {w:World} (ho:o.op=.load ty x) (hx:ρ x=p) (h:(Instr.loadAt ty p).run P w=.ok v w):(execOp ρ o).run P w=.ok (.value v) w:=by
 unfold execOp
 simp only[ho,hx]
 generalize Instr.loadAt ty p=s at h ⊢
 simp[go_sem,h]
theorem bY {P:Program} {ρ:Operand→Value} {o:Oper} {ty:TypeId} {x:Operand} {p:Value} {w:World} (ho:o.op=.load ty x) (hx:ρ x=p):(execOp ρ o).events P w #[]=(Instr.loadAt ty p).events P w #[]:=by
 unfold execOp
 simp only[ho,hx]
 generalize Instr.loadAt ty p=s
 simp[go_sem]
theorem wS (P:Program) (w:World) (es:Array Event) (ad:Addr) (m:Mode) (b:Option Addr) (l cp:Nat):(store ad (.slice b l cp) m).events P w es=storedEv P w es ad (.slice b l cp) m:=events_store P w es ad _ m rfl
structure WkP (c:Cst) (bF bM bL bD:Nat) (vm vl:Value):Prop where
 fx:c.Fix bF∧c.Fix bM∧c.Fix bL∧c.Fix bD
 ldF:∀w,c.Ok w→w.cell? ⟨bF,0,none⟩=some (.chan (some c.C1))
 ldD:∀w,c.Ok w→w.cell? ⟨bD,0,none⟩=some (.chan (some c.C2))
 ldL:∀w,c.Ok w→w.cell? ⟨bL,0,none⟩=some vl
 ldM:∀w,c.Ok w→(Instr.loadAt 27 (.pointer (some ⟨bM,0,none⟩))).run Tryz.prog w=.ok vm w
 evM:∀w,c.Ok w→∀e ∈ (Instr.loadAt 27 (.pointer (some ⟨bM,0,none⟩))).events Tryz.prog w #[],∃a:Addr,e=⟨.cell a,false,false⟩∧c.Fix a.block
def AX (c:Cst) (bF bM bL bD:Nat) (g:Goroutine):Prop:=∃v5 v7 v8 v9 v10 v11 v12 v13 v14 v15 v16:Value,g=G (wB.at ⟨#[.pointer (some ⟨bF,0,none⟩),.pointer (some ⟨bM,0,none⟩),.pointer (some ⟨bL,0,none⟩),.pointer (some ⟨c.Fd,0,none⟩),.pointer (some ⟨bD,0,none⟩),v5,.chan (some c.C1),v7,v8,v9,v10,v11,v12,v13,v14,v15,v16],[]⟩ [.inRegion rW [0,1],.code qs,.inLoop gR,.inBlock 0,.code iQ]) [oC]
def Jv (c:Cst) (bF bM bL bD:Nat) (g:Goroutine):Prop:=∃v5 v6 v7 v8 v9 v10 v11 v12 v13 v14 v15:Value,g=G (wB.at ⟨#[.pointer (some ⟨bF,0,none⟩),.pointer (some ⟨bM,0,none⟩),.pointer (some ⟨bL,0,none⟩),.pointer (some ⟨c.Fd,0,none⟩),.pointer (some ⟨bD,0,none⟩),v5,v6,v7,v8,v9,v10,v11,v12,v13,v14,v15,.chan (some c.C2)],[]⟩ [.inRegion zk [1]]) [oC]
noncomputable def DG (c:Cst) (bF bM bL bD:Nat) (vm vl:Value) (k:Nat) (v5 v7 v8 v9 v14 v15 v16:Value):Frame:=wB.at ⟨#[.pointer (some ⟨bF,0,none⟩),.pointer (some ⟨bM,0,none⟩),.pointer (some ⟨bL,0,none⟩),.pointer (some ⟨c.Fd,0,none⟩),.pointer (some ⟨bD,0,none⟩),v5,.chan (some c.C1),v7,v8,v9,.int .i64 (k:Nat),vm,.int .i64 (k:Nat),vl,v14,v15,v16],[]⟩ (.inRegion pn [4,5,6] :: [.inBlock 1,.inLoop gR,.inBlock 0,.code iQ])
def Jf (c:Cst) (bF bM bL bD:Nat) (vm vl:Value) (k:Nat) (g:Goroutine):Prop:=∃v5 v7 v8 v9 v14 v15 v16:Value,g=G (Frame.enter Tryz.prog 33 #[vm,.int .i64 (k:Nat),vl] .normal) [DG c bF bM bL bD vm vl k v5 v7 v8 v9 v14 v15 v16,oC]
def Ka (c:Cst) (bF bM bL bD:Nat) (k:Nat) (v:Value) (g:Goroutine):Prop:=∃v5 v7 v8 v9 v10 v11 v12 v13 v16:Value,g=G (wB.at ⟨#[.pointer (some ⟨bF,0,none⟩),.pointer (some ⟨bM,0,none⟩),.pointer (some ⟨bL,0,none⟩),.pointer (some ⟨c.Fd,0,none⟩),.pointer (some ⟨bD,0,none⟩),v5,.chan (some c.C1),v7,v8,v9,v10,v11,v12,v13,v,.pointer (some ⟨c.Fd,k,none⟩),v16],[]⟩ (.inRegion pn [6] :: [.inBlock 1,.inLoop gR,.inBlock 0,.code iQ])) [oC]
section
variable {c:Cst} {bF bM bL bD:Nat} {vm vl:Value} {g:Goroutine} {w:World}
theorem IE (h:AX c bF bM bL bD g):isG g∧∀w,stepG Tryz.prog false g w=.comm g #[rcase c.C1 (.int .i64 0)] true (.recv true) w #[]:=by
 obtain ⟨v5,v7,v8,v9,v10,v11,v12,v13,v14,v15,v16,rfl⟩:=h
 refine ⟨⟨_,_,rfl⟩,fun w=>?_⟩
 simp only[rW,gR,iP,Tryz.f32,Option.getD_some]
 rw[stepG_comm (cases:=#[rcase c.C1 (.int .i64 0)]) (blocking:=true) (shape:=.recv true) (w':=w) rfl rfl (by decide) (by simp[execOp,rcase,go_sem])]
 rw[listed_nil (by simp[go_sem])]
set_option maxRecDepth 100000 in
set_option maxHeartbeats 4000000 in
theorem EO (k : WkP c bF bM bL bD vm vl) (h : AX c bF bM bL bD g) : ∃ m, Walk Tryz.prog c false (Jv c bF bM bL bD) m (Conc.served g (.tuple #[.int .i64 0, .bool false])) w := by
  obtain ⟨v5, v7, v8, v9, v10, v11, v12, v13, v14, v15, v16, rfl⟩ := h
  refine ⟨0 + 30, ?_⟩
  show Goes _ _ _ _ _ _ _ _
  rw [gL (o := rW.getD 0 default) rfl]
  simp only [rW, qs, iQ, gR, iP, Tryz.f32, Option.getD_some]
  repeat (first
    | (refine Goes.step rfl (fun w₁ h₁ => ?_); walk_rw; refine ⟨aP c w₁, ?_⟩)
    | (refine Goes.step rfl (fun w₁ h₁ => ?_)
       refine goes_oper_k rfl rfl (by decide) (fun K hK => ?_)
       have hF := k.ldF w₁ h₁
       have hD := k.ldD w₁ h₁
       have hL := k.ldL w₁ h₁
       go_simp
       refine hK _ _ ⟨⟨rfl, rfl, rfl, rfl, fun e he => ?_⟩, ?_⟩
       · have hm := mem_listed he
         simp [go_sem, *] at hm
         try (subst hm; first | exact ⟨_, rfl, k.fx.1⟩ | exact ⟨_, rfl, k.fx.2.1⟩ | exact ⟨_, rfl, k.fx.2.2.1⟩ | exact ⟨_, rfl, k.fx.2.2.2⟩)
       clear hK K hF hD hL h₁))
  refine Goes.step rfl (fun w₁ h₁ => ?_)
  rw [stepG_cond (t := false) rfl]
  simp only [goes_go, Bool.false_eq_true, ↓reduceIte]
  refine ⟨aP c w₁, ?_⟩
  refine Goes.step rfl (fun w₁ h₁ => ?_)
  apply goes_exit
  · rfl
  refine ⟨aP c w₁, ?_⟩
  repeat (first
    | (refine Goes.step rfl (fun w₁ h₁ => ?_); walk_rw; refine ⟨aP c w₁, ?_⟩)
    | (refine Goes.step rfl (fun w₁ h₁ => ?_)
       refine goes_oper_k rfl rfl (by decide) (fun K hK => ?_)
       have hF := k.ldF w₁ h₁
       have hD := k.ldD w₁ h₁
       have hL := k.ldL w₁ h₁
       go_simp
       refine hK _ _ ⟨⟨rfl, rfl, rfl, rfl, fun e he => ?_⟩, ?_⟩
       · have hm := mem_listed he
         simp [go_sem, *] at hm
         try (subst hm; first | exact ⟨_, rfl, k.fx.1⟩ | exact ⟨_, rfl, k.fx.2.1⟩ | exact ⟨_, rfl, k.fx.2.2.1⟩ | exact ⟨_, rfl, k.fx.2.2.2⟩)
       clear hK K hF hD hL h₁))
  exact Goes.stop fun w₁ _ => ⟨rfl, _, _, _, _, _, _, _, _, _, _, _, rfl⟩
set_option maxRecDepth 100000 in
set_option maxHeartbeats 4000000 in
theorem DF (k : WkP c bF bM bL bD vm vl) (h : AX c bF bM bL bD g) (j : Nat) : ∃ m, Walk Tryz.prog c false (Jf c bF bM bL bD vm vl j) m (Conc.served g (.tuple #[.int .i64 (j : Nat), .bool true])) w := by
  obtain ⟨v5, v7, v8, v9, v10, v11, v12, v13, v14, v15, v16, rfl⟩ := h
  refine ⟨0 + 30, ?_⟩
  show Goes _ _ _ _ _ _ _ _
  rw [gL (o := rW.getD 0 default) rfl]
  simp only [rW, qs, iQ, gR, iP, Tryz.f32, Option.getD_some]
  repeat (first
    | (refine Goes.step rfl (fun w₁ h₁ => ?_); walk_rw; refine ⟨aP c w₁, ?_⟩)
    | (refine Goes.step rfl (fun w₁ h₁ => ?_)
       refine goes_oper_k rfl rfl (by decide) (fun K hK => ?_)
       have hF := k.ldF w₁ h₁
       have hD := k.ldD w₁ h₁
       have hL := k.ldL w₁ h₁
       go_simp
       refine hK _ _ ⟨⟨rfl, rfl, rfl, rfl, fun e he => ?_⟩, ?_⟩
       · have hm := mem_listed he
         simp [go_sem, *] at hm
         try (subst hm; first | exact ⟨_, rfl, k.fx.1⟩ | exact ⟨_, rfl, k.fx.2.1⟩ | exact ⟨_, rfl, k.fx.2.2.1⟩ | exact ⟨_, rfl, k.fx.2.2.2⟩)
       clear hK K hF hD hL h₁))
  refine Goes.step rfl (fun w₁ h₁ => ?_)
  rw [stepG_cond (t := true) rfl]
  simp only [goes_go, ↓reduceIte]
  refine ⟨aP c w₁, ?_⟩
  repeat (first
    | (refine Goes.step rfl (fun w₁ h₁ => ?_); walk_rw; refine ⟨aP c w₁, ?_⟩)
    | (refine Goes.step rfl (fun w₁ h₁ => ?_)
       refine goes_oper_k rfl rfl (by decide) (fun K hK => ?_)
       have hF := k.ldF w₁ h₁
       have hD := k.ldD w₁ h₁
       have hL := k.ldL w₁ h₁
       go_simp
       refine hK _ _ ⟨⟨rfl, rfl, rfl, rfl, fun e he => ?_⟩, ?_⟩
       · have hm := mem_listed he
         simp [go_sem, *] at hm
         try (subst hm; first | exact ⟨_, rfl, k.fx.1⟩ | exact ⟨_, rfl, k.fx.2.1⟩ | exact ⟨_, rfl, k.fx.2.2.1⟩ | exact ⟨_, rfl, k.fx.2.2.2⟩)
       clear hK K hF hD hL h₁))
  refine Goes.step rfl (fun w₁ h₁ => ?_)
  rw [stepG_value (v := vm) (w' := w₁) rfl rfl (by decide) (cN rfl rfl (k.ldM w₁ h₁))]
  simp only [goes_go]
  refine ⟨⟨rfl, rfl, rfl, rfl, fun e he => k.evM w₁ h₁ e (by have hm := mem_listed he; rw [bY rfl rfl] at hm; exact hm)⟩, ?_⟩
  repeat (first
    | (refine Goes.step rfl (fun w₁ h₁ => ?_); walk_rw; refine ⟨aP c w₁, ?_⟩)
    | (refine Goes.step rfl (fun w₁ h₁ => ?_)
       refine goes_oper_k rfl rfl (by decide) (fun K hK => ?_)
       have hF := k.ldF w₁ h₁
       have hD := k.ldD w₁ h₁
       have hL := k.ldL w₁ h₁
       go_simp
       refine hK _ _ ⟨⟨rfl, rfl, rfl, rfl, fun e he => ?_⟩, ?_⟩
       · have hm := mem_listed he
         simp [go_sem, *] at hm
         try (subst hm; first | exact ⟨_, rfl, k.fx.1⟩ | exact ⟨_, rfl, k.fx.2.1⟩ | exact ⟨_, rfl, k.fx.2.2.1⟩ | exact ⟨_, rfl, k.fx.2.2.2⟩)
       clear hK K hF hD hL h₁))
  refine Goes.step rfl (fun w₁ h₁ => ?_)
  rw [stepG_enter (f := 33) (args := #[vm, .int .i64 (j : Nat), vl]) (w' := w₁) rfl rfl (by decide) (by simp [execOp, go_sem])]
  rw [listed_nil (by simp [go_sem, callFunc, Tryz.func33, Tryz.f33])]
  simp only [goes_go]
  refine ⟨aP c w₁, ?_⟩
  exact Goes.stop fun w₁ _ => ⟨rfl, .int .i64 (j : Nat), .tuple #[.int .i64 (j : Nat), .bool true], .bool true, .int .i64 (j : Nat), v14, v15, v16, rfl⟩
set_option maxRecDepth 100000 in
set_option maxHeartbeats 4000000 in
theorem Hu {j:Nat} (hj:j<26) (h:Jf c bF bM bL bD vm vl j g):∃cal rest,g=G (Frame.enter Tryz.prog 33 #[vm,.int .i64 (j:Nat),vl] .normal) (cal :: rest)∧∀v w,∃m,Walk Tryz.prog c false (Ka c bF bM bL bD j v) m (G (cal.finish v) rest) w:=by
 obtain ⟨v5,v7,v8,v9,v14,v15,v16,rfl⟩:=h
 refine ⟨_,_,rfl,fun v w=>⟨0+30,?_⟩⟩
 show Goes _ _ _ _ _ _ _ _
 have hfin:(DG c bF bM bL bD vm vl j v5 v7 v8 v9 v14 v15 v16).finish v=wB.at ⟨#[.pointer (some ⟨bF,0,none⟩),.pointer (some ⟨bM,0,none⟩),.pointer (some ⟨bL,0,none⟩),.pointer (some ⟨c.Fd,0,none⟩),.pointer (some ⟨bD,0,none⟩),v5,.chan (some c.C1),v7,v8,v9,.int .i64 (j:Nat),vm,.int .i64 (j:Nat),vl,v,v15,v16],[]⟩ (.inRegion pn [5,6] :: [.inBlock 1,.inLoop gR,.inBlock 0,.code iQ]):=by
  unfold DG
  rw[Frame.finish_at]
  rfl
 rw[hfin]
 simp only[pn,qs,iQ,gR,iP,Tryz.f32,Option.getD_some]
 have hj':(j:Int)<26:=by omega
 refine Goes.step rfl (fun w₁ h₁=>?_)
 rw[stepG_value (v:=.pointer (some ⟨c.Fd,j,none⟩)) (w':=w₁) rfl rfl (by decide) (by simp[execOp,go_sem,hj'])]
 rw[listed_nil (by simp[go_sem,Instr.indexAt];omega)]
 simp only[goes_go]
 refine ⟨aP c w₁,?_⟩
 exact Goes.stop fun w₁ _=>⟨rfl,_,_,_,_,_,_,_,_,_,rfl⟩
set_option maxRecDepth 100000 in
set_option maxHeartbeats 4000000 in
theorem Jx {j:Nat} (hj:j<c.K) {a:Option Addr} {l cp:Nat} (h:Ka c bF bM bL bD j (.slice a l cp) g):isG g∧∃g',(∀w,c.Ok w→stepG Tryz.prog false g w=.go g' (w.setCell ⟨c.Fd,j,none⟩ (.slice a l cp)) #[⟨.cell ⟨c.Fd,j,none⟩,true,false⟩])∧g'.status=.running∧∀w,∃m,Walk Tryz.prog c false (AX c bF bM bL bD) m g' w:=by
 obtain ⟨v5,v7,v8,v9,v10,v11,v12,v13,v16,rfl⟩:=h
 refine ⟨⟨_,_,rfl⟩,G (wB.at ⟨#[.pointer (some ⟨bF,0,none⟩),.pointer (some ⟨bM,0,none⟩),.pointer (some ⟨bL,0,none⟩),.pointer (some ⟨c.Fd,0,none⟩),.pointer (some ⟨bD,0,none⟩),v5,.chan (some c.C1),v7,v8,v9,v10,v11,v12,v13,.slice a l cp,.pointer (some ⟨c.Fd,j,none⟩),v16],[]⟩ (.inRegion pn [] :: [.inBlock 1,.inLoop gR,.inBlock 0,.code iQ])) [oC],fun w ok=>?_,rfl,fun w=>⟨0+30,?_⟩⟩
 ·obtain ⟨cs,hcs,hsz⟩:=ok.fd
  have hcell:w.cell? ⟨c.Fd,j,none⟩=some (cs.getD j undef):=by
   unfold World.cell?
   rw[hcs]
   simp[Array.getD_eq_getD_getElem?,show j<cs.size by omega]
  have hfz:w.frozen? ⟨c.Fd,j,none⟩=false:=by
   unfold World.frozen?
   rw[hcs]
   simp
  simp only[pn,qs,iQ,gR,iP,Tryz.f32,Option.getD_some]
  rw[stepG_none (w':=w.setCell ⟨c.Fd,j,none⟩ (.slice a l cp)) rfl rfl (by decide) (by simp[execOp,go_sem,hcell,hfz])]
  unfold listed
  rw[show Sem.events Tryz.prog _ w #[]=#[⟨.cell ⟨c.Fd,j,none⟩,true,false⟩] by simp[execOp,go_sem,wS,storedEv,hcell,hfz]]
  rw[seen_eq KY (by simp)]
  rfl
 ·show Goes _ _ _ _ _ _ _ _
  simp only[pn,qs,iQ,gR,iP,Tryz.f32,Option.getD_some]
  repeat (refine Goes.step rfl (fun w₁ h₁=>?_);walk_rw;refine ⟨aP c w₁,?_⟩)
  exact Goes.stop fun w₁ _=>⟨rfl,_,_,_,_,_,_,_,_,_,_,_,rfl⟩
theorem IN (h:Jv c bF bM bL bD g):isG g∧(∀w,stepG Tryz.prog false g w=.comm g #[scase c.C2 (.bool true) (.tuple #[])] true .send w #[])∧∃q,QuitsIn Tryz.prog q (Conc.served g undef):=by
 obtain ⟨v5,v6,v7,v8,v9,v10,v11,v12,v13,v14,v15,rfl⟩:=h
 refine ⟨⟨_,_,rfl⟩,fun w=>?_,4,?_⟩
 ·simp only[zk,iQ,iP,Tryz.f32,Option.getD_some]
  rw[stepG_comm (cases:=#[scase c.C2 (.bool true) (.tuple #[])]) (blocking:=true) (shape:=.send) (w':=w) rfl rfl (by decide) (by simp[execOp,scase,go_sem])]
  rw[listed_nil (by simp[go_sem])]
 ·rw[gL (o:=zk.getD 1 default) rfl]
  show QuitsIn Tryz.prog 4 (G (wB.at ⟨#[.pointer (some ⟨bF,0,none⟩),.pointer (some ⟨bM,0,none⟩),.pointer (some ⟨bL,0,none⟩),.pointer (some ⟨c.Fd,0,none⟩),.pointer (some ⟨bD,0,none⟩),v5,v6,v7,v8,v9,v10,v11,v12,v13,v14,v15,.chan (some c.C2)],[]⟩ [.inRegion zk []]) [oC])
  refine .inr ⟨rfl,_,fun w=>stepG_region_end,?_⟩
  refine .inr ⟨rfl,_,fun w=>stepG_end,?_⟩
  refine .inr ⟨rfl,G oC [],fun w=>?_,?_⟩
  ·simp[G,stepG,unwind,doReturn,results,Frame.at,wB,oC,Tryz.func32,Tryz.f32,seen,GStep.after,goexitEntry]
  refine .inr ⟨rfl,{ G oC [] with status:=.finished },fun w=>?_,rfl⟩
  simp[G,stepG,unwind,oC,goexitEntry,Frame.catches]
  rfl
def wGo (c:Cst) (bF bM bL bD:Nat):Deferred:={ target:=.fn (.func 32) #[.pointer (some ⟨bF,0,none⟩),.pointer (some ⟨bM,0,none⟩),.pointer (some ⟨bL,0,none⟩),.pointer (some ⟨c.Fd,0,none⟩),.pointer (some ⟨bD,0,none⟩)],args:=#[] }
theorem yB (w:World):stepG Tryz.prog false (born Tryz.prog (wGo c bF bM bL bD)) w =
  .go (G (wB.at ⟨#[.pointer (some ⟨bF,0,none⟩),.pointer (some ⟨bM,0,none⟩),.pointer (some ⟨bL,0,none⟩),.pointer (some ⟨c.Fd,0,none⟩),.pointer (some ⟨bD,0,none⟩),undef,undef,undef,undef,undef,undef,undef,undef,undef,undef,undef,undef],[]⟩ [.code iP]) [oC]) w #[]:=by
 simp[born,wGo,stepG,unwind,callDeferred,invoke,callFunc,Tryz.func32,Tryz.f32,seen,GStep.after,G,Frame.enter,Frame.at,wB,oC,iP]
set_option maxRecDepth 100000 in
set_option maxHeartbeats 4000000 in
theorem KQ (k : WkP c bF bM bL bD vm vl) : ∃ m, Walk Tryz.prog c false (AX c bF bM bL bD) m (born Tryz.prog (wGo c bF bM bL bD)) w := by
  refine ⟨(0 + 30) + 1, Goes.step rfl fun w₁ _ => ?_⟩
  rw [yB]
  refine ⟨aP c w₁, ?_⟩
  simp only [iP, Tryz.f32, Option.getD_some]
  repeat (first
    | (refine Goes.step rfl (fun w₁ h₁ => ?_); walk_rw; refine ⟨aP c w₁, ?_⟩)
    | (refine Goes.step rfl (fun w₁ h₁ => ?_)
       refine goes_oper_k rfl rfl (by decide) (fun K hK => ?_)
       have hF := k.ldF w₁ h₁
       have hD := k.ldD w₁ h₁
       have hL := k.ldL w₁ h₁
       go_simp
       refine hK _ _ ⟨⟨rfl, rfl, rfl, rfl, fun e he => ?_⟩, ?_⟩
       · have hm := mem_listed he
         simp [go_sem, *] at hm
         try (subst hm; first | exact ⟨_, rfl, k.fx.1⟩ | exact ⟨_, rfl, k.fx.2.1⟩ | exact ⟨_, rfl, k.fx.2.2.1⟩ | exact ⟨_, rfl, k.fx.2.2.2⟩)
       clear hK K hF hD hL h₁))
  exact Goes.stop fun w₁ _ => ⟨rfl, _, _, _, _, _, _, _, _, _, _, _, rfl⟩
end
end Hb
end Go.Proofs.YtgacaecjinlhiaaGreatDoor
