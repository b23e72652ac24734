import Derived.Test.YtgacaecjinlhiaaGreatDoorJn12
namespace Go.Proofs.YtgacaecjinlhiaaGreatDoor
namespace Hb
open Go.Conc Cs
noncomputable def iR:Code:=Tryz.f32.body.getD .skip
noncomputable def gP:Code:=match iR with | .seq (.seq _ (.block _ (.loop c))) _=>c | _=>.skip
noncomputable def iP:Code:=match iR with | .seq _ r=>r | _=>.skip
noncomputable def pq:Code:=match gP with | .seq _ r=>r | _=>.skip
noncomputable def sr:Array Oper:=match gP with | .seq (.region _ o _) _=>o | _=>#[]
noncomputable def pI:Array Oper:=match pq with | .seq _ (.block _ (.seq _ (.region _ o _)))=>o | _=>#[]
noncomputable def zI:Array Oper:=match iP with | .region _ o _=>o | _=>#[]
def wB:Frame:={ (default:Frame) with fn:=32,kind:=.deferred }
noncomputable def oF:Frame:={ (default:Frame) with fn:=Tryz.prog.funcs.size,defers:=[],mode:=.panicking [goexitEntry] }
theorem Kv:(Tryz.prog.funcs[wB.fn]?).any (·.norace)=false:=by kernel_rfl
theorem aO (c:Cst) (w:World):DQ c w w #[]:=⟨rfl,rfl,rfl,rfl,fun e he=>by simp at he⟩
theorem gO {b:Frame} {a:Act} {ops:Array Oper} {i:Nat} {rest:List Nat} {k:List Item} {cs:List Frame} {v:Value} {o:Oper} (ho:ops[i]? = some o):Conc.served (G (b.at a (.inRegion ops (i :: rest) :: k)) cs) v=G (b.at (a.put o.dst v) (.inRegion ops rest :: k)) cs:=by
 have hfin:(b.at a (.inRegion ops (i :: rest) :: k)).finish v=b.at (a.put o.dst v) (.inRegion ops rest :: k):=by rw[Frame.finish_at,ho];rfl
 show G ((b.at a (.inRegion ops (i :: rest) :: k)).finish v) cs=_
 rw[hfin]
theorem cM {P:Program} {ρ:Operand→Value} {o:Oper} {ty:TypeId} {x:Operand} {p v:Value} {w:World} (ho:o.op=.load ty x) (hx:ρ x=p) (h:(Instr.loadAt ty p).run P w=.ok v w):(execOp ρ o).run P w=.ok (.value v) w:=by
 unfold execOp
 simp only[ho,hx]
 generalize Instr.loadAt ty p=s at h ⊢
 simp[go_sem,h]
theorem bX {P:Program} {ρ:Operand→Value} {o:Oper} {ty:TypeId} {x:Operand} {p:Value} {w:World} (ho:o.op=.load ty x) (hx:ρ x=p):(execOp ρ o).events P w #[]=(Instr.loadAt ty p).events P w #[]:=by
 unfold execOp
 simp only[ho,hx]
 generalize Instr.loadAt ty p=s
 simp[go_sem]
theorem vP (P:Program) (w:World) (es:Array Event) (ad:Addr) (m:Mode) (b:Option Addr) (l cp:Nat):(store ad (.slice b l cp) m).events P w es=storedEv P w es ad (.slice b l cp) m:=events_store P w es ad _ m rfl
structure WkP (c:Cst) (bF bM bL bD:Nat) (vm vl:Value):Prop where
 fx:c.Fix bF∧c.Fix bM∧c.Fix bL∧c.Fix bD
 ldF:∀w,c.Ok w→w.cell? ⟨bF,0,none⟩=some (.chan (some c.C1))
 ldD:∀w,c.Ok w→w.cell? ⟨bD,0,none⟩=some (.chan (some c.C2))
 ldL:∀w,c.Ok w→w.cell? ⟨bL,0,none⟩=some vl
 ldM:∀w,c.Ok w→(Instr.loadAt 27 (.pointer (some ⟨bM,0,none⟩))).run Tryz.prog w=.ok vm w
 evM:∀w,c.Ok w→∀e ∈ (Instr.loadAt 27 (.pointer (some ⟨bM,0,none⟩))).events Tryz.prog w #[],∃a:Addr,e=⟨.cell a,false,false⟩∧c.Fix a.block
def AI (c:Cst) (bF bM bL bD:Nat) (g:Goroutine):Prop:=∃v5 v7 v8 v9 v10 v11 v12 v13 v14 v15 v16:Value,g=G (wB.at ⟨#[.pointer (some ⟨bF,0,none⟩),.pointer (some ⟨bM,0,none⟩),.pointer (some ⟨bL,0,none⟩),.pointer (some ⟨c.Fd,0,none⟩),.pointer (some ⟨bD,0,none⟩),v5,.chan (some c.C1),v7,v8,v9,v10,v11,v12,v13,v14,v15,v16],[]⟩ [.inRegion sr [0,1],.code pq,.inLoop gP,.inBlock 0,.code iP]) [oF]
def JG (c:Cst) (bF bM bL bD:Nat) (g:Goroutine):Prop:=∃v5 v6 v7 v8 v9 v10 v11 v12 v13 v14 v15:Value,g=G (wB.at ⟨#[.pointer (some ⟨bF,0,none⟩),.pointer (some ⟨bM,0,none⟩),.pointer (some ⟨bL,0,none⟩),.pointer (some ⟨c.Fd,0,none⟩),.pointer (some ⟨bD,0,none⟩),v5,v6,v7,v8,v9,v10,v11,v12,v13,v14,v15,.chan (some c.C2)],[]⟩ [.inRegion zI [1]]) [oF]
noncomputable def B7 (c:Cst) (bF bM bL bD:Nat) (vm vl:Value) (k:Nat) (v5 v7 v8 v9 v14 v15 v16:Value):Frame:=wB.at ⟨#[.pointer (some ⟨bF,0,none⟩),.pointer (some ⟨bM,0,none⟩),.pointer (some ⟨bL,0,none⟩),.pointer (some ⟨c.Fd,0,none⟩),.pointer (some ⟨bD,0,none⟩),v5,.chan (some c.C1),v7,v8,v9,.int .i64 (k:Nat),vm,.int .i64 (k:Nat),vl,v14,v15,v16],[]⟩ (.inRegion pI [4,5,6] :: [.inBlock 1,.inLoop gP,.inBlock 0,.code iP])
def Jx (c:Cst) (bF bM bL bD:Nat) (vm vl:Value) (k:Nat) (g:Goroutine):Prop:=∃v5 v7 v8 v9 v14 v15 v16:Value,g=G (Frame.enter Tryz.prog 33 #[vm,.int .i64 (k:Nat),vl] .normal) [B7 c bF bM bL bD vm vl k v5 v7 v8 v9 v14 v15 v16,oF]
def Jy (c:Cst) (bF bM bL bD:Nat) (k:Nat) (v:Value) (g:Goroutine):Prop:=∃v5 v7 v8 v9 v10 v11 v12 v13 v16:Value,g=G (wB.at ⟨#[.pointer (some ⟨bF,0,none⟩),.pointer (some ⟨bM,0,none⟩),.pointer (some ⟨bL,0,none⟩),.pointer (some ⟨c.Fd,0,none⟩),.pointer (some ⟨bD,0,none⟩),v5,.chan (some c.C1),v7,v8,v9,v10,v11,v12,v13,v,.pointer (some ⟨c.Fd,k,none⟩),v16],[]⟩ (.inRegion pI [6] :: [.inBlock 1,.inLoop gP,.inBlock 0,.code iP])) [oF]
section
variable {c:Cst} {bF bM bL bD:Nat} {vm vl:Value} {g:Goroutine} {w:World}
theorem Kk (h:AI c bF bM bL bD g):isG g∧∀w,stepG Tryz.prog false g w=.comm g #[rcase c.C1 (.int .i64 0)] true (.recv true) w #[]:=by
 obtain ⟨v5,v7,v8,v9,v10,v11,v12,v13,v14,v15,v16,rfl⟩:=h
 refine ⟨⟨_,_,rfl⟩,fun w=>?_⟩
 simp only[sr,gP,iR,Tryz.f32,Option.getD_some]
 rw[stepG_comm (cases:=#[rcase c.C1 (.int .i64 0)]) (blocking:=true) (shape:=.recv true) (w':=w) rfl rfl (by decide) (by simp[execOp,rcase,go_sem])]
 rw[listed_nil (by simp[go_sem])]
set_option maxRecDepth 100000 in
set_option maxHeartbeats 4000000 in
theorem Cx (k : WkP c bF bM bL bD vm vl) (h : AI c bF bM bL bD g) : ∃ m, Walk Tryz.prog c false (JG c bF bM bL bD) m (Conc.served g (.tuple #[.int .i64 0, .bool false])) w := by
  obtain ⟨v5, v7, v8, v9, v10, v11, v12, v13, v14, v15, v16, rfl⟩ := h
  refine ⟨0 + 30, ?_⟩
  show Goes _ _ _ _ _ _ _ _
  rw [gO (o := sr.getD 0 default) rfl]
  simp only [sr, pq, iP, gP, iR, Tryz.f32, Option.getD_some]
  repeat (first
    | (refine Goes.step rfl (fun w₁ h₁ => ?_); walk_rw; refine ⟨aO c w₁, ?_⟩)
    | (refine Goes.step rfl (fun w₁ h₁ => ?_)
       refine goes_oper_k rfl rfl (by decide) (fun K hK => ?_)
       have hF := k.ldF w₁ h₁
       have hD := k.ldD w₁ h₁
       have hL := k.ldL w₁ h₁
       go_simp
       refine hK _ _ ⟨⟨rfl, rfl, rfl, rfl, fun e he => ?_⟩, ?_⟩
       · have hm := mem_listed he
         simp [go_sem, *] at hm
         try (subst hm; first | exact ⟨_, rfl, k.fx.1⟩ | exact ⟨_, rfl, k.fx.2.1⟩ | exact ⟨_, rfl, k.fx.2.2.1⟩ | exact ⟨_, rfl, k.fx.2.2.2⟩)
       clear hK K hF hD hL h₁))
  refine Goes.step rfl (fun w₁ h₁ => ?_)
  rw [stepG_cond (t := false) rfl]
  simp only [goes_go, Bool.false_eq_true, ↓reduceIte]
  refine ⟨aO c w₁, ?_⟩
  refine Goes.step rfl (fun w₁ h₁ => ?_)
  apply goes_exit
  · rfl
  refine ⟨aO c w₁, ?_⟩
  repeat (first
    | (refine Goes.step rfl (fun w₁ h₁ => ?_); walk_rw; refine ⟨aO c w₁, ?_⟩)
    | (refine Goes.step rfl (fun w₁ h₁ => ?_)
       refine goes_oper_k rfl rfl (by decide) (fun K hK => ?_)
       have hF := k.ldF w₁ h₁
       have hD := k.ldD w₁ h₁
       have hL := k.ldL w₁ h₁
       go_simp
       refine hK _ _ ⟨⟨rfl, rfl, rfl, rfl, fun e he => ?_⟩, ?_⟩
       · have hm := mem_listed he
         simp [go_sem, *] at hm
         try (subst hm; first | exact ⟨_, rfl, k.fx.1⟩ | exact ⟨_, rfl, k.fx.2.1⟩ | exact ⟨_, rfl, k.fx.2.2.1⟩ | exact ⟨_, rfl, k.fx.2.2.2⟩)
       clear hK K hF hD hL h₁))
  exact Goes.stop fun w₁ _ => ⟨rfl, _, _, _, _, _, _, _, _, _, _, _, rfl⟩
set_option maxRecDepth 100000 in
set_option maxHeartbeats 4000000 in
theorem Di (k : WkP c bF bM bL bD vm vl) (h : AI c bF bM bL bD g) (j : Nat) : ∃ m, Walk Tryz.prog c false (Jx c bF bM bL bD vm vl j) m (Conc.served g (.tuple #[.int .i64 (j : Nat), .bool true])) w := by
  obtain ⟨v5, v7, v8, v9, v10, v11, v12, v13, v14, v15, v16, rfl⟩ := h
  refine ⟨0 + 30, ?_⟩
  show Goes _ _ _ _ _ _ _ _
  rw [gO (o := sr.getD 0 default) rfl]
  simp only [sr, pq, iP, gP, iR, Tryz.f32, Option.getD_some]
  repeat (first
    | (refine Goes.step rfl (fun w₁ h₁ => ?_); walk_rw; refine ⟨aO c w₁, ?_⟩)
    | (refine Goes.step rfl (fun w₁ h₁ => ?_)
       refine goes_oper_k rfl rfl (by decide) (fun K hK => ?_)
       have hF := k.ldF w₁ h₁
       have hD := k.ldD w₁ h₁
       have hL := k.ldL w₁ h₁
       go_simp
       refine hK _ _ ⟨⟨rfl, rfl, rfl, rfl, fun e he => ?_⟩, ?_⟩
       · have hm := mem_listed he
         simp [go_sem, *] at hm
         try (subst hm; first | exact ⟨_, rfl, k.fx.1⟩ | exact ⟨_, rfl, k.fx.2.1⟩ | exact ⟨_, rfl, k.fx.2.2.1⟩ | exact ⟨_, rfl, k.fx.2.2.2⟩)
       clear hK K hF hD hL h₁))
  refine Goes.step rfl (fun w₁ h₁ => ?_)
  rw [stepG_cond (t := true) rfl]
  simp only [goes_go, ↓reduceIte]
  refine ⟨aO c w₁, ?_⟩
  repeat (first
    | (refine Goes.step rfl (fun w₁ h₁ => ?_); walk_rw; refine ⟨aO c w₁, ?_⟩)
    | (refine Goes.step rfl (fun w₁ h₁ => ?_)
       refine goes_oper_k rfl rfl (by decide) (fun K hK => ?_)
       have hF := k.ldF w₁ h₁
       have hD := k.ldD w₁ h₁
       have hL := k.ldL w₁ h₁
       go_simp
       refine hK _ _ ⟨⟨rfl, rfl, rfl, rfl, fun e he => ?_⟩, ?_⟩
       · have hm := mem_listed he
         simp [go_sem, *] at hm
         try (subst hm; first | exact ⟨_, rfl, k.fx.1⟩ | exact ⟨_, rfl, k.fx.2.1⟩ | exact ⟨_, rfl, k.fx.2.2.1⟩ | exact ⟨_, rfl, k.fx.2.2.2⟩)
       clear hK K hF hD hL h₁))
  refine Goes.step rfl (fun w₁ h₁ => ?_)
  rw [stepG_value (v := vm) (w' := w₁) rfl rfl (by decide) (cM rfl rfl (k.ldM w₁ h₁))]
  simp only [goes_go]
  refine ⟨⟨rfl, rfl, rfl, rfl, fun e he => k.evM w₁ h₁ e (by have hm := mem_listed he; rw [bX rfl rfl] at hm; exact hm)⟩, ?_⟩
  repeat (first
    | (refine Goes.step rfl (fun w₁ h₁ => ?_); walk_rw; refine ⟨aO c w₁, ?_⟩)
    | (refine Goes.step rfl (fun w₁ h₁ => ?_)
       refine goes_oper_k rfl rfl (by decide) (fun K hK => ?_)
       have hF := k.ldF w₁ h₁
       have hD := k.ldD w₁ h₁
       have hL := k.ldL w₁ h₁
       go_simp
       refine hK _ _ ⟨⟨rfl, rfl, rfl, rfl, fun e he => ?_⟩, ?_⟩
       · have hm := mem_listed he
         simp [go_sem, *] at hm
         try (subst hm; first | exact ⟨_, rfl, k.fx.1⟩ | exact ⟨_, rfl, k.fx.2.1⟩ | exact ⟨_, rfl, k.fx.2.2.1⟩ | exact ⟨_, rfl, k.fx.2.2.2⟩)
       clear hK K hF hD hL h₁))
  refine Goes.step rfl (fun w₁ h₁ => ?_)
  rw [stepG_enter (f := 33) (args := #[vm, .int .i64 (j : Nat), vl]) (w' := w₁) rfl rfl (by decide) (by simp [execOp, go_sem])]
  rw [listed_nil (by simp [go_sem, callFunc, Tryz.func33, Tryz.f33])]
  simp only [goes_go]
  refine ⟨aO c w₁, ?_⟩
  exact Goes.stop fun w₁ _ => ⟨rfl, .int .i64 (j : Nat), .tuple #[.int .i64 (j : Nat), .bool true], .bool true, .int .i64 (j : Nat), v14, v15, v16, rfl⟩
set_option maxRecDepth 100000 in
set_option maxHeartbeats 4000000 in
theorem Gl {j:Nat} (hj:j<26) (h:Jx c bF bM bL bD vm vl j g):∃cal rest,g=G (Frame.enter Tryz.prog 33 #[vm,.int .i64 (j:Nat),vl] .normal) (cal :: rest)∧∀v w,∃m,Walk Tryz.prog c false (Jy c bF bM bL bD j v) m (G (cal.finish v) rest) w:=by
 obtain ⟨v5,v7,v8,v9,v14,v15,v16,rfl⟩:=h
 refine ⟨_,_,rfl,fun v w=>⟨0+30,?_⟩⟩
 show Goes _ _ _ _ _ _ _ _
 have hfin:(B7 c bF bM bL bD vm vl j v5 v7 v8 v9 v14 v15 v16).finish v=wB.at ⟨#[.pointer (some ⟨bF,0,none⟩),.pointer (some ⟨bM,0,none⟩),.pointer (some ⟨bL,0,none⟩),.pointer (some ⟨c.Fd,0,none⟩),.pointer (some ⟨bD,0,none⟩),v5,.chan (some c.C1),v7,v8,v9,.int .i64 (j:Nat),vm,.int .i64 (j:Nat),vl,v,v15,v16],[]⟩ (.inRegion pI [5,6] :: [.inBlock 1,.inLoop gP,.inBlock 0,.code iP]):=by
  unfold B7
  rw[Frame.finish_at]
  rfl
 rw[hfin]
 simp only[pI,pq,iP,gP,iR,Tryz.f32,Option.getD_some]
 have hj':(j:Int)<26:=by omega
 refine Goes.step rfl (fun w₁ h₁=>?_)
 rw[stepG_value (v:=.pointer (some ⟨c.Fd,j,none⟩)) (w':=w₁) rfl rfl (by decide) (by simp[execOp,go_sem,hj'])]
 rw[listed_nil (by simp[go_sem,Instr.indexAt];omega)]
 simp only[goes_go]
 refine ⟨aO c w₁,?_⟩
 exact Goes.stop fun w₁ _=>⟨rfl,_,_,_,_,_,_,_,_,_,rfl⟩
set_option maxRecDepth 100000 in
set_option maxHeartbeats 4000000 in
theorem Jn {j:Nat} (hj:j<c.K) {a:Option Addr} {l cp:Nat} (h:Jy c bF bM bL bD j (.slice a l cp) g):isG g∧∃g',(∀w,c.Ok w→stepG Tryz.prog false g w=.go g' (w.setCell ⟨c.Fd,j,none⟩ (.slice a l cp)) #[⟨.cell ⟨c.Fd,j,none⟩,true,false⟩])∧g'.status=.running∧∀w,∃m,Walk Tryz.prog c false (AI c bF bM bL bD) m g' w:=by
 obtain ⟨v5,v7,v8,v9,v10,v11,v12,v13,v16,rfl⟩:=h
 refine ⟨⟨_,_,rfl⟩,G (wB.at ⟨#[.pointer (some ⟨bF,0,none⟩),.pointer (some ⟨bM,0,none⟩),.pointer (some ⟨bL,0,none⟩),.pointer (some ⟨c.Fd,0,none⟩),.pointer (some ⟨bD,0,none⟩),v5,.chan (some c.C1),v7,v8,v9,v10,v11,v12,v13,.slice a l cp,.pointer (some ⟨c.Fd,j,none⟩),v16],[]⟩ (.inRegion pI [] :: [.inBlock 1,.inLoop gP,.inBlock 0,.code iP])) [oF],fun w ok=>?_,rfl,fun w=>⟨0+30,?_⟩⟩
 ·obtain ⟨cs,hcs,hsz⟩:=ok.fd
  have hcell:w.cell? ⟨c.Fd,j,none⟩=some (cs.getD j undef):=by
   unfold World.cell?
   rw[hcs]
   simp[Array.getD_eq_getD_getElem?,show j<cs.size by omega]
  have hfz:w.frozen? ⟨c.Fd,j,none⟩=false:=by
   unfold World.frozen?
   rw[hcs]
   simp
  simp only[pI,pq,iP,gP,iR,Tryz.f32,Option.getD_some]
  rw[stepG_none (w':=w.setCell ⟨c.Fd,j,none⟩ (.slice a l cp)) rfl rfl (by decide) (by simp[execOp,go_sem,hcell,hfz])]
  unfold listed
  rw[show Sem.events Tryz.prog _ w #[]=#[⟨.cell ⟨c.Fd,j,none⟩,true,false⟩] by simp[execOp,go_sem,vP,storedEv,hcell,hfz]]
  rw[seen_eq Kv (by simp)]
  rfl
 ·show Goes _ _ _ _ _ _ _ _
  simp only[pI,pq,iP,gP,iR,Tryz.f32,Option.getD_some]
  repeat (refine Goes.step rfl (fun w₁ h₁=>?_);walk_rw;refine ⟨aO c w₁,?_⟩)
  exact Goes.stop fun w₁ _=>⟨rfl,_,_,_,_,_,_,_,_,_,_,_,rfl⟩
theorem IE (h:JG c bF bM bL bD g):isG g∧(∀w,stepG Tryz.prog false g w=.comm g #[scase c.C2 (.bool true) (.tuple #[])] true .send w #[])∧∃q,QuitsIn Tryz.prog q (Conc.served g undef):=by
 obtain ⟨v5,v6,v7,v8,v9,v10,v11,v12,v13,v14,v15,rfl⟩:=h
 refine ⟨⟨_,_,rfl⟩,fun w=>?_,4,?_⟩
 ·simp only[zI,iP,iR,Tryz.f32,Option.getD_some]
  rw[stepG_comm (cases:=#[scase c.C2 (.bool true) (.tuple #[])]) (blocking:=true) (shape:=.send) (w':=w) rfl rfl (by decide) (by simp[execOp,scase,go_sem])]
  rw[listed_nil (by simp[go_sem])]
 ·rw[gO (o:=zI.getD 1 default) rfl]
  show QuitsIn Tryz.prog 4 (G (wB.at ⟨#[.pointer (some ⟨bF,0,none⟩),.pointer (some ⟨bM,0,none⟩),.pointer (some ⟨bL,0,none⟩),.pointer (some ⟨c.Fd,0,none⟩),.pointer (some ⟨bD,0,none⟩),v5,v6,v7,v8,v9,v10,v11,v12,v13,v14,v15,.chan (some c.C2)],[]⟩ [.inRegion zI []]) [oF])
  refine .inr ⟨rfl,_,fun w=>stepG_region_end,?_⟩
  refine .inr ⟨rfl,_,fun w=>stepG_end,?_⟩
  refine .inr ⟨rfl,G oF [],fun w=>?_,?_⟩
  ·simp[G,stepG,unwind,doReturn,results,Frame.at,wB,oF,Tryz.func32,Tryz.f32,seen,GStep.after,goexitEntry]
  refine .inr ⟨rfl,{ G oF [] with status:=.finished },fun w=>?_,rfl⟩
  simp[G,stepG,unwind,oF,goexitEntry,Frame.catches]
  rfl
def wGo (c:Cst) (bF bM bL bD:Nat):Deferred:={ target:=.fn (.func 32) #[.pointer (some ⟨bF,0,none⟩),.pointer (some ⟨bM,0,none⟩),.pointer (some ⟨bL,0,none⟩),.pointer (some ⟨c.Fd,0,none⟩),.pointer (some ⟨bD,0,none⟩)],args:=#[] }
theorem xX (w:World):stepG Tryz.prog false (born Tryz.prog (wGo c bF bM bL bD)) w =
  .go (G (wB.at ⟨#[.pointer (some ⟨bF,0,none⟩),.pointer (some ⟨bM,0,none⟩),.pointer (some ⟨bL,0,none⟩),.pointer (some ⟨c.Fd,0,none⟩),.pointer (some ⟨bD,0,none⟩),undef,undef,undef,undef,undef,undef,undef,undef,undef,undef,undef,undef],[]⟩ [.code iR]) [oF]) w #[]:=by
 simp[born,wGo,stepG,unwind,callDeferred,invoke,callFunc,Tryz.func32,Tryz.f32,seen,GStep.after,G,Frame.enter,Frame.at,wB,oF,iR]
set_option maxRecDepth 100000 in
set_option maxHeartbeats 4000000 in
theorem KB (k : WkP c bF bM bL bD vm vl) : ∃ m, Walk Tryz.prog c false (AI c bF bM bL bD) m (born Tryz.prog (wGo c bF bM bL bD)) w := by
  refine ⟨(0 + 30) + 1, Goes.step rfl fun w₁ _ => ?_⟩
  rw [xX]
  refine ⟨aO c w₁, ?_⟩
  simp only [iR, Tryz.f32, Option.getD_some]
  repeat (first
    | (refine Goes.step rfl (fun w₁ h₁ => ?_); walk_rw; refine ⟨aO c w₁, ?_⟩)
    | (refine Goes.step rfl (fun w₁ h₁ => ?_)
       refine goes_oper_k rfl rfl (by decide) (fun K hK => ?_)
       have hF := k.ldF w₁ h₁
       have hD := k.ldD w₁ h₁
       have hL := k.ldL w₁ h₁
       go_simp
       refine hK _ _ ⟨⟨rfl, rfl, rfl, rfl, fun e he => ?_⟩, ?_⟩
       · have hm := mem_listed he
         simp [go_sem, *] at hm
         try (subst hm; first | exact ⟨_, rfl, k.fx.1⟩ | exact ⟨_, rfl, k.fx.2.1⟩ | exact ⟨_, rfl, k.fx.2.2.1⟩ | exact ⟨_, rfl, k.fx.2.2.2⟩)
       clear hK K hF hD hL h₁))
  exact Goes.stop fun w₁ _ => ⟨rfl, _, _, _, _, _, _, _, _, _, _, _, rfl⟩
end
end Hb
end Go.Proofs.YtgacaecjinlhiaaGreatDoor
