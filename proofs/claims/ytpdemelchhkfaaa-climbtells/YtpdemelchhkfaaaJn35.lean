import Derived.Deep.Matrix
import Derived.Test.YtpdemelchhkfaaaJn34
namespace Go.Proofs.Ytpdemelchhkfaaa
namespace Cs
open Go.Conc Go.RowKit PK
open Go.ConcR (KK WgAt wgBlock)
open Go.ConcM (OsLater)
theorem Bm:lX 4 kB=true:=by kernel_rfl
theorem Dm:codeOk Try.prog (cutAt 4 kB)=true:=by kernel_rfl
theorem AP:[Item.inRegion vp (List.range' 6 6),.code (cn 5 kB)].all (aK Try.prog)=true:=by kernel_rfl
def Kept (W W':World):Prop:=(∀b,b<W.heap.size→W'.heap[b]? = W.heap[b]?)∧OsLater W.os W'.os∧W'.output=W.output
theorem qR (s:ByteArray) (v:Value) (seed:Nat) (tries aj:Int) (g:Nat→Int):Frame.enter Try.prog 5 #[.string s,v,.agg (ints 26 g),.int .u64 (seed:Nat),.int .i64 tries,.int .i64 aj] .normal=(base 5).at ⟨#[Value.string s,v,Value.agg (ints 26 g),Value.int IntKind.u64 (seed:Nat),Value.int IntKind.i64 tries,Value.int IntKind.i64 aj,undef,undef,undef,undef,undef,undef,undef,undef,undef,undef,undef,undef,undef,undef,undef,undef,undef,undef,undef,undef,undef,undef,undef,undef,undef,undef,undef,undef,undef,undef,undef,undef,undef,undef,undef,undef,undef,undef,undef,undef,undef,undef,undef,undef,undef,undef,undef,undef,undef,undef,undef,undef,undef,undef,undef,undef,undef,undef,undef,undef,undef],[]⟩ [.code kB]:=by
 simp[Frame.enter,Try.func5,Try.f5,kB,base,Frame.at,Array.replicate,List.replicate]
set_option maxRecDepth 100000 in
set_option maxHeartbeats 4000000 in
theorem vQ (s:ByteArray) (v:Value) (n seed:Nat) (tries aj:Int) (f g:Nat→Int) (W:World) (hv:aX W v n f) (rv:Rt W v) :
  ∃N gs' w' sl' t' q',∃(x:Nat→Value) (u:Value),runNT Try.prog N (crowd #[G (mkF 5 #[Value.string s,v,Value.agg (ints 26 g),Value.int IntKind.u64 (seed:Nat),Value.int IntKind.i64 tries,Value.int IntKind.i64 aj,undef,undef,undef,undef,undef,undef,undef,undef,undef,undef,undef,undef,undef,undef,undef,undef,undef,undef,undef,undef,undef,undef,undef,undef,undef,undef,undef,undef,undef,undef,undef,undef,undef,undef,undef,undef,undef,undef,undef,undef,undef,undef,undef,undef,undef,undef,undef,undef,undef,undef,undef,undef,undef,undef,undef,undef,undef,undef,undef,undef,undef] [.code kB] .run) []] W none) #[]=(.next (crowd gs' w' sl'),t')∧gs'.size=1∧gs'[0]? = some (G (mkF 5 #[Value.string s,u,x 2,Value.int IntKind.u64 (seed:Nat),Value.int IntKind.i64 tries,Value.int IntKind.i64 aj,x 6,x 7,x 8,x 9,x 10,x 11,x 12,x 13,x 14,x 15,x 16,x 17,x 18,x 19,x 20,x 21,x 22,x 23,x 24,x 25,x 26,x 27,x 28,x 29,x 30,x 31,x 32,x 33,x 34,x 35,x 36,x 37,x 38,x 39,x 40,x 41,x 42,x 43,x 44,x 45,x 46,x 47,x 48,x 49,x 50,x 51,x 52,x 53,x 54,x 55,x 56,x 57,x 58,x 59,x 60,x 61,x 62,x 63,x 64,x 65,x 66] [.code (cn 4 kB)] .run) [])∧aX W u n f∧Rt W u∧(∀b,b<W.heap.size→w'.heap[b]? = W.heap[b]?)∧w'.os=W.os∧w'.output=W.output∧W.heap.size≤w'.heap.size∧Qs Try.prog (fun _=>False) gs' t' q' 0 w'.heap.size:=by
 have hv0:=hv
 obtain ⟨av,cv,rfl,nv,kv⟩:=hv
 have hn0:∀b q s,(fun _=>none:Env) b≠some (q,s,true):=fun b q s e=>by cases e
 obtain ⟨E1,wl1,av',c1,s1,b1,e1,r1,k1⟩:=jR (P:=Try.prog) (w:=W) (Cp.nil W).cq hn0 fu (f:=fun i=>.int .i64 (f i)) (fun i E=>.int _ _) kv rv
 have low:∀b q s o,E1 b=some (q,s,o)→o=false∧q<W.heap.size:=fun b q s o e=>by
  refine ⟨?_,?_⟩
  ·cases o with
   | false=>rfl
   | true=>exact absurd e (s1 b q s)
  ·rcases b1 b q s o e with e | e
   ·cases e
   ·exact e
 have hin:=ew.start (c:=[]) (Post:=fun x w'=>KfP s av' n cv seed tries aj x) (P:=Try.prog) (E:=E1) (wl:=wl1) (w:=W) ⟨_,Try.func5⟩ (x:=#[Value.string s,Value.slice av' n cv,Value.agg (ints 26 g),Value.int IntKind.u64 (seed:Nat),Value.int IntKind.i64 tries,Value.int IntKind.i64 aj,undef,undef,undef,undef,undef,undef,undef,undef,undef,undef,undef,undef,undef,undef,undef,undef,undef,undef,undef,undef,undef,undef,undef,undef,undef,undef,undef,undef,undef,undef,undef,undef,undef,undef,undef,undef,undef,undef,undef,undef,undef,undef,undef,undef,undef,undef,undef,undef,undef,undef,undef,undef,undef,undef,undef,undef,undef,undef,undef,undef,undef]) (y:=#[Value.string s,Value.slice av n cv,Value.agg (ints 26 g),Value.int IntKind.u64 (seed:Nat),Value.int IntKind.i64 tries,Value.int IntKind.i64 aj,undef,undef,undef,undef,undef,undef,undef,undef,undef,undef,undef,undef,undef,undef,undef,undef,undef,undef,undef,undef,undef,undef,undef,undef,undef,undef,undef,undef,undef,undef,undef,undef,undef,undef,undef,undef,undef,undef,undef,undef,undef,undef,undef,undef,undef,undef,undef,undef,undef,undef,undef,undef,undef,undef,undef,undef,undef,undef,undef,undef,undef]) (ag (.string _) (ag r1 (ag (.kM pM) (ag (.int _ _) (ag (.int _ _) (ag (.int _ _) (ag (.mkTuple (LR.nil _)) (ag (.mkTuple (LR.nil _)) (ag (.mkTuple (LR.nil _)) (ag (.mkTuple (LR.nil _)) (ag (.mkTuple (LR.nil _)) (ag (.mkTuple (LR.nil _)) (ag (.mkTuple (LR.nil _)) (ag (.mkTuple (LR.nil _)) (ag (.mkTuple (LR.nil _)) (ag (.mkTuple (LR.nil _)) (ag (.mkTuple (LR.nil _)) (ag (.mkTuple (LR.nil _)) (ag (.mkTuple (LR.nil _)) (ag (.mkTuple (LR.nil _)) (ag (.mkTuple (LR.nil _)) (ag (.mkTuple (LR.nil _)) (ag (.mkTuple (LR.nil _)) (ag (.mkTuple (LR.nil _)) (ag (.mkTuple (LR.nil _)) (ag (.mkTuple (LR.nil _)) (ag (.mkTuple (LR.nil _)) (ag (.mkTuple (LR.nil _)) (ag (.mkTuple (LR.nil _)) (ag (.mkTuple (LR.nil _)) (ag (.mkTuple (LR.nil _)) (ag (.mkTuple (LR.nil _)) (ag (.mkTuple (LR.nil _)) (ag (.mkTuple (LR.nil _)) (ag (.mkTuple (LR.nil _)) (ag (.mkTuple (LR.nil _)) (ag (.mkTuple (LR.nil _)) (ag (.mkTuple (LR.nil _)) (ag (.mkTuple (LR.nil _)) (ag (.mkTuple (LR.nil _)) (ag (.mkTuple (LR.nil _)) (ag (.mkTuple (LR.nil _)) (ag (.mkTuple (LR.nil _)) (ag (.mkTuple (LR.nil _)) (ag (.mkTuple (LR.nil _)) (ag (.mkTuple (LR.nil _)) (ag (.mkTuple (LR.nil _)) (ag (.mkTuple (LR.nil _)) (ag (.mkTuple (LR.nil _)) (ag (.mkTuple (LR.nil _)) (ag (.mkTuple (LR.nil _)) (ag (.mkTuple (LR.nil _)) (ag (.mkTuple (LR.nil _)) (ag (.mkTuple (LR.nil _)) (ag (.mkTuple (LR.nil _)) (ag (.mkTuple (LR.nil _)) (ag (.mkTuple (LR.nil _)) (ag (.mkTuple (LR.nil _)) (ag (.mkTuple (LR.nil _)) (ag (.mkTuple (LR.nil _)) (ag (.mkTuple (LR.nil _)) (ag (.mkTuple (LR.nil _)) (ag (.mkTuple (LR.nil _)) (ag (.mkTuple (LR.nil _)) (ag (.mkTuple (LR.nil _)) (ag (.mkTuple (LR.nil _)) (ag (.mkTuple (LR.nil _)) kF))))))))))))))))))))))))))))))))))))))))))))))))))))))))))))))))))) c1.wr c1.big Dm (sA Bm) (fun τ=>kO (qY s _ n cv seed tries aj f g (wl1.tp τ) ⟨_,_,rfl,nv,k1⟩))
 obtain ⟨N,gs',w',sl',t',q',E',X,y,wl2',r,z,i,po,lr,wr,big,fc,Q⟩:=mS (Sn:=fun _=>False) (q:=fun _=>0) (d:=0) (gs:=#[G (mkF 5 #[Value.string s,Value.slice av n cv,Value.agg (ints 26 g),Value.int IntKind.u64 (seed:Nat),Value.int IntKind.i64 tries,Value.int IntKind.i64 aj,undef,undef,undef,undef,undef,undef,undef,undef,undef,undef,undef,undef,undef,undef,undef,undef,undef,undef,undef,undef,undef,undef,undef,undef,undef,undef,undef,undef,undef,undef,undef,undef,undef,undef,undef,undef,undef,undef,undef,undef,undef,undef,undef,undef,undef,undef,undef,undef,undef,undef,undef,undef,undef,undef,undef,undef,undef,undef,undef,undef,undef] [.code kB] .run) []]) (t:=#[]) (sl:=none) (Nat.le_refl _) eP (fun b x e hs=>hs) (fun b hb=>hb.elim) rfl hin (AW _ _ _ _)
 obtain ⟨vf,rfl⟩:=po
 have hr1:=r1.mono fc.le
 have hy:=(bU y 67 (by rw[←lr.size];rfl)).trans (rfl:_=#[(y.getD 0 undef),(y.getD 1 undef),(y.getD 2 undef),(y.getD 3 undef),(y.getD 4 undef),(y.getD 5 undef),(y.getD 6 undef),(y.getD 7 undef),(y.getD 8 undef),(y.getD 9 undef),(y.getD 10 undef),(y.getD 11 undef),(y.getD 12 undef),(y.getD 13 undef),(y.getD 14 undef),(y.getD 15 undef),(y.getD 16 undef),(y.getD 17 undef),(y.getD 18 undef),(y.getD 19 undef),(y.getD 20 undef),(y.getD 21 undef),(y.getD 22 undef),(y.getD 23 undef),(y.getD 24 undef),(y.getD 25 undef),(y.getD 26 undef),(y.getD 27 undef),(y.getD 28 undef),(y.getD 29 undef),(y.getD 30 undef),(y.getD 31 undef),(y.getD 32 undef),(y.getD 33 undef),(y.getD 34 undef),(y.getD 35 undef),(y.getD 36 undef),(y.getD 37 undef),(y.getD 38 undef),(y.getD 39 undef),(y.getD 40 undef),(y.getD 41 undef),(y.getD 42 undef),(y.getD 43 undef),(y.getD 44 undef),(y.getD 45 undef),(y.getD 46 undef),(y.getD 47 undef),(y.getD 48 undef),(y.getD 49 undef),(y.getD 50 undef),(y.getD 51 undef),(y.getD 52 undef),(y.getD 53 undef),(y.getD 54 undef),(y.getD 55 undef),(y.getD 56 undef),(y.getD 57 undef),(y.getD 58 undef),(y.getD 59 undef),(y.getD 60 undef),(y.getD 61 undef),(y.getD 62 undef),(y.getD 63 undef),(y.getD 64 undef),(y.getD 65 undef),(y.getD 66 undef)])
 have ge:∀i,i<67→y[i]? = some (y.getD i undef):=fun i hi=>by
  have:i<y.size:=by rw[←lr.size];exact hi
  simp[Array.getD_eq_getD_getElem?,this]
 generalize hg:(fun i=>y.getD i undef)=x
 have gg:∀i,y.getD i undef=x i:=fun i=>by rw[←hg]
 simp only[gg] at hy ge
 have v0:=lr.at_ 0 _ _ rfl (ge 0 (by omega))
 have v1:=lr.at_ 1 _ _ rfl (ge 1 (by omega))
 have v3:=lr.at_ 3 _ _ rfl (ge 3 (by omega))
 have v4:=lr.at_ 4 _ _ rfl (ge 4 (by omega))
 have v5:=lr.at_ 5 _ _ rfl (ge 5 (by omega))
 have h0:x 0=.string s:=by cases h:x 0 <;> rw[h] at v0 <;> cases v0 <;> rfl
 have h3:x 3=.int .u64 (seed:Nat):=by cases h:x 3 <;> rw[h] at v3 <;> cases v3 <;> rfl
 have h4:x 4=.int .i64 tries:=by cases h:x 4 <;> rw[h] at v4 <;> cases v4 <;> rfl
 have h5:x 5=.int .i64 aj:=by cases h:x 5 <;> rw[h] at v5 <;> cases v5 <;> rfl
 obtain ⟨m1,m2⟩:=yT hr1 v1 hv0 rv
 rw[h0,h3,h4,h5] at hy
 exact ⟨N,gs',w',sl',t',q',x,x 1,r,by rw[z];rfl,by rw[←hy];exact i,m1,m2,fun b hb=>fc.keep b hb fun b' s e=>(by have:=(low _ _ _ _ e).1;cases this),fc.os,fc.output,fc.size,Q⟩
set_option maxRecDepth 100000 in
set_option maxHeartbeats 4000000 in
theorem sZ (x:Nat→Value) (s:ByteArray) (u:Value) (seed:Nat) (tries aj:Int) (Fd:Nat) (H:Array Obj) (o:Os) (out:Array (Nat × ByteArray)) (w:World) (hI:HI H o out w) :
  ∃mu,Goes Try.prog true AtRel (DG (fun _=>False) Fd) (fun g' w'=>g'=G (mkF 13 #[.string s,u,.int .u64 (seed:Nat),.int .i64 tries,.int .i64 aj,undef,undef,undef,undef,undef,undef,undef,undef,undef,undef,undef,undef,undef,undef,undef,undef,undef,undef,undef,undef,undef,undef,undef,undef,undef,undef,undef,undef,undef,undef,undef,undef,undef,undef,undef,undef,undef,undef] [.code dJ] .run) [mkF 5 #[Value.string s,u,x 2,Value.int IntKind.u64 (seed:Nat),Value.int IntKind.i64 tries,Value.int IntKind.i64 aj,x 6,x 7,x 8,x 9,x 10,x 11,x 12,x 13,x 14,x 15,x 16,x 17,x 18,x 19,x 20,x 21,x 22,x 23,x 24,x 25,x 26,x 27,x 28,x 29,x 30,x 31,x 32,x 33,x 34,x 35,x 36,x 37,x 38,x 39,x 40,x 41,Value.string s,u,Value.int IntKind.u64 (seed:Nat),Value.int IntKind.i64 tries,Value.int IntKind.i64 aj,x 47,x 48,x 49,x 50,x 51,x 52,x 53,x 54,x 55,x 56,x 57,x 58,x 59,x 60,x 61,x 62,x 63,x 64,x 65,x 66] [.inRegion vp (List.range' 5 7),.code (cn 5 kB)] .run]∧HI H o out w') mu (G (mkF 5 #[Value.string s,u,x 2,Value.int IntKind.u64 (seed:Nat),Value.int IntKind.i64 tries,Value.int IntKind.i64 aj,x 6,x 7,x 8,x 9,x 10,x 11,x 12,x 13,x 14,x 15,x 16,x 17,x 18,x 19,x 20,x 21,x 22,x 23,x 24,x 25,x 26,x 27,x 28,x 29,x 30,x 31,x 32,x 33,x 34,x 35,x 36,x 37,x 38,x 39,x 40,x 41,x 42,x 43,x 44,x 45,x 46,x 47,x 48,x 49,x 50,x 51,x 52,x 53,x 54,x 55,x 56,x 57,x 58,x 59,x 60,x 61,x 62,x 63,x 64,x 65,x 66] [.code (cn 4 kB)] .run) []) w:=by
 refine ⟨60,?_⟩
 simp only[cn,kB,Try.f5,Option.getD_some,vp]
 show Goes _ _ _ _ _ _ (G ((base 5).at ⟨#[Value.string s,u,x 2,Value.int IntKind.u64 (seed:Nat),Value.int IntKind.i64 tries,Value.int IntKind.i64 aj,x 6,x 7,x 8,x 9,x 10,x 11,x 12,x 13,x 14,x 15,x 16,x 17,x 18,x 19,x 20,x 21,x 22,x 23,x 24,x 25,x 26,x 27,x 28,x 29,x 30,x 31,x 32,x 33,x 34,x 35,x 36,x 37,x 38,x 39,x 40,x 41,x 42,x 43,x 44,x 45,x 46,x 47,x 48,x 49,x 50,x 51,x 52,x 53,x 54,x 55,x 56,x 57,x 58,x 59,x 60,x 61,x 62,x 63,x 64,x 65,x 66],[]⟩ _) []) w
 repeat (refine aR hI rfl (fun w₁ h₁=>?_);walk_rw;refine ⟨cx _,?_⟩;clear hI;have hI:=h₁;clear h₁)
 refine aR hI rfl (fun w₁ h₁=>?_)
 refine goes_oper_k rfl rfl (by decide) (fun K hK=>?_)
 go_simp
 refine hK _ _ ⟨cw (by simp) (fun e he=>?_),?_⟩
 ·have hm:=mem_listed he
  simp[go_sem, *] at hm
 clear hK K hI
 have hI:=h₁
 clear h₁
 refine aR hI rfl (fun w₁ h₁=>?_)
 refine goes_oper_k rfl rfl (by decide) (fun K hK=>?_)
 go_simp
 refine hK _ _ ⟨cw (by simp) (fun e he=>?_),?_⟩
 ·have hm:=mem_listed he
  simp[go_sem, *] at hm
 clear hK K hI
 have hI:=h₁
 clear h₁
 refine aR hI rfl (fun w₁ h₁=>?_)
 refine goes_oper_k rfl rfl (by decide) (fun K hK=>?_)
 go_simp
 refine hK _ _ ⟨cw (by simp) (fun e he=>?_),?_⟩
 ·have hm:=mem_listed he
  simp[go_sem, *] at hm
 clear hK K hI
 have hI:=h₁
 clear h₁
 refine aR hI rfl (fun w₁ h₁=>?_)
 refine goes_oper_k rfl rfl (by decide) (fun K hK=>?_)
 go_simp
 refine hK _ _ ⟨cw (by simp) (fun e he=>?_),?_⟩
 ·have hm:=mem_listed he
  simp[go_sem, *] at hm
 clear hK K hI
 have hI:=h₁
 clear h₁
 refine aR hI rfl (fun w₁ h₁=>?_)
 refine goes_oper_k rfl rfl (by decide) (fun K hK=>?_)
 go_simp
 refine hK _ _ ⟨cw (by simp) (fun e he=>?_),?_⟩
 ·have hm:=mem_listed he
  simp[go_sem, *] at hm
 clear hK K hI
 have hI:=h₁
 clear h₁
 refine aR hI rfl (fun w₁ h₁=>?_)
 refine goes_call rfl rfl (by decide) rfl Try.func13 (by kernel_rfl) rfl ?_
 refine ⟨cx _,?_⟩
 exact Goes.stop fun w₂ h₂=>by
  obtain ⟨d,rfl⟩:=h₂
  refine ⟨?_,h₁⟩
  have e1:∀(a:Act),a.eval (.tmp 42)=.string s→a.eval (.tmp 43)=u→a.eval (.tmp 44)=.int .u64 (seed:Nat)→a.eval (.tmp 45)=.int .i64 tries→a.eval (.tmp 46)=.int .i64 aj→(#[Operand.tmp 42,.tmp 43,.tmp 44,.tmp 45,.tmp 46].map a.eval++Array.replicate (Try.f13.ntmps-(#[Operand.tmp 42,.tmp 43,.tmp 44,.tmp 45,.tmp 46].map a.eval).size) undef)=#[.string s,u,.int .u64 (seed:Nat),.int .i64 tries,.int .i64 aj,undef,undef,undef,undef,undef,undef,undef,undef,undef,undef,undef,undef,undef,undef,undef,undef,undef,undef,undef,undef,undef,undef,undef,undef,undef,undef,undef,undef,undef,undef,undef,undef,undef,undef,undef,undef,undef,undef]:=fun a k1 k2 k3 k4 k5=>by
   simp[k1,k2,k3,k4,k5,Array.replicate,List.replicate]
  rw[e1 _ rfl rfl rfl rfl rfl]
  rfl
end Cs
namespace Cs
open Go.Conc Go.RowKit PK
open Go.ConcR (KK WgAt wgBlock)
open Go.ConcM (OsLater)
set_option maxRecDepth 100000 in
set_option maxHeartbeats 8000000 in
theorem uG (s:ByteArray) (v:Value) (n seed:Nat) (tries aj:Int) (f g:Nat→Int) (W:World) (hv:aX W v n f) (rv:Rt W v) :
  ∃N last o w' t',runNT Try.prog (N+1) (solo (G (Frame.enter Try.prog 5 #[.string s,v,.agg (ints 26 g),.int .u64 (seed:Nat),.int .i64 tries,.int .i64 aj] .normal) []) W) #[]=(.ended o w',t')∧runN Try.prog N (solo (G (Frame.enter Try.prog 5 #[.string s,v,.agg (ints 26 g),.int .u64 (seed:Nat),.int .i64 tries,.int .i64 aj] .normal) []) W)=.next last∧step Try.prog last=.ended o w'∧Conc.Good Try.prog (fun u W'=>u=.bool true∧Kept W W') last o w' t':=by
 have hG:Try.prog.globals.size≤Fns.G:=Nat.le_refl _
 rw[qR]
 obtain ⟨N1,gs1,w1,sl1,t1,q1,x,u,r1,z1,i1,m1,m2,kp1,os1,ou1,sz1,Q1⟩:=vQ s v n seed tries aj f g W hv rv
 obtain ⟨mu,G2⟩:=sZ x s u seed tries aj w1.heap.size w1.heap w1.os w1.output w1 ⟨rfl,rfl,rfl⟩
 obtain ⟨N2,gs2,w2,sl2,t2,q2,g2,r2,z2,i2,⟨rfl,I2⟩,Q2⟩:=jK (sl:=sl1) (fun w w' es h=>h.1) (fun g w h=>by rw[h.1];rfl) i1 G2 Q1
 have ag2:∀b,b<W.heap.size→w2.heap[b]? = W.heap[b]?:=fun b hb=>by rw[I2.1];exact kp1 b hb
 have sz2:W.heap.size≤w2.heap.size:=by rw[I2.1];exact sz1
 obtain ⟨N3,gs3,w3,sl3,t3,q3,Sn',r3,i3,cr,Q3⟩:=rX s u n seed tries aj f w2 w2 (ny m1 ag2) (tK m2 ag2) (fun _ _=>rfl) (Sn0:=fun _=>False) (fun _ e=>e.elim) _ [] (by omega) i2 Q2 sl2
 obtain ⟨uv,cu,rfl,nv,kv⟩:=m1
 have hn0:∀b q s,(fun _=>none:Env) b≠some (q,s,true):=fun b q s e=>by cases e
 obtain ⟨E1,wl1,av',c1,s1,b1,e1,r1',k1⟩:=jR (P:=Try.prog) (w:=W) (Cp.nil W).cq hn0 fu (f:=fun i=>.int .i64 (f i)) (fun i E=>.int _ _) kv m2
 have low:∀b q s o,E1 b=some (q,s,o)→o=false∧q<W.heap.size:=fun b q s o e=>by
  refine ⟨?_,?_⟩
  ·cases o with
   | false=>rfl
   | true=>exact absurd e (s1 b q s)
  ·rcases b1 b q s o e with e | e
   ·cases e
   ·exact e
 have keep:∀b,b<W.heap.size→w3.heap[b]? = W.heap[b]?:=fun b hb=>by rw[cr.keep b (by omega) (fun e=>e),ag2 b hb]
 have hwr:WR Try.prog E1 wl1 w3:=lq c1.wr fun b y e=>by
  obtain ⟨q,s,o⟩:=y
  exact keep q (low b q s o e).2
 have vres:VR E1 (ceV s n f seed tries aj) (ceV s n f seed tries aj):=by
  obtain ⟨F,e,hV⟩:=qT s n f seed tries aj
  rw[hV]
  exact .mkTuple (ag (.kM pM) (ag (.int _ _) kF))
 obtain ⟨j,hj⟩:=Cd E1 (fun i=>(#[Value.string s,Value.slice uv n cu,x 2,Value.int IntKind.u64 (seed:Nat),Value.int IntKind.i64 tries,Value.int IntKind.i64 aj,x 6,x 7,x 8,x 9,x 10,x 11,x 12,x 13,x 14,x 15,x 16,x 17,x 18,x 19,x 20,x 21,x 22,x 23,x 24,x 25,x 26,x 27,x 28,x 29,x 30,x 31,x 32,x 33,x 34,x 35,x 36,x 37,x 38,x 39,x 40,x 41,Value.string s,Value.slice uv n cu,Value.int IntKind.u64 (seed:Nat),Value.int IntKind.i64 tries,Value.int IntKind.i64 aj,ceV s n f seed tries aj,x 48,x 49,x 50,x 51,x 52,x 53,x 54,x 55,x 56,x 57,x 58,x 59,x 60,x 61,x 62,x 63,x 64,x 65,x 66]:Array Value).getD i undef)
 have lL:LR E1 #[Value.string s,Value.slice av' n cu,j 2,Value.int IntKind.u64 (seed:Nat),Value.int IntKind.i64 tries,Value.int IntKind.i64 aj,j 6,j 7,j 8,j 9,j 10,j 11,j 12,j 13,j 14,j 15,j 16,j 17,j 18,j 19,j 20,j 21,j 22,j 23,j 24,j 25,j 26,j 27,j 28,j 29,j 30,j 31,j 32,j 33,j 34,j 35,j 36,j 37,j 38,j 39,j 40,j 41,j 42,j 43,j 44,j 45,j 46,ceV s n f seed tries aj,j 48,j 49,j 50,j 51,j 52,j 53,j 54,j 55,j 56,j 57,j 58,j 59,j 60,j 61,j 62,j 63,j 64,j 65,j 66] #[Value.string s,Value.slice uv n cu,x 2,Value.int IntKind.u64 (seed:Nat),Value.int IntKind.i64 tries,Value.int IntKind.i64 aj,x 6,x 7,x 8,x 9,x 10,x 11,x 12,x 13,x 14,x 15,x 16,x 17,x 18,x 19,x 20,x 21,x 22,x 23,x 24,x 25,x 26,x 27,x 28,x 29,x 30,x 31,x 32,x 33,x 34,x 35,x 36,x 37,x 38,x 39,x 40,x 41,Value.string s,Value.slice uv n cu,Value.int IntKind.u64 (seed:Nat),Value.int IntKind.i64 tries,Value.int IntKind.i64 aj,ceV s n f seed tries aj,x 48,x 49,x 50,x 51,x 52,x 53,x 54,x 55,x 56,x 57,x 58,x 59,x 60,x 61,x 62,x 63,x 64,x 65,x 66]:=(ag (.string _) (ag r1' (ag (hj 2) (ag (.int _ _) (ag (.int _ _) (ag (.int _ _) (ag (hj 6) (ag (hj 7) (ag (hj 8) (ag (hj 9) (ag (hj 10) (ag (hj 11) (ag (hj 12) (ag (hj 13) (ag (hj 14) (ag (hj 15) (ag (hj 16) (ag (hj 17) (ag (hj 18) (ag (hj 19) (ag (hj 20) (ag (hj 21) (ag (hj 22) (ag (hj 23) (ag (hj 24) (ag (hj 25) (ag (hj 26) (ag (hj 27) (ag (hj 28) (ag (hj 29) (ag (hj 30) (ag (hj 31) (ag (hj 32) (ag (hj 33) (ag (hj 34) (ag (hj 35) (ag (hj 36) (ag (hj 37) (ag (hj 38) (ag (hj 39) (ag (hj 40) (ag (hj 41) (ag (hj 42) (ag (hj 43) (ag (hj 44) (ag (hj 45) (ag (hj 46) (ag vres (ag (hj 48) (ag (hj 49) (ag (hj 50) (ag (hj 51) (ag (hj 52) (ag (hj 53) (ag (hj 54) (ag (hj 55) (ag (hj 56) (ag (hj 57) (ag (hj 58) (ag (hj 59) (ag (hj 60) (ag (hj 61) (ag (hj 62) (ag (hj 63) (ag (hj 64) (ag (hj 65) (ag (hj 66) kF)))))))))))))))))))))))))))))))))))))))))))))))))))))))))))))))))))
 have hin:bC Try.prog (fun u _=>u=.bool true) [] E1 _ wl1 (G (mkF 5 #[Value.string s,Value.slice uv n cu,x 2,Value.int IntKind.u64 (seed:Nat),Value.int IntKind.i64 tries,Value.int IntKind.i64 aj,x 6,x 7,x 8,x 9,x 10,x 11,x 12,x 13,x 14,x 15,x 16,x 17,x 18,x 19,x 20,x 21,x 22,x 23,x 24,x 25,x 26,x 27,x 28,x 29,x 30,x 31,x 32,x 33,x 34,x 35,x 36,x 37,x 38,x 39,x 40,x 41,Value.string s,Value.slice uv n cu,Value.int IntKind.u64 (seed:Nat),Value.int IntKind.i64 tries,Value.int IntKind.i64 aj,ceV s n f seed tries aj,x 48,x 49,x 50,x 51,x 52,x 53,x 54,x 55,x 56,x 57,x 58,x 59,x 60,x 61,x 62,x 63,x 64,x 65,x 66] [.inRegion vp (List.range' 6 6),.code (cn 5 kB)] .run) []) w3:=bC.mid ⟨_,Try.func5⟩ lL hwr c1.big AP (fun τ=>oY Try.func5 (rO j s av' n cu seed tries aj f (wl1.tp τ) ⟨_,_,rfl,nv,k1⟩))
 have snw:∀b,Sn' b→W.heap.size≤b∧b<w3.heap.size:=fun b hb=>by
  rcases cr.sn b hb with e | e
  ·exact e.elim
  ·omega
 obtain ⟨N4,gs4,w4,sl4,t4,q4,E4,gl4,wl4,g4,r4,z4,i4,in4,st4,la4,fc4,Q4⟩:=oN (sl:=sl3) hG eP (fun b y e hs'=>by
  obtain ⟨q',s',o'⟩:=y
  have:=(low b q' s' o' e).2
  have:=(snw _ hs').1
  omega) (fun b hb=>(snw b hb).2) i3 hin Q3
 obtain ⟨u2,u',wlu,hu,vu,run4,end4⟩:=in4.atEnd st4 (fn0:=5) (f:=Try.f5) (t:=12) la4 Try.func5 rfl (by kernel_rfl)
 obtain rfl:u'=.bool true:=by rw[hu] at vu;cases vu;rfl
 have hkept:Kept W w4:=⟨fun b hb=>by
  have:=cr.size
  rw[fc4.keep b (by omega) (fun b' s e=>by have:=(low _ _ _ _ e).1;cases this),keep b hb],by
  rw[fc4.os,←os1,←I2.2.1]
  exact cr.os,fc4.output.trans (cr.out.trans (I2.2.2.trans ou1))⟩
 obtain ⟨B0,hP⟩:=Q4.AA
 obtain ⟨N5,last,o,w',t',x1,x2,x3,x4⟩:=beside_ends (P:=Try.prog) (Shun:=snL Sn') (B:=B0) (D:=fun _ _ _=>False) (Post:=fun u W'=>u=.bool true∧Kept W W') (sl:=sl4) (n:=0) (fun _ _ _ h=>h.elim) i4 Q4.lv (hP B0 (Nat.le_refl _)) (Goes.stop fun w₂ h₂=>by
  obtain ⟨d,rfl⟩:=h₂
  exact ⟨run4,.bool true,#[],end4 _,fun e he=>by simp at he,rfl,hkept⟩)
 have hr:runNT Try.prog (N1+(N2+(N3+N4))) (crowd #[G ((base 5).at ⟨#[Value.string s,v,Value.agg (ints 26 g),Value.int IntKind.u64 (seed:Nat),Value.int IntKind.i64 tries,Value.int IntKind.i64 aj,undef,undef,undef,undef,undef,undef,undef,undef,undef,undef,undef,undef,undef,undef,undef,undef,undef,undef,undef,undef,undef,undef,undef,undef,undef,undef,undef,undef,undef,undef,undef,undef,undef,undef,undef,undef,undef,undef,undef,undef,undef,undef,undef,undef,undef,undef,undef,undef,undef,undef,undef,undef,undef,undef,undef,undef,undef,undef,undef,undef,undef],[]⟩ [.code kB]) []] W none) #[]=(.next (crowd gs4 w4 sl4),t4):=by
  have rA:runNT Try.prog N1 (crowd #[G ((base 5).at ⟨#[Value.string s,v,Value.agg (ints 26 g),Value.int IntKind.u64 (seed:Nat),Value.int IntKind.i64 tries,Value.int IntKind.i64 aj,undef,undef,undef,undef,undef,undef,undef,undef,undef,undef,undef,undef,undef,undef,undef,undef,undef,undef,undef,undef,undef,undef,undef,undef,undef,undef,undef,undef,undef,undef,undef,undef,undef,undef,undef,undef,undef,undef,undef,undef,undef,undef,undef,undef,undef,undef,undef,undef,undef,undef,undef,undef,undef,undef,undef,undef,undef,undef,undef,undef,undef],[]⟩ [.code kB]) []] W none) #[]=(.next (crowd gs1 w1 sl1),t1):=r1
  rw[runNT_add,rA]
  show runNT Try.prog (N2+(N3+N4)) (crowd gs1 w1 sl1) t1=_
  rw[runNT_add,r2]
  show runNT Try.prog (N3+N4) (crowd gs2 w2 sl2) t2=_
  rw[runNT_add,r3]
  exact r4
 rw[solo_eq_crowd]
 refine ⟨N1+(N2+(N3+N4))+N5,last,o,w',t',?_,?_,x3,x4⟩
 ·rw[Nat.add_assoc (N1+(N2+(N3+N4))) N5 1,runNT_add,hr]
  exact x1
 ·rw[←runNT_fst _ _ _ #[],runNT_add,hr]
  show (runNT Try.prog N5 (crowd gs4 w4 sl4) t4).1=_
  rw[runNT_fst]
  exact x2
end Cs
section
open Go.RowKit PK Go.ChangeShapes Go.WideShapes Go.ChangeAt
theorem B3:ownKnob Try.prog.godebug=none:=by kernel_rfl
theorem nA:laidOutB Try.prog=true:=by kernel_rfl
theorem qZ:Try.prog.cellsOf 3=1:=by kernel_rfl
end
end Go.Proofs.Ytpdemelchhkfaaa
