import Derived.Test.YtpdemelchhkfaaaJn27
namespace Go.Proofs.Ytpdemelchhkfaaa
set_option maxRecDepth 100000
namespace Cs
open Go.Conc PK Go.RowKit Go.Conc.Lib Go.ConcR.Gen Go.ConcN.Gen
open Go.ConcR (KK WgAt wgBlock stA smA rd wr mk DC0)
open Go.ConcM (OsLater goes_pad goes_le)
def wGo (c:Cst) (bT bH bL q:Nat):Deferred:={ target:=.fn (.func 53) #[.pointer (some ⟨c.C2,0,none⟩),.pointer (some ⟨q,0,none⟩),.pointer (some ⟨bT,0,none⟩),.pointer (some ⟨bH,0,none⟩),.pointer (some ⟨c.Fd,0,none⟩),.pointer (some ⟨bL,0,none⟩)],args:=#[] }
noncomputable def gcB:Code:=match Try.f35.body.getD .skip with | .seq _ (.seq _ (.seq _ (.seq _ c)))=>c | _=>.skip
noncomputable def bZ:Code:=match gcB with | .seq (.seq _ (.block _ (.loop c))) _=>c | _=>.skip
noncomputable def gF:Code:=match gcB with | .seq _ r=>r | _=>.skip
noncomputable def oO:Array Oper:=match gF with | .seq (.region _ o _) _=>o | _=>#[]
noncomputable def kR:Code:=match gF with | .seq _ r=>r | _=>.skip
noncomputable def k7:Array Oper:=match bZ with | .seq _ (.seq _ (.seq (.block _ (.seq (.region _ o _) _)) _))=>o | _=>#[]
noncomputable def nu:Code:=match bZ with | .seq _ (.seq _ (.seq (.block _ (.seq _ c)) _))=>c | _=>.skip
noncomputable def qR:Array Oper:=match nu with | .region _ o _=>o | _=>#[]
noncomputable def kH:Code:=match bZ with | .seq _ (.seq _ (.seq _ c))=>c | _=>.skip
def gcA (c:Cst) (bT bH bL bR:Nat) (cs:List Frame) (j:Nat) (g:Goroutine):Prop:=∃v:Nat→Value,g=G ((base 35).at ⟨#[v 0,v 1,v 2,.pointer (some ⟨bH,0,none⟩),.pointer (some ⟨bT,0,none⟩),.pointer (some ⟨bL,0,none⟩),.pointer (some ⟨bR,0,none⟩),.pointer (some ⟨c.Fd,0,none⟩),.pointer (some ⟨c.C2,0,none⟩),v 9,v 10,v 11,v 12,v 13,.int .i64 (c.n:Nat),.int .i64 (j:Nat),v 16,.int .i64 (j:Nat),v 18,v 19,v 20,v 21,v 22],[]⟩ [.inRegion k7 [1,2],.code nu,.inBlock 1,.code kH,.inLoop bZ,.inBlock 0,.code gF]) cs
def gcS (c:Cst) (bT bH bL bR:Nat) (cs:List Frame) (j q:Nat) (g:Goroutine):Prop:=∃v:Nat→Value,g=G ((base 35).at ⟨#[v 0,v 1,v 2,.pointer (some ⟨bH,0,none⟩),.pointer (some ⟨bT,0,none⟩),.pointer (some ⟨bL,0,none⟩),.pointer (some ⟨bR,0,none⟩),.pointer (some ⟨c.Fd,0,none⟩),.pointer (some ⟨c.C2,0,none⟩),.pointer (some ⟨q,0,none⟩),v 10,v 11,v 12,v 13,.int .i64 (c.n:Nat),.int .i64 (j:Nat),v 16,.int .i64 (j:Nat),v 18,v 19,v 20,v 21,v 22],[]⟩ [.inRegion k7 [2],.code nu,.inBlock 1,.code kH,.inLoop bZ,.inBlock 0,.code gF]) cs
def gcP (c:Cst) (bT bH bL bR:Nat) (cs:List Frame) (j q:Nat) (g:Goroutine):Prop:=∃v:Nat→Value,g=G ((base 35).at ⟨#[v 0,v 1,v 2,.pointer (some ⟨bH,0,none⟩),.pointer (some ⟨bT,0,none⟩),.pointer (some ⟨bL,0,none⟩),.pointer (some ⟨bR,0,none⟩),.pointer (some ⟨c.Fd,0,none⟩),.pointer (some ⟨c.C2,0,none⟩),.pointer (some ⟨q,0,none⟩),v 10,v 11,v 12,v 13,.int .i64 (c.n:Nat),.int .i64 (j:Nat),v 16,.int .i64 (j:Nat),.func (.func 53) #[] #[.pointer (some ⟨c.C2,0,none⟩),.pointer (some ⟨q,0,none⟩),.pointer (some ⟨bT,0,none⟩),.pointer (some ⟨bH,0,none⟩),.pointer (some ⟨c.Fd,0,none⟩),.pointer (some ⟨bL,0,none⟩)],v 19,v 20,v 21,v 22],[]⟩ [.inRegion qR [1],.inBlock 1,.code kH,.inLoop bZ,.inBlock 0,.code gF]) cs
def gcG (c:Cst) (bT bH bL bR:Nat) (cs:List Frame) (j:Nat) (g:Goroutine):Prop:=∃v:Nat→Value,g=G ((base 35).at ⟨#[v 0,v 1,v 2,.pointer (some ⟨bH,0,none⟩),.pointer (some ⟨bT,0,none⟩),.pointer (some ⟨bL,0,none⟩),.pointer (some ⟨bR,0,none⟩),.pointer (some ⟨c.Fd,0,none⟩),.pointer (some ⟨c.C2,0,none⟩),v 9,v 10,v 11,v 12,v 13,.int .i64 (c.n:Nat),.int .i64 (j:Nat),v 16,v 17,v 18,v 19,v 20,v 21,v 22],[]⟩ [.inRegion qR [],.inBlock 1,.code kH,.inLoop bZ,.inBlock 0,.code gF]) cs
def gcW (c:Cst) (bT bH bL bR:Nat) (cs:List Frame)  (g:Goroutine):Prop:=∃v:Nat→Value,g=G ((base 35).at ⟨#[v 0,v 1,v 2,.pointer (some ⟨bH,0,none⟩),.pointer (some ⟨bT,0,none⟩),.pointer (some ⟨bL,0,none⟩),.pointer (some ⟨bR,0,none⟩),.pointer (some ⟨c.Fd,0,none⟩),.pointer (some ⟨c.C2,0,none⟩),v 9,v 10,v 11,v 12,v 13,v 14,v 15,v 16,v 17,v 18,v 19,v 20,v 21,v 22],[]⟩ [.inRegion oO [0],.code kR]) cs
theorem yt {c:Cst} {bT bH bL bR:Nat} {cs:List Frame} {j:Nat} (l:Array Value) (hl:l.size=23) (h3:l[3]? = some (.pointer (some ⟨bH,0,none⟩))) (h4:l[4]? = some (.pointer (some ⟨bT,0,none⟩))) (h5:l[5]? = some (.pointer (some ⟨bL,0,none⟩))) (h6:l[6]? = some (.pointer (some ⟨bR,0,none⟩))) (h7:l[7]? = some (.pointer (some ⟨c.Fd,0,none⟩))) (h8:l[8]? = some (.pointer (some ⟨c.C2,0,none⟩))) (h14:l[14]? = some (.int .i64 (c.n:Nat))) (h15:l[15]? = some (.int .i64 (j:Nat))) (h17:l[17]? = some (.int .i64 (j:Nat))):gcA c bT bH bL bR cs j (G ((base 35).at ⟨l,[]⟩ [.inRegion k7 [1,2],.code nu,.inBlock 1,.code kH,.inLoop bZ,.inBlock 0,.code gF]) cs):=by
 have e:=bU l 23 hl
 generalize hv:(fun i=>l.getD i undef)=v at e
 have fv:∀i x,l[i]? = some x→v i=x:=fun i x hx=>by rw[←hv];simp[Array.getD_eq_getD_getElem?,hx]
 refine ⟨v,?_⟩
 have q:l=#[v 0,v 1,v 2,v 3,v 4,v 5,v 6,v 7,v 8,v 9,v 10,v 11,v 12,v 13,v 14,v 15,v 16,v 17,v 18,v 19,v 20,v 21,v 22]:=e.trans rfl
 rw[fv 3 _ h3,fv 4 _ h4,fv 5 _ h5,fv 6 _ h6,fv 7 _ h7,fv 8 _ h8,fv 14 _ h14,fv 15 _ h15,fv 17 _ h17] at q
 rw[q]
theorem BH {c:Cst} {bT bH bL bR:Nat} {cs:List Frame} {j q:Nat} (l:Array Value) (hl:l.size=23) (h3:l[3]? = some (.pointer (some ⟨bH,0,none⟩))) (h4:l[4]? = some (.pointer (some ⟨bT,0,none⟩))) (h5:l[5]? = some (.pointer (some ⟨bL,0,none⟩))) (h6:l[6]? = some (.pointer (some ⟨bR,0,none⟩))) (h7:l[7]? = some (.pointer (some ⟨c.Fd,0,none⟩))) (h8:l[8]? = some (.pointer (some ⟨c.C2,0,none⟩))) (h9:l[9]? = some (.pointer (some ⟨q,0,none⟩))) (h14:l[14]? = some (.int .i64 (c.n:Nat))) (h15:l[15]? = some (.int .i64 (j:Nat))) (h17:l[17]? = some (.int .i64 (j:Nat))) (h18:l[18]? = some (.func (.func 53) #[] #[.pointer (some ⟨c.C2,0,none⟩),.pointer (some ⟨q,0,none⟩),.pointer (some ⟨bT,0,none⟩),.pointer (some ⟨bH,0,none⟩),.pointer (some ⟨c.Fd,0,none⟩),.pointer (some ⟨bL,0,none⟩)])):gcP c bT bH bL bR cs j q (G ((base 35).at ⟨l,[]⟩ [.inRegion qR [1],.inBlock 1,.code kH,.inLoop bZ,.inBlock 0,.code gF]) cs):=by
 have e:=bU l 23 hl
 generalize hv:(fun i=>l.getD i undef)=v at e
 have fv:∀i x,l[i]? = some x→v i=x:=fun i x hx=>by rw[←hv];simp[Array.getD_eq_getD_getElem?,hx]
 refine ⟨v,?_⟩
 have q:l=#[v 0,v 1,v 2,v 3,v 4,v 5,v 6,v 7,v 8,v 9,v 10,v 11,v 12,v 13,v 14,v 15,v 16,v 17,v 18,v 19,v 20,v 21,v 22]:=e.trans rfl
 rw[fv 3 _ h3,fv 4 _ h4,fv 5 _ h5,fv 6 _ h6,fv 7 _ h7,fv 8 _ h8,fv 9 _ h9,fv 14 _ h14,fv 15 _ h15,fv 17 _ h17,fv 18 _ h18] at q
 rw[q]
theorem AP {c:Cst} {bT bH bL bR:Nat} {cs:List Frame} {j:Nat} (l:Array Value) (hl:l.size=23) (h3:l[3]? = some (.pointer (some ⟨bH,0,none⟩))) (h4:l[4]? = some (.pointer (some ⟨bT,0,none⟩))) (h5:l[5]? = some (.pointer (some ⟨bL,0,none⟩))) (h6:l[6]? = some (.pointer (some ⟨bR,0,none⟩))) (h7:l[7]? = some (.pointer (some ⟨c.Fd,0,none⟩))) (h8:l[8]? = some (.pointer (some ⟨c.C2,0,none⟩))) (h14:l[14]? = some (.int .i64 (c.n:Nat))) (h15:l[15]? = some (.int .i64 (j:Nat))):gcG c bT bH bL bR cs j (G ((base 35).at ⟨l,[]⟩ [.inRegion qR [],.inBlock 1,.code kH,.inLoop bZ,.inBlock 0,.code gF]) cs):=by
 have e:=bU l 23 hl
 generalize hv:(fun i=>l.getD i undef)=v at e
 have fv:∀i x,l[i]? = some x→v i=x:=fun i x hx=>by rw[←hv];simp[Array.getD_eq_getD_getElem?,hx]
 refine ⟨v,?_⟩
 have q:l=#[v 0,v 1,v 2,v 3,v 4,v 5,v 6,v 7,v 8,v 9,v 10,v 11,v 12,v 13,v 14,v 15,v 16,v 17,v 18,v 19,v 20,v 21,v 22]:=e.trans rfl
 rw[fv 3 _ h3,fv 4 _ h4,fv 5 _ h5,fv 6 _ h6,fv 7 _ h7,fv 8 _ h8,fv 14 _ h14,fv 15 _ h15] at q
 rw[q]
theorem A5 {c:Cst} {bT bH bL bR:Nat} {cs:List Frame} (l:Array Value) (hl:l.size=23) (h3:l[3]? = some (.pointer (some ⟨bH,0,none⟩))) (h4:l[4]? = some (.pointer (some ⟨bT,0,none⟩))) (h5:l[5]? = some (.pointer (some ⟨bL,0,none⟩))) (h6:l[6]? = some (.pointer (some ⟨bR,0,none⟩))) (h7:l[7]? = some (.pointer (some ⟨c.Fd,0,none⟩))) (h8:l[8]? = some (.pointer (some ⟨c.C2,0,none⟩))):gcW c bT bH bL bR cs (G ((base 35).at ⟨l,[]⟩ [.inRegion oO [0],.code kR]) cs):=by
 have e:=bU l 23 hl
 generalize hv:(fun i=>l.getD i undef)=v at e
 have fv:∀i x,l[i]? = some x→v i=x:=fun i x hx=>by rw[←hv];simp[Array.getD_eq_getD_getElem?,hx]
 refine ⟨v,?_⟩
 have q:l=#[v 0,v 1,v 2,v 3,v 4,v 5,v 6,v 7,v 8,v 9,v 10,v 11,v 12,v 13,v 14,v 15,v 16,v 17,v 18,v 19,v 20,v 21,v 22]:=e.trans rfl
 rw[fv 3 _ h3,fv 4 _ h4,fv 5 _ h5,fv 6 _ h6,fv 7 _ h7,fv 8 _ h8] at q
 rw[q]
section
variable {K:Nat→Nat→Int} {Z:Nat→Int} {c:Cst} {J bT bH bL bS bD bR k q j:Nat} {g:Goroutine} {cs:List Frame}
theorem rT (w:World):stepG Try.prog false (born Try.prog (wGo c bT bH bL q)) w =
  .go (G (wF.at ⟨#[.pointer (some ⟨c.C2,0,none⟩),.pointer (some ⟨q,0,none⟩),.pointer (some ⟨bT,0,none⟩),.pointer (some ⟨bH,0,none⟩),.pointer (some ⟨c.Fd,0,none⟩),.pointer (some ⟨bL,0,none⟩),undef,undef,undef,undef,undef,undef,undef,undef,undef,undef,undef,undef],[]⟩ [.code wkB]) [lp]) w #[]:=by
 simp[born,wGo,stepG,unwind,callDeferred,invoke,callFunc,Try.func53,Try.f53,seen,GStep.after,G,Frame.enter,Frame.at,wF,lp,wkB]
theorem CP:OnL Try.prog c wgL.tWg (wHl c bT bH bL q) (born Try.prog (wGo c bT bH bL q)):=by
 refine aO 20 rfl fun w hF=>?_
 refine Goes.step rfl fun w₁ h₁=>?_
 rw[rT,goes_go]
 refine ⟨⟨rfl,rfl⟩,?_⟩
 replace hF:Ok3 c wgL.tWg w₁:=h₁
 clear h₁
 simp only[wkB,Try.f53,Option.getD_some]
 u_c stepG_seq aa hF
 u_reg aa hF
 u_defer aa hF
 u_c stepG_region_end aa hF
 u_c stepG_seq aa hF
 u_reg aa hF
 exact Goes.stop fun w₁ _=>⟨rfl,rfl⟩
set_option maxHeartbeats 8000000 in
theorem D7 (p:ClP c J bT bH bL bS bD) (hj:j≤1000) (h:wHl c bT bH bL q g):isG g∧∃g',(∀w,w.heap[q]? = some (.cells #[.int .i64 (j:Nat)] 3 (0,0))→stepG Try.prog false g w=.go g' w #[⟨.cell ⟨q,0,none⟩,false,false⟩])∧OnA Try.prog c wgL.tWg false (fun g=>if j<J then B1 K Z c wgL.tWg bT bH bL j g else Ak Try.prog c wgL.tWg g) g':=by
 subst h
 refine ⟨⟨_,_,rfl⟩,G (wF.at ⟨#[.pointer (some ⟨c.C2,0,none⟩),.pointer (some ⟨q,0,none⟩),.pointer (some ⟨bT,0,none⟩),.pointer (some ⟨bH,0,none⟩),.pointer (some ⟨c.Fd,0,none⟩),.pointer (some ⟨bL,0,none⟩),undef,.int .i64 (j:Nat),undef,undef,undef,undef,undef,undef,undef,undef,undef,undef],[dcall 47 #[.pointer (some ⟨c.C2,0,none⟩)]]⟩ [.inRegion wO1 [1],.code wC2]) [lp],fun w hw=>?_,?_⟩
 ·have hcell:w.cell? ⟨q,0,none⟩=some (.int .i64 (j:Nat)):=by rw[cell_of_row _ _ _ _ _ _ hw];rfl
  rw[stepG_value (o:=wO1.getD 0 default) (v:=.int .i64 (j:Nat)) (w':=w) rfl rfl (by k_ne) (by simp[execOp,go_sem,wO1,wC1,wkB,Try.f53,Act.eval,hcell])]
  unfold listed
  rw[show Sem.events Try.prog _ w #[]=#[⟨.cell ⟨q,0,none⟩,false,false⟩] by simp[execOp,go_sem,wO1,wC1,wkB,Try.f53,Act.eval,hcell]]
  rw[seen_eq (by kernel_rfl) (by simp)]
  rfl
 ·refine fL 160 (A:=wAn c bT bH bL j) (dX 20 rfl fun w hF=>?_) fun g hg w hw=>uo p (by omega) hg w hw
  obtain ⟨X,hX⟩:∃X,X=fO:=⟨_,rfl⟩
  have e2:wC2=.block 0 (.loop fO):=rfl
  rw[e2,←hX]
  simp only[wO1,wC1,wkB,Try.f53,Option.getD_some]
  repeat w_but "code.loop" aa
  u_c stepG_loop aa hF
  subst hX
  exact Goes.stop fun w₁ _=>⟨rfl,wH _ rfl rfl rfl rfl rfl rfl rfl⟩
theorem C7 (h:gcA c bT bH bL bR cs j g):isG g∧∃g':Nat→Goroutine,(∀w,stepG Try.prog true g w=.go (g' w.heap.size) (w.alloc (.cells #[.int .i64 0] 3 (0,0))) #[])∧∀q,OnA Try.prog c wgL.tWg true (gcS c bT bH bL bR cs j q) (g' q):=by
 obtain ⟨v,rfl⟩:=h
 refine ⟨⟨_,_,rfl⟩,fun q=>G ((base 35).at ⟨#[v 0,v 1,v 2,.pointer (some ⟨bH,0,none⟩),.pointer (some ⟨bT,0,none⟩),.pointer (some ⟨bL,0,none⟩),.pointer (some ⟨bR,0,none⟩),.pointer (some ⟨c.Fd,0,none⟩),.pointer (some ⟨c.C2,0,none⟩),.pointer (some ⟨q,0,none⟩),v 10,v 11,v 12,v 13,.int .i64 (c.n:Nat),.int .i64 (j:Nat),v 16,.int .i64 (j:Nat),v 18,v 19,v 20,v 21,v 22],[]⟩ [.inRegion k7 [2],.code nu,.inBlock 1,.code kH,.inLoop bZ,.inBlock 0,.code gF]) cs,fun w=>?_,fun q=>⟨rfl,fun w _=>⟨0,Goes.stop fun _ _=>⟨rfl,v,rfl⟩⟩⟩⟩
 rw[stepG_value (o:=k7.getD 1 default) (v:=.pointer (some ⟨w.heap.size,0,none⟩)) (w':=w.alloc (.cells #[.int .i64 0] 3 (0,0))) rfl rfl (by k_ne) (by simp[execOp,go_sem,k7,bZ,gcB,Try.f35])]
 rw[listed_nil (by simp[execOp,go_sem,k7,bZ,gcB,Try.f35])]
 rfl
theorem DC (h:gcS c bT bH bL bR cs j q g):isG g∧∃g',(∀w v,w.heap[q]? = some (.cells #[v] 3 (0,0))→stepG Try.prog true g w=.go g' (w.setCell ⟨q,0,none⟩ (.int .i64 (j:Nat))) #[⟨.cell ⟨q,0,none⟩,true,false⟩])∧OnA Try.prog c wgL.tWg true (gcP c bT bH bL bR cs j q) g':=by
 obtain ⟨v,rfl⟩:=h
 refine ⟨⟨_,_,rfl⟩,G ((base 35).at ⟨#[v 0,v 1,v 2,.pointer (some ⟨bH,0,none⟩),.pointer (some ⟨bT,0,none⟩),.pointer (some ⟨bL,0,none⟩),.pointer (some ⟨bR,0,none⟩),.pointer (some ⟨c.Fd,0,none⟩),.pointer (some ⟨c.C2,0,none⟩),.pointer (some ⟨q,0,none⟩),v 10,v 11,v 12,v 13,.int .i64 (c.n:Nat),.int .i64 (j:Nat),v 16,.int .i64 (j:Nat),v 18,v 19,v 20,v 21,v 22],[]⟩ [.inRegion k7 [],.code nu,.inBlock 1,.code kH,.inLoop bZ,.inBlock 0,.code gF]) cs,fun w u hw=>?_,dX 20 rfl fun w hF=>?_⟩
 ·have hcell:w.cell? ⟨q,0,none⟩=some u:=by rw[cell_of_row _ _ _ _ _ _ hw];rfl
  have hfz:w.frozen? ⟨q,0,none⟩=false:=by
   unfold World.frozen?
   rw[hw]
   simp
  rw[stepG_none (o:=k7.getD 2 default) (w':=w.setCell ⟨q,0,none⟩ (.int .i64 (j:Nat))) rfl rfl (by k_ne) (by simp[execOp,go_sem,k7,bZ,gcB,Try.f35,Act.eval,hcell,hfz])]
  unfold listed
  rw[show Sem.events Try.prog _ w #[]=#[⟨.cell ⟨q,0,none⟩,true,false⟩] by simp[execOp,go_sem,k7,bZ,gcB,Try.f35,Act.eval,storedEv,hcell,hfz]]
  rw[seen_eq (by kernel_rfl) (by simp)]
  rfl
 ·obtain ⟨X,hX⟩:∃X,X=bZ:=⟨_,rfl⟩
  obtain ⟨Y,hY⟩:∃Y,Y=kH:=⟨_,rfl⟩
  obtain ⟨U,hU⟩:∃U,U=gF:=⟨_,rfl⟩
  rw[←hX,←hY,←hU]
  simp only[k7,nu,bZ,gcB,Try.f35,Option.getD_some]
  repeat w_go aa
  subst hX hY hU
  exact Goes.stop fun w₁ _=>⟨rfl,BH _ rfl rfl rfl rfl rfl rfl rfl rfl rfl rfl rfl rfl⟩
theorem CM (h:gcP c bT bH bL bR cs j q g):isG g∧∃g',(∀w,stepG Try.prog true g w=.spawn g' (born Try.prog (wGo c bT bH bL q)) w #[])∧g'.status=.running∧gcG c bT bH bL bR cs j g':=by
 obtain ⟨v,rfl⟩:=h
 refine ⟨⟨_,_,rfl⟩,G ((base 35).at ⟨#[v 0,v 1,v 2,.pointer (some ⟨bH,0,none⟩),.pointer (some ⟨bT,0,none⟩),.pointer (some ⟨bL,0,none⟩),.pointer (some ⟨bR,0,none⟩),.pointer (some ⟨c.Fd,0,none⟩),.pointer (some ⟨c.C2,0,none⟩),.pointer (some ⟨q,0,none⟩),v 10,v 11,v 12,v 13,.int .i64 (c.n:Nat),.int .i64 (j:Nat),v 16,.int .i64 (j:Nat),.func (.func 53) #[] #[.pointer (some ⟨c.C2,0,none⟩),.pointer (some ⟨q,0,none⟩),.pointer (some ⟨bT,0,none⟩),.pointer (some ⟨bH,0,none⟩),.pointer (some ⟨c.Fd,0,none⟩),.pointer (some ⟨bL,0,none⟩)],v 19,v 20,v 21,v 22],[]⟩ [.inRegion qR [],.inBlock 1,.code kH,.inLoop bZ,.inBlock 0,.code gF]) cs,fun w=>?_,rfl,AP _ rfl rfl rfl rfl rfl rfl rfl rfl rfl⟩
 simp only[qR,nu,bZ,gcB,Try.f35,Option.getD_some]
 rw[stepG_spawn (d:=wGo c bT bH bL q) (w':=w) (f:=.func 53) (c:=#[.pointer (some ⟨c.C2,0,none⟩),.pointer (some ⟨q,0,none⟩),.pointer (some ⟨bT,0,none⟩),.pointer (some ⟨bH,0,none⟩),.pointer (some ⟨c.Fd,0,none⟩),.pointer (some ⟨bL,0,none⟩)]) rfl rfl (by k_ne) (by simp[execOp,go_sem,wGo]) rfl]
 rw[listed_nil (by simp[go_sem])]
 rfl
set_option maxHeartbeats 8000000 in
theorem Br (hn:c.n≤1000) (hj:j<c.n) (h:gcG c bT bH bL bR cs j g):OnA Try.prog c wgL.tWg true (fun g=>if j+1<c.n then gcA c bT bH bL bR cs (j+1) g else gcW c bT bH bL bR cs g) g:=by
 obtain ⟨v,rfl⟩:=h
 have hwr:IntKind.i64.wrap ((j:Int)+1)=((j+1:Nat):Int):=by rw[IntKind.wrap_i64];omega
 obtain ⟨X,hX⟩:∃X,X=bZ:=⟨_,rfl⟩
 have eX:bZ=X:=hX.symm
 by_cases hl:j+1<c.n
 ·have hl':decide ((j:Int)+1<(c.n:Int))=true:=by simp;omega
  refine dX 60 rfl fun w hF=>?_
  simp only[if_pos hl]
  obtain ⟨U,hU⟩:∃U,U=gF:=⟨_,rfl⟩
  rw[←hU]
  simp only[qR,nu,kH,bZ,gcB,Try.f35,Option.getD_some]
  repeat w_go aa
  subst hU
  exact Goes.stop fun w₁ _=>⟨rfl,yt _ rfl rfl rfl rfl rfl rfl rfl rfl rfl rfl⟩
 ·have hl':decide ((j:Int)+1<(c.n:Int))=false:=by simp;omega
  refine dX 60 rfl fun w hF=>?_
  simp only[if_neg hl]
  simp only[qR,nu,kH,gF,bZ,gcB,Try.f35,Option.getD_some]
  repeat w_go aa
  exact Goes.stop fun w₁ _=>⟨rfl,A5 _ rfl rfl rfl rfl rfl rfl rfl⟩
end
end Cs
namespace Cs
open Go.Conc PK Go.RowKit Go.Conc.Lib Go.ConcR.Gen Go.ConcN.Gen
open Go.ConcR (KK WgAt wgBlock stA smA rd wr mk DC0)
open Go.ConcM (OsLater goes_pad goes_le)
def gcJ (c:Cst) (bR:Nat) (cs:List Frame) (g:Goroutine):Prop:=∃T:Array Value,T.size=23∧T[6]? = some (.pointer (some ⟨bR,0,none⟩))∧T[7]? = some (.pointer (some ⟨c.Fd,0,none⟩))∧g=G ((base 35).at ⟨T,[]⟩ [.inRegion oO [],.code kR]) cs
noncomputable def gcF (T:Array Value):Frame:=(base 35).at ⟨T,[]⟩ [.inRegion oO [0],.code kR]
def gcT (c:Cst) (bR:Nat) (T:Array Value):Prop:=T.size=23∧T[6]? = some (.pointer (some ⟨bR,0,none⟩))∧T[7]? = some (.pointer (some ⟨c.Fd,0,none⟩))
section
variable {K:Nat→Nat→Int} {Z:Nat→Int} {c:Cst} {J bT bH bL bS bD bR k q j:Nat} {g:Goroutine} {cs:List Frame}
theorem uj [Fns] {E:Env} {n:Nat} {f:Nat→Int} {v':Value} (h:VR E (.agg (ints n f)) v'):v'=.agg (ints n f):=by
 cases h with
 | agg h1 h2 =>
  rename_i x'
  congr 1
  refine Array.ext_getElem? fun i=>?_
  by_cases hi:i<n
  ·have hx:i<x'.size:=by rw[←h1,af];exact hi
   have h3:=h2 i _ _ (aI f hi) (Array.getElem?_eq_getElem hx)
   rw[aI f hi,Array.getElem?_eq_getElem hx]
   generalize x'[i]=y at h3
   cases h3
   rfl
  ·have h5:x'.size=n:=by rw[←h1,af]
   have h6:=af n f
   rw[Array.getElem?_eq_none (by omega),Array.getElem?_eq_none (by omega)]
set_option maxRecDepth 100000 in
theorem BL (h:gcW c bT bH bL bR cs g):∀w,Ok3 c wgL.tWg w→WalkA Try.prog c wgL.tWg true (fun g=>∃T,gcT c bR T∧xQ Try.prog c wgL.tWg (xAn wgL c (gcF T :: cs)) g) 21 g w:=by
 intro w hK
 obtain ⟨v,rfl⟩:=h
 refine aR (gI c) (fun _ _ x=>x) ?_
 refine Goes.step rfl (fun w₁ h₁=>?_)
 refine goes_call (f:=49) (fn:=waitFn wgL) (c:=body_wait wgL) rfl rfl (by k_ne) rfl Try.func49 (by kernel_rfl) rfl ⟨⟨rfl,rfl⟩,?_⟩
 have hw:=aR (fun _ _ _ x=>x) (fun g _ (x:g.status=.running∧xQ Try.prog c wgL.tWg (xAn wgL c (gcF #[v 0,v 1,v 2,.pointer (some ⟨bH,0,none⟩),.pointer (some ⟨bT,0,none⟩),.pointer (some ⟨bL,0,none⟩),.pointer (some ⟨bR,0,none⟩),.pointer (some ⟨c.Fd,0,none⟩),.pointer (some ⟨c.C2,0,none⟩),v 9,v 10,v 11,v 12,v 13,v 14,v 15,v 16,v 17,v 18,v 19,v 20,v 21,v 22] :: cs)) g)=>(⟨x.1,_,⟨rfl,rfl,rfl⟩,x.2⟩:g.status=.running∧∃T:Array Value,gcT c bR T∧xQ Try.prog c wgL.tWg (xAn wgL c (gcF T :: cs)) g)) (rG (c:=c) (P:=Try.prog) eg (fs:=gcF #[v 0,v 1,v 2,.pointer (some ⟨bH,0,none⟩),.pointer (some ⟨bT,0,none⟩),.pointer (some ⟨bL,0,none⟩),.pointer (some ⟨bR,0,none⟩),.pointer (some ⟨c.Fd,0,none⟩),.pointer (some ⟨c.C2,0,none⟩),v 9,v 10,v 11,v 12,v 13,v 14,v 15,v 16,v 17,v 18,v 19,v 20,v 21,v 22] :: cs) w₁ h₁)
 refine Eq.mp ?_ hw
 kernel_rfl
theorem yE {T:Array Value} (hT:gcT c bR T):∀w,Ok3 c wgL.tWg w→Goes Try.prog true (fun _ w=>Ok3 c wgL.tWg w) DC0 (fun g _=>g.status=.running∧gcJ c bR cs g) 0 (G ((base 35).at ((⟨T,[]⟩:Act).put ((oO[0]?).bind (·.dst)) (.tuple #[])) [.inRegion oO [],.code kR]) cs) w:=fun _ _=>Goes.stop fun _ _=>⟨rfl,T.setIfInBounds 20 (.tuple #[]),by simpa using hT.1,by rw[Array.getElem?_setIfInBounds_ne (by omega)];exact hT.2.1,by rw[Array.getElem?_setIfInBounds_ne (by omega)];exact hT.2.2,rfl⟩
variable [Fns]
noncomputable def yg (p:ClP c J bT bH bL bS bD) (bR:Nat) (cs:List Frame) (n1:1≤c.n) (s1:1≤c.S0∧c.S0≤1000) (d1:c.C2<c.N1∧c.Fd<c.N1∧c.C2≠c.Fd∧c.C1=c.Fd) (fok:Fns.ok c.fB=true)
  (job:∀k,k<J→∀w,OkT c w→∃(E:Env) (wl:World) (x:Array Value),(∀b q s o,E b=some (q,s,o)→o=false∧c.Fix q)∧LR E x (c.ar k)∧WR Try.prog E wl w∧Fns.G≤wl.heap.size∧∀τ,Calls Try.prog c.fB x (wl.tp τ) fun e _=>∃v,e=.returned v∧v=tlV K Z k):ff Try.prog c wgL.tWg 43 J (tlV K Z) (fun k=>ints 28 (ek K Z k)) Bd eBd (upB K Z) where
 Cal:=B1 K Z c wgL.tWg bT bH bL
 Bxs:=BC K Z c wgL.tWg (wSt c bT bH bL)
 Mu:=fun k q x g=>k<J∧qX K Z c wgL.tWg (wSt c bT bH bL) k q x g
 Ur:=fun k q g=>k<J∧Ce c wgL.tWg (wSt c bT bH bL) k q g
 Rel:=Ak Try.prog c wgL.tWg
 Dis:=CW Try.prog c wgL.tWg
 Dec:=Dx Try.prog c wgL.tWg
 Lod:=C5 Try.prog c wgL.tWg
 Zer:=CN Try.prog c wgL.tWg
 Sem:=C6 Try.prog c wgL.tWg
 GoA:=gcA c bT bH bL bR cs
 GoS:=gcS c bT bH bL bR cs
 GoP:=gcP c bT bH bL bR cs
 Hld:=fun _ q=>wHl c bT bH bL q
 H:=fun j=>.int .i64 (j:Nat)
 tH:=3
 zH:=.int .i64 0
 WtD:=fun g=>∃T,gcT c bR T∧xQ Try.prog c wgL.tWg (xAn wgL c (gcF T :: cs)) g
 W1:=fun g=>∃T,gcT c bR T∧xW1 Try.prog c wgL.tWg (gcJ c bR cs) (xAn wgL c (gcF T :: cs)) g
 W2:=fun v g=>∃T,gcT c bR T∧xW2 Try.prog c wgL.tWg (gcJ c bR cs) (xAn wgL c (gcF T :: cs)) v g
 Sai:=Cw Try.prog c wgL.tWg (gcJ c bR cs)
 W3:=xW3 Try.prog c wgL.tWg (gcJ c bR cs)
 W4:=xW4 Try.prog c wgL.tWg (gcJ c bR cs)
 Ke:=xKe Try.prog c wgL.tWg (gcJ c bR cs)
 Acq:=CZ Try.prog c wgL.tWg (gcJ c bR cs)
 JnP:=gcJ c bR cs
 n1:=⟨n1,p.n1⟩
 s1:=s1
 kk:=by have:=p.hK;omega
 d1:=d1
 comm:=yT K Z
 cal:=fun _ _ h _=>h
 bxs:=fun _ _ h hk=>let ⟨h1,g',h2,h3⟩:=Bx p.hK p.hC h;⟨h1,g',fun w _=>h2 w,fun q=>(h3 q).mono fun _ y=>⟨hk,y⟩⟩
 mst:=fun k q x g h hk hx=>by
  have hm:=Be p.hK p.hC h.2 hx
  refine ⟨hm.1,fun w W m a1 a2 a3 a4 a5 a6 a7=>?_⟩
  obtain ⟨x',W',m',g',w',es,b1,b2,b3,b4,b5,b6,b7⟩:=hm.2 w W m a1 a2 a3 a4 a5 a6 a7
  refine ⟨x',W',m',g',w',es,b1,b2,b3,b4,b5,fun e=>(b6 e).mono fun _ y=>⟨hk,y⟩,fun e=>?_⟩
  have hj:=p.j1
  have hn:=p.n1
  exact fL 160 (b7 e) fun g hg w hw=>uo p (by omega) hg w hw
 slp:=fun _ _ _ _ h=>Cg h.2
 wak:=fun _ _ _ _ h hx=>Cd h.2 hx
 acm:=fun k q g h hk=>let ⟨h1,g',h2,h3⟩:=B8 h.2;⟨h1,g',h2,fun b w a1 a2 a3=>let ⟨m,hm⟩:=h3 b w a1 a2 a3;⟨m,aR (fun _ _ _ h=>h) (fun _ _ x=>⟨x.1,x.2.1,hk,x.2.2⟩) hm⟩⟩
 rlm:=fun k q g h=>let ⟨h1,g',h2,h3⟩:=Bt p.hK h.2;⟨h1,g',h2,h3.mono fun _ y=>⟨h.1,y⟩⟩
 rel:=fun _ h=>h
 dis:=fun _ h=>h
 dec:=fun _ h=>h
 lod:=fun _ h=>h
 zer:=fun _ h=>h
 sem:=fun _ h=>h
 gal:=fun _ _ h _=>C7 h
 gst:=fun _ _ _ h _=>DC h
 gop:=fun j q g h hj=>by
  obtain ⟨h1,g',h2,h3,h4⟩:=CM h
  refine ⟨h1,g',_,h2,CP,fL 21 (Br p.n1 hj h4) fun g hg w hw=>?_⟩
  by_cases hl:j+1<c.n
  ·simp only[if_pos hl] at hg ⊢
   exact Goes.stop fun _ _=>⟨by obtain ⟨_,rfl⟩:=hg;rfl,hg⟩
  ·simp only[if_neg hl] at hg ⊢
   exact BL hg w hw
 hld:=fun j q g h hj=>D7 p (by have:=p.n1;omega) h
 wtd:=fun g h=>by
  obtain ⟨T,hT,h1,g',h2,h3⟩:=h
  exact ⟨h1,g',h2,fL 60 h3 fun g hg w hw=>aR (gI c) (fun g _ x=>⟨x.1,T,hT,x.2⟩) (lN eg (yE hT) g hg w hw)⟩
 w1:=fun g h=>by
  obtain ⟨T,hT,h1,h2⟩:=h
  refine ⟨h1,fun v hv=>?_⟩
  obtain ⟨g',h3,h4⟩:=h2 v hv
  refine ⟨g',h3,fL 0 h4 fun g hg w _=>?_⟩
  by_cases e:v=0
  ·simp only[if_pos e] at hg ⊢
   exact Goes.stop fun _ _=>⟨by obtain ⟨_,_,rfl⟩:=hg.1;rfl,hg⟩
  ·simp only[if_neg e] at hg ⊢
   exact Goes.stop fun _ _=>⟨by obtain ⟨_,_,rfl⟩:=hg.1;rfl,T,hT,hg⟩
 w2h:=fun v g h _ _=>let ⟨_,_,h1,h2,_⟩:=h;⟨h1,h2⟩
 w2m:=fun vs g h v hv hne=>by
  obtain ⟨T,hT,_,_,h3⟩:=h
  obtain ⟨g',h4,h5⟩:=h3 v hv hne
  exact ⟨g',h4,fL 60 h5 fun g hg w hw=>aR (gI c) (fun g _ x=>⟨x.1,T,hT,x.2⟩) (lN eg (yE hT) g hg w hw)⟩
 sai:=fun _ h=>h
 w3:=fun _ h=>h
 w4:=fun _ h=>h
 ke:=fun _ h=>h
 acq:=fun _ h=>h
 fok:=fok
 job:=job
 vr:=fun k E v' h=>by
  unfold tlV at h ⊢
  exact uj h
end
end Cs
end Go.Proofs.Ytpdemelchhkfaaa
