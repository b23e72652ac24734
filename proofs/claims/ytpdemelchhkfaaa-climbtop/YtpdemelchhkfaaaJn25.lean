import Derived.Test.YtpdemelchhkfaaaJn24
namespace Go.Proofs.Ytpdemelchhkfaaa
namespace Cs
open Go.Conc Go.RowKit Go.Conc.Lib Go.ConcR.Gen Go.ConcN.Gen
open Go.ConcR (KK WgAt wgBlock stA smA rd wr mk DC0)
open Go.ConcM (OsLater goes_pad goes_le)
theorem AI:(Try.prog.funcs[(base 91).fn]?).any (·.norace)=true:=by kernel_rfl
theorem rK : (Try.f91.name == "runtime.NumGoroutine") = false := by kernel_rfl
noncomputable def pS:Code:=Try.f91.body.getD .skip
noncomputable def uR9:Code:=match pS with | .seq _ (.seq _ (.cond _ _ c))=>c | _=>.skip
noncomputable def gD:Code:=match pS with | .seq _ (.seq _ (.cond _ (.seq _ (.block _ (.loop c))) _))=>c | _=>.skip
noncomputable def uO6:Array Oper:=match gD with | .block _ (.seq _ (.seq _ (.seq (.seq (.region _ o _) _) _)))=>o | _=>#[]
noncomputable def Ch:Code:=match gD with | .block _ (.seq _ (.seq _ (.seq (.seq _ c) _)))=>c | _=>.skip
noncomputable def uR8:Code:=match gD with | .block _ (.seq _ (.seq _ (.seq _ c)))=>c | _=>.skip
theorem kC {P:Program} {c:Cst} {tW:TypeId} {A B:Goroutine→Prop} {g:Goroutine} (n:Nat) (h:OnL P c tW A g) (hn:∀g,A g→∀w,Ok3 c tW w→Goes P false (fun _ w=>Ok3 c tW w) DC0 (fun g _=>g.status=.running∧B g) n g w):OnL P c tW B g :=
 ⟨h.1,fun w hw=>let ⟨m,hm⟩:=h.2 w hw;⟨m+n,dO (fun g w x hw=>aR (fun w w' es x=>⟨gI c w w' es x,x.2⟩) (fun _ _ x=>x) (hn g x.2 w hw)) hm⟩⟩
theorem o6 {P:Program} {c:Cst} {tW:TypeId} {main:Bool} {St:Goroutine→Prop} {g g':Goroutine} (n:Nat) (hs:g.status=.running) (hT:OnA P c tW main St g') (h:∀w,Ok3 c tW w→Goes P main (fun _ w=>Ok3 c tW w) DC0 (fun x _=>x=g') n g w):OnA P c tW main St g:=by
 refine ⟨hs,fun w hw=>?_⟩
 obtain ⟨m,hm⟩:=hT.2 w hw
 refine ⟨n+m,dO (A:=fun x _=>x=g') (fun x w' e hw'=>?_) (aR (gI c) (fun _ _ x=>x) (h w hw))⟩
 subst e
 exact Goes.anyWorld (S:=fun w=>Ok3 c tW w) (w:=w) w' hm
theorem zX {o:Wd} (ho:o.ok) (hq:o.q≤12000) (h:o.q=0∨o.l=1∨o.w=1∨o.s=1):o.q=0∨∃z:Int,z≠0∧o.q≠0∧bits .and .i32 o.enc 7=z:=by
 by_cases h0:o.q=0
 ·exact .inl h0
 ·exact .inr ⟨_,by omega,h0,CK ho (by omega)⟩
section
variable (c:Cst) (b₁:Frame) (a₁:Act) (ops₁:Array Oper) (i₁:Nat) (rest₁:List Nat) (k₁:List Item) (cs₁:List Frame)
def kHu (o:Wd) (g:Goroutine):Prop:=∃v:Nat→Value,g=G ((base 91).at ⟨#[.pointer (some ⟨c.Fd,0,none⟩),v 1,v 2,v 3,.int .i32 o.enc,v 5,v 6,v 7,v 8,v 9,v 10,v 11,v 12,v 13,v 14,v 15,v 16,v 17,v 18,v 19,v 20,v 21,v 22,v 23,v 24,v 25,v 26,v 27,v 28,v 29,v 30,v 31,v 32,v 33,v 34,v 35,v 36,v 37,v 38,v 39,v 40,v 41,v 42],[]⟩ [.code gD,.inLoop gD,.inBlock 0]) (b₁.at a₁ (.inRegion ops₁ (i₁ :: rest₁) :: k₁) :: cs₁)
def kUc (o:Wd) (g:Goroutine):Prop:=∃v:Nat→Value,g=G ((base 91).at ⟨#[.pointer (some ⟨c.Fd,0,none⟩),v 1,v 2,v 3,v 4,v 5,v 6,v 7,v 8,v 9,v 10,v 11,v 12,v 13,v 14,v 15,v 16,v 17,v 18,v 19,v 20,v 21,v 22,v 23,v 24,v 25,v 26,.pointer (some ⟨c.Fd,0,none⟩),.int .i32 o.enc,.int .i32 ({ o with w:=1,q:=o.q-1 }:Wd).enc,v 30,v 31,v 32,v 33,v 34,v 35,v 36,v 37,v 38,v 39,v 40,v 41,v 42],[]⟩ [.inRegion uO6 [5],.code Ch,.code uR8,.inBlock 1,.inLoop gD,.inBlock 0]) (b₁.at a₁ (.inRegion ops₁ (i₁ :: rest₁) :: k₁) :: cs₁)
def Ab (tW:TypeId) (Ke:Goroutine→Prop):Prop:=∀w,Ok3 c tW w→Goes Try.prog false (fun _ w=>Ok3 c tW w) DC0 (fun g _=>g.status=.running∧yUe Try.prog c tW Ke g) 40 (G (b₁.at (a₁.put ((ops₁[i₁]?).bind (·.dst)) (.tuple #[])) (.inRegion ops₁ rest₁ :: k₁)) cs₁) w
def kHv (tW:TypeId) (Ke:Goroutine→Prop) (o:Wd) (g:Goroutine):Prop:=∃a₁,Ab c b₁ a₁ ops₁ i₁ rest₁ k₁ cs₁ tW Ke∧kHu c b₁ a₁ ops₁ i₁ rest₁ k₁ cs₁ o g
end
section
variable {c:Cst} {tW:TypeId} {b₁:Frame} {a₁:Act} {ops₁:Array Oper} {i₁:Nat} {rest₁:List Nat} {k₁:List Item} {cs₁:List Frame} {Ke:Goroutine→Prop}
set_option maxRecDepth 100000 in
theorem oV {o:Wd} (l:Array Value) (hl:l.size=43) (h0:l[0]? = some (.pointer (some ⟨c.Fd,0,none⟩))) (h4:l[4]? = some (.int .i32 o.enc)) :
  kHu c b₁ a₁ ops₁ i₁ rest₁ k₁ cs₁ o (G ((base 91).at ⟨l,[]⟩ [.code gD,.inLoop gD,.inBlock 0]) (b₁.at a₁ (.inRegion ops₁ (i₁ :: rest₁) :: k₁) :: cs₁)):=by
 have e:=bU l 43 hl
 generalize hv:(fun i=>l.getD i undef)=v at e
 have fv:∀i x,l[i]? = some x→v i=x:=fun i x hx=>by rw[←hv];simp[Array.getD_eq_getD_getElem?,hx]
 refine ⟨v,?_⟩
 have q:l=#[v 0,v 1,v 2,v 3,v 4,v 5,v 6,v 7,v 8,v 9,v 10,v 11,v 12,v 13,v 14,v 15,v 16,v 17,v 18,v 19,v 20,v 21,v 22,v 23,v 24,v 25,v 26,v 27,v 28,v 29,v 30,v 31,v 32,v 33,v 34,v 35,v 36,v 37,v 38,v 39,v 40,v 41,v 42]:=e.trans rfl
 rw[fv 0 _ h0,fv 4 _ h4] at q
 rw[q]
set_option maxRecDepth 100000 in
theorem Bf {o:Wd} (l:Array Value) (hl:l.size=43) (h0:l[0]? = some (.pointer (some ⟨c.Fd,0,none⟩))) (h27:l[27]? = some (.pointer (some ⟨c.Fd,0,none⟩))) (h28:l[28]? = some (.int .i32 o.enc)) (h29:l[29]? = some (.int .i32 ({ o with w:=1,q:=o.q-1 }:Wd).enc)) :
  kUc c b₁ a₁ ops₁ i₁ rest₁ k₁ cs₁ o (G ((base 91).at ⟨l,[]⟩ [.inRegion uO6 [5],.code Ch,.code uR8,.inBlock 1,.inLoop gD,.inBlock 0]) (b₁.at a₁ (.inRegion ops₁ (i₁ :: rest₁) :: k₁) :: cs₁)):=by
 have e:=bU l 43 hl
 generalize hv:(fun i=>l.getD i undef)=v at e
 have fv:∀i x,l[i]? = some x→v i=x:=fun i x hx=>by rw[←hv];simp[Array.getD_eq_getD_getElem?,hx]
 refine ⟨v,?_⟩
 have q:l=#[v 0,v 1,v 2,v 3,v 4,v 5,v 6,v 7,v 8,v 9,v 10,v 11,v 12,v 13,v 14,v 15,v 16,v 17,v 18,v 19,v 20,v 21,v 22,v 23,v 24,v 25,v 26,v 27,v 28,v 29,v 30,v 31,v 32,v 33,v 34,v 35,v 36,v 37,v 38,v 39,v 40,v 41,v 42]:=e.trans rfl
 rw[fv 0 _ h0,fv 27 _ h27,fv 28 _ h28,fv 29 _ h29] at q
 rw[q]
set_option maxRecDepth 100000 in
set_option maxHeartbeats 8000000 in
theorem Di (hU:Ab c b₁ a₁ ops₁ i₁ rest₁ k₁ cs₁ tW Ke) {o:Wd} (ho:o.ok) (hq:o.q≤12000) (hx:o.q=0∨o.l=1∨o.w=1∨o.s=1) {g:Goroutine} (hg:kHu c b₁ a₁ ops₁ i₁ rest₁ k₁ cs₁ o g) :
  ∀w,Ok3 c tW w→Goes Try.prog false (fun _ w=>Ok3 c tW w) DC0 (fun g _=>g.status=.running∧yUe Try.prog c tW Ke g) 80 g w:=by
 obtain ⟨v,rfl⟩:=hg
 have hh:o.enc / 8=(o.q:Int):=zx ho
 intro w hF
 simp only[gD,pS,Try.f91,Option.getD_some]
 rcases zX ho hq hx with h0 | ⟨z,hz,h0,h7⟩
 ·rw[h0] at hh
  clear hx ho hq
  repeat w_go aa
  u_leave0 Try.func91 aa hF
  exact goes_le (n:=40) (by omega) (hU _ hF)
 ·have hn0:¬((o.q:Int)=0):=by omega
  have hd0:decide ((o.q:Int)=0)=false:=decide_eq_false hn0
  have hb0:((o.q:Int)==0)=false:=by simpa using hn0
  have hd1:decide (z=0)=false:=decide_eq_false hz
  have hb1:(z==0)=false:=by simpa using hz
  have hc1:(z != 0)=true:=by simpa using hz
  clear hx ho hq h0
  repeat w_go aa
  u_leave0 Try.func91 aa hF
  exact goes_le (n:=40) (by omega) (hU _ hF)
set_option maxRecDepth 100000 in
set_option maxHeartbeats 8000000 in
theorem CC {o:Wd} (ho:o.ok) (hq:o.q≤12000) (h0:o.q≠0) (hl:o.l=0) (hw:o.w=0) (hs:o.s=0) {g:Goroutine} (hg:kHu c b₁ a₁ ops₁ i₁ rest₁ k₁ cs₁ o g) :
  ∀w,Ok3 c tW w→Goes Try.prog false (fun _ w=>Ok3 c tW w) DC0 (fun g _=>g.status=.running∧kUc c b₁ a₁ ops₁ i₁ rest₁ k₁ cs₁ o g) 80 g w:=by
 obtain ⟨v,rfl⟩:=hg
 have hh:o.enc / 8=(o.q:Int):=zx ho
 have h7:bits .and .i32 o.enc 7=0:=by have:=CK ho (by omega);rw[hl,hw,hs] at this;exact this
 have hm8:=BV ho (by omega) h0
 have ho8:({ o with q:=o.q-1 }:Wd).ok:=ho
 have h2:=or2 ho8 (by show o.q-1≤12001;omega)
 generalize hW8:({ o with q:=o.q-1 }:Wd)=W8 at hm8 h2 ho8
 have hW9:({ W8 with w:=1 }:Wd)={ o with w:=1,q:=o.q-1 }:=by rw[←hW8]
 rw[hW9] at h2
 generalize hW9:({ o with w:=1,q:=o.q-1 }:Wd)=W9 at h2
 have hn0:¬((o.q:Int)=0):=by omega
 have hd0:decide ((o.q:Int)=0)=false:=decide_eq_false hn0
 have hb0:((o.q:Int)==0)=false:=by simpa using hn0
 intro w hF
 simp only[gD,pS,Try.f91,Option.getD_some]
 clear ho hq h0 hl hw hs
 repeat w_go aa
 refine Goes.stop (fun w₁ h₁=>⟨rfl,?_⟩)
 subst hW9
 exact Bf _ rfl rfl rfl rfl rfl
theorem vW (c:Cst):∀e ∈ semEvents ⟨c.Fd,1,none⟩,(∃o wr,o<2∧e=⟨.cell ⟨c.Fd,o,none⟩,wr,true⟩)∨e=mk .disable∨e=mk .enable:=by
 intro e he
 simp[semEvents] at he
 rcases he with rfl | rfl | rfl | rfl
 ·exact .inr (.inl rfl)
 ·exact .inl ⟨1,false,by omega,rfl⟩
 ·exact .inl ⟨1,true,by omega,rfl⟩
 ·exact .inr (.inr rfl)
set_option maxRecDepth 100000 in
set_option maxHeartbeats 8000000 in
theorem zu (hK:2≤c.K) (hU:Ab c b₁ a₁ ops₁ i₁ rest₁ k₁ cs₁ tW Ke) {o:Wd} (ho:o.ok) (h0:o.q≠0) {g:Goroutine} (hg:kUc c b₁ a₁ ops₁ i₁ rest₁ k₁ cs₁ o g) :
  yUc Try.prog c tW Ke (kHv c b₁ ops₁ i₁ rest₁ k₁ cs₁ tW Ke) o g:=by
 obtain ⟨v,rfl⟩:=hg
 simp only[uO6,Ch,uR8,gD,pS,Try.f91,Option.getD_some]
 refine ⟨⟨_,_,rfl⟩,fun w W m hk hm hsf hok hq hm1 _=>?_⟩
 by_cases hW:W=o
 ·subst hW
  refine ⟨.us,{ W with w:=1,q:=W.q-1 },m,_,_,_,.uch,stepG_cas_hit rfl rfl (by k_ne) rfl Try.func88 c9 cX dc .i32 c8 rfl rfl rfl hm.1 (bq hk 0),bC.st hk hK hm _,eK (o:=0) (by omega) (fun e he=>by simpa using he),rfl,.inl ⟨rfl,aO 80 rfl fun w hF=>?_⟩⟩
  clear hk hm hsf hok hq hm1
  walk_nrm
  repeat w_go aa
  refine Goes.stop (fun w₁ h₁=>?_)
  clear h₁ hF
  refine ⟨rfl,mayWake_entry rfl rfl Try.func98 lE,⟨_,_,rfl⟩,fun w W m hk hm hsf hok hq hm1 _=>⟨.ue,W,m+1,_,_,_,.us,(stepG_semrelease rfl rfl (by k_ne) rfl Try.func98 uq lE tu tZ (by simp[Act.eval]) hm.2 (bq hk 1)).trans (by rw[show IntKind.u32.wrap ((m:Int)+1)=((m+1:Nat):Int) by rw[IntKind.wrap_u32];omega]),bC.sm hk hK hm (m+1),vW c,rfl,rfl,aO 80 rfl fun w hF=>?_⟩⟩
  clear hk hm hsf hok hq hm1
  walk_nrm
  repeat w_go aa
  u_leave0 Try.func91 aa hF
  exact goes_le (n:=40) (by omega) (hU _ hF)
 ·refine ⟨.u2,W,m,_,_,_,.ucm hW,stepG_cas_miss rfl rfl (by k_ne) rfl Try.func88 c9 cX dc .i32 c8 rfl rfl rfl hm.1 (bq hk 0) (fun e=>hW (gp hok ho e)),bC.same hm,fun e he=>?_,rfl,.inr ⟨rfl,aO 80 rfl fun w hF=>?_⟩⟩
  ·simp at he
   subst he
   exact .inl ⟨0,false,by omega,rfl⟩
  clear hk hm hsf hok hq hm1
  walk_nrm
  repeat w_go aa
  refine Goes.stop (fun w₁ h₁=>?_)
  clear h₁ hF
  refine ⟨rfl,⟨_,_,rfl⟩,fun w W m hk hm hsf hok hq hm1 _=>?_⟩
  obtain ⟨k1,k2,k3⟩:=id hok
  by_cases hx:W.q=0∨W.l=1∨W.w=1∨W.s=1
  ·refine ⟨.ue,W,m,_,w,_,.u2e hx,cC rfl rfl (by k_ne) rfl rfl hm.1 AI,bC.same hm,fun e he=>by simp at he,rfl,W,hok,hq,.inl ⟨rfl,hx⟩,aO 80 rfl fun w hF=>?_⟩
   clear hk hm hsf hok hq hm1
   walk_nrm
   repeat w_nl aa
   u_c stepG_inLoop aa hF
   refine Goes.stop (fun w₁ h₁=>⟨rfl,_,hU,?_⟩)
   exact oV _ rfl rfl rfl
  ·have hy:W.q≠0∧W.l=0∧W.w=0∧W.s=0:=⟨by omega,by omega,by omega,by omega⟩
   refine ⟨.uc W,W,m,_,w,_,.u2c hy,cC rfl rfl (by k_ne) rfl rfl hm.1 AI,bC.same hm,fun e he=>by simp at he,rfl,W,hok,hq,.inr ⟨rfl,hy⟩,aO 80 rfl fun w hF=>?_⟩
   clear hk hm hsf hok hq hm1
   walk_nrm
   repeat w_nl aa
   u_c stepG_inLoop aa hF
   refine Goes.stop (fun w₁ h₁=>⟨rfl,_,hU,?_⟩)
   exact oV _ rfl rfl rfl
end
end Cs
namespace Cs
open Go.Conc Go.RowKit Go.Conc.Lib Go.ConcR.Gen Go.ConcN.Gen
open Go.ConcR (KK WgAt wgBlock stA smA rd wr mk DC0)
open Go.ConcM (OsLater goes_pad goes_le)
theorem CS:(Try.prog.funcs[(base 87).fn]?).any (·.norace)=true:=by kernel_rfl
theorem AV : (Try.f87.name == "runtime.NumGoroutine") = false := by kernel_rfl
noncomputable def unB:Code:=Try.f87.body.getD .skip
noncomputable def uwB:Code:=Try.f80.body.getD .skip
noncomputable def uwO:Array Oper:=match uwB with | .region _ o _=>o | _=>#[]
noncomputable def Dc:Array Oper:=match unB with | .seq (.cond _ (.seq _ (.seq (.region _ o _) _)) _) _=>o | _=>#[]
noncomputable def Dw:Code:=match unB with | .seq (.cond _ (.seq _ (.seq _ c)) _) _=>c | _=>.skip
noncomputable def uZ:Code:=match unB with | .seq _ c=>c | _=>.skip
noncomputable def uH:Array Oper:=match uZ with | .seq _ (.seq (.seq _ (.cond _ (.region _ o _) _)) _)=>o | _=>#[]
noncomputable def vj:Code:=match uZ with | .seq _ (.seq _ c)=>c | _=>.skip
noncomputable def uwF (c:Cst):Frame:=(baseD 80).at ⟨#[.pointer (some ⟨c.Fd,0,none⟩),undef,.pointer (some ⟨c.Fd,0,none⟩),.pointer (some ⟨c.Fd,0,none⟩),.pointer (some ⟨c.Fd,0,none⟩),undef],[]⟩ [.inRegion uwO [3]]
def kUr (c:Cst) (f:Frame) (cs:List Frame) (g:Goroutine):Prop:=∃v:Value,g=G ((base 87).at ⟨#[.pointer (some ⟨c.Fd,0,none⟩),undef,undef,.pointer (some ⟨c.Fd,0,none⟩),.pointer (some ⟨c.Fd,0,none⟩),.pointer (some ⟨c.Fd,0,none⟩),v,.pointer (some ⟨c.Fd,0,none⟩),.pointer (some ⟨c.Fd,0,none⟩),undef,undef,undef,undef,undef,undef,undef,undef,undef,undef,undef,undef],[]⟩ [.inRegion Dc [2],.code Dw,.code uZ]) (uwF c :: f :: cs)
section
variable {c:Cst} {tW tX:TypeId} {R:Nat→Array Value} {k q:Nat} {St:Goroutine→Prop} {f:Frame} {cs:List Frame}
set_option maxRecDepth 100000 in
set_option maxHeartbeats 8000000 in
theorem nL {b:Nat→Value}:∀w,Ok3 c tW w→BxR R tX k q w→bdC c w b→fu Try.prog c tW tX R k q b (kUr c f cs) 60 (G ((baseD 80).at ⟨#[.pointer (some ⟨c.Fd,0,none⟩),undef,undef,undef,undef,undef],[]⟩ [.code uwB]) (f :: cs)) w:=by
 intro w h1 h2 h3
 have hF:=And.intro h1 (And.intro h2 h3)
 clear h1 h2 h3
 unfold fu
 refine aR (D:=DC0) (fun w w' es h=>by obtain ⟨rfl,rfl⟩:=h;exact tU fun e he=>by simp at he) (fun _ _ h=>h) ?_
 simp only[uwB,Try.f80,Option.getD_some]
 repeat w_go bM
 u_call Try.func87 AV Try.f87 bM hF
 repeat w_go bM
 u_in bM hF
 obtain ⟨W,m,hm⟩:=hF.1.mu
 rw[cC rfl rfl (by k_ne) rfl rfl hm.1 CS]
 simp only[goes_go]
 refine ⟨by u_nil,?_⟩
 clear hm
 walk_nrm
 repeat w_go bM
 m_convG Try.prog eg.underlying_tUP Bg Cj (mO hF.1).choose_spec bM hF
 refine Goes.stop (fun w₁ h₁=>⟨rfl,(bM hF h₁).2.2,_,rfl⟩)
set_option maxRecDepth 100000 in
set_option maxHeartbeats 8000000 in
theorem xL (hcm:f.mode=.returning) (hT:OnA Try.prog c tW false St (G f cs)) (tm:Array Value) :
  ∀w,Ok3 c tW w→Goes Try.prog false (fun _ w=>Ok3 c tW w) DC0 (fun g _=>g.status=.running∧yUe Try.prog c tW (OnA Try.prog c tW false St) g) 40 (G ((base 87).at ⟨tm,[]⟩ [.inRegion uH [],.code vj]) (uwF c :: f :: cs)) w:=by
 intro w hF
 simp only[uH,vj,uZ,unB,Try.f87,Option.getD_some]
 repeat w_go aa
 refine Goes.stop (fun w₁ h₁=>?_)
 clear h₁ hF
 refine ⟨rfl,⟨_,_,rfl⟩,fun w W m hk hm hsf hok hq hm1 _=>⟨_,W,m,_,w,_,.ue,stepG_mark0 .enable (by simp) rfl rfl (by k_ne) rfl eg.f_enable (x_enable_n wgL) (x_enable_b wgL) (x_enable_x wgL) (x_enable_f wgL),bC.same hm,fun e he=>by simp at he;subst he;exact .inr (.inr rfl),rfl,rfl,o6 60 rfl hT fun w hF=>?_⟩⟩
 clear hk hm hsf hok hq hm1
 simp only[uwF,uwO,uwB,Try.f80,Option.getD_some]
 walk_nrm
 repeat w_go aa
 u_leave0 Try.func87 aa hF
 repeat w_go aa
 u_in aa hF
 rw[stepG_leave_deferred rfl rfl Try.func80 (results_none rfl _ _ _) (events_results_none rfl _ _) hcm]
 simp only[goes_go]
 refine ⟨by u_nil,?_⟩
 exact Goes.stop fun _ _=>rfl
theorem Dv (hcm:f.mode=.returning) (hT:OnA Try.prog c tW false St (G f cs)) (tm:Array Value) :
  Ab c (base 87) ⟨tm,[]⟩ uH 2 [] [.code vj] (uwF c :: f :: cs) tW (OnA Try.prog c tW false St):=fun w hF=>xL hcm hT _ w hF
set_option maxRecDepth 100000 in
set_option maxHeartbeats 8000000 in
theorem xC (hK:2≤c.K) (hcm:f.mode=.returning) (hT:OnA Try.prog c tW false St (G f cs)) {g:Goroutine} (hg:kUr c f cs g) :
  isG g∧∃g',(∀w,Ok3 c tW w→stepG Try.prog false g w=.go g' w #[mk (.releaseMerge (gZ c))])∧OnL Try.prog c tW (yUd Try.prog c tW (OnA Try.prog c tW false St) (kHv c (base 87) uH 2 [] [.code vj] (uwF c :: f :: cs) tW (OnA Try.prog c tW false St))) g':=by
 have ueA:=fun tm=>@Dv c tW St f cs hcm hT tm
 have ueR:=fun tm=>@xL c tW St f cs hcm hT tm
 simp only[uH,vj,uZ,unB,Try.f87,Option.getD_some] at ueR
 obtain ⟨v,rfl⟩:=hg
 simp only[Dc,Dw,uZ,unB,Try.f87,Option.getD_some]
 refine ⟨⟨_,_,rfl⟩,_,fun w _=>stepG_markAt .releaseMerge (by simp) rfl rfl (by k_ne) rfl eg.f_relMerge (x_relMerge_n wgL) (x_relMerge_b wgL) (x_relMerge_x wgL) (x_relMerge_f wgL) (by simp[Act.eval,gZ]),aO 60 rfl fun w hF=>?_⟩
 walk_nrm
 repeat w_go aa
 refine Goes.stop (fun w₁ h₁=>?_)
 clear h₁ hF
 refine ⟨rfl,⟨_,_,rfl⟩,fun w W m hk hm hsf hok hq hm1 _=>⟨_,W,m,_,w,_,.ud,stepG_mark0 .disable (by simp) rfl rfl (by k_ne) rfl eg.f_disable (x_disable_n wgL) (x_disable_b wgL) (x_disable_x wgL) (x_disable_f wgL),bC.same hm,fun e he=>by simp at he;subst he;exact .inr (.inl rfl),rfl,rfl,aO 60 rfl fun w hF=>?_⟩⟩
 clear hk hm hsf hok hq hm1
 walk_nrm
 repeat w_go aa
 refine Goes.stop (fun w₁ h₁=>?_)
 clear h₁ hF
 refine ⟨rfl,⟨_,_,rfl⟩,fun w W m hk hm hsf hok hq hm1 _=>?_⟩
 have hl1:W.l=1:=hsf.2.2.2.2.1 rfl
 have e1:=C9 hok (by omega) hl1
 have hokN:({ W with l:=0 }:Wd).ok:=⟨by show 0≤1;omega,hok.2⟩
 by_cases hs:W.s=1
 ·refine ⟨.ux,{ W with l:=0 },m,_,_,_,.u0x hs,(stepG_add_atomic rfl rfl (by k_ne) rfl Try.func90 ki kr j4 .i32 kD rfl rfl hm.1 (bq hk 0)).trans (by rw[e1]),bC.st hk hK hm _,eK (o:=0) (by omega) (fun e he=>by simpa using he),rfl,.inl ⟨rfl,aO 120 rfl fun w hF=>?_⟩⟩
  have h4:bits .and .i32 ({ W with l:=0 }:Wd).enc 4=4:=(lf hokN (by show W.q≤12001;omega)).trans (by show ((4*W.s:Nat):Int)=4;rw[hs];rfl)
  have m1:=AA hokN (by show W.q≤12001;omega) rfl
  have a1:bits .and .i32 ({ W with l:=1 }:Wd).enc 1=1:=nk (W:={ W with l:=1 }) ⟨by show 1≤1;omega,hok.2⟩ (by show W.q≤12001;omega)
  rw[show ({ ({ W with l:=0 }:Wd) with l:=1 }:Wd)={ W with l:=1 } from rfl] at m1
  have nz:({ W with l:=0 }:Wd).enc≠0:=by simp only[Wd.enc];omega
  generalize ({ W with l:=0 }:Wd).enc=Z at h4 m1 nz ⊢
  generalize ({ W with l:=1 }:Wd).enc=Z1 at m1 a1
  have nz1:decide (Z=0)=false:=decide_eq_false nz
  have nz2:(Z==0)=false:=by simpa using nz
  have nz3:(Z != 0)=true:=by simpa using nz
  clear hk hm hsf hok hq hm1 hl1 e1 hokN hs
  walk_nrm
  repeat w_go aa
  u_call Try.func91 rK Try.f91 aa hF
  repeat w_go aa
  refine Goes.stop (fun w₁ h₁=>?_)
  clear h₁ hF
  refine ⟨rfl,mayWake_entry rfl rfl Try.func98 lE,⟨_,_,rfl⟩,fun w W m hk hm hsf hok hq hm1 _=>⟨.ue,W,m+1,_,_,_,.ux,(stepG_semrelease rfl rfl (by k_ne) rfl Try.func98 uq lE tu tZ (by simp[Act.eval]) hm.2 (bq hk 1)).trans (by rw[show IntKind.u32.wrap ((m:Int)+1)=((m+1:Nat):Int) by rw[IntKind.wrap_u32];omega]),bC.sm hk hK hm (m+1),vW c,rfl,rfl,aO 80 rfl fun w hF=>?_⟩⟩
  clear hk hm hsf hok hq hm1
  walk_nrm
  repeat w_go aa
  u_leave0 Try.func91 aa hF
  exact goes_le (n:=40) (by omega) (ueR _ _ hF)
 ·have hs0:W.s=0:=by have:=hok.2.2;omega
  by_cases hz:W.q=0∧W.w=0
  ·refine ⟨.ue,{ W with l:=0 },m,_,_,_,.u0e hs0 (.inl hz.1),(stepG_add_atomic rfl rfl (by k_ne) rfl Try.func90 ki kr j4 .i32 kD rfl rfl hm.1 (bq hk 0)).trans (by rw[e1]),bC.st hk hK hm _,eK (o:=0) (by omega) (fun e he=>by simpa using he),rfl,.inr (.inl ⟨rfl,aO 120 rfl fun w hF=>?_⟩)⟩
   have nz:({ W with l:=0 }:Wd).enc=0:=by simp only[Wd.enc];omega
   generalize ({ W with l:=0 }:Wd).enc=Z at nz ⊢
   subst nz
   clear hk hm hsf hok hq hm1 hl1 e1 hokN hs hs0 hz
   walk_nrm
   repeat w_go aa
   refine Goes.stop (fun w₁ h₁=>?_)
   clear h₁ hF
   refine ⟨rfl,⟨_,_,rfl⟩,fun w W m hk hm hsf hok hq hm1 _=>⟨_,W,m,_,w,_,.ue,stepG_mark0 .enable (by simp) rfl rfl (by k_ne) rfl eg.f_enable (x_enable_n wgL) (x_enable_b wgL) (x_enable_x wgL) (x_enable_f wgL),bC.same hm,fun e he=>by simp at he;subst he;exact .inr (.inr rfl),rfl,rfl,o6 60 rfl hT fun w hF=>?_⟩⟩
   clear hk hm hsf hok hq hm1
   simp only[uwF,uwO,uwB,Try.f80,Option.getD_some]
   walk_nrm
   repeat w_go aa
   u_leave0 Try.func87 aa hF
   repeat w_go aa
   u_in aa hF
   rw[stepG_leave_deferred rfl rfl Try.func80 (results_none rfl _ _ _) (events_results_none rfl _ _) hcm]
   simp only[goes_go]
   refine ⟨by u_nil,?_⟩
   exact Goes.stop fun _ _=>rfl
  ·have nz:({ W with l:=0 }:Wd).enc≠0:=by simp only[Wd.enc];omega
   have h4:bits .and .i32 ({ W with l:=0 }:Wd).enc 4=0:=(lf hokN (by show W.q≤12001;omega)).trans (by show ((4*W.s:Nat):Int)=0;rw[hs0];rfl)
   have m1:=AA hokN (by show W.q≤12001;omega) rfl
   have a1:bits .and .i32 ({ W with l:=1 }:Wd).enc 1=1:=nk (W:={ W with l:=1 }) ⟨by show 1≤1;omega,hok.2⟩ (by show W.q≤12001;omega)
   rw[show ({ ({ W with l:=0 }:Wd) with l:=1 }:Wd)={ W with l:=1 } from rfl] at m1
   by_cases hx:W.q=0∨W.w=1
   ·refine ⟨.ue,{ W with l:=0 },m,_,_,_,.u0e hs0 hx,(stepG_add_atomic rfl rfl (by k_ne) rfl Try.func90 ki kr j4 .i32 kD rfl rfl hm.1 (bq hk 0)).trans (by rw[e1]),bC.st hk hK hm _,eK (o:=0) (by omega) (fun e he=>by simpa using he),rfl,.inr (.inr ⟨_,hokN,hq,.inl ⟨rfl,hx.elim .inl fun x=>.inr (.inr (.inl x))⟩,aO 160 rfl fun w hF=>?_⟩)⟩
    generalize hN:({ W with l:=0 }:Wd)=N at h4 m1 nz ⊢
    generalize ({ W with l:=1 }:Wd).enc=Z1 at m1 a1
    have nz1:decide (N.enc=0)=false:=decide_eq_false nz
    have nz2:(N.enc==0)=false:=by simpa using nz
    have nz3:(N.enc != 0)=true:=by simpa using nz
    clear hk hm hsf hok hq hm1 hl1 e1 hokN hs hs0 hz hN hx
    walk_nrm
    repeat w_go aa
    u_call Try.func91 rK Try.f91 aa hF
    repeat w_but "code.loop" aa
    u_c stepG_loop aa hF
    refine Goes.stop (fun w₁ h₁=>⟨rfl,?_⟩)
    exact ⟨_,ueA _,oV _ rfl rfl rfl⟩
   ·refine ⟨.uc { W with l:=0 },{ W with l:=0 },m,_,_,_,.u0c hs0 (by omega) (by have:=hok.2.1;omega),(stepG_add_atomic rfl rfl (by k_ne) rfl Try.func90 ki kr j4 .i32 kD rfl rfl hm.1 (bq hk 0)).trans (by rw[e1]),bC.st hk hK hm _,eK (o:=0) (by omega) (fun e he=>by simpa using he),rfl,.inr (.inr ⟨_,hokN,hq,.inr ⟨rfl,by show W.q≠0;omega,rfl,by show W.w=0;have:=hok.2.1;omega,hs0⟩,aO 160 rfl fun w hF=>?_⟩)⟩
    generalize hN:({ W with l:=0 }:Wd)=N at h4 m1 nz ⊢
    generalize ({ W with l:=1 }:Wd).enc=Z1 at m1 a1
    have nz1:decide (N.enc=0)=false:=decide_eq_false nz
    have nz2:(N.enc==0)=false:=by simpa using nz
    have nz3:(N.enc != 0)=true:=by simpa using nz
    clear hk hm hsf hok hq hm1 hl1 e1 hokN hs hs0 hz hN hx
    walk_nrm
    repeat w_go aa
    u_call Try.func91 rK Try.f91 aa hF
    repeat w_but "code.loop" aa
    u_c stepG_loop aa hF
    refine Goes.stop (fun w₁ h₁=>⟨rfl,?_⟩)
    exact ⟨_,ueA _,oV _ rfl rfl rfl⟩
end
end Cs
end Go.Proofs.Ytpdemelchhkfaaa
