import Derived.Test.YtpcnpkhgjanamaaGreatDoorPz
import Derived.Test.YtpcnpkhgjanamaaGreatDoorJn43
namespace Go.Proofs.YtpcnpkhgjanamaaGreatDoor
open Go.Proofs.Tryz renaming prog→qf,underlying35→WH,f3→ZO
open Go renaming Value→R2,World→V8,undef→Wb
open Go.RowKit renaming Below→Wh
open _root_.List renaming range'→Xx,replicate→XX
open _root_.Array renaming replicate→Ye
set_option maxRecDepth 100000
set_option maxHeartbeats 8000000
section
open Go.RowKit PK Vg
theorem UD.nth{W:V8}{v:R2}{L:List Nat}{h:Hl}(k:UD W v L h)(hL:0<L.length):∃b o c,v=.slice (some ⟨b,o,none⟩) L.length c∧∀i,i<L.length→∃x y u z,W.cell? ⟨b,o+i*2,none⟩=some (.slice x h.n y)∧W.cell? ⟨b,o+i*2+1,none⟩=some (.slice u (h.lg (L.getD i 0)).length z)∧rB W (.slice x h.n y) (.slice u (h.lg (L.getD i 0)).length z) h (L.getD i 0):=by
 obtain⟨a,c,rfl,h2⟩:=k;have hi:∀i,i<L.length→L[i]?=some (L.getD i 0):=fun i hi=>by rw[Wu hi];simp[List.getD,List.getElem?_eq_getElem hi]
 obtain⟨b,o,_,_,rfl,_⟩:=h2 0 _ (hi 0 hL);refine⟨b,o,c,rfl,fun i hil=>?_⟩;obtain⟨b',o',us,ug,e,e1,e2,e3⟩:=h2 i _ (hi i hil);cases e;obtain⟨x,y,hx,_⟩:=e3.1;obtain⟨u,z,hz,_⟩:=e3.2;subst hx hz;rw[Nat.mul_comm]at e1 e2;exact⟨x,y,u,z,e1,e2,e3⟩
end
section
open Go.RowKit PK Vg Go.Conc Cs
theorem BG{E:Env}{u v:R2}(h:VR E u v):VR E (.tuple #[u,.int .i64 0]) (.tuple #[v,.int .i64 0]):=by
 refine .tuple rfl fun i x y hx hy=>?_
 match i,hx,hy with
 |0,hx,hy=>simp at hx hy;subst hx hy;exact h
 |1,hx,hy=>simp at hx hy;subst hx hy;exact .int .i64 0
 |i+2,hx,hy=>simp at hx
theorem Gx{g:Gm}{hl:Hl}(hn3:g.n≤3):(hl.bU (26 ^ g.n)).length≤1000000:=by
 refine Ws (hl.NL _) ?_;rcases(by omega:g.n=0∨g.n=1∨g.n=2∨g.n=3)with h|h|h|h<;>rw[h]<;>decide
theorem fL{w1 w2 w3:V8}(h:Kept w1 w2)(k:Kept w2 w3):Kept w1 w3:=⟨fun b hb=>(k.1 b (by
 have h1:=h.1 b hb;have h2:(w2.heap[b]?).isSome=true:=by rw[h1];simp[hb]
 simpa using h2)).trans (h.1 b hb),k.2.1.trans h.2.1,k.2.2.trans h.2.2⟩
theorem Lr{W w10:V8}{g0 g10:Goroutine}{gs10:Array Goroutine}{sl10:Option (Nat×Nat)}{t10:Trace}{q10:Nat→Nat}{NN:Nat}(hr:runNT qf NN (crowd #[g0] W none) #[]=(.next (crowd gs10 w10 sl10),t10))(i10:gs10[0]?=some g10)(hrun10:g10.status=.running)(hend10:∀W,stepG qf true g10 W=.ended (.done (.bool true)) W #[])(Q10:Qt qf gs10 t10 q10 w10.heap.size)(hkept:Kept W w10):
  ∃N last o w' t',runNT qf (N+1) (solo g0 W) #[]=(.ended o w',t')∧runN qf N (solo g0 W)=.next last∧step qf last=.ended o w'∧Conc.Good qf (fun v W'=>v=.bool true∧Kept W W') last o w' t':=by
 obtain⟨B0,hP⟩:=Q10.past
 obtain⟨N11,last,o,w',t',e1,e2,e3,e4⟩:=beside_ends (P:=qf) (Shun:=fun _=>False) (B:=B0) (D:=fun _ _ _=>False) (Post:=fun v W'=>v=.bool true∧Kept W W') (sl:=sl10) (n:=0) (fun _ _ _ h=>h.elim) i10 Q10.NG (hP B0 (R3 _)) (Goes.stop fun w₂ h₂=>by
  obtain⟨d,rfl⟩:=h₂;exact⟨hrun10,.bool true,#[],hend10 _,fun e he=>by simp at he,rfl,hkept⟩)
 rw[solo_eq_crowd];refine⟨NN+N11,last,o,w',t',?_,?_,e3,e4⟩
 ·rw[XS NN N11 1,runNT_add,hr]
  exact e1
 ·rw[←runNT_fst _ _ _ #[],runNT_add,hr]
  show(runNT qf N11 (crowd gs10 w10 sl10) t10).1=_;rw[runNT_fst];exact e2
def Cs.UF(cr te:ByteArray)(h:Int)(b9 b11:Nat)(T:Array R2):Prop:=T.size=162∧T[1]?=some (.string cr)∧T[2]?=some (.int .i64 h)∧T[9]?=some (.pointer (some ⟨b9,0,none⟩))∧T[10]?=some (.string te)∧T[11]?=some (.pointer (some ⟨b11,0,none⟩))
noncomputable def Cs.El:Array Oper:=match kD with|.seq (.region _ o _) _=>o|_=>#[]
noncomputable def Cs.kF:Code:=match kD with|.seq _ r=>r|_=>.skip
theorem UR(T A:Array R2)(hA:A.size=55)(cr te:ByteArray)(h:Int)(b9 b11:Nat)(hT:UF cr te h b9 b11 T)(H:Array Obj)(o:Os)(out:Array (Nat×ByteArray))(w:V8)(hI:HI H o out w)(hb:H[b11]?=some (.cells A 35 (0,0))):
  ∃mu:Nat,Goes qf true AtRel DW (fun g' w'=>(∃T',UF cr te h b9 b11 T'∧g'=G ((base 8).at ⟨#[.agg A,.string cr,.string te,.int .i64 h,Wb,Wb,Wb,Wb,Wb,Wb,Wb,Wb,Wb,Wb,Wb,Wb,Wb,Wb,Wb,Wb,Wb,Wb,Wb,Wb,Wb,Wb,Wb,Wb],[]⟩ [.code bB]) [aL 3 T' [.inRegion C9 (4 :: Xx 5 5),.code (oG kM kD)] .run])∧HI H o out w') mu (G (aL 3 T [.code kC] .run) []) w:=by
 have b:(qf.info? 35).map (·.size)=some A.size:=by rw[hA];exact aE
 obtain⟨x,rfl,hx⟩:=y4 T hT.1;have e1:=hx _ _ hT.2.1;have e2:=hx _ _ hT.2.2.1;have e9:=hx _ _ hT.2.2.2.1;have e10:=hx _ _ hT.2.2.2.2.1;have e11:=hx _ _ hT.2.2.2.2.2;clear hT hx;refine⟨40,?_⟩;simp only[wD,e1,e2,e9,e10,e11,kC,kB,ZO,Ww];clear e1 e2 e9 e10 e11;show Goes _ _ _ _ _ _ (G ((base 3).at ⟨_,[]⟩ _) []) w
 repeat(first
  |refine jP aS hI rfl rfl vde (fun _=>rfl) (fun _=>rfl) (fun w₁ hI=>?_)
  |(refine bQ hI rfl (fun w₁ h₁=>?_);walk_rw;refine⟨aS _,?_⟩;clear hI;have hI:=h₁;clear h₁))
 refine AP hI rfl rfl vde rfl rfl hb WH rfl b (fun w₁ hI=>?_)
 repeat(first
  |refine jP aS hI rfl rfl vde (fun _=>rfl) (fun _=>rfl) (fun w₁ hI=>?_)
  |(refine bQ hI rfl (fun w₁ h₁=>?_);walk_rw;refine⟨aS _,?_⟩;clear hI;have hI:=h₁;clear h₁))
 refine bQ hI rfl (fun w₁ h₁=>?_);refine goes_call rfl rfl vde rfl Tryz.func8 vkr rfl ?_;refine⟨aS _,?_⟩
 exact Goes.stop fun w₂ h₂=>by
  obtain⟨d,rfl⟩:=h₂;refine⟨?_,h₁⟩
  have e1:∀(a:Act),a.eval (.tmp 89)=.agg A→a.eval (.tmp 90)=.string cr→a.eval (.tmp 91)=.string te→a.eval (.tmp 92)=.int .i64 h→(#[Operand.tmp 89,.tmp 90,.tmp 91,.tmp 92].map a.eval++Ye (Tryz.f8.ntmps-(#[Operand.tmp 89,.tmp 90,.tmp 91,.tmp 92].map a.eval).size) Wb)=#[.agg A,.string cr,.string te,.int .i64 h,Wb,Wb,Wb,Wb,Wb,Wb,Wb,Wb,Wb,Wb,Wb,Wb,Wb,Wb,Wb,Wb,Wb,Wb,Wb,Wb,Wb,Wb,Wb,Wb]:=fun a k0 k1 k2 k3=>by
   simp[k0,k1,k2,k3,Ye,XX]
  rw[e1 _ rfl rfl rfl rfl];apply Exists.intro;apply And.intro
  rotate_left
  ·rfl
  ·exact⟨rfl,rfl,rfl,rfl,rfl,rfl⟩
theorem Qw(T:Array R2)(v:R2):(aL 3 T [.inRegion C9 (4 :: Xx 5 5),.code (oG kM kD)] .run).finish v=aL 3 (T.setIfInBounds 93 v) [.inRegion C9 (Xx 5 5),.code (oG kM kD)] .run:=vkr
theorem Sd(T:Array R2)(v:R2):(aL 3 T [.inRegion El (3 :: Xx 4 5),.code kF] .run).finish v=aL 3 (T.setIfInBounds 146 v) [.inRegion El (Xx 4 5),.code kF] .run:=vkr
theorem UH(T A B:Array R2)(hA:A.size=55)(hB:B.size=3)(h:Int)(b9 b11 b19:Nat)(hT:T.size=162∧T[2]?=some (.int .i64 h)∧T[9]?=some (.pointer (some ⟨b9,0,none⟩))∧T[11]?=some (.pointer (some ⟨b11,0,none⟩))∧T[19]?=some (.pointer (some ⟨b19,0,none⟩)))(H:Array Obj)(o:Os)(out:Array (Nat×ByteArray))(w:V8)(hI:HI H o out w)(hb:H[b11]?=some (.cells A 35 (0,0)))(hc:H[b19]?=some (.cells B 50 (0,0))):
  ∃mu:Nat,Goes qf true AtRel DW (fun g' w'=>(∃T',(T'.size=162∧T'[9]?=some (.pointer (some ⟨b9,0,none⟩)))∧g'=G ((base 11).at ⟨#[.agg A,.agg B,.int .i64 h,Wb,Wb,Wb,Wb,Wb,Wb,Wb,Wb,Wb,Wb,Wb],[]⟩ [.code fB]) [aL 3 T' [.inRegion El (3 :: Xx 4 5),.code kF] .run])∧HI H o out w') mu (G (aL 3 T [.code kD] .run) []) w:=by
 have b:(qf.info? 35).map (·.size)=some A.size:=by rw[hA];exact aE
 have c:(qf.info? 50).map (·.size)=some B.size:=by rw[hB];exact fA
 obtain⟨x,rfl,hx⟩:=y4 T hT.1;have e2:=hx _ _ hT.2.1;have e9:=hx _ _ hT.2.2.1;have e11:=hx _ _ hT.2.2.2.1;have e19:=hx _ _ hT.2.2.2.2;clear hT hx;refine⟨40,?_⟩;simp only[wD,e2,e9,e11,e19,kD,kC,kB,ZO,Ww];clear e2 e9 e11 e19;show Goes _ _ _ _ _ _ (G ((base 3).at ⟨_,[]⟩ _) []) w
 repeat(first
  |refine jP aS hI rfl rfl vde (fun _=>rfl) (fun _=>rfl) (fun w₁ hI=>?_)
  |(refine bQ hI rfl (fun w₁ h₁=>?_);walk_rw;refine⟨aS _,?_⟩;clear hI;have hI:=h₁;clear h₁))
 refine AP hI rfl rfl vde rfl rfl hb WH rfl b (fun w₁ hI=>?_);refine AP hI rfl rfl vde rfl rfl hc Tryz.underlying50 rfl c (fun w₁ hI=>?_)
 repeat(first
  |refine jP aS hI rfl rfl vde (fun _=>rfl) (fun _=>rfl) (fun w₁ hI=>?_)
  |(refine bQ hI rfl (fun w₁ h₁=>?_);walk_rw;refine⟨aS _,?_⟩;clear hI;have hI:=h₁;clear h₁))
 refine bQ hI rfl (fun w₁ h₁=>?_);refine goes_call rfl rfl vde rfl Tryz.func11 vkr rfl ?_;refine⟨aS _,?_⟩
 exact Goes.stop fun w₂ h₂=>by
  obtain⟨d,rfl⟩:=h₂;refine⟨?_,h₁⟩
  have e1:∀(a:Act),a.eval (.tmp 143)=.agg A→a.eval (.tmp 144)=.agg B→a.eval (.tmp 145)=.int .i64 h→(#[Operand.tmp 143,.tmp 144,.tmp 145].map a.eval++Ye (Tryz.f11.ntmps-(#[Operand.tmp 143,.tmp 144,.tmp 145].map a.eval).size) Wb)=#[.agg A,.agg B,.int .i64 h,Wb,Wb,Wb,Wb,Wb,Wb,Wb,Wb,Wb,Wb,Wb]:=fun a k0 k1 k2=>by
   simp[k0,k1,k2,Ye,XX]
  rw[e1 _ rfl rfl rfl];apply Exists.intro;apply And.intro
  rotate_left
  ·rfl
  ·exact⟨rfl,rfl⟩
end
section
open Go.RowKit PK Vg
theorem MO(M:Om.Ma):∀(l:List UInt8) (at':Nat→Nat) (i:Nat),i<l.length→(Om.wr M at' l).getD i 0=oB (Om.now M (Om.steps M at' (i+1)) (Vg.num (l.getD i 0)))
 |[],_,i,h=>by simp at h
 |c :: l,at',0,_=>rfl
 |c :: l,at',i+1,h=>by
  have ih:=MO M l (Om.step M at') i (by simpa using h);rw[Om.ov]at ih;exact ih
theorem qU{M:Om.Ma}(hM:Om.Ok M){m:Bo.Mn}(hm:m.Ok)(hs:∀i,m.s i=eA (Om.bA M) i)(hy:∀i,i<m.k→m.y i=eA M i (m.x i)){A:Nat}(hA:A<26){x y:Nat}(hd:Bo.nP m A (M.pl A) x y):M.pl x=y:=by
 have hU:=Om.gX hM;have hb:=hM.pl.lt A hA
 induction hd with
 |base=>rfl
 |@sym x y h1 ih=>rw[←ih];exact hM.zD _ (h1.lt hm hA hb).1
 |@fwd i y hi h1 ih=>
  have hx:=hm.x i hi;rw[hy i hi,nH hM i hx,ih,hs i];exact hM.zD _ ((Om.eM hU _).lt _ (h1.lt hm hA hb).2)
 |@bwd i y hi h1 ih=>
  have hx:=hm.x i hi;have a:=hM.pl.lt _ hx;have b:eA (Om.bA M) i (M.pl (m.x i))<26:=(Om.eM hU _).lt _ a;rw[hy i hi,nH hM i hx,hM.zD _ b]at ih;rw[←ih,hs i];exact(Om.Ph hU _ a).symm
theorem Hp{M:Om.Ma}(hM:Om.Ok M){m:Bo.Mn}(hm:m.Ok)(hs:∀i,m.s i=eA (Om.bA M) i)(hy:∀i,i<m.k→m.y i=eA M i (m.x i)){A:Nat}(hA:A<26){ok:Bool}{p:Nat→Int}(h:Bo.tq m A (M.pl A) ok p):ok=true∧∀c,c<26→p c=-1∨p c=(M.pl c:Nat):=by
 rcases h with⟨h1,h2,_⟩|⟨_,⟨x,y,z,h1,h2,h3⟩,_⟩
 ·refine⟨h1,fun c hc=>?_⟩
  rcases h2 c hc with e|⟨y,_,e,hd⟩
  ·exact .inl e
  ·exact .inr (by rw[e,qU hM hm hs hy hA hd])
 ·exact absurd ((qU hM hm hs hy hA h1).symm.trans (qU hM hm hs hy hA h2)) h3
theorem T9{ok:Nat→Bool}{b:Nat}(hb:b<26)(h:ok b=true):∃j,j<(fO ok 26).length∧(fO ok 26).getD j 0=b:=by
 have hm:b∈fO ok 26:=by
  unfold fO;rw[Yj];exact⟨by simpa using hb,h⟩
 obtain⟨j,hj,e⟩:=YB.1 hm;exact⟨j,hj,by rw[Xu,Wu hj,e];rfl⟩
theorem vL{g:Gm}{cr:ByteArray}{te:ByteArray}(hE:Ck g cr.data.toList=0)(hte:te=⟨(Jm g cr.data.toList).toArray⟩):gE g=0∧gx cr.data.toList=0∧Ah g cr.data.toList te.data.toList=(if cr.data.toList.length<1∨32<cr.data.toList.length then 5 else 0)∧∀i,i<cr.data.toList.length→Vg.num (te.data.toList.getD i 0)=eA (bZ g) i (Vg.num (cr.data.toList.getD i 0)):=by
 obtain⟨h1,h2⟩:=Kr hE;obtain⟨hM,_⟩:=fq h1
 have b:Ls cr.data.toList∧cr.data.toList.length≤65536:=by
  rcases lW cr.data.toList with⟨_,_,h3,h4⟩|h3
  ·exact⟨Jz h4,h3⟩
  ·rw[h2]at h3;cases h3
 have hl:te.data.toList=Om.wr (bZ g) (bZ g).st cr.data.toList:=by
  rw[hte];unfold Jm;rw[V9 (fun h=>h hE)]
 have c:te.data.toList.length=cr.data.toList.length:=by rw[hl,Om.gh]
 have k:gx te.data.toList=0:=by
  rw[hl];exact(Ke (Om.EL hM _ b.1) (by rw[Om.gh];exact b.2)).1
 have l:∀i,i<cr.data.toList.length→te.data.toList.getD i 0=oB (eA (bZ g) i (Vg.num (cr.data.toList.getD i 0))):=fun i hi=>by
  rw[hl,MO _ _ _ i hi]
  rfl
 have d:∀i,i<cr.data.toList.length→Vg.num (cr.data.toList.getD i 0)<26:=fun i hi=>oJ (b.1.at hi);have f:∀i,i<cr.data.toList.length→eA (bZ g) i (Vg.num (cr.data.toList.getD i 0))<26:=fun i hi=>(Om.eM hM _).lt _ (d i hi);have a:∀i,i<cr.data.toList.length→Vg.num (te.data.toList.getD i 0)=eA (bZ g) i (Vg.num (cr.data.toList.getD i 0)):=fun i hi=>by rw[l i hi,FW (f i hi)]
 refine⟨h1,h2,?_,a⟩
 have j:mt te.data.toList cr.data.toList 0=false:=Cj fun i hi e=>by
  rw[WN]at e;have h3:=a i hi;rw[e]at h3;exact Om.J3 hM (Om.steps (bZ g) (bZ g).st (i+1)) (d i hi) h3.symm
 unfold Ah Aa;rw[h1,h2,k,c,j];simp
theorem M9{n N M:Nat}(hn:n=1∨n=2)(hN:N<26 ^ n)(hM:M<26 ^ n)(h:∀i,i<n→dx n N i=dx n M i):N=M:=by
 rcases hn with rfl|rfl
 ·have h0:=h 0 vde
  unfold dx at h0;simp at h0;omega
 ·have h0:=h 0 vde
  have h1:=h 1 vde;unfold dx at h0 h1;simp at h0 h1;omega
theorem qS{g:Gm}(h:gE g=0):1≤g.n∧g.sl=g.n∧∀i,i<g.sl→0≤g.st i∧g.st i<26:=by
 unfold gE at h;by_cases h1:g.n<1∨4<g.n
 ·rw[Wc h1]at h;cases h
 rw[V9 h1]at h;by_cases h2:jR g g.n≠0
 ·rw[Wc h2]at h;exact absurd h h2
 rw[V9 h2]at h;by_cases h3:g.rl≠g.n
 ·rw[Wc h3]at h;cases h
 rw[V9 h3]at h;by_cases h4:ins g.rl g.ri=false
 ·rw[Wc h4]at h;cases h
 rw[V9 h4]at h;by_cases h5:g.sl≠g.n
 ·rw[Wc h5]at h;cases h
 rw[V9 h5]at h;by_cases h6:ins g.sl g.st=false
 ·rw[Wc h6]at h;cases h
 refine⟨vom,Decidable.not_not.1 h5,fun i hi=>by have:=(nt _ _).1 (by simpa using h6) i hi;omega⟩
theorem L7{g:Gm}(h:gE g=0)(hn2:g.n≤2):∃N0,N0<26 ^ g.n∧∀i,i<g.sl→g.st i=(((dx g.n N0 i:Nat):Int)):=by
 obtain⟨h1,h2,h3⟩:=qS h;rcases(by omega:g.n=1∨g.n=2)with hn|hn
 ·have k0:=h3 0 vom
  refine⟨(g.st 0).toNat,by rw[hn];omega,fun i hi=>?_⟩;obtain rfl:i=0:=vom;unfold dx;rw[hn];show g.st 0=(((g.st 0).toNat / 26 ^ 0 % 26:Nat):Int);rw[Nat.pow_zero,Nat.div_one];omega
 ·have k0:=h3 0 vom
  have k1:=h3 1 vom;refine⟨(g.st 0).toNat*26+(g.st 1).toNat,by rw[hn];omega,fun i hi=>?_⟩;unfold dx;rw[hn];rcases(by omega:i=0∨i=1)with rfl|rfl
  ·show g.st 0=((((g.st 0).toNat*26+(g.st 1).toNat) / 26 ^ 1 % 26:Nat):Int)
   rw[Nat.pow_one];omega
  ·show g.st 1=((((g.st 0).toNat*26+(g.st 1).toNat) / 26 ^ 0 % 26:Nat):Int)
   rw[Nat.pow_zero,Nat.div_one];omega
def Hh(g:Gm)(i:Nat):Nat:=(typeOf (qz (bZ g) i)).length
def MU(g:Gm)(i q:Nat):Int:=(((typeOf (qz (bZ g) i)).getD q 0:Nat):Int)
theorem L5(n:Nat)(f:Nat→Int):uL n n f f=true:=gB.2 ⟨rfl,fun _ _=>rfl⟩
theorem xP(n:Nat→Nat)(f:Nat→Nat→Int):∀k,ru n n f f k=true
 |0=>rfl
 |k+1=>by show(ru n n f f k&&uL (n k) (n k) (f k) (f k))=true;rw[xP n f k,L5];rfl
theorem OK{g:Gm}{N:Nat}(h:ie g N=g):nL g (Hh g) (MU g) N=true:=by
 unfold nL;rw[h];exact xP (Hh g) (MU g) 3
structure Qx(g:Gm)(hl:Hl)(N0 A PA:Nat)(pr:Nat→Nat→Int)(L:List Nat):Prop where
 gs:hl.gs N0=fun b=>CU A b (pr b)
 lg:hl.lg N0=L
 a:A<26
 pl:g.pl A=(PA:Nat)
 at_:∃j,j<L.length∧L.getD j 0=PA
 len:L.length≤26
theorem Io{g:Gm}{hl:Hl}{cr te:ByteArray}(hBm:S7 (bare g) hl cr te){N0:Nat}(hN0:ie g N0=g)(hE:Ck g cr.data.toList=0)(hte:te=⟨(Jm g cr.data.toList).toArray⟩):∃A PA pr L,Qx g hl N0 A PA pr L:=by
 obtain⟨A,ok,pr,ht,e1,e2⟩:=hBm.t N0;rw[show ie (bare g) N0=bare (ie g N0)from rfl,hN0]at ht;obtain⟨b,_,_,c⟩:=vL hE hte;obtain⟨f,_⟩:=Dk ht.e;obtain⟨hM,_⟩:=fq b;have s1:=Pl.aN cr;have hA:A<26:=by rw[ht.a];exact Bo.zY _
 have h:∀i,i<(mL (bare g) cr te).k→(mL (bare g) cr te).y i=eA (bZ g) i ((mL (bare g) cr te).x i):=fun i hi=>c i (by have:i<cr.size:=hi;omega);have d:=hM.pl.lt A hA;have j:=Hp hM f (fun i=>rfl) h hA (ht.res _ d);exact⟨A,(bZ g).pl A,pr,fO ok 26,e1,e2,hA,(kR (yJ b).2.2.2.2.2.1).2 A hA,T9 d j.1,zo ok 26⟩
theorem ur{g:Gm}(hg:gE g=0)(i:Nat):typeOf (qz (bZ (bare g)) i)=typeOf (qz (bZ g) i):=by
 obtain⟨hM,_⟩:=fq hg;have a:=(fq (tP hg)).1;have b:=KZ hM;rw[←Oc]at b;have h1:=DD ((lZ a i).lC hM.pl) (lZ hM i) (b i);rw[He (lZ a i) hM.pl]at h1;exact h1
theorem MS{g:Gm}{N:Nat}(hg:gE g=0)(h:ie g N=g):nL (bare g) (Hh g) (MU g) N=true:=by
 have e:ie (bare g) N=bare g:=by
  have h1:ie (bare g) N=bare (ie g N):=rfl;rw[h1,h]
 have hm:Hh (bare g)=Hh g:=YP fun i=>by unfold Hh;rw[ur hg]
 have hf:MU (bare g)=MU g:=YP fun i=>funext fun q=>by unfold MU;rw[ur hg]
 have:=OK e;rw[hm,hf]at this;exact this
end
section
open Go.RowKit PK Vg Go.Conc Cs
theorem zU:(qf.info? 48).map (·.zero)=some (some (.agg (ints 28 fun _=>0))):=vkr
def Ut(y:Nat→R2)(g:Gm)(n:Nat)(T:Array R2)(W:V8):Prop:=
 T.size=162∧T[2]?=some (y 2)∧T[9]?=some (y 9)∧T[11]?=some (y 11)∧∃q V,T[19]?=some (.pointer (some ⟨q,0,none⟩))∧n≤q∧af W q 50 (bJ 3 V)∧rY W V 3 (qz (bZ g))
theorem Sy(y:Nat→R2)(l9:Nat)(a b c u:R2)(g:Gm)(hl:Hl)(hln:hl.n=g.n)(h26:∀N,(hl.lg N).length≤26)(N0 A PA:Nat)(pr:Nat→Nat→Int)(LG:List Nat)(hO:Qx g hl N0 A PA pr LG)(hN0:ie g N0=g)(hN1:N0<26 ^ g.n)(hgE:gE g=0)(hn2:g.n≤2)(TM:TypeId)(fM:Nat×Nat)(w:V8)(hM:w.heap[l9]?=some (.cells (aP a b c g.rf g.pl) TM fM))(hm:cL w (.agg (aP a b c g.rf g.pl)) g)(hu:M1 w u (hl.bU (26 ^ g.n)) hl)(h9:y 9=.pointer (some ⟨l9,0,none⟩))(h93:y 93=.tuple #[u,.int .i64 0]):
  wpOps qf C9 (Exit.then ((oG kM .skip).wp qf (EN (Ut y g w.heap.size))) (EN (Ut y g w.heap.size))) (Xx 5 5) ⟨wD y,[]⟩ w:=by
 obtain⟨hn1,r8,_⟩:=qS hgE;have z6:=Gx (hl:=hl) (g:=g) vom
 obtain⟨j0,u5,u6⟩:∃j,j<(hl.bU (26 ^ g.n)).length∧(hl.bU (26 ^ g.n)).getD j 0=N0:=by
  have hp:hl.p N0=true:=by
   obtain⟨j,hj,_⟩:=hO.at_;exact YA (by rw[hO.lg];omega)
  have r5:N0∈hl.bU (26 ^ g.n):=by
   unfold Hl.bU;rw[Yj];exact⟨by simpa using hN1,hp⟩
  obtain⟨j,hj,e⟩:=YB.1 r5;exact⟨j,hj,by rw[Xu,Wu hj,e];rfl⟩
 obtain⟨ab,ao,ac,rfl,q8⟩:=hu.r.nth vom;have HA:Hid _:=q8
 have t:∀i,g.st i=(((dx g.n N0 i:Nat):Int)):=fun i=>by
  rw[←XI Gm.st hN0]
  rfl
 have E:Hid (∀i,i<(hl.bU (26 ^ g.n)).length→(hl.bU (26 ^ g.n)).getD i 0<26 ^ g.n):=fun i hi=>by
  have:(hl.bU (26 ^ g.n))[i]?=some ((hl.bU (26 ^ g.n)).getD i 0):=by rw[Wu hi];simp[List.getD,List.getElem?_eq_getElem hi]
  exact(hl.Bd this).2
 have e6:Hid (∀N,N<26 ^ g.n→uL g.n g.sl (fun j=>((dx g.n N j:Nat):Int)) g.st=decide (N=N0)):=fun N hN=>by
  by_cases e:N=N0
  ·subst e
   rw[YA rfl];exact gB.2 ⟨r8.symm,fun i _=>(t i).symm⟩
  ·rw[YF e]
   refine Bool.eq_false_iff.2 fun h=>e (M9 vom hN hN1 fun i hi=>?_);have h3:=(gB.1 h).2 i hi;rw[t i]at h3;have h5:((dx g.n N i:Nat):Int)=((dx g.n N0 i:Nat):Int):=h3;omega
 have j3:Hid (∀N us W,N<26 ^ g.n→Wh w.heap.size w W→(aq W us g.n fun j=>((dx g.n N j:Nat):Int))→Calls qf 9 #[us,c] W fun e w'=>e=.returned (.bool (decide (N=N0)))∧Wh W.heap.size W w'):=fun N us W hN hb O=>by
  obtain⟨a',b',c',e0,_,_,t⟩:=hm
  obtain rfl:c=c':=by
   have h1:=XI (fun v=>match v with|.agg x=>x[2]?| _=>none) e0;simp only[gM]at h1;exact XG h1
  rw[←e6.out N hN];exact FF us c g.n g.sl _ g.st W O (t.below hb)
 have x4:l9<w.heap.size:=(Wd.1 hM).1;have G:Hid (∀W,Wh w.heap.size w W→W.heap[l9]?=some (.cells (aP a b c g.rf g.pl) TM fM)):=fun W hb=>(hb.block l9 x4).trans hM;have k4:Hid ((aP a b c g.rf g.pl)[2]?=some c):=gM _ _ _ _ _;have k7:Hid ((aP a b c g.rf g.pl)[29+A]?=some (.int .i64 (PA:Nat))):=by have:=qX a b c g.rf g.pl hO.a;rw[hO.pl]at this;exact this
 have D:Hid (∀W,Wh w.heap.size w W→Calls qf 10 #[.agg (aP a b c g.rf g.pl)] W fun e w'=>∃V,e=.returned (.tuple #[.agg (bJ 3 V),.int .i64 0])∧rY w' V 3 (qz (bZ g))∧Wh W.heap.size W w'):=fun W hb=>(xW _ g W (hm.below hb)).mono (by
  rintro e w' (⟨h,_⟩|⟨_,V,h1,h2,h3⟩)
  ·exact absurd hgE h
  ·exact⟨V,by rw[h1,Fz],h2,h3⟩)
 obtain⟨ac2,cc2,x7⟩:∃x y,c=.slice x g.sl y:=by
  obtain⟨a',b',c',e0,_,_,t⟩:=hm
  obtain rfl:c=c':=by
   have h1:=XI (fun v=>match v with|.agg x=>x[2]?| _=>none) e0;simp only[gM]at h1;exact XG h1
  obtain⟨x,y,e,_⟩:=t;exact⟨x,y,e⟩
 subst x7;have w5:Hid ((aP a b (.slice ac2 g.sl cc2) g.rf g.pl).size=55):=aD _ _ _ _ _;generalize aP a b (.slice ac2 g.sl cc2) g.rf g.pl=A0 at *;obtain⟨u0,q5,z8,_,q9,_⟩:=hO;have p9:Hid _:=u0;have T:Hid _:=q5;have p5:Hid _:=q9;rw[hln]at HA;generalize hl.bU (26 ^ g.n)=L at *;have U:Hid (j0<L.length∧L.getD j0 0=N0):=⟨u5,u6⟩
 clear hm hu hM q8 u5 u6 u0 q5 q9 hN0 hN1 hgE r8 t e6;refine ql 5 5 rfl ?_;simp only[wD,h9,h93,C9,kM,oG,kC,kB,ZO,Ww,List.drop]
 go_wp2_with fail
 go_loopw [14,100] (fun f i W=>∃(k:Nat) (fb:Bool),k≤L.length∧i=.int .i64 (k:Nat)∧f=.bool fb∧(fb=false→∀j,j<k→L.getD j 0≠N0)∧Wh w.heap.size w W) (fun _ i _=>((L.length:Int)-intOf i).toNat)
 case atStart=>exact⟨0,false,vom,rfl,rfl,fun _ j hj=>absurd hj (Xy j),Below.refl _ _⟩
 case round=>
  obtain⟨k,fb,hk,rfl,rfl,z,d⟩:=hrel;by_cases hlt:k<L.length
  case neg=>
   obtain rfl:k=L.length:=vom
   obtain rfl:fb=true:=by
    cases fb
    ·exact absurd U.out.2 (z rfl j0 U.out.1)
    ·rfl
   have r7:=G.out wr d;have HT:Hid _:=D.out wr d;have l:Hid (Wh w.heap.size w wr):=d;clear D z d hlt hk HA E j3 G k4 k7 p9 T p5 U
   go_wp2_with (first|refine Wn rfl 35 _ rfl l9 rfl TM A0 fM _ r7 WH rfl (by rw[w5.out];exact aE) ?_)
   refine We HT.out ?_;rintro e W2 ⟨V,rfl,k9,hb⟩;have o:Hid (Wh w.heap.size w W2):=l.out.trans (hb.mono l.out.size);have s3:Hid ((bJ 3 V).all (·.oneCell')=true):=A8 fun i hi=>pG (k9 i hi);have D:Hid _:=k9;have w6:=bR oa;clear r7 hb k9 HT l
   go_upto_region 26 with(first|refine Wk rfl 50 _ _ rfl W2.heap.size (bJ 3 V) rfl rfl 50 _ (af.new W2 _ _) (by rw[aU];exact fA) (by simp only[gH,aU]) s3.out ?_)
   have r4:=(af.new W2 50 (gP 0 fun _=>.slice none 0 0)).row (bJ 3 V);have r9:=Below.setRow ((Below.refl W2.heap.size W2).alloc (R3 _) (.cells (gP 0 fun _=>.slice none 0 0) 50)) W2.heap.size (R3 _) (bJ 3 V);have F:Hid (af ((W2.alloc (.cells (gP 0 fun _=>.slice none 0 0) 50)).setRow W2.heap.size (bJ 3 V)) W2.heap.size 50 (bJ 3 V)∧rY ((W2.alloc (.cells (gP 0 fun _=>.slice none 0 0) 50)).setRow W2.heap.size (bJ 3 V)) V 3 (qz (bZ g))∧w.heap.size≤W2.heap.size):=⟨r4,fun i hi=>(D.out i hi).below r9,o.out.size⟩
   clear r4 r9 D o s3 w6;generalize (W2.alloc (.cells (gP 0 fun _=>.slice none 0 0) 50)).setRow W2.heap.size (bJ 3 V)=W3 at *;go_wp2;exact⟨rfl,rfl,rfl,rfl,XI some h9.symm,rfl,_,V,rfl,F.out.2.2,F.out.1,F.out.2.1⟩
  have l5:Hid (k<L.length):=hlt;have y9:(k:Int)<(L.length:Int):=vom;obtain⟨x1,y1,z1,t1,e1,f1,n1⟩:=HA.out k hlt;have I:=E.out k hlt;obtain⟨N,hN⟩:∃N,N=L.getD k 0:=⟨_,rfl⟩
  have k8:Hid (N≠N0→fb=false→∀j,j<k+1→L.getD j 0≠N0):=fun hne hf j hj=>by
   by_cases e:j=k
   ·rw[e,←hN];exact hne
   ·exact z hf j vom
  rw[←hN]at f1 n1 I;have q3:Hid (N<26 ^ g.n):=I;have e1w:=(d.cell (aA e1)).trans e1;have f1w:=(d.cell (aA f1)).trans f1;have b9:Hid (rB w (.slice x1 g.n y1) (.slice z1 (hl.lg N).length t1) hl N):=n1;have l:Hid (Wh w.heap.size w wr):=d;clear hlt z e1 f1 n1 hN d I D U hk;obtain⟨lq,Q⟩:∃lq,lq=(hl.lg N).length:=⟨_,rfl⟩
  have s4:=h26 N;rw[←Q]at s4;have k5:Hid _:=Q;rw[←Q]at f1w b9;clear Q;have w7:=bR mo;obtain⟨X,hX⟩:∃X:Array R2,X=#[.slice x1 g.n y1,.slice z1 lq t1]:=⟨_,rfl⟩
  have o6:X.size=2:=by rw[hX];rfl
  have q7:X.all (·.oneCell')=true:=by rw[hX];simp[Value.oneCell']
  have x5:Hid (X[0]?=some (.slice x1 g.n y1)):=by rw[Hid,hX];rfl
  have x8:Hid (X[1]?=some (.slice z1 lq t1)):=by rw[Hid,hX];rfl
  have e8:Hid (wr.rangeAt ab (ao+k*2) X.toList):=by
   intro i v hv;rw[hX]at hv
   match i,hv with
   |0,hv=>simp at hv;subst hv;exact e1w
   |1,hv=>simp at hv;subst hv;exact f1w
   |i+2,hv=>simp at hv
  clear hX e1w f1w
  go_upto_region 19 with(first|refine ZX rfl 46 _ rfl ab (ao+k*2) rfl X.toList _ e8.out Tryz.underlying46 rfl (by rw[Wx,o6];exact dB) ?_|refine Wk rfl 46 _ _ rfl wr.heap.size X rfl rfl 46 _ (af.new wr _ _) (by rw[o6];exact dB) (by rw[o6];rfl) q7 ?_)
  have hq:=(af.new wr 46 #[.slice none 0 0,.slice none 0 0]).row X;have q:=Below.setRow ((Below.refl wr.heap.size wr).alloc (R3 _) (.cells #[.slice none 0 0,.slice none 0 0] 46)) wr.heap.size (R3 _) X;obtain⟨W2,s5⟩:∃W2,W2=(wr.alloc (.cells #[.slice none 0 0,.slice none 0 0] 46)).setRow wr.heap.size X:=⟨_,rfl⟩
  rw[←s5]at hq q⊢;obtain⟨qh,u7⟩:∃qh,qh=wr.heap.size:=⟨_,rfl⟩
  rw[←u7]at hq⊢;have o:Hid (Wh w.heap.size w W2∧af W2 qh 46 X):=⟨l.out.trans (q.mono l.out.size),hq⟩
  have c1:=hq.cell x8.out;clear s5 q w7 q7 u7 e8 l hq
  go_wp2_with fail
  clear c1;go_loopw [14,107] (fun f m W=>∃(m':Nat) (f2:Bool),m'≤lq∧m=.int .i64 (m':Nat)∧f=.bool f2∧Hid (f2=false→fb=false∧(N=N0→∀j,j<m'→LG.getD j 0≠PA))∧Wh W2.heap.size W2 W) (fun _ m _=>((lq:Int)-intOf m).toNat)
  case atStart=>exact⟨0,fb,vom,rfl,rfl,fun h=>⟨h,fun _ j hj=>absurd hj (Xy j)⟩,Below.refl _ _⟩
  case round=>
   obtain⟨m,f2,u9,rfl,rfl,B,d⟩:=hrel;by_cases hml:m<lq
   case neg=>
    obtain rfl:m=lq:=vom
    have n4:Hid (f2=false→∀j,j<k+1→L.getD j 0≠N0):=fun hf=>by
     obtain⟨h1,h2⟩:=B.out hf;by_cases e:N=N0
     ·obtain⟨j,hj,e2⟩:=p5.out
      exact absurd e2 (h2 e j (by rw[k5.out,e,T.out];exact hj))
     ·exact k8.out e h1
    have x9:Hid (Wh w.heap.size w wr):=o.out.1.trans (d.mono o.out.1.size);clear B d hml u9 k8;go_wp2;go_roundw
    case rel=>exact⟨k+1,f2,l5.out,by go_num,rfl,n4.out,x9.out⟩
    case measure=>have:=l5.out;simp[intOf];omega
   have s:Hid (m<lq):=hml;have z7:(m:Int)<(lq:Int):=vom;obtain⟨zb,tb,ez,hz⟩:=b9.out.2;cases ez;obtain⟨gb,rfl,M⟩:=hz m (by rw[←k5.out];exact hml);obtain⟨bb,C⟩:∃bb,bb=(hl.lg N).getD m 0:=⟨_,rfl⟩
   rw[←C]at M;have p7:=o.out.1.trans (d.mono o.out.1.size);have q2:Hid (wr.rangeAt gb (m*28) (ints 28 (hl.gs N bb)).toList):=fun i v hv=>(p7.cell (aA (M i v hv))).trans (M i v hv)
   have HG:Hid (N=N0→(ints 28 (hl.gs N bb))[0]?=some (.int .i64 (A:Nat))∧(ints 28 (hl.gs N bb))[1]?=some (.int .i64 (bb:Nat))∧bb=LG.getD m 0):=fun e=>by
    subst e;have h1:=congrFun p9.out bb;refine⟨(aB _ vde).trans ?_,(aB _ vde).trans ?_,by rw[C,T.out]⟩
    ·rw[h1];rfl
    ·rw[h1];rfl
   have P:(ints 28 (hl.gs N bb)).size=28:=ag _ _;have k3:(ints 28 (hl.gs N bb)).all (·.oneCell')=true:=aI _ _;obtain⟨G28,e7⟩:∃G28,G28=ints 28 (hl.gs N bb):=⟨_,rfl⟩
   rw[←e7]at q2 HG P k3;have l:Hid (Wh W2.heap.size W2 wr∧Wh w.heap.size w wr∧af wr qh 46 X):=⟨d,p7,o.out.2.below d o.out.2.lt⟩
   have e9:Hid _:=B;clear e7 hml u9 M d hz C B p7;have x2:=bR zU
   go_upto_region 22 with(first|refine ZX rfl 48 _ rfl gb (m*28) rfl G28.toList _ q2.out Tryz.underlying48 rfl (by rw[Wx,P];exact qi) ?_|refine Wk rfl 48 _ _ rfl wr.heap.size G28 rfl rfl 48 _ (af.new wr _ _) (by rw[P];exact qi) (by rw[P,ag]) k3 ?_)
   have hr:=(af.new wr 48 (ints 28 fun _=>0)).row G28;have q:=Below.setRow ((Below.refl wr.heap.size wr).alloc (R3 _) (.cells (ints 28 fun _=>0) 48)) wr.heap.size (R3 _) G28;obtain⟨W4,s0⟩:∃W4,W4=(wr.alloc (.cells (ints 28 fun _=>0) 48)).setRow wr.heap.size G28:=⟨_,rfl⟩
   rw[←s0]at hr q⊢;have e3:=l.out.1.trans (q.mono l.out.1.size);have e5:=l.out.2.1.trans (q.mono l.out.2.1.size);have e4:=l.out.2.2.below q l.out.2.2.lt;obtain⟨qg,s6⟩:∃qg,qg=wr.heap.size:=⟨_,rfl⟩
   rw[←s6]at hr⊢;clear s0 q x2 s6 q2 l k3;have w9:Hid (∀W,Wh w.heap.size w W→W.cell? ⟨l9,2,none⟩=some (.slice ac2 g.sl cc2)):=fun W hb=>by rw[Xf _ _ _ _ _ _ (G.out W hb)];exact k4.out
   have x3:Hid (∀W,Wh w.heap.size w W→W.cell? ⟨l9,29+A,none⟩=some (.int .i64 (PA:Nat))):=fun W hb=>by rw[Xf _ _ _ _ _ _ (G.out W hb)];exact k7.out
   have x6:Hid (∀W,Wh w.heap.size w W→Calls qf 9 #[.slice x1 g.n y1,.slice ac2 g.sl cc2] W fun e w'=>e=.returned (.bool (decide (N=N0)))∧Wh W.heap.size W w'):=fun W hb=>by
    have O:=b9.out.1;rw[hln]at O;exact j3.out N _ W q3.out hb (O.below hb)
   clear G k4 k7 j3 b9 q3 p9 T p5 k5 k8 l5;refine Xb ?_;refine Wz (S:=fun W=>af W qh 46 X∧af W qg 48 G28∧Wh w.heap.size w W∧Wh W2.heap.size W2 W) vkr ⟨e4,hr,e5.drew,e3.drew⟩ (fun hS=>?_);obtain⟨Z,hZ⟩:∃x,x=W4.drew:=⟨_,rfl⟩
   rw[←hZ]at hS⊢;clear hZ hr e4 e5 e3;cases f2
   case true=>
    refine vuq 0 111 (.bool true) ?_;refine vuq 1 112 (.bool true) ?_;refine vuS 2 113 ?_;refine vuS 3 114 ?_;refine vuS 4 115 ?_;refine vuS 5 116 ?_;refine vuS 6 117 ?_;refine vuS 7 118 ?_;refine vuS 8 119 ?_;refine vuS 9 120 ?_;refine vuS 10 121 ?_;refine vuS 11 122 ?_;refine vuS 12 123 ?_;refine vuS 13 124 ?_;refine vuS 14 125 ?_;refine vuS 15 126 ?_;refine vuS 16 127 ?_;refine vuq 17 128 (.bool true) ?_;refine vuq 18 14 (.bool true) ?_;refine Xq vkr ?_ _;refine WU ?_;have HZ:Hid _:=hS.2.2.2;clear hS e9 HG;go_wp2;go_roundw
    case rel=>exact⟨m+1,true,s.out,by go_num,rfl,fun h=>absurd h vde,HZ.out⟩
    case measure=>have:=s.out;simp[intOf];omega
   obtain⟨q4,z⟩:=e9.out rfl;have v7:Hid _:=z;have q6:Hid _:=q4;clear z q4 e9;refine vuq 0 111 (.bool false) ?_;refine vuq 1 112 (.bool false) ?_;refine vuq 2 113 (.pointer (some ⟨qh,0,none⟩)) ?_;refine vuk 3 114 (.slice x1 g.n y1) rfl (fun W hW=>by have u:=hW.1.cell x5.out;clear hS hW;go_simp) hS ?_;refine vuq 4 115 (.pointer (some ⟨l9,2,none⟩)) ?_;refine vuk 5 116 (.slice ac2 g.sl cc2) rfl (fun W hW=>by have u:=w9.out W hW.2.2.1;clear hS hW;go_simp) hS ?_;refine rd1 6 rfl (fun K hK=>?_);go_simp;refine We (x6.out _ hS.2.2.1) ?_;rintro e Y ⟨rfl,J⟩;refine hK.out _ _ ⟨hS.1.below J hS.1.lt,hS.2.1.below J hS.2.1.lt,hS.2.2.1.trans (J.mono hS.2.2.1.size),hS.2.2.2.trans (J.mono hS.2.2.2.size)⟩ (fun hS1=>?_);clear hK hS K;have hS:=hS1;clear hS1;by_cases hNN:N=N0
   case neg=>
    rw[YF hNN];have k6:Hid _:=hNN;clear hNN HG;refine vuq 7 118 (.bool false) ?_;refine vuS 8 119 ?_;refine vuS 9 120 ?_;refine vuS 10 121 ?_;refine vuS 11 122 ?_;refine vuS 12 123 ?_;refine vuS 13 124 ?_;refine vuS 14 125 ?_;refine vuS 15 126 ?_;refine vuq 16 127 (.bool false) ?_;refine vuq 17 128 (.bool false) ?_;refine vuq 18 14 (.bool false) ?_;refine Xq vkr ?_ _;refine WU ?_;have HZ:Hid _:=hS.2.2.2;clear hS;go_wp2;go_roundw
    case rel=>exact⟨m+1,false,s.out,by go_num,rfl,fun _=>⟨q6.out,fun e=>absurd e k6.out⟩,HZ.out⟩
    case measure=>have:=s.out;simp[intOf];omega
   subst hNN;rw[YA rfl];obtain⟨r6,r3,C⟩:=HG.out rfl;have w8:Hid _:=r6;have v8:Hid _:=r3
   have k6:Hid (bb≠PA→∀j,j<m+1→LG.getD j 0≠PA):=fun hne j hj=>by
    by_cases e:j=m
    ·rw[e,←C];exact hne
    ·exact v7.out rfl j vom
   clear r6 r3 C HG v7;refine vuq 7 118 (.bool true) ?_;refine vuq 8 119 (.pointer (some ⟨qg,0,none⟩)) ?_;refine vuk 9 120 (.int .i64 (A:Nat)) rfl (fun W hW=>by have u:=hW.2.1.cell w8.out;clear hS hW;go_simp) hS ?_;refine vuq 10 121 (.pointer (some ⟨l9,29,none⟩)) ?_;refine vuk 11 122 (.pointer (some ⟨l9,29+A,none⟩)) rfl (fun W hW=>by have u1:¬(26:Int)≤(A:Int):=vom;clear hS hW;go_simp) hS ?_;refine vuk 12 123 (.int .i64 (PA:Nat)) rfl (fun W hW=>by have u:=x3.out W hW.2.2.1;clear hS hW;go_simp) hS ?_;refine vuq 13 124 (.pointer (some ⟨qg,1,none⟩)) ?_;refine vuk 14 125 (.int .i64 (bb:Nat)) rfl (fun W hW=>by have u:=hW.2.1.cell v8.out;clear hS hW;go_simp) hS ?_;by_cases hpb:PA=bb
   ·have H:((PA:Nat):Int)=((bb:Nat):Int):=by rw[hpb]
    refine vuk 15 126 (.bool true) rfl (fun W hW=>by have u:((PA:Nat):Int)=((bb:Nat):Int):=H;clear hS hW;go_simp) hS ?_;refine vuq 16 127 (.bool true) ?_;refine vuq 17 128 (.bool true) ?_;refine vuq 18 14 (.bool true) ?_;refine Xq vkr ?_ _;refine WU ?_;have HZ:Hid _:=hS.2.2.2;clear hS;go_wp2;go_roundw
    case rel=>exact⟨m+1,true,s.out,by go_num,rfl,fun h=>absurd h vde,HZ.out⟩
    case measure=>have:=s.out;simp[intOf];omega
   ·have H:¬((PA:Nat):Int)=((bb:Nat):Int):=vom
    refine vuk 15 126 (.bool false) rfl (fun W hW=>by have u:¬((PA:Nat):Int)=((bb:Nat):Int):=H;clear hS hW;go_simp) hS ?_;refine vuq 16 127 (.bool false) ?_;refine vuq 17 128 (.bool false) ?_;refine vuq 18 14 (.bool false) ?_;refine Xq vkr ?_ _;refine WU ?_;have HZ:Hid _:=hS.2.2.2;have n4:Hid _:=k6.out (fun e=>hpb e.symm);clear hS;go_wp2;go_roundw
    case rel=>exact⟨m+1,false,s.out,by go_num,rfl,fun _=>⟨q6.out,fun _=>n4.out⟩,HZ.out⟩
    case measure=>have:=s.out;simp[intOf];omega
end
end Go.Proofs.YtpcnpkhgjanamaaGreatDoor
