import Derived.Test.YtpcnpkhgjanamaaGreatDoorPz
import Derived.Test.YtpcnpkhgjanamaaGreatDoorJn42
namespace Go.Proofs.YtpcnpkhgjanamaaGreatDoor
open Go.Proofs.Tryz renaming prog→qf,underlying35→WH
open Go renaming Value→R2,World→V8,undef→Wb,TypeId→Wj,Frame→WG,runNT_add→XM
open _root_.List renaming range'→Xx
set_option maxRecDepth 100000
set_option maxHeartbeats 8000000
section
open Go.RowKit PK Vg Go.Conc Cs
theorem ve{E:Env}{wl w:V8}(h:WR qf E wl w){m:Nat}{u u':R2}{f:Nat→Int}(hm:0<m)(hr:aq wl u m f)(hu:VR E u u'):aq w u' m f∧Rt w u':=by
 obtain⟨a,cap,rfl,i,hc⟩:=hr;obtain⟨g,o,rfl,h0⟩:=hc 0 hm;cases hu with
 |cx=>exact absurd hm (Nat.lt_irrefl _)
 |slice l c ha=>
  obtain⟨b,s,rfl,hj⟩:=lH ha
  have d:∀c,c<m→w.cell? ⟨b,o+s+c,none⟩=some (.int .i64 (f c)):=fun c hc'=>by
   obtain⟨g',o',e,h1⟩:=hc c hc';cases e;obtain⟨v,k1,k2⟩:=h.cell (hj c) h1;cases k2;exact k1
  exact⟨⟨_,_,rfl,i,fun c hc'=>⟨b,o+s,rfl,d c hc'⟩⟩,tC (d 0 hm) _⟩
theorem DY{E:Env}{wl w:V8}(h:WR qf E wl w){B m:Nat}{v v':R2}{L:List Nat}(hm:0<m)(hv:Uk wl B v L m)(hr:VR E v v'):Np w v' L m:=by
 obtain⟨vs,⟨h1,h2⟩,h3⟩:=hv;have hvl:vs.length=L.length:=vom;rcases h2 with⟨rfl,h4⟩|⟨g,cap,cur,rfl,_,h4,h5,h6,h7,h8⟩
 ·obtain rfl:=Xv h4
  cases hr with
  |bW l c=>exact⟨none,0,rfl,fun _=>rfl,o7,fun j N hj=>by simp at hj⟩
 ·generalize hn:L.length=n at hr
  cases hr with
  |cx a b=>
   obtain rfl:=Xv hn;exact⟨some b,0,rfl,fun e=>(by cases e),o7,fun j N hj=>by simp at hj⟩
  |slice l c ha=>
   obtain⟨b,s,rfl,hj⟩:=lH ha;subst hn;have d:∀(j:Nat) u,cur[j]?=some u→∃u',w.cell? ⟨b,0+s+j,none⟩=some u'∧VR E u u':=fun j u hu=>h.cell (hj j) (by rw[WN,Xf _ _ _ _ _ _ h4];exact hu);refine⟨_,cap,rfl,fun e=>(by cases e),fun a l c e hp=>?_,fun j N hN=>?_⟩
   ·cases e
    obtain⟨u',k1,_⟩:=d 0 _ (Wl vom);obtain⟨y,T,fr,k,_⟩:=cN k1;exact⟨rfl,y,T,fr,k⟩
   ·have i:=(WW.1 hN).1
    obtain⟨x,hvj⟩:∃x,vs[j]?=some x:=⟨vs[j],Wu vom⟩
    have f:cur[j]?=some x:=by
     have e:=hvj;rw[←h8,Za vom,Wo]at e;exact e
    obtain⟨u',k1,k2⟩:=d j _ f;obtain⟨n1,n2⟩:=ve h hm (h3 j _ N hvj hN) k2;exact⟨b,0+s,u',rfl,k1,n1,n2⟩
theorem CJ(v0 v1 v2 v3 v4 v5 v6 v7 v8 v10 v11 v12 v13 v14 v15 v16 v17 v18 v19 v20 v21 v22 v23 v24 v25 v26 v27 v28 v29 v30 v31 v32 v33 v34 v35 v36 v37 v38 v39 v40 v41 v42 v43 v44 v45 v46 v47 v48 v49 v50 v51 v52 x0 x1 x2 x3 x4 x5 x6 x7 x8 x9 x10 x11 x12 x13:R2)(bF:Nat)(V:Nat→R2)(g:Gm)(m:Nat→Nat)(fb:Nat→Nat→Int)(h:Int)(hE:sI g h=0)(TJ TF:Wj)(fF:Nat×Nat)(w:V8)(hJ:qf.info? TJ=none)(hF:w.heap[bF]?=some (.cells (bJ 26 V) TF fF))(hV:∀k,k<26→Np w (V k) (cj g m fb k (26 ^ (g.n-1))) g.n)(cs:List WG):
  ∃E gl wl,bH qf (fun v w'=>∃u B,v=.tuple #[u,.int .i64 0]∧Uk w' B u (jw g m fb (26 ^ g.n)) g.n) cs E gl wl (G (aL 33 #[v0,v1,v2,v3,v4,v5,v6,v7,v8,.pointer (some ⟨bF,0,none⟩),v10,v11,v12,v13,v14,v15,v16,v17,v18,v19,v20,v21,v22,v23,v24,v25,v26,v27,v28,v29,v30,v31,v32,v33,v34,v35,v36,v37,v38,v39,v40,v41,v42,v43,v44,v45,v46,v47,v48,v49,v50,v51,v52] [.code (Jn false)] .run) (aL 11 #[x0,x1,x2,x3,x4,x5,x6,x7,x8,x9,x10,x11,x12,x13] [.inRegion M0 (3 :: Xx 4 4),.code .ret] .run :: cs)) w∧∀b q s o,E b=some (q,s,o)→o=false:=by
 obtain⟨a,M,_,_⟩:=gI hE
 have z:1≤g.n:=by
  refine Nat.lt_of_not_le fun hc=>?_;unfold gE at a;rw[Wc (.inl vom)]at a;cases a
 have hL:∀k,(cj g m fb k (26 ^ (g.n-1))).length≤676:=fun k=>by
  refine Ws (vH _ _ _ _ _) ?_;rcases(by omega:g.n=1∨g.n=2∨g.n=3)with h|h|h<;>rw[h]<;>decide
 obtain⟨E3,wl3,V',p3,q3,e⟩:=AF hJ V (fun k=>cj g m fb k (26 ^ (g.n-1))) g.n 26 (Cp.nil (P:=qf) w) hV
 have c:∀(n:Nat) (A B:Nat→R2) (E:Env),(∀i,i<n→VR E (A i) (B i))→∀(i:Nat) u,(bJ n A)[i]?=some u→∃v,(bJ n B)[i]?=some v∧VR E u v:=fun n A B E hh i u hu=>by
  have hi:i<n:=by have:=(Wd.1 hu).1;rwa [aU]at this
  rw[aM _ hi]at hu;cases hu;exact⟨_,aM _ hi,hh i hi⟩
 obtain⟨E9,wl9,dF,p9,q9,rF,kF⟩:=lS p3 hJ hF (bJ 26 V') (c 26 V' V E3 fun i hi=>(e i hi).1);have D:=fun k (hk:k<26)=>uW q9 (e k hk).2;obtain⟨jv0,hv0⟩:=aJ E9 v0;obtain⟨jv1,hv1⟩:=aJ E9 v1;obtain⟨jv2,hv2⟩:=aJ E9 v2;obtain⟨jv3,hv3⟩:=aJ E9 v3;obtain⟨jv4,hv4⟩:=aJ E9 v4;obtain⟨jv5,hv5⟩:=aJ E9 v5;obtain⟨jv6,hv6⟩:=aJ E9 v6;obtain⟨jv7,hv7⟩:=aJ E9 v7;obtain⟨jv8,hv8⟩:=aJ E9 v8;obtain⟨jv10,hv10⟩:=aJ E9 v10;obtain⟨jv11,hv11⟩:=aJ E9 v11;obtain⟨jv12,hv12⟩:=aJ E9 v12;obtain⟨jv13,hv13⟩:=aJ E9 v13;obtain⟨jv14,hv14⟩:=aJ E9 v14;obtain⟨jv15,hv15⟩:=aJ E9 v15;obtain⟨jv16,hv16⟩:=aJ E9 v16;obtain⟨jv17,hv17⟩:=aJ E9 v17;obtain⟨jv18,hv18⟩:=aJ E9 v18;obtain⟨jv19,hv19⟩:=aJ E9 v19;obtain⟨jv20,hv20⟩:=aJ E9 v20;obtain⟨jv21,hv21⟩:=aJ E9 v21;obtain⟨jv22,hv22⟩:=aJ E9 v22;obtain⟨jv23,hv23⟩:=aJ E9 v23;obtain⟨jv24,hv24⟩:=aJ E9 v24;obtain⟨jv25,hv25⟩:=aJ E9 v25;obtain⟨jv26,hv26⟩:=aJ E9 v26;obtain⟨jv27,hv27⟩:=aJ E9 v27;obtain⟨jv28,hv28⟩:=aJ E9 v28;obtain⟨jv29,hv29⟩:=aJ E9 v29;obtain⟨jv30,hv30⟩:=aJ E9 v30;obtain⟨jv31,hv31⟩:=aJ E9 v31;obtain⟨jv32,hv32⟩:=aJ E9 v32;obtain⟨jv33,hv33⟩:=aJ E9 v33;obtain⟨jv34,hv34⟩:=aJ E9 v34;obtain⟨jv35,hv35⟩:=aJ E9 v35;obtain⟨jv36,hv36⟩:=aJ E9 v36;obtain⟨jv37,hv37⟩:=aJ E9 v37;obtain⟨jv38,hv38⟩:=aJ E9 v38;obtain⟨jv39,hv39⟩:=aJ E9 v39;obtain⟨jv40,hv40⟩:=aJ E9 v40;obtain⟨jv41,hv41⟩:=aJ E9 v41;obtain⟨jv42,hv42⟩:=aJ E9 v42;obtain⟨jv43,hv43⟩:=aJ E9 v43;obtain⟨jv44,hv44⟩:=aJ E9 v44;obtain⟨jv45,hv45⟩:=aJ E9 v45;obtain⟨jv46,hv46⟩:=aJ E9 v46;obtain⟨jv47,hv47⟩:=aJ E9 v47;obtain⟨jv48,hv48⟩:=aJ E9 v48;obtain⟨jv49,hv49⟩:=aJ E9 v49;obtain⟨jv50,hv50⟩:=aJ E9 v50;obtain⟨jv51,hv51⟩:=aJ E9 v51;obtain⟨jv52,hv52⟩:=aJ E9 v52;obtain⟨jx0,L⟩:=aJ E9 x0;obtain⟨jx1,C⟩:=aJ E9 x1;obtain⟨jx2,t⟩:=aJ E9 x2;obtain⟨jx3,I⟩:=aJ E9 x3;obtain⟨jx4,J⟩:=aJ E9 x4;obtain⟨jx5,x⟩:=aJ E9 x5;obtain⟨jx6,y⟩:=aJ E9 x6;obtain⟨jx7,F⟩:=aJ E9 x7;obtain⟨jx8,K⟩:=aJ E9 x8;obtain⟨jx9,H⟩:=aJ E9 x9;obtain⟨jx10,d⟩:=aJ E9 x10;obtain⟨jx11,f⟩:=aJ E9 x11;obtain⟨jx12,j⟩:=aJ E9 x12;obtain⟨jx13,l⟩:=aJ E9 x13;have lE:=(ah hv0 (ah hv1 (ah hv2 (ah hv3 (ah hv4 (ah hv5 (ah hv6 (ah hv7 (ah hv8 (ah rF (ah hv10 (ah hv11 (ah hv12 (ah hv13 (ah hv14 (ah hv15 (ah hv16 (ah hv17 (ah hv18 (ah hv19 (ah hv20 (ah hv21 (ah hv22 (ah hv23 (ah hv24 (ah hv25 (ah hv26 (ah hv27 (ah hv28 (ah hv29 (ah hv30 (ah hv31 (ah hv32 (ah hv33 (ah hv34 (ah hv35 (ah hv36 (ah hv37 (ah hv38 (ah hv39 (ah hv40 (ah hv41 (ah hv42 (ah hv43 (ah hv44 (ah hv45 (ah hv46 (ah hv47 (ah hv48 (ah hv49 (ah hv50 (ah hv51 (ah hv52 gR)))))))))))))))))))))))))))))))))))))))))))))))))))))
 have lF:=(ah L (ah C (ah t (ah I (ah J (ah x (ah y (ah F (ah K (ah H (ah d (ah f (ah j (ah l gR))))))))))))))
 refine⟨E9,_,wl9,bH.T3 ⟨_,Tryz.func33⟩ lE p9.wr p9.gF Et (.cons ⟨_,Tryz.func11⟩ lF DX .base) (fun τ=>?_),p9.sh⟩;refine Cs.ue (Cs.vg Tryz.func33 (NC jv0 jv1 jv2 jv3 jv4 jv5 jv6 jv7 jv8 jv10 jv11 jv12 jv13 jv14 jv15 jv16 jv17 jv18 jv19 jv20 jv21 jv22 jv23 jv24 jv25 jv26 jv27 jv28 jv29 jv30 jv31 jv32 jv33 jv34 jv35 jv36 jv37 jv38 jv39 jv40 jv41 jv42 jv43 jv44 jv45 jv46 jv47 jv48 jv49 jv50 jv51 jv52 dF V' TJ _ _ g.n hL (wl9.tp τ) kF D)) ?_;rintro v w1 ⟨u,rfl,hN,hb⟩;rw[Cs.iw];rw[tT g m fb z]at hN;obtain⟨n',fr',w',v',k1,k2,k3⟩:=Cs.j5 (cs:=[aK qf]) Tryz.func11 (IK jx0 jx1 jx2 jx3 jx4 jx5 jx6 jx7 jx8 jx9 jx10 jx12 jx13 u w1);refine⟨n',fr',w',v',k1,k2,?_⟩;obtain⟨rfl,rfl⟩:=k3;exact⟨u,_,rfl,hN⟩
noncomputable def wU(A:Array R2)(n S0:Nat)(W w8:V8)(Fd C1 C2:Nat):fX:={ n:=n,K:=26,S0:=S0,N1:=w8.heap.size,H0:=fun q=>w8.heap[q]?,C1:=C1,C2:=C2,Fd:=Fd,TF:=129,z1:=.int .i64 0,z2:=.bool false,MV:=.tuple #[],zs2:=.tuple #[],fB:=68,ar:=fun k=>#[.agg A,.int .i64 (k:Nat),.func (.func 34) #[] #[.pointer (some ⟨W.heap.size+1,0,none⟩)]],Ua:=W.os,KS:=W.output }
section
variable{A B:Array R2}{n S0:Nat}{W w4 w8:V8}{h2 Fd C1 C2 bF bD:Nat}
theorem Pj.ok(k:Pj A B W w4 w8 h2 Fd C1 C2 bF bD):(wU A n S0 W w8 Fd C1 C2).Ok w8:=⟨fun _ _=>rfl,⟨_,k.row,aU _ _⟩,R3 _,k.env⟩
theorem Pj.low(k:Pj A B W w4 w8 h2 Fd C1 C2 bF bD)(q:Nat)(hq:q<w4.heap.size):(wU A n S0 W w8 Fd C1 C2).Fix q:=by
 have h0:=k.fd;have h3:=bS k.row;have h4:=k.c1.1;have h5:=k.c2.1;exact⟨by show q<w8.heap.size;omega,by show q≠Fd;omega,by show q≠C1;omega,by show q≠C2;omega,fun e=>e⟩
theorem Pj.cells(k:Pj A B W w4 w8 h2 Fd C1 C2 bF bD){q:Nat}{x:Array R2}{T:Wj}(hq:w8.heap[q]?=some (.cells x T (0,0)))(hlt:Fd<q):(wU A n S0 W w8 Fd C1 C2).Fix q:=by
 refine⟨bS hq,by show q≠Fd;omega,fun e=>?_,fun e=>?_,fun e=>e⟩
 ·have e':q=C1:=e
  rw[e',k.c1.2]at hq;cases hq
 ·have e':q=C2:=e
  rw[e',k.c2.2]at hq;cases hq
theorem Pj.wk(k:Pj A B W w4 w8 h2 Fd C1 C2 bF bD)(hA:A.size=55):Fj (wU A n S0 W w8 Fd C1 C2) bF h2 (h2+1) bD (.agg A) (.func (.func 34) #[] #[.pointer (some ⟨W.heap.size+1,0,none⟩)]):=by
 have a:(qf.info? 35).map (·.size)=some A.size:=by rw[hA];exact aE
 have fixF:=k.cells (n:=n) (S0:=S0) k.bf.2 k.bf.1;have fixD:=k.cells (n:=n) (S0:=S0) k.bd.2 k.bd.1;have fixM:=k.low (n:=n) (S0:=S0) h2 (bS k.lM);have fixL:=k.low (n:=n) (S0:=S0) (h2+1) (bS k.lL);have lM:w8.heap[h2]?=some (.cells A 35 (0,0)):=(k.Ec _ (bS k.lM)).trans k.lM;have lL:=(k.Ec _ (bS k.lL)).trans k.lL;refine⟨⟨fixF,fixM,fixL,fixD⟩,fun w hw=>js ((hw.fix _ fixF).trans k.bf.2),fun w hw=>js ((hw.fix _ fixD).trans k.bd.2),fun w hw=>js ((hw.fix _ fixL).trans lL),fun w hw=>ux ((hw.fix _ fixM).trans lM) WH rfl a,fun w hw e he=>?_⟩;obtain⟨ad,e1,e2⟩:=FY ((hw.fix _ fixM).trans lM) WH rfl a e he;exact⟨ad,e1,by rw[e2];exact fixM⟩
end
theorem GI(a b c:R2)(g:Gm)(U:Nat→R2)(m:Nat→Nat)(fb:Nat→Nat→Int)(n:Nat)(hE:sI g (n:Int)=0)(hfit:∀r,r<g.n→g.nl r*8≤140737488355328)(hrl:g.rl*8≤140737488355328)(A B:Array R2)(hA0:A=aP a b c g.rf g.pl)(hB0:B=bJ 3 U)(W:V8)(ha:DU W a g.n g.wi g.nl g.no)(hb:aq W b g.rl g.ri)(hc:aq W c g.sl g.st)(ra:Rt W a)(rb:Rt W b)(rc:Rt W c)(hU:∀i,i<3→aq W (U i) (m i) (fb i)∧Rt W (U i))(cal:WG)(rest:List WG){gs:Array Goroutine}{t:Trace}{q:Nat→Nat}(i1:gs[0]?=some (G ((base 11).at ⟨#[.agg A,.agg B,.int .i64 (n:Nat),Wb,Wb,Wb,Wb,Wb,Wb,Wb,Wb,Wb,Wb,Wb],[]⟩ [.code fB]) (cal :: rest)))(Q1:Qt qf gs t q W.heap.size)(sl:Option (Nat×Nat)):
  ∃N gs' w' sl' t' q' u,runNT qf N (crowd gs W sl) t=(.next (crowd gs' w' sl'),t')∧gs'[0]?=some (G (cal.finish (.tuple #[u,.int .i64 0])) rest)∧Np w' u (jw g m fb (26 ^ g.n)) g.n∧Kept W w'∧Qt qf gs' t' q' w'.heap.size:=by
 have hG:qf.globals.size≤aT.G:=R3 _;obtain⟨h,S,O,Q⟩:=gI hE
 have F:1≤g.n:=by
  refine Nat.lt_of_not_le fun hc=>?_;unfold gE at h;rw[Wc (.inl vom)]at h;cases h
 obtain⟨N1,gs1,w4,w8,sl1,t1,q1,g8,h2,Fd,C1,C2,bF,bD,r1,Y,i8,o,l,F8,k⟩:=Cx a b c g B n hE W ha hb hc ra rb rc A hA0 (cal :: rest) i1 Q1 sl;have hA:A.size=55:=by rw[hA0];exact aD ..
 have wk:=k.wk (n:=n) (S0:=gs1.size) hA;have d:=k.Qj;have ok:=k.ok (n:=n) (S0:=gs1.size);have low:=k.low (n:=n) (S0:=gs1.size);have Ec:=k.Ec;have P:=bS k.bT;have f:∀w,(wU A n gs1.size W w8 Fd C1 C2).Ok w→∀b,b<w4.heap.size→w.heap[b]?=w4.heap[b]?:=fun w hw b hb=>(hw.fix b (low b hb)).trans (Ec b hb);have hT:=k.bT;have d1:C1<w8.heap.size∧C2<w8.heap.size∧Fd<w8.heap.size∧C1≠C2∧C1≠Fd∧C2≠Fd:=⟨bS k.c1.2,bS k.c2.2,bS k.row,k.ne,by have:=k.c1.1;omega,by have:=k.c2.1;omega⟩
 have hW:Walk qf (wU A n gs1.size W w8 Fd C1 C2) true (wM false (wU A n gs1.size W w8 Fd C1 C2) bF h2 (h2+1) bD n (aL 11 #[.agg A,.agg B,.int .i64 (n:Nat),.pointer (some ⟨W.heap.size,0,none⟩),.pointer (some ⟨W.heap.size+1,0,none⟩),Wb,.slice none 0 0,.int .i64 0,.agg A,.int .i64 (n:Nat),.func (.func 34) #[] #[.pointer (some ⟨W.heap.size+1,0,none⟩)],Wb,Wb,Wb] [.inRegion M0 (3 :: Xx 4 4),.code .ret] .run :: (cal :: rest)) 0) 0 g8 w8:=Goes.stop fun _ _=>⟨o,l _ rfl⟩
 have D:=k.c1.2;have M:=k.c2.2;have J:∀j x ad,touchAt t1 j=some x→x.loc=.cell ad→ad.block≠Fd:=fun j x ad e1 e2=>F8.pl j x e1 ad e2;have hq:=F8.qt;rw[hB0]at hT;have wk':Fj (wU A n gs1.size W w8 Fd C1 C2) bF h2 (h2+1) bD (.agg (aP a b c g.rf g.pl)) (.func (.func 34) #[] #[.pointer (some ⟨W.heap.size+1,0,none⟩)]):=by rw[←hA0];exact wk
 have L:(wU A n gs1.size W w8 Fd C1 C2).ar=fun k=>#[.agg (aP a b c g.rf g.pl),.int .i64 (k:Nat),.func (.func 34) #[] #[.pointer (some ⟨W.heap.size+1,0,none⟩)]]:=by rw[←hA0];rfl
 have T:1≤gs1.size:=by have:=cI i8;omega
 clear k wk F8 l;generalize hcst:wU A n gs1.size W w8 Fd C1 C2=cst at *;have e1:cst.n=n:=by rw[←hcst];rfl
 have e2:cst.K=26:=by rw[←hcst];rfl
 have e3:cst.z1=.int .i64 0∧cst.z2=.bool false∧cst.MV=.tuple #[]∧cst.zs2=.tuple #[]:=by rw[←hcst];exact⟨rfl,rfl,rfl,rfl⟩
 have e4:cst.fB=68:=by rw[←hcst];rfl
 have e5:cst.S0=gs1.size:=by rw[←hcst];rfl
 have e6:cst.C1=C1:=by rw[←hcst];rfl
 have e7:cst.C2=C2:=by rw[←hcst];rfl
 have e8:cst.Fd=Fd:=by rw[←hcst];rfl
 have e9:cst.N1=w8.heap.size:=by rw[←hcst];rfl
 have e10:cst.Ua=W.os:=by rw[←hcst];rfl
 have e11:cst.KS=W.output:=by rw[←hcst];rfl
 clear hcst;rw[←e1]at hW;obtain⟨N2,gs2,w2,sl2,t2,q2,V,v0,v2,v4,v6,v7,v8,v12,v13,v14,v15,v16,v17,v18,v19,v20,v21,v22,v23,v24,v25,v26,v27,v28,v29,v30,v31,v32,v33,v34,v35,v36,v37,v38,v39,v40,v41,v42,v43,v44,v45,v46,v47,v48,v49,v50,v51,v52,r2,i2,hF,hV,ok2,Q2⟩:=G0 (.agg A) (.agg B) (.int .i64 (cst.n:Nat)) (.pointer (some ⟨W.heap.size,0,none⟩)) (.pointer (some ⟨W.heap.size+1,0,none⟩)) (Wb) (.slice none 0 0) (.int .i64 0) (.agg A) (.int .i64 (cst.n:Nat)) (.func (.func 34) #[] #[.pointer (some ⟨W.heap.size+1,0,none⟩)]) (Wb) (Wb) (Wb) cst bF h2 (h2+1) bD (W.heap.size+1) a b c g U m fb (cst.n:Int) (by rw[e1];exact hE) hfit hrl _ _ w4 f low hT (jh d ha) (cF d hb) (cF d hc) (cW d ra) (cW d rb) (cW d rc) (fun i hi=>⟨cF d (hU i hi).1,cW d (hU i hi).2⟩) wk' ⟨vom,vom⟩ e2 e3 e4 L vom (by rw[e6,e7,e8,e9];exact d1) (cal :: rest) (by rw[e5]) i8 hq hW ok (by rw[e6];exact D) (by rw[e7];exact M) (by rw[e8];exact J) sl1;obtain⟨E,gl,wl,I,H⟩:=CJ v0 (.int .i64 (cst.n:Nat)) v2 (.pointer (some ⟨h2,0,none⟩)) v4 (.pointer (some ⟨h2+1,0,none⟩)) v6 v7 v8 (.pointer (some ⟨bF,0,none⟩)) (.pointer (some ⟨bD,0,none⟩)) v12 v13 v14 v15 v16 v17 v18 v19 v20 v21 v22 v23 v24 v25 v26 v27 v28 v29 v30 v31 v32 v33 v34 v35 v36 v37 v38 v39 v40 v41 v42 v43 v44 v45 v46 v47 v48 v49 v50 v51 v52 (.agg A) (.agg B) (.int .i64 (cst.n:Nat)) (.pointer (some ⟨W.heap.size,0,none⟩)) (.pointer (some ⟨W.heap.size+1,0,none⟩)) (Wb) (.slice none 0 0) (.int .i64 0) (.agg A) (.int .i64 (cst.n:Nat)) (.func (.func 34) #[] #[.pointer (some ⟨W.heap.size+1,0,none⟩)]) (Wb) (Wb) (Wb) cst.Fd V g m fb (n:Int) hE 1000000000 _ _ w2 c8 hF hV (cal :: rest);obtain⟨N3,gs3,w3,gP,t3,q3,E3,v,v',wl3,r3,z3,i3,⟨u,B3,rfl,hN⟩,vr,wr3,fc3,Q3⟩:=fG (sl:=sl2) hG cG i2 I Q2
 obtain⟨u',rfl,C⟩:∃u',v'=.tuple #[u',.int .i64 0]∧VR E3 u u':=by
  cases vr with
  |tuple hs hv=>
   rename_i y
   have h0:0<y.size:=by rw[←hs];exact Nat.zero_lt_two
   have h1:1<y.size:=by rw[←hs];exact Nat.one_lt_two
   have k0:=hv 0 u _ rfl (Wl h0);have k1:=hv 1 (.int .i64 0) _ rfl (Wl h1)
   have e1:y[1]=.int .i64 0:=by
    revert k1
    generalize y[1]=z;intro k1;cases k1
    rfl
   refine⟨y[0],?_,k0⟩
   congr 1
   refine Array.ext (by rw[←hs];rfl) fun i hi1 hi2=>?_;rcases(by simp at hi2;omega:i=0∨i=1)with rfl|rfl
   ·rfl
   ·exact e1
 refine⟨N1+(N2+N3),gs3,w3,gP,t3,q3,u',?_,i3,DY wr3 F hN C,?_,Q3⟩
 ·rw[XM,r1]
  show runNT qf (N2+N3) (crowd gs1 w8 sl1) t1=_;rw[XM,r2];exact r3
 ·refine⟨fun b hb=>?_,fc3.os.trans (ok2.env.1.trans e10),fc3.output.trans (ok2.env.2.trans e11)⟩
  have h1:=(f w2 ok2 b vom).trans (d b hb)
  have h2:b<w2.heap.size:=by
   have h3:(w2.heap[b]?).isSome=true:=by rw[h1];simp[hb]
   simpa using h3
  exact(fc3.keep b h2 (fun b' s e=>by have:=H _ _ _ _ e;cases this)).trans h1
theorem yU(x0 x1 x2 x3 x4 x5 x6 x7 x8 x9 x10 x11 x12 x13 x14 x15 x16 x17 x18 x19 x20 x21 x22 x23 x24 x26 x27 u:R2)(w:V8):
  wpOps qf Ti (Exit.then (Code.ret.wp qf (bodyPost qf Tryz.f8 (Cs.kY fun v w'=>v=.tuple #[u,.int .i64 0]∧w'=w))) (bodyPost qf Tryz.f8 (Cs.kY fun v w'=>v=.tuple #[u,.int .i64 0]∧w'=w))) (Xx 4 4) ⟨#[x0,x1,x2,x3,x4,x5,x6,x7,x8,x9,x10,x11,x12,x13,x14,x15,x16,x17,x18,x19,x20,x21,x22,x23,x24,.tuple #[u,.int .i64 0],x26,x27],[]⟩ w:=by
 refine ql 4 4 rfl ?_;simp only[Ti,TH,QV,SO,bB,Tryz.f8,Ww,List.drop]
 go_wp2_with fail
 refine⟨rfl,.tuple #[u,.int .i64 0],?_,_,rfl,rfl,rfl⟩;simp[results,Array.mapM_eq_mapM_toList,List.mapM_cons]
theorem Aw:[Item.code (Jn true)].all (aZ qf)=true:=vkr
theorem Ce:(pY [Item.inRegion Ti (3 :: Xx 4 4),.code .ret]).all (aZ qf)=true:=vkr
theorem IE{TJ:Wj}{w:V8}(hJ:qf.info? TJ=none)(V:Nat→R2)(L:Nat→List Nat)(hl:Hl)(hV:∀r,r<26→MY w (V r) (L r) hl):∃(E':Env) (wl':V8) (Ul:Nat→R2),Cp qf E' wl' w∧∀r,r<26→VR E' (Ul r) (V r)∧M1 wl' (Ul r) (L r) hl:=by
 obtain⟨E',wl',Ul,h1,_,h3⟩:=tO (P:=qf) (w:=w) (R:=V) (F:=fun i wl v=>M1 wl v (L i) hl) (m:=26) (fun i E E' wl wl' v hle hf=>uC hle hf) (fun i hi E wl hcp=>By hcp hJ (hV i hi)) 26 (R3 _) (Cp.nil (P:=qf) w);exact⟨E',wl',Ul,h1,h3⟩
theorem wF(v0 v1 v2 v3 v4 v5 v6 v7 v8 v10 v11 v12 v13 v14 v15 v16 v17 v18 v19 v20 v21 v22 v23 v24 v25 v26 v27 v28 v29 v30 v31 v32 v33 v34 v35 v36 v37 v38 v39 v40 v41 v42 v43 v44 v45 v46 v47 v48 v49 v50 v51 v52 x0 x1 x2 x3 x4 x5 x6 x7 x8 x9 x10 x11 x12 x13 x14 x15 x16 x17 x18 x19 x20 x21 x22 x23 x24 x25 x26 x27:R2)(bF:Nat)(V:Nat→R2)(g:Gm)(hl:Hl)(hln:hl.n=g.n)(h:Int)(hE:sI g h=0)(TJ TF:Wj)(fF:Nat×Nat)(w:V8)(hJ:qf.info? TJ=none)(hF:w.heap[bF]?=some (.cells (bJ 26 V) TF fF))(hV:∀k,k<26→MY w (V k) (hl.fY k (26 ^ (g.n-1))) hl)(cs:List WG):
  ∃E gl wl,bH qf (fun v w'=>∃u B,v=.tuple #[u,.int .i64 0]∧Um w' B u (hl.bU (26 ^ g.n)) hl) cs E gl wl (G (aL 27 #[v0,v1,v2,v3,v4,v5,v6,v7,v8,.pointer (some ⟨bF,0,none⟩),v10,v11,v12,v13,v14,v15,v16,v17,v18,v19,v20,v21,v22,v23,v24,v25,v26,v27,v28,v29,v30,v31,v32,v33,v34,v35,v36,v37,v38,v39,v40,v41,v42,v43,v44,v45,v46,v47,v48,v49,v50,v51,v52] [.code (Jn true)] .run) (aL 8 #[x0,x1,x2,x3,x4,x5,x6,x7,x8,x9,x10,x11,x12,x13,x14,x15,x16,x17,x18,x19,x20,x21,x22,x23,x24,x25,x26,x27] [.inRegion Ti (3 :: Xx 4 4),.code .ret] .run :: cs)) w∧∀b q s o,E b=some (q,s,o)→o=false:=by
 obtain⟨Q,e4,_⟩:=F4 hE
 have hL:∀k,(hl.fY k (26 ^ (g.n-1))).length≤676:=fun k=>by
  refine Ws (hl.Bv _ _) ?_;rcases(by omega:g.n=1∨g.n=2∨g.n=3)with h|h|h<;>rw[h]<;>decide
 obtain⟨E3,wl3,V',p3,D⟩:=IE hJ V (fun k=>hl.fY k (26 ^ (g.n-1))) hl hV
 have l:∀(n:Nat) (A B:Nat→R2) (E:Env),(∀i,i<n→VR E (A i) (B i))→∀(i:Nat) u,(bJ n A)[i]?=some u→∃v,(bJ n B)[i]?=some v∧VR E u v:=fun n A B E hh i u hu=>by
  have hi:i<n:=by have:=(Wd.1 hu).1;rwa [aU]at this
  rw[aM _ hi]at hu;cases hu;exact⟨_,aM _ hi,hh i hi⟩
 obtain⟨E9,wl9,dF,p9,q9,rF,kF⟩:=lS p3 hJ hF (bJ 26 V') (l 26 V' V E3 fun i hi=>(D i hi).1);have T:=fun k (hk:k<26)=>uC q9 (D k hk).2;obtain⟨jv0,hv0⟩:=aJ E9 v0;obtain⟨jv1,hv1⟩:=aJ E9 v1;obtain⟨jv2,hv2⟩:=aJ E9 v2;obtain⟨jv3,hv3⟩:=aJ E9 v3;obtain⟨jv4,hv4⟩:=aJ E9 v4;obtain⟨jv5,hv5⟩:=aJ E9 v5;obtain⟨jv6,hv6⟩:=aJ E9 v6;obtain⟨jv7,hv7⟩:=aJ E9 v7;obtain⟨jv8,hv8⟩:=aJ E9 v8;obtain⟨jv10,hv10⟩:=aJ E9 v10;obtain⟨jv11,hv11⟩:=aJ E9 v11;obtain⟨jv12,hv12⟩:=aJ E9 v12;obtain⟨jv13,hv13⟩:=aJ E9 v13;obtain⟨jv14,hv14⟩:=aJ E9 v14;obtain⟨jv15,hv15⟩:=aJ E9 v15;obtain⟨jv16,hv16⟩:=aJ E9 v16;obtain⟨jv17,hv17⟩:=aJ E9 v17;obtain⟨jv18,hv18⟩:=aJ E9 v18;obtain⟨jv19,hv19⟩:=aJ E9 v19;obtain⟨jv20,hv20⟩:=aJ E9 v20;obtain⟨jv21,hv21⟩:=aJ E9 v21;obtain⟨jv22,hv22⟩:=aJ E9 v22;obtain⟨jv23,hv23⟩:=aJ E9 v23;obtain⟨jv24,hv24⟩:=aJ E9 v24;obtain⟨jv25,hv25⟩:=aJ E9 v25;obtain⟨jv26,hv26⟩:=aJ E9 v26;obtain⟨jv27,hv27⟩:=aJ E9 v27;obtain⟨jv28,hv28⟩:=aJ E9 v28;obtain⟨jv29,hv29⟩:=aJ E9 v29;obtain⟨jv30,hv30⟩:=aJ E9 v30;obtain⟨jv31,hv31⟩:=aJ E9 v31;obtain⟨jv32,hv32⟩:=aJ E9 v32;obtain⟨jv33,hv33⟩:=aJ E9 v33;obtain⟨jv34,hv34⟩:=aJ E9 v34;obtain⟨jv35,hv35⟩:=aJ E9 v35;obtain⟨jv36,hv36⟩:=aJ E9 v36;obtain⟨jv37,hv37⟩:=aJ E9 v37;obtain⟨jv38,hv38⟩:=aJ E9 v38;obtain⟨jv39,hv39⟩:=aJ E9 v39;obtain⟨jv40,hv40⟩:=aJ E9 v40;obtain⟨jv41,hv41⟩:=aJ E9 v41;obtain⟨jv42,hv42⟩:=aJ E9 v42;obtain⟨jv43,hv43⟩:=aJ E9 v43;obtain⟨jv44,hv44⟩:=aJ E9 v44;obtain⟨jv45,hv45⟩:=aJ E9 v45;obtain⟨jv46,hv46⟩:=aJ E9 v46;obtain⟨jv47,hv47⟩:=aJ E9 v47;obtain⟨jv48,hv48⟩:=aJ E9 v48;obtain⟨jv49,hv49⟩:=aJ E9 v49;obtain⟨jv50,hv50⟩:=aJ E9 v50;obtain⟨jv51,hv51⟩:=aJ E9 v51;obtain⟨jv52,hv52⟩:=aJ E9 v52;obtain⟨jx0,e3⟩:=aJ E9 x0;obtain⟨jx1,S⟩:=aJ E9 x1;obtain⟨jx2,N⟩:=aJ E9 x2;obtain⟨jx3,Y⟩:=aJ E9 x3;obtain⟨jx4,Z⟩:=aJ E9 x4;obtain⟨jx5,O⟩:=aJ E9 x5;obtain⟨jx6,P⟩:=aJ E9 x6;obtain⟨jx7,U⟩:=aJ E9 x7;obtain⟨jx8,b9⟩:=aJ E9 x8;obtain⟨jx9,W⟩:=aJ E9 x9;obtain⟨jx10,m⟩:=aJ E9 x10;obtain⟨jx11,H⟩:=aJ E9 x11;obtain⟨jx12,L⟩:=aJ E9 x12;obtain⟨jx13,M⟩:=aJ E9 x13;obtain⟨jx14,e⟩:=aJ E9 x14;obtain⟨jx15,F⟩:=aJ E9 x15;obtain⟨jx16,c⟩:=aJ E9 x16;obtain⟨jx17,j⟩:=aJ E9 x17;obtain⟨jx18,a⟩:=aJ E9 x18;obtain⟨jx19,d⟩:=aJ E9 x19;obtain⟨jx20,I⟩:=aJ E9 x20;obtain⟨jx21,y⟩:=aJ E9 x21;obtain⟨jx22,x⟩:=aJ E9 x22;obtain⟨jx23,t⟩:=aJ E9 x23;obtain⟨jx24,f⟩:=aJ E9 x24;obtain⟨jx25,J⟩:=aJ E9 x25;obtain⟨jx26,C⟩:=aJ E9 x26;obtain⟨jx27,z⟩:=aJ E9 x27;have lE:=(ah hv0 (ah hv1 (ah hv2 (ah hv3 (ah hv4 (ah hv5 (ah hv6 (ah hv7 (ah hv8 (ah rF (ah hv10 (ah hv11 (ah hv12 (ah hv13 (ah hv14 (ah hv15 (ah hv16 (ah hv17 (ah hv18 (ah hv19 (ah hv20 (ah hv21 (ah hv22 (ah hv23 (ah hv24 (ah hv25 (ah hv26 (ah hv27 (ah hv28 (ah hv29 (ah hv30 (ah hv31 (ah hv32 (ah hv33 (ah hv34 (ah hv35 (ah hv36 (ah hv37 (ah hv38 (ah hv39 (ah hv40 (ah hv41 (ah hv42 (ah hv43 (ah hv44 (ah hv45 (ah hv46 (ah hv47 (ah hv48 (ah hv49 (ah hv50 (ah hv51 (ah hv52 gR)))))))))))))))))))))))))))))))))))))))))))))))))))))
 have lF:=(ah e3 (ah S (ah N (ah Y (ah Z (ah O (ah P (ah U (ah b9 (ah W (ah m (ah H (ah L (ah M (ah e (ah F (ah c (ah j (ah a (ah d (ah I (ah y (ah x (ah t (ah f (ah J (ah C (ah z gR))))))))))))))))))))))))))))
 refine⟨E9,_,wl9,bH.T3 ⟨_,Tryz.func27⟩ lE p9.wr p9.gF Aw (.cons ⟨_,Tryz.func8⟩ lF Ce .base) (fun τ=>?_),p9.sh⟩;refine Cs.ue (Cs.vg Tryz.func27 (Ky jv0 jv1 jv2 jv3 jv4 jv5 jv6 jv7 jv8 jv10 jv11 jv12 jv13 jv14 jv15 jv16 jv17 jv18 jv19 jv20 jv21 jv22 jv23 jv24 jv25 jv26 jv27 jv28 jv29 jv30 jv31 jv32 jv33 jv34 jv35 jv36 jv37 jv38 jv39 jv40 jv41 jv42 jv43 jv44 jv45 jv46 jv47 jv48 jv49 jv50 jv51 jv52 dF V' TJ _ hl _ hL (wl9.tp τ) kF T)) ?_;rintro v w1 ⟨u,rfl,hN,hb⟩;rw[Cs.iw]
 have K:hl.cZ (fun k=>hl.fY k (26 ^ (g.n-1))) 26=hl.bU (26 ^ g.n):=by
  have:=hl.tT (by rw[hln];exact Q);rw[hln]at this;exact this
 rw[K]at hN;obtain⟨n',fr',w',v',k1,k2,k3⟩:=Cs.j5 (cs:=[aK qf]) Tryz.func8 (yU jx0 jx1 jx2 jx3 jx4 jx5 jx6 jx7 jx8 jx9 jx10 jx11 jx12 jx13 jx14 jx15 jx16 jx17 jx18 jx19 jx20 jx21 jx22 jx23 jx24 jx26 jx27 u w1);refine⟨n',fr',w',v',k1,k2,?_⟩;obtain⟨rfl,rfl⟩:=k3;exact⟨u,_,rfl,hN⟩
noncomputable def wR(A:Array R2)(vl:R2)(n S0:Nat)(W w8:V8)(Fd C1 C2:Nat):fX:={ n:=n,K:=26,S0:=S0,N1:=w8.heap.size,H0:=fun q=>w8.heap[q]?,C1:=C1,C2:=C2,Fd:=Fd,TF:=109,z1:=.int .i64 0,z2:=.bool false,MV:=.tuple #[],zs2:=.tuple #[],fB:=56,ar:=fun k=>#[.agg A,.int .i64 (k:Nat),vl],Ua:=W.os,KS:=W.output }
section
variable{A:Array R2}{vl:R2}{n S0:Nat}{W w4 w8:V8}{Fd C1 C2 bF bD:Nat}
theorem Oa.ok(k:Oa A vl W w4 w8 Fd C1 C2 bF bD):(wR A vl n S0 W w8 Fd C1 C2).Ok w8:=⟨fun _ _=>rfl,⟨_,k.row,aU _ _⟩,R3 _,k.env⟩
theorem Oa.low(k:Oa A vl W w4 w8 Fd C1 C2 bF bD)(q:Nat)(hq:q<w4.heap.size):(wR A vl n S0 W w8 Fd C1 C2).Fix q:=by
 have h0:=k.fd;have h3:=bS k.row;have h4:=k.c1.1;have h5:=k.c2.1;exact⟨by show q<w8.heap.size;omega,by show q≠Fd;omega,by show q≠C1;omega,by show q≠C2;omega,fun e=>e⟩
theorem Oa.cells(k:Oa A vl W w4 w8 Fd C1 C2 bF bD){q:Nat}{x:Array R2}{T:Wj}(hq:w8.heap[q]?=some (.cells x T (0,0)))(hlt:Fd<q):(wR A vl n S0 W w8 Fd C1 C2).Fix q:=by
 refine⟨bS hq,by show q≠Fd;omega,fun e=>?_,fun e=>?_,fun e=>e⟩
 ·have e':q=C1:=e
  rw[e',k.c1.2]at hq;cases hq
 ·have e':q=C2:=e
  rw[e',k.c2.2]at hq;cases hq
theorem Oa.wk(k:Oa A vl W w4 w8 Fd C1 C2 bF bD)(hA:A.size=55):Fj (wR A vl n S0 W w8 Fd C1 C2) bF W.heap.size (W.heap.size+1) bD (.agg A) vl:=by
 have a:(qf.info? 35).map (·.size)=some A.size:=by rw[hA];exact aE
 have fixF:=k.cells (n:=n) (S0:=S0) k.bf.2 k.bf.1;have fixD:=k.cells (n:=n) (S0:=S0) k.bd.2 k.bd.1;have fixM:=k.low (n:=n) (S0:=S0) _ (bS k.lM);have fixL:=k.low (n:=n) (S0:=S0) _ (bS k.lL);have lM:=(k.Ec _ (bS k.lM)).trans k.lM;have lL:=(k.Ec _ (bS k.lL)).trans k.lL;refine⟨⟨fixF,fixM,fixL,fixD⟩,fun w hw=>js ((hw.fix _ fixF).trans k.bf.2),fun w hw=>js ((hw.fix _ fixD).trans k.bd.2),fun w hw=>js ((hw.fix _ fixL).trans lL),fun w hw=>ux ((hw.fix _ fixM).trans lM) WH rfl a,fun w hw e he=>?_⟩;obtain⟨ad,e1,e2⟩:=FY ((hw.fix _ fixM).trans lM) WH rfl a e he;exact⟨ad,e1,by rw[e2];exact fixM⟩
end
theorem zF(a b c:R2)(g:Gm)(cr te:ByteArray)(hl:Hl)(hBm:S7 g hl cr te)(hW0:Ah g cr.data.toList te.data.toList=0)(n:Nat)(hE:sI g (n:Int)=0)(hfit:∀r,r<g.n→g.nl r*8≤140737488355328)(hrl:g.rl*8≤140737488355328)(A:Array R2)(hA0:A=aP a b c g.rf g.pl)(W:V8)(ha:DU W a g.n g.wi g.nl g.no)(hb:aq W b g.rl g.ri)(hc:aq W c g.sl g.st)(ra:Rt W a)(rb:Rt W b)(rc:Rt W c)(cal:WG)(rest:List WG){gs:Array Goroutine}{t:Trace}{q:Nat→Nat}(i1:gs[0]?=some (G ((base 8).at ⟨#[.agg A,.string cr,.string te,.int .i64 (n:Nat),Wb,Wb,Wb,Wb,Wb,Wb,Wb,Wb,Wb,Wb,Wb,Wb,Wb,Wb,Wb,Wb,Wb,Wb,Wb,Wb,Wb,Wb,Wb,Wb],[]⟩ [.code bB]) (cal :: rest)))(Q1:Qt qf gs t q W.heap.size)(sl:Option (Nat×Nat)):
  ∃N gs' w' sl' t' q' u,runNT qf N (crowd gs W sl) t=(.next (crowd gs' w' sl'),t')∧gs'[0]?=some (G (cal.finish (.tuple #[u,.int .i64 0])) rest)∧MY w' u (hl.bU (26 ^ g.n)) hl∧Kept W w'∧Qt qf gs' t' q' w'.heap.size:=by
 have hG:qf.globals.size≤aT.G:=R3 _;obtain⟨l5,p5,q8⟩:=F4 hE;obtain⟨_,_,l9,o6⟩:=gI hE;have hA:A.size=55:=by rw[hA0];exact aD ..
 have I0:HI W.heap W.os W.output W:=⟨rfl,rfl,rfl⟩
 -- to the call of wrong
 obtain⟨mu1,G1⟩:=UE A hA cr te (n:Int) (cal :: rest) W.heap W.os W.output W I0;obtain⟨N1,gs1,w1,sl1,t1,q1,g1,r1,z1,i2,⟨rfl,I1⟩,Q2⟩:=de (sl:=sl) (fun _ _ _ h=>h) (fun g w h=>by rw[h.1];rfl) i1 G1 Q1;obtain⟨H1,B⟩:∃H1,H1=(W.heap.push (.cells A 35)).push (.cells #[.string cr] 9):=⟨_,rfl⟩
 rw[←B]at I1;have o1:∀b,b<W.heap.size→H1[b]?=W.heap[b]?:=fun b hb=>by rw[B];exact uO hb
 have d1:H1[W.heap.size]?=some (.cells A 35):=by rw[B];exact vO
 have e1:H1[W.heap.size+1]?=some (.cells #[.string cr] 9):=by rw[B];exact uT
 have s1:H1.size=W.heap.size+2:=by rw[B];exact sV
 clear B G1;have m:∀b,b<W.heap.size→w1.heap[b]?=W.heap[b]?:=fun b hb=>by rw[I1.1,o1 b hb]
 -- wrong
 obtain⟨E1,wl1,a',b',c',p1,cc1,ra',rb',rc',k8⟩:=oM (Cp.nil (P:=qf) w1) c8 (jh m ha) (cF m hb) (cF m hc) (cW m ra) (cW m rb) (cW m rc)
 have o:∀cs,bH qf (fun v _=>v=.int .i64 0) cs E1 (G (Frame.enter qf 25 #[.agg (aP a' b' c' g.rf g.pl),.string cr,.string te] .normal) [aK qf]) wl1 (G (Frame.enter qf 25 #[.agg A,.string cr,.string te] .normal) cs) w1:=fun cs=>bH.start (c:=cs) cG (f:=25) vkr (x:=#[.agg (aP a' b' c' g.rf g.pl),.string cr,.string te]) (y:=#[.agg A,.string cr,.string te]) (ah (.lK (by rw[hA0];exact oA ra' rb' rc')) (ah (.string _) (ah (.string _) gR))) p1.wr p1.gF (fun τ=>by
  refine(Ej _ g cr te (wl1.tp τ) k8).mono ?_;rintro e w' ⟨rfl,_⟩;exact⟨_,rfl,by rw[hW0]⟩)
 obtain⟨N2,gs2,w2,sl2,t2,q2,E2,v,v',wl2,r2,z2,i3,p2,vr,_,fc2,Q3⟩:=fG (sl:=sl1) hG cG i2 (o _) Q2;subst p2;cases vr
 have k2:∀b,b<H1.size→w2.heap[b]?=H1[b]?:=fun b hb=>by
  rw[←I1.1];exact fc2.keep b (by rw[I1.1];exact hb) (fun b' s e=>by have:=p1.sh _ _ _ _ e;cases this)
 have s2:H1.size≤w2.heap.size:=by have:=fc2.size;rw[I1.1]at this;exact this
 have I2:HI w2.heap W.os W.output w2:=⟨rfl,fc2.os.trans I1.2.1,fc2.output.trans I1.2.2⟩
 clear o
 -- to the call of menuOf
 obtain⟨mu3,G3⟩:=U6 A cr te (n:Int) W.heap.size (W.heap.size+1) (cal :: rest) w2.heap W.os W.output w2 I2 (by rw[k2 _ vom];exact e1);obtain⟨N3,gs3,w3,gP,t3,q3,g3,r3,z3,i4,⟨rfl,I3⟩,Q4⟩:=de (sl:=sl2) (fun _ _ _ h=>h) (fun g w h=>by rw[h.1];rfl) i3 G3 Q3;clear G3
 -- menuOf
 have p3:=Cp.nil (P:=qf) w3
 have o:∀cs,bH qf (fun v wl=>∃G vals,v=.pointer (some ⟨G,0,none⟩)∧wZ wl G vals (fun c=>Bo.ml (mL g cr te) c (mL g cr te).k)) cs _ (G (Frame.enter qf 26 #[.string cr,.string te] .normal) [aK qf]) _ (G (Frame.enter qf 26 #[.string cr,.string te] .normal) cs) w3:=fun cs=>bH.start (c:=cs) cG (f:=26) vkr (x:=#[.string cr,.string te]) (y:=#[.string cr,.string te]) (ah (.string _) (ah (.string _) gR)) p3.wr p3.gF (fun τ=>by
  refine(C3 (mL g cr te) cr te (EF hW0) _).mono ?_;rintro e w' ⟨vals,rfl,h1,_⟩;exact⟨_,rfl,_,vals,rfl,h1⟩)
 obtain⟨N4,gs4,w4,sl4,t4,q4,E4,v,v',wl4,r4,z4,i5,⟨G4,vals,rfl,T⟩,vr,wr4,fc4,Q5⟩:=fG (sl:=gP) hG cG i4 (o _) Q4;obtain⟨qm,sm,rfl,k6⟩:=Jd wr4 T vr
 have k4:∀b,b<w2.heap.size→w4.heap[b]?=w2.heap[b]?:=fun b hb=>by
  rw[←I3.1];exact fc4.keep b (by rw[I3.1];exact hb) (fun b' s e=>by cases e)
 have s4:w2.heap.size≤w4.heap.size:=by have:=fc4.size;rw[I3.1]at this;exact this
 have I4:HI w4.heap W.os W.output w4:=⟨rfl,fc4.os.trans I3.2.1,fc4.output.trans I3.2.2⟩
 clear o
 -- to the call of Every
 have j0:w4.heap[W.heap.size]?=some (.cells A 35 (0,0)):=by rw[k4 _ vom,k2 _ vom];exact d1
 have M:w4.heap[W.heap.size+1]?=some (.cells #[.string cr] 9 (0,0)):=by rw[k4 _ vom,k2 _ vom];exact e1
 obtain⟨mu5,G5⟩:=Va A hA cr te (n:Int) W.heap.size (W.heap.size+1) ⟨qm,sm,none⟩ (cal :: rest) w4.heap W.os W.output w4 I4 j0;obtain⟨N5,gs5,w5,sl5,t5,q5,g5,r5,z5,i6,⟨rfl,I5⟩,Q6⟩:=de (sl:=sl4) (fun _ _ _ h=>h) (fun g w h=>by rw[h.1];rfl) i5 G5 Q5;clear G5;have s5:w5.heap.size=w4.heap.size+1:=by rw[I5.1,YG]
 have k5:∀b,b<w4.heap.size→w5.heap[b]?=w4.heap[b]?:=fun b hb=>by rw[I5.1,Wq,V9 vom]
 have F:w5.heap[w4.heap.size]?=some (.cells #[.pointer (some ⟨qm,sm,none⟩)] 70 (0,0)):=by rw[I5.1,Wq,Wc rfl]
 have I:=(k5 _ (bS M)).trans M
 have d:∀b,b<W.heap.size→w5.heap[b]?=W.heap[b]?:=fun b hb=>by
  rw[k5 b vom,k4 b vom,k2 b vom,o1 b hb]
 -- to the first 'go'
 obtain⟨N6,gs6,w6,w8,sl6,t6,q6,g8,Fd,C1,C2,bF,bD,r6,p9,i8,L,J,F8,k⟩:=zR a b c g n hE 28 #[] #[.pointer (some ⟨w4.heap.size,0,none⟩),.pointer (some ⟨W.heap.size+1,0,none⟩)] w5 (jh d ha) (cF d hb) (cF d hc) (cW d ra) (cW d rb) (cW d rc) A hA0 _ i6 Q6 sl5;obtain⟨vl,hvl⟩:∃vl,vl=Value.func (.func 28) #[] #[.pointer (some ⟨w4.heap.size,0,none⟩),.pointer (some ⟨W.heap.size+1,0,none⟩)]:=⟨_,rfl⟩
 rw[←hvl]at k;have wk:=k.wk (n:=n) (S0:=gs6.size) hA;have C:=k.Qj;have ok:=k.ok (n:=n) (S0:=gs6.size);have low:=k.low (n:=n) (S0:=gs6.size);have Ec:=k.Ec;have D:∀w,(wR A vl n gs6.size w5 w8 Fd C1 C2).Ok w→∀b,b<w6.heap.size→w.heap[b]?=w6.heap[b]?:=fun w hw b hb=>(hw.fix b (low b hb)).trans (Ec b hb)
 have n4:w5.heap.size≤w6.heap.size:=by
  have:=bS k.lM;omega
 have dd1:C1<w8.heap.size∧C2<w8.heap.size∧Fd<w8.heap.size∧C1≠C2∧C1≠Fd∧C2≠Fd:=⟨bS k.c1.2,bS k.c2.2,bS k.row,k.ne,by have:=k.c1.1;omega,by have:=k.c2.1;omega⟩
 have O:Walk qf (wR A vl n gs6.size w5 w8 Fd C1 C2) true (wM true (wR A vl n gs6.size w5 w8 Fd C1 C2) bF w5.heap.size (w5.heap.size+1) bD n _ 0) 0 g8 w8:=Goes.stop fun _ _=>⟨L,J _ rfl⟩
 have S:=k.c1.2;have k3:=k.c2.2;have b9:∀j x ad,touchAt t6 j=some x→x.loc=.cell ad→ad.block≠Fd:=fun j x ad e1 e2=>F8.pl j x e1 ad e2;have hq:=F8.qt;have wk':Fj (wR A vl n gs6.size w5 w8 Fd C1 C2) bF w5.heap.size (w5.heap.size+1) bD (.agg (aP a b c g.rf g.pl)) (.func (.func 28) #[] #[.pointer (some ⟨w4.heap.size,0,none⟩),.pointer (some ⟨W.heap.size+1,0,none⟩)]):=by rw[←hA0,←hvl];exact wk
 have j3:(wR A vl n gs6.size w5 w8 Fd C1 C2).ar=fun k=>#[.agg (aP a b c g.rf g.pl),.int .i64 (k:Nat),.func (.func 28) #[] #[.pointer (some ⟨w4.heap.size,0,none⟩),.pointer (some ⟨W.heap.size+1,0,none⟩)]]:=by rw[←hA0,←hvl];rfl
 have p7:1≤gs6.size:=by have:=cI i8;omega
 have H:∀b,b<w4.heap.size→w6.heap[b]?=w4.heap[b]?:=fun b hb=>(C b vom).trans (k5 b hb);have l:∀b,b<W.heap.size→w6.heap[b]?=W.heap[b]?:=fun b hb=>(C b vom).trans (d b hb);have k7:=(C _ (bS F)).trans F;have k9:=(C _ (bS I)).trans I;clear k wk F8 J;generalize hcst:wR A vl n gs6.size w5 w8 Fd C1 C2=cst at *;have e1:cst.n=n:=by rw[←hcst];rfl
 have e2:cst.K=26:=by rw[←hcst];rfl
 have e3:cst.z1=.int .i64 0∧cst.z2=.bool false∧cst.MV=.tuple #[]∧cst.zs2=.tuple #[]:=by rw[←hcst];exact⟨rfl,rfl,rfl,rfl⟩
 have e4:cst.fB=56:=by rw[←hcst];rfl
 have e5:cst.S0=gs6.size:=by rw[←hcst];rfl
 have e6:cst.C1=C1:=by rw[←hcst];rfl
 have e7:cst.C2=C2:=by rw[←hcst];rfl
 have e8:cst.Fd=Fd:=by rw[←hcst];rfl
 have e9:cst.N1=w8.heap.size:=by rw[←hcst];rfl
 have e10:cst.Ua=w5.os:=by rw[←hcst];rfl
 have e11:cst.KS=w5.output:=by rw[←hcst];rfl
 clear hcst;rw[←e1]at O;obtain⟨N7,gs7,w7,sl7,t7,q7,V,v0,v2,v4,v6,v7,v8,v12,v13,v14,v15,v16,v17,v18,v19,v20,v21,v22,v23,v24,v25,v26,v27,v28,v29,v30,v31,v32,v33,v34,v35,v36,v37,v38,v39,v40,v41,v42,v43,v44,v45,v46,v47,v48,v49,v50,v51,v52,r7,i7,hF,hV,ok7,Q7⟩:=Dh cst bF w5.heap.size (w5.heap.size+1) bD w4.heap.size (W.heap.size+1) qm sm a b c g cr te hl hBm (cst.n:Int) (by rw[e1];exact hE) hfit hrl _ _ _ _ w6 D low k7 k9 (Nr H k6) (jh l ha) (cF l hb) (cF l hc) (cW l ra) (cW l rb) (cW l rc) wk' ⟨vom,vom⟩ e2 e3 e4 j3 vom (by rw[e6,e7,e8,e9];exact dd1) _ (by rw[e5]) i8 hq O ok (by rw[e6];exact S) (by rw[e7];exact k3) (by rw[e8];exact b9) sl6;obtain⟨E,gl,wl,o,Z⟩:=wF v0 (.int .i64 (cst.n:Nat)) v2 (.pointer (some ⟨w5.heap.size,0,none⟩)) v4 (.pointer (some ⟨w5.heap.size+1,0,none⟩)) v6 v7 v8 (.pointer (some ⟨bF,0,none⟩)) (.pointer (some ⟨bD,0,none⟩)) v12 v13 v14 v15 v16 v17 v18 v19 v20 v21 v22 v23 v24 v25 v26 v27 v28 v29 v30 v31 v32 v33 v34 v35 v36 v37 v38 v39 v40 v41 v42 v43 v44 v45 v46 v47 v48 v49 v50 v51 v52 _ _ _ _ _ _ _ _ _ _ _ _ _ _ _ _ _ _ _ _ _ _ _ _ _ _ _ _ cst.Fd V g hl hBm.n (n:Int) hE 1000000000 _ _ w7 c8 hF hV (cal :: rest);obtain⟨N9,gs9,w9,sl9,t9,q9,E9,v,v',wl9,r9,z9,i9,⟨u,B9,rfl,Y⟩,vr,wr9,fc9,Q9⟩:=fG (sl:=sl7) hG cG i7 o Q7
 obtain⟨u',rfl,Q⟩:∃u',v'=.tuple #[u',.int .i64 0]∧VR E9 u u':=by
  cases vr with
  |tuple hs hv=>
   rename_i y
   have h0:0<y.size:=by rw[←hs];exact Nat.zero_lt_two
   have h1:1<y.size:=by rw[←hs];exact Nat.one_lt_two
   have k0:=hv 0 u _ rfl (Wl h0);have k1:=hv 1 (.int .i64 0) _ rfl (Wl h1)
   have e1:y[1]=.int .i64 0:=by
    revert k1
    generalize y[1]=z;intro k1;cases k1
    rfl
   refine⟨y[0],?_,k0⟩
   congr 1
   refine Array.ext (by rw[←hs];rfl) fun i hi1 hi2=>?_;rcases(by simp at hi2;omega:i=0∨i=1)with rfl|rfl
   ·rfl
   ·exact e1
 have U:=hBm.n;refine⟨N1+(N2+(N3+(N4+(N5+(N6+(N7+N9)))))),gs9,w9,sl9,t9,q9,u',?_,i9,BJ wr9 (by rw[U];unfold maxLen;omega) vom (fun N hN=>?_) Y Q,?_,Q9⟩
 ·rw[XM,r1]
  show runNT qf (N2+(N3+(N4+(N5+(N6+(N7+N9)))))) (crowd gs1 w1 sl1) t1=_;rw[XM,r2];show runNT qf (N3+(N4+(N5+(N6+(N7+N9))))) (crowd gs2 w2 sl2) t2=_;rw[XM,r3];show runNT qf (N4+(N5+(N6+(N7+N9)))) (crowd gs3 w3 gP) t3=_;rw[XM,r4];show runNT qf (N5+(N6+(N7+N9))) (crowd gs4 w4 sl4) t4=_;rw[XM,r5];show runNT qf (N6+(N7+N9)) (crowd gs5 w5 sl5) t5=_;rw[XM,r6];show runNT qf (N7+N9) (crowd gs6 w8 sl6) t6=_;rw[XM,r7];exact r9
 ·obtain⟨k,hk⟩:=List.mem_iff_getElem?.1 hN
  exact(hl.Bd hk).1
 ·refine⟨fun b hb=>?_,fc9.os.trans (ok7.env.1.trans (e10.trans I5.2.1)),fc9.output.trans (ok7.env.2.trans (e11.trans I5.2.2))⟩
  have h1:=(D w7 ok7 b vom).trans (l b hb)
  have h2:b<w7.heap.size:=by
   have h3:(w7.heap[b]?).isSome=true:=by rw[h1];simp[hb]
   simpa using h3
  exact(fc9.keep b h2 (fun b' s e=>by have:=Z _ _ _ _ e;cases this)).trans h1
end
end Go.Proofs.YtpcnpkhgjanamaaGreatDoor
