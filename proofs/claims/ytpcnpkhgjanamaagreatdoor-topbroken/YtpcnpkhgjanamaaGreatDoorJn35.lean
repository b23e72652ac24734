import Derived.Test.YtpcnpkhgjanamaaGreatDoorPz
import Derived.Test.YtpcnpkhgjanamaaGreatDoorJn34
namespace Go.Proofs.YtpcnpkhgjanamaaGreatDoor
open Go.Proofs.Tryz renaming prog→qf,f33→Yf
open Go renaming Value→R2,World→V8,TypeId→Wj,Program→Wr
open _root_.Array renaming ofFn→YN,getElem_ofFn→YZ
set_option maxRecDepth 100000
set_option maxHeartbeats 4000000
namespace Cs
open Go.Conc
variable{hv:Bool}
variable[aT]
noncomputable def BK(hv:Bool){Post:Nat→R2→V8→Prop}(c:fX)(bF bM bL bD:Nat)(vm vl:R2)(cs:List Frame)(wk:Fj c bF bM bL bD vm vl)(hn:1≤c.n∧c.n≤1000)(hK:c.K=26)(hz:c.z1=.int .i64 0∧c.z2=.bool false∧c.MV=.tuple #[]∧c.zs2=.tuple #[])
  (hB:c.fB=(pk hv 68 56)) (har:c.ar=fun k=>#[vm,.int .i64 (k:Nat),vl]) (s1:1≤c.S0) (d1:c.C1<c.N1∧c.C2<c.N1∧c.Fd<c.N1∧c.C1≠c.C2∧c.C1≠c.Fd∧c.C2≠c.Fd) (Uq:aT.ok c.fB=true)
  (Un:∀k,k<c.K→∀w,c.Ok w→∃(E:Env) (wl:V8) (x:Array R2),(∀b q s o,E b=some (q,s,o)→o=false∧c.Fix q)∧LR E x (c.ar k)∧WR qf E wl w∧aT.G≤wl.heap.size∧∀τ,Calls qf c.fB x (wl.tp τ) fun e w'=>∃v,e=.returned v∧Post k v w')
  (SV:∀k v wl (E:Env) v',Post k v wl→VR E v v'→∃a l cp,v'=.slice a l cp):yq qf c Post where
 Rec:=Il hv c bF bM bL bD
 Jl:=Sl hv c bF bM bL bD
 SW:=QJ hv c bF bM bL bD vm vl
 Qa:=RB hv c bF bM bL bD
 Px:=wM hv c bF bM bL bD c.n cs
 zM:=AX hv c bF bM bL bD c.n cs
 Ov:=QN hv c bF bM bL bD c.n cs
 tW:=AN hv c bF bM bL bD c.n cs
 OF:=Te hv c bF bM bL bD c.n cs
 PW:=fun v=>∃a l cp,v=.slice a l cp
 n1:=hn.1
 k1:=vom
 s1:=s1
 d1:=d1
 Lu:=fun g h=>by rw[hz.1];exact RP h
 Gb:=fun g h k _ w _=>Mu wk h k
 EG:=fun g h w _=>by rw[hz.1];exact LW wk h
 cal:=fun k g h hk=>by
  obtain⟨cal,rest,e,hc⟩:=Ny vom h;refine⟨cal,rest,?_,fun v _ w _=>hc v w⟩;rw[hB,har];exact e
 Vr:=fun k v g h hk hv=>by
  obtain⟨a,l,cp,rfl⟩:=hv;obtain⟨h1,g',h2,h3,h4⟩:=QK hk h;exact⟨h1,g',h2,h3,fun w _=>h4 w⟩
 LX:=fun g h=>by rw[hz.2.2.2];exact RY h
 Vw:=fun j g h hj=>by
  obtain⟨h1,g',h2,h3⟩:=Tz h;exact⟨h1,g',_,h2,fun w _=>T8 wk,fun w _=>R4 wk hn.2 hj h3⟩
 Qk:=fun k g h hk=>by
  obtain⟨h1,h2⟩:=QY h;rw[hz.2.2.1];refine⟨h1,h2,fun w _=>?_⟩;simp only[hK];exact Nv wk vom h
 VB:=fun g h=>by
  obtain⟨h1,h2,g',h3,h4,h5⟩:=S1 hn.1 wk h;exact⟨h1,h2,g',h3,h4,fun w _=>h5 w⟩
 Qy:=fun r g h hr=>by
  obtain⟨h1,h2⟩:=Sf h;rw[hz.2.1];exact⟨h1,h2,fun w _=>NK wk hn.2 hr h⟩
 Uq:=Uq
 Un:=Un
 SV:=SV
end Cs
section
open Go.RowKit PK Vg
theorem NC(v0 v1 v2 v3 v4 v5 v6 v7 v8 v10 v11 v12 v13 v14 v15 v16 v17 v18 v19 v20 v21 v22 v23 v24 v25 v26 v27 v28 v29 v30 v31 v32 v33 v34 v35 v36 v37 v38 v39 v40 v41 v42 v43 v44 v45 v46 v47 v48 v49 v50 v51 v52:R2)(bF:Nat)(V:Nat→R2)(T':Wj)(fr:Nat×Nat)(L:Nat→List Nat)(m:Nat)(hL:∀k,(L k).length≤676)(w:V8)(hF:w.heap[bF]?=some (.cells (bJ 26 V) T' fr))(hV:∀k,k<26→RQ w (V k) (L k) m):
  (Cs.Jn false).wp qf (bodyPost qf Yf (Cs.kY fun v w'=>∃u,v=.tuple #[u,.int .i64 0]∧Uk w' w.heap.size u (cZ L 26) m∧Below w.heap.size w w')) ⟨#[v0,v1,v2,v3,v4,v5,v6,v7,v8,.pointer (some ⟨bF,0,none⟩),v10,v11,v12,v13,v14,v15,v16,v17,v18,v19,v20,v21,v22,v23,v24,v25,v26,v27,v28,v29,v30,v31,v32,v33,v34,v35,v36,v37,v38,v39,v40,v41,v42,v43,v44,v45,v46,v47,v48,v49,v50,v51,v52],[]⟩ w:=by
 obtain⟨i0,s,J,C,G⟩:=ei rU;have f:=vv hL;have M:bF<w.heap.size:=(Wd.1 hF).1;have HV:Hid (∀k,k<26→RQ w (V k) (L k) m):=hV;clear hV hL;simp only[Cs.Jn,Cs.NT,Cs.Ki,Cs.DI,Cs.Ab,Cs.dK,Cs.pk,Yf,Ww]
 go_wp2_with (first|refine Wn rfl 129 _ rfl bF rfl T' (bJ 26 V) fr _ hF Tryz.underlying129 rfl (by rw[aU];exact IS) ?_)
 clear hF;go_loopw [13,45] (fun o x W=>∃(i:Nat) (u:R2),i≤26∧x=.int .i64 (i:Nat)∧u=o∧(∃vs:List R2,W.ownsRow w.heap.size 31 1 u (cZ L i).length vs∧∀(k:Nat) (u:R2) (N:Nat),vs[k]?=some u→(cZ L i)[k]?=some N→aq w u m fun i=>((dx m N i:Nat):Int))∧Below w.heap.size w W) (fun _ x _=>((26:Int)-intOf x).toNat)
 case atStart=>exact⟨0,.slice none 0 0,vom,rfl,rfl,⟨[],World.ownsRow_nil w _ _ 1,fun k u N h=>by simp at h⟩,Below.refl _ _⟩
 case round=>
  obtain⟨i,u,hi,rfl,rfl,⟨vs,a,hvs⟩,b⟩:=hrel;by_cases hlt:i<26
  ·have g:Hid (i<26):=hlt
   have K:(i:Int)<26:=vom;have t:=fun W=>zE V i hlt W;have F:=f i;have n:=f (i+1);rw[show cZ L (i+1)=cZ L i++L i from rfl,WM]at n;have y:=b.size;rcases HV.out i hlt with⟨hv0,B⟩|⟨ab,ao,c,ws,hv0,D,z,H,A⟩
   ·rw[hv0]at t
    have HC:Hid (cZ L (i+1)=cZ L i):=by show cZ L i++L i=_;rw[B,List.append_nil]
    have d:Hid _:=hvs;have HB:Hid _:=b;clear hlt hv0 B hvs b f F n
    go_wp2_with (first|(at_builtin;refine wpList_append_own_none rfl _ _ 29 rfl w.heap.size 31 i0 1 Tryz.underlying29 s u _ vs rfl a rfl ?_))
    go_roundw
    case rel=>exact⟨i+1,u,g.out,by go_num,by first|rfl|trivial,⟨vs,by rw[HC.out];exact a,by rw[HC.out];exact d.out⟩,HB.out⟩
    case measure=>have:=g.out;simp[intOf];omega
   ·rw[hv0]at t
    have q:∀(j:Nat) x,ws[j]?=some x→wr.cell? ((⟨ab,ao,none⟩:Addr).add j)=some x:=fun j x hx=>by
     have h1:=z j x hx;rw[Addr.add_lit];exact(b.cell (aA h1)).trans h1
    have d:Hid _:=hvs;have I:Hid _:=A;have E:Hid _:=D;have HB:Hid _:=b;clear hlt hv0 hvs b f z A
    go_wp2_with (first|(at_builtin;refine wpList_append_own _ rfl _ _ 29 rfl w.heap.size 31 i0 (.slice none 0 0) 1 24 Tryz.underlying29 s J C G rfl vde u _ vs rfl a ⟨ab,ao,none⟩ _ c ws rfl (by rw[E.out,Nat.mul_one]) q H (by unfold maxLen;omega) vom y ?_;intro v' w1 hown' hgrow _))
    go_roundw
    case rel=>
     refine⟨i+1,v',g.out,by go_num,by first|rfl|trivial,⟨vs++ws,?_,fun k x N h1 h2=>?_⟩,?_⟩
     ·rw[show cZ L (i+1)=cZ L i++L i from rfl,WM]
      exact hown'
     ·rw[show cZ L (i+1)=cZ L i++L i from rfl]at h2
      have hvl:vs.length=(cZ L i).length:=by have:=a.1;simpa using this
      by_cases hkk:k<vs.length
      ·rw[WS hkk]at h1
       rw[WS vom]at h2;exact d.out k x N h1 h2
      ·rw[WQ vom]at h1
       rw[WQ vom,←hvl]at h2;exact I.out _ x N h1 h2
     ·exact HB.out.grown hgrow y (fun p hp=>(World.ownsRow.lt a p hp).1)
    case measure=>have:=g.out;simp[intOf];omega
  ·obtain rfl:i=26:=vom
   have d:Hid _:=hvs;have HB:Hid _:=b;clear hlt hvs b f
   have l:∀W',W'=wr→∃u',Value.tuple #[u,.int .i64 0]=.tuple #[u',.int .i64 0]∧Uk W' w.heap.size u' (cZ L 26) m∧Below w.heap.size w W':=fun W' e=>by
    subst e;exact⟨u,rfl,⟨vs,a,fun k x N h1 h2=>(d.out k x N h1 h2).below HB.out⟩,HB.out⟩
   have HO:Hid _:=l;clear l a d HB
   go_wp2_with fail
   refine⟨rfl,.tuple #[u,.int .i64 0],?_,_,rfl,HO.out _ rfl⟩;simp[results,Array.mapM_eq_mapM_toList,List.mapM_cons]
theorem ql{P:Wr}{ops:Array Oper}{Q:Exit→Act→V8→Prop}{a:Act}{w:V8}(k n:Nat)(hn:n=ops.size-k)(h:wpList P ops Q (ops.toList.drop k) a w):wpOps P ops Q (List.range' k n) a w:=by
 have e:=wpOps_eq_wpList (P:=P) (ops:=ops) (Q:=Q) (ops.toList.drop k) k (fun j=>by simp[List.getElem?_drop]);rw[show(ops.toList.drop k).length=n by simp[hn]]at e;rw[e];exact h
end
section
open Go.RowKit PK Vg Go.Conc
noncomputable def fB:Code:=Tryz.f11.body.getD .skip
noncomputable def VC:Code:=match fB with|.seq _ r=>r|_=>.skip
noncomputable def M0:Array Oper:=match VC with|.seq (.region _ o _) _=>o|_=>#[]
theorem IK(x0 x1 x2 x3 x4 x5 x6 x7 x8 x9 x10 x12 x13 u:R2)(w:V8):
  wpOps qf M0 (Exit.then (Code.ret.wp qf (bodyPost qf Tryz.f11 (Cs.kY fun v w'=>v=.tuple #[u,.int .i64 0]∧w'=w))) (bodyPost qf Tryz.f11 (Cs.kY fun v w'=>v=.tuple #[u,.int .i64 0]∧w'=w))) (List.range' 4 4) ⟨#[x0,x1,x2,x3,x4,x5,x6,x7,x8,x9,x10,.tuple #[u,.int .i64 0],x12,x13],[]⟩ w:=by
 refine ql 4 4 rfl ?_;simp only[M0,VC,fB,Tryz.f11,Ww,List.drop]
 go_wp2_with fail
 refine⟨rfl,.tuple #[u,.int .i64 0],?_,_,rfl,rfl,rfl⟩;simp[results,Array.mapM_eq_mapM_toList,List.mapM_cons]
end
section
open Go.RowKit PK Vg Go.Conc Cs
def Rt(w:V8)(v:R2):Prop:=∀a l c,v=.slice (some a) l c→0<c→a.spot=none∧∃y T fr,w.heap[a.block]?=some (.cells y T fr)
theorem bK{E E':Env}{wl wl':V8}(h:dR E E' wl wl'){v:R2}{n:Nat}{f:Nat→Int}(hv:aq wl v n f):aq wl' v n f:=by
 obtain⟨a,cap,h1,h2,h3⟩:=hv;refine⟨a,cap,h1,h2,fun c hc=>?_⟩;obtain⟨b,o,e,k⟩:=h3 c hc;exact⟨b,o,e,h.cell k⟩
variable[aT]
section
variable{P:Wr}{E:Env}{wl w:V8}
theorem tK(h:Cp P E wl w){TJ:Wj}(hJ:P.info? TJ=none){v:R2}{n:Nat}{f:Nat→Int}(hv:aq w v n f)(hr:Rt w v):∃E' wl' u,Cp P E' wl' w∧dR E E' wl wl'∧VR E' u v∧aq wl' u n f:=by
 obtain⟨a,cap,rfl,hn,hc⟩:=hv;cases a with
 |none=>
  refine⟨E,wl,_,h,dR.refl _ _,.bW n cap,none,cap,rfl,hn,fun c hc'=>?_⟩;obtain⟨b,o,e,_⟩:=hc c hc';cases e
 |some ad=>
  by_cases hz:n=0∧cap=0
  ·obtain⟨rfl,rfl⟩:=hz
   exact⟨E,wl,_,h,dR.refl _ _,.cx ad ad,some ad,0,rfl,hn,fun c hc'=>absurd hc' (Xy _)⟩
  ·have g:ad.spot=none∧∃y T fr,w.heap[ad.block]?=some (.cells y T fr):=by
    by_cases h0:0<n
    ·obtain⟨b,o,e,k⟩:=hc 0 h0
     cases e;obtain⟨y,T,fr,k1,_⟩:=cN k;exact⟨rfl,y,T,fr,k1⟩
    ·exact hr ad n cap rfl vom
   obtain⟨b,o,sp⟩:=ad;obtain⟨d,y,T,fr,hq⟩:=g;dsimp only at d hq;subst d
   obtain⟨E',c1,c2,c3,c4⟩:=h.row hJ (s:=o) hq (YN fun i:Fin n=>Value.int .i64 (f i)) (fun i u hu=>by
    obtain⟨hi,rfl⟩:=Wd.1 hu;simp only[Array.size_ofFn]at hi;obtain⟨b',o',e,k⟩:=hc i hi;cases e;refine⟨.int .i64 (f i),?_,by rw[YZ];exact .int _ _⟩;rw[Xf _ _ _ _ _ _ hq]at k;rw[Nat.add_comm];exact k)
   refine⟨E',_,.slice (some ⟨wl.heap.size,0,none⟩) n cap,c1,c2,.slice n cap ?_,some ⟨wl.heap.size,0,none⟩,cap,rfl,hn,fun c hc'=>⟨wl.heap.size,0,rfl,?_⟩⟩
   ·have:=c3 0
    rw[WN]at this;exact this
   ·rw[WN]
    exact c4 c _ (by rw[Wl (by simpa using hc'),YZ])
theorem qw{TJ:Wj}(hJ:P.info? TJ=none)(R:Nat→R2)(nl:Nat→Nat)(no:Nat→Nat→Int):∀(n:Nat) {E:Env} {wl:V8},Cp P E wl w→(∀r,r<n→aq w (R r) (nl r) (no r)∧Rt w (R r))→∃(E':Env) (wl':V8) (Ul:Nat→R2),Cp P E' wl' w∧dR E E' wl wl'∧∀r,r<n→VR E' (Ul r) (R r)∧aq wl' (Ul r) (nl r) (no r)
 |0,E,wl,h,_=>⟨E,wl,R,h,dR.refl _ _,fun r hr=>absurd hr (Xy _)⟩
 |n+1,E,wl,h,hR=>by
  obtain⟨E1,wl1,Ul,h1,h2,h3⟩:=qw hJ R nl no n h fun r hr=>hR r (Nat.lt_succ_of_lt hr);obtain⟨k1,k2⟩:=hR n (Xj n);obtain⟨E2,wl2,u,g1,g2,g3,g4⟩:=tK h1 hJ k1 k2;refine⟨E2,wl2,fun r=>if r=n then u else Ul r,g1,h2.trans g2,fun r hr=>?_⟩;by_cases e:r=n
  ·subst e
   simp only[YI];exact⟨g3,g4⟩
  ·simp only[V9 e]
   obtain⟨a,b⟩:=h3 r vom;exact⟨a.mono g2.le,bK g2 b⟩
end
end
section
open Go.RowKit PK Vg Go.Conc Cs
def DU(W:V8)(v:R2)(n:Nat)(wi:Nat→Nat→Int)(nl:Nat→Nat)(no:Nat→Nat→Int):Prop:=
 ∃(a:Option Addr) (cap:Nat) (R:Nat→R2),v=.slice a n cap∧n≤maxLen∧(∀r,r<n→∃b o,a=some ⟨b,o,none⟩∧W.rangeAt b (o+r*27) (b6 (wi r) (R r)).toList)∧∀r,r<n→aq W (R r) (nl r) (no r)∧Rt W (R r)
theorem eL{E E':Env}{wl wl':V8}(h:dR E E' wl wl'){v:R2}{n:Nat}{wi:Nat→Nat→Int}{nl:Nat→Nat}{no:Nat→Nat→Int}(hv:cA wl v n wi nl no):cA wl' v n wi nl no:=by
 obtain⟨a,cap,R,h1,h2,h3,h4⟩:=hv;refine⟨a,cap,R,h1,h2,fun r hr=>?_,fun r hr=>bK h (h4 r hr)⟩;obtain⟨b,o,e,k⟩:=h3 r hr;exact⟨b,o,e,fun j v hj=>h.cell (k j v hj)⟩
variable[aT]
section
variable{P:Wr}{E:Env}{wl w:V8}
theorem Fy{f:Nat→Int}{U R:R2}(h:VR E U R){j:Nat}(hj:j<27):∃u v,(b6 f U)[j]?=some u∧(b6 f R)[j]?=some v∧VR E u v:=by
 by_cases h26:j<26
 ·exact⟨_,_,kV f U h26,kV f R h26,.int _ _⟩
 ·obtain rfl:j=26:=vom
  exact⟨_,_,jE f U,jE f R,h⟩
theorem Ii(h:Cp P E wl w){TJ:Wj}(hJ:P.info? TJ=none){v:R2}{n:Nat}{wi:Nat→Nat→Int}{nl:Nat→Nat}{no:Nat→Nat→Int}(hv:DU w v n wi nl no)(hr:Rt w v):∃E' wl' u,Cp P E' wl' w∧dR E E' wl wl'∧VR E' u v∧cA wl' u n wi nl no:=by
 obtain⟨a,cap,R,rfl,hn,hc,hR⟩:=hv;obtain⟨E1,wl1,Ul,h1,h2,h3⟩:=qw hJ R nl no n h hR;cases a with
 |none=>
  refine⟨E1,wl1,_,h1,h2,.bW n cap,none,cap,Ul,rfl,hn,fun r hr=>?_,fun r hr=>(h3 r hr).2⟩;obtain⟨b,o,e,_⟩:=hc r hr;cases e
 |some ad=>
  by_cases hz:n=0∧cap=0
  ·obtain⟨rfl,rfl⟩:=hz
   exact⟨E1,wl1,_,h1,h2,.cx ad ad,some ad,0,Ul,rfl,hn,fun r hr=>absurd hr (Xy _),fun r hr=>absurd hr (Xy _)⟩
  ·have d:ad.spot=none∧∃y T fr,w.heap[ad.block]?=some (.cells y T fr):=by
    by_cases h0:0<n
    ·obtain⟨b,o,e,k⟩:=hc 0 h0
     cases e;obtain⟨y,T,fr,k1,_⟩:=cN (k 0 _ (by rw[Wo];exact kV _ _ vde));exact⟨rfl,y,T,fr,k1⟩
    ·exact hr ad n cap rfl vom
   obtain⟨b,o,sp⟩:=ad;obtain⟨c,y,T,fr,hq⟩:=d;dsimp only at c hq;subst c
   have hx:∀i,i<n*27→(YN fun i:Fin (n*27)=>((b6 (wi (i / 27)) (Ul (i / 27)))[i.1 % 27]?).getD (.bool false))[i]?=(b6 (wi (i / 27)) (Ul (i / 27)))[i % 27]?:=fun i hi=>by
    rw[Wl (by simpa using hi),YZ];obtain⟨u,v,e1,_⟩:=Fy (f:=wi (i / 27)) (h3 (i / 27) vom).1 (X8 i (by decide:0<27));simp only[e1,Ww]
   obtain⟨E',c1,c2,c3,c4⟩:=h1.row hJ (s:=o) hq (YN fun i:Fin (n*27)=>((b6 (wi (i / 27)) (Ul (i / 27)))[i.1 % 27]?).getD (.bool false)) (fun i u hu=>by
    have hi:i<n*27:=by simpa using(Wd.1 hu).1
    rw[hx i hi]at hu;obtain⟨u',v',e1,e2,e3⟩:=Fy (f:=wi (i / 27)) (h3 (i / 27) vom).1 (X8 i (by decide:0<27));rw[hu]at e1;cases e1;obtain⟨b',o',e,k⟩:=hc (i / 27) vom;cases e;have k2:=k (i % 27) v' (by rw[Wo];exact e2);rw[Xf _ _ _ _ _ _ hq]at k2;refine⟨v',?_,e3⟩;rw[show i+o=o+i / 27*27+i % 27 by omega];exact k2)
   refine⟨E',_,.slice (some ⟨wl1.heap.size,0,none⟩) n cap,c1,h2.trans c2,.slice n cap ?_,some ⟨wl1.heap.size,0,none⟩,cap,Ul,rfl,hn,fun r hr=>⟨wl1.heap.size,0,rfl,fun j v hj=>?_⟩,fun r hr=>bK c2 (h3 r hr).2⟩
   ·have:=c3 0
    rw[WN]at this;exact this
   ·rw[Wo]at hj
    have g:j<27:=by have:=(Wd.1 hj).1;rwa [aO]at this
    refine c4 (0+r*27+j) v ?_;rw[hx _ vom,show(0+r*27+j) / 27=r by omega,show(0+r*27+j) % 27=j by omega];exact hj
theorem oA{a b c a' b' c':R2}{rf pl:Nat→Int}(ha:VR E a a')(hb:VR E b b')(hc:VR E c c'):LR E (aP a b c rf pl) (aP a' b' c' rf pl):=by
 refine⟨by rw[aD,aD],fun i u v hu hv=>?_⟩;have hi:i<55:=by have:=(Wd.1 hu).1;rwa [aD]at this
 have d:i=0∨i=1∨i=2∨(∃k,k<26∧i=3+k)∨∃k,k<26∧i=29+k:=by
  rcases(by omega:i=0∨i=1∨i=2∨(3≤i∧i<29)∨29≤i)with h|h|h|h|h
  ·exact .inl h
  ·exact .inr (.inl h)
  ·exact .inr (.inr (.inl h))
  ·exact .inr (.inr (.inr (.inl ⟨i-3,vom,vom⟩)))
  ·exact .inr (.inr (.inr (.inr ⟨i-29,vom,vom⟩)))
 rcases d with rfl|rfl|rfl|⟨k,hk,rfl⟩|⟨k,hk,rfl⟩
 ·rw[dV]at hu hv;cases hu;cases hv;exact ha
 ·rw[rV]at hu hv;cases hu;cases hv;exact hb
 ·rw[gM]at hu hv;cases hu;cases hv;exact hc
 ·rw[CG _ _ _ _ _ hk]at hu hv;cases hu;cases hv;exact .int _ _
 ·rw[qX _ _ _ _ _ hk]at hu hv;cases hu;cases hv;exact .int _ _
theorem oM(h:Cp P E wl w){TJ:Wj}(hJ:P.info? TJ=none){a b c:R2}{g:Gm}(ha:DU w a g.n g.wi g.nl g.no)(hb:aq w b g.rl g.ri)(hc:aq w c g.sl g.st)(ra:Rt w a)(rb:Rt w b)(rc:Rt w c):∃E' wl' a' b' c',Cp P E' wl' w∧dR E E' wl wl'∧VR E' a' a∧VR E' b' b∧VR E' c' c∧cL wl' (.agg (aP a' b' c' g.rf g.pl)) g:=by
 obtain⟨E1,wl1,u1,h1,h2,h3,h4⟩:=Ii h hJ ha ra;obtain⟨E2,wl2,u2,k1,k2,k3,k4⟩:=tK h1 hJ hb rb;obtain⟨E3,wl3,u3,l1,l2,l3,l4⟩:=tK k1 hJ hc rc;exact⟨E3,wl3,u1,u2,u3,l1,(h2.trans k2).trans l2,(h3.mono k2.le).mono l2.le,k3.mono l2.le,l3,u1,u2,u3,rfl,eL l2 (eL k2 h4),bK l2 k4,l4⟩
end
end
section
open Go.RowKit PK Vg Go.Conc Cs
def Np(W:V8)(v:R2)(L:List Nat)(m:Nat):Prop:=∃(a:Option Addr) (cap:Nat),v=.slice a L.length cap∧(a=none→cap=0)∧Rt W v∧∀(j:Nat) N,L[j]?=some N→∃b o u,a=some ⟨b,o,none⟩∧W.cell? ⟨b,o+j,none⟩=some u∧(aq W u m fun i=>((dx m N i:Nat):Int))∧Rt W u
variable[aT]
section
variable{P:Wr}{E:Env}{wl w:V8}
theorem lH{a:Addr}{g o:Nat}(h:AR E ⟨g,o,none⟩ a):∃b s,a=⟨b,o+s,none⟩∧∀j,AR E ⟨g,o+j,none⟩ ⟨b,o+s+j,none⟩:=by
 obtain⟨b,o',sp⟩:=a;obtain⟨s,ow,e1,e2,e3,e4,e5⟩:=h;dsimp only at e1 e2 e3 e4;subst e2 e3;exact⟨b,s,rfl,fun j=>⟨s,ow,e1,by show o+s+j=o+j+s;omega,rfl,e4,e5⟩⟩
omit [aT] in
theorem tC{W:V8}{b o l c:Nat}{v:R2}(h:W.cell? ⟨b,o,none⟩=some v)(o':Nat):Rt W (.slice (some ⟨b,o',none⟩) l c):=fun a l' c' e _=>by
 cases e;obtain⟨y,T,fr,k,_⟩:=cN h;exact⟨rfl,y,T,fr,k⟩
omit [aT] in
theorem o7{W:V8}{a:Option Addr}{l:Nat}:Rt W (.slice a l 0):=fun a l' c' e h=>by
 cases e;exact absurd h (Nat.lt_irrefl _)
theorem GP(h:WR P E wl w){g m:Nat}{u:R2}{f:Nat→Int}(hm:m≤maxLen)(hr:af wl g 3 (ints m f))(hu:VR E (.slice (some ⟨g,0,none⟩) m m) u):aq w u m f∧Rt w u:=by
 cases hu with
 |cx a b=>exact⟨⟨some b,0,rfl,hm,fun c hc=>absurd hc (Xy _)⟩,o7⟩
 |slice l c ha=>
  obtain⟨b,s,rfl,hj⟩:=lH ha
  have hc:∀c,c<m→w.cell? ⟨b,0+s+c,none⟩=some (.int .i64 (f c)):=fun c hc=>by
   have h1:wl.cell? ⟨g,0+c,none⟩=some (.int .i64 (f c)):=by rw[WN];exact hr.cell (aB f hc)
   obtain⟨v,k1,k2⟩:=h.cell (hj c) h1;cases k2;exact k1
  refine⟨⟨_,_,rfl,hm,fun c hc'=>⟨b,0+s,rfl,hc c hc'⟩⟩,fun a l c e hp=>?_⟩;cases e;obtain⟨y,T,fr,k,_⟩:=cN (hc 0 hp);exact⟨rfl,y,T,fr,k⟩
theorem Gf(h:WR P E wl w){B m:Nat}{v v':R2}{L:List Nat}(hm:m≤maxLen)(hv:eK wl B v L m)(hr:VR E v v'):Np w v' L m:=by
 obtain⟨vs,⟨h1,h2⟩,h3⟩:=hv;have hvl:vs.length=L.length:=vom;rcases h2 with⟨rfl,h4⟩|⟨g,cap,cur,rfl,_,h4,h5,h6,h7,h8⟩
 ·obtain rfl:=Xv h4
  cases hr with
  |bW l c=>exact⟨none,0,rfl,fun _=>rfl,o7,fun j N hj=>by simp at hj⟩
 ·generalize hn:L.length=n at hr
  cases hr with
  |cx a b=>
   obtain rfl:=Xv hn;exact⟨some b,0,rfl,fun e=>(by cases e),o7,fun j N hj=>by simp at hj⟩
  |slice l c ha=>
   obtain⟨b,s,rfl,hj⟩:=lH ha;subst hn;have d:∀(j:Nat) u,cur[j]?=some u→∃u',w.cell? ⟨b,0+s+j,none⟩=some u'∧VR E u u':=fun j u hu=>h.cell (hj j) (by rw[WN,Xf _ _ _ _ _ _ h4];exact hu);refine⟨_,cap,rfl,fun e=>(by cases e),fun a l c e hp=>?_,fun j N hN=>?_⟩
   ·cases e
    obtain⟨u',k1,_⟩:=d 0 _ (Wl vom);obtain⟨y,T,fr,k,_⟩:=cN k1;exact⟨rfl,y,T,fr,k⟩
   ·have o:=(WW.1 hN).1
    obtain⟨x,hvj⟩:∃x,vs[j]?=some x:=⟨vs[j],Wu vom⟩
    have i:cur[j]?=some x:=by
     have e:=hvj;rw[←h8,Za vom,Wo]at e;exact e
    obtain⟨u',k1,k2⟩:=d j _ i;obtain⟨g2,e2,f⟩:=h3 j _ N hvj hN;rw[e2]at k2;obtain⟨n1,n2⟩:=GP h hm f k2;exact⟨b,0+s,u',rfl,k1,n1,n2⟩
theorem F9(h:Cp P E wl w){TJ:Wj}(hJ:P.info? TJ=none){v:R2}{L:List Nat}{m:Nat}(hv:Np w v L m):∃E' wl' u,Cp P E' wl' w∧dR E E' wl wl'∧VR E' u v∧RQ wl' u L m:=by
 obtain⟨a,cap,rfl,n,hr,hc⟩:=hv;cases a with
 |none=>
  obtain rfl:=n rfl;cases L with
  |nil=>exact⟨E,wl,_,h,dR.refl _ _,.bW 0 0,.inl ⟨rfl,rfl⟩⟩
  |cons N l=>
   obtain⟨b,o,u,e,_⟩:=hc 0 N rfl;cases e
 |some ad=>
  by_cases hz:L.length=0∧cap=0
  ·obtain⟨hz,rfl⟩:=hz
   obtain rfl:=Xv hz;exact⟨E,wl,.slice (some ⟨0,0,none⟩) 0 0,h,dR.refl _ _,.cx _ _,.inr ⟨0,0,0,[],rfl,rfl,fun j u hj=>by simp at hj,fun u hu=>by simp at hu,fun j u N hj=>by simp at hj⟩⟩
  ·have d:∀j,j<L.length→L[j]?=some (L.getD j 0):=fun j hj=>by rw[Wu hj];simp[List.getD,List.getElem?_eq_getElem hj]
   have g:ad.spot=none∧∃y T fr,w.heap[ad.block]?=some (.cells y T fr):=by
    by_cases h0:0<L.length
    ·obtain⟨b,o,u,e,k,_⟩:=hc 0 _ (d 0 h0)
     cases e;obtain⟨y,T,fr,k1,_⟩:=cN k;exact⟨rfl,y,T,fr,k1⟩
    ·exact hr ad _ cap rfl vom
   obtain⟨b,o,sp⟩:=ad;obtain⟨f,y,T,fr,hq⟩:=g;dsimp only at f hq;subst f
   have hR:∀j,j<L.length→w.cell? ⟨b,o+j,none⟩=some ((w.cell? ⟨b,o+j,none⟩).getD (.bool false))∧(aq w ((w.cell? ⟨b,o+j,none⟩).getD (.bool false)) m fun i=>((dx m (L.getD j 0) i:Nat):Int))∧Rt w ((w.cell? ⟨b,o+j,none⟩).getD (.bool false)):=fun j hj=>by
    obtain⟨b',o',u,e,k1,k2,k3⟩:=hc j _ (d j hj);cases e;rw[k1];exact⟨rfl,k2,k3⟩
   obtain⟨E1,wl1,Ul,h1,h2,h3⟩:=qw hJ (fun j=>(w.cell? ⟨b,o+j,none⟩).getD (.bool false)) (fun _=>m) (fun j i=>((dx m (L.getD j 0) i:Nat):Int)) L.length h fun j hj=>(hR j hj).2
   obtain⟨E',c1,c2,c3,c4⟩:=h1.row hJ (s:=o) hq (YN fun i:Fin L.length=>Ul i) (fun i u hu=>by
    obtain⟨hi,rfl⟩:=Wd.1 hu;simp only[Array.size_ofFn]at hi;have k:=(hR i hi).1;rw[Xf _ _ _ _ _ _ hq]at k;rw[YZ];refine⟨_,?_,(h3 i hi).1⟩;rw[Xf _ _ _ _ _ _ hq,Nat.add_comm i o];exact k)
   have hg:∀j,j<L.length→(YN fun i:Fin L.length=>Ul i)[j]?=some (Ul j):=fun j hj=>by rw[Wl (by simpa using hj),YZ]
   refine⟨E',_,.slice (some ⟨wl1.heap.size,0,none⟩) L.length cap,c1,h2.trans c2,.slice _ _ ?_,.inr ⟨wl1.heap.size,0,cap,(YN fun i:Fin L.length=>Ul i).toList,rfl,vsi,fun j u hj=>?_,fun u hu=>?_,fun j u N hj hN=>?_⟩⟩
   ·have:=c3 0
    rw[WN]at this;exact this
   ·rw[WN]
    rw[Wo]at hj;exact c4 j u hj
   ·obtain⟨j,hj,rfl⟩:=YB.1 hu
    have c:j<L.length:=by simpa using hj
    have e:(YN fun i:Fin L.length=>Ul i).toList[j]=Ul j:=vsi;rw[e];obtain⟨x,y',hx,_⟩:=(h3 j c).2;rw[hx]
    rfl
   ·have c:j<L.length:=(WW.1 hN).1
    rw[Wo,hg j c]at hj;cases hj;rw[d j c]at hN;cases hN;exact bK c2 (h3 j c).2
end
end
section
open Go.RowKit PK Vg Go.Conc Cs
theorem uW{E E':Env}{wl wl':V8}(h:dR E E' wl wl'){v:R2}{L:List Nat}{m:Nat}(hv:RQ wl v L m):RQ wl' v L m:=by
 rcases hv with hv|⟨b,o,c,vs,h1,h2,h3,h4,h5⟩
 ·exact .inl hv
 ·exact .inr ⟨b,o,c,vs,h1,h2,fun j u hj=>h.cell (h3 j u hj),h4,fun j u N a b=>bK h (h5 j u N a b)⟩
theorem lU{E E':Env}{wl wl':V8}(h:dR E E' wl wl'){v:R2}{g:Gm}(hv:cL wl v g):cL wl' v g:=by
 obtain⟨a,b,c,e,h1,h2,h3⟩:=hv;exact⟨a,b,c,e,eL h h1,bK h h2,bK h h3⟩
section
variable[aT]
variable{P:Wr}{E:Env}{wl w:V8}
theorem gR:LR E ([]:List R2).toArray ([]:List R2).toArray:=⟨rfl,fun i u v hu=>by simp at hu⟩
theorem ah{u v:R2}{l l':List R2}(h:VR E u v)(t:LR E l.toArray l'.toArray):LR E (u :: l).toArray (v :: l').toArray:=by
 refine⟨by have:=t.size;simp at this⊢;exact this,fun i a b ha hb=>?_⟩;cases i with
 |zero=>simp at ha hb;subst ha hb;exact h
 |succ i=>exact t.at_ i a b (by simpa using ha) (by simpa using hb)
theorem AF{TJ:Wj}(hJ:P.info? TJ=none)(V:Nat→R2)(L:Nat→List Nat)(m:Nat):∀(n:Nat) {E:Env} {wl:V8},Cp P E wl w→(∀r,r<n→Np w (V r) (L r) m)→∃(E':Env) (wl':V8) (Ul:Nat→R2),Cp P E' wl' w∧dR E E' wl wl'∧∀r,r<n→VR E' (Ul r) (V r)∧RQ wl' (Ul r) (L r) m
 |0,E,wl,h,_=>⟨E,wl,V,h,dR.refl _ _,fun r hr=>absurd hr (Xy _)⟩
 |n+1,E,wl,h,hR=>by
  obtain⟨E1,wl1,Ul,h1,h2,h3⟩:=AF hJ V L m n h fun r hr=>hR r (Nat.lt_succ_of_lt hr);obtain⟨E2,wl2,u,g1,g2,g3,g4⟩:=F9 h1 hJ (hR n (Xj n));refine⟨E2,wl2,fun r=>if r=n then u else Ul r,g1,h2.trans g2,fun r hr=>?_⟩;by_cases e:r=n
  ·subst e
   simp only[YI];exact⟨g3,g4⟩
  ·simp only[V9 e]
   obtain⟨a,b⟩:=h3 r vom;exact⟨a.mono g2.le,uW g2 b⟩
theorem lS(h:Cp P E wl w){TJ:Wj}(hJ:P.info? TJ=none){q:Nat}{y:Array R2}{T':Wj}{fr:Nat×Nat}(hq:w.heap[q]?=some (.cells y T' fr))(x:Array R2)(hx:∀(i:Nat) u,x[i]?=some u→∃v,y[i]?=some v∧VR E u v):
  ∃E' wl' b,Cp P E' wl' w∧dR E E' wl wl'∧VR E' (.pointer (some ⟨b,0,none⟩)) (.pointer (some ⟨q,0,none⟩))∧wl'.heap[b]?=some (.cells x TJ (0,x.size)):=by
 obtain⟨E',c1,c2,c3,_⟩:=h.row hJ (s:=0) hq x hx;exact⟨E',_,wl.heap.size,c1,c2,.ptr (c3 0),heap_alloc_new wl _⟩
end
theorem Et:[Item.code (Jn false)].all (aZ qf)=true:=vkr
theorem DX:(pY [Item.inRegion M0 (3 :: List.range' 4 4),.code .ret]).all (aZ qf)=true:=vkr
theorem c8:qf.info? 1000000000=none:=vkr
theorem Fq{P:Wr}[aT]{E:Env}{wl w w2:V8}(h:WR P E wl w)(hw:∀b x,E b=some x→w2.heap[x.1]?=w.heap[x.1]?):WR P E wl w2:=by
 refine⟨fun b q s e=>?_,fun b q s e=>?_,h.inj,h.low⟩
 ·obtain⟨h1,ol,o,h2,h3,h4⟩:=h.own b q s e
  exact⟨h1,ol,o,h2,(hw b _ e).trans h3,h4⟩
 ·obtain⟨x,T,y,T',fr,h1,h2,h3,h4⟩:=h.shared b q s e
  exact⟨x,T,y,T',fr,h1,h2,(hw b _ e).trans h3,h4⟩
theorem GC(k:Nat)(hk:k<26)(bT:Nat)(a b c:R2)(g:Gm)(U:Nat→R2)(m:Nat→Nat)(fb:Nat→Nat→Int)(h:Int)(hE:sI g h=0)(hfit:∀r,r<g.n→g.nl r*8≤140737488355328)(hrl:g.rl*8≤140737488355328)(TT:Wj)(fT:Nat×Nat)(w:V8)(hT:w.heap[bT]?=some (.cells (bJ 3 U) TT fT))(ha:DU w a g.n g.wi g.nl g.no)(hb:aq w b g.rl g.ri)(hc:aq w c g.sl g.st)(ra:Rt w a)(rb:Rt w b)(rc:Rt w c)(hU:∀i,i<3→aq w (U i) (m i) (fb i)∧Rt w (U i)):
  ∃(E:Env) (wl:V8) (x:Array R2),(∀b q s o,E b=some (q,s,o)→o=false∧q<w.heap.size)∧LR E x #[.agg (aP a b c g.rf g.pl),.int .i64 (k:Nat),.func (.func 34) #[] #[.pointer (some ⟨bT,0,none⟩)]]∧WR qf E wl w∧aT.G≤wl.heap.size∧∀τ,Calls qf 68 x (wl.tp τ) fun e w'=>∃v,e=.returned v∧eK w' wl.heap.size v (cj g m fb k (26 ^ (g.n-1))) g.n:=by
 obtain⟨d,D,_,_⟩:=gI hE
 have y:1≤g.n:=by
  refine Nat.lt_of_not_le fun hc=>?_;unfold gE at d;rw[Wc (.inl vom)]at d;cases d
 obtain⟨E1,wl1,a',b',c',p1,q1,ra',rb',rc',C⟩:=oM (Cp.nil (P:=qf) w) c8 ha hb hc ra rb rc;obtain⟨E2,wl2,U',p2,q2,f⟩:=qw c8 U m fb 3 p1 hU
 obtain⟨E3,wl3,dT,p3,q3,rT,kT⟩:=lS p2 c8 hT (bJ 3 U') (fun i u hu=>by
  have hi:i<3:=by have:=(Wd.1 hu).1;rwa [aU]at this
  rw[aM _ hi]at hu;cases hu;exact⟨_,aM _ hi,(f i hi).1⟩)
 have B:=lU q3 (lU q2 C);have t:rz wl3 U' m fb:=fun i hi=>bK q3 (f i hi).2;have A:LR E3 (aP a' b' c' g.rf g.pl) (aP a b c g.rf g.pl):=oA ((ra'.mono q2.le).mono q3.le) ((rb'.mono q2.le).mono q3.le) ((rc'.mono q2.le).mono q3.le)
 have z:wl3.rangeAt dT 0 (bJ 3 U').toList:=fun j v hj=>by
  rw[Xf _ _ _ _ _ _ kT,WN,←Wo];exact hj
 have l:VR E3 (.func (.func 34) #[] #[.pointer (some ⟨dT,0,none⟩)]) (.func (.func 34) #[] #[.pointer (some ⟨bT,0,none⟩)]):=by
  have l1:LR E3 #[.pointer (some ⟨dT,0,none⟩)] #[.pointer (some ⟨bT,0,none⟩)]:=ah rT gR;exact .func _ vkr rfl (fun i u v hu=>by simp at hu) l1.size l1.at_
 refine⟨E3,wl3,#[.agg (aP a' b' c' g.rf g.pl),.int .i64 (k:Nat),.func (.func 34) #[] #[.pointer (some ⟨dT,0,none⟩)]],fun b q s o e=>⟨p3.sh _ _ _ _ e,(p3.wr.lt e).2⟩,ah (.lK A) (ah (.int _ _) (ah l gR)),p3.wr,p3.gF,fun τ=>?_⟩;refine(K5 _ g d y vom hfit hrl k hk dT U' m fb (wl3.tp τ) B z t).mono ?_;rintro e w' ⟨v,rfl,h1,_⟩;exact⟨v,rfl,h1⟩
section
variable{w w':V8}(hag:∀b,b<w.heap.size→w'.heap[b]?=w.heap[b]?)
include hag
theorem zK{a:Addr}{v:R2}(h:w.cell? a=some v):w'.cell? a=some v:=by
 have:=hag a.block (aA h);unfold World.cell? at h⊢;rw[this];exact h
theorem cF{v:R2}{n:Nat}{f:Nat→Int}(h:aq w v n f):aq w' v n f:=by
 obtain⟨a,cap,h1,h2,h3⟩:=h;refine⟨a,cap,h1,h2,fun c hc=>?_⟩;obtain⟨b,o,e,k⟩:=h3 c hc;exact⟨b,o,e,zK hag k⟩
theorem LJ{b:Nat}{o:Obj}(h:w.heap[b]?=some o):w'.heap[b]?=some o:=(hag b (Wd.1 h).1).trans h
theorem cW{v:R2}(h:Rt w v):Rt w' v:=fun a l c e hp=>by
 obtain⟨h1,y,T,fr,h2⟩:=h a l c e hp;exact⟨h1,y,T,fr,LJ hag h2⟩
theorem jh{v:R2}{n:Nat}{wi:Nat→Nat→Int}{nl:Nat→Nat}{no:Nat→Nat→Int}(h:DU w v n wi nl no):DU w' v n wi nl no:=by
 obtain⟨a,cap,R,h1,h2,h3,h4⟩:=h;refine⟨a,cap,R,h1,h2,fun r hr=>?_,fun r hr=>⟨cF hag (h4 r hr).1,cW hag (h4 r hr).2⟩⟩;obtain⟨b,o,e,k⟩:=h3 r hr;exact⟨b,o,e,fun j v hj=>zK hag (k j v hj)⟩
end
end
end Go.Proofs.YtpcnpkhgjanamaaGreatDoor
