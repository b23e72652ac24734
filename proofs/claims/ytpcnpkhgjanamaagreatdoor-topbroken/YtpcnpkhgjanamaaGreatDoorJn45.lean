import Derived.Test.YtpcnpkhgjanamaaGreatDoorPz
import Derived.Deep.Matrix
import Derived.Conc.LeavingOf
import Derived.Test.YtpcnpkhgjanamaaGreatDoorJn44
namespace Go.Proofs.YtpcnpkhgjanamaaGreatDoor
open Go.Proofs.Tryz renaming prog→qf,f3→ZO
open Go renaming Value→R2,World→V8,runNT_add→XM,IntKind→ZQ
open Go.Frame renaming enter→Xa
open Go.Extern.RuntimeError renaming nothing→Xm,unhashableTypeError→Yl,typeAssertionError→Yp,boundsError→YJ,text→Zi
open _root_.List renaming range'→Xx,replicate→XX
open Go.Extern renaming find→Xz
open Go.Extern.BytealgMakeNoZero renaming makeNoZero→Yr
open Go.Extern.BytealgIndexByte renaming indexByte→YC
open Go.Extern.Bytes renaming loadBytes→YT
open Go.Extern.BytealgIndex renaming index→Zc
open Go.Extern.AbiNoEscape renaming same→Zt
set_option maxRecDepth 100000
set_option maxHeartbeats 8000000
section
open Go.RowKit PK Vg Go.Conc Cs
theorem Sz(z:Nat→R2)(l9:Nat)(a b c u:R2)(g:Gm)(L:List Nat)(N0:Nat)(hN0:ie g N0=g)(hN:N0∈L)(hlen:L.length≤1000000)(TM:TypeId)(fM:Nat×Nat)(w:V8)(hM:w.heap[l9]?=some (.cells (aP a b c g.rf g.pl) TM fM))(hm:cL w (.agg (aP a b c g.rf g.pl)) g)(hu:RQ w u L g.n)(h9:z 9=.pointer (some ⟨l9,0,none⟩))(h146:z 146=.tuple #[u,.int .i64 0]):
  wpOps qf El (Exit.then (kF.wp qf (bodyPost qf ZO (Cs.kY fun v _=>v=.bool true))) (bodyPost qf ZO (Cs.kY fun v _=>v=.bool true))) (Xx 4 5) ⟨wD z,[]⟩ w:=by
 obtain⟨j0,A,K⟩:=YB.1 hN
 have f:∀i,g.st i=(((dx g.n N0 i:Nat):Int)):=fun i=>by
  rw[←XI Gm.st hN0]
  rfl
 have o:g.n=g.sl:=XI Gm.sl hN0
 have E:Hid (∀N us W,Below w.heap.size w W→(aq W us g.n fun j=>((dx g.n N j:Nat):Int))→Calls qf 9 #[us,c] W fun e w'=>∃t,e=.returned (.bool t)∧(N=N0→t=true)∧Below W.heap.size W w'):=fun N us W hb hus=>by
  obtain⟨a',b',c',e0,_,_,B⟩:=hm
  obtain rfl:c=c':=by
   have h1:=XI (fun v=>match v with|.agg x=>x[2]?| _=>none) e0;simp only[gM]at h1;exact XG h1
  refine We (FF us c g.n g.sl _ g.st W hus (B.below hb)) ?_;rintro e w' ⟨rfl,h⟩;exact⟨_,rfl,fun e=>by subst e;exact gB.2 ⟨o,fun i _=>(f i).symm⟩,h⟩
 have J:l9<w.heap.size:=(Wd.1 hM).1;have HC:Hid (∀W,Below w.heap.size w W→W.cell? ⟨l9,2,none⟩=some c):=fun W hb=>by rw[Xf _ _ _ _ _ _ ((hb.block l9 J).trans hM)];exact gM _ _ _ _ _
 obtain⟨ac2,cc2,rfl⟩:∃x y,c=.slice x g.sl y:=by
  obtain⟨a',b',c',e0,_,_,f⟩:=hm
  obtain rfl:c=c':=by
   have h1:=XI (fun v=>match v with|.agg x=>x[2]?| _=>none) e0;simp only[gM]at h1;exact XG h1
  obtain⟨x,y,e,_⟩:=f;exact⟨x,y,e⟩
 rcases hu with⟨_,rfl⟩|⟨bu,ou,cu,vs,rfl,hvl,hvc,_,hvn⟩
 ·cases hN
 have HV:Hid (∀k,k<L.length→∃x y,w.cell? ⟨bu,ou+k,none⟩=some (.slice x g.n y)∧aq w (.slice x g.n y) g.n fun j=>((dx g.n (L.getD k 0) j:Nat):Int)):=fun k hk=>by
  have s:k<vs.length:=vom;have h1:=hvn k vs[k] L[k] (Wu s) (Wu hk);obtain⟨x,y,e,h3⟩:=id h1;refine⟨x,y,by rw[←e];exact hvc k _ (Wu s),?_⟩;rw[←e,show L.getD k 0=L[k] by simp[List.getD,List.getElem?_eq_getElem hk]];exact h1
 have HJ:Hid (j0<L.length∧L.getD j0 0=N0):=⟨A,by simp[List.getD,List.getElem?_eq_getElem A,K]⟩
 clear hM hm hvc hvn hvl hN f o hN0;refine ql 4 5 rfl ?_;simp only[wD,h9,h146,El,kF,kD,kC,kB,ZO,Ww,List.drop]
 go_wp2_with fail
 go_loopw [153] (fun i W=>∃k:Nat,k≤L.length∧i=.int .i64 (k:Nat)∧(∀j,j<k→L.getD j 0≠N0)∧Below w.heap.size w W) (fun i _=>((L.length:Int)-intOf i).toNat)
 case atStart=>exact⟨0,vom,rfl,fun j hj=>absurd hj (Xy j),Below.refl _ _⟩
 case round=>
  obtain⟨k,hk,rfl,l,d⟩:=hrel;by_cases hlt:k<L.length
  case neg=>exact absurd HJ.out.2 (l j0 (by have:=HJ.out.1;omega))
  have q:Hid (k<L.length):=hlt;have M:(k:Int)<(L.length:Int):=vom;obtain⟨x,y,hc,hn⟩:=HV.out k hlt;have G:=(d.cell (aA hc)).trans hc
  have I:Hid (L.getD k 0≠N0→∀j,j<k+1→L.getD j 0≠N0):=fun hne j hj=>by
   by_cases e:j=k
   ·rw[e];exact hne
   ·exact l j vom
  have D:=HC.out wr d;have C:Hid _:=E.out _ _ wr d (hn.below d);have m:Hid (Below w.heap.size w wr):=d;clear l d hlt hc hn
  go_wp2_with fail
  refine We C.out ?_;rintro e W2 ⟨t,rfl,ht,hb⟩;have F:Hid (Below w.heap.size w W2):=m.out.trans (hb.mono m.out.size);have HT:Hid _:=ht;clear hb ht C m D G;cases t
  ·have H:Hid _:=I.out (fun e=>by have:=HT.out e;cases this)
   go_wp2;go_roundw
   case rel=>exact⟨k+1,q.out,by go_num,H.out,F.out⟩
   case measure=>have:=q.out;simp[intOf];omega
  ·go_wp2_with fail
   refine⟨rfl,.bool true,?_,_,rfl,rfl⟩;simp[results,Array.mapM_eq_mapM_toList,List.mapM_cons]
end
section
open Go.RowKit PK Vg
def Nn(s:Sp):Prop:=s.g.rl=s.g.n∧∀r,r<s.g.n→s.g.nl r=1
theorem cX{α β:Type}{r:Rz α}{f:α→Nat→Rz β}{x:β×Nat}(h:cD r f=.ok x):∃a q,r=.ok (a,q)∧f a q=.ok x:=by
 rcases r with e|⟨a,q⟩
 ·cases h
 ·exact⟨a,q,rfl,h⟩
theorem qa{α:Type}{E:Int}{A:Nat}{r:Rz α}{x:α×Nat}(h:dJ E A r=.ok x):E=0∧r=.ok x:=by
 unfold dJ at h;split at h
 ·exact⟨‹_›,h⟩
 ·cases h
theorem Of{t:List UInt8}{p:Nat}{g:Gm}{q:Nat}(h:uD t p=.ok (g,q)):g.rl=g.n∧∀r,r<g.n→g.nl r=1:=by
 obtain⟨l1,q1,_,h⟩:=cX h;obtain⟨hw,h⟩:=qa h;obtain⟨l2,q2,_,h⟩:=cX h;obtain⟨_,h⟩:=qa h;obtain⟨l3,q3,_,h⟩:=cX h;obtain⟨_,h⟩:=qa h;obtain⟨l4,q4,_,h⟩:=cX h;obtain⟨_,h⟩:=qa h;obtain⟨pl,q5,_,h⟩:=cX h;cases h;refine⟨rfl,fun r hr=>?_⟩
 have hf:oU (fun k=>tg (gd l1 k)) (gi l1)=0:=by
  unfold AQ at hw;by_cases hz:oU (fun k=>tg (gd l1 k)) (gi l1)=0
  ·exact hz
  ·rw[Wc hz]at hw;exact hw
 have h1:=yB hf r hr;show(qI (gd l1 r)).length=1;unfold tg at h1;unfold qI;cases hk:Ra (gd l1 r)with
 |none=>rw[hk]at h1;cases h1
 |some x=>rfl
theorem Fg{t:List UInt8}{pl p:Nat}{s:Sp}{q:Nat}(h:gU t pl p=.ok (s,q)):Nn s:=by
 obtain⟨l,q1,_,h⟩:=cX h;have g0:Ue.rl=Ue.n∧∀r,r<Ue.n→Ue.nl r=1:=⟨rfl,fun r hr=>absurd hr (Xy r)⟩
 cases hn:FL ⟨l.toArray⟩with
 |none=>rw[hn]at h;cases h
 |some kn=>
  obtain⟨k,n⟩:=kn;rw[hn]at h;dsimp only at h;split at h
  ·cases h
  split at h
  ·obtain⟨_,_,_,h⟩:=cX h
   cases h;exact g0
  split at h
  ·obtain⟨_,_,_,h⟩:=cX h
   cases h;exact g0
  split at h
  ·obtain⟨_,_,_,h⟩:=cX h
   cases h;exact g0
  split at h
  ·obtain⟨_,_,_,h⟩:=cX h
   cases h;exact g0
  split at h
  ·obtain⟨_,_,hm,h⟩:=cX h
   cases h;exact Of hm
  cases h;exact g0
theorem Fa{t:List UInt8}:∀{f:Nat} {L L':List Sp} {p q:Nat},kX t f L p=.ok (L',q)→(∀s∈L,Nn s)→∀s∈L',Nn s
 |0,_,_,_,_,h,hl=>by cases h;exact hl
 |f+1,L,L',p,q,h,hl=>by
  unfold kX at h;split at h
  ·cases h;exact hl
  obtain⟨l,q1,_,h⟩:=cX h;split at h
  ·obtain⟨s,q2,hs,h⟩:=cX h
   refine Fa h fun s' hs'=>?_;rcases X7.1 hs' with h1|h1
   ·exact hl _ h1
   ·rw[List.mem_singleton.1 h1]
    exact Fg hs
  ·cases h
theorem O2{t:List UInt8}{s:Sp}{q:Nat}(h:nS t=.ok ([s],q)):Nn s:=by
 unfold nS at h;split at h
 ·cases h
 obtain⟨s1,q1,h1,h⟩:=cX h;exact Fa h (fun s' hs'=>by rw[List.mem_singleton.1 hs'];exact Fg h1) s vsi
theorem zV{W:V8}{v:R2}{n:Nat}{f:Nat→Int}(h:aq W v n f)(hn:0<n):Rt W v:=by
 obtain⟨a,cap,rfl,_,hc⟩:=h;obtain⟨g,o,rfl,h0⟩:=hc 0 hn;exact tC h0 _
theorem RL{W:V8}{v:R2}{n:Nat}{wi:Nat→Nat→Int}{nl:Nat→Nat}{no:Nat→Nat→Int}(h:cA W v n wi nl no)(hn:0<n)(hp:∀r,r<n→nl r=1):DU W v n wi nl no∧Rt W v:=by
 obtain⟨a,cap,R,rfl,h2,h3,h4⟩:=h;refine⟨⟨a,cap,R,rfl,h2,h3,fun r hr=>⟨h4 r hr,zV (h4 r hr) (by rw[hp r hr];decide)⟩⟩,?_⟩;obtain⟨b,o,rfl,hr⟩:=h3 0 hn;have h0:0<(b6 (wi 0) (R 0)).toList.length:=by rw[Wx,aO];decide
 exact tC (hr 0 _ (Wu h0)) _
theorem s7(g:Gm)(N0:Nat)(a:Nat→Nat):∀k c,Om.through (bZ (ie g N0)) a k c=Om.through (bZ g) a k c
 |0,_=>rfl
 |k+1,c=>by
  show Om.eZ ((bZ g).wi ((bZ g).n-1-k)) (Om.sU (bZ g) a ((bZ g).n-1-k)) (Om.through (bZ (ie g N0)) a k c)=_;rw[s7 g N0 a k c]
  rfl
theorem NP(g:Gm)(N0:Nat)(a:Nat→Nat):Om.now (bZ (ie g N0)) a=Om.now (bZ g) a:=by
 have e:Om.there (bZ (ie g N0)) a=Om.there (bZ g) a:=YP fun c=>s7 g N0 a (bZ g).n ((bZ g).pl c)
 funext c
 unfold Om.now;rw[e]
 rfl
theorem Mj(g:Gm)(N0:Nat):∀(l:List UInt8) (a:Nat→Nat),Om.wr (bZ (ie g N0)) a l=Om.wr (bZ g) a l
 |[],_=>rfl
 |c :: l,a=>by
  show oB (Om.now (bZ (ie g N0)) (Om.step (bZ g) a) _) :: Om.wr (bZ (ie g N0)) (Om.step (bZ g) a) l=_;rw[Mj g N0 l,NP]
  rfl
theorem QW{s:Sp}(hk:s.k=6){t:List UInt8}(hE:rE 1 (oN [s]) t=0)(hn2:s.g.n≤2):gE s.g=0∧∃N0,N0<26 ^ s.g.n∧(∀i,i<s.g.sl→s.g.st i=(((dx s.g.n N0 i:Nat):Int)))∧gE (ie s.g N0)=0∧Ck (ie s.g N0) t=0∧rS 1 (oN [s]) t=Jm (ie s.g N0) t:=by
 obtain⟨h1,h2,_⟩:=pM hE;have hs:ni s=0:=(ua h1).2 0 vde;have hg:=o5 hs hk;obtain⟨N0,c,b⟩:=L7 hg hn2;have a:=C6 hg N0;have hw:Ck (ie s.g N0) t=0:=by unfold Ck;rw[V9 (fun h=>h a)];exact h2
 refine⟨hg,N0,c,b,a,hw,?_⟩;unfold rS Jm;rw[Wc hE,V9 (fun h=>h hw)];show one s t=_;rw[EE hk,Mj];refine Om.BU t fun i hi=>?_;have d:i<s.g.sl:=by rw[(qS hg).2.1];exact hi
 show(s.g.st i).toNat=((((dx s.g.n N0 i:Nat):Int))).toNat;rw[b i d]
end
section
open Go.RowKit PK Vg Go.Conc Cs
theorem L1:[Item.inRegion C9 (Xx 5 5),.code (oG kM .skip)].all (aZ qf)=true:=vkr
theorem JY:[Item.inRegion El (Xx 4 5),.code kF].all (aZ qf)=true:=vkr
theorem Lh(E:Env)(g:Nat→R2):∃j:Nat→R2,∀i,VR E (j i) (g i):=⟨fun i=>(aJ E (g i)).choose,fun i=>(aJ E (g i)).choose_spec⟩
theorem Pr{E:Env}{z x:Nat→R2}(h:∀i,VR E (z i) (x i)):LR E (wD z) (wD x):=by
 have e:∀y:Nat→R2,wD y=((List.range 162).map y).toArray:=fun _=>rfl;rw[e,e];refine⟨vsi,fun i u v hu hv=>?_⟩;have hi:i<162:=by have:=(Wd.1 hu).1;simpa using this
 simp[hi]at hu hv;rw[←hu,←hv];exact h i
theorem FJ{E:Env}{a b c:Addr}(h:AR E a b)(k:AR E a c):b=c:=by
 obtain⟨s,o,h1,h2,h3,_⟩:=h;obtain⟨s',o',k1,k2,k3,_⟩:=k;rw[h1]at k1;cases b;cases c;simp at k1 h2 k2 h3 k3;obtain⟨rfl,rfl,rfl⟩:=k1;rw[h2,k2,h3,k3]
theorem C4{E:Env}{a:Addr}{v:R2}(h:VR E (.pointer (some a)) v):∃b,v=.pointer (some b)∧AR E a b:=by
 cases h with
 |ptr ha=>exact⟨_,rfl,ha⟩
theorem Oe{E:Env}{V:Nat→R2}{y:Array R2}(h:LR E (bJ 3 V) y):∃U:Nat→R2,y=bJ 3 U∧∀i,i<3→VR E (V i) (U i):=by
 have hs:y.size=3:=by rw[←h.size,aU]
 refine⟨fun i=>y.getD i undef,?_,fun i hi=>h.at_ i _ _ (aM V hi) (by simp[Array.getD,hs,hi])⟩;refine Array.ext (by rw[aU,hs]) fun i h1 h2=>?_;have:=aM (fun i=>y.getD i undef) (n:=3) (i:=i) vom;rw[Wl h2]at this;rw[XG this];simp[Array.getD,h1]
theorem GM(T:Array R2)(h0:T.size=162)(b9 b11:Nat)(hh:Int)(h2:T[2]?=some (.int .i64 hh))(h9:T[9]?=some (.pointer (some ⟨b9,0,none⟩)))(h11:T[11]?=some (.pointer (some ⟨b11,0,none⟩)))(u:R2)(h93:T[93]?=some (.tuple #[u,.int .i64 0]))(a b c:R2)(g:Gm)(hl:Hl)(hln:hl.n=g.n)(h26:∀N,(hl.lg N).length≤26)(N0 A PA:Nat)(pr:Nat→Nat→Int)(LG:List Nat)(hO:Qx g hl N0 A PA pr LG)(hN0:ie g N0=g)(hN1:N0<26 ^ g.n)(hgE:gE g=0)(hn2:g.n≤2)(w:V8)(hM:w.heap[b9]?=some (.cells (aP a b c g.rf g.pl) 35 (0,0)))(y11:Array R2)(hN:w.heap[b11]?=some (.cells y11 35 (0,0)))(ha:DU w a g.n g.wi g.nl g.no)(hb:aq w b g.rl g.ri)(hc:aq w c g.sl g.st)(ra:Rt w a)(rb:Rt w b)(rc:Rt w c)(hu:MY w u (hl.bU (26 ^ g.n)) hl):
  ∃E gl wl y l9 l11,gT qf (Ut y g wl.heap.size) 3 [] kD E gl wl (G (aL 3 T [.inRegion C9 (Xx 5 5),.code (oG kM kD)] .run) []) w∧(∀b q s o,E b=some (q,s,o)→o=false)∧(∀b,wl.heap.size≤b→E b=none)∧y 2=.int .i64 hh∧y 9=.pointer (some ⟨l9,0,none⟩)∧y 11=.pointer (some ⟨l11,0,none⟩)∧AR E ⟨l9,0,none⟩ ⟨b9,0,none⟩∧AR E ⟨l11,0,none⟩ ⟨b11,0,none⟩:=by
 obtain⟨E1,wl1,u',p1,q1,r1,k1⟩:=By (Cp.nil (P:=qf) w) c8 hu;obtain⟨E2,wl2,a',b',c',p2,q2,ra',rb',rc',l⟩:=oM p1 c8 ha hb hc ra rb rc;have m:=oA (rf:=g.rf) (pl:=g.pl) ra' rb' rc'
 obtain⟨E3,p3,q3,r3,_⟩:=p2.row c8 (s:=0) hM (aP a' b' c' g.rf g.pl) (fun i v hv=>by
  have hi:i<55:=by have:=(Wd.1 hv).1;rwa [aD]at this
  have hj:i<(aP a b c g.rf g.pl).size:=by rw[aD];exact hi
  exact⟨_,Wl hj,m.at_ i _ _ hv (Wl hj)⟩)
 obtain⟨wl3,d⟩:∃x,x=wl2.alloc (.cells (aP a' b' c' g.rf g.pl) 1000000000 (0,(aP a' b' c' g.rf g.pl).size)):=⟨_,rfl⟩
 have h:wl3.heap[wl2.heap.size]?=some (.cells (aP a' b' c' g.rf g.pl) 1000000000 (0,(aP a' b' c' g.rf g.pl).size)):=by rw[d];exact heap_alloc_new wl2 _
 rw[←d]at p3 q3;clear d;obtain⟨E4,p4,q4,r4,_⟩:=p3.row c8 (s:=0) hN #[] (fun i v hv=>by simp at hv);obtain⟨wl4,f⟩:∃x,x=wl3.alloc (.cells #[] 1000000000 (0,(#[]:Array R2).size)):=⟨_,rfl⟩
 rw[←f]at p4 q4;clear f;have q24:=q3.trans q4;have t:wl2.heap.size<wl3.heap.size:=(Wd.1 h).1;have B:=(q4.old _ t).trans h
 have k:cL wl4 (.agg (aP a' b' c' g.rf g.pl)) g:=by
  obtain⟨x,y,z,e,m1,m2,m3⟩:=l;exact⟨x,y,z,e,eL q24 m1,bK q24 m2,bK q24 m3⟩
 have k4:=uC (q2.trans q24) k1;obtain⟨x,rfl,hx⟩:=y4 T h0;obtain⟨j,hj⟩:=Lh E4 x
 let y:Nat→R2:=fun i=>if i=2 then .int .i64 hh else if i=9 then .pointer (some ⟨wl2.heap.size,0,none⟩)else if i=11 then .pointer (some ⟨wl3.heap.size,0,none⟩)else if i=93 then .tuple #[u',.int .i64 0]else j i
 have ar9:AR E4 ⟨wl2.heap.size,0,none⟩ ⟨b9,0,none⟩:=(r3 0).mono q4.le
 have hy:∀i,VR E4 (y i) (x i):=fun i=>by
  show VR E4 (if i=2 then _ else if i=9 then _ else if i=11 then _ else if i=93 then _ else j i) (x i);by_cases e2:i=2
  ·rw[Wc e2,e2,hx _ _ h2];exact .int .i64 hh
  rw[V9 e2];by_cases e9:i=9
  ·rw[Wc e9,e9,hx _ _ h9];exact .ptr ar9
  rw[V9 e9];by_cases e11:i=11
  ·rw[Wc e11,e11,hx _ _ h11];exact .ptr (r4 0)
  rw[V9 e11];by_cases e93:i=93
  ·rw[Wc e93,e93,hx _ _ h93];exact BG ((r1.mono q2.le).mono q24.le)
  rw[V9 e93];exact hj i
 refine⟨E4,_,wl4,y,wl2.heap.size,wl3.heap.size,gT.mid ⟨_,Tryz.func3⟩ (Pr hy) p4.wr p4.gF L1 (.cons _ (.cut (FM kD kM))) (fun τ=>wK (Sy y _ a' b' c' u' g hl hln h26 N0 A PA pr LG hO hN0 hN1 hgE hn2 _ _ (wl4.tp τ) B k k4 rfl rfl)),p4.sh,p4.top,rfl,rfl,rfl,ar9,r4 0⟩
theorem O6{E E':Env}{wl wl2 w w':V8}{y:Nat→R2}{g:Gm}{x T:Array R2}{l9 l11 b9 b11:Nat}{hh:Int}(hpos:∀i,0<Hh g i)(hp:Ut y g wl.heap.size x wl2)(hx:LR E' x T)(hw:WR qf E' wl2 w')(fc:FC E E' w w')(htop:∀b,wl.heap.size≤b→E b=none)(y2:y 2=.int .i64 hh)(y9:y 9=.pointer (some ⟨l9,0,none⟩))(y11:y 11=.pointer (some ⟨l11,0,none⟩))(a9:AR E ⟨l9,0,none⟩ ⟨b9,0,none⟩)(a11:AR E ⟨l11,0,none⟩ ⟨b11,0,none⟩):
  ∃q U,(T.size=162∧T[2]?=some (.int .i64 hh)∧T[9]?=some (.pointer (some ⟨b9,0,none⟩))∧T[11]?=some (.pointer (some ⟨b11,0,none⟩))∧T[19]?=some (.pointer (some ⟨q,0,none⟩)))∧w'.heap[q]?=some (.cells (bJ 3 U) 50 (0,0))∧∀i,i<3→aq w' (U i) (Hh g i) (MU g i)∧Rt w' (U i):=by
 obtain⟨k0,k2,k9,k11,q,V,k19,hq,hr,a⟩:=hp
 have at':∀{i u},x[i]?=some u→∃v,T[i]?=some v∧VR E' u v:=fun {i u} h=>by
  have hi:i<T.size:=by rw[←hx.size];exact(Wd.1 h).1
  exact⟨_,Wl hi,hx.at_ i _ _ h (Wl hi)⟩
 obtain⟨v2,t2,r2⟩:=at' k2;rw[y2]at r2;cases r2;obtain⟨v9,t9,r9⟩:=at' k9;rw[y9]at r9;obtain⟨p9,rfl,ar9⟩:=C4 r9;obtain rfl:=FJ ar9 (a9.mono fc.le);obtain⟨v11,t11,Sq⟩:=at' k11;rw[y11]at Sq;obtain⟨p11,rfl,ar11⟩:=C4 Sq;obtain rfl:=FJ ar11 (a11.mono fc.le);obtain⟨v19,t19,r19⟩:=at' k19;obtain⟨⟨pb,po,ps⟩,rfl,s,o,e1,e2,e3,_,e5⟩:=C4 r19
 obtain rfl:o=true:=by
  rcases fc.fresh _ _ _ _ e1 with h|⟨_,_,h⟩
  ·rw[htop q hq]at h;cases h
  ·exact h
 obtain⟨rfl,ol,ob,h1,h2,h3⟩:=hw.own _ _ _ e1;rw[show wl2.heap[q]?=some (.cells (bJ 3 V) 50 (0,0))from hr]at h1;cases h1;cases h3 with
 |cells _ _ hl=>
  obtain⟨U,rfl,hU⟩:=Oe hl;have e2':po=0:=e2;have e3':ps=none:=e3;subst e2' e3';exact⟨pb,U,⟨by rw[←hx.size];exact k0,t2,t9,t11,t19⟩,h2,fun i hi=>ve hw (hpos i) (a i hi) (hU i hi)⟩
theorem GH(T:Array R2)(h0:T.size=162)(b9:Nat)(h9:T[9]?=some (.pointer (some ⟨b9,0,none⟩)))(u:R2)(h146:T[146]?=some (.tuple #[u,.int .i64 0]))(a b c:R2)(g:Gm)(L:List Nat)(N0:Nat)(hN0:ie g N0=g)(hN:N0∈L)(hlen:L.length≤1000000)(w:V8)(hM:w.heap[b9]?=some (.cells (aP a b c g.rf g.pl) 35 (0,0)))(ha:DU w a g.n g.wi g.nl g.no)(hb:aq w b g.rl g.ri)(hc:aq w c g.sl g.st)(ra:Rt w a)(rb:Rt w b)(rc:Rt w c)(hu:Np w u L g.n):
  ∃E gl wl,bH qf (fun v _=>v=.bool true) [] E gl wl (G (aL 3 T [.inRegion El (Xx 4 5),.code kF] .run) []) w∧∀b q s o,E b=some (q,s,o)→o=false:=by
 obtain⟨E1,wl1,u',p1,q1,r1,k1⟩:=F9 (Cp.nil (P:=qf) w) c8 hu;obtain⟨E2,wl2,a',b',c',p2,q2,ra',rb',rc',d⟩:=oM p1 c8 ha hb hc ra rb rc;have f:=oA (rf:=g.rf) (pl:=g.pl) ra' rb' rc'
 obtain⟨E3,p3,q3,r3,_⟩:=p2.row c8 (s:=0) hM (aP a' b' c' g.rf g.pl) (fun i v hv=>by
  have hi:i<55:=by have:=(Wd.1 hv).1;rwa [aD]at this
  have hj:i<(aP a b c g.rf g.pl).size:=by rw[aD];exact hi
  exact⟨_,Wl hj,f.at_ i _ _ hv (Wl hj)⟩)
 have k:=heap_alloc_new wl2 (.cells (aP a' b' c' g.rf g.pl) 1000000000 (0,(aP a' b' c' g.rf g.pl).size));generalize hw3:wl2.alloc (.cells (aP a' b' c' g.rf g.pl) 1000000000 (0,(aP a' b' c' g.rf g.pl).size))=wl3 at *
 have h:cL wl3 (.agg (aP a' b' c' g.rf g.pl)) g:=by
  obtain⟨x,y,z,e,m1,m2,m3⟩:=d;exact⟨x,y,z,e,eL q3 m1,bK q3 m2,bK q3 m3⟩
 have k3:=uW (q2.trans q3) k1;obtain⟨x,rfl,hx⟩:=y4 T h0;obtain⟨j,hj⟩:=Lh E3 x
 let y:Nat→R2:=fun i=>if i=9 then .pointer (some ⟨wl2.heap.size,0,none⟩)else if i=146 then .tuple #[u',.int .i64 0]else j i
 have hy:∀i,VR E3 (y i) (x i):=fun i=>by
  show VR E3 (if i=9 then _ else if i=146 then _ else j i) (x i);by_cases e9:i=9
  ·rw[Wc e9,e9,hx _ _ h9];exact .ptr (r3 0)
  rw[V9 e9];by_cases e93:i=146
  ·rw[Wc e93,e93,hx _ _ h146];exact BG ((r1.mono q2.le).mono q3.le)
  rw[V9 e93];exact hj i
 exact⟨E3,_,wl3,bH.mid ⟨_,Tryz.func3⟩ (Pr hy) p3.wr p3.gF JY (fun τ=>j5 Tryz.func3 (Sz y _ a' b' c' u' g L N0 hN0 hN hlen _ _ (wl3.tp τ) k h k3 rfl rfl)),p3.sh⟩
end
namespace Nm
open Go Go.Conc
section
variable{P:Program}
instance(s:String):NM P (Zi s):=by
 unfold Zi
 repeat' (first|infer_instance|(refine b5 ?_ fun _=>?_)|(refine fD ?_ ?_)|(refine eo (fun _ _=>?_) _ _)|(refine dZ (fun _ _=>?_) _ _)|split|dsimp only)
instance(xs:Array R2):NM P (Xm xs):=by
 unfold Xm
 repeat' (first|infer_instance|(refine b5 ?_ fun _=>?_)|(refine fD ?_ ?_)|(refine eo (fun _ _=>?_) _ _)|(refine dZ (fun _ _=>?_) _ _)|split|dsimp only)
instance(v:R2):NM P (Extern.RuntimeError.described v):=by
 unfold Extern.RuntimeError.described
 repeat' (first|infer_instance|(refine b5 ?_ fun _=>?_)|(refine fD ?_ ?_)|(refine eo (fun _ _=>?_) _ _)|(refine dZ (fun _ _=>?_) _ _)|split|dsimp only)
instance(v:TypeInfo):NM P (Extern.RuntimeError.pkgpathOf v):=by
 unfold Extern.RuntimeError.pkgpathOf
 repeat' (first|infer_instance|(refine b5 ?_ fun _=>?_)|(refine fD ?_ ?_)|(refine eo (fun _ _=>?_) _ _)|(refine dZ (fun _ _=>?_) _ _)|split|dsimp only)
instance(xs:Array R2):NM P (Yp xs):=by
 unfold Yp
 repeat' (first|infer_instance|(refine b5 ?_ fun _=>?_)|(refine fD ?_ ?_)|(refine eo (fun _ _=>?_) _ _)|(refine dZ (fun _ _=>?_) _ _)|split|dsimp only)
theorem PZ:∀(n:Nat) (a:Addr) (z:ByteArray),NM P (YT a n z)
 |0,a,z=>by
  unfold YT
  infer_instance
 |n+1,a,z=>by
  have ih:=PZ n;unfold YT
  repeat' (first|infer_instance|(refine b5 ?_ fun _=>?_)|(refine fD ?_ ?_)|(refine eo (fun _ _=>?_) _ _)|(refine dZ (fun _ _=>?_) _ _)|split|dsimp only)
instance(a:Addr)(n:Nat)(z:ByteArray):NM P (YT a n z):=PZ n a z
instance(v:R2):NM P (Extern.Bytes.bytesOf v):=by
 unfold Extern.Bytes.bytesOf
 repeat' (first|infer_instance|(refine b5 ?_ fun _=>?_)|(refine fD ?_ ?_)|(refine eo (fun _ _=>?_) _ _)|(refine dZ (fun _ _=>?_) _ _)|split|dsimp only)
instance(v:R2):NM P (Extern.Bytes.asByte v):=by
 unfold Extern.Bytes.asByte
 repeat' (first|infer_instance|(refine b5 ?_ fun _=>?_)|(refine fD ?_ ?_)|(refine eo (fun _ _=>?_) _ _)|(refine dZ (fun _ _=>?_) _ _)|split|dsimp only)
instance :NM P (Extern.BytealgIndex.maxLen):=by
 unfold Extern.BytealgIndex.maxLen
 repeat' (first|infer_instance|(refine b5 ?_ fun _=>?_)|(refine fD ?_ ?_)|(refine eo (fun _ _=>?_) _ _)|(refine dZ (fun _ _=>?_) _ _)|split|dsimp only)
theorem Mh(Q:Sem R2→Prop)(xs:Array R2)(h0:R2→R2→Sem R2)(h1:Array R2→Sem R2)(k0:∀x y,Q (h0 x y))(k1:∀x,Q (h1 x)):Q (Extern.BytealgIndex.index.match_2 (fun _=>Sem R2) xs h0 h1):=by
 rcases xs with⟨_|⟨a,_|⟨b,_|⟨c,l⟩⟩⟩⟩
 ·exact k1 _
 ·exact k1 _
 ·exact k0 _ _
 ·exact k1 _
theorem zZ(Q:Sem R2→Prop)(xs:Array R2)(h0:R2→R2→Sem R2)(h1:Array R2→Sem R2)(k0:∀x y,Q (h0 x y))(k1:∀x,Q (h1 x)):Q (Extern.BytealgIndexByte.indexByte.match_2 (fun _=>Sem R2) xs h0 h1):=by
 rcases xs with⟨_|⟨a,_|⟨b,_|⟨c,l⟩⟩⟩⟩
 ·exact k1 _
 ·exact k1 _
 ·exact k0 _ _
 ·exact k1 _
instance(xs:Array R2):NM P (Zc xs):=by
 unfold Zc;refine Mh (NM P) _ _ _ (fun _ _=>?_) (fun _=>?_)<;>repeat' (first|infer_instance|(refine b5 ?_ fun _=>?_)|(refine fD ?_ ?_)|(refine eo (fun _ _=>?_) _ _)|(refine dZ (fun _ _=>?_) _ _)|split|dsimp only)
instance(xs:Array R2):NM P (YC xs):=by
 unfold YC;refine zZ (NM P) _ _ _ (fun _ _=>?_) (fun _=>?_)<;>repeat' (first|infer_instance|(refine b5 ?_ fun _=>?_)|(refine fD ?_ ?_)|(refine eo (fun _ _=>?_) _ _)|(refine dZ (fun _ _=>?_) _ _)|split|dsimp only)
theorem Oh(Q:Sem R2→Prop)(xs:Array R2)(h0:R2→Sem R2)(h1:Array R2→Sem R2)(k0:∀x,Q (h0 x))(k1:∀x,Q (h1 x)):Q (Extern.AbiNoEscape.same.match_1 (fun _=>Sem R2) xs h0 h1):=by
 rcases xs with⟨_|⟨a,_|⟨b,l⟩⟩⟩
 ·exact k1 _
 ·exact k0 _
 ·exact k1 _
instance(xs:Array R2):NM P (Zt xs):=by
 unfold Zt;refine Oh (NM P) _ _ _ (fun _=>?_) (fun _=>?_)<;>infer_instance
theorem QI(Q:Sem R2→Prop)(xs:Array R2)(h0:Int→Sem R2)(h1:Array R2→Sem R2)(k0:∀x,Q (h0 x))(k1:∀x,Q (h1 x)):Q (Extern.BytealgMakeNoZero.makeNoZero.match_3 (fun _=>Sem R2) xs h0 h1):=by
 rcases xs with⟨_|⟨a,_|⟨b,l⟩⟩⟩
 ·exact k1 _
 ·cases a with
  |int k n=>cases k<;>first|exact k0 _|exact k1 _
  |_=>exact k1 _
 ·exact k1 _
instance(ps rs:Array TypeId)(xs:Array R2):NM P (Yr ps rs xs):=by
 unfold Yr;refine QI (NM P) _ _ _ (fun _=>?_) (fun _=>?_)<;>repeat' (first|infer_instance|(refine b5 ?_ fun _=>?_)|(refine fD ?_ ?_)|(refine eo (fun _ _=>?_) _ _)|(refine dZ (fun _ _=>?_) _ _)|split|dsimp only)
theorem SX(Q:Sem R2→Prop)(xs:Array R2)(h0:R2→Sem R2)(h1:Array R2→Sem R2)(k0:∀x,Q (h0 x))(k1:∀x,Q (h1 x)):Q (Extern.RuntimeError.unhashableTypeError.match_1 (fun _=>Sem R2) xs h0 h1):=by
 rcases xs with⟨_|⟨a,_|⟨b,l⟩⟩⟩
 ·exact k1 _
 ·cases a with
  |agg x=>
   rcases x with⟨_|⟨a,_|⟨b,l⟩⟩⟩
   ·exact k1 _
   ·exact k0 _
   ·exact k1 _
  |_=>exact k1 _
 ·exact k1 _
instance(xs:Array R2):NM P (Yl xs):=by
 unfold Yl;refine SX (NM P) _ _ _ (fun _=>?_) (fun _=>?_)<;>repeat' (first|infer_instance|(refine b5 ?_ fun _=>?_)|(refine fD ?_ ?_)|(refine eo (fun _ _=>?_) _ _)|(refine dZ (fun _ _=>?_) _ _)|split|dsimp only)
theorem TG(Q:Sem R2→Prop)(xs:Array R2)(h0:ZQ→Int→ZQ→Int→Bool→ZQ→Int→Sem R2)(h1:Array R2→Sem R2)(k0:∀a b c d e f g,Q (h0 a b c d e f g))(k1:∀x,Q (h1 x)):Q (Extern.RuntimeError.boundsError.match_2 (fun _=>Sem R2) xs h0 h1):=by
 rcases xs with⟨_|⟨a,_|⟨b,l⟩⟩⟩
 ·exact k1 _
 ·cases a with
  |agg x=>
   rcases x with⟨_|⟨a,_|⟨b,_|⟨c,_|⟨d,_|⟨e,l⟩⟩⟩⟩⟩⟩
   ·exact k1 _
   ·exact k1 _
   ·exact k1 _
   ·exact k1 _
   ·cases a with
    |int=>cases b with
     |int=>cases c with
      |bool=>cases d with
       |int=>exact k0 _ _ _ _ _ _ _
       |_=>exact k1 _
      |_=>exact k1 _
     |_=>exact k1 _
    |_=>exact k1 _
   ·exact k1 _
  |_=>exact k1 _
 ·exact k1 _
instance(xs:Array R2):NM P (YJ xs):=by
 unfold YJ;refine TG (NM P) _ _ _ (fun _ _ _ _ _ _ _=>?_) (fun _=>?_)<;>repeat' (first|infer_instance|(refine b5 ?_ fun _=>?_)|(refine fD ?_ ?_)|(refine eo (fun _ _=>?_) _ _)|(refine dZ (fun _ _=>?_) _ _)|split|dsimp only)
end
def rO:List Nat:=[180,185,186,191,207,208,209,210,211,212,213,214,215,216,217,218,220,221,227]
theorem UT : (qf.funcs.toList.all fun fn => !(fn.name == "runtime.NumGoroutine")) = true := by kernel_rfl
theorem Vc:(qf.funcs.toList.all fun fn=>fn.body.isSome||(Extern.findNext fn).isNone)=true:=vkr
theorem UL:((qf.funcs.toList.zipIdx).all fun(fn,k)=>fn.body.isSome||(Xz fn).isNone||rO.contains k)=true:=vkr
theorem VO:Xz Tryz.f180=some (Zc):=vkr
theorem VQ:Xz Tryz.f185=some (Zt):=vkr
theorem VL:Xz Tryz.f186=some (Yr Tryz.f186.params Tryz.f186.resultTypes):=vkr
theorem VN:Xz Tryz.f191=some (YC):=vkr
theorem VS:Xz Tryz.f207=some (YJ):=vkr
theorem VX:Xz Tryz.f208=some (Xm):=vkr
theorem VG : Xz Tryz.f209 = some (fun args => do pure (.string ("runtime error: ".toUTF8 ++ (← asString (args.getD 0 (.tuple #[])))))) := by kernel_rfl
theorem VT:Xz Tryz.f210=some (Xm):=vkr
theorem VK:Xz Tryz.f211=some (fun args=>do pure (.string (←asString (args.getD 0 (.tuple #[]))))):=vkr
theorem VJ:Xz Tryz.f212=some (Xm):=vkr
theorem Uu : Xz Tryz.f213 = some (fun args => do pure (.string ("runtime error: ".toUTF8 ++ (← asString ((← asAgg (args.getD 0 (.tuple #[]))).getD 0 (.tuple #[])))))) := by kernel_rfl
theorem UW:Xz Tryz.f214=some (Xm):=vkr
theorem Uz:Xz Tryz.f215=some (Yp):=vkr
theorem Uw:Xz Tryz.f216=some (Xm):=vkr
theorem UN : Xz Tryz.f217 = some (fun _ => Zi "runtime error: panic called with nil argument") := by kernel_rfl
theorem Vb:Xz Tryz.f218=some (Xm):=vkr
theorem UI:Xz Tryz.f220=some (Yl):=vkr
theorem Vo:Xz Tryz.f221=some (Xm):=vkr
theorem UX:Xz Tryz.f227=some (fun args=>do pure (strVal (Extern.Rtype.kindName (←asInt (args.getD 0 (.tuple #[]))).toNat))):=vkr
theorem quiet:Quiet qf:=by
 have mem:∀(f:FuncId) (fn:Func),qf.funcs[f]?=some fn→fn∈qf.funcs.toList:=fun f fn h=>Array.mem_toList_iff.2 (YU h);refine⟨fun f fn h=>?_,fun f fn h hb=>?_,fun f fn e h hb he xs=>?_⟩
 ·have:=Yv.1 UT fn (mem f fn h)
  simpa using this
 ·have:=Yv.1 Vc fn (mem f fn h)
  cases hn:Extern.findNext fn with
  |none=>rfl
  |some x=>
   rw[hn]at this;simp at hb this;rw[hb]at this;cases this
 ·have hm:(fn,f)∈qf.funcs.toList.zipIdx:=by
   rw[List.mem_zipIdx_iff_getElem?];simpa using h
  have:=List.all_eq_true.1 UL (fn,f) hm;dsimp only at this;rw[he]at this
  have a:fn.body.isSome=false:=by
   cases hx:fn.body with
   |none=>rfl
   |some x=>rw[hx]at hb;cases hb
  rw[a]at this;have hk:f∈rO:=by simpa using this
  unfold rO at hk;simp only[Xl,List.not_mem_nil,YH]at hk;rcases hk with rfl|rfl|rfl|rfl|rfl|rfl|rfl|rfl|rfl|rfl|rfl|rfl|rfl|rfl|rfl|rfl|rfl|rfl|rfl
  ·rw[Tryz.func180]at h
   cases h;rw[VO]at he;cases he
   infer_instance
  ·rw[Tryz.func185]at h
   cases h;rw[VQ]at he;cases he
   infer_instance
  ·rw[Tryz.func186]at h
   cases h;rw[VL]at he;cases he
   infer_instance
  ·rw[Tryz.func191]at h
   cases h;rw[VN]at he;cases he
   infer_instance
  ·rw[Tryz.func207]at h
   cases h;rw[VS]at he;cases he
   infer_instance
  ·rw[Tryz.func208]at h
   cases h;rw[VX]at he;cases he
   infer_instance
  ·rw[Tryz.func209]at h
   cases h;rw[VG]at he;cases he
   infer_instance
  ·rw[Tryz.func210]at h
   cases h;rw[VT]at he;cases he
   infer_instance
  ·rw[Tryz.func211]at h
   cases h;rw[VK]at he;cases he
   infer_instance
  ·rw[Tryz.func212]at h
   cases h;rw[VJ]at he;cases he
   infer_instance
  ·rw[Tryz.func213]at h
   cases h;rw[Uu]at he;cases he
   infer_instance
  ·rw[Tryz.func214]at h
   cases h;rw[UW]at he;cases he
   infer_instance
  ·rw[Tryz.func215]at h
   cases h;rw[Uz]at he;cases he
   infer_instance
  ·rw[Tryz.func216]at h
   cases h;rw[Uw]at he;cases he
   infer_instance
  ·rw[Tryz.func217]at h
   cases h;rw[UN]at he;cases he
   infer_instance
  ·rw[Tryz.func218]at h
   cases h;rw[Vb]at he;cases he
   infer_instance
  ·rw[Tryz.func220]at h
   cases h;rw[UI]at he;cases he
   infer_instance
  ·rw[Tryz.func221]at h
   cases h;rw[Vo]at he;cases he
   infer_instance
  ·rw[Tryz.func227]at h
   cases h;rw[UX]at he;cases he
   infer_instance
end Nm
section
open Go.RowKit PK Vg
theorem lu(ls:List (List Nat))(l:List Nat)(h2:l.length≤26):∀k,k≤26→(dj (cnt (ls++[l])) k).sum=(dj (cnt ls) k).sum+if 26-k<l.length then l.length else 0
 |0,_=>by
  rw[V9 vom]
  rfl
 |k+1,hk=>by
  have ih:=lu ls l h2 k vom;show(dj (cnt (ls++[l])) k++XX (cnt (ls++[l]) (26-k)) (26-k)).sum=(dj (cnt ls) k++XX (cnt ls (26-k)) (26-k)).sum+_;rw[List.sum_append,List.sum_append,ih];simp only[List.sum_replicate_nat]
  have hc:cnt (ls++[l]) (26-k)=cnt ls (26-k)+if l.length=26-k then 1 else 0:=by
   unfold cnt;rw[Yu,WM];by_cases e:l.length=26-k<;>simp[e]
  rw[hc];by_cases e:l.length=26-k
  ·rw[Wc e,V9 vom,Wc vom,Nat.add_mul,e]
   omega
  ·rw[V9 e]
   by_cases e2:26-k<l.length
   ·rw[Wc e2,Wc vom,Nat.add_zero,Nat.add_right_comm]
   ·rw[V9 e2,V9 vom];simp
theorem sS:∀k,dj (cnt []) k=[]
 |0=>rfl
 |k+1=>by
  show dj (cnt []) k++XX (cnt [] (26-k)) (26-k)=[];rw[sS k]
  rfl
theorem nZ(ls:List (List Nat))(h:∀l∈ls,0<l.length∧l.length≤26):∀k,k≤ls.length→(dj (cnt (ls.take k)) 26).sum=(ls.take k).flatten.length
 |0,_=>by rw[List.take_zero,sS];rfl
 |k+1,hk=>by
  have ih:=nZ ls h k vom;have hl:=h ls[k] (List.getElem_mem _);rw[Y6 vom,lu _ _ hl.2 26 (R3 _),ih,Wc vom,List.flatten_append,WM];simp only[List.flatten_cons,List.flatten_nil,List.append_nil]
theorem KF{p:Nat→Nat}(hp:Pm.aC p):(typeOf p).sum=26:=by
 have:=nZ (Pm.eS p 26) (yt hp) (Pm.eS p 26).length (R3 _);rw[List.take_length]at this;rw[typeOf,this,Pm.sQ hp]
end
section
open Go.RowKit PK Vg Go.Conc Cs
theorem No{g:Gm}(h:gE g=0)(i:Nat):0<Hh g i:=by
 obtain⟨hM,_⟩:=fq h;have:=KF (lZ hM i);unfold Hh;cases e:typeOf (qz (bZ g) i)with
 |nil=>rw[e]at this;simp at this
 |cons x l=>simp
theorem Tt{g:Gm}(h:gE g=0)(hn2:g.n≤2){n:Int}(h1:1≤n)(h2:n≤16):sI g n=0:=by
 unfold sI;rw[V9 (fun e=>e h),V9 vom,V9 vom]
theorem NF{g:Gm}{c t:List UInt8}(h:Ah g c t=0):Ah (bare g) c t=0:=by
 have h0:=(jx h).1;have h1:=tP h0;unfold Ah at h⊢;rw[h1];rw[h0]at h;exact h
theorem KN(T:Array R2)(h:T.size=162)(k:Nat)(hk:k<162)(v:R2):(T.setIfInBounds k v).size=162∧(T.setIfInBounds k v)[k]?=some v∧∀i,i≠k→(T.setIfInBounds k v)[i]?=T[i]? :=
 ⟨by simp[h],by rw[WB (by rw[h];exact hk)],fun _ hi=>Wt (Ne.symm hi)⟩
theorem J6(ch cr:ByteArray)(h:Int):Xa qf 3 #[.string ch,.string cr,.int .i64 h] .normal=aL 3 (#[.string ch,.string cr,.int .i64 h]++Array.replicate 159 undef) [.code kB] .run:=by
 simp[Xa,Tryz.func3,ZO,kB,aL]
theorem SA(ch cr:ByteArray)(n:Nat)(s:Sp)(hS:O8 ch cr (n:Nat) s)(W:V8)(hn:kW W)(he:ia W):
  ∃N last o w' t',runNT qf (N+1) (solo (G (Xa qf 3 #[.string ch,.string cr,.int .i64 (n:Nat)] .normal) []) W) #[]=(.ended o w',t')∧runN qf N (solo (G (Xa qf 3 #[.string ch,.string cr,.int .i64 (n:Nat)] .normal) []) W)=.next last∧step qf last=.ended o w'∧Conc.Good qf (fun v W'=>v=.bool true∧Kept W W') last o w' t':=by
 have hG:qf.globals.size≤aT.G:=R3 _;rw[J6,FK];obtain⟨T1,w1,⟨s,b9,b11,a,b,c,hS,hF⟩,st1⟩:=uX (P:=qf) (f:=3) (C:=kC) (Post:=fun T w'=>∃s b9 b11 a b c,O8 ch cr (n:Nat) s∧Vs W w' T cr (n:Nat) s b9 b11 a b c) (BW (fun _ _ _=>False) _ ch cr (n:Nat) W hn he (fun s b9 b11 a b c T w' h k=>⟨rfl,s,b9,b11,a,b,c,h,k⟩) (fun hb=>absurd hS (hb s)));obtain⟨N1,t1,r1,Q1⟩:=Nm.DG Nm.quiet (fr0:=aL 3 _ [.code (oG kL kC)] .run) (.cons trivial .nil) st1;have kk1:Kept W w1:=⟨hF.be.block,hF.be.os,hF.be.output⟩
 obtain⟨e8,N0,Q,j3,m,S,Y⟩:=QW hS.k hS.rE hS.n;obtain⟨q0,Z⟩:=hS.rd;have O:=O2 Z;have h1:=hS.h1;have h2:=hS.h2;have p7:=hS.n;have t10:=hF.t10;have r9:=hF.r9;have Sq:=hF.Sq;have e9:=hF.wh;have e4:=hF.ri
 have j:aq w1 c (ie s.g N0).sl (ie s.g N0).st:=by
  have:=hF.st.congr j3;rw[(qS e8).2.1]at this;exact this
 have p9:=hS.l1;have p5:=hS.l2;have hT:UF cr ⟨(Jm (ie s.g N0) cr.data.toList).toArray⟩ (n:Nat) b9 b11 T1:=⟨hF.size,hF.t1,hF.t2,hF.t9,by rw[←Y];exact t10,hF.t11⟩
 obtain⟨g,d⟩:∃g,g=ie s.g N0:=⟨_,rfl⟩
 have z:ie g N0=g:=by rw[d];rfl
 have n4:g.n=s.g.n:=by rw[d];rfl
 have I:=(qS m).1;rw[←d]at hT m S j I;have q8:g.rl=g.n:=by rw[d];exact O.1
 have e6:∀r,r<g.n→g.nl r=1:=fun r hr=>by rw[d]at hr⊢;exact O.2 r hr
 have L:cA w1 a g.n g.wi g.nl g.no:=by rw[d];exact e9
 have l:aq w1 b g.rl g.ri:=by rw[d];exact e4
 have d9:w1.heap[b9]?=some (.cells (aP a b c g.rf g.pl) 35 (0,0)):=by rw[d];exact r9
 have d11:w1.heap[b11]?=some (.cells (aP a b c (bare g).rf (bare g).pl) 35 (0,0)):=by rw[d];exact Sq
 obtain⟨ha,ra⟩:=RL L I e6;have rb:=zV l vom;have rc:=zV j (by rw[(qS m).2.1];omega);have V:g.n≤2:=vom;rw[←n4]at Q;clear d hF hS Z O j3 e8 Y t10 r9 Sq e9 e4 L;generalize hte:(⟨(Jm g cr.data.toList).toArray⟩:ByteArray)=te at *;obtain⟨_,_,k4,_⟩:=vL S hte.symm;have s1:=Pl.aN cr;rw[V9 vom]at k4;have J:=NF k4;obtain⟨hl,D⟩:=C7 J;obtain⟨A,PA,pr,LG,hO⟩:=Io D z S hte.symm
 have l5:∀N,(hl.lg N).length≤26:=fun N=>by
  obtain⟨_,ok,_,_,_,e⟩:=D.t N;rw[e];exact zo ok 26
 have o6:=tP m;have M:∀r,r<g.n→g.nl r*8≤140737488355328:=fun r hr=>by rw[e6 r hr];decide
 have K:g.rl*8≤140737488355328:=vom;obtain⟨B,H⟩:∃B,B=aP a b c (bare g).rf (bare g).pl:=⟨_,rfl⟩
 have hB:B.size=55:=by rw[H];exact aD ..
 rw[←H]at d11
 -- to the search
 obtain⟨mu1,G1⟩:=UR T1 B hB cr te (n:Nat) b9 b11 hT w1.heap w1.os w1.output w1 ⟨rfl,rfl,rfl⟩ d11;obtain⟨N2,gs2,w2,sl2,t2,q2,g2,r2,z2,i2,⟨⟨T2,F,rfl⟩,I2⟩,Q2⟩:=de (sl:=none) (gs:=#[_]) (q:=fun _=>0) (fun _ _ _ h=>h) (fun g w h=>by obtain⟨⟨_,_,rfl⟩,_⟩:=h;rfl) rfl G1 (Q1 fun _=>0);have kk2:Kept w1 w2:=⟨fun b _=>by rw[I2.1],I2.2.1,I2.2.2⟩
 have sw:=Tt o6 V h1 h2;obtain⟨N3,gs3,w3,gP,t3,q3,u,r3,i3,hu,kk3,Q3⟩:=zF a b c (bare g) cr te hl D J n sw M K B H w2 (jh kk2.1 ha) (cF kk2.1 l) (cF kk2.1 j) (cW kk2.1 ra) (cW kk2.1 rb) (cW kk2.1 rc) _ _ i2 Q2 sl2;have k13:=fL kk2 kk3;rw[Qw]at i3;obtain⟨z3,e93,ne3⟩:=KN T2 F.1 93 vde (.tuple #[u,.int .i64 0]);have d9':w3.heap[b9]?=some (.cells (aP a b c g.rf g.pl) 35 (0,0)):=(k13.1 _ (bS d9)).trans d9;have d11':w3.heap[b11]?=some (.cells B 35 (0,0)):=(k13.1 _ (bS d11)).trans d11
 -- behind it
 obtain⟨E,gl,wl,y,l9,l11,k8,k7,e3,y2,y9,y11,a9,a11⟩:=GM _ z3 b9 b11 (n:Nat) ((ne3 2 vde).trans F.2.2.1) ((ne3 9 vde).trans F.2.2.2.1) ((ne3 11 vde).trans F.2.2.2.2.2) u e93 a b c g hl D.n l5 N0 A PA pr LG hO z Q m V w3 d9' B d11' (jh k13.1 ha) (cF k13.1 l) (cF k13.1 j) (cW k13.1 ra) (cW k13.1 rb) (cW k13.1 rc) hu;obtain⟨N4,gs4,w4,sl4,t4,q4,E4,x4,T4,wl4,r4,z4,i4,p4,lr4,wr4,_,fc4,Q4⟩:=Dd (sl:=gP) hG cG i3 k8 Q3;have kk4:Kept w3 w4:=⟨fun b hb=>fc4.keep b hb (fun b' s e=>by have:=k7 _ _ _ _ e;cases this),fc4.os,fc4.output⟩
 obtain⟨b19,U,k9,d19,hU⟩:=O6 (No m) p4 lr4 wr4 fc4 e3 y2 y9 y11 a9 a11;have k14:=fL k13 kk4;have d11'':w4.heap[b11]?=some (.cells B 35 (0,0)):=(k14.1 _ (bS d11)).trans d11
 -- to Find
 obtain⟨mu2,G2⟩:=UH T4 B (bJ 3 U) hB (aU _ _) (n:Nat) b9 b11 b19 k9 w4.heap w4.os w4.output w4 ⟨rfl,rfl,rfl⟩ d11'' d19;obtain⟨N5,gs5,w5,sl5,t5,q5,g5,r5,z5,i5,⟨⟨T5,k3,rfl⟩,I5⟩,Q5⟩:=de (sl:=sl4) (fun _ _ _ h=>h) (fun g w h=>by obtain⟨⟨_,_,rfl⟩,_⟩:=h;rfl) i4 G2 Q4;have kk5:Kept w4 w5:=⟨fun b _=>by rw[I5.1],I5.2.1,I5.2.2⟩
 have k15:=fL k14 kk5;obtain⟨N6,gs6,w6,sl6,t6,q6,v,r6,i6,hv,kk6,Q6⟩:=GI a b c (bare g) U (Hh g) (MU g) n sw M K B (bJ 3 U) H rfl w5 (jh k15.1 ha) (cF k15.1 l) (cF k15.1 j) (cW k15.1 ra) (cW k15.1 rb) (cW k15.1 rc) (fun i hi=>⟨cF kk5.1 (hU i hi).1,cW kk5.1 (hU i hi).2⟩) _ _ i5 Q5 sl5;have k16:=fL k15 kk6;rw[Sd]at i6;obtain⟨z6,e146,ne6⟩:=KN T5 k3.1 146 vde (.tuple #[v,.int .i64 0])
 have e7:N0∈jw (bare g) (Hh g) (MU g) (26 ^ g.n):=by
  unfold jw;rw[Yj];exact⟨by simpa using Q,MS m z⟩
 have k6:(jw (bare g) (Hh g) (MU g) (26 ^ g.n)).length≤1000000:=by
  refine Ws (ZP _ _) ?_;rw[List.length_range];exact Ws (Nat.pow_le_pow_right vde V) vde
 obtain⟨E7,gl7,wl7,e5,k5⟩:=GH _ z6 b9 ((ne6 9 vde).trans k3.2) v e146 a b c g _ N0 z e7 k6 w6 ((k16.1 _ (bS d9)).trans d9) (jh k16.1 ha) (cF k16.1 l) (cF k16.1 j) (cW k16.1 ra) (cW k16.1 rb) (cW k16.1 rc) hv;obtain⟨N7,gs7,w7,sl7,t7,q7,E8,gl8,wl8,g7,r7,z7,i7,in7,st7,la7,fc7,Q7⟩:=AB (sl:=sl6) hG cG i6 e5 Q6;obtain⟨x,x',wl9,hp,vr,hs,j0⟩:=in7.atEnd st7 (fn0:=3) (t:=6) (la7.trans rfl) Tryz.func3 rfl vkr;subst hp;cases vr;have kk7:Kept w6 w7:=⟨fun b hb=>fc7.keep b hb (fun b' s e=>by have:=k5 _ _ _ _ e;cases this),fc7.os,fc7.output⟩
 refine Lr (NN:=N1+(N2+(N3+(N4+(N5+(N6+N7)))))) (sl10:=sl7) ?_ i7 hs j0 Q7 (fL kk1 (fL k16 kk7));rw[XM,r1];show runNT qf (N2+(N3+(N4+(N5+(N6+N7))))) (crowd #[G (aL 3 T1 [.code kC] .run) []] w1 none) t1=_;rw[XM];have r2':runNT qf N2 (crowd #[G (aL 3 T1 [.code kC] .run) []] w1 none) t1=(.next (crowd gs2 w2 sl2),t2):=r2;rw[r2'];show runNT qf (N3+(N4+(N5+(N6+N7)))) (crowd gs2 w2 sl2) t2=_;rw[XM,r3];show runNT qf (N4+(N5+(N6+N7))) (crowd gs3 w3 gP) t3=_;rw[XM,r4];show runNT qf (N5+(N6+N7)) (crowd gs4 w4 sl4) t4=_;rw[XM,r5];show runNT qf (N6+N7) (crowd gs5 w5 sl5) t5=_;rw[XM,r6];exact r7
end
section
open Go.RowKit PK Vg
theorem OZ(ch cr:ByteArray)(h:Int)(w:V8)(hn:kW w)(he:ia w)(hbad:∀s,¬O8 ch cr h s):Calls qf 3 #[.string ch,.string cr,.int .i64 h] w fun e w'=>e=.returned (.bool true)∧Below w.heap.size w w':=by
 refine calls_of_wp Tryz.func3 (c:=Cs.kB) rfl ?_;rw[FK]
 exact Cs.E0 (BW _ _ ch cr h w hn he (fun s _ _ _ _ _ _ _ hS _=>absurd hS (hbad s)) (fun _ T W _ h6 hb=>⟨rfl,.bool true,by
  simp[results,ZO,Array.mapM_eq_mapM_toList,List.mapM_cons,Array.getD_eq_getD_getElem?,h6],rfl,hb⟩))
end
section
open Go.Conc
theorem Gp{P:Program}{f:FuncId}{args:Array R2}{w:V8}{R:R2→V8→Prop}(h:Calls P f args w fun e w'=>∃v,e=.returned v∧R v w')(hi:P.inits.idxOf? f=none):
  ∃N last o w' t',runNT P (N+1) (solo (G (Xa P f args .normal) []) w) #[]=(.ended o w',t')∧runN P N (solo (G (Xa P f args .normal) []) w)=.next last∧step P last=.ended o w'∧Conc.Good P R last o w' t':=by
 have h':Calls P f args w fun|.returned v,w'=>R v w'| _,_=>False:=h.mono fun e w' ⟨v,e1,e2⟩=>by
  subst e1;exact e2
 obtain⟨n,v,w',fr,hn,a,hp⟩:=h'.done_lone hi;have b:=allBy_of_lone P n _ _ hn (by simp[lone]) rfl
 have hT:runNT P (n+1) (lone (Xa P f args .normal) [] w) #[]=(.ended (.done v) w',(runNT P (n+1) (lone (Xa P f args .normal) [] w) #[]).2):=by
  refine Prod.ext ?_ rfl;rw[runNT_fst];exact a
 obtain⟨_,a2,a3⟩:=alone_of_lone (w':=w') hn;refine⟨n,_,_,_,_,hT,hn,step_of_runs hn a,v,rfl,hp,fun said=>?_,a2,⟨fun g hg=>by simp[lone]at hg,rfl⟩,a3⟩;exact not_race_of_allBy b
end
end Go.Proofs.YtpcnpkhgjanamaaGreatDoor
