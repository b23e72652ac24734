import Derived.Test.YtpcnpkhgjanamaaGreatDoorPz
import Derived.Test.YtpcnpkhgjanamaaGreatDoorJn39
namespace Go.Proofs.YtpcnpkhgjanamaaGreatDoor
open Go.Proofs.Tryz renaming prog→qf,f27→Yg
open Go renaming Value→R2,World→V8,TypeId→Wj
set_option maxRecDepth 100000
set_option maxHeartbeats 4000000
section
open Go.RowKit PK Vg
theorem Ih:(qf.info? 109).map (·.size)=some 26:=vkr
theorem wY(V:Nat→R2)(k:Nat)(hk:k<26)(w:V8):(Instr.index 109 (.agg (bJ 26 V)) (.int .i64 (k:Int))).run qf w=.ok (V k) w:=by
 have hs:(sizeOf 41).run qf w=.ok 1 w:=by
  have h1:(qf.info? 41).map (·.size)=some 1:=vkr;obtain⟨i,hi,hz⟩:=Xt.1 h1;simp[sizeOf,typeInfo,hi,hz]
 have hg:(bJ 26 V)[k]?=some (V k):=aM _ hk
 have hp:(part 41 (bJ 26 V) k).run qf w=.ok (V k) w:=by
  unfold part isAgg;simp[Sem.run_bind,run_underlying Tryz.underlying41,hg]
 generalize bJ 26 V=cs at *;simp[Instr.index,asIntOf,Sem.run_bind,run_underlying Tryz.underlying109,hs,hk,hp]
theorem Ky(v0 v1 v2 v3 v4 v5 v6 v7 v8 v10 v11 v12 v13 v14 v15 v16 v17 v18 v19 v20 v21 v22 v23 v24 v25 v26 v27 v28 v29 v30 v31 v32 v33 v34 v35 v36 v37 v38 v39 v40 v41 v42 v43 v44 v45 v46 v47 v48 v49 v50 v51 v52:R2)(bF:Nat)(V:Nat→R2)(T':Wj)(fr:Nat×Nat)(h:Hl)(L:Nat→List Nat)(hL:∀k,(L k).length≤676)(w:V8)(hF:w.heap[bF]?=some (.cells (bJ 26 V) T' fr))(hV:∀k,k<26→M1 w (V k) (L k) h):
  (Cs.Jn true).wp qf (bodyPost qf Yg (Cs.kY fun v w'=>∃u,v=.tuple #[u,.int .i64 0]∧Um w' w.heap.size u (h.cZ L 26) h∧Below w.heap.size w w')) ⟨#[v0,v1,v2,v3,v4,v5,v6,v7,v8,.pointer (some ⟨bF,0,none⟩),v10,v11,v12,v13,v14,v15,v16,v17,v18,v19,v20,v21,v22,v23,v24,v25,v26,v27,v28,v29,v30,v31,v32,v33,v34,v35,v36,v37,v38,v39,v40,v41,v42,v43,v44,v45,v46,v47,v48,v49,v50,v51,v52],[]⟩ w:=by
 obtain⟨i0,q,I,B,F⟩:=ei vo;have f:=h.vv hL;have K:bF<w.heap.size:=(Wd.1 hF).1;have HV:Hid (∀k,k<26→M1 w (V k) (L k) h):=hV;clear hV hL;simp only[Cs.Jn,Cs.NT,Cs.Ki,Cs.DI,Cs.Ab,Cs.dK,Cs.pk,Yg,Ww]
 go_wp2_with (first|refine Wn rfl 109 _ rfl bF rfl T' (bJ 26 V) fr _ hF Tryz.underlying109 rfl (by rw[aU];exact Ih) ?_)
 clear hF;go_loopw [13,45] (fun o x W=>∃(i:Nat) (u:R2),i≤26∧x=.int .i64 (i:Nat)∧u=o∧(∃vs:List R2,W.ownsRow w.heap.size 46 2 u (h.cZ L i).length vs∧∀(k N:Nat),(h.cZ L i)[k]?=some N→∃us ug,vs[2*k]?=some us∧vs[2*k+1]?=some ug∧rB w us ug h N)∧Below w.heap.size w W) (fun _ x _=>((26:Int)-intOf x).toNat)
 case atStart=>exact⟨0,.slice none 0 0,vom,rfl,rfl,⟨[],World.ownsRow_nil w _ _ 2,fun k N e=>by simp[Hl.cZ]at e⟩,Below.refl _ _⟩
 case round=>
  obtain⟨i,u,hi,rfl,rfl,⟨vs,a,hvs⟩,b⟩:=hrel;by_cases hlt:i<26
  ·have g:Hid (i<26):=hlt
   have J:(i:Int)<26:=vom;have s:=fun W=>wY V i hlt W;have E:=f i;have m:=f (i+1);rw[show h.cZ L (i+1)=h.cZ L i++L i from rfl,WM]at m;have t:=b.size;rcases HV.out i hlt with⟨hv0,A⟩|⟨ab,ao,c,ws,hv0,C,y,G,z⟩
   ·rw[hv0]at s
    have HC:Hid (h.cZ L (i+1)=h.cZ L i):=by show h.cZ L i++L i=_;rw[A,List.append_nil]
    have d:Hid _:=hvs;have HB:Hid _:=b;clear hlt hv0 A hvs b f E m
    go_wp2_with (first|(at_builtin;refine wpList_append_own_none rfl _ _ 41 rfl w.heap.size 46 i0 2 Tryz.underlying41 q u _ vs rfl a rfl ?_))
    go_roundw
    case rel=>exact⟨i+1,u,g.out,by go_num,by first|rfl|trivial,⟨vs,by rw[HC.out];exact a,by rw[HC.out];exact d.out⟩,HB.out⟩
    case measure=>have:=g.out;simp[intOf];omega
   ·rw[hv0]at s
    have n:∀(j:Nat) x,ws[j]?=some x→wr.cell? ((⟨ab,ao,none⟩:Addr).add j)=some x:=fun j x hx=>by
     have h1:=y j x hx;rw[Addr.add_lit];exact(b.cell (aA h1)).trans h1
    have d:Hid _:=hvs;have H:Hid _:=z;have D:Hid _:=C;have HB:Hid _:=b;clear hlt hv0 hvs b f y z
    go_wp2_with (first|(at_builtin;refine wpList_append_own _ rfl _ _ 41 rfl w.heap.size 46 i0 (.agg #[.slice none 0 0,.slice none 0 0]) 2 48 Tryz.underlying41 q I B F rfl vde u _ vs rfl a ⟨ab,ao,none⟩ _ c ws rfl (by rw[D.out]) n G (by unfold maxLen;omega) vom t ?_;intro v' w1 hown' hgrow _))
    go_roundw
    case rel=>
     refine⟨i+1,v',g.out,by go_num,by first|rfl|trivial,⟨vs++ws,?_,fun k N h2=>?_⟩,?_⟩
     ·rw[show h.cZ L (i+1)=h.cZ L i++L i from rfl,WM]
      exact hown'
     ·rw[show h.cZ L (i+1)=h.cZ L i++L i from rfl]at h2
      have hvl:vs.length=(h.cZ L i).length*2:=a.1;by_cases hkk:k<(h.cZ L i).length
      ·rw[WS hkk]at h2
       obtain⟨us,ug,e1,e2,e3⟩:=d.out k N h2;exact⟨us,ug,by rw[WS vom];exact e1,by rw[WS vom];exact e2,e3⟩
      ·rw[WQ vom]at h2
       obtain⟨us,ug,e1,e2,e3⟩:=H.out _ N h2;refine⟨us,ug,?_,?_,e3⟩
       ·rw[WQ vom,show 2*k-vs.length=2*(k-(h.cZ L i).length) by omega]
        exact e1
       ·rw[WQ vom,show 2*k+1-vs.length=2*(k-(h.cZ L i).length)+1 by omega]
        exact e2
     ·exact HB.out.grown hgrow t (fun p hp=>(World.ownsRow.lt a p hp).1)
    case measure=>have:=g.out;simp[intOf];omega
  ·obtain rfl:i=26:=vom
   have d:Hid _:=hvs;have HB:Hid _:=b;clear hlt hvs b f
   have l:∀W',W'=wr→∃u',Value.tuple #[u,.int .i64 0]=.tuple #[u',.int .i64 0]∧Um W' w.heap.size u' (h.cZ L 26) h∧Below w.heap.size w W':=fun W' e=>by
    subst e;refine⟨u,rfl,⟨vs,a,fun k N h2=>?_⟩,HB.out⟩;obtain⟨us,ug,e1,e2,e3⟩:=d.out k N h2;exact⟨us,ug,e1,e2,e3.below HB.out⟩
   have HO:Hid _:=l;clear l a d HB
   go_wp2_with fail
   refine⟨rfl,.tuple #[u,.int .i64 0],?_,_,rfl,HO.out _ rfl⟩;simp[results,Array.mapM_eq_mapM_toList,List.mapM_cons]
end
section
open Go.RowKit PK Vg Go.Conc Cs
def kZ(W:V8)(v:R2)(s n:Nat)(f:Nat→Int):Prop:=∃(a:Option Addr) (cap:Nat),v=.slice a n cap∧∀c,c<n*s→∃b o,a=some ⟨b,o,none⟩∧W.cell? ⟨b,o+c,none⟩=some (.int .i64 (f c))
def qs(W:V8)(v:R2)(s n:Nat)(f:Nat→Int):Prop:=∃(a:Option Addr) (cap:Nat),v=.slice a n cap∧∀c,c<n*s→∃b,a=some ⟨b,0,none⟩∧W.cell? ⟨b,c,none⟩=some (.int .i64 (f c))
theorem nE{E E':Env}{wl wl':V8}(h:dR E E' wl wl'){v:R2}{s n:Nat}{f:Nat→Int}(hv:qs wl v s n f):qs wl' v s n f:=by
 obtain⟨a,cap,h1,h3⟩:=hv;refine⟨a,cap,h1,fun c hc=>?_⟩;obtain⟨b,e,k⟩:=h3 c hc;exact⟨b,e,h.cell k⟩
theorem qs.gs{W:V8}{v:R2}{g:Nat→Nat→Int}{L:List Nat}(h:qs W v 28 L.length (gl g L)):Dg W v g L:=by
 obtain⟨a,cap,h1,h2⟩:=h;refine⟨a,cap,h1,fun j hj=>?_⟩;obtain⟨b,e,_⟩:=h2 (j*28) vom;refine⟨b,e,fun i u hu=>?_⟩;obtain⟨hi,rfl⟩:=Lp hu;obtain⟨b',e',k⟩:=h2 (j*28+i) vom;rw[e]at e';cases e';unfold gl at k;rw[show(j*28+i) / 28=j by omega,show(j*28+i) % 28=i by omega]at k;exact k
theorem Dg.ints{W:V8}{v:R2}{g:Nat→Nat→Int}{L:List Nat}(h:Dg W v g L):kZ W v 28 L.length (gl g L):=by
 obtain⟨a,cap,h1,h2⟩:=h;refine⟨a,cap,h1,fun c hc=>?_⟩;obtain⟨b,e,k⟩:=h2 (c / 28) vom;refine⟨b,0,e,?_⟩;have k2:=k (c % 28) (.int .i64 (g (L.getD (c / 28) 0) (c % 28))) (by rw[Wo,aB _ (X8 _ vde)]);rw[show c / 28*28+c % 28=0+c by omega]at k2;exact k2
def M5(l:List (Nat×Nat)):Nat→Int:=fun c=>if c % 2=0 then((l.getD (c / 2) (0,0)).1:Nat)else((l.getD (c / 2) (0,0)).2:Nat)
theorem Ow(l:List (Nat×Nat)):(D6 l).length=l.length*2:=by
 induction l with
 |nil=>rfl
 |cons p l ih=>rw[D6,List.flatMap_cons,WM,←D6,ih];simp;omega
theorem My(l:List (Nat×Nat)):D6 l=(ints (l.length*2) (M5 l)).toList:=by
 apply List.ext_getElem?;intro c;by_cases hc:c<l.length*2
 ·have ex:(ints (l.length*2) (M5 l)).toList[c]?=(ints (l.length*2) (M5 l))[c]?:=Wo
  rw[ex,aB _ hc];have hk:=K1 l (c / 2) vom;unfold M5;by_cases h2:c % 2=0
  ·rw[Wc h2]
   have e:c / 2*2=c:=vom;rw[e]at hk;exact hk.1
  ·rw[V9 h2]
   have e:c / 2*2+1=c:=vom;rw[e]at hk;exact hk.2
 ·rw[List.getElem?_eq_none (by rw[Ow];omega),List.getElem?_eq_none (by rw[Wx,ag];omega)]
theorem qs.links{W:V8}{v:R2}{l:List (Nat×Nat)}(h:qs W v 2 l.length (M5 l)):nC W v l:=by
 obtain⟨a,cap,h1,h2⟩:=h;refine⟨a,cap,h1,fun c hc=>?_⟩;obtain⟨b,e,k1⟩:=h2 (c*2) vom;obtain⟨b',e',k2⟩:=h2 (c*2+1) vom;rw[e]at e';cases e';refine⟨b,e,?_,?_⟩
 ·unfold M5 at k1
  rw[Wc vom,show c*2 / 2=c by omega]at k1;exact k1
 ·unfold M5 at k2
  rw[V9 vom,show(c*2+1) / 2=c by omega]at k2;exact k2
theorem nT{W:V8}{v:R2}{n:Nat}{f:Nat→Int}(hn:n≤maxLen)(h:kZ W v 1 n f):aq W v n f:=by
 obtain⟨a,cap,h1,h2⟩:=h;exact⟨a,cap,h1,hn,fun c hc=>h2 c vom⟩
variable[aT]
section
variable{P:Program}{E:Env}{wl w:V8}
theorem uQ(h:WR P E wl w){B s n:Nat}{T:Wj}{v v':R2}{f:Nat→Int}(hs:0<s)(hv:wl.ownsRow B T s v n (ints (n*s) f).toList)(hr:VR E v v'):kZ w v' s n f∧Rt w v':=by
 obtain⟨h1,h2⟩:=hv;rcases h2 with⟨rfl,h4⟩|⟨g,cap,cur,rfl,_,h4,h5,h6,h7,h8⟩
 ·subst h4
  cases hr with
  |bW l c=>exact⟨⟨none,0,rfl,fun c hc=>absurd hc vom⟩,o7⟩
 ·cases hr with
  |cx a b=>exact⟨⟨some b,0,rfl,fun c hc=>absurd hc vom⟩,o7⟩
  |slice l c ha=>
   obtain⟨b,s',rfl,hj⟩:=lH ha;have d:∀(j:Nat) u,cur[j]?=some u→∃u',w.cell? ⟨b,0+s'+j,none⟩=some u'∧VR E u u':=fun j u hu=>h.cell (hj j) (by rw[WN,Xf _ _ _ _ _ _ h4];exact hu);refine⟨⟨_,cap,rfl,fun c hc=>⟨b,0+s',rfl,?_⟩⟩,fun a l c e hp=>?_⟩
   ·have e:cur[c]?=some (.int .i64 (f c)):=by
     have h9:(ints (n*s) f).toList[c]?=some (.int .i64 (f c)):=by rw[Wo,aB _ hc]
     rw[←h8,Za hc,Wo]at h9;exact h9
    obtain⟨u',k1,k2⟩:=d c _ e;cases k2;exact k1
   ·cases e
    have h0:0<cur.size:=by
     rw[h7];exact Nat.mul_pos hp hs
    obtain⟨u',k1,_⟩:=d 0 _ (Wl h0);obtain⟨y,T,fr,k,_⟩:=cN k1;exact⟨rfl,y,T,fr,k⟩
theorem xj(h:WR P E wl w){s n:Nat}{v v':R2}{f:Nat→Int}(hn:0<n*s)(hv:kZ wl v s n f)(hr:VR E v v'):kZ w v' s n f∧Rt w v':=by
 obtain⟨a,cap,rfl,hc⟩:=hv;obtain⟨g,o,rfl,h0⟩:=hc 0 hn;cases hr with
 |cx=>exact absurd hn vom
 |slice l c ha=>
  obtain⟨b,s',rfl,hj⟩:=lH ha
  have d:∀c,c<n*s→w.cell? ⟨b,o+s'+c,none⟩=some (.int .i64 (f c)):=fun c hc'=>by
   obtain⟨g',o',e,h1⟩:=hc c hc';cases e;obtain⟨v,k1,k2⟩:=h.cell (hj c) h1;cases k2;exact k1
  exact⟨⟨_,_,rfl,fun c hc'=>⟨b,o+s',rfl,d c hc'⟩⟩,tC (d 0 hn) _⟩
theorem FZ(h:Cp P E wl w){TJ:Wj}(hJ:P.info? TJ=none){v:R2}{s n:Nat}{f:Nat→Int}(hs:0<s)(hv:kZ w v s n f)(hr:Rt w v):∃E' wl' u,Cp P E' wl' w∧dR E E' wl wl'∧VR E' u v∧qs wl' u s n f:=by
 obtain⟨a,cap,rfl,hc⟩:=hv;cases a with
 |none=>
  refine⟨E,wl,_,h,dR.refl _ _,.bW n cap,none,cap,rfl,fun c hc'=>?_⟩;obtain⟨b,o,e,_⟩:=hc c hc';cases e
 |some ad=>
  by_cases hz:n=0∧cap=0
  ·obtain⟨rfl,rfl⟩:=hz
   exact⟨E,wl,_,h,dR.refl _ _,.cx ad ad,some ad,0,rfl,fun c hc'=>absurd hc' vom⟩
  ·have g:ad.spot=none∧∃y T fr,w.heap[ad.block]?=some (.cells y T fr):=by
    by_cases h0:0<n
    ·obtain⟨b,o,e,k⟩:=hc 0 (Nat.mul_pos h0 hs)
     cases e;obtain⟨y,T,fr,k1,_⟩:=cN k;exact⟨rfl,y,T,fr,k1⟩
    ·exact hr ad n cap rfl vom
   obtain⟨b,o,sp⟩:=ad;obtain⟨d,y,T,fr,hq⟩:=g;dsimp only at d hq;subst d
   obtain⟨E',c1,c2,c3,c4⟩:=h.row hJ (s:=o) hq (ints (n*s) f) (fun i u hu=>by
    have hi:i<n*s:=by have:=(Wd.1 hu).1;rwa [ag]at this
    rw[aB _ hi]at hu;cases hu;obtain⟨b',o',e,k⟩:=hc i hi;cases e;refine⟨.int .i64 (f i),?_,.int _ _⟩;rw[Xf _ _ _ _ _ _ hq]at k;rw[Nat.add_comm];exact k)
   refine⟨E',_,.slice (some ⟨wl.heap.size,0,none⟩) n cap,c1,c2,.slice n cap ?_,some ⟨wl.heap.size,0,none⟩,cap,rfl,fun c hc'=>⟨wl.heap.size,rfl,c4 c _ (aB _ hc')⟩⟩;have:=c3 0;rw[WN]at this;exact this
theorem tO{R:Nat→R2}{F:Nat→V8→R2→Prop}{m:Nat}(keep:∀i {E E':Env} {wl wl':V8} {v:R2},dR E E' wl wl'→F i wl v→F i wl' v)(one:∀i,i<m→∀{E:Env} {wl:V8},Cp P E wl w→∃E' wl' u,Cp P E' wl' w∧dR E E' wl wl'∧VR E' u (R i)∧F i wl' u):
  ∀(n:Nat),n≤m→∀{E:Env} {wl:V8},Cp P E wl w→∃(E':Env) (wl':V8) (Ul:Nat→R2),Cp P E' wl' w∧dR E E' wl wl'∧∀r,r<n→VR E' (Ul r) (R r)∧F r wl' (Ul r)
 |0,_,E,wl,h=>⟨E,wl,R,h,dR.refl _ _,fun r hr=>absurd hr (Xy _)⟩
 |n+1,hm,E,wl,h=>by
  obtain⟨E1,wl1,Ul,h1,h2,h3⟩:=tO keep one n vom h;obtain⟨E2,wl2,u,g1,g2,g3,g4⟩:=one n vom h1;refine⟨E2,wl2,fun r=>if r=n then u else Ul r,g1,h2.trans g2,fun r hr=>?_⟩;by_cases e:r=n
  ·subst e
   simp only[YI];exact⟨g3,g4⟩
  ·simp only[V9 e]
   obtain⟨a,b⟩:=h3 r vom;exact⟨a.mono g2.le,keep r g2 b⟩
end
def Ol(W:V8)(us ug:R2)(h:Hl)(N:Nat):Prop:=((aq W us h.n fun i=>((dx h.n N i:Nat):Int))∧Rt W us)∧kZ W ug 28 (h.lg N).length (gl (h.gs N) (h.lg N))∧Rt W ug
def MY(W:V8)(v:R2)(L:List Nat)(h:Hl):Prop:=∃(a:Option Addr) (cap:Nat),v=.slice a L.length cap∧(a=none→cap=0)∧Rt W v∧∀(j:Nat) N,L[j]?=some N→∃b o us ug,a=some ⟨b,o,none⟩∧W.cell? ⟨b,o+2*j,none⟩=some us∧W.cell? ⟨b,o+(2*j+1),none⟩=some ug∧Ol W us ug h N
section
variable{P:Program}{E:Env}{wl w:V8}
theorem JV(h:WR P E wl w){us ug us' ug':R2}{hl:Hl}{N:Nat}(hm:hl.n≤maxLen)(k:kE wl us ug hl N)(hs:VR E us us')(hg:VR E ug ug'):Ol w us' ug' hl N:=by
 obtain⟨⟨B1,k1⟩,B2,k2⟩:=k;have r1:=uQ h (s:=1) vde (by rw[Nat.mul_one];exact k1) hs;have r2:=uQ h (s:=28) vde (show wl.ownsRow _ 48 28 _ _ _ from k2) hg;exact⟨⟨nT hm r1.1,r1.2⟩,r2⟩
theorem GU(h:WR P E wl w){us ug us' ug':R2}{hl:Hl}{N:Nat}(hm:hl.n≤maxLen)(h0:0<hl.n)(hp:hl.p N=true)(k:rB wl us ug hl N)(hs:VR E us us')(hg:VR E ug ug'):Ol w us' ug' hl N:=by
 have b:0<(hl.lg N).length:=of_decide_eq_true hp;obtain⟨a,cap,e,_,hc⟩:=k.1;have r1:=xj h (s:=1) vom (v:=us) ⟨a,cap,e,fun c hc'=>hc c vom⟩ hs;have r2:=xj h (s:=28) vom k.2.ints hg;exact⟨⟨nT hm r1.1,r1.2⟩,r2⟩
theorem sY(h:WR P E wl w){B:Nat}{v v':R2}{L:List Nat}{hl:Hl}{Q:R2→R2→Nat→Prop}(hq:∀us ug us' ug' N,L.contains N=true→Q us ug N→VR E us us'→VR E ug ug'→Ol w us' ug' hl N)(hv:∃vs:List R2,wl.ownsRow B 46 2 v L.length vs∧∀(k N:Nat),L[k]?=some N→∃us ug,vs[2*k]?=some us∧vs[2*k+1]?=some ug∧Q us ug N)(hr:VR E v v'):MY w v' L hl:=by
 obtain⟨vs,⟨h1,h2⟩,h3⟩:=hv;rcases h2 with⟨rfl,h4⟩|⟨g,cap,cur,rfl,_,h4,h5,h6,h7,h8⟩
 ·obtain rfl:=Xv h4
  cases hr with
  |bW l c=>exact⟨none,0,rfl,fun _=>rfl,o7,fun j N hj=>by simp at hj⟩
 ·generalize hn:L.length=n at hr
  cases hr with
  |cx a b=>
   obtain rfl:=Xv hn;exact⟨some b,0,rfl,fun e=>(by cases e),o7,fun j N hj=>by simp at hj⟩
  |slice l c ha=>
   obtain⟨b,s,rfl,hj⟩:=lH ha;subst hn;have d:∀(j:Nat) u,cur[j]?=some u→∃u',w.cell? ⟨b,0+s+j,none⟩=some u'∧VR E u u':=fun j u hu=>h.cell (hj j) (by rw[WN,Xf _ _ _ _ _ _ h4];exact hu)
   have hvc:∀(j:Nat) x,vs[j]?=some x→cur[j]?=some x:=fun j x e=>by
    have f:=(WW.1 e).1;rw[←h8,Za vom,Wo]at e;exact e
   refine⟨_,cap,rfl,fun e=>(by cases e),fun a l c e hp=>?_,fun j N hN=>?_⟩
   ·cases e
    obtain⟨u',k1,_⟩:=d 0 _ (Wl vom);obtain⟨y,T,fr,k,_⟩:=cN k1;exact⟨rfl,y,T,fr,k⟩
   ·obtain⟨us,ug,e1,e2,e3⟩:=h3 j N hN
    obtain⟨us',k1,k2⟩:=d _ _ (hvc _ _ e1);obtain⟨ug',k3,k4⟩:=d _ _ (hvc _ _ e2);exact⟨b,0+s,us',ug',rfl,k1,k3,hq us ug us' ug' N (by simpa using List.mem_of_getElem? hN) e3 k2 k4⟩
theorem Eh(h:WR P E wl w){B:Nat}{v v':R2}{L:List Nat}{hl:Hl}(hm:hl.n≤maxLen)(hv:xd wl B v L hl)(hr:VR E v v'):MY w v' L hl:=
 sY h (Q:=fun us ug N=>kE wl us ug hl N) (fun _ _ _ _ _ _ k a b=>JV h hm k a b) hv hr
theorem BJ(h:WR P E wl w){B:Nat}{v v':R2}{L:List Nat}{hl:Hl}(hm:hl.n≤maxLen)(h0:0<hl.n)(hp:∀N,N∈L→hl.p N=true)(hv:Um wl B v L hl)(hr:VR E v v'):MY w v' L hl:=
 sY h (Q:=fun us ug N=>rB wl us ug hl N) (fun _ _ _ _ N hN k a b=>GU h hm h0 (hp N (by simpa using hN)) k a b) hv hr
omit [aT] in
theorem Iw{E E':Env}{wl wl':V8}(h:dR E E' wl wl'){us ug:R2}{hl:Hl}{N:Nat}(k:rB wl us ug hl N):rB wl' us ug hl N:=by
 refine⟨bK h k.1,?_⟩;obtain⟨a,cap,h1,h2⟩:=k.2;refine⟨a,cap,h1,fun j hj=>?_⟩;obtain⟨b,e,k⟩:=h2 j hj;exact⟨b,e,fun i u hu=>h.cell (k i u hu)⟩
omit [aT] in
theorem uC{E E':Env}{wl wl':V8}(h:dR E E' wl wl'){v:R2}{L:List Nat}{hl:Hl}(hv:M1 wl v L hl):M1 wl' v L hl:=by
 rcases hv with hv|⟨b,o,c,vs,h1,h2,h3,h4,h5⟩
 ·exact .inl hv
 ·refine .inr ⟨b,o,c,vs,h1,h2,fun j u hj=>h.cell (h3 j u hj),h4,fun k N e=>?_⟩
  obtain⟨us,ug,a1,a2,a3⟩:=h5 k N e;exact⟨us,ug,a1,a2,Iw h a3⟩
theorem By(h:Cp P E wl w){TJ:Wj}(hJ:P.info? TJ=none){v:R2}{L:List Nat}{hl:Hl}(hv:MY w v L hl):∃E' wl' u,Cp P E' wl' w∧dR E E' wl wl'∧VR E' u v∧M1 wl' u L hl:=by
 obtain⟨a,cap,rfl,t,hr,hc⟩:=hv;have c:∀j,j<L.length→L[j]?=some (L.getD j 0):=fun j hj=>by rw[Wu hj];simp[List.getD,List.getElem?_eq_getElem hj]
 cases a with
 |none=>
  obtain rfl:=t rfl;cases L with
  |nil=>exact⟨E,wl,_,h,dR.refl _ _,.bW 0 0,.inl ⟨rfl,rfl⟩⟩
  |cons N l=>
   obtain⟨b,o,us,ug,e,_⟩:=hc 0 N rfl;cases e
 |some ad=>
  by_cases hz:L.length=0∧cap=0
  ·obtain⟨hz,rfl⟩:=hz
   obtain rfl:=Xv hz;exact⟨E,wl,.slice (some ⟨0,0,none⟩) 0 0,h,dR.refl _ _,.cx _ _,.inr ⟨0,0,0,[],rfl,rfl,fun j u hj=>by simp at hj,fun u hu=>by simp at hu,fun k N e=>by simp at e⟩⟩
  ·have f:ad.spot=none∧∃y T fr,w.heap[ad.block]?=some (.cells y T fr):=by
    by_cases h0:0<L.length
    ·obtain⟨b,o,us,ug,e,k,_⟩:=hc 0 _ (c 0 h0)
     cases e;obtain⟨y,T,fr,k1,_⟩:=cN k;exact⟨rfl,y,T,fr,k1⟩
    ·exact hr ad _ cap rfl vom
   obtain⟨b,o,sp⟩:=ad;obtain⟨d,y,T,fr,hq⟩:=f;dsimp only at d hq;subst d
   have hR:∀i,i<L.length*2→w.cell? ⟨b,o+i,none⟩=some ((w.cell? ⟨b,o+i,none⟩).getD (.bool false))∧(if i % 2=0 then(aq w ((w.cell? ⟨b,o+i,none⟩).getD (.bool false)) hl.n fun j=>((dx hl.n (L.getD (i / 2) 0) j:Nat):Int))else kZ w ((w.cell? ⟨b,o+i,none⟩).getD (.bool false)) 28 (hl.lg (L.getD (i / 2) 0)).length (gl (hl.gs (L.getD (i / 2) 0)) (hl.lg (L.getD (i / 2) 0))))∧Rt w ((w.cell? ⟨b,o+i,none⟩).getD (.bool false)):=fun i hi=>by
    obtain⟨b',o',us,ug,e,k1,k2,k3⟩:=hc (i / 2) _ (c (i / 2) vom);cases e;by_cases h2:i % 2=0
    ·rw[show 2*(i / 2)=i by omega]at k1
     rw[k1,Wc h2];exact⟨rfl,k3.1.1,k3.1.2⟩
    ·rw[show 2*(i / 2)+1=i by omega]at k2
     rw[k2,V9 h2];exact⟨rfl,k3.2.1,k3.2.2⟩
   obtain⟨E1,wl1,Ul,h1,h2,h3⟩:=tO (P:=P) (w:=w) (R:=fun i=>(w.cell? ⟨b,o+i,none⟩).getD (.bool false)) (F:=fun i wl v=>if i % 2=0 then(aq wl v hl.n fun j=>((dx hl.n (L.getD (i / 2) 0) j:Nat):Int))else qs wl v 28 (hl.lg (L.getD (i / 2) 0)).length (gl (hl.gs (L.getD (i / 2) 0)) (hl.lg (L.getD (i / 2) 0)))) (m:=L.length*2) (fun i E E' wl wl' v hle hf=>by
     by_cases h2:i % 2=0
     ·rw[Wc h2]at hf⊢
      exact bK hle hf
     ·rw[V9 h2]at hf⊢
      exact nE hle hf) (fun i hi E wl hcp=>by
     obtain⟨k1,k2,k3⟩:=hR i hi;by_cases h2:i % 2=0
     ·simp only[Wc h2]at k2⊢
      exact tK hcp hJ k2 k3
     ·simp only[V9 h2]at k2⊢
      exact FZ hcp hJ vde k2 k3) (L.length*2) (R3 _) h
   have hg:∀j,j<L.length*2→(Array.ofFn fun i:Fin (L.length*2)=>Ul i)[j]?=some (Ul j):=fun j hj=>by rw[Wl (by simpa using hj),Array.getElem_ofFn]
   obtain⟨E',c1,c2,c3,c4⟩:=h1.row hJ (s:=o) hq (Array.ofFn fun i:Fin (L.length*2)=>Ul i) (fun i u hu=>by
    have hi:i<L.length*2:=by have:=(Wd.1 hu).1;simpa using this
    rw[hg i hi]at hu;cases hu;have k:=(hR i hi).1;rw[Xf _ _ _ _ _ _ hq]at k;refine⟨_,?_,(h3 i hi).1⟩;rw[Xf _ _ _ _ _ _ hq,Nat.add_comm i o];exact k)
   refine⟨E',_,.slice (some ⟨wl1.heap.size,0,none⟩) L.length cap,c1,h2.trans c2,.slice _ _ ?_,.inr ⟨wl1.heap.size,0,cap,(Array.ofFn fun i:Fin (L.length*2)=>Ul i).toList,rfl,vsi,fun j u hj=>?_,fun u hu=>?_,fun k N hN=>?_⟩⟩
   ·have:=c3 0
    rw[WN]at this;exact this
   ·rw[WN]
    rw[Wo]at hj;exact c4 j u hj
   ·obtain⟨j,hj,rfl⟩:=YB.1 hu
    have g:j<L.length*2:=by simpa using hj
    have e:(Array.ofFn fun i:Fin (L.length*2)=>Ul i).toList[j]=Ul j:=vsi;rw[e];have k:=(h3 j g).2;by_cases h2:j % 2=0
    ·rw[Wc h2]at k
     obtain⟨x,y',hx,_⟩:=k;rw[hx]
     rfl
    ·rw[V9 h2]at k
     obtain⟨x,y',hx,_⟩:=k;rw[hx]
     rfl
   ·have q:k<L.length:=(WW.1 hN).1
    rw[c k q]at hN;cases hN;have k1:=(h3 (2*k) vom).2;have k2:=(h3 (2*k+1) vom).2;rw[Wc vom,show 2*k / 2=k by omega]at k1;rw[V9 vom,show(2*k+1) / 2=k by omega]at k2;exact⟨Ul (2*k),Ul (2*k+1),by rw[Wo];exact hg _ vom,by rw[Wo];exact hg _ vom,bK c2 k1,(nE c2 k2).gs⟩
def SP(W:V8)(q s:Nat)(L:Nat→List (Nat×Nat)):Prop:=∃(y:Array R2) (T:Wj) (fr:Nat×Nat),W.heap[q]?=some (.cells y T fr)∧∀c,c<26→∃v,y[c+s]?=some v∧kZ W v 2 (L c).length (M5 (L c))∧Rt W v
theorem Jd(h:WR P E wl w){G:Nat}{vals:Nat→R2}{L:Nat→List (Nat×Nat)}{v':R2}(hv:wZ wl G vals L)(hr:VR E (.pointer (some ⟨G,0,none⟩)) v'):∃q s,v'=.pointer (some ⟨q,s,none⟩)∧SP w q s L:=by
 cases hr with
 |ptr ha=>
  obtain⟨b,s,rfl,hj⟩:=lH ha;refine⟨b,0+s,rfl,?_⟩;have a:∀c,c<26→∃u',w.cell? ⟨b,0+s+c,none⟩=some u'∧VR E (vals c) u':=fun c hc=>h.cell (hj c) (by rw[Nat.zero_add];exact hv.row.cell (aM vals hc));obtain⟨u0,k0,_⟩:=a 0 vde;obtain⟨y,T,fr,hq,_⟩:=cN k0;dsimp only at hq;refine⟨y,T,fr,hq,fun c hc=>?_⟩;obtain⟨u,k1,k2⟩:=a c hc;rw[cell_of_row _ _ _ _ _ _ hq]at k1;obtain⟨r1,r2⟩:=uQ h (s:=2) vde (by rw[←My];exact hv.own c hc) k2;exact⟨u,by rw[Nat.add_comm c];exact k1,r1,r2⟩
theorem Oo(h:Cp P E wl w){TJ:Wj}(hJ:P.info? TJ=none){q s:Nat}{L:Nat→List (Nat×Nat)}(hv:SP w q s L):∃E' wl' d,Cp P E' wl' w∧dR E E' wl wl'∧VR E' (.pointer (some ⟨d,0,none⟩)) (.pointer (some ⟨q,s,none⟩))∧vt wl' d L:=by
 obtain⟨y,T,fr,hq,hc⟩:=hv
 have hR:∀c,c<26→y[c+s]?=some ((y[c+s]?).getD (.bool false))∧kZ w ((y[c+s]?).getD (.bool false)) 2 (L c).length (M5 (L c))∧Rt w ((y[c+s]?).getD (.bool false)):=fun c hc'=>by
  obtain⟨v,e,k⟩:=hc c hc';rw[e];exact⟨rfl,k⟩
 obtain⟨E1,wl1,Ul,h1,h2,h3⟩:=tO (P:=P) (w:=w) (R:=fun c=>(y[c+s]?).getD (.bool false)) (F:=fun c wl v=>qs wl v 2 (L c).length (M5 (L c))) (m:=26) (fun i E E' wl wl' v hle hf=>nE hle hf) (fun c hc' E wl hcp=>FZ hcp hJ vde (hR c hc').2.1 (hR c hc').2.2) 26 (R3 _) h
 obtain⟨E',c1,c2,c3,c4⟩:=h1.row hJ (s:=s) hq (bJ 26 Ul) (fun i u hu=>by
  have hi:i<26:=by have:=(Wd.1 hu).1;rwa [aU]at this
  rw[aM _ hi]at hu;cases hu;exact⟨_,(hR i hi).1,(h3 i hi).1⟩)
 refine⟨E',_,wl1.heap.size,c1,h2.trans c2,.ptr ?_,Ul,fun c hc'=>c4 c _ (aM _ hc'),fun c hc'=>(nE c2 (h3 c hc').2).links⟩;have:=c3 0;rw[WN]at this;exact this
end
end
end Go.Proofs.YtpcnpkhgjanamaaGreatDoor
