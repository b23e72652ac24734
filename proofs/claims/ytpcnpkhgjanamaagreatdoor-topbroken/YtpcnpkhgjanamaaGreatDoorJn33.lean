import Derived.Test.YtpcnpkhgjanamaaGreatDoorPz
import Derived.Test.YtpcnpkhgjanamaaGreatDoorJn32
namespace Go.Proofs.YtpcnpkhgjanamaaGreatDoor
open Go.Proofs.Tryz renaming prog→qf,underlying35→WH,underlying50→YK
open Go renaming Value→R2,World→V8,Calls→WA,execOp→Yn
open Go.RowKit renaming Below→Wh
open Go.RowKit.Below renaming refl→Wm
open Go.World.ownsRow renaming lt→WC,alloc→Xp
set_option maxRecDepth 100000
set_option maxHeartbeats 8000000
section
open Go.RowKit PK Vg
def uL(n m:Nat)(f g:Nat→Int):Bool:=decide (n=m)&&(List.range n).all fun i=>decide (f i=g i)
theorem gB{n m:Nat}{f g:Nat→Int}:uL n m f g=true↔n=m∧∀i,i<n→f i=g i:=by
 unfold uL;simp[List.all_eq_true]
theorem Nk(u v:R2)(n k:Nat)(f g:Nat→Int)(w:V8)(hu:aq w u n f)(hv:aq w v k g):
  WA qf 69 #[u,v] w fun e w'=>e=.returned (.bool (uL n k f g))∧Wh w.heap.size w w':=by
 obtain⟨a,ca,rfl,A,q⟩:=hu;obtain⟨b,cb,rfl,_,s⟩:=hv;have HA:Hid (∀c,c<n→∃b o,a=some ⟨b,o,none⟩∧w.cell? ⟨b,o+c,none⟩=some (.int .i64 (f c))):=q;have HB:Hid (∀c,c<k→∃b' o,b=some ⟨b',o,none⟩∧w.cell? ⟨b',o+c,none⟩=some (.int .i64 (g c))):=s;unfold maxLen at A;clear q s;by_cases hnk:n=k
 case neg=>
  have h1:(((n:Nat):Int) != ((k:Nat):Int))=true:=vso
  have HF:Hid (uL n k f g=false):=by
   cases hq:uL n k f g
   ·rfl
   ·exact absurd (gB.1 hq).1 hnk
  clear hnk HA HB;go_enter Tryz.func69,Tryz.ntmps69;go_wp2;go_ret;exact⟨by rw[HF.out];rfl,Wm _ _⟩
 subst hnk;have h1:(((n:Nat):Int) != ((n:Nat):Int))=false:=vsi;go_enter Tryz.func69,Tryz.ntmps69
 go_wp2_with fail
 go_loopw [13] (fun i W=>∃m:Nat,m≤n∧i=.int .i64 m∧Wh w.heap.size w W∧∀j,j<m→f j=g j) (fun i _=>((n:Int)-intOf i).toNat)
 case atStart=>exact⟨0,vom,rfl,Wm _ _,fun j hj=>by omega⟩
 case round=>
  obtain⟨m,hm,rfl,hb,hj⟩:=hrel;by_cases hlt:m<n
  ·obtain⟨b1,o1,e1,h⟩:=HA.out m hlt
   obtain⟨b2,o2,e2,d⟩:=HB.out m hlt;subst e1 e2;have c1:=(hb.cell (p:=⟨b1,o1+m,none⟩) (aA h)).trans h;have c2:=(hb.cell (p:=⟨b2,o2+m,none⟩) (aA d)).trans d;have HJ:Hid _:=hj;have l:Hid (m<n):=hlt;have D:(m:Int)<(n:Int):=vom;have HX:Hid (∀x y,x=f m→y=g m→(x=y↔f m=g m)):=fun x y h1 h2=>by rw[h1,h2]
   obtain⟨x,hx⟩:∃x,x=f m:=⟨_,rfl⟩
   obtain⟨y,hy⟩:∃y,y=g m:=⟨_,rfl⟩
   have t:Hid (x=y↔f m=g m):=HX.out x y hx hy;rw[←hx]at c1;rw[←hy]at c2;clear h d hj hx hy HX hlt;by_cases hxy:x=y
   ·have B:(x != y)=false:=by simp[hxy]
    have z:Hid (∀j,j<m+1→f j=g j):=fun j hj=>by
     by_cases e:j=m
     ·rw[e];exact t.out.1 hxy
     ·exact HJ.out j vom
    clear hxy
    go_wp2_with fail
    go_quiet (fail)
    go_wp2;go_roundw
    case rel=>exact⟨m+1,l.out,by go_num,⟨hb.os,hb.tape,hb.output,hb.size,hb.block⟩,z.out⟩
    case measure=>have:=l.out;simp[intOf];omega
   ·have B:(x != y)=true:=by simp[hxy]
    have HF:Hid (uL n n f g=false):=by
     cases hq:uL n n f g
     ·rfl
     ·exact absurd (t.out.2 ((gB.1 hq).2 m l.out)) hxy
    clear hxy
    go_wp2_with fail
    go_quiet (fail)
    go_wp2;go_ret;exact⟨by rw[HF.out];rfl,⟨hb.os,hb.tape,hb.output,hb.size,hb.block⟩⟩
  ·have E:¬(m:Int)<(n:Int):=vom
   have HT:Hid (uL n n f g=true):=gB.2 ⟨rfl,fun i hi=>hj i vom⟩;have C:Hid _:=hb;clear hj hb hlt;go_wp2;go_ret;exact⟨by rw[HT.out];rfl,C.out⟩
theorem kg:(qf.info? 50).map (·.size)=some 3:=vkr
theorem Dm:(qf.info? 50).map (·.zero)=some (some (.agg (bJ 3 fun _=>.slice none 0 0))):=vkr
theorem AH{P:Program}(t e e':TypeId)(n:Nat)(hu:P.underlying t=some (.array n e))(he:P.underlying e=some (.slice e'))(hs:(P.info? e).map (·.size)=some 1)(f:Nat→R2)(k:Nat)(hk:k<n)(w:V8):
  (Instr.index t (.agg (bJ n f)) (.int .i64 (k:Int))).run P w=.ok (f k) w:=by
 cases hq:P.info? e with
 |none=>simp[hq]at hs
 |some i=>
  have h1:i.size=1:=by simpa[hq]using hs
  have h2:((k:Int)<(n:Int)):=vom;simp[Instr.index,asIntOf,Sem.run_bind,run_underlying hu,part,isAgg,run_underlying he,sizeOf,typeInfo,hq,h1,hk,aM f hk]
def rz(W:V8)(U:Nat→R2)(n:Nat→Nat)(f:Nat→Nat→Int):Prop:=∀i,i<3→aq W (U i) (n i) (f i)
theorem rz.below{w w':V8}{U:Nat→R2}{n:Nat→Nat}{f:Nat→Nat→Int}(h:rz w U n f)(hb:Wh w.heap.size w w'):rz w' U n f:=fun i hi=>(h i hi).below hb
def ru(n m:Nat→Nat)(f g:Nat→Nat→Int):Nat→Bool
 |0=>true
 |k+1=>ru n m f g k&&uL (n k) (m k) (f k) (g k)
theorem Cq{n m:Nat→Nat}{f g:Nat→Nat→Int}{k:Nat}(h:ru n m f g k=false):∀j,k≤j→ru n m f g j=false:=fun j hj=>by
 induction hj with
 |refl=>exact h
 |step _ ih=>show(ru n m f g _&&_)=false;rw[ih];rfl
theorem A8{U:Nat→R2}(h:∀i,i<3→(U i).oneCell'=true):(bJ 3 U).all (·.oneCell')=true:=by
 rw[WJ];intro v hv;simp[bJ]at hv;obtain⟨i,hi,rfl⟩:=hv;exact h i hi
theorem ES{W:V8}{U:Nat→R2}{n:Nat→Nat}{f:Nat→Nat→Int}(h:rz W U n f){i:Nat}(hi:i<3):∃a c,U i=.slice a (n i) c:=by
 obtain⟨a,c,e,_⟩:=h i hi;exact⟨a,c,e⟩
structure BM(w W:V8)(U V:Nat→R2):Prop where
 one:af W w.heap.size 50 (bJ 3 U)
 two:af W (w.heap.size+1) 50 (bJ 3 V)
 below:Wh w.heap.size w W
theorem BM.new(w:V8)(U V:Nat→R2):BM w ((w.alloc (.cells (bJ 3 U) 50)).alloc (.cells (bJ 3 V) 50)) U V:=by
 refine⟨(af.new w _ _).alloc _,?_,((Wm _ w).alloc (R3 _) _).alloc vsi _⟩;have h:=af.new (w.alloc (.cells (bJ 3 U) 50)) 50 (bJ 3 V);rw[WI]at h;exact h
theorem BM.step{w W W':V8}{U V:Nat→R2}(h:BM w W U V)(hb:Wh W.heap.size W W'):BM w W' U V:=⟨h.one.below hb h.one.lt,h.two.below hb h.two.lt,h.below.trans (hb.mono h.below.size)⟩
theorem ON(U V:Nat→R2)(n m:Nat→Nat)(f g:Nat→Nat→Int)(w:V8)(hu:rz w U n f)(hv:rz w V m g):WA qf 35 #[.agg (bJ 3 U),.agg (bJ 3 V)] w fun e w'=>e=.returned (.bool (ru n m f g 3))∧Wh w.heap.size w w':=by
 have h0:=BM.new w U V;have HU:Hid (rz w U n f):=hu;have HV:Hid (rz w V m g):=hv;clear hu hv;go_enter Tryz.func35,Tryz.ntmps35
 go_upto_region 1 with fail
 generalize (w.alloc (.cells (bJ 3 U) 50)).alloc (.cells (bJ 3 V) 50)=W0 at *
 go_wp2_with (first|refine Wn rfl 50 _ rfl w.heap.size rfl 50 (bJ 3 U) (0,0) _ h0.one YK rfl (by rw[aU];exact kg) ?_)
 go_loopw [8] (fun x W=>∃k:Nat,k≤3∧x=.int .i64 (k:Nat)∧BM w W U V∧Hid (ru n m f g k=true)) (fun x _=>((3:Int)-intOf x).toNat)
 case atStart=>exact⟨0,vom,rfl,h0,rfl⟩
 case round=>
  clear h0;obtain⟨k,hk,rfl,hg,HT⟩:=hrel;by_cases hlt:k<3
  ·have l:Hid (k<3):=hlt
   have o:(k:Int)<3:=vom;obtain⟨a1,c1,e1⟩:=ES HU.out hlt;obtain⟨a2,c2,e2⟩:=ES HV.out hlt;have i:=AH 50 31 3 3 YK Tryz.underlying31 BE U k hlt;rw[e1]at i;have c:=hg.two.cell (aM V hlt);rw[e2]at c
   have d:Hid (WA qf 69 #[.slice a1 (n k) c1,.slice a2 (m k) c2] wr fun e w'=>e=.returned (.bool (uL (n k) (m k) (f k) (g k)))∧Wh wr.heap.size wr w'):=by
    have:=Nk (U k) (V k) (n k) (m k) (f k) (g k) wr ((HU.out k hlt).below hg.below) ((HV.out k hlt).below hg.below);rw[e1,e2]at this;exact this
   have a:Hid (ru n m f g (k+1)=uL (n k) (m k) (f k) (g k)):=by
    show(ru n m f g k&&uL (n k) (m k) (f k) (g k))=_;rw[HT.out,Bool.true_and]
   have b:Hid (uL (n k) (m k) (f k) (g k)=false→ru n m f g 3=false):=fun h=>Cq (k:=k+1) (by rw[a.out];exact h) 3 hlt;have HG:Hid (BM w wr U V):=hg;generalize uL (n k) (m k) (f k) (g k)=y at *;clear hg hlt HT e1 e2
   go_wp2_with fail
   refine We d.out ?_;rintro e Y ⟨rfl,hb⟩;have j:Hid _:=HG.out.step hb;clear hb d HG i c;cases y
   ·have HF:Hid (ru n m f g 3=false):=b.out (by first|rfl|trivial)
    clear b a;go_wp2;go_ret;exact⟨by rw[HF.out];rfl,j.out.below⟩
   ·clear b
    go_wp2;go_roundw
    case rel=>exact⟨k+1,l.out,by go_num,j.out,a.out⟩
    case measure=>have:=l.out;simp[intOf];omega
  ·obtain rfl:k=3:=vom
   have HB:Hid _:=hg.below;clear hg hlt HU HV;go_wp2;go_ret;exact⟨by rw[HT.out];rfl,HB.out⟩
def NX(g:Gm)(m:Nat→Nat)(fb:Nat→Nat→Int):Bool:=ru (fun i=>(typeOf (qz (bZ g) i)).length) m (fun i j=>(((typeOf (qz (bZ g) i)).getD j 0:Nat):Int)) fb 3
theorem Fz(V:Nat→R2):gP 3 V=bJ 3 V:=cy fun _ hi=>Wc hi
structure PS(w W:V8)(a b c:R2)(rf pl:Nat→Int)(V:Nat→R2)(q:Nat)(bT:Nat)(U:Nat→R2):Prop where
 mg:cU w W a b c rf pl
 told:af W q 50 (bJ 3 V)
 tys:W.rangeAt bT 0 (bJ 3 U).toList
theorem PS.drew{w W:V8}{a b c:R2}{rf pl:Nat→Int}{V:Nat→R2}{q bT:Nat}{U:Nat→R2}(h:PS w W a b c rf pl V q bT U):PS w W.drew a b c rf pl V q bT U:=⟨⟨h.mg.row,h.mg.below.drew⟩,h.told,h.tys⟩
theorem GJ(a b c:R2)(g:Gm)(hgE:gE g=0)(bT:Nat)(U:Nat→R2)(m:Nat→Nat)(fb:Nat→Nat→Int)(w:V8)(hm:cL w (.agg (aP a b c g.rf g.pl)) g)(hbT:w.rangeAt bT 0 (bJ 3 U).toList)(hU:rz w U m fb):WA qf 34 #[.agg (aP a b c g.rf g.pl),.pointer (some ⟨bT,0,none⟩)] w fun e w'=>e=.returned (.tuple #[c,.bool (NX g m fb)])∧Wh w.heap.size w w':=by
 have F:bT<w.heap.size:=aA (hbT 0 (U 0) (by
  have ex:(bJ 3 U).toList[0]?=(bJ 3 U)[0]?:=Wo;rw[ex,aM _ vde]))
 have t:Hid (∀W,Wh w.heap.size w W→WA qf 10 #[.agg (aP a b c g.rf g.pl)] W fun e w'=>∃V,e=.returned (.tuple #[.agg (bJ 3 V),.int .i64 0])∧rY w' V 3 (qz (bZ g))∧Wh W.heap.size W w'):=fun W hb=>by
  refine(xW _ g W (hm.below hb)).mono ?_;rintro e w' (⟨h,_⟩|⟨_,V,h1,h2,h3⟩)
  ·exact absurd hgE h
  ·exact⟨V,by rw[h1,Fz],h2,h3⟩
 have h0:=cU.new w a b c g.rf g.pl;obtain⟨a',b',c',e0,_,_,I⟩:=hm
 obtain rfl:c=c':=by
  have h1:=XI (fun v=>match v with|.agg x=>x[2]?| _=>none) e0;simp only[gM]at h1;exact XG h1
 obtain⟨ac,cc,rfl,_,_⟩:=I;have N:=bR Dm;have HU:Hid (rz w U m fb):=hU;have C:Hid (w.rangeAt bT 0 (bJ 3 U).toList):=hbT;obtain⟨A0,k⟩:∃A0,A0=aP a b (.slice ac g.sl cc) g.rf g.pl:=⟨_,rfl⟩
 have E:A0.size=55:=by rw[k,aD]
 have B:=h0.row;rw[←k]at B t⊢;have b9:Hid _:=k;clear hbT hU e0 k;go_enter Tryz.func34,Tryz.ntmps34
 go_upto_region 1 with fail
 have s:cU w (w.alloc (.cells A0 35)) a b (.slice ac g.sl cc) g.rf g.pl:=by rw[b9.out];exact h0
 have l:af (w.alloc (.cells A0 35)) w.heap.size 35 A0:=af.new w _ _;clear h0 B;generalize w.alloc (.cells A0 35)=W0 at *
 go_wp2_with (first|refine Wn rfl 35 _ rfl w.heap.size rfl 35 A0 (0,0) _ l WH rfl (by rw[E];exact aE) ?_)
 refine(t.out _ s.below).mono ?_;rintro e W1 ⟨V,rfl,hV,hb⟩;have h1:=s.step hb
 have G:Hid (∀i,i<3→(V i).oneCell'=true):=fun i hi=>by
  obtain⟨x,y,e,_⟩:=hV i hi;rw[e];rfl
 have f:=A8 G.out;clear hb s l t
 go_upto_region 2 with(first|refine Wk rfl 50 _ _ rfl W1.heap.size (bJ 3 V) rfl rfl 50 _ (af.new W1 _ _) (by rw[aU];exact kg) (by simp only[aU]) f ?_)
 have n:=Below.setRow ((Wm W1.heap.size W1).alloc (R3 _) (.cells (bJ 3 fun _=>.slice none 0 0) 50)) W1.heap.size (R3 _) (bJ 3 V);have h2:=h1.step n;have A:=(af.new W1 50 (bJ 3 fun _=>.slice none 0 0)).row (bJ 3 V);have H:rz ((W1.alloc (.cells (bJ 3 fun _=>.slice none 0 0) 50)).setRow W1.heap.size (bJ 3 V)) V (fun i=>(typeOf (qz (bZ g) i)).length) (fun i j=>(((typeOf (qz (bZ g) i)).getD j 0:Nat):Int)):=fun i hi=>(hV i hi).below n;generalize (W1.alloc (.cells (bJ 3 fun _=>.slice none 0 0) 50)).setRow W1.heap.size (bJ 3 V)=W2 at *;generalize W1.heap.size=q at *;have D:PS w W2 a b (.slice ac g.sl cc) g.rf g.pl V q bT U:=⟨h2,A,Below.rangeAt h2.below C.out F⟩
 have z:Hid (∀W,Wh W2.heap.size W2 W→WA qf 35 #[.agg (bJ 3 V),.agg (bJ 3 U)] W fun e w'=>e=.returned (.bool (NX g m fb))∧Wh W.heap.size W w'):=fun W hb=>ON V U _ m _ fb W (H.below hb) (HU.out.below (h2.below.trans (hb.mono h2.below.size)));have T:Hid (∀W,PS w W a b (.slice ac g.sl cc) g.rf g.pl V q bT U→W.cell? ⟨w.heap.size,2,none⟩=some (.slice ac g.sl cc)):=fun W h=>h.mg.row.cell (gM _ _ _ _ _)
 have J:Hid (∀W,PS w W a b (.slice ac g.sl cc) g.rf g.pl V q bT U→(Instr.loadAt 50 (.pointer (some ⟨q,0,none⟩))).run qf W=.ok (.agg (bJ 3 V)) W):=fun W h=>by
  have u:=run_loadAt_mid (P:=qf) W q 0 50 (bJ 3 V).toList _ h.told.range YK rfl (by rw[Wx,aU];exact kg);rw[Array.toArray_toList]at u;exact u
 have O:Hid (∀W,PS w W a b (.slice ac g.sl cc) g.rf g.pl V q bT U→(Instr.loadAt 50 (.pointer (some ⟨bT,0,none⟩))).run qf W=.ok (.agg (bJ 3 U)) W):=fun W h=>by
  have u:=run_loadAt_mid (P:=qf) W bT 0 50 (bJ 3 U).toList _ h.tys YK rfl (by rw[Wx,aU];exact kg);rw[Array.toArray_toList]at u;exact u
 have M:Hid (Wh W2.heap.size W2 W2.drew):=(Wm _ _).drew;have e3:Hid (Wh w.heap.size w W2):=h2.below;have L:Hid (bT<W2.heap.size):=WE F h2.below.size;obtain⟨yy,o⟩:∃yy,yy=NX g m fb:=⟨_,rfl⟩
 rw[←o]at z;have Q:Hid _:=o;clear o;generalize bJ 3 V=TV at *;generalize bJ 3 U=TU at *;clear h1 h2 A H hV G f n N HU C;refine Xb ?_;refine Wz (S:=fun W=>PS w W a b (.slice ac g.sl cc) g.rf g.pl V q bT U∧Wh W2.heap.size W2 W) vkr ⟨D.drew,M.out⟩ (fun hS=>?_);obtain⟨Z,hZ⟩:∃x,x=W2.drew:=⟨_,rfl⟩
 rw[←hZ]at hS⊢;clear hZ D;refine vuq 0 12 (.pointer (some ⟨w.heap.size,2,none⟩)) ?_;refine vuk 1 13 (.slice ac g.sl cc) rfl (fun W hW=>by have u:=T.out W hW.1;clear hS hW;go_simp) hS ?_;refine vuk 2 14 (.agg TV) rfl (fun W hW=>by have u:=J.out W hW.1;clear hS hW;simp[Yn,Act.eval,u]) hS ?_;refine vuk 3 15 (.agg TU) rfl (fun W hW=>by have u:=O.out W hW.1;clear hS hW;simp[Yn,Act.eval,u]) hS ?_;refine rd1 4 rfl (fun K hK=>?_);go_simp;refine We (z.out _ hS.2) ?_;rintro e Y ⟨rfl,d⟩;refine hK.out _ _ ⟨⟨hS.1.mg.step d,hS.1.told.below d hS.1.told.lt,Below.rangeAt d hS.1.tys (WE L.out hS.2.size)⟩,hS.2.trans (d.mono hS.2.size)⟩ (fun hS1=>?_);clear hK hS K d;have hS:=hS1;clear hS1;refine vuq 5 3 (.slice ac g.sl cc) ?_;refine vuq 6 4 (.bool yy) ?_;refine Xq vkr ?_ _;refine WU ?_;have HF:Hid (Wh w.heap.size w Y):=hS.1.mg.below;clear hS;go_wp2
 go_ret2
 exact⟨by rw[←Q.out];rfl,HF.out⟩
def ie(g:Gm)(N:Nat):Gm:={ g with sl:=g.n,st:=fun i=>((dx g.n N i:Nat):Int) }
theorem C6{g:Gm}(h:gE g=0)(N:Nat):gE (ie g N)=0:=by
 have a:ins g.n (fun i=>((dx g.n N i:Nat):Int))=true:=(nt _ _).2 fun i _=>by have:=RJ g.n N i;omega
 unfold gE at h⊢;show(if g.n<1∨4<g.n then 5 else if jR (ie g N) g.n≠0 then jR (ie g N) g.n else if g.rl≠g.n then 8 else if ins g.rl g.ri=false then 3 else if g.n≠g.n then 8 else if ins g.n (fun i=>((dx g.n N i:Nat):Int))=false then 3 else if Pm.wrong g.rf≠0 then Pm.wrong g.rf else if jA true g.rf=false then 1 else if Pm.wrong g.pl≠0 then Pm.wrong g.pl else if jA false g.pl=false then 1 else 0)=(0:Int)
 have hw:∀k,jR (ie g N) k=jR g k:=fun k=>by
  induction k with
  |zero=>rfl
  |succ k ih=>
   show(if jR (ie g N) k≠0 then jR (ie g N) k else if Pm.wrong (g.wi k)≠0 then Pm.wrong (g.wi k)else if ins (g.nl k) (g.no k)=true then 0 else 3)=_;rw[ih]
   rfl
 rw[hw,a,V9 (c:=g.n≠g.n) (fun e=>e rfl),V9 (c:=true=false) vde];by_cases h1:g.n<1∨4<g.n
 ·rw[Wc h1]at h;cases h
 rw[V9 h1]at h⊢;by_cases h2:jR g g.n≠0
 ·rw[Wc h2]at h;exact absurd h h2
 rw[V9 h2]at h⊢;by_cases h3:g.rl≠g.n
 ·rw[Wc h3]at h;cases h
 rw[V9 h3]at h⊢;by_cases h4:ins g.rl g.ri=false
 ·rw[Wc h4]at h;cases h
 rw[V9 h4]at h⊢;by_cases h5:g.sl≠g.n
 ·rw[Wc h5]at h;cases h
 rw[V9 h5]at h;by_cases h6:ins g.sl g.st=false
 ·rw[Wc h6]at h;cases h
 rw[V9 h6]at h;exact h
def nL(g:Gm)(m:Nat→Nat)(fb:Nat→Nat→Int)(N:Nat):Bool:=NX (ie g N) m fb
def cj(g:Gm)(m:Nat→Nat)(fb:Nat→Nat→Int)(k j:Nat):List Nat:=((List.range j).map fun i=>k*26 ^ (g.n-1)+i).filter (nL g m fb)
theorem sJ(g:Gm)(m:Nat→Nat)(fb:Nat→Nat→Int)(k j:Nat):cj g m fb k (j+1)=cj g m fb k j++if nL g m fb (k*26 ^ (g.n-1)+j)=true then[k*26 ^ (g.n-1)+j]else[]:=by
 unfold cj;rw[ZI,List.map_append,Yu]
 have key:∀X,List.filter (nL g m fb) [X]=if nL g m fb X=true then[X]else[]:=fun X=>by
  cases h:nL g m fb X<;>simp[List.filter,h]
 rw[Y9,List.map_nil,key]
theorem vH(g:Gm)(m:Nat→Nat)(fb:Nat→Nat→Int)(k j:Nat):(cj g m fb k j).length≤j:=by
 unfold cj;refine Ws (ZP _ _) ?_;simp
def eK(W:V8)(B:Nat)(v:R2)(L:List Nat)(m:Nat):Prop:=∃vs:List R2,W.ownsRow B 31 1 v L.length vs∧∀(k:Nat) (u:R2) (N:Nat),vs[k]?=some u→L[k]?=some N→∃g,u=.slice (some ⟨g,0,none⟩) m m∧af W g 3 (ints m fun i=>((dx m N i:Nat):Int))
theorem eK.nil(W:V8)(B m:Nat):eK W B (.slice none 0 0) [] m:=⟨[],World.ownsRow_nil W B _ 1,fun k u N h=>by simp at h⟩
theorem kr{w w':V8}{B:Nat}{T:TypeId}{s n:Nat}{v:R2}{l:List R2}(h:w.ownsRow B T s v n l)(hb:Wh w.heap.size w w'):w'.ownsRow B T s v n l:=by
 obtain⟨h1,h2⟩:=h;refine⟨h1,?_⟩;rcases h2 with h2|⟨g,cap,cur,e,hB,hg,h3⟩
 ·exact .inl h2
 ·exact .inr ⟨g,cap,cur,e,hB,(hb.block g (Wd.1 hg).1).trans hg,h3⟩
theorem eK.below{W W':V8}{B:Nat}{v:R2}{L:List Nat}{m:Nat}(h:eK W B v L m)(hb:Wh W.heap.size W W'):eK W' B v L m:=by
 obtain⟨vs,h1,h2⟩:=h;refine⟨vs,kr h1 hb,fun k u N a b=>?_⟩;obtain⟨g,e,hr⟩:=h2 k u N a b;exact⟨g,e,hr.below hb hr.lt⟩
theorem eK.drew{W:V8}{B:Nat}{v:R2}{L:List Nat}{m:Nat}(h:eK W B v L m):eK W.drew B v L m:=h
theorem sZ{W W':V8}{B n g:Nat}{v:R2}{vs:List R2}{c:Array R2}(hr:af W g 3 c)(ho:W.ownsRow B 31 1 v n vs)(hg:W.grownBy W' v.ownBlock):af W' g 3 c:=by
 refine(hg.block g hr.lt fun e=>?_).trans hr;rcases ho.2 with⟨rfl,_⟩|⟨p,cap,cur,rfl,_,hp,_⟩
 ·cases e
 ·have e':some g=some p:=e
  cases e';have:some (Obj.cells c 3 (0,0))=some (Obj.cells cur 31 (0,0)):=hr.symm.trans hp;injection this with this;injection this with _ this;exact absurd this vde
theorem rU:(qf.info? 31).map (fun i=>(i.zero,i.size,i.bytes))=some (some (.slice none 0 0),1,24):=vkr
theorem K5(vm:R2)(g0:Gm)(hgE:gE g0=0)(hn1:1≤g0.n)(hn3:g0.n≤3)(hfit:∀r,r<g0.n→g0.nl r*8≤140737488355328)(hrl:g0.rl*8≤140737488355328)(k:Nat)(hk:k<26)(bT:Nat)(U:Nat→R2)(m:Nat→Nat)(fb:Nat→Nat→Int)(w:V8)(hm:cL w vm g0)(hbT:w.rangeAt bT 0 (bJ 3 U).toList)(hU:rz w U m fb):
  WA qf 68 #[vm,.int .i64 (k:Nat),.func (.func 34) #[] #[.pointer (some ⟨bT,0,none⟩)]] w fun e w'=>∃v,e=.returned v∧eK w' w.heap.size v (cj g0 m fb k (26 ^ (g0.n-1))) g0.n∧Wh w.heap.size w w':=by
 obtain⟨i0,k8,q3,k9,q5⟩:=ei rU
 have p5:bT<w.heap.size:=aA (hbT 0 (U 0) (by
  have ex:(bJ 3 U).toList[0]?=(bJ 3 U)[0]?:=Wo;rw[ex,aM _ vde]))
 have hM:26 ^ (g0.n-1)≤676:=by
  rcases(by omega:g0.n=1∨g0.n=2∨g0.n=3)with h|h|h<;>rw[h]<;>decide
 have k6:26*26 ^ (g0.n-1)=26 ^ g0.n:=by
  rw[Nat.mul_comm,←Nat.pow_succ,Nat.succ_eq_add_one,show g0.n-1+1=g0.n by omega]
 -- windows,standing and look,one behind the other
 have p9:Hid (∀N W,N<26 ^ g0.n→WA qf 101 #[.int .i64 (g0.n:Nat),.int .i64 (N:Nat)] W fun e w'=>∃g,e=.returned (.slice (some ⟨g,0,none⟩) g0.n g0.n)∧af w' g 3 (ints g0.n fun i=>((dx g0.n N i:Nat):Int))∧W.heap.size≤g∧Wh W.heap.size W w'):=fun N W hN=>Aj g0.n N vom hN W
 have e4:Hid (∀N g W,Wh w.heap.size w W→af W g 3 (ints g0.n fun i=>((dx g0.n N i:Nat):Int))→WA qf 100 #[vm,.slice (some ⟨g,0,none⟩) g0.n g0.n] W fun e w'=>∃a b,e=.returned (.agg (aP a b (.slice (some ⟨g,0,none⟩) g0.n g0.n) g0.rf g0.pl))∧cL w' (.agg (aP a b (.slice (some ⟨g,0,none⟩) g0.n g0.n) g0.rf g0.pl)) (ie g0 N)∧Wh W.heap.size W w'):=fun N g W hb hr=>by
  refine(vD vm g0 hn1 vom hfit hrl _ g0.n _ W (hm.below hb) (aq.JC hr (by unfold maxLen;omega))).mono ?_;rintro e w' ⟨v',rfl,h1,⟨a,b,rfl⟩,h2⟩;exact⟨a,b,rfl,h1,h2⟩
 have o6:Hid (∀N a b c W,Wh w.heap.size w W→cL W (.agg (aP a b c g0.rf g0.pl)) (ie g0 N)→WA qf 34 #[.agg (aP a b c g0.rf g0.pl),.pointer (some ⟨bT,0,none⟩)] W fun e w'=>e=.returned (.tuple #[c,.bool (nL g0 m fb N)])∧Wh W.heap.size W w'):=fun N a b c W hb hW=>GJ a b c (ie g0 N) (C6 hgE N) bT U m fb W hW (Below.rangeAt hb hbT p5) (hU.below hb);obtain⟨a,b,c,rfl,p7,_,_⟩:=hm;have h0:=cU.new w a b c g0.rf g0.pl;obtain⟨aw,cw,R,rfl,_,_,_⟩:=p7;have c0:=h0.row.cell (dV _ _ _ _ _);obtain⟨A0,G⟩:∃A0,A0=aP (.slice aw g0.n cw) b c g0.rf g0.pl:=⟨_,rfl⟩
 rw[←G]at e4 h0 c0⊢;have q2:Hid (A0=aP (.slice aw g0.n cw) b c g0.rf g0.pl):=G;have j3:A0.size=55:=by rw[G,aD]
 clear hbT hU hfit hrl G;go_enter Tryz.func68,Tryz.ntmps68
 go_upto_region 1 with fail
 have l:af (w.alloc (.cells A0 35)) w.heap.size 35 A0:=af.new w _ _;have f:=(Wm w.heap.size w).alloc (R3 _) (.cells A0 35);have c0':=l.cell (i:=0) (v:=.slice aw g0.n cw) (by rw[q2.out];exact dV _ _ _ _ _);generalize w.alloc (.cells A0 35)=W0 at *;clear h0 c0
 go_wp2_with fail
 clear c0';go_loopw [8,18] (fun y x W=>∃j D:Nat,j≤g0.n-1∧D≤676∧x=.int .i64 (j:Nat)∧y=.int .i64 (D:Nat)∧Hid (D=26 ^ j)∧af W w.heap.size 35 A0∧Wh w.heap.size w W) (fun _ x _=>((g0.n:Int)-intOf x).toNat)
 case atStart=>exact⟨0,1,vom,vom,rfl,rfl,rfl,l,f⟩
 case round=>
  clear l f;obtain⟨j,D,hj,hD,rfl,rfl,HD,l,f⟩:=hrel;by_cases hlt:j<g0.n-1
  ·have q:Hid (j<g0.n-1):=hlt
   have k5:(j:Int)<(g0.n:Int)-1:=vom;have j0:Hid (D*26=26 ^ (j+1)):=by rw[Hid,HD.out,Nat.pow_succ]
   have e7:D*26≤676:=by
    rw[j0.out];exact Ws (Nat.pow_le_pow_right vde hlt) hM
   have HR:Hid _:=l;have HB:Hid _:=f;clear hlt HD l f;go_wp2;go_roundw
   case rel=>exact⟨j+1,D*26,q.out,e7,by go_num,by go_num,j0.out,HR.out,HB.out⟩
   case measure=>have:=q.out;simp[intOf];omega
  ·obtain rfl:j=g0.n-1:=vom
   have e6:¬((g0.n-1:Nat):Int)<(g0.n:Int)-1:=vom;have Y:Hid (26 ^ (g0.n-1)=D):=HD.out.symm;have L:26*D=26 ^ g0.n:=by rw[←k6,Y.out]
   have q8:Hid _:=L;have l5:Hid (∀i,cj g0 m fb k (i+1)=cj g0 m fb k i++if nL g0 m fb (k*D+i)=true then[k*D+i]else[]):=fun i=>by rw[sJ,Y.out]
   have e9:((g0.n-1:Nat):Int)=(g0.n:Int)-1:=vom;clear hlt HD k6 L hM;rw[e9];have k7:¬(g0.n:Int)-1<(g0.n:Int)-1:=vom;clear e6 e9
   go_wp2_with fail
   go_loopw [9,24] (fun o x W=>∃(i:Nat) (u:R2),i≤D∧x=.int .i64 (i:Nat)∧u=o∧eK W (w.heap.size+1) u (cj g0 m fb k i) g0.n∧af W w.heap.size 35 A0∧Wh w.heap.size w W) (fun _ x _=>((D:Int)-intOf x).toNat)
   case atStart=>exact⟨0,_,vom,rfl,rfl,eK.nil _ _ _,l,f⟩
   case round=>
    clear l f k7;obtain⟨i,u,hi,rfl,rfl,I,l,f⟩:=hrel;by_cases hlt:i<D
    case neg=>
     obtain rfl:i=D:=vom;have e6:¬((i:Nat):Int)<((i:Nat):Int):=vom
     have F:Hid (eK wr w.heap.size u (cj g0 m fb k (26 ^ (g0.n-1))) g0.n):=by
      rw[Hid,Y.out];obtain⟨vs,h1,h2⟩:=I;exact⟨vs,⟨h1.1,h1.2.imp id fun⟨g,cap,cur,a,b,c⟩=>⟨g,cap,cur,a,vom,c⟩⟩,h2⟩
     have q7:Hid _:=f;clear I l f hlt;go_wp2;go_ret;exact⟨u,by first|rfl|trivial,F.out,q7.out⟩
    have q:Hid (i<D):=hlt;have k5:(i:Int)<(D:Int):=vom
    have e8:k*D+i<26 ^ g0.n:=by
     have h1:k*D+D≤26*D:=by rw[←Y5];exact Nat.mul_le_mul_right _ hk
     have:=q8.out;omega
    have r4:k*D≤16900:=by
     have:=Nat.mul_le_mul (show k≤25 by omega) hD;omega
    have T:Hid _:=fun W=>p9.out (k*D+i) W e8;have M:Hid _:=e4.out (k*D+i);have O:Hid _:=o6.out (k*D+i);have B:Hid _:=l5.out i;have q9:=vH g0 m fb k i;have l9:((k:Int)*(D:Int))=((k*D:Nat):Int):=by push_cast;rfl
    obtain⟨NN,Q⟩:∃NN,NN=k*D+i:=⟨_,rfl⟩
    rw[←Q]at T M O B;have q4:((k*D:Nat):Int)+(i:Int)=(NN:Int):=by rw[Q];push_cast;rfl
    have r5:NN≤20000:=vom;clear hlt e8 Q;generalize k*D=KD at *;generalize nL g0 m fb NN=y at *;have F:Hid (eK wr (w.heap.size+1) u (cj g0 m fb k i) g0.n):=I;clear I
    go_upto_region 10 with fail
    refine Xb ?_;refine Wz (S:=fun W=>af W w.heap.size 35 A0∧Wh w.heap.size w W) vkr ⟨l,f.drew⟩ (fun hS=>?_);have V:Hid (eK wr.drew (w.heap.size+1) u (cj g0 m fb k i) g0.n):=F.out.drew;obtain⟨Z,hZ⟩:∃x,x=wr.drew:=⟨_,rfl⟩
    rw[←hZ]at hS V⊢;clear hZ l f F;refine vuq 0 28 (.func (.func 34) #[] #[.pointer (some ⟨bT,0,none⟩)]) ?_;refine vuk 1 29 (.agg A0) rfl (fun W hW=>by have u1:=run_loadVar_row (P:=qf) W w.heap.size 35 35 A0 (0,0) _ hW.1 WH rfl (by rw[j3];exact aE);clear hS hW;simp[Yn,Act.eval,Instr.loadAt,Instr.sureAddr,u1]) hS ?_;refine vuq 2 30 (.int .i64 (g0.n:Nat)) ?_;refine vuq 3 31 (.int .i64 (k:Nat)) ?_;refine vuq 4 32 (.int .i64 (D:Nat)) ?_;refine vuk 5 33 (.int .i64 (KD:Nat)) rfl (fun W hW=>by have u1:IntKind.i64.wrap ((KD:Nat):Int)=(KD:Int):=(by rw[IntKind.wrap_i64];omega);clear hS hW;simp[Yn,Act.eval,go_sem,l9,u1]) hS ?_;refine vuq 6 34 (.int .i64 (i:Nat)) ?_;refine vuk 7 35 (.int .i64 (NN:Nat)) rfl (fun W hW=>by have u1:IntKind.i64.wrap ((NN:Nat):Int)=(NN:Int):=(by rw[IntKind.wrap_i64];omega);clear hS hW;simp[Yn,Act.eval,go_sem,q4,u1]) hS ?_;refine rd1 8 rfl (fun K hK=>?_);go_simp;refine We (T.out _) ?_;rintro e Y1 ⟨gw,rfl,J,_,d⟩;refine hK.out _ _ ⟨hS.1.below d hS.1.lt,hS.2.trans (d.mono hS.2.size)⟩ (fun hS1=>?_);have k3:Hid (eK Y1 (w.heap.size+1) u (cj g0 m fb k i) g0.n):=eK.below V.out d;clear hK hS K d V;have hS:=hS1;clear hS1;refine rd1 9 rfl (fun K hK=>?_);go_simp;refine We (M.out gw _ hS.2 J) ?_;rintro e Y2 ⟨ma,mb,rfl,C,d⟩;refine hK.out _ _ ⟨hS.1.below d hS.1.lt,hS.2.trans (d.mono hS.2.size)⟩ (fun hS1=>?_);have e5:Hid (eK Y2 (w.heap.size+1) u (cj g0 m fb k i) g0.n):=eK.below k3.out d;have A:=J.below d J.lt;have b9:Hid _:=O.out ma mb (.slice (some ⟨gw,0,none⟩) g0.n g0.n);obtain⟨A1,k4⟩:∃A1,A1=aP ma mb (.slice (some ⟨gw,0,none⟩) g0.n g0.n) g0.rf g0.pl:=⟨_,rfl⟩
    rw[←k4]at C b9⊢;clear hK hS K d k3 J k4;have hS:=hS1;clear hS1;refine rd1 10 rfl (fun K hK=>?_);go_simp;refine We (b9.out _ hS.2 C) ?_;rintro e Y3 ⟨rfl,d⟩;refine hK.out _ _ ⟨hS.1.below d hS.1.lt,hS.2.trans (d.mono hS.2.size)⟩ (fun hS1=>?_);have e3:Hid (eK Y3 (w.heap.size+1) u (cj g0 m fb k i) g0.n):=eK.below e5.out d;have t:=A.below d A.lt;clear hK hS K d e5 A C b9;have hS:=hS1;clear hS1;refine vuq 11 27 (.tuple #[.slice (some ⟨gw,0,none⟩) g0.n g0.n,.bool y]) ?_;refine vuq 12 39 (.slice (some ⟨gw,0,none⟩) g0.n g0.n) ?_;refine vuq 13 40 (.bool y) ?_;refine vuq 14 11 (.slice (some ⟨gw,0,none⟩) g0.n g0.n) ?_;refine vuq 15 12 (.bool y) ?_;refine Xq vkr ?_ _;refine WU ?_;have HR:Hid _:=hS.1;have HB:Hid _:=hS.2;clear hS T M O;cases y
    ·have s:Hid (cj g0 m fb k (i+1)=cj g0 m fb k i):=by
      have:=B.out;simp at this;exact this
     clear B t;go_wp2;go_roundw
     case rel=>exact⟨i+1,u,q.out,by go_num,by first|rfl|trivial,by rw[s.out];exact e3.out,HR.out,HB.out⟩
     case measure=>have:=q.out;simp[intOf];omega
    ·have s:Hid (cj g0 m fb k (i+1)=cj g0 m fb k i++[NN]):=by
      have:=B.out;simp at this;exact this
     obtain⟨vs,E,hvs⟩:=e3.out;have r3:=af.lt HR.out;have q6:Hid _:=hvs;have n4:Hid (af Y3 gw 3 (ints g0.n fun i=>((dx g0.n NN i:Nat):Int))):=t;clear B t hvs e3
     go_wp2_with (first|(at_builtin;refine wpList_append_own _ rfl _ _ 29 rfl (w.heap.size+1) 31 i0 (.slice none 0 0) 1 24 Tryz.underlying29 k8 q3 k9 q5 rfl vde _ _ _ rfl (Xp E _) ⟨Y3.heap.size,0,none⟩ 1 1 [.slice (some ⟨gw,0,none⟩) g0.n g0.n] rfl rfl (cell_one_new _ _ _) (fun u hu=>by simp at hu;subst hu;rfl) (by unfold maxLen;omega) vom vso ?_;intro v' w1 hown' hgrow _))
     go_roundw
     case rel=>
      have H:=Xp E (.cells #[.slice (some ⟨gw,0,none⟩) g0.n g0.n] 31);refine⟨i+1,v',q.out,by go_num,by first|rfl|trivial,⟨vs++[.slice (some ⟨gw,0,none⟩) g0.n g0.n],?_,fun kk uu N h1 h2=>?_⟩,?_,?_⟩
      ·rw[s.out,WM]
       exact hown'
      ·rw[s.out]at h2
       have hvl:vs.length=(cj g0 m fb k i).length:=by have:=E.1;simpa using this
       by_cases hkk:kk<vs.length
       ·rw[WS hkk]at h1
        rw[WS vom]at h2;obtain⟨g,e,hr⟩:=q6.out kk uu N h1 h2;exact⟨g,e,sZ (hr.alloc _) H hgrow⟩
       ·rw[WQ vom]at h1
        rw[WQ vom,←hvl]at h2;cases hz:kk-vs.length with
        |zero=>
         rw[hz]at h1 h2;simp at h1 h2;subst h1 h2;exact⟨gw,rfl,sZ (n4.out.alloc _) H hgrow⟩
        |succ z=>rw[hz]at h1;simp at h1
      ·refine(hgrow.block w.heap.size vso fun e=>?_).trans (af.alloc HR.out _)
       have:=(WC H _ e.symm).1;omega
      ·exact(HB.out.alloc HB.out.size _).grown hgrow vso (fun p hp=>by have:=(WC H p hp).1;omega)
     case measure=>have:=q.out;simp[intOf];omega
end
end Go.Proofs.YtpcnpkhgjanamaaGreatDoor
