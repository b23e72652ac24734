import Derived.Test.YtpcnpkhgjanamaaGreatDoorPz
import Derived.Test.YtpcnpkhgjanamaaGreatDoorJn16
namespace Go.Proofs.YtpcnpkhgjanamaaGreatDoor
open Go.Proofs.Tryz renaming prog→qf,underlying33→Wp,underlying35→WH,underlying154→X0
open Go renaming Value→R2,World→V8,TypeId→Wj,Calls→WA
open Go.RowKit renaming Below→Wh
set_option maxRecDepth 1000000
set_option maxHeartbeats 8000000
section
open Go.RowKit PK
section
variable{P:Program}{ops:Array Oper}{Q:Exit→Act→V8→Prop}{md:Region.Mode}{S:V8→Prop}
theorem Vt(i d:Nat){oi:Oper}{fuel:Nat}{listed:Array Bool}{tm:Array R2}{df:List Deferred}{w:V8}(hi:ops[i]?=some oi)(hd:oi.dst=some d)
  (hs:Region.noSelect ops=true) (hf:Region.free md ops listed i=true) (hr:(Region.ready md ops listed).contains i=true)
  (hQ:∀c a a' w,Q (.panic c) a' w→Q (.panic c) a w) (hw:Region.wanted oi (yielded ops tm)=false) (hS:S w)
  (h:wpAnyH P md ops Q S fuel (listed.setIfInBounds i true) ⟨tm.setIfInBounds d undef,df⟩ w):wpAnyH P md ops Q S (fuel+1) listed ⟨tm,df⟩ w:=by
 refine wpAnyH_take (i:=i) (oi:=oi) (v:=undef) hi hs hf hr (fun c a w=>hQ c a _ w) (Or.inr ⟨hw,rfl⟩) hS ?_;rw[hd];exact h
end
theorem mh{w w':V8}{B:Nat}{T:Wj}{s n:Nat}{v:R2}{l:List R2}(h:w.ownsRow B T s v n l)(hb:Wh w.heap.size w w'):w'.ownsRow B T s v n l:=by
 obtain⟨h1,h2⟩:=h;refine⟨h1,?_⟩;rcases h2 with h2|⟨g,cap,cur,e,hB,hg,h3⟩
 ·exact .inl h2
 ·exact .inr ⟨g,cap,cur,e,hB,(hb.block g (Wd.1 hg).1).trans hg,h3⟩
theorem LM{w:V8}{B:Nat}{T:Wj}{s n:Nat}{v:R2}{l:List R2}(h:w.ownsRow B T s v n l):w.drew.ownsRow B T s v n l:=h
def three(f g h:Nat→Int):Nat→Int:=fun i=>if i<26 then f i else if i<52 then g (i-26)else h (i-52)
theorem Gy{n:Nat}{f:Nat→Int}{u:R2}(h:u∈(ints n f).toList):u.oneCell'=true:=by
 have:=aI n f;rw[WJ]at this;exact this u (by simpa using h)
end
section
open Go.RowKit PK Vg
structure jZ(w W:V8)(a b c:R2)(rf pl:Nat→Int):Prop where
 mg:cU w W a b c rf pl
 res:af W (w.heap.size+1) 26 #[.int .i64 0,.int .i64 0]
theorem jZ.new(w:V8)(a b c:R2)(rf pl:Nat→Int):jZ w ((w.alloc (.cells (aP a b c rf pl) 35)).alloc (.cells #[.int .i64 0,.int .i64 0] 26)) a b c rf pl:=by
 have h:=af.new (w.alloc (.cells (aP a b c rf pl) 35)) 26 #[.int .i64 0,.int .i64 0];rw[WI]at h;exact⟨(cU.new w a b c rf pl).alloc _,h⟩
section
variable{w W W':V8}{a b c:R2}{rf pl:Nat→Int}
theorem jZ.step(h:jZ w W a b c rf pl)(hb:Wh W.heap.size W W'):jZ w W' a b c rf pl:=⟨h.mg.step hb,h.res.below hb h.res.lt⟩
theorem jZ.alloc(h:jZ w W a b c rf pl)(o:Obj):jZ w (W.alloc o) a b c rf pl:=h.step ((Below.refl _ _).alloc (R3 _) o)
theorem jZ.done(h:jZ w W a b c rf pl)(x y:R2):Wh w.heap.size w ((W.setCell ⟨w.heap.size+1,0,none⟩ x).setCell ⟨w.heap.size+1,1,none⟩ y):=(h.mg.below.setCell (p:=⟨w.heap.size+1,0,none⟩) vsi _).setCell (p:=⟨w.heap.size+1,1,none⟩) vsi _
theorem jZ.load(h:jZ w W a b c rf pl):W.heap[w.heap.size]?=some (.cells (aP a b c rf pl) 35 (0,0)):=h.mg.row
end
theorem FU(M:Om.Ma):∀(l:List UInt8) (at':Nat→Nat) (x:UInt8),Om.wr M at' (l++[x])=Om.wr M at' l++[oB (Om.now M (Om.steps M at' (l.length+1)) (Vg.num x))]
 |[],_,_=>rfl
 |a :: l,at',x=>by
  show oB _ :: Om.wr M (Om.step M at') (l++[x])=oB _ :: (Om.wr M (Om.step M at') l++_);rw[FU M l (Om.step M at') x,Om.ov]
  rfl
theorem OJ{M:Om.Ma}{t:List UInt8}{k:Nat}(hk:k<t.length)(at':Nat→Nat):Om.wr M at' (t.take (k+1))=Om.wr M at' (t.take k)++[oB (Om.now M (Om.steps M at' (k+1)) (Vg.num (t.getD k 0)))]:=by
 rw[Y6 hk,FU,List.length_take,Nat.min_eq_left vom,getD_some hk]
theorem oL{W W':V8}{v:R2}{n:Nat}{f:Nat→Int}{r:Option Nat}(h:aq W v n f)(hg:W.grownBy W' r)(hne:∀b,v.ownBlock=some b→some b≠r):aq W' v n f:=by
 obtain⟨a,cap,rfl,h2,h3⟩:=h;refine⟨a,cap,rfl,h2,fun c hc=>?_⟩;obtain⟨b,o,rfl,d⟩:=h3 c hc;exact⟨b,o,rfl,hg.cell d (hne b rfl)⟩
theorem LS{w w':V8}{B:Nat}{v:R2}{l:List UInt8}(h:Kit.Jv w B 5 v l)(hb:Wh w.heap.size w w'):Kit.Jv w' B 5 v l:=mh h hb
def Ck(g:Gm)(t:List UInt8):Int:=if gE g≠0 then gE g else gx t
def Gn(g:Gm)(t:List UInt8):Int:=if gE g≠0 then 0 else nK t
def bZ(g:Gm):Om.Ma:=⟨g.n,fun r c=>(g.wi r c).toNat,fun r=>(List.range (g.nl r)).map fun k=>(g.no r k).toNat,fun i=>(g.ri i).toNat,fun i=>(g.st i).toNat,fun c=>(g.rf c).toNat,fun c=>(g.pl c).toNat⟩
theorem kR{f:Nat→Int}(h:Pm.wrong f=0):Pm.aC (fun c=>(f c).toNat)∧∀i,i<26→f i=(((f i).toNat:Nat):Int):=by
 obtain⟨p,hp,e⟩:=(Pm.oh f).1 h;have e2:∀i,i<26→(f i).toNat=p i:=fun i hi=>by rw[e i hi];rfl
 refine⟨⟨fun i hi=>by show(f i).toNat<26;rw[e2 i hi];exact hp.lt i hi,fun i j hi hj h=>?_⟩,fun i hi=>by rw[e i hi];rfl⟩;have h':(f i).toNat=(f j).toNat:=h;rw[e2 i hi,e2 j hj]at h';exact hp.inj i j hi hj h'
theorem fq{g:Gm}(h:gE g=0):Om.Ok (bZ g)∧∀W v,cL W v g→cL W v (RG (bZ g)):=by
 obtain⟨⟨h1,h2⟩,h3,⟨h4,h5⟩,⟨h6,h7⟩,⟨h8,h9⟩,m,d⟩:=yJ h;have hw:=BC g g.n h3;rw[nt]at h5 h7;rw[uF]at h9 d;obtain⟨l,erf⟩:=kR h8;obtain⟨o,epl⟩:=kR m;have f:∀r,r<g.n→Pm.aC (fun c=>(g.wi r c).toNat)∧∀i,i<26→g.wi r i=(((g.wi r i).toNat:Nat):Int):=fun r hr=>kR (hw r hr).1;have j:∀r,r<g.n→∀k,k<g.nl r→0≤g.no r k∧g.no r k≤25:=fun r hr=>(nt _ _).1 (hw r hr).2;refine⟨⟨h1,h2,fun i hi=>(f i hi).1,fun i hi k hk=>?_,fun i hi=>?_,fun i hi=>?_,l,fun c hc=>?_,fun c hc=>?_,o,fun c hc=>?_⟩,?_⟩
 ·obtain⟨q,hq,rfl⟩:=Yh.1 hk
  have:=j i hi q (by simpa using hq);omega
 ·have:=h5 i (by rw[h4];exact hi);show(g.ri i).toNat<26;omega
 ·have:=h7 i (by rw[h6];exact hi);show(g.st i).toNat<26;omega
 ·have:=(h9 c hc).1
  show(g.rf (g.rf c).toNat).toNat=c;omega
 ·have:=(h9 c hc).2 rfl
  have e:=erf c hc;show(g.rf c).toNat≠c;omega
 ·have:=(d c hc).1
  show(g.pl (g.pl c).toNat).toNat=c;omega
 ·rintro W v ⟨a,b,c,e,k1,k2,k3⟩
  refine⟨a,b,c,by rw[e,ND erf epl];rfl,?_,?_,?_⟩
  ·obtain⟨a',cap,R,q1,q2,q3,q4⟩:=k1
   refine⟨a',cap,R,q1,q2,fun r hr=>?_,fun r hr=>?_⟩
   ·obtain⟨b',o',e1,e2⟩:=q3 r hr
    rw[NZ (f r hr).2]at e2;exact⟨b',o',e1,e2⟩
   ·have:=q4 r hr
    show aq W (R r) ((List.range (g.nl r)).map fun k=>(g.no r k).toNat).length _;rw[List.length_map,List.length_range];refine uR this fun k hk=>?_;have h0:=j r hr k hk;show g.no r k=(((List.range (g.nl r)).map fun k=>(g.no r k).toNat).getD k 0:Nat);simp[List.getD_eq_getElem?_getD,hk];omega
  ·rw[h4]at k2
   exact uR k2 fun i hi=>by
    have:=h5 i (by rw[h4];exact hi);show g.ri i=((g.ri i).toNat:Int);omega
  ·rw[h6]at k3
   exact uR k3 fun i hi=>by
    have:=h7 i (by rw[h6];exact hi);show g.st i=((g.st i).toNat:Int);omega
def Jm(g:Gm)(t:List UInt8):List UInt8:=if Ck g t≠0 then[]else Om.wr (bZ g) (bZ g).st t
theorem Kr{g:Gm}{t:List UInt8}(h:Ck g t=0):gE g=0∧gx t=0:=by
 unfold Ck at h;by_cases hg:gE g=0
 ·rw[V9 (fun e=>e hg)]at h;exact⟨hg,h⟩
 ·rw[Wc hg]at h;exact absurd h hg
structure Pc(w W:V8)(a b c:R2)(rf pl:Nat→Int)(q:Nat)(x y:R2):Prop where
 mg:cU w W a b c rf pl
 f:af W q 26 #[x,y]
 ne:w.heap.size<q
section
variable{w W W':V8}{a b c:R2}{rf pl:Nat→Int}{q:Nat}{x y:R2}
theorem Pc.new(h:cU w W a b c rf pl)(x y:R2):Pc w (W.alloc (.cells #[x,y] 26)) a b c rf pl W.heap.size x y:=⟨h.alloc _,af.new W _ _,h.lt⟩
end
def c7(c:Array R2):Nat→List R2→Array R2
 |_,[]=>c
 |o,v :: l=>c7 (c.setIfInBounds o v) (o+1) l
theorem c6{T:Wj}{g:Nat}:∀{l:List R2} {o:Nat} {w:V8} {c:Array R2},af w g T c→af (w.setCells g o l) g T (c7 c o l)
 |[],_,_,_,h=>h
 |v :: l,o,_,_,h=>c6 (l:=l) (h.set o v)
theorem kA:∀(l:List R2) (o:Nat) (c:Array R2),(c7 c o l).size=c.size
 |[],_,_=>rfl
 |v :: l,o,c=>by show(c7 (c.setIfInBounds o v) (o+1) l).size=_;rw[kA];simp
theorem dU:∀(l:List R2) (o:Nat) (c:Array R2) (i:Nat),o+l.length≤c.size→(c7 c o l)[i]?=if o≤i∧i<o+l.length then l[i-o]? else c[i]?
 |[],o,c,i,_=>by show c[i]?=_;rw[V9 (by rintro⟨h1,h2⟩;simp at h2;omega)]
 |v :: l,o,c,i,h=>by
  show(c7 (c.setIfInBounds o v) (o+1) l)[i]?=_;have h':o+1+l.length≤c.size:=by simp at h;omega
  rw[dU l (o+1) (c.setIfInBounds o v) i (by simpa using h')];by_cases e:i=o
  ·subst e
   rw[V9 vom,Wc ⟨vom,vsi⟩,Nat.sub_self];have hi:i<c.size:=by simp at h;omega
   simp[hi]
  ·by_cases e2:o+1≤i∧i<o+1+l.length
   ·rw[Wc e2,Wc ⟨vom,vso⟩]
    rw[show i-o=(i-(o+1))+1 by omega];simp
   ·rw[V9 e2,V9 vso,Wt vom]
theorem mM(a b c:R2)(rf pl zD:Nat→Int):c7 (aP a b c rf pl) 29 (ints 26 zD).toList=aP a b c rf zD:=by
 apply Xc;intro i;have hl:(ints 26 zD).toList.length=26:=by rw[Wx,ag]
 rw[dU _ _ _ _ (by rw[hl,aD];decide),hl];by_cases h:29≤i∧i<29+26
 ·rw[Wc h,Wo,aB _ vom]
  obtain⟨j,rfl⟩:∃j,i=29+j:=⟨i-29,vom⟩
  rw[qX _ _ _ _ _ vom,show 29+j-29=j by omega]
 ·rw[V9 h]
  by_cases h2:i<29
  ·have key:∀q:Nat→Int,(aP a b c rf q)[i]?=(#[a,b,c]++ints 26 rf)[i]?:=fun q=>by
    unfold aP;rw[Yq,Wc (by simp[ag];omega)]
   rw[key,key]
  ·rw[Wv (by rw[aD];omega),Wv (by rw[aD];omega)]
theorem cT{B g:Nat}(hg:B≤g):∀{l:List R2} {o:Nat} {w W:V8},Wh B w W→Wh B w (W.setCells g o l)
 |[],_,_,_,h=>h
 |v :: l,o,_,_,h=>cT hg (l:=l) (h.setCell (p:=⟨g,o,none⟩) hg v)
theorem aW{T:Wj}{g q:Nat}(hne:q≠g):∀{l:List R2} {o:Nat} {w:V8} {c:Array R2},af w q T c→af (w.setCells g o l) q T c
 |[],_,_,_,h=>h
 |v :: l,o,_,_,h=>aW hne (l:=l) (h.setOther ⟨g,o,none⟩ v hne)
theorem ij{w:V8}{g:Nat}{T:Wj}{c:Array R2}(h:af w g T c){o n:Nat}(hn:o+n≤c.size):w.there g o n:=fun j hj=>by
 refine⟨?_,h.frozen _⟩;rw[h.cell (i:=o+j) (v:=c[o+j]' vom) vsi]
 rfl
def Mz(n:Nat)(rf pl:Nat→Nat):Om.Ma:=⟨n,fun _=>pO,fun _=>[],pO,pO,rf,pl⟩
theorem Ib(n:Nat)(rf pl:Nat→Nat):qf.built 172 [(1,.int .i64 (n:Nat)),(2,.agg (ints 26 (Pm.up rf))),(3,.agg (ints 26 (Pm.up pl)))]=some (eX (Mz n rf pl) pO 0):=vkr
theorem JE(M:Om.Ma)(at':Nat→Nat):eX (Mz M.n M.rf M.pl) pO 0=eX M at' 0:=cy fun i _=>by
 unfold vc;by_cases h1:i<320
 ·rw[Wc h1,Wc h1,V9 vom,V9 vom]
 ·rw[V9 h1,V9 h1]
  rfl
theorem Nz(M:Om.Ma)(at':Nat→Nat){k:Nat}(hk:k<4):c7 (eX M at' k) (k*80) (nU (M.wi k) (Pm.inv (M.wi k)) (fun c=>(M.no k).contains c) (M.ri k) (at' k)).toList=eX M at' (k+1):=by
 have hl:(nU (M.wi k) (Pm.inv (M.wi k)) (fun c=>(M.no k).contains c) (M.ri k) (at' k)).toList.length=80:=by rw[Wx,jz]
 apply Xc;intro i;rw[dU _ _ _ _ (by rw[hl,mR];omega),hl];by_cases h:k*80≤i∧i<k*80+80
 ·rw[Wc h,Wo]
  unfold nU eX;rw[aM _ vom,aM _ vom];unfold vc;rw[Wc vom,show i / 80=k by omega,Wc vom,show i % 80=i-k*80 by omega]
 ·rw[V9 h]
  by_cases h2:i<373
  ·unfold eX
   rw[aM _ h2,aM _ h2];unfold vc;by_cases h1:i<320
   ·rw[Wc h1,Wc h1]
    by_cases h3:i / 80<k
    ·rw[Wc h3,Wc vom]
    ·rw[V9 h3,V9 vom]
   ·rw[V9 h1,V9 h1]
  ·rw[Wv (by rw[mR];omega),Wv (by rw[mR];omega)]
structure jT(w W:V8)(a b c:R2)(rf pl:Nat→Int)(q:Nat)(A:Array R2):Prop where
 mg:cU w W a b c rf pl
 pQ:af W q 172 A
 lt:w.heap.size<q
section
variable{w W W':V8}{a b c:R2}{rf pl:Nat→Int}{q:Nat}{A:Array R2}
theorem jT.step(h:jT w W a b c rf pl q A)(hb:Wh W.heap.size W W'):jT w W' a b c rf pl q A:=⟨h.mg.step hb,h.pQ.below hb h.pQ.lt,h.lt⟩
theorem jT.drew(h:jT w W a b c rf pl q A):jT w W.drew a b c rf pl q A:=⟨h.mg.drew,h.pQ,h.lt⟩
theorem jT.alloc(h:jT w W a b c rf pl q A)(o:Obj):jT w (W.alloc o) a b c rf pl q A:=⟨h.mg.alloc o,h.pQ.alloc o,h.lt⟩
theorem jT.other(h:jT w W a b c rf pl q A)(p:Nat)(hp:w.heap.size<p)(hne:q≠p)(l:Array R2):jT w (W.setRow p l) a b c rf pl q A:=⟨h.mg.setRow p hp l,h.pQ.bG _ _ hne,h.lt⟩
theorem jT.lay(h:jT w W a b c rf pl q A)(o:Nat)(l:List R2):jT w (W.setCells q o l) a b c rf pl q (c7 A o l):=⟨⟨aW (by have:=h.lt;omega) h.mg.row,cT (by have:=h.lt;omega) h.mg.below⟩,c6 h.pQ,h.lt⟩
end
theorem wP(A:Array R2)(o:Nat)(l:List R2)(h:o+l.length≤A.size):c7 (c7 A o l) o l=c7 A o l:=by
 apply Xc;intro i;rw[dU l o (c7 A o l) i (by rw[kA];exact h)];by_cases e:o≤i∧i<o+l.length
 ·rw[Wc e,dU _ _ _ _ h,Wc e]
 ·rw[V9 e]
structure td(w W:V8)(a b c:R2)(rf pl:Nat→Int)(q p7:Nat)(wh:Array R2)(o:Nat)(l:List R2)(B:Array R2):Prop where
 nw:∃A,jT w W a b c rf pl q A∧o+l.length≤A.size∧c7 A o l=B
 p:af W p7 154 wh
section
variable{w W W':V8}{a b c:R2}{rf pl:Nat→Int}{q p7 o:Nat}{wh B:Array R2}{l:List R2}
theorem td.mg(h:td w W a b c rf pl q p7 wh o l B):cU w W a b c rf pl:=by obtain⟨A,h1,_⟩:=h.nw;exact h1.mg
theorem td.step(h:td w W a b c rf pl q p7 wh o l B)(hb:Wh W.heap.size W W'):td w W' a b c rf pl q p7 wh o l B:=by
 obtain⟨A,h1,h2⟩:=h.nw;exact⟨⟨A,h1.step hb,h2⟩,h.p.below hb h.p.lt⟩
theorem td.there(h:td w W a b c rf pl q p7 wh o l B):W.there q o l.length:=by
 obtain⟨A,h1,h2,_⟩:=h.nw;exact ij h1.pQ h2
theorem td.lay(h:td w W a b c rf pl q p7 wh o l B)(hne:p7≠q):jT w (W.setCells q o l) a b c rf pl q B∧td w (W.setCells q o l) a b c rf pl q p7 wh o l B:=by
 obtain⟨A,h1,h2,h3⟩:=h.nw;have:=h1.lay o l;rw[h3]at this;exact⟨this,⟨B,this,by rw[←h3,kA];exact h2,by rw[←h3];exact wP A o l h2⟩,aW hne h.p⟩
end
theorem Pn(a b c:R2)(rf pl:Nat→Int)(E:Int)(hE:(E != 0)=true)(w:V8)(HW:∀W,Wh w.heap.size w W→WA qf 51 #[.agg (aP a b c rf pl)] W fun e w'=>e=.returned (.int .i64 E)∧Wh W.heap.size W w'):WA qf 60 #[.agg (aP a b c rf pl)] w fun e w'=>e=.returned (.tuple #[.pointer none,.int .i64 E])∧Wh w.heap.size w w':=by
 have h0:=cU.new w a b c rf pl;have H:Hid _:=HW;clear HW;go_enter Tryz.func60,Tryz.ntmps60
 go_wp2_with (first|refine Wn rfl 35 _ rfl w.heap.size rfl 35 (aP a b c rf pl) (0,0) _ h0.row WH rfl (by rw[aD];exact aE) ?_)
 refine(H.out _ h0.below).mono ?_;rintro e V ⟨rfl,hb⟩;have h1:=h0.step hb;have d:=h1.below;clear hb h0 h1;go_wp2
 go_ret2
 exact⟨rfl,d⟩
theorem Sr(M:Om.Ma)(hM:Om.Ok M)(vm:R2)(w:V8)(hm:cL w vm (RG M))(HW:∀W,Wh w.heap.size w W→WA qf 51 #[vm] W fun e w'=>e=.returned (.int .i64 0)∧Wh W.heap.size W w'):WA qf 60 #[vm] w fun e w'=>∃q,e=.returned (.tuple #[.pointer (some ⟨q,0,none⟩),.int .i64 0])∧w.heap.size≤q∧bP w' q M M.st∧Wh w.heap.size w w':=by
 obtain⟨a,b,c,rfl,hw,e5,k5⟩:=hm;have p5:M.n≤4:=hM.most;have h:Hid _:=hM;clear hM;obtain⟨ad,cap,R,rfl,b9,hr,hn⟩:=hw;obtain⟨ar,cr,rfl,g,J⟩:=e5;obtain⟨az,cz,rfl,e7,C⟩:=k5;have k7:Hid (∀r,r<M.n→∃b o,ad=some ⟨b,o,none⟩∧w.rangeAt b (o+r*27) (b6 (Pm.up (M.wi r)) (R r)).toList):=hr;have l5:Hid (∀r,r<M.n→aq w (R r) (M.no r).length fun k=>((M.no r).getD k 0:Nat)):=hn;have k8:Hid (∀i,i<M.n→∃b o,ar=some ⟨b,o,none⟩∧w.cell? ⟨b,o+i,none⟩=some (.int .i64 (M.ri i:Nat))):=J;have Z:Hid (∀i,i<M.n→∃b o,az=some ⟨b,o,none⟩∧w.cell? ⟨b,o+i,none⟩=some (.int .i64 (M.st i:Nat))):=C;have en:(RG M).n=M.n:=rfl;have er:(RG M).rl=M.n:=rfl;have es:(RG M).sl=M.n:=rfl;have ef:(RG M).rf=Pm.up M.rf:=rfl;have ep:(RG M).pl=Pm.up M.pl:=rfl;rw[en,er,es,ef,ep]at *;clear hr hn J C b9 g e7;have h0:=cU.new w (.slice ad M.n cap) (.slice ar M.n cr) (.slice az M.n cz) (Pm.up M.rf) (Pm.up M.pl);have H:Hid _:=HW;clear HW;go_enter Tryz.func60,Tryz.ntmps60
 go_wp2_with (first|refine Wn rfl 35 _ rfl w.heap.size rfl 35 (aP (.slice ad M.n cap) (.slice ar M.n cr) (.slice az M.n cz) (Pm.up M.rf) (Pm.up M.pl)) (0,0) _ h0.row WH rfl (by rw[aD];exact aE) ?_)
 refine(H.out _ h0.below).mono ?_;rintro e V ⟨rfl,hb⟩;have h1:=h0.step hb;clear hb h0;have A:=h1.c0;have g:=Lj h1.row;have N:=K3 h1.row
 go_upto_region 5 with(first|refine aX rfl 33 _ rfl w.heap.size 3 rfl (ints 26 (Pm.up M.rf)) _ g Wp rfl (by rw[ag];exact aj) ?_|refine aX rfl 33 _ rfl w.heap.size 29 rfl (ints 26 (Pm.up M.pl)) _ N Wp rfl (by rw[ag];exact aj) ?_|refine fe rfl 172 [(1,.tmp 15),(2,.tmp 17),(3,.tmp 19)] rfl [(1,.int .i64 (M.n:Nat)),(2,.agg (ints 26 (Pm.up M.rf))),(3,.agg (ints 26 (Pm.up M.pl)))] rfl _ (Ib M.n M.rf M.pl) ?_)
 have j:jT w (V.alloc (.cells (eX (Mz M.n M.rf M.pl) pO 0) 172)) (.slice ad M.n cap) (.slice ar M.n cr) (.slice az M.n cz) (Pm.up M.rf) (Pm.up M.pl) V.heap.size (eX M M.st 0):=⟨h1.alloc _,by rw[←JE M M.st];exact af.new V _ _,h1.lt⟩
 generalize V.alloc (.cells (eX (Mz M.n M.rf M.pl) pO 0) 172)=U at *;obtain⟨q,hq⟩:∃q,q=V.heap.size:=⟨_,rfl⟩
 rw[←hq]at j⊢;clear hq h1 A g N;have A:=j.mg.c0
 go_wp2_with fail
 go_loopw [25] (fun i W=>∃k:Nat,k≤M.n∧i=.int .i64 (k:Nat)∧jT w W (.slice ad M.n cap) (.slice ar M.n cr) (.slice az M.n cz) (Pm.up M.rf) (Pm.up M.pl) q (eX M M.st k)) (fun i _=>((M.n:Int)-intOf i).toNat)
 case atStart=>exact⟨0,vom,rfl,j⟩
 case round=>
  clear j A;obtain⟨k,hk,rfl,hg⟩:=hrel;by_cases hlt:k<M.n
  ·have E:Hid (k<4):=(by omega:k<4)
   have O:Hid (k<M.n):=hlt;have k6:Hid (¬4≤(k:Int)):=(by omega:¬4≤(k:Int))
   obtain⟨bw,ow,rfl,I⟩:=k7.out k hlt;obtain⟨br,or',rfl,y⟩:=k8.out k hlt;obtain⟨bz,oz,rfl,x⟩:=Z.out k hlt;have s:=b7 I hg.mg.below;have z:=l5.out k hlt;have l:Hid ((R k).oneCell'=true):=by obtain⟨a',c',e',_⟩:=z;rw[Hid,e'];rfl
   have e6:Hid (∀W,Wh w.heap.size w W→W.cell? ⟨br,or'+k,none⟩=some (.int .i64 (M.ri k:Nat))):=fun W hb=>(hb.cell (p:=⟨br,or'+k,none⟩) (aA y)).trans y;have k3:Hid (∀W,Wh w.heap.size w W→W.cell? ⟨bz,oz+k,none⟩=some (.int .i64 (M.st k:Nat))):=fun W hb=>(hb.cell (p:=⟨bz,oz+k,none⟩) (aA x)).trans x;obtain⟨AW,f⟩:∃AW,AW=(nU (M.wi k) (Pm.inv (M.wi k)) (fun c=>(M.no k).contains c) (M.ri k) (M.st k)):=⟨_,rfl⟩
   have L:AW.size=80:=by rw[f,jz]
   have m:AW.all (·.oneCell')=true:=by rw[f];exact zi _ _ _ _ _
   have D:Hid _:=L;have e9:Hid _:=m;have e8:Hid (∀W,Wh w.heap.size w W→WA qf 104 #[.agg (b6 (Pm.up (M.wi k)) (R k)),.int .i64 (M.ri k:Nat),.int .i64 (M.st k:Nat)] W fun e w'=>e=.returned (.agg AW)∧Wh W.heap.size W w'):=fun W hb=>by rw[f];exact Al (M.wi k) (h.out.wi k hlt) (R k) (M.no k) (h.out.no k hlt) (M.ri k) (M.st k) W (z.below hb)
   have t:=Nz M M.st E.out;rw[←f]at t;have F:Hid _:=t;clear t f L m;have G:=bR iL
   go_upto_region 8 with(first|refine aX rfl 154 _ rfl bw (ow+k*27) rfl (b6 (Pm.up (M.wi k)) (R k)) _ s X0 rfl (by rw[aO];exact bn) ?_|refine Wk rfl 154 _ _ rfl wr.heap.size (b6 (Pm.up (M.wi k)) (R k)) rfl rfl 154 _ (af.new wr _ _) (by rw[aO];exact bn) (by simp only[aO]) (gC l.out) ?_)
   have j0:=hg.pQ.lt;have l9:=(hg.alloc (.cells (b6 (fun _=>0) (.slice none 0 0)) 154)).other wr.heap.size hg.mg.lt vom (b6 (Pm.up (M.wi k)) (R k));have B:=(af.new wr 154 (b6 (fun _=>0) (.slice none 0 0))).row (b6 (Pm.up (M.wi k)) (R k));generalize (wr.alloc (.cells (b6 (fun _=>0) (.slice none 0 0)) 154)).setRow wr.heap.size (b6 (Pm.up (M.wi k)) (R k))=X at *;obtain⟨p7,Q⟩:∃p,p=wr.heap.size:=⟨_,rfl⟩
   have j3:Hid (p7≠q):=(by omega:p7≠q)
   rw[←Q]at B⊢;have T:td w X.drew (.slice (some ⟨bw,ow,none⟩) M.n cap) (.slice (some ⟨br,or',none⟩) M.n cr) (.slice (some ⟨bz,oz,none⟩) M.n cz) (Pm.up M.rf) (Pm.up M.pl) q p7 (b6 (Pm.up (M.wi k)) (R k)) (k*80) AW.toList (eX M M.st (k+1)):=⟨⟨_,l9.drew,by rw[Wx,D.out,mR];have:=E.out;omega,F.out⟩,B⟩
   clear Q I s z G l hg y x j0;refine Xb ?_;refine Wz (S:=fun W=>td w W (.slice (some ⟨bw,ow,none⟩) M.n cap) (.slice (some ⟨br,or',none⟩) M.n cr) (.slice (some ⟨bz,oz,none⟩) M.n cz) (Pm.up M.rf) (Pm.up M.pl) q p7 (b6 (Pm.up (M.wi k)) (R k)) (k*80) AW.toList (eX M M.st (k+1))) vkr T (fun hS=>?_);refine vuq 0 30 (.pointer (some ⟨q,0,none⟩)) ?_;refine vuq 1 31 (.int .i64 (k:Nat)) ?_;refine vuk 2 32 (.agg (b6 (Pm.up (M.wi k)) (R k))) rfl (fun W hW=>by have u:=run_loadVar_row (P:=qf) W p7 154 154 (b6 (Pm.up (M.wi k)) (R k)) (0,0) _ hW.p X0 rfl (by rw[aO];exact bn);clear hS hW;simp[execOp,Act.eval,Instr.loadAt,Instr.sureAddr,u]) hS ?_;refine vuq 3 33 (.pointer (some ⟨w.heap.size,1,none⟩)) ?_;refine vuk 4 34 (.slice (some ⟨br,or',none⟩) M.n cr) rfl (fun W hW=>by have u:=hW.mg.c1;clear hS hW;go_simp) hS ?_;refine vuq 5 35 (.int .i64 (k:Nat)) ?_;refine vuq 6 36 (.pointer (some ⟨br,or'+k,none⟩)) ?_;refine vuk 7 37 (.int .i64 (M.ri k:Nat)) rfl (fun W hW=>by have u:=e6.out W hW.mg.below;clear hS hW;go_simp) hS ?_;refine vuq 8 38 (.pointer (some ⟨w.heap.size,2,none⟩)) ?_;refine vuk 9 39 (.slice (some ⟨bz,oz,none⟩) M.n cz) rfl (fun W hW=>by have u:=hW.mg.c2;clear hS hW;go_simp) hS ?_;refine vuq 10 40 (.int .i64 (k:Nat)) ?_;refine vuq 11 41 (.pointer (some ⟨bz,oz+k,none⟩)) ?_;refine vuk 12 42 (.int .i64 (M.st k:Nat)) rfl (fun W hW=>by have u:=k3.out W hW.mg.below;clear hS hW;go_simp) hS ?_;refine vuq 14 44 (.pointer (some ⟨q,0,none⟩)) ?_;refine vuq 15 45 (.pointer (some ⟨q,0,none⟩)) ?_;refine rd1 13 rfl (fun K hK=>?_);go_simp;refine We (e8.out _ hS.mg.below) ?_;rintro e Y ⟨rfl,e3⟩;refine hK.out _ _ (hS.step e3) (fun hS1=>?_);clear hK hS K;have hS:=hS1;clear hS1;refine vuk 16 46 (.pointer (some ⟨q,k*80,none⟩)) rfl (fun W hW=>by have u:¬4≤(k:Int):=k6.out;clear hS hW;go_simp) hS ?_;refine rd1 17 rfl (fun K hK=>?_);have v:=hS.there;rw[Wx]at v;have d:=hS.lay j3.out;refine wp_store_mid 169 _ _ rfl q (k*80) AW rfl rfl v (by rw[D.out];exact jC) e9.out ?_;refine hK.out _ _ d.2 (fun hS1=>?_);have n4:=d.1;clear hK hS K v d;have hS:=hS1;clear hS1;refine Xq vkr ?_ _;refine WU ?_;clear hS
   go_wp2_with fail
   go_roundw
   case rel=>exact⟨k+1,O.out,by go_num,n4⟩
   case measure=>have:=O.out;simp[intOf];omega
  ·obtain rfl:k=M.n:=vom
   have o6:¬((M.n:Nat):Int)<((M.n:Nat):Int):=vom;have k9:=hg.pQ;have e4:=hg.lt;have k4:=hg.mg.below;clear hg;go_wp2
   go_ret2
   exact⟨q,rfl,Nat.le_of_lt e4,⟨k9,h.out,h.out.st⟩,k4⟩
theorem yP(vm:R2)(g:Gm)(w:V8)(hm:cL w vm g):WA qf 60 #[vm] w fun e w'=>(gE g≠0∧e=.returned (.tuple #[.pointer none,.int .i64 (gE g)])∧Wh w.heap.size w w')∨(gE g=0∧∃q,e=.returned (.tuple #[.pointer (some ⟨q,0,none⟩),.int .i64 0])∧w.heap.size≤q∧bP w' q (bZ g) (bZ g).st∧Wh w.heap.size w w'):=by
 have HW:=fun W (hb:Wh w.heap.size w W)=>zf vm g W (hm.below hb);by_cases hg:gE g=0
 ·obtain⟨hM,d⟩:=fq hg
  rw[hg]at HW;refine(Sr _ hM vm w (d w vm hm) HW).mono ?_;intro e w' h;exact .inr ⟨hg,h⟩
 ·obtain⟨a,b,c,rfl,_⟩:=hm
  refine(Pn a b c g.rf g.pl _ (by simpa using hg) w HW).mono ?_;rintro e w' ⟨rfl,hb⟩;exact .inl ⟨hg,rfl,hb⟩
theorem FI(w:V8)(r:Option Nat):w.grownBy w r:=⟨rfl,rfl,rfl,R3 _,fun _ _ _=>rfl⟩
theorem K6{a w w':V8}{r:Option Nat}(h:a.grownBy w r)(k:w.grownBy w' r):a.grownBy w' r:=⟨k.os.trans h.os,k.tape.trans h.tape,k.output.trans h.output,Ws h.size k.size,fun i hi hne=>(k.block i (WE hi h.size) hne).trans (h.block i hi hne)⟩
theorem vB{a w:V8}{g:Nat}(h:a.grownBy w (some g))(i:Nat)(v:R2):a.grownBy (w.setCell ⟨g,i,none⟩ v) (some g):=by
 have:=(Below.refl 0 w).setCell (p:=⟨g,i,none⟩) (XE _) v;exact K6 h ⟨this.os,this.tape,this.output,this.size,fun k _ hne=>WT w ⟨g,i,none⟩ k v (fun e=>hne (by rw[e]))⟩
theorem bP.drewN{w:V8}{b:Nat}{M:Om.Ma}{at':Nat→Nat}(h:bP w b M at')(n:Nat):bP (w.drewN n) b M at':=⟨h.row,h.ok,h.ins⟩
theorem At{a w:V8}{r:Option Nat}(h:a.grownBy w r)(n:Nat):a.grownBy (w.drewN n) r:=⟨h.os,h.tape,h.output,h.size,h.block⟩
def VU(w:V8)(b:Nat)(M:Om.Ma)(at':Nat→Nat)(a:Act)(W:V8):Prop:=
 ∃(k:Nat) (US:Int) (CB:Bool),k≤M.n∧bP W b M (Om.mid M at' k)∧w.grownBy W (some b)∧CB=Om.SI M at' k∧US=(k:Int)-1∧∃(u4 u5 u6 u7 u8 u9 u10 u11 u12 u13 u14 u15 u16 u17 u18 u19 u20 u21 u22 u23 u24 u25 u26 u27 u28 u29 u30 u31 u32 u33 u34 u35 u36 u37 u38 u39 u40 u41 u42 u43 u44 u45 u46:R2),a={ tmps:=#[.pointer (some ⟨b,0,none⟩),undef,.int .i64 US,.bool CB,u4,u5,u6,u7,u8,u9,u10,u11,u12,u13,u14,u15,u16,u17,u18,u19,u20,u21,u22,u23,u24,u25,u26,u27,u28,u29,u30,u31,u32,u33,u34,u35,u36,u37,u38,u39,u40,u41,u42,u43,u44,u45,u46],defers:=[] }
theorem vV(b:Nat)(M:Om.Ma)(at':Nat→Nat)(w:V8)(h:bP w b M at'):WA qf 61 #[.pointer (some ⟨b,0,none⟩)] w fun e w'=>e=.returned (.tuple #[])∧bP w' b M (Om.step M at')∧w.grownBy w' (some b):=by
 have B:=h.ok.most;have z:=h.ok.pos;have j:=h.many;have s:Hid (Om.TK M at'):=h.ins;have g:=Om.OO M at'
 have f:bP w b M (Om.mid M at' M.n):=by
  refine⟨?_,h.ok,fun i hi=>by rw[Om.tD _ _ hi];exact h.ins i hi⟩
  have e:eX M (Om.mid M at' M.n) M.n=eX M at' M.n:=cy fun i _=>by
   unfold vc;by_cases h1:i<320
   ·rw[Wc h1,Wc h1]
    by_cases h2:i / 80<M.n
    ·rw[Wc h2,Wc h2,Om.tD _ _ h2]
    ·rw[V9 h2,V9 h2]
   ·rw[V9 h1,V9 h1]
  rw[e];exact h.row
 have l:=FI w (some b);obtain⟨n,hn⟩:∃n,M.n=n+1:=⟨M.n-1,vom⟩
 go_enter Tryz.func61,Tryz.ntmps61;go_wp2;refine wp_scope_jumps 0 (VU w b M at') (fun a' _=>(intOf (a'.tmps.getD 2 undef)+1).toNat) rfl ?_ ?_
 ·go_wp2
  go_step3
  rw[hn]at f g;have hk:n+1≤M.n:=vom;clear h j;generalize w.grownBy w (some b)=X at l;have hw:=f.Ee (q:=n) vom;rw[Om.tD _ _ (Xj n)]at hw;have x:=f.row.frozen (n*80+79);have m:=s.out n vom;have y:=f.no (q:=n) vom m;have d:=Om.LP (M:=M) at' (k:=n) vom;have a:=Om.yb M at' n
  have HQ:Hid (Om.turns M at' n=true→∀nq,bP ((w.drewN nq).setCell ⟨b,n*80+79,none⟩ (.int .i64 (((at' n+1) % 26:Nat):Int))) b M (Om.mid M at' n)):=fun ht nq=>by
   have:=(f.drewN nq).iB (q:=n) vom (v:=(at' n+1) % 26) (X8 _ vde);rw[Om.AJ ht]at this;exact this
  have HS:Hid (Om.turns M at' n=false→∀nq,bP (w.drewN nq) b M (Om.mid M at' n)):=fun ht nq=>by
   have:=f.drewN nq;rw[Om.Bx ht]at this;exact this
  have HG:Hid (∀nq,w.grownBy (w.drewN nq) (some b)):=fun nq=>At (FI w _) nq;have HK:Hid (n≤M.n):=(by omega:n≤M.n)
  rw[g]at a;clear f g l X;generalize Om.turns M at' n=TT at *;generalize at' n=A at *;generalize (M.no n).contains A=BB at *;have e2:((A:Int)+1).tmod 26=(((A+1) % 26:Nat):Int):=by rw[YR vom];omega
  generalize (A+1) % 26=A2 at *;have HC:Hid _:=d;have HT:Hid _:=a;clear d a;cases BB with
  |true=>
   have c:Hid (TT=true):=by rw[Hid,HT.out];simp
   go_upto_region 3 with fail
   go_quiet (fail)
   go_wp2
   go_step3
   refine⟨rfl,n,_,_,HK.out,HQ.out c.out _,vB (HG.out _) _ _,HC.out.symm,?_,_,_,_,_,_,_,_,_,_,_,_,_,_,_,_,_,_,_,_,_,_,_,_,_,_,_,_,_,_,_,_,_,_,_,_,_,_,_,_,_,_,_,_,rfl⟩
   ·rfl
  |false=>
   have c:Hid (TT=true):=by rw[Hid,HT.out];simp
   go_upto_region 3 with fail
   go_quiet (fail)
   go_wp2
   go_step3
   refine⟨rfl,n,_,_,HK.out,HQ.out c.out _,vB (HG.out _) _ _,HC.out.symm,?_,_,_,_,_,_,_,_,_,_,_,_,_,_,_,_,_,_,_,_,_,_,_,_,_,_,_,_,_,_,_,_,_,_,_,_,_,_,_,_,_,_,_,_,rfl⟩
   ·rfl
 ·rintro a' W ⟨k,US,CB,hk,hr,o,t,rfl,u4,u5,u6,u7,u8,u9,u10,u11,u12,u13,u14,u15,u16,u17,u18,u19,u20,u21,u22,u23,u24,u25,u26,u27,u28,u29,u30,u31,u32,u33,u34,u35,u36,u37,u38,u39,u40,u41,u42,u43,u44,u45,u46,rfl⟩
  clear j f g l h hn;cases k with
  |zero=>
   go_wp2;simp only[Exit.jump];rw[Om.OV]at hr;exact WL (results_none rfl _ _ _) rfl ⟨rfl,hr,o⟩
  |succ k=>
   have e1:(((k+1:Nat):Int)-1)=(k:Int):=vom;rw[e1];clear e1;have hw:=hr.Ee (q:=k) vom;rw[Om.tD _ _ (Xj k)]at hw;have x:=hr.row.frozen (k*80+79);have m:=s.out k vom;have y:=hr.no (q:=k) vom m;have d:=Om.LP (M:=M) at' (k:=k) vom;have a:=Om.yb M at' k
   have HQ:Hid (Om.turns M at' k=true→∀nq,bP ((W.drewN nq).setCell ⟨b,k*80+79,none⟩ (.int .i64 (((at' k+1) % 26:Nat):Int))) b M (Om.mid M at' k)):=fun ht nq=>by
    have:=(hr.drewN nq).iB (q:=k) vom (v:=(at' k+1) % 26) (X8 _ vde);rw[Om.AJ ht]at this;exact this
   have HS:Hid (Om.turns M at' k=false→∀nq,bP (W.drewN nq) b M (Om.mid M at' k)):=fun ht nq=>by
    have:=hr.drewN nq;rw[Om.Bx ht]at this;exact this
   have HG:Hid (∀nq,w.grownBy (W.drewN nq) (some b)):=fun nq=>At o nq;have HK:Hid (k≤M.n):=(by omega:k≤M.n)
   rw[←t]at a;clear hr o t;generalize Om.turns M at' k=TT at *;generalize at' k=A at *;generalize (M.no k).contains A=BB at *;have e2:((A:Int)+1).tmod 26=(((A+1) % 26:Nat):Int):=by rw[YR vom];omega
   generalize (A+1) % 26=A2 at *;have HC:Hid _:=d;have HT:Hid _:=a;clear d a;cases CB with
   |true=>
    cases BB with
    |true=>
     have c:Hid (TT=true):=by rw[Hid,HT.out];simp
     go_upto_region 3 with fail
     go_quiet (fail)
     go_wp2
     go_step3
     refine⟨rfl,⟨k,_,_,HK.out,HQ.out c.out _,vB (HG.out _) _ _,HC.out.symm,?_,_,_,_,_,_,_,_,_,_,_,_,_,_,_,_,_,_,_,_,_,_,_,_,_,_,_,_,_,_,_,_,_,_,_,_,_,_,_,_,_,_,_,_,rfl⟩,?_⟩
     ·rfl
     ·simp[intOf]<;>omega
    |false=>
     have c:Hid (TT=true):=by rw[Hid,HT.out];simp
     go_upto_region 3 with fail
     go_quiet (fail)
     go_wp2
     go_step3
     refine⟨rfl,⟨k,_,_,HK.out,HQ.out c.out _,vB (HG.out _) _ _,HC.out.symm,?_,_,_,_,_,_,_,_,_,_,_,_,_,_,_,_,_,_,_,_,_,_,_,_,_,_,_,_,_,_,_,_,_,_,_,_,_,_,_,_,_,_,_,_,rfl⟩,?_⟩
     ·rfl
     ·simp[intOf]<;>omega
   |false=>
    cases BB with
    |true=>
     by_cases hz:0<k
     ·have u:(0:Int)<(k:Int):=vom
      have c:Hid (TT=true):=by rw[Hid,HT.out];simp[hz]
      clear hz
      go_upto_region 3 with fail
      go_quiet (fail)
      go_wp2
      go_step3
      refine⟨rfl,⟨k,_,_,HK.out,HQ.out c.out _,vB (HG.out _) _ _,HC.out.symm,?_,_,_,_,_,_,_,_,_,_,_,_,_,_,_,_,_,_,_,_,_,_,_,_,_,_,_,_,_,_,_,_,_,_,_,_,_,_,_,_,_,_,_,_,rfl⟩,?_⟩
      ·rfl
      ·simp[intOf]<;>omega
     ·have u:¬(0:Int)<(k:Int):=vom
      have c:Hid (TT=false):=by rw[Hid,HT.out];simp[hz]
      clear hz
      go_upto_region 3 with fail
      go_quiet (fail)
      go_wp2
      go_step3
      refine⟨rfl,⟨k,_,_,HK.out,HS.out c.out _,HG.out _,HC.out.symm,?_,_,_,_,_,_,_,_,_,_,_,_,_,_,_,_,_,_,_,_,_,_,_,_,_,_,_,_,_,_,_,_,_,_,_,_,_,_,_,_,_,_,_,_,rfl⟩,?_⟩
      ·rfl
      ·simp[intOf]<;>omega
    |false=>
     have c:Hid (TT=false):=by rw[Hid,HT.out];simp
     go_upto_region 3 with fail
     go_quiet (fail)
     go_wp2
     go_step3
     refine⟨rfl,⟨k,_,_,HK.out,HS.out c.out _,HG.out _,HC.out.symm,?_,_,_,_,_,_,_,_,_,_,_,_,_,_,_,_,_,_,_,_,_,_,_,_,_,_,_,_,_,_,_,_,_,_,_,_,_,_,_,_,_,_,_,_,rfl⟩,?_⟩
     ·rfl
     ·simp[intOf]<;>omega
structure rD(w W:V8)(b:Nat)(M:Om.Ma)(at':Nat→Nat):Prop where
 pQ:bP W b M at'
 below:Wh w.heap.size w W
section
variable{w W W':V8}{b:Nat}{M:Om.Ma}{at':Nat→Nat}
theorem rD.new(h:bP w b M at'):rD w w b M at':=⟨h,Below.refl _ _⟩
theorem rD.step(h:rD w W b M at')(hb:Wh W.heap.size W W'):rD w W' b M at':=⟨h.pQ.below hb,h.below.trans (hb.mono h.below.size)⟩
theorem rD.drew(h:rD w W b M at'):rD w W.drew b M at':=⟨h.pQ.drew,h.below.drew⟩
end
theorem Om.zy{M:Om.Ma}(at':Nat→Nat){k:Nat}(hk:k<M.n)(x:Nat):Om.eZ (M.wi k) (Om.sU M at' k) (Om.through M at' (M.n-(k+1)) x)=Om.through M at' (M.n-k) x:=by
 rw[show M.n-k=(M.n-(k+1))+1 by omega];show _=Om.eZ (M.wi (M.n-1-(M.n-(k+1)))) (Om.sU M at' (M.n-1-(M.n-(k+1)))) (Om.through M at' (M.n-(k+1)) x);rw[show M.n-1-(M.n-(k+1))=k by omega]
theorem sE(b:Nat)(M:Om.Ma)(at':Nat→Nat)(c:Nat)(hc:c<26)(w:V8)(h:bP w b M at'):WA qf 95 #[.pointer (some ⟨b,0,none⟩),.int .i64 (c:Nat)] w fun e w'=>e=.returned (.int .i64 (Om.now M at' c:Nat))∧Wh w.heap.size w w':=by
 have B:=h.ok.most;have f:=h.many;have t:=h.R9 hc;have a:=h.ok.pl.1 c hc;have g:Hid (Om.Ok M):=h.ok;have u:Hid _:=Om.RU h.ok at' hc;generalize Om.now M at' c=E at *;generalize M.pl c=P1 at *;have v:Hid (P1<26):=a;have h0:=rD.new h;clear h;go_enter Tryz.func95,Tryz.ntmps95
 go_wp2_with fail
 go_loopw [5,1] (fun i x W=>∃k:Nat,k≤M.n∧i=.int .i64 ((k:Int)-1)∧x=.int .i64 (Om.through M at' (M.n-k) P1:Nat)∧rD w W b M at') (fun i _ _=>(intOf i+1).toNat)
 case atStart=>exact⟨M.n,vom,rfl,by rw[Nat.sub_self];rfl,h0⟩
 case round=>
  clear h0 f t a;obtain⟨k,hk,rfl,rfl,hg⟩:=hrel;cases k with
  |zero=>
   have e0:(((0:Nat):Int)-1)=-1:=rfl;rw[e0];clear e0;have h1:=Om.uh (M:=M) at' v.out M.n;have HT:Hid (E=M.pl (Om.bk M at' M.n (M.rf (Om.through M at' M.n P1)))):=u.out;rw[Nat.sub_zero];generalize Om.through M at' M.n P1=T1 at *;have z:=hg.pQ.refl h1;have s:=g.out.rf.1 _ h1;have f:=hg.pQ.many;generalize M.rf T1=R1 at *;have q:Hid (R1<26):=s;have o:=hg;clear hg s
   go_wp2_with fail
   go_loopw [46,1] (fun i x W=>∃k:Nat,k≤M.n∧i=.int .i64 (k:Nat)∧x=.int .i64 (Om.bk M at' k R1:Nat)∧rD w W b M at') (fun i _ _=>((M.n:Int)-intOf i).toNat)
   case atStart=>exact⟨0,vom,rfl,rfl,o⟩
   case round=>
    clear o f z h1;obtain⟨k,hk,rfl,rfl,hg⟩:=hrel;by_cases a:k<M.n
    ·have d:Hid (k<M.n):=a
     have HC:Hid (Om.bk M at' k R1<26):=Om.Fo at' q.out k;have l:Hid (∀c,c<26→Pm.inv (M.wi k) c<26):=(g.out.wi k a).inv.1;have m:Hid (Om.eZ (Pm.inv (M.wi k)) (Om.sU M at' k) (Om.bk M at' k R1)=Om.bk M at' (k+1) R1):=rfl;generalize Om.bk M at' k R1=C at *
     go_upto_region 12 with fail
     refine Xb ?_;refine Wz (S:=fun W=>rD w W b M at') vkr hg.drew (fun hS=>?_);refine vuq 0 54 (.pointer (some ⟨b,k*80,none⟩)) ?_;refine vuq 1 55 (.pointer (some ⟨b,k*80,none⟩)) ?_;refine vuq 2 56 (.pointer (some ⟨b,k*80+26,none⟩)) ?_;refine vuq 3 57 (.pointer (some ⟨b,k*80,none⟩)) ?_;refine vuq 5 59 (.int .i64 (C:Nat)) ?_;refine rd1 4 rfl (fun K hK=>?_);go_simp;refine We (ME b k M at' d.out _ hS.pQ) ?_;rintro e Y ⟨rfl,j⟩;refine hK.out _ _ (hS.step j) (fun hS1=>?_);clear hK hS K;have hS:=hS1;clear hS1;refine rd1 6 rfl (fun K hK=>?_);go_simp;refine We (FX b (k*80+26) (Pm.inv (M.wi k)) (Om.sU M at' k) C (Om.EJ _ _ _) HC.out l.out _ (fun _ h=>hS.pQ.back d.out h)) ?_;rintro e Y ⟨rfl,rfl⟩;refine hK.out _ _ (hS) (fun hS1=>?_);clear hK hS K;have hS:=hS1;clear hS1;refine vuq 7 1 (.int .i64 (Om.eZ (Pm.inv (M.wi k)) (Om.sU M at' k) C:Nat)) ?_;refine Xq vkr ?_ _;refine WU ?_
     go_wp2_with fail
     go_roundw
     case rel=>exact⟨k+1,d.out,by go_num,by rw[m.out],hS⟩
     case measure=>have:=d.out;simp[intOf];omega
    ·obtain rfl:k=M.n:=vom
     have A:¬((M.n:Nat):Int)<((M.n:Nat):Int):=vom;have hB:=Om.Fo (M:=M) at' q.out M.n;generalize Om.bk M at' M.n R1=B1 at *;have t:=hg.pQ.R9 hB;have y:=hg.below;clear hg;go_wp2;go_ret;exact⟨by rw[HT.out];rfl,y⟩
  |succ k=>
   have a:k<M.n:=vom;have d:Hid (k<M.n):=a;have m:Hid _:=Om.zy at' a P1;have HC:Hid (Om.through M at' (M.n-(k+1)) P1<26):=Om.uh at' v.out _;have l:Hid (∀c,c<26→M.wi k c<26):=(g.out.wi k a).1;generalize Om.through M at' (M.n-(k+1)) P1=C at *;have e1:(((k+1:Nat):Int)-1)=(k:Int):=vom;rw[e1];clear e1
   go_upto_region 6 with fail
   refine Xb ?_;refine Wz (S:=fun W=>rD w W b M at') vkr hg.drew (fun hS=>?_);refine vuq 0 29 (.pointer (some ⟨b,k*80,none⟩)) ?_;refine vuq 1 30 (.pointer (some ⟨b,k*80,none⟩)) ?_;refine vuq 2 31 (.pointer (some ⟨b,k*80,none⟩)) ?_;refine vuq 3 32 (.pointer (some ⟨b,k*80,none⟩)) ?_;refine vuq 5 34 (.int .i64 (C:Nat)) ?_;refine rd1 4 rfl (fun K hK=>?_);go_simp;refine We (ME b k M at' d.out _ hS.pQ) ?_;rintro e Y ⟨rfl,j⟩;refine hK.out _ _ (hS.step j) (fun hS1=>?_);clear hK hS K;have hS:=hS1;clear hS1;refine rd1 6 rfl (fun K hK=>?_);go_simp;refine We (FX b (k*80) (M.wi k) (Om.sU M at' k) C (Om.EJ _ _ _) HC.out l.out _ (fun _ h=>hS.pQ.there d.out h)) ?_;rintro e Y ⟨rfl,rfl⟩;refine hK.out _ _ (hS) (fun hS1=>?_);clear hK hS K;have hS:=hS1;clear hS1;refine vuq 7 1 (.int .i64 (Om.eZ (M.wi k) (Om.sU M at' k) C:Nat)) ?_;refine Xq vkr ?_ _;refine WU ?_
   go_wp2_with fail
   go_roundw
   case rel=>exact⟨k,by have:=d.out;omega,rfl,by rw[m.out],hS⟩
   case measure=>simp[intOf]
end
end Go.Proofs.YtpcnpkhgjanamaaGreatDoor
