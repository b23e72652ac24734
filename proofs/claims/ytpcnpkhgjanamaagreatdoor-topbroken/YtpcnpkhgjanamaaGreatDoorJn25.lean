import Derived.Test.YtpcnpkhgjanamaaGreatDoorPz
import Derived.Test.YtpcnpkhgjanamaaGreatDoorJn24
namespace Go.Proofs.YtpcnpkhgjanamaaGreatDoor
open Go.Proofs.Tryz renaming prog→qf
open Go renaming Value→R2,World→V8,undef→Wb,TypeId→Wj,Program→Wr,Calls→WA
open Go.RowKit renaming Below→Wh
open Go.RowKit.Below renaming refl→Wm
open Go.World.ownsRow renaming lt→WC,alloc→Xp
open Go.World renaming putObj_heap_other→XN
set_option maxRecDepth 100000
set_option maxHeartbeats 4000000
section
open Go.RowKit PK Vg
attribute [local go_sem] Oper.semAt_some
section
variable{F:Fence}{n:Nat}{P:Wr}
theorem qD{ops:Array Oper}{rest:List Oper}{o:Oper}{a:Act}{w:V8}{Q:Exit→Act→V8→Prop}(hgd:o.guard=none)(t e:Wj)(x:Operand)(ho:o.op=.buildSlice t 1 #[(0,x)])
  (s:Nat) (hn:s*2≤2 ^ 24) (h0:0<s) (z c:Array R2) (hx:a.eval x=.agg c) (hu:P.underlying t=some (.slice e)) (hzs:z.size=s) (hc:c.size=s) (hz:(P.info? e).map (fun i=>(i.zero,i.size))=some (some (.agg z),s))
  (h:wpListIn F n P ops Q rest (a.put o.dst (.slice (some ⟨w.heap.size,0,none⟩) 1 1)) (w.alloc (.cells c e))):wpListIn F n P ops Q (o :: rest) a w:=by
 refine wpListIn_plain hgd fun K hK=>?_;unfold Oper.wpIn;refine⟨by simp[Oper.about,ho],?_⟩;rw[Oper.semAt_plain F _ _ (by rw[ho];intro c hc';cases hc')];unfold execOp;have hm:(#[(0,x)]:Array (Nat×Operand)).map (fun(i,x)=>(i,a.eval x))=#[(0,.agg c)]:=by simp[hx]
 simp only[ho,XQ,hm,sN w t e s hn h0 hu z c hzs hc hz,Xo];exact hK _ _ h
end
theorem LF:(qf.info? 154).map (fun i=>(i.zero,i.size))=some (some (.agg (b6 (fun _=>0) (.slice none 0 0))),27):=vkr
theorem Lg:(qf.info? 154).map (fun i=>(i.zero,i.size,i.bytes))=some (some (.agg (b6 (fun _=>0) (.slice none 0 0))),27,232):=vkr
theorem wV.refl(bp bs bv:Nat)(W:V8):wV bp bs bv W W:=⟨rfl,rfl,rfl,R3 _⟩
theorem wV.of{bp bs bv:Nat}{W W':V8}{B:Nat}(h:Wh B W W')(hB:bp<B∧bs<B∧bv<B):wV bp bs bv W W':=⟨h.block _ hB.1,h.block _ hB.2.1,h.block _ hB.2.2,h.size⟩
theorem wV.set{bp bs bv g o:Nat}(W:V8)(v:R2)(hg:bp≠g∧bs≠g∧bv≠g):wV bp bs bv W (W.setCell ⟨g,o,none⟩ v):=⟨WT W ⟨g,o,none⟩ bp _ hg.1,WT W ⟨g,o,none⟩ bs _ hg.2.1,WT W ⟨g,o,none⟩ bv _ hg.2.2,by rw[XF];exact R3 _⟩
theorem wV.grown{bp bs bv:Nat}{W W':V8}{row:Option Nat}(h:W.grownBy W' row){B:Nat}(hB:bp<B∧bs<B∧bv<B)(hW:B≤W.heap.size)(hr:∀r,row=some r→B≤r):wV bp bs bv W W':=
 ⟨h.block _ vom (fun e=>by have:=hr _ e.symm;omega),h.block _ vom (fun e=>by have:=hr _ e.symm;omega),h.block _ vom (fun e=>by have:=hr _ e.symm;omega),h.size⟩
theorem Gv{W W':V8}{B:Nat}{T:Wj}{s n:Nat}{v:R2}{l:List R2}(h:W.ownsRow B T s v n l)(hg:W.grownBy W' v.ownBlock):KeepsOthers W W':=⟨hg.size,fun k o hk ho=>(hg.block k (Wd.1 hk).1 (fun e=>by
 obtain⟨c,hc⟩:=uB h k e.symm;rw[hc]at hk;cases hk;cases ho)).trans hk⟩
theorem JW{P:Wr}{e:Wj}{z:R2}{s b:Nat}(h:(P.info? e).map (fun i=>(i.zero,i.size,i.bytes))=some (some z,s,b)):∃i,P.info? e=some i∧i.zero=some z∧i.size=s∧i.bytes=b:=by
 obtain⟨i,hi,a⟩:=Xt.1 h;simp only[Prod.mk.injEq]at a;exact⟨i,hi,a.1,a.2.1,a.2.2⟩
theorem oH{w:V8}{B:Nat}{e:Wj}{s:Nat}{v:R2}{n:Nat}{xs:List R2}(h:w.ownsRow B e s v n xs):∃a c,v=.slice a n c:=by
 rcases h.2 with⟨rfl,h0⟩|⟨g',cap,cur,rfl,_⟩
 ·exact⟨none,0,by rw[h0]⟩
 ·exact⟨_,_,rfl⟩
theorem lO{w W:V8}{B D:Nat}(h:Wh B w W)(hD:B≤D)(o:Obj):Wh B w (W.putObj D o):=⟨h.os,h.tape,h.output,by rw[World.putObj_size];exact h.size,fun k hk=>(XN vom).trans (h.block k hk)⟩
theorem CP{W:V8}{v:R2}{n:Nat}{f:Nat→Int}(h:aq W v n f):v.oneCell'=true:=by obtain⟨a,cap,rfl,_⟩:=h;rfl
def w1(w:V8)(s:ByteArray):V8:=((w.alloc (.cells #[.string s] 9)).alloc (.cells #[.string ⟨#[44]⟩] 9)).alloc (.cells #[.int .i64 0] 3)
theorem Ho(s:ByteArray)(w:V8):WA qf 159 #[.string s,.string ⟨#[44]⟩,.int .i64 0] w fun e w'=>e=.returned (.func (.func 175) #[] #[.pointer (some ⟨w.heap.size+1,0,none⟩),.pointer (some ⟨w.heap.size,0,none⟩),.pointer (some ⟨w.heap.size+2,0,none⟩)])∧w'=w1 w s:=by
 have a:=Sa;go_enter Tryz.func159,Tryz.ntmps159;go_wp2;go_ret;exact⟨rfl,rfl⟩
theorem Od(s:ByteArray)(w:V8):WA qf 134 #[.string s,.string ⟨#[44]⟩] w fun e w'=>e=.returned (.func (.func 175) #[] #[.pointer (some ⟨w.heap.size+1,0,none⟩),.pointer (some ⟨w.heap.size,0,none⟩),.pointer (some ⟨w.heap.size+2,0,none⟩)])∧w'=w1 w s:=by
 have HC:Hid _:=Ho s w;go_enter Tryz.func134,Tryz.ntmps134
 go_wp2_with fail
 refine We HC.out ?_;rintro e V ⟨rfl,rfl⟩;go_wp2;go_ret;exact⟨rfl,rfl⟩
theorem Ro(args:Array R2)(W:V8):(callFunc 175 args).run qf W=.ok (.enter 175 args) W:=vkr
def AQ(l:List UInt8):Int:=if oU (fun k=>tg (gd l k)) (gi l)≠0 then oU (fun k=>tg (gd l k)) (gi l)else if 4<gi l then 5 else 0
def PO(l:List UInt8)(p:Nat):Nat:=if oU (fun k=>tg (gd l k)) (gi l)≠0 then p+off l (IP (fun k=>tg (gd l k)) (gi l))else p
structure SS(w0:V8)(q B:Nat)(l:List UInt8)(p:Nat)(s:ByteArray)(k:Nat)(W:V8):Prop where
 err:∀j,j<k→tg (gd l j)=0
 wd:af W q 87 #[.string s,.int .i64 (p:Int)]
 out:∃v R,af W (q+1) 30 #[v]∧xe W B v k (gd l) R
 pos:af W (q+1+1) 3 #[.int .i64 ((p+off l k:Nat):Int)]
 old:Wh w0.heap.size w0 W
 low:B≤W.heap.size
theorem SS.grown{w0:V8}{q B:Nat}{l:List UInt8}{p:Nat}{s:ByteArray}{k:Nat}{W W':V8}{row:Option Nat}(h:SS w0 q B l p s k W)(hg:W.grownBy W' row)(hq:w0.heap.size=q∧q+3<B)(hr:∀r,row=some r→(B≤r∧∃o:Obj,W.heap[r]?=some o∧o.isCells=false)∨r=q+3):SS w0 q B l p s k W':=by
 have a:∀b,b<q+3→W'.heap[b]?=W.heap[b]?:=fun b hb=>hg.block b (by have:=h.low;omega) (fun e=>by rcases hr b e.symm with h1|h1<;>omega);obtain⟨v,R,h1,h2⟩:=h.out;refine⟨h.err,(a q vom).trans h.wd,⟨v,R,(a _ vom).trans h1,h2.grown hg (fun r hr2=>?_)⟩,(a _ vom).trans h.pos,?_,by have:=hg.size;have:=h.low;omega⟩
 ·rcases hr r hr2 with⟨_,h4⟩|h3
  ·exact .inr h4
  ·exact .inl vom
 ·exact h.old.grown hg (by have:=h.old.size;omega) (fun r e=>by rcases hr r e with h1|h1<;>omega)
theorem B7(l:List UInt8)(p:Nat)(hs:l.length≤65536)(hp:p≤65536)(w:V8):
  WA qf 110 #[wm l p] w fun e w'=>(AQ l=0→∃v,e=.returned v∧Nw w.heap.size w'.heap.size (fun W=>cA W v (gi l) (fun r=>sM (gd l r)) (fun r=>(qI (gd l r)).length) (fun r i=>((qI (gd l r)).getD i 0:Nat))) w')∧(AQ l≠0→e=.panicked [gY (AQ l) (PO l p)])∧Wh w.heap.size w w':=by
 obtain⟨s,k5⟩:∃s:ByteArray,s=⟨l.toArray⟩:=⟨_,rfl⟩
 have q6:s.data.toList=l:=by rw[k5]
 have hz:=Pl.aN s;rw[q6]at hz;have w7:s.size≤65536:=vom;unfold wm;rw[←k5];refine yR Tryz.func110 rfl ?_;simp only[Tryz.ntmps110,List.size_toArray,List.length_cons,List.length_nil,Nat.reduceAdd,Nat.reduceSub,Array.replicate_succ,Array.replicate_zero,List.push_toArray,Zn,Yi,List.cons_append];clear k5;refine o4 (jr ?_);go_wp2;refine o4 (jr ?_);go_wp2;refine o4 (jr ?_);go_wp2;obtain⟨Y,hY⟩:∃Y,Y=((w.alloc (.cells #[.string s,.int .i64 (p:Int)] 87)).alloc (.cells #[.slice none 0 0] 30)).alloc (.cells #[.int .i64 (p:Int)] 3):=⟨_,rfl⟩
 rw[←hY];have F:Y.heap.size=w.heap.size+3:=by rw[hY];simp
 have e5:af Y w.heap.size 87 #[.string s,.int .i64 (p:Int)]:=by rw[hY];exact((af.new w _ _).alloc _).alloc _
 have O:af Y (w.heap.size+1) 30 #[.slice none 0 0]:=by
  rw[hY];have:=(af.new (w.alloc (.cells #[.string s,.int .i64 (p:Int)] 87)) 30 #[.slice none 0 0]).alloc (.cells #[.int .i64 (p:Int)] 3);simpa using this
 have M:af Y (w.heap.size+1+1) 3 #[.int .i64 (p:Int)]:=by
  rw[hY];have:=af.new ((w.alloc (.cells #[.string s,.int .i64 (p:Int)] 87)).alloc (.cells #[.slice none 0 0] 30)) 3 #[.int .i64 (p:Int)];simpa using this
 have k9:Wh w.heap.size w Y:=by rw[hY];exact(((Wm _ w).alloc (R3 _) _).alloc vsi _).alloc vso _
 clear hY;have c0:=af.cell e5 (i:=0) rfl;have p5:Hid _:=Od s Y;refine o4 (o4 (jr ?_))
 go_wp2_with fail
 refine We p5.out ?_;rintro e Y2 ⟨rfl,U⟩;rw[F];have L:Wh Y.heap.size Y Y2:=by rw[U];exact(((Wm _ Y).alloc (R3 _) _).alloc vsi _).alloc vso _
 have x3:Y2.heap.size=w.heap.size+6:=by rw[U];simp[w1,F]
 have e7:s8 Y2 (w.heap.size+3+1) (w.heap.size+3) (w.heap.size+3+2) s:=by
  rw[U,←F];refine⟨?_,((af.new Y _ _).alloc _).alloc _,?_,vom⟩
  ·have:=(af.new (Y.alloc (.cells #[.string s] 9)) 9 #[.string ⟨#[44]⟩]).alloc (.cells #[.int .i64 0] 3)
   rw[WI]at this;exact this
  ·have:=af.new ((Y.alloc (.cells #[.string s] 9)).alloc (.cells #[.string ⟨#[44]⟩] 9)) 3 #[.int .i64 0]
   rw[WI,WI]at this;exact this
 have k3:Hid (SS w w.heap.size (w.heap.size+6) l p s 0 Y2):=⟨fun j hj=>by omega,af.below e5 L (af.lt e5),⟨_,fun _=>Wb,af.below O L (af.lt O),xe.nil _ _ _ _⟩,af.below M L (af.lt M),k9.trans (L.mono k9.size),vom⟩
 have G:=GX (w.heap.size+3+1) (w.heap.size+3) (w.heap.size+3+2) s w7 Y2 (9-1) e7;rw[q6]at G;clear U L e7 p5 c0 e5 O M k9 F;go_wp2
 refine IV (wz (n:=9) (wH 110 trivial ⟨_,Tryz.func110⟩ vom (gf:=175) (lb:=#[.pointer (some ⟨w.heap.size+3+1,0,none⟩),.pointer (some ⟨w.heap.size+3,0,none⟩),.pointer (some ⟨w.heap.size+3+2,0,none⟩)]) rfl trivial Ro G (fun r h=>by subst h;omega) (fun h k=>h.trans k) (fun W x o o' hx _ _ _=>⟨XN vom,XN vom,XN vom,by rw[World.putObj_size];exact R3 _⟩) (Wm _ _) (fun _=>rfl)
  (fun k W=>SS w w.heap.size (w.heap.size+6) l p s k W)
  (fun ch W=>AQ l≠0∧ch=[gY (AQ l) (PO l p)]∧Wh w.heap.size w W)
  (fun s W W' row hs hg hr=>hs.grown hg ⟨rfl,vom⟩ (fun r e=>by rcases hr r e with h1|h1;exact .inl ⟨vom,h1.2⟩;exact .inr h1))
  k3.out
  (fun k a' W=>a'={ tmps:=#[.agg #[.string s,.int .i64 (p:Int)],.pointer (some ⟨w.heap.size,0,none⟩),.slice none 0 0,.pointer (some ⟨w.heap.size+1,0,none⟩),.pointer (some ⟨w.heap.size+1+1,0,none⟩),.string ⟨(gd l k).toArray⟩,Wb,Wb,.pointer (some ⟨w.heap.size,1,none⟩),.int .i64 (p:Int),.pointer (some ⟨w.heap.size,0,none⟩),.string s,.func (.func 175) #[] #[.pointer (some ⟨w.heap.size+3+1,0,none⟩),.pointer (some ⟨w.heap.size+3,0,none⟩),.pointer (some ⟨w.heap.size+3+2,0,none⟩)],.string ⟨(gd l k).toArray⟩,Wb,Wb,Wb,Wb,Wb,Wb,Wb,Wb,Wb,Wb,Wb,Wb,Wb,Wb,Wb,Wb,Wb,Wb,Wb,Wb,Wb,Wb,Wb,Wb],defers:=[] })
  ?hAx ?hassign ?hbody ?hdone ?hpan))
 case hAx=>
  rintro k a' s W W' row h hg hr;exact h
 case hassign=>
  intro l' k W K hI hk hK;have HK:Hid _:=hK;clear hK;simp only[Array.zip,List.zipWith_toArray,List.zipWith_cons_cons,List.zipWith_nil_right,List.foldl_toArray,List.foldl_cons,List.foldl_nil,zsA,zsB,zsC]
  gi_wp2
  exact HK.out _ _ (KeepsOthers.refl W) (wV.refl _ _ _ W) hI rfl
 case hbody=>
  rintro l' k a' W hI rfl hk;obtain⟨v,R,ho,hw⟩:=hI.out;obtain⟨T,hT⟩:∃T:ByteArray,T=⟨(gd l k).toArray⟩:=⟨_,rfl⟩
  have l9:T.data.toList=gd l k:=by rw[hT]
  have r4:=EU l k hk;have o6:(gd l k).length≤(qB l k).length:=by unfold gd upto;exact(List.takeWhile_sublist _).length_le
  have q8:T.size=(gd l k).length:=by rw[Pl.aN,l9]
  have x9:k≤65536:=by have h1:=(List.count_le_length (a:=(44:UInt8)) (l:=l));unfold gi at hk;omega
  rw[←hT];have k7:Hid _:=Jg T W;rw[l9]at k7;have HI:Hid (SS w w.heap.size (w.heap.size+6) l p s k W):=hI;have HW:Hid (xe W (w.heap.size+6) v k (gd l) R):=hw;have HO:Hid (af W (w.heap.size+1) 30 #[v]):=ho;have v8:Hid (k<gi l):=hk;have r6:Hid (off l (k+1)=off l k+(T.size+1)):=by rw[Hid,q8];rfl
  obtain⟨A,hA⟩:∃A:Nat,A=p+off l k:=⟨_,rfl⟩
  have x8:(A:Int)≤131072:=vom;have x5:(T.size:Int)≤65536:=vom;have HA:Hid (p+off l k=A):=hA.symm;have x2:=bR iL;obtain⟨i0,r5,s0,u9,s6⟩:=JW Lg;clear hT l9 r4 o6 q8 hI hw ho hk hA G k3
  gi_wp2
  refine⟨trivial,?_⟩;refine(CallsIn.inRound l' (callsIn_wide.2 k7.out)).mono ?_;rintro e V5 ⟨Q,rfl,hq,q2,j0⟩;have E:Hid ((b6 (sM (gd l k)) Q).all (·.oneCell')=true):=gC (CP hq);have t:Hid ((b6 (sM (gd l k)) Q).size=27):=aO _ _;obtain⟨CS,e8⟩:∃CS,CS=b6 (sM (gd l k)) Q:=⟨_,rfl⟩
  rw[←e8]at E t⊢;have s3:Hid (CS=b6 (sM (gd l k)) Q):=e8;obtain⟨X6,H⟩:∃X6,X6=(V5.alloc (.cells (b6 (fun _=>0) (.slice none 0 0)) 154)).setRow V5.heap.size CS:=⟨_,rfl⟩
  have k6:Wh V5.heap.size V5 X6:=by rw[H];exact PK.Below.setRow ((Wm _ V5).alloc (R3 _) _) V5.heap.size (R3 _) _
  have k8:af X6 V5.heap.size 154 CS:=by rw[H];exact(af.new V5 _ _).row CS
  have m:Wh W.heap.size W X6:=j0.trans (k6.mono j0.size);have k4:af X6 (w.heap.size+1) 30 #[v]:=af.below HO.out m (af.lt HO.out);have e9:af X6 (w.heap.size+1+1) 3 #[.int .i64 (A:Int)]:=by have:=af.below HI.out.pos m (af.lt HI.out.pos);rw[HA.out]at this;exact this
  have y:Hid (xe X6 (w.heap.size+6) v k (gd l) R):=HW.out.below m;have HQ:Hid (Nw W.heap.size V5.heap.size (fun W=>aq W Q (qI (gd l k)).length (fun i=>((qI (gd l k)).getD i 0:Nat))) X6):=(za hq q2).below k6;have J:Hid (Wh W.heap.size W X6):=m;have d:Hid (w.heap.size+6≤W.heap.size∧V5.heap.size<X6.heap.size∧W.heap.size≤X6.heap.size):=⟨HI.out.low,af.lt k8,m.size⟩
  have c3:=af.cell k4 (i:=0) rfl;have c4:=af.cell e9 (i:=0) rfl;have p7:=af.range k8;have v7:Hid _:=k4;have r9:Hid _:=e9;clear j0 k6 m k8 k4 e9 hq q2 k7 e8;by_cases hoe:tg (gd l k)=0
  ·have u0:Hid (∀i,i<k+1→tg (gd l i)=0):=fun i hi=>by
    by_cases e:i=k
    ·rw[e];exact hoe
    ·exact HI.out.err i vom
   rw[hoe];have HP:Hid _:=jd (A:Int) X6;clear hoe
   gi_wp2_with (first|(refine iC rfl 154 _ _ rfl V5.heap.size CS rfl rfl 154 _ (af.new V5 _ _) (by rw[t.out];exact bn) (by rw[t.out,aO]) E.out ?_;rw[←H];clear H))
   refine⟨trivial,?_⟩;refine(CallsIn.inRound l' (callsIn_wide.2 HP.out)).mono ?_;rintro e Z ⟨rfl,hZ⟩;rw[hZ];clear hZ Z HP
   gi_wp2_with (first|refine qo rfl 154 _ rfl V5.heap.size 0 rfl CS _ p7 Tryz.underlying154 rfl (by rw[t.out];exact bn) ?_|refine qD rfl 30 154 _ rfl 27 vde vde (b6 (fun _=>0) (.slice none 0 0)) CS rfl Tryz.underlying30 (aO _ _) t.out LF ?_|(gi_at_builtin;refine wpListIn_append_own_at _ rfl _ _ 30 rfl (w.heap.size+6) 154 i0 (.agg (b6 (fun _=>0) (.slice none 0 0))) 27 232 Tryz.underlying30 r5 s0 u9 s6 (aO _ _) vde _ _ _ rfl (Xp y.out.own _) ⟨X6.heap.size,0,none⟩ 1 1 CS.toList rfl (by rw[Wx,t.out]) (fun q u hu=>by rw[Addr.add_mid,WN];exact(af.new X6 154 CS).cell (by rw[←Wo];exact hu)) (fun u hu=>by have:=E.out;rw[←Array.all_toList]at this;exact Yv.1 this u hu) (by unfold maxLen;omega) vom (by have:=d.out;simp;omega) ?_;intro v5 w5 hown5 hgrow5 _ hat5;obtain⟨g5,c5,rfl⟩:=oH hown5;have ro5:af w5 (w.heap.size+1) 30 #[v]:=(hgrow5.block _ (by have:=d.out;simp;omega) (fun e=>by have:=(WC y.out.own _ e.symm).1;omega)).trans (af.alloc v7.out _);have rp5:af w5 (w.heap.size+1+1) 3 #[.int .i64 (A:Int)]:=(hgrow5.block _ (by have:=d.out;simp;omega) (fun e=>by have:=(WC y.out.own _ e.symm).1;omega)).trans (af.alloc r9.out _);have d3:=af.cell ro5 (i:=0) rfl;have e3:=af.frozen ro5 0;have rp6:=af.setOther rp5 ⟨w.heap.size+1,0,none⟩ (.slice g5 (k+1) c5) (by show w.heap.size+1+1≠w.heap.size+1;omega);have d4:=af.cell rp6 (i:=0) rfl;have e4:=af.frozen rp6 0;have w6:Hid _:=ro5;have x6:Hid _:=rp5;have q3:Hid _:=rp6;have q7:Hid _:=hown5;have I:Hid _:=hgrow5;have w8:Hid _:=hat5;clear ro5 rp5 rp6 hown5 hgrow5 hat5 c3 c4 p7))
   have q9:=HI.out.low;have V:Wh X6.heap.size X6 (X6.alloc (.cells CS 154)):=(Wm _ X6).alloc (R3 _) _;have n4:=(y.out.below V).more (b:=W.heap.size) (Q:=Q) q9 (fun g hg=>(WC HW.out.own g hg).2) ((HQ.out.mono (R3 _) (by have:=d.out;rw[WI];omega)).below V) (by rw[←s3.out];exact q7.out) I.out w8.out;have s5:=(n4.grown (grownBy_setCell' w5 (w.heap.size+1) (.slice g5 (k+1) c5)) (fun r e=>by cases e;exact .inl vom)).grown (grownBy_setCell' _ (w.heap.size+1+1) (.int .i64 ((A:Int)+((T.size:Int)+1)))) (fun r e=>by cases e;exact .inl vom);have q5:af w5 w.heap.size 87 #[.string s,.int .i64 (p:Int)]:=(I.out.block _ (by have:=d.out;simp;omega) (fun e=>by have:=(WC y.out.own _ e.symm).1;omega)).trans (af.alloc (af.below HI.out.wd J.out (af.lt HI.out.wd)) _);have r3:Wh w.heap.size w w5:=(((HI.out.old.trans (J.out.mono HI.out.old.size))).trans (V.mono (by have:=d.out;omega))).grown I.out (by have:=d.out;simp;omega) (fun r e=>by have:=(WC y.out.own _ e).1;omega);have x7:W.heap.size≤w5.heap.size:=by have h1:=I.out.size;have h2:=d.out;rw[WI]at h1;omega
   refine⟨?_,?_,?_⟩
   ·exact((((sv J.out).trans (KeepsOthers.alloc _ _)).trans (Gv (Xp y.out.own _) I.out)).trans (KeepsOthers.setCell _ _ _)).trans (KeepsOthers.setCell _ _ _)
   ·exact((((wV.of J.out ⟨vom,vom,vom⟩).trans (wV.of V (by have:=d.out;exact⟨vom,vom,vom⟩))).trans (wV.grown I.out (B:=w.heap.size+6) ⟨vom,vom,vom⟩ (by have:=d.out;simp;omega) (fun r e=>(WC y.out.own _ e).1))).trans (wV.set _ _ ⟨vom,vom,vom⟩)).trans (wV.set _ _ ⟨vom,vom,vom⟩)
   ·refine⟨u0.out,?_,⟨_,_,?_,s5⟩,?_,?_,?_⟩
    ·exact af.setOther (af.setOther q5 ⟨w.heap.size+1,0,none⟩ _ (by show w.heap.size≠w.heap.size+1;omega)) ⟨w.heap.size+1+1,0,none⟩ _ (by show w.heap.size≠w.heap.size+1+1;omega)
    ·exact af.setOther (af.set w6.out 0 (.slice g5 (k+1) c5)) ⟨w.heap.size+1+1,0,none⟩ _ (by show w.heap.size+1≠w.heap.size+1+1;omega)
    ·have e1:((p+off l (k+1):Nat):Int)=(A:Int)+((T.size:Int)+1):=by have h1:=r6.out;have h2:=HA.out;omega
     rw[e1];exact af.set q3.out 0 _
    ·exact(r3.setCell (p:=⟨w.heap.size+1,0,none⟩) (by show w.heap.size≤w.heap.size+1;omega) _).setCell (p:=⟨w.heap.size+1+1,0,none⟩) (by show w.heap.size≤w.heap.size+1+1;omega) _
    ·rw[XF,XF];omega
  ·have HP:Hid _:=gG (tg (gd l k)) (A:Int) (by simpa using hoe) X6
   have b9:=Nb (f:=fun i=>tg (gd l i)) v8.out HI.out.err hoe;have C:Hid (AQ l=tg (gd l k)):=by rw[Hid];unfold AQ;rw[b9.1,Wc hoe]
   have l5:Hid (PO l p=A):=by rw[Hid];unfold PO;rw[b9.1,Wc hoe,b9.2];exact HA.out
   have r8:Hid (tg (gd l k)≠0):=hoe;clear b9 hoe;generalize tg (gd l k)=OE at *
   gi_wp2_with (first|(refine iC rfl 154 _ _ rfl V5.heap.size CS rfl rfl 154 _ (af.new V5 _ _) (by rw[t.out];exact bn) (by rw[t.out,aO]) E.out ?_;rw[←H];clear H))
   refine⟨trivial,?_⟩;refine(CallsIn.inRound l' (callsIn_wide.2 HP.out)).mono ?_;rintro e Z ⟨rfl,hZ⟩;rw[hZ];exact⟨rfl,sv J.out,by rw[C.out];exact r8.out,by rw[C.out,l5.out],HI.out.old.trans (J.out.mono HI.out.old.size)⟩
 case hdone=>
  intro D W hD hI S;obtain⟨v,R,ho,hw⟩:=hI.out;obtain⟨ga,gc,rfl⟩:=oH hw.own;have P:oU (fun k=>tg (gd l k)) (gi l)=0:=An hI.err;have c3:=af.cell ho (i:=0) rfl;have cw1:=af.cell hI.wd (i:=1) rfl;have e6:Hid (Wh w.heap.size w W):=hI.old;have q4:Hid (Nw (w.heap.size+6) W.heap.size (fun W=>cA W (.slice ga (gi l) gc) (gi l) (fun r=>sM (gd l r)) (fun r=>(qI (gd l r)).length) (fun r i=>((qI (gd l r)).getD i 0:Nat))) W):=hw.Qp;have j3:Hid (W.heap[D]?=some (.deferred (some []))):=S;have p9:Hid (w.heap.size≤D):=by rw[Hid];omega
  have x4:gi l≤65537:=by have h1:=(List.count_le_length (a:=(44:UInt8)) (l:=l));unfold gi;omega
  clear ho hw hI S G k3
  change Oj _ _ _ _ _ _
  refine jr ?_;by_cases h4:4<gi l
  ·have C:Hid (AQ l=5):=by rw[Hid];unfold AQ;rw[P,V9 (fun h=>h rfl),Wc h4]
   have l5:Hid (PO l p=p):=by rw[Hid];unfold PO;rw[P,V9 (fun h=>h rfl)]
   have s4:Hid _:=dr 5 (p:Int) W;clear P;generalize gi l=N at *;have r7:(4:Int)<(N:Int):=vom
   go_wp2_with fail
   refine We s4.out ?_;rintro e Z ⟨rfl,hZ⟩;rw[hZ];exact l8 vsi j3.out ⟨fun h=>absurd (C.out▸h) vde,fun _=>by rw[C.out,l5.out],lO e6.out p9.out _⟩
  ·have C:Hid (AQ l=0):=by rw[Hid];unfold AQ;rw[P,V9 (fun h=>h rfl),V9 h4]
   clear P
   have u7:Hid (Nw w.heap.size (W.putObj D (.deferred none)).heap.size (fun W=>cA W (.slice ga (gi l) gc) (gi l) (fun r=>sM (gd l r)) (fun r=>(qI (gd l r)).length) (fun r i=>((qI (gd l r)).getD i 0:Nat))) (W.putObj D (.deferred none))):=by
    rw[Hid,World.putObj_size];refine(q4.out.mono vom (R3 _)).keep fun b o x h1 h2 h3=>?_
    have u6:b≠D:=fun e=>by
     obtain⟨c,T,z,h8⟩:=oQ h3;rw[e,j3.out]at h8;cases h8
    have:=XN (w:=W) (o:=.deferred none) u6;simp only[World.cell?,this]at h3⊢;exact h3
   have w9:Hid (Wh w.heap.size w (W.putObj D (.deferred none))):=lO e6.out p9.out _;generalize hN:gi l=N at *;have r7:¬(4:Int)<(N:Int):=vom;have u5:=j3.out;clear q4;go_wp2;refine l8 vsi u5 ?_;exact⟨_,results_tmp rfl _ _ _,fun _=>⟨.slice ga N gc,rfl,u7.out⟩,fun h=>absurd C.out h,w9.out⟩
 case hpan=>
  rintro D ch W hD ⟨h1,rfl,h3⟩ S
  change LeavesInM _ _ _ _ _ _ _ _ _
  exact l8 vsi S ⟨fun h=>absurd h h1,fun _=>rfl,lO h3 vom _⟩
def tS(l:List UInt8)(m:Nat):Int:=if gx l≠0 then gx l else if l.length≠m then 8 else 0
def Ef(l:List UInt8):Nat→Int:=fun i=>(Vg.num (l.getD i 0):Nat)
def BN(l:List UInt8)(m:Nat):Nat→Int:=fun i=>if i<m then(Vg.num (l.getD i 0):Nat)else 0
theorem GS(l:List UInt8)(m:Nat):upd (BN l m) m ((Vg.num (l.getD m 0):Nat):Int)=BN l (m+1):=by
 funext i
 unfold upd BN;by_cases h:i=m
 ·rw[Wc h,Wc vom,h]
 ·rw[V9 h]
  by_cases h2:i<m
  ·rw[Wc h2,Wc vom]
  ·rw[V9 h2,V9 vom]
theorem oV(l:List UInt8)(p m:Nat)(hs:l.length≤65536)(hm:m≤65536)(w:V8):
  WA qf 112 #[wm l p,.int .i64 (m:Nat)] w fun e w'=>(tS l m=0→∃v,e=.returned v∧aq w' v m (Ef l)∧Up w.heap.size v)∧(tS l m≠0→e=.panicked [gY (tS l m) p])∧Wh w.heap.size w w':=by
 obtain⟨s,z⟩:∃s:ByteArray,s=⟨l.toArray⟩:=⟨_,rfl⟩
 have g:s.data.toList=l:=by rw[z]
 have hz:=Pl.aN s;rw[g]at hz;unfold wm;rw[←z];have D:Wh w.heap.size w (w.alloc (.cells #[.string s,.int .i64 (p:Int)] 87)):=(Wm _ w).alloc (R3 _) _;have t:=af.new w 87 #[.string s,.int .i64 (p:Int)];have c0:=af.cell t (i:=0) rfl;have c1:=af.cell t (i:=1) rfl;have HB:Hid _:=D;have HQ:Hid (af (w.alloc (.cells #[.string s,.int .i64 (p:Int)] 87)) w.heap.size 87 #[.string s,.int .i64 (p:Int)]):=t;have HK:Hid (∀X,WA qf 20 #[.string s] X fun e w'=>e=.returned (.agg #[.int .i64 (gx l),.int .i64 (nK l)])∧Wh X.heap.size X w'):=fun X=>by rw[←g];exact fJ s X
 have q:Hid (tS l m=if gx l≠0 then gx l else if l.length≠m then 8 else 0):=rfl;have y:Hid (gx l=0→Pl.Lets s.data.toList):=fun h=>by rw[g];exact(FG h).2.2
 have N:Hid (s.data.toList=l):=g;have E:Hid (s.size=l.length):=hz;have H:=yQ;generalize tS l m=SE at *;generalize hce:gx l=CE at *;generalize nK l=CA at *;clear hz g z D t c0 c1 hce;go_enter Tryz.func112,Tryz.ntmps112
 go_wp2_with fail
 by_cases hE:CE=0
 ·have HP:Hid (∀X,WA qf 19 #[.int .i64 CE,.int .i64 (p:Int)] X fun e w'=>e=.returned (.tuple #[])∧w'=X):=fun X=>by rw[hE];exact jd _ X
  have HL:Hid (Pl.Lets s.data.toList):=y.out hE;have d:Hid (SE=if l.length≠m then 8 else 0):=by rw[Hid,q.out,V9 (fun h=>h hE)]
  clear hE q y;refine Xb ?_;refine Wz (S:=fun W=>af W w.heap.size 87 #[.string s,.int .i64 (p:Int)]∧Wh w.heap.size w W) vkr ⟨HQ.out,HB.out.drew⟩ (fun hS=>?_);refine vuq 0 7 (.pointer (some ⟨w.heap.size,0,none⟩)) ?_;refine vuk 1 8 (.string s) rfl (fun W hW=>by have u:=af.cell hW.1 (i:=0) rfl;clear hS hW;go_simp) hS ?_;refine vuq 4 11 (.pointer (some ⟨w.heap.size,1,none⟩)) ?_;refine vuk 5 12 (.int .i64 (p:Int)) rfl (fun W hW=>by have u:=af.cell hW.1 (i:=1) rfl;clear hS hW;go_simp) hS ?_;refine rd1 2 rfl (fun K hK=>?_);go_simp;refine We (HK.out _) ?_;rintro e Y ⟨rfl,j⟩;refine hK.out _ _ (⟨af.below hS.1 j (af.lt hS.1),hS.2.trans (j.mono hS.2.size)⟩) (fun hS1=>?_);clear hK hS K;have hS:=hS1;clear hS1;refine vuk 3 10 (.int .i64 CE) rfl (fun W hW=>by have u:=H;clear hS hW;go_simp) hS ?_;refine rd1 6 rfl (fun K hK=>?_);go_simp;refine We (HP.out _) ?_;rintro e Y ⟨rfl,rfl⟩;refine hK.out _ _ (hS) (fun hS1=>?_);clear hK hS K;have hS:=hS1;clear hS1;refine Xq vkr ?_ _;refine WU ?_;have o:Hid (Wh w.heap.size w Y):=hS.2;have F:Hid (af Y w.heap.size 87 #[.string s,.int .i64 (p:Int)]):=hS.1;have u0:=af.cell hS.1 (i:=0) rfl;have u1:=af.cell hS.1 (i:=1) rfl;clear hS;by_cases b:l.length=m
  ·have L:s.size=m:=by rw[E.out];exact b
   have Q:Hid (SE=0):=by rw[Hid,d.out,V9 (fun h=>h b)]
   have M:((s.size:Int) != (m:Int))=false:=by rw[L];simp
   have J:=run_make_row' (P:=qf) 31 3 (.int .i64 0) 8 Tryz.underlying31 CZ rfl .i64 .i64 m vom vom;rw[tU,uf]at J;clear b d
   go_wp2_with fail
   go_loopw [26] (fun i W=>∃k:Nat,k≤m∧i=.int .i64 (k:Nat)∧af W Y.heap.size 3 (ints m (BN l k))∧Wh Y.heap.size Y W) (fun i _=>((m:Int)-intOf i).toNat)
   case atStart=>exact⟨0,vom,rfl,af.new Y _ _,(Wm _ _).alloc (R3 _) _⟩
   case round=>
    obtain⟨k,hk,rfl,ro,hb⟩:=hrel;by_cases hlt:k<m
    ·have I:k<s.size:=vom
     have b:=LB s HL.out k I;have e4:Hid (k<m):=hlt;have b9:=af.cell ro (aB (BN l k) hlt);have e3:=af.frozen ro k;have G:=af.below F.out hb (af.lt F.out);have v0:=af.cell G (i:=0) rfl;have f:Vg.num s[k]=Vg.num (l.getD k 0):=by rw[←N.out,fI s k I]
     have ro2:af (wr.setCell ⟨Y.heap.size,k,none⟩ (.int .i64 (Vg.num s[k]:Nat))) Y.heap.size 3 (ints m (BN l (k+1))):=by
      have:=af.set ro k (.int .i64 (Vg.num s[k]:Nat));rw[ints_set,f,GS]at this;rw[f];exact this
     have U:=hb.setCell (p:=⟨Y.heap.size,k,none⟩) (R3 _) (.int .i64 (Vg.num s[k]:Nat));have HN:Hid _:=yf s[k] b wr;clear G ro hb f b;generalize Vg.num s[k]=x at *
     go_wp2_with fail
     refine We HN.out ?_;rintro e V ⟨rfl,rfl⟩
     go_wp2_with fail
     exact⟨⟨k+1,vom,by go_num,ro2,U⟩,by simp[intOf];omega⟩
    ·obtain rfl:k=m:=vom
     have O:Hid (aq wr (.slice (some ⟨Y.heap.size,0,none⟩) k k) k (Ef l)):=by
      refine⟨_,_,rfl,by unfold maxLen;omega,fun c hc=>⟨Y.heap.size,0,rfl,?_⟩⟩;rw[WN,af.cell ro (aB (BN l k) hc)];unfold BN Ef;rw[Wc hc]
     have Z:Hid (Wh w.heap.size w wr):=o.out.trans (hb.mono o.out.size);have T:Hid (Up w.heap.size (.slice (some ⟨Y.heap.size,0,none⟩) k k)):=fun a n c e=>by cases e;exact o.out.size
     clear ro hb;go_wp2;go_ret;exact⟨fun _=>⟨_,rfl,O.out,T.out⟩,fun h=>absurd Q.out h,Z.out⟩
  ·have B:Hid (SE=8):=by rw[Hid,d.out,Wc b]
   have M:((s.size:Int) != (m:Int))=true:=by rw[E.out];simp;omega
   have HT:Hid _:=dr 8 p Y;clear b d
   go_wp2_with fail
   refine We HT.out ?_;rintro e V2 ⟨rfl,rfl⟩;exact⟨rfl,fun h=>absurd (B.out.symm.trans h) vde,fun _=>by rw[B.out],o.out⟩
 ·have A:Hid (CE≠0):=hE
  have C:Hid (SE=CE):=by rw[Hid,q.out,Wc hE]
  have HP:Hid (∀X,WA qf 19 #[.int .i64 CE,.int .i64 (p:Int)] X fun e w'=>e=.panicked [gY CE (p:Int)]∧w'=X):=fun X=>gG CE _ (by simpa using hE) X;clear hE q y;refine Wz (S:=fun W=>af W w.heap.size 87 #[.string s,.int .i64 (p:Int)]∧Wh w.heap.size w W) vkr ⟨HQ.out,HB.out.drew⟩ (fun hS=>?_);refine vvq 0 7 (.pointer (some ⟨w.heap.size,0,none⟩)) ?_;refine vup 1 8 (.string s) rfl (fun W hW=>by have u:=af.cell hW.1 (i:=0) rfl;clear hS hW;go_simp) hS ?_;refine vvq 4 11 (.pointer (some ⟨w.heap.size,1,none⟩)) ?_;refine vup 5 12 (.int .i64 (p:Int)) rfl (fun W hW=>by have u:=af.cell hW.1 (i:=1) rfl;clear hS hW;go_simp) hS ?_;refine rd1 2 rfl (fun K hK=>?_);go_simp;refine We (HK.out _) ?_;rintro e Y ⟨rfl,j⟩;refine hK.out _ _ (⟨af.below hS.1 j (af.lt hS.1),hS.2.trans (j.mono hS.2.size)⟩) (fun hS1=>?_);clear hK hS K;have hS:=hS1;clear hS1;refine vup 3 10 (.int .i64 CE) rfl (fun W hW=>by have u:=H;clear hS hW;go_simp) hS ?_;refine rd1 6 rfl (fun K hK=>?_);go_simp;refine We (HP.out _) ?_;rintro e Y ⟨rfl,rfl⟩;exact⟨rfl,fun h=>absurd (C.out.symm.trans h) A.out,fun _=>by rw[C.out],hS.2⟩
end
section
open Go.RowKit PK
structure Dv(s:Rd):Prop where
 perm:Pm.aC s.p
 fix:∀i,i<26→s.st i=false→s.p i=i
 Vx:0<s.long→s.last<26∧s.st s.last=true∧s.p s.last=s.first∧s.first<26
theorem Dv.letter{s:Rd}(h:Dv s){i:Nat}(hi:i<26)(hs:s.st i=false):Dv (s.letter i):=by
 have hf:=h.fix i hi hs;unfold Rd.letter;by_cases hl:s.long=0
 ·simp only[hl,YI]
  have hp:upd s.p i i=s.p:=by
   funext j
   unfold upd;by_cases e:j=i
   ·rw[Wc e,e,hf]
   ·rw[V9 e]
  refine⟨?_,fun j hj hst=>?_,fun _=>?_⟩
  ·show Pm.aC (upd s.p i i);rw[hp];exact h.perm
  ·show upd s.p i i j=j
   rw[hp];have a:upd s.st i true j=false:=hst;unfold upd at a;by_cases e:j=i
   ·rw[Wc e]at a;cases a
   ·rw[V9 e]at a;exact h.fix j hj a
  ·refine⟨hi,?_,?_,hi⟩
   ·show upd s.st i true i=true;unfold upd;rw[Wc rfl]
   ·show upd s.p i i i=i;unfold upd;rw[Wc rfl]
 ·simp only[V9 hl]
  obtain⟨h1,h2,h3,h4⟩:=h.Vx vom;have b:s.last≠i:=fun e=>by rw[e,hs]at h2;cases h2
  have hv:∀j,upd (upd s.p s.last i) i s.first j=if j=i then s.first else if j=s.last then i else s.p j:=fun j=>rfl
  refine⟨⟨fun j hj=>?_,fun j k hj hk e=>?_⟩,fun j hj hst=>?_,fun _=>?_⟩
  ·show upd (upd s.p s.last i) i s.first j<26
   rw[hv];by_cases e1:j=i
   ·rw[Wc e1];exact h4
   ·rw[V9 e1]
    by_cases e2:j=s.last
    ·rw[Wc e2];exact hi
    ·rw[V9 e2];exact h.perm.lt j hj
  ·have e':upd (upd s.p s.last i) i s.first j=upd (upd s.p s.last i) i s.first k:=e
   rw[hv,hv]at e';have inj:=h.perm.inj;by_cases a1:j=i
   ·by_cases b1:k=i
    ·omega
    ·rw[Wc a1,V9 b1]at e'
     by_cases b2:k=s.last
     ·rw[Wc b2]at e'
      have:=inj s.last i h1 hi (by rw[h3,hf];exact e');exact absurd this b
     ·rw[V9 b2]at e'
      have:=inj s.last k h1 hk (by rw[h3];exact e');exact absurd this.symm b2
   ·rw[V9 a1]at e'
    by_cases b1:k=i
    ·rw[Wc b1]at e'
     by_cases a2:j=s.last
     ·rw[Wc a2]at e'
      have:=inj s.last i h1 hi (by rw[h3,hf];exact e'.symm);exact absurd this b
     ·rw[V9 a2]at e'
      have:=inj s.last j h1 hj (by rw[h3];exact e'.symm);exact absurd this.symm a2
    ·rw[V9 b1]at e'
     by_cases a2:j=s.last
     ·by_cases b2:k=s.last
      ·omega
      ·rw[Wc a2,V9 b2]at e'
       have:=inj i k hi hk (by rw[hf];exact e');exact absurd this.symm b1
     ·rw[V9 a2]at e'
      by_cases b2:k=s.last
      ·rw[Wc b2]at e'
       have:=inj j i hj hi (by rw[hf];exact e');exact absurd this a1
      ·rw[V9 b2]at e'
       exact inj j k hj hk e'
  ·show upd (upd s.p s.last i) i s.first j=j
   have a:upd s.st i true j=false:=hst;unfold upd at a;by_cases e:j=i
   ·rw[Wc e]at a;cases a
   ·rw[V9 e]at a
    rw[hv,V9 e,V9 (fun e2=>by rw[e2,h2]at a;cases a)];exact h.fix j hj a
  ·refine⟨hi,?_,?_,h4⟩
   ·show upd s.st i true i=true;unfold upd;rw[Wc rfl]
   ·show upd (upd s.p s.last i) i s.first i=s.first;rw[hv,Wc rfl]
theorem Dv.next{s:Rd}(h:Dv s)(c:Nat):Dv (s.next c):=by
 unfold Rd.next
 by_cases h1:s.op=false∧c=40
 ·rw[Wc h1];exact⟨h.perm,h.fix,fun h=>absurd h (Nat.lt_irrefl _)⟩
 ·rw[V9 h1]
  by_cases h2:s.op=true∧0<s.long∧c=41
  ·rw[Wc h2];exact⟨h.perm,h.fix,h.Vx⟩
  ·rw[V9 h2]
   by_cases h3:s.op=true∧65≤c∧c≤90
   ·rw[Wc h3]
    unfold Rd.rX;by_cases h4:s.st (c-65)=true
    ·rw[Wc h4];exact h
    ·rw[V9 h4];exact h.letter vom (by simpa using h4)
   ·rw[V9 h3];exact h
theorem EV(t:List UInt8):∀k,Dv (lp t k)
 |0=>⟨⟨fun _ h=>h,fun _ _ _ _ e=>e⟩,fun _ _ _=>rfl,fun h=>absurd h (Nat.lt_irrefl _)⟩
 |k+1=>(EV t k).next _
theorem Is{t:List UInt8}(h:(bE t).2.1=0):∃q,Pm.aC q∧(bE t).1=Pm.up q:=by
 unfold bE at h⊢;cases hr:fK t t.length with
 |some x=>
  rw[hr]at h;exfalso
  have:∀n,fK t n=some x→x.1≠0:=fun n=>by
   induction n with
   |zero=>intro h;cases h
   |succ n ih=>
    intro hx;unfold fK at hx;cases hn:fK t n with
    |some y=>rw[hn]at hx;cases hx;exact ih hn
    |none=>
     rw[hn]at hx;by_cases he:(lp t n).err (t.getD n 0).toNat≠0
     ·simp only[Wc he]at hx;cases hx;exact he
     ·simp only[V9 he]at hx;cases hx
  exact this _ hr h
 |none=>
  rw[hr]at h;by_cases ho:(lp t t.length).op=true
  ·simp only[Wc ho]at h;cases h
  ·simp only[V9 ho];exact⟨_,(EV t _).perm,rfl⟩
end
namespace PK
open Go.RowKit
def P7(n:Nat)(f g:Nat→Int):Bool:=(List.range n).all fun i=>f i==g i
theorem nQ{P:Wr}(w:V8)(e:Wj)(he:P.underlying e=some (.int .i64))(n:Nat)(f:Nat→Int)(i:Nat)(hi:i<n):(part e (ints n f) i).run P w=.ok (.int .i64 (f i)) w:=by
 simp[part,isAgg,Sem.run_bind,run_underlying he,aB f hi]
theorem rK{P:Wr}(w:V8)(d:Nat)(t e:Wj)(n:Nat)(hu:P.underlying t=some (.array n e))(he:P.underlying e=some (.int .i64))(hs:(P.info? e).map (·.size)=some 1)(f g:Nat→Int):
  (Op.equalIn (d+2) t (.agg (ints n f)) (.agg (ints n g))).run P w=.ok (P7 n f g) w:=by
 cases hq:P.info? e with
 |none=>simp[hq]at hs
 |some i=>
  have h1:i.size=1:=by simpa[hq]using hs
  have b:∀W,(sizeOf e).run P W=.ok 1 W:=fun W=>by simp[sizeOf,typeInfo,hq,h1]
  rw[Op.equalIn];simp only[XQ,run_underlying hu,Xo,b,Nat.mul_one,Std.Legacy.Range.forIn_eq_forIn_range',Std.Legacy.Range.size,Nat.sub_zero,Nat.add_sub_cancel,Nat.div_one];unfold P7;rw[List.range_eq_range'];have hL:∀i∈List.range' 0 n,i<n:=fun i hi=>by simp at hi;omega
  revert hL
  generalize List.range' 0 n=L;intro hL
  induction L with
  |nil=>simp
  |cons s L ih=>
   have a:s<n:=hL s vsi;have ih':=ih fun i hi=>hL i (by simp[hi]);rw[List.forIn_cons];simp only[XQ,nQ w e he n f s a,nQ w e he n g s a,Xo,run_equalIn_int w d e .i64 .i64 (f s) (g s) he,XT];cases hb:(f s==g s)
   ·simp
   ·simp only[Bool.not_true,WV,X9,Sem.run_pure,Xo,Bool.true_and]
    exact ih'
end PK
end Go.Proofs.YtpcnpkhgjanamaaGreatDoor
