import Derived.Test.YtpcnpkhgjanamaaGreatDoorPz
import Derived.Shelf.Strings.Search3
import Derived.Shelf.Lay
import Derived.Test.YtpcnpkhgjanamaaGreatDoorJn11
namespace Go.Proofs.YtpcnpkhgjanamaaGreatDoor
open Go.Proofs.Tryz renaming prog→qf
open Go renaming Value→R2,World→V8,Calls→WA
open Go.RowKit renaming Below→Wh
open Go.RowKit.Below renaming refl→Wm
open _root_.List renaming range→WO
open Go.Lib renaming indexByte→ZL
set_option maxRecDepth 100000
set_option maxHeartbeats 1000000
section
open Go.Shelf Go.RowKit PK
shelf_lay Lays.n143 Nm 143 at Tryz as Tryz.laysIndex
theorem SB:Tryz.laysIndex_ren.f 143=177:=vkr
shelf_lay Lays.n219 Nm 219 at Tryz as Tryz.laysIndexL
theorem O1:Tryz.laysIndexL_ren.f 219=163:=vkr
theorem C0(s:ByteArray)(c:UInt8)(w:V8):WA qf 177 #[.string s,.string ⟨#[c]⟩] w fun e w'=>e=.returned (.int .i64 (ZL s.data.toList c))∧w'=w:=by
 have h:=Any.strings_Index_one Tryz.laysIndex s c w;rw[SB]at h;exact h
theorem Df(s:ByteArray)(c:UInt8)(w:V8):WA qf 163 #[.string s,.string ⟨#[c]⟩] w fun e w'=>e=.returned (.int .i64 (ZL s.data.toList c))∧w'=w:=by
 have h:=Any.stringslite_Index_one Tryz.laysIndexL s c w;rw[O1]at h;exact h
def upto(c:UInt8)(l:List UInt8):List UInt8:=l.takeWhile (· != c)
theorem kQ(c:UInt8):∀l:List UInt8,(ZL l c=-1∧upto c l=l)∨(ZL l c=((upto c l).length:Int)∧(upto c l).length<l.length)
 |[]=>.inl ⟨rfl,rfl⟩
 |b :: l=>by
  unfold upto ZL;by_cases hb:b=c
  ·right
   simp[hb]
  ·have hb1:(b==c)=false:=XR hb
   have a:(b != c)=true:=by simp[hb]
   rw[List.takeWhile_cons,a,hb1];rcases kQ c l with⟨h1,h2⟩|⟨h1,h2⟩
   ·left
    unfold upto at h2;simp[h1,h2]
   ·right
    unfold upto at h1 h2;rw[h1];have h3:((((l.takeWhile (· != c)).length:Int))==-1)=false:=XR vom;rw[V9 vde,h3];simp;omega
theorem xU(c:UInt8)(l:List UInt8):l.take (upto c l).length=upto c l:=by
 unfold upto;have h:=List.takeWhile_append_dropWhile (p:=(· != c)) (l:=l)
 conv=>lhs;arg 2;rw[←h]
 rw[List.take_left']
 rfl
theorem lI(s:ByteArray)(a b:Nat):(s.extract a b).data.toList=(s.data.toList.take b).drop a:=by
 rw[ByteArray.data_extract];simp[List.drop_take]
theorem LC(s:ByteArray)(c:UInt8)(hs:s.size≤65536)(w:V8):WA qf 138 #[.string s,.string ⟨#[c]⟩] w fun e w'=>∃r f,e=.returned (.tuple #[.string ⟨(upto c s.data.toList).toArray⟩,.string r,.bool f])∧Wh w.heap.size w w':=by
 have HI:Hid _:=Df s c w;have hl:=Pl.aN s;rcases kQ c s.data.toList with⟨h1,h2⟩|⟨h1,h2⟩
 ·have HU:Hid (⟨(upto c s.data.toList).toArray⟩=s):=by rw[Hid,h2]
  rw[h1]at HI;clear h1 h2 hl;go_enter Tryz.func138,Tryz.ntmps138
  go_wp2_with fail
  refine We HI.out ?_;rintro e V ⟨rfl,rfl⟩;go_wp2
  go_ret3
  exact⟨_,_,by rw[HU.out];rfl,Wm _ _⟩
 ·rw[h1]at HI
  obtain⟨m,hm⟩:∃m,m=(upto c s.data.toList).length:=⟨_,rfl⟩
  rw[←hm]at HI h2;have c2:m<s.size:=vom;have c3:(m:Int)≤(s.size:Int):=vom;have c4:((m:Int)+1)≤(s.size:Int):=vom
  have HX:Hid ((s.extract 0 m)=⟨(upto c s.data.toList).toArray⟩):=by
   rw[Hid];have:(s.extract 0 m).data.toList=upto c s.data.toList:=by rw[lI,hm,xU];rfl
   cases hE:s.extract 0 m with
   |mk d=>
    rw[hE]at this;rw[←this]
  clear h1 h2 hl hm;go_enter Tryz.func138,Tryz.ntmps138
  go_wp2_with fail
  refine We HI.out ?_;rintro e V ⟨rfl,rfl⟩;go_wp2
  go_region
  all_goals go_wp2
  go_ret3
  exact⟨_,_,by rw[←HX.out];rfl,(Wm _ _).drew⟩
theorem OD(s:ByteArray)(c:UInt8)(hs:s.size≤65536)(w:V8):WA qf 114 #[.string s,.string ⟨#[c]⟩] w fun e w'=>∃r f,e=.returned (.tuple #[.string ⟨(upto c s.data.toList).toArray⟩,.string r,.bool f])∧Wh w.heap.size w w':=by
 have HC:Hid _:=LC s c hs w;go_enter Tryz.func114,Tryz.ntmps114
 go_wp2_with fail
 refine We HC.out ?_;rintro e V ⟨r,f,rfl,hb⟩;go_wp2
 go_ret3
 exact⟨_,_,rfl,hb⟩
theorem cE{P:Program}{fn:Func}{p:Tmp}{ty:TypeId}(h:fn.results=#[.cell p ty])(tmps:Array R2)(w:V8)(g:Nat)(t:TypeId)(cs:Array R2)(fr:Nat×Nat)(d:TypeDesc)
  (hp:tmps.getD p undef=.pointer (some ⟨g,0,none⟩)) (hg:w.heap[g]?=some (.cells cs t fr))
  (hu:P.underlying ty=some d) (hd:(match d with|.struct _|.array _ _=>true|_=>false)=true) (hi:(P.info? ty).map (·.size)=some cs.size) :
  (results fn tmps).run P w=.ok (.agg cs) w:=by
 have a:tmps[p]?.getD undef=.pointer (some ⟨g,0,none⟩):=by simpa using hp
 simp[results,h,a,asAddr,run_loadVar_row w g t ty cs fr d hg hu hd hi]
structure Fb(b:Nat)(W W':V8):Prop where
 os:W'.os=W.os
 tape:W'.tape=W.tape
 output:W'.output=W.output
 size:W.heap.size≤W'.heap.size
 block:∀k,k<W.heap.size→k≠b→W'.heap[k]?=W.heap[k]?
theorem Fb.trans{b:Nat}{A B C:V8}(h:Fb b A B)(k:Fb b B C):Fb b A C:=
 ⟨k.os.trans h.os,k.tape.trans h.tape,k.output.trans h.output,Ws h.size k.size,fun i hi hb=>(k.block i (by have:=h.size;omega) hb).trans (h.block i hi hb)⟩
theorem Fb.of{b:Nat}{A B:V8}(h:Wh A.heap.size A B):Fb b A B:=⟨h.os,h.tape,h.output,h.size,fun i hi _=>h.block i hi⟩
theorem Fb.old{b:Nat}{w0 A B:V8}(h0:Wh w0.heap.size w0 A)(h:Fb b A B)(hb:w0.heap.size≤b):Wh w0.heap.size w0 B:=
 ⟨h.os.trans h0.os,h.tape.trans h0.tape,h.output.trans h0.output,Ws h0.size h.size,fun i hi=>(h.block i (by have:=h0.size;omega) vom).trans (h0.block i hi)⟩
theorem Fb.row{b q:Nat}{A B:V8}{T:TypeId}{c:Array R2}(h:Fb b A B)(hr:af A q T c)(hq:q≠b):af B q T c:=(h.block q hr.lt hq).trans hr
theorem Fb.alloc(b:Nat)(W:V8)(o:Obj):Fb b W (W.alloc o):=Fb.of ((Wm _ W).alloc (R3 _) _)
theorem Fb.set{b:Nat}{A B:V8}(h:Fb b A B)(i:Nat)(v:R2):Fb b A (B.setCell ⟨b,i,none⟩ v):=
 ⟨h.os,h.tape,h.output,by have:=h.size;simpa using this,fun k hk hb=>(WT B ⟨b,i,none⟩ k v hb).trans (h.block k hk hb)⟩
def cV(W:V8)(b:Nat)(T:ByteArray)(p:Nat):Prop:=af W b 59 #[.string T,.int .i64 (p:Int)]
def wq(T:List UInt8)(p:Nat):List UInt8:=upto 32 (T.drop p)
theorem mP(b:Nat)(T:ByteArray)(p:Nat)(w:V8)(hr:cV w b T p):WA qf 38 #[.pointer (some ⟨b,0,none⟩)] w fun e w'=>e=.returned (.bool (decide (T.size<p)))∧Wh w.heap.size w w':=by
 have c0:=hr.cell (i:=0) rfl;have c1:=hr.cell (i:=1) rfl;go_enter Tryz.func38,Tryz.ntmps38;go_wp2
 go_region
 all_goals go_wp2
 go_ret;exact⟨rfl,(Wm _ _).drew⟩
theorem EX:(qf.info? 87).map (·.size)=some 2:=vkr
def wm(l:List UInt8)(p:Nat):R2:=.agg #[.string ⟨l.toArray⟩,.int .i64 (p:Int)]
theorem DC(b:Nat)(T:ByteArray)(p:Nat)(w:V8)(hr:cV w b T p)(hp:T.size<p):WA qf 75 #[.pointer (some ⟨b,0,none⟩)] w fun e w'=>e=.panicked [gY 2 T.size]∧Wh w.heap.size w w':=by
 have c:Wh w.heap.size w (w.alloc (.cells #[.string ⟨#[]⟩,.int .i64 0] 87)):=(Wm _ w).alloc (R3 _) _;have a:cV (w.alloc (.cells #[.string ⟨#[]⟩,.int .i64 0] 87)) b T p:=af.alloc hr _;have HE:Hid _:=mP b T p _ a;have hd:decide (T.size<p)=true:=by simpa using hp
 rw[hd]at HE;have HR:Hid _:=a;have HB:Hid _:=c;clear hr a c hd;go_enter Tryz.func75,Tryz.ntmps75
 go_wp2_with fail
 refine We HE.out ?_;rintro e V ⟨rfl,hb⟩;have d:cV V b T p:=af.below HR.out hb (af.lt HR.out);have c0:=d.cell (i:=0) rfl;have HT:Hid _:=dr 2 T.size V;have f:Hid (Wh w.heap.size w V):=HB.out.trans (hb.mono HB.out.size);clear hb d
 go_wp2_with fail
 refine We HT.out ?_;rintro e V2 ⟨rfl,rfl⟩;exact⟨rfl,rfl,f.out⟩
theorem Di(b:Nat)(T:ByteArray)(p:Nat)(w:V8)(hr:cV w b T p)(hp:p≤T.size)(hs:T.size≤65536):WA qf 75 #[.pointer (some ⟨b,0,none⟩)] w fun e w'=>(wq T.data.toList p=[]→e=.panicked [gY 2 p])∧(wq T.data.toList p≠[]→e=.returned (wm (wq T.data.toList p) p))∧Wh w.heap.size w w':=by
 have q:Wh w.heap.size w (w.alloc (.cells #[.string ⟨#[]⟩,.int .i64 0] 87)):=(Wm _ w).alloc (R3 _) _;have d:cV (w.alloc (.cells #[.string ⟨#[]⟩,.int .i64 0] 87)) b T p:=af.alloc hr _;have m:=af.new w 87 #[.string ⟨#[]⟩,.int .i64 0];have A:b≠w.heap.size:=by have:=hr.lt;omega
 have HE:Hid _:=mP b T p _ d;have hd:decide (T.size<p)=false:=by simpa using hp
 rw[hd]at HE;have HR:Hid _:=d;have HQ:Hid _:=m;have HB:Hid _:=q;have B:(p:Int)≤(T.size:Int):=vom
 have HX:Hid ((T.extract p T.size).data.toList=T.data.toList.drop p):=by
  rw[Hid,lI,ZD (by rw[←Pl.aN T];omega)]
 have t:(T.extract p T.size).size≤65536:=by rw[Pl.aN,HX.out];simp;have:=Pl.aN T;simp at this;omega
 have HC:Hid (∀X,WA qf 114 #[.string (T.extract p T.size),.string ⟨#[32]⟩] X fun e w'=>∃r f,e=.returned (.tuple #[.string ⟨(wq T.data.toList p).toArray⟩,.string r,.bool f])∧Wh X.heap.size X w'):=fun X=>by
  have:=OD (T.extract p T.size) 32 t X;rw[HX.out]at this;exact this
 generalize hwd:wq T.data.toList p=WD at *;clear hr d q hd m t HX hwd;go_enter Tryz.func75,Tryz.ntmps75
 go_wp2_with fail
 refine We HE.out ?_;rintro e V ⟨rfl,hb⟩;have c:cV V b T p:=af.below HR.out hb (af.lt HR.out);have s:=af.below HQ.out hb (af.lt HQ.out);have c0:=c.cell (i:=0) rfl;have c1:=c.cell (i:=1) rfl;have o:Hid (Wh w.heap.size w V):=HB.out.trans (hb.mono HB.out.size);have n:Hid _:=c;have j:Hid _:=s;clear hb c s HE
 go_wp2_with fail
 refine Xb ?_;refine Wz (S:=fun W=>cV W b T p∧Wh V.heap.size V W) vkr ⟨n.out,(Wm _ _).drew⟩ (fun hS=>?_);refine vuq 0 15 (.pointer (some ⟨b,0,none⟩)) ?_;refine vuq 1 16 (.pointer (some ⟨b,0,none⟩)) ?_;refine vuq 2 17 (.pointer (some ⟨b,0,none⟩)) ?_;refine vuk 3 18 (.string T) rfl (fun W hW=>by have u:=af.cell hW.1 (i:=0) rfl;clear hS hW;go_simp) hS ?_;refine vuq 4 19 (.pointer (some ⟨b,0,none⟩)) ?_;refine vuq 5 20 (.pointer (some ⟨b,0,none⟩)) ?_;refine vuq 6 21 (.pointer (some ⟨b,1,none⟩)) ?_;refine vuk 7 22 (.int .i64 (p:Int)) rfl (fun W hW=>by have u:=af.cell hW.1 (i:=1) rfl;clear hS hW;go_simp) hS ?_;refine vuq 8 23 (.string (T.extract p T.size)) ?_;refine rd1 9 rfl (fun K hK=>?_);go_simp;refine We (HC.out _) ?_;rintro e Y ⟨r,f,rfl,v⟩;refine hK.out _ _ (⟨af.below hS.1 v (af.lt hS.1),hS.2.trans (v.mono hS.2.size)⟩) (fun hS1=>?_);clear hK hS K;have hS:=hS1;clear hS1;refine vuq 10 14 (.tuple #[.string ⟨WD.toArray⟩,.string r,.bool f]) ?_;refine vuq 11 25 (.string ⟨WD.toArray⟩) ?_;refine vuq 12 26 (.string r) ?_;refine vuq 13 27 (.bool f) ?_;refine vuq 14 3 (.string ⟨WD.toArray⟩) ?_;refine vuq 15 4 (.string r) ?_;refine vuq 16 5 (.bool f) ?_;refine Xq vkr ?_ _;refine WU ?_;obtain⟨l,g⟩:=hS;have a:=af.below j.out g (af.lt j.out);have k:Hid (Wh w.heap.size w Y):=o.out.trans (g.mono o.out.size);have c1y:=af.cell l (i:=1) rfl;have q0:=af.cell a (i:=0) rfl;have q1:=af.cell a (i:=1) rfl;have f0:=af.frozen a 0;have f1:=af.frozen a 1;have HT:Hid _:=dr 2 p Y;have x:Hid (af ((Y.setCell ⟨w.heap.size,0,none⟩ (.string ⟨WD.toArray⟩)).setCell ⟨w.heap.size,1,none⟩ (.int .i64 (p:Int))) w.heap.size 87 #[.string ⟨WD.toArray⟩,.int .i64 (p:Int)]):=(af.set a 0 _).set 1 _;have z:Hid (Wh w.heap.size w ((Y.setCell ⟨w.heap.size,0,none⟩ (.string ⟨WD.toArray⟩)).setCell ⟨w.heap.size,1,none⟩ (.int .i64 (p:Int)))):=(k.out.setCell (p:=⟨w.heap.size,0,none⟩) (R3 _) _).setCell (p:=⟨w.heap.size,1,none⟩) (R3 _) _;clear l g a c0 c1 HC HR HQ n j;by_cases hWD:WD=[]
 ·subst hWD
  go_wp2_with fail
  refine We HT.out ?_;rintro e V2 ⟨rfl,rfl⟩;exact⟨rfl,fun _=>rfl,fun h=>absurd rfl h,k.out⟩
 ·have C:WD.isEmpty=false:=by simpa using hWD
  have y:Hid (WD≠[]):=hWD;clear hWD;go_wp2;exact⟨rfl,_,cE rfl _ _ w.heap.size 87 #[.string ⟨WD.toArray⟩,.int .i64 (p:Int)] (0,0) _ rfl x.out Tryz.underlying87 rfl EX,fun h=>absurd h y.out,fun _=>rfl,z.out⟩
def wE(T:List UInt8)(p:Nat):Int:=if T.length<p then 2 else if wq T p=[]then 2 else 0
def wA(T:List UInt8)(p:Nat):Nat:=if T.length<p then T.length else p
theorem yj(b:Nat)(T:ByteArray)(p:Nat)(w:V8)(hr:cV w b T p)(hs:T.size≤65536):WA qf 75 #[.pointer (some ⟨b,0,none⟩)] w fun e w'=>(wE T.data.toList p≠0→e=.panicked [gY 2 (wA T.data.toList p)])∧(wE T.data.toList p=0→e=.returned (wm (wq T.data.toList p) p))∧Wh w.heap.size w w':=by
 have hl:=Pl.aN T;unfold wE wA;by_cases hp:T.data.toList.length<p
 ·rw[Wc hp,Wc hp]
  refine We (DC b T p w hr vom) ?_;rintro e w' ⟨rfl,hb⟩;exact⟨fun _=>by rw[←hl],fun h=>absurd h vde,hb⟩
 ·rw[V9 hp,V9 hp]
  refine We (Di b T p w hr vom hs) ?_;rintro e w' ⟨h1,h2,hb⟩;by_cases hw:wq T.data.toList p=[]
  ·rw[Wc hw];exact⟨fun _=>h1 hw,fun h=>absurd h vde,hb⟩
  ·rw[V9 hw];exact⟨fun h=>absurd rfl h,fun _=>h2 hw,hb⟩
theorem Mq(b:Nat)(T:ByteArray)(p:Nat)(w:V8)(hr:cV w b T p)(hs:T.size≤65536):WA qf 39 #[.pointer (some ⟨b,0,none⟩)] w fun e w'=>(wE T.data.toList p≠0→e=.panicked [gY 2 (wA T.data.toList p)])∧(wE T.data.toList p=0→e=.returned (wm (wq T.data.toList p) p)∧cV w' b T (p+(wq T.data.toList p).length+1))∧Fb b w w':=by
 have F:Wh w.heap.size w (w.alloc (.cells #[.string ⟨#[]⟩,.int .i64 0] 87)):=(Wm _ w).alloc (R3 _) _;have v:cV (w.alloc (.cells #[.string ⟨#[]⟩,.int .i64 0] 87)) b T p:=af.alloc hr _;have z:=af.new w 87 #[.string ⟨#[]⟩,.int .i64 0];have J:Hid (b<w.heap.size):=af.lt hr;have HA:=yj b T p _ v hs;have hl:=Pl.aN T
 have u:Hid (wE T.data.toList p=0→p≤T.size∧(wq T.data.toList p).length≤65536):=fun h=>by
  unfold wE at h;by_cases hp:T.data.toList.length<p
  ·rw[Wc hp]at h;cases h
  ·refine⟨vom,?_⟩
   unfold wq upto;have h1:=(List.takeWhile_sublist (l:=T.data.toList.drop p) (· != (32:UInt8))).length_le;have h2:(T.data.toList.drop p).length=T.data.toList.length-p:=List.length_drop;omega
 generalize wq T.data.toList p=WD at *;generalize wA T.data.toList p=A at *;generalize hwe:wE T.data.toList p=E at *;have HR:Hid (cV (w.alloc (.cells #[.string ⟨#[]⟩,.int .i64 0] 87)) b T p):=v;have HQ:Hid (af (w.alloc (.cells #[.string ⟨#[]⟩,.int .i64 0] 87)) w.heap.size 87 #[.string ⟨#[]⟩,.int .i64 0]):=z;have HB:Hid _:=F;clear hr v z F hl hwe;go_enter Tryz.func39,Tryz.ntmps39;by_cases hE:E=0
 ·obtain⟨Q,P⟩:=u.out hE
  have L:Hid (E=0):=hE;have f:Hid (WA qf 75 #[.pointer (some ⟨b,0,none⟩)] (w.alloc (.cells #[.string ⟨#[]⟩,.int .i64 0] 87)) fun e w'=>e=.returned (wm WD p)∧Wh (w.alloc (.cells #[.string ⟨#[]⟩,.int .i64 0] 87)).heap.size (w.alloc (.cells #[.string ⟨#[]⟩,.int .i64 0] 87)) w'):=We HA (fun e w' h=>⟨h.2.1 hE,h.2.2⟩);clear HA u hE;unfold wm at f
  go_wp2_with fail
  refine We f.out ?_;rintro e V ⟨rfl,hb⟩;have H:cV V b T p:=af.below HR.out hb (af.lt HR.out);have t:=af.below HQ.out hb (af.lt HQ.out);have s:Hid (Wh w.heap.size w V):=HB.out.trans (hb.mono HB.out.size);clear hb f
  go_upto_region 2 with fail
  have j:cV (V.alloc (.cells #[.string ⟨WD.toArray⟩,.int .i64 (p:Int)] 87)) b T p:=af.alloc H _;have m:=af.new V 87 #[.string ⟨WD.toArray⟩,.int .i64 (p:Int)];have G:=af.alloc t (.cells #[.string ⟨WD.toArray⟩,.int .i64 (p:Int)] 87);have C:Wh w.heap.size w (V.alloc (.cells #[.string ⟨WD.toArray⟩,.int .i64 (p:Int)] 87)):=s.out.alloc s.out.size _;have K:w.heap.size<V.heap.size:=af.lt t;have a:Hid (b≠V.heap.size∧w.heap.size≠V.heap.size∧b≠w.heap.size):=⟨by have:=J.out;omega,vom,by have:=J.out;omega⟩
  generalize V.alloc (.cells #[.string ⟨WD.toArray⟩,.int .i64 (p:Int)] 87)=V2 at *;obtain⟨q,hq⟩:∃q,q=V.heap.size:=⟨_,rfl⟩
  rw[←hq]at m a⊢;have c1:=af.cell j (i:=1) rfl;have f1:=af.frozen j 1;have w0:=af.cell m (i:=0) rfl;have n:(p:Int)+((WD.length:Int)+1)=((p+WD.length+1:Nat):Int):=vom;have o:Hid _:=n;have U:(p:Int)≤65536:=vom;have W:(WD.length:Int)≤65536:=vom;have B:Hid (cV V2 b T p):=j;have y:Hid (af V2 q 87 #[.string ⟨WD.toArray⟩,.int .i64 (p:Int)]):=m;have I:Hid (af V2 w.heap.size 87 #[.string ⟨#[]⟩,.int .i64 0]):=G;have D:Hid _:=C;clear j m G C K hq H t s n Q P
  go_region
  have x:cV (V2.setCell ⟨b,1,none⟩ (.int .i64 ((p:Int)+((WD.length:Int)+1)))).drew b T (p+WD.length+1):=by
   have:=af.set B.out 1 (.int .i64 ((p:Int)+((WD.length:Int)+1)));unfold cV;rw[←o.out];exact this
  have g:=af.drew (af.setOther y.out ⟨b,1,none⟩ (.int .i64 ((p:Int)+((WD.length:Int)+1))) (fun h=>a.out.1 h.symm));have d:=af.drew (af.setOther I.out ⟨b,1,none⟩ (.int .i64 ((p:Int)+((WD.length:Int)+1))) (fun h=>a.out.2.2 h.symm))
  have c:Fb b w (V2.setCell ⟨b,1,none⟩ (.int .i64 ((p:Int)+((WD.length:Int)+1)))).drew:=by
   have:=(Fb.of (b:=b) D.out).set 1 (.int .i64 ((p:Int)+((WD.length:Int)+1)));exact⟨this.os,this.tape,this.output,this.size,this.block⟩
  generalize (V2.setCell ⟨b,1,none⟩ (.int .i64 ((p:Int)+((WD.length:Int)+1)))).drew=V3 at *;have u0:=af.cell g (i:=0) rfl;have u1:=af.cell g (i:=1) rfl;have q0:=af.cell d (i:=0) rfl;have q1:=af.cell d (i:=1) rfl;have f0:=af.frozen d 0;have f1':=af.frozen d 1;have M:Hid (af ((V3.setCell ⟨w.heap.size,0,none⟩ (.string ⟨WD.toArray⟩)).setCell ⟨w.heap.size,1,none⟩ (.int .i64 (p:Int))) w.heap.size 87 #[.string ⟨WD.toArray⟩,.int .i64 (p:Int)]):=(af.set d 0 _).set 1 _;have O:Hid (cV ((V3.setCell ⟨w.heap.size,0,none⟩ (.string ⟨WD.toArray⟩)).setCell ⟨w.heap.size,1,none⟩ (.int .i64 (p:Int))) b T (p+WD.length+1)):=af.setOther (af.setOther x _ _ a.out.2.2) _ _ a.out.2.2
  have N:Hid (Fb b w ((V3.setCell ⟨w.heap.size,0,none⟩ (.string ⟨WD.toArray⟩)).setCell ⟨w.heap.size,1,none⟩ (.int .i64 (p:Int)))):=by
   refine⟨c.os,c.tape,c.output,by have:=c.size;simpa using this,fun k hk hkb=>?_⟩;exact(WT _ ⟨w.heap.size,1,none⟩ k _ (by show k≠w.heap.size;omega)).trans ((WT _ ⟨w.heap.size,0,none⟩ k _ (by show k≠w.heap.size;omega)).trans (c.block k hk hkb))
  clear x g d c B y I D o a;go_wp2;exact⟨rfl,_,cE rfl _ _ w.heap.size 87 #[.string ⟨WD.toArray⟩,.int .i64 (p:Int)] (0,0) _ rfl M.out Tryz.underlying87 rfl EX,fun h=>absurd L.out h,fun _=>⟨rfl,O.out⟩,N.out⟩
 ·have f:Hid (WA qf 75 #[.pointer (some ⟨b,0,none⟩)] (w.alloc (.cells #[.string ⟨#[]⟩,.int .i64 0] 87)) fun e w'=>e=.panicked [gY 2 A]∧Wh (w.alloc (.cells #[.string ⟨#[]⟩,.int .i64 0] 87)).heap.size (w.alloc (.cells #[.string ⟨#[]⟩,.int .i64 0] 87)) w'):=We HA (fun e w' h=>⟨h.1 hE,h.2.2⟩)
  have S:Hid (E≠0):=hE;clear HA u hE
  go_wp2_with fail
  refine We f.out ?_;rintro e V ⟨rfl,hb⟩;exact⟨rfl,fun _=>rfl,fun h=>absurd h S.out,Fb.of (HB.out.trans (hb.mono HB.out.size))⟩
end
namespace Pm
def bad(f:Nat→Int)(i:Nat):Int:=if f i<0∨26≤f i then 3 else if(WO i).any (fun j=>f j==f i)then 8 else 0
def eF(f:Nat→Int):Nat→Int
 |0=>0
 |n+1=>if eF f n≠0 then eF f n else bad f n
def wrong(f:Nat→Int):Int:=eF f 26
theorem sA(f : Nat→Int)(k n : Nat)(h : eF f k≠0)(hn : k≤n): eF f n = eF f k:=by
  induction n with
  | zero => have : k = 0 := by omega
            subst this;rfl
  |succ n ih=>
    by_cases e : k = n + 1
    · rw[e]
    · have:=ih vom
      show(if eF f n≠0 then eF f n else bad f n)=_;rw[this,Wc h]
theorem iZ(f:Nat→Int)(k:Nat)(h:eF f k=0):eF f (k+1)=bad f k:=by
 show(if eF f k≠0 then eF f k else bad f k)=_;rw[V9 (by simp[h])]
theorem uk(f:Nat→Int)(k:Nat)(h:eF f k=0)(hb:bad f k≠0)(hk:k<26):wrong f=bad f k:=by
 have h1:=iZ f k h;have:=sA f (k+1) 26 (by rw[h1];exact hb) vom;unfold wrong;rw[this,h1]
theorem Hq(f:Nat→Int)(k:Nat)(h:eF f k=0)(hk:k=26):wrong f=0:=by subst hk;exact h
def seen(f:Nat→Int)(k:Nat)(v:Nat):Bool:=(WO k).any (fun j=>f j==(v:Int))
theorem GZ(f:Nat→Int)(k v:Nat):seen f (k+1) v=(seen f k v||f k==(v:Int)):=by
 simp[seen,List.range_succ,List.any_append]
theorem xZ(f:Nat→Int)(i:Nat)(h:f i<0∨26≤f i):bad f i=3:=by simp[bad,h]
theorem Nh(f:Nat→Int)(i n:Nat)(h:f i=(n:Int))(hn:n<26)(hs:seen f i n=true):bad f i=8:=by
 unfold bad;rw[V9 vom,Wc (by rw[h];exact hs)]
theorem Qz(f:Nat→Int)(i n:Nat)(h:f i=(n:Int))(hn:n<26)(hs:seen f i n=false):bad f i=0:=by
 unfold bad;rw[V9 vom,V9 (by rw[h];simpa[seen]using hs)]
theorem sD(f:Nat→Int):∀n,eF f n=0↔∀i,i<n→bad f i=0
 |0=>by simp[eF]
 |n+1=>by
  have ih:=sD f n;constructor
  ·intro h i hi
   by_cases e:eF f n=0
   ·rw[iZ f n e]at h
    by_cases e2:i=n
    ·rw[e2];exact h
    ·exact ih.1 e i vom
   ·exact absurd ((sA f n (n+1) e vom).symm.trans h) e
  ·intro h
   rw[iZ f n (ih.2 fun i hi=>h i vom)];exact h n vom
theorem mz(f:Nat→Int)(i:Nat):bad f i=0↔(0≤f i∧f i<26∧∀j,j<i→f j≠f i):=by
 unfold bad;by_cases h1:f i<0∨26≤f i
 ·rw[Wc h1]
  constructor
  ·intro h;exact absurd h vde
  ·intro ⟨a,b,_⟩;omega
 ·rw[V9 h1]
  by_cases h2:(WO i).any (fun j=>f j==f i)=true
  ·rw[Wc h2]
   simp at h2;obtain⟨j,hj,e⟩:=h2;constructor
   ·intro h;exact absurd h vde
   ·intro ⟨_,_,c⟩;exact absurd e (c j hj)
  ·rw[V9 h2]
   simp at h2;simp only[true_iff];exact⟨vom,vom,h2⟩
structure aC(p:Nat→Nat):Prop where
 lt:∀i,i<26→p i<26
 inj:∀i j,i<26→j<26→p i=p j→i=j
def up(p:Nat→Nat):Nat→Int:=fun i=>(p i:Int)
theorem oh(f:Nat→Int):wrong f=0↔∃p,aC p∧∀i,i<26→f i=(p i:Int):=by
 unfold wrong;rw[sD];constructor
 ·intro h
  refine⟨fun i=>(f i).toNat,⟨fun i hi=>?_,fun i j hi hj e=>?_⟩,fun i hi=>?_⟩
  ·have:=(mz f i).1 (h i hi);show(f i).toNat<26;omega
  ·have h1:=(mz f i).1 (h i hi)
   have h2:=(mz f j).1 (h j hj);have e':f i=f j:=by have e:(f i).toNat=(f j).toNat:=e;omega
   rcases Nat.lt_trichotomy i j with c|c|c
   ·exact absurd e' (h2.2.2 i c)
   ·exact c
   ·exact absurd e'.symm (h1.2.2 j c)
  ·have:=(mz f i).1 (h i hi);show f i=((f i).toNat:Int);omega
 ·rintro⟨p,hp,he⟩ i hi
  rw[mz,he i hi];have:=hp.lt i hi;refine⟨vom,vom,fun j hj=>?_⟩;rw[he j vom];intro e;have:=hp.inj j i vom hi vom;omega
theorem pI(p:Nat→Nat)(hp:aC p):wrong (up p)=0:=(oh _).2 ⟨p,hp,fun _ _=>rfl⟩
def cm(fs:Nat→Nat→Int):Nat→Int
 |0=>0
 |n+1=>if cm fs n≠0 then cm fs n else wrong (fs n)
theorem ff(fs:Nat→Nat→Int)(k:Nat)(h:cm fs k=0):cm fs (k+1)=wrong (fs k):=by
 show(if cm fs k≠0 then cm fs k else wrong (fs k))=_;rw[V9 (by simp[h])]
theorem wu(fs : Nat→Nat→Int)(k n : Nat)(h : cm fs k≠0)(hn : k≤n): cm fs n = cm fs k:=by
  induction n with
  | zero => have : k = 0 := by omega
            subst this;rfl
  |succ n ih=>
    by_cases e : k = n + 1
    · rw[e]
    · have:=ih vom
      show(if cm fs n≠0 then cm fs n else wrong (fs n))=_;rw[this,Wc h]
theorem wW(fs:Nat→Nat→Int)(k n:Nat)(h:cm fs k=0)(hb:wrong (fs k)≠0)(hk:k<n):cm fs n=wrong (fs k):=by
 have h1:=ff fs k h;rw[wu fs (k+1) n (by rw[h1];exact hb) vom,h1]
theorem dP:∀(l m:List Nat),l.Nodup→(∀x∈l,x∈m)→l.length≤m.length
 |[],_,_,_=>XE _
 |a :: l,m,hd,hs=>by
  have ha:a∈m:=hs a vsi;have b:=List.nodup_cons.1 hd
  have:=dP l (m.erase a) b.2 (fun x hx=>by
   have c:x≠a:=fun e=>b.1 (e▸hx);exact(List.mem_erase_of_ne c).2 (hs x (by simp[hx])))
  rw[List.length_erase_of_mem ha]at this;have d:0<m.length:=List.length_pos_of_mem ha;simp;omega
theorem ir(p:Nat→Nat):∀(l:List Nat),l.Nodup→(∀i∈l,∀j∈l,p i=p j→i=j)→(l.map p).Nodup
 |[],_,_=>by simp
 |a :: l,hd,hi=>by
  have hd':=List.nodup_cons.1 hd;rw[Y9,List.nodup_cons];refine⟨?_,ir p l hd'.2 fun i h1 j h2=>hi i (by simp[h1]) j (by simp[h2])⟩;intro h;obtain⟨x,hx,e⟩:=Yh.1 h;have:=hi x (by simp[hx]) a vsi e;exact hd'.1 (this▸hx)
theorem aC.U8{p:Nat→Nat}(hp:aC p)(j:Nat)(hj:j<26):∃i,i<26∧p i=j:=by
 apply XB;intro hn;have c:∀i,i<26→p i≠j:=fun i hi e=>hn ⟨i,hi,e⟩;have h1:=ir p (WO 26) Yt (fun i hi k hk e=>hp.inj i k (by simpa using hi) (by simpa using hk) e)
 have h2:=dP _ ((WO 26).erase j) h1 (fun x hx=>by
  obtain⟨i,hi,e⟩:=Yh.1 hx;have a:i<26:=by simpa using hi
  have b:x≠j:=by rw[←e];exact c i a
  exact(List.mem_erase_of_ne b).2 (by rw[←e];simpa using hp.lt i a))
 rw[List.length_erase_of_mem (by simpa using hj)]at h2;simp at h2
def inv(p:Nat→Nat)(j:Nat):Nat:=((WO 26).find? fun i=>p i==j).getD 0
theorem aC.fo{p:Nat→Nat}(hp:aC p)(j:Nat)(hj:j<26):inv p j<26∧p (inv p j)=j:=by
 unfold inv;cases h:(WO 26).find? fun i=>p i==j with
 |none=>
  obtain⟨i,hi,e⟩:=hp.U8 j hj;have:=List.find?_eq_none.1 h i (by simpa using hi);simp[e]at this
 |some i=>
  have h1:=List.find?_some h;have h2:=List.mem_of_find?_eq_some h;simp at h1 h2;exact⟨h2,h1⟩
theorem aC.uV{p:Nat→Nat}(hp:aC p)(i:Nat)(hi:i<26):inv p (p i)=i:=by
 have:=hp.fo (p i) (hp.lt i hi);exact hp.inj _ _ this.1 hi this.2
theorem aC.inv{p:Nat→Nat}(hp:aC p):aC (inv p):=
 ⟨fun i hi=>(hp.fo i hi).1,fun i j hi hj e=>by
  have h1:=(hp.fo i hi).2;have h2:=(hp.fo j hj).2;rw[e,h2]at h1;exact h1.symm⟩
theorem aC.comp{p q:Nat→Nat}(hp:aC p)(hq:aC q):aC (fun i=>q (p i)):=
 ⟨fun i hi=>hq.lt _ (hp.lt i hi),fun i j hi hj e=>hp.inj i j hi hj (hq.inj _ _ (hp.lt i hi) (hp.lt j hj) e)⟩
theorem aC.id:aC (fun i=>i):=⟨fun _ h=>h,fun _ _ _ _ e=>e⟩
def lC(p x:Nat→Nat):Nat→Nat:=fun k=>x (p (inv x k))
theorem aC.lC{p x:Nat→Nat}(hp:aC p)(hx:aC x):aC (lC p x):=(hx.inv.comp hp).comp hx
end Pm
namespace Om
open Pm Vg
structure Ma where
 n:Nat
 wi:Nat→Nat→Nat
 no:Nat→List Nat
 ri:Nat→Nat
 st:Nat→Nat
 rf:Nat→Nat
 pl:Nat→Nat
structure Ok(M:Ma):Prop where
 pos:1≤M.n
 most:M.n≤4
 wi:∀i,i<M.n→aC (M.wi i)
 no:∀i,i<M.n→∀k,k∈M.no i→k<26
 ri:∀i,i<M.n→M.ri i<26
 st:∀i,i<M.n→M.st i<26
 rf:aC M.rf
 Jf:∀c,c<26→M.rf (M.rf c)=c
 Vp:∀c,c<26→M.rf c≠c
 pl:aC M.pl
 zD:∀c,c<26→M.pl (M.pl c)=c
def turns(M:Ma)(at':Nat→Nat)(i:Nat):Bool:=i+1==M.n||(M.no (i+1)).contains (at' (i+1))||(decide (0<i)&&(M.no i).contains (at' i))
def step(M:Ma)(at':Nat→Nat):Nat→Nat:=fun i=>if turns M at' i then(at' i+1) % 26 else at' i
def steps(M:Ma)(at':Nat→Nat):Nat→Nat→Nat
 |0=>at'
 |k+1=>step M (steps M at' k)
def TK(M:Ma)(at':Nat→Nat):Prop:=∀i,i<M.n→at' i<26
theorem uH{M:Ma}{a b:Nat→Nat}(h:∀i,i<M.n→a i=b i):∀i,i<M.n→step M a i=step M b i:=fun i hi=>by
 have e:turns M a i=turns M b i:=by
  unfold turns;by_cases h1:i+1=M.n
  ·simp[h1]
  ·rw[h (i+1) vom,h i hi]
 unfold step;rw[e,h i hi]
def sU(M:Ma)(at':Nat→Nat)(i:Nat):Nat:=(at' i+26-M.ri i) % 26
theorem EJ(M:Ma)(at':Nat→Nat)(i:Nat):sU M at' i<26:=X8 _ vde
def eZ(p:Nat→Nat)(b c:Nat):Nat:=(p ((c+b) % 26)+26-b) % 26
theorem Im(b:Nat):aC fun c=>(c+b) % 26:=⟨fun _ _=>X8 _ vde,fun i j hi hj e=>by
 have:(i+b) % 26=(j+b) % 26:=e;omega⟩
theorem Gu{b:Nat}(hb:b<26):aC fun c=>(c+26-b) % 26:=⟨fun _ _=>X8 _ vde,fun i j hi hj e=>by
 have:(i+26-b) % 26=(j+26-b) % 26:=e;omega⟩
theorem Cu{p:Nat→Nat}(hp:aC p){b:Nat}(hb:b<26):aC (eZ p b):=((Im b).comp hp).comp (Gu hb)
def through(M:Ma)(at':Nat→Nat):Nat→Nat→Nat
 |0,c=>c
 |k+1,c=>eZ (M.wi (M.n-1-k)) (sU M at' (M.n-1-k)) (through M at' k c)
theorem pF{M:Ma}(h:Ok M)(at':Nat→Nat):∀k,k≤M.n→aC (through M at' k)
 |0,_=>aC.id
 |k+1,hk=>(pF h at' k vom).comp (Cu (h.wi _ vom) (EJ _ _ _))
def there(M:Ma)(at':Nat→Nat)(c:Nat):Nat:=through M at' M.n (M.pl c)
theorem fy{M:Ma}(h:Ok M)(at':Nat→Nat):aC (there M at'):=h.pl.comp (pF h at' M.n (R3 _))
def now(M:Ma)(at':Nat→Nat)(c:Nat):Nat:=inv (there M at') (M.rf (there M at' c))
theorem eM{M:Ma}(h:Ok M)(at':Nat→Nat):aC (now M at'):=((fy h at').comp h.rf).comp (fy h at').inv
theorem Ph{M:Ma}(h:Ok M)(at':Nat→Nat){c:Nat}(hc:c<26):now M at' (now M at' c)=c:=by
 have hp:=fy h at';have h1:=hp.1 c hc;have h2:=h.rf.1 _ h1;unfold now;rw[(hp.fo _ h2).2,h.Jf _ h1,hp.uV c hc]
theorem J3{M:Ma}(h:Ok M)(at':Nat→Nat){c:Nat}(hc:c<26):now M at' c≠c:=by
 have hp:=fy h at';have h1:=hp.1 c hc;have h2:=h.rf.1 _ h1;intro e;have h3:=(hp.fo _ h2).2;have e2:inv (there M at') (M.rf (there M at' c))=c:=e;rw[e2]at h3;exact h.Vp _ h1 h3.symm
theorem oC{p:Nat→Nat}(hp:aC p){i j:Nat}(hi:i<26)(e:p i=j):inv p j=i:=by rw[←e];exact hp.uV i hi
def bA(M:Ma):Ma:={ M with pl:=fun c=>c }
theorem iS(M:Ma)(at':Nat→Nat):∀k c,through (bA M) at' k c=through M at' k c
 |0,_=>rfl
 |k+1,c=>by
  show eZ (M.wi (M.n-1-k)) (sU (bA M) at' (M.n-1-k)) (through (bA M) at' k c)=eZ (M.wi (M.n-1-k)) (sU M at' (M.n-1-k)) (through M at' k c);rw[iS M at' k c]
  rfl
theorem gX{M:Ma}(h:Ok M):Ok (bA M):=⟨h.pos,h.most,h.wi,h.no,h.ri,h.st,h.rf,h.Jf,h.Vp,aC.id,fun _ _=>rfl⟩
theorem Ie{M:Ma}(h:Ok M)(at':Nat→Nat){c:Nat}(hc:c<26):now M at' c=M.pl (now (bA M) at' (M.pl c)):=by
 have hq:=fy (gX h) at';have hp:=fy h at';have e1:∀c,there (bA M) at' (M.pl c)=there M at' c:=fun c=>iS M at' M.n (M.pl c);have h1:=hp.1 c hc;have h2:=h.rf.1 _ h1;have h3:=hq.fo _ h2;unfold now;rw[e1];show inv (there M at') (M.rf (there M at' c))=M.pl (inv (there (bA M) at') (M.rf (there M at' c)));refine oC hp (h.pl.1 _ h3.1) ?_;rw[←e1,h.zD _ h3.1,h3.2]
def wr(M:Ma):(Nat→Nat)→List UInt8→List UInt8
 |_,[]=>[]
 |at',c :: l=>oB (now M (step M at') (Vg.num c)) :: wr M (step M at') l
theorem gh(M:Ma):∀(l:List UInt8) (at':Nat→Nat),(wr M at' l).length=l.length
 |[],_=>rfl
 |_ :: l,at'=>by show(wr M (step M at') l).length+1=l.length+1;rw[gh M l]
theorem EL{M:Ma}(h:Ok M):∀{l:List UInt8} (at':Nat→Nat),Ls l→Ls (wr M at' l)
 |[],_,_=>fun c hc=>by cases hc
 |a :: l,at',hl=>by
  intro c hc;rcases Xl.1 hc with e|e
  ·rw[e];exact Qr ((eM h _).1 _ (oJ (hl a vsi)))
  ·exact EL h (step M at') (fun c hc=>hl c (List.mem_cons_of_mem _ hc)) c e
theorem PX{M:Ma}(h:Ok M):∀{l:List UInt8} (at':Nat→Nat),Ls l→∀i,i<l.length→(wr M at' l).getD i 0≠l.getD i 0
 |a :: l,at',hl,0,_=>by
  have ha:=oJ (hl a vsi);show oB (now M (step M at') (Vg.num a))≠a;intro e;have:=XI Vg.num e;rw[FW ((eM h _).1 _ ha)]at this;exact J3 h _ ha this
 |a :: l,at',hl,i+1,hi=>by
  have:=PX h (step M at') (fun c hc=>hl c (List.mem_cons_of_mem _ hc)) i (by simpa using hi);show(oB (now M (step M at') (Vg.num a)) :: wr M (step M at') l).getD (i+1) 0≠(a :: l).getD (i+1) 0;rw[List.getD_cons_succ,List.getD_cons_succ];exact this
def R9(p:Nat→Nat)(l:List UInt8):List UInt8:=l.map fun c=>oB (p (Vg.num c))
theorem ov(M:Ma):∀k (at':Nat→Nat),steps M (step M at') k=steps M at' (k+1)
 |0,_=>rfl
 |k+1,at'=>by show step M (steps M (step M at') k)=_;rw[ov M k];rfl
theorem Iy{M:Ma}{a b:Nat→Nat}(h:∀i,i<M.n→a i=b i):now M a=now M b:=by
 have e:∀k,k≤M.n→∀c,through M a k c=through M b k c:=by
  intro k
  induction k with
  |zero=>intro _ _;rfl
  |succ k ih=>
   intro hk c;show eZ _ (sU M a _) _=eZ _ (sU M b _) _;rw[ih vom c];unfold sU;rw[h _ vom]
 have e2:there M a=there M b:=YP fun c=>e M.n (R3 _) _;unfold now;rw[e2]
theorem BU{M:Ma}:∀(l:List UInt8) {a b:Nat→Nat},(∀i,i<M.n→a i=b i)→wr M a l=wr M b l
 |[],_,_,_=>rfl
 |c :: l,a,b,h=>by
  show oB (now M (step M a) (Vg.num c)) :: wr M (step M a) l=oB (now M (step M b) (Vg.num c)) :: wr M (step M b) l;rw[Iy (uH h),BU l (uH h)]
def Vu(M:Ma)(b:Nat):Ma:={ M with no:=fun i=>(M.no i).map fun k=>(k+b) % 26,ri:=fun i=>(M.ri i+b) % 26,st:=fun i=>(M.st i+b) % 26 }
def mv(b:Nat)(at':Nat→Nat):Nat→Nat:=fun i=>(at' i+b) % 26
end Om
end Go.Proofs.YtpcnpkhgjanamaaGreatDoor
