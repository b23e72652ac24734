import Derived.Test.YtpcnpkhgjanamaaGreatDoorPz
import Derived.Test.YtpcnpkhgjanamaaGreatDoorJn26
namespace Go.Proofs.YtpcnpkhgjanamaaGreatDoor
open Go.Proofs.Tryz renaming prog→qf,underlying35→WH
open Go renaming Value→R2,World→V8,Calls→WA
open _root_.Decidable renaming not_not→Xk
open Go.World renaming cell?→XU
open _root_.List renaming getElem?_eq_none→Zy
set_option maxRecDepth 100000
set_option maxHeartbeats 4000000
section
open Go.RowKit PK Vg
theorem yu{t:List UInt8}{p:Nat}{e:Int×Nat}{m:Nat}(he:gL t p m=.error e):∀d,gL t p (m+d)=.error e
 |0=>he
 |d+1=>by
  show cD (gL t p (m+d)) _=_;rw[yu he d]
  rfl
theorem yp(L:List Nat)(v i:Nat):(L++[v]).getD i 0=if i=L.length then v else L.getD i 0:=by
 simp only[List.getD];by_cases h:i<L.length
 ·rw[V9 vom,WS h]
 ·rw[WQ vom]
  by_cases e:i=L.length
  ·rw[Wc e,e,Nat.sub_self];rfl
  ·rw[V9 e,Zy (l:=L) vom,Zy vso]
def Vv(n k:Nat)(G:Nat→Nat):Array R2:=bJ n (sg (fun r=>.slice (some ⟨G r,0,none⟩) n n) (.slice none 0 0) k)
structure wo(w W:V8)(b q n:Nat)(T:ByteArray)(p k:Nat)(G:Nat→Nat)(L:List Nat):Prop where
 box:af W q 31 (Vv n k G)
 rows:∀r,r<k→q<G r∧af W (G r) 3 (ints n fun j=>((L.getD (r*n+j) 0:Nat):Int))
 inj:∀r s,r<s→s<k→G r<G s
 rd:cV W b T p
 fb:Fb b w W
 ne:b<w.heap.size
 sz:w.heap.size≤q
section
variable{w W W':V8}{b q n:Nat}{T:ByteArray}{p p' k:Nat}{G:Nat→Nat}{L:List Nat}
theorem wo.step(h:wo w W b q n T p k G L)(hf:Fb b W W')(hr:cV W' b T p'):wo w W' b q n T p' k G L:=by
 have c:=h.ne;have a:=h.sz;refine⟨hf.row h.box vom,fun r hr=>?_,h.inj,hr,h.fb.trans hf,c,a⟩;obtain⟨h1,h2⟩:=h.rows r hr;exact⟨h1,hf.row h2 vom⟩
theorem wo.calm(h:wo w W b q n T p k G L)(hb:Below W.heap.size W W'):wo w W' b q n T p k G L:=h.step (Fb.of hb) (af.below h.rd hb (af.lt h.rd))
theorem wo.drew(h:wo w W b q n T p k G L):wo w W.drew b q n T p k G L:=⟨h.box,h.rows,h.inj,h.rd,⟨h.fb.os,h.fb.tape,h.fb.output,h.fb.size,h.fb.block⟩,h.ne,h.sz⟩
theorem wo.cell(h:wo w W b q n T p (k+1) G L)(hk:k<n):W.cell? ⟨q,k,none⟩=some (.slice (some ⟨G k,0,none⟩) n n):=by
 have:=af.cell h.box (aM _ hk);rw[this];unfold sg;rw[Wc vom]
theorem wo.row(h:wo w W b q n T p k G L)(hk:k<n)(hL:L.length=k*n):wo w ((W.setCell ⟨q,k,none⟩ (.slice (some ⟨W.heap.size,0,none⟩) n n)).alloc (.cells (bJ n fun _=>.int .i64 0) 3)) b q n T p (k+1) (upd G k W.heap.size) L:=by
 have a:=h.ne;have d:=h.sz;have c:=af.lt h.box;have f:=h.fb.size;have hq:W.heap.size=(W.setCell ⟨q,k,none⟩ (.slice (some ⟨W.heap.size,0,none⟩) n n)).heap.size:=by rw[XF]
 refine⟨?_,fun r hr=>?_,fun r s hrs hs=>?_,af.alloc (af.setOther h.rd ⟨q,k,none⟩ _ (by show b≠q;omega)) _,?_,a,d⟩
 ·have:=af.alloc (af.set h.box k (.slice (some ⟨W.heap.size,0,none⟩) n n)) (.cells (bJ n fun _=>.int .i64 0) 3)
  unfold Vv at this⊢;rw[dY,cy (g:=upd (sg (fun r=>.slice (some ⟨G r,0,none⟩) n n) (.slice none 0 0) k) k (.slice (some ⟨W.heap.size,0,none⟩) n n)) (g':=sg (fun r=>.slice (some ⟨upd G k W.heap.size r,0,none⟩) n n) (.slice none 0 0) (k+1)) (fun r _=>?_)]at this
  ·exact this
  ·unfold upd sg
   by_cases e:r=k
   ·subst e;rw[Wc rfl,Wc vom];simp
   ·rw[V9 e]
    by_cases h2:r<k
    ·rw[Wc h2,Wc vom];simp[e]
    ·rw[V9 h2,V9 vom]
 ·by_cases e:r=k
  ·subst e
   rw[upd_same];refine⟨c,?_⟩;have:=af.new (W.setCell ⟨q,r,none⟩ (.slice (some ⟨W.heap.size,0,none⟩) n n)) 3 (bJ n fun _=>.int .i64 0);rw[XF,uf]at this;rw[b8 (g:=fun _=>0) (fun j _=>?_)]
   ·rw[uf];exact this
   ·simp only[List.getD]
    rw[Zy vom]
    rfl
  ·rw[cH G _ e]
   obtain⟨h1,h2⟩:=h.rows r vom;exact⟨h1,af.alloc (af.setOther h2 ⟨q,k,none⟩ _ (by show G r≠q;omega)) _⟩
 ·rw[cH G _ (show r≠k by omega)]
  by_cases e:s=k
  ·subst e;rw[upd_same];exact af.lt (h.rows r vom).2
  ·rw[cH G _ e];exact h.inj r s hrs vom
 ·have h1:Fb b w (W.setCell ⟨q,k,none⟩ (.slice (some ⟨W.heap.size,0,none⟩) n n)):=⟨h.fb.os,h.fb.tape,h.fb.output,by rw[XF];exact h.fb.size,fun i hi hb=>(WT W ⟨q,k,none⟩ i _ (by show i≠q;omega)).trans (h.fb.block i hi hb)⟩
  exact h1.trans (Fb.alloc b _ _)
theorem wo.put(h:wo w W b q n T p (k+1) G L){x v:Nat}(hL:L.length=k*n+x):wo w (W.setCell ⟨G k,x,none⟩ (.int .i64 ((v:Nat):Int))) b q n T p (k+1) G (L++[v]):=by
 have d:=h.ne;have f:=h.sz;obtain⟨a,c⟩:=h.rows k vom;refine⟨af.setOther h.box ⟨G k,x,none⟩ _ (by show q≠G k;omega),fun r hr=>?_,h.inj,af.setOther h.rd ⟨G k,x,none⟩ _ (by show b≠G k;omega),⟨h.fb.os,h.fb.tape,h.fb.output,by rw[XF];exact h.fb.size,fun i hi hb=>(WT W ⟨G k,x,none⟩ i _ (by show i≠G k;omega)).trans (h.fb.block i hi hb)⟩,d,f⟩;by_cases e:r=k
 ·subst e
  refine⟨a,?_⟩;have:=af.set c x (.int .i64 ((v:Nat):Int));rw[ints_set,b8 (g:=fun j=>(((L++[v]).getD (r*n+j) 0:Nat):Int)) (fun j _=>?_)]at this
  ·exact this
  ·rw[yp]
   unfold upd;by_cases e:j=x
   ·rw[Wc e,Wc vom]
   ·rw[V9 e,V9 vom]
 ·obtain⟨h1,h2⟩:=h.rows r hr
  have h3:=h.inj r k vom vom;refine⟨h1,?_⟩;have:=af.setOther h2 ⟨G k,x,none⟩ (.int .i64 ((v:Nat):Int)) (by show G r≠G k;omega);rw[b8 (g:=fun j=>(((L++[v]).getD (r*n+j) 0:Nat):Int)) (fun j hj=>?_)]at this
  ·exact this
  ·rw[yp,V9]
   have:(r+1)*n≤k*n:=Nat.mul_le_mul_right n vom;rw[Y5]at this;omega
theorem wo.fin(h:wo w W b q n T p n G L)(hn:n≤4):Nw w.heap.size W.heap.size (fun W=>pE W (.slice (some ⟨q,0,none⟩) n n) n (fun _=>n) (fun i j=>((L.getD (i*n+j) 0:Nat):Int))) W:=by
 have a:=h.sz;intro W2 hk;refine⟨_,n,fun r=>.slice (some ⟨G r,0,none⟩) n n,rfl,by unfold maxLen;omega,fun r hr=>⟨q,0,rfl,?_⟩,fun r hr=>?_⟩
 ·rw[WN]
  refine hk q r _ a (af.lt h.box) ?_;have:=af.cell h.box (aM _ hr);rw[this];unfold sg;rw[Wc hr]
 ·obtain⟨h1,h2⟩:=h.rows r hr
  refine⟨_,n,rfl,by show n≤maxLen;unfold maxLen;omega,fun c hc=>⟨G r,0,rfl,?_⟩⟩;rw[WN];exact hk (G r) c _ vom (af.lt h2) (af.cell h2 (aB _ hc))
end
theorem ia.fb{b:Nat}{w w':V8}(h:ia w)(hf:Fb b w w')(hb:jo<b):ia w':=by
 obtain⟨ev,h1,h2⟩:=h;refine⟨ev,?_,h2⟩;have:=hf.block jo (ZH _ _ h1) vom;simp only[XU,this]at h1⊢;exact h1
theorem kW.fb{b:Nat}{w w':V8}(h:kW w)(hf:Fb b w w')(hb:1<b):kW w':=by
 refine⟨fun j v hv=>?_,fun j v hv=>?_⟩
 ·have h1:=h.kn j v hv
  have:=hf.block 0 (ZH _ _ h1) vom;simp only[XU,this]at h1⊢;exact h1
 ·have h1:=h.tb j v hv
  have:=hf.block 1 (ZH _ _ h1) vom;simp only[XU,this]at h1⊢;exact h1
section
variable(k n:Int)(key:ByteArray)(mv a b c:R2)(rf pl:Nat→Int)
theorem Uf(x:Int):(eG k n key mv a b c rf pl).setIfInBounds 1 (.int .i64 x)=eG k x key mv a b c rf pl:=by simp[eG]
theorem SY(x:ByteArray):(eG k n key mv a b c rf pl).setIfInBounds 2 (.string x)=eG k n x mv a b c rf pl:=by simp[eG]
theorem Uy(x:R2):(eG k n key mv a b c rf pl).setIfInBounds 3 x=eG k n key x a b c rf pl:=by simp[eG]
theorem UJ(a2 b2 c2:R2)(Jf zD:Nat→Int):c7 (eG k n key mv a b c rf pl) 4 (aP a2 b2 c2 Jf zD).toList=eG k n key mv a2 b2 c2 Jf zD:=by
 have hl:(aP a2 b2 c2 Jf zD).toList.length=55:=by rw[Wx,aD]
 apply Xc;intro i;rw[dU _ _ _ _ (by rw[hl,bg];omega),hl];by_cases h:4≤i∧i<4+55
 ·obtain⟨j,rfl⟩:∃j,i=4+j:=⟨i-4,vom⟩
  rw[Wc h,Nat.add_sub_cancel_left,Wo,pz]
 ·rw[V9 h]
  by_cases h0:i<4
  ·have:i=0∨i=1∨i=2∨i=3:=vom
   rcases this with rfl|rfl|rfl|rfl
   ·rw[xJ,xJ]
   ·rw[xp,xp]
   ·rw[xV,xV]
   ·rw[AZ,AZ]
  ·rw[Wv (by rw[bg];omega),Wv (by rw[bg];omega)]
end
structure yw(w W:V8)(b q q6:Nat)(T:ByteArray)(p:Nat)(z c:Array R2)(P:V8→Prop):Prop where
 res:af W q 37 z
 box:af W q6 37 c
 rd:cV W b T p
 fb:Fb b w W
 ne:b<q
 sz:w.heap.size=q
 lt:q<q6
 nw:Nw (q6+1) W.heap.size P W
section
variable{w W W':V8}{b q q6:Nat}{T:ByteArray}{p p':Nat}{z c c':Array R2}{P Q:V8→Prop}
theorem yw.step(h:yw w W b q q6 T p z c P)(hf:Fb b W W')(hr:cV W' b T p'):yw w W' b q q6 T p' z c P:=by
 have d:=h.ne;have a:=h.lt;refine⟨hf.row h.res vom,hf.row h.box vom,hr,h.fb.trans hf,h.ne,h.sz,h.lt,?_⟩;refine(h.nw.mono (R3 _) hf.size).keep fun i o x h1 _ h3=>?_;have:=hf.block i (aA h3) vom;simp only[XU,this]at h3⊢;exact h3
theorem yw.calm(h:yw w W b q q6 T p z c P)(hb:Below W.heap.size W W'):yw w W' b q q6 T p z c P:=h.step (Fb.of hb) (af.below h.rd hb (af.lt h.rd))
theorem yw.more(h:yw w W b q q6 T p z c P)(hq:Nw (q6+1) W.heap.size Q W):yw w W b q q6 T p z c Q:=⟨h.res,h.box,h.rd,h.fb,h.ne,h.sz,h.lt,hq⟩
theorem yw.put(h:yw w W b q q6 T p z c P)(i:Nat)(v:R2)(hc:c.setIfInBounds i v=c'):yw w (W.setCell ⟨q6,i,none⟩ v) b q q6 T p z c' P:=by
 have e:=h.ne;have d:=h.sz;have a:=h.lt;refine⟨af.setOther h.res ⟨q6,i,none⟩ v (by show q≠q6;omega),?_,af.setOther h.rd ⟨q6,i,none⟩ v (by show b≠q6;omega),?_,h.ne,h.sz,h.lt,?_⟩
 ·rw[←hc];exact af.set h.box i v
 ·exact⟨h.fb.os,h.fb.tape,h.fb.output,by rw[XF];exact h.fb.size,fun k hk hb=>(WT W ⟨q6,i,none⟩ k v (by show k≠q6;omega)).trans (h.fb.block k hk hb)⟩
 ·rw[XF]
  refine h.nw.keep fun j o x h1 _ h3=>?_;have:=WT W ⟨q6,i,none⟩ j v (by show j≠q6;omega);simp only[XU,this]at h3⊢;exact h3
theorem yw.lay(h:yw w W b q q6 T p z c P)(o:Nat)(l:List R2)(hc:c7 c o l=c'):yw w (W.setCells q6 o l) b q q6 T p z c' P:=by
 have e:=h.ne;have d:=h.sz;have a:=h.lt;have hB:=cT (B:=q6) (g:=q6) (R3 _) (l:=l) (o:=o) (Below.refl _ W);refine⟨aW vom h.res,?_,aW vom h.rd,?_,h.ne,h.sz,h.lt,?_⟩
 ·rw[←hc];exact c6 h.box
 ·exact⟨hB.os.trans h.fb.os,hB.tape.trans h.fb.tape,hB.output.trans h.fb.output,Ws h.fb.size hB.size,fun k hk hb=>(l7 vom l o W).trans (h.fb.block k hk hb)⟩
 ·refine(h.nw.mono (R3 _) hB.size).keep fun j o2 x h1 _ h3=>?_
  have:=l7 (g:=q6) (j:=j) vom l o W;simp only[XU,this]at h3⊢;exact h3
theorem yw.fin(h:yw w W b q q6 T p z c P)(MC:Array R2):cV (W.setRow q MC) b T p∧Fb b w (W.setRow q MC)∧Nw q (W.setRow q MC).heap.size P (W.setRow q MC):=by
 have e:=h.ne;have d:=h.sz;have a:=h.lt;have hB:=PK.Below.setRow (Below.refl q W) q (R3 _) MC;refine⟨af.bG h.rd q MC vom,⟨hB.os.trans h.fb.os,hB.tape.trans h.fb.tape,hB.output.trans h.fb.output,Ws h.fb.size hB.size,fun k hk hb=>(setRow_other W q k MC vom).trans (h.fb.block k hk hb)⟩,?_⟩;refine(h.nw.keep fun j o2 x h1 _ h3=>?_).mono vom hB.size;have:=setRow_other W q j MC vom;simp only[XU,this]at h3⊢;exact h3
theorem yw.there(h:yw w W b q q6 T p z c P){o n:Nat}(hn:o+n≤c.size):W.there q6 o n:=fun j hj=>by
 have a:o+j<c.size:=vom;exact⟨by rw[af.cell h.box (Wl a)];rfl,af.frozen h.box _⟩
end
def Ur(mv a b c:R2)(s:Sp)(W:V8):Prop:=pE W mv s.r s.L s.Z∧cA W a s.g.n s.g.wi s.g.nl s.g.no∧aq W b s.g.rl s.g.ri∧aq W c s.g.sl s.g.st
theorem Oy{B E:Nat}(k n:Nat)(W:V8):Nw B E (Ur (.slice none 0 0) (.slice none 0 0) (.slice none 0 0) (.slice none 0 0) (rQ k n)) W:=fun _ _=>
 ⟨⟨none,0,fun _=>undef,rfl,XE _,fun r hr=>absurd hr (Xy r),fun r hr=>absurd hr (Xy r)⟩,⟨none,0,fun _=>undef,rfl,XE _,fun r hr=>absurd hr (Xy r),fun r hr=>absurd hr (Xy r)⟩,⟨none,0,rfl,XE _,fun r hr=>absurd hr (Xy r)⟩,⟨none,0,rfl,XE _,fun r hr=>absurd hr (Xy r)⟩⟩
theorem AT{t:List UInt8}{p m q N:Nat}{L:List Nat}{e:Int×Nat}(h:gL t p m=.ok (L,q))(hn:pL t 0 25 q=.error e)(hN:m<N):gL t p N=.error e:=by
 have h1:gL t p (m+1)=.error e:=by
  show cD (gL t p m) _=_;rw[h];show cD (pL t 0 25 q) _=_;rw[hn]
  rfl
 have:=yu h1 (N-(m+1));rw[show m+1+(N-(m+1))=N by omega]at this;exact this
theorem KY{t:List UInt8}{p m q x q':Nat}{L:List Nat}(h:gL t p m=.ok (L,q))(hn:pL t 0 25 q=.ok (x,q')):gL t p (m+1)=.ok (L++[x],q'):=by
 show cD (gL t p m) _=_;rw[h];show cD (pL t 0 25 q) _=_;rw[hn]
 rfl
theorem O7{l:List UInt8}{lo hi:Int}(h:lX l lo hi=0):lo≤(dQ 0 l:Nat)∧((dQ 0 l:Nat):Int)≤hi:=by
 unfold lX at h;by_cases h1:isNum l=false
 ·rw[Wc h1]at h;cases h
 ·rw[V9 h1]at h;exact Bn.1 h
theorem NY(b:Nat)(T:ByteArray)(p0:Nat)(w:V8)(hr:cV w b T p0)(hs:T.size≤65536)(he:ia w)(hgb:jo<b):WA qf 73 #[.pointer (some ⟨b,0,none⟩)] w fun e w'=>Told (GW T.data.toList p0) e (fun x q v=>Nw w.heap.size w'.heap.size (fun W=>pE W v x.1 (fun _=>x.1) (fun i j=>((x.2.getD (i*x.1+j) 0:Nat):Int))) w'∧cV w' b T q)∧Fb b w w':=by
 have k4:=af.lt hr;have c:Hid _:=eV b T p0 w hr hs;obtain⟨RR,z⟩:∃RR,RR=GW T.data.toList p0:=⟨_,rfl⟩
 have f:Hid (RR=GW T.data.toList p0):=z;rw[←z];clear z hr;unfold GW pL at f;have o6:=Pl.aN T;have HE:Hid (ia w):=he;clear he;go_enter Tryz.func73,Tryz.ntmps73
 go_wp2_with fail
 refine We c.out ?_;rintro e W1 ⟨ht,hf⟩;rcases hw1:dn T.data.toList p0 with⟨E,A⟩|⟨l1,p1⟩
 ·rw[hw1]at ht
  obtain rfl:e=.panicked [gY E A]:=ht;have F:RR=.error (E,A):=by have h:=f.out;rw[hw1]at h;exact h
  exact⟨rfl,by rw[F];rfl,hf⟩
 rw[hw1]at ht;obtain⟨v,rfl,rfl,g⟩:=ht;obtain⟨-,-,-,V,D,e9,e8⟩:=eu hw1;have e7:Hid _:=mA l1 p0 1 4 vom D vom W1 (HE.out.fb hf hgb);have d:=f.out;rw[hw1]at d
 change RR=cD (dJ _ _ _) _ at d
 have B:Hid _:=d;have HF:Hid _:=hf;have Q:Hid _:=g;clear f c hf g d hw1 V D e9 e8
 go_wp2_with fail
 refine We e7.out ?_;rintro e W2 ⟨J,m,hb⟩;have I:Hid (Fb b w W2):=HF.out.trans (Fb.of hb);by_cases hE:¬lX l1 1 4=0
 ·obtain rfl:=m hE
  have F:RR=.error (lX l1 1 4,p0):=by rw[B.out];unfold dJ;rw[V9 hE];rfl
  exact⟨rfl,by rw[F];rfl,I.out⟩
 have hE:=Xk.1 hE;obtain rfl:=J hE;have hn:=O7 hE;have d:=B.out;rw[dJ,Wc hE]at d
 change RR=cD (gL T.data.toList p1 (dQ 0 l1*dQ 0 l1)) _ at d
 generalize dQ 0 l1=n at *;have f:Hid _:=d;have N:Hid (cV W2 b T p1):=af.below Q.out hb (af.lt Q.out);clear B e7 m J d hE Q HF hb;obtain⟨n4,l5⟩:1≤n∧n≤4:=vom;clear hn;have b9:=run_make_row' (P:=qf) 29 31 (.slice none 0 0) 24 Tryz.underlying29 AK rfl .i64 .i64 n vom vom;have e6:=run_make_row' (P:=qf) 31 3 (.int .i64 0) 8 Tryz.underlying31 Cv rfl .i64 .i64 n vom vom;rw[Jy]at b9 e6;have k8:w.heap.size≤W2.heap.size:=I.out.size
 have e5:Hid (wo w (W2.alloc (.cells (bJ n fun _=>.slice none 0 0) 31)) b W2.heap.size n T p1 0 (fun _=>0) []):=by
  refine⟨?_,fun r hr=>by omega,fun r s _ hs=>by omega,af.alloc N.out _,I.out.trans (Fb.alloc b _ _),k4,k8⟩;have:=af.new W2 31 (bJ n fun _=>.slice none 0 0);rw[cy (g':=sg (fun r=>.slice (some ⟨(fun _=>0) r,0,none⟩) n n) (.slice none 0 0) 0) (fun r _=>by simp[sg])]at this;exact this
 have Z:Hid (∀W,Fb b w W→ia W):=fun W hW=>HE.out.fb hW hgb;clear HE I N;go_wp2;go_loopw [12] (fun i W=>∃(y:Nat) (G:Nat→Nat) (L:List Nat) (p:Nat),y≤n∧i=.int .i64 y∧Hid (L.length=y*n∧gL T.data.toList p1 (y*n)=.ok (L,p))∧Hid (wo w W b W2.heap.size n T p y G L)) (fun i _=>((n:Int)-intOf i).toNat)
 case atStart=>exact⟨0,fun _=>0,[],p1,vom,rfl,⟨vsi,by simp[gL]⟩,e5.out⟩
 case round=>
  clear e5;obtain⟨y,G,L,p,hy,rfl,HL,HI⟩:=hrel;by_cases hlt:y<n
  ·have ro1:=af.alloc HI.out.box (.cells (bJ n fun _=>.int .i64 0) 3)
   have k3:=af.cell ro1 (aM _ hlt);have k5:=af.frozen ro1 y;have l:=HI.out.row hlt HL.out.1;have l9:=af.lt HI.out.box;obtain⟨Z1,U⟩:∃Z1,Z1=(wr.setCell ⟨W2.heap.size,y,none⟩ (.slice (some ⟨wr.heap.size,0,none⟩) n n)).alloc (.cells (bJ n fun _=>.int .i64 0) 3):=⟨_,rfl⟩
   rw[←U]at l;have e4:=l.cell hlt;rw[upd_same]at e4;have a:Hid _:=l;clear l ro1 HI;generalize hGG:upd G y wr.heap.size=G1 at *;have t:Hid (G1 y=wr.heap.size):=by rw[Hid,←hGG,upd_same]
   go_upto_region 6 with fail
   rw[←U];clear U k3 k5;clear hGG;generalize wr.heap.size=gy at *;go_wp2;go_loopw [26] (fun i W=>∃(x:Nat) (L:List Nat) (p:Nat),x≤n∧i=.int .i64 x∧Hid (L.length=y*n+x∧gL T.data.toList p1 (y*n+x)=.ok (L,p))∧Hid (wo w W b W2.heap.size n T p (y+1) G1 L)) (fun i _=>((n:Int)-intOf i).toNat)
   case atStart=>exact⟨0,L,p,vom,rfl,HL,a⟩
   case round=>
    clear e4 a HL;obtain⟨x,L,p,hx,rfl,HL,HI⟩:=hrel;by_cases hxl:x<n
    ·have o:=HI.out.drew
     have e3:y*n+x<n*n:=by have h:=Nat.mul_le_mul_right n (show y+1≤n by omega);rw[Y5]at h;omega
     have c:Hid _:=eV b T p _ o.rd hs;have cz:=o.cell hlt;rw[t.out]at cz;go_wp2;rcases hw:dn T.data.toList p with⟨E,A⟩|⟨l2,p2⟩
     ·rw[hw]at c
      have O:Hid (RR=.error (E,A)):=by
       rw[Hid,f.out,AT HL.out.2 (e:=(E,A)) (by unfold pL;rw[hw];rfl) e3];rfl
      have k9:Hid (WA qf 39 #[.pointer (some ⟨b,0,none⟩)] (World.drew _) fun e w'=>e=.panicked [gY E A]∧Fb b _ w'):=c.out;have k6:Hid _:=o.fb;clear c hw;refine Wz (S:=fun W=>W.cell? ⟨W2.heap.size,y,none⟩=some (.slice (some ⟨gy,0,none⟩) n n)) vkr cz (fun hS=>?_);refine vvq 0 29 (.slice (some ⟨W2.heap.size,0,none⟩) n n) ?_;refine vvq 1 30 (.int .i64 (y:Int)) ?_;refine vvq 2 31 (.pointer (some ⟨W2.heap.size,y,none⟩)) ?_;refine vup 3 32 (.slice (some ⟨gy,0,none⟩) n n) rfl (fun W hW=>by have u:=hW;clear hS hW;go_simp) hS ?_;refine vvq 4 33 (.int .i64 (x:Int)) ?_;refine vvq 5 34 (.pointer (some ⟨b,0,none⟩)) ?_;refine rd1 6 rfl (fun K hK=>?_);go_simp;refine We (k9.out) ?_;rintro e Y ⟨rfl,hf⟩;exact⟨rfl,by rw[O.out];rfl,k6.out.trans hf⟩
     rw[hw]at c;obtain⟨-,-,-,V,D,e9,e8⟩:=eu hw;by_cases hE:¬lX l2 0 25=0
     ·have O:Hid (RR=.error (lX l2 0 25,p)):=by
       rw[Hid,f.out,AT HL.out.2 (e:=(lX l2 0 25,p)) (by unfold pL;rw[hw];show dJ _ _ _=_;unfold dJ;rw[V9 hE]) e3];rfl
      clear hw;refine Wz (S:=fun W=>W.cell? ⟨W2.heap.size,y,none⟩=some (.slice (some ⟨gy,0,none⟩) n n)) vkr cz (fun hS=>?_);refine vvq 0 29 (.slice (some ⟨W2.heap.size,0,none⟩) n n) ?_;refine vvq 1 30 (.int .i64 (y:Int)) ?_;refine vvq 2 31 (.pointer (some ⟨W2.heap.size,y,none⟩)) ?_;refine vup 3 32 (.slice (some ⟨gy,0,none⟩) n n) rfl (fun W hW=>by have u:=hW;clear hS hW;go_simp) hS ?_;refine vvq 4 33 (.int .i64 (x:Int)) ?_;refine vvq 5 34 (.pointer (some ⟨b,0,none⟩)) ?_;refine rd1 6 rfl (fun K hK=>?_);go_simp;refine We c.out ?_;rintro e V2 ⟨⟨v,rfl,rfl,g⟩,hf⟩;have a:Hid _:=o.step hf g;refine hK.out _ _ (by have h:=a.out.cell hlt;rw[t.out]at h;exact h) (fun hS1=>?_);clear hK hS K;have hS:=hS1;clear hS1;refine rd1 7 rfl (fun K hK=>?_);go_simp;refine We (mA l2 p 0 25 vom D vom V2 (Z.out _ a.out.fb)) ?_;rintro e X2 ⟨-,m,hb⟩;obtain rfl:=m hE;exact⟨rfl,by rw[O.out];rfl,(a.out.calm hb).fb⟩
     have hE:=Xk.1 hE;have j3:Hid (gL T.data.toList p1 (y*n+x+1)=.ok (L++[dQ 0 l2],p2)):=KY HL.out.2 (by unfold pL;rw[hw];show dJ _ _ _=_;unfold dJ;rw[Wc hE]);clear hw;refine Xb ?_;refine Wz (S:=fun W=>W.cell? ⟨W2.heap.size,y,none⟩=some (.slice (some ⟨gy,0,none⟩) n n)) vkr cz (fun hS=>?_);refine vuq 0 29 (.slice (some ⟨W2.heap.size,0,none⟩) n n) ?_;refine vuq 1 30 (.int .i64 (y:Int)) ?_;refine vuq 2 31 (.pointer (some ⟨W2.heap.size,y,none⟩)) ?_;refine vuk 3 32 (.slice (some ⟨gy,0,none⟩) n n) rfl (fun W hW=>by have u:=hW;clear hS hW;go_simp) hS ?_;refine vuq 4 33 (.int .i64 (x:Int)) ?_;refine vuq 5 34 (.pointer (some ⟨b,0,none⟩)) ?_;refine rd1 6 rfl (fun K hK=>?_);go_simp;refine We c.out ?_;rintro e V2 ⟨⟨v,rfl,rfl,g⟩,hf⟩;have a:Hid _:=o.step hf g;refine hK.out _ _ (by have h:=a.out.cell hlt;rw[t.out]at h;exact h) (fun hS1=>?_);clear hK hS K;have hS:=hS1;clear hS1;refine rd1 7 rfl (fun K hK=>?_);go_simp;refine We (mA l2 p 0 25 vom D vom V2 (Z.out _ a.out.fb)) ?_;rintro e X2 ⟨J,-,hb⟩;obtain rfl:=J hE;have H:Hid _:=a.out.calm hb;refine hK.out _ _ (by have h:=H.out.cell hlt;rw[t.out]at h;exact h) (fun hS1=>?_);clear hK hS K;have hS:=hS1;clear hS1;generalize dQ 0 l2=nv at *;have k:=H.out.put (x:=x) (v:=nv) HL.out.1;have M:=(H.out.rows y vom).2;rw[t.out]at k M;have C:=k;have c1:=af.cell M (aB _ hxl);have f1:=af.frozen M x;refine vuq 8 37 (.pointer (some ⟨gy,x,none⟩)) ?_;refine rd1 9 rfl (fun K hK=>?_);go_simp;refine hK.out _ _ ((by have h:=C.cell hlt;rw[t.out]at h;exact h)) (fun hS1=>?_);clear hK hS K;have hS:=hS1;clear hS1;refine Xq vkr ?_ _;refine WU ?_;have j0:Hid _:=k;have k7:=HL.out.1;clear HI a H o c hb hE c1 f1 g hf hS cz k C M HL;generalize X2.setCell ⟨gy,x,none⟩ (.int .i64 (nv:Int))=Z3 at *;go_wp2;go_roundw
     case rel=>exact⟨x+1,L++[nv],p2,vom,by go_num,⟨by rw[WM,k7];rfl,j3.out⟩,j0⟩
     case measure=>simp[intOf];omega
    ·have HN:Hid (x=n):=by rw[Hid];omega
     go_wp2;go_roundw
     case rel=>
      refine⟨y+1,G1,L,p,vom,by go_num,?_,HI⟩;have h:=HL.out;rw[HN.out]at h;rw[Y5];exact h
     case measure=>simp[intOf];omega
  ·have HN:Hid (y=n):=by rw[Hid];omega
   go_wp2;go_ret;have hI:=HI.out;have hL:=HL.out;rw[HN.out]at hI hL;have F:RR=.ok ((n,L),p):=by rw[f.out,hL.2];rfl
   exact⟨by rw[F];exact⟨_,rfl,hI.fin l5,hI.rd⟩,hI.fb⟩
theorem Fe(x:ByteArray)(y:Int)(w:V8):(Instr.field 87 (.agg #[.string x,.int .i64 y]) 0).run qf w=.ok (.string x) w:=vkr
theorem MN(b:Nat)(T:ByteArray)(p0:Nat)(w:V8)(hr:cV w b T p0)(hs:T.size≤65536):WA qf 74 #[.pointer (some ⟨b,0,none⟩)] w fun e w'=>Told (uD T.data.toList p0) e (fun g q v=>Nw w.heap.size w'.heap.size (fun W=>cL W v g) w'∧cV w' b T q)∧Fb b w w':=by
 obtain⟨Y,hY⟩:∃Y,Y=(w.alloc (.cells (aP (.slice none 0 0) (.slice none 0 0) (.slice none 0 0) (fun _=>0) (fun _=>0)) 35)).alloc (.cells (aP (.slice none 0 0) (.slice none 0 0) (.slice none 0 0) (fun _=>0) (fun _=>0)) 35):=⟨_,rfl⟩
 have hI:vF w Y b w.heap.size T p0 (.slice none 0 0) (.slice none 0 0) (.slice none 0 0) (fun _=>0) (fun _=>0) (fun _=>True):=by
  rw[hY];refine⟨(af.new w _ _).alloc _,?_,af.alloc (af.alloc hr _) _,(Fb.alloc b w _).trans (Fb.alloc b _ _),af.lt hr,rfl,fun _ _=>trivial⟩;have:=af.new (w.alloc (.cells (aP (.slice none 0 0) (.slice none 0 0) (.slice none 0 0) (fun _=>0) (fun _=>0)) 35)) 35 (aP (.slice none 0 0) (.slice none 0 0) (.slice none 0 0) (fun _=>0) (fun _=>0));rw[WI]at this;exact this
 have r7:Y.heap.size=w.heap.size+2:=by rw[hY];simp
 have r4:=bR UP;have j:Hid _:=eV b T p0 Y hI.rd hs;have HI:Hid _:=hI;obtain⟨RR,e6⟩:∃RR,RR=uD T.data.toList p0:=⟨_,rfl⟩
 have d:Hid (RR=uD T.data.toList p0):=e6;rw[←e6];clear e6;unfold uD at d;have r5:=Pl.aN T;go_enter Tryz.func74,Tryz.ntmps74
 go_upto_region 2 with fail
 rw[←hY];clear hY hI hr
 go_wp2_with fail
 refine We j.out ?_;rintro e W1 ⟨ht,hf⟩;rcases hw1:dn T.data.toList p0 with⟨E,A⟩|⟨l1,p1⟩
 ·rw[hw1]at ht
  obtain rfl:e=.panicked [gY E A]:=ht;have F:RR=.error (E,A):=by have h:=d.out;rw[hw1]at h;exact h
  exact⟨rfl,by rw[F];rfl,HI.out.fb.trans hf⟩
 rw[hw1]at ht;obtain⟨v,rfl,rfl,l⟩:=ht;obtain⟨-,-,-,G,I,J,k7⟩:=eu hw1;have f:Hid _:=HI.out.step hf l;have a:=d.out;rw[hw1]at a
 change RR=dJ _ _ _ at a
 have c:Hid _:=a;clear d HI j hf l a hw1;have HI:Hid _:=f.out;have d:Hid _:=c.out;clear f c;have b9:Hid _:=B7 l1 p0 vom vom W1
 go_wp2_with fail
 refine We b9.out ?_;rintro e W2 ⟨x,k,hb⟩;by_cases hE:¬AQ l1=0
 ·obtain rfl:=k hE
  have F:RR=.error (AQ l1,PO l1 p0):=by rw[d.out];unfold dJ;rw[V9 hE]
  exact⟨rfl,by rw[F];rfl,(HI.out.calm hb).fb⟩
 have hE:=Xk.1 hE;have a:=d.out;rw[dJ,Wc hE]at a;have c:Hid _:=a;have f:Hid _:=HI.out.calm hb;obtain⟨va,rfl,q3⟩:=x hE;clear d b9 k x a;have d:Hid _:=c.out;clear c;obtain⟨ga,gc,_,rfl,-⟩:=q3.here;have r6:=OP hE;have k9:=f.out;have k8:=k9.more (q3.mono (by have:=HI.out.box.lt;show w.heap.size+2≤W1.heap.size;omega) (R3 _));have m:=k8.put 0 (.slice ga (gi l1) gc) (ms0 _ _ _ _ _ _);have c0:=af.cell k9.box (dV _ _ _ _ _);have f0:=af.frozen k9.box 0;clear f HI k8 k9 hb q3 hE;obtain⟨W3,q2⟩:∃W3,W3=W2.setCell ⟨w.heap.size+1,0,none⟩ (.slice ga (gi l1) gc):=⟨_,rfl⟩
 rw[←q2]at m;have HI:Hid _:=m;clear m
 go_upto_region 3 with fail
 rw[←q2];clear q2 c0 f0 G I J;have j:Hid _:=eV b T p1 W3 HI.out.rd hs
 go_wp2_with fail
 refine We j.out ?_;rintro e W4 ⟨ht,hf⟩;rcases hw2:dn T.data.toList p1 with⟨E,A⟩|⟨l2,p2⟩
 ·rw[hw2]at ht
  obtain rfl:e=.panicked [gY E A]:=ht;have F:RR=.error (E,A):=by have h:=d.out;rw[hw2]at h;exact h
  exact⟨rfl,by rw[F];rfl,HI.out.fb.trans hf⟩
 rw[hw2]at ht;obtain⟨v,rfl,rfl,l⟩:=ht;obtain⟨-,-,-,G,I,J,k7⟩:=eu hw2;have f:Hid _:=HI.out.step hf l;have a:=d.out;rw[hw2]at a
 change RR=dJ _ _ _ at a
 have c:Hid _:=a;clear d HI j hf l a hw2;have HI:Hid _:=f.out;have d:Hid _:=c.out;clear f c;have b9:Hid _:=ML l2 p1 W4
 go_wp2_with fail
 refine We b9.out ?_;rintro e W5 ⟨x,k,hb⟩;by_cases hE:¬C5 l2=0
 ·obtain rfl:=k hE
  have F:RR=.error (C5 l2,p1):=by rw[d.out];unfold dJ;rw[V9 hE]
  exact⟨rfl,by rw[F];rfl,(HI.out.calm hb).fb⟩
 have hE:=Xk.1 hE;have a:=d.out;rw[dJ,Wc hE]at a;have c:Hid _:=a;have f:Hid _:=HI.out.calm hb;obtain rfl:=x hE;clear d b9 k x a;have d:Hid _:=c.out;clear c;have Q:=f.out.there (o:=3) (n:=26) vom;have t:=f.out.lay 3 (ints 26 (C8 l2)).toList (VW _ _ _ _ _ _);obtain⟨W6,l9⟩:∃W6,W6=W5.setCells (w.heap.size+1) 3 (ints 26 (C8 l2)).toList:=⟨_,rfl⟩
 rw[←l9]at t;clear HI f hb hE;have HI:Hid _:=t;clear t;generalize hRF:C8 l2=RF at *
 go_upto_region 4 with(first|refine ZG rfl 33 _ _ rfl (w.heap.size+1) 3 (ints 26 RF) rfl rfl (by rw[ag];exact Q) (by rw[ag];exact aj) (aI _ _) ?_)
 rw[←l9];have n4:Hid (C8 l2=RF):=hRF;clear l9 Q G I J hRF;generalize hN1:gi l1=N1 at *;have M:Hid (gi l1=N1):=hN1;clear hN1;have z:=HI.out.drew;have j:Hid _:=eV b T p2 _ z.rd hs;have cz:=af.cell z.box (dV _ _ _ _ _);rcases hw3:dn T.data.toList p2 with⟨E,A⟩|⟨l3,p3⟩
 ·rw[hw3]at j
  have B:Hid (RR=.error (E,A)):=by have h:=d.out;rw[hw3]at h;exact h
  have p5:Hid (WA qf 39 #[.pointer (some ⟨b,0,none⟩)] (World.drew _) fun e w'=>e=.panicked [gY E A]∧Fb b _ w'):=j.out;have H:Hid _:=z.fb;clear j hw3;refine Wz (S:=fun W=>W.cell? ⟨w.heap.size+1,0,none⟩=some (.slice ga N1 gc)) vkr cz (fun hS=>?_);refine vvq 0 12 (.pointer (some ⟨b,0,none⟩)) ?_;refine vvq 2 14 (.pointer (some ⟨w.heap.size+1,0,none⟩)) ?_;refine vup 3 15 (.slice ga N1 gc) rfl (fun W hW=>by have u:=hW;clear hS hW;go_simp) hS ?_;refine vvq 4 16 (.int .i64 (N1:Nat)) ?_;refine rd1 1 rfl (fun K hK=>?_);go_simp;refine We (p5.out) ?_;rintro e Y ⟨rfl,hf⟩;exact⟨rfl,by rw[B.out];rfl,H.out.trans hf⟩
 rw[hw3]at j;obtain⟨-,-,-,G,I,J,k7⟩:=eu hw3;have a:=d.out;rw[hw3]at a
 change RR=dJ _ _ _ at a
 by_cases hE:¬tS l3 N1=0
 ·have B:Hid (RR=.error (tS l3 N1,p2)):=by rw[Hid,a];unfold dJ;rw[V9 hE]
  clear a hw3;refine Wz (S:=fun W=>W.cell? ⟨w.heap.size+1,0,none⟩=some (.slice ga N1 gc)) vkr cz (fun hS=>?_);refine vvq 0 12 (.pointer (some ⟨b,0,none⟩)) ?_;refine vvq 2 14 (.pointer (some ⟨w.heap.size+1,0,none⟩)) ?_;refine vup 3 15 (.slice ga N1 gc) rfl (fun W hW=>by have u:=hW;clear hS hW;go_simp) hS ?_;refine vvq 4 16 (.int .i64 (N1:Nat)) ?_;refine rd1 1 rfl (fun K hK=>?_);go_simp;refine We j.out ?_;rintro e V3 ⟨⟨v,rfl,rfl,l⟩,hf⟩;have f:Hid _:=z.step hf l;refine hK.out _ _ (af.cell f.out.box (dV _ _ _ _ _)) (fun hS1=>?_);clear hK hS K;have hS:=hS1;clear hS1;refine rd1 5 rfl (fun K hK=>?_);go_simp;refine We (oV l3 p2 N1 vom vom V3) ?_;rintro e X3 ⟨-,k,hb⟩;obtain rfl:=k hE;exact⟨rfl,by rw[B.out];rfl,(f.out.calm hb).fb⟩
 have hE:=Xk.1 hE;rw[dJ,Wc hE]at a;have c:Hid _:=a;clear d a hw3;refine Xb ?_;refine Wz (S:=fun W=>W.cell? ⟨w.heap.size+1,0,none⟩=some (.slice ga N1 gc)) vkr cz (fun hS=>?_);refine vuq 0 12 (.pointer (some ⟨b,0,none⟩)) ?_;refine vuq 2 14 (.pointer (some ⟨w.heap.size+1,0,none⟩)) ?_;refine vuk 3 15 (.slice ga N1 gc) rfl (fun W hW=>by have u:=hW;clear hS hW;go_simp) hS ?_;refine vuq 4 16 (.int .i64 (N1:Nat)) ?_;refine rd1 1 rfl (fun K hK=>?_);go_simp;refine We j.out ?_;rintro e V3 ⟨⟨v,rfl,rfl,l⟩,hf⟩;have f:Hid _:=z.step hf l;refine hK.out _ _ (af.cell f.out.box (dV _ _ _ _ _)) (fun hS1=>?_);clear hK hS K;have hS:=hS1;clear hS1;refine rd1 5 rfl (fun K hK=>?_);go_simp;refine We (oV l3 p2 N1 vom vom V3) ?_;rintro e X3 ⟨x,-,hb⟩;obtain⟨v,rfl,L,e9⟩:=x hE;have D:Hid _:=f.out.calm hb;refine hK.out _ _ (af.cell D.out.box (dV _ _ _ _ _)) (fun hS1=>?_);clear hK hS K;have hS:=hS1;clear hS1;obtain⟨ba3,bc3,rfl,k5,j0⟩:=L;have L:aq X3 (.slice ba3 N1 bc3) N1 (Ef l3):=⟨ba3,bc3,rfl,k5,j0⟩
 have q4:=f.out.box.lt;have m:=(D.out.more ((za L e9).mono (show w.heap.size+2≤V3.heap.size by omega) (R3 _))).put 1 (.slice ba3 N1 bc3) (ms1 _ _ _ _ _ _);have c1:=af.cell D.out.box (rV _ _ _ _ _);have f1:=af.frozen D.out.box 1;refine vuq 6 18 (.pointer (some ⟨w.heap.size+1,1,none⟩)) ?_;refine rd1 7 rfl (fun K hK=>?_);go_simp;refine hK.out _ _ (af.cell m.box (dV _ _ _ _ _)) (fun hS1=>?_);clear hK hS K;have hS:=hS1;clear hS1;refine Xq vkr ?_ _;refine WU ?_;clear HI f D z j hb hE c1 f1 L k5 j0 e9 l hf hS cz G I J q4;have HI:Hid _:=m;have d:Hid _:=c.out;clear c m;generalize X3.setCell ⟨w.heap.size+1,1,none⟩ (.slice ba3 N1 bc3)=Z3 at *
 go_upto_region 5 with fail
 have z:=HI.out.drew;have j:Hid _:=eV b T p3 _ z.rd hs;have cz:=af.cell z.box (dV _ _ _ _ _);rcases hw4:dn T.data.toList p3 with⟨E,A⟩|⟨l4,p4⟩
 ·rw[hw4]at j
  have B:Hid (RR=.error (E,A)):=by have h:=d.out;rw[hw4]at h;exact h
  have p5:Hid (WA qf 39 #[.pointer (some ⟨b,0,none⟩)] (World.drew _) fun e w'=>e=.panicked [gY E A]∧Fb b _ w'):=j.out;have H:Hid _:=z.fb;clear j hw4;refine Wz (S:=fun W=>W.cell? ⟨w.heap.size+1,0,none⟩=some (.slice ga N1 gc)) vkr cz (fun hS=>?_);refine vvq 0 19 (.pointer (some ⟨b,0,none⟩)) ?_;refine vvq 2 21 (.pointer (some ⟨w.heap.size+1,0,none⟩)) ?_;refine vup 3 22 (.slice ga N1 gc) rfl (fun W hW=>by have u:=hW;clear hS hW;go_simp) hS ?_;refine vvq 4 23 (.int .i64 (N1:Nat)) ?_;refine rd1 1 rfl (fun K hK=>?_);go_simp;refine We (p5.out) ?_;rintro e Y ⟨rfl,hf⟩;exact⟨rfl,by rw[B.out];rfl,H.out.trans hf⟩
 rw[hw4]at j;obtain⟨-,-,-,G,I,J,k7⟩:=eu hw4;have a:=d.out;rw[hw4]at a
 change RR=dJ _ _ _ at a
 by_cases hE:¬tS l4 N1=0
 ·have B:Hid (RR=.error (tS l4 N1,p3)):=by rw[Hid,a];unfold dJ;rw[V9 hE]
  clear a hw4;refine Wz (S:=fun W=>W.cell? ⟨w.heap.size+1,0,none⟩=some (.slice ga N1 gc)) vkr cz (fun hS=>?_);refine vvq 0 19 (.pointer (some ⟨b,0,none⟩)) ?_;refine vvq 2 21 (.pointer (some ⟨w.heap.size+1,0,none⟩)) ?_;refine vup 3 22 (.slice ga N1 gc) rfl (fun W hW=>by have u:=hW;clear hS hW;go_simp) hS ?_;refine vvq 4 23 (.int .i64 (N1:Nat)) ?_;refine rd1 1 rfl (fun K hK=>?_);go_simp;refine We j.out ?_;rintro e V4 ⟨⟨v,rfl,rfl,l⟩,hf⟩;have f:Hid _:=z.step hf l;refine hK.out _ _ (af.cell f.out.box (dV _ _ _ _ _)) (fun hS1=>?_);clear hK hS K;have hS:=hS1;clear hS1;refine rd1 5 rfl (fun K hK=>?_);go_simp;refine We (oV l4 p3 N1 vom vom V4) ?_;rintro e X4 ⟨-,k,hb⟩;obtain rfl:=k hE;exact⟨rfl,by rw[B.out];rfl,(f.out.calm hb).fb⟩
 have hE:=Xk.1 hE;rw[dJ,Wc hE]at a;have c:Hid _:=a;clear d a hw4;refine Xb ?_;refine Wz (S:=fun W=>W.cell? ⟨w.heap.size+1,0,none⟩=some (.slice ga N1 gc)) vkr cz (fun hS=>?_);refine vuq 0 19 (.pointer (some ⟨b,0,none⟩)) ?_;refine vuq 2 21 (.pointer (some ⟨w.heap.size+1,0,none⟩)) ?_;refine vuk 3 22 (.slice ga N1 gc) rfl (fun W hW=>by have u:=hW;clear hS hW;go_simp) hS ?_;refine vuq 4 23 (.int .i64 (N1:Nat)) ?_;refine rd1 1 rfl (fun K hK=>?_);go_simp;refine We j.out ?_;rintro e V4 ⟨⟨v,rfl,rfl,l⟩,hf⟩;have f:Hid _:=z.step hf l;refine hK.out _ _ (af.cell f.out.box (dV _ _ _ _ _)) (fun hS1=>?_);clear hK hS K;have hS:=hS1;clear hS1;refine rd1 5 rfl (fun K hK=>?_);go_simp;refine We (oV l4 p3 N1 vom vom V4) ?_;rintro e X4 ⟨x,-,hb⟩;obtain⟨v,rfl,L,e9⟩:=x hE;have D:Hid _:=f.out.calm hb;refine hK.out _ _ (af.cell D.out.box (dV _ _ _ _ _)) (fun hS1=>?_);clear hK hS K;have hS:=hS1;clear hS1;obtain⟨ba4,bc4,rfl,k5,j0⟩:=L;have L:aq X4 (.slice ba4 N1 bc4) N1 (Ef l4):=⟨ba4,bc4,rfl,k5,j0⟩
 have q4:=f.out.box.lt;have m:=(D.out.more ((za L e9).mono (show w.heap.size+2≤V4.heap.size by omega) (R3 _))).put 2 (.slice ba4 N1 bc4) (ms2 _ _ _ _ _ _);have c1:=af.cell D.out.box (gM _ _ _ _ _);have f1:=af.frozen D.out.box 2;refine vuq 6 25 (.pointer (some ⟨w.heap.size+1,2,none⟩)) ?_;refine rd1 7 rfl (fun K hK=>?_);go_simp;refine hK.out _ _ (af.cell m.box (dV _ _ _ _ _)) (fun hS1=>?_);clear hK hS K;have hS:=hS1;clear hS1;refine Xq vkr ?_ _;refine WU ?_;clear HI f D z j hb hE c1 f1 L k5 j0 e9 l hf hS cz G I J q4;have HI:Hid _:=m;have d:Hid _:=c.out;clear c m;generalize X4.setCell ⟨w.heap.size+1,2,none⟩ (.slice ba4 N1 bc4)=Z4 at *
 go_upto_region 6 with fail
 have q7:Hid _:=qv Z4
 go_wp2_with fail
 refine We q7.out ?_;rintro e Z5 ⟨rfl,hb⟩;have o6:=HI.out.calm hb;have Q:=o6.there (o:=29) (n:=26) vom;have t:=o6.lay 29 (ints 26 (Pm.up fun i=>i)).toList (mM _ _ _ _ _ _);obtain⟨Z6,p7⟩:∃Z6,Z6=Z5.setCells (w.heap.size+1) 29 (ints 26 (Pm.up fun i=>i)).toList:=⟨_,rfl⟩
 rw[←p7]at t;clear HI o6 hb q7;have HI:Hid _:=t;clear t
 go_upto_region 7 with(first|refine ZG rfl 33 _ _ rfl (w.heap.size+1) 29 (ints 26 (Pm.up fun i=>i)) rfl rfl (by rw[ag];exact Q) (by rw[ag];exact aj) (aI _ _) ?_)
 rw[←p7];clear p7 Q;have q6:Hid _:=mP b T p4 Z6 HI.out.rd
 go_wp2_with fail
 refine We q6.out ?_;rintro e Z7 ⟨rfl,hb⟩;have e3:Hid _:=HI.out.calm hb;clear HI q6 hb;by_cases hend:T.size<p4
 ·have hd:decide (T.size<p4)=true:=by simpa using hend
  rw[hd];have B:Hid (RR=.ok (Bc l1 l2 l3 l4 (Pm.up fun i=>i),p4)):=by rw[Hid,d.out];unfold Ld;rw[Wc vom];rfl
  clear hd hend
  go_upto_region 9 with fail
  obtain⟨MC,s⟩:∃MC,MC=aP (.slice ga N1 gc) (.slice ba3 N1 bc3) (.slice ba4 N1 bc4) RF (Pm.up fun i=>i):=⟨_,rfl⟩
  have U:=e3.out.box;rw[←s]at U;have y:Hid (MC.size=55):=by rw[Hid,s,aD]
  have N:Hid (MC.all (·.oneCell')=true):=by rw[Hid,s];exact mU rfl rfl rfl
  have C:=e3.out.res;obtain⟨Z,O,P⟩:=e3.out.fin MC;have e7:Hid (af (Z7.setRow w.heap.size MC) w.heap.size 35 MC):=af.row C MC
  have k6:Hid (Nw w.heap.size (Z7.setRow w.heap.size MC).heap.size (fun W=>cL W (.agg MC) (Bc l1 l2 l3 l4 (Pm.up fun i=>i))) (Z7.setRow w.heap.size MC)):=P.imp fun W hW=>by
   obtain⟨⟨⟨-,hw⟩,h3⟩,h4⟩:=hW;refine⟨.slice ga N1 gc,.slice ba3 N1 bc3,.slice ba4 N1 bc4,?_,?_,?_,?_⟩
   ·rw[s,←n4.out];rfl
   ·show cA W _ (gi l1) _ _ _;rw[M.out];exact hw
   ·show aq W _ (gi l1) _;rw[M.out];exact h3
   ·show aq W _ (gi l1) _;rw[M.out];exact h4
  have e8:Hid (cV (Z7.setRow w.heap.size MC) b T p4):=Z;have H:Hid (Fb b w (Z7.setRow w.heap.size MC)):=O;clear Z O P s e3
  go_wp2_with (first|refine Wn rfl 35 _ rfl (w.heap.size+1) rfl 35 MC (0,0) _ U WH rfl (by rw[y.out];exact aE) ?_|refine Wk rfl 35 _ _ rfl w.heap.size MC rfl rfl 35 _ C (by rw[y.out];exact aE) (by rw[y.out,aD]) N.out ?_)
  exact⟨rfl,_,cE rfl _ _ w.heap.size 35 MC (0,0) _ rfl e7.out WH rfl (by rw[y.out];exact aE),by rw[B.out];exact⟨_,rfl,k6.out,e8.out⟩,H.out⟩
 ·have hd:decide (T.size<p4)=false:=by simpa using hend
  rw[hd];have q8:Hid _:=yj b T p4 Z7 e3.out.rd hs;have k3:¬T.data.toList.length<p4:=vom;clear hd hend
  go_wp2_with fail
  refine We q8.out ?_;rintro e Z8 ⟨k,x,hb⟩;have V:Hid _:=e3.out.calm hb;clear hb e3 q8;by_cases hE:¬wE T.data.toList p4=0
  ·obtain rfl:=k hE
   have F:RR=.error (2,wA T.data.toList p4):=by rw[d.out];unfold Ld dn;rw[V9 k3,V9 hE];rfl
   exact⟨rfl,by rw[F];rfl,V.out.fb⟩
  have hE:=Xk.1 hE;obtain rfl:=x hE;clear k x;have q9:dn T.data.toList p4=.ok (wq T.data.toList p4,p4+(wq T.data.toList p4).length+1):=by unfold dn;rw[Wc hE]
  generalize wq T.data.toList p4=l5 at *;clear hE;have e5:Hid (dn T.data.toList p4=.ok (l5,p4+l5.length+1)):=q9;clear q9;by_cases hbar:l5=[124]
  ·have B:Hid (RR=.ok (Bc l1 l2 l3 l4 (Pm.up fun i=>i),p4)):=by
    rw[Hid,d.out];unfold Ld;rw[V9 k3,e5.out];show cD (if l5=[124]then _ else _) _=_;rw[Wc hbar];rfl
   clear e5 k3;subst hbar;have q5:=Fe;unfold wm
   go_upto_region 9 with fail
   obtain⟨MC,s⟩:∃MC,MC=aP (.slice ga N1 gc) (.slice ba3 N1 bc3) (.slice ba4 N1 bc4) RF (Pm.up fun i=>i):=⟨_,rfl⟩
   have U:=V.out.box;rw[←s]at U;have y:Hid (MC.size=55):=by rw[Hid,s,aD]
   have N:Hid (MC.all (·.oneCell')=true):=by rw[Hid,s];exact mU rfl rfl rfl
   have C:=V.out.res;obtain⟨Z,O,P⟩:=V.out.fin MC;have e7:Hid (af (Z8.setRow w.heap.size MC) w.heap.size 35 MC):=af.row C MC
   have k6:Hid (Nw w.heap.size (Z8.setRow w.heap.size MC).heap.size (fun W=>cL W (.agg MC) (Bc l1 l2 l3 l4 (Pm.up fun i=>i))) (Z8.setRow w.heap.size MC)):=P.imp fun W hW=>by
    obtain⟨⟨⟨-,hw⟩,h3⟩,h4⟩:=hW;refine⟨.slice ga N1 gc,.slice ba3 N1 bc3,.slice ba4 N1 bc4,?_,?_,?_,?_⟩
    ·rw[s,←n4.out];rfl
    ·show cA W _ (gi l1) _ _ _;rw[M.out];exact hw
    ·show aq W _ (gi l1) _;rw[M.out];exact h3
    ·show aq W _ (gi l1) _;rw[M.out];exact h4
   have e8:Hid (cV (Z8.setRow w.heap.size MC) b T p4):=Z;have H:Hid (Fb b w (Z8.setRow w.heap.size MC)):=O;clear Z O P s V
   go_wp2_with (first|refine Wn rfl 35 _ rfl (w.heap.size+1) rfl 35 MC (0,0) _ U WH rfl (by rw[y.out];exact aE) ?_|refine Wk rfl 35 _ _ rfl w.heap.size MC rfl rfl 35 _ C (by rw[y.out];exact aE) (by rw[y.out,aD]) N.out ?_)
   exact⟨rfl,_,cE rfl _ _ w.heap.size 35 MC (0,0) _ rfl e7.out WH rfl (by rw[y.out];exact aE),by rw[B.out];exact⟨_,rfl,k6.out,e8.out⟩,H.out⟩
  ·have r3:(l5==[124])=false:=by simpa using hbar
   obtain⟨-,-,-,G,I,J,k7⟩:=eu e5.out;have a:=d.out;unfold Ld at a;rw[V9 k3,e5.out]at a
   change RR=cD (if l5=[124]then _ else _) _ at a
   rw[V9 hbar]at a;have c:Hid _:=a;have j:Hid _:=eV b T p4 Z8 V.out.rd hs;rw[e5.out]at j;clear d a e5 k3 hbar;have q5:=Fe;unfold wm
   go_upto_region 8 with fail
   go_wp2_with fail
   refine We j.out ?_;rintro e Z9 ⟨⟨v,rfl,rfl,l⟩,hf⟩;have p9:Hid _:=V.out.step hf l;have b9:Hid _:=Li l5 p4 vom vom Z9;clear V j hf l q5 r3
   go_wp2_with fail
   refine We b9.out ?_;rintro e Z10 ⟨x,k,hb⟩;by_cases hE:¬Bh l5=0
   ·obtain rfl:=k hE
    have F:RR=.error (Bh l5,p4+Ks l5):=by rw[c.out];unfold dJ;rw[V9 hE];rfl
    exact⟨rfl,by rw[F];rfl,(p9.out.calm hb).fb⟩
   have hE:=Xk.1 hE;obtain rfl:=x hE;have B:Hid (RR=.ok (Bc l1 l2 l3 l4 (bE l5).1,p4+l5.length+1)):=by rw[Hid,c.out,dJ,Wc hE];rfl
   have j3:=p9.out.calm hb;clear p9 c b9 x k hb hE G I J k7;generalize (bE l5).1=PL at *;have Q:=j3.there (o:=29) (n:=26) vom;have t:=j3.lay 29 (ints 26 PL).toList (mM _ _ _ _ _ _);obtain⟨Z11,k4⟩:∃Z11,Z11=Z10.setCells (w.heap.size+1) 29 (ints 26 PL).toList:=⟨_,rfl⟩
   rw[←k4]at t;have e4:Hid _:=t;clear j3 t
   go_upto_region 9 with(first|refine ZG rfl 33 _ _ rfl (w.heap.size+1) 29 (ints 26 PL) rfl rfl (by rw[ag];exact Q) (by rw[ag];exact aj) (aI _ _) ?_)
   rw[←k4];clear k4 Q;obtain⟨MC,s⟩:∃MC,MC=aP (.slice ga N1 gc) (.slice ba3 N1 bc3) (.slice ba4 N1 bc4) RF PL:=⟨_,rfl⟩
   have U:=e4.out.box;rw[←s]at U;have y:Hid (MC.size=55):=by rw[Hid,s,aD]
   have N:Hid (MC.all (·.oneCell')=true):=by rw[Hid,s];exact mU rfl rfl rfl
   have C:=e4.out.res;obtain⟨Z,O,P⟩:=e4.out.fin MC;have e7:Hid (af (Z11.setRow w.heap.size MC) w.heap.size 35 MC):=af.row C MC
   have k6:Hid (Nw w.heap.size (Z11.setRow w.heap.size MC).heap.size (fun W=>cL W (.agg MC) (Bc l1 l2 l3 l4 PL)) (Z11.setRow w.heap.size MC)):=P.imp fun W hW=>by
    obtain⟨⟨⟨-,hw⟩,h3⟩,h4⟩:=hW;refine⟨.slice ga N1 gc,.slice ba3 N1 bc3,.slice ba4 N1 bc4,?_,?_,?_,?_⟩
    ·rw[s,←n4.out];rfl
    ·show cA W _ (gi l1) _ _ _;rw[M.out];exact hw
    ·show aq W _ (gi l1) _;rw[M.out];exact h3
    ·show aq W _ (gi l1) _;rw[M.out];exact h4
   have e8:Hid (cV (Z11.setRow w.heap.size MC) b T (p4+l5.length+1)):=Z;have H:Hid (Fb b w (Z11.setRow w.heap.size MC)):=O;clear Z O P s e4
   go_wp2_with (first|refine Wn rfl 35 _ rfl (w.heap.size+1) rfl 35 MC (0,0) _ U WH rfl (by rw[y.out];exact aE) ?_|refine Wk rfl 35 _ _ rfl w.heap.size MC rfl rfl 35 _ C (by rw[y.out];exact aE) (by rw[y.out,aD]) N.out ?_)
   exact⟨rfl,_,cE rfl _ _ w.heap.size 35 MC (0,0) _ rfl e7.out WH rfl (by rw[y.out];exact aE),by rw[B.out];exact⟨_,rfl,k6.out,e8.out⟩,H.out⟩
end
end Go.Proofs.YtpcnpkhgjanamaaGreatDoor
