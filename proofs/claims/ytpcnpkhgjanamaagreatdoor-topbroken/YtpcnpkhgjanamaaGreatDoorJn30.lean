import Derived.Test.YtpcnpkhgjanamaaGreatDoorPz
import Derived.Test.YtpcnpkhgjanamaaGreatDoorJn29
namespace Go.Proofs.YtpcnpkhgjanamaaGreatDoor
open Go.Proofs.Tryz renaming prog→qf,underlying33→Wp,underlying35→WH,underlying50→YK
open Go renaming Value→R2,World→V8,Calls→WA
open Go.RowKit renaming Below→Wh
open Go.World.ownsRow renaming lt→WC,alloc→Xp
open _root_.List renaming replicate→XX
set_option maxRecDepth 100000
set_option maxHeartbeats 4000000
section
open Go.RowKit PK
def cnt(ls:List (List Nat))(n:Nat):Nat:=(ls.filter fun l=>l.length==n).length
theorem JR(ls:List (List Nat))(n:Nat):cnt ls n≤ls.length:=ZP _ _
theorem J0(ls:List (List Nat))(l:List Nat):ints 27 (upd (Pm.up (cnt ls)) l.length ((cnt ls l.length:Nat)+1))=ints 27 (Pm.up (cnt (ls++[l]))):=b8 fun i _=>by
 simp only[Pm.up,cnt,Yu,WM];by_cases e:i=l.length
 ·subst e
  simp
 ·rw[cH _ _ e]
  have:(l.length==i)=false:=vso;simp[this,Pm.up,cnt]
theorem ic:(qf.info? 126).map (·.size)=some 27:=vkr
theorem xb(ls:List (List Nat))(h1:0<ls.length)(h2:ls.length≤26)(h3:∀l∈ls,0<l.length∧l.length≤26)(B:Nat)(v:R2)(w:V8)(hall:dc w B v ls):
  WA qf 65 #[v] w fun e w'=>e=.returned (.agg (ints 27 (Pm.up (cnt ls))))∧Wh w.heap.size w w':=by
 obtain⟨vs,hv1,hv2⟩:=hall;obtain⟨g,cap,rfl⟩:=qE hv1 h1;have hvl:vs.length=ls.length:=by have:=hv1.1;omega
 have hg:g<w.heap.size:=(WC hv1 g rfl).2;have HL:Hid (∀l∈ls,0<l.length∧l.length≤26):=h3;have f:Hid (w.ownsRow B 31 1 (.slice (some ⟨g,0,none⟩) ls.length cap) ls.length vs):=hv1;have t:Hid (∀(k:Nat) (u:R2) (l:List Nat),vs[k]?=some u→ls[k]?=some l→fH w B u l):=hv2;have o:Hid (vs.length=ls.length):=hvl;clear hv1 hv2 hvl h3;obtain⟨n,hn⟩:∃n,n=ls.length:=⟨_,rfl⟩
 have HN:Hid (n=ls.length):=hn;rw[←hn]at h1 h2 f⊢;clear hn;go_enter Tryz.func65,Tryz.ntmps65;go_wp2;rw[Ry];go_loopw [8] (fun i W=>∃k:Nat,k≤n∧i=.int .i64 k∧af W w.heap.size 126 (ints 27 fun _=>0)∧af W (w.heap.size+1) 126 (ints 27 (Pm.up (cnt (ls.take k))))∧Wh w.heap.size w W) (fun i _=>(n-intOf i).toNat)
 case atStart=>exact⟨0,vom,rfl,(af.new w _ _).alloc _,af.newAt vsi,((Below.refl _ _).alloc (R3 _) _).alloc vsi _⟩
 case round=>
  obtain⟨k,hk,rfl,b,a,hb⟩:=hrel;by_cases hlt:k<n
  ·obtain⟨l,hl⟩:∃l,ls[k]?=some l:=⟨ls[k]'(by rw[←HN.out];exact hlt),Wu _⟩
   obtain⟨u,hu⟩:∃u,vs[k]?=some u:=⟨vs[k]'(by rw[o.out,←HN.out];exact hlt),Wu _⟩
   have c:=HL.out l (List.mem_of_getElem? hl);have h:=t.out k u l hu hl;obtain⟨g',cap',rfl⟩:=qE h c.1
   have x:wr.cell? ⟨g,k,none⟩=some (.slice (some ⟨g',0,none⟩) l.length cap'):=by
    rw[hb.cell (p:=⟨g,k,none⟩) hg,World.ownsRow.cellAt f.out k vom];exact hu
   have j:Hid (ls[k]?=some l):=hl;obtain⟨m,hm⟩:∃m,m=l.length:=⟨_,rfl⟩
   have HM:Hid (m=l.length):=hm;rw[←hm]at x c;obtain⟨A,y⟩:=c;clear hl hu h hm;have s:cnt (ls.take k) m≤26:=by have h5:=JR (ls.take k) m;have h6:=List.length_take_le k ls;omega
   have d:=a.cell (aB (Pm.up (cnt (ls.take k))) (i:=m) vom);have z:=a.frozen m;simp only[Pm.up]at d;generalize hq:cnt (ls.take k) m=q at d s;have HQ:Hid (cnt (ls.take k) m=q):=hq;clear hq;go_wp2;go_roundw
   case rel=>
    refine⟨k+1,vom,by go_num,b.setOther _ _ vsi,?_,hb.setCell vsi _⟩
    have e1:ls.take (k+1)=ls.take k++[l]:=by
     obtain⟨h7,h8⟩:=WW.1 j.out;rw[Y6 h7,h8]
    have h9:=a.set m (.int .i64 ((q:Int)+1));rw[ints_set]at h9;rw[e1,←J0,←HM.out,HQ.out];exact h9
   case measure=>simp[intOf];omega
  ·have HK:Hid (ls.take k=ls):=by rw[Hid];exact ZD (by have:=HN.out;omega)
   rw[HK.out]at a
   go_wp2_with (first
    |refine Wn rfl 126 _ rfl (w.heap.size+1) rfl 126 (ints 27 (Pm.up (cnt ls))) (0,0) _ a Tryz.underlying126 rfl (by rw[ag];exact ic) ?_
    |refine Wk rfl 126 _ _ rfl w.heap.size (ints 27 (Pm.up (cnt ls))) rfl rfl 126 _ b (by rw[ag];exact ic) (by simp only[ag]) (aI _ _) ?_)
   exact WL (v:=.agg (ints 27 (Pm.up (cnt ls)))) (results_cell_row rfl _ _ w.heap.size 126 _ (0,0) _ rfl (b.row _) Tryz.underlying126 rfl (by rw[ag];exact ic)) rfl ⟨rfl,Below.setRow hb _ (R3 _) _⟩
def dj(c:Nat→Nat):Nat→List Nat
 |0=>[]
 |k+1=>dj c k++XX (c (26-k)) (26-k)
theorem uS(c:Nat→Nat)(h:∀n,c n≤26):∀k,(dj c k).length≤26*k
 |0=>by simp[dj]
 |k+1=>by
  have:=uS c h k;have:=h (26-k);simp[dj];omega
def typeOf(p:Nat→Nat):List Nat:=dj (cnt (Pm.eS p 26)) 26
theorem LN{p:Nat→Nat}(hp:Pm.aC p):0<(Pm.eS p 26).length:=by
 apply Nat.pos_of_ne_zero;intro h;have:=Pm.sQ hp;rw[Xv h]at this;simp at this
theorem yt{p:Nat→Nat}(hp:Pm.aC p):∀l∈Pm.eS p 26,0<l.length∧l.length≤26:=fun l hl=>by
 obtain⟨i,hi,rfl,_⟩:=Pm.qu p 26 l hl;rw[Pm.iz];have:=Pm.mj hp i hi;exact⟨this.pos,this.le⟩
theorem NV(p:Nat→Nat)(hp:Pm.aC p)(w:V8):
  WA qf 32 #[.agg (ints 26 (Pm.up p))] w fun e w'=>∃v,e=.returned (.tuple #[v,.int .i64 0])∧fH w' w.heap.size v (typeOf p)∧Wh w.heap.size w w':=by
 obtain⟨i0,F,K,G,J⟩:=info_parts xI;have H0:Hid (Pm.cm (fun _=>Pm.up p) 1=0):=Kl p hp;go_enter Tryz.func32,Tryz.ntmps32
 go_wp2_with (first
  |refine Wn rfl 33 _ rfl w.heap.size rfl 33 (ints 26 (Pm.up p)) (0,0) _ (af.new w _ _) Wp rfl (by rw[ag];exact aj) ?_
  |refine jj rfl 113 33 _ rfl 26 (Pm.up p) rfl vde Tryz.underlying113 rm vde ?_)
 refine(iI (fun _=>Pm.up p) 1 vde _ _ vsi (range_one (af.newAt vsi))).mono ?_;rintro e W1 ⟨rfl,E⟩;obtain⟨r1,C,h⟩:=Rh E;clear E;rw[H0.out]
 go_wp2_with (refine Wn rfl 33 _ rfl w.heap.size rfl 33 (ints 26 (Pm.up p)) (0,0) _ r1 Wp rfl (by rw[ag];exact aj) ?_)
 refine(Ed p hp _).mono ?_;rintro e W2 ⟨v,rfl,g,l⟩
 go_wp2_with fail
 refine(xb (Pm.eS p 26) (LN hp) (Pm.qb p 26) (yt hp) _ v _ g).mono ?_;rintro e W3 ⟨rfl,x⟩;have t:=l.size;have z:=x.size;have D:Wh w.heap.size w W3:=(C.trans (l.mono vom)).trans (x.mono vom);have d:∀n,cnt (Pm.eS p 26) n≤26:=fun n=>Ws (JR _ _) (Pm.qb p 26);clear g C l x r1 H0;obtain⟨c,hc⟩:∃c,c=cnt (Pm.eS p 26):=⟨_,rfl⟩
 have HC:Hid (c=cnt (Pm.eS p 26)):=hc;rw[←hc]at d⊢;clear hc
 go_wp2_with (first
  |(refine Wk rfl 126 _ _ rfl W3.heap.size (ints 27 (Pm.up c)) rfl rfl 126 _ (af.new W3 _ _) (by rw[ag];exact ic) (by rw[ag];rfl) (aI _ _) ?_;rw[World.setRow_alloc_new]))
 go_loopw [6,7] (fun v n W=>∃k:Nat,k≤26∧n=.int .i64 ((26-k:Nat):Int)∧fH W (W3.heap.size+1) v (dj c k)∧af W W3.heap.size 126 (ints 27 (Pm.up c))∧Wh w.heap.size w W) (fun _ n _=>(intOf n).toNat)
 case atStart=>exact⟨0,vom,rfl,World.ownsRow_nil _ _ _ _,af.new _ _ _,D.alloc vom _⟩
 case round=>
  clear D;obtain⟨k,hk,rfl,a,b,hb⟩:=hrel;have s:=b.lt;have y:=uS c d k;by_cases o:k<26
  ·have B:(0:Int)<((26-k:Nat):Int):=vom
   have f:=b.cell (aB (Pm.up c) (i:=26-k) vom);simp only[Pm.up]at f;have hq:=d (26-k);obtain⟨q,A⟩:∃q,q=c (26-k):=⟨_,rfl⟩
   have HQ:Hid (q=c (26-k)):=A;rw[←A]at f hq;clear A;obtain⟨n,hn⟩:∃n,n=26-k:=⟨_,rfl⟩
   have HN:Hid (n=26-k):=hn;rw[←hn]at B f⊢;have L:n<27:=vom;have M:0<n:=vom;clear hn;have I:Hid (W3.heap.size<wr.heap.size∧w.heap.size+2≤W1.heap.size∧W1.heap.size≤W2.heap.size∧W2.heap.size≤W3.heap.size):=⟨s,h,t,z⟩
   have N:Hid (∀n,c n≤26):=d;have H:Hid ((dj c k).length≤26*k∧k<26∧q≤26):=⟨y,o,hq⟩
   clear s h t z d y o hk hq;go_wp2;go_loopw [6,24] (fun v j W=>∃m:Nat,m≤q∧j=.int .i64 m∧fH W (W3.heap.size+1) v (dj c k++XX m n)∧af W W3.heap.size 126 (ints 27 (Pm.up c))∧Wh w.heap.size w W) (fun _ j _=>(q-intOf j).toNat)
   case atStart=>exact⟨0,vom,rfl,by simpa using a,b,hb⟩
   case round=>
    clear a b hb f;obtain⟨m,hm,rfl,a,b,hb⟩:=hrel;obtain⟨_,h,t,z⟩:=I.out;obtain⟨y,o,hq⟩:=H.out;have s:=b.lt;by_cases hmq:m<q
    ·have O:(dj c k++XX m n).length≤1000:=vso
     go_wp2_with (first
      |(at_builtin;refine wpList_append_own _ rfl _ _ 31 rfl (W3.heap.size+1) 3 i0 (.int .i64 0) 1 8 Tryz.underlying31 F K G J rfl vde _ _ _ rfl (Xp a _) ⟨wr.heap.size,0,none⟩ 1 1 [.int .i64 (n:Nat)] rfl rfl (cell_one_new _ _ _) (fun u hu=>by simp at hu;subst hu;rfl) (by unfold maxLen;omega) vom vso ?_;intro v' w1 hown' hgrow _))
     go_roundw
     case rel=>
      refine⟨m+1,vom,by go_num,?_,nA (b.alloc _) hgrow (fun j hj=>(WC a j hj).1),(hb.alloc vom _).grown hgrow vso (fun j hj=>by have:=(WC a j hj).1;omega)⟩;have e1:dj c k++XX (m+1) n=(dj c k++XX m n)++[n]:=by rw[List.replicate_succ',List.append_assoc]
      rw[e1,fH,se,WM];exact hown'
     case measure=>simp[intOf];omega
    ·have HM:Hid (m=q):=by rw[Hid];omega
     go_wp2;go_roundw
     case rel=>
      refine⟨k+1,vom,?_,?_,b,hb⟩
      ·have:((26-(k+1):Nat):Int)=(n:Int)-1:=by rw[HN.out];omega
       rw[this]
      ·show fH _ _ _ (dj c k++XX (c (26-k)) (26-k))
       rw[←HQ.out,←HN.out,←HM.out];exact a
     case measure=>simp[intOf];omega
  ·have HK:Hid (k=26):=by rw[Hid];omega
   have hz:((26-k:Nat):Int)=0:=vom;go_wp2
   go_ret2
   refine⟨_,rfl,?_,hb⟩;have:=pN (B':=w.heap.size) a vom;rw[typeOf,←HC.out,←HK.out];exact this
end
section
open Go.RowKit PK Vg
theorem jD(W:V8)(q i:Nat)(v:R2):W.grownBy (W.setCell ⟨q,i,none⟩ v) (some q):=by
 have:=(Below.refl 0 W).setCell (p:=⟨q,i,none⟩) (XE _) v;exact⟨this.os,this.tape,this.output,this.size,fun k _ hne=>WT W ⟨q,i,none⟩ k v (fun e=>hne (by rw[e]))⟩
theorem sx{W V U:V8}{r:Option Nat}(h1:W.grownBy V r)(h2:V.grownBy U r):W.grownBy U r:=
 ⟨h2.os.trans h1.os,h2.tape.trans h1.tape,h2.output.trans h1.output,Ws h1.size h2.size,fun k hk hne=>(h2.block k (WE hk h1.size) hne).trans (h1.block k hk hne)⟩
section
variable{P:Program}
theorem AE(w:V8)(t e:TypeId)(n:Nat)(hn:n*2≤2 ^ 24)(h0:0<n)(hu:P.underlying t=some (.slice e))(z c:Array R2)(hzs:z.size=n)(hc:c.size=n)(hz:(P.info? e).map (fun i=>(i.zero,i.size))=some (some (.agg z),n)):
  (Instr.buildSlice t 1 #[(0,.agg c)]).run P w=.ok (.slice (some ⟨w.heap.size,0,none⟩) 1 1) (w.alloc (.cells c e)):=by
 obtain⟨f,d⟩:=zero_of_info hz;cases hq:P.info? e with
 |none=>simp[hq]at hz
 |some i=>
  have hs:i.size=n:=by simpa[hq]using d
  have h:∀W,(sizeOf e).run P W=.ok n W:=fun W=>by simp[sizeOf,typeInfo,hq,hs]
  have g:(Value.agg c).cells=c:=rfl
  have a:Instr.fill (fun i=>some (i*n,n)) (bJ n fun x=>z[x % n]!) [(0,.agg c)]=some c:=by
   rw[Instr.fill];simp only[g,hc,aU];rw[V9 vsi];have hx:=jM n (0*n) c.toList 0 (fun x=>z[x % n]!);rw[←Array.foldl_toList,Array.toList_zipIdx,hx];show some _=some c
   congr 1
   apply Xc;intro i;by_cases hi:i<n
   ·rw[aM _ hi,Wc (by simp[hc];omega)]
    simp[List.getD_eq_getElem?_getD,hc,hi]
   ·rw[Wv (by rw[aU];omega),Wv vom]
  have h3:¬(n > 2 ^ 24):=vom;have h4:¬(n=0):=vom;have b:(Value.agg z).cells=z:=rfl;simp only[Instr.buildSlice,XQ,run_underlying hu,Xo,h,Nat.one_mul,h3,h4,X9,f,Sem.run_pure,b,hzs,mJ,a];simp[newRow]
theorem vh{ops:Array Oper}{rest:List Oper}{op:Oper}{a:Act}{w:V8}{Q:Exit→Act→V8→Prop}(hgd:op.guard=none)(t e:TypeId)(x:Operand)(ho:op.op=.buildSlice t 1 #[(0,x)])
  (n:Nat) (z c:Array R2) (hx:a.eval x=.agg c) (hn:n*2≤2 ^ 24) (h0:0<n) (hu:P.underlying t=some (.slice e)) (hzs:z.size=n) (hc:c.size=n) (hz:(P.info? e).map (fun i=>(i.zero,i.size))=some (some (.agg z),n))
  (h:wpList P ops Q rest (a.put op.dst (.slice (some ⟨w.heap.size,0,none⟩) 1 1)) (w.alloc (.cells c e))):wpList P ops Q (op :: rest) a w:=
 wpList_plain hgd fun _ hK=>by
  unfold Oper.wp execOp;have hm:(#[(0,x)]:Array (Nat×Operand)).map (fun(i,x)=>(i,a.eval x))=#[(0,.agg c)]:=by simp[hx]
  simp only[ho,XQ,hm,AE w t e n hn h0 hu z c hzs hc hz,Xo];exact hK _ _ h
end
theorem n9:(qf.info? 35).map (·.zero)=some (some (.agg (aP (.slice none 0 0) (.slice none 0 0) (.slice none 0 0) (fun _=>0) (fun _=>0)))):=vkr
theorem AU{a b c:R2}{rf pl:Nat→Int}(ha:a.oneCell'=true)(hb:b.oneCell'=true)(hc:c.oneCell'=true):(aP a b c rf pl).all (·.oneCell')=true:=by
 unfold aP;rw[Array.all_append,Array.all_append,aI,aI];simp[ha,hb,hc]
theorem T6{g:Gm}(h1:1≤g.n∧g.n≤4)(h2:jR g g.n=0)(h3:g.rl=g.n∧ins g.rl g.ri=true)(h4:g.sl=g.n∧ins g.sl g.st=true)(h5:Pm.wrong g.rf=0∧jA true g.rf=true)(h6:Pm.wrong g.pl=0)(h7:jA false g.pl=true):gE g=0:=by
 unfold gE;rw[V9 vom,V9 (fun e=>e h2),V9 (fun e=>e h3.1),V9 (by rw[h3.2];decide),V9 (fun e=>e h4.1),V9 (by rw[h4.2];decide),V9 (fun e=>e h5.1),V9 (by rw[h5.2];decide),V9 (fun e=>e h6),V9 (by rw[h7];decide)]
def bare(g:Gm):Gm:={ g with pl:=Pm.up fun i=>i }
theorem BY(g:Gm):∀n,jR (bare g) n=jR g n
 |0=>rfl
 |n+1=>by
  show(if jR (bare g) n≠0 then jR (bare g) n else if Pm.wrong (g.wi n)≠0 then Pm.wrong (g.wi n)else if ins (g.nl n) (g.no n)=true then 0 else 3)=(if jR g n≠0 then jR g n else if Pm.wrong (g.wi n)≠0 then Pm.wrong (g.wi n)else if ins (g.nl n) (g.no n)=true then 0 else 3);rw[BY g n]
theorem tP{g:Gm}(h:gE g=0):gE (bare g)=0:=by
 obtain⟨h1,h2,h3,h4,h5,_,_⟩:=yJ h;refine T6 h1 (by rw[BY];exact h2) h3 h4 h5 (Pm.pI _ Pm.aC.id) ((uF _ _).2 fun i hi=>⟨rfl,fun e=>by cases e⟩)
theorem Oc(g:Gm):bZ (bare g)=Om.bA (bZ g):=rfl
theorem pG{W:V8}{v:R2}{n:Nat}{f:Nat→Int}(h:aq W v n f):v.oneCell'=true:=by
 obtain⟨a,c,e,_⟩:=h;rw[e]
 rfl
theorem s9(P:Nat→Nat→Nat)(k:Nat)(hk:k<3)(w:V8):(Instr.index 76 (.agg (ints 78 (flat P))) (.int .i64 (k:Int))).run qf w=.ok (.agg (ints 26 (Pm.up (P k)))) w:=by
 have hs:(sizeOf 33).run qf w=.ok 26 w:=by
  obtain⟨i,hi,hz⟩:=Xt.1 aj;simp[sizeOf,typeInfo,hi,hz]
 have he:((ints 78 (flat P)).extract (k*26) (k*26+26))=ints 26 (Pm.up (P k)):=by
  apply Xc;intro j;by_cases hj:j<26
  ·rw[aB _ hj,Array.getElem?_extract,Wc (by rw[ag];omega),aB _ vom]
   unfold flat Pm.up;rw[show(k*26+j) / 26=k by omega,show(k*26+j) % 26=j by omega]
  ·rw[Wv (by simp[ag];omega),Wv (by simp[ag];omega)]
 have hp:(part 33 (ints 78 (flat P)) (k*26)).run qf w=.ok (.agg (ints 26 (Pm.up (P k)))) w:=by
  unfold part isAgg;simp only[XQ,run_underlying Wp,Xo,Sem.run_pure,YI,hs,he]
 generalize ints 78 (flat P)=cs at *;generalize ints 26 (Pm.up (P k))=cs2 at *;simp[Instr.index,asIntOf,Sem.run_bind,run_underlying Tryz.underlying76,hs,hk,hp]
def gP(k:Nat)(V:Nat→R2):Array R2:=bJ 3 fun i=>if i<k then V i else .slice none 0 0
theorem gH(k:Nat)(V:Nat→R2):(gP k V).size=3:=aU _ _
theorem Na(k:Nat)(V:Nat→R2){i:Nat}(h:i<3):(gP k V)[i]?=some (if i<k then V i else .slice none 0 0):=aM _ h
theorem M6{k:Nat}(V:Nat→R2)(v:R2):(gP k V).setIfInBounds k v=gP (k+1) (fun i=>if i=k then v else V i):=by
 unfold gP;rw[dY];refine cy fun i _=>?_;show(if i=k then v else if i<k then V i else .slice none 0 0)=if i<k+1 then(if i=k then v else V i)else .slice none 0 0
 by_cases h:i=k
 ·rw[Wc h,Wc vom,Wc h]
 ·rw[V9 h]
  by_cases h2:i<k
  ·rw[Wc h2,Wc vom,V9 h]
  ·rw[V9 h2,V9 vom]
theorem Fs{k:Nat}{V:Nat→R2}(h:∀i,i<k→(V i).oneCell'=true):(gP k V).all (·.oneCell')=true:=by
 rw[WJ];intro v hv;simp[gP,bJ]at hv;obtain⟨i,_,rfl⟩:=hv;by_cases e:i<k
 ·rw[Wc e];exact h i e
 ·rw[V9 e];rfl
theorem fA:(qf.info? 50).map (·.size)=some 3:=vkr
theorem oa:(qf.info? 50).map (·.zero)=some (some (.agg (gP 0 fun _=>.slice none 0 0))):=vkr
theorem Hy:qf.built 50 []=some (gP 0 fun _=>.slice none 0 0):=vkr
theorem Am{w:V8}{B:Nat}{v:R2}{l:List Nat}(h:fH w B v l):aq w v l.length fun i=>((l.getD i 0:Nat):Int):=by
 have h':w.ownsRow B 3 1 v l.length (lD l):=h;rcases h'.2 with⟨rfl,h0⟩|⟨g,cap,cur,rfl,hB,hg,c,d,e,a⟩
 ·exact⟨none,0,by rw[h0],by rw[h0];decide,fun i hi=>by omega⟩
 ·refine⟨_,cap,rfl,vom,fun i hi=>⟨g,0,rfl,?_⟩⟩
  have h1:(lD l)[i]?=some (.int .i64 ((l.getD i 0:Nat):Int)):=by simp[lD,hi,List.getD_eq_getElem?_getD]
  rw[←a,Za vom]at h1;rw[WN];exact af.cell (w:=w) (b:=g) (T:=3) hg (by simpa using h1)
theorem Db{w:V8}{B:Nat}{v:R2}{l:List Nat}(h:fH w B v l):∃a c,v=.slice a l.length c:=by
 have h':w.ownsRow B 3 1 v l.length (lD l):=h;rcases h'.2 with⟨rfl,e⟩|⟨g,cap,cur,rfl,_⟩
 ·exact⟨none,0,by rw[e]⟩
 ·exact⟨_,_,rfl⟩
theorem Hj(W:V8)(b:Nat)(d:Array R2):W.grownBy (W.setRow b d) (some b):=by
 have:=Below.setRow (Below.refl 0 W) b (XE _) d;exact⟨this.os,this.tape,this.output,this.size,fun k _ hne=>setRow_other W b k d (fun e=>hne (by rw[e]))⟩
def rY(W:V8)(V:Nat→R2)(k:Nat)(P:Nat→Nat→Nat):Prop:=∀i,i<k→aq W (V i) (typeOf (P i)).length fun j=>(((typeOf (P i)).getD j 0:Nat):Int)
structure PE(w W:V8)(a b c:R2)(rf pl:Nat→Int)(P:Nat→Nat→Nat)(q4 q6 k:Nat)(V:Nat→R2):Prop where
 mg:cU w W a b c rf pl
 res:af W (w.heap.size+1) 50 (gP 0 fun _=>.slice none 0 0)
 out:af W q6 50 (gP k V)
 q1:w.heap.size+1<q4
 q2:q4<q6
 rows:rY W V k P
 Us:∀i,i<k→∀p,(V i).ownBlock=some p→q6<p
section
variable{w W W':V8}{a b c:R2}{rf pl:Nat→Int}{P:Nat→Nat→Nat}{q4 q6 k:Nat}{V:Nat→R2}
theorem PE.step(h:PE w W a b c rf pl P q4 q6 k V)(hb:Wh W.heap.size W W'):PE w W' a b c rf pl P q4 q6 k V:=⟨h.mg.step hb,h.res.below hb h.res.lt,h.out.below hb h.out.lt,h.q1,h.q2,fun i hi=>(h.rows i hi).below hb,h.Us⟩
theorem PE.put(h:PE w W a b c rf pl P q4 q6 k V){v:R2}{B:Nat}(hB:q6<B)(ho:fH W B v (typeOf (P k))):PE w (W.setCell ⟨q6,k,none⟩ v) a b c rf pl P q4 q6 (k+1) (fun i=>if i=k then v else V i):=by
 have h1:=h.q1;have h2:=h.q2;have f:=jD W q6 k v
 have g:∀p,v.ownBlock=some p→q6<p:=fun p hp=>by
  have h3:W.ownsRow B 3 1 v (typeOf (P k)).length (lD (typeOf (P k))):=ho;have:=(WC h3 p hp).1;omega
 refine⟨⟨h.mg.row.setOther _ _ (by show w.heap.size≠q6;omega),h.mg.below.setCell (p:=⟨q6,k,none⟩) (by show w.heap.size≤q6;omega) _⟩,h.res.setOther _ _ (by show w.heap.size+1≠q6;omega),?_,h.q1,h.q2,fun i hi=>?_,fun i hi p hp=>?_⟩
 ·have:=h.out.set k v
  rw[M6]at this;exact this
 ·show aq _ (if i=k then v else V i) _ _
  by_cases e:i=k
  ·rw[Wc e,e]
   exact oL (Am ho) f (fun p hp e2=>by have:=g p hp;cases e2;omega)
  ·rw[V9 e]
   exact oL (h.rows i vom) f (fun p hp e2=>by have:=h.Us i vom p hp;cases e2;omega)
 ·have d:(if i=k then v else V i).ownBlock=some p:=hp
  by_cases e:i=k
  ·rw[Wc e]at d;exact g p d
  ·rw[V9 e]at d;exact h.Us i vom p d
end
structure Ey(w W:V8)(a b c:R2)(rf pl:Nat→Int):Prop where
 mg:cU w W a b c rf pl
 res:af W (w.heap.size+1) 50 (gP 0 fun _=>.slice none 0 0)
theorem Ey.new(w:V8)(a b c:R2)(rf pl:Nat→Int):Ey w ((w.alloc (.cells (aP a b c rf pl) 35)).alloc (.cells (gP 0 fun _=>.slice none 0 0) 50)) a b c rf pl:=by
 have h:=af.new (w.alloc (.cells (aP a b c rf pl) 35)) 50 (gP 0 fun _=>.slice none 0 0);rw[WI]at h;exact⟨(cU.new w a b c rf pl).alloc _,h⟩
theorem Ey.step{w W W':V8}{a b c:R2}{rf pl:Nat→Int}(h:Ey w W a b c rf pl)(hb:Wh W.heap.size W W'):Ey w W' a b c rf pl:=⟨h.mg.step hb,h.res.below hb h.res.lt⟩
theorem Ik(a b c:R2)(rf pl:Nat→Int)(A:Array R2)(hA:Hid (A.size=78))(hA1:Hid (A.all (·.oneCell')=true))(E:Int)(hE:(E != 0)=true)(w:V8)(HW:Hid (∀W,Wh w.heap.size w W→WA qf 31 #[.agg (aP a b c rf pl)] W fun e w'=>e=.returned (.tuple #[.agg A,.int .i64 E])∧Wh W.heap.size W w')):WA qf 10 #[.agg (aP a b c rf pl)] w fun e w'=>e=.returned (.tuple #[.agg (gP 0 fun _=>.slice none 0 0),.int .i64 E])∧Wh w.heap.size w w':=by
 have h0:=Ey.new w a b c rf pl;have d:=bR oa;have h:=bR fW;go_enter Tryz.func10,Tryz.ntmps10
 go_wp2_with (first|refine Wn rfl 35 _ rfl w.heap.size rfl 35 (aP a b c rf pl) (0,0) _ h0.mg.row WH rfl (by rw[aD];exact aE) ?_)
 refine(HW.out _ h0.mg.below).mono ?_;rintro e W1 ⟨rfl,hb⟩;have h1:=h0.step hb;have f:=h1.res.lt;clear hb h0 HW d;have HR:Hid (af ((W1.alloc (.cells (ints 78 fun _=>0) 76)).setRow W1.heap.size A) (w.heap.size+1) 50 (gP 0 fun _=>.slice none 0 0)):=(h1.res.alloc (.cells (ints 78 fun _=>0) 76)).bG W1.heap.size A vom;have g:Hid _:=Below.setRow (Below.setRow (h1.mg.below.alloc h1.mg.below.size (.cells (ints 78 fun _=>0) 76)) W1.heap.size h1.mg.below.size A) (w.heap.size+1) vom (gP 0 fun _=>.slice none 0 0);clear h1 f
 go_wp2_with (first|refine cS rfl 50 rfl (gP 0 fun _=>.slice none 0 0) Hy ?_|refine Wk rfl 76 _ _ rfl W1.heap.size A rfl rfl 76 _ (af.new W1 _ _) (by rw[hA.out];exact dD) (by rw[hA.out,ag]) hA1.out ?_|refine Wk rfl 50 _ _ rfl (w.heap.size+1) (gP 0 fun _=>.slice none 0 0) rfl rfl 50 _ HR.out (by rw[gH];exact fA) (by simp only[gH]) (Fs fun i hi=>by omega) ?_)
 exact WL (v:=.tuple #[.agg (gP 0 fun _=>.slice none 0 0),.int .i64 E]) (aF rfl _ _ (w.heap.size+1) 50 _ (0,0) _ _ rfl rfl (HR.out.row _) YK rfl (by rw[gH];exact fA)) rfl ⟨rfl,g.out⟩
theorem L3(P:Nat→Nat→Nat)(hP:∀k,Pm.aC (P k))(a b c:R2)(rf pl:Nat→Int)(w:V8)(HW:Hid (∀W,Wh w.heap.size w W→WA qf 31 #[.agg (aP a b c rf pl)] W fun e w'=>e=.returned (.tuple #[.agg (ints 78 (flat P)),.int .i64 0])∧Wh W.heap.size W w')):WA qf 10 #[.agg (aP a b c rf pl)] w fun e w'=>∃V,e=.returned (.tuple #[.agg (gP 3 V),.int .i64 0])∧rY w' V 3 P∧Wh w.heap.size w w':=by
 have h0:=Ey.new w a b c rf pl;have N:=bR oa;have A:=bR fW;have S:Hid _:=hP;clear hP;go_enter Tryz.func10,Tryz.ntmps10
 go_wp2_with (first|refine Wn rfl 35 _ rfl w.heap.size rfl 35 (aP a b c rf pl) (0,0) _ h0.mg.row WH rfl (by rw[aD];exact aE) ?_)
 refine(HW.out _ h0.mg.below).mono ?_;rintro e W1 ⟨rfl,hb⟩;have h1:=h0.step hb;have m:=h1.res.lt;clear hb h0 HW
 go_upto_region 4 with(first|refine Wk rfl 76 _ _ rfl W1.heap.size (ints 78 (flat P)) rfl rfl 76 _ (af.new W1 _ _) (by rw[ag];exact dD) (by simp only[ag]) (aI _ _) ?_)
 have g:=(af.new W1 76 (ints 78 fun _=>0)).row (ints 78 (flat P));have z:=Below.setRow ((Below.refl W1.heap.size W1).alloc (R3 _) (.cells (ints 78 fun _=>0) 76)) W1.heap.size (R3 _) (ints 78 (flat P));have h4:=h1.step z;clear z;generalize (W1.alloc (.cells (ints 78 fun _=>0) 76)).setRow W1.heap.size (ints 78 (flat P))=V4 at *;obtain⟨q4,F⟩:∃x,x=W1.heap.size:=⟨_,rfl⟩
 rw[←F]at g m⊢;have E:=g.lt;clear F h1 A
 go_upto_region 5 with fail
 have h:=g.alloc (.cells (gP 0 fun _=>.slice none 0 0) 50);have l:PE w (V4.alloc (.cells (gP 0 fun _=>.slice none 0 0) 50)) a b c rf pl P q4 V4.heap.size 0 (fun _=>.slice none 0 0):=⟨h4.mg.alloc _,h4.res.alloc _,af.new V4 _ _,m,E,fun i hi=>by omega,fun i hi=>by omega⟩
 generalize V4.alloc (.cells (gP 0 fun _=>.slice none 0 0) 50)=V5 at *;obtain⟨q6,G⟩:∃x,x=V4.heap.size:=⟨_,rfl⟩
 rw[←G]at l⊢;clear G h4 g m E N
 go_wp2_with (first|refine Wn rfl 76 _ rfl q4 rfl 76 (ints 78 (flat P)) (0,0) _ h Tryz.underlying76 rfl (by rw[ag];exact dD) ?_)
 clear h;go_loopw [19] (fun i W=>∃(k:Nat) (V:Nat→R2),k≤3∧i=.int .i64 (k:Nat)∧PE w W a b c rf pl P q4 q6 k V) (fun i _=>((3:Int)-intOf i).toNat)
 case atStart=>exact⟨0,_,vom,rfl,l⟩
 case round=>
  clear l;obtain⟨k,V,hk,rfl,hg⟩:=hrel;by_cases hlt:k<3
  ·have s:Hid (k<3):=hlt
   have T:(k:Int)<3:=vom;have y:=s9 P k hlt;have I:=bR dG;have q:=S.out k;obtain⟨pk,t⟩:∃p,p=P k:=⟨_,rfl⟩
   rw[←t]at y q;have O:Hid _:=t;have HG:Hid _:=hg;clear t hg hlt
   go_upto_region 8 with(first|refine Wk rfl 33 _ _ rfl wr.heap.size (ints 26 (Pm.up pk)) rfl rfl 33 _ (af.new wr _ _) (by rw[ag];exact aj) (by simp only[ag]) (aI _ _) ?_)
   have n:=(af.new wr 33 (ints 26 fun _=>0)).row (ints 26 (Pm.up pk));have B:=Below.setRow ((Below.refl wr.heap.size wr).alloc (R3 _) (.cells (ints 26 fun _=>0) 33)) wr.heap.size (R3 _) (ints 26 (Pm.up pk));have o:=HG.out.step B;generalize (wr.alloc (.cells (ints 26 fun _=>0) 33)).setRow wr.heap.size (ints 26 (Pm.up pk))=X at *;obtain⟨q8,D⟩:∃x,x=wr.heap.size:=⟨_,rfl⟩
   rw[←D]at n⊢;clear D y I B HG
   go_wp2_with (first|refine Wn rfl 33 _ rfl q8 rfl 33 (ints 26 (Pm.up pk)) (0,0) _ n Wp rfl (by rw[ag];exact aj) ?_)
   refine(NV pk q _).mono ?_;rintro e Y ⟨v,rfl,f,hb⟩;have d:=o.step hb;rw[O.out]at f;have C:Hid _:=d.put o.out.lt f;obtain⟨av,cv,J⟩:=Db f;have Q:=d.out.cell (Na k V s.out);rw[V9 (Nat.lt_irrefl _)]at Q;have b9:=d.out.frozen k;clear o d hb f n q;rw[J]at C⊢;clear J;go_wp2;go_roundw
   case rel=>exact⟨k+1,_,s.out,by go_num,C.out⟩
   case measure=>have:=s.out;simp[intOf];omega
  ·obtain rfl:k=3:=vom
   have K:=hg.out;have H:=hg.res;have L:=hg.mg.below;have U:=hg.q1;have Z:=hg.q2;have j:(gP 3 V).all (·.oneCell')=true:=Fs fun i hi=>pG (hg.rows i hi);have M:Hid (rY (wr.setRow (w.heap.size+1) (gP 3 V)) V 3 P):=fun i hi=>oL (hg.rows i hi) (Hj wr (w.heap.size+1) (gP 3 V)) (fun p hp e=>by have:=hg.Us i hi p hp;cases e;omega);have u:Hid _:=j;clear hg hlt j
   go_wp2_with (first|refine Wn rfl 50 _ rfl q6 rfl 50 (gP 3 V) (0,0) _ K YK rfl (by rw[gH];exact fA) ?_|refine Wk rfl 50 _ _ rfl (w.heap.size+1) (gP 3 V) rfl rfl 50 _ H (by rw[gH];exact fA) (by simp only[gH]) u.out ?_)
   exact WL (v:=.tuple #[.agg (gP 3 V),.int .i64 0]) (aF rfl _ _ (w.heap.size+1) 50 _ (0,0) _ _ rfl rfl (H.row _) YK rfl (by rw[gH];exact fA)) rfl ⟨V,rfl,M.out,Below.setRow L _ vom _⟩
theorem lZ{M:Om.Ma}(hM:Om.Ok M)(k:Nat):Pm.aC (qz M k):=(Om.eM hM _).comp (Om.eM hM _)
theorem xW(vm:R2)(g:Gm)(w:V8)(hm:cL w vm g):WA qf 10 #[vm] w fun e w'=>(gE g≠0∧e=.returned (.tuple #[.agg (gP 0 fun _=>.slice none 0 0),.int .i64 (gE g)])∧Wh w.heap.size w w')∨(gE g=0∧∃V,e=.returned (.tuple #[.agg (gP 3 V),.int .i64 0])∧rY w' V 3 (qz (bZ g))∧Wh w.heap.size w w'):=by
 have HC:=fun W (hb:Wh w.heap.size w W)=>Gq vm g W (hm.below hb);obtain⟨a,b,c,rfl,_⟩:=hm;unfold R7 at HC;by_cases hg:gE g=0
 ·obtain⟨hM,_⟩:=fq hg
  rw[Wc hg,hg]at HC;refine(L3 _ (lZ hM) a b c g.rf g.pl w HC).mono ?_;rintro e w' h;exact .inr ⟨hg,h⟩
 ·rw[V9 hg]at HC
  refine(Ik a b c g.rf g.pl _ (ag _ _) (aI _ _) _ (by simpa using hg) w HC).mono ?_;rintro e w' h;exact .inl ⟨hg,h⟩
end
end Go.Proofs.YtpcnpkhgjanamaaGreatDoor
