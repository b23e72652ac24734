import Derived.Test.YtgacaecjinlhiaaGreatDoorJn34
namespace Go.Proofs.YtgacaecjinlhiaaGreatDoor
open Go.RowKit PK Vg
attribute [local go_sem] Oper.semAt_some
section
variable {F:Fence} {n:Nat} {P:Program}
theorem nA {ops:Array Oper} {rest:List Oper} {o:Oper} {a:Act} {w:World} {Q:Exit→Act→World→Prop} (hgd:o.guard=none) (t e:TypeId) (x:Operand) (ho:o.op=.buildSlice t 1 #[(0,x)])
  (s:Nat) (hn:s*2≤2 ^ 24) (h0:0<s) (z c:Array Value) (hx:a.eval x=.agg c) (hu:P.underlying t=some (.slice e)) (hzs:z.size=s) (hc:c.size=s) (hz:(P.info? e).map (fun i=>(i.zero,i.size))=some (some (.agg z),s))
  (h:wpListIn F n P ops Q rest (a.put o.dst (.slice (some ⟨w.heap.size,0,none⟩) 1 1)) (w.alloc (.cells c e))):wpListIn F n P ops Q (o :: rest) a w:=by
 refine wpListIn_plain hgd fun K hK=>?_
 unfold Oper.wpIn
 refine ⟨by simp[Oper.about,ho],?_⟩
 rw[Oper.semAt_plain F _ _ (by rw[ho];intro c hc';cases hc')]
 unfold execOp
 have hm:(#[(0,x)]:Array (Nat × Operand)).map (fun (i,x)=>(i,a.eval x))=#[(0,.agg c)]:=by simp[hx]
 simp only[ho,Sem.run_bind,hm,oe w t e s hn h0 hu z c hzs hc hz,Result.andThen_ok]
 exact hK _ _ h
end
theorem Dl:(Tryz.prog.info? 104).map (fun i=>(i.zero,i.size))=some (some (.agg (whl (fun _=>0) (.slice none 0 0))),27):=by kernel_rfl
theorem Cm:(Tryz.prog.info? 104).map (fun i=>(i.zero,i.size,i.bytes))=some (some (.agg (whl (fun _=>0) (.slice none 0 0))),27,232):=by kernel_rfl
theorem KsP.refl (bp bs bv:Nat) (W:World):KsP bp bs bv W W:=⟨rfl,rfl,rfl,Nat.le_refl _⟩
theorem KsP.of {bp bs bv:Nat} {W W':World} {B:Nat} (h:Below B W W') (hB:bp<B∧bs<B∧bv<B):KsP bp bs bv W W':=⟨h.block _ hB.1,h.block _ hB.2.1,h.block _ hB.2.2,h.size⟩
theorem KsP.set {bp bs bv g o:Nat} (W:World) (v:Value) (hg:bp≠g∧bs≠g∧bv≠g):KsP bp bs bv W (W.setCell ⟨g,o,none⟩ v):=⟨heap_setCell_other W ⟨g,o,none⟩ bp _ hg.1,heap_setCell_other W ⟨g,o,none⟩ bs _ hg.2.1,heap_setCell_other W ⟨g,o,none⟩ bv _ hg.2.2,by rw[World.size_setCell];exact Nat.le_refl _⟩
theorem KsP.grown {bp bs bv:Nat} {W W':World} {row:Option Nat} (h:W.grownBy W' row) {B:Nat} (hB:bp<B∧bs<B∧bv<B) (hW:B≤W.heap.size) (hr:∀r,row=some r→B≤r):KsP bp bs bv W W' :=
 ⟨h.block _ (by omega) (fun e=>by have:=hr _ e.symm;omega),h.block _ (by omega) (fun e=>by have:=hr _ e.symm;omega),h.block _ (by omega) (fun e=>by have:=hr _ e.symm;omega),h.size⟩
theorem Ad {W W':World} {B:Nat} {T:TypeId} {s n:Nat} {v:Value} {l:List Value} (h:W.ownsRow B T s v n l) (hg:W.grownBy W' v.ownBlock):KeepsOthers W W':=⟨hg.size,fun k o hk ho=>(hg.block k (Array.getElem?_eq_some_iff.1 hk).1 (fun e=>by
 obtain ⟨c,hc⟩:=qw h k e.symm
 rw[hc] at hk
 cases hk
 cases ho)).trans hk⟩
theorem EJ {P:Program} {e:TypeId} {z:Value} {s b:Nat} (h:(P.info? e).map (fun i=>(i.zero,i.size,i.bytes))=some (some z,s,b)):∃i,P.info? e=some i∧i.zero=some z∧i.size=s∧i.bytes=b:=by
 obtain ⟨i,hi,hzz⟩:=Option.map_eq_some_iff.1 h
 simp only[Prod.mk.injEq] at hzz
 exact ⟨i,hi,hzz.1,hzz.2.1,hzz.2.2⟩
theorem kG {w:World} {B:Nat} {e:TypeId} {s:Nat} {v:Value} {n:Nat} {xs:List Value} (h:w.ownsRow B e s v n xs):∃a c,v=.slice a n c:=by
 rcases h.2 with ⟨rfl,h0⟩ | ⟨g',cap,cur,rfl,_⟩
 ·exact ⟨none,0,by rw[h0]⟩
 ·exact ⟨_,_,rfl⟩
theorem jh {w W:World} {B D:Nat} (h:Below B w W) (hD:B≤D) (o:Obj):Below B w (W.putObj D o):=⟨h.os,h.tape,h.output,by rw[World.putObj_size];exact h.size,fun k hk=>(World.putObj_heap_other (by omega)).trans (h.block k hk)⟩
theorem yV {W:World} {v:Value} {n:Nat} {f:Nat→Int} (h:aq W v n f):v.oneCell'=true:=by obtain ⟨a,cap,rfl,_⟩:=h;rfl
def w1 (w:World) (s:ByteArray):World:=((w.alloc (.cells #[.string s] 9)).alloc (.cells #[.string ⟨#[44]⟩] 9)).alloc (.cells #[.int .i64 0] 3)
set_option maxRecDepth 100000 in
theorem An (s:ByteArray) (w:World):Calls Tryz.prog 147 #[.string s,.string ⟨#[44]⟩,.int .i64 0] w fun e w'=>e=.returned (.func (.func 164) #[] #[.pointer (some ⟨w.heap.size+1,0,none⟩),.pointer (some ⟨w.heap.size,0,none⟩),.pointer (some ⟨w.heap.size+2,0,none⟩)])∧w'=w1 w s:=by
 have hmf:=mkf
 go_enter Tryz.func147,Tryz.ntmps147
 go_wp2
 go_ret
 exact ⟨rfl,rfl⟩
set_option maxRecDepth 100000 in
theorem FE (s:ByteArray) (w:World):Calls Tryz.prog 120 #[.string s,.string ⟨#[44]⟩] w fun e w'=>e=.returned (.func (.func 164) #[] #[.pointer (some ⟨w.heap.size+1,0,none⟩),.pointer (some ⟨w.heap.size,0,none⟩),.pointer (some ⟨w.heap.size+2,0,none⟩)])∧w'=w1 w s:=by
 have HC:Hid _:=An s w
 go_enter Tryz.func120,Tryz.ntmps120
 go_wp2_with fail
 refine Calls.mono HC.out ?_
 rintro e V ⟨rfl,rfl⟩
 go_wp2
 go_ret
 exact ⟨rfl,rfl⟩
theorem I9 (args:Array Value) (W:World):(callFunc 164 args).run Tryz.prog W=.ok (.enter 164 args) W:=by kernel_rfl
def wsE (l:List UInt8):Int:=if oB (fun k=>knE (pce l k)) (pcn l)≠0 then oB (fun k=>knE (pce l k)) (pcn l) else if 4<pcn l then 5 else 0
def wsA (l:List UInt8) (p:Nat):Nat:=if oB (fun k=>knE (pce l k)) (pcn l)≠0 then p+off l (IV (fun k=>knE (pce l k)) (pcn l)) else p
structure WhI (w0:World) (q B:Nat) (l:List UInt8) (p:Nat) (s:ByteArray) (k:Nat) (W:World):Prop where
 err:∀j,j<k→knE (pce l j)=0
 wd:af W q 91 #[.string s,.int .i64 (p:Int)]
 out:∃v R,af W (q+1) 22 #[v]∧WhO W B v k (pce l) R
 pos:af W (q+1+1) 3 #[.int .i64 ((p+off l k:Nat):Int)]
 old:Below w0.heap.size w0 W
 low:B≤W.heap.size
theorem WhI.grown {w0:World} {q B:Nat} {l:List UInt8} {p:Nat} {s:ByteArray} {k:Nat} {W W':World} {row:Option Nat} (h:WhI w0 q B l p s k W) (hg:W.grownBy W' row) (hq:w0.heap.size=q∧q+3<B) (hr:∀r,row=some r→(B≤r∧∃o:Obj,W.heap[r]? = some o∧o.isCells=false)∨r=q+3):WhI w0 q B l p s k W':=by
 have hkeep:∀b,b<q+3→W'.heap[b]? = W.heap[b]?:=fun b hb=>hg.block b (by have:=h.low;omega) (fun e=>by rcases hr b e.symm with h1 | h1 <;> omega)
 obtain ⟨v,R,h1,h2⟩:=h.out
 refine ⟨h.err,(hkeep q (by omega)).trans h.wd,⟨v,R,(hkeep _ (by omega)).trans h1,h2.grown hg (fun r hr2=>?_)⟩,(hkeep _ (by omega)).trans h.pos,?_,by have:=hg.size;have:=h.low;omega⟩
 ·rcases hr r hr2 with ⟨_,h4⟩ | h3
  ·exact .inr h4
  ·exact .inl (by omega)
 ·exact h.old.grown hg (by have:=h.old.size;omega) (fun r e=>by rcases hr r e with h1 | h1 <;> omega)
set_option maxRecDepth 100000 in
set_option maxHeartbeats 4000000 in
theorem vX (l:List UInt8) (p:Nat) (hs:l.length≤65536) (hp:p≤65536) (w:World) :
  Calls Tryz.prog 98 #[wdV l p] w fun e w'=>(wsE l=0→∃v,e=.returned v∧Nw w.heap.size w'.heap.size (fun W=>b7 W v (pcn l) (fun r=>knW (pce l r)) (fun r=>(knN (pce l r)).length) (fun r i=>((knN (pce l r)).getD i 0:Nat))) w')∧(wsE l≠0→e=.panicked [flt (wsE l) (wsA l p)])∧Below w.heap.size w w':=by
 obtain ⟨s,hsd⟩:∃s:ByteArray,s=⟨l.toArray⟩:=⟨_,rfl⟩
 have hsl:s.data.toList=l:=by rw[hsd]
 have hz:=Pl.aK s
 rw[hsl] at hz
 have hss:s.size≤65536:=by omega
 unfold wdV
 rw[←hsd]
 refine tP Tryz.func98 rfl ?_
 simp only[Tryz.ntmps98,List.size_toArray,List.length_cons,List.length_nil,Nat.reduceAdd,Nat.reduceSub,Array.replicate_succ,Array.replicate_zero,List.push_toArray,List.append_toArray,List.nil_append,List.cons_append]
 clear hsd
 refine lz (gP ?_)
 go_wp2
 refine lz (gP ?_)
 go_wp2
 refine lz (gP ?_)
 go_wp2
 obtain ⟨Y,hY⟩:∃Y,Y=((w.alloc (.cells #[.string s,.int .i64 (p:Int)] 91)).alloc (.cells #[.slice none 0 0] 22)).alloc (.cells #[.int .i64 (p:Int)] 3):=⟨_,rfl⟩
 rw[←hY]
 have hysz:Y.heap.size=w.heap.size+3:=by rw[hY];simp
 have hwd:af Y w.heap.size 91 #[.string s,.int .i64 (p:Int)]:=by rw[hY];exact ((af.new w _ _).alloc _).alloc _
 have hout:af Y (w.heap.size+1) 22 #[.slice none 0 0]:=by
  rw[hY]
  have:=(af.new (w.alloc (.cells #[.string s,.int .i64 (p:Int)] 91)) 22 #[.slice none 0 0]).alloc (.cells #[.int .i64 (p:Int)] 3)
  simpa using this
 have hpos:af Y (w.heap.size+1+1) 3 #[.int .i64 (p:Int)]:=by
  rw[hY]
  have:=af.new ((w.alloc (.cells #[.string s,.int .i64 (p:Int)] 91)).alloc (.cells #[.slice none 0 0] 22)) 3 #[.int .i64 (p:Int)]
  simpa using this
 have hbY:Below w.heap.size w Y:=by rw[hY];exact (((Below.refl _ w).alloc (Nat.le_refl _) _).alloc (by simp) _).alloc (by simp;omega) _
 clear hY
 have c0:=af.cell hwd (i:=0) rfl
 have HFC:Hid _:=FE s Y
 refine lz (lz (gP ?_))
 go_wp2_with fail
 refine Calls.mono HFC.out ?_
 rintro e Y2 ⟨rfl,hY2⟩
 rw[hysz]
 have hb2:Below Y.heap.size Y Y2:=by rw[hY2];exact (((Below.refl _ Y).alloc (Nat.le_refl _) _).alloc (by simp) _).alloc (by simp;omega) _
 have hsz2:Y2.heap.size=w.heap.size+6:=by rw[hY2];simp[w1,hysz]
 have hss2:ou Y2 (w.heap.size+3+1) (w.heap.size+3) (w.heap.size+3+2) s:=by
  rw[hY2,←hysz]
  refine ⟨?_,((af.new Y _ _).alloc _).alloc _,?_,by omega⟩
  ·have:=(af.new (Y.alloc (.cells #[.string s] 9)) 9 #[.string ⟨#[44]⟩]).alloc (.cells #[.int .i64 0] 3)
   rw[World.size_alloc] at this
   exact this
  ·have:=af.new ((Y.alloc (.cells #[.string s] 9)).alloc (.cells #[.string ⟨#[44]⟩] 9)) 3 #[.int .i64 0]
   rw[World.size_alloc,World.size_alloc] at this
   exact this
 have HI0:Hid (WhI w w.heap.size (w.heap.size+6) l p s 0 Y2):=⟨fun j hj=>by omega,af.below hwd hb2 (af.lt hwd),⟨_,fun _=>undef,af.below hout hb2 (af.lt hout),WhO.nil _ _ _ _⟩,af.below hpos hb2 (af.lt hpos),hbY.trans (hb2.mono hbY.size),by omega⟩
 have hSEQ:=BF (w.heap.size+3+1) (w.heap.size+3) (w.heap.size+3+2) s hss Y2 (9-1) hss2
 rw[hsl] at hSEQ
 clear hY2 hb2 hss2 HFC c0 hwd hout hpos hbY hysz
 go_wp2
 refine By (qS (n:=9) (rz 98 trivial ⟨_,Tryz.func98⟩ (by omega) (gf:=164) (lb:=#[.pointer (some ⟨w.heap.size+3+1,0,none⟩),.pointer (some ⟨w.heap.size+3,0,none⟩),.pointer (some ⟨w.heap.size+3+2,0,none⟩)]) rfl trivial I9 hSEQ (fun r h=>by subst h;omega) (fun h k=>h.trans k) (fun W x o o' hx _ _ _=>⟨World.putObj_heap_other (by omega),World.putObj_heap_other (by omega),World.putObj_heap_other (by omega),by rw[World.putObj_size];exact Nat.le_refl _⟩) (Below.refl _ _) (fun _=>rfl)
  (fun k W=>WhI w w.heap.size (w.heap.size+6) l p s k W)
  (fun ch W=>wsE l≠0∧ch=[flt (wsE l) (wsA l p)]∧Below w.heap.size w W)
  (fun s W W' row hs hg hr=>hs.grown hg ⟨rfl,by omega⟩ (fun r e=>by rcases hr r e with h1 | h1;exact .inl ⟨by omega,h1.2⟩;exact .inr h1))
  HI0.out
  (fun k a' W=>a'={ tmps:=#[.agg #[.string s,.int .i64 (p:Int)],.pointer (some ⟨w.heap.size,0,none⟩),.slice none 0 0,.pointer (some ⟨w.heap.size+1,0,none⟩),.pointer (some ⟨w.heap.size+1+1,0,none⟩),.string ⟨(pce l k).toArray⟩,undef,undef,.pointer (some ⟨w.heap.size,1,none⟩),.int .i64 (p:Int),.pointer (some ⟨w.heap.size,0,none⟩),.string s,.func (.func 164) #[] #[.pointer (some ⟨w.heap.size+3+1,0,none⟩),.pointer (some ⟨w.heap.size+3,0,none⟩),.pointer (some ⟨w.heap.size+3+2,0,none⟩)],.string ⟨(pce l k).toArray⟩,undef,undef,undef,undef,undef,undef,undef,undef,undef,undef,undef,undef,undef,undef,undef,undef,undef,undef,undef,undef,undef,undef,undef,undef],defers:=[] })
  ?hAx ?hassign ?hbody ?hdone ?hpan))
 case hAx =>
  rintro k a' s W W' row h hg hr
  exact h
 case hassign =>
  intro l' k W K hI hk hK
  have HK:Hid _:=hK
  clear hK
  simp only[Array.zip,List.zipWith_toArray,List.zipWith_cons_cons,List.zipWith_nil_right,List.foldl_toArray,List.foldl_cons,List.foldl_nil,zsA,zsB,zsC]
  gi_wp2
  exact HK.out _ _ (KeepsOthers.refl W) (KsP.refl _ _ _ W) hI rfl
 case hbody =>
  rintro l' k a' W hI rfl hk
  obtain ⟨v,R,ho,hw⟩:=hI.out
  obtain ⟨T,hT⟩:∃T:ByteArray,T=⟨(pce l k).toArray⟩:=⟨_,rfl⟩
  have hTl:T.data.toList=pce l k:=by rw[hT]
  have hlen:=zI l k hk
  have hple:(pce l k).length≤(rst l k).length:=by unfold pce upto;exact (List.takeWhile_sublist _).length_le
  have hTz:T.size=(pce l k).length:=by rw[Pl.aK,hTl]
  have hkn:k≤65536:=by have h1:=(List.count_le_length (a:=(44:UInt8)) (l:=l));unfold pcn at hk;omega
  rw[←hT]
  have HKN:Hid _:=Bd T W
  rw[hTl] at HKN
  have HI:Hid (WhI w w.heap.size (w.heap.size+6) l p s k W):=hI
  have HW:Hid (WhO W (w.heap.size+6) v k (pce l) R):=hw
  have HO:Hid (af W (w.heap.size+1) 22 #[v]):=ho
  have HKP:Hid (k<pcn l):=hk
  have HTZ:Hid (off l (k+1)=off l k+(T.size+1)):=by rw[Hid,hTz];rfl
  obtain ⟨A,hA⟩:∃A:Nat,A=p+off l k:=⟨_,rfl⟩
  have hA2:(A:Int)≤131072:=by omega
  have hT2:(T.size:Int)≤65536:=by omega
  have HA:Hid (p+off l k=A):=hA.symm
  have hz27:=cm fP
  obtain ⟨i0,hi0,hz0,hz1,hz2⟩:=EJ Cm
  clear hT hTl hlen hple hTz hI hw ho hk hA hSEQ HI0
  gi_wp2
  refine ⟨trivial,?_⟩
  refine (CallsIn.inRound l' (callsIn_wide.2 HKN.out)).mono ?_
  rintro e V5 ⟨Q,rfl,hq,hfr,hb5⟩
  have HONE:Hid ((whl (knW (pce l k)) Q).all (·.oneCell')=true):=eM (yV hq)
  have HSZ:Hid ((whl (knW (pce l k)) Q).size=27):=aH _ _
  obtain ⟨CS,hCS⟩:∃CS,CS=whl (knW (pce l k)) Q:=⟨_,rfl⟩
  rw[←hCS] at HONE HSZ ⊢
  have HCS:Hid (CS=whl (knW (pce l k)) Q):=hCS
  obtain ⟨X6,hX6⟩:∃X6,X6=(V5.alloc (.cells (whl (fun _=>0) (.slice none 0 0)) 104)).setRow V5.heap.size CS:=⟨_,rfl⟩
  have hb6:Below V5.heap.size V5 X6:=by rw[hX6];exact PK.Below.setRow ((Below.refl _ V5).alloc (Nat.le_refl _) _) V5.heap.size (Nat.le_refl _) _
  have hr6:af X6 V5.heap.size 104 CS:=by rw[hX6];exact (af.new V5 _ _).row CS
  have hb06:Below W.heap.size W X6:=hb5.trans (hb6.mono hb5.size)
  have ho6:af X6 (w.heap.size+1) 22 #[v]:=af.below HO.out hb06 (af.lt HO.out)
  have hp6:af X6 (w.heap.size+1+1) 3 #[.int .i64 (A:Int)]:=by have:=af.below HI.out.pos hb06 (af.lt HI.out.pos);rw[HA.out] at this;exact this
  have HW6:Hid (WhO X6 (w.heap.size+6) v k (pce l) R):=HW.out.below hb06
  have HQ:Hid (Nw W.heap.size V5.heap.size (fun W=>aq W Q (knN (pce l k)).length (fun i=>((knN (pce l k)).getD i 0:Nat))) X6):=(s9 hq hfr).below hb6
  have HB6:Hid (Below W.heap.size W X6):=hb06
  have HL6:Hid (w.heap.size+6≤W.heap.size∧V5.heap.size<X6.heap.size∧W.heap.size≤X6.heap.size):=⟨HI.out.low,af.lt hr6,hb06.size⟩
  have c3:=af.cell ho6 (i:=0) rfl
  have c4:=af.cell hp6 (i:=0) rfl
  have hrq:=af.range hr6
  have HO6:Hid _:=ho6
  have HP6:Hid _:=hp6
  clear hb5 hb6 hb06 hr6 ho6 hp6 hq hfr HKN hCS
  by_cases hoe:knE (pce l k)=0
  ·have HER:Hid (∀i,i<k+1→knE (pce l i)=0):=fun i hi=>by
    by_cases e:i=k
    ·rw[e];exact hoe
    ·exact HI.out.err i (by omega)
   rw[hoe]
   have HP:Hid _:=fX (A:Int) X6
   clear hoe
   gi_wp2_with (first | (refine fG rfl 104 _ _ rfl V5.heap.size CS rfl rfl 104 _ (af.new V5 _ _) (by rw[HSZ.out];exact aT) (by rw[HSZ.out,aH]) HONE.out ?_;rw[←hX6];clear hX6))
   refine ⟨trivial,?_⟩
   refine (CallsIn.inRound l' (callsIn_wide.2 HP.out)).mono ?_
   rintro e Z ⟨rfl,hZ⟩
   rw[hZ]
   clear hZ Z HP
   gi_wp2_with (first | refine lZ rfl 104 _ rfl V5.heap.size 0 rfl CS _ hrq Tryz.underlying104 rfl (by rw[HSZ.out];exact aT) ?_ | refine nA rfl 22 104 _ rfl 27 (by decide) (by decide) (whl (fun _=>0) (.slice none 0 0)) CS rfl Tryz.underlying22 (aH _ _) HSZ.out Dl ?_ | (gi_at_builtin;refine wpListIn_append_own_at _ rfl _ _ 22 rfl (w.heap.size+6) 104 i0 (.agg (whl (fun _=>0) (.slice none 0 0))) 27 232 Tryz.underlying22 hi0 hz0 hz1 hz2 (aH _ _) (by decide) _ _ _ rfl (World.ownsRow.alloc HW6.out.own _) ⟨X6.heap.size,0,none⟩ 1 1 CS.toList rfl (by rw[Array.length_toList,HSZ.out]) (fun q u hu=>by rw[Addr.add_mid,Nat.zero_add];exact (af.new X6 104 CS).cell (by rw[←Array.getElem?_toList];exact hu)) (fun u hu=>by have:=HONE.out;rw[←Array.all_toList] at this;exact List.all_eq_true.1 this u hu) (by unfold maxLen;omega) (by omega) (by have:=HL6.out;simp;omega) ?_;intro v5 w5 hown5 hgrow5 _ hat5;obtain ⟨g5,c5,rfl⟩:=kG hown5;have ro5:af w5 (w.heap.size+1) 22 #[v]:=(hgrow5.block _ (by have:=HL6.out;simp;omega) (fun e=>by have:=(World.ownsRow.lt HW6.out.own _ e.symm).1;omega)).trans (af.alloc HO6.out _);have rp5:af w5 (w.heap.size+1+1) 3 #[.int .i64 (A:Int)]:=(hgrow5.block _ (by have:=HL6.out;simp;omega) (fun e=>by have:=(World.ownsRow.lt HW6.out.own _ e.symm).1;omega)).trans (af.alloc HP6.out _);have d3:=af.cell ro5 (i:=0) rfl;have e3:=af.frozen ro5 0;have rp6:=af.setOther rp5 ⟨w.heap.size+1,0,none⟩ (.slice g5 (k+1) c5) (by show w.heap.size+1+1≠w.heap.size+1;omega);have d4:=af.cell rp6 (i:=0) rfl;have e4:=af.frozen rp6 0;have HR5:Hid _:=ro5;have HRP:Hid _:=rp5;have HRP6:Hid _:=rp6;have HOWN:Hid _:=hown5;have HGR:Hid _:=hgrow5;have HAT:Hid _:=hat5;clear ro5 rp5 rp6 hown5 hgrow5 hat5 c3 c4 hrq))
   have hlow:=HI.out.low
   have hal:Below X6.heap.size X6 (X6.alloc (.cells CS 104)):=(Below.refl _ X6).alloc (Nat.le_refl _) _
   have hmore:=(HW6.out.below hal).more (b:=W.heap.size) (Q:=Q) hlow (fun g hg=>(World.ownsRow.lt HW.out.own g hg).2) ((HQ.out.mono (Nat.le_refl _) (by have:=HL6.out;rw[World.size_alloc];omega)).below hal) (by rw[←HCS.out];exact HOWN.out) HGR.out HAT.out
   have hm2:=(hmore.grown (grownBy_setCell' w5 (w.heap.size+1) (.slice g5 (k+1) c5)) (fun r e=>by cases e;exact .inl (by omega))).grown (grownBy_setCell' _ (w.heap.size+1+1) (.int .i64 ((A:Int)+((T.size:Int)+1)))) (fun r e=>by cases e;exact .inl (by omega))
   have hwd6:af w5 w.heap.size 91 #[.string s,.int .i64 (p:Int)]:=(HGR.out.block _ (by have:=HL6.out;simp;omega) (fun e=>by have:=(World.ownsRow.lt HW6.out.own _ e.symm).1;omega)).trans (af.alloc (af.below HI.out.wd HB6.out (af.lt HI.out.wd)) _)
   have hold:Below w.heap.size w w5:=(((HI.out.old.trans (HB6.out.mono HI.out.old.size))).trans (hal.mono (by have:=HL6.out;omega))).grown HGR.out (by have:=HL6.out;simp;omega) (fun r e=>by have:=(World.ownsRow.lt HW6.out.own _ e).1;omega)
   have h5s:W.heap.size≤w5.heap.size:=by have h1:=HGR.out.size;have h2:=HL6.out;rw[World.size_alloc] at h1;omega
   refine ⟨?_,?_,?_⟩
   ·exact ((((nP HB6.out).trans (KeepsOthers.alloc _ _)).trans (Ad (World.ownsRow.alloc HW6.out.own _) HGR.out)).trans (KeepsOthers.setCell _ _ _)).trans (KeepsOthers.setCell _ _ _)
   ·exact ((((KsP.of HB6.out ⟨by omega,by omega,by omega⟩).trans (KsP.of hal (by have:=HL6.out;exact ⟨by omega,by omega,by omega⟩))).trans (KsP.grown HGR.out (B:=w.heap.size+6) ⟨by omega,by omega,by omega⟩ (by have:=HL6.out;simp;omega) (fun r e=>(World.ownsRow.lt HW6.out.own _ e).1))).trans (KsP.set _ _ ⟨by omega,by omega,by omega⟩)).trans (KsP.set _ _ ⟨by omega,by omega,by omega⟩)
   ·refine ⟨HER.out,?_,⟨_,_,?_,hm2⟩,?_,?_,?_⟩
    ·exact af.setOther (af.setOther hwd6 ⟨w.heap.size+1,0,none⟩ _ (by show w.heap.size≠w.heap.size+1;omega)) ⟨w.heap.size+1+1,0,none⟩ _ (by show w.heap.size≠w.heap.size+1+1;omega)
    ·exact af.setOther (af.set HR5.out 0 (.slice g5 (k+1) c5)) ⟨w.heap.size+1+1,0,none⟩ _ (by show w.heap.size+1≠w.heap.size+1+1;omega)
    ·have e1:((p+off l (k+1):Nat):Int)=(A:Int)+((T.size:Int)+1):=by have h1:=HTZ.out;have h2:=HA.out;omega
     rw[e1]
     exact af.set HRP6.out 0 _
    ·exact (hold.setCell (p:=⟨w.heap.size+1,0,none⟩) (by show w.heap.size≤w.heap.size+1;omega) _).setCell (p:=⟨w.heap.size+1+1,0,none⟩) (by show w.heap.size≤w.heap.size+1+1;omega) _
    ·rw[World.size_setCell,World.size_setCell];omega
  ·have HP:Hid _:=gJ (knE (pce l k)) (A:Int) (by simpa using hoe) X6
   have hfi:=Ho (f:=fun i=>knE (pce l i)) HKP.out HI.out.err hoe
   have HR1:Hid (wsE l=knE (pce l k)):=by rw[Hid];unfold wsE;rw[hfi.1,if_pos hoe]
   have HR2:Hid (wsA l p=A):=by rw[Hid];unfold wsA;rw[hfi.1,if_pos hoe,hfi.2];exact HA.out
   have HNE:Hid (knE (pce l k)≠0):=hoe
   clear hfi hoe
   generalize knE (pce l k)=OE at *
   gi_wp2_with (first | (refine fG rfl 104 _ _ rfl V5.heap.size CS rfl rfl 104 _ (af.new V5 _ _) (by rw[HSZ.out];exact aT) (by rw[HSZ.out,aH]) HONE.out ?_;rw[←hX6];clear hX6))
   refine ⟨trivial,?_⟩
   refine (CallsIn.inRound l' (callsIn_wide.2 HP.out)).mono ?_
   rintro e Z ⟨rfl,hZ⟩
   rw[hZ]
   exact ⟨rfl,nP HB6.out,by rw[HR1.out];exact HNE.out,by rw[HR1.out,HR2.out],HI.out.old.trans (HB6.out.mono HI.out.old.size)⟩
 case hdone =>
  intro D W hD hI hdf
  obtain ⟨v,R,ho,hw⟩:=hI.out
  obtain ⟨ga,gc,rfl⟩:=kG hw.own
  have hfz:oB (fun k=>knE (pce l k)) (pcn l)=0:=Cq hI.err
  have c3:=af.cell ho (i:=0) rfl
  have cw1:=af.cell hI.wd (i:=1) rfl
  have HOLD:Hid (Below w.heap.size w W):=hI.old
  have HWW:Hid (Nw (w.heap.size+6) W.heap.size (fun W=>b7 W (.slice ga (pcn l) gc) (pcn l) (fun r=>knW (pce l r)) (fun r=>(knN (pce l r)).length) (fun r i=>((knN (pce l r)).getD i 0:Nat))) W):=hw.JJ
  have HDD:Hid (W.heap[D]? = some (.deferred (some []))):=hdf
  have HDG:Hid (w.heap.size≤D):=by rw[Hid];omega
  have hnn:pcn l≤65537:=by have h1:=(List.count_le_length (a:=(44:UInt8)) (l:=l));unfold pcn;omega
  clear ho hw hI hdf hSEQ HI0
  change wpF _ _ _ _ _ _
  refine gP ?_
  by_cases h4:4<pcn l
  ·have HR1:Hid (wsE l=5):=by rw[Hid];unfold wsE;rw[hfz,if_neg (fun h=>h rfl),if_pos h4]
   have HR2:Hid (wsA l p=p):=by rw[Hid];unfold wsA;rw[hfz,if_neg (fun h=>h rfl)]
   have HTH:Hid _:=cG 5 (p:Int) W
   clear hfz
   generalize pcn l=N at *
   have h4i:(4:Int)<(N:Int):=by omega
   go_wp2_with fail
   refine Calls.mono HTH.out ?_
   rintro e Z ⟨rfl,hZ⟩
   rw[hZ]
   exact jc (by simp) HDD.out ⟨fun h=>absurd (HR1.out ▸ h) (by decide),fun _=>by rw[HR1.out,HR2.out],jh HOLD.out HDG.out _⟩
  ·have HR1:Hid (wsE l=0):=by rw[Hid];unfold wsE;rw[hfz,if_neg (fun h=>h rfl),if_neg h4]
   clear hfz
   have HKE:Hid (Nw w.heap.size (W.putObj D (.deferred none)).heap.size (fun W=>b7 W (.slice ga (pcn l) gc) (pcn l) (fun r=>knW (pce l r)) (fun r=>(knN (pce l r)).length) (fun r i=>((knN (pce l r)).getD i 0:Nat))) (W.putObj D (.deferred none))):=by
    rw[Hid,World.putObj_size]
    refine (HWW.out.mono (by omega) (Nat.le_refl _)).keep fun b o x h1 h2 h3=>?_
    have hne:b≠D:=fun e=>by
     obtain ⟨c,T,z,h8⟩:=lp h3
     rw[e,HDD.out] at h8
     cases h8
    have:=World.putObj_heap_other (w:=W) (o:=.deferred none) hne
    simp only[World.cell?,this] at h3 ⊢
    exact h3
   have HBE:Hid (Below w.heap.size w (W.putObj D (.deferred none))):=jh HOLD.out HDG.out _
   generalize hN:pcn l=N at *
   have h4i:¬(4:Int)<(N:Int):=by omega
   have HDX:=HDD.out
   clear HWW
   go_wp2
   refine jc (by simp) HDX ?_
   exact ⟨_,results_tmp rfl _ _ _,fun _=>⟨.slice ga N gc,rfl,HKE.out⟩,fun h=>absurd HR1.out h,HBE.out⟩
 case hpan =>
  rintro D ch W hD ⟨h1,rfl,h3⟩ hdf
  change LeavesInM _ _ _ _ _ _ _ _ _
  exact jc (by simp) hdf ⟨fun h=>absurd h h1,fun _=>rfl,jh h3 (by omega) _⟩
end Go.Proofs.YtgacaecjinlhiaaGreatDoor
