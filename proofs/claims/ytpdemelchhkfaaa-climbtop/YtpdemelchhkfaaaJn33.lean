import Derived.Test.YtpdemelchhkfaaaJn32
namespace Go.Proofs.Ytpdemelchhkfaaa
namespace Cs
open Go.Conc Go.RowKit PK
set_option maxRecDepth 100000 in
set_option maxHeartbeats 4000000 in
theorem xH (T:Array Value) (s:ByteArray) (u:Value) (seed:Nat) (tries ah others:Int) (hT:PtA s u seed tries ah others T) (Fd:Nat) (H:Array Obj) (o:Os) (out:Array (Nat × ByteArray)) (w:World) (hI:HI H o out w) :
  ∃mu:Nat,Goes Try.prog true AtRel (DG (fun _=>False) Fd) (fun g' w'=>(∃T',PtA s u seed tries ah others T'∧g'=G (mkF 13 #[.string s,u,.int .u64 (seed:Nat),.int .i64 tries,.int .i64 ah,undef,undef,undef,undef,undef,undef,undef,undef,undef,undef,undef,undef,undef,undef,undef,undef,undef,undef,undef,undef,undef,undef,undef,undef,undef,undef,undef,undef,undef,undef,undef,undef,undef,undef,undef,undef,undef,undef] [.code dr] .run) [mkF 6 T' [.inRegion pO3 (List.range' 5 7),.code (az 3 pB)] .run])∧HI H o out w') mu (G (mkF 6 T [.code (az 2 pB)] .run) []) w:=by
 obtain ⟨x,rfl⟩:=hT.lit
 clear hT
 refine ⟨60,?_⟩
 simp only[az,pB,Try.f6,Option.getD_some,pO3]
 show Goes _ _ _ _ _ _ (G ((base 6).at ⟨_,[]⟩ _) []) w
 repeat (refine aE hI rfl (fun w₁ h₁=>?_);walk_rw;refine ⟨aQ _,?_⟩;clear hI;have hI:=h₁;clear h₁)
 iterate 5
  refine aE hI rfl (fun w₁ h₁=>?_)
  refine goes_oper_k rfl rfl (by decide) (fun K hK=>?_)
  go_simp
  refine hK _ _ ⟨bW (by simp) (fun e he=>?_),?_⟩
  ·have hm:=mem_listed he
   simp[go_sem, *] at hm
  clear hK K hI
  have hI:=h₁
  clear h₁
 refine aE hI rfl (fun w₁ h₁=>?_)
 refine goes_call rfl rfl (by decide) rfl Try.func13 (by kernel_rfl) rfl ?_
 refine ⟨aQ _,?_⟩
 exact Goes.stop fun w₂ h₂=>by
  obtain ⟨d,rfl⟩:=h₂
  refine ⟨?_,h₁⟩
  have e1:∀(a:Act),a.eval (.tmp 28)=.string s→a.eval (.tmp 29)=u→a.eval (.tmp 30)=.int .u64 (seed:Nat)→a.eval (.tmp 31)=.int .i64 tries→a.eval (.tmp 32)=.int .i64 ah→(#[Operand.tmp 28,.tmp 29,.tmp 30,.tmp 31,.tmp 32].map a.eval++Array.replicate (Try.f13.ntmps-(#[Operand.tmp 28,.tmp 29,.tmp 30,.tmp 31,.tmp 32].map a.eval).size) undef)=#[.string s,u,.int .u64 (seed:Nat),.int .i64 tries,.int .i64 ah,undef,undef,undef,undef,undef,undef,undef,undef,undef,undef,undef,undef,undef,undef,undef,undef,undef,undef,undef,undef,undef,undef,undef,undef,undef,undef,undef,undef,undef,undef,undef,undef,undef,undef,undef,undef,undef,undef]:=fun a k1 k2 k3 k4 k5=>by
   simp[k1,k2,k3,k4,k5,Array.replicate,List.replicate]
  rw[e1 _ rfl rfl rfl rfl rfl]
  apply Exists.intro
  apply And.intro
  rotate_left
  ·rfl
  ·exact ⟨rfl,rfl,rfl,rfl,rfl,rfl,rfl⟩
end Cs
section
open Go.RowKit PK
theorem dm {P:Program} {ops:Array Oper} {rest:List Oper} {o:Oper} {a:Act} {w:World} {Q:Exit→Act→World→Prop} (hw:Region.wanted o (yielded ops a.tmps)=true) (ty:TypeId) (x:Operand) (ho:o.op=.load ty x)
  (g:Nat) (hx:a.eval x=.pointer (some ⟨g,0,none⟩)) (t:TypeId) (cs:Array Value) (fr:Nat × Nat) (d:TypeDesc) (hg:w.heap[g]? = some (.cells cs t fr))
  (hu:P.underlying ty=some d) (hd:(match d with | .struct _ | .array _ _=>true | _=>false)=true) (hi:(P.info? ty).map (·.size)=some cs.size)
  (h:wpList P ops Q rest (a.put o.dst (.agg cs)) w):wpList P ops Q (o :: rest) a w :=
 wpList_step fun K hK=>by rw[if_pos hw];exact wp_load_row ty x ho g hx t cs fr d hg hu hd hi (hK _ _ h)
noncomputable def Cs.m6:Array Oper:=match Cs.az 7 Cs.pB with | .seq (.seq _ (.cond _ (.seq (.region _ o _) _) _)) _=>o | _=>#[]
noncomputable def Cs.l5:Code:=match Cs.az 7 Cs.pB with | .seq (.seq _ (.cond _ (.seq _ c) _)) _=>c | _=>.skip
noncomputable def Cs.qh:Array Oper:=match Cs.az 8 Cs.pB with | .seq (.seq _ (.cond _ (.seq (.region _ o _) _) _)) _=>o | _=>#[]
noncomputable def Cs.oI:Code:=match Cs.az 8 Cs.pB with | .seq (.seq _ (.cond _ (.seq _ c) _)) _=>c | _=>.skip
set_option maxRecDepth 100000 in
set_option maxHeartbeats 4000000 in
theorem yZ (T:Array Value) (s:ByteArray) (v:Value) (seed:Nat) (tries ah others:Int) (q:Nat) (F:Nat→Int) (w:World) (TB:TypeId) (fr:Nat × Nat) (hq:w.heap[q]? = some (.cells (ints 28 F) TB fr)) (hT:Cs.PtA s v seed tries ah others T) (h13:T[13]? = some (.pointer (some ⟨q,0,none⟩))) (h114:T[114]? = some (.tuple #[.agg (ints 28 F),.int .i64 0])) :
  wpOps Try.prog Cs.m6 (Exit.then (Cs.l5.wp Try.prog (Exit.then (Code.skip.wp Try.prog (Cs.gY fun T _=>Cs.PtA s v seed tries ah others T∧T[13]? = some (.pointer (some ⟨q,0,none⟩)))) (Cs.gY fun T _=>Cs.PtA s v seed tries ah others T∧T[13]? = some (.pointer (some ⟨q,0,none⟩))))) (Cs.gY fun T _=>Cs.PtA s v seed tries ah others T∧T[13]? = some (.pointer (some ⟨q,0,none⟩)))) (List.range' 6 6) ⟨T,[]⟩ w:=by
 obtain ⟨j,rfl⟩:=hT.lit
 clear hT
 have e13:j 13=.pointer (some ⟨q,0,none⟩):=Option.some.inj (show some (j 13)=some _ from h13)
 rw[e13]
 clear h13 e13
 have e114:j 114=.tuple #[.agg (ints 28 F),.int .i64 0]:=Option.some.inj (show some (j 114)=some _ from h114)
 rw[e114]
 clear h114 e114
 refine jP 6 6 rfl ?_
 have he:=gM F
 have hz:=gh (P:=Try.prog) (t:=43) (z:=.agg (ints 28 fun _=>0)) (by kernel_rfl)
 simp only[Cs.m6,Cs.l5,Cs.pB,Cs.az,Try.f6,Option.getD_some,List.drop]
 have hx0:=ai.new w 43 (ints 28 fun _=>0)
 have hlt:=(Array.getElem?_eq_some_iff.1 hq).1
 have hq0:=(Below.heap_alloc w (.cells (ints 28 fun _=>0) 43) q hlt).trans hq
 go_upto_region 23 with (first | refine wpList_store_row rfl 43 _ _ rfl w.heap.size (ints 28 F) rfl rfl 43 _ hx0 (by rw[af];exact bz) (by simp only[af]) (aS _ _) ?_)
 have hx1:=hx0.row (ints 28 F)
 have hq1:=(setRow_other (w.alloc (.cells (ints 28 fun _=>0) 43)) w.heap.size q (ints 28 F) (by omega)).trans hq0
 clear hx0 hq0 hlt hq
 generalize (w.alloc (.cells (ints 28 fun _=>0) 43)).setRow w.heap.size (ints 28 F)=W1 at *
 generalize w.heap.size=q1 at *
 go_wp2_with (first | refine dm (by rfl) 43 _ rfl (q1) rfl 43 (ints 28 F) (0,0) _ hx1 Try.underlying43 rfl (by rw[af];exact bz) ?_ | refine dm (by rfl) 43 _ rfl (q) rfl TB (ints 28 F) fr _ hq1 Try.underlying43 rfl (by rw[af];exact bz) ?_)
 exact ⟨rfl,rfl,⟨rfl,rfl,rfl,rfl,rfl,rfl,rfl⟩,rfl⟩
set_option maxRecDepth 100000 in
set_option maxHeartbeats 4000000 in
theorem zW (T:Array Value) (s:ByteArray) (v:Value) (seed:Nat) (tries ah others:Int) (q:Nat) (F F2:Nat→Int) (hF:F2 26<F 26∨F2=F) (w:World) (TB:TypeId) (fr:Nat × Nat) (hq:w.heap[q]? = some (.cells (ints 28 F) TB fr)) (hT:Cs.PtA s v seed tries ah others T) (h13:T[13]? = some (.pointer (some ⟨q,0,none⟩))) (h133:T[133]? = some (.tuple #[.agg (ints 28 F2),.int .i64 0])) :
  wpOps Try.prog Cs.qh (Exit.then (Cs.oI.wp Try.prog (Exit.then ((Cs.az 9 Cs.pB).wp Try.prog (bodyPost Try.prog Try.f6 (Cs.fE fun u _=>u=.bool true))) (bodyPost Try.prog Try.f6 (Cs.fE fun u _=>u=.bool true)))) (bodyPost Try.prog Try.f6 (Cs.fE fun u _=>u=.bool true))) (List.range' 7 6) ⟨T,[]⟩ w:=by
 obtain ⟨j,rfl⟩:=hT.lit
 clear hT
 have e13:j 13=.pointer (some ⟨q,0,none⟩):=Option.some.inj (show some (j 13)=some _ from h13)
 rw[e13]
 clear h13 e13
 have e133:j 133=.tuple #[.agg (ints 28 F2),.int .i64 0]:=Option.some.inj (show some (j 133)=some _ from h133)
 rw[e133]
 clear h133 e133
 refine jP 7 6 rfl ?_
 have hz:=gh (P:=Try.prog) (t:=43) (z:=.agg (ints 28 fun _=>0)) (by kernel_rfl)
 simp only[Cs.qh,Cs.oI,Cs.pB,Cs.az,Try.f6,Option.getD_some,List.drop]
 have hx0:=ai.new w 43 (ints 28 fun _=>0)
 have hlt:=(Array.getElem?_eq_some_iff.1 hq).1
 have hq0:=(Below.heap_alloc w (.cells (ints 28 fun _=>0) 43) q hlt).trans hq
 go_upto_region 27 with (first | refine wpList_store_row rfl 43 _ _ rfl w.heap.size (ints 28 F2) rfl rfl 43 _ hx0 (by rw[af];exact bz) (by simp only[af]) (aS _ _) ?_)
 have hx1:=hx0.row (ints 28 F2)
 have hq1:=(setRow_other (w.alloc (.cells (ints 28 fun _=>0) 43)) w.heap.size q (ints 28 F2) (by omega)).trans hq0
 clear hx0 hq0 hlt hq
 generalize (w.alloc (.cells (ints 28 fun _=>0) 43)).setRow w.heap.size (ints 28 F2)=W1 at *
 generalize w.heap.size=q1 at *
 have c1:=hx1.cell (aI F2 (show 26<28 by decide))
 have c2:W1.cell? ⟨q,26,none⟩=some (.int .i64 (F 26)):=by rw[cell_of_row _ _ _ _ _ _ hq1];exact aI F (show 26<28 by decide)
 rcases hF with hlt | rfl
 ·have d1:decide (F 26<F2 26)=false:=decide_eq_false (by omega)
  have d2:decide (F2 26=F 26)=false:=decide_eq_false (by omega)
  have d3:¬F 26<F2 26:=by omega
  have d4:¬F2 26=F 26:=by omega
  clear hlt
  go_wp2_with fail
  refine ⟨rfl,.bool true,?_,_,rfl,rfl⟩
  simp[results,Array.mapM_eq_mapM_toList,List.mapM_cons]
 ·have he:=gM F2
  have d1:decide (F2 26<F2 26)=false:=decide_eq_false (by omega)
  go_wp2_with (first | refine dm (by rfl) 43 _ rfl (q1) rfl 43 (ints 28 F2) (0,0) _ hx1 Try.underlying43 rfl (by rw[af];exact bz) ?_ | refine dm (by rfl) 43 _ rfl (q) rfl TB (ints 28 F2) fr _ hq1 Try.underlying43 rfl (by rw[af];exact bz) ?_)
  refine ⟨rfl,.bool true,?_,_,rfl,rfl⟩
  simp[results,Array.mapM_eq_mapM_toList,List.mapM_cons]
end
section
open Go.RowKit PK Cs
theorem j7 {P:Program} (w:World) (g:Nat) (t ty:TypeId) (cs:Array Value) (l:List Value) (d:TypeDesc) (hg:ai w g t cs) (hl:∀(j:Nat) (v:Value),l[j]? = some v→cs[j]? = some v)
  (hu:P.underlying ty=some d) (hd:(match d with | .struct _ | .array _ _=>true | _=>false)=true) (hi:(P.info? ty).map (·.size)=some l.length) :
  (loadVar ty ⟨g,0,none⟩).run P w=.ok (.agg l.toArray) w:=by
 have hc:(loadCells ⟨g,0,none⟩ l.length).run P w=.ok l.toArray w :=
  run_loadCells_list (P:=P) w ⟨g,0,none⟩ l (fun j v hv=>by rw[Addr.add_lit,Nat.zero_add];exact hg.cell (hl j v hv))
 cases hq:P.info? ty with
 | none=>simp[hq] at hi
 | some i =>
  have hs:i.size=l.length:=by simpa [hq] using hi
  have hagg:(isAgg ty).run P w=.ok true w:=by
   unfold isAgg
   rw[Sem.run_bind,run_underlying hu w]
   cases d <;> simp_all
  simp[loadVar,Sem.run_bind,hagg,sizeOf,typeInfo,hq,hs,hc]
theorem fM {P:Program} {ops:Array Oper} {rest:List Oper} {o:Oper} {a:Act} {w:World} {Q:Exit→Act→World→Prop} (hgd:o.guard=none) (ty:TypeId) (x:Operand) (ho:o.op=.load ty x) (g:Nat) (hx:a.eval x=.pointer (some ⟨g,0,none⟩)) (t:TypeId) (cs:Array Value) (l:List Value) (d:TypeDesc) (hg:ai w g t cs) (hl:∀(j:Nat) (v:Value),l[j]? = some v→cs[j]? = some v)
  (hu:P.underlying ty=some d) (hd:(match d with | .struct _ | .array _ _=>true | _=>false)=true) (hi:(P.info? ty).map (·.size)=some l.length) (h:wpList P ops Q rest (a.put o.dst (.agg l.toArray)) w):wpList P ops Q (o :: rest) a w :=
 wpList_plain hgd fun _ hK=>by
  unfold Oper.wp execOp
  simp only[ho,hx,Instr.loadAt,Instr.sureAddr,Sem.run_bind,Sem.run_pure,Result.andThen_ok,j7 w g t ty cs l d hg hl hu hd hi]
  exact hK _ _ h
set_option maxRecDepth 100000 in
set_option maxHeartbeats 4000000 in
theorem zb (T:Array Value) (s:ByteArray) (v:Value) (seed t:Nat) (tries ah others:Int) (k:Nat→Nat) (z:Int) (hk:Pm.cR k) (ht:(t:Int)<tries) (w:World) (sco:(Nat→Nat)→Int) (hz:sco k=z) (htop:∀a b,b<a→a<26→sco (Jm.sw k a b)≤z) (HS:∀W,Below w.heap.size w W→∀k',Pm.cR k'→Calls Try.prog 11 #[.string s,v,.agg (ints 26 (Pm.up k'))] W fun e w'=>e=.returned (.tuple #[.int .i64 (sco k'),.int .i64 0])∧Below W.heap.size W w') (hT:Cs.PtA s v seed tries ah others T) (h33:T[33]? = some (.tuple #[.agg (ints 28 (bdF ⟨Pm.up k,z,(t:Nat)⟩)),.int .i64 0])) :
  wpOps Try.prog Cs.pO3 (Exit.then ((Cs.cutAt 4 (Cs.az 3 Cs.pB)).wp Try.prog (Cs.gY fun T W=>Cs.PtA s v seed tries ah others T∧∃q,T[13]? = some (.pointer (some ⟨q,0,none⟩))∧ai W q 43 (ints 28 (bdF ⟨Pm.up k,z,(t:Nat)⟩)))) (Cs.gY fun T W=>Cs.PtA s v seed tries ah others T∧∃q,T[13]? = some (.pointer (some ⟨q,0,none⟩))∧ai W q 43 (ints 28 (bdF ⟨Pm.up k,z,(t:Nat)⟩)))) (List.range' 6 6) ⟨T,[]⟩ w:=by
 obtain ⟨j,rfl⟩:=hT.lit
 clear hT
 have e33:j 33=.tuple #[.agg (ints 28 (bdF ⟨Pm.up k,z,(t:Nat)⟩)),.int .i64 0]:=Option.some.inj (show some (j 33)=some _ from h33)
 rw[e33]
 clear h33 e33
 refine jP 6 6 rfl ?_
 have hz0:=gh (P:=Try.prog) (t:=43) (z:=.agg (ints 28 fun _=>0)) (by kernel_rfl)
 obtain ⟨F,hF⟩:∃F,F=bdF ⟨Pm.up k,z,(t:Nat)⟩:=⟨_,rfl⟩
 have HFK:=(show Hid (∀i,i<26→F i=Pm.up k i) from fun i hi=>by rw[hF];show (if i<26 then Pm.up k i else _)=_;rw[if_pos hi])
 have hF26:F 26=z:=by rw[hF];rfl
 have hF27:F 27=(t:Nat):=by rw[hF];rfl
 rw[←hF]
 have HPart:=(show Hid (∀(i:Nat) (u:Value),(ints 26 (Pm.up k)).toList[i]? = some u→(ints 28 F)[i]? = some u) from fun i u hu=>by
  rw[Array.getElem?_toList] at hu
  have hi:i<26:=by
   have:=(Array.getElem?_eq_some_iff.1 hu).1
   rwa [af] at this
  rw[aI _ hi] at hu
  rw[aI _ (by omega),HFK.out i hi]
  exact hu)
 have HS':=(show Hid _ from HS)
 have HTOP:=(show Hid _ from htop)
 clear HS htop hF
 simp only[Cs.pO3,Cs.cutAt,Cs.pB,Cs.az,Try.f6,Option.getD_some,List.drop]
 have hx0:=ai.new w 43 (ints 28 fun _=>0)
 have hb0:=(Below.refl w.heap.size w).alloc (Nat.le_refl _) (.cells (ints 28 fun _=>0) 43)
 go_upto_region 4 with (first | refine wpList_store_row rfl 43 _ _ rfl w.heap.size (ints 28 F) rfl rfl 43 _ hx0 (by rw[af];exact bz) (by simp only[af]) (aS _ _) ?_)
 have hx1:=hx0.row (ints 28 F)
 have hb1:=Below.setRow hb0 _ (Nat.le_refl _) (ints 28 F)
 clear hx0 hb0
 generalize (w.alloc (.cells (ints 28 fun _=>0) 43)).setRow w.heap.size (ints 28 F)=W1 at *
 obtain ⟨q,hq⟩:∃q,q=w.heap.size:=⟨_,rfl⟩
 have HQ:=(show Hid (q=w.heap.size) from hq)
 rw[←hq] at hx1 ⊢
 clear hq
 go_wp2_with (first | refine fM rfl 38 _ rfl q rfl 43 (ints 28 F) (ints 26 (Pm.up k)).toList _ hx1 HPart.out Try.underlying38 rfl (by rw[Array.length_toList,af];exact aC) ?_)
 refine Calls.mono (HS'.out W1 hb1 k hk) ?_
 rintro e W2 ⟨rfl,hb2⟩
 rw[hz]
 have hx2:=hx1.below hb2 hx1.lt
 have hb3:=hb1.trans (hb2.mono hb1.size)
 have c26:=hx2.cell (aI F (show 26<28 by decide))
 have c27:=hx2.cell (aI F (show 27<28 by decide))
 rw[hF26] at c26
 rw[hF27] at c27
 have u1:decide ((t:Int)<0)=false:=decide_eq_false (by omega)
 have u2:decide (tries≤(t:Int))=false:=decide_eq_false (by omega)
 clear hx1 hb1 hb2
 go_wp2_with fail
 go_loopw [65] (fun x W=>∃i:Nat,i≤26∧x=.int .i64 (i:Nat)∧ai W q 43 (ints 28 F)∧Below w.heap.size w W) (fun x _=>((26:Int)-intOf x).toNat)
 case atStart=>exact ⟨0,by omega,rfl,hx2,hb3⟩
 case round =>
  clear hx2 hb3 c26 c27
  obtain ⟨i,hi,rfl,hx,hb⟩:=hrel
  by_cases hlt:i<26
  case neg =>
   obtain rfl:i=26:=by omega
   have HX:=(show Hid (ai wr q 43 (ints 28 F)) from hx)
   clear hx hb hlt hi
   go_wp2_with fail
   exact ⟨rfl,rfl,⟨rfl,rfl,rfl,rfl,rfl,rfl,rfl⟩,q,rfl,HX.out⟩
  have HX0:=(show Hid (ai wr q 43 (ints 28 F)) from hx)
  have HB0:=(show Hid (Below w.heap.size w wr) from hb)
  have HI:=(show Hid (i<26) from hlt)
  have hlt3:(i:Int)<26:=by omega
  clear hx hb hi
  go_wp2_with fail
  go_loopw [17] (fun x W=>∃m:Nat,m≤i∧x=.int .i64 (m:Nat)∧ai W q 43 (ints 28 F)∧Below w.heap.size w W) (fun x _=>((i:Int)-intOf x).toNat)
  case atStart=>exact ⟨0,by omega,rfl,HX0.out,HB0.out⟩
  case round =>
   clear HX0 HB0
   obtain ⟨m,hm,rfl,hx,hb⟩:=hrel
   by_cases hlt2:m<i
   case neg =>
    obtain rfl:m=i:=by omega
    have HX:=(show Hid (ai wr q 43 (ints 28 F)) from hx)
    have HBX:=(show Hid (Below w.heap.size w wr) from hb)
    clear hx hb hlt2 hm
    go_wp2_with fail
    go_roundw
    case rel=>exact ⟨m+1,by have:=HI.out;omega,by go_num,HX.out,HBX.out⟩
    case measure=>have:=HI.out;simp[intOf];omega
   have HM:=(show Hid (m<i) from hlt2)
   have hlt4:(m:Int)<(i:Int):=by omega
   have HBX:=(show Hid (Below w.heap.size w wr) from hb)
   have hn0:=ai.new wr 38 (ints 26 fun _=>0)
   clear hb hm
   go_upto_region 16 with (first | refine fM rfl 38 _ rfl q rfl 43 (ints 28 F) (ints 26 (Pm.up k)).toList _ hx HPart.out Try.underlying38 rfl (by rw[Array.length_toList,af];exact aC) ?_ | refine wpList_store_row rfl 38 _ _ rfl wr.heap.size (ints 26 (Pm.up k)) rfl rfl 38 _ hn0 (by rw[af];exact aC) (by simp only[af]) (aS _ _) ?_)
   try rw[ej]
   have hbq:Below wr.heap.size wr ((wr.alloc (.cells (ints 26 fun _=>0) 38)).setRow wr.heap.size (ints 26 (Pm.up k))):=Below.setRow ((Below.refl _ wr).alloc (Nat.le_refl _) _) _ (Nat.le_refl _) _
   have hn:=hn0.row (ints 26 (Pm.up k))
   have hx2:=hx.below hbq hx.lt
   obtain ⟨W3,hW3⟩:∃V,V=(wr.alloc (.cells (ints 26 fun _=>0) 38)).setRow wr.heap.size (ints 26 (Pm.up k)):=⟨_,rfl⟩
   rw[←hW3] at hbq hn hx2 ⊢
   obtain ⟨p,hp⟩:∃p,p=wr.heap.size:=⟨_,rfl⟩
   have HBQ:=(show Hid (Below p wr W3) from by rw[hp];exact hbq)
   have HPW:=(show Hid (p=wr.heap.size) from hp)
   have hqp:q≠p:=by have:=hx.lt;omega
   rw[←hp] at hn ⊢
   have HN:=(show Hid (ai W3 p 38 (ints 26 (Pm.up k))) from hn)
   have HX3:=(show Hid (ai W3 q 43 (ints 28 F)) from hx2)
   have hi26:=HI.out
   have hm26:m<26:=by omega
   have im:(m:Int)<26:=by omega
   have ca:=hx2.cell (aI F (show m<28 by omega))
   have cb:=hx2.cell (aI F (show i<28 by omega))
   rw[HFK.out m hm26] at ca
   rw[HFK.out i hi26] at cb
   have fa:=hn.frozen m
   have fb:=hn.frozen i
   have oa:=hn.cell (aI (Pm.up k) hm26)
   have ob:=hn.cell (aI (Pm.up k) hi26)
   have hne:i≠m:=by omega
   obtain ⟨va,hva⟩:∃v,v=Pm.up k m:=⟨_,rfl⟩
   obtain ⟨vb,hvb⟩:∃v,v=Pm.up k i:=⟨_,rfl⟩
   rw[←hva] at ca oa
   rw[←hvb] at cb ob
   have HVA:=(show Hid (va=Pm.up k m) from hva)
   have HVB:=(show Hid (vb=Pm.up k i) from hvb)
   clear hn0 hbq hn hW3 hp hx hx2 hva hvb
   refine wp_region_noPanic ?_
   go_region
   all_goals
    have hqS:ai (((W3.setCell ⟨p,i,none⟩ (.int .i64 va)).setCell ⟨p,m,none⟩ (.int .i64 vb)).drew) p 38 (ints 26 (Pm.up (Jm.sw k i m))):=by
     have:=(HN.out.set i (.int .i64 va)).set m (.int .i64 vb)
     rw[HVA.out,HVB.out] at this ⊢
     rw[show ((ints 26 (Pm.up k)).setIfInBounds i (.int .i64 (Pm.up k m))).setIfInBounds m (.int .i64 (Pm.up k i))=ints 26 (Pm.up (Jm.sw k i m)) from rZ k i m hne] at this
     exact this.drew
    have hbS:Below p wr (((W3.setCell ⟨p,i,none⟩ (.int .i64 va)).setCell ⟨p,m,none⟩ (.int .i64 vb)).drew):=((HBQ.out.setCell (p:=⟨p,i,none⟩) (Nat.le_refl _) _).setCell (p:=⟨p,m,none⟩) (Nat.le_refl _) _).drew
    have hx4:ai (((W3.setCell ⟨p,i,none⟩ (.int .i64 va)).setCell ⟨p,m,none⟩ (.int .i64 vb)).drew) q 43 (ints 28 F):=(heap_setCell_other _ ⟨p,m,none⟩ q _ hqp).trans ((heap_setCell_other _ ⟨p,i,none⟩ q _ hqp).trans HX3.out)
    have hb4:Below w.heap.size w (((W3.setCell ⟨p,i,none⟩ (.int .i64 va)).setCell ⟨p,m,none⟩ (.int .i64 vb)).drew):=HBX.out.trans ((by rw[←HPW.out];exact hbS:Below wr.heap.size wr _).mono HBX.out.size)
    obtain ⟨W4,hW4⟩:∃V,V=((W3.setCell ⟨p,i,none⟩ (.int .i64 va)).setCell ⟨p,m,none⟩ (.int .i64 vb)).drew:=⟨_,rfl⟩
    rw[←hW4] at hqS hx4 hb4 ⊢
    clear hW4 hbS ca cb fa fb oa ob HN HBQ HX3 HVA HVB
    refine NoPanic.normal ?_
    go_wp2_with (first | refine wpList_load_row rfl 38 _ rfl p rfl 38 (ints 26 (Pm.up (Jm.sw k i m))) (0,0) _ hqS Try.underlying38 rfl (by rw[af];exact aC) ?_)
    refine (HS'.out W4 hb4 (Jm.sw k i m) (Jm.od hk hi26 hm26)).mono ?_
    rintro e W5 ⟨rfl,hb5⟩
    have HX5:=(show Hid (ai W5 q 43 (ints 28 F)) from hx4.below hb5 hx4.lt)
    have HB5:=(show Hid (Below w.heap.size w W5) from hb4.trans (hb5.mono hb4.size))
    have hle:decide (z<sco (Jm.sw k i m))=false:=decide_eq_false (by have:=HTOP.out i m HM.out hi26;omega)
    clear hb5 hb4 hx4 hqS
    go_wp2_with fail
    go_roundw
    case rel=>exact ⟨m+1,HM.out,by go_num,HX5.out,HB5.out⟩
    case measure=>have:=HM.out;simp[intOf];omega
end
end Go.Proofs.Ytpdemelchhkfaaa
