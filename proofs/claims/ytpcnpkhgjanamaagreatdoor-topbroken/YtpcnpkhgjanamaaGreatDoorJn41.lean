import Derived.Test.YtpcnpkhgjanamaaGreatDoorPz
import Derived.Test.YtpcnpkhgjanamaaGreatDoorJn40
namespace Go.Proofs.YtpcnpkhgjanamaaGreatDoor
open Go.Proofs.Tryz renaming prog→qf,underlying35→WH
open Go renaming Value→R2,World→V8,undef→Wb,TypeId→Wj,runNT_add→XM
open Go.Conc renaming mem_listed→Xi,goes_oper_k→XC
set_option maxRecDepth 100000
set_option maxHeartbeats 8000000
section
open Go.RowKit PK Vg Go.Conc Cs
noncomputable def bB:Code:=Tryz.f8.body.getD .skip
noncomputable def SO:Code:=match bB with|.seq _ r=>r|_=>.skip
noncomputable def Vl:Array Oper:=match SO with|.seq (.seq (.region _ o _) _) _=>o|_=>#[]
noncomputable def UU:Code:=match SO with|.seq (.seq _ c) _=>c|_=>.skip
noncomputable def QV:Code:=match SO with|.seq _ r=>r|_=>.skip
noncomputable def Vh:Array Oper:=match QV with|.seq (.region _ o _) _=>o|_=>#[]
noncomputable def TH:Code:=match QV with|.seq _ r=>r|_=>.skip
noncomputable def Ti:Array Oper:=match TH with|.seq (.region _ o _) _=>o|_=>#[]
theorem Mx{s:Nat}{a:Addr}{e:Event}(h:e.loc=.cell a)(ha:a.block<s):EvW s e:=by
 obtain⟨l,w,at1⟩:=e;dsimp only at h;subst h;cases w<;>cases at1
 all_goals exact⟨fun x e=>(by cases e;exact ha),fun m e=>by cases e⟩
theorem DE(P:Program)(w:V8)(es:Array Event)(ad:Addr)(m:Mode)(b:Option Addr):(store ad (.pointer b) m).events P w es=storedEv P w es ad (.pointer b) m:=events_store P w es ad _ m rfl
theorem yc{W:V8}{b:Nat}{T:Wj}{v u:R2}(_h:W.heap[b]?=some (.cells #[v] T (0,0))):(W.setCell ⟨b,0,none⟩ u).heap.size=W.heap.size:=by
 simp[World.setCell]
theorem HI.Qq{H:Array Obj}{o:Os}{out:Array (Nat×ByteArray)}{W:V8}{T:Wj}{v u:R2}(h:HI (H.push (.cells #[v] T (0,0))) o out W):HI (H.push (.cells #[u] T (0,0))) o out (W.setCell ⟨H.size,0,none⟩ u):=by
 have r0:W.heap[H.size]?=some (.cells #[v] T (0,0)):=by rw[h.1,Wq,Wc rfl]
 have r1:=heap_setCell_same W H.size 0 _ _ u r0;have hB:=(Below.refl 0 W).setCell (p:=⟨H.size,0,none⟩) (XE _) u;refine⟨?_,hB.os.trans h.2.1,hB.output.trans h.2.2⟩;have hs:(W.setCell ⟨H.size,0,none⟩ u).heap.size=H.size+1:=by rw[yc r0,h.1,YG]
 apply Xc;intro i;by_cases hi:i<H.size
 ·rw[Wq,V9 vom,WT W ⟨H.size,0,none⟩ i u (by show i≠H.size;omega),h.1,Wq,V9 vom]
 ·by_cases hi2:i=H.size
  ·rw[hi2,Wq,Wc rfl]
   exact r1
  ·rw[Wv (by rw[hs];omega),Wv (by rw[YG];omega)]
theorem UE(A:Array R2)(hA:A.size=55)(cr te:ByteArray)(n:Int)(cs:List Frame)(H:Array Obj)(o:Os)(out:Array (Nat×ByteArray))(w:V8)(hI:HI H o out w):∃mu,Goes qf true AtRel DW (fun g w'=>g=G (Frame.enter qf 25 #[.agg A,.string cr,.string te] .normal) ((base 8).at ⟨#[.agg A,.string cr,.string te,.int .i64 n,.pointer (some ⟨H.size,0,none⟩),.pointer (some ⟨H.size+1,0,none⟩),Wb,Wb,.slice none 0 0,.int .i64 0,Wb,Wb,.agg A,.string cr,.string te,Wb,Wb,Wb,Wb,Wb,Wb,Wb,Wb,Wb,Wb,Wb,Wb,Wb],[]⟩ [.inRegion Vl (3 :: List.range' 4 1),.code UU,.code QV] :: cs)∧HI ((H.push (.cells A 35)).push (.cells #[.string cr] 9)) o out w') mu (G ((base 8).at ⟨#[.agg A,.string cr,.string te,.int .i64 n,Wb,Wb,Wb,Wb,Wb,Wb,Wb,Wb,Wb,Wb,Wb,Wb,Wb,Wb,Wb,Wb,Wb,Wb,Wb,Wb,Wb,Wb,Wb,Wb],[]⟩ [.code bB]) cs) w:=by
 have b:(qf.info? 35).map (·.size)=some A.size:=by rw[hA];exact aE
 refine⟨40,?_⟩;simp only[bB,Tryz.f8,Ww]
 repeat(refine bQ hI rfl (fun w₁ h₁=>?_);walk_rw;refine⟨aS _,?_⟩;clear hI;have hI:=h₁;clear h₁)
 refine bQ hI rfl (fun w₁ h₁=>?_);refine XC rfl rfl vde (fun K hK=>?_);go_simp;refine hK _ _ ⟨⟨vsi,fun e he=>?_⟩,?_⟩
 ·have hm:=Xi he
  simp[go_sem]at hm
 clear hK K hI;have hI:=h₁.alloc (.cells A 35);rw[h₁.1];clear h₁;refine bQ hI rfl (fun w₁ h₁=>?_);refine XC rfl rfl vde (fun K hK=>?_);go_simp;refine hK _ _ ⟨⟨vsi,fun e he=>?_⟩,?_⟩
 ·have hm:=Xi he
  simp[go_sem]at hm
 clear hK K hI;have hI:=h₁.alloc (.cells #[.string cr] 9);rw[h₁.1];clear h₁;simp only[YG]
 repeat(first
  |refine jP aS hI rfl rfl vde (fun _=>rfl) (fun _=>rfl) (fun w₁ hI=>?_)
  |(refine bQ hI rfl (fun w₁ h₁=>?_);walk_rw;refine⟨aS _,?_⟩;clear hI;have hI:=h₁;clear h₁))
 refine AP hI rfl rfl vde rfl rfl (by rw[Wq,V9 vsi,Wq,Wc rfl]) WH rfl b (fun w₁ hI=>?_);refine bQ hI rfl (fun w₁ h₁=>?_);refine XC rfl rfl vde (fun K hK=>?_);have hB:w₁.heap[H.size+1]?=some (.cells #[.string cr] 9 (0,0)):=by rw[h₁.1,Wq,Wc vsi]
 have a:H.size+1<w₁.heap.size:=(Wd.1 hB).1;have hC:w₁.cell? ⟨H.size+1,0,none⟩=some (.string cr):=by rw[Xf _ _ _ _ _ _ hB];rfl
 go_simp;refine hK _ _ ⟨⟨vsi,fun e he=>?_⟩,?_⟩
 ·have hm:=Xi he
  simp[go_sem,hC]at hm;subst hm;exact pS ⟨rfl,rfl⟩ a
 clear hK K hI hC a hB;have hI:=h₁;clear h₁
 repeat(first
  |refine jP aS hI rfl rfl vde (fun _=>rfl) (fun _=>rfl) (fun w₁ hI=>?_)
  |(refine bQ hI rfl (fun w₁ h₁=>?_);walk_rw;refine⟨aS _,?_⟩;clear hI;have hI:=h₁;clear h₁))
 refine bQ hI rfl (fun w₁ h₁=>?_);rw[stepG_enter (f:=25) (args:=#[.agg A,.string cr,.string te]) (w':=w₁) rfl rfl vde (by simp[execOp,go_sem])];rw[listed_nil (by simp[go_sem,callFunc,Tryz.func25,Tryz.f25])];simp only[goes_go];refine⟨aS _,?_⟩
 exact Goes.stop fun w₂ h₂=>by
  obtain⟨d,rfl⟩:=h₂;exact⟨rfl,h₁⟩
theorem U6(A:Array R2)(cr te:ByteArray)(n:Int)(bM bC:Nat)(cs:List Frame)(H:Array Obj)(o:Os)(out:Array (Nat×ByteArray))(w:V8)(hI:HI H o out w)(hbC:H[bC]?=some (.cells #[.string cr] 9 (0,0))):∃mu,Goes qf true AtRel DW (fun g w'=>g=G (Frame.enter qf 26 #[.string cr,.string te] .normal) ((base 8).at ⟨#[.agg A,.string cr,.string te,.int .i64 n,.pointer (some ⟨bM,0,none⟩),.pointer (some ⟨bC,0,none⟩),Wb,Wb,.slice none 0 0,.int .i64 0,.int .i64 0,Wb,.agg A,.string cr,.string te,.int .i64 0,.int .i64 0,.bool false,Wb,.string cr,.string te,Wb,Wb,Wb,Wb,Wb,Wb,Wb],[]⟩ [.inRegion Vh (2 :: List.range' 3 2),.code TH] :: cs)∧HI H o out w') mu (G ((base 8).at ⟨#[.agg A,.string cr,.string te,.int .i64 n,.pointer (some ⟨bM,0,none⟩),.pointer (some ⟨bC,0,none⟩),Wb,Wb,.slice none 0 0,.int .i64 0,Wb,Wb,.agg A,.string cr,.string te,.int .i64 0,Wb,Wb,Wb,Wb,Wb,Wb,Wb,Wb,Wb,Wb,Wb,Wb],[]⟩ [.inRegion Vl [4],.code UU,.code QV]) cs) w:=by
 refine⟨40,?_⟩;simp only[Vl,UU,QV,SO,bB,Tryz.f8,Ww];refine jP aS hI rfl rfl vde (fun _=>rfl) (fun _=>rfl) (fun w₁ hI=>?_)
 repeat(refine bQ hI rfl (fun w₁ h₁=>?_);walk_rw;refine⟨aS _,?_⟩;clear hI;have hI:=h₁;clear h₁)
 refine jP aS hI rfl rfl vde (fun _=>rfl) (fun _=>rfl) (fun w₁ hI=>?_);refine bQ hI rfl (fun w₁ h₁=>?_);refine XC rfl rfl vde (fun K hK=>?_);go_simp;refine hK _ _ ⟨⟨vsi,fun e he=>?_⟩,?_⟩
 ·have hm:=Xi he
  simp[go_sem]at hm
 clear hK K hI;have hI:=h₁;clear h₁
 repeat(refine bQ hI rfl (fun w₁ h₁=>?_);walk_rw;refine⟨aS _,?_⟩;clear hI;have hI:=h₁;clear h₁)
 refine bQ hI rfl (fun w₁ h₁=>?_);rw[stepG_cond (t:=false) rfl];simp only[goes_go,WV,↓reduceIte];refine⟨aS _,?_⟩;clear hI;have hI:=h₁;clear h₁
 repeat(refine bQ hI rfl (fun w₁ h₁=>?_);walk_rw;refine⟨aS _,?_⟩;clear hI;have hI:=h₁;clear h₁)
 refine bQ hI rfl (fun w₁ h₁=>?_);refine XC rfl rfl vde (fun K hK=>?_);have hB:w₁.heap[bC]?=some (.cells #[.string cr] 9 (0,0)):=by rw[h₁.1];exact hbC
 have a:bC<w₁.heap.size:=(Wd.1 hB).1;have hC:w₁.cell? ⟨bC,0,none⟩=some (.string cr):=by rw[Xf _ _ _ _ _ _ hB];rfl
 go_simp;refine hK _ _ ⟨⟨vsi,fun e he=>?_⟩,?_⟩
 ·have hm:=Xi he
  simp[go_sem,hC]at hm;subst hm;exact pS ⟨rfl,rfl⟩ a
 clear hK K hI hC a hB;have hI:=h₁;clear h₁
 repeat(first
  |refine jP aS hI rfl rfl vde (fun _=>rfl) (fun _=>rfl) (fun w₁ hI=>?_)
  |(refine bQ hI rfl (fun w₁ h₁=>?_);walk_rw;refine⟨aS _,?_⟩;clear hI;have hI:=h₁;clear h₁))
 refine bQ hI rfl (fun w₁ h₁=>?_);rw[stepG_enter (f:=26) (args:=#[.string cr,.string te]) (w':=w₁) rfl rfl vde (by simp[execOp,go_sem])];rw[listed_nil (by simp[go_sem,callFunc,Tryz.func26,Tryz.f26])];simp only[goes_go];refine⟨aS _,?_⟩
 exact Goes.stop fun w₂ h₂=>by
  obtain⟨d,rfl⟩:=h₂;exact⟨rfl,h₁⟩
theorem Va(A:Array R2)(hA:A.size=55)(cr te:ByteArray)(n:Int)(bM bC:Nat)(p:Addr)(cs:List Frame)(H:Array Obj)(o:Os)(out:Array (Nat×ByteArray))(w:V8)(hI:HI H o out w)(hM:H[bM]?=some (.cells A 35 (0,0))):∃mu,Goes qf true AtRel DW (fun g w'=>g=G ((base 27).at ⟨#[.agg A,.int .i64 n,.func (.func 28) #[] #[.pointer (some ⟨H.size,0,none⟩),.pointer (some ⟨bC,0,none⟩)],Wb,Wb,Wb,Wb,Wb,Wb,Wb,Wb,Wb,Wb,Wb,Wb,Wb,Wb,Wb,Wb,Wb,Wb,Wb,Wb,Wb,Wb,Wb,Wb,Wb,Wb,Wb,Wb,Wb,Wb,Wb,Wb,Wb,Wb,Wb,Wb,Wb,Wb,Wb,Wb,Wb,Wb,Wb,Wb,Wb,Wb,Wb,Wb,Wb,Wb],[]⟩ [.code (dK true)]) ((base 8).at ⟨#[.agg A,.string cr,.string te,.int .i64 n,.pointer (some ⟨bM,0,none⟩),.pointer (some ⟨bC,0,none⟩),Wb,Wb,.slice none 0 0,.int .i64 0,.int .i64 0,.pointer (some ⟨H.size,0,none⟩),.agg A,.string cr,.string te,.int .i64 0,.int .i64 0,.bool false,Wb,.string cr,.string te,.pointer (some p),.agg A,.int .i64 n,.func (.func 28) #[] #[.pointer (some ⟨H.size,0,none⟩),.pointer (some ⟨bC,0,none⟩)],Wb,Wb,Wb],[]⟩ [.inRegion Ti (3 :: List.range' 4 4),.code .ret] :: cs)∧HI (H.push (.cells #[.pointer (some p)] 70)) o out w') mu (G ((base 8).at ⟨#[.agg A,.string cr,.string te,.int .i64 n,.pointer (some ⟨bM,0,none⟩),.pointer (some ⟨bC,0,none⟩),Wb,Wb,.slice none 0 0,.int .i64 0,.int .i64 0,Wb,.agg A,.string cr,.string te,.int .i64 0,.int .i64 0,.bool false,Wb,.string cr,.string te,.pointer (some p),Wb,Wb,Wb,Wb,Wb,Wb],[]⟩ [.inRegion Vh [3,4],.code TH]) cs) w:=by
 have f:(qf.info? 35).map (·.size)=some A.size:=by rw[hA];exact aE
 have i:(qf.info? 70).map (·.zero)=some (some (.pointer none)):=vkr;have j:=bR i
 have h:(H.push (.cells #[.pointer (some p)] 70))[bM]?=some (.cells A 35 (0,0)):=by
  have:=(Wd.1 hM).1;rw[Wq,V9 vom];exact hM
 refine⟨40,?_⟩;simp only[Vh,TH,QV,SO,bB,Tryz.f8,Ww];refine bQ hI rfl (fun w₁ h₁=>?_);refine XC rfl rfl vde (fun K hK=>?_);go_simp;refine hK _ _ ⟨⟨vsi,fun e he=>?_⟩,?_⟩
 ·have hm:=Xi he
  simp[go_sem]at hm
 clear hK K hI;have hI:=h₁.alloc (.cells #[.pointer none] 70);rw[h₁.1];clear h₁;refine bQ hI rfl (fun w₁ h₁=>?_);refine XC rfl rfl vde (fun K hK=>?_);have hB:w₁.heap[H.size]?=some (.cells #[.pointer none] 70 (0,0)):=by rw[h₁.1,Wq,Wc rfl]
 have c:H.size<w₁.heap.size:=(Wd.1 hB).1;have hC:w₁.cell? ⟨H.size,0,none⟩=some (.pointer none):=by rw[Xf _ _ _ _ _ _ hB];rfl
 have hF:w₁.frozen? ⟨H.size,0,none⟩=false:=frozen_of_row w₁ H.size _ _ _ hB;have hs:=yc (W:=w₁) (u:=.pointer (some p)) hB;go_simp;refine hK _ _ ⟨⟨by rw[hs];exact R3 _,fun e he=>?_⟩,?_⟩
 ·have hm:=Xi he
  simp[go_sem,DE,hC,hF]at hm;subst hm;rw[hs];exact Mx rfl c
 clear hK K hI hC hF c hB hs;have hI:=h₁.Qq (u:=.pointer (some p));clear h₁
 repeat(refine bQ hI rfl (fun w₁ h₁=>?_);walk_rw;refine⟨aS _,?_⟩;clear hI;have hI:=h₁;clear h₁)
 refine bQ hI rfl (fun w₁ h₁=>?_);have b:=show w₁.heap[bM]?=some (.cells A 35 (0,0))from by rw[h₁.1];exact h
 rw[stepG_value (v:=.agg A) (w':=w₁) rfl rfl vde (gD rfl rfl (ux b WH rfl f))];simp only[goes_go];refine⟨⟨R3 _,fun e he=>D8 b WH rfl f e (by have hm:=Xi he;rw[eP rfl rfl]at hm;exact hm)⟩,?_⟩;clear b hI;have hI:=h₁;clear h₁;refine bQ hI rfl (fun w₁ h₁=>?_);refine XC rfl rfl vde (fun K hK=>?_);go_simp;refine hK _ _ ⟨⟨vsi,fun e he=>?_⟩,?_⟩
 ·have hm:=Xi he
  simp[go_sem]at hm
 clear hK K hI;have hI:=h₁;clear h₁;refine bQ hI rfl (fun w₁ h₁=>?_);refine XC rfl rfl vde (fun K hK=>?_);go_simp;refine hK _ _ ⟨⟨vsi,fun e he=>?_⟩,?_⟩
 ·have hm:=Xi he
  simp[go_sem]at hm
 clear hK K hI;have hI:=h₁;clear h₁;refine bQ hI rfl (fun w₁ h₁=>?_);refine goes_call rfl rfl vde rfl Tryz.func27 vkr rfl ?_;refine⟨aS _,?_⟩
 exact Goes.stop fun w₂ h₂=>by
  obtain⟨d,rfl⟩:=h₂;refine⟨?_,h₁⟩
  have e1:∀(a:Act),a.eval (.tmp 22)=.agg A→a.eval (.tmp 23)=.int .i64 n→a.eval (.tmp 24)=.func (.func 28) #[] #[.pointer (some ⟨H.size,0,none⟩),.pointer (some ⟨bC,0,none⟩)]→(#[Operand.tmp 22,.tmp 23,.tmp 24].map a.eval++Array.replicate (Tryz.f27.ntmps-(#[Operand.tmp 22,.tmp 23,.tmp 24].map a.eval).size) Wb)=#[.agg A,.int .i64 n,.func (.func 28) #[] #[.pointer (some ⟨H.size,0,none⟩),.pointer (some ⟨bC,0,none⟩)],Wb,Wb,Wb,Wb,Wb,Wb,Wb,Wb,Wb,Wb,Wb,Wb,Wb,Wb,Wb,Wb,Wb,Wb,Wb,Wb,Wb,Wb,Wb,Wb,Wb,Wb,Wb,Wb,Wb,Wb,Wb,Wb,Wb,Wb,Wb,Wb,Wb,Wb,Wb,Wb,Wb,Wb,Wb,Wb,Wb,Wb,Wb,Wb,Wb,Wb]:=fun a k0 k1 k2=>by
   simp[k0,k1,k2,Array.replicate,List.replicate]
  rw[e1 _ rfl rfl rfl]
  rfl
theorem uO{H:Array Obj}{x y:Obj}{b:Nat}(h:b<H.size):((H.push x).push y)[b]?=H[b]?:=by
 rw[Wq,V9 vso,Wq,V9 vom]
theorem vO{H:Array Obj}{x y:Obj}:((H.push x).push y)[H.size]?=some x:=by
 rw[Wq,V9 vsi,Wq,Wc rfl]
theorem uT{H:Array Obj}{x y:Obj}:((H.push x).push y)[H.size+1]?=some y:=by
 rw[Wq,Wc vsi]
theorem sV{H:Array Obj}{x y:Obj}:((H.push x).push y).size=H.size+2:=vsi
structure Oa(A:Array R2)(vl:R2)(W w4 w8:V8)(Fd C1 C2 bF bD:Nat):Prop where
 Qj:∀b,b<W.heap.size→w4.heap[b]?=W.heap[b]?
 lM:w4.heap[W.heap.size]?=some (.cells A 35 (0,0))
 lL:w4.heap[W.heap.size+1]?=some (.cells #[vl] 75 (0,0))
 fd:Fd=w4.heap.size
 Ec:∀b,b<w4.heap.size→w8.heap[b]?=w4.heap[b]?
 row:w8.heap[Fd]?=some (.cells (bJ 26 fun _=>.slice none 0 0) 109 (0,0))
 c1:Fd<C1∧w8.heap[C1]?=some (.chan 0 #[] false 0 0 false)
 c2:Fd<C2∧w8.heap[C2]?=some (.chan 0 #[] false 0 0 false)
 ne:C1≠C2
 bf:Fd<bF∧w8.heap[bF]?=some (.cells #[.chan (some C1)] 110 (0,0))
 bd:Fd<bD∧w8.heap[bD]?=some (.cells #[.chan (some C2)] 111 (0,0))
 env:w8.os=W.os∧w8.output=W.output
theorem zR(a b c:R2)(g:Gm)(n:Nat)(hE:sI g (n:Int)=0)(f:FuncId)(c1 c2:Array R2)(W:V8)(ha:DU W a g.n g.wi g.nl g.no)(hb:aq W b g.rl g.ri)(hc:aq W c g.sl g.st)(ra:Rt W a)(rb:Rt W b)(rc:Rt W c)(A:Array R2)(hA0:A=aP a b c g.rf g.pl)(cs:List Frame){gs:Array Goroutine}{t:Trace}{q:Nat→Nat}(i2:gs[0]?=some (G ((base 27).at ⟨#[.agg A,.int .i64 (n:Nat),.func (.func f) c1 c2,Wb,Wb,Wb,Wb,Wb,Wb,Wb,Wb,Wb,Wb,Wb,Wb,Wb,Wb,Wb,Wb,Wb,Wb,Wb,Wb,Wb,Wb,Wb,Wb,Wb,Wb,Wb,Wb,Wb,Wb,Wb,Wb,Wb,Wb,Wb,Wb,Wb,Wb,Wb,Wb,Wb,Wb,Wb,Wb,Wb,Wb,Wb,Wb,Wb,Wb],[]⟩ [.code (dK true)]) cs))(Q2:Qt qf gs t q W.heap.size)(sl2:Option (Nat×Nat)):
  ∃N gs' w4 w8 sl' t' q' g8 Fd C1 C2 bF bD,runNT qf N (crowd gs W sl2) t=(.next (crowd gs' w8 sl'),t')∧gs'.size=gs.size∧gs'[0]?=some g8∧g8.status=.running∧(∀c:fX,c.Fd=Fd→wM true c bF W.heap.size (W.heap.size+1) bD n cs 0 g8)∧Cm (fun x=>∀ad,x.loc=.cell ad→ad.block≠Fd) qf gs' t' q' w8.heap.size∧Oa A (.func (.func f) c1 c2) W w4 w8 Fd C1 C2 bF bD:=by
 obtain⟨_,_,E,F⟩:=gI hE;have hG:qf.globals.size≤aT.G:=R3 _;have hA:A.size=55:=by rw[hA0];exact aD ..
 have I2:HI W.heap W.os W.output W:=⟨rfl,rfl,rfl⟩
 -- to the call of searchWrong
 obtain⟨mu3,G3⟩:=tZ (hv:=true) A hA (n:Int) f c1 c2 cs W.heap W.os W.output W I2;obtain⟨N3,gs3,w3,gP,t3,q3,g3,r3,z3,i3,⟨rfl,I3⟩,Q3⟩:=de (sl:=sl2) (fun _ _ _ h=>h) (fun g w h=>by rw[h.1];rfl) i2 G3 Q2;obtain⟨H3,i⟩:∃H3,H3=(W.heap.push (.cells A 35)).push (.cells #[.func (.func f) c1 c2] 75):=⟨_,rfl⟩
 rw[←i]at I3;have o3:∀b,b<W.heap.size→H3[b]?=W.heap[b]?:=fun b hb=>by rw[i];exact uO hb
 have d3:H3[W.heap.size]?=some (.cells A 35):=by rw[i];exact vO
 have e3:H3[W.heap.size+1]?=some (.cells #[.func (.func f) c1 c2] 75):=by rw[i];exact uT
 have s3:H3.size=W.heap.size+2:=by rw[i];exact sV
 clear i G3
 have d:∀b,b<W.heap.size→w3.heap[b]?=W.heap[b]?:=fun b hb=>by
  rw[I3.1,o3 b hb]
 -- searchWrong
 obtain⟨E1,wl1,a',b',c',p1,cc1,ra',rb',rc',D⟩:=oM (Cp.nil (P:=qf) w3) c8 (jh d ha) (cF d hb) (cF d hc) (cW d ra) (cW d rb) (cW d rc)
 have B:∀cs,bH qf (fun v _=>v=.int .i64 0) cs E1 (G (Frame.enter qf 54 #[.agg (aP a' b' c' g.rf g.pl),.int .i64 (n:Nat)] .normal) [aK qf]) wl1 (G (Frame.enter qf 54 #[.agg A,.int .i64 (n:Nat)] .normal) cs) w3:=fun cs=>bH.start (c:=cs) cG (f:=54) vkr (x:=#[.agg (aP a' b' c' g.rf g.pl),.int .i64 (n:Nat)]) (y:=#[.agg A,.int .i64 (n:Nat)]) (ah (.lK (by rw[hA0];exact oA ra' rb' rc')) (ah (.int _ _) gR)) p1.wr p1.gF (fun τ=>by
  refine(Fu _ g (n:Int) (wl1.tp τ) D).mono ?_;rintro e w' ⟨rfl,_⟩;exact⟨_,rfl,by rw[hE]⟩)
 obtain⟨N4,gs4,w4,sl4,t4,q4,E4,v,v',wl4,r4,z4,i4,p4,vr,_,fc4,Q4⟩:=fG (sl:=gP) hG cG i3 (B _) Q3;subst p4;cases vr
 have k4:∀b,b<H3.size→w4.heap[b]?=H3[b]?:=fun b hb=>by
  rw[←I3.1];exact fc4.keep b (by rw[I3.1];exact hb) (fun b' s e=>by have:=p1.sh _ _ _ _ e;cases this)
 have s4:H3.size≤w4.heap.size:=by have:=fc4.size;rw[I3.1]at this;exact this
 have I4:HI w4.heap W.os W.output w4:=⟨rfl,fc4.os.trans I3.2.1,fc4.output.trans I3.2.2⟩
 have e4:w4.heap[W.heap.size+1]?=some (.cells #[.func (.func f) c1 c2] 75 (0,0)):=by rw[k4 _ vom];exact e3
 have o:∀b,b<W.heap.size→w4.heap[b]?=W.heap[b]?:=fun b hb=>by
  rw[k4 b vom,o3 b hb]
 -- on to the first 'go'
 obtain⟨mu5,G5⟩:=FA (hv:=true) A n f c1 c2 W.heap.size (W.heap.size+1) cs w4.heap W.os W.output w4 I4 e4;obtain⟨N5,gs5,w5,sl5,t5,q5,g5,r5,z5,i5,⟨rfl,I5⟩,Q5⟩:=de (sl:=sl4) (fun _ _ _ h=>h) (fun g w h=>by rw[h.1];rfl) i4 G5 Q4;obtain⟨Fd,l⟩:∃Fd,Fd=w4.heap.size:=⟨_,rfl⟩
 have F5:Cm (fun x=>∀ad,x.loc=.cell ad→ad.block≠Fd) qf gs5 t5 q5 w5.heap.size:=⟨Q5,fun j x hx ad e=>by
  have h1:=Q5.low j x hx;rw[e]at h1;have h2:ad.block<w5.heap.size:=h1;rw[I5.1]at h2;omega⟩
 obtain⟨mu6,G6⟩:=Aq (hv:=true) Fd A n f c1 c2 W.heap.size (W.heap.size+1) cs w4.heap W.os W.output w5 I5;obtain⟨N6,gs6,w6,sl6,t6,q6,g6,r6,z6,i6,⟨rfl,I6⟩,F6⟩:=eC (sl:=sl5) (fun _ _ _ h=>h) (fun g w h=>by rw[h.1];rfl) i5 G6 F5;rw[←l]at i6;obtain⟨H6,k⟩:∃H6,H6=w4.heap.push (.cells (bJ 26 fun _=>.slice none 0 0) 109):=⟨_,rfl⟩
 rw[←k]at I6;have o6:∀b,b<Fd→H6[b]?=w4.heap[b]?:=fun b hb=>by rw[k,Wq,V9 vom]
 have d6:H6[Fd]?=some (.cells (bJ 26 fun _=>.slice none 0 0) 109):=by rw[k,Wq,Wc l]
 have s6:H6.size=Fd+1:=by rw[k,YG];omega
 clear k;have Z6:Z7 H6 W.os W.output w6:=⟨fun b _=>by rw[I6.1],by rw[I6.1];exact R3 _,I6.2.1,I6.2.2⟩
 obtain⟨mu7,G7⟩:=FE (hv:=true) (n:=n) (bM:=W.heap.size) (bL:=W.heap.size+1) (Fd:=Fd) vom Z6 _;obtain⟨N7,gs7,w7,sl7,t7,q7,g7,r7,z7,i7,z,F7⟩:=eC (sl:=sl6) (fun _ _ _ h=>h) (fun g w h=>by obtain⟨_,_,_,_,_,_,_,_,_,_,_,_,_,_,_,_,_,_,_,_,_,_,_,_,_,_,_,_,_,_,_,_,_,_,_,_,_,_,_,_,_,_,_,_,_,_,_,_,_,e,_⟩:=h;rw[e];rfl) i6 G7 F6;obtain⟨C1,C2,bF,bD,u0,u2,u4,u6,u7,u8,u12,u13,u14,u15,u16,u17,u18,u19,u20,u21,u22,u23,u26,u27,u28,u29,u30,u31,u32,u33,u34,u35,u36,u37,u38,u39,u40,u41,u42,u43,u44,u45,u46,u47,u48,u49,u50,u51,u52,rfl,Z7',zc1,zc2,C,zb1,zb2⟩:=z;obtain⟨mu8,G8⟩:=Ff (hv:=true) (n:=n) (bM:=W.heap.size) (bL:=W.heap.size+1) (Fd:=Fd) (C1:=C1) (C2:=C2) (bF:=bF) (bD:=bD) (H:=w7.heap) (w:=w7) ⟨rfl,Z7'.os,Z7'.output⟩ vom _;obtain⟨N8,gs8,w8,sl8,t8,q8,g8,r8,z8,i8,⟨m,u,I8⟩,F8⟩:=eC (sl:=sl7) (fun _ _ _ h=>h) (fun g w h=>h.1) i7 G8 F7
 have Ec:∀b,b<w4.heap.size→w8.heap[b]?=w4.heap[b]?:=fun b hb=>by
  rw[I8.1,Z7'.old b vom,o6 b vom]
 refine⟨N3+(N4+(N5+(N6+(N7+N8)))),gs8,w4,w8,sl8,t8,q8,g8,Fd,C1,C2,bF,bD,?_,by rw[z8,z7,z6,z5,z4,z3],i8,m,u,F8,?_⟩
 ·rw[XM,r3]
  show runNT qf (N4+(N5+(N6+(N7+N8)))) (crowd gs3 w3 gP) t3=_;rw[XM,r4];show runNT qf (N5+(N6+(N7+N8))) (crowd gs4 w4 sl4) t4=_;rw[XM,r5];show runNT qf (N6+(N7+N8)) (crowd gs5 w5 sl5) t5=_;rw[XM,r6];show runNT qf (N7+N8) (crowd gs6 w6 sl6) t6=_;rw[XM,r7];exact r8
 ·exact⟨o,by rw[k4 _ vom];exact d3,e4,l,Ec,by rw[I8.1,Z7'.old Fd vom];exact d6,⟨by have:=zc1.1;omega,by rw[I8.1];exact zc1.2⟩,⟨by have:=zc2.1;omega,by rw[I8.1];exact zc2.2⟩,C,⟨by have:=zb1.1;omega,by rw[I8.1];exact zb1.2⟩,⟨by have:=zb2.1;omega,by rw[I8.1];exact zb2.2⟩,I8.2.1,I8.2.2⟩
theorem yg{H:Array Obj}{x y:Obj}{b:Nat}(hb:b<H.size):((H.push x).push y)[b]?=H[b]?:=by
 rw[Wq,V9 vso,Wq,V9 vom]
theorem Hi{H:Array Obj}{x y:Obj}:((H.push x).push y)[H.size]?=some x:=by
 rw[Wq,V9 vsi,Wq,Wc rfl]
theorem xm{H:Array Obj}{x y:Obj}:((H.push x).push y)[H.size+1]?=some y:=by
 rw[Wq,Wc vsi]
theorem wj{H:Array Obj}{x y:Obj}:((H.push x).push y).size=H.size+2:=vsi
theorem Pd{w:V8}{a:Addr}{u:R2}{es:Array Event}(hu:w.cell? a=some u):∀ev∈(load a).events qf w es,ev∈es∨ev=⟨.cell a,false,false⟩:=fun ev h=>by
 have h1:ev∈es∨ev=⟨.cell a,false,Mode.plain==Mode.atomic⟩:=by simpa[go_sem,hu]using h
 exact h1
theorem Cd(a:Addr):∀(n i:Nat) (acc:Array R2) (w:V8) (es:Array Event),(∀j,j<n→(w.cell? (a.add (i+j))).isSome)→∀ev∈(loadCellsFrom a i n acc).events qf w es,ev∈es∨∃ad:Addr,ev=⟨.cell ad,false,false⟩∧ad.block=a.block
 |0,_,_,_,_,_=>fun ev h=>.inl (by simpa[loadCellsFrom]using h)
 |n+1,i,acc,w,es,hc=>fun ev h=>by
  simp only[loadCellsFrom,Sem.events_bind]at h;obtain⟨u,hu⟩:=Option.isSome_iff_exists.1 (hc 0 vom);simp only[Nat.add_zero]at hu;have hr:(load (a.add i)).run qf w=.ok u w:=by simp[hu]
  rw[hr]at h;rcases Cd a n (i+1) (acc.push u) w _ (fun j hj=>by have:=hc (j+1) vom;rwa [show i+(j+1)=i+1+j by omega]at this) ev h with h|h
  ·rcases Pd hu ev h with h|h
   ·exact .inl h
   ·exact .inr ⟨_,h,by unfold Addr.add;split<;>rfl⟩
  ·exact .inr h
theorem FY{W:V8}{b:Nat}{T:Wj}{A:Array R2}{TB:Wj}{fr:Nat×Nat}{d:TypeDesc}(hW:W.heap[b]?=some (.cells A TB fr))(hu:qf.underlying T=some d)(hd:d.isRow=true)(hi:(qf.info? T).map (·.size)=some A.size):
  ∀e∈(Instr.loadAt T (.pointer (some ⟨b,0,none⟩))).events qf W #[],∃a:Addr,e=⟨.cell a,false,false⟩∧a.block=b:=fun e he=>by
 obtain⟨i,c,f⟩:=Xt.1 hi
 have hc:=Cd ⟨b,0,none⟩ A.size 0 #[] W #[] (fun j hj=>by
  rw[Addr.add_lit,Xf _ _ _ _ _ _ hW];simp[hj])
 cases d with
 |struct fs=>
  simp[Instr.loadAt,Instr.sureAddr,loadVar,isAgg,go_sem,underlying,sizeOf,typeInfo,loadCells,hu,c,f]at he;rcases hc e he with h|h
  ·simp at h
  ·exact h
 |array n el=>
  simp[Instr.loadAt,Instr.sureAddr,loadVar,isAgg,go_sem,underlying,sizeOf,typeInfo,loadCells,hu,c,f]at he;rcases hc e he with h|h
  ·simp at h
  ·exact h
 |_=>cases hd
def Kept(W W':V8):Prop:=(∀b,b<W.heap.size→W'.heap[b]?=W.heap[b]?)∧W'.os=W.os∧W'.output=W.output
section
variable{A B:Array R2}{n:Nat}{W w4 w8:V8}{h1 h2 Fd C1 C2 bF bD:Nat}
theorem js{w:V8}{q:Nat}{x:R2}{T:Wj}(hq:w.heap[q]?=some (.cells #[x] T (0,0))):w.cell? ⟨q,0,none⟩=some x:=by rw[Xf _ _ _ _ _ _ hq];rfl
end
end
section
open Go.RowKit PK Vg
def cl(l:List UInt8)(c:Nat):Nat→Nat
 |0=>0
 |n+1=>cl l c n+if Vg.num (l.getD n 0)=c then 1 else 0
structure MR(p:Nat→Int)(good again:Bool)(x y:Nat)(p':Nat→Int)(good' again':Bool):Prop where
 ext:Bo.Ext p p'
 keep:again'=false→p'=p∧again=false
 fits:again'=false→good'=true→good=true∧p x=(y:Nat)
def Keys(m:Bo.Mn)(p:Nat→Int)(k:Nat):Prop:=∀i y:Nat,i<k→(p (m.x i)=(y:Int)→p (m.y i)=(m.s i y:Nat))∧(p (m.y i)=(y:Int)→p (m.x i)=(m.s i y:Nat))
theorem Dz{g:Gm}{cr te:ByteArray}(h:Ah g cr.data.toList te.data.toList=0):∃A ok pr,Uo g cr te A ok pr:=by
 obtain⟨hm,_⟩:=Dk h;have hA:=Bo.zY (fun c=>(Bo.ml (mL g cr te) c (mL g cr te).k).length)
 have h1:∀b:Nat,∃q:Bool×(Nat→Int),b<26→Bo.tq (mL g cr te) (Bo.most (fun c=>(Bo.ml (mL g cr te) c (mL g cr te).k).length) 26) b q.1 q.2:=fun b=>by
  by_cases hb:b<26
  ·obtain⟨o,p,hp⟩:=Bo.Es hm hA hb
   exact⟨(o,p),fun _=>hp⟩
  ·exact⟨(false,fun _=>0),fun h=>absurd h hb⟩
 obtain⟨q,hq⟩:=Classical.skolem.1 h1;exact⟨_,fun b=>(q b).1,fun b=>(q b).2,h,rfl,hq⟩
end
end Go.Proofs.YtpcnpkhgjanamaaGreatDoor
