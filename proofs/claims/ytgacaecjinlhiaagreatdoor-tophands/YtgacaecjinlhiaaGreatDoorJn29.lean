import Derived.Test.YtgacaecjinlhiaaGreatDoorJn28
namespace Go.Proofs.YtgacaecjinlhiaaGreatDoor
section
open Go.RowKit PK Vg Go.Conc Cs
noncomputable def bB:Code:=Tryz.f5.body.getD .skip
noncomputable def bT1:Code:=match bB with | .seq _ r=>r | _=>.skip
noncomputable def bO1:Array Oper:=match bT1 with | .seq (.seq (.region _ o _) _) _=>o | _=>#[]
noncomputable def bC2:Code:=match bT1 with | .seq (.seq _ c) _=>c | _=>.skip
noncomputable def bT4:Code:=match bT1 with | .seq _ r=>r | _=>.skip
noncomputable def bO4:Array Oper:=match bT4 with | .seq (.region _ o _) _=>o | _=>#[]
noncomputable def bT5:Code:=match bT4 with | .seq _ r=>r | _=>.skip
noncomputable def bO5:Array Oper:=match bT5 with | .seq (.region _ o _) _=>o | _=>#[]
theorem Cn {s:Nat} {a:Addr} {e:Event} (h:e.loc=.cell a) (ha:a.block<s):EvW s e:=by
 obtain ⟨l,w,at1⟩:=e
 dsimp only at h
 subst h
 cases w <;> cases at1
 all_goals exact ⟨fun x e=>(by cases e;exact ha),fun m e=>by cases e⟩
theorem wX (P:Program) (w:World) (es:Array Event) (ad:Addr) (m:Mode) (b:Option Addr):(store ad (.pointer b) m).events P w es=storedEv P w es ad (.pointer b) m:=events_store P w es ad _ m rfl
theorem rQ {W:World} {b:Nat} {T:TypeId} {v u:Value} (_h:W.heap[b]? = some (.cells #[v] T (0,0))):(W.setCell ⟨b,0,none⟩ u).heap.size=W.heap.size:=by
 simp[World.setCell]
theorem HI.JK {H:Array Obj} {o:Os} {out:Array (Nat × ByteArray)} {W:World} {T:TypeId} {v u:Value} (h:HI (H.push (.cells #[v] T (0,0))) o out W):HI (H.push (.cells #[u] T (0,0))) o out (W.setCell ⟨H.size,0,none⟩ u):=by
 have r0:W.heap[H.size]? = some (.cells #[v] T (0,0)):=by rw[h.1,Array.getElem?_push,if_pos rfl]
 have r1:=heap_setCell_same W H.size 0 _ _ u r0
 have hB:=(Below.refl 0 W).setCell (p:=⟨H.size,0,none⟩) (Nat.zero_le _) u
 refine ⟨?_,hB.os.trans h.2.1,hB.output.trans h.2.2⟩
 have hs:(W.setCell ⟨H.size,0,none⟩ u).heap.size=H.size+1:=by rw[rQ r0,h.1,Array.size_push]
 apply Array.ext_getElem?
 intro i
 by_cases hi:i<H.size
 ·rw[Array.getElem?_push,if_neg (by omega),heap_setCell_other W ⟨H.size,0,none⟩ i u (by show i≠H.size;omega),h.1,Array.getElem?_push,if_neg (by omega)]
 ·by_cases hi2:i=H.size
  ·rw[hi2,Array.getElem?_push,if_pos rfl]
   exact r1
  ·rw[Array.getElem?_eq_none (by rw[hs];omega),Array.getElem?_eq_none (by rw[Array.size_push];omega)]
set_option maxRecDepth 100000 in
set_option maxHeartbeats 4000000 in
theorem Lf (A:Array Value) (hA:A.size=55) (cr te:ByteArray) (n:Int) (cs:List Frame) (H:Array Obj) (o:Os) (out:Array (Nat × ByteArray)) (w:World) (hI:HI H o out w):∃mu,Goes Tryz.prog true AtRel DW (fun g w'=>g=G (Frame.enter Tryz.prog 9 #[.agg A,.string cr,.string te] .normal) ((base 5).at ⟨#[.agg A,.string cr,.string te,.int .i64 n,.pointer (some ⟨H.size,0,none⟩),.pointer (some ⟨H.size+1,0,none⟩),undef,undef,.slice none 0 0,.int .i64 0,undef,undef,.agg A,.string cr,.string te,undef,undef,undef,undef,undef,undef,undef,undef,undef,undef,undef,undef,undef],[]⟩ [.inRegion bO1 (3 :: List.range' 4 1),.code bC2,.code bT4] :: cs)∧HI ((H.push (.cells A 27)).push (.cells #[.string cr] 9)) o out w') mu (G ((base 5).at ⟨#[.agg A,.string cr,.string te,.int .i64 n,undef,undef,undef,undef,undef,undef,undef,undef,undef,undef,undef,undef,undef,undef,undef,undef,undef,undef,undef,undef,undef,undef,undef,undef],[]⟩ [.code bB]) cs) w:=by
 have hiA:(Tryz.prog.info? 27).map (·.size)=some A.size:=by rw[hA];exact aF
 refine ⟨40,?_⟩
 simp only[bB,Tryz.f5,Option.getD_some]
 repeat (refine aQ hI rfl (fun w₁ h₁=>?_);walk_rw;refine ⟨bQ _,?_⟩;clear hI;have hI:=h₁;clear h₁)
 refine aQ hI rfl (fun w₁ h₁=>?_)
 refine goes_oper_k rfl rfl (by decide) (fun K hK=>?_)
 go_simp
 refine hK _ _ ⟨⟨by simp,fun e he=>?_⟩,?_⟩
 ·have hm:=mem_listed he
  simp[go_sem] at hm
 clear hK K hI
 have hI:=h₁.alloc (.cells A 27)
 rw[h₁.1]
 clear h₁
 refine aQ hI rfl (fun w₁ h₁=>?_)
 refine goes_oper_k rfl rfl (by decide) (fun K hK=>?_)
 go_simp
 refine hK _ _ ⟨⟨by simp,fun e he=>?_⟩,?_⟩
 ·have hm:=mem_listed he
  simp[go_sem] at hm
 clear hK K hI
 have hI:=h₁.alloc (.cells #[.string cr] 9)
 rw[h₁.1]
 clear h₁
 simp only[Array.size_push]
 refine aQ hI rfl (fun w₁ h₁=>?_)
 refine goes_oper_k rfl rfl (by decide) (fun K hK=>?_)
 go_simp
 refine hK _ _ ⟨⟨by simp,fun e he=>?_⟩,?_⟩
 ·have hm:=mem_listed he
  simp[go_sem] at hm
 clear hK K hI
 have hI:=h₁
 clear h₁
 refine aQ hI rfl (fun w₁ h₁=>?_)
 refine goes_oper_k rfl rfl (by decide) (fun K hK=>?_)
 go_simp
 refine hK _ _ ⟨⟨by simp,fun e he=>?_⟩,?_⟩
 ·have hm:=mem_listed he
  simp[go_sem] at hm
 clear hK K hI
 have hI:=h₁
 clear h₁
 repeat (refine aQ hI rfl (fun w₁ h₁=>?_);walk_rw;refine ⟨bQ _,?_⟩;clear hI;have hI:=h₁;clear h₁)
 refine aQ hI rfl (fun w₁ h₁=>?_)
 have hWr:=show w₁.heap[H.size]? = some (.cells A 27 (0,0)) from by rw[h₁.1,Array.getElem?_push,if_neg (by simp),Array.getElem?_push,if_pos rfl]
 rw[stepG_value (v:=.agg A) (w':=w₁) rfl rfl (by decide) (cN rfl rfl (mB hWr Tryz.underlying27 rfl hiA))]
 simp only[goes_go]
 refine ⟨⟨Nat.le_refl _,fun e he=>o8 hWr Tryz.underlying27 rfl hiA e (by have hm:=mem_listed he;rw[bY rfl rfl] at hm;exact hm)⟩,?_⟩
 clear hWr hI
 have hI:=h₁
 clear h₁
 refine aQ hI rfl (fun w₁ h₁=>?_)
 refine goes_oper_k rfl rfl (by decide) (fun K hK=>?_)
 have hB:w₁.heap[H.size+1]? = some (.cells #[.string cr] 9 (0,0)):=by rw[h₁.1,Array.getElem?_push,if_pos (by simp)]
 have hbL:H.size+1<w₁.heap.size:=(Array.getElem?_eq_some_iff.1 hB).1
 have hC:w₁.cell? ⟨H.size+1,0,none⟩=some (.string cr):=by rw[cell_of_row _ _ _ _ _ _ hB];rfl
 go_simp
 refine hK _ _ ⟨⟨by simp,fun e he=>?_⟩,?_⟩
 ·have hm:=mem_listed he
  simp[go_sem,hC] at hm
  subst hm
  exact mj ⟨rfl,rfl⟩ hbL
 clear hK K hI hC hbL hB
 have hI:=h₁
 clear h₁
 refine aQ hI rfl (fun w₁ h₁=>?_)
 refine goes_oper_k rfl rfl (by decide) (fun K hK=>?_)
 go_simp
 refine hK _ _ ⟨⟨by simp,fun e he=>?_⟩,?_⟩
 ·have hm:=mem_listed he
  simp[go_sem] at hm
 clear hK K hI
 have hI:=h₁
 clear h₁
 refine aQ hI rfl (fun w₁ h₁=>?_)
 rw[stepG_enter (f:=9) (args:=#[.agg A,.string cr,.string te]) (w':=w₁) rfl rfl (by decide) (by simp[execOp,go_sem])]
 rw[listed_nil (by simp[go_sem,callFunc,Tryz.func9,Tryz.f9])]
 simp only[goes_go]
 refine ⟨bQ _,?_⟩
 exact Goes.stop fun w₂ h₂=>by
  obtain ⟨d,rfl⟩:=h₂
  exact ⟨rfl,h₁⟩
set_option maxRecDepth 100000 in
set_option maxHeartbeats 4000000 in
theorem LM (A:Array Value) (cr te:ByteArray) (n:Int) (bM bC:Nat) (cs:List Frame) (H:Array Obj) (o:Os) (out:Array (Nat × ByteArray)) (w:World) (hI:HI H o out w) (hbC:H[bC]? = some (.cells #[.string cr] 9 (0,0))):∃mu,Goes Tryz.prog true AtRel DW (fun g w'=>g=G (Frame.enter Tryz.prog 10 #[.string cr,.string te] .normal) ((base 5).at ⟨#[.agg A,.string cr,.string te,.int .i64 n,.pointer (some ⟨bM,0,none⟩),.pointer (some ⟨bC,0,none⟩),undef,undef,.slice none 0 0,.int .i64 0,.int .i64 0,undef,.agg A,.string cr,.string te,.int .i64 0,.int .i64 0,.bool false,undef,.string cr,.string te,undef,undef,undef,undef,undef,undef,undef],[]⟩ [.inRegion bO4 (2 :: List.range' 3 2),.code bT5] :: cs)∧HI H o out w') mu (G ((base 5).at ⟨#[.agg A,.string cr,.string te,.int .i64 n,.pointer (some ⟨bM,0,none⟩),.pointer (some ⟨bC,0,none⟩),undef,undef,.slice none 0 0,.int .i64 0,undef,undef,.agg A,.string cr,.string te,.int .i64 0,undef,undef,undef,undef,undef,undef,undef,undef,undef,undef,undef,undef],[]⟩ [.inRegion bO1 [4],.code bC2,.code bT4]) cs) w:=by
 refine ⟨40,?_⟩
 simp only[bO1,bC2,bT4,bT1,bB,Tryz.f5,Option.getD_some]
 refine aQ hI rfl (fun w₁ h₁=>?_)
 refine goes_oper_k rfl rfl (by decide) (fun K hK=>?_)
 go_simp
 refine hK _ _ ⟨⟨by simp,fun e he=>?_⟩,?_⟩
 ·have hm:=mem_listed he
  simp[go_sem] at hm
 clear hK K hI
 have hI:=h₁
 clear h₁
 repeat (refine aQ hI rfl (fun w₁ h₁=>?_);walk_rw;refine ⟨bQ _,?_⟩;clear hI;have hI:=h₁;clear h₁)
 refine aQ hI rfl (fun w₁ h₁=>?_)
 refine goes_oper_k rfl rfl (by decide) (fun K hK=>?_)
 go_simp
 refine hK _ _ ⟨⟨by simp,fun e he=>?_⟩,?_⟩
 ·have hm:=mem_listed he
  simp[go_sem] at hm
 clear hK K hI
 have hI:=h₁
 clear h₁
 refine aQ hI rfl (fun w₁ h₁=>?_)
 refine goes_oper_k rfl rfl (by decide) (fun K hK=>?_)
 go_simp
 refine hK _ _ ⟨⟨by simp,fun e he=>?_⟩,?_⟩
 ·have hm:=mem_listed he
  simp[go_sem] at hm
 clear hK K hI
 have hI:=h₁
 clear h₁
 repeat (refine aQ hI rfl (fun w₁ h₁=>?_);walk_rw;refine ⟨bQ _,?_⟩;clear hI;have hI:=h₁;clear h₁)
 refine aQ hI rfl (fun w₁ h₁=>?_)
 rw[stepG_cond (t:=false) rfl]
 simp only[goes_go,Bool.false_eq_true,↓reduceIte]
 refine ⟨bQ _,?_⟩
 clear hI
 have hI:=h₁
 clear h₁
 repeat (refine aQ hI rfl (fun w₁ h₁=>?_);walk_rw;refine ⟨bQ _,?_⟩;clear hI;have hI:=h₁;clear h₁)
 refine aQ hI rfl (fun w₁ h₁=>?_)
 refine goes_oper_k rfl rfl (by decide) (fun K hK=>?_)
 have hB:w₁.heap[bC]? = some (.cells #[.string cr] 9 (0,0)):=by rw[h₁.1];exact hbC
 have hbL:bC<w₁.heap.size:=(Array.getElem?_eq_some_iff.1 hB).1
 have hC:w₁.cell? ⟨bC,0,none⟩=some (.string cr):=by rw[cell_of_row _ _ _ _ _ _ hB];rfl
 go_simp
 refine hK _ _ ⟨⟨by simp,fun e he=>?_⟩,?_⟩
 ·have hm:=mem_listed he
  simp[go_sem,hC] at hm
  subst hm
  exact mj ⟨rfl,rfl⟩ hbL
 clear hK K hI hC hbL hB
 have hI:=h₁
 clear h₁
 refine aQ hI rfl (fun w₁ h₁=>?_)
 refine goes_oper_k rfl rfl (by decide) (fun K hK=>?_)
 go_simp
 refine hK _ _ ⟨⟨by simp,fun e he=>?_⟩,?_⟩
 ·have hm:=mem_listed he
  simp[go_sem] at hm
 clear hK K hI
 have hI:=h₁
 clear h₁
 refine aQ hI rfl (fun w₁ h₁=>?_)
 rw[stepG_enter (f:=10) (args:=#[.string cr,.string te]) (w':=w₁) rfl rfl (by decide) (by simp[execOp,go_sem])]
 rw[listed_nil (by simp[go_sem,callFunc,Tryz.func10,Tryz.f10])]
 simp only[goes_go]
 refine ⟨bQ _,?_⟩
 exact Goes.stop fun w₂ h₂=>by
  obtain ⟨d,rfl⟩:=h₂
  exact ⟨rfl,h₁⟩
set_option maxRecDepth 100000 in
set_option maxHeartbeats 4000000 in
theorem L2 (A:Array Value) (hA:A.size=55) (cr te:ByteArray) (n:Int) (bM bC:Nat) (p:Addr) (cs:List Frame) (H:Array Obj) (o:Os) (out:Array (Nat × ByteArray)) (w:World) (hI:HI H o out w) (hM:H[bM]? = some (.cells A 27 (0,0))):∃mu,Goes Tryz.prog true AtRel DW (fun g w'=>g=G ((base 11).at ⟨#[.agg A,.int .i64 n,.func (.func 12) #[] #[.pointer (some ⟨H.size,0,none⟩),.pointer (some ⟨bC,0,none⟩)],undef,undef,undef,undef,undef,undef,undef,undef,undef,undef,undef,undef,undef,undef,undef,undef,undef,undef,undef,undef,undef,undef,undef,undef,undef,undef,undef,undef,undef,undef,undef,undef,undef,undef,undef,undef,undef,undef,undef,undef,undef,undef,undef,undef,undef,undef,undef,undef,undef,undef],[]⟩ [.code Hb.dm]) ((base 5).at ⟨#[.agg A,.string cr,.string te,.int .i64 n,.pointer (some ⟨bM,0,none⟩),.pointer (some ⟨bC,0,none⟩),undef,undef,.slice none 0 0,.int .i64 0,.int .i64 0,.pointer (some ⟨H.size,0,none⟩),.agg A,.string cr,.string te,.int .i64 0,.int .i64 0,.bool false,undef,.string cr,.string te,.pointer (some p),.agg A,.int .i64 n,.func (.func 12) #[] #[.pointer (some ⟨H.size,0,none⟩),.pointer (some ⟨bC,0,none⟩)],undef,undef,undef],[]⟩ [.inRegion bO5 (3 :: List.range' 4 4),.code .ret] :: cs)∧HI (H.push (.cells #[.pointer (some p)] 43)) o out w') mu (G ((base 5).at ⟨#[.agg A,.string cr,.string te,.int .i64 n,.pointer (some ⟨bM,0,none⟩),.pointer (some ⟨bC,0,none⟩),undef,undef,.slice none 0 0,.int .i64 0,.int .i64 0,undef,.agg A,.string cr,.string te,.int .i64 0,.int .i64 0,.bool false,undef,.string cr,.string te,.pointer (some p),undef,undef,undef,undef,undef,undef],[]⟩ [.inRegion bO4 [3,4],.code bT5]) cs) w:=by
 have hiA:(Tryz.prog.info? 27).map (·.size)=some A.size:=by rw[hA];exact aF
 have hzp:(Tryz.prog.info? 43).map (·.zero)=some (some (.pointer none)):=by kernel_rfl
 have hzq:=cm hzp
 have hM':(H.push (.cells #[.pointer (some p)] 43))[bM]? = some (.cells A 27 (0,0)):=by
  have:=(Array.getElem?_eq_some_iff.1 hM).1
  rw[Array.getElem?_push,if_neg (by omega)]
  exact hM
 refine ⟨40,?_⟩
 simp only[bO4,bT5,bT4,bT1,bB,Tryz.f5,Option.getD_some]
 refine aQ hI rfl (fun w₁ h₁=>?_)
 refine goes_oper_k rfl rfl (by decide) (fun K hK=>?_)
 go_simp
 refine hK _ _ ⟨⟨by simp,fun e he=>?_⟩,?_⟩
 ·have hm:=mem_listed he
  simp[go_sem] at hm
 clear hK K hI
 have hI:=h₁.alloc (.cells #[.pointer none] 43)
 rw[h₁.1]
 clear h₁
 refine aQ hI rfl (fun w₁ h₁=>?_)
 refine goes_oper_k rfl rfl (by decide) (fun K hK=>?_)
 have hB:w₁.heap[H.size]? = some (.cells #[.pointer none] 43 (0,0)):=by rw[h₁.1,Array.getElem?_push,if_pos rfl]
 have hbL:H.size<w₁.heap.size:=(Array.getElem?_eq_some_iff.1 hB).1
 have hC:w₁.cell? ⟨H.size,0,none⟩=some (.pointer none):=by rw[cell_of_row _ _ _ _ _ _ hB];rfl
 have hF:w₁.frozen? ⟨H.size,0,none⟩=false:=frozen_of_row w₁ H.size _ _ _ hB
 have hs:=rQ (W:=w₁) (u:=.pointer (some p)) hB
 go_simp
 refine hK _ _ ⟨⟨by rw[hs];exact Nat.le_refl _,fun e he=>?_⟩,?_⟩
 ·have hm:=mem_listed he
  simp[go_sem,wX,hC,hF] at hm
  subst hm
  rw[hs]
  exact Cn rfl hbL
 clear hK K hI hC hF hbL hB hs
 have hI:=h₁.JK (u:=.pointer (some p))
 clear h₁
 repeat (refine aQ hI rfl (fun w₁ h₁=>?_);walk_rw;refine ⟨bQ _,?_⟩;clear hI;have hI:=h₁;clear h₁)
 refine aQ hI rfl (fun w₁ h₁=>?_)
 have hWr:=show w₁.heap[bM]? = some (.cells A 27 (0,0)) from by rw[h₁.1];exact hM'
 rw[stepG_value (v:=.agg A) (w':=w₁) rfl rfl (by decide) (cN rfl rfl (mB hWr Tryz.underlying27 rfl hiA))]
 simp only[goes_go]
 refine ⟨⟨Nat.le_refl _,fun e he=>o8 hWr Tryz.underlying27 rfl hiA e (by have hm:=mem_listed he;rw[bY rfl rfl] at hm;exact hm)⟩,?_⟩
 clear hWr hI
 have hI:=h₁
 clear h₁
 refine aQ hI rfl (fun w₁ h₁=>?_)
 refine goes_oper_k rfl rfl (by decide) (fun K hK=>?_)
 go_simp
 refine hK _ _ ⟨⟨by simp,fun e he=>?_⟩,?_⟩
 ·have hm:=mem_listed he
  simp[go_sem] at hm
 clear hK K hI
 have hI:=h₁
 clear h₁
 refine aQ hI rfl (fun w₁ h₁=>?_)
 refine goes_oper_k rfl rfl (by decide) (fun K hK=>?_)
 go_simp
 refine hK _ _ ⟨⟨by simp,fun e he=>?_⟩,?_⟩
 ·have hm:=mem_listed he
  simp[go_sem] at hm
 clear hK K hI
 have hI:=h₁
 clear h₁
 refine aQ hI rfl (fun w₁ h₁=>?_)
 refine goes_call rfl rfl (by decide) rfl Tryz.func11 (by kernel_rfl) rfl ?_
 refine ⟨bQ _,?_⟩
 exact Goes.stop fun w₂ h₂=>by
  obtain ⟨d,rfl⟩:=h₂
  refine ⟨?_,h₁⟩
  have e1:∀(a:Act),a.eval (.tmp 22)=.agg A→a.eval (.tmp 23)=.int .i64 n→a.eval (.tmp 24)=.func (.func 12) #[] #[.pointer (some ⟨H.size,0,none⟩),.pointer (some ⟨bC,0,none⟩)]→(#[Operand.tmp 22,.tmp 23,.tmp 24].map a.eval++Array.replicate (Tryz.f11.ntmps-(#[Operand.tmp 22,.tmp 23,.tmp 24].map a.eval).size) undef)=#[.agg A,.int .i64 n,.func (.func 12) #[] #[.pointer (some ⟨H.size,0,none⟩),.pointer (some ⟨bC,0,none⟩)],undef,undef,undef,undef,undef,undef,undef,undef,undef,undef,undef,undef,undef,undef,undef,undef,undef,undef,undef,undef,undef,undef,undef,undef,undef,undef,undef,undef,undef,undef,undef,undef,undef,undef,undef,undef,undef,undef,undef,undef,undef,undef,undef,undef,undef,undef,undef,undef,undef,undef]:=fun a k0 k1 k2=>by
   simp[k0,k1,k2,Array.replicate,List.replicate]
  rw[e1 _ rfl rfl rfl]
  rfl
end
section
open Go.RowKit PK Vg Go.Conc Cs
theorem oX {H:Array Obj} {x y:Obj} {b:Nat} (h:b<H.size):((H.push x).push y)[b]? = H[b]?:=by
 rw[Array.getElem?_push,if_neg (by simp;omega),Array.getElem?_push,if_neg (by omega)]
theorem qH {H:Array Obj} {x y:Obj}:((H.push x).push y)[H.size]? = some x:=by
 rw[Array.getElem?_push,if_neg (by simp),Array.getElem?_push,if_pos rfl]
theorem pP {H:Array Obj} {x y:Obj}:((H.push x).push y)[H.size+1]? = some y:=by
 rw[Array.getElem?_push,if_pos (by simp)]
theorem nS {H:Array Obj} {x y:Obj}:((H.push x).push y).size=H.size+2:=by simp
structure AtH (A:Array Value) (vl:Value) (W w4 w8:World) (Fd C1 C2 bF bD:Nat):Prop where
 Lq:∀b,b<W.heap.size→w4.heap[b]? = W.heap[b]?
 lM:w4.heap[W.heap.size]? = some (.cells A 27 (0,0))
 lL:w4.heap[W.heap.size+1]? = some (.cells #[vl] 51 (0,0))
 fd:Fd=w4.heap.size
 h84:∀b,b<w4.heap.size→w8.heap[b]? = w4.heap[b]?
 row:w8.heap[Fd]? = some (.cells (tab 26 fun _=>.slice none 0 0) 77 (0,0))
 c1:Fd<C1∧w8.heap[C1]? = some (.chan 0 #[] false 0 0 false)
 c2:Fd<C2∧w8.heap[C2]? = some (.chan 0 #[] false 0 0 false)
 ne:C1≠C2
 bf:Fd<bF∧w8.heap[bF]? = some (.cells #[.chan (some C1)] 78 (0,0))
 bd:Fd<bD∧w8.heap[bD]? = some (.cells #[.chan (some C2)] 79 (0,0))
 env:w8.os=W.os∧w8.output=W.output
set_option maxRecDepth 100000 in
set_option maxHeartbeats 8000000 in
theorem uk (a b c:Value) (g:Gm) (n:Nat) (hE:swE g (n:Int)=0) (f:FuncId) (c1 c2:Array Value) (W:World) (ha:WhR W a g.n g.wi g.nl g.no) (hb:aq W b g.rl g.ri) (hc:aq W c g.sl g.st) (ra:Rt W a) (rb:Rt W b) (rc:Rt W c) (A:Array Value) (hA0:A=mac a b c g.rf g.pl) (cs:List Frame) {gs:Array Goroutine} {t:Trace} {q:Nat→Nat} (i2:gs[0]? = some (G ((base 11).at ⟨#[.agg A,.int .i64 (n:Nat),.func (.func f) c1 c2,undef,undef,undef,undef,undef,undef,undef,undef,undef,undef,undef,undef,undef,undef,undef,undef,undef,undef,undef,undef,undef,undef,undef,undef,undef,undef,undef,undef,undef,undef,undef,undef,undef,undef,undef,undef,undef,undef,undef,undef,undef,undef,undef,undef,undef,undef,undef,undef,undef,undef],[]⟩ [.code Hb.dm]) cs)) (Q2:Qt Tryz.prog gs t q W.heap.size) (sl2:Option (Nat × Nat)) :
  ∃N gs' w4 w8 sl' t' q' g8 Fd C1 C2 bF bD,runNT Tryz.prog N (crowd gs W sl2) t=(.next (crowd gs' w8 sl'),t')∧gs'.size=gs.size∧gs'[0]? = some g8∧g8.status=.running∧(∀c:Cst,c.Fd=Fd→Hb.xp c bF W.heap.size (W.heap.size+1) bD n cs 0 g8)∧QtF (fun x=>∀ad,x.loc=.cell ad→ad.block≠Fd) Tryz.prog gs' t' q' w8.heap.size∧AtH A (.func (.func f) c1 c2) W w4 w8 Fd C1 C2 bF bD:=by
 obtain ⟨_,_,hh1,hh2⟩:=oZ hE
 have hG:Tryz.prog.globals.size≤Fns.G:=Nat.le_refl _
 have hA:A.size=55:=by rw[hA0];exact aE ..
 have I2:HI W.heap W.os W.output W:=⟨rfl,rfl,rfl⟩
 -- to the call of searchWrong
 obtain ⟨mu3,G3⟩:=Hb.yw A hA (n:Int) f c1 c2 cs W.heap W.os W.output W I2
 obtain ⟨N3,gs3,w3,sl3,t3,q3,g3,r3,z3,i3,⟨rfl,I3⟩,Q3⟩:=dH (sl:=sl2) (fun _ _ _ h=>h) (fun g w h=>by rw[h.1];rfl) i2 G3 Q2
 obtain ⟨H3,hH3⟩:∃H3,H3=(W.heap.push (.cells A 27)).push (.cells #[.func (.func f) c1 c2] 51):=⟨_,rfl⟩
 rw[←hH3] at I3
 have o3:∀b,b<W.heap.size→H3[b]? = W.heap[b]?:=fun b hb=>by rw[hH3];exact oX hb
 have d3:H3[W.heap.size]? = some (.cells A 27):=by rw[hH3];exact qH
 have e3:H3[W.heap.size+1]? = some (.cells #[.func (.func f) c1 c2] 51):=by rw[hH3];exact pP
 have s3:H3.size=W.heap.size+2:=by rw[hH3];exact nS
 clear hH3 G3
 have hag3:∀b,b<W.heap.size→w3.heap[b]? = W.heap[b]?:=fun b hb=>by
  rw[I3.1,o3 b hb]
 -- searchWrong
 obtain ⟨E1,wl1,a',b',c',p1,cc1,ra',rb',rc',hm1⟩:=y6 (Cp.nil (P:=Tryz.prog) w3) eZ (mN hag3 ha) (dD hag3 hb) (dD hag3 hc) (dI hag3 ra) (dI hag3 rb) (dI hag3 rc)
 have hin:∀cs,bh Tryz.prog (fun v _=>v=.int .i64 0) cs E1 (G (Frame.enter Tryz.prog 31 #[.agg (mac a' b' c' g.rf g.pl),.int .i64 (n:Nat)] .normal) [aV Tryz.prog]) wl1 (G (Frame.enter Tryz.prog 31 #[.agg A,.int .i64 (n:Nat)] .normal) cs) w3:=fun cs=>bh.start (c:=cs) dc (f:=31) (by kernel_rfl) (x:=#[.agg (mac a' b' c' g.rf g.pl),.int .i64 (n:Nat)]) (y:=#[.agg A,.int .i64 (n:Nat)]) (ai (.lu (by rw[hA0];exact xB ra' rb' rc')) (ai (.int _ _) jd)) p1.wr p1.big (fun τ=>by
  refine (Hr _ g (n:Int) (wl1.tp τ) hm1).mono ?_
  rintro e w' ⟨rfl,_⟩
  exact ⟨_,rfl,by rw[hE]⟩)
 obtain ⟨N4,gs4,w4,sl4,t4,q4,E4,v,v',wl4,r4,z4,i4,p4,vr,_,fc4,Q4⟩:=gb (sl:=sl3) hG dc i3 (hin _) Q3
 subst p4
 cases vr
 have k4:∀b,b<H3.size→w4.heap[b]? = H3[b]?:=fun b hb=>by
  rw[←I3.1]
  exact fc4.keep b (by rw[I3.1];exact hb) (fun b' s e=>by have:=p1.sh _ _ _ _ e;cases this)
 have s4:H3.size≤w4.heap.size:=by have:=fc4.size;rw[I3.1] at this;exact this
 have I4:HI w4.heap W.os W.output w4:=⟨rfl,fc4.os.trans I3.2.1,fc4.output.trans I3.2.2⟩
 have e4:w4.heap[W.heap.size+1]? = some (.cells #[.func (.func f) c1 c2] 51 (0,0)):=by rw[k4 _ (by omega)];exact e3
 have hag4:∀b,b<W.heap.size→w4.heap[b]? = W.heap[b]?:=fun b hb=>by
  rw[k4 b (by omega),o3 b hb]
 -- on to the first 'go'
 obtain ⟨mu5,G5⟩:=Hb.Gx A n f c1 c2 W.heap.size (W.heap.size+1) cs w4.heap W.os W.output w4 I4 e4
 obtain ⟨N5,gs5,w5,sl5,t5,q5,g5,r5,z5,i5,⟨rfl,I5⟩,Q5⟩:=dH (sl:=sl4) (fun _ _ _ h=>h) (fun g w h=>by rw[h.1];rfl) i4 G5 Q4
 obtain ⟨Fd,hFd⟩:∃Fd,Fd=w4.heap.size:=⟨_,rfl⟩
 have F5:QtF (fun x=>∀ad,x.loc=.cell ad→ad.block≠Fd) Tryz.prog gs5 t5 q5 w5.heap.size:=⟨Q5,fun j x hx ad e=>by
  have h1:=Q5.low j x hx
  rw[e] at h1
  have h2:ad.block<w5.heap.size:=h1
  rw[I5.1] at h2
  omega⟩
 obtain ⟨mu6,G6⟩:=Hb.DJ Fd A n f c1 c2 W.heap.size (W.heap.size+1) cs w4.heap W.os W.output w5 I5
 obtain ⟨N6,gs6,w6,sl6,t6,q6,g6,r6,z6,i6,⟨rfl,I6⟩,F6⟩:=gB (sl:=sl5) (fun _ _ _ h=>h) (fun g w h=>by rw[h.1];rfl) i5 G6 F5
 rw[←hFd] at i6
 obtain ⟨H6,hH6⟩:∃H6,H6=w4.heap.push (.cells (tab 26 fun _=>.slice none 0 0) 77):=⟨_,rfl⟩
 rw[←hH6] at I6
 have o6:∀b,b<Fd→H6[b]? = w4.heap[b]?:=fun b hb=>by rw[hH6,Array.getElem?_push,if_neg (by omega)]
 have d6:H6[Fd]? = some (.cells (tab 26 fun _=>.slice none 0 0) 77):=by rw[hH6,Array.getElem?_push,if_pos hFd]
 have s6:H6.size=Fd+1:=by rw[hH6,Array.size_push];omega
 clear hH6
 have Z6:Hb.Z7 H6 W.os W.output w6:=⟨fun b _=>by rw[I6.1],by rw[I6.1];exact Nat.le_refl _,I6.2.1,I6.2.2⟩
 obtain ⟨mu7,G7⟩:=Hb.GM (n:=n) (bM:=W.heap.size) (bL:=W.heap.size+1) (Fd:=Fd) (by omega) Z6 _
 obtain ⟨N7,gs7,w7,sl7,t7,q7,g7,r7,z7,i7,hst7,F7⟩:=gB (sl:=sl6) (fun _ _ _ h=>h) (fun g w h=>by obtain ⟨_,_,_,_,_,_,_,_,_,_,_,_,_,_,_,_,_,_,_,_,_,_,_,_,_,_,_,_,_,_,_,_,_,_,_,_,_,_,_,_,_,_,_,_,_,_,_,_,_,e,_⟩:=h;rw[e];rfl) i6 G7 F6
 obtain ⟨C1,C2,bF,bD,u0,u2,u4,u6,u7,u8,u12,u13,u14,u15,u16,u17,u18,u19,u20,u21,u22,u23,u26,u27,u28,u29,u30,u31,u32,u33,u34,u35,u36,u37,u38,u39,u40,u41,u42,u43,u44,u45,u46,u47,u48,u49,u50,u51,u52,rfl,Z7',zc1,zc2,hcc,zb1,zb2⟩:=hst7
 obtain ⟨mu8,G8⟩:=Hb.GK (n:=n) (bM:=W.heap.size) (bL:=W.heap.size+1) (Fd:=Fd) (C1:=C1) (C2:=C2) (bF:=bF) (bD:=bD) (H:=w7.heap) (w:=w7) ⟨rfl,Z7'.os,Z7'.output⟩ (by omega) _
 obtain ⟨N8,gs8,w8,sl8,t8,q8,g8,r8,z8,i8,⟨hrun8,hgo8,I8⟩,F8⟩:=gB (sl:=sl7) (fun _ _ _ h=>h) (fun g w h=>h.1) i7 G8 F7
 have h84:∀b,b<w4.heap.size→w8.heap[b]? = w4.heap[b]?:=fun b hb=>by
  rw[I8.1,Z7'.old b (by omega),o6 b (by omega)]
 refine ⟨N3+(N4+(N5+(N6+(N7+N8)))),gs8,w4,w8,sl8,t8,q8,g8,Fd,C1,C2,bF,bD,?_,by rw[z8,z7,z6,z5,z4,z3],i8,hrun8,hgo8,F8,?_⟩
 ·rw[runNT_add,r3]
  show runNT Tryz.prog (N4+(N5+(N6+(N7+N8)))) (crowd gs3 w3 sl3) t3=_
  rw[runNT_add,r4]
  show runNT Tryz.prog (N5+(N6+(N7+N8))) (crowd gs4 w4 sl4) t4=_
  rw[runNT_add,r5]
  show runNT Tryz.prog (N6+(N7+N8)) (crowd gs5 w5 sl5) t5=_
  rw[runNT_add,r6]
  show runNT Tryz.prog (N7+N8) (crowd gs6 w6 sl6) t6=_
  rw[runNT_add,r7]
  exact r8
 ·exact ⟨hag4,by rw[k4 _ (by omega)];exact d3,e4,hFd,h84,by rw[I8.1,Z7'.old Fd (by omega)];exact d6,⟨by have:=zc1.1;omega,by rw[I8.1];exact zc1.2⟩,⟨by have:=zc2.1;omega,by rw[I8.1];exact zc2.2⟩,hcc,⟨by have:=zb1.1;omega,by rw[I8.1];exact zb1.2⟩,⟨by have:=zb2.1;omega,by rw[I8.1];exact zb2.2⟩,I8.2.1,I8.2.2⟩
end
section
open Go.RowKit PK Vg Go.Conc Cs
end
section
open Go.RowKit PK Vg Go.Conc Cs
end
section
open Go.RowKit PK Vg Go.Conc Cs
end
section
open Go.RowKit PK Vg Go.Conc Cs
end
section
open Go.RowKit PK Vg Go.Conc Cs
section
variable {H:Array Obj} {o:Os} {out:Array (Nat × ByteArray)} {W:World}
theorem cA {b:Nat} {x:Obj} (h:W.heap[b]? = some x):b<W.heap.size:=(Array.getElem?_eq_some_iff.1 h).1
end
section
variable {n bM bL Fd:Nat} {p q r s v0 v2 v4 v6 v7 v8 v12 v13 v14 v15 v16 v17 v18 v19 v20 v21 v22 v23 v26 v27 v28 v29 v30 v31 v32 v33 v34 v35 v36 v37 v38 v39 v40 v41 v42 v43 v44 v45 v46 v47 v48 v49 v50 v51 v52:Value} {W:World} {K:Act→World→Prop}
end
section
variable {H:Array Obj} {o:Os} {out:Array (Nat × ByteArray)} {n bM bL Fd:Nat} {p q r s v0 v2 v4 v6 v7 v8 v12 v13 v14 v15 v16 v17 v18 v19 v20 v21 v22 v23 v26 v27 v28 v29 v30 v31 v32 v33 v34 v35 v36 v37 v38 v39 v40 v41 v42 v43 v44 v45 v46 v47 v48 v49 v50 v51 v52:Value} {W:World}
end
end
section
open Go.RowKit PK Vg Go.Conc Cs
end
section
open Go.RowKit PK Vg Go.Conc Cs
theorem Gw {w:World} {a:Addr} {u:Value} {es:Array Event} (hu:w.cell? a=some u):∀ev ∈ (load a).events Tryz.prog w es,ev ∈ es∨ev=⟨.cell a,false,false⟩:=fun ev h=>by
 have h1:ev ∈ es∨ev=⟨.cell a,false,Mode.plain==Mode.atomic⟩:=by simpa [go_sem,hu] using h
 exact h1
theorem wH (a:Addr):∀(n i:Nat) (acc:Array Value) (w:World) (es:Array Event),(∀j,j<n→(w.cell? (a.add (i+j))).isSome)→∀ev ∈ (loadCellsFrom a i n acc).events Tryz.prog w es,ev ∈ es∨∃ad:Addr,ev=⟨.cell ad,false,false⟩∧ad.block=a.block
 | 0,_,_,_,_,_=>fun ev h=>.inl (by simpa [loadCellsFrom] using h)
 | n+1,i,acc,w,es,hc=>fun ev h=>by
  simp only[loadCellsFrom,Sem.events_bind] at h
  obtain ⟨u,hu⟩:=Option.isSome_iff_exists.1 (hc 0 (by omega))
  simp only[Nat.add_zero] at hu
  have hr:(load (a.add i)).run Tryz.prog w=.ok u w:=by simp[hu]
  rw[hr] at h
  rcases wH a n (i+1) (acc.push u) w _ (fun j hj=>by have:=hc (j+1) (by omega);rwa [show i+(j+1)=i+1+j by omega] at this) ev h with h | h
  ·rcases Gw hu ev h with h | h
   ·exact .inl h
   ·exact .inr ⟨_,h,by unfold Addr.add;split <;> rfl⟩
  ·exact .inr h
theorem GH {W:World} {b:Nat} {T:TypeId} {A:Array Value} {TB:TypeId} {fr:Nat × Nat} {d:TypeDesc} (hW:W.heap[b]? = some (.cells A TB fr)) (hu:Tryz.prog.underlying T=some d) (hd:d.isRow=true) (hi:(Tryz.prog.info? T).map (·.size)=some A.size) :
  ∀e ∈ (Instr.loadAt T (.pointer (some ⟨b,0,none⟩))).events Tryz.prog W #[],∃a:Addr,e=⟨.cell a,false,false⟩∧a.block=b:=fun e he=>by
 obtain ⟨i,hi1,hi2⟩:=Option.map_eq_some_iff.1 hi
 have hc:=wH ⟨b,0,none⟩ A.size 0 #[] W #[] (fun j hj=>by
  rw[Addr.add_lit,cell_of_row _ _ _ _ _ _ hW]
  simp[hj])
 cases d with
 | struct fs =>
  simp[Instr.loadAt,Instr.sureAddr,loadVar,isAgg,go_sem,underlying,sizeOf,typeInfo,loadCells,hu,hi1,hi2] at he
  rcases hc e he with h | h
  ·simp at h
  ·exact h
 | array n el =>
  simp[Instr.loadAt,Instr.sureAddr,loadVar,isAgg,go_sem,underlying,sizeOf,typeInfo,loadCells,hu,hi1,hi2] at he
  rcases hc e he with h | h
  ·simp at h
  ·exact h
 | _=>cases hd
def Kept (W W':World):Prop:=(∀b,b<W.heap.size→W'.heap[b]? = W.heap[b]?)∧W'.os=W.os∧W'.output=W.output
end
section
open Go.RowKit PK Vg Go.Conc Cs
section
variable {A B:Array Value} {n:Nat} {W w4 w8:World} {h1 h2 Fd C1 C2 bF bD:Nat}
theorem pF {w:World} {q:Nat} {x:Value} {T:TypeId} (hq:w.heap[q]? = some (.cells #[x] T (0,0))):w.cell? ⟨q,0,none⟩=some x:=by rw[cell_of_row _ _ _ _ _ _ hq];rfl
end
end
section
open Go.RowKit PK Vg
end
section
open Go.RowKit PK Vg
end
section
open Go.RowKit PK Vg
def cl (l:List UInt8) (c:Nat):Nat→Nat
 | 0=>0
 | n+1=>cl l c n+if Vg.num (l.getD n 0)=c then 1 else 0
end
section
open Go.RowKit PK Vg
section
variable {w W W':World} {p:Nat→Int} {good again:Bool}
end
structure MR (p:Nat→Int) (good again:Bool) (x y:Nat) (p':Nat→Int) (good' again':Bool):Prop where
 ext:Bo.Ext p p'
 keep:again'=false→p'=p∧again=false
 fits:again'=false→good'=true→good=true∧p x=(y:Nat)
end
section
open Go.RowKit PK Vg
def Keys (m:Bo.Mn) (p:Nat→Int) (k:Nat):Prop:=∀i y:Nat,i<k→(p (m.x i)=(y:Int)→p (m.y i)=(m.s i y:Nat))∧(p (m.y i)=(y:Int)→p (m.x i)=(m.s i y:Nat))
end
section
open Go.RowKit PK Vg
theorem y5:(Tryz.prog).stoodInHeld 87=false:=by kernel_rfl
theorem FR (a b:Nat) (p:Nat→Int) (w:World) (d:Nat):(Op.equalIn (d+3) 87 (.agg (ints 28 (gsF a b p))) (.agg (ints 28 (gsF a b p)))).run Tryz.prog w=.ok true w:=by
 have hs:(sizeOf 25).run Tryz.prog w=.ok 26 w:=by
  obtain ⟨i,hi,hz⟩:=Option.map_eq_some_iff.1 aj
  simp[sizeOf,typeInfo,hi,hz]
 have e0:∀z:Int,(Op.equalIn (d+2) 3 (.int .i64 z) (.int .i64 z)).run Tryz.prog w=.ok true w:=fun z=>by
  rw[Op.equalIn]
  simp[Sem.run_bind,run_underlying Tryz.underlying3]
 have e2:(Op.equalIn (d+2) 25 (.agg (ints 26 p)) (.agg (ints 26 p))).run Tryz.prog w=.ok true w:=by
  have:=gH (P:=Tryz.prog) w d 25 3 26 Tryz.underlying25 Tryz.underlying3 lU p p
  rw[CC] at this
  exact this
 have c0:(ints 28 (gsF a b p))[0]? = some (.int .i64 (a:Nat)):=aB (gsF a b p) (by decide)
 have c1:(ints 28 (gsF a b p))[1]? = some (.int .i64 (b:Nat)):=aB (gsF a b p) (by decide)
 have c2':((ints 28 (gsF a b p)).extract 2 28)=ints 26 p:=by
  apply Array.ext_getElem?
  intro j
  by_cases hj:j<26
  ·rw[aB _ hj,Array.getElem?_extract,if_pos (by rw[ag];omega),aB _ (by omega)]
   unfold gsF
   rw[if_neg (by omega),if_neg (by omega),show 2+j-2=j by omega]
  ·rw[Array.getElem?_eq_none (by simp[ag];omega),Array.getElem?_eq_none (by simp[ag];omega)]
 have hh:=y5
 generalize ints 28 (gsF a b p)=cs at *
 generalize ints 26 p=c2 at *
 have hS:Tryz.prog.underlying 87=some (.struct (Tryz.prog.fieldsOf 87)):=by kernel_rfl
 rw[run_equalIn_struct w (d+2) 87 _ _ hS hh]
 simp only[Program.fieldsOf,Tryz.underlying87]
 clear hS hh
 go_simp
theorem tu (a b:Nat) (p:Nat→Int) (w:World):(Op.equalIn 10000 87 (.agg (ints 28 (gsF a b p))) (.agg (ints 28 (gsF a b p)))).run Tryz.prog w=.ok true w:=FR a b p w 9997
end
section
open Go.RowKit PK Vg
end
section
open Go.RowKit PK Vg
theorem yT {g:Gm} {cr te:ByteArray} (h:bwE g cr.data.toList te.data.toList=0):∃A ok pr,Tst g cr te A ok pr:=by
 obtain ⟨hm,_⟩:=B3 h
 have hA:=Bo.zY (fun c=>(Bo.ml (mnu g cr te) c (mnu g cr te).k).length)
 have h1:∀b:Nat,∃q:Bool × (Nat→Int),b<26→Bo.Res (mnu g cr te) (Bo.most (fun c=>(Bo.ml (mnu g cr te) c (mnu g cr te).k).length) 26) b q.1 q.2:=fun b=>by
  by_cases hb:b<26
  ·obtain ⟨o,p,hp⟩:=Bo.yq hm hA hb
   exact ⟨(o,p),fun _=>hp⟩
  ·exact ⟨(false,fun _=>0),fun h=>absurd h hb⟩
 obtain ⟨q,hq⟩:=Classical.skolem.1 h1
 exact ⟨_,fun b=>(q b).1,fun b=>(q b).2,h,rfl,hq⟩
end
section
open Go.RowKit PK Vg
set_option maxRecDepth 100000 in
set_option maxHeartbeats 4000000 in
theorem ED (u v:Value) (A:Nat) (pr:Nat→Nat→Int) (L:List Nat) (hL:L.length≤1000) (w:World) (hu:kK w u (fun b=>gsF A b (pr b)) L) (hv:kK w v (fun b=>gsF A b (pr b)) L):Calls Tryz.prog 16 #[u,v] w fun e w'=>e=.returned (.bool true)∧Below w.heap.size w w':=by
 obtain ⟨a1,c1,rfl,h1⟩:=hu
 obtain ⟨a2,c2,rfl,h2⟩:=hv
 have H1:=(show Hid (∀j,j<L.length→∃b,a1=some ⟨b,0,none⟩∧w.rangeAt b (j*28) (ints 28 (gsF A (L.getD j 0) (pr (L.getD j 0)))).toList) from h1)
 have H2:=(show Hid (∀j,j<L.length→∃b,a2=some ⟨b,0,none⟩∧w.rangeAt b (j*28) (ints 28 (gsF A (L.getD j 0) (pr (L.getD j 0)))).toList) from h2)
 have hll:(((L.length:Nat):Int) != ((L.length:Nat):Int))=false:=by simp
 clear h1 h2
 go_enter Tryz.func16,Tryz.ntmps16
 go_wp2_with fail
 clear hll
 go_loopw [13] (fun i W=>∃j:Nat,j≤L.length∧i=.int .i64 (j:Nat)∧Below w.heap.size w W) (fun i _=>((L.length:Int)-intOf i).toNat)
 case atStart=>exact ⟨0,by omega,rfl,Below.refl _ _⟩
 case round =>
  obtain ⟨j,hj,rfl,hbe⟩:=hrel
  have HBE:=(show Hid _ from hbe)
  by_cases hlt:j<L.length
  ·have HLT:Hid (j<L.length):=hlt
   have hlt2:(j:Int)<(L.length:Int):=by omega
   obtain ⟨b1,rfl,r1⟩:=H1.out j hlt
   obtain ⟨b2,rfl,r2⟩:=H2.out j hlt
   obtain ⟨B,hB⟩:∃B,B=L.getD j 0:=⟨_,rfl⟩
   rw[←hB] at r1 r2
   obtain ⟨p,hp⟩:∃p,p=pr B:=⟨_,rfl⟩
   rw[←hp] at r1 r2
   have hS0:Below w.heap.size w wr.drew:=hbe.drew
   have R1:=(show Hid (∀W,Below w.heap.size w W→W.rangeAt b1 (j*28) (ints 28 (gsF A B p)).toList) from fun W hb i v hv=>(hb.cell (p:=⟨b1,j*28+i,none⟩) (aA (r1 i v hv))).trans (r1 i v hv))
   have R2:=(show Hid (∀W,Below w.heap.size w W→W.rangeAt b2 (j*28) (ints 28 (gsF A B p)).toList) from fun W hb i v hv=>(hb.cell (p:=⟨b2,j*28+i,none⟩) (aA (r2 i v hv))).trans (r2 i v hv))
   clear hB hp r1 r2 hlt hbe
   go_upto_region 6 with fail
   refine wp_region_noPanic ?_
   refine wp_region_held_drew (S:=fun W=>Below w.heap.size w W) (by kernel_rfl) hS0 (fun hS=>?_)
   clear hS0
   obtain ⟨U,hU⟩:∃x,x=wr.drew:=⟨_,rfl⟩
   rw[←hU] at hS ⊢
   clear hU
   refine vtk 0 16 (.slice (some ⟨b1,0,none⟩) L.length c1) rfl (fun W hW=>by clear hS hW;go_simp) hS ?_
   simp only[zsA,zsB,zsC]
   refine vtk 1 17 (.int .i64 (j:Nat)) rfl (fun W hW=>by clear hS hW;go_simp) hS ?_
   simp only[zsA,zsB,zsC]
   refine vtk 2 18 (.pointer (some ⟨b1,j*28,none⟩)) rfl (fun W hW=>by clear hS hW;go_simp) hS ?_
   simp only[zsA,zsB,zsC]
   refine vtk 3 19 (.agg (ints 28 (gsF A B p))) rfl (fun W hW=>by have u:=run_loadAt_mid (P:=Tryz.prog) W b1 (j*28) 87 (ints 28 (gsF A B p)).toList _ (R1.out W hW) Tryz.underlying87 rfl (by rw[Array.length_toList,ag];exact lJ);clear hS hW;simp[execOp,Act.eval,u]) hS ?_
   simp only[zsA,zsB,zsC]
   refine vtk 4 20 (.slice (some ⟨b2,0,none⟩) L.length c2) rfl (fun W hW=>by clear hS hW;go_simp) hS ?_
   simp only[zsA,zsB,zsC]
   refine vtk 5 21 (.int .i64 (j:Nat)) rfl (fun W hW=>by clear hS hW;go_simp) hS ?_
   simp only[zsA,zsB,zsC]
   refine vtk 6 22 (.pointer (some ⟨b2,j*28,none⟩)) rfl (fun W hW=>by clear hS hW;go_simp) hS ?_
   simp only[zsA,zsB,zsC]
   refine vtk 7 23 (.agg (ints 28 (gsF A B p))) rfl (fun W hW=>by have u:=run_loadAt_mid (P:=Tryz.prog) W b2 (j*28) 87 (ints 28 (gsF A B p)).toList _ (R2.out W hW) Tryz.underlying87 rfl (by rw[Array.length_toList,ag];exact lJ);clear hS hW;simp[execOp,Act.eval,u]) hS ?_
   simp only[zsA,zsB,zsC]
   refine vtk 8 24 (.bool false) rfl (fun W hW=>by have u:=tu A B p;clear hS hW;go_simp) hS ?_
   simp only[zsA,zsB,zsC]
   refine wpAnyH_done (by kernel_rfl) ?_ _
   refine NoPanic.normal ?_
   have HX:=(show Hid _ from hS)
   clear hS
   go_wp2_with fail
   go_roundw
   case rel=>exact ⟨j+1,HLT.out,by go_num,HX.out⟩
   case measure=>have:=HLT.out;simp[intOf];omega
  ·obtain rfl:j=L.length:=by omega
   have hnn:¬((L.length:Nat):Int)<((L.length:Nat):Int):=by omega
   clear hlt hbe
   go_wp2
   go_ret
   exact ⟨rfl,HBE.out⟩
end
section
open Go.RowKit PK Vg
end
end Go.Proofs.YtgacaecjinlhiaaGreatDoor
