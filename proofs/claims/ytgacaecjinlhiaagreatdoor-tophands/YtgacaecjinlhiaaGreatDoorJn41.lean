import Derived.Test.YtgacaecjinlhiaaGreatDoorJn40
namespace Go.Proofs.YtgacaecjinlhiaaGreatDoor
section
open Go.RowKit PK Vg Go.Conc Cs
noncomputable def Cs.hB:Code:=Tryz.f3.body.getD .skip
noncomputable def Cs.hA1:Code:=match hB with | .seq a _=>a | _=>.skip
noncomputable def Cs.hA2:Code:=match hB with | .seq _ (.seq b _)=>b | _=>.skip
noncomputable def Cs.hA3:Code:=match hB with | .seq _ (.seq _ (.seq d _))=>d | _=>.skip
noncomputable def Cs.hC:Code:=match hB with | .seq _ (.seq _ (.seq _ c))=>c | _=>.skip
noncomputable def Cs.hO5:Array Oper:=match hC with | .seq (.region _ o _) _=>o | _=>#[]
noncomputable def Cs.hC6:Code:=match hC with | .seq _ c=>c | _=>.skip
noncomputable def Cs.hO6:Array Oper:=match hC6 with | .seq (.region _ o _) _=>o | _=>#[]
noncomputable def Cs.hC7:Code:=match hC6 with | .seq _ c=>c | _=>.skip
theorem Gg:hB=.seq hA1 (.seq hA2 (.seq hA3 hC)):=by kernel_rfl
def Cs.PtH (cr te:ByteArray) (h1 h2:Int) (b:Nat) (T:Array Value):Prop:=T.size=61∧T[1]? = some (.string cr)∧T[2]? = some (.string te)∧T[3]? = some (.int .i64 h1)∧T[4]? = some (.int .i64 h2)∧T[5]? = some (.pointer (some ⟨b,0,none⟩))
theorem Ij (l:Array Value) (n:Nat) (h:l.size=n):l=((List.range n).map fun i=>l.getD i undef).toArray:=by
 subst h
 refine Array.ext_getElem? fun i=>?_
 by_cases hi:i<l.size
 ·simp[hi]
 ·simp[hi]
theorem Cs.PtH.lit {cr te:ByteArray} {h1 h2:Int} {b:Nat} {T:Array Value} (h:PtH cr te h1 h2 b T):∃x:Nat→Value,T=#[x 0,Value.string cr,Value.string te,Value.int IntKind.i64 h1,Value.int IntKind.i64 h2,Value.pointer (some ⟨b,0,none⟩),x 6,x 7,x 8,x 9,x 10,x 11,x 12,x 13,x 14,x 15,x 16,x 17,x 18,x 19,x 20,x 21,x 22,x 23,x 24,x 25,x 26,x 27,x 28,x 29,x 30,x 31,x 32,x 33,x 34,x 35,x 36,x 37,x 38,x 39,x 40,x 41,x 42,x 43,x 44,x 45,x 46,x 47,x 48,x 49,x 50,x 51,x 52,x 53,x 54,x 55,x 56,x 57,x 58,x 59,x 60]:=by
 obtain ⟨h0,k1,k2,k3,k4,k5⟩:=h
 have e:=Ij T 61 h0
 generalize hx:(fun i=>T.getD i undef)=x at e
 have fv:∀i y,T[i]? = some y→x i=y:=fun i y hy=>by rw[←hx];simp[Array.getD_eq_getD_getElem?,hy]
 have q:T=#[x 0,x 1,x 2,x 3,x 4,x 5,x 6,x 7,x 8,x 9,x 10,x 11,x 12,x 13,x 14,x 15,x 16,x 17,x 18,x 19,x 20,x 21,x 22,x 23,x 24,x 25,x 26,x 27,x 28,x 29,x 30,x 31,x 32,x 33,x 34,x 35,x 36,x 37,x 38,x 39,x 40,x 41,x 42,x 43,x 44,x 45,x 46,x 47,x 48,x 49,x 50,x 51,x 52,x 53,x 54,x 55,x 56,x 57,x 58,x 59,x 60]:=e.trans rfl
 rw[fv 1 _ k1,fv 2 _ k2,fv 3 _ k3,fv 4 _ k4,fv 5 _ k5] at q
 exact ⟨x,q⟩
set_option maxRecDepth 100000 in
set_option maxHeartbeats 4000000 in
theorem F4 (A:Array Value) (aw:Option Addr) (n cw:Nat) (hA0:A[0]? = some (.slice aw n cw)) (hn1:n≤1) (cr te:ByteArray) (h1 h2:Int) (k1:1≤h1) (k2:h1≤16) (k3:1≤h2) (k4:h2≤16) (w:World) (hn:iE w) (he:fu w) :
  hA1.wp Tryz.prog (Exit.then (hA2.wp Tryz.prog (Exit.then (hA3.wp Tryz.prog fun e x W=>e=.normal∧x.defers=[]∧(PtH cr te h1 h2 w.heap.size x.tmps∧Below w.heap.size w W∧af W w.heap.size 27 A)) fun e x W=>e=.normal∧x.defers=[]∧(PtH cr te h1 h2 w.heap.size x.tmps∧Below w.heap.size w W∧af W w.heap.size 27 A))) fun e x W=>e=.normal∧x.defers=[]∧(PtH cr te h1 h2 w.heap.size x.tmps∧Below w.heap.size w W∧af W w.heap.size 27 A)) ⟨#[.agg A,.string cr,.string te,.int .i64 h1,.int .i64 h2,undef,undef,undef,undef,undef,undef,undef,undef,undef,undef,undef,undef,undef,undef,undef,undef,undef,undef,undef,undef,undef,undef,undef,undef,undef,undef,undef,undef,undef,undef,undef,undef,undef,undef,undef,undef,undef,undef,undef,undef,undef,undef,undef,undef,undef,undef,undef,undef,undef,undef,undef,undef,undef,undef,undef,undef],[]⟩ w:=by
 have HAL:=(show Hid (∀W,Below w.heap.size w W→Calls Tryz.prog 4 #[] W fun e w'=>e=.returned (.bool true)∧Below W.heap.size W w') from fun W hb=>lA W (hn.below hb) (he.below hb))
 have hld:=af.new w 27 A
 have hbe:=(Below.refl w.heap.size w).alloc (Nat.le_refl _) (.cells A 27)
 have HA0:=(show Hid (A[0]? = some (.slice aw n cw)) from hA0)
 clear hn he hA0
 simp only[hA1,hA2,hA3,hB,Tryz.f3,Option.getD_some]
 go_upto_region 1 with fail
 generalize w.alloc (.cells A 27)=W0 at *
 go_wp2_with fail
 refine (HAL.out _ hbe).mono ?_
 rintro e W1 ⟨rfl,hb⟩
 have hld1:=hld.below hb hld.lt
 have HB:=(show Hid (Below w.heap.size w W1) from hbe.trans (hb.mono hbe.size))
 have HL1:=(show Hid (af W1 w.heap.size 27 A) from hld1)
 have c0:=hld1.cell HA0.out
 clear hb hld hbe HAL HA0 hld1
 have k0i:¬(1:Int)<(n:Int):=by omega
 have k1i:¬h1<1:=by omega
 have k2i:¬16<h1:=by omega
 have k3i:¬h2<1:=by omega
 have k4i:¬16<h2:=by omega
 clear k1 k2 k3 k4 hn1
 go_wp2_with fail
 exact ⟨⟨rfl,rfl,rfl,rfl,rfl,rfl⟩,HB.out,HL1.out⟩
end
section
open Go.RowKit PK Vg Go.Conc Cs
set_option maxRecDepth 100000 in
set_option maxHeartbeats 4000000 in
theorem Li (T:Array Value) (A:Array Value) (hA:A.size=55) (cr te:ByteArray) (h1 h2:Int) (b:Nat) (hT:PtH cr te h1 h2 b T) (H:Array Obj) (o:Os) (out:Array (Nat × ByteArray)) (w:World) (hI:HI H o out w) (hb:H[b]? = some (.cells A 27 (0,0))) :
  ∃mu:Nat,Goes Tryz.prog true AtRel DW (fun g' w'=>(∃T',PtH cr te h1 h2 b T'∧g'=G ((base 5).at ⟨#[.agg A,.string cr,.string te,.int .i64 h1,undef,undef,undef,undef,undef,undef,undef,undef,undef,undef,undef,undef,undef,undef,undef,undef,undef,undef,undef,undef,undef,undef,undef,undef],[]⟩ [.code bB]) [mkF 3 T' [.inRegion hO5 (4 :: List.range' 5 5),.code hC6] .run])∧HI H o out w') mu (G (mkF 3 T [.code hC] .run) []) w:=by
 have hiA:(Tryz.prog.info? 27).map (·.size)=some A.size:=by rw[hA];exact aF
 obtain ⟨x,rfl⟩:=hT.lit
 clear hT
 refine ⟨40,?_⟩
 simp only[hC,hB,Tryz.f3,Option.getD_some]
 show Goes _ _ _ _ _ _ (G ((base 3).at ⟨_,[]⟩ _) []) w
 repeat (refine aQ hI rfl (fun w₁ h₁=>?_);walk_rw;refine ⟨bQ _,?_⟩;clear hI;have hI:=h₁;clear h₁)
 refine aQ hI rfl (fun w₁ h₁=>?_)
 have hWr:=show w₁.heap[b]? = some (.cells A 27 (0,0)) from by rw[h₁.1];exact hb
 rw[stepG_value (v:=.agg A) (w':=w₁) rfl rfl (by decide) (cN rfl rfl (mB hWr Tryz.underlying27 rfl hiA))]
 simp only[goes_go]
 refine ⟨⟨Nat.le_refl _,fun e he=>o8 hWr Tryz.underlying27 rfl hiA e (by have hm:=mem_listed he;rw[bY rfl rfl] at hm;exact hm)⟩,?_⟩
 clear hWr hI
 have hI:=h₁
 clear h₁
 refine aQ hI rfl (fun w₁ h₁=>?_)
 refine goes_oper_k rfl rfl (by decide) (fun K hK=>?_)
 go_simp
 refine hK _ _ ⟨⟨by simp,fun e he=>?_⟩,?_⟩
 ·have hm:=mem_listed he
  simp[go_sem] at hm
 clear hK K hI
 have hI:=h₁
 clear h₁
 refine aQ hI rfl (fun w₁ h₁=>?_)
 refine goes_oper_k rfl rfl (by decide) (fun K hK=>?_)
 go_simp
 refine hK _ _ ⟨⟨by simp,fun e he=>?_⟩,?_⟩
 ·have hm:=mem_listed he
  simp[go_sem] at hm
 clear hK K hI
 have hI:=h₁
 clear h₁
 refine aQ hI rfl (fun w₁ h₁=>?_)
 refine goes_oper_k rfl rfl (by decide) (fun K hK=>?_)
 go_simp
 refine hK _ _ ⟨⟨by simp,fun e he=>?_⟩,?_⟩
 ·have hm:=mem_listed he
  simp[go_sem] at hm
 clear hK K hI
 have hI:=h₁
 clear h₁
 refine aQ hI rfl (fun w₁ h₁=>?_)
 refine goes_call rfl rfl (by decide) rfl Tryz.func5 (by kernel_rfl) rfl ?_
 refine ⟨bQ _,?_⟩
 exact Goes.stop fun w₂ h₂=>by
  obtain ⟨d,rfl⟩:=h₂
  refine ⟨?_,h₁⟩
  have e1:∀(a:Act),a.eval (.tmp 38)=.agg A→a.eval (.tmp 39)=.string cr→a.eval (.tmp 40)=.string te→a.eval (.tmp 41)=.int .i64 h1→(#[Operand.tmp 38,.tmp 39,.tmp 40,.tmp 41].map a.eval++Array.replicate (Tryz.f5.ntmps-(#[Operand.tmp 38,.tmp 39,.tmp 40,.tmp 41].map a.eval).size) undef)=#[.agg A,.string cr,.string te,.int .i64 h1,undef,undef,undef,undef,undef,undef,undef,undef,undef,undef,undef,undef,undef,undef,undef,undef,undef,undef,undef,undef,undef,undef,undef,undef]:=fun a k0 k1 k2 k3=>by
   simp[k0,k1,k2,k3,Array.replicate,List.replicate]
  rw[e1 _ rfl rfl rfl rfl]
  apply Exists.intro
  apply And.intro
  rotate_left
  ·rfl
  ·exact ⟨rfl,rfl,rfl,rfl,rfl,rfl⟩
theorem KH (T:Array Value) (v:Value):(mkF 3 T [.inRegion hO5 (4 :: List.range' 5 5),.code hC6] .run).finish v=mkF 3 (T.setIfInBounds 42 v) [.inRegion hO5 (List.range' 5 5),.code hC6] .run:=by kernel_rfl
theorem K5 (T:Array Value) (v:Value):(mkF 3 T [.inRegion hO6 (4 :: List.range' 5 5),.code hC7] .run).finish v=mkF 3 (T.setIfInBounds 50 v) [.inRegion hO6 (List.range' 5 5),.code hC7] .run:=by kernel_rfl
set_option maxRecDepth 100000 in
set_option maxHeartbeats 4000000 in
theorem Lu (T:Array Value) (A:Array Value) (hA:A.size=55) (cr te:ByteArray) (h1 h2:Int) (b:Nat) (hT:PtH cr te h1 h2 b T) (u:Value) (h42:T[42]? = some (.tuple #[u,.int .i64 0])) (H:Array Obj) (o:Os) (out:Array (Nat × ByteArray)) (w:World) (hI:HI H o out w) (hb:H[b]? = some (.cells A 27 (0,0))) :
  ∃mu:Nat,Goes Tryz.prog true AtRel DW (fun g' w'=>(∃T',(PtH cr te h1 h2 b T'∧T'[11]? = some u∧T'[12]? = some (.int .i64 0))∧g'=G ((base 5).at ⟨#[.agg A,.string cr,.string te,.int .i64 h2,undef,undef,undef,undef,undef,undef,undef,undef,undef,undef,undef,undef,undef,undef,undef,undef,undef,undef,undef,undef,undef,undef,undef,undef],[]⟩ [.code bB]) [mkF 3 T' [.inRegion hO6 (4 :: List.range' 5 5),.code hC7] .run])∧HI H o out w') mu (G (mkF 3 T [.inRegion hO5 (List.range' 5 5),.code hC6] .run) []) w:=by
 have hiA:(Tryz.prog.info? 27).map (·.size)=some A.size:=by rw[hA];exact aF
 obtain ⟨x,rfl⟩:=hT.lit
 clear hT
 have e42:x 42=.tuple #[u,.int .i64 0]:=Option.some.inj (show some (x 42)=some _ from h42)
 rw[e42]
 clear h42 e42
 refine ⟨60,?_⟩
 simp only[hO5,hC6,hC,hB,Tryz.f3,Option.getD_some]
 rw[show List.range' 5 5=[5,6,7,8,9] from rfl]
 show Goes _ _ _ _ _ _ (G ((base 3).at ⟨_,[]⟩ _) []) w
 refine aQ hI rfl (fun w₁ h₁=>?_)
 refine goes_oper_k rfl rfl (by decide) (fun K hK=>?_)
 go_simp
 refine hK _ _ ⟨⟨by simp,fun e he=>?_⟩,?_⟩
 ·have hm:=mem_listed he
  simp[go_sem] at hm
 clear hK K hI
 have hI:=h₁
 clear h₁
 refine aQ hI rfl (fun w₁ h₁=>?_)
 refine goes_oper_k rfl rfl (by decide) (fun K hK=>?_)
 go_simp
 refine hK _ _ ⟨⟨by simp,fun e he=>?_⟩,?_⟩
 ·have hm:=mem_listed he
  simp[go_sem] at hm
 clear hK K hI
 have hI:=h₁
 clear h₁
 refine aQ hI rfl (fun w₁ h₁=>?_)
 refine goes_oper_k rfl rfl (by decide) (fun K hK=>?_)
 go_simp
 refine hK _ _ ⟨⟨by simp,fun e he=>?_⟩,?_⟩
 ·have hm:=mem_listed he
  simp[go_sem] at hm
 clear hK K hI
 have hI:=h₁
 clear h₁
 refine aQ hI rfl (fun w₁ h₁=>?_)
 refine goes_oper_k rfl rfl (by decide) (fun K hK=>?_)
 go_simp
 refine hK _ _ ⟨⟨by simp,fun e he=>?_⟩,?_⟩
 ·have hm:=mem_listed he
  simp[go_sem] at hm
 clear hK K hI
 have hI:=h₁
 clear h₁
 refine aQ hI rfl (fun w₁ h₁=>?_)
 refine goes_oper_k rfl rfl (by decide) (fun K hK=>?_)
 go_simp
 refine hK _ _ ⟨⟨by simp,fun e he=>?_⟩,?_⟩
 ·have hm:=mem_listed he
  simp[go_sem] at hm
 clear hK K hI
 have hI:=h₁
 clear h₁
 repeat (refine aQ hI rfl (fun w₁ h₁=>?_);walk_rw;refine ⟨bQ _,?_⟩;clear hI;have hI:=h₁;clear h₁)
 refine aQ hI rfl (fun w₁ h₁=>?_)
 have hWr:=show w₁.heap[b]? = some (.cells A 27 (0,0)) from by rw[h₁.1];exact hb
 rw[stepG_value (v:=.agg A) (w':=w₁) rfl rfl (by decide) (cN rfl rfl (mB hWr Tryz.underlying27 rfl hiA))]
 simp only[goes_go]
 refine ⟨⟨Nat.le_refl _,fun e he=>o8 hWr Tryz.underlying27 rfl hiA e (by have hm:=mem_listed he;rw[bY rfl rfl] at hm;exact hm)⟩,?_⟩
 clear hWr hI
 have hI:=h₁
 clear h₁
 refine aQ hI rfl (fun w₁ h₁=>?_)
 refine goes_oper_k rfl rfl (by decide) (fun K hK=>?_)
 go_simp
 refine hK _ _ ⟨⟨by simp,fun e he=>?_⟩,?_⟩
 ·have hm:=mem_listed he
  simp[go_sem] at hm
 clear hK K hI
 have hI:=h₁
 clear h₁
 refine aQ hI rfl (fun w₁ h₁=>?_)
 refine goes_oper_k rfl rfl (by decide) (fun K hK=>?_)
 go_simp
 refine hK _ _ ⟨⟨by simp,fun e he=>?_⟩,?_⟩
 ·have hm:=mem_listed he
  simp[go_sem] at hm
 clear hK K hI
 have hI:=h₁
 clear h₁
 refine aQ hI rfl (fun w₁ h₁=>?_)
 refine goes_oper_k rfl rfl (by decide) (fun K hK=>?_)
 go_simp
 refine hK _ _ ⟨⟨by simp,fun e he=>?_⟩,?_⟩
 ·have hm:=mem_listed he
  simp[go_sem] at hm
 clear hK K hI
 have hI:=h₁
 clear h₁
 refine aQ hI rfl (fun w₁ h₁=>?_)
 refine goes_call rfl rfl (by decide) rfl Tryz.func5 (by kernel_rfl) rfl ?_
 refine ⟨bQ _,?_⟩
 exact Goes.stop fun w₂ h₂=>by
  obtain ⟨d,rfl⟩:=h₂
  refine ⟨?_,h₁⟩
  have e1:∀(a:Act),a.eval (.tmp 46)=.agg A→a.eval (.tmp 47)=.string cr→a.eval (.tmp 48)=.string te→a.eval (.tmp 49)=.int .i64 h2→(#[Operand.tmp 46,.tmp 47,.tmp 48,.tmp 49].map a.eval++Array.replicate (Tryz.f5.ntmps-(#[Operand.tmp 46,.tmp 47,.tmp 48,.tmp 49].map a.eval).size) undef)=#[.agg A,.string cr,.string te,.int .i64 h2,undef,undef,undef,undef,undef,undef,undef,undef,undef,undef,undef,undef,undef,undef,undef,undef,undef,undef,undef,undef,undef,undef,undef,undef]:=fun a k0 k1 k2 k3=>by
   simp[k0,k1,k2,k3,Array.replicate,List.replicate]
  rw[e1 _ rfl rfl rfl rfl]
  apply Exists.intro
  apply And.intro
  rotate_left
  ·rfl
  ·exact ⟨⟨rfl,rfl,rfl,rfl,rfl,rfl⟩,rfl,rfl⟩
end
section
open Go.RowKit PK Vg Go.Conc Cs
set_option maxRecDepth 100000 in
set_option maxHeartbeats 4000000 in
theorem Gc (x:Nat→Value) (u v:Value) (g:Gm) (cr te:ByteArray) (hl:Hl) (hBm:BmS g hl cr te) (hn3:g.n≤3) (w:World) (hu:HsA w u (hl.fnd (26 ^ g.n)) hl) (hv:HsA w v (hl.fnd (26 ^ g.n)) hl) :
  wpOps Tryz.prog hO6 (Exit.then (hC7.wp Tryz.prog (bodyPost Tryz.prog Tryz.f3 (Cs.kY fun v _=>v=.bool true))) (bodyPost Tryz.prog Tryz.f3 (Cs.kY fun v _=>v=.bool true))) (List.range' 5 5) ⟨#[x 0,x 1,x 2,x 3,x 4,x 5,x 6,x 7,x 8,x 9,x 10,u,.int .i64 0,x 13,x 14,x 15,x 16,x 17,x 18,x 19,x 20,x 21,x 22,x 23,x 24,x 25,x 26,x 27,x 28,x 29,x 30,x 31,x 32,x 33,x 34,x 35,x 36,x 37,x 38,x 39,x 40,x 41,x 42,x 43,x 44,x 45,x 46,x 47,x 48,x 49,.tuple #[v,.int .i64 0],x 51,x 52,x 53,x 54,x 55,x 56,x 57,x 58,x 59,x 60],[]⟩ w:=by
 have hlen:=Bn (hl:=hl) hn3
 have HS:=(show Hid (∀W,Below w.heap.size w W→Calls Tryz.prog 6 #[u,v] W fun e w'=>e=.returned (.bool true)∧Below W.heap.size W w') from fun W hb=>tA u v _ hlen hl W (hu.below hb).r (hv.below hb).r (fun N x y W hx hy=>Dh hBm N x y W hx hy))
 clear hu hv hBm hlen
 refine wm 5 5 rfl ?_
 simp only[hO6,hC7,hC6,hC,hB,Tryz.f3,Option.getD_some,List.drop]
 go_wp2_with fail
 refine (HS.out _ (Below.refl _ _)).mono ?_
 rintro e W1 ⟨rfl,hb⟩
 clear HS hb
 go_wp2_with fail
 refine ⟨rfl,.bool true,?_,_,rfl,rfl⟩
 simp[results,Array.mapM_eq_mapM_toList,List.mapM_cons]
theorem Fv:[Item.inRegion hO6 (List.range' 5 5),.code hC7].all (bH Tryz.prog)=true:=by kernel_rfl
theorem Jc (E:Env) (g:Nat→Value):∃j:Nat→Value,∀i,VR E (j i) (g i):=⟨fun i=>(bg E (g i)).choose,fun i=>(bg E (g i)).choose_spec⟩
set_option maxRecDepth 100000 in
set_option maxHeartbeats 4000000 in
theorem Eo (T:Array Value) (h0:T.size=61) (u v:Value) (h11:T[11]? = some u) (h12:T[12]? = some (.int .i64 0)) (h50:T[50]? = some (.tuple #[v,.int .i64 0])) (g:Gm) (cr te:ByteArray) (hl:Hl) (hBm:BmS g hl cr te) (hn3:g.n≤3) (w:World) (hu:HsC w u (hl.fnd (26 ^ g.n)) hl) (hv:HsC w v (hl.fnd (26 ^ g.n)) hl) :
  ∃E gl wl,bh Tryz.prog (fun v _=>v=.bool true) [] E gl wl (G (mkF 3 T [.inRegion hO6 (List.range' 5 5),.code hC7] .run) []) w∧∀b q s o,E b=some (q,s,o)→o=false:=by
 obtain ⟨E1,wl1,u',p1,q1,r1,k1⟩:=pG (Cp.nil (P:=Tryz.prog) w) eZ hu
 obtain ⟨E2,wl2,v',p2,q2,r2,k2⟩:=pG p1 eZ hv
 have ru:=r1.mono q2.le
 have rv:=r2
 have ku:=pE q2 k1
 have e:=Ij T 61 h0
 generalize hx:(fun i=>T.getD i undef)=x at e
 have fv:∀i y,T[i]? = some y→x i=y:=fun i y hy=>by rw[←hx];simp[Array.getD_eq_getD_getElem?,hy]
 have q:T=#[x 0,x 1,x 2,x 3,x 4,x 5,x 6,x 7,x 8,x 9,x 10,x 11,x 12,x 13,x 14,x 15,x 16,x 17,x 18,x 19,x 20,x 21,x 22,x 23,x 24,x 25,x 26,x 27,x 28,x 29,x 30,x 31,x 32,x 33,x 34,x 35,x 36,x 37,x 38,x 39,x 40,x 41,x 42,x 43,x 44,x 45,x 46,x 47,x 48,x 49,x 50,x 51,x 52,x 53,x 54,x 55,x 56,x 57,x 58,x 59,x 60]:=e.trans rfl
 rw[fv 11 _ h11,fv 12 _ h12,fv 50 _ h50] at q
 subst q
 obtain ⟨j,hj⟩:=Jc E2 x
 exact ⟨E2,_,wl2,bh.mid ⟨_,Tryz.func3⟩ (x:=#[j 0,j 1,j 2,j 3,j 4,j 5,j 6,j 7,j 8,j 9,j 10,u',.int .i64 0,j 13,j 14,j 15,j 16,j 17,j 18,j 19,j 20,j 21,j 22,j 23,j 24,j 25,j 26,j 27,j 28,j 29,j 30,j 31,j 32,j 33,j 34,j 35,j 36,j 37,j 38,j 39,j 40,j 41,j 42,j 43,j 44,j 45,j 46,j 47,j 48,j 49,(.tuple #[v',.int .i64 0]),j 51,j 52,j 53,j 54,j 55,j 56,j 57,j 58,j 59,j 60]) (ai (hj 0) (ai (hj 1) (ai (hj 2) (ai (hj 3) (ai (hj 4) (ai (hj 5) (ai (hj 6) (ai (hj 7) (ai (hj 8) (ai (hj 9) (ai (hj 10) (ai ru (ai (.int .i64 0) (ai (hj 13) (ai (hj 14) (ai (hj 15) (ai (hj 16) (ai (hj 17) (ai (hj 18) (ai (hj 19) (ai (hj 20) (ai (hj 21) (ai (hj 22) (ai (hj 23) (ai (hj 24) (ai (hj 25) (ai (hj 26) (ai (hj 27) (ai (hj 28) (ai (hj 29) (ai (hj 30) (ai (hj 31) (ai (hj 32) (ai (hj 33) (ai (hj 34) (ai (hj 35) (ai (hj 36) (ai (hj 37) (ai (hj 38) (ai (hj 39) (ai (hj 40) (ai (hj 41) (ai (hj 42) (ai (hj 43) (ai (hj 44) (ai (hj 45) (ai (hj 46) (ai (hj 47) (ai (hj 48) (ai (hj 49) (ai (BV rv) (ai (hj 51) (ai (hj 52) (ai (hj 53) (ai (hj 54) (ai (hj 55) (ai (hj 56) (ai (hj 57) (ai (hj 58) (ai (hj 59) (ai (hj 60) jd))))))))))))))))))))))))))))))))))))))))))))))))))))))))))))) p2.wr p2.big Fv (fun τ=>kW Tryz.func3 (Gc j u' v' g cr te hl hBm hn3 (wl2.tp τ) ku k2)),p2.sh⟩
theorem Cs.PtH.put {cr te:ByteArray} {h1 h2:Int} {b:Nat} {T:Array Value} (h:PtH cr te h1 h2 b T) {k:Nat} (hk:6≤k∧k<61) (v:Value):PtH cr te h1 h2 b (T.setIfInBounds k v)∧(T.setIfInBounds k v)[k]? = some v∧∀i,i≠k→(T.setIfInBounds k v)[i]? = T[i]?:=by
 obtain ⟨h0,k1,k2,k3,k4,k5⟩:=h
 have ne:∀i,i≠k→(T.setIfInBounds k v)[i]? = T[i]?:=fun i hi=>Array.getElem?_setIfInBounds_ne (Ne.symm hi)
 exact ⟨⟨by simp[h0],by rw[ne 1 (by omega)];exact k1,by rw[ne 2 (by omega)];exact k2,by rw[ne 3 (by omega)];exact k3,by rw[ne 4 (by omega)];exact k4,by rw[ne 5 (by omega)];exact k5⟩,by rw[Array.getElem?_setIfInBounds_self_of_lt (by rw[h0];exact hk.2)],ne⟩
theorem Cr (A:Array Value) (cr te:ByteArray) (h1 h2:Int):Frame.enter Tryz.prog 3 #[.agg A,.string cr,.string te,.int .i64 h1,.int .i64 h2] .normal=mkF 3 #[.agg A,.string cr,.string te,.int .i64 h1,.int .i64 h2,undef,undef,undef,undef,undef,undef,undef,undef,undef,undef,undef,undef,undef,undef,undef,undef,undef,undef,undef,undef,undef,undef,undef,undef,undef,undef,undef,undef,undef,undef,undef,undef,undef,undef,undef,undef,undef,undef,undef,undef,undef,undef,undef,undef,undef,undef,undef,undef,undef,undef,undef,undef,undef,undef,undef,undef] [.code hB] .run:=by
 simp[Frame.enter,Tryz.func3,Tryz.f3,hB,mkF,Array.replicate,List.replicate]
set_option maxRecDepth 100000 in
set_option maxHeartbeats 8000000 in
theorem Kh (a b c:Value) (g:Gm) (cr te:ByteArray) (hW0:bwE g cr.data.toList te.data.toList=0) (n1 n2:Nat) (hn1:g.n≤1) (k1:1≤(n1:Int)) (k2:(n1:Int)≤16) (k3:1≤(n2:Int)) (k4:(n2:Int)≤16) (hgE:gE g=0) (hfit:∀r,r<g.n→g.nl r*8≤140737488355328) (hrl:g.rl*8≤140737488355328) (W:World) (hn:iE W) (he:fu W) (ha:WhR W a g.n g.wi g.nl g.no) (hb:aq W b g.rl g.ri) (hc:aq W c g.sl g.st) (ra:Rt W a) (rb:Rt W b) (rc:Rt W c) :
  ∃N last o w' t',runNT Tryz.prog (N+1) (solo (G (Frame.enter Tryz.prog 3 #[.agg (mac a b c g.rf g.pl),.string cr,.string te,.int .i64 (n1:Nat),.int .i64 (n2:Nat)] .normal) []) W) #[]=(.ended o w',t')∧runN Tryz.prog N (solo (G (Frame.enter Tryz.prog 3 #[.agg (mac a b c g.rf g.pl),.string cr,.string te,.int .i64 (n1:Nat),.int .i64 (n2:Nat)] .normal) []) W)=.next last∧step Tryz.prog last=.ended o w'∧Conc.Good Tryz.prog (fun v W'=>v=.bool true∧Kept W W') last o w' t':=by
 have hG:Tryz.prog.globals.size≤Fns.G:=Nat.le_refl _
 have sw:∀n:Nat,1≤(n:Int)→(n:Int)≤16→swE g (n:Int)=0:=fun n p q=>by
  unfold swE
  rw[if_neg (fun e=>e hgE),if_neg (by omega),if_neg (by omega)]
 obtain ⟨hl,hBm⟩:=yW hW0
 have ha0:=ha
 obtain ⟨A,hA0⟩:∃A,A=mac a b c g.rf g.pl:=⟨_,rfl⟩
 have hA:A.size=55:=by rw[hA0];exact aE ..
 obtain ⟨aw,cw,hsl⟩:∃aw cw,a=.slice aw g.n cw:=by
  obtain ⟨aw,cw,R,e,_⟩:=ha.at_
  exact ⟨aw,cw,e⟩
 have hA00:A[0]? = some (.slice aw g.n cw):=by rw[hA0,hsl];exact dj _ _ _ _ _
 rw[←hA0,Cr,Gg]
 obtain ⟨T1,w1,⟨hT1,hB1,hR1⟩,st1⟩:=Nm.uB (P:=Tryz.prog) (f:=3) (D:=hC) (Post:=fun T w'=>PtH cr te (n1:Nat) (n2:Nat) W.heap.size T∧Below W.heap.size W w'∧af w' W.heap.size 27 A) (F4 A aw g.n cw hA00 hn1 cr te (n1:Nat) (n2:Nat) k1 k2 k3 k4 W hn he)
 obtain ⟨N1,t1,r1,Q1⟩:=Nm.yX Nm.quiet (fr0:=mkF 3 _ [.code (.seq hA1 (.seq hA2 (.seq hA3 hC)))] .run) (.cons trivial .nil) st1
 have kk1:Kept W w1:=⟨hB1.block,hB1.os,hB1.output⟩
 obtain ⟨mu1,G1⟩:=Li T1 A hA cr te (n1:Nat) (n2:Nat) W.heap.size hT1 w1.heap w1.os w1.output w1 ⟨rfl,rfl,rfl⟩ hR1
 obtain ⟨N2,gs2,w2,sl2,t2,q2,g2,r2,z2,i2,⟨⟨T2,hT2,rfl⟩,I2⟩,Q2⟩:=dH (sl:=none) (gs:=#[_]) (q:=fun _=>0) (fun _ _ _ h=>h) (fun g w h=>by obtain ⟨⟨_,_,rfl⟩,_⟩:=h;rfl) rfl G1 (Q1 fun _=>0)
 have kk2:Kept w1 w2:=⟨fun b _=>by rw[I2.1],I2.2.1,I2.2.2⟩
 have k12:=dY kk1 kk2
 obtain ⟨N3,gs3,w3,sl3,t3,q3,u,r3,i3,hu,kk3,Q3⟩:=kZ a b c g cr te hl hBm hW0 n1 (sw n1 k1 k2) hfit hrl A hA0 w2 (mN k12.1 ha) (dD k12.1 hb) (dD k12.1 hc) (dI k12.1 ra) (dI k12.1 rb) (dI k12.1 rc) _ _ i2 Q2 sl2
 have k13:=dY k12 kk3
 rw[KH] at i3
 obtain ⟨hT3,e42,_⟩:=hT2.put (k:=42) (by decide) (.tuple #[u,.int .i64 0])
 have d2:w2.heap[W.heap.size]? = some (.cells A 27 (0,0)):=by rw[I2.1];exact hR1
 have d3:w3.heap[W.heap.size]? = some (.cells A 27 (0,0)):=(kk3.1 _ (cA d2)).trans d2
 obtain ⟨mu2,G2⟩:=Lu _ A hA cr te (n1:Nat) (n2:Nat) W.heap.size hT3 u e42 w3.heap w3.os w3.output w3 ⟨rfl,rfl,rfl⟩ d3
 obtain ⟨N4,gs4,w4,sl4,t4,q4,g4,r4,z4,i4,⟨⟨T4,⟨hT4,e11,e12⟩,rfl⟩,I4⟩,Q4⟩:=dH (sl:=sl3) (fun _ _ _ h=>h) (fun g w h=>by obtain ⟨⟨_,_,rfl⟩,_⟩:=h;rfl) i3 G2 Q3
 have kk4:Kept w3 w4:=⟨fun b _=>by rw[I4.1],I4.2.1,I4.2.2⟩
 have k14:=dY k13 kk4
 obtain ⟨N5,gs5,w5,sl5,t5,q5,v,r5,i5,hv,kk5,Q5⟩:=kZ a b c g cr te hl hBm hW0 n2 (sw n2 k3 k4) hfit hrl A hA0 w4 (mN k14.1 ha) (dD k14.1 hb) (dD k14.1 hc) (dI k14.1 ra) (dI k14.1 rb) (dI k14.1 rc) _ _ i4 Q4 sl4
 have k15:=dY k14 kk5
 rw[K5] at i5
 obtain ⟨hT5,e50,ne5⟩:=hT4.put (k:=50) (by decide) (.tuple #[v,.int .i64 0])
 have k35:=dY kk4 kk5
 obtain ⟨E,gl,wl,hin,hsh⟩:=Eo _ hT5.1 u v ((ne5 11 (by decide)).trans e11) ((ne5 12 (by decide)).trans e12) e50 g cr te hl hBm (by omega) w5 (Ff k35.1 hu) hv
 obtain ⟨N6,gs6,w6,sl6,t6,q6,E6,gl6,wl6,g6,r6,z6,i6,in6,st6,la6,fc6,Q6⟩:=uR (sl:=sl5) hG dc i5 hin Q5
 obtain ⟨x,x',wl7,hp,vr,hs,hend⟩:=in6.atEnd st6 (fn0:=3) (t:=10) (la6.trans rfl) Tryz.func3 rfl (by kernel_rfl)
 subst hp
 cases vr
 have kk6:Kept w5 w6:=⟨fun b hb=>fc6.keep b hb (fun b' s e=>by have:=hsh _ _ _ _ e;cases this),fc6.os,fc6.output⟩
 refine Ee (NN:=N1+(N2+(N3+(N4+(N5+N6))))) (sl10:=sl6) ?_ i6 hs hend Q6 (dY k15 kk6)
 rw[runNT_add,r1]
 show runNT Tryz.prog (N2+(N3+(N4+(N5+N6)))) (crowd #[G (mkF 3 T1 [.code hC] .run) []] w1 none) t1=_
 rw[runNT_add]
 have r2':runNT Tryz.prog N2 (crowd #[G (mkF 3 T1 [.code hC] .run) []] w1 none) t1=(.next (crowd gs2 w2 sl2),t2):=r2
 rw[r2']
 show runNT Tryz.prog (N3+(N4+(N5+N6))) (crowd gs2 w2 sl2) t2=_
 rw[runNT_add,r3]
 show runNT Tryz.prog (N4+(N5+N6)) (crowd gs3 w3 sl3) t3=_
 rw[runNT_add,r4]
 show runNT Tryz.prog (N5+N6) (crowd gs4 w4 sl4) t4=_
 rw[runNT_add,r5]
 exact r6
end
end Go.Proofs.YtgacaecjinlhiaaGreatDoor
