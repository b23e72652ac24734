import Derived.Test.YtpcnpkhgjanamaaGreatDoorPz
import Derived.Conc.AppendEvents3
import Derived.Test.YtpcnpkhgjanamaaGreatDoorJn35
namespace Go.Proofs.YtpcnpkhgjanamaaGreatDoor
open Go.Proofs.Tryz renaming prog→qf,underlying35→WH,f33→Yf,f27→Yg
open Go renaming Value→R2,World→V8,undef→Wb,Goroutine→Wi,TypeId→Wj,Frame→WG,FuncId→Xg
open Go.Conc renaming mem_listed→Xi,goes_oper_k→XC,AtRel→XP
set_option maxRecDepth 100000
set_option maxHeartbeats 4000000
section
open Go.RowKit PK Vg Go.Conc Cs
theorem pS{s:Nat}{a:Addr}{e:Event}(h:e.loc=.cell a∧e.write=false)(ha:a.block<s):EvW s e:=by
 obtain⟨l,w,at1⟩:=e;obtain⟨h1,h2⟩:=h;dsimp only at h1 h2;subst h1 h2;cases at1
 all_goals exact⟨fun x e=>(by cases e;exact ha),fun m e=>by cases e⟩
theorem D8{W:V8}{b:Nat}{T:Wj}{A:Array R2}{TB:Wj}{fr:Nat×Nat}{d:TypeDesc}(hW:W.heap[b]?=some (.cells A TB fr))(hu:qf.underlying T=some d)(hd:d.isRow=true)(hi:(qf.info? T).map (·.size)=some A.size):
  ∀e∈(Instr.loadAt T (.pointer (some ⟨b,0,none⟩))).events qf W #[],EvW W.heap.size e:=fun e he=>by
 obtain⟨i,c,a⟩:=Xt.1 hi;have hb:b<W.heap.size:=(Wd.1 hW).1
 have hc:=events_loadCellsFrom_at (P:=qf) ⟨b,0,none⟩ (fun q=>q<W.heap.size) hb A.size 0 #[] W #[] (fun j hj=>by
  rw[Addr.add_lit,Xf _ _ _ _ _ _ hW];simp[hj])
 cases d with
 |struct fs=>
  simp[Instr.loadAt,Instr.sureAddr,loadVar,isAgg,go_sem,underlying,sizeOf,typeInfo,loadCells,hu,c,a]at he;rcases hc e he with h|⟨ad,h1,h2,h3⟩
  ·simp at h
  ·exact pS ⟨h1,h2⟩ h3
 |array n el=>
  simp[Instr.loadAt,Instr.sureAddr,loadVar,isAgg,go_sem,underlying,sizeOf,typeInfo,loadCells,hu,c,a]at he;rcases hc e he with h|⟨ad,h1,h2,h3⟩
  ·simp at h
  ·exact pS ⟨h1,h2⟩ h3
 |_=>cases hd
theorem ux{W:V8}{b:Nat}{T:Wj}{A:Array R2}{TB:Wj}{fr:Nat×Nat}{d:TypeDesc}(hW:W.heap[b]?=some (.cells A TB fr))(hu:qf.underlying T=some d)(hd:d.isRow=true)(hi:(qf.info? T).map (·.size)=some A.size):(Instr.loadAt T (.pointer (some ⟨b,0,none⟩))).run qf W=.ok (.agg A) W:=by
 have h:=run_loadAt_mid (P:=qf) W b 0 T A.toList d (fun j v hj=>by rw[WN,Xf _ _ _ _ _ _ hW,←Wo];exact hj) hu hd (by rw[hi];simp);simpa using h
def HI(H:Array Obj)(o:Os)(out:Array (Nat×ByteArray))(W:V8):Prop:=W.heap=H∧W.os=o∧W.output=out
theorem HI.at'{H:Array Obj}{o:Os}{out:Array (Nat×ByteArray)}{W:V8}(h:HI H o out W)(d:Nat):HI H o out (W.at d):=h
theorem HI.alloc{H:Array Obj}{o:Os}{out:Array (Nat×ByteArray)}{W:V8}(h:HI H o out W)(x:Obj):HI (H.push x) o out (W.alloc x):=⟨by show W.heap.push x=_;rw[h.1],h.2.1,h.2.2⟩
theorem bQ{Stp:Wi→V8→Prop}{H:Array Obj}{o:Os}{out:Array (Nat×ByteArray)}{mu:Nat}{g:Wi}{w:V8}(hI:HI H o out w)(hs:g.status=.running)(h:∀w₁,HI H o out w₁→(stepG qf true g w₁).goes fun g' w' es=>DW w₁ w' es∧Goes qf true XP DW Stp mu g' w'):Goes qf true XP DW Stp (mu+1) g w:=
 Goes.step hs fun w₁ h₁=>by
  obtain⟨d,rfl⟩:=h₁;exact h _ (hI.at' d)
theorem aS(w:V8):DW w w #[]:=⟨R3 _,fun e he=>by simp at he⟩
theorem Ji(A B:Array R2)(hA:A.size=55)(h:Int)(cs:List WG)(H:Array Obj)(o:Os)(out:Array (Nat×ByteArray))(w:V8)(hI:HI H o out w):∃mu,Goes qf true XP DW (fun g w'=>g=G ((base 33).at ⟨#[.agg A,.int .i64 h,.func (.func 34) #[] #[.pointer (some ⟨H.size+1,0,none⟩)],Wb,Wb,Wb,Wb,Wb,Wb,Wb,Wb,Wb,Wb,Wb,Wb,Wb,Wb,Wb,Wb,Wb,Wb,Wb,Wb,Wb,Wb,Wb,Wb,Wb,Wb,Wb,Wb,Wb,Wb,Wb,Wb,Wb,Wb,Wb,Wb,Wb,Wb,Wb,Wb,Wb,Wb,Wb,Wb,Wb,Wb,Wb,Wb,Wb,Wb],[]⟩ [.code (dK false)]) ((base 11).at ⟨#[.agg A,.agg B,.int .i64 h,.pointer (some ⟨H.size,0,none⟩),.pointer (some ⟨H.size+1,0,none⟩),Wb,.slice none 0 0,.int .i64 0,.agg A,.int .i64 h,.func (.func 34) #[] #[.pointer (some ⟨H.size+1,0,none⟩)],Wb,Wb,Wb],[]⟩ [.inRegion M0 (3 :: List.range' 4 4),.code .ret] :: cs)∧HI ((H.push (.cells A 35)).push (.cells B 50)) o out w') mu (G ((base 11).at ⟨#[.agg A,.agg B,.int .i64 h,Wb,Wb,Wb,Wb,Wb,Wb,Wb,Wb,Wb,Wb,Wb],[]⟩ [.code fB]) cs) w:=by
 have c:(qf.info? 35).map (·.size)=some A.size:=by rw[hA];exact aE
 refine⟨40,?_⟩;simp only[fB,Tryz.f11,Ww]
 repeat(refine bQ hI rfl (fun w₁ h₁=>?_);walk_rw;refine⟨aS _,?_⟩;clear hI;have hI:=h₁;clear h₁)
 refine bQ hI rfl (fun w₁ h₁=>?_);refine XC rfl rfl vde (fun K hK=>?_);go_simp;refine hK _ _ ⟨⟨vsi,fun e he=>?_⟩,?_⟩
 ·have hm:=Xi he
  simp[go_sem]at hm
 clear hK K hI;have hI:=h₁.alloc (.cells A 35);rw[h₁.1];clear h₁;refine bQ hI rfl (fun w₁ h₁=>?_);refine XC rfl rfl vde (fun K hK=>?_);go_simp;refine hK _ _ ⟨⟨vsi,fun e he=>?_⟩,?_⟩
 ·have hm:=Xi he
  simp[go_sem]at hm
 clear hK K hI;have hI:=h₁.alloc (.cells B 50);rw[h₁.1];clear h₁;simp only[YG];refine bQ hI rfl (fun w₁ h₁=>?_);refine XC rfl rfl vde (fun K hK=>?_);go_simp;refine hK _ _ ⟨⟨vsi,fun e he=>?_⟩,?_⟩
 ·have hm:=Xi he
  simp[go_sem]at hm
 clear hK K hI;have hI:=h₁;clear h₁;refine bQ hI rfl (fun w₁ h₁=>?_);refine XC rfl rfl vde (fun K hK=>?_);go_simp;refine hK _ _ ⟨⟨vsi,fun e he=>?_⟩,?_⟩
 ·have hm:=Xi he
  simp[go_sem]at hm
 clear hK K hI;have hI:=h₁;clear h₁
 repeat(refine bQ hI rfl (fun w₁ h₁=>?_);walk_rw;refine⟨aS _,?_⟩;clear hI;have hI:=h₁;clear h₁)
 refine bQ hI rfl (fun w₁ h₁=>?_);have b:=show w₁.heap[H.size]?=some (.cells A 35 (0,0))from by rw[h₁.1,Wq,V9 vsi,Wq,Wc rfl]
 rw[stepG_value (v:=.agg A) (w':=w₁) rfl rfl vde (gD rfl rfl (ux b WH rfl c))];simp only[goes_go];refine⟨⟨R3 _,fun e he=>D8 b WH rfl c e (by have hm:=Xi he;rw[eP rfl rfl]at hm;exact hm)⟩,?_⟩;clear b hI;have hI:=h₁;clear h₁;refine bQ hI rfl (fun w₁ h₁=>?_);refine XC rfl rfl vde (fun K hK=>?_);go_simp;refine hK _ _ ⟨⟨vsi,fun e he=>?_⟩,?_⟩
 ·have hm:=Xi he
  simp[go_sem]at hm
 clear hK K hI;have hI:=h₁;clear h₁;refine bQ hI rfl (fun w₁ h₁=>?_);refine XC rfl rfl vde (fun K hK=>?_);go_simp;refine hK _ _ ⟨⟨vsi,fun e he=>?_⟩,?_⟩
 ·have hm:=Xi he
  simp[go_sem]at hm
 clear hK K hI;have hI:=h₁;clear h₁;refine bQ hI rfl (fun w₁ h₁=>?_);refine goes_call rfl rfl vde rfl Tryz.func33 vkr rfl ?_;refine⟨aS _,?_⟩
 exact Goes.stop fun w₂ h₂=>by
  obtain⟨d,rfl⟩:=h₂;refine⟨?_,h₁⟩
  have e1:∀(a:Act),a.eval (.tmp 8)=.agg A→a.eval (.tmp 9)=.int .i64 h→a.eval (.tmp 10)=.func (.func 34) #[] #[.pointer (some ⟨H.size+1,0,none⟩)]→(#[Operand.tmp 8,.tmp 9,.tmp 10].map a.eval++Array.replicate (Tryz.f33.ntmps-(#[Operand.tmp 8,.tmp 9,.tmp 10].map a.eval).size) Wb)=#[.agg A,.int .i64 h,.func (.func 34) #[] #[.pointer (some ⟨H.size+1,0,none⟩)],Wb,Wb,Wb,Wb,Wb,Wb,Wb,Wb,Wb,Wb,Wb,Wb,Wb,Wb,Wb,Wb,Wb,Wb,Wb,Wb,Wb,Wb,Wb,Wb,Wb,Wb,Wb,Wb,Wb,Wb,Wb,Wb,Wb,Wb,Wb,Wb,Wb,Wb,Wb,Wb,Wb,Wb,Wb,Wb,Wb,Wb,Wb,Wb,Wb,Wb]:=fun a k0 k1 k2=>by
   simp[k0,k1,k2,Array.replicate,List.replicate]
  rw[e1 _ rfl rfl rfl]
  rfl
section
variable{Stp:Wi→V8→Prop}{H:Array Obj}{o:Os}{out:Array (Nat×ByteArray)}{mu:Nat}{w:V8}{b:WG}{a:Act}{ops:Array Oper}{i:Nat}{rest:List Nat}{k:List Item}{cs:List WG}{op:Oper}
theorem jP{D:V8→V8→Array Event→Prop}{v:R2}(hD:∀w,D w w #[])(hI:HI H o out w)(ho:ops[i]?=some op)(hw:Region.wanted op (yielded ops a.tmps)=true)(hk:b.kind≠.early)(hr:∀w,(execOp a.eval op).run qf w=.ok (.value v) w)(he:∀w,(execOp a.eval op).events qf w #[]=#[])
  (h:∀w,HI H o out w→Goes qf true XP D Stp mu (G (b.at (a.put op.dst v) (.inRegion ops rest :: k)) cs) w):Goes qf true XP D Stp (mu+1) (G (b.at a (.inRegion ops (i :: rest) :: k)) cs) w:=
 Goes.step rfl fun w₁ h₁=>by
  obtain⟨d,rfl⟩:=h₁;rw[stepG_value (v:=v) ho hw hk (hr _),listed_nil (he _)];simp only[goes_go];exact⟨hD _,h _ (hI.at' d)⟩
theorem AP{T:Wj}{x:Operand}{q:Nat}{A:Array R2}{d:TypeDesc}(hI:HI H o out w)(ho:ops[i]?=some op)(hw:Region.wanted op (yielded ops a.tmps)=true)(hk:b.kind≠.early)(hop:op.op=.load T x)(hx:a.eval x=.pointer (some ⟨q,0,none⟩))(hq:H[q]?=some (.cells A T (0,0)))(hu:qf.underlying T=some d)(hd:d.isRow=true)(hi:(qf.info? T).map (·.size)=some A.size)
  (h:∀w,HI H o out w→Goes qf true XP DW Stp mu (G (b.at (a.put op.dst (.agg A)) (.inRegion ops rest :: k)) cs) w):Goes qf true XP DW Stp (mu+1) (G (b.at a (.inRegion ops (i :: rest) :: k)) cs) w:=
 bQ hI rfl fun w₁ h₁=>by
  have c:w₁.heap[q]?=some (.cells A T (0,0)):=by rw[h₁.1];exact hq
  rw[stepG_value (v:=.agg A) (w':=w₁) ho hw hk (gD hop hx (ux c hu hd hi))];simp only[goes_go];exact⟨⟨R3 _,fun e he=>D8 c hu hd hi e (by have hm:=Xi he;rw[eP hop hx]at hm;exact hm)⟩,h _ h₁⟩
end
end
section
open Go.RowKit PK Vg Go.Conc Cs
variable{hv:Bool}
abbrev tF(hv:Bool):Wj:=pk hv 83 75
abbrev tR(hv:Bool):Wj:=pk hv 129 109
noncomputable def Kw(hv:Bool):Code:=match(dK hv)with|.seq _ r=>r|_=>.skip
noncomputable def Jq(hv:Bool):Code:=match(Kw hv)with|.seq _ r=>r|_=>.skip
noncomputable def Vm(hv:Bool):Code:=match(Kw hv)with|.seq (.seq _ r) _=>r|_=>.skip
noncomputable def U5(hv:Bool):Array Oper:=match(Kw hv)with|.seq (.seq (.region _ o _) _) _=>o|_=>#[]
theorem tZ(A:Array R2)(hA:A.size=55)(h:Int)(f:Xg)(c1 c2:Array R2)(cs:List WG)(H:Array Obj)(o:Os)(out:Array (Nat×ByteArray))(w:V8)(hI:HI H o out w):∃mu,Goes qf true XP DW (fun g w'=>g=G (Frame.enter qf 54 #[.agg A,.int .i64 h] .normal) ((base (eN hv)).at ⟨#[.agg A,.int .i64 h,.func (.func f) c1 c2,.pointer (some ⟨H.size,0,none⟩),Wb,.pointer (some ⟨H.size+1,0,none⟩),.slice none 0 0,.int .i64 0,Wb,Wb,Wb,Wb,Wb,Wb,Wb,Wb,.agg A,.int .i64 h,Wb,Wb,Wb,Wb,Wb,Wb,Wb,Wb,Wb,Wb,Wb,Wb,Wb,Wb,Wb,Wb,Wb,Wb,Wb,Wb,Wb,Wb,Wb,Wb,Wb,Wb,Wb,Wb,Wb,Wb,Wb,Wb,Wb,Wb,Wb],[]⟩ [.inRegion (U5 hv) (2 :: List.range' 3 1),.code (Vm hv),.code (Jq hv)] :: cs)∧HI ((H.push (.cells A 35)).push (.cells #[.func (.func f) c1 c2] (tF hv))) o out w') mu (G ((base (eN hv)).at ⟨#[.agg A,.int .i64 h,.func (.func f) c1 c2,Wb,Wb,Wb,Wb,Wb,Wb,Wb,Wb,Wb,Wb,Wb,Wb,Wb,Wb,Wb,Wb,Wb,Wb,Wb,Wb,Wb,Wb,Wb,Wb,Wb,Wb,Wb,Wb,Wb,Wb,Wb,Wb,Wb,Wb,Wb,Wb,Wb,Wb,Wb,Wb,Wb,Wb,Wb,Wb,Wb,Wb,Wb,Wb,Wb,Wb],[]⟩ [.code (dK hv)]) cs) w:=by
 have b:(qf.info? 35).map (·.size)=some A.size:=by rw[hA];exact aE
 refine⟨40,?_⟩;obtain⟨TF,a⟩:∃TF:Wj,TF=tF hv:=⟨_,rfl⟩
 rw[←a];cases hv
 all_goals
  simp only[dK,pk,Yf,Yg,Ww]
  repeat(refine bQ hI rfl (fun w₁ h₁=>?_);walk_rw;refine⟨aS _,?_⟩;clear hI;have hI:=h₁;clear h₁)
  refine bQ hI rfl (fun w₁ h₁=>?_);refine XC rfl rfl vde (fun K hK=>?_);go_simp;refine hK _ _ ⟨⟨vsi,fun e he=>?_⟩,?_⟩
  ·have hm:=Xi he
   simp[go_sem]at hm
  clear hK K hI;have hI:=h₁.alloc (.cells A 35);rw[h₁.1];clear h₁;refine bQ hI rfl (fun w₁ h₁=>?_);refine XC rfl rfl vde (fun K hK=>?_);go_simp;refine hK _ _ ⟨⟨vsi,fun e he=>?_⟩,?_⟩
  ·have hm:=Xi he
   simp[go_sem]at hm
  clear hK K hI;have hI:=h₁.alloc (.cells #[.func (.func f) c1 c2] TF);subst a;rw[h₁.1];clear h₁;simp only[YG]
  repeat(first
   |refine jP aS hI rfl rfl vde (fun _=>rfl) (fun _=>rfl) (fun w₁ hI=>?_)
   |(refine bQ hI rfl (fun w₁ h₁=>?_);walk_rw;refine⟨aS _,?_⟩;clear hI;have hI:=h₁;clear h₁))
  refine AP hI rfl rfl vde rfl rfl (by rw[Wq,V9 vsi,Wq,Wc rfl]) WH rfl b (fun w₁ hI=>?_)
  repeat(first
   |refine jP aS hI rfl rfl vde (fun _=>rfl) (fun _=>rfl) (fun w₁ hI=>?_)
   |(refine bQ hI rfl (fun w₁ h₁=>?_);walk_rw;refine⟨aS _,?_⟩;clear hI;have hI:=h₁;clear h₁))
  refine bQ hI rfl (fun w₁ h₁=>?_);rw[stepG_enter (f:=54) (args:=#[.agg A,.int .i64 h]) (w':=w₁) rfl rfl vde (by simp[execOp,go_sem])];rw[listed_nil (by simp[go_sem,callFunc,Tryz.func54,Tryz.f54])];simp only[goes_go];refine⟨aS _,?_⟩
  exact Goes.stop fun w₂ h₂=>by
   obtain⟨d,rfl⟩:=h₂;exact⟨rfl,h₁⟩
noncomputable def Mc(hv:Bool):Code:=match(Jq hv)with|.seq _ (.seq _ r)=>r|_=>.skip
noncomputable def U9(hv:Bool):Array Oper:=match(Jq hv)with|.seq _ (.seq (.region _ o _) _)=>o|_=>#[]
noncomputable def U7(hv:Bool):Code:=match(Mc hv)with|.seq a _=>a|_=>.skip
noncomputable def mO(hv:Bool):Array Oper:=match(Mc hv)with|.seq (.region _ o _) _=>o|_=>#[]
theorem To(d:Nat)(f:Xg)(c1 c2:Array R2)(w:V8)(es:Array Event):Sem.events qf (Op.equalIn (d+1) (tF hv) (.func (.func f) c1 c2) .nilFunc) w es=es:=by
 unfold Op.equalIn;cases hv<;>simp[go_sem,underlying,Tryz.underlying83,Tryz.underlying75]
theorem RZ(f:Xg)(c1 c2:Array R2)(w:V8):Sem.events qf (binOp .eql (tF hv) (.func (.func f) c1 c2) .nilFunc) w #[]=#[]:=by
 obtain⟨d,hd⟩:∃d,Op.maxDepth=d+1:=⟨9999,rfl⟩
 have h1:=To (hv:=hv) d f c1 c2 w #[];unfold binOp Op.equal;rw[hd];simp[go_sem,h1]
theorem FA(A:Array R2)(n:Nat)(f:Xg)(c1 c2:Array R2)(bM bL:Nat)(cs:List WG)(H:Array Obj)(o:Os)(out:Array (Nat×ByteArray))(w:V8)(hI:HI H o out w)(hL:H[bL]?=some (.cells #[.func (.func f) c1 c2] (tF hv) (0,0))):∃mu,Goes qf true XP DW (fun g w'=>g=G ((base (eN hv)).at ⟨#[.agg A,.int .i64 (n:Nat),.func (.func f) c1 c2,.pointer (some ⟨bM,0,none⟩),Wb,.pointer (some ⟨bL,0,none⟩),.slice none 0 0,.int .i64 0,.int .i64 0,Wb,Wb,Wb,Wb,Wb,Wb,Wb,.agg A,.int .i64 (n:Nat),.int .i64 0,.int .i64 0,.bool false,Wb,.func (.func f) c1 c2,.bool false,Wb,Wb,Wb,Wb,Wb,Wb,Wb,Wb,Wb,Wb,Wb,Wb,Wb,Wb,Wb,Wb,Wb,Wb,Wb,Wb,Wb,Wb,Wb,Wb,Wb,Wb,Wb,Wb,Wb],[]⟩ [.inRegion (U9 hv) [0],.code (Mc hv)]) cs∧HI H o out w') mu (G ((base (eN hv)).at ⟨#[.agg A,.int .i64 (n:Nat),.func (.func f) c1 c2,.pointer (some ⟨bM,0,none⟩),Wb,.pointer (some ⟨bL,0,none⟩),.slice none 0 0,.int .i64 0,Wb,Wb,Wb,Wb,Wb,Wb,Wb,Wb,.agg A,.int .i64 (n:Nat),.int .i64 0,Wb,Wb,Wb,Wb,Wb,Wb,Wb,Wb,Wb,Wb,Wb,Wb,Wb,Wb,Wb,Wb,Wb,Wb,Wb,Wb,Wb,Wb,Wb,Wb,Wb,Wb,Wb,Wb,Wb,Wb,Wb,Wb,Wb,Wb],[]⟩ [.inRegion (U5 hv) [3],.code (Vm hv),.code (Jq hv)]) cs) w:=by
 refine⟨60,?_⟩;have b:=RZ (hv:=hv) f c1 c2;cases hv
 all_goals
  dsimp only[tF,pk]at b;simp only[U5,Vm,Jq,Kw,dK,pk,Yf,Yg,Option.getD_some];refine jP aS hI rfl rfl vde (fun _=>rfl) (fun _=>rfl) (fun w₁ hI=>?_)
  repeat(refine bQ hI rfl (fun w₁ h₁=>?_);walk_rw;refine⟨aS _,?_⟩;clear hI;have hI:=h₁;clear h₁)
  refine jP aS hI rfl rfl vde (fun _=>rfl) (fun _=>rfl) (fun w₁ hI=>?_);refine bQ hI rfl (fun w₁ h₁=>?_);refine XC rfl rfl vde (fun K hK=>?_);go_simp;refine hK _ _ ⟨⟨vsi,fun e he=>?_⟩,?_⟩
  ·have hm:=Xi he
   simp[go_sem]at hm
  clear hK K hI;have hI:=h₁;clear h₁
  repeat(refine bQ hI rfl (fun w₁ h₁=>?_);walk_rw;refine⟨aS _,?_⟩;clear hI;have hI:=h₁;clear h₁)
  refine bQ hI rfl (fun w₁ h₁=>?_);rw[stepG_cond (t:=false) rfl];simp only[goes_go,WV,↓reduceIte];refine⟨aS _,?_⟩;clear hI;have hI:=h₁;clear h₁
  repeat(refine bQ hI rfl (fun w₁ h₁=>?_);walk_rw;refine⟨aS _,?_⟩;clear hI;have hI:=h₁;clear h₁)
  refine bQ hI rfl (fun w₁ h₁=>?_);refine XC rfl rfl vde (fun K hK=>?_);have a:bL<w₁.heap.size:=by rw[h₁.1];exact(Wd.1 hL).1
  have hC:w₁.cell? ⟨bL,0,none⟩=some (.func (.func f) c1 c2):=by
   have h2:=hL;rw[←h₁.1]at h2;rw[Xf _ _ _ _ _ _ h2]
   rfl
  go_simp;refine hK _ _ ⟨⟨vsi,fun e he=>?_⟩,?_⟩
  ·have hm:=Xi he
   simp[go_sem,hC]at hm;subst hm;exact pS ⟨rfl,rfl⟩ a
  clear hK K hI hC a;have hI:=h₁;clear h₁;refine bQ hI rfl (fun w₁ h₁=>?_);refine XC rfl rfl vde (fun K hK=>?_);go_simp;refine hK _ _ ⟨⟨vsi,fun e he=>?_⟩,?_⟩
  ·have hm:=Xi he
   simp[go_sem]at hm;rw[b]at hm;simp at hm
  clear hK K hI;have hI:=h₁;clear h₁
  repeat(refine bQ hI rfl (fun w₁ h₁=>?_);walk_rw;refine⟨aS _,?_⟩;clear hI;have hI:=h₁;clear h₁)
  refine bQ hI rfl (fun w₁ h₁=>?_);rw[stepG_cond (t:=false) rfl];simp only[goes_go,WV,↓reduceIte];refine⟨aS _,?_⟩;clear hI;have hI:=h₁;clear h₁
  repeat(refine bQ hI rfl (fun w₁ h₁=>?_);walk_rw;refine⟨aS _,?_⟩;clear hI;have hI:=h₁;clear h₁)
  exact Goes.stop fun w₂ h₂=>by
   obtain⟨d,rfl⟩:=h₂;exact⟨rfl,hI⟩
def DN(Fd:Nat)(w w':V8)(es:Array Event):Prop:=w.heap.size≤w'.heap.size∧∀e∈es,EvW w'.heap.size e∧∀x,(MemAct.ofEvent e).touch? = some x→∀ad,x.loc=.cell ad→ad.block≠Fd
theorem j6{Fd:Nat}(w:V8):DN Fd w w #[]:=⟨R3 _,fun e he=>by simp at he⟩
theorem iP{Fd:Nat}{Stp:Wi→V8→Prop}{H:Array Obj}{o:Os}{out:Array (Nat×ByteArray)}{mu:Nat}{g:Wi}{w:V8}(hI:HI H o out w)(hs:g.status=.running)(h:∀w₁,HI H o out w₁→(stepG qf true g w₁).goes fun g' w' es=>DN Fd w₁ w' es∧Goes qf true XP (DN Fd) Stp mu g' w'):Goes qf true XP (DN Fd) Stp (mu+1) g w:=
 Goes.step hs fun w₁ h₁=>by
  obtain⟨d,rfl⟩:=h₁;exact h _ (hI.at' d)
theorem Aq(Fd:Nat)(A:Array R2)(n:Nat)(f:Xg)(c1 c2:Array R2)(bM bL:Nat)(cs:List WG)(H:Array Obj)(o:Os)(out:Array (Nat×ByteArray))(w:V8)(hI:HI H o out w):∃mu,Goes qf true XP (DN Fd) (fun g w'=>g=G ((base (eN hv)).at ⟨#[.agg A,.int .i64 (n:Nat),.func (.func f) c1 c2,.pointer (some ⟨bM,0,none⟩),Wb,.pointer (some ⟨bL,0,none⟩),.slice none 0 0,.int .i64 0,.int .i64 0,.pointer (some ⟨H.size,0,none⟩),Wb,Wb,Wb,Wb,Wb,Wb,.agg A,.int .i64 (n:Nat),.int .i64 0,.int .i64 0,.bool false,Wb,.func (.func f) c1 c2,.bool false,Wb,Wb,Wb,Wb,Wb,Wb,Wb,Wb,Wb,Wb,Wb,Wb,Wb,Wb,Wb,Wb,Wb,Wb,Wb,Wb,Wb,Wb,Wb,Wb,Wb,Wb,Wb,Wb,Wb],[]⟩ [.code (U7 hv),.code (Ab hv)]) cs∧HI (H.push (.cells (bJ 26 fun _=>.slice none 0 0) (tR hv))) o out w') mu (G ((base (eN hv)).at ⟨#[.agg A,.int .i64 (n:Nat),.func (.func f) c1 c2,.pointer (some ⟨bM,0,none⟩),Wb,.pointer (some ⟨bL,0,none⟩),.slice none 0 0,.int .i64 0,.int .i64 0,Wb,Wb,Wb,Wb,Wb,Wb,Wb,.agg A,.int .i64 (n:Nat),.int .i64 0,.int .i64 0,.bool false,Wb,.func (.func f) c1 c2,.bool false,Wb,Wb,Wb,Wb,Wb,Wb,Wb,Wb,Wb,Wb,Wb,Wb,Wb,Wb,Wb,Wb,Wb,Wb,Wb,Wb,Wb,Wb,Wb,Wb,Wb,Wb,Wb,Wb,Wb],[]⟩ [.inRegion (U9 hv) [0],.code (Mc hv)]) cs) w:=by
 have a:(qf.info? (tR hv)).map (·.zero)=some (some (.agg (bJ 26 fun _=>.slice none 0 0))):=by cases hv<;>kernel_rfl
 refine⟨60,?_⟩;obtain⟨TR,b⟩:∃TR:Wj,TR=tR hv:=⟨_,rfl⟩
 cases hv
 all_goals
  dsimp only[tR,pk]at a b⊢;simp only[U9,Mc,Jq,Kw,dK,pk,Yf,Yg,Option.getD_some];refine iP hI rfl (fun w₁ h₁=>?_);refine goes_oper_k rfl rfl vde (fun K hK=>?_);go_simp;refine hK _ _ ⟨⟨vsi,fun e he=>?_⟩,?_⟩
  ·have hm:=Xi he
   simp[go_sem]at hm
  clear hK K hI;have hI:=h₁.alloc (.cells (bJ 26 fun _=>.slice none 0 0) TR);subst b;rw[h₁.1];clear h₁
  repeat(refine iP hI rfl (fun w₁ h₁=>?_);walk_rw;refine⟨j6 _,?_⟩;clear hI;have hI:=h₁;clear h₁)
  exact Goes.stop fun w₂ h₂=>by
   obtain⟨d,rfl⟩:=h₂;exact⟨rfl,hI⟩
end
end Go.Proofs.YtpcnpkhgjanamaaGreatDoor
