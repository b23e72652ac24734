import Derived.Deep.Upon
import Derived.Test.YtpdemelchhkfaaaJn12
namespace Go.Proofs.Ytpdemelchhkfaaa
section
open Go.RowKit PK
namespace Jm
def lcg (s:Nat):Nat:=(6364136223846793005*s+1442695040888963407) % 18446744073709551616
def bgS (s:Nat):Nat→Nat
 | 0=>s
 | j+1=>lcg (bgS s j)
def bgI (s j:Nat):Nat:=(bgS s (j+1) / 8589934592) % (26-j)
def bgK (s:Nat):Nat→K
 | 0=>fun i=>i
 | j+1=>sw (bgK s j) (25-j) (bgI s j)
theorem BJ (s:Nat):lcg s<18446744073709551616:=Nat.mod_lt _ (by decide)
theorem Cl {s:Nat} (hs:s<18446744073709551616):∀j,bgS s j<18446744073709551616
 | 0=>hs
 | _+1=>BJ _
theorem sr (s:Nat) {j:Nat} (h:j<26):bgI s j<26-j:=Nat.mod_lt _ (by omega)
theorem ko (s:Nat):∀j,j≤25→∀i,i<26→bgK s j i<26
 | 0,_=>fun _ h=>h
 | j+1,h=>qU (ko s j (by omega)) (by omega) (by have:=sr s (j:=j) (by omega);omega)
end Jm
theorem y4 (key:Nat→Nat) (a b:Nat):((ints 26 (Pm.up key)).setIfInBounds a (.int .i64 (key b:Nat))).setIfInBounds b (.int .i64 (key a:Nat))=ints 26 (Pm.up (Jm.sw key a b)):=by
 by_cases hab:a=b
 ·subst hab
  rw[ints_set,ints_set]
  refine gR fun i _=>?_
  unfold upd Pm.up Jm.sw
  by_cases h1:i=a
  ·rw[if_pos h1,if_pos h1]
  ·rw[if_neg h1,if_neg h1,if_neg h1,if_neg h1]
 ·exact rZ key a b hab
section
variable {P:Program} {ops:Array Oper} {rest:List Oper} {op:Oper} {a:Act} {w:World} {Q:Exit→Act→World→Prop}
theorem qV (hgd:op.guard=none) (t t':TypeId) (x y:Operand) (ho:op.op=.binOp .mul t x y t') (c d m:Int) (hx:a.eval x=.int .u64 c) (hy:a.eval y=.int .u64 d) (hm:IntKind.u64.wrap (c*d)=m)
  (h:wpList P ops Q rest (a.put op.dst (.int .u64 m)) w):wpList P ops Q (op :: rest) a w :=
 wpList_plain hgd fun _ hK=>by
  unfold Oper.wp execOp
  simp[ho,hx,hy,eqGuard,binOp,Op.intArith,hm]
  exact hK _ _ h
theorem qC (hgd:op.guard=none) (t t':TypeId) (x y:Operand) (ho:op.op=.binOp .add t x y t') (c d m:Int) (hx:a.eval x=.int .u64 c) (hy:a.eval y=.int .u64 d) (hm:IntKind.u64.wrap (c+d)=m)
  (h:wpList P ops Q rest (a.put op.dst (.int .u64 m)) w):wpList P ops Q (op :: rest) a w :=
 wpList_plain hgd fun _ hK=>by
  unfold Oper.wp execOp
  simp[ho,hx,hy,eqGuard,binOp,Op.intArith,hm]
  exact hK _ _ h
end
set_option maxRecDepth 100000 in
set_option maxHeartbeats 8000000 in
theorem mZ (s:Nat) (hs:s<18446744073709551616) (w:World):Calls Try.prog 38 #[.int .u64 (s:Nat)] w fun e w'=>e=.returned (.agg (ints 26 (Pm.up (Jm.bgK s 25))))∧Below w.heap.size w w':=by
 have HS:=(show Hid _ from Jm.Cl hs)
 clear hs
 go_enter Try.func38,Try.ntmps38
 go_wp2_with fail
 rw[ej]
 have hr0:=ai.new w 38 (ints 26 fun _=>0)
 have hb0:Below w.heap.size w (w.alloc (.cells (ints 26 fun _=>0) 38)):=(Below.refl _ w).alloc (Nat.le_refl _) _
 obtain ⟨V0,hV0⟩:∃V,V=w.alloc (.cells (ints 26 fun _=>0) 38):=⟨_,rfl⟩
 rw[←hV0] at hr0 hb0 ⊢
 clear hV0
 refine (qL V0).mono ?_
 rintro e V1 ⟨rfl,hb1⟩
 have hr1:=hr0.below hb1 hr0.lt
 have hb2:=hb0.trans (hb1.mono hb0.size)
 clear hb1 hb0 hr0
 have hq0:=ai.new V1 38 (ints 26 fun _=>0)
 have hq:=hq0.row (ints 26 (Pm.up fun i=>i))
 have hlt1:=hr1.lt
 have hr3:=(hr1.alloc (.cells (ints 26 fun _=>0) 38)).ck V1.heap.size (ints 26 (Pm.up fun i=>i)) (by omega)
 have hb3:=Below.setRow (hb2.alloc hb2.size (.cells (ints 26 fun _=>0) 38)) V1.heap.size hb2.size (ints 26 (Pm.up fun i=>i))
 go_upto_region 2 with (first | refine wpList_store_row rfl 38 _ _ rfl (V1.heap.size) (ints 26 (Pm.up fun i=>i)) rfl rfl 38 _ hq0 (by rw[af];exact aC) (by simp only[af]) (aS _ _) ?_)
 try rw[ej]
 obtain ⟨V2,hV2⟩:∃V,V=(V1.alloc (.cells (ints 26 fun _=>0) 38)).setRow V1.heap.size (ints 26 (Pm.up fun i=>i)):=⟨_,rfl⟩
 rw[←hV2] at hq hr3 hb3 ⊢
 have hnq:w.heap.size<V1.heap.size:=hlt1
 clear hV2 hr1 hb2 hq0 hlt1
 generalize V1.heap.size=q at *
 go_wp2_with fail
 go_loopw [0,4] (fun o x W=>∃j i:Nat,j+i=25∧x=.int .i64 (i:Nat)∧o=.int .u64 (Jm.bgS s j:Nat)∧ai W w.heap.size 38 (ints 26 fun _=>0)∧ai W q 38 (ints 26 (Pm.up (Jm.bgK s j)))∧Below w.heap.size w W) (fun _ x _=>(intOf x).toNat)
 case atStart=>exact ⟨0,25,rfl,rfl,rfl,hr3,hq,hb3⟩
 case round =>
  clear hr3 hq hb3
  obtain ⟨j,i,hj,rfl,rfl,hr,hq,hb⟩:=hrel
  by_cases hlt:0<i
  case neg =>
   obtain rfl:j=25:=by omega
   obtain rfl:i=0:=by omega
   have HB:=(show Hid _ from hb)
   obtain ⟨k,hkk⟩:∃k,k=Jm.bgK s 25:=⟨_,rfl⟩
   have HKK:=(show Hid (k=Jm.bgK s 25) from hkk)
   rw[←hkk] at hq
   clear hb hlt hj hkk
   go_wp2_with (first | refine wpList_load_row rfl 38 _ rfl (q) rfl 38 (ints 26 (Pm.up k)) (0,0) _ hq Try.underlying38 rfl (by rw[af];exact aC) ?_ | refine wpList_store_row rfl 38 _ _ rfl (w.heap.size) (ints 26 (Pm.up k)) rfl rfl 38 _ hr (by rw[af];exact aC) (by simp only[af]) (aS _ _) ?_)
   exact bodyPost_ret (v:=.agg (ints 26 (Pm.up k))) (results_cell_row rfl _ _ w.heap.size 38 _ (0,0) _ rfl (hr.row _) Try.underlying38 rfl (by rw[af];exact aC)) rfl ⟨by rw[HKK.out],Below.setRow HB.out _ (Nat.le_refl _) _⟩
  have HLT:Hid (0<i∧j+i=25):=⟨hlt,hj⟩
  have hi25:i≤25:=by omega
  have HSJ:=(show Hid _ from HS.out j)
  have HN:Hid (Jm.bgS s (j+1)=Jm.lcg (Jm.bgS s j)):=rfl
  obtain ⟨S,hS⟩:∃S,S=Jm.bgS s j:=⟨_,rfl⟩
  rw[←hS] at HSJ HN ⊢
  have hSl:=HSJ.out
  have HNEW:=(show Hid (ai wr q 38 (ints 26 (Pm.up (Jm.bgK s j)))∧ai wr w.heap.size 38 (ints 26 fun _=>0)∧Below w.heap.size w wr) from ⟨hq,hr,hb⟩)
  clear hS hr hb hq hj
  obtain ⟨M,hM⟩:∃M,M=6364136223846793005*S % 18446744073709551616:=⟨_,rfl⟩
  obtain ⟨S2,hS2⟩:∃S2,S2=Jm.bgS s (j+1):=⟨_,rfl⟩
  have u1:IntKind.u64.wrap (6364136223846793005*(S:Int))=(M:Int):=by rw[IntKind.wrap_u64];omega
  have u2:IntKind.u64.wrap ((M:Int)+1442695040888963407)=(S2:Int):=by
   rw[hS2,HN.out,Jm.lcg,IntKind.wrap_u64]
   omega
  have HS2:=(show Hid (S2=Jm.bgS s (j+1)) from hS2)
  have HU1:=(show Hid (IntKind.u64.wrap (6364136223846793005*(S:Int))=(M:Int)) from u1)
  have HU2:=(show Hid (IntKind.u64.wrap ((M:Int)+1442695040888963407)=(S2:Int)) from u2)
  clear hM hS2 u1 u2 hSl
  go_upto_region 6 with (first | refine qV rfl _ _ _ _ rfl 6364136223846793005 (S:Nat) (M:Nat) rfl rfl HU1.out ?_ | refine qC rfl _ _ _ _ rfl (M:Nat) 1442695040888963407 (S2:Nat) rfl rfl HU2.out ?_)
  clear HU1 HU2 HN HSJ
  go_upto_region 7 with fail
  obtain ⟨k,hk⟩:∃k,k=Jm.bgI s j:=⟨_,rfl⟩
  have hk0:(S2:Int) / 8589934592 % ((i:Int)+1)=(k:Int):=by
   have hT:(S2:Int) / 8589934592=((S2 / 8589934592:Nat):Int):=by omega
   rw[hT,hk,Jm.bgI,←HS2.out,show 26-j=i+1 by have:=HLT.out;omega,show ((i:Int)+1)=((i+1:Nat):Int) from rfl]
   exact (Int.natCast_emod _ _).symm
  have hki:k<i+1:=by
   rw[hk]
   have:=Jm.sr s (j:=j) (by have:=HLT.out;omega)
   have:=HLT.out
   omega
  have hk26:k<26:=by omega
  have hi26:i<26:=by omega
  have hk1:wrap64 (k:Int)=(k:Int):=by simp only[wrap64];omega
  rw[hk0,hk1]
  have ik:(k:Int)<26:=by omega
  have ii:(i:Int)<26:=by omega
  have HKJ:=(show Hid (Jm.bgK s (j+1)=Jm.sw (Jm.bgK s j) i k) from by rw[hk];show Jm.sw _ (25-j) _=_;rw[show 25-j=i by have:=HLT.out;omega])
  obtain ⟨key,hkey⟩:∃key,key=Jm.bgK s j:=⟨_,rfl⟩
  rw[←hkey] at HKJ HNEW
  have hq:=HNEW.out.1
  have ca:=hq.cell (aI (Pm.up key) hi26)
  have cb:=hq.cell (aI (Pm.up key) hk26)
  have fa:=hq.frozen i
  have fb:=hq.frozen k
  obtain ⟨vi,hvi⟩:∃v,v=Pm.up key i:=⟨_,rfl⟩
  obtain ⟨vk,hvk⟩:∃v,v=Pm.up key k:=⟨_,rfl⟩
  rw[←hvi] at ca
  rw[←hvk] at cb
  have HVI:=(show Hid _ from hvi)
  have HVK:=(show Hid _ from hvk)
  have HNQ:=(show Hid (w.heap.size<q) from hnq)
  have HFIN:Hid (ai (((wr.setCell ⟨q,i,none⟩ (.int .i64 vk)).setCell ⟨q,k,none⟩ (.int .i64 vi)).drew) w.heap.size 38 (ints 26 fun _=>0)∧ai (((wr.setCell ⟨q,i,none⟩ (.int .i64 vk)).setCell ⟨q,k,none⟩ (.int .i64 vi)).drew) q 38 (ints 26 (Pm.up (Jm.bgK s (j+1))))∧Below w.heap.size w (((wr.setCell ⟨q,i,none⟩ (.int .i64 vk)).setCell ⟨q,k,none⟩ (.int .i64 vi)).drew)):=by
   refine ⟨?_,?_,?_⟩
   ·exact ai.drew ((heap_setCell_other _ ⟨q,k,none⟩ w.heap.size _ (by show w.heap.size≠q;omega)).trans ((heap_setCell_other _ ⟨q,i,none⟩ w.heap.size _ (by show w.heap.size≠q;omega)).trans HNEW.out.2.1))
   ·have:=(ai.set HNEW.out.1 i (.int .i64 vk)).set k (.int .i64 vi)
    rw[HVI.out,HVK.out] at this ⊢
    rw[show ((ints 26 (Pm.up key)).setIfInBounds i (.int .i64 (Pm.up key k))).setIfInBounds k (.int .i64 (Pm.up key i))=ints 26 (Pm.up (Jm.sw key i k)) from y4 key i k,←HKJ.out] at this
    exact this.drew
   ·exact ((HNEW.out.2.2.setCell (p:=⟨q,i,none⟩) (by show w.heap.size≤q;omega) _).setCell (p:=⟨q,k,none⟩) (by show w.heap.size≤q;omega) _).drew
  clear hvi hvk hkey hk hk0 hk1 hq hnq hki HNEW
  by_cases hne:i=k
  ·subst hne
   have HE:=(show Hid (vi=vk) from (by show vi=vk;rw[HVI.out,HVK.out]))
   clear cb fb HVI HVK
   obtain rfl:vi=vk:=HE.out
   go_region
   all_goals
    go_wp2_with fail
    go_roundw
    case rel=>exact ⟨j+1,i-1,by have:=HLT.out;omega,by have:=HLT.out;go_num,by rw[HS2.out],HFIN.out.1,HFIN.out.2.1,HFIN.out.2.2⟩
    case measure=>have:=HLT.out;simp[intOf];omega
  ·go_region
   all_goals
    go_wp2_with fail
    go_roundw
    case rel=>exact ⟨j+1,i-1,by have:=HLT.out;omega,by have:=HLT.out;go_num,by rw[HS2.out],HFIN.out.1,HFIN.out.2.1,HFIN.out.2.2⟩
    case measure=>have:=HLT.out;simp[intOf];omega
end
section
open Go.RowKit PK
end
section
open Go.RowKit PK
end
namespace PK
open Go.RowKit
def eqI (n:Nat) (f g:Nat→Int):Bool:=(List.range n).all fun i=>f i==g i
theorem zw (n:Nat) (f g:Nat→Int):eqI n f g=true↔∀i,i<n→f i=g i:=by simp[eqI]
theorem xu (n:Nat) (f:Nat→Int):eqI n f f=true:=(zw n f f).2 fun _ _=>rfl
theorem iS {P:Program} (w:World) (e:TypeId) (he:P.underlying e=some (.int .i64)) (n:Nat) (f:Nat→Int) (i:Nat) (hi:i<n):(part e (ints n f) i).run P w=.ok (.int .i64 (f i)) w:=by
 simp[part,isAgg,Sem.run_bind,run_underlying he,aI f hi]
theorem j8 {P:Program} (w:World) (d:Nat) (t e:TypeId) (n:Nat) (hu:P.underlying t=some (.array n e)) (he:P.underlying e=some (.int .i64)) (hs:(P.info? e).map (·.size)=some 1) (f g:Nat→Int) :
  (Op.equalIn (d+2) t (.agg (ints n f)) (.agg (ints n g))).run P w=.ok (eqI n f g) w:=by
 cases hq:P.info? e with
 | none=>simp[hq] at hs
 | some i =>
  have h1:i.size=1:=by simpa [hq] using hs
  have hsz:∀W,(sizeOf e).run P W=.ok 1 W:=fun W=>by simp[sizeOf,typeInfo,hq,h1]
  rw[Op.equalIn]
  simp only[Sem.run_bind,run_underlying hu,Result.andThen_ok,hsz,Nat.mul_one,Std.Legacy.Range.forIn_eq_forIn_range',Std.Legacy.Range.size,Nat.sub_zero,Nat.add_sub_cancel,Nat.div_one]
  unfold eqI
  rw[List.range_eq_range']
  have hL:∀i ∈ List.range' 0 n,i<n:=fun i hi=>by simp at hi;omega
  revert hL
  generalize List.range' 0 n=L
  intro hL
  induction L with
  | nil=>simp
  | cons s L ih =>
   have hs':s<n:=hL s (by simp)
   have ih':=ih fun i hi=>hL i (by simp[hi])
   rw[List.forIn_cons]
   simp only[Sem.run_bind,iS w e he n f s hs',iS w e he n g s hs',Result.andThen_ok,run_equalIn_int w d e .i64 .i64 (f s) (g s) he,List.all_cons]
   cases hb:(f s==g s)
   ·simp
   ·simp only[Bool.not_true,Bool.false_eq_true,if_false,Sem.run_pure,Result.andThen_ok,Bool.true_and]
    exact ih'
end PK
section
open Go.RowKit PK
end
section
open Go.RowKit PK
section
variable {P:Program} {md:Region.Mode} {ops:Array Oper} {Q:Exit→Act→World→Prop} {S:World→Prop}
theorem rU {fuel:Nat} {listed:Array Bool} {a:Act} {w:World} (i:Nat) (o:Oper) (hr:Region.ready md ops listed=[i]) (ho:ops[i]? = some o) (hw:Region.wanted o (yielded ops a.tmps)=true)
  (ty:TypeId) (x y:Operand) (hop:o.op=.store ty x y) (g:Nat) (cells:Array Value) (hx:a.eval x=.pointer (some ⟨g,0,none⟩)) (hy:a.eval y=.agg cells) (t:TypeId) (old:Array Value) (hg:ai w g t old)
  (hi:(P.info? ty).map (·.size)=some cells.size) (hs:old.size=cells.size) (h1:cells.all (·.oneCell')=true) (hdst:o.dst=none)
  (hS:S (w.setRow g cells)) (h:S (w.setRow g cells)→wpAnyH P md ops Q S fuel (listed.setIfInBounds i true) a (w.setRow g cells)):wpAnyH P md ops Q S (fuel+1) listed a w:=by
 refine wpAnyH_ready hr (by simp) (AllReadyH.cons ho (fun K hK=>?_) AllReadyH.nil)
 rw[if_pos hw]
 refine wp_store_row ty x y hop g cells hx hy t old hg hi hs h1 ?_
 have hp:a.put o.dst undef=a:=by rw[hdst];rfl
 rw[hp]
 exact hK.out _ _ hS h
end
end
section
open Go.RowKit PK
def clF (f:Nat→Int) (z:Int) (t:Nat):Nat→Int:=fun i=>if i<26 then f i else if i=26 then z else (t:Nat)
theorem su:(#[.int .i64 0,.int .i64 0,.int .i64 0,.int .i64 0,.int .i64 0,.int .i64 0,.int .i64 0,.int .i64 0,.int .i64 0,.int .i64 0,.int .i64 0,.int .i64 0,.int .i64 0,.int .i64 0,.int .i64 0,.int .i64 0,.int .i64 0,.int .i64 0,.int .i64 0,.int .i64 0,.int .i64 0,.int .i64 0,.int .i64 0,.int .i64 0,.int .i64 0,.int .i64 0,.int .i64 0,.int .i64 0]:Array Value)=ints 28 fun _=>0:=rfl
theorem fI (f:Nat→Int) (z:Int) (t:Nat):Try.prog.built 43 [(0,.agg (ints 26 f)),(1,.int .i64 z),(2,.int .i64 (t:Nat))]=some (ints 28 (clF f z t)):=by kernel_rfl
theorem cx:(Try.prog.info? 43).map (·.size)=some 28:=by kernel_rfl
set_option maxRecDepth 100000 in
set_option maxHeartbeats 8000000 in
theorem wU (pa:Option Addr) (n pc:Nat) (ta:Option Addr) (tn tc:Nat) (F:(Nat→Nat)→Int) (bs bd:Nat) (seed t:Nat) (ht:t≤16) (w:World) (hsc:sF w pa n pc ta tn tc F) (hbs:w.rangeAt bs 0 [.slice pa n pc,.slice ta tn tc]) (hbd:w.cell? ⟨bd,0,none⟩=some (.int .u64 (seed:Nat))) :
  Calls Try.prog 36 #[.int .i64 (t:Nat),.pointer (some ⟨bs,0,none⟩),.pointer (some ⟨bd,0,none⟩)] w fun e w'=>∃k,Jm.Ups F (Jm.bgK ((seed+t) % 18446744073709551616) 25) k∧e=.returned (.agg (ints 28 (clF (Pm.up k) (F k) t)))∧Below w.heap.size w w':=by
 obtain ⟨s,hss⟩:∃s,s=(seed+t) % 18446744073709551616:=⟨_,rfl⟩
 have HU0:=(show Hid (IntKind.u64.wrap ((seed:Int)+(t:Int))=(s:Int)) from by
  show IntKind.u64.wrap ((seed:Int)+(t:Int))=(s:Int)
  rw[IntKind.wrap_u64]
  omega)
 have HSL:=(show Hid (s<18446744073709551616) from (by show s<18446744073709551616;omega))
 rw[←hss]
 clear hss
 have HSC:=(show Hid _ from hsc)
 have HBS:=(show Hid (w.rangeAt bs 0 [.slice pa n pc,.slice ta tn tc]) from hbs)
 have HBD:=(show Hid (w.cell? ⟨bd,0,none⟩=some (.int .u64 (seed:Nat))) from hbd)
 clear hsc hbs hbd
 have hr:=ai.new w 43 (ints 28 fun _=>0)
 have hb:Below w.heap.size w (w.alloc (.cells (ints 28 fun _=>0) 43)):=(Below.refl _ w).alloc (Nat.le_refl _) _
 go_enter Try.func36,Try.ntmps36
 go_upto_region 1 with fail
 rw[su]
 obtain ⟨V0,hV0⟩:∃V,V=w.alloc (.cells (ints 28 fun _=>0) 43):=⟨_,rfl⟩
 rw[←hV0] at hr hb ⊢
 clear hV0
 refine wp_region_noPanic ?_
 refine wp_region_held_drew (S:=fun W=>ai W w.heap.size 43 (ints 28 fun _=>0)∧Below w.heap.size w W) (by kernel_rfl) ⟨hr,hb.drew⟩ (fun hS=>?_)
 obtain ⟨Z,hZ⟩:∃x,x=V0.drew:=⟨_,rfl⟩
 rw[←hZ] at hS ⊢
 clear hZ hr hb
 refine vtk 0 8 (.agg #[.slice pa n pc,.slice ta tn tc]) rfl (fun W hW=>by have u:=run_loadAt_mid (P:=Try.prog) W bs 0 66 [.slice pa n pc,.slice ta tn tc] _ (Below.rangeAt hW.2 HBS.out (cD (HBS.out 0 _ rfl))) Try.underlying66 rfl cE;clear hS hW;simp[execOp,Act.eval,u]) hS ?_
 simp only[zsA,zsB,zsC]
 refine vtk 1 9 (.int .u64 (seed:Nat)) rfl (fun W hW=>by have u:=(hW.2.cell (p:=⟨bd,0,none⟩) (cD HBD.out)).trans HBD.out;clear hS hW;go_simp) hS ?_
 simp only[zsA,zsB,zsC]
 refine vtk 2 10 (.int .i64 (t:Nat)) rfl (fun W hW=>by clear hS hW;go_simp) hS ?_
 simp only[zsA,zsB,zsC]
 refine vtk 3 11 (.int .u64 (t:Nat)) rfl (fun W hW=>by have u1:IntKind.u64.wrap ((t:Nat):Int)=(t:Int):=(by rw[IntKind.wrap_u64];omega);clear hS hW;go_simp) hS ?_
 simp only[zsA,zsB,zsC]
 refine vtk 4 12 (.int .u64 (s:Nat)) rfl (fun W hW=>by have u1:=HU0.out;clear hS hW;simp[execOp,Act.eval,go_sem,u1]) hS ?_
 simp only[zsA,zsB,zsC]
 refine wpAnyH_ready (rs:=[5,10]) (by kernel_rfl) (by simp) ?_
 refine AllReadyH.cons (o:=_) rfl (fun K hK=>?_) (AllReadyH.cons (o:=_) rfl (fun K hK=>?_) AllReadyH.nil)
 ·rw[if_pos (by rfl)]
  go_simp
  refine Calls.mono (mZ s HSL.out _) ?_
  rintro e Y ⟨rfl,hbY⟩
  refine hK.out _ _ ⟨ai.below hS.1 hbY (ai.lt hS.1),hS.2.trans (hbY.mono hS.2.size)⟩ (fun hS1=>?_)
  clear hbY
  clear hK hS K
  have hS:=hS1
  clear hS1
  refine wpAnyH_ready (rs:=[6,10]) (by kernel_rfl) (by simp) ?_
  refine AllReadyH.cons (o:=_) rfl (fun K hK=>?_) (AllReadyH.cons (o:=_) rfl (fun K hK=>?_) AllReadyH.nil)
  ·rw[if_pos (by rfl)]
   go_simp
   refine Calls.mono (lV pa n pc ta tn tc F (Jm.bgK s 25) (Jm.ko s 25 (Nat.le_refl _)) _ (HSC.out.below hS.2)) ?_
   rintro e Y2 ⟨k,hups,rfl,hbY⟩
   have HUPS:=(show Hid _ from hups)
   refine hK.out _ _ ⟨ai.below hS.1 hbY (ai.lt hS.1),hS.2.trans (hbY.mono hS.2.size)⟩ (fun hS1=>?_)
   clear hbY hups
   clear hK hS K
   have hS:=hS1
   clear hS1
   refine vtk 7 7 (.tuple #[.agg (ints 26 (Pm.up k)),.int .i64 (F k)]) rfl (fun W hW=>by clear hS hW;go_simp) hS ?_
   simp only[zsA,zsB,zsC]
   refine vtk 8 15 (.agg (ints 26 (Pm.up k))) rfl (fun W hW=>by clear hS hW;go_simp) hS ?_
   simp only[zsA,zsB,zsC]
   refine vtk 9 16 (.int .i64 (F k)) rfl (fun W hW=>by clear hS hW;go_simp) hS ?_
   simp only[zsA,zsB,zsC]
   refine rd1 10 rfl (fun K hK=>?_)
   go_simp
   try rw[ej]
   have hq:=ai.new Y2 38 (ints 26 fun _=>0)
   have hql:=hS.2.size
   have hqn:w.heap.size<Y2.heap.size:=ai.lt hS.1
   refine hK.out _ _ ⟨ai.alloc hS.1 _,hS.2.alloc hS.2.size _⟩ (fun hS1=>?_)
   clear hK hS K
   have hS:=hS1
   clear hS1
   obtain ⟨q,hqq⟩:∃x,x=Y2.heap.size:=⟨_,rfl⟩
   rw[←hqq] at hq hql hqn ⊢
   obtain ⟨V,hVV⟩:∃x,x=Y2.alloc (.cells (ints 26 fun _=>0) 38):=⟨_,rfl⟩
   rw[←hVV] at hq hS ⊢
   clear hqq hVV
   refine rU 11 _ (by kernel_rfl) rfl (by kernel_rfl) 38 (Operand.tmp 5) (Operand.tmp 15) rfl q (ints 26 (Pm.up k)) rfl rfl 38 _ hq (by rw[af];exact aC) (by simp only[af]) (aS _ _) rfl ⟨ai.ck hS.1 _ _ (by omega),Below.setRow hS.2 q hql _⟩ (fun hS1=>?_)
   have hq2:=hq.row (ints 26 (Pm.up k))
   clear hS hq
   have hS:=hS1
   clear hS1
   obtain ⟨z,hz⟩:∃z,z=F k:=⟨_,rfl⟩
   have HZ:=(show Hid (z=F k) from hz)
   rw[←hz]
   clear hz
   refine vtk 12 6 (.int .i64 z) rfl (fun W hW=>by clear hS hW;go_simp) hS ?_
   simp only[zsA,zsB,zsC]
   refine wpAnyH_done (by kernel_rfl) ?_ _
   refine NoPanic.normal ?_
   have hr0:=hS.1
   have HB:=(show Hid _ from hS.2)
   clear hS
   go_wp2_with (first | refine wpList_load_row rfl 38 _ rfl (q) rfl 38 (ints 26 (Pm.up k)) (0,0) _ hq2 Try.underlying38 rfl (by rw[af];exact aC) ?_ | refine dU rfl 43 [(0,.tmp 17),(1,.tmp 18),(2,.tmp 19)] rfl [(0,.agg (ints 26 (Pm.up k))),(1,.int .i64 z),(2,.int .i64 (t:Nat))] rfl _ (fI (Pm.up k) z t) ?_ | refine wpList_store_row rfl 43 _ _ rfl w.heap.size (ints 28 (clF (Pm.up k) z t)) rfl rfl 43 _ hr0 (by rw[af];exact cx) (by simp only[af]) (aS _ _) ?_)
   exact bodyPost_ret (v:=.agg (ints 28 (clF (Pm.up k) z t))) (results_cell_row rfl _ _ w.heap.size 43 _ (0,0) _ rfl (ai.row hr0 _) Try.underlying43 rfl (by rw[af];exact cx)) rfl ⟨k,HUPS.out,by rw[HZ.out],Below.setRow HB.out _ (Nat.le_refl _) _⟩
  ·rw[if_pos (by rfl)]
   go_simp
   try rw[ej]
   have hq:=ai.new Y 38 (ints 26 fun _=>0)
   have hql:=hS.2.size
   have hqn:w.heap.size<Y.heap.size:=ai.lt hS.1
   refine hK.out _ _ ⟨ai.alloc hS.1 _,hS.2.alloc hS.2.size _⟩ (fun hS1=>?_)
   clear hK hS K
   have hS:=hS1
   clear hS1
   obtain ⟨q,hqq⟩:∃x,x=Y.heap.size:=⟨_,rfl⟩
   rw[←hqq] at hq hql hqn ⊢
   obtain ⟨V,hVV⟩:∃x,x=Y.alloc (.cells (ints 26 fun _=>0) 38):=⟨_,rfl⟩
   rw[←hVV] at hq hS ⊢
   clear hqq hVV
   refine rd1 6 rfl (fun K hK=>?_)
   go_simp
   refine Calls.mono (lV pa n pc ta tn tc F (Jm.bgK s 25) (Jm.ko s 25 (Nat.le_refl _)) _ (HSC.out.below hS.2)) ?_
   rintro e Y2 ⟨k,hups,rfl,hbY⟩
   have HUPS:=(show Hid _ from hups)
   refine hK.out _ _ ⟨ai.below hS.1 hbY (ai.lt hS.1),hS.2.trans (hbY.mono hS.2.size)⟩ (fun hS1=>?_)
   have hq1:=ai.below hq hbY (ai.lt hq)
   clear hq
   have hq:=hq1
   clear hq1
   clear hbY hups
   clear hK hS K
   have hS:=hS1
   clear hS1
   refine vtk 7 7 (.tuple #[.agg (ints 26 (Pm.up k)),.int .i64 (F k)]) rfl (fun W hW=>by clear hS hW;go_simp) hS ?_
   simp only[zsA,zsB,zsC]
   refine vtk 8 15 (.agg (ints 26 (Pm.up k))) rfl (fun W hW=>by clear hS hW;go_simp) hS ?_
   simp only[zsA,zsB,zsC]
   refine vtk 9 16 (.int .i64 (F k)) rfl (fun W hW=>by clear hS hW;go_simp) hS ?_
   simp only[zsA,zsB,zsC]
   refine rU 11 _ (by kernel_rfl) rfl (by kernel_rfl) 38 (Operand.tmp 5) (Operand.tmp 15) rfl q (ints 26 (Pm.up k)) rfl rfl 38 _ hq (by rw[af];exact aC) (by simp only[af]) (aS _ _) rfl ⟨ai.ck hS.1 _ _ (by omega),Below.setRow hS.2 q hql _⟩ (fun hS1=>?_)
   have hq2:=hq.row (ints 26 (Pm.up k))
   clear hS hq
   have hS:=hS1
   clear hS1
   obtain ⟨z,hz⟩:∃z,z=F k:=⟨_,rfl⟩
   have HZ:=(show Hid (z=F k) from hz)
   rw[←hz]
   clear hz
   refine vtk 12 6 (.int .i64 z) rfl (fun W hW=>by clear hS hW;go_simp) hS ?_
   simp only[zsA,zsB,zsC]
   refine wpAnyH_done (by kernel_rfl) ?_ _
   refine NoPanic.normal ?_
   have hr0:=hS.1
   have HB:=(show Hid _ from hS.2)
   clear hS
   go_wp2_with (first | refine wpList_load_row rfl 38 _ rfl (q) rfl 38 (ints 26 (Pm.up k)) (0,0) _ hq2 Try.underlying38 rfl (by rw[af];exact aC) ?_ | refine dU rfl 43 [(0,.tmp 17),(1,.tmp 18),(2,.tmp 19)] rfl [(0,.agg (ints 26 (Pm.up k))),(1,.int .i64 z),(2,.int .i64 (t:Nat))] rfl _ (fI (Pm.up k) z t) ?_ | refine wpList_store_row rfl 43 _ _ rfl w.heap.size (ints 28 (clF (Pm.up k) z t)) rfl rfl 43 _ hr0 (by rw[af];exact cx) (by simp only[af]) (aS _ _) ?_)
   exact bodyPost_ret (v:=.agg (ints 28 (clF (Pm.up k) z t))) (results_cell_row rfl _ _ w.heap.size 43 _ (0,0) _ rfl (ai.row hr0 _) Try.underlying43 rfl (by rw[af];exact cx)) rfl ⟨k,HUPS.out,by rw[HZ.out],Below.setRow HB.out _ (Nat.le_refl _) _⟩
 ·rw[if_pos (by rfl)]
  go_simp
  try rw[ej]
  have hq:=ai.new Z 38 (ints 26 fun _=>0)
  have hql:=hS.2.size
  have hqn:w.heap.size<Z.heap.size:=ai.lt hS.1
  refine hK.out _ _ ⟨ai.alloc hS.1 _,hS.2.alloc hS.2.size _⟩ (fun hS1=>?_)
  clear hK hS K
  have hS:=hS1
  clear hS1
  obtain ⟨q,hqq⟩:∃x,x=Z.heap.size:=⟨_,rfl⟩
  rw[←hqq] at hq hql hqn ⊢
  obtain ⟨V,hVV⟩:∃x,x=Z.alloc (.cells (ints 26 fun _=>0) 38):=⟨_,rfl⟩
  rw[←hVV] at hq hS ⊢
  clear hqq hVV
  refine rd1 5 rfl (fun K hK=>?_)
  go_simp
  refine Calls.mono (mZ s HSL.out _) ?_
  rintro e Y ⟨rfl,hbY⟩
  refine hK.out _ _ ⟨ai.below hS.1 hbY (ai.lt hS.1),hS.2.trans (hbY.mono hS.2.size)⟩ (fun hS1=>?_)
  have hq1:=ai.below hq hbY (ai.lt hq)
  clear hq
  have hq:=hq1
  clear hq1
  clear hbY
  clear hK hS K
  have hS:=hS1
  clear hS1
  refine rd1 6 rfl (fun K hK=>?_)
  go_simp
  refine Calls.mono (lV pa n pc ta tn tc F (Jm.bgK s 25) (Jm.ko s 25 (Nat.le_refl _)) _ (HSC.out.below hS.2)) ?_
  rintro e Y2 ⟨k,hups,rfl,hbY⟩
  have HUPS:=(show Hid _ from hups)
  refine hK.out _ _ ⟨ai.below hS.1 hbY (ai.lt hS.1),hS.2.trans (hbY.mono hS.2.size)⟩ (fun hS1=>?_)
  have hq1:=ai.below hq hbY (ai.lt hq)
  clear hq
  have hq:=hq1
  clear hq1
  clear hbY hups
  clear hK hS K
  have hS:=hS1
  clear hS1
  refine vtk 7 7 (.tuple #[.agg (ints 26 (Pm.up k)),.int .i64 (F k)]) rfl (fun W hW=>by clear hS hW;go_simp) hS ?_
  simp only[zsA,zsB,zsC]
  refine vtk 8 15 (.agg (ints 26 (Pm.up k))) rfl (fun W hW=>by clear hS hW;go_simp) hS ?_
  simp only[zsA,zsB,zsC]
  refine vtk 9 16 (.int .i64 (F k)) rfl (fun W hW=>by clear hS hW;go_simp) hS ?_
  simp only[zsA,zsB,zsC]
  refine rU 11 _ (by kernel_rfl) rfl (by kernel_rfl) 38 (Operand.tmp 5) (Operand.tmp 15) rfl q (ints 26 (Pm.up k)) rfl rfl 38 _ hq (by rw[af];exact aC) (by simp only[af]) (aS _ _) rfl ⟨ai.ck hS.1 _ _ (by omega),Below.setRow hS.2 q hql _⟩ (fun hS1=>?_)
  have hq2:=hq.row (ints 26 (Pm.up k))
  clear hS hq
  have hS:=hS1
  clear hS1
  obtain ⟨z,hz⟩:∃z,z=F k:=⟨_,rfl⟩
  have HZ:=(show Hid (z=F k) from hz)
  rw[←hz]
  clear hz
  refine vtk 12 6 (.int .i64 z) rfl (fun W hW=>by clear hS hW;go_simp) hS ?_
  simp only[zsA,zsB,zsC]
  refine wpAnyH_done (by kernel_rfl) ?_ _
  refine NoPanic.normal ?_
  have hr0:=hS.1
  have HB:=(show Hid _ from hS.2)
  clear hS
  go_wp2_with (first | refine wpList_load_row rfl 38 _ rfl (q) rfl 38 (ints 26 (Pm.up k)) (0,0) _ hq2 Try.underlying38 rfl (by rw[af];exact aC) ?_ | refine dU rfl 43 [(0,.tmp 17),(1,.tmp 18),(2,.tmp 19)] rfl [(0,.agg (ints 26 (Pm.up k))),(1,.int .i64 z),(2,.int .i64 (t:Nat))] rfl _ (fI (Pm.up k) z t) ?_ | refine wpList_store_row rfl 43 _ _ rfl w.heap.size (ints 28 (clF (Pm.up k) z t)) rfl rfl 43 _ hr0 (by rw[af];exact cx) (by simp only[af]) (aS _ _) ?_)
  exact bodyPost_ret (v:=.agg (ints 28 (clF (Pm.up k) z t))) (results_cell_row rfl _ _ w.heap.size 43 _ (0,0) _ rfl (ai.row hr0 _) Try.underlying43 rfl (by rw[af];exact cx)) rfl ⟨k,HUPS.out,by rw[HZ.out],Below.setRow HB.out _ (Nat.le_refl _) _⟩
end
end Go.Proofs.Ytpdemelchhkfaaa
