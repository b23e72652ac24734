import Derived.Test.YtpdemelchhkfaaaJn13
namespace Go.Proofs.Ytpdemelchhkfaaa
section
open Go.RowKit PK
namespace Jm
def lcg (s:Nat):Nat:=(6364136223846793005*s+1442695040888963407) % 18446744073709551616
def bgS (s:Nat):Nat→Nat
 | 0=>s
 | j+1=>lcg (bgS s j)
def bgI (s j:Nat):Nat:=(bgS s (j+1) / 8589934592) % (26-j)
def bgK (s:Nat):Nat→K
 | 0=>fun i=>i
 | j+1=>sw (bgK s j) (25-j) (bgI s j)
theorem BC (s:Nat):lcg s<18446744073709551616:=Nat.mod_lt _ (by decide)
theorem xz {s:Nat} (hs:s<18446744073709551616):∀j,bgS s j<18446744073709551616
 | 0=>hs
 | _+1=>BC _
theorem sH (s:Nat) {j:Nat} (h:j<26):bgI s j<26-j:=Nat.mod_lt _ (by omega)
theorem j5 (s:Nat):∀j,j≤25→∀i,i<26→bgK s j i<26
 | 0,_=>fun _ h=>h
 | j+1,h=>kN (j5 s j (by omega)) (by omega) (by have:=sH s (j:=j) (by omega);omega)
end Jm
theorem oH (key:Nat→Nat) (a b:Nat):((ints 26 (Pm.up key)).setIfInBounds a (.int .i64 (key b:Nat))).setIfInBounds b (.int .i64 (key a:Nat))=ints 26 (Pm.up (Jm.sw key a b)):=by
 by_cases hab:a=b
 ·subst hab
  rw[ints_set,ints_set]
  refine eO fun i _=>?_
  unfold upd Pm.up Jm.sw
  by_cases h1:i=a
  ·rw[if_pos h1,if_pos h1]
  ·rw[if_neg h1,if_neg h1,if_neg h1,if_neg h1]
 ·exact yO key a b hab
section
variable {P:Program} {ops:Array Oper} {rest:List Oper} {op:Oper} {a:Act} {w:World} {Q:Exit→Act→World→Prop}
theorem kU (hgd:op.guard=none) (t t':TypeId) (x y:Operand) (ho:op.op=.binOp .mul t x y t') (c d m:Int) (hx:a.eval x=.int .u64 c) (hy:a.eval y=.int .u64 d) (hm:IntKind.u64.wrap (c*d)=m)
  (h:wpList P ops Q rest (a.put op.dst (.int .u64 m)) w):wpList P ops Q (op :: rest) a w :=
 wpList_plain hgd fun _ hK=>by
  unfold Oper.wp execOp
  simp[ho,hx,hy,eqGuard,binOp,Op.intArith,hm]
  exact hK _ _ h
theorem gZ (hgd:op.guard=none) (t t':TypeId) (x y:Operand) (ho:op.op=.binOp .add t x y t') (c d m:Int) (hx:a.eval x=.int .u64 c) (hy:a.eval y=.int .u64 d) (hm:IntKind.u64.wrap (c+d)=m)
  (h:wpList P ops Q rest (a.put op.dst (.int .u64 m)) w):wpList P ops Q (op :: rest) a w :=
 wpList_plain hgd fun _ hK=>by
  unfold Oper.wp execOp
  simp[ho,hx,hy,eqGuard,binOp,Op.intArith,hm]
  exact hK _ _ h
end
set_option maxRecDepth 100000 in
set_option maxHeartbeats 8000000 in
theorem mq (s:Nat) (hs:s<18446744073709551616) (w:World):Calls Try.prog 38 #[.int .u64 (s:Nat)] w fun e w'=>e=.returned (.agg (ints 26 (Pm.up (Jm.bgK s 25))))∧Below w.heap.size w w':=by
 have HS:=(show Hid _ from Jm.xz hs)
 clear hs
 go_enter Try.func38,Try.ntmps38
 go_wp2_with fail
 rw[dh]
 have hr0:=ai.new w 38 (ints 26 fun _=>0)
 have hb0:Below w.heap.size w (w.alloc (.cells (ints 26 fun _=>0) 38)):=(Below.refl _ w).alloc (Nat.le_refl _) _
 obtain ⟨V0,hV0⟩:∃V,V=w.alloc (.cells (ints 26 fun _=>0) 38):=⟨_,rfl⟩
 rw[←hV0] at hr0 hb0 ⊢
 clear hV0
 refine (yg V0).mono ?_
 rintro e V1 ⟨rfl,hb1⟩
 have hr1:=hr0.below hb1 hr0.lt
 have hb2:=hb0.trans (hb1.mono hb0.size)
 clear hb1 hb0 hr0
 have hq0:=ai.new V1 38 (ints 26 fun _=>0)
 have hq:=hq0.row (ints 26 (Pm.up fun i=>i))
 have hlt1:=hr1.lt
 have hr3:=(hr1.alloc (.cells (ints 26 fun _=>0) 38)).bI V1.heap.size (ints 26 (Pm.up fun i=>i)) (by omega)
 have hb3:=Below.setRow (hb2.alloc hb2.size (.cells (ints 26 fun _=>0) 38)) V1.heap.size hb2.size (ints 26 (Pm.up fun i=>i))
 go_upto_region 2 with (first | refine wpList_store_row rfl 38 _ _ rfl (V1.heap.size) (ints 26 (Pm.up fun i=>i)) rfl rfl 38 _ hq0 (by rw[af];exact an) (by simp only[af]) (aH _ _) ?_)
 try rw[dh]
 obtain ⟨V2,hV2⟩:∃V,V=(V1.alloc (.cells (ints 26 fun _=>0) 38)).setRow V1.heap.size (ints 26 (Pm.up fun i=>i)):=⟨_,rfl⟩
 rw[←hV2] at hq hr3 hb3 ⊢
 have hnq:w.heap.size<V1.heap.size:=hlt1
 clear hV2 hr1 hb2 hq0 hlt1
 generalize V1.heap.size=q at *
 go_wp2_with fail
 go_loopw [0,4] (fun o x W=>∃j i:Nat,j+i=25∧x=.int .i64 (i:Nat)∧o=.int .u64 (Jm.bgS s j:Nat)∧ai W w.heap.size 38 (ints 26 fun _=>0)∧ai W q 38 (ints 26 (Pm.up (Jm.bgK s j)))∧Below w.heap.size w W) (fun _ x _=>(intOf x).toNat)
 case atStart=>exact ⟨0,25,rfl,rfl,rfl,hr3,hq,hb3⟩
 case round =>
  clear hr3 hq hb3
  obtain ⟨j,i,hj,rfl,rfl,hr,hq,hb⟩:=hrel
  by_cases hlt:0<i
  case neg =>
   obtain rfl:j=25:=by omega
   obtain rfl:i=0:=by omega
   have HB:=(show Hid _ from hb)
   obtain ⟨k,hkk⟩:∃k,k=Jm.bgK s 25:=⟨_,rfl⟩
   have HKK:=(show Hid (k=Jm.bgK s 25) from hkk)
   rw[←hkk] at hq
   clear hb hlt hj hkk
   go_wp2_with (first | refine wpList_load_row rfl 38 _ rfl (q) rfl 38 (ints 26 (Pm.up k)) (0,0) _ hq Try.underlying38 rfl (by rw[af];exact an) ?_ | refine wpList_store_row rfl 38 _ _ rfl (w.heap.size) (ints 26 (Pm.up k)) rfl rfl 38 _ hr (by rw[af];exact an) (by simp only[af]) (aH _ _) ?_)
   exact bodyPost_ret (v:=.agg (ints 26 (Pm.up k))) (results_cell_row rfl _ _ w.heap.size 38 _ (0,0) _ rfl (hr.row _) Try.underlying38 rfl (by rw[af];exact an)) rfl ⟨by rw[HKK.out],Below.setRow HB.out _ (Nat.le_refl _) _⟩
  have HLT:Hid (0<i∧j+i=25):=⟨hlt,hj⟩
  have hi25:i≤25:=by omega
  have HSJ:=(show Hid _ from HS.out j)
  have HN:Hid (Jm.bgS s (j+1)=Jm.lcg (Jm.bgS s j)):=rfl
  obtain ⟨S,hS⟩:∃S,S=Jm.bgS s j:=⟨_,rfl⟩
  rw[←hS] at HSJ HN ⊢
  have hSl:=HSJ.out
  have HNEW:=(show Hid (ai wr q 38 (ints 26 (Pm.up (Jm.bgK s j)))∧ai wr w.heap.size 38 (ints 26 fun _=>0)∧Below w.heap.size w wr) from ⟨hq,hr,hb⟩)
  clear hS hr hb hq hj
  obtain ⟨M,hM⟩:∃M,M=6364136223846793005*S % 18446744073709551616:=⟨_,rfl⟩
  obtain ⟨S2,hS2⟩:∃S2,S2=Jm.bgS s (j+1):=⟨_,rfl⟩
  have u1:IntKind.u64.wrap (6364136223846793005*(S:Int))=(M:Int):=by rw[IntKind.wrap_u64];omega
  have u2:IntKind.u64.wrap ((M:Int)+1442695040888963407)=(S2:Int):=by
   rw[hS2,HN.out,Jm.lcg,IntKind.wrap_u64]
   omega
  have HS2:=(show Hid (S2=Jm.bgS s (j+1)) from hS2)
  have HU1:=(show Hid (IntKind.u64.wrap (6364136223846793005*(S:Int))=(M:Int)) from u1)
  have HU2:=(show Hid (IntKind.u64.wrap ((M:Int)+1442695040888963407)=(S2:Int)) from u2)
  clear hM hS2 u1 u2 hSl
  go_upto_region 6 with (first | refine kU rfl _ _ _ _ rfl 6364136223846793005 (S:Nat) (M:Nat) rfl rfl HU1.out ?_ | refine gZ rfl _ _ _ _ rfl (M:Nat) 1442695040888963407 (S2:Nat) rfl rfl HU2.out ?_)
  clear HU1 HU2 HN HSJ
  go_upto_region 7 with fail
  obtain ⟨k,hk⟩:∃k,k=Jm.bgI s j:=⟨_,rfl⟩
  have hk0:(S2:Int) / 8589934592 % ((i:Int)+1)=(k:Int):=by
   have hT:(S2:Int) / 8589934592=((S2 / 8589934592:Nat):Int):=by omega
   rw[hT,hk,Jm.bgI,←HS2.out,show 26-j=i+1 by have:=HLT.out;omega,show ((i:Int)+1)=((i+1:Nat):Int) from rfl]
   exact (Int.natCast_emod _ _).symm
  have hki:k<i+1:=by
   rw[hk]
   have:=Jm.sH s (j:=j) (by have:=HLT.out;omega)
   have:=HLT.out
   omega
  have hk26:k<26:=by omega
  have hi26:i<26:=by omega
  have hk1:wrap64 (k:Int)=(k:Int):=by simp only[wrap64];omega
  rw[hk0,hk1]
  have ik:(k:Int)<26:=by omega
  have ii:(i:Int)<26:=by omega
  have HKJ:=(show Hid (Jm.bgK s (j+1)=Jm.sw (Jm.bgK s j) i k) from by rw[hk];show Jm.sw _ (25-j) _=_;rw[show 25-j=i by have:=HLT.out;omega])
  obtain ⟨key,hkey⟩:∃key,key=Jm.bgK s j:=⟨_,rfl⟩
  rw[←hkey] at HKJ HNEW
  have hq:=HNEW.out.1
  have ca:=hq.cell (aG (Pm.up key) hi26)
  have cb:=hq.cell (aG (Pm.up key) hk26)
  have fa:=hq.frozen i
  have fb:=hq.frozen k
  obtain ⟨vi,hvi⟩:∃v,v=Pm.up key i:=⟨_,rfl⟩
  obtain ⟨vk,hvk⟩:∃v,v=Pm.up key k:=⟨_,rfl⟩
  rw[←hvi] at ca
  rw[←hvk] at cb
  have HVI:=(show Hid _ from hvi)
  have HVK:=(show Hid _ from hvk)
  have HNQ:=(show Hid (w.heap.size<q) from hnq)
  have HFIN:Hid (ai (((wr.setCell ⟨q,i,none⟩ (.int .i64 vk)).setCell ⟨q,k,none⟩ (.int .i64 vi)).drew) w.heap.size 38 (ints 26 fun _=>0)∧ai (((wr.setCell ⟨q,i,none⟩ (.int .i64 vk)).setCell ⟨q,k,none⟩ (.int .i64 vi)).drew) q 38 (ints 26 (Pm.up (Jm.bgK s (j+1))))∧Below w.heap.size w (((wr.setCell ⟨q,i,none⟩ (.int .i64 vk)).setCell ⟨q,k,none⟩ (.int .i64 vi)).drew)):=by
   refine ⟨?_,?_,?_⟩
   ·exact ai.drew ((heap_setCell_other _ ⟨q,k,none⟩ w.heap.size _ (by show w.heap.size≠q;omega)).trans ((heap_setCell_other _ ⟨q,i,none⟩ w.heap.size _ (by show w.heap.size≠q;omega)).trans HNEW.out.2.1))
   ·have:=(ai.set HNEW.out.1 i (.int .i64 vk)).set k (.int .i64 vi)
    rw[HVI.out,HVK.out] at this ⊢
    rw[show ((ints 26 (Pm.up key)).setIfInBounds i (.int .i64 (Pm.up key k))).setIfInBounds k (.int .i64 (Pm.up key i))=ints 26 (Pm.up (Jm.sw key i k)) from oH key i k,←HKJ.out] at this
    exact this.drew
   ·exact ((HNEW.out.2.2.setCell (p:=⟨q,i,none⟩) (by show w.heap.size≤q;omega) _).setCell (p:=⟨q,k,none⟩) (by show w.heap.size≤q;omega) _).drew
  clear hvi hvk hkey hk hk0 hk1 hq hnq hki HNEW
  by_cases hne:i=k
  ·subst hne
   have HE:=(show Hid (vi=vk) from (by show vi=vk;rw[HVI.out,HVK.out]))
   clear cb fb HVI HVK
   obtain rfl:vi=vk:=HE.out
   go_region
   all_goals
    go_wp2_with fail
    go_roundw
    case rel=>exact ⟨j+1,i-1,by have:=HLT.out;omega,by have:=HLT.out;go_num,by rw[HS2.out],HFIN.out.1,HFIN.out.2.1,HFIN.out.2.2⟩
    case measure=>have:=HLT.out;simp[intOf];omega
  ·go_region
   all_goals
    go_wp2_with fail
    go_roundw
    case rel=>exact ⟨j+1,i-1,by have:=HLT.out;omega,by have:=HLT.out;go_num,by rw[HS2.out],HFIN.out.1,HFIN.out.2.1,HFIN.out.2.2⟩
    case measure=>have:=HLT.out;simp[intOf];omega
end
section
open Go.RowKit PK
set_option maxRecDepth 100000 in
set_option maxHeartbeats 8000000 in
theorem vX (key:Nat→Nat) (a b:Nat) (ha:a<26) (hb:b<26) (hne:a≠b) (w:World):Calls Try.prog 56 #[.agg (ints 26 (Pm.up key)),.int .i64 (a:Nat),.int .i64 (b:Nat)] w fun e w'=>e=.returned (.agg (ints 26 (Pm.up (Jm.sw key a b))))∧Below w.heap.size w w':=by
 have hr0:=ai.new w 38 (ints 26 (Pm.up key))
 have hb0:Below w.heap.size w (w.alloc (.cells (ints 26 (Pm.up key)) 38)):=(Below.refl _ w).alloc (Nat.le_refl _) _
 have hs0:(w.alloc (.cells (ints 26 (Pm.up key)) 38)).heap.size=w.heap.size+1:=by simp
 go_enter Try.func56,Try.ntmps56
 go_upto_region 1 with fail
 rw[dh]
 obtain ⟨V0,hV0⟩:∃V,V=w.alloc (.cells (ints 26 (Pm.up key)) 38):=⟨_,rfl⟩
 rw[←hV0] at hr0 hb0 hs0 ⊢
 clear hV0
 have hr1:=ai.new V0 38 (ints 26 fun _=>0)
 have hr01:=hr0.alloc (.cells (ints 26 fun _=>0) 38)
 have hb1:=hb0.alloc (by omega) (.cells (ints 26 fun _=>0) 38)
 rw[hs0] at hr1
 obtain ⟨V1,hV1⟩:∃V,V=V0.alloc (.cells (ints 26 fun _=>0) 38):=⟨_,rfl⟩
 rw[←hV1] at hr1 hr01 hb1 ⊢
 clear hV1 hr0 hb0 hs0
 have ia:(a:Int)<26:=by omega
 have ib:(b:Int)<26:=by omega
 have HV:=(show Hid (ai V1.drew w.heap.size 38 (ints 26 (Pm.up key))∧ai V1.drew (w.heap.size+1) 38 (ints 26 fun _=>0)∧Below w.heap.size w V1.drew) from ⟨hr01,hr1,hb1.drew⟩)
 have ca:=hr01.cell (aG (Pm.up key) ha)
 have cb:=hr01.cell (aG (Pm.up key) hb)
 obtain ⟨va,hva⟩:∃v,v=Pm.up key a:=⟨_,rfl⟩
 obtain ⟨vb,hvb⟩:∃v,v=Pm.up key b:=⟨_,rfl⟩
 rw[←hva] at ca
 rw[←hvb] at cb
 have HVA:=(show Hid (va=Pm.up key a) from hva)
 have HVB:=(show Hid (vb=Pm.up key b) from hvb)
 clear hr01 hr1 hb1 hva hvb
 go_region
 all_goals
  obtain ⟨V2,hV2⟩:∃V,V=V1.drew:=⟨_,rfl⟩
  rw[←hV2] at HV ⊢
  clear ca cb hV2
  have ca:=ai.cell HV.out.1 (aG (Pm.up key) ha)
  have cb:=ai.cell HV.out.1 (aG (Pm.up key) hb)
  have fa:=ai.frozen HV.out.1 a
  have fb:=ai.frozen HV.out.1 b
  have hrow:ai ((V2.setCell ⟨w.heap.size,a,none⟩ (.int .i64 vb)).setCell ⟨w.heap.size,b,none⟩ (.int .i64 va)) w.heap.size 38 (ints 26 (Pm.up (Jm.sw key a b))):=by
   have:=(ai.set HV.out.1 a (.int .i64 vb)).set b (.int .i64 va)
   rw[HVA.out,HVB.out] at this ⊢
   rw[show ((ints 26 (Pm.up key)).setIfInBounds a (.int .i64 (Pm.up key b))).setIfInBounds b (.int .i64 (Pm.up key a))=ints 26 (Pm.up (Jm.sw key a b)) from oH key a b] at this
   exact this
  have hres:ai ((V2.setCell ⟨w.heap.size,a,none⟩ (.int .i64 vb)).setCell ⟨w.heap.size,b,none⟩ (.int .i64 va)) (w.heap.size+1) 38 (ints 26 fun _=>0) :=
   (heap_setCell_other _ ⟨w.heap.size,b,none⟩ (w.heap.size+1) _ (by show w.heap.size+1≠w.heap.size;omega)).trans ((heap_setCell_other _ ⟨w.heap.size,a,none⟩ (w.heap.size+1) _ (by show w.heap.size+1≠w.heap.size;omega)).trans HV.out.2.1)
  have HBE:=(show Hid (Below w.heap.size w ((V2.setCell ⟨w.heap.size,a,none⟩ (.int .i64 vb)).setCell ⟨w.heap.size,b,none⟩ (.int .i64 va))) from (HV.out.2.2.setCell (p:=⟨w.heap.size,a,none⟩) (Nat.le_refl _) _).setCell (p:=⟨w.heap.size,b,none⟩) (Nat.le_refl _) _)
  go_wp2_with (first | refine wpList_load_row rfl 38 _ rfl (w.heap.size) rfl 38 (ints 26 (Pm.up (Jm.sw key a b))) (0,0) _ hrow Try.underlying38 rfl (by rw[af];exact an) ?_ | refine wpList_store_row rfl 38 _ _ rfl (w.heap.size+1) (ints 26 (Pm.up (Jm.sw key a b))) rfl rfl 38 _ hres (by rw[af];exact an) (by simp only[af]) (aH _ _) ?_)
  exact bodyPost_ret (v:=.agg (ints 26 (Pm.up (Jm.sw key a b)))) (results_cell_row rfl _ _ (w.heap.size+1) 38 _ (0,0) _ rfl (hres.row _) Try.underlying38 rfl (by rw[af];exact an)) rfl ⟨rfl,Below.setRow HBE.out _ (by omega) _⟩
end
section
open Go.RowKit PK
theorem A5 (k:Nat):(ints 26 fun c=>if c<k then (c:Int) else 0).setIfInBounds k (.int .i64 (k:Nat))=ints 26 fun c=>if c<k+1 then (c:Int) else 0:=by
 rw[ints_set]
 refine eO fun i _=>?_
 unfold upd
 by_cases h:i=k
 ·subst h
  rw[if_pos rfl,if_pos (by omega)]
 ·rw[if_neg h]
  show (if i<k then (i:Int) else 0)=_
  by_cases h2:i<k
  ·rw[if_pos h2,if_pos (by omega)]
  ·rw[if_neg h2,if_neg (by omega)]
set_option maxRecDepth 100000 in
set_option maxHeartbeats 8000000 in
theorem sC (seed t:Nat) (ht:t≤16) (w:World):Calls Try.prog 40 #[.int .u64 (seed:Nat),.int .i64 (t:Nat)] w fun e w'=>e=.returned (.agg (ints 26 (Pm.up (Jm.bgK ((seed+t) % 18446744073709551616) 25))))∧Below w.heap.size w w':=by
 obtain ⟨s,hss⟩:∃s,s=(seed+t) % 18446744073709551616:=⟨_,rfl⟩
 have HSS:=(show Hid (s=(seed+t) % 18446744073709551616) from hss)
 have HU0:=(show Hid (IntKind.u64.wrap ((seed:Int)+(t:Int))=(s:Int)) from by
  show IntKind.u64.wrap ((seed:Int)+(t:Int))=(s:Int)
  rw[IntKind.wrap_u64]
  omega)
 rw[←hss]
 have hs:s<18446744073709551616:=by omega
 have HS:=(show Hid _ from Jm.xz hs)
 clear hs hss
 have hr0:=ai.new w 38 (ints 26 fun _=>0)
 have hb0:Below w.heap.size w (w.alloc (.cells (ints 26 fun _=>0) 38)):=(Below.refl _ w).alloc (Nat.le_refl _) _
 have hs0:(w.alloc (.cells (ints 26 fun _=>0) 38)).heap.size=w.heap.size+1:=by simp
 go_enter Try.func40,Try.ntmps40
 go_upto_region 2 with fail
 rw[dh]
 obtain ⟨V0,hV0⟩:∃V,V=w.alloc (.cells (ints 26 fun _=>0) 38):=⟨_,rfl⟩
 rw[←hV0] at hr0 hb0 hs0 ⊢
 clear hV0
 have hr1:=ai.new V0 38 (ints 26 fun _=>0)
 have hr01:=hr0.alloc (.cells (ints 26 fun _=>0) 38)
 have hb1:=hb0.alloc (by omega) (.cells (ints 26 fun _=>0) 38)
 rw[hs0] at hr1
 obtain ⟨V1,hV1⟩:∃V,V=V0.alloc (.cells (ints 26 fun _=>0) 38):=⟨_,rfl⟩
 rw[←hV1] at hr1 hr01 hb1 ⊢
 clear hV1 hr0 hb0 hs0
 go_wp2_with fail
 go_loopw [12] (fun x W=>∃k:Nat,k≤26∧x=.int .i64 (k:Nat)∧ai W w.heap.size 38 (ints 26 fun _=>0)∧ai W (w.heap.size+1) 38 (ints 26 fun c=>if c<k then (c:Int) else 0)∧Below w.heap.size w W) (fun x _=>((26:Int)-intOf x).toNat)
 case atStart=>exact ⟨0,by omega,rfl,hr01,hr1,hb1⟩
 case round =>
  clear hr01 hr1 hb1
  obtain ⟨k,hk,rfl,hr,hq,hb⟩:=hrel
  by_cases hlt:k<26
  ·have HLT:Hid (k<26):=hlt
   have ik:(k:Int)<26:=by omega
   have ck:=hq.cell (aG _ hlt)
   have fk:=hq.frozen k
   have hrow:=hq.set k (.int .i64 (k:Nat))
   rw[A5] at hrow
   have HN:=(show Hid (ai (wr.setCell ⟨w.heap.size+1,k,none⟩ (.int .i64 (k:Nat))) w.heap.size 38 (ints 26 fun _=>0)∧ai (wr.setCell ⟨w.heap.size+1,k,none⟩ (.int .i64 (k:Nat))) (w.heap.size+1) 38 (ints 26 fun c=>if c<k+1 then (c:Int) else 0)∧Below w.heap.size w (wr.setCell ⟨w.heap.size+1,k,none⟩ (.int .i64 (k:Nat)))) from ⟨(heap_setCell_other _ ⟨w.heap.size+1,k,none⟩ w.heap.size _ (by show w.heap.size≠w.heap.size+1;omega)).trans hr,hrow,hb.setCell (p:=⟨w.heap.size+1,k,none⟩) (by show w.heap.size≤w.heap.size+1;omega) _⟩)
   clear hr hq hb hrow hk
   go_wp2_with fail
   go_roundw
   case rel=>exact ⟨k+1,HLT.out,by go_num,HN.out.1,HN.out.2.1,HN.out.2.2⟩
   case measure=>have:=HLT.out;simp[intOf];omega
  obtain rfl:k=26:=by omega
  have hq0:ai wr (w.heap.size+1) 38 (ints 26 (Pm.up (Jm.bgK s 0))):=by
   rw[show ints 26 (Pm.up (Jm.bgK s 0))=ints 26 fun c=>if c<26 then (c:Int) else 0 from eO fun i hi=>by rw[if_pos hi];rfl]
   exact hq
  have HN:=(show Hid (ai wr w.heap.size 38 (ints 26 fun _=>0)∧ai wr (w.heap.size+1) 38 (ints 26 (Pm.up (Jm.bgK s 0)))∧Below w.heap.size w wr) from ⟨hr,hq0,hb⟩)
  clear hr hq hb hq0 hlt hk
  have it:(t:Int)≤16:=by omega
  go_wp2_with (first | refine gZ rfl _ _ _ _ rfl (seed:Nat) (t:Nat) (s:Nat) rfl rfl HU0.out ?_)
  go_loopw [7,8] (fun o x W=>∃j i:Nat,j+i=25∧x=.int .i64 (i:Nat)∧o=.int .u64 (Jm.bgS s j:Nat)∧ai W w.heap.size 38 (ints 26 fun _=>0)∧ai W (w.heap.size+1) 38 (ints 26 (Pm.up (Jm.bgK s j)))∧Below w.heap.size w W) (fun _ x _=>(intOf x).toNat)
  case atStart=>exact ⟨0,25,rfl,rfl,rfl,HN.out.1,HN.out.2.1,HN.out.2.2⟩
  case round =>
   clear HN HU0 it ht HSS
   obtain ⟨j,i,hj,rfl,rfl,hr,hq,hb⟩:=hrel
   by_cases hlt:0<i
   case neg =>
    obtain rfl:j=25:=by omega
    obtain rfl:i=0:=by omega
    have HB:=(show Hid _ from hb)
    obtain ⟨k,hkk⟩:∃k,k=Jm.bgK s 25:=⟨_,rfl⟩
    have HKK:=(show Hid (k=Jm.bgK s 25) from hkk)
    rw[←hkk] at hq
    clear hb hlt hj hkk
    go_wp2_with (first | refine wpList_load_row rfl 38 _ rfl (w.heap.size+1) rfl 38 (ints 26 (Pm.up k)) (0,0) _ hq Try.underlying38 rfl (by rw[af];exact an) ?_ | refine wpList_store_row rfl 38 _ _ rfl (w.heap.size) (ints 26 (Pm.up k)) rfl rfl 38 _ hr (by rw[af];exact an) (by simp only[af]) (aH _ _) ?_)
    exact bodyPost_ret (v:=.agg (ints 26 (Pm.up k))) (results_cell_row rfl _ _ w.heap.size 38 _ (0,0) _ rfl (hr.row _) Try.underlying38 rfl (by rw[af];exact an)) rfl ⟨by rw[HKK.out],Below.setRow HB.out _ (Nat.le_refl _) _⟩
   have HLT:Hid (0<i∧j+i=25):=⟨hlt,hj⟩
   have hi1:(1:Int)≤(i:Int):=by omega
   have hi25:i≤25:=by omega
   have HSJ:=(show Hid _ from HS.out j)
   have HN:Hid (Jm.bgS s (j+1)=Jm.lcg (Jm.bgS s j)):=rfl
   obtain ⟨S,hS⟩:∃S,S=Jm.bgS s j:=⟨_,rfl⟩
   rw[←hS] at HSJ HN ⊢
   have hSl:=HSJ.out
   have HNEW:=(show Hid (ai wr (w.heap.size+1) 38 (ints 26 (Pm.up (Jm.bgK s j)))∧ai wr w.heap.size 38 (ints 26 fun _=>0)∧Below w.heap.size w wr) from ⟨hq,hr,hb⟩)
   clear hS hr hb hq hj
   obtain ⟨M,hM⟩:∃M,M=6364136223846793005*S % 18446744073709551616:=⟨_,rfl⟩
   obtain ⟨S2,hS2⟩:∃S2,S2=Jm.bgS s (j+1):=⟨_,rfl⟩
   have u1:IntKind.u64.wrap (6364136223846793005*(S:Int))=(M:Int):=by rw[IntKind.wrap_u64];omega
   have u2:IntKind.u64.wrap ((M:Int)+1442695040888963407)=(S2:Int):=by
    rw[hS2,HN.out,Jm.lcg,IntKind.wrap_u64]
    omega
   have HS2:=(show Hid (S2=Jm.bgS s (j+1)) from hS2)
   have HU1:=(show Hid (IntKind.u64.wrap (6364136223846793005*(S:Int))=(M:Int)) from u1)
   have HU2:=(show Hid (IntKind.u64.wrap ((M:Int)+1442695040888963407)=(S2:Int)) from u2)
   clear hM hS2 u1 u2 hSl
   go_upto_region 12 with (first | refine kU rfl _ _ _ _ rfl 6364136223846793005 (S:Nat) (M:Nat) rfl rfl HU1.out ?_ | refine gZ rfl _ _ _ _ rfl (M:Nat) 1442695040888963407 (S2:Nat) rfl rfl HU2.out ?_)
   clear HU1 HU2 HN HSJ
   go_upto_region 13 with fail
   obtain ⟨k,hk⟩:∃k,k=Jm.bgI s j:=⟨_,rfl⟩
   have hw:IntKind.u64.wrap ((S2:Int) / 8589934592)=((S2 / 8589934592:Nat):Int):=by
    have:=HS.out (j+1)
    rw[←HS2.out] at this
    rw[IntKind.wrap_u64]
    omega
   have hk0:((S2 / 8589934592:Nat):Int).tmod ((i:Int)+1)=(k:Int):=by
    rw[hk,Jm.bgI,←HS2.out,show 26-j=i+1 by have:=HLT.out;omega,show ((i:Int)+1)=((i+1:Nat):Int) from rfl]
    exact (Int.ofNat_tmod _ _).symm
   have hki:k<i+1:=by
    rw[hk]
    have:=Jm.sH s (j:=j) (by have:=HLT.out;omega)
    have:=HLT.out
    omega
   have hk26:k<26:=by omega
   have hi26:i<26:=by omega
   rw[hw,hk0]
   have ik:(k:Int)<26:=by omega
   have ii:(i:Int)<26:=by omega
   have HKJ:=(show Hid (Jm.bgK s (j+1)=Jm.sw (Jm.bgK s j) i k) from by rw[hk];show Jm.sw _ (25-j) _=_;rw[show 25-j=i by have:=HLT.out;omega])
   obtain ⟨key,hkey⟩:∃key,key=Jm.bgK s j:=⟨_,rfl⟩
   rw[←hkey] at HKJ HNEW
   have hq:=ai.drew HNEW.out.1
   obtain ⟨T,hT⟩:∃T,T=S2 / 8589934592:=⟨_,rfl⟩
   rw[←hT]
   clear hT hw hk0
   have ca:=ai.cell HNEW.out.1 (aG (Pm.up key) hi26)
   have cb:=ai.cell HNEW.out.1 (aG (Pm.up key) hk26)
   obtain ⟨vi,hvi⟩:∃v,v=Pm.up key i:=⟨_,rfl⟩
   obtain ⟨vk,hvk⟩:∃v,v=Pm.up key k:=⟨_,rfl⟩
   rw[←hvi] at ca
   rw[←hvk] at cb
   have HVI:=(show Hid (vi=Pm.up key i) from hvi)
   have HVK:=(show Hid (vk=Pm.up key k) from hvk)
   have HV2:=(show Hid (ai wr.drew (w.heap.size+1) 38 (ints 26 (Pm.up key))∧ai wr.drew w.heap.size 38 (ints 26 fun _=>0)∧Below w.heap.size w wr.drew) from ⟨hq,ai.drew HNEW.out.2.1,HNEW.out.2.2.drew⟩)
   clear hvi hvk hkey hk hq hki HNEW
   go_region
   all_goals
    obtain ⟨V2,hV2⟩:∃V,V=wr.drew:=⟨_,rfl⟩
    rw[←hV2] at HV2 ⊢
    clear ca cb hV2
    have fa:=ai.frozen HV2.out.1 i
    have fb:=ai.frozen HV2.out.1 k
    have ca:=ai.cell HV2.out.1 (aG (Pm.up key) hi26)
    have cb:=ai.cell HV2.out.1 (aG (Pm.up key) hk26)
    have HFIN:Hid (ai ((V2.setCell ⟨w.heap.size+1,i,none⟩ (.int .i64 vk)).setCell ⟨w.heap.size+1,k,none⟩ (.int .i64 vi)) w.heap.size 38 (ints 26 fun _=>0)∧ai ((V2.setCell ⟨w.heap.size+1,i,none⟩ (.int .i64 vk)).setCell ⟨w.heap.size+1,k,none⟩ (.int .i64 vi)) (w.heap.size+1) 38 (ints 26 (Pm.up (Jm.bgK s (j+1))))∧Below w.heap.size w ((V2.setCell ⟨w.heap.size+1,i,none⟩ (.int .i64 vk)).setCell ⟨w.heap.size+1,k,none⟩ (.int .i64 vi))):=by
     refine ⟨?_,?_,?_⟩
     ·exact (heap_setCell_other _ ⟨w.heap.size+1,k,none⟩ w.heap.size _ (by show w.heap.size≠w.heap.size+1;omega)).trans ((heap_setCell_other _ ⟨w.heap.size+1,i,none⟩ w.heap.size _ (by show w.heap.size≠w.heap.size+1;omega)).trans HV2.out.2.1)
     ·have:=(ai.set HV2.out.1 i (.int .i64 vk)).set k (.int .i64 vi)
      rw[HVI.out,HVK.out] at this ⊢
      rw[show ((ints 26 (Pm.up key)).setIfInBounds i (.int .i64 (Pm.up key k))).setIfInBounds k (.int .i64 (Pm.up key i))=ints 26 (Pm.up (Jm.sw key i k)) from oH key i k,←HKJ.out] at this
      exact this
     ·exact (HV2.out.2.2.setCell (p:=⟨w.heap.size+1,i,none⟩) (by show w.heap.size≤w.heap.size+1;omega) _).setCell (p:=⟨w.heap.size+1,k,none⟩) (by show w.heap.size≤w.heap.size+1;omega) _
    clear HV2
    by_cases hne:i=k
    ·subst hne
     have HE:=(show Hid (vi=vk) from (by show vi=vk;rw[HVI.out,HVK.out]))
     clear cb fb HVI HVK
     obtain rfl:vi=vk:=HE.out
     go_wp2_with fail
     go_roundw
     case rel=>exact ⟨j+1,i-1,by have:=HLT.out;omega,by have:=HLT.out;go_num,by rw[HS2.out],HFIN.out.1,HFIN.out.2.1,HFIN.out.2.2⟩
     case measure=>have:=HLT.out;simp[intOf];omega
    ·go_wp2_with fail
     go_roundw
     case rel=>exact ⟨j+1,i-1,by have:=HLT.out;omega,by have:=HLT.out;go_num,by rw[HS2.out],HFIN.out.1,HFIN.out.2.1,HFIN.out.2.2⟩
     case measure=>have:=HLT.out;simp[intOf];omega
end
namespace PK
open Go.RowKit
def eqI (n:Nat) (f g:Nat→Int):Bool:=(List.range n).all fun i=>f i==g i
theorem s8 (n:Nat) (f g:Nat→Int):eqI n f g=true↔∀i,i<n→f i=g i:=by simp[eqI]
theorem pZ (n:Nat) (f:Nat→Int):eqI n f f=true:=(s8 n f f).2 fun _ _=>rfl
theorem iV {P:Program} (w:World) (e:TypeId) (he:P.underlying e=some (.int .i64)) (n:Nat) (f:Nat→Int) (i:Nat) (hi:i<n):(part e (ints n f) i).run P w=.ok (.int .i64 (f i)) w:=by
 simp[part,isAgg,Sem.run_bind,run_underlying he,aG f hi]
theorem fQ {P:Program} (w:World) (d:Nat) (t e:TypeId) (n:Nat) (hu:P.underlying t=some (.array n e)) (he:P.underlying e=some (.int .i64)) (hs:(P.info? e).map (·.size)=some 1) (f g:Nat→Int) :
  (Op.equalIn (d+2) t (.agg (ints n f)) (.agg (ints n g))).run P w=.ok (eqI n f g) w:=by
 cases hq:P.info? e with
 | none=>simp[hq] at hs
 | some i =>
  have h1:i.size=1:=by simpa [hq] using hs
  have hsz:∀W,(sizeOf e).run P W=.ok 1 W:=fun W=>by simp[sizeOf,typeInfo,hq,h1]
  rw[Op.equalIn]
  simp only[Sem.run_bind,run_underlying hu,Result.andThen_ok,hsz,Nat.mul_one,Std.Legacy.Range.forIn_eq_forIn_range',Std.Legacy.Range.size,Nat.sub_zero,Nat.add_sub_cancel,Nat.div_one]
  unfold eqI
  rw[List.range_eq_range']
  have hL:∀i ∈ List.range' 0 n,i<n:=fun i hi=>by simp at hi;omega
  revert hL
  generalize List.range' 0 n=L
  intro hL
  induction L with
  | nil=>simp
  | cons s L ih =>
   have hs':s<n:=hL s (by simp)
   have ih':=ih fun i hi=>hL i (by simp[hi])
   rw[List.forIn_cons]
   simp only[Sem.run_bind,iV w e he n f s hs',iV w e he n g s hs',Result.andThen_ok,run_equalIn_int w d e .i64 .i64 (f s) (g s) he,List.all_cons]
   cases hb:(f s==g s)
   ·simp
   ·simp only[Bool.not_true,Bool.false_eq_true,if_false,Sem.run_pure,Result.andThen_ok,Bool.true_and]
    exact ih'
end PK
end Go.Proofs.Ytpdemelchhkfaaa
