/-
  Several texts, joined: RuJ, RuK, HSame, PtN, PtO, PtP, ScAl, WFind, WMath, ScUm, ScAp, LScT.
-/
import Derived.Test.YtkohhdkkbaifoaaGreatDoorJn36
import Derived.Test.YtkohhdkkbaifoaaGreatDoorScN
import Derived.Test.YtkohhdkkbaifoaaGreatDoorJn15
import Derived.Test.YtkohhdkkbaifoaaGreatDoorJn28
import Derived.Test.YtkohhdkkbaifoaaGreatDoorJn23
import Derived.Deep.DeepCutAuto
import Derived.Test.YtkohhdkkbaifoaaGreatDoorScI
import Derived.Test.YtkohhdkkbaifoaaGreatDoorJn14
import Derived.Test.YtkohhdkkbaifoaaGreatDoorJn22
import Derived.Maps.AppendAt
import Derived.Laws.AppendOwnNone
/-
  The document's Run and Undo.
-/
namespace Go.Proofs.YtkohhdkkbaifoaaGreatDoor
open Go.RowKit PK Vg Sm

set_option maxRecDepth 100000 in
set_option maxHeartbeats 4000000 in
theorem rundo17_chain (v:Value) (n:Nat) (l:Nat→Sp) (t:ByteArray) (w:World) (hv:ChAt w v n l) (hE:chE n l≠0):Calls Tryz.prog 14 #[v,.string t] w fun e w'=>e=.returned (.tuple #[.string ⟨(uS n l t.data.toList).toArray⟩,fltV (uE n l t.data.toList) (uA n l t.data.toList)])∧Below w.heap.size w w':=by
 obtain ⟨W1,hW1⟩:∃W1,W1=w.alloc (.cells #[.int .i64 0,.int .i64 0] 35):=⟨_,rfl⟩
 have hb1:Below w.heap.size w W1:=by rw[hW1];exact (Below.refl _ w).alloc (Nat.le_refl _) _
 have q1:RowAt W1 w.heap.size 35 #[.int .i64 0,.int .i64 0]:=by rw[hW1];exact RowAt.new w _ _
 have HQ1:Hid (RowAt W1 w.heap.size 35 #[.int .i64 0,.int .i64 0]):=q1
 have HB1:Hid (Below w.heap.size w W1):=hb1
 have HAL:Hid _:=rall17_any v n l W1 (hv.below hb1)
 have hR:uE n l t.data.toList=chE n l∧uA n l t.data.toList=chA n l∧uS n l t.data.toList=[]:=by
  have h1:uE n l t.data.toList=chE n l:=by unfold uE;rw[if_pos hE]
  exact ⟨h1,by unfold uA;rw[if_pos hE],by unfold uS;rw[if_neg (by rw[h1];exact hE)]⟩
 rw[hR.1,hR.2.1,hR.2.2]
 obtain ⟨va,vc,_,rfl,-⟩:=id hv
 have hne:(chE n l != 0)=true:=by simpa using hE
 generalize chE n l=E at *
 generalize chA n l=A at *
 clear hR hE hv q1 hb1
 go_enter Tryz.func14,Tryz.ntmps14
 go_upto_region 1 with fail
 rw[←hW1]
 clear hW1
 go_wp2_with fail
 refine Calls.mono HAL.out ?_
 rintro e V1 ⟨rfl,hb⟩
 have hb01:=HB1.out.trans (hb.mono HB1.out.size)
 have hf:=RowAt.below HQ1.out hb (RowAt.lt HQ1.out)
 obtain ⟨X1,hX1⟩:∃X1,X1=V1.alloc (.cells #[.int .i64 E,.int .i64 (A:Int)] 35):=⟨_,rfl⟩
 have HBW:Hid (Below w.heap.size w X1):=by rw[Hid,hX1];exact hb01.alloc hb01.size _
 have HF:Hid (RowAt X1 w.heap.size 35 #[.int .i64 0,.int .i64 0]):=by rw[Hid,hX1];exact RowAt.alloc hf _
 have g0:RowAt X1 V1.heap.size 35 #[.int .i64 E,.int .i64 (A:Int)]:=by rw[hX1];exact RowAt.new V1 _ _
 have k0:=RowAt.cell g0 (i:=0) rfl
 have k1:=RowAt.cell g0 (i:=1) rfl
 have h0:=RowAt.cell HF.out (i:=0) rfl
 have h1:=RowAt.cell HF.out (i:=1) rfl
 have h2:=RowAt.frozen HF.out 0
 have h3:=RowAt.frozen HF.out 1
 have HQ9:Hid _:=fault_set HF.out (.int .i64 E) (.int .i64 (A:Int))
 have HB9:Hid (Below w.heap.size w ((X1.setCell ⟨w.heap.size,0,none⟩ (.int .i64 E)).setCell ⟨w.heap.size,1,none⟩ (.int .i64 (A:Int)))):=(HBW.out.setCell (p:=⟨w.heap.size,0,none⟩) (Nat.le_refl _) _).setCell (p:=⟨w.heap.size,1,none⟩) (Nat.le_refl _) _
 clear hb hb01 hf g0 HAL
 unfold fltV
 go_upto_region 2 with fail
 rw[←hX1]
 clear hX1
 go_upto_region 3 with fail
 go_region
 all_goals (go_wp2)
 all_goals (first | (exact ⟨rfl,_,results_tmp_cell rfl _ _ w.heap.size 35 #[.int .i64 E,.int .i64 (A:Int)] (0,0) _ _ rfl rfl HQ9.out Tryz.underlying35 rfl f_info,rfl,HB9.out⟩) | (exact ⟨rfl,_,results_tmp_cell rfl _ _ w.heap.size 35 #[.int .i64 E,.int .i64 (A:Int)] (0,0) _ _ rfl rfl HQ9.out Tryz.underlying35 rfl f_info,rfl,HB9.out.drew⟩) | refine Hid.out ?_)
set_option maxRecDepth 100000 in
set_option maxHeartbeats 4000000 in
theorem rundo17_text (v:Value) (n:Nat) (l:Nat→Sp) (t:ByteArray) (w:World) (hv:ChAt w v n l) (hE:chE n l=0) (hT:ckE t.data.toList≠0):Calls Tryz.prog 14 #[v,.string t] w fun e w'=>e=.returned (.tuple #[.string ⟨(uS n l t.data.toList).toArray⟩,fltV (uE n l t.data.toList) (uA n l t.data.toList)])∧Below w.heap.size w w':=by
 obtain ⟨W1,hW1⟩:∃W1,W1=w.alloc (.cells #[.int .i64 0,.int .i64 0] 35):=⟨_,rfl⟩
 have hb1:Below w.heap.size w W1:=by rw[hW1];exact (Below.refl _ w).alloc (Nat.le_refl _) _
 have q1:RowAt W1 w.heap.size 35 #[.int .i64 0,.int .i64 0]:=by rw[hW1];exact RowAt.new w _ _
 have HQ1:Hid (RowAt W1 w.heap.size 35 #[.int .i64 0,.int .i64 0]):=q1
 have HB1:Hid (Below w.heap.size w W1):=hb1
 have HAL:Hid _:=rall17_any v n l W1 (hv.below hb1)
 obtain ⟨va,vc,VR,rfl,hvm,hvr,hvq⟩:=id hv
 have HCH:Hid (ChAt w (.slice va n vc) n l):=hv
 rw[hE] at HAL
 have hA0:chA n l=0:=chA_zero17 hE
 rw[hA0] at HAL
 have hR:uE n l t.data.toList=ckE t.data.toList∧uA n l t.data.toList=n∧uS n l t.data.toList=[]:=by
  have h1:uE n l t.data.toList=ckE t.data.toList:=by unfold uE;rw[if_neg (fun h=>h hE),if_pos hT]
  exact ⟨h1,by unfold uA;rw[if_neg (fun h=>h hE),if_pos hT],by unfold uS;rw[if_neg (by rw[h1];exact hT)]⟩
 rw[hR.1,hR.2.1,hR.2.2]
 have hne:(ckE t.data.toList != 0)=true:=by simpa using hT
 obtain ⟨E,hEE⟩:∃E,E=ckE t.data.toList:=⟨_,rfl⟩
 have HEE:Hid (E=ckE t.data.toList):=hEE
 rw[←hEE] at hne ⊢
 clear hEE
 clear hR hE hv q1 hb1 hA0 hvm hvr hvq hT
 go_enter Tryz.func14,Tryz.ntmps14
 go_upto_region 1 with fail
 rw[←hW1]
 clear hW1
 go_wp2_with fail
 refine Calls.mono HAL.out ?_
 rintro e V1 ⟨rfl,hb⟩
 have hb01:=HB1.out.trans (hb.mono HB1.out.size)
 have hf:=RowAt.below HQ1.out hb (RowAt.lt HQ1.out)
 obtain ⟨X1,hX1⟩:∃X1,X1=V1.alloc (.cells #[.int .i64 0,.int .i64 0] 35):=⟨_,rfl⟩
 have HB2:Hid (Below w.heap.size w X1):=by rw[Hid,hX1];exact hb01.alloc hb01.size _
 have HQ2:Hid (RowAt X1 w.heap.size 35 #[.int .i64 0,.int .i64 0]):=by rw[Hid,hX1];exact RowAt.alloc hf _
 have k0:X1.cell? ⟨V1.heap.size,0,none⟩=some (.int .i64 0):=by rw[hX1];exact RowAt.cell (RowAt.new V1 _ _) (i:=0) rfl
 have HCK:Hid _:=rcheck_all t X1
 clear hb hb01 hf HAL
 unfold fltV
 go_upto_region 2 with fail
 rw[←hX1]
 clear hX1
 rw[←HEE.out] at HCK
 clear HEE
 generalize ckAt t.data.toList=A at *
 go_wp2_with fail
 refine Calls.mono HCK.out ?_
 rintro e V2 ⟨rfl,hb⟩
 have hb02:=HB2.out.trans (hb.mono HB2.out.size)
 have hf:=RowAt.below HQ2.out hb (RowAt.lt HQ2.out)
 obtain ⟨X2,hX2⟩:∃X2,X2=V2.alloc (.cells #[.int .i64 E,.int .i64 A] 35):=⟨_,rfl⟩
 have HBW:Hid (Below w.heap.size w X2):=by rw[Hid,hX2];exact hb02.alloc hb02.size _
 have HF:Hid (RowAt X2 w.heap.size 35 #[.int .i64 0,.int .i64 0]):=by rw[Hid,hX2];exact RowAt.alloc hf _
 have k2:X2.cell? ⟨V2.heap.size,0,none⟩=some (.int .i64 E):=by rw[hX2];exact RowAt.cell (RowAt.new V2 _ _) (i:=0) rfl
 have h0:=RowAt.cell HF.out (i:=0) rfl
 have h1:=RowAt.cell HF.out (i:=1) rfl
 have h2:=RowAt.frozen HF.out 0
 have h3:=RowAt.frozen HF.out 1
 have HQ9:Hid _:=fault_set HF.out (.int .i64 E) (.int .i64 (n:Int))
 have HB9:Hid (Below w.heap.size w ((X2.setCell ⟨w.heap.size,0,none⟩ (.int .i64 E)).setCell ⟨w.heap.size,1,none⟩ (.int .i64 (n:Int)))):=(HBW.out.setCell (p:=⟨w.heap.size,0,none⟩) (Nat.le_refl _) _).setCell (p:=⟨w.heap.size,1,none⟩) (Nat.le_refl _) _
 clear hb hb02 hf HCK k0
 go_upto_region 5 with fail
 rw[←hX2]
 clear hX2
 go_upto_region 6 with fail
 go_region
 all_goals (go_wp2)
 all_goals (first | (exact ⟨rfl,_,results_tmp_cell rfl _ _ w.heap.size 35 #[.int .i64 E,.int .i64 (n:Int)] (0,0) _ _ rfl rfl HQ9.out Tryz.underlying35 rfl f_info,rfl,HB9.out⟩) | (exact ⟨rfl,_,results_tmp_cell rfl _ _ w.heap.size 35 #[.int .i64 E,.int .i64 (n:Int)] (0,0) _ _ rfl rfl HQ9.out Tryz.underlying35 rfl f_info,rfl,HB9.out.drew⟩) | refine Hid.out ?_)
end Go.Proofs.YtkohhdkkbaifoaaGreatDoor

/-
  The document's Run and Undo.
-/
namespace Go.Proofs.YtkohhdkkbaifoaaGreatDoor
open Go.RowKit PK Vg Sm

set_option maxRecDepth 100000 in
set_option maxHeartbeats 4000000 in
theorem rundo17_good (v:Value) (n:Nat) (l:Nat→Sp) (t:ByteArray) (w:World) (hv:ChAt w v n l) (hE:chE n l=0) (hT:ckE t.data.toList=0):Calls Tryz.prog 14 #[v,.string t] w fun e w'=>e=.returned (.tuple #[.string ⟨(uS n l t.data.toList).toArray⟩,fltV (uE n l t.data.toList) (uA n l t.data.toList)])∧Below w.heap.size w w':=by
 obtain ⟨W1,hW1⟩:∃W1,W1=w.alloc (.cells #[.int .i64 0,.int .i64 0] 35):=⟨_,rfl⟩
 have hb1:Below w.heap.size w W1:=by rw[hW1];exact (Below.refl _ w).alloc (Nat.le_refl _) _
 have q1:RowAt W1 w.heap.size 35 #[.int .i64 0,.int .i64 0]:=by rw[hW1];exact RowAt.new w _ _
 have HQ1:Hid (RowAt W1 w.heap.size 35 #[.int .i64 0,.int .i64 0]):=q1
 have HB1:Hid (Below w.heap.size w W1):=hb1
 have HAL:Hid _:=rall17_any v n l W1 (hv.below hb1)
 obtain ⟨va,vc,VR,rfl,hvm,hvr,hvq⟩:=id hv
 have HCH:Hid (ChAt w (.slice va n vc) n l):=hv
 rw[hE] at HAL
 have hA0:chA n l=0:=chA_zero17 hE
 rw[hA0] at HAL
 obtain ⟨hn64,hst⟩:=chE_zero hE
 have hck:=(ck_at hT).1
 have HR:Hid (uE n l t.data.toList=firV (fun k=>undE (l (n-1-k)) t.data.toList.length) n):=by rw[Hid];unfold uE;rw[if_neg (fun h=>h hE),if_neg (fun h=>h hT)]
 have HRA:Hid (∀k,k<n→(∀j,j<k→(fun k=>undE (l (n-1-k)) t.data.toList.length) j=0)→undE (l (n-1-k)) t.data.toList.length≠0→uE n l t.data.toList=undE (l (n-1-k)) t.data.toList.length∧uA n l t.data.toList=n-1-k∧uS n l t.data.toList=[]):=fun k hk h0 h1=>by
  obtain ⟨h2,h3⟩:=firV_of (f:=fun k=>undE (l (n-1-k)) t.data.toList.length) hk h0 h1
  have h4:uE n l t.data.toList=undE (l (n-1-k)) t.data.toList.length:=HR.out.trans h2
  refine ⟨h4,?_,by unfold uS;rw[if_neg (by rw[h4];exact h1)]⟩
  unfold uA
  rw[if_neg (fun h=>h hE),if_neg (fun h=>h hT)]
  rw[if_neg (by rw[h4];exact h1),h3]
 have HRG:Hid ((∀j,j<n→(fun k=>undE (l (n-1-k)) t.data.toList.length) j=0)→uE n l t.data.toList=0∧uA n l t.data.toList=0∧uS n l t.data.toList=undT l n t.data.toList n):=fun h0=>by
  have h4:uE n l t.data.toList=0:=HR.out.trans (firV_all h0)
  refine ⟨h4,?_,by unfold uS;rw[if_pos h4]⟩
  unfold uA
  rw[if_neg (fun h=>h hE),if_neg (fun h=>h hT)]
  rw[if_pos h4]
 have HRT:Hid (∀k,k≤n→ckE (undT l n t.data.toList k)=0∧(undT l n t.data.toList k).length=t.data.toList.length):=undT_right w hst hT
 have HST:Hid (∀i,i<n→stE (l i)=0):=hst
 have HVR:Hid (∀i,i<n→∃b o,va=some ⟨b,o,none⟩∧w.rangeAt b (o+i*59) (VR i).toList):=hvr
 have HVQ:Hid (∀i,i<n→SqAt w (.agg (VR i)) (l i)):=hvq
 have HST1:Hid (∀k,undT l n t.data.toList (k+1)=und (l (n-1-k)) (undT l n t.data.toList k)):=fun k=>rfl
 have HT0:Hid (t.data.toList=undT l n t.data.toList 0):=rfl
 obtain ⟨E9,hE9⟩:∃E9,E9=uE n l t.data.toList:=⟨_,rfl⟩
 obtain ⟨A9,hA9⟩:∃A9,A9=uA n l t.data.toList:=⟨_,rfl⟩
 obtain ⟨S9,hS9⟩:∃S9,S9=uS n l t.data.toList:=⟨_,rfl⟩
 rw[←hE9,←hA9,←hS9]
 rw[←hE9,←hA9,←hS9] at HRG
 have HRA2:Hid (∀k,k<n→(∀j,j<k→(fun k=>undE (l (n-1-k)) t.data.toList.length) j=0)→undE (l (n-1-k)) t.data.toList.length≠0→E9=undE (l (n-1-k)) t.data.toList.length∧A9=n-1-k∧S9=[]):=fun k h1 h2 h3=>by
  rw[hE9,hA9,hS9];exact HRA.out k h1 h2 h3
 clear hE9 hA9 hS9 HRA HR hvr hvq hst hE hv q1 hb1 hA0 hvm
 go_enter Tryz.func14,Tryz.ntmps14
 go_upto_region 1 with fail
 rw[←hW1]
 clear hW1
 go_wp2_with fail
 refine Calls.mono HAL.out ?_
 rintro e V1 ⟨rfl,hb⟩
 have hb01:=HB1.out.trans (hb.mono HB1.out.size)
 have hf:=RowAt.below HQ1.out hb (RowAt.lt HQ1.out)
 obtain ⟨X1,hX1⟩:∃X1,X1=V1.alloc (.cells #[.int .i64 0,.int .i64 0] 35):=⟨_,rfl⟩
 have HB2:Hid (Below w.heap.size w X1):=by rw[Hid,hX1];exact hb01.alloc hb01.size _
 have HQ2:Hid (RowAt X1 w.heap.size 35 #[.int .i64 0,.int .i64 0]):=by rw[Hid,hX1];exact RowAt.alloc hf _
 have k0:X1.cell? ⟨V1.heap.size,0,none⟩=some (.int .i64 0):=by rw[hX1];exact RowAt.cell (RowAt.new V1 _ _) (i:=0) rfl
 have HCK:Hid _:=rcheck_all t X1
 clear hb hb01 hf HAL
 unfold fltV
 go_upto_region 2 with fail
 rw[←hX1]
 clear hX1
 rw[hT,hck] at HCK
 clear hT hck
 go_wp2_with fail
 refine Calls.mono HCK.out ?_
 rintro e V2 ⟨rfl,hb⟩
 have hb02:=HB2.out.trans (hb.mono HB2.out.size)
 have hf:=RowAt.below HQ2.out hb (RowAt.lt HQ2.out)
 obtain ⟨X2,hX2⟩:∃X2,X2=V2.alloc (.cells #[.int .i64 0,.int .i64 0] 35):=⟨_,rfl⟩
 have HB3:Hid (Below w.heap.size w X2):=by rw[Hid,hX2];exact hb02.alloc hb02.size _
 have HQ3:Hid (RowAt X2 w.heap.size 35 #[.int .i64 0,.int .i64 0]):=by rw[Hid,hX2];exact RowAt.alloc hf _
 have k2:X2.cell? ⟨V2.heap.size,0,none⟩=some (.int .i64 0):=by rw[hX2];exact RowAt.cell (RowAt.new V2 _ _) (i:=0) rfl
 clear hb hb02 hf HCK k0
 go_upto_region 5 with fail
 rw[←hX2]
 clear hX2
 go_wp2_with fail
 go_loopw [8,1] (fun i x X=>∃(k:Nat) (TT:ByteArray),k≤n∧i=.int .i64 ((n:Int)-1-(k:Int))∧x=.string TT∧Hid (TT.data.toList=undT l n t.data.toList k)∧Hid (∀j,j<k→(fun k=>undE (l (n-1-k)) t.data.toList.length) j=0)∧Hid (RowAt X w.heap.size 35 #[.int .i64 0,.int .i64 0])∧Hid (Below w.heap.size w X)) (fun i _ _=>(intOf i+1).toNat)
 case atStart=>exact ⟨0,t,by omega,by simp,rfl,HT0.out,fun j hj=>by omega,HQ3.out,HB3.out⟩
 case round =>
  obtain ⟨k,TT,hk,rfl,rfl,HTT,HZ,HF,HBW⟩:=hrel
  by_cases hlt:k<n
  ·have HLT:Hid (k<n):=hlt
   obtain ⟨bw,ow,rfl,hrg⟩:=HVR.out (n-1-k) (by omega)
   have hrg2:=rangeAt_below hrg HBW.out
   have hsk:=HVQ.out (n-1-k) (by omega)
   have HSZ:Hid ((VR (n-1-k)).size=59):=hsk.cells.1
   obtain ⟨j,hj⟩:∃j,j=n-1-k:=⟨_,rfl⟩
   have hji:(n:Int)-1-(k:Int)=(j:Int):=by omega
   have hj64:j≤64:=by omega
   have hjn:j<n:=by omega
   have HJ:Hid (j=n-1-k):=hj
   have HON:Hid _:=rone_b _ _ TT wr (hsk.below HBW.out) (HST.out (n-1-k) (by omega)) (by rw[HTT.out];exact (HRT.out k hk).1)
   rw[HTT.out,(HRT.out k hk).2] at HON
   have HNX:Hid (undT l n t.data.toList (k+1)=und (l (n-1-k)) (undT l n t.data.toList k)):=HST1.out k
   have HBD:Hid (undE (l (n-1-k)) t.data.toList.length≠0→E9=undE (l (n-1-k)) t.data.toList.length∧A9=n-1-k∧S9=[]):=HRA2.out k hlt HZ.out
   have HZ2:Hid (undE (l (n-1-k)) t.data.toList.length=0→∀j,j<k+1→(fun k=>undE (l (n-1-k)) t.data.toList.length) j=0):=fun h j hj=>by
    by_cases ej:j=k
    ·rw[ej];exact h
    ·exact HZ.out j (by omega)
   rw[←HNX.out] at HON
   obtain ⟨CS,hCS⟩:∃CS,CS=VR (n-1-k):=⟨_,rfl⟩
   rw[←hCS] at hrg2 HSZ HON
   rw[←hj] at hrg2
   clear hCS
   generalize undE (l (n-1-k)) t.data.toList.length=X at *
   rw[hji]
   clear hrg hsk hj hji hlt HZ HTT
   by_cases hx0:X=0
   ·subst hx0
    have HN2:Hid _:=HZ2.out rfl
    rw[if_pos rfl] at HON
    obtain ⟨NT,hNT⟩:∃NT:ByteArray,NT=⟨(undT l n t.data.toList (k+1)).toArray⟩:=⟨_,rfl⟩
    have HNT:Hid (NT.data.toList=undT l n t.data.toList (k+1)):=by rw[Hid,hNT]
    rw[←hNT] at HON
    clear hNT HBD HZ2 HNX
    go_wp2_with (first | refine wpList_load_arr rfl 31 _ rfl bw (ow+j*59) rfl CS _ hrg2 Tryz.underlying31 rfl (by rw[HSZ.out];exact s_info) ?_)
    refine Calls.mono HON.out ?_
    rintro e V3 ⟨rfl,hb⟩
    have HF3:Hid _:=RowAt.below HF.out hb (RowAt.lt HF.out)
    have HB4:Hid (Below w.heap.size w V3):=HBW.out.trans (hb.mono HBW.out.size)
    clear hb HON hrg2
    go_wp2
    go_roundw
    case rel=>first | exact ⟨k+1,NT,HLT.out,by have:=HJ.out;have:=HLT.out;go_num,rfl,HNT.out,HN2.out,HF3.out,HB4.out⟩ | refine Hid.out ?_
    case measure=>have:=HLT.out;have:=HJ.out;simp[intOf] <;> omega
   ·have hne:(X != 0)=true:=by simpa using hx0
    have HBE:Hid _:=HBD.out hx0
    rw[if_neg hx0] at HON
    clear hx0 HBD HZ2 HNX
    go_wp2_with (first | refine wpList_load_arr rfl 31 _ rfl bw (ow+j*59) rfl CS _ hrg2 Tryz.underlying31 rfl (by rw[HSZ.out];exact s_info) ?_)
    refine Calls.mono HON.out ?_
    rintro e V3 ⟨rfl,hb⟩
    have hf3:=RowAt.below HF.out hb (RowAt.lt HF.out)
    have hb4:Below w.heap.size w V3:=HBW.out.trans (hb.mono HBW.out.size)
    clear HF HBW hb
    have HF:Hid (RowAt V3 w.heap.size 35 #[.int .i64 0,.int .i64 0]):=hf3
    have HBW:Hid (Below w.heap.size w V3):=hb4
    clear hf3 hb4
    have h0:=RowAt.cell HF.out (i:=0) rfl
    have h1:=RowAt.cell HF.out (i:=1) rfl
    have h2:=RowAt.frozen HF.out 0
    have h3:=RowAt.frozen HF.out 1
    have HQ9:Hid _:=fault_set HF.out (.int .i64 X) (.int .i64 (j:Int))
    have HB9:Hid (Below w.heap.size w ((V3.setCell ⟨w.heap.size,0,none⟩ (.int .i64 X)).setCell ⟨w.heap.size,1,none⟩ (.int .i64 (j:Int)))):=(HBW.out.setCell (p:=⟨w.heap.size,0,none⟩) (Nat.le_refl _) _).setCell (p:=⟨w.heap.size,1,none⟩) (Nat.le_refl _) _
    clear HON hrg2
    go_wp2_with (first | refine wpList_bA rfl 35 [(0,_),(1,_)] rfl [(0,.int .i64 X),(1,.int .i64 (j:Int))] rfl _ (f_built2 X j) ?_)
    exact ⟨rfl,_,results_tmp_cell rfl _ _ w.heap.size 35 #[.int .i64 X,.int .i64 (j:Int)] (0,0) _ _ rfl rfl HQ9.out Tryz.underlying35 rfl f_info,by rw[HBE.out.1,HBE.out.2.1,HBE.out.2.2,←HJ.out];rfl,HB9.out⟩
  ·obtain rfl:k=n:=by omega
   have hnn:¬(0:Int)≤(k:Int)-1-(k:Int):=by omega
   have HGD:Hid _:=HRG.out HZ.out
   have HTB:Hid (TT=⟨(undT l k t.data.toList k).toArray⟩):=by rw[Hid,←HTT.out]
   have h0:=RowAt.cell HF.out (i:=0) rfl
   have h1:=RowAt.cell HF.out (i:=1) rfl
   have h2:=RowAt.frozen HF.out 0
   have h3:=RowAt.frozen HF.out 1
   have HQ9:Hid _:=fault_set HF.out (.int .i64 0) (.int .i64 0)
   have HB9:Hid (Below w.heap.size w ((wr.setCell ⟨w.heap.size,0,none⟩ (.int .i64 0)).setCell ⟨w.heap.size,1,none⟩ (.int .i64 0))):=(HBW.out.setCell (p:=⟨w.heap.size,0,none⟩) (Nat.le_refl _) _).setCell (p:=⟨w.heap.size,1,none⟩) (Nat.le_refl _) _
   clear hlt
   go_wp2_with (first | refine wpList_bA rfl 35 [] rfl [] rfl _ f_built0 ?_)
   exact ⟨rfl,_,results_tmp_cell rfl _ _ w.heap.size 35 #[.int .i64 0,.int .i64 0] (0,0) _ _ rfl rfl HQ9.out Tryz.underlying35 rfl f_info,by rw[HGD.out.1,HGD.out.2.1,HGD.out.2.2,HTB.out];rfl,HB9.out⟩
theorem rundo17_any (v:Value) (n:Nat) (l:Nat→Sp) (t:ByteArray) (w:World) (hv:ChAt w v n l):Calls Tryz.prog 14 #[v,.string t] w fun e w'=>e=.returned (.tuple #[.string ⟨(uS n l t.data.toList).toArray⟩,fltV (uE n l t.data.toList) (uA n l t.data.toList)])∧Below w.heap.size w w':=by
 by_cases hE:chE n l=0
 ·by_cases hT:ckE t.data.toList=0
  ·exact rundo17_good v n l t w hv hE hT
  ·exact rundo17_text v n l t w hv hE hT
 ·exact rundo17_chain v n l t w hv hE
end Go.Proofs.YtkohhdkkbaifoaaGreatDoor

/-
  Contract of the document's Same, of two alike; the law's alive.
-/
namespace Go.Proofs.YtkohhdkkbaifoaaGreatDoor
open Go.RowKit PK

end Go.Proofs.YtkohhdkkbaifoaaGreatDoor

/-
  The document's Same, of chains whose steps have the same.
-/
namespace Go.Proofs.YtkohhdkkbaifoaaGreatDoor
open Go.RowKit PK Vg

end Go.Proofs.YtkohhdkkbaifoaaGreatDoor

/-
  The law's plain: a step with what its kind has, alone.
-/
namespace Go.Proofs.YtkohhdkkbaifoaaGreatDoor
open Go.RowKit PK Vg

end Go.Proofs.YtkohhdkkbaifoaaGreatDoor

/-
  ScriptTurns: what is needed of chains that are read and written.
-/
namespace Go.Proofs.YtkohhdkkbaifoaaGreatDoor
open Go.RowKit PK Vg

section
variable {α β:Type}
end
end Go.Proofs.YtkohhdkkbaifoaaGreatDoor

/-
  The closed facts that are asked first: alive.
-/
namespace Go.Proofs.YtkohhdkkbaifoaaGreatDoor
open Go.RowKit PK Vg

end Go.Proofs.YtkohhdkkbaifoaaGreatDoor

/-
  Contracts of hill.columns and hill.Find.
-/
namespace Go.Proofs.YtkohhdkkbaifoaaGreatDoor
open Go.RowKit PK

end Go.Proofs.YtkohhdkkbaifoaaGreatDoor

/-
  Plain mathematics: what is multiplied twice; what is undone; what a known text tells.
-/
namespace Go.Proofs.YtkohhdkkbaifoaaGreatDoor
open Go.RowKit PK

theorem piece {n F i:Nat} (hF:F % n=0) (hi:i<F):∃q r,i=q*n+r∧r<n∧q*n+n≤F:=by
 have hn:0<n:=by
  rcases Nat.eq_zero_or_pos n with h | h
  ·subst h;rw[Nat.mod_zero] at hF;omega
  ·exact h
 refine ⟨i / n,i % n,(Nat.div_add_mod' i n).symm,Nat.mod_lt _ hn,?_⟩
 have h1:=Nat.div_add_mod' F n
 rw[hF,Nat.add_zero] at h1
 have h2:i / n<F / n:=by
  rw[Nat.div_lt_iff_lt_mul hn,h1]
  exact hi
 have h3:=Nat.mul_le_mul_right n (show i / n+1≤F / n from h2)
 rw[Nat.succ_mul,h1] at h3
 exact h3
end Go.Proofs.YtkohhdkkbaifoaaGreatDoor

/-
  What is done is undone, and the other way round; chains one behind the other.
-/
namespace Go.Proofs.YtkohhdkkbaifoaaGreatDoor
open Go.RowKit PK Vg Sm

section
variable (w:World) {s:Sp} {t:List UInt8} (hs:stE s=0) (ht:ckE t=0) (hu:undE s t.length=0)
include w hs ht hu
end
section
variable (w:World) {l:Nat→Sp} {n:Nat} (hl:∀i,i<n→stE (l i)=0) {t:List UInt8} (ht:ckE t=0)
include w hl ht
end
end Go.Proofs.YtkohhdkkbaifoaaGreatDoor

/-
  Chains that are arguments, appended.
-/
namespace Go.Proofs.YtkohhdkkbaifoaaGreatDoor
open Go.RowKit PK Vg

theorem rws_at {f:Nat→Array Value} {s:Nat} (h0:0<s) {k:Nat} (hs:∀i,i<k→(f i).size=s) {j:Nat} {u:Value} (h:(rws f k)[j]? = some u):∃r q,r<k∧q<s∧j=r*s+q∧(f r).toList[q]? = some u:=by
 have hl:=rws_len hs
 have hj:j<k*s:=by have:=(List.getElem?_eq_some_iff.1 h).1;omega
 have hr:j / s<k:=(Nat.div_lt_iff_lt_mul h0).2 hj
 have hq:j % s<s:=Nat.mod_lt _ h0
 have e:j=j / s*s+j % s:=by have:=Nat.div_add_mod j s;rw[Nat.mul_comm] at this;omega
 refine ⟨j / s,j % s,hr,hq,e,?_⟩
 have hlt:j % s<(f (j / s)).toList.length:=by rw[Array.length_toList,hs _ hr];exact hq
 have h1:=rws_get hs (j / s) hr (j % s) _ (List.getElem?_eq_getElem hlt)
 rw[←e,h] at h1
 rw[h1]
 exact List.getElem?_eq_getElem hlt
theorem ChAt.src {w:World} {v:Value} {n:Nat} {l:Nat→Sp} (h:ChAt w v n l):∃(a:Option Addr) (cap:Nat) (R:Nat→Array Value),v=.slice a n cap∧n≤maxLen∧(∀i,i<n→(R i).size=59∧(R i).all (·.oneCell')=true∧SqAt w (.agg (R i)) (l i))∧(∀ad,a=some ad→∀j u,(rws R n)[j]? = some u→w.cell? (ad.add j)=some u)∧(rws R n).length=n*59∧∀u ∈ rws R n,u.oneCell'=true:=by
 obtain ⟨a,cap,R,h1,h2,h3,h4⟩:=h
 have hsz:∀i,i<n→(R i).size=59:=fun i hi=>(sq_size (h4 i hi)).1
 refine ⟨a,cap,R,h1,h2,fun i hi=>⟨hsz i hi,(sq_size (h4 i hi)).2,h4 i hi⟩,fun ad ha j u hu=>?_,rws_len hsz,fun u hu=>?_⟩
 ·obtain ⟨r,q,hr,_,rfl,hq⟩:=rws_at (by omega) hsz hu
  obtain ⟨b,o,e,hc⟩:=h3 r hr
  rw[ha] at e
  cases e
  have:=hc q u hq
  rw[Addr.add_mid,←Nat.add_assoc]
  exact this
 ·obtain ⟨j,hj,rfl⟩:=List.getElem_of_mem hu
  obtain ⟨r,q,hr,_,rfl,hq⟩:=rws_at (by omega) hsz (List.getElem?_eq_getElem hj)
  have h5:=(sq_size (h4 r hr)).2
  rw[←Array.all_toList] at h5
  exact List.all_eq_true.1 h5 _ (List.mem_of_getElem? hq)
def NilOr (v:Value) (n:Nat):Prop:=(v=.slice none 0 0∧n=0)∨∃ad c,v=.slice (some ad) n c
end Go.Proofs.YtkohhdkkbaifoaaGreatDoor

/-
  ScriptTurns, walked.
-/
namespace Go.Proofs.YtkohhdkkbaifoaaGreatDoor
open Go.RowKit PK Vg

end Go.Proofs.YtkohhdkkbaifoaaGreatDoor
