/-
  The document's Print: the walk.
-/
import Derived.Test.YtkohhdkkbaifoaaGreatDoorPz
import Derived.Test.YtkohhdkkbaifoaaGreatDoorJn36
import Derived.Test.YtkohhdkkbaifoaaGreatDoorRuN
namespace Go.Proofs.YtkohhdkkbaifoaaGreatDoor
open Go.RowKit PK Vg Sm

set_option maxRecDepth 100000 in
set_option maxHeartbeats 8000000 in
theorem rprint17_good (v:Value) (n:Nat) (l:Nat→Sp) (w:World) (hv:ChAt w v n l) (hE:chE n l=0) (hn:n≠0):Calls Tryz.prog 16 #[v] w fun e w'=>e=.returned (.tuple #[.string ⟨(prT n l).toArray⟩,fltV (prE n l) (if prE n l=0 then 0 else prA n l:Nat)])∧Below w.heap.size w w':=by
 obtain ⟨W1,hW1⟩:∃W1,W1=w.alloc (.cells #[.int .i64 0,.int .i64 0] 35):=⟨_,rfl⟩
 have hb1:Below w.heap.size w W1:=by rw[hW1];exact (Below.refl _ w).alloc (Nat.le_refl _) _
 have q1:RowAt W1 w.heap.size 35 #[.int .i64 0,.int .i64 0]:=by rw[hW1];exact RowAt.new w _ _
 have HQ1:Hid (RowAt W1 w.heap.size 35 #[.int .i64 0,.int .i64 0]):=q1
 have HB1:Hid (Below w.heap.size w W1):=hb1
 have HAL:Hid _:=rall17_any v n l W1 (hv.below hb1)
 rw[hE,chA_zero17 hE] at HAL
 obtain ⟨va,vc,VR,rfl,hvm,hvr,hvq⟩:=id hv
 obtain ⟨hn64,hst⟩:=chE_zero hE
 have HST:Hid (∀i,i<n→stE (l i)=0):=hst
 have HVR:Hid (∀i,i<n→∃b o,va=some ⟨b,o,none⟩∧w.rangeAt b (o+i*59) (VR i).toList):=hvr
 have HVQ:Hid (∀i,i<n→SqAt w (.agg (VR i)) (l i)):=hvq
 have hpe:prE n l=firV (fun i=>woE (l i)) n:=by unfold prE;rw[if_neg (fun h=>h hE),if_neg hn]
 have hpa:prA n l=firA (fun i=>woE (l i)) n:=by unfold prA;rw[if_neg (fun h=>h hE),if_neg hn]
 have HRA:Hid (∀k,k<n→(∀j,j<k→woE (l j)=0)→woE (l k)≠0→prE n l=7∧(if prE n l=0 then 0 else prA n l)=k∧prT n l=[]):=fun k hk h0 h1=>by
  obtain ⟨h2,h3⟩:=firV_of (f:=fun i=>woE (l i)) hk h0 h1
  have h4:prE n l=7:=by
   rw[hpe,h2]
   rcases woE_cases (l k) with h | h
   ·exact absurd h h1
   ·exact h
  refine ⟨h4,?_,by unfold prT;rw[if_neg (by rw[h4];decide)]⟩
  rw[if_neg (by rw[h4];decide),hpa,h3]
 have HRG:Hid ((∀j,j<n→woE (l j)=0)→prE n l=0∧prT n l=prJ l n):=fun h0=>by
  have h4:prE n l=0:=hpe.trans (firV_all h0)
  exact ⟨h4,by unfold prT;rw[if_pos h4,prJ_join]⟩
 have HLE:Hid (∀k,k≤n→(prJ l k).length≤2000000):=fun k hk=>prJ_len hk hn64 hst
 have HRZ:Hid (prE n l=0→(if prE n l=0 then 0 else prA n l)=0):=fun h=>if_pos h
 have hnz:¬(n:Int)=0:=by omega
 have hnz2:((n:Int)==0)=false:=by simpa using hnz
 generalize prT n l=T9 at *
 generalize (if prE n l=0 then 0 else prA n l)=A9 at *
 generalize prE n l=E9 at *
 clear hvr hvq hst hE hv q1 hb1 hvm hpe hpa
 go_enter Tryz.func16,Tryz.ntmps16
 go_upto_region 1 with fail
 rw[←hW1]
 clear hW1
 go_wp2_with fail
 refine Calls.mono HAL.out ?_
 rintro e V1 ⟨rfl,hb⟩
 have hb01:=HB1.out.trans (hb.mono HB1.out.size)
 have hf:=RowAt.below HQ1.out hb (RowAt.lt HQ1.out)
 obtain ⟨X1,hX1⟩:∃X1,X1=V1.alloc (.cells #[.int .i64 0,.int .i64 0] 35):=⟨_,rfl⟩
 have HBW:Hid (Below w.heap.size w X1):=by rw[Hid,hX1];exact hb01.alloc hb01.size _
 have HF:Hid (RowAt X1 w.heap.size 35 #[.int .i64 0,.int .i64 0]):=by rw[Hid,hX1];exact RowAt.alloc hf _
 have g0:RowAt X1 V1.heap.size 35 #[.int .i64 0,.int .i64 0]:=by rw[hX1];exact RowAt.new V1 _ _
 have k0:=RowAt.cell g0 (i:=0) rfl
 have k1:=RowAt.cell g0 (i:=1) rfl
 clear hb hb01 hf g0 HAL
 unfold fltV
 go_upto_region 2 with fail
 rw[←hX1]
 clear hX1
 go_upto_region 8 with fail
 clear k0 k1 hnz2
 go_loopw [26,5] (fun i x X=>∃(k:Nat) (S:ByteArray),k≤n∧i=.int .i64 (k:Nat)∧x=.string S∧Hid (S.data.toList=prJ l k)∧Hid (∀j,j<k→woE (l j)=0)∧Hid (RowAt X w.heap.size 35 #[.int .i64 0,.int .i64 0])∧Hid (Below w.heap.size w X)) (fun i _ _=>((n:Int)-intOf i).toNat)
 case atStart=>exact ⟨0,⟨#[]⟩,by omega,rfl,rfl,rfl,fun j hj=>by omega,HF.out,HBW.out⟩
 case round =>
  clear HF HBW
  obtain ⟨k,S,hk,rfl,rfl,HS,HZ,HF,HBW⟩:=hrel
  by_cases hlt:k<n
  ·have HLT:Hid (k<n):=hlt
   have hlt2:(k:Int)<(n:Int):=by omega
   obtain ⟨bw,ow,rfl,hrg⟩:=HVR.out k hlt
   have hrg2:=rangeAt_below hrg HBW.out
   have hsk:=HVQ.out k hlt
   have HSZ:Hid ((VR k).size=59):=hsk.cells.1
   have HONE:Hid ((VR k).all (·.oneCell')=true):=hsk.cells.2
   obtain ⟨CS,hCS⟩:∃CS,CS=VR k:=⟨_,rfl⟩
   rw[←hCS] at hrg2 HSZ HONE hsk
   obtain ⟨Z0,hZ0⟩:∃Z0,Z0=spA 0 0 ⟨#[]⟩ (.slice none 0 0) (.slice none 0 0) (.slice none 0 0) (.slice none 0 0) (fun _=>0) (fun _=>0):=⟨_,rfl⟩
   have hz59:=o_zero s_zero
   rw[←hZ0] at hz59
   have HZS:Hid (Z0.size=59):=by rw[Hid,hZ0];exact spA_size _ _ _ _ _ _ _ _ _
   obtain ⟨V,hV⟩:∃V,V=(wr.alloc (.cells Z0 31)).setRow wr.heap.size CS:=⟨_,rfl⟩
   have hbV:Below wr.heap.size wr V:=by rw[hV];exact PK.Below.setRow ((Below.refl _ wr).alloc (Nat.le_refl _) _) wr.heap.size (Nat.le_refl _) _
   obtain ⟨q,hq⟩:∃q,q=wr.heap.size:=⟨_,rfl⟩
   have HQV:Hid (RowAt V q 31 CS):=by rw[Hid,hV,hq];exact (RowAt.new wr _ _).row _
   have hfV:RowAt V w.heap.size 35 #[.int .i64 0,.int .i64 0]:=RowAt.below HF.out hbV (RowAt.lt HF.out)
   have hbwV:Below w.heap.size w V:=HBW.out.trans (hbV.mono HBW.out.size)
   have HSQ:Hid (SqAt V (.agg CS) (l k)):=hsk.below hbwV
   have hs:stE (l k)=0:=HST.out k hlt
   have HBAD:Hid (woE (l k)≠0→E9=7∧A9=k∧T9=[]):=HRA.out k hlt HZ.out
   have HWN:Hid (woE (l k)=0→∀j,j<k+1→woE (l j)=0):=fun h j hj=>by
    by_cases e:j=k
    ·rw[e];exact h
    ·exact HZ.out j (by omega)
   have hss:S.size≤2000000:=by rw[Pl.size_len,HS.out];exact HLE.out k hk
   have hk64:(k:Int)≤64:=by omega
   have HCS:Hid (CS=VR k):=hCS
   clear hZ0 hCS hrg hsk hbV hlt
   go_upto_region 10 with (first | refine wpList_load_arr rfl 31 _ rfl bw (ow+k*59) rfl CS _ hrg2 Tryz.underlying31 rfl (by rw[HSZ.out];exact s_info) ?_ | refine wpList_store_row rfl 31 _ _ rfl wr.heap.size CS rfl rfl 31 _ (RowAt.new wr _ _) (by rw[HSZ.out];exact s_info) (by rw[HSZ.out,HZS.out]) HONE.out ?_)
   rw[←hV,←hq]
   clear HF HBW
   have HF:Hid (RowAt V w.heap.size 35 #[.int .i64 0,.int .i64 0]):=hfV
   have HBV:Hid (Below w.heap.size w V):=hbwV
   clear hV hq hfV hbwV hrg2 hz59 HZS HONE
   go_upto_if 32 with fail
   go_cut [5] (fun x X=>∃S1:ByteArray,x=.string S1∧Hid (S1.data.toList=prJ l k++(if k=0 then [] else [32,124,32]))∧Hid (V=X))
   case first =>
    by_cases hk0:k=0
    ·subst hk0
     have hdd:decide ((0:Int)<((0:Nat):Int))=false:=rfl
     have HS1:Hid (S.data.toList=prJ l 0++(if 0=0 then [] else [32,124,32])):=by rw[Hid,HS.out];simp
     clear HS
     go_wp2_with fail
     go_meet
     exact ⟨_,rfl,HS1.out,rfl⟩
    ·have hk1:(0:Int)<(k:Int):=by omega
     have hk2:0<k:=by omega
     have hjd:decide ((0:Int)<(k:Int))=true:=decide_eq_true hk1
     have hc3:(⟨#[32,124,32]⟩:ByteArray).size=3:=rfl
     have HS1:Hid ((S++(⟨#[32,124,32]⟩:ByteArray)).data.toList=prJ l k++(if k=0 then [] else [32,124,32])):=by rw[Hid,cat17,HS.out,if_neg hk0]
     clear HS hk0
     go_wp2_with (first | refine wpList_catR rfl _ _ _ _ rfl _ _ rfl rfl (by omega) ?_)
     go_meet
     exact ⟨_,rfl,HS1.out,rfl⟩
   case rest =>
    obtain ⟨S1,rfl,HS1,HVC⟩:=hcut
    have hvc:=HVC.out
    subst hvc
    have hz1:S1.size≤2000010:=by
     rw[Pl.size_len,HS1.out,List.length_append]
     have:=HLE.out k (by omega)
     by_cases h:k=0
     ·rw[if_pos h,List.length_nil];omega
     ·rw[if_neg h];simp;omega
    obtain ⟨mv0,av0,bv0,cv0,hsq0,-⟩:=id HSQ.out
    have hCA:=Value.agg.inj hsq0
    have d0:V.cell? ⟨q,0,none⟩=some (.int .i64 (l k).k):=RowAt.cell HQV.out (by rw[hCA];exact spA_0 _ _ _ _ _ _ _ _ _)
    have d1:V.cell? ⟨q,1,none⟩=some (.int .i64 (l k).n):=RowAt.cell HQV.out (by rw[hCA];exact spA_1 _ _ _ _ _ _ _ _ _)
    have d2:V.cell? ⟨q,2,none⟩=some (.string (l k).key):=RowAt.cell HQV.out (by rw[hCA];exact spA_2 _ _ _ _ _ _ _ _ _)
    have d3:V.cell? ⟨q,3,none⟩=some mv0:=RowAt.cell HQV.out (by rw[hCA];exact spA_3 _ _ _ _ _ _ _ _ _)
    clear HVC hsq0 hCA HS HRA HRG
    have hkk:=st_kinds hs
    by_cases hk:(l k).k=1
    ·clear hkk
     obtain ⟨m,hm⟩:∃m:Nat,(l k).n=m:=⟨(l k).n.toNat,by have:=st_move hs hk;omega⟩
     have hm100:m<100:=by have:=st_move hs hk;omega
     have HDG:Hid _:=rdig_any m hm100 V
     have hds:=dcS_size hm100
     have HNX:Hid ((S1++(⟨#[109,111,118,101,32]⟩:ByteArray)++dcS m).data.toList=prJ l (k+1)):=by
      rw[Hid,cat17,cat17,HS1.out,prJ,prW_1 hk,hm]
      simp
     have HW2:Hid _:=HWN.out (by unfold woE;rw[if_neg (by omega)])
     have hc5:(⟨#[109,111,118,101,32]⟩:ByteArray).size=5:=rfl
     have hz5:(S1++(⟨#[109,111,118,101,32]⟩:ByteArray)).size≤2000015:=by rw[cat_sz,hc5];omega
     rw[hm] at d1
     rw[hk] at d0
     clear hs hk hm HS1 HWN HSQ HCS HBAD
     generalize dcS m=DM at *
     go_wp2_with (first | refine wpList_catR rfl _ _ _ _ rfl _ _ rfl rfl (by omega) ?_)
     refine Calls.mono HDG.out ?_
     rintro e V3 ⟨rfl,rfl⟩
     clear HDG
     go_wp2_with (first | refine wpList_catR rfl _ _ _ _ rfl _ _ rfl rfl (by omega) ?_)
     go_roundw
     case rel=>first | exact ⟨k+1,_,HLT.out,by go_num,rfl,HNX.out,HW2.out,HF.out,HBV.out⟩ | exact ⟨_,_,_,_,_,_,_,_,⟨k+1,HLT.out,rfl,_,rfl,HNX.out,HW2.out,HF.out,HBV.out⟩,rfl,rfl,rfl,rfl,rfl,rfl,rfl,by go_num⟩ | refine Hid.out ?_
     case measure=>have:=HLT.out;simp[intOf] <;> omega
    by_cases hk:(l k).k=3
    ·clear hkk
     obtain ⟨m,hm⟩:∃m:Nat,(l k).n=m:=⟨(l k).n.toNat,by have:=st_rail hs hk;omega⟩
     have hm100:m<100:=by have:=st_rail hs hk;omega
     have HDG:Hid _:=rdig_any m hm100 V
     have hds:=dcS_size hm100
     have HNX:Hid ((S1++(⟨#[114,97,105,108,32]⟩:ByteArray)++dcS m).data.toList=prJ l (k+1)):=by
      rw[Hid,cat17,cat17,HS1.out,prJ,prW_3 hk,hm]
      simp
     have HW2:Hid _:=HWN.out (by unfold woE;rw[if_neg (by omega)])
     have hc5:(⟨#[114,97,105,108,32]⟩:ByteArray).size=5:=rfl
     have hz5:(S1++(⟨#[114,97,105,108,32]⟩:ByteArray)).size≤2000015:=by rw[cat_sz,hc5];omega
     rw[hm] at d1
     rw[hk] at d0
     clear hs hk hm HS1 HWN HSQ HCS HBAD
     generalize dcS m=DM at *
     go_wp2_with (first | refine wpList_catR rfl _ _ _ _ rfl _ _ rfl rfl (by omega) ?_)
     refine Calls.mono HDG.out ?_
     rintro e V3 ⟨rfl,rfl⟩
     clear HDG
     go_wp2_with (first | refine wpList_catR rfl _ _ _ _ rfl _ _ rfl rfl (by omega) ?_)
     go_roundw
     case rel=>first | exact ⟨k+1,_,HLT.out,by go_num,rfl,HNX.out,HW2.out,HF.out,HBV.out⟩ | exact ⟨_,_,_,_,_,_,_,_,⟨k+1,HLT.out,rfl,_,rfl,HNX.out,HW2.out,HF.out,HBV.out⟩,rfl,rfl,rfl,rfl,rfl,rfl,rfl,by go_num⟩ | refine Hid.out ?_
     case measure=>have:=HLT.out;simp[intOf] <;> omega
    by_cases hk:(l k).k=4
    ·clear hkk
     have HKL:Hid ((l k).key.size≤256):=by rw[Hid,Pl.size_len];exact (st_col hs hk).2.2
     have HNX:Hid ((S1++(⟨#[99,111,108,117,109,110,115,32]⟩:ByteArray)++(l k).key).data.toList=prJ l (k+1)):=by
      rw[Hid,cat17,cat17,HS1.out,prJ,prW_4 hk]
      simp
     have HW2:Hid _:=HWN.out (by unfold woE;rw[if_neg (by omega)])
     have hkl:=HKL.out
     generalize (l k).key=KEY at *
     have hc5:(⟨#[99,111,108,117,109,110,115,32]⟩:ByteArray).size=8:=rfl
     have hz5:(S1++(⟨#[99,111,108,117,109,110,115,32]⟩:ByteArray)).size≤2000018:=by rw[cat_sz,hc5];omega
     rw[hk] at d0
     clear hs hk HS1 HWN HSQ HCS HBAD HKL
     go_wp2_with (first | refine wpList_catR rfl _ _ _ _ rfl _ _ rfl rfl (by omega) ?_)
     go_roundw
     case rel=>first | exact ⟨k+1,_,HLT.out,by go_num,rfl,HNX.out,HW2.out,HF.out,HBV.out⟩ | exact ⟨_,_,_,_,_,_,_,_,⟨k+1,HLT.out,rfl,_,rfl,HNX.out,HW2.out,HF.out,HBV.out⟩,rfl,rfl,rfl,rfl,rfl,rfl,rfl,by go_num⟩ | refine Hid.out ?_
     case measure=>have:=HLT.out;simp[intOf] <;> omega
    by_cases hk:(l k).k=2
    ·clear hkk
     obtain ⟨m,hm⟩:∃m:Nat,(l k).n=m:=⟨(l k).n.toNat,by have:=st_tab hs hk;omega⟩
     have hm14:1≤m∧m≤4:=by have:=st_tab hs hk;omega
     have HKL:Hid ((l k).key.size≤256):=by rw[Hid,Pl.size_len];exact (st_tab hs hk).2.2.2
     have HNX:Hid ((S1++tbN m++(⟨#[32]⟩:ByteArray)++(l k).key).data.toList=prJ l (k+1)):=by
      rw[Hid,cat17,cat17,cat17,HS1.out,prJ,prW_2 hk,hm]
      simp
     have HW2:Hid _:=HWN.out (by unfold woE;rw[if_neg (by omega)])
     have hkl:=HKL.out
     have htl:(tbN m).size≤8:=tbN_len m
     have HNG:Hid (nms9[m]? = some (.string (tbN m))):=nms9_get hm14.1 hm14.2
     generalize (l k).key=KEY at *
     generalize tbN m=TB at *
     rw[hm] at d1
     rw[hk] at d0
     have hm9:(m:Int)<9:=by omega
     have hm0:(0:Int)≤m:=by omega
     clear hs hk hm HS1 HWN HSQ HCS HBAD HKL
     go_upto_region 20 with fail
     obtain ⟨Y,hY⟩:∃Y,Y=V.drew:=⟨_,rfl⟩
     have hyb:Below V.heap.size V Y:=by rw[hY];exact (Below.refl _ _).drew
     have hqY:=RowAt.below HQV.out hyb (RowAt.lt HQV.out)
     have hfY:RowAt Y w.heap.size 35 #[.int .i64 0,.int .i64 0]:=RowAt.below HF.out hyb (RowAt.lt HF.out)
     have hbY:=HBV.out.trans (hyb.mono HBV.out.size)
     have cz:Y.cell? ⟨q,1,none⟩=some (.int .i64 (m:Int))∧Y.cell? ⟨q,2,none⟩=some (.string KEY):=⟨(hyb.cell (p:=⟨q,1,none⟩) (RowAt.lt HQV.out)).trans d1,(hyb.cell (p:=⟨q,2,none⟩) (RowAt.lt HQV.out)).trans d2⟩
     have hqlt:q<Y.heap.size:=RowAt.lt hqY
     refine wp_region_noPanic ?_
     refine wp_region_held_drew (S:=fun W=>W.cell? ⟨q,1,none⟩=some (.int .i64 (m:Int))∧W.cell? ⟨q,2,none⟩=some (.string KEY)) (by kernel_rfl) (by rw[←hY];exact cz) (fun hS=>?_)
     rw[←hY] at hS ⊢
     clear hY cz HF HBV HQV hyb d0 d1 d2 d3
     refine vtk 0 61 (.string S1) rfl (fun W hW=>by clear hS hW;go_simp) hS ?_
     simp only[zsA,zsB,zsC]
     refine vtk 2 63 (.pointer (some ⟨q,1,none⟩)) rfl (fun W hW=>by clear hS hW;go_simp) hS ?_
     simp only[zsA,zsB,zsC]
     refine vtk 3 64 (.int .i64 (m:Int)) rfl (fun W hW=>by have u:=hW.1;clear hS hW;go_simp) hS ?_
     simp only[zsA,zsB,zsC]
     refine vtk 8 69 (.pointer (some ⟨q,2,none⟩)) rfl (fun W hW=>by clear hS hW;go_simp) hS ?_
     simp only[zsA,zsB,zsC]
     refine vtk 9 70 (.string KEY) rfl (fun W hW=>by have u:=hW.2;clear hS hW;go_simp) hS ?_
     simp only[zsA,zsB,zsC]
     refine rd1 1 rfl (fun K hK=>?_)
     go_simp
     refine Calls.mono (rnames17 Y) ?_
     rintro e Y1 ⟨rfl,hY1⟩
     have hb7:Below Y.heap.size Y Y1:=by rw[hY1];exact (Below.refl _ _).alloc (Nat.le_refl _) _
     have c9:Y1.cell? ⟨Y.heap.size,m,none⟩=some (.string TB):=by rw[hY1];exact RowAt.cell (RowAt.new Y _ _) HNG.out
     refine hK.out _ _ ⟨(hb7.cell (p:=⟨q,1,none⟩) hqlt).trans hS.1,(hb7.cell (p:=⟨q,2,none⟩) hqlt).trans hS.2⟩ (fun hS1=>?_)
     clear hK hS K
     have hS:=hS1
     clear hS1
     have HF:Hid (RowAt Y1 w.heap.size 35 #[.int .i64 0,.int .i64 0]):=RowAt.below hfY hb7 (RowAt.lt hfY)
     have HBV:Hid (Below w.heap.size w Y1):=hbY.trans (hb7.mono hbY.size)
     obtain ⟨nb,hnb⟩:∃nb,nb=Y.heap.size:=⟨_,rfl⟩
     rw[←hnb] at c9 ⊢
     clear hY1 hb7 hnb hfY hbY hqY hqlt
     refine vtk 4 65 (.pointer (some ⟨nb,m,none⟩)) rfl (fun W hW=>by clear hS hW;go_simp) hS ?_
     simp only[zsA,zsB,zsC]
     refine rd1 5 rfl (fun K hK=>?_)
     go_simp
     refine hK.out _ _ hS (fun hS1=>?_)
     clear hK hS K
     have hS:=hS1
     clear hS1
     have q1:(S1++TB).size≤2000018:=by rw[cat_sz];omega
     have hc1:(⟨#[32]⟩:ByteArray).size=1:=rfl
     have q2:(S1++TB++(⟨#[32]⟩:ByteArray)).size≤2000019:=by rw[cat_sz,hc1];omega
     refine vtk 6 67 (.string (S1++TB)) rfl (fun W hW=>by exact run_cat17 rfl rfl rfl (by omega) W) hS ?_
     simp only[zsA,zsB,zsC]
     refine vtk 7 68 (.string (S1++TB++⟨#[32]⟩)) rfl (fun W hW=>by exact run_cat17 rfl rfl rfl (by omega) W) hS ?_
     simp only[zsA,zsB,zsC]
     refine vtk 10 71 (.string (S1++TB++⟨#[32]⟩++KEY)) rfl (fun W hW=>by exact run_cat17 rfl rfl rfl (by omega) W) hS ?_
     simp only[zsA,zsB,zsC]
     refine vtk 11 5 (.string (S1++TB++⟨#[32]⟩++KEY)) rfl (fun W hW=>by clear hS hW;go_simp) hS ?_
     simp only[zsA,zsB,zsC]
     refine wpAnyH_done (by kernel_rfl) ?_ _
     refine NoPanic.normal ?_
     generalize S1++TB++(⟨#[32]⟩:ByteArray)++KEY=S9 at *
     clear hS q1 q2 c9
     go_wp2_with fail
     go_roundw
     case rel=>first | exact ⟨k+1,_,HLT.out,by go_num,rfl,HNX.out,HW2.out,HF.out,HBV.out⟩ | exact ⟨_,_,_,_,_,_,_,_,⟨k+1,HLT.out,rfl,_,rfl,HNX.out,HW2.out,HF.out,HBV.out⟩,rfl,rfl,rfl,rfl,rfl,rfl,rfl,by go_num⟩ | refine Hid.out ?_
     case measure=>have:=HLT.out;simp[intOf] <;> omega
    by_cases hk:(l k).k=5
    ·clear hkk
     clear d3 mv0 av0 bv0 cv0
     obtain ⟨hgm,hlm⟩:=(matErr_zero _ _ _).1 (st_hill hs hk)
     obtain ⟨mv,av,bv,cv,hsq,hmv,-⟩:=id HSQ.out
     have hr4:=hgm.le
     have HR4:Hid ((l k).r≤4):=hr4
     have HL4:Hid (∀y,y<(l k).r→(l k).L y≤4):=fun y hy=>by rw[hlm y hy];exact hr4
     have HZZ:Hid (∀y,y<(l k).r→∀x,x<(l k).L y→0≤(l k).Z y x∧(l k).Z y x<100):=fun y hy x hx=>by rw[hlm y hy] at hx;have:=hgm.num y hy x hx;omega
     have HPW:Hid (prJ l (k+1)=prJ l k++(if k=0 then [] else [32,124,32])++([104,105,108,108,32]++Lib.join ((mwL (l k).r (l k).L (l k).Z (l k).r).map (·.data.toList)) [32])):=by rw[Hid,prJ,prW_5 hk]
     have d3:V.cell? ⟨q,3,none⟩=some mv:=RowAt.cell HQV.out (by rw[Value.agg.inj hsq];exact spA_3 _ _ _ _ _ _ _ _ _)
     have HMV:Hid (MatAt V mv (l k).r (l k).L (l k).Z):=hmv
     have HW2:Hid _:=HWN.out (by unfold woE;rw[if_neg (by omega)])
     rw[hk] at d0
     clear hs hk HWN HCS HBAD hsq hmv hgm hlm d1 d2 HSQ
     generalize (l k).r=N at *
     generalize (l k).L=LL at *
     generalize (l k).Z=ZZ at *
     obtain ⟨ma,mc,_,rfl,hml,-⟩:=id HMV.out
     have HDG:Hid _:=rdig_any N (by omega) V
     have hds:=dcS_size (show N<100 by omega)
     have hc5:(⟨#[104,105,108,108,32]⟩:ByteArray).size=5:=rfl
     have hz5:(S1++(⟨#[104,105,108,108,32]⟩:ByteArray)).size≤2000015:=by rw[cat_sz,hc5];omega
     obtain ⟨B0,hB0⟩:∃B0:List UInt8,B0=prJ l k++(if k=0 then [] else [32,124,32])++[104,105,108,108,32]:=⟨_,rfl⟩
     have HBL:Hid (B0.length≤2000015):=by
      rw[Hid,hB0]
      have h1:(S1++(⟨#[104,105,108,108,32]⟩:ByteArray)).data.toList=prJ l k++(if k=0 then [] else [32,124,32])++[104,105,108,108,32]:=by rw[cat17,HS1.out]
      rw[←h1,←Pl.size_len]
      exact hz5
     have HS0:Hid ((S1++(⟨#[104,105,108,108,32]⟩:ByteArray)++dcS N).data.toList=B0++Lib.join ((mwL N LL ZZ 0).map (·.data.toList)) [32]):=by
      rw[Hid,cat17,cat17,HS1.out,hB0]
      simp[mwL,Lib.join,dcS,dcD]
     have HP2:Hid (prJ l (k+1)=B0++Lib.join ((mwL N LL ZZ N).map (·.data.toList)) [32]):=by rw[Hid,HPW.out,hB0];simp
     have HLN:Hid (∀(y x:Nat),y≤N→(y<N→x≤LL y)→(N≤y→x=0)→(B0++Lib.join ((mwL N LL ZZ y++mwR (ZZ y) x).map (·.data.toList)) [32]).length≤2001000):=fun y x hy hx hx0=>by
      have hx4:x≤4:=by
       by_cases h:y<N
       ·exact Nat.le_trans (hx h) (HL4.out y h)
       ·have:=hx0 (by omega);omega
      have h1:=mwL_len (n:=N) (Z:=ZZ) y (fun r hr=>HL4.out r (by omega))
      have h2:(mwL N LL ZZ y++mwR (ZZ y) x).length≤1+4*y+4:=by rw[List.length_append,mwR_len];omega
      have h3:=join17_len ((mwL N LL ZZ y++mwR (ZZ y) x).map (·.data.toList)) [32] (k:=2) (fun u hu=>by
       obtain ⟨b,hb,rfl⟩:=List.mem_map.1 hu
       rcases List.mem_append.1 hb with hb | hb
       ·exact mwL_word (by have:=HR4.out;omega) y (fun r hr c hc=>HZZ.out r (by omega) c hc) b hb
       ·obtain ⟨j,hj,rfl⟩:=List.mem_map.1 hb
        have hj2:j<x:=by simpa using hj
        have hyN:y<N:=by
         apply Classical.byContradiction
         intro h
         have:=hx0 (by omega)
         omega
        exact dcD_len (HZZ.out y hyN j (by have:=hx hyN;omega)))
      rw[List.length_map] at h3
      have h4:(2+[32].length)*(mwL N LL ZZ y++mwR (ZZ y) x).length≤3*21:=Nat.mul_le_mul_left _ (by have:=HR4.out;omega)
      have h5:=HBL.out
      rw[List.length_append]
      omega
     clear HPW hB0 HS1 hml
     generalize dcS N=DN at *
     go_wp2_with (first | refine wpList_catR rfl _ _ _ _ rfl _ _ rfl rfl (by omega) ?_)
     refine Calls.mono HDG.out ?_
     rintro e V3 ⟨rfl,rfl⟩
     clear HDG
     go_upto_region 27 with (first | refine wpList_catR rfl _ _ _ _ rfl _ _ rfl rfl (by omega) ?_)
     generalize S1++(⟨#[104,105,108,108,32]⟩:ByteArray)++DN=SA at *
     have HQV2:Hid (RowAt V q 31 CS):=HQV.out
     clear hds hc5 hz5
     go_wp2_with fail
     go_loopw [99,5] (fun i x X=>∃(y:Nat) (T:ByteArray),y≤N∧i=.int .i64 (y:Nat)∧x=.string T∧Hid (T.data.toList=B0++Lib.join ((mwL N LL ZZ y).map (·.data.toList)) [32])∧Hid (V=X)) (fun i _ _=>((N:Int)-intOf i).toNat)
     case atStart=>exact ⟨0,SA,by omega,rfl,rfl,HS0.out,rfl⟩
     case round =>
      clear HS0
      obtain ⟨y,T,hy,rfl,rfl,HT,HVX⟩:=hrel
      by_cases hyl:y<N
      ·obtain ⟨mb,mo,ra,rc,rfl,hc,HRN⟩:∃mb mo ra rc,ma=some ⟨mb,mo,none⟩∧wr.cell? ⟨mb,mo+y,none⟩=some (.slice ra (LL y) rc)∧Hid (NumsAt wr (.slice ra (LL y) rc) (LL y) (ZZ y)):=by
        rw[←HVX.out]
        obtain ⟨_,_,R,e,_,h1,h2⟩:=HMV.out
        cases e
        obtain ⟨b,o,e,hc⟩:=h1 y hyl
        have h3:=h2 y hyl
        obtain ⟨ra,rc,e3,h4⟩:=id h3
        rw[e3] at hc h3
        exact ⟨b,o,ra,rc,e,hc,h3⟩
       have hyi:(y:Int)<(N:Int):=by omega
       have HYL:Hid (y<N):=hyl
       have HLY:Hid (∀x,x≤LL y→(B0++Lib.join ((mwL N LL ZZ y++mwR (ZZ y) x).map (·.data.toList)) [32]).length≤2001000):=fun x hx=>HLN.out y x (by omega) (fun _=>hx) (fun h=>by omega)
       have HZY:Hid (∀x,x<LL y→0≤ZZ y x∧ZZ y x<100):=HZZ.out y hyl
       have HSX:Hid (mwL N LL ZZ (y+1)=mwL N LL ZZ y++mwR (ZZ y) (LL y)):=rfl
       have hL4:=HL4.out y hyl
       have HNE:Hid (mwL N LL ZZ y≠[]):=mwL_ne _ _ _ _
       have hyb4:(y:Int)≤4:=by omega
       generalize mwL N LL ZZ y=BS at *
       generalize LL y=LY at *
       generalize ZZ y=ZY at *
       obtain ⟨W1,hW1⟩:∃W1,W1=wr:=⟨_,rfl⟩
       have HVW:Hid (V=W1):=by rw[hW1];exact HVX
       rw[←hW1] at HRN
       clear hyl
       go_upto_region 31 with fail
       rw[←hW1]
       clear hW1 hc HVX
       go_loopw [105,5] (fun i x X=>∃(c:Nat) (T:ByteArray),c≤LY∧i=.int .i64 (c:Nat)∧x=.string T∧Hid (T.data.toList=B0++Lib.join ((BS++mwR ZY c).map (·.data.toList)) [32])∧Hid (W1=X)) (fun i _ _=>((LY:Int)-intOf i).toNat)
       case atStart=>exact ⟨0,T,by omega,rfl,rfl,by rw[Hid,HT.out];simp[mwR],rfl⟩
       case round =>
        clear HT
        obtain ⟨c,T2,hcl,rfl,rfl,HT,HVX⟩:=hrel
        by_cases hxl:c<LY
        ·obtain ⟨nb,no,rfl,hcx⟩:∃nb no,ra=some ⟨nb,no,none⟩∧wr.cell? ⟨nb,no+c,none⟩=some (.int .i64 (ZY c)):=by
          rw[←HVX.out]
          obtain ⟨_,_,e,_,h⟩:=HRN.out
          cases e
          obtain ⟨b,o,e,hc⟩:=h c hxl
          exact ⟨b,o,e,hc⟩
         have hz:=HZY.out c hxl
         obtain ⟨z,hzz⟩:∃z:Nat,ZY c=z:=⟨(ZY c).toNat,by omega⟩
         have hz100:z<100:=by omega
         have HDG:Hid _:=rdig_any z hz100 wr
         have hds:=dcS_size hz100
         have hts:T2.size≤2001000:=by rw[Pl.size_len,HT.out];exact HLY.out c (by omega)
         have hc1:(⟨#[32]⟩:ByteArray).size=1:=rfl
         have hz6:(T2++(⟨#[32]⟩:ByteArray)).size≤2001001:=by rw[cat_sz,hc1];omega
         have HNT:Hid ((T2++(⟨#[32]⟩:ByteArray)++dcS z).data.toList=B0++Lib.join ((BS++mwR ZY (c+1)).map (·.data.toList)) [32]):=by
          have e1:(BS++mwR ZY (c+1)).map (·.data.toList)=(BS++mwR ZY c).map (·.data.toList)++[(dcS z).data.toList]:=by
           rw[mwR_succ,←List.append_assoc,List.map_append,hzz]
           rfl
          rw[Hid,e1,join_snoc,if_neg (by simpa using fun h=>absurd h HNE.out),cat17,cat17,HT.out]
          simp
         have HXL:Hid (c<LY):=hxl
         have hxi:(c:Int)<(LY:Int):=by omega
         have hc4:(c:Int)≤4:=by omega
         rw[hzz] at hcx
         clear hz hzz HT hxl
         generalize dcS z=DZ at *
         go_wp2_with (first | refine wpList_catR rfl _ _ _ _ rfl _ _ rfl rfl (by omega) ?_)
         refine Calls.mono HDG.out ?_
         rintro e V4 ⟨rfl,rfl⟩
         clear HDG
         go_wp2_with (first | refine wpList_catR rfl _ _ _ _ rfl _ _ rfl rfl (by omega) ?_)
         go_roundw
         case rel=>first | exact ⟨c+1,_,HXL.out,by go_num,rfl,HNT.out,HVX.out⟩ | exact ⟨_,_,_,_,_,_,_,_,⟨c+1,HXL.out,rfl,_,rfl,HNT.out,HVX.out⟩,rfl,rfl,rfl,rfl,rfl,rfl,rfl,by go_num⟩ | refine Hid.out ?_
         case measure=>have:=HXL.out;simp[intOf] <;> omega
        ·have e:c=LY:=by omega
         have hxi:¬(c:Int)<(LY:Int):=by omega
         have HT9:Hid (T2.data.toList=B0++Lib.join ((mwL N LL ZZ (y+1)).map (·.data.toList)) [32]):=by rw[Hid,HT.out,HSX.out,e]
         have HV9:Hid (V=wr):=HVW.out.trans HVX.out
         clear e hxl HT
         go_wp2_with fail
         go_roundw
         case rel=>first | exact ⟨y+1,_,HYL.out,by go_num,rfl,HT9.out,HV9.out⟩ | exact ⟨_,_,_,_,_,_,_,_,⟨y+1,HYL.out,rfl,_,rfl,HT9.out,HV9.out⟩,rfl,rfl,rfl,rfl,rfl,rfl,rfl,by go_num⟩ | refine Hid.out ?_
         case measure=>have:=HYL.out;simp[intOf] <;> omega
      ·obtain rfl:y=N:=by omega
       have hyi:¬((y:Nat):Int)<((y:Nat):Int):=by omega
       have HNX:Hid (T.data.toList=prJ l (k+1)):=by rw[Hid,HT.out,HP2.out]
       obtain ⟨VV,hVV⟩:∃VV,VV=wr:=⟨_,rfl⟩
       have hvw:=HVX.out
       rw[←hVV] at hvw
       rw[hvw] at HF HBV
       rw[hVV] at HF HBV
       clear hyl HT hvw hVV VV
       go_wp2_with fail
       go_roundw
       case rel=>first | exact ⟨k+1,_,HLT.out,by go_num,rfl,HNX.out,HW2.out,HF.out,HBV.out⟩ | exact ⟨_,_,_,_,_,_,_,_,⟨k+1,HLT.out,rfl,_,rfl,HNX.out,HW2.out,HF.out,HBV.out⟩,rfl,rfl,rfl,rfl,rfl,rfl,rfl,by go_num⟩ | refine Hid.out ?_
       case measure=>have:=HLT.out;simp[intOf] <;> omega
    have hk:(l k).k=6:=by omega
    clear hkk
    have hg:gE (l k).g=0:=st_rotor hs hk
    obtain ⟨mv,av,bv,cv,hsq,hmv,hav,hbv,hcv⟩:=id HSQ.out
    obtain ⟨MM,hMM⟩:∃MM,MM=mac av bv cv (l k).g.rf (l k).g.pl:=⟨_,rfl⟩
    have r4:V.rangeAt q 4 MM.toList:=row_mid HQV.out 4 _ (fun i u hu=>by rw[Value.agg.inj hsq,spA_mac,←hMM];exact hu)
    have HMZ:Hid (MM.size=55):=by rw[Hid,hMM];exact mac_size _ _ _ _ _
    have HMC:Hid _:=rmach17_any (.agg MM) (l k).g hg V ⟨av,bv,cv,by rw[hMM],hav,hbv,hcv⟩
    have HPW:Hid (prJ l (k+1)=prJ l k++(if k=0 then [] else [32,124,32])++txM (l k).g):=by rw[Hid,prJ,prW_6 hk]
    have HWE:Hid (woE (l k)=mcE (l k).g):=by rw[Hid];unfold woE;rw[if_pos hk]
    have HTL:Hid ((txM (l k).g).length≤20000):=by rw[Hid,←prW_6 hk];exact prW_len hs
    have hk1:((l k).k==1)=false:=by rw[hk];rfl
    rw[hk] at d0
    clear hs hk hsq hmv hav hbv hcv hMM hg d1 d2 HSQ HCS hk1
    generalize txM (l k).g=TX at *
    generalize mcE (l k).g=ME at *
    go_wp2_with (first | refine wpList_load_arr rfl 29 _ rfl q 4 rfl MM _ r4 Tryz.underlying29 rfl (by rw[HMZ.out];exact v_info_mac) ?_)
    refine Calls.mono HMC.out ?_
    rintro e V3 ⟨hok,hbad,hb⟩
    have hf3:RowAt V3 w.heap.size 35 #[.int .i64 0,.int .i64 0]:=RowAt.below HF.out hb (RowAt.lt HF.out)
    have hb4:Below w.heap.size w V3:=HBV.out.trans (hb.mono HBV.out.size)
    clear HF HBV hb HMC r4 HQV d0 d3
    have HF:Hid (RowAt V3 w.heap.size 35 #[.int .i64 0,.int .i64 0]):=hf3
    have HBV:Hid (Below w.heap.size w V3):=hb4
    clear hf3 hb4
    by_cases hme:ME=0
    ·obtain rfl:=hok hme
     obtain ⟨TB,hTB⟩:∃TB:ByteArray,TB=⟨TX.toArray⟩:=⟨_,rfl⟩
     have HNX:Hid ((S1++TB).data.toList=prJ l (k+1)):=by rw[Hid,cat17,HS1.out,HPW.out,hTB]
     have htb:TB.size≤20000:=by rw[hTB];exact HTL.out
     have HW2:Hid _:=HWN.out (by rw[HWE.out];exact hme)
     rw[←hTB]
     clear hTB hok hbad hme HPW HTL HWE HS1 HBAD HWN
     go_wp2_with (first | refine wpList_catR rfl _ _ _ _ rfl _ _ rfl rfl (by omega) ?_)
     go_roundw
     case rel=>first | exact ⟨k+1,_,HLT.out,by go_num,rfl,HNX.out,HW2.out,HF.out,HBV.out⟩ | exact ⟨_,_,_,_,_,_,_,_,⟨k+1,HLT.out,rfl,_,rfl,HNX.out,HW2.out,HF.out,HBV.out⟩,rfl,rfl,rfl,rfl,rfl,rfl,rfl,by go_num⟩ | refine Hid.out ?_
     case measure=>have:=HLT.out;simp[intOf] <;> omega
    ·obtain rfl:=hbad hme
     have HBE:Hid _:=HBAD.out (by rw[HWE.out];exact hme)
     have HBW:Hid (Below w.heap.size w V3):=HBV.out
     have h0:=RowAt.cell HF.out (i:=0) rfl
     have h1:=RowAt.cell HF.out (i:=1) rfl
     have h2:=RowAt.frozen HF.out 0
     have h3:=RowAt.frozen HF.out 1
     have HQ9:Hid _:=fault_set HF.out (.int .i64 7) (.int .i64 (k:Int))
     have HB9:Hid (Below w.heap.size w ((V3.setCell ⟨w.heap.size,0,none⟩ (.int .i64 7)).setCell ⟨w.heap.size,1,none⟩ (.int .i64 (k:Int)))):=(HBW.out.setCell (p:=⟨w.heap.size,0,none⟩) (Nat.le_refl _) _).setCell (p:=⟨w.heap.size,1,none⟩) (Nat.le_refl _) _
     clear hok hbad hme HPW HTL HWE HS1 HBAD HWN
     go_wp2_with (first | refine wpList_bA rfl 35 [(0,_),(1,_)] rfl [(0,.int .i64 7),(1,.int .i64 (k:Int))] rfl _ (f_built2 7 k) ?_)
     exact ⟨rfl,_,results_tmp_cell rfl _ _ w.heap.size 35 #[.int .i64 7,.int .i64 (k:Int)] (0,0) _ _ rfl rfl HQ9.out Tryz.underlying35 rfl f_info,by rw[HBE.out.1,HBE.out.2.1,HBE.out.2.2];rfl,HB9.out⟩
  ·obtain rfl:k=n:=by omega
   have hnn:¬((k:Nat):Int)<((k:Nat):Int):=by omega
   have HGD:Hid _:=HRG.out HZ.out
   have HTB:Hid (S=⟨T9.toArray⟩):=by rw[Hid,HGD.out.2,←HS.out]
   have h0:=RowAt.cell HF.out (i:=0) rfl
   have h1:=RowAt.cell HF.out (i:=1) rfl
   have h2:=RowAt.frozen HF.out 0
   have h3:=RowAt.frozen HF.out 1
   have HQ9:Hid _:=fault_set HF.out (.int .i64 0) (.int .i64 0)
   have HB9:Hid (Below w.heap.size w ((wr.setCell ⟨w.heap.size,0,none⟩ (.int .i64 0)).setCell ⟨w.heap.size,1,none⟩ (.int .i64 0))):=(HBW.out.setCell (p:=⟨w.heap.size,0,none⟩) (Nat.le_refl _) _).setCell (p:=⟨w.heap.size,1,none⟩) (Nat.le_refl _) _
   have HA9:Hid (A9=0):=HRZ.out HGD.out.1
   clear hlt
   go_wp2_with (first | refine wpList_bA rfl 35 [] rfl [] rfl _ f_built0 ?_)
   exact ⟨rfl,_,results_tmp_cell rfl _ _ w.heap.size 35 #[.int .i64 0,.int .i64 0] (0,0) _ _ rfl rfl HQ9.out Tryz.underlying35 rfl f_info,by rw[HGD.out.1,HTB.out,HA9.out];rfl,HB9.out⟩
theorem rprint17_any (v:Value) (n:Nat) (l:Nat→Sp) (w:World) (hv:ChAt w v n l):Calls Tryz.prog 16 #[v] w fun e w'=>e=.returned (.tuple #[.string ⟨(prT n l).toArray⟩,fltV (prE n l) (if prE n l=0 then 0 else prA n l:Nat)])∧Below w.heap.size w w':=by
 by_cases hE:chE n l=0
 ·by_cases hn:n=0
  ·exact rprint17_none v n l w hv hE hn
  ·exact rprint17_good v n l w hv hE hn
 ·exact rprint17_chain v n l w hv hE
end Go.Proofs.YtkohhdkkbaifoaaGreatDoor
