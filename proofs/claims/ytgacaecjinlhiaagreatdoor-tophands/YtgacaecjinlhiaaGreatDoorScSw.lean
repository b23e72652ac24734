import Derived.Test.YtgacaecjinlhiaaGreatDoorScMw
namespace Go.Proofs.YtgacaecjinlhiaaGreatDoor
open Go.RowKit PK Vg
set_option maxRecDepth 100000 in
set_option maxHeartbeats 4000000 in
theorem oa (b:Nat) (T:ByteArray) (p0 place:Nat) (w:World) (hr:b8 w b T p0) (hs:T.size≤65536) (hn:iE w) (he:fu w) (hgb:gv<b∧1<b) (hpl:place≤64):Calls Tryz.prog 38 #[.pointer (some ⟨b,0,none⟩),.int .i64 (place:Int)] w fun e w'=>Told (fD T.data.toList place p0) e (fun s q v=>∃c,v=.agg c∧Nw w.heap.size w'.heap.size (fun W=>fo W (.agg c) s) w'∧b8 w' b T q)∧Fb b w w':=by
 have hbl:=af.lt hr
 obtain ⟨RR,hRR0⟩:∃RR,RR=fD T.data.toList place p0:=⟨_,rfl⟩
 have HRM:Hid (RR=fD T.data.toList place p0):=hRR0
 rw[←hRR0]
 clear hRR0
 unfold fD at HRM
 have htl:=Pl.aK T
 have hz59:=cm uq
 obtain ⟨Z0,hZ0⟩:∃Z0,Z0=spA 0 0 ⟨#[]⟩ (.slice none 0 0) (.slice none 0 0) (.slice none 0 0) (.slice none 0 0) (fun _=>0) (fun _=>0):=⟨_,rfl⟩
 rw[←hZ0] at hz59
 have HZZ:Hid (Z0.size=59):=by rw[Hid,hZ0];exact aS _ _ _ _ _ _ _ _ _
 clear hZ0
 obtain ⟨Y,hY⟩:∃Y,Y=w.alloc (.cells Z0 64):=⟨_,rfl⟩
 have hf0:Fb b w Y:=by rw[hY];exact Fb.alloc b w _
 have hr0:b8 Y b T p0:=by rw[hY];exact af.alloc hr _
 have hres:af Y w.heap.size 64 Z0:=by rw[hY];exact af.new w _ _
 have HWD:Hid _:=dL b T p0 Y hr0 hs
 have HRES:Hid _:=hres
 have HF0:Hid _:=hf0
 have HGL:Hid (∀W,Fb b w W→fu W∧iE W):=fun W hW=>⟨he.fb hW hgb.1,hn.fb hW hgb.2⟩
 clear hr hn he hr0 hres hf0
 go_enter Tryz.func38,Tryz.ntmps38
 go_upto_region 1 with fail
 rw[←hY]
 clear hY
 go_wp2_with fail
 refine Calls.mono HWD.out ?_
 rintro e V1 ⟨ht,hf⟩
 rcases hw1:cF T.data.toList p0 with ⟨E,A⟩ | ⟨l1,p1⟩
 ·rw[hw1] at ht
  obtain rfl:e=.panicked [flt E A]:=ht
  have hRR:RR=.error (E,A):=by have h:=HRM.out;rw[hw1] at h;exact h
  exact ⟨rfl,by rw[hRR];rfl,HF0.out.trans hf⟩
 rw[hw1] at ht
 obtain ⟨v,rfl,rfl,hrd⟩:=ht
 obtain ⟨-,-,-,hq1,hq2,hq3,hq4⟩:=di hw1
 have hrm:=HRM.out
 rw[hw1] at hrm
 change RR=(match nmK ⟨l1.toArray⟩ with | none=>_ | some (k,n)=>_) at hrm
 obtain ⟨X1,hX1⟩:∃X1,X1=V1.alloc (.cells #[.string ⟨l1.toArray⟩,.int .i64 (p0:Int)] 91):=⟨_,rfl⟩
 have hf1:Fb b w X1:=by rw[hX1];exact (HF0.out.trans hf).trans (Fb.alloc b V1 _)
 have hwr:af X1 V1.heap.size 91 #[.string ⟨l1.toArray⟩,.int .i64 (p0:Int)]:=by rw[hX1];exact af.new V1 _ _
 have hr1:b8 X1 b T p1:=by rw[hX1];exact af.alloc hrd _
 have hs1:af X1 w.heap.size 64 Z0:=by rw[hX1];exact af.alloc (hf.row HRES.out (by omega)) _
 have c0:=af.cell hwr (i:=0) rfl
 have HNM:Hid _:=AI ⟨l1.toArray⟩ X1 (HGL.out _ hf1).2
 have HRM1:Hid _:=hrm
 have HF1:Hid _:=hf1
 have HWR:Hid _:=hwr
 have HR1:Hid _:=hr1
 have HS1:Hid _:=hs1
 clear HRM HWD HRES HF0 hf hrd hrm hf1 hwr hr1 hs1 hw1 hq1 hq2 hq3
 unfold wdV
 go_upto_region 2 with fail
 rw[←hX1]
 clear hX1
 go_wp2_with fail
 refine Calls.mono HNM.out ?_
 rintro e V2 ⟨hsome,hnone,hb⟩
 have hf2:Fb b w V2:=HF1.out.trans (Fb.of hb)
 have hwr:=af.below HWR.out hb (af.lt HWR.out)
 have hr2:=af.below HR1.out hb (af.lt HR1.out)
 have hs2:=af.below HS1.out hb (af.lt HS1.out)
 clear HNM HF1 HWR HR1 HS1 hb c0
 have hq6:=af.lt hs2
 have hq7:=af.lt hwr
 have hrm:=HRM1.out
 clear HRM1
 obtain ⟨k,n,ok,hko,rfl⟩:∃k n ok,(nmK ⟨l1.toArray⟩=if ok=true then some (k,n) else none)∧e=.returned (.tuple #[.agg (stA k n),.bool ok]):=by
  cases hk:nmK ⟨l1.toArray⟩ with
  | none=>exact ⟨0,0,false,rfl,hnone hk⟩
  | some x=>exact ⟨x.1,x.2,true,rfl,hsome x.1 x.2 hk⟩
 rw[hko] at hrm
 clear hko hsome hnone
 obtain ⟨CS,hCS⟩:∃CS,CS=stA k n:=⟨_,rfl⟩
 have HSZ:Hid (CS.size=59):=by rw[Hid,hCS];exact BX k n
 have HONE:Hid (CS.all (·.oneCell')=true):=by rw[Hid,hCS];exact G9 k n
 rw[←hCS]
 obtain ⟨X2,hX2⟩:∃X2,X2=(V2.alloc (.cells Z0 64)).setRow V2.heap.size CS:=⟨_,rfl⟩
 have hb3:Below V2.heap.size V2 X2:=by rw[hX2];exact PK.Below.setRow ((Below.refl _ V2).alloc (Nat.le_refl _) _) V2.heap.size (Nat.le_refl _) _
 have hI:StI w X2 b w.heap.size V2.heap.size T p1 Z0 CS (SlP (.slice none 0 0) (.slice none 0 0) (.slice none 0 0) (.slice none 0 0) (sp0 k n)):=⟨af.below hs2 hb3 (af.lt hs2),by rw[hX2];exact (af.new V2 _ _).row CS,af.below hr2 hb3 (af.lt hr2),hf2.trans (Fb.of hb3),hbl,rfl,hq6,FA k n X2⟩
 have hwr3:=af.below hwr hb3 (af.lt hwr)
 have cw1:=af.cell hwr3 (i:=1) rfl
 have HRM:Hid _:=hrm
 have HI:Hid _:=hI
 have HCS:Hid (CS=stA k n):=hCS
 clear hs2 hr2 hwr hb3 hwr3 hf2 hrm hI hCS
 cases ok with
 | false =>
  have HRR:Hid (RR=.error (7,p0)):=by rw[Hid,HRM.out];rfl
  have HTH:Hid _:=cG 7 (p0:Int) X2
  go_upto_region 3 with (first | refine wpList_store_row rfl 64 _ _ rfl V2.heap.size CS rfl rfl 64 _ (af.new V2 _ _) (by rw[HSZ.out];exact bA) (by rw[HSZ.out,HZZ.out]) HONE.out ?_)
  rw[←hX2]
  clear hX2
  go_wp2_with fail
  refine Calls.mono HTH.out ?_
  rintro e V3 ⟨rfl,rfl⟩
  exact ⟨rfl,by rw[HRR.out];rfl,HI.out.fb⟩
 | true =>
  go_upto_region 3 with (first | refine wpList_store_row rfl 64 _ _ rfl V2.heap.size CS rfl rfl 64 _ (af.new V2 _ _) (by rw[HSZ.out];exact bA) (by rw[HSZ.out,HZZ.out]) HONE.out ?_)
  rw[←hX2]
  clear hX2
  by_cases h64:64≤place
  ·have HRR:Hid (RR=.error (5,p0)):=by
    rw[Hid,HRM.out]
    show (if 64≤place then _ else _)=_
    rw[if_pos h64]
   have HTH:Hid _:=cG 5 (p0:Int) X2
   have h64i:(64:Int)≤(place:Int):=by omega
   clear h64
   go_wp2_with fail
   refine Calls.mono HTH.out ?_
   rintro e V3 ⟨rfl,rfl⟩
   exact ⟨rfl,by rw[HRR.out];rfl,HI.out.fb⟩
  have h64i:¬(64:Int)≤(place:Int):=by omega
  have hrm:=HRM.out
  change RR=(if 64≤place then _ else _) at hrm
  rw[if_neg h64] at hrm
  have HRM1:Hid _:=hrm
  clear HRM hrm h64 cw1
  have HRM:Hid _:=HRM1.out
  clear HRM1
  have ck:X2.cell? ⟨V2.heap.size,0,none⟩=some (.int .i64 (k:Int)):=af.cell HI.out.box (by rw[HCS.out];exact wu _ _ _ _ _ _ _ _ _)
  by_cases k1:k=1
  ·subst k1
   have HWD:Hid _:=dL b T p1 X2 HI.out.rd hs
   have hrm:=HRM.out
   rw[if_pos rfl] at hrm
   unfold lI at hrm
   have HRM1:Hid _:=hrm
   clear HRM hrm
   go_wp2_with fail
   refine Calls.mono HWD.out ?_
   rintro e V3 ⟨ht,hf⟩
   rcases hw2:cF T.data.toList p1 with ⟨E,A⟩ | ⟨l2,p2⟩
   ·rw[hw2] at ht
    obtain rfl:e=.panicked [flt E A]:=ht
    have hRR:RR=.error (E,A):=by have h:=HRM1.out;rw[hw2] at h;exact h
    exact ⟨rfl,by rw[hRR];rfl,HI.out.fb.trans hf⟩
   rw[hw2] at ht
   obtain ⟨v,rfl,rfl,hrd⟩:=ht
   obtain ⟨-,-,-,hq1,hq2,hq3,hq4⟩:=di hw2
   have HI1:Hid _:=HI.out.step hf hrd
   have hrm:=HRM1.out
   rw[hw2] at hrm
   change RR=bU (cW _ _ _) _ at hrm
   have HCL:Hid _:=iW l2 p1 0 25 (by omega) hq2 (by omega) V3 (HGL.out _ HI1.out.fb).1
   have HRM2:Hid _:=hrm
   clear HI HWD HRM1 hf hrd hrm hw2 ck
   go_wp2_with fail
   refine Calls.mono HCL.out ?_
   rintro e V4 ⟨hok,hbad,hb⟩
   by_cases hE:¬jq l2 0 25=0
   ·obtain rfl:=hbad hE
    have hRR:RR=.error (jq l2 0 25,p1):=by rw[HRM2.out];unfold cW;rw[if_neg hE];rfl
    exact ⟨rfl,by rw[hRR];rfl,(HI1.out.calm hb).fb⟩
   have hE:=Decidable.not_not.1 hE
   obtain rfl:=hok hE
   have HRR:Hid (RR=.ok ({ sp0 1 n with n:=(cV 0 l2:Nat) },p2)):=by rw[Hid,HRM2.out,cW,if_pos hE] <;> rfl
   have hI2:=HI1.out.calm hb
   have hput:=hI2.put (c':=spA ((1:Nat):Int) ((cV 0 l2:Nat):Int) ⟨#[]⟩ (.slice none 0 0) (.slice none 0 0) (.slice none 0 0) (.slice none 0 0) (fun _=>0) (fun _=>0)) 1 (.int .i64 ((cV 0 l2:Nat):Int)) (by rw[HCS.out];exact K2 _ _ _ _ _ _ _ _ _ _)
   have c1:=af.cell hI2.box (i:=1) (by rw[HCS.out];exact se _ _ _ _ _ _ _ _ _)
   have f1:=af.frozen hI2.box 1
   obtain ⟨V5,hV5⟩:∃V5,V5=V4.setCell ⟨V2.heap.size,1,none⟩ (.int .i64 ((cV 0 l2:Nat):Int)):=⟨_,rfl⟩
   rw[←hV5] at hput
   have HI5:Hid _:=hput
   clear hput hI2 HI1 HRM2 HCL hbad hok hb hE
   go_upto_region 19 with fail
   rw[←hV5]
   clear hV5 c1 f1
   obtain ⟨MC,hMC⟩:∃MC,MC=spA ((1:Nat):Int) ((cV 0 l2:Nat):Int) ⟨#[]⟩ (.slice none 0 0) (.slice none 0 0) (.slice none 0 0) (.slice none 0 0) (fun _=>0) (fun _=>0):=⟨_,rfl⟩
   have hbx:=HI5.out.box
   rw[←hMC] at hbx
   have HSZ2:Hid (MC.size=59):=by rw[Hid,hMC];exact aS _ _ _ _ _ _ _ _ _
   have HONE2:Hid (MC.all (·.oneCell')=true):=by rw[Hid,hMC];exact dQ rfl rfl rfl rfl
   have hres:=HI5.out.res
   obtain ⟨hf1,hf2,hf3⟩:=HI5.out.fin MC
   have HR9:Hid (af (V5.setRow w.heap.size MC) w.heap.size 64 MC):=af.row hres MC
   have HNW:Hid (Nw w.heap.size (V5.setRow w.heap.size MC).heap.size (fun W=>fo W (.agg MC) { sp0 1 n with n:=(cV 0 l2:Nat) }) (V5.setRow w.heap.size MC)):=hf3.imp fun W hW=>⟨_,_,_,_,by rw[hMC];rfl,hW.1,hW.2.1,hW.2.2.1,hW.2.2.2⟩
   have HRD:Hid (b8 (V5.setRow w.heap.size MC) b T p2):=hf1
   have HFB:Hid (Fb b w (V5.setRow w.heap.size MC)):=hf2
   clear hf1 hf2 hf3 hMC HI5
   go_wp2_with (first | refine wpList_load_row rfl 64 _ rfl V2.heap.size rfl 64 MC (0,0) _ hbx Tryz.underlying64 rfl (by rw[HSZ2.out];exact bA) ?_ | refine wpList_store_row rfl 64 _ _ rfl w.heap.size MC rfl rfl 64 _ hres (by rw[HSZ2.out];exact bA) (by rw[HSZ2.out,HZZ.out]) HONE2.out ?_)
   exact ⟨rfl,_,bV rfl _ _ w.heap.size 64 MC (0,0) _ rfl HR9.out Tryz.underlying64 rfl (by rw[HSZ2.out];exact bA),by rw[HRR.out];exact ⟨_,rfl,MC,rfl,HNW.out,HRD.out⟩,HFB.out⟩
  by_cases k3:k=3
  ·subst k3
   have HWD:Hid _:=dL b T p1 X2 HI.out.rd hs
   have hrm:=HRM.out
   rw[if_neg (by decide),if_pos rfl] at hrm
   unfold lI at hrm
   have HRM1:Hid _:=hrm
   clear HRM hrm
   go_wp2_with fail
   refine Calls.mono HWD.out ?_
   rintro e V3 ⟨ht,hf⟩
   rcases hw2:cF T.data.toList p1 with ⟨E,A⟩ | ⟨l2,p2⟩
   ·rw[hw2] at ht
    obtain rfl:e=.panicked [flt E A]:=ht
    have hRR:RR=.error (E,A):=by have h:=HRM1.out;rw[hw2] at h;exact h
    exact ⟨rfl,by rw[hRR];rfl,HI.out.fb.trans hf⟩
   rw[hw2] at ht
   obtain ⟨v,rfl,rfl,hrd⟩:=ht
   obtain ⟨-,-,-,hq1,hq2,hq3,hq4⟩:=di hw2
   have HI1:Hid _:=HI.out.step hf hrd
   have hrm:=HRM1.out
   rw[hw2] at hrm
   change RR=bU (cW _ _ _) _ at hrm
   have HCL:Hid _:=iW l2 p1 1 64 (by omega) hq2 (by omega) V3 (HGL.out _ HI1.out.fb).1
   have HRM2:Hid _:=hrm
   clear HI HWD HRM1 hf hrd hrm hw2 ck
   go_wp2_with fail
   refine Calls.mono HCL.out ?_
   rintro e V4 ⟨hok,hbad,hb⟩
   by_cases hE:¬jq l2 1 64=0
   ·obtain rfl:=hbad hE
    have hRR:RR=.error (jq l2 1 64,p1):=by rw[HRM2.out];unfold cW;rw[if_neg hE];rfl
    exact ⟨rfl,by rw[hRR];rfl,(HI1.out.calm hb).fb⟩
   have hE:=Decidable.not_not.1 hE
   obtain rfl:=hok hE
   have HRR:Hid (RR=.ok ({ sp0 3 n with n:=(cV 0 l2:Nat) },p2)):=by rw[Hid,HRM2.out,cW,if_pos hE] <;> rfl
   have hI2:=HI1.out.calm hb
   have hput:=hI2.put (c':=spA ((3:Nat):Int) ((cV 0 l2:Nat):Int) ⟨#[]⟩ (.slice none 0 0) (.slice none 0 0) (.slice none 0 0) (.slice none 0 0) (fun _=>0) (fun _=>0)) 1 (.int .i64 ((cV 0 l2:Nat):Int)) (by rw[HCS.out];exact K2 _ _ _ _ _ _ _ _ _ _)
   have c1:=af.cell hI2.box (i:=1) (by rw[HCS.out];exact se _ _ _ _ _ _ _ _ _)
   have f1:=af.frozen hI2.box 1
   obtain ⟨V5,hV5⟩:∃V5,V5=V4.setCell ⟨V2.heap.size,1,none⟩ (.int .i64 ((cV 0 l2:Nat):Int)):=⟨_,rfl⟩
   rw[←hV5] at hput
   have HI5:Hid _:=hput
   clear hput hI2 HI1 HRM2 HCL hbad hok hb hE
   go_upto_region 19 with fail
   rw[←hV5]
   clear hV5 c1 f1
   obtain ⟨MC,hMC⟩:∃MC,MC=spA ((3:Nat):Int) ((cV 0 l2:Nat):Int) ⟨#[]⟩ (.slice none 0 0) (.slice none 0 0) (.slice none 0 0) (.slice none 0 0) (fun _=>0) (fun _=>0):=⟨_,rfl⟩
   have hbx:=HI5.out.box
   rw[←hMC] at hbx
   have HSZ2:Hid (MC.size=59):=by rw[Hid,hMC];exact aS _ _ _ _ _ _ _ _ _
   have HONE2:Hid (MC.all (·.oneCell')=true):=by rw[Hid,hMC];exact dQ rfl rfl rfl rfl
   have hres:=HI5.out.res
   obtain ⟨hf1,hf2,hf3⟩:=HI5.out.fin MC
   have HR9:Hid (af (V5.setRow w.heap.size MC) w.heap.size 64 MC):=af.row hres MC
   have HNW:Hid (Nw w.heap.size (V5.setRow w.heap.size MC).heap.size (fun W=>fo W (.agg MC) { sp0 3 n with n:=(cV 0 l2:Nat) }) (V5.setRow w.heap.size MC)):=hf3.imp fun W hW=>⟨_,_,_,_,by rw[hMC];rfl,hW.1,hW.2.1,hW.2.2.1,hW.2.2.2⟩
   have HRD:Hid (b8 (V5.setRow w.heap.size MC) b T p2):=hf1
   have HFB:Hid (Fb b w (V5.setRow w.heap.size MC)):=hf2
   clear hf1 hf2 hf3 hMC HI5
   go_wp2_with (first | refine wpList_load_row rfl 64 _ rfl V2.heap.size rfl 64 MC (0,0) _ hbx Tryz.underlying64 rfl (by rw[HSZ2.out];exact bA) ?_ | refine wpList_store_row rfl 64 _ _ rfl w.heap.size MC rfl rfl 64 _ hres (by rw[HSZ2.out];exact bA) (by rw[HSZ2.out,HZZ.out]) HONE2.out ?_)
   exact ⟨rfl,_,bV rfl _ _ w.heap.size 64 MC (0,0) _ rfl HR9.out Tryz.underlying64 rfl (by rw[HSZ2.out];exact bA),by rw[HRR.out];exact ⟨_,rfl,MC,rfl,HNW.out,HRD.out⟩,HFB.out⟩
  by_cases k2:k=2
  ·subst k2
   have HWD:Hid _:=dL b T p1 X2 HI.out.rd hs
   have hrm:=HRM.out
   rw[if_neg (by decide),if_neg (by decide),if_pos (.inl rfl)] at hrm
   unfold Kj at hrm
   have HRM1:Hid _:=hrm
   clear HRM hrm
   go_wp2_with fail
   refine Calls.mono HWD.out ?_
   rintro e V3 ⟨ht,hf⟩
   rcases hw2:cF T.data.toList p1 with ⟨E,A⟩ | ⟨l2,p2⟩
   ·rw[hw2] at ht
    obtain rfl:e=.panicked [flt E A]:=ht
    have hRR:RR=.error (E,A):=by have h:=HRM1.out;rw[hw2] at h;exact h
    exact ⟨rfl,by rw[hRR];rfl,HI.out.fb.trans hf⟩
   rw[hw2] at ht
   obtain ⟨v,rfl,rfl,hrd⟩:=ht
   obtain ⟨-,-,-,hq1,hq2,hq3,hq4⟩:=di hw2
   have HI1:Hid _:=HI.out.step hf hrd
   have hrm:=HRM1.out
   rw[hw2] at hrm
   change RR=bU (cW _ _ _) _ at hrm
   have HCL:Hid _:=sR l2 p1 (by omega) V3
   have HRM2:Hid _:=hrm
   clear HI HWD HRM1 hf hrd hrm hw2 ck
   go_wp2_with fail
   refine Calls.mono HCL.out ?_
   rintro e V4 ⟨hok,hbad,hb⟩
   by_cases hE:¬iz l2=0
   ·obtain rfl:=hbad hE
    have hRR:RR=.error (iz l2,p1):=by rw[HRM2.out];unfold cW;rw[if_neg hE];rfl
    exact ⟨rfl,by rw[hRR];rfl,(HI1.out.calm hb).fb⟩
   have hE:=Decidable.not_not.1 hE
   obtain rfl:=hok hE
   have HRR:Hid (RR=.ok ({ sp0 2 n with key:=⟨l2.toArray⟩ },p2)):=by rw[Hid,HRM2.out,cW,if_pos hE] <;> rfl
   have hI2:=HI1.out.calm hb
   have hput:=hI2.put (c':=spA ((2:Nat):Int) (n:Int) ⟨l2.toArray⟩ (.slice none 0 0) (.slice none 0 0) (.slice none 0 0) (.slice none 0 0) (fun _=>0) (fun _=>0)) 2 (.string ⟨l2.toArray⟩) (by rw[HCS.out];exact Kv _ _ _ _ _ _ _ _ _ _)
   have c1:=af.cell hI2.box (i:=2) (by rw[HCS.out];exact rP _ _ _ _ _ _ _ _ _)
   have f1:=af.frozen hI2.box 2
   obtain ⟨V5,hV5⟩:∃V5,V5=V4.setCell ⟨V2.heap.size,2,none⟩ (.string ⟨l2.toArray⟩):=⟨_,rfl⟩
   rw[←hV5] at hput
   have HI5:Hid _:=hput
   clear hput hI2 HI1 HRM2 HCL hbad hok hb hE
   go_upto_region 19 with fail
   rw[←hV5]
   clear hV5 c1 f1
   obtain ⟨MC,hMC⟩:∃MC,MC=spA ((2:Nat):Int) (n:Int) ⟨l2.toArray⟩ (.slice none 0 0) (.slice none 0 0) (.slice none 0 0) (.slice none 0 0) (fun _=>0) (fun _=>0):=⟨_,rfl⟩
   have hbx:=HI5.out.box
   rw[←hMC] at hbx
   have HSZ2:Hid (MC.size=59):=by rw[Hid,hMC];exact aS _ _ _ _ _ _ _ _ _
   have HONE2:Hid (MC.all (·.oneCell')=true):=by rw[Hid,hMC];exact dQ rfl rfl rfl rfl
   have hres:=HI5.out.res
   obtain ⟨hf1,hf2,hf3⟩:=HI5.out.fin MC
   have HR9:Hid (af (V5.setRow w.heap.size MC) w.heap.size 64 MC):=af.row hres MC
   have HNW:Hid (Nw w.heap.size (V5.setRow w.heap.size MC).heap.size (fun W=>fo W (.agg MC) { sp0 2 n with key:=⟨l2.toArray⟩ }) (V5.setRow w.heap.size MC)):=hf3.imp fun W hW=>⟨_,_,_,_,by rw[hMC];rfl,hW.1,hW.2.1,hW.2.2.1,hW.2.2.2⟩
   have HRD:Hid (b8 (V5.setRow w.heap.size MC) b T p2):=hf1
   have HFB:Hid (Fb b w (V5.setRow w.heap.size MC)):=hf2
   clear hf1 hf2 hf3 hMC HI5
   go_wp2_with (first | refine wpList_load_row rfl 64 _ rfl V2.heap.size rfl 64 MC (0,0) _ hbx Tryz.underlying64 rfl (by rw[HSZ2.out];exact bA) ?_ | refine wpList_store_row rfl 64 _ _ rfl w.heap.size MC rfl rfl 64 _ hres (by rw[HSZ2.out];exact bA) (by rw[HSZ2.out,HZZ.out]) HONE2.out ?_)
   exact ⟨rfl,_,bV rfl _ _ w.heap.size 64 MC (0,0) _ rfl HR9.out Tryz.underlying64 rfl (by rw[HSZ2.out];exact bA),by rw[HRR.out];exact ⟨_,rfl,MC,rfl,HNW.out,HRD.out⟩,HFB.out⟩
  by_cases k4:k=4
  ·subst k4
   have HWD:Hid _:=dL b T p1 X2 HI.out.rd hs
   have hrm:=HRM.out
   rw[if_neg (by decide),if_neg (by decide),if_pos (.inr rfl)] at hrm
   unfold Kj at hrm
   have HRM1:Hid _:=hrm
   clear HRM hrm
   go_wp2_with fail
   refine Calls.mono HWD.out ?_
   rintro e V3 ⟨ht,hf⟩
   rcases hw2:cF T.data.toList p1 with ⟨E,A⟩ | ⟨l2,p2⟩
   ·rw[hw2] at ht
    obtain rfl:e=.panicked [flt E A]:=ht
    have hRR:RR=.error (E,A):=by have h:=HRM1.out;rw[hw2] at h;exact h
    exact ⟨rfl,by rw[hRR];rfl,HI.out.fb.trans hf⟩
   rw[hw2] at ht
   obtain ⟨v,rfl,rfl,hrd⟩:=ht
   obtain ⟨-,-,-,hq1,hq2,hq3,hq4⟩:=di hw2
   have HI1:Hid _:=HI.out.step hf hrd
   have hrm:=HRM1.out
   rw[hw2] at hrm
   change RR=bU (cW _ _ _) _ at hrm
   have HCL:Hid _:=sR l2 p1 (by omega) V3
   have HRM2:Hid _:=hrm
   clear HI HWD HRM1 hf hrd hrm hw2 ck
   go_wp2_with fail
   refine Calls.mono HCL.out ?_
   rintro e V4 ⟨hok,hbad,hb⟩
   by_cases hE:¬iz l2=0
   ·obtain rfl:=hbad hE
    have hRR:RR=.error (iz l2,p1):=by rw[HRM2.out];unfold cW;rw[if_neg hE];rfl
    exact ⟨rfl,by rw[hRR];rfl,(HI1.out.calm hb).fb⟩
   have hE:=Decidable.not_not.1 hE
   obtain rfl:=hok hE
   have HRR:Hid (RR=.ok ({ sp0 4 n with key:=⟨l2.toArray⟩ },p2)):=by rw[Hid,HRM2.out,cW,if_pos hE] <;> rfl
   have hI2:=HI1.out.calm hb
   have hput:=hI2.put (c':=spA ((4:Nat):Int) (n:Int) ⟨l2.toArray⟩ (.slice none 0 0) (.slice none 0 0) (.slice none 0 0) (.slice none 0 0) (fun _=>0) (fun _=>0)) 2 (.string ⟨l2.toArray⟩) (by rw[HCS.out];exact Kv _ _ _ _ _ _ _ _ _ _)
   have c1:=af.cell hI2.box (i:=2) (by rw[HCS.out];exact rP _ _ _ _ _ _ _ _ _)
   have f1:=af.frozen hI2.box 2
   obtain ⟨V5,hV5⟩:∃V5,V5=V4.setCell ⟨V2.heap.size,2,none⟩ (.string ⟨l2.toArray⟩):=⟨_,rfl⟩
   rw[←hV5] at hput
   have HI5:Hid _:=hput
   clear hput hI2 HI1 HRM2 HCL hbad hok hb hE
   go_upto_region 19 with fail
   rw[←hV5]
   clear hV5 c1 f1
   obtain ⟨MC,hMC⟩:∃MC,MC=spA ((4:Nat):Int) (n:Int) ⟨l2.toArray⟩ (.slice none 0 0) (.slice none 0 0) (.slice none 0 0) (.slice none 0 0) (fun _=>0) (fun _=>0):=⟨_,rfl⟩
   have hbx:=HI5.out.box
   rw[←hMC] at hbx
   have HSZ2:Hid (MC.size=59):=by rw[Hid,hMC];exact aS _ _ _ _ _ _ _ _ _
   have HONE2:Hid (MC.all (·.oneCell')=true):=by rw[Hid,hMC];exact dQ rfl rfl rfl rfl
   have hres:=HI5.out.res
   obtain ⟨hf1,hf2,hf3⟩:=HI5.out.fin MC
   have HR9:Hid (af (V5.setRow w.heap.size MC) w.heap.size 64 MC):=af.row hres MC
   have HNW:Hid (Nw w.heap.size (V5.setRow w.heap.size MC).heap.size (fun W=>fo W (.agg MC) { sp0 4 n with key:=⟨l2.toArray⟩ }) (V5.setRow w.heap.size MC)):=hf3.imp fun W hW=>⟨_,_,_,_,by rw[hMC];rfl,hW.1,hW.2.1,hW.2.2.1,hW.2.2.2⟩
   have HRD:Hid (b8 (V5.setRow w.heap.size MC) b T p2):=hf1
   have HFB:Hid (Fb b w (V5.setRow w.heap.size MC)):=hf2
   clear hf1 hf2 hf3 hMC HI5
   go_wp2_with (first | refine wpList_load_row rfl 64 _ rfl V2.heap.size rfl 64 MC (0,0) _ hbx Tryz.underlying64 rfl (by rw[HSZ2.out];exact bA) ?_ | refine wpList_store_row rfl 64 _ _ rfl w.heap.size MC rfl rfl 64 _ hres (by rw[HSZ2.out];exact bA) (by rw[HSZ2.out,HZZ.out]) HONE2.out ?_)
   exact ⟨rfl,_,bV rfl _ _ w.heap.size 64 MC (0,0) _ rfl HR9.out Tryz.underlying64 rfl (by rw[HSZ2.out];exact bA),by rw[HRR.out];exact ⟨_,rfl,MC,rfl,HNW.out,HRD.out⟩,HFB.out⟩
  by_cases k5:k=5
  ·subst k5
   have HWD:Hid _:=Fx b T p1 X2 HI.out.rd hs (HGL.out _ HI.out.fb).1 hgb.1
   have hrm:=HRM.out
   rw[if_neg (by decide),if_neg (by decide),if_neg (fun h=>h.elim (by decide) (by decide)),if_pos rfl] at hrm
   have HRM1:Hid _:=hrm
   clear HRM hrm
   go_wp2_with fail
   refine Calls.mono HWD.out ?_
   rintro e V3 ⟨ht,hf⟩
   rcases hw2:Be T.data.toList p1 with ⟨E,A⟩ | ⟨x,p2⟩
   ·rw[hw2] at ht
    obtain rfl:e=.panicked [flt E A]:=ht
    have hRR:RR=.error (E,A):=by have h:=HRM1.out;rw[hw2] at h;exact h
    exact ⟨rfl,by rw[hRR];rfl,HI.out.fb.trans hf⟩
   rw[hw2] at ht
   obtain ⟨v,rfl,hnw,hrd⟩:=ht
   have hI1:=HI.out.step hf hrd
   have HRR:Hid (RR=.ok ({ sp0 5 n with r:=x.1,L:=fun _=>x.1,Z:=fun i j=>((x.2.getD (i*x.1+j) 0:Nat):Int) },p2)):=by have h:=HRM1.out;rw[hw2] at h;exact h
   have hlo:=af.lt HI.out.box
   obtain ⟨ga,gc,_,rfl,-⟩:=hnw.here
   have hI2:=hI1.more (Q:=SlP (.slice ga x.1 gc) (.slice none 0 0) (.slice none 0 0) (.slice none 0 0) { sp0 5 n with r:=x.1,L:=fun _=>x.1,Z:=fun i j=>((x.2.getD (i*x.1+j) 0:Nat):Int) }) (fun W2 h2=>⟨(hnw.mono (show V2.heap.size+1≤X2.heap.size by omega) (Nat.le_refl _)) W2 h2,(hI1.nw W2 h2).2⟩)
   have hput:=hI2.put (c':=spA ((5:Nat):Int) (n:Int) ⟨#[]⟩ (.slice ga x.1 gc) (.slice none 0 0) (.slice none 0 0) (.slice none 0 0) (fun _=>0) (fun _=>0)) 3 (.slice ga x.1 gc) (by rw[HCS.out];exact LU _ _ _ _ _ _ _ _ _ _)
   have c1:=af.cell hI2.box (i:=3) (by rw[HCS.out];exact vI _ _ _ _ _ _ _ _ _)
   have f1:=af.frozen hI2.box 3
   obtain ⟨V5,hV5⟩:∃V5,V5=V3.setCell ⟨V2.heap.size,3,none⟩ (.slice ga x.1 gc):=⟨_,rfl⟩
   rw[←hV5] at hput
   have HI5:Hid _:=hput
   clear hput hI1 hI2 HI HRM1 HWD hf hrd hnw hw2 hlo ck
   go_upto_region 19 with fail
   rw[←hV5]
   clear hV5 c1 f1
   obtain ⟨MC,hMC⟩:∃MC,MC=spA ((5:Nat):Int) (n:Int) ⟨#[]⟩ (.slice ga x.1 gc) (.slice none 0 0) (.slice none 0 0) (.slice none 0 0) (fun _=>0) (fun _=>0):=⟨_,rfl⟩
   have hbx:=HI5.out.box
   rw[←hMC] at hbx
   have HSZ2:Hid (MC.size=59):=by rw[Hid,hMC];exact aS _ _ _ _ _ _ _ _ _
   have HONE2:Hid (MC.all (·.oneCell')=true):=by rw[Hid,hMC];exact dQ rfl rfl rfl rfl
   have hres:=HI5.out.res
   obtain ⟨hf1,hf2,hf3⟩:=HI5.out.fin MC
   have HR9:Hid (af (V5.setRow w.heap.size MC) w.heap.size 64 MC):=af.row hres MC
   have HNW:Hid (Nw w.heap.size (V5.setRow w.heap.size MC).heap.size (fun W=>fo W (.agg MC) { sp0 5 n with r:=x.1,L:=fun _=>x.1,Z:=fun i j=>((x.2.getD (i*x.1+j) 0:Nat):Int) }) (V5.setRow w.heap.size MC)):=hf3.imp fun W hW=>⟨_,_,_,_,by rw[hMC];rfl,hW.1,hW.2.1,hW.2.2.1,hW.2.2.2⟩
   have HRD:Hid (b8 (V5.setRow w.heap.size MC) b T p2):=hf1
   have HFB:Hid (Fb b w (V5.setRow w.heap.size MC)):=hf2
   clear hf1 hf2 hf3 hMC HI5
   go_wp2_with (first | refine wpList_load_row rfl 64 _ rfl V2.heap.size rfl 64 MC (0,0) _ hbx Tryz.underlying64 rfl (by rw[HSZ2.out];exact bA) ?_ | refine wpList_store_row rfl 64 _ _ rfl w.heap.size MC rfl rfl 64 _ hres (by rw[HSZ2.out];exact bA) (by rw[HSZ2.out,HZZ.out]) HONE2.out ?_)
   exact ⟨rfl,_,bV rfl _ _ w.heap.size 64 MC (0,0) _ rfl HR9.out Tryz.underlying64 rfl (by rw[HSZ2.out];exact bA),by rw[HRR.out];exact ⟨_,rfl,MC,rfl,HNW.out,HRD.out⟩,HFB.out⟩
  by_cases k6:k=6
  ·subst k6
   have HWD:Hid _:=DX b T p1 X2 HI.out.rd hs
   have hrm:=HRM.out
   rw[if_neg (by decide),if_neg (by decide),if_neg (fun h=>h.elim (by decide) (by decide)),if_neg (by decide),if_pos rfl] at hrm
   have HRM1:Hid _:=hrm
   clear HRM hrm
   go_wp2_with fail
   refine Calls.mono HWD.out ?_
   rintro e V3 ⟨ht,hf⟩
   rcases hw2:sL T.data.toList p1 with ⟨E,A⟩ | ⟨x,p2⟩
   ·rw[hw2] at ht
    obtain rfl:e=.panicked [flt E A]:=ht
    have hRR:RR=.error (E,A):=by have h:=HRM1.out;rw[hw2] at h;exact h
    exact ⟨rfl,by rw[hRR];rfl,HI.out.fb.trans hf⟩
   rw[hw2] at ht
   obtain ⟨v,rfl,hnw,hrd⟩:=ht
   have hI1:=HI.out.step hf hrd
   have HRR:Hid (RR=.ok ({ sp0 6 n with g:=x },p2)):=by have h:=HRM1.out;rw[hw2] at h;exact h
   have hlo:=af.lt HI.out.box
   obtain ⟨ma,mb,mc,rfl,⟨_a1,_c1,_,rfl,-⟩,⟨_a2,_c2,rfl,-⟩,⟨_a3,_c3,rfl,-⟩⟩:=hnw.here
   have hI2:=hI1.more (Q:=SlP (.slice none 0 0) (.slice _a1 x.n _c1) (.slice _a2 x.rl _c2) (.slice _a3 x.sl _c3) { sp0 6 n with g:=x }) (fun W2 h2=>by
    obtain ⟨a2,b2,c2,e2,k1,k2,k3⟩:=(hnw.mono (show V2.heap.size+1≤X2.heap.size by omega) (Nat.le_refl _)) W2 h2
    injection e2 with e2
    have q0:=congrArg (fun m:Array Value=>m[0]?) e2
    have q1:=congrArg (fun m:Array Value=>m[1]?) e2
    have q2:=congrArg (fun m:Array Value=>m[2]?) e2
    simp only[dj,nK,lR,Option.some.injEq] at q0 q1 q2
    rw[←q0] at k1
    rw[←q1] at k2
    rw[←q2] at k3
    exact ⟨(hI1.nw W2 h2).1,k1,k2,k3⟩)
   have HSM:Hid ((mac (.slice _a1 x.n _c1) (.slice _a2 x.rl _c2) (.slice _a3 x.sl _c3) x.rf x.pl).size=55):=aE _ _ _ _ _
   have HOM:Hid ((mac (.slice _a1 x.n _c1) (.slice _a2 x.rl _c2) (.slice _a3 x.sl _c3) x.rf x.pl).all (·.oneCell')=true):=lY rfl rfl rfl
   have hth:=hI2.there (o:=4) (n:=55) (by rw[HSZ.out];omega)
   have hlay:=hI2.lay (c':=spA ((6:Nat):Int) (n:Int) ⟨#[]⟩ (.slice none 0 0) (.slice _a1 x.n _c1) (.slice _a2 x.rl _c2) (.slice _a3 x.sl _c3) x.rf x.pl) 4 (mac (.slice _a1 x.n _c1) (.slice _a2 x.rl _c2) (.slice _a3 x.sl _c3) x.rf x.pl).toList (by rw[HCS.out];exact LS _ _ _ _ _ _ _ _ _ _ _ _ _ _)
   obtain ⟨MA,hMA⟩:∃MA,MA=mac (.slice _a1 x.n _c1) (.slice _a2 x.rl _c2) (.slice _a3 x.sl _c3) x.rf x.pl:=⟨_,rfl⟩
   rw[←hMA] at HSM HOM hlay ⊢
   obtain ⟨V5,hV5⟩:∃V5,V5=V3.setCells V2.heap.size 4 MA.toList:=⟨_,rfl⟩
   rw[←hV5] at hlay
   have HI5:Hid _:=hlay
   clear hlay hI1 hI2 HI HRM1 HWD hf hrd hnw hw2 hlo ck hMA
   go_upto_region 19 with (first | refine wpList_store_mid rfl 27 _ _ rfl V2.heap.size 4 MA rfl rfl (by rw[HSM.out];exact hth) (by rw[HSM.out];exact aF) HOM.out ?_)
   rw[←hV5]
   clear hV5 hth
   obtain ⟨MC,hMC⟩:∃MC,MC=spA ((6:Nat):Int) (n:Int) ⟨#[]⟩ (.slice none 0 0) (.slice _a1 x.n _c1) (.slice _a2 x.rl _c2) (.slice _a3 x.sl _c3) x.rf x.pl:=⟨_,rfl⟩
   have hbx:=HI5.out.box
   rw[←hMC] at hbx
   have HSZ2:Hid (MC.size=59):=by rw[Hid,hMC];exact aS _ _ _ _ _ _ _ _ _
   have HONE2:Hid (MC.all (·.oneCell')=true):=by rw[Hid,hMC];exact dQ rfl rfl rfl rfl
   have hres:=HI5.out.res
   obtain ⟨hf1,hf2,hf3⟩:=HI5.out.fin MC
   have HR9:Hid (af (V5.setRow w.heap.size MC) w.heap.size 64 MC):=af.row hres MC
   have HNW:Hid (Nw w.heap.size (V5.setRow w.heap.size MC).heap.size (fun W=>fo W (.agg MC) { sp0 6 n with g:=x }) (V5.setRow w.heap.size MC)):=hf3.imp fun W hW=>⟨_,_,_,_,by rw[hMC];rfl,hW.1,hW.2.1,hW.2.2.1,hW.2.2.2⟩
   have HRD:Hid (b8 (V5.setRow w.heap.size MC) b T p2):=hf1
   have HFB:Hid (Fb b w (V5.setRow w.heap.size MC)):=hf2
   clear hf1 hf2 hf3 hMC HI5
   go_wp2_with (first | refine wpList_load_row rfl 64 _ rfl V2.heap.size rfl 64 MC (0,0) _ hbx Tryz.underlying64 rfl (by rw[HSZ2.out];exact bA) ?_ | refine wpList_store_row rfl 64 _ _ rfl w.heap.size MC rfl rfl 64 _ hres (by rw[HSZ2.out];exact bA) (by rw[HSZ2.out,HZZ.out]) HONE2.out ?_)
   exact ⟨rfl,_,bV rfl _ _ w.heap.size 64 MC (0,0) _ rfl HR9.out Tryz.underlying64 rfl (by rw[HSZ2.out];exact bA),by rw[HRR.out];exact ⟨_,rfl,MC,rfl,HNW.out,HRD.out⟩,HFB.out⟩
  have nk1:(((k:Nat):Int)==1)=false:=beq_false_of_ne (by omega)
  have nk2:(((k:Nat):Int)==2)=false:=beq_false_of_ne (by omega)
  have nk3:(((k:Nat):Int)==3)=false:=beq_false_of_ne (by omega)
  have nk4:(((k:Nat):Int)==4)=false:=beq_false_of_ne (by omega)
  have nk5:(((k:Nat):Int)==5)=false:=beq_false_of_ne (by omega)
  have nk6:(((k:Nat):Int)==6)=false:=beq_false_of_ne (by omega)
  have HRR:Hid (RR=.ok (sp0 k n,p1)):=by
   rw[Hid,HRM.out,if_neg k1,if_neg k3,if_neg (fun h=>h.elim k2 k4),if_neg k5,if_neg k6]
  rw[HCS.out] at HI
  have HI5:Hid _:=HI.out
  clear HI HRM k1 k2 k3 k4 k5 k6
  go_upto_region 19 with fail
  obtain ⟨MC,hMC⟩:∃MC,MC=stA k n:=⟨_,rfl⟩
  have hbx:=HI5.out.box
  rw[←hMC] at hbx
  have HSZ2:Hid (MC.size=59):=by rw[Hid,hMC];exact aS _ _ _ _ _ _ _ _ _
  have HONE2:Hid (MC.all (·.oneCell')=true):=by rw[Hid,hMC];exact dQ rfl rfl rfl rfl
  have hres:=HI5.out.res
  obtain ⟨hf1,hf2,hf3⟩:=HI5.out.fin MC
  have HR9:Hid (af (X2.setRow w.heap.size MC) w.heap.size 64 MC):=af.row hres MC
  have HNW:Hid (Nw w.heap.size (X2.setRow w.heap.size MC).heap.size (fun W=>fo W (.agg MC) (sp0 k n)) (X2.setRow w.heap.size MC)):=hf3.imp fun W hW=>⟨_,_,_,_,by rw[hMC];rfl,hW.1,hW.2.1,hW.2.2.1,hW.2.2.2⟩
  have HRD:Hid (b8 (X2.setRow w.heap.size MC) b T p1):=hf1
  have HFB:Hid (Fb b w (X2.setRow w.heap.size MC)):=hf2
  clear hf1 hf2 hf3 hMC HI5
  go_wp2_with (first | refine wpList_load_row rfl 64 _ rfl V2.heap.size rfl 64 MC (0,0) _ hbx Tryz.underlying64 rfl (by rw[HSZ2.out];exact bA) ?_ | refine wpList_store_row rfl 64 _ _ rfl w.heap.size MC rfl rfl 64 _ hres (by rw[HSZ2.out];exact bA) (by rw[HSZ2.out,HZZ.out]) HONE2.out ?_)
  exact ⟨rfl,_,bV rfl _ _ w.heap.size 64 MC (0,0) _ rfl HR9.out Tryz.underlying64 rfl (by rw[HSZ2.out];exact bA),by rw[HRR.out];exact ⟨_,rfl,MC,rfl,HNW.out,HRD.out⟩,HFB.out⟩
end Go.Proofs.YtgacaecjinlhiaaGreatDoor
