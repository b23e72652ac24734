import Derived.Test.YtgacaecjinlhiaaGreatDoorJn36
namespace Go.Proofs.YtgacaecjinlhiaaGreatDoor
open Go.RowKit PK Vg
theorem zz (x:ByteArray) (y:Int) (w:World):(Instr.field 91 (.agg #[.string x,.int .i64 y]) 0).run Tryz.prog w=.ok (.string x) w:=by kernel_rfl
set_option maxRecDepth 100000 in
set_option maxHeartbeats 4000000 in
theorem DX (b:Nat) (T:ByteArray) (p0:Nat) (w:World) (hr:b8 w b T p0) (hs:T.size≤65536):Calls Tryz.prog 67 #[.pointer (some ⟨b,0,none⟩)] w fun e w'=>Told (sL T.data.toList p0) e (fun g q v=>Nw w.heap.size w'.heap.size (fun W=>cE W v g) w'∧b8 w' b T q)∧Fb b w w':=by
 obtain ⟨Y,hY⟩:∃Y,Y=(w.alloc (.cells (mac (.slice none 0 0) (.slice none 0 0) (.slice none 0 0) (fun _=>0) (fun _=>0)) 27)).alloc (.cells (mac (.slice none 0 0) (.slice none 0 0) (.slice none 0 0) (fun _=>0) (fun _=>0)) 27):=⟨_,rfl⟩
 have hI:McI w Y b w.heap.size T p0 (.slice none 0 0) (.slice none 0 0) (.slice none 0 0) (fun _=>0) (fun _=>0) (fun _=>True):=by
  rw[hY]
  refine ⟨(af.new w _ _).alloc _,?_,af.alloc (af.alloc hr _) _,(Fb.alloc b w _).trans (Fb.alloc b _ _),af.lt hr,rfl,fun _ _=>trivial⟩
  have:=af.new (w.alloc (.cells (mac (.slice none 0 0) (.slice none 0 0) (.slice none 0 0) (fun _=>0) (fun _=>0)) 27)) 27 (mac (.slice none 0 0) (.slice none 0 0) (.slice none 0 0) (fun _=>0) (fun _=>0))
  rw[World.size_alloc] at this
  exact this
 have hyz:Y.heap.size=w.heap.size+2:=by rw[hY];simp
 have hz55:=cm LX
 have HWD:Hid _:=dL b T p0 Y hI.rd hs
 have HI:Hid _:=hI
 obtain ⟨RR,hRR0⟩:∃RR,RR=sL T.data.toList p0:=⟨_,rfl⟩
 have HRM:Hid (RR=sL T.data.toList p0):=hRR0
 rw[←hRR0]
 clear hRR0
 unfold sL at HRM
 have htl:=Pl.aK T
 go_enter Tryz.func67,Tryz.ntmps67
 go_upto_region 2 with fail
 rw[←hY]
 clear hY hI hr
 go_wp2_with fail
 refine Calls.mono HWD.out ?_
 rintro e W1 ⟨ht,hf⟩
 rcases hw1:cF T.data.toList p0 with ⟨E,A⟩ | ⟨l1,p1⟩
 ·rw[hw1] at ht
  obtain rfl:e=.panicked [flt E A]:=ht
  have hRR:RR=.error (E,A):=by have h:=HRM.out;rw[hw1] at h;exact h
  exact ⟨rfl,by rw[hRR];rfl,HI.out.fb.trans hf⟩
 rw[hw1] at ht
 obtain ⟨v,rfl,rfl,hrd⟩:=ht
 obtain ⟨-,-,-,hq1,hq2,hq3,hq4⟩:=di hw1
 have HI1:Hid _:=HI.out.step hf hrd
 have hrm:=HRM.out
 rw[hw1] at hrm
 change RR=cW _ _ _ at hrm
 have HRM1:Hid _:=hrm
 clear HRM HI HWD hf hrd hrm hw1
 have HI:Hid _:=HI1.out
 have HRM:Hid _:=HRM1.out
 clear HI1 HRM1
 have HCL:Hid _:=vX l1 p0 (by omega) (by omega) W1
 go_wp2_with fail
 refine Calls.mono HCL.out ?_
 rintro e W2 ⟨hok,hbad,hb⟩
 by_cases hE:¬wsE l1=0
 ·obtain rfl:=hbad hE
  have hRR:RR=.error (wsE l1,wsA l1 p0):=by rw[HRM.out];unfold cW;rw[if_neg hE]
  exact ⟨rfl,by rw[hRR];rfl,(HI.out.calm hb).fb⟩
 have hE:=Decidable.not_not.1 hE
 have hrm:=HRM.out
 rw[cW,if_pos hE] at hrm
 have HRM1:Hid _:=hrm
 have HI1:Hid _:=HI.out.calm hb
 obtain ⟨va,rfl,hnw⟩:=hok hE
 clear HRM HCL hbad hok hrm
 have HRM:Hid _:=HRM1.out
 clear HRM1
 obtain ⟨ga,gc,_,rfl,-⟩:=hnw.here
 have hn4:=FG hE
 have hI2:=HI1.out
 have hmore:=hI2.more (hnw.mono (by have:=HI.out.box.lt;show w.heap.size+2≤W1.heap.size;omega) (Nat.le_refl _))
 have hput:=hmore.put 0 (.slice ga (pcn l1) gc) (ms0 _ _ _ _ _ _)
 have c0:=af.cell hI2.box (dj _ _ _ _ _)
 have f0:=af.frozen hI2.box 0
 clear HI1 HI hmore hI2 hb hnw hE
 obtain ⟨W3,hW3⟩:∃W3,W3=W2.setCell ⟨w.heap.size+1,0,none⟩ (.slice ga (pcn l1) gc):=⟨_,rfl⟩
 rw[←hW3] at hput
 have HI:Hid _:=hput
 clear hput
 go_upto_region 3 with fail
 rw[←hW3]
 clear hW3 c0 f0 hq1 hq2 hq3
 have HWD:Hid _:=dL b T p1 W3 HI.out.rd hs
 go_wp2_with fail
 refine Calls.mono HWD.out ?_
 rintro e W4 ⟨ht,hf⟩
 rcases hw2:cF T.data.toList p1 with ⟨E,A⟩ | ⟨l2,p2⟩
 ·rw[hw2] at ht
  obtain rfl:e=.panicked [flt E A]:=ht
  have hRR:RR=.error (E,A):=by have h:=HRM.out;rw[hw2] at h;exact h
  exact ⟨rfl,by rw[hRR];rfl,HI.out.fb.trans hf⟩
 rw[hw2] at ht
 obtain ⟨v,rfl,rfl,hrd⟩:=ht
 obtain ⟨-,-,-,hq1,hq2,hq3,hq4⟩:=di hw2
 have HI1:Hid _:=HI.out.step hf hrd
 have hrm:=HRM.out
 rw[hw2] at hrm
 change RR=cW _ _ _ at hrm
 have HRM1:Hid _:=hrm
 clear HRM HI HWD hf hrd hrm hw2
 have HI:Hid _:=HI1.out
 have HRM:Hid _:=HRM1.out
 clear HI1 HRM1
 have HCL:Hid _:=DO l2 p1 W4
 go_wp2_with fail
 refine Calls.mono HCL.out ?_
 rintro e W5 ⟨hok,hbad,hb⟩
 by_cases hE:¬miE l2=0
 ·obtain rfl:=hbad hE
  have hRR:RR=.error (miE l2,p1):=by rw[HRM.out];unfold cW;rw[if_neg hE]
  exact ⟨rfl,by rw[hRR];rfl,(HI.out.calm hb).fb⟩
 have hE:=Decidable.not_not.1 hE
 have hrm:=HRM.out
 rw[cW,if_pos hE] at hrm
 have HRM1:Hid _:=hrm
 have HI1:Hid _:=HI.out.calm hb
 obtain rfl:=hok hE
 clear HRM HCL hbad hok hrm
 have HRM:Hid _:=HRM1.out
 clear HRM1
 have hth:=HI1.out.there (o:=3) (n:=26) (by omega)
 have hlay:=HI1.out.lay 3 (ints 26 (miP l2)).toList (ms3 _ _ _ _ _ _)
 obtain ⟨W6,hW6⟩:∃W6,W6=W5.setCells (w.heap.size+1) 3 (ints 26 (miP l2)).toList:=⟨_,rfl⟩
 rw[←hW6] at hlay
 clear HI HI1 hb hE
 have HI:Hid _:=hlay
 clear hlay
 generalize hRF:miP l2=RF at *
 go_upto_region 4 with (first | refine wpList_store_mid rfl 25 _ _ rfl (w.heap.size+1) 3 (ints 26 RF) rfl rfl (by rw[ag];exact hth) (by rw[ag];exact aj) (aI _ _) ?_)
 rw[←hW6]
 have HRF:Hid (miP l2=RF):=hRF
 clear hW6 hth hq1 hq2 hq3 hRF
 generalize hN1:pcn l1=N1 at *
 have HN1:Hid (pcn l1=N1):=hN1
 clear hN1
 have HID:=HI.out.drew
 have HWD:Hid _:=dL b T p2 _ HID.rd hs
 have cz:=af.cell HID.box (dj _ _ _ _ _)
 rcases hw3:cF T.data.toList p2 with ⟨E,A⟩ | ⟨l3,p3⟩
 ·rw[hw3] at HWD
  have HRR:Hid (RR=.error (E,A)):=by have h:=HRM.out;rw[hw3] at h;exact h
  have HWE:Hid (Calls Tryz.prog 40 #[.pointer (some ⟨b,0,none⟩)] (World.drew _) fun e w'=>e=.panicked [flt E A]∧Fb b _ w'):=HWD.out
  have HFB:Hid _:=HID.fb
  clear HWD hw3
  refine wp_region_held_drew (S:=fun W=>W.cell? ⟨w.heap.size+1,0,none⟩=some (.slice ga N1 gc)) (by kernel_rfl) cz (fun hS=>?_)
  refine aY 0 12 (.pointer (some ⟨b,0,none⟩)) rfl rfl (by kernel_rfl) (by kernel_rfl) (by kernel_rfl) (fun _ _ _ h=>h) (by rfl) (fun W hW=>by clear hS hW;go_simp) hS ?_
  simp only[zsA,zsB,zsC]
  refine aY 2 14 (.pointer (some ⟨w.heap.size+1,0,none⟩)) rfl rfl (by kernel_rfl) (by kernel_rfl) (by kernel_rfl) (fun _ _ _ h=>h) (by rfl) (fun W hW=>by clear hS hW;go_simp) hS ?_
  simp only[zsA,zsB,zsC]
  refine aY 3 15 (.slice ga N1 gc) rfl rfl (by kernel_rfl) (by kernel_rfl) (by kernel_rfl) (fun _ _ _ h=>h) (by rfl) (fun W hW=>by have u:=hW;clear hS hW;go_simp) hS ?_
  simp only[zsA,zsB,zsC]
  refine aY 4 16 (.int .i64 (N1:Nat)) rfl rfl (by kernel_rfl) (by kernel_rfl) (by kernel_rfl) (fun _ _ _ h=>h) (by rfl) (fun W hW=>by clear hS hW;go_simp) hS ?_
  simp only[zsA,zsB,zsC]
  refine rd1 1 rfl (fun K hK=>?_)
  go_simp
  refine Calls.mono (HWE.out) ?_
  rintro e Y ⟨rfl,hf⟩
  exact ⟨rfl,by rw[HRR.out];rfl,HFB.out.trans hf⟩
 rw[hw3] at HWD
 obtain ⟨-,-,-,hq1,hq2,hq3,hq4⟩:=di hw3
 have hrm:=HRM.out
 rw[hw3] at hrm
 change RR=cW _ _ _ at hrm
 by_cases hE:¬qM l3 N1=0
 ·have HRR:Hid (RR=.error (qM l3 N1,p2)):=by rw[Hid,hrm];unfold cW;rw[if_neg hE]
  clear hrm hw3
  refine wp_region_held_drew (S:=fun W=>W.cell? ⟨w.heap.size+1,0,none⟩=some (.slice ga N1 gc)) (by kernel_rfl) cz (fun hS=>?_)
  refine aY 0 12 (.pointer (some ⟨b,0,none⟩)) rfl rfl (by kernel_rfl) (by kernel_rfl) (by kernel_rfl) (fun _ _ _ h=>h) (by rfl) (fun W hW=>by clear hS hW;go_simp) hS ?_
  simp only[zsA,zsB,zsC]
  refine aY 2 14 (.pointer (some ⟨w.heap.size+1,0,none⟩)) rfl rfl (by kernel_rfl) (by kernel_rfl) (by kernel_rfl) (fun _ _ _ h=>h) (by rfl) (fun W hW=>by clear hS hW;go_simp) hS ?_
  simp only[zsA,zsB,zsC]
  refine aY 3 15 (.slice ga N1 gc) rfl rfl (by kernel_rfl) (by kernel_rfl) (by kernel_rfl) (fun _ _ _ h=>h) (by rfl) (fun W hW=>by have u:=hW;clear hS hW;go_simp) hS ?_
  simp only[zsA,zsB,zsC]
  refine aY 4 16 (.int .i64 (N1:Nat)) rfl rfl (by kernel_rfl) (by kernel_rfl) (by kernel_rfl) (fun _ _ _ h=>h) (by rfl) (fun W hW=>by clear hS hW;go_simp) hS ?_
  simp only[zsA,zsB,zsC]
  refine rd1 1 rfl (fun K hK=>?_)
  go_simp
  refine Calls.mono HWD.out ?_
  rintro e V3 ⟨⟨v,rfl,rfl,hrd⟩,hf⟩
  have HI1:Hid _:=HID.step hf hrd
  refine hK.out _ _ (af.cell HI1.out.box (dj _ _ _ _ _)) (fun hS1=>?_)
  clear hK hS K
  have hS:=hS1
  clear hS1
  refine rd1 5 rfl (fun K hK=>?_)
  go_simp
  refine Calls.mono (lC l3 p2 N1 (by omega) (by omega) V3) ?_
  rintro e X3 ⟨-,hbad,hb⟩
  obtain rfl:=hbad hE
  exact ⟨rfl,by rw[HRR.out];rfl,(HI1.out.calm hb).fb⟩
 have hE:=Decidable.not_not.1 hE
 rw[cW,if_pos hE] at hrm
 have HRM1:Hid _:=hrm
 clear HRM hrm hw3
 refine wp_region_noPanic ?_
 refine wp_region_held_drew (S:=fun W=>W.cell? ⟨w.heap.size+1,0,none⟩=some (.slice ga N1 gc)) (by kernel_rfl) cz (fun hS=>?_)
 refine vtk 0 12 (.pointer (some ⟨b,0,none⟩)) rfl (fun W hW=>by clear hS hW;go_simp) hS ?_
 simp only[zsA,zsB,zsC]
 refine vtk 2 14 (.pointer (some ⟨w.heap.size+1,0,none⟩)) rfl (fun W hW=>by clear hS hW;go_simp) hS ?_
 simp only[zsA,zsB,zsC]
 refine vtk 3 15 (.slice ga N1 gc) rfl (fun W hW=>by have u:=hW;clear hS hW;go_simp) hS ?_
 simp only[zsA,zsB,zsC]
 refine vtk 4 16 (.int .i64 (N1:Nat)) rfl (fun W hW=>by clear hS hW;go_simp) hS ?_
 simp only[zsA,zsB,zsC]
 refine rd1 1 rfl (fun K hK=>?_)
 go_simp
 refine Calls.mono HWD.out ?_
 rintro e V3 ⟨⟨v,rfl,rfl,hrd⟩,hf⟩
 have HI1:Hid _:=HID.step hf hrd
 refine hK.out _ _ (af.cell HI1.out.box (dj _ _ _ _ _)) (fun hS1=>?_)
 clear hK hS K
 have hS:=hS1
 clear hS1
 refine rd1 5 rfl (fun K hK=>?_)
 go_simp
 refine Calls.mono (lC l3 p2 N1 (by omega) (by omega) V3) ?_
 rintro e X3 ⟨hok,-,hb⟩
 obtain ⟨v,rfl,hnu,hfr⟩:=hok hE
 have HI2:Hid _:=HI1.out.calm hb
 refine hK.out _ _ (af.cell HI2.out.box (dj _ _ _ _ _)) (fun hS1=>?_)
 clear hK hS K
 have hS:=hS1
 clear hS1
 obtain ⟨ba3,bc3,rfl,hnm,hnc⟩:=hnu
 have hnu:aq X3 (.slice ba3 N1 bc3) N1 (xm l3):=⟨ba3,bc3,rfl,hnm,hnc⟩
 have hlo:=HI1.out.box.lt
 have hput:=(HI2.out.more ((s9 hnu hfr).mono (show w.heap.size+2≤V3.heap.size by omega) (Nat.le_refl _))).put 1 (.slice ba3 N1 bc3) (ms1 _ _ _ _ _ _)
 have c1:=af.cell HI2.out.box (nK _ _ _ _ _)
 have f1:=af.frozen HI2.out.box 1
 refine vtk 6 18 (.pointer (some ⟨w.heap.size+1,1,none⟩)) rfl (fun W hW=>by clear hS hW;go_simp) hS ?_
 simp only[zsA,zsB,zsC]
 refine rd1 7 rfl (fun K hK=>?_)
 go_simp
 refine hK.out _ _ (af.cell hput.box (dj _ _ _ _ _)) (fun hS1=>?_)
 clear hK hS K
 have hS:=hS1
 clear hS1
 refine wpAnyH_done (by kernel_rfl) ?_ _
 refine NoPanic.normal ?_
 clear HI HI1 HI2 HID HWD hb hE c1 f1 hnu hnm hnc hfr hrd hf hS cz hq1 hq2 hq3 hlo
 have HI:Hid _:=hput
 have HRM:Hid _:=HRM1.out
 clear HRM1 hput
 generalize X3.setCell ⟨w.heap.size+1,1,none⟩ (.slice ba3 N1 bc3)=Z3 at *
 go_upto_region 5 with fail
 have HID:=HI.out.drew
 have HWD:Hid _:=dL b T p3 _ HID.rd hs
 have cz:=af.cell HID.box (dj _ _ _ _ _)
 rcases hw4:cF T.data.toList p3 with ⟨E,A⟩ | ⟨l4,p4⟩
 ·rw[hw4] at HWD
  have HRR:Hid (RR=.error (E,A)):=by have h:=HRM.out;rw[hw4] at h;exact h
  have HWE:Hid (Calls Tryz.prog 40 #[.pointer (some ⟨b,0,none⟩)] (World.drew _) fun e w'=>e=.panicked [flt E A]∧Fb b _ w'):=HWD.out
  have HFB:Hid _:=HID.fb
  clear HWD hw4
  refine wp_region_held_drew (S:=fun W=>W.cell? ⟨w.heap.size+1,0,none⟩=some (.slice ga N1 gc)) (by kernel_rfl) cz (fun hS=>?_)
  refine aY 0 19 (.pointer (some ⟨b,0,none⟩)) rfl rfl (by kernel_rfl) (by kernel_rfl) (by kernel_rfl) (fun _ _ _ h=>h) (by rfl) (fun W hW=>by clear hS hW;go_simp) hS ?_
  simp only[zsA,zsB,zsC]
  refine aY 2 21 (.pointer (some ⟨w.heap.size+1,0,none⟩)) rfl rfl (by kernel_rfl) (by kernel_rfl) (by kernel_rfl) (fun _ _ _ h=>h) (by rfl) (fun W hW=>by clear hS hW;go_simp) hS ?_
  simp only[zsA,zsB,zsC]
  refine aY 3 22 (.slice ga N1 gc) rfl rfl (by kernel_rfl) (by kernel_rfl) (by kernel_rfl) (fun _ _ _ h=>h) (by rfl) (fun W hW=>by have u:=hW;clear hS hW;go_simp) hS ?_
  simp only[zsA,zsB,zsC]
  refine aY 4 23 (.int .i64 (N1:Nat)) rfl rfl (by kernel_rfl) (by kernel_rfl) (by kernel_rfl) (fun _ _ _ h=>h) (by rfl) (fun W hW=>by clear hS hW;go_simp) hS ?_
  simp only[zsA,zsB,zsC]
  refine rd1 1 rfl (fun K hK=>?_)
  go_simp
  refine Calls.mono (HWE.out) ?_
  rintro e Y ⟨rfl,hf⟩
  exact ⟨rfl,by rw[HRR.out];rfl,HFB.out.trans hf⟩
 rw[hw4] at HWD
 obtain ⟨-,-,-,hq1,hq2,hq3,hq4⟩:=di hw4
 have hrm:=HRM.out
 rw[hw4] at hrm
 change RR=cW _ _ _ at hrm
 by_cases hE:¬qM l4 N1=0
 ·have HRR:Hid (RR=.error (qM l4 N1,p3)):=by rw[Hid,hrm];unfold cW;rw[if_neg hE]
  clear hrm hw4
  refine wp_region_held_drew (S:=fun W=>W.cell? ⟨w.heap.size+1,0,none⟩=some (.slice ga N1 gc)) (by kernel_rfl) cz (fun hS=>?_)
  refine aY 0 19 (.pointer (some ⟨b,0,none⟩)) rfl rfl (by kernel_rfl) (by kernel_rfl) (by kernel_rfl) (fun _ _ _ h=>h) (by rfl) (fun W hW=>by clear hS hW;go_simp) hS ?_
  simp only[zsA,zsB,zsC]
  refine aY 2 21 (.pointer (some ⟨w.heap.size+1,0,none⟩)) rfl rfl (by kernel_rfl) (by kernel_rfl) (by kernel_rfl) (fun _ _ _ h=>h) (by rfl) (fun W hW=>by clear hS hW;go_simp) hS ?_
  simp only[zsA,zsB,zsC]
  refine aY 3 22 (.slice ga N1 gc) rfl rfl (by kernel_rfl) (by kernel_rfl) (by kernel_rfl) (fun _ _ _ h=>h) (by rfl) (fun W hW=>by have u:=hW;clear hS hW;go_simp) hS ?_
  simp only[zsA,zsB,zsC]
  refine aY 4 23 (.int .i64 (N1:Nat)) rfl rfl (by kernel_rfl) (by kernel_rfl) (by kernel_rfl) (fun _ _ _ h=>h) (by rfl) (fun W hW=>by clear hS hW;go_simp) hS ?_
  simp only[zsA,zsB,zsC]
  refine rd1 1 rfl (fun K hK=>?_)
  go_simp
  refine Calls.mono HWD.out ?_
  rintro e V4 ⟨⟨v,rfl,rfl,hrd⟩,hf⟩
  have HI1:Hid _:=HID.step hf hrd
  refine hK.out _ _ (af.cell HI1.out.box (dj _ _ _ _ _)) (fun hS1=>?_)
  clear hK hS K
  have hS:=hS1
  clear hS1
  refine rd1 5 rfl (fun K hK=>?_)
  go_simp
  refine Calls.mono (lC l4 p3 N1 (by omega) (by omega) V4) ?_
  rintro e X4 ⟨-,hbad,hb⟩
  obtain rfl:=hbad hE
  exact ⟨rfl,by rw[HRR.out];rfl,(HI1.out.calm hb).fb⟩
 have hE:=Decidable.not_not.1 hE
 rw[cW,if_pos hE] at hrm
 have HRM1:Hid _:=hrm
 clear HRM hrm hw4
 refine wp_region_noPanic ?_
 refine wp_region_held_drew (S:=fun W=>W.cell? ⟨w.heap.size+1,0,none⟩=some (.slice ga N1 gc)) (by kernel_rfl) cz (fun hS=>?_)
 refine vtk 0 19 (.pointer (some ⟨b,0,none⟩)) rfl (fun W hW=>by clear hS hW;go_simp) hS ?_
 simp only[zsA,zsB,zsC]
 refine vtk 2 21 (.pointer (some ⟨w.heap.size+1,0,none⟩)) rfl (fun W hW=>by clear hS hW;go_simp) hS ?_
 simp only[zsA,zsB,zsC]
 refine vtk 3 22 (.slice ga N1 gc) rfl (fun W hW=>by have u:=hW;clear hS hW;go_simp) hS ?_
 simp only[zsA,zsB,zsC]
 refine vtk 4 23 (.int .i64 (N1:Nat)) rfl (fun W hW=>by clear hS hW;go_simp) hS ?_
 simp only[zsA,zsB,zsC]
 refine rd1 1 rfl (fun K hK=>?_)
 go_simp
 refine Calls.mono HWD.out ?_
 rintro e V4 ⟨⟨v,rfl,rfl,hrd⟩,hf⟩
 have HI1:Hid _:=HID.step hf hrd
 refine hK.out _ _ (af.cell HI1.out.box (dj _ _ _ _ _)) (fun hS1=>?_)
 clear hK hS K
 have hS:=hS1
 clear hS1
 refine rd1 5 rfl (fun K hK=>?_)
 go_simp
 refine Calls.mono (lC l4 p3 N1 (by omega) (by omega) V4) ?_
 rintro e X4 ⟨hok,-,hb⟩
 obtain ⟨v,rfl,hnu,hfr⟩:=hok hE
 have HI2:Hid _:=HI1.out.calm hb
 refine hK.out _ _ (af.cell HI2.out.box (dj _ _ _ _ _)) (fun hS1=>?_)
 clear hK hS K
 have hS:=hS1
 clear hS1
 obtain ⟨ba4,bc4,rfl,hnm,hnc⟩:=hnu
 have hnu:aq X4 (.slice ba4 N1 bc4) N1 (xm l4):=⟨ba4,bc4,rfl,hnm,hnc⟩
 have hlo:=HI1.out.box.lt
 have hput:=(HI2.out.more ((s9 hnu hfr).mono (show w.heap.size+2≤V4.heap.size by omega) (Nat.le_refl _))).put 2 (.slice ba4 N1 bc4) (ms2 _ _ _ _ _ _)
 have c1:=af.cell HI2.out.box (lR _ _ _ _ _)
 have f1:=af.frozen HI2.out.box 2
 refine vtk 6 25 (.pointer (some ⟨w.heap.size+1,2,none⟩)) rfl (fun W hW=>by clear hS hW;go_simp) hS ?_
 simp only[zsA,zsB,zsC]
 refine rd1 7 rfl (fun K hK=>?_)
 go_simp
 refine hK.out _ _ (af.cell hput.box (dj _ _ _ _ _)) (fun hS1=>?_)
 clear hK hS K
 have hS:=hS1
 clear hS1
 refine wpAnyH_done (by kernel_rfl) ?_ _
 refine NoPanic.normal ?_
 clear HI HI1 HI2 HID HWD hb hE c1 f1 hnu hnm hnc hfr hrd hf hS cz hq1 hq2 hq3 hlo
 have HI:Hid _:=hput
 have HRM:Hid _:=HRM1.out
 clear HRM1 hput
 generalize X4.setCell ⟨w.heap.size+1,2,none⟩ (.slice ba4 N1 bc4)=Z4 at *
 go_upto_region 6 with fail
 have HSM:Hid _:=pZ Z4
 go_wp2_with fail
 refine Calls.mono HSM.out ?_
 rintro e Z5 ⟨rfl,hb⟩
 have HI5:=HI.out.calm hb
 have hth:=HI5.there (o:=29) (n:=26) (by omega)
 have hlay:=HI5.lay 29 (ints 26 (Pm.up fun i=>i)).toList (mI _ _ _ _ _ _)
 obtain ⟨Z6,hZ6⟩:∃Z6,Z6=Z5.setCells (w.heap.size+1) 29 (ints 26 (Pm.up fun i=>i)).toList:=⟨_,rfl⟩
 rw[←hZ6] at hlay
 clear HI HI5 hb HSM
 have HI:Hid _:=hlay
 clear hlay
 go_upto_region 7 with (first | refine wpList_store_mid rfl 25 _ _ rfl (w.heap.size+1) 29 (ints 26 (Pm.up fun i=>i)) rfl rfl (by rw[ag];exact hth) (by rw[ag];exact aj) (aI _ _) ?_)
 rw[←hZ6]
 clear hZ6 hth
 have HEN:Hid _:=jL b T p4 Z6 HI.out.rd
 go_wp2_with fail
 refine Calls.mono HEN.out ?_
 rintro e Z7 ⟨rfl,hb⟩
 have HI7:Hid _:=HI.out.calm hb
 clear HI HEN hb
 by_cases hend:T.size<p4
 ·have hd:decide (T.size<p4)=true:=by simpa using hend
  rw[hd]
  have HRR:Hid (RR=.ok (uM l1 l2 l3 l4 (Pm.up fun i=>i),p4)):=by rw[Hid,HRM.out];unfold El;rw[if_pos (by omega)];rfl
  clear hd hend
  go_upto_region 9 with fail
  obtain ⟨MC,hMC⟩:∃MC,MC=mac (.slice ga N1 gc) (.slice ba3 N1 bc3) (.slice ba4 N1 bc4) RF (Pm.up fun i=>i):=⟨_,rfl⟩
  have hbx:=HI7.out.box
  rw[←hMC] at hbx
  have HSZ:Hid (MC.size=55):=by rw[Hid,hMC,aE]
  have HONE:Hid (MC.all (·.oneCell')=true):=by rw[Hid,hMC];exact lY rfl rfl rfl
  have hres:=HI7.out.res
  obtain ⟨hf1,hf2,hf3⟩:=HI7.out.fin MC
  have HR9:Hid (af (Z7.setRow w.heap.size MC) w.heap.size 27 MC):=af.row hres MC
  have HNW:Hid (Nw w.heap.size (Z7.setRow w.heap.size MC).heap.size (fun W=>cE W (.agg MC) (uM l1 l2 l3 l4 (Pm.up fun i=>i))) (Z7.setRow w.heap.size MC)):=hf3.imp fun W hW=>by
   obtain ⟨⟨⟨-,hw⟩,h3⟩,h4⟩:=hW
   refine ⟨.slice ga N1 gc,.slice ba3 N1 bc3,.slice ba4 N1 bc4,?_,?_,?_,?_⟩
   ·rw[hMC,←HRF.out];rfl
   ·show b7 W _ (pcn l1) _ _ _;rw[HN1.out];exact hw
   ·show aq W _ (pcn l1) _;rw[HN1.out];exact h3
   ·show aq W _ (pcn l1) _;rw[HN1.out];exact h4
  have HRD:Hid (b8 (Z7.setRow w.heap.size MC) b T p4):=hf1
  have HFB:Hid (Fb b w (Z7.setRow w.heap.size MC)):=hf2
  clear hf1 hf2 hf3 hMC HI7
  go_wp2_with (first | refine wpList_load_row rfl 27 _ rfl (w.heap.size+1) rfl 27 MC (0,0) _ hbx Tryz.underlying27 rfl (by rw[HSZ.out];exact aF) ?_ | refine wpList_store_row rfl 27 _ _ rfl w.heap.size MC rfl rfl 27 _ hres (by rw[HSZ.out];exact aF) (by rw[HSZ.out,aE]) HONE.out ?_)
  exact ⟨rfl,_,bV rfl _ _ w.heap.size 27 MC (0,0) _ rfl HR9.out Tryz.underlying27 rfl (by rw[HSZ.out];exact aF),by rw[HRR.out];exact ⟨_,rfl,HNW.out,HRD.out⟩,HFB.out⟩
 ·have hd:decide (T.size<p4)=false:=by simpa using hend
  rw[hd]
  have HAH:Hid _:=rL b T p4 Z7 HI7.out.rd hs
  have hle:¬T.data.toList.length<p4:=by omega
  clear hd hend
  go_wp2_with fail
  refine Calls.mono HAH.out ?_
  rintro e Z8 ⟨hbad,hok,hb⟩
  have HI8:Hid _:=HI7.out.calm hb
  clear hb HI7 HAH
  by_cases hE:¬wE T.data.toList p4=0
  ·obtain rfl:=hbad hE
   have hRR:RR=.error (2,wA T.data.toList p4):=by rw[HRM.out];unfold El cF;rw[if_neg hle,if_neg hE];rfl
   exact ⟨rfl,by rw[hRR];rfl,HI8.out.fb⟩
  have hE:=Decidable.not_not.1 hE
  obtain rfl:=hok hE
  clear hbad hok
  have hw5:cF T.data.toList p4=.ok (wrd T.data.toList p4,p4+(wrd T.data.toList p4).length+1):=by unfold cF;rw[if_pos hE]
  generalize wrd T.data.toList p4=l5 at *
  clear hE
  have HW5:Hid (cF T.data.toList p4=.ok (l5,p4+l5.length+1)):=hw5
  clear hw5
  by_cases hbar:l5=[124]
  ·have HRR:Hid (RR=.ok (uM l1 l2 l3 l4 (Pm.up fun i=>i),p4)):=by
    rw[Hid,HRM.out];unfold El;rw[if_neg hle,HW5.out]
    show bU (if l5=[124] then _ else _) _=_
    rw[if_pos hbar];rfl
   clear HW5 hle
   subst hbar
   have hwf:=zz
   unfold wdV
   go_upto_region 9 with fail
   obtain ⟨MC,hMC⟩:∃MC,MC=mac (.slice ga N1 gc) (.slice ba3 N1 bc3) (.slice ba4 N1 bc4) RF (Pm.up fun i=>i):=⟨_,rfl⟩
   have hbx:=HI8.out.box
   rw[←hMC] at hbx
   have HSZ:Hid (MC.size=55):=by rw[Hid,hMC,aE]
   have HONE:Hid (MC.all (·.oneCell')=true):=by rw[Hid,hMC];exact lY rfl rfl rfl
   have hres:=HI8.out.res
   obtain ⟨hf1,hf2,hf3⟩:=HI8.out.fin MC
   have HR9:Hid (af (Z8.setRow w.heap.size MC) w.heap.size 27 MC):=af.row hres MC
   have HNW:Hid (Nw w.heap.size (Z8.setRow w.heap.size MC).heap.size (fun W=>cE W (.agg MC) (uM l1 l2 l3 l4 (Pm.up fun i=>i))) (Z8.setRow w.heap.size MC)):=hf3.imp fun W hW=>by
    obtain ⟨⟨⟨-,hw⟩,h3⟩,h4⟩:=hW
    refine ⟨.slice ga N1 gc,.slice ba3 N1 bc3,.slice ba4 N1 bc4,?_,?_,?_,?_⟩
    ·rw[hMC,←HRF.out];rfl
    ·show b7 W _ (pcn l1) _ _ _;rw[HN1.out];exact hw
    ·show aq W _ (pcn l1) _;rw[HN1.out];exact h3
    ·show aq W _ (pcn l1) _;rw[HN1.out];exact h4
   have HRD:Hid (b8 (Z8.setRow w.heap.size MC) b T p4):=hf1
   have HFB:Hid (Fb b w (Z8.setRow w.heap.size MC)):=hf2
   clear hf1 hf2 hf3 hMC HI8
   go_wp2_with (first | refine wpList_load_row rfl 27 _ rfl (w.heap.size+1) rfl 27 MC (0,0) _ hbx Tryz.underlying27 rfl (by rw[HSZ.out];exact aF) ?_ | refine wpList_store_row rfl 27 _ _ rfl w.heap.size MC rfl rfl 27 _ hres (by rw[HSZ.out];exact aF) (by rw[HSZ.out,aE]) HONE.out ?_)
   exact ⟨rfl,_,bV rfl _ _ w.heap.size 27 MC (0,0) _ rfl HR9.out Tryz.underlying27 rfl (by rw[HSZ.out];exact aF),by rw[HRR.out];exact ⟨_,rfl,HNW.out,HRD.out⟩,HFB.out⟩
  ·have hbn:(l5==[124])=false:=by simpa using hbar
   obtain ⟨-,-,-,hq1,hq2,hq3,hq4⟩:=di HW5.out
   have hrm:=HRM.out
   unfold El at hrm
   rw[if_neg hle,HW5.out] at hrm
   change RR=bU (if l5=[124] then _ else _) _ at hrm
   rw[if_neg hbar] at hrm
   have HRM1:Hid _:=hrm
   have HWD:Hid _:=dL b T p4 Z8 HI8.out.rd hs
   rw[HW5.out] at HWD
   clear HRM hrm HW5 hle hbar
   have hwf:=zz
   unfold wdV
   go_upto_region 8 with fail
   go_wp2_with fail
   refine Calls.mono HWD.out ?_
   rintro e Z9 ⟨⟨v,rfl,rfl,hrd⟩,hf⟩
   have HI9:Hid _:=HI8.out.step hf hrd
   have HCL:Hid _:=C4 l5 p4 (by omega) (by omega) Z9
   clear HI8 HWD hf hrd hwf hbn
   go_wp2_with fail
   refine Calls.mono HCL.out ?_
   rintro e Z10 ⟨hok,hbad,hb⟩
   by_cases hE:¬vW l5=0
   ·obtain rfl:=hbad hE
    have hRR:RR=.error (vW l5,p4+Ey l5):=by rw[HRM1.out];unfold cW;rw[if_neg hE];rfl
    exact ⟨rfl,by rw[hRR];rfl,(HI9.out.calm hb).fb⟩
   have hE:=Decidable.not_not.1 hE
   obtain rfl:=hok hE
   have HRR:Hid (RR=.ok (uM l1 l2 l3 l4 (aW l5).1,p4+l5.length+1)):=by rw[Hid,HRM1.out,cW,if_pos hE];rfl
   have hI10:=HI9.out.calm hb
   clear HI9 HRM1 HCL hok hbad hb hE hq1 hq2 hq3 hq4
   generalize (aW l5).1=PL at *
   have hth:=hI10.there (o:=29) (n:=26) (by omega)
   have hlay:=hI10.lay 29 (ints 26 PL).toList (mI _ _ _ _ _ _)
   obtain ⟨Z11,hZ11⟩:∃Z11,Z11=Z10.setCells (w.heap.size+1) 29 (ints 26 PL).toList:=⟨_,rfl⟩
   rw[←hZ11] at hlay
   have HI11:Hid _:=hlay
   clear hI10 hlay
   go_upto_region 9 with (first | refine wpList_store_mid rfl 25 _ _ rfl (w.heap.size+1) 29 (ints 26 PL) rfl rfl (by rw[ag];exact hth) (by rw[ag];exact aj) (aI _ _) ?_)
   rw[←hZ11]
   clear hZ11 hth
   obtain ⟨MC,hMC⟩:∃MC,MC=mac (.slice ga N1 gc) (.slice ba3 N1 bc3) (.slice ba4 N1 bc4) RF PL:=⟨_,rfl⟩
   have hbx:=HI11.out.box
   rw[←hMC] at hbx
   have HSZ:Hid (MC.size=55):=by rw[Hid,hMC,aE]
   have HONE:Hid (MC.all (·.oneCell')=true):=by rw[Hid,hMC];exact lY rfl rfl rfl
   have hres:=HI11.out.res
   obtain ⟨hf1,hf2,hf3⟩:=HI11.out.fin MC
   have HR9:Hid (af (Z11.setRow w.heap.size MC) w.heap.size 27 MC):=af.row hres MC
   have HNW:Hid (Nw w.heap.size (Z11.setRow w.heap.size MC).heap.size (fun W=>cE W (.agg MC) (uM l1 l2 l3 l4 PL)) (Z11.setRow w.heap.size MC)):=hf3.imp fun W hW=>by
    obtain ⟨⟨⟨-,hw⟩,h3⟩,h4⟩:=hW
    refine ⟨.slice ga N1 gc,.slice ba3 N1 bc3,.slice ba4 N1 bc4,?_,?_,?_,?_⟩
    ·rw[hMC,←HRF.out];rfl
    ·show b7 W _ (pcn l1) _ _ _;rw[HN1.out];exact hw
    ·show aq W _ (pcn l1) _;rw[HN1.out];exact h3
    ·show aq W _ (pcn l1) _;rw[HN1.out];exact h4
   have HRD:Hid (b8 (Z11.setRow w.heap.size MC) b T (p4+l5.length+1)):=hf1
   have HFB:Hid (Fb b w (Z11.setRow w.heap.size MC)):=hf2
   clear hf1 hf2 hf3 hMC HI11
   go_wp2_with (first | refine wpList_load_row rfl 27 _ rfl (w.heap.size+1) rfl 27 MC (0,0) _ hbx Tryz.underlying27 rfl (by rw[HSZ.out];exact aF) ?_ | refine wpList_store_row rfl 27 _ _ rfl w.heap.size MC rfl rfl 27 _ hres (by rw[HSZ.out];exact aF) (by rw[HSZ.out,aE]) HONE.out ?_)
   exact ⟨rfl,_,bV rfl _ _ w.heap.size 27 MC (0,0) _ rfl HR9.out Tryz.underlying27 rfl (by rw[HSZ.out];exact aF),by rw[HRR.out];exact ⟨_,rfl,HNW.out,HRD.out⟩,HFB.out⟩
end Go.Proofs.YtgacaecjinlhiaaGreatDoor
