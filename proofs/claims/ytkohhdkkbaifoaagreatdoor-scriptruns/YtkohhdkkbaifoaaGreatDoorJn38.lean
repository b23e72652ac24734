/-
  Several texts, joined: LScR, OOpen, ScAr.
-/
import Derived.Test.YtkohhdkkbaifoaaGreatDoorPz
import Derived.Test.YtkohhdkkbaifoaaGreatDoorRuQ
import Derived.Test.YtkohhdkkbaifoaaGreatDoorJn37
import Derived.Test.YtkohhdkkbaifoaaGreatDoorScN
import Derived.Test.YtkohhdkkbaifoaaGreatDoorJn3
import Derived.Test.YtkohhdkkbaifoaaGreatDoorChecked
import Derived.Deep.Matrix
import Derived.ProofKit
import Derived.OpenShut
import Derived.ShutString
import Derived.ChangeOld
import Derived.Carry
import Derived.ChangeSlices
import Derived.Test.YtkohhdkkbaifoaaGreatDoorJn5
/-
  ScriptRuns, walked.
-/
namespace Go.Proofs.YtkohhdkkbaifoaaGreatDoor
open Go.RowKit PK Vg

structure FH (w W:World) (b c:Nat) (E A F G:Int):Prop where
 f:RowAt W b 35 #[.int .i64 E,.int .i64 A]
 g:RowAt W c 35 #[.int .i64 F,.int .i64 G]
 below:Below w.heap.size w W
 leb:w.heap.size≤b
 lec:w.heap.size≤c
 ne:b≠c
theorem FH.step {w W W':World} {b c:Nat} {E A F G:Int} (h:FH w W b c E A F G) (hb:Below W.heap.size W W'):FH w W' b c E A F G:=⟨h.f.below hb h.f.lt,h.g.below hb h.g.lt,h.below.trans (hb.mono h.below.size),h.leb,h.lec,h.ne⟩
theorem FH.setF {w W:World} {b c:Nat} {E A F G:Int} (h:FH w W b c E A F G) (E' A':Int):FH w ((W.setCell ⟨b,0,none⟩ (.int .i64 E')).setCell ⟨b,1,none⟩ (.int .i64 A')) b c E' A' F G :=
 ⟨(h.f.set 0 (.int .i64 E')).set 1 (.int .i64 A'),(h.g.setOther _ _ (Ne.symm h.ne)).setOther _ _ (Ne.symm h.ne),(h.below.setCell (p:=⟨b,0,none⟩) h.leb _).setCell (p:=⟨b,1,none⟩) h.leb _,h.leb,h.lec,h.ne⟩
theorem FH.setG {w W:World} {b c:Nat} {E A F G:Int} (h:FH w W b c E A F G) (E' A':Int):FH w ((W.setCell ⟨c,0,none⟩ (.int .i64 E')).setCell ⟨c,1,none⟩ (.int .i64 A')) b c E A E' A' :=
 ⟨(h.f.setOther _ _ h.ne).setOther _ _ h.ne,(h.g.set 0 (.int .i64 E')).set 1 (.int .i64 A'),(h.below.setCell (p:=⟨c,0,none⟩) h.lec _).setCell (p:=⟨c,1,none⟩) h.lec _,h.leb,h.lec,h.ne⟩
theorem FH.start {w W1 W2:World} {E A:Int} (hb1:Below w.heap.size w W1) (hb2:Below (W1.alloc (.cells #[.int .i64 E,.int .i64 A] 35)).heap.size (W1.alloc (.cells #[.int .i64 E,.int .i64 A] 35)) W2):FH w (W2.alloc (.cells #[.int .i64 E,.int .i64 A] 35)) W1.heap.size W2.heap.size E A E A:=by
 have r1:=RowAt.new W1 35 #[.int .i64 E,.int .i64 A]
 have l1:=hb1.size
 have l2:=hb2.size
 simp at l2
 exact ⟨(r1.below hb2 r1.lt).alloc _,RowAt.new W2 _ _,((hb1.alloc hb1.size _).trans (hb2.mono (by simp;omega))).alloc (by omega) _,l1,by omega,by omega⟩
set_option maxRecDepth 100000 in
set_option maxHeartbeats 4000000 in
theorem sruns_run (a:Option Addr) (n c:Nat) (l:Nat→Sp) (t R1 R2 R3:ByteArray) (E1 A1 E2 A2 E3 A3:Int) (w:World) (hv:ChAt w (.slice a n c) n l)
  (H1:Hid (∀W,Below w.heap.size w W→Calls Tryz.prog 11 #[.slice a n c,.string t] W fun e w'=>e=.returned (.tuple #[.string R1,.agg #[.int .i64 E1,.int .i64 A1]])∧Below W.heap.size W w'))
  (H2:Hid (∀W,Below w.heap.size w W→Calls Tryz.prog 12 #[.slice a n c,.string t] W fun e w'=>e=.returned (.tuple #[.string R1,.agg #[.int .i64 E1,.int .i64 A1]])∧Below W.heap.size W w'))
  (H3:Hid (∀W,Below w.heap.size w W→Calls Tryz.prog 13 #[.slice a n c,.string t] W fun e w'=>e=.returned (.tuple #[.string R2,.agg #[.int .i64 E2,.int .i64 A2]])∧Below W.heap.size W w'))
  (H4:Hid (∀W,Below w.heap.size w W→Calls Tryz.prog 14 #[.slice a n c,.string t] W fun e w'=>e=.returned (.tuple #[.string R2,.agg #[.int .i64 E2,.int .i64 A2]])∧Below W.heap.size W w'))
  (H5:Hid (∀W,Below w.heap.size w W→Calls Tryz.prog 15 #[.slice a n c] W fun e w'=>e=.returned (.tuple #[.string R3,.agg #[.int .i64 E3,.int .i64 A3]])∧Below W.heap.size W w'))
  (H6:Hid (∀W,Below w.heap.size w W→Calls Tryz.prog 16 #[.slice a n c] W fun e w'=>e=.returned (.tuple #[.string R3,.agg #[.int .i64 E3,.int .i64 A3]])∧Below W.heap.size W w'))
  : Calls Tryz.prog 3 #[.slice a n c,.string t] w fun e w'=>e=.returned (.bool true)∧Below w.heap.size w w':=by
 obtain ⟨a',c',R,e0,hm,hr0,hs⟩:=hv
 have e1:a=a':=by injection e0
 have hr:∀i,i<n→∃b o,a=some ⟨b,o,none⟩∧w.rangeAt b (o+i*59) (R i).toList:=by rw[e1];exact hr0
 have HR:Hid (∀i,i<n→∃b o,a=some ⟨b,o,none⟩∧w.rangeAt b (o+i*59) (R i).toList):=hr
 have HS:Hid (∀i,i<n→SqAt w (.agg (R i)) (l i)):=hs
 unfold maxLen at hm
 clear hr hs e0 e1 hr0 a' c'
 go_enter Tryz.func3,Tryz.ntmps3
 go_wp2_with fail
 go_loopw [13] (fun i X=>∃k:Nat,k≤n∧i=.int .i64 (k:Nat)∧Hid (Below w.heap.size w X)) (fun i _=>((n:Int)-intOf i).toNat)
 case atStart=>exact ⟨0,by omega,rfl,Below.refl _ _⟩
 case round =>
  obtain ⟨k,hk,rfl,HBW⟩:=hrel
  by_cases hlt:k<n
  ·clear H1 H2 H3 H4 H5 H6
   obtain ⟨bw,ow,rfl,hrg⟩:=HR.out k hlt
   have hrg2:=rangeAt_below hrg HBW.out
   have hsk:=(HS.out k hlt).below HBW.out
   have HSZ:Hid ((R k).size=59):=hsk.cells.1
   have HONE:Hid ((R k).all (·.oneCell')=true):=hsk.cells.2
   have HLT:Hid (k<n):=hlt
   have hlt2:(k:Int)<(n:Int):=by omega
   obtain ⟨CS,hCS⟩:∃CS,CS=R k:=⟨_,rfl⟩
   rw[←hCS] at hrg2 HSZ HONE hsk
   obtain ⟨Z0,hZ0⟩:∃Z0,Z0=spA 0 0 ⟨#[]⟩ (.slice none 0 0) (.slice none 0 0) (.slice none 0 0) (.slice none 0 0) (fun _=>0) (fun _=>0):=⟨_,rfl⟩
   have hz59:=o_zero s_zero
   rw[←hZ0] at hz59
   have HZS:Hid (Z0.size=59):=by rw[Hid,hZ0];exact spA_size _ _ _ _ _ _ _ _ _
   obtain ⟨V,hV⟩:∃V,V=(wr.alloc (.cells Z0 31)).setRow wr.heap.size CS:=⟨_,rfl⟩
   have hbV:Below wr.heap.size wr V:=by rw[hV];exact PK.Below.setRow ((Below.refl _ wr).alloc (Nat.le_refl _) _) wr.heap.size (Nat.le_refl _) _
   obtain ⟨q,hq⟩:∃q,q=wr.heap.size:=⟨_,rfl⟩
   have HQV:Hid (RowAt V q 31 CS):=by rw[Hid,hV,hq];exact (RowAt.new wr _ _).row _
   have HBV:Hid (Below w.heap.size w V):=HBW.out.trans (hbV.mono HBW.out.size)
   have HSQ:Hid (SqAt V (.agg CS) (l k)):=hsk.below hbV
   clear hZ0 hCS hrg hsk hbV hlt
   go_upto_region 4 with (first | refine wpList_load_arr rfl 31 _ rfl bw (ow+k*59) rfl CS _ hrg2 Tryz.underlying31 rfl (by rw[HSZ.out];exact s_info) ?_ | refine wpList_store_row rfl 31 _ _ rfl wr.heap.size CS rfl rfl 31 _ (RowAt.new wr _ _) (by rw[HSZ.out];exact s_info) (by rw[HSZ.out,HZS.out]) HONE.out ?_)
   rw[←hV,←hq]
   clear hV hq hrg2 hz59 HZS HONE HBW
   have hSd:Below V.heap.size V V.drew:=(Below.refl _ _).drew
   have HW1:Hid (∀X,Below V.heap.size V X→Calls Tryz.prog 9 #[.agg CS] X fun e w'=>e=.returned (.int .i64 (stE (l k)))∧Below X.heap.size X w'):=fun X hX=>sw_any _ _ X (HSQ.out.below hX)
   have HW2:Hid (∀X,Below V.heap.size V X→Calls Tryz.prog 10 #[.agg CS] X fun e w'=>e=.returned (.int .i64 (stE (l k)))∧Below X.heap.size X w'):=fun X hX=>rwrong17_any _ _ X (HSQ.out.below hX)
   generalize stE (l k)=E at *
   refine wp_region_noPanic ?_
   refine wp_region_held_drew (S:=fun X=>Below V.heap.size V X) (by kernel_rfl) hSd (fun hS=>?_)
   clear hSd
   obtain ⟨Z,hZ⟩:∃x,x=V.drew:=⟨_,rfl⟩
   rw[←hZ] at hS ⊢
   clear hZ
   refine vtk 0 17 (.agg CS) rfl (fun W hW=>by have u:=run_loadVar_row (P:=Tryz.prog) W q 31 31 CS (0,0) _ (RowAt.below HQV.out hW (RowAt.lt HQV.out)) Tryz.underlying31 rfl (by rw[HSZ.out];exact s_info);clear hS hW;simp[execOp,Act.eval,Instr.loadAt,Instr.sureAddr,u]) hS ?_
   simp only[zsA,zsB,zsC]
   refine vtk 2 19 (.agg CS) rfl (fun W hW=>by have u:=run_loadVar_row (P:=Tryz.prog) W q 31 31 CS (0,0) _ (RowAt.below HQV.out hW (RowAt.lt HQV.out)) Tryz.underlying31 rfl (by rw[HSZ.out];exact s_info);clear hS hW;simp[execOp,Act.eval,Instr.loadAt,Instr.sureAddr,u]) hS ?_
   simp only[zsA,zsB,zsC]
   refine rd1 1 rfl (fun K hK=>?_)
   go_simp
   refine Calls.mono (HW1.out _ hS) ?_
   rintro e Y ⟨rfl,hb8⟩
   refine hK.out _ _ (hS.trans (hb8.mono hS.size)) (fun hS1=>?_)
   clear hK hS K hb8
   have hS:=hS1
   clear hS1
   refine rd1 3 rfl (fun K hK=>?_)
   go_simp
   refine Calls.mono (HW2.out _ hS) ?_
   rintro e Y ⟨rfl,hb8⟩
   refine hK.out _ _ (hS.trans (hb8.mono hS.size)) (fun hS1=>?_)
   clear hK hS K hb8
   have hS:=hS1
   clear hS1
   have hee:(E != E)=false:=by simp
   refine vtk 4 21 (.bool false) rfl (fun W hW=>by clear hS hW;go_simp) hS ?_
   simp only[zsA,zsB,zsC]
   refine wpAnyH_done (by kernel_rfl) ?_ _
   refine NoPanic.normal ?_
   have HB9:Hid (Below w.heap.size w _):=HBV.out.trans (hS.mono HBV.out.size)
   clear hS HW1 HW2 hee
   go_wp2_with fail
   go_roundw
   case rel=>first | exact ⟨k+1,HLT.out,by go_num,HB9.out⟩ | exact ⟨_,_,_,⟨k+1,HLT.out,rfl,HB9.out⟩,rfl,rfl,by go_num⟩ | refine Hid.out ?_
   case measure=>have:=HLT.out;simp[intOf] <;> omega
  ·obtain rfl:k=n:=by omega
   have hnn:¬((k:Nat):Int)<((k:Nat):Int):=by omega
   clear hlt HR HS hk hm
   go_wp2_with fail
   refine Calls.mono (H1.out _ HBW.out) ?_
   rintro e W1 ⟨rfl,hb0⟩
   have hb1:Below w.heap.size w W1:=HBW.out.trans (hb0.mono HBW.out.size)
   have HB1:Hid (Below w.heap.size w (W1.alloc (.cells #[.int .i64 E1,.int .i64 A1] 35))):=hb1.alloc hb1.size _
   have HBA:Hid (Below w.heap.size w W1):=hb1
   clear hb0 hb1 H1 HBW
   go_wp2_with fail
   refine Calls.mono (H2.out _ HB1.out) ?_
   rintro e W2 ⟨rfl,hb2⟩
   have g0:=FH.start HBA.out hb2
   clear hb2 H2 HB1 HBA
   have hne1:W1.heap.size≠W2.heap.size:=g0.ne
   have hne2:W2.heap.size≠W1.heap.size:=Ne.symm hne1
   have xa0:=g0.f.cell (i:=0) rfl
   have xa1:=g0.f.cell (i:=1) rfl
   have xa2:=g0.g.cell (i:=0) rfl
   have xa3:=g0.g.cell (i:=1) rfl
   have xa4:=g0.f.frozen 0
   have xa5:=g0.f.frozen 1
   have xa6:=g0.g.frozen 0
   have xa7:=g0.g.frozen 1
   go_wp2_with fail
   refine Calls.mono (H3.out _ g0.below) ?_
   rintro e W3 ⟨rfl,hb⟩
   have ga2:=g0.step hb
   clear xa0 xa1 xa2 xa3 xa4 xa5 xa6 xa7
   clear hb g0 H3
   have xb0:=ga2.f.cell (i:=0) rfl
   have xb1:=ga2.f.cell (i:=1) rfl
   have xb2:=ga2.g.cell (i:=0) rfl
   have xb3:=ga2.g.cell (i:=1) rfl
   have xb4:=ga2.f.frozen 0
   have xb5:=ga2.f.frozen 1
   have xb6:=ga2.g.frozen 0
   have xb7:=ga2.g.frozen 1
   have gb2:=ga2.setF E2 A2
   go_wp2_with fail
   refine Calls.mono (H4.out _ gb2.below) ?_
   rintro e W4 ⟨rfl,hb⟩
   have gc2:=gb2.step hb
   clear xb0 xb1 xb2 xb3 xb4 xb5 xb6 xb7
   clear hb ga2 gb2 H4
   have xb0:=gc2.f.cell (i:=0) rfl
   have xb1:=gc2.f.cell (i:=1) rfl
   have xb2:=gc2.g.cell (i:=0) rfl
   have xb3:=gc2.g.cell (i:=1) rfl
   have xb4:=gc2.f.frozen 0
   have xb5:=gc2.f.frozen 1
   have xb6:=gc2.g.frozen 0
   have xb7:=gc2.g.frozen 1
   have gd2:=gc2.setG E2 A2
   have xa0:=gd2.f.cell (i:=0) rfl
   have xa1:=gd2.f.cell (i:=1) rfl
   have xa2:=gd2.g.cell (i:=0) rfl
   have xa3:=gd2.g.cell (i:=1) rfl
   have xa4:=gd2.f.frozen 0
   have xa5:=gd2.f.frozen 1
   have xa6:=gd2.g.frozen 0
   have xa7:=gd2.g.frozen 1
   clear gc2
   go_wp2_with fail
   refine Calls.mono (H5.out _ gd2.below) ?_
   rintro e W5 ⟨rfl,hb⟩
   have ga3:=gd2.step hb
   clear xa0 xa1 xa2 xa3 xa4 xa5 xa6 xa7
   clear hb gd2 H5
   have xb0:=ga3.f.cell (i:=0) rfl
   have xb1:=ga3.f.cell (i:=1) rfl
   have xb2:=ga3.g.cell (i:=0) rfl
   have xb3:=ga3.g.cell (i:=1) rfl
   have xb4:=ga3.f.frozen 0
   have xb5:=ga3.f.frozen 1
   have xb6:=ga3.g.frozen 0
   have xb7:=ga3.g.frozen 1
   have gb3:=ga3.setF E3 A3
   go_wp2_with fail
   refine Calls.mono (H6.out _ gb3.below) ?_
   rintro e W6 ⟨rfl,hb⟩
   have gc3:=gb3.step hb
   clear xb0 xb1 xb2 xb3 xb4 xb5 xb6 xb7
   clear hb ga3 gb3 H6
   have xb0:=gc3.f.cell (i:=0) rfl
   have xb1:=gc3.f.cell (i:=1) rfl
   have xb2:=gc3.g.cell (i:=0) rfl
   have xb3:=gc3.g.cell (i:=1) rfl
   have xb4:=gc3.f.frozen 0
   have xb5:=gc3.f.frozen 1
   have xb6:=gc3.g.frozen 0
   have xb7:=gc3.g.frozen 1
   have gd3:=gc3.setG E3 A3
   have xa0:=gd3.f.cell (i:=0) rfl
   have xa1:=gd3.f.cell (i:=1) rfl
   have xa2:=gd3.g.cell (i:=0) rfl
   have xa3:=gd3.g.cell (i:=1) rfl
   have xa4:=gd3.f.frozen 0
   have xa5:=gd3.f.frozen 1
   have xa6:=gd3.g.frozen 0
   have xa7:=gd3.g.frozen 1
   clear gc3
   have HE:Hid _:=gd3.below
   clear gd3
   go_wp2
   go_ret
   exact ⟨rfl,HE.out⟩
theorem sruns_any (v:Value) (n:Nat) (l:Nat→Sp) (t:ByteArray) (w:World) (hv:ChAt w v n l) (hnm:NmAt w) (ho:OldAt w):Calls Tryz.prog 3 #[v,.string t] w fun e w'=>e=.returned (.bool true)∧Below w.heap.size w w':=by
 have hv0:=hv
 obtain ⟨a,c,R,rfl,-⟩:=hv
 exact sruns_run a n c l t _ _ _ _ _ _ _ _ _ w hv0 (fun W hW=>run_any _ n l t W (hv0.below hW)) (fun W hW=>rrun17_any _ n l t W (hv0.below hW)) (fun W hW=>undo_any _ n l t W (hv0.below hW)) (fun W hW=>rundo17_any _ n l t W (hv0.below hW)) (fun W hW=>print17_any _ n l W (hv0.below hW) (hnm.below hW) (ho.below hW)) (fun W hW=>rprint17_any _ n l W (hv0.below hW))
end Go.Proofs.YtkohhdkkbaifoaaGreatDoor

/-
  A machine as an argument: opened.
-/
namespace Go.Proofs.YtkohhdkkbaifoaaGreatDoor
open Go.RowKit PK Go.ChangeShapes Go.WideShapes Go.ChangeAt

theorem o_cells_int:Tryz.prog.cellsOf 3=1:=by kernel_rfl
theorem o_cells_perm:Tryz.prog.cellsOf 27=26:=by kernel_rfl
theorem o_cells_ints:Tryz.prog.cellsOf 25=1:=by kernel_rfl
theorem o_cells_wheel:Tryz.prog.cellsOf 97=27:=by kernel_rfl
theorem o_cells_mac:Tryz.prog.cellsOf 29=55:=by kernel_rfl
section
variable {H:Type} {enc:TypeId × Value→H} {W:World}
set_option maxRecDepth 100000 in
theorem trod_nums {fuel:Nat} {l:List Value} {x:DataW H × List MemPlace} (h:DataW.trod enc Tryz.prog W 0 (fun _=>true) true fuel 25 l=some x):∃v n f,l=[v]∧NumsAt W v n f:=by
 rcases open_ints Tryz.underlying25 Tryz.underlying3 o_cells_int h with ⟨hcs0,_⟩ | ⟨a,len,cap,zs,hcs0,_,hl,hm,hzl,_,hcell,_⟩
 ·exact ⟨_,0,fun _=>0,hcs0,none,0,rfl,by decide,fun c hc=>by omega⟩
 ·simp at hzl
  refine ⟨_,len,fun c=>zs.getD c 0,hcs0,some a,cap,rfl,by omega,fun c hc=>?_⟩
  have h0:=hcell c (by omega)
  have hsp:=World.cell?_spot (hcell 0 (by omega))
  obtain ⟨bm,om,spot⟩:=a
  have hspot:spot=none:=by simpa [Addr.add] using hsp
  subst hspot
  exact ⟨bm,om,rfl,by rw[←add_plain];exact h0⟩
set_option maxRecDepth 100000 in
theorem trod_perm {fuel:Nat} {l:List Value} {x:DataW H × List MemPlace} (h:DataW.trod enc Tryz.prog W 0 (fun _=>true) true fuel 27 l=some x):∃f,l=(ints 26 f).toList:=by
 obtain ⟨xs,m,_,_,hl,hxl,hi⟩:=DataW.trod_array Tryz.underlying27 h
 rw[o_cells_perm] at hl
 rw[o_cells_int] at hi
 have key:∀i,i<26→∃n:Int,l[i]? = some (.int .i64 n):=fun i h26=>by
  have h1:=hi i h26
  have h2:xs[i]? = some (xs[i]'(by omega)):=List.getElem?_eq_getElem _
  rw[h2] at h1
  obtain ⟨n,e,_,_⟩:=DataW.trod_int Tryz.underlying3 h1
  refine ⟨n,?_⟩
  have h3:i<l.length:=by omega
  have h4:((l.drop (i*1)).take 1)=[l[i]'h3]:=by
   rw[Nat.mul_one,List.drop_eq_getElem_cons h3]
   rfl
  rw[h4] at e
  simp at e
  rw[List.getElem?_eq_getElem h3,e]
 refine ⟨fun i=>match l[i]? with | some (.int _ n)=>n | _=>0,?_⟩
 apply List.ext_getElem?
 intro i
 have ex:∀f,(ints 26 f).toList[i]? = (ints 26 f)[i]?:=fun f=>Array.getElem?_toList
 rw[ex]
 by_cases h26:i<26
 ·obtain ⟨n,hn⟩:=key i h26
  rw[ints_get _ h26,hn]
 ·have e1:l[i]? = none:=List.getElem?_eq_none (by omega)
  rw[e1,Array.getElem?_eq_none (by rw[ints_size];omega)]
set_option maxRecDepth 100000 in
theorem trod_wheel {fuel:Nat} {l:List Value} {x:DataW H × List MemPlace} (h:DataW.trod enc Tryz.prog W 0 (fun _=>true) true fuel 97 l=some x):∃f v n k,l=(whl f v).toList∧NumsAt W v n k:=by
 obtain ⟨xs,m,_,_,hl,hxl,hi⟩:=DataW.trod_struct Tryz.underlying97 h
 rw[o_cells_wheel] at hl
 have hxl2:xs.length=2:=hxl
 have h0:=hi 0 _ rfl
 have h1:=hi 1 _ rfl
 rw[List.getElem?_eq_getElem (by omega)] at h0 h1
 obtain ⟨f,hf⟩:=trod_perm h0
 obtain ⟨v,n,k,hv,hk⟩:=trod_nums h1
 refine ⟨f,v,n,k,?_,hk⟩
 have e1:(l.drop 0).take 26=(ints 26 f).toList:=hf
 have e2:(l.drop 26).take 1=[v]:=hv
 have e3:l=(l.take 26)++((l.drop 26).take 1):=by
  rw[List.take_of_length_le (l:=l.drop 26) (by simp;omega),List.take_append_drop]
 rw[e3,e2,show l.take 26=(ints 26 f).toList from e1]
 simp[whl]
set_option maxRecDepth 100000 in
theorem trod_wheels {fuel:Nat} {l:List Value} {x:DataW H × List MemPlace} (h:DataW.trod enc Tryz.prog W 0 (fun _=>true) true fuel 24 l=some x):∃v n wi nl no,l=[v]∧WheelsAt W v n wi nl no:=by
 rcases DataW.trod_slice Tryz.underlying24 h with ⟨e,_⟩ | ⟨a,len,cap,elems,rest,m,_,rfl,_,hb,hl,hm,hlen,hel,_⟩
 ·exact ⟨_,0,fun _ _=>0,fun _=>0,fun _ _=>0,e,none,0,fun _=>.slice none 0 0,rfl,by decide,fun r hr=>by omega,fun r hr=>by omega⟩
 ·rw[o_cells_wheel] at hel
  have key:∀r,∃q:(Nat→Int) × Value × Nat × (Nat→Int),r<len→W.cells? 0 (a.add (r*27)) 27=some (whl q.1 q.2.1).toList∧NumsAt W q.2.1 q.2.2.1 q.2.2.2:=fun r=>by
   by_cases hr:r<len
   ·have h1:=hel r hr
    rw[List.getElem?_eq_getElem (by omega)] at h1
    obtain ⟨cs,h2,h3⟩:=Option.bind_eq_some_iff.1 h1
    obtain ⟨f,v,n,k,e,hk⟩:=trod_wheel h3
    exact ⟨(f,v,n,k),fun _=>⟨by rw[h2,e],hk⟩⟩
   ·exact ⟨(fun _=>0,.slice none 0 0,0,fun _=>0),fun h=>absurd h hr⟩
  obtain ⟨q,hq⟩:=Classical.axiomOfChoice key
  refine ⟨_,len,fun r=>(q r).1,fun r=>(q r).2.2.1,fun r=>(q r).2.2.2,rfl,some a,cap,fun r=>(q r).2.1,rfl,by omega,fun r hr=>?_,fun r hr=>(hq r hr).2⟩
  have h1:=(World.cells?_some (hq r hr).1).2.2
  have h00:=(World.cells?_some (hq 0 (by omega)).1).2.2 0 (by omega)
  rw[Array.getElem?_toList,whl_get _ _ (by decide),Nat.zero_mul] at h00
  have hsp:=World.cell?_spot h00
  obtain ⟨bm,om,spot⟩:=a
  have hspot:spot=none:=by simpa [Addr.add] using hsp
  subst hspot
  refine ⟨bm,om,rfl,fun j v hv=>?_⟩
  have hj:j<27:=by
   have:=(List.getElem?_eq_some_iff.1 hv).1
   rw[Array.length_toList,whl_size] at this
   exact this
  have h2:=h1 j hj
  rw[hv,Addr.add_mid,Addr.add_mid] at h2
  exact h2
end
end Go.Proofs.YtkohhdkkbaifoaaGreatDoor

/-
  A chain as an argument: opened.
-/
namespace Go.Proofs.YtkohhdkkbaifoaaGreatDoor
open Go.RowKit PK Go.ChangeShapes Go.WideShapes Go.ChangeAt

theorem o_cells_step:Tryz.prog.cellsOf 31=59:=by kernel_rfl
section
variable {H:Type} {enc:TypeId × Value→H} {W:World}
set_option maxRecDepth 100000 in
theorem trod_mat {fuel:Nat} {l:List Value} {x:DataW H × List MemPlace} (hf:DataW.trod enc Tryz.prog W 0 (fun _=>true) true fuel 23 l=some x):∃v n L Z,l=[v]∧MatAt W v n L Z:=by
 rcases Go.Deep.open_int_rows Tryz.underlying23 Tryz.underlying25 Tryz.underlying3 o_cells_ints o_cells_int hf with ⟨hcs0,hx⟩ | ⟨a,len,cap,A,L,C,Z,hcs0,_,hl,hm,hx,hrows⟩
 ·exact ⟨_,0,fun _=>0,fun _ _=>0,hcs0,MatAt.nil _ _ _⟩
 ·refine ⟨_,len,L,fun r c=>(Z r).getD c 0,hcs0,some a,cap,fun r=>.slice (A r) (L r) (C r),rfl,by omega,fun r hr=>?_,fun r hr=>?_⟩
  ·have h0:=(hrows r (by omega)).1
   have hsp:=World.cell?_spot (hrows 0 (by omega)).1
   obtain ⟨bm,om,spot⟩:=a
   have hspot:spot=none:=by simpa [Addr.add] using hsp
   subst hspot
   exact ⟨bm,om,rfl,by rw[←add_plain];exact h0⟩
  ·obtain ⟨_,h1,h2,h3,_,h5,h6⟩:=hrows r (by omega)
   refine ⟨A r,C r,rfl,by omega,fun c hc=>?_⟩
   cases hA:A r with
   | none=>have:=h5 hA;omega
   | some a' =>
    obtain ⟨_,hcell⟩:=h6 a' hA
    have hsp:=World.cell?_spot (hcell 0 (by omega))
    obtain ⟨bm,om,spot⟩:=a'
    have hspot:spot=none:=by simpa [Addr.add] using hsp
    subst hspot
    exact ⟨bm,om,rfl,by rw[←add_plain];exact hcell c (by omega)⟩
set_option maxHeartbeats 2000000 in
set_option maxRecDepth 100000 in
theorem trod_mac {fuel:Nat} {cs:List Value} {x:DataW H × List MemPlace} (hsz:cs.length=55) (hf:DataW.trod enc Tryz.prog W 0 (fun _=>true) true fuel 29 cs=some x):∃g,MacAt W (.agg cs.toArray) g:=by
 obtain ⟨xs,m,_,_,hl,hxl,hi⟩:=DataW.trod_struct Tryz.underlying29 hf
 have hxl2:xs.length=5:=hxl
 have h0:=hi 0 _ rfl
 have h1:=hi 1 _ rfl
 have h2:=hi 2 _ rfl
 have h3:=hi 3 _ rfl
 have h4:=hi 4 _ rfl
 rw[List.getElem?_eq_getElem (by omega)] at h0 h1 h2 h3 h4
 obtain ⟨v0,n,wi,nl,no,e0,k0⟩:=trod_wheels h0
 obtain ⟨v1,rl,ri,e1,k1⟩:=trod_nums h1
 obtain ⟨v2,sl,st,e2,k2⟩:=trod_nums h2
 obtain ⟨rf,e3⟩:=trod_perm h3
 obtain ⟨pl,e4⟩:=trod_perm h4
 refine ⟨⟨n,wi,nl,no,rl,ri,sl,st,rf,pl⟩,v0,v1,v2,?_,k0,k1,k2⟩
 have e0':(cs.drop 0).take 1=[v0]:=e0
 have e1':(cs.drop 1).take 1=[v1]:=e1
 have e2':(cs.drop 2).take 1=[v2]:=e2
 have e3':(cs.drop 3).take 26=(ints 26 rf).toList:=e3
 have e4':(cs.drop 29).take 26=(ints 26 pl).toList:=e4
 have key:cs=[v0]++([v1]++([v2]++((ints 26 rf).toList++(ints 26 pl).toList))):=by
  rw[←e0',←e1',←e2',←e3',←e4']
  generalize cs=l at hsz
  have q4:(l.drop 29).take 26=l.drop 29:=List.take_of_length_le (by simp;omega)
  have q3:(l.drop 3).take 26++l.drop 29=l.drop 3:=by
   have:=List.take_append_drop 26 (l.drop 3)
   rw[List.drop_drop] at this
   exact this
  have q2:(l.drop 2).take 1++l.drop 3=l.drop 2:=by
   have:=List.take_append_drop 1 (l.drop 2)
   rw[List.drop_drop] at this
   exact this
  have q1:(l.drop 1).take 1++l.drop 2=l.drop 1:=by
   have:=List.take_append_drop 1 (l.drop 1)
   rw[List.drop_drop] at this
   exact this
  have q0:(l.drop 0).take 1++l.drop 1=l:=by
   rw[List.drop_zero]
   exact List.take_append_drop 1 l
  rw[q4,q3,q2,q1,q0]
 have e:cs.toArray=mac v0 v1 v2 rf pl:=by
  refine Array.toList_inj.1 (key.trans ?_)
  unfold mac
  rw[Array.toList_append,Array.toList_append]
  rfl
 rw[e]
set_option maxHeartbeats 2000000 in
set_option maxRecDepth 100000 in
theorem trod_step {fuel:Nat} {l:List Value} {x:DataW H × List MemPlace} (h:DataW.trod enc Tryz.prog W 0 (fun _=>true) true fuel 31 l=some x):∃s,SqAt W (.agg l.toArray) s:=by
 obtain ⟨xs,m,_,_,hl,hxl,hi⟩:=DataW.trod_struct Tryz.underlying31 h
 rw[o_cells_step] at hl
 have hxl2:xs.length=5:=hxl
 have h0:=hi 0 _ rfl
 have h1:=hi 1 _ rfl
 have h2:=hi 2 _ rfl
 have h3:=hi 3 _ rfl
 have h4:=hi 4 _ rfl
 rw[List.getElem?_eq_getElem (by omega)] at h0 h1 h2 h3 h4
 obtain ⟨k,e0,_⟩:=DataW.trod_int Tryz.underlying3 h0
 obtain ⟨n,e1,_⟩:=DataW.trod_int Tryz.underlying3 h1
 obtain ⟨key,e2,_⟩:=DataW.trod_string Tryz.underlying9 h2
 obtain ⟨mv,r,L,Z,e3,k3⟩:=trod_mat h3
 obtain ⟨g,a,b,c,e4,k4,k5,k6⟩:=trod_mac (by simp;rw[o_cells_mac];omega) h4
 refine ⟨⟨k,n,key,r,L,Z,g⟩,mv,a,b,c,?_,k3,k4,k5,k6⟩
 have e0':(l.drop 0).take 1=[.int .i64 k]:=e0
 have e1':(l.drop 1).take 1=[.int .i64 n]:=e1
 have e2':(l.drop 2).take 1=[.string key]:=e2
 have e3':(l.drop 3).take 1=[mv]:=e3
 have e4':((l.drop 4).take 55).toArray=mac a b c g.rf g.pl:=by
  have:=Value.agg.inj e4
  exact this
 have e5:(l.drop 4).take 55=(mac a b c g.rf g.pl).toList:=by rw[←e4']
 have key2:l=[.int .i64 k]++([.int .i64 n]++([.string key]++([mv]++(mac a b c g.rf g.pl).toList))):=by
  rw[←e0',←e1',←e2',←e3',←e5]
  have q4:(l.drop 4).take 55=l.drop 4:=List.take_of_length_le (by simp;omega)
  have q3:(l.drop 3).take 1++l.drop 4=l.drop 3:=by
   have:=List.take_append_drop 1 (l.drop 3)
   rw[List.drop_drop] at this
   exact this
  have q2:(l.drop 2).take 1++l.drop 3=l.drop 2:=by
   have:=List.take_append_drop 1 (l.drop 2)
   rw[List.drop_drop] at this
   exact this
  have q1:(l.drop 1).take 1++l.drop 2=l.drop 1:=by
   have:=List.take_append_drop 1 (l.drop 1)
   rw[List.drop_drop] at this
   exact this
  have q0:(l.drop 0).take 1++l.drop 1=l:=by
   rw[List.drop_zero]
   exact List.take_append_drop 1 l
  rw[q4,q3,q2,q1,q0]
 have e:l.toArray=spA k n key mv a b c g.rf g.pl:=by
  refine Array.toList_inj.1 (key2.trans ?_)
  unfold spA
  rw[Array.toList_append]
  rfl
 rw[e]
set_option maxRecDepth 100000 in
theorem open_chain {base:Nat} {v:Value} {d:DataW H} {ps:List MemPlace} (hval:Value.okWide Tryz.prog W .any base 22 v) (h:DataW.Trod enc Tryz.prog W 0 (fun _=>true) true 22 v d ps):∃n l,ChAt W v n l∧(v=.slice none 0 0∨∃ad cap elems rest,v=.slice (some ad) n cap∧d=.slice elems rest∧elems.length=n):=by
 obtain ⟨a0,len0,cap0,rfl⟩:=okWide_slice Tryz.underlying22 hval
 obtain ⟨fuel,hf⟩:=h
 rcases DataW.trod_slice Tryz.underlying22 hf with ⟨e,_⟩ | ⟨a,len,cap,elems,rest,m,_,e,hd,hb,hl,hm,hlen,hel,_⟩
 ·simp[Value.cells] at e
  obtain ⟨rfl,rfl,rfl⟩:=e
  exact ⟨0,fun _=>⟨0,0,⟨#[]⟩,0,fun _=>0,fun _ _=>0,⟨0,fun _ _=>0,fun _=>0,fun _ _=>0,0,fun _=>0,0,fun _=>0,fun _=>0,fun _=>0⟩⟩,⟨none,0,fun _=>#[],rfl,by decide,fun r hr=>by omega,fun r hr=>by omega⟩,.inl rfl⟩
 ·simp[Value.cells] at e
  obtain ⟨rfl,rfl,rfl⟩:=e
  rw[o_cells_step] at hel
  have key:∀r,∃q:List Value × Sp,r<len0→W.cells? 0 (a.add (r*59)) 59=some q.1∧SqAt W (.agg q.1.toArray) q.2:=fun r=>by
   by_cases hr:r<len0
   ·have h1:=hel r hr
    rw[List.getElem?_eq_getElem (by omega)] at h1
    obtain ⟨cs,h2,h3⟩:=Option.bind_eq_some_iff.1 h1
    obtain ⟨s,hs⟩:=trod_step h3
    exact ⟨(cs,s),fun _=>⟨h2,hs⟩⟩
   ·exact ⟨([],⟨0,0,⟨#[]⟩,0,fun _=>0,fun _ _=>0,⟨0,fun _ _=>0,fun _=>0,fun _ _=>0,0,fun _=>0,0,fun _=>0,fun _=>0,fun _=>0⟩⟩),fun h=>absurd h hr⟩
  obtain ⟨q,hq⟩:=Classical.axiomOfChoice key
  refine ⟨len0,fun r=>(q r).2,⟨some a,cap0,fun r=>(q r).1.toArray,rfl,by omega,fun r hr=>?_,fun r hr=>(hq r hr).2⟩,.inr ⟨a,cap0,_,_,rfl,congrArg Prod.fst hd,by rw[List.length_map];exact hlen⟩⟩
  have h1:=World.cells?_some (hq r hr).1
  have hl0:=World.cells?_some (hq 0 (by omega)).1
  have h00:=hl0.2.2 0 (by omega)
  rw[Nat.zero_mul,List.getElem?_eq_getElem (by omega)] at h00
  have hsp:=World.cell?_spot h00
  obtain ⟨bm,om,spot⟩:=a
  have hspot:spot=none:=by simpa [Addr.add] using hsp
  subst hspot
  refine ⟨bm,om,rfl,fun j v hv=>?_⟩
  have hv2:(q r).1[j]? = some v:=hv
  have hj:j<59:=by
   have:=(List.getElem?_eq_some_iff.1 hv2).1
   omega
  have h2:=h1.2.2 j hj
  rw[hv2,Addr.add_mid,Addr.add_mid] at h2
  exact h2
end
end Go.Proofs.YtkohhdkkbaifoaaGreatDoor
