/-
  The document's Machine in words.
-/
import Derived.Test.YtkohhdkkbaifoaaGreatDoorPz
import Derived.Test.YtkohhdkkbaifoaaGreatDoorJn28
namespace Go.Proofs.YtkohhdkkbaifoaaGreatDoor
open Go.RowKit PK Vg

set_option maxRecDepth 100000 in
set_option maxHeartbeats 8000000 in
theorem rmach17_any (v:Value) (g:Gm) (hg:gE g=0) (w:World) (hv:MacAt w v g):Calls Tryz.prog 53 #[v] w fun e w'=>(mcE g=0→e=.returned (.tuple #[.string ⟨(txM g).toArray⟩,.int .i64 0]))∧(mcE g≠0→e=.returned (.tuple #[.string ⟨#[]⟩,.int .i64 7]))∧Below w.heap.size w w':=by
 obtain ⟨a1,b1,c1,rfl,ha,hb,hc⟩:=hv
 obtain ⟨⟨_,hn4⟩,_,⟨hrl,hri⟩,⟨hsl,hst⟩,_,hpl,_⟩:=gE_zero hg
 obtain ⟨CA,hCA⟩:∃CA,CA=mac a1 b1 c1 g.rf g.pl:=⟨_,rfl⟩
 rw[←hCA]
 obtain ⟨W,hW⟩:∃W,W=w.alloc (.cells CA 29):=⟨_,rfl⟩
 have hbw:Below w.heap.size w W:=by rw[hW];exact (Below.refl _ w).alloc (Nat.le_refl _) _
 have hq1:RowAt W w.heap.size 29 CA:=by rw[hW];exact RowAt.new w _ _
 have HB:Hid (Below w.heap.size w W):=hbw
 have HWA:Hid (WheelsAt W a1 g.n g.wi g.nl g.no):=ha.below hbw
 have HN4:Hid (g.n≤4):=hn4
 obtain ⟨ra,rc,_,rfl,-⟩:=id ha
 have d0:W.cell? ⟨w.heap.size,0,none⟩=some (.slice ra g.n rc):=RowAt.cell hq1 (by rw[hCA];exact mac_0 _ _ _ _ _)
 have HRB:Hid (NumsAt W b1 g.rl g.ri∧NumsAt W c1 g.sl g.st∧RowAt W w.heap.size 29 CA∧CA=mac (.slice ra g.n rc) b1 c1 g.rf g.pl∧gE g=0):=⟨hb.below hbw,hc.below hbw,hq1,hCA,hg⟩
 clear ha hb hc hbw hq1 hCA hn4 hrl hri hsl hst hpl hg
 go_enter Tryz.func53,Tryz.ntmps53
 go_upto_region 1 with fail
 rw[←hW]
 clear hW
 go_wp2_with fail
 go_loopw [21,4] (fun i x X=>∃(k:Nat) (S:ByteArray),k≤g.n∧i=.int .i64 (k:Nat)∧x=.string S∧Hid (S.data.toList=rot6++nmJ g k)∧Hid (∀j,j<k→whF (g.wi j) (g.nl j) (g.no j)≠none)∧Hid (Below W.heap.size W X)) (fun i _ _=>((g.n:Int)-intOf i).toNat)
 case atStart=>exact ⟨0,_,by omega,rfl,rfl,rfl,fun j hj=>by omega,Below.refl _ _⟩
 case round =>
  obtain ⟨k,S,hk,rfl,rfl,HS,HW0,HBW⟩:=hrel
  by_cases hlt:k<g.n
  ·have HLT:Hid (k<g.n):=hlt
   have hlt2:(k:Int)<(g.n:Int):=by omega
   obtain ⟨_,_,RR,hx1,-,hr1,hs1⟩:=id HWA.out
   injection hx1 with hx1 _ _
   subst hx1
   obtain ⟨wb,wo,rfl,hg1⟩:=hr1 k hlt
   obtain ⟨RK,hRK⟩:∃RK,RK=RR k:=⟨_,rfl⟩
   obtain ⟨WH,hWH⟩:∃WH,WH=whl (g.wi k) RK:=⟨_,rfl⟩
   have HWH:Hid (WH=whl (g.wi k) RK):=hWH
   have hrk:=hs1 k hlt
   rw[←hRK] at hg1 hrk
   rw[←hWH] at hg1
   obtain ⟨rka,rkc,hrkf,-⟩:=id hrk
   have HWZ:Hid (WH.size=27):=by rw[Hid,hWH];exact whl_size _ _
   have HWO:Hid (WH.all (·.oneCell')=true):=by rw[Hid,hWH];exact whl_one (by rw[hrkf];rfl)
   have hrg:=rangeAt_below hg1 HBW.out
   obtain ⟨p,hp⟩:∃p,p=wr.heap.size:=⟨_,rfl⟩
   obtain ⟨Z,hZ⟩:∃Z,Z=(wr.alloc (.cells (whl (fun _=>0) (.slice none 0 0)) 97)).setRow wr.heap.size WH:=⟨_,rfl⟩
   have hbZ:Below wr.heap.size wr Z:=by rw[hZ];exact PK.Below.setRow ((Below.refl _ wr).alloc (Nat.le_refl _) _) wr.heap.size (Nat.le_refl _) _
   have hzR:RowAt Z p 97 WH:=by rw[hZ,hp];exact (RowAt.new wr _ _).row _
   obtain ⟨q,hq⟩:∃q,q=Z.heap.size:=⟨_,rfl⟩
   obtain ⟨Z0,hZ0⟩:∃Z0,Z0=Z.alloc (.cells nms5 9):=⟨_,rfl⟩
   have hb0:Below Z.heap.size Z Z0:=by rw[hZ0];exact (Below.refl _ Z).alloc (Nat.le_refl _) _
   have hq0:RowAt Z0 q 9 nms5:=by rw[hZ0,hq];exact RowAt.new Z _ _
   have HQZ:Hid (RowAt Z0 q 9 nms5∧q<Z0.heap.size):=⟨hq0,RowAt.lt hq0⟩
   have hp0:RowAt Z0 p 97 WH:=RowAt.below hzR hb0 (RowAt.lt hzR)
   have HPZ:Hid (RowAt Z0 p 97 WH∧p<Z0.heap.size):=⟨hp0,RowAt.lt hp0⟩
   have hbwz:Below W.heap.size W Z0:=(HBW.out.trans (hbZ.mono HBW.out.size)).trans (hb0.mono (Nat.le_trans HBW.out.size hbZ.size))
   have HBZ0:Hid (Below W.heap.size W Z0):=hbwz
   have HRK:Hid (NumsAt Z0 RK (g.nl k) (g.no k)):=hrk.below hbwz
   have hz27:=o_zero v_zero_whl
   clear hr1 hs1 hg1 hrk hrkf hRK hWH hbZ hzR hb0 hq0 hp0 hbwz hlt
   go_upto_region 5 with (first | refine wpList_load_arr rfl 97 _ rfl wb (wo+k*27) rfl WH _ hrg Tryz.underlying97 rfl (by rw[HWZ.out];exact v_info_whl) ?_ | refine wpList_store_row rfl 97 _ _ rfl wr.heap.size WH rfl rfl 97 _ (RowAt.new wr _ _) (by rw[HWZ.out];exact v_info_whl) (by rw[HWZ.out,whl_size]) HWO.out ?_)
   rw[←hZ,←hp]
   clear hZ hp hrg
   go_upto_region 7 with fail
   have e5:Z.alloc (.cells #[.string ⟨#[73]⟩,.string ⟨#[73,73]⟩,.string ⟨#[73,73,73]⟩,.string ⟨#[73,86]⟩,.string ⟨#[86]⟩] 9)=Z0:=by rw[hZ0];rfl
   rw[e5,←hq]
   clear e5 hZ0 hq
   go_loopw [28,7] (fun i x X=>∃(m:Nat) (NM:ByteArray),m≤5∧i=.int .i64 (m:Nat)∧x=.string NM∧Hid (NM=lnm (g.wi k) (g.nl k) (g.no k) m)∧Hid (Below Z0.heap.size Z0 X)) (fun i _ _=>((5:Int)-intOf i).toNat)
   case atStart=>exact ⟨0,⟨#[]⟩,by omega,rfl,rfl,rfl,Below.refl _ _⟩
   case round =>
    obtain ⟨m,NM,hm,rfl,rfl,HNM,HBZ⟩:=hrel
    by_cases hm5:m<5
    ·have hm52:(m:Int)<5:=by omega
     have HM5:Hid (m<5):=hm5
     have cN:wr.cell? ⟨q,m,none⟩=some (.string (whN m)):=(HBZ.out.cell (p:=⟨q,m,none⟩) HQZ.out.2).trans (RowAt.cell HQZ.out.1 (nms5_get hm5))
     have HKN:Hid _:=rknown_any (whN m) wr
     have HST:Hid (lnm (g.wi k) (g.nl k) (g.no k) (m+1)=if whB (g.wi k) (g.nl k) (g.no k) m=true then whN m else lnm (g.wi k) (g.nl k) (g.no k) m):=lnm_step _ _ _ _
     have HWB:Hid (whB (g.wi k) (g.nl k) (g.no k) m=(eqI 26 (g.wi k) (knW (whN m).data.toList) && numsEq (g.nl k) (knN (whN m).data.toList).length (g.no k) (fun j=>(((knN (whN m).data.toList).getD j 0:Nat):Int)))):=rfl
     have HKL:Hid ((knN (whN m).data.toList).length≤1048576):=by have:=kn_few17 m hm5;rw[Hid];omega
     generalize knW (whN m).data.toList=KW at *
     generalize knN (whN m).data.toList=KN at *
     generalize knE (whN m).data.toList=KE at *
     generalize whN m=WN at *
     clear hm5
     go_wp2_with fail
     refine Calls.mono HKN.out ?_
     rintro e V ⟨Q,rfl,hq,hb⟩
     obtain ⟨qa,qc,rfl,-⟩:=id hq
     obtain ⟨OS,hOS⟩:∃OS,OS=whl KW (.slice qa KN.length qc):=⟨_,rfl⟩
     have HSZ:Hid (OS.size=27):=by rw[Hid,hOS];exact whl_size _ _
     have HON:Hid (OS.all (·.oneCell')=true):=by rw[Hid,hOS];exact whl_one rfl
     have HOS:Hid (OS=whl KW (.slice qa KN.length qc)):=hOS
     rw[←hOS]
     have hbz:=HBZ.out.trans (hb.mono HBZ.out.size)
     obtain ⟨X,hX⟩:∃X,X=(V.alloc (.cells (whl (fun _=>0) (.slice none 0 0)) 97)).setRow V.heap.size OS:=⟨_,rfl⟩
     have hXb:Below V.heap.size V X:=by rw[hX];exact PK.Below.setRow ((Below.refl _ V).alloc (Nat.le_refl _) _) V.heap.size (Nat.le_refl _) _
     have x2:RowAt X V.heap.size 97 OS:=by rw[hX];exact (RowAt.new V _ _).row _
     have hbx:=hbz.trans (hXb.mono hbz.size)
     have x1:RowAt X p 97 WH:=RowAt.below HPZ.out.1 hbx HPZ.out.2
     have HBX:Hid (Below Z0.heap.size Z0 X):=hbx
     have HSW:Hid (Calls Tryz.prog 102 #[.agg OS,.agg WH] X fun e w'=>e=.returned (.bool (whB (g.wi k) (g.nl k) (g.no k) m))∧Below X.heap.size X w'):=by
      have h:=rsameW_any KW (g.wi k) (.slice qa KN.length qc) RK KN.length (g.nl k) (fun _=>HKL.out) (fun j=>((KN.getD j 0:Nat):Int)) (g.no k) X (hq.below hXb) (HRK.out.below hbx)
      rw[←hOS,←HWH.out,sameK,←HWB.out] at h
      exact h
     clear hq hb hbz hXb hbx hOS HKN cN HWB
     generalize whB (g.wi k) (g.nl k) (g.no k) m=BB at *
     go_upto_region 10 with (first | refine wpList_store_row rfl 97 _ _ rfl V.heap.size OS rfl rfl 97 _ (RowAt.new V _ _) (by rw[HSZ.out];exact v_info_whl) (by rw[HSZ.out,whl_size]) HON.out ?_)
     rw[←hX]
     clear hX
     go_wp2_with (first | refine wpList_load_row rfl 97 _ rfl V.heap.size rfl 97 OS (0,0) _ x2 Tryz.underlying97 rfl (by rw[HSZ.out];exact v_info_whl) ?_ | refine wpList_load_row rfl 97 _ rfl p rfl 97 WH (0,0) _ x1 Tryz.underlying97 rfl (by rw[HWZ.out];exact v_info_whl) ?_)
     refine Calls.mono HSW.out ?_
     rintro e V2 ⟨rfl,hb2⟩
     have HB2:Hid (Below Z0.heap.size Z0 V2):=HBX.out.trans (hb2.mono HBX.out.size)
     clear hb2 HSW x1 x2
     cases BB with
     | true =>
      have HN2:Hid (WN=lnm (g.wi k) (g.nl k) (g.no k) (m+1)):=by rw[Hid,HST.out,if_pos rfl]
      clear HST
      go_wp2
      go_roundw
      case rel=>first | exact ⟨m+1,_,HM5.out,by go_num,rfl,HN2.out,HB2.out⟩ | refine Hid.out ?_
      case measure=>have:=HM5.out;simp[intOf];omega
     | false =>
      have HN2:Hid (NM=lnm (g.wi k) (g.nl k) (g.no k) (m+1)):=by rw[Hid,HST.out,if_neg (by decide)];exact HNM.out
      clear HST
      go_wp2
      go_roundw
      case rel=>first | exact ⟨m+1,_,HM5.out,by go_num,rfl,HN2.out,HB2.out⟩ | refine Hid.out ?_
      case measure=>have:=HM5.out;simp[intOf];omega
    ·obtain rfl:m=5:=by omega
     have hm52:¬((5:Nat):Int)<5:=by decide
     clear hm5 hm
     have HB9:Hid (Below W.heap.size W wr):=HBZ0.out.trans (HBZ.out.mono HBZ0.out.size)
     cases hF:whF (g.wi k) (g.nl k) (g.no k) with
     | none =>
      have hn0:NM=⟨#[]⟩:=by rw[HNM.out];exact lnm_none hF
      subst hn0
      have HME:Hid (mcE g≠0):=mcE_bad HLT.out hF
      have HBE:Hid (Below w.heap.size w wr):=HB.out.trans (HB9.out.mono HB.out.size)
      clear HNM hF HBZ
      go_wp2
      go_ret2
      exact ⟨fun h=>absurd h HME.out,fun _=>rfl,HBE.out⟩
     | some iw =>
      have hn1:NM=wnm g k:=by rw[HNM.out,lnm_some hF];unfold wnm;rw[hF];rfl
      have hne:NM.data.toList≠[]:=by rw[HNM.out,lnm_some hF];exact whN_ne iw (fstB_some hF).1
      have hnt:(NM.toList==[])=false:=ba_ne_nil hne
      have HW2:Hid (∀j,j<k+1→whF (g.wi j) (g.nl j) (g.no j)≠none):=fun j hj=>by
       by_cases e:j=k
       ·rw[e,hF];exact fun h=>by cases h
       ·exact HW0.out j (by omega)
      have hms:NM.size≤3:=by rw[HNM.out];exact lnm_size _ _ _ _
      have hss:S.size≤40:=by rw[Pl.size_len,HS.out,List.length_append];have:=nmJ_len g k;have h6:rot6.length=6:=rfl;have:=HLT.out;have:=HN4.out;omega
      have HNJ:Hid (nmJ g (k+1)=nmJ g k++(if k=0 then [] else [44])++NM.data.toList):=by rw[Hid,hn1];rfl
      clear HNM hF HBZ hn1 hne
      by_cases hk0:k=0
      ·subst hk0
       have HNS:Hid ((S++NM).data.toList=rot6++nmJ g (0+1)):=by rw[Hid,cat17,HS.out,HNJ.out,if_pos rfl];simp
       clear HNJ
       go_wp2_with (first | refine wpList_catR rfl _ _ _ _ rfl _ _ rfl rfl (by omega) ?_)
       go_roundw
       case rel=>first | exact ⟨_,_,_,_,_,_,_,_,_,_,⟨0+1,HLT.out,rfl,_,rfl,HNS.out,HW2.out⟩,rfl,rfl,rfl,rfl,rfl,rfl,rfl,rfl,rfl,by go_num⟩ | exact ⟨_,_,_,_,_,_,_,_,_,_,⟨0+1,HLT.out,rfl,_,rfl,HNS.out,HW2.out,HB9.out⟩,rfl,rfl,rfl,rfl,rfl,rfl,rfl,rfl,rfl,by go_num⟩ | refine Hid.out ?_
       case measure=>have:=HLT.out;simp[intOf];omega
      ·have hk1:0<(k:Int):=by omega
       have hk2:0<k:=by omega
       have hk4:(k:Int)≤4:=by have:=HLT.out;have:=HN4.out;omega
       have HNS:Hid (((S++(⟨#[44]⟩:ByteArray))++NM).data.toList=rot6++nmJ g (k+1)):=by rw[Hid,cat17,cat17,HS.out,HNJ.out,if_neg hk0];simp
       have hcs:(S++(⟨#[44]⟩:ByteArray)).size≤41:=by rw[cat_sz];show S.size+1≤41;omega
       have hc1:(⟨#[44]⟩:ByteArray).size=1:=rfl
       clear HNJ
       go_wp2_with (first | refine wpList_catR rfl _ _ _ _ rfl _ _ rfl rfl (by omega) ?_)
       go_roundw
       case rel=>first | exact ⟨_,_,_,_,_,_,_,_,_,_,⟨k+1,HLT.out,rfl,_,rfl,HNS.out,HW2.out⟩,rfl,rfl,rfl,rfl,rfl,rfl,rfl,rfl,rfl,by go_num⟩ | exact ⟨_,_,_,_,_,_,_,_,_,_,⟨k+1,HLT.out,rfl,_,rfl,HNS.out,HW2.out,HB9.out⟩,rfl,rfl,rfl,rfl,rfl,rfl,rfl,rfl,rfl,by go_num⟩ | refine Hid.out ?_
       case measure=>have:=HLT.out;simp[intOf];omega
  ·obtain rfl:k=g.n:=by omega
   have hnn:¬((g.n:Nat):Int)<((g.n:Nat):Int):=by omega
   have HBE:Hid (Below w.heap.size w wr):=HB.out.trans (HBW.out.mono HB.out.size)
   obtain ⟨hnb,hnc,hrow,hCA,hgE⟩:=HRB.out
   have HRW:Hid (RowAt wr w.heap.size 29 CA):=RowAt.below hrow HBW.out (RowAt.lt hrow)
   have HNB:Hid (NumsAt wr b1 g.rl g.ri):=hnb.below HBW.out
   have HNC:Hid (NumsAt wr c1 g.sl g.st):=hnc.below HBW.out
   have HWN:Hid (wnE g=0):=wnE_zero HW0.out
   have HCA:Hid (CA=mac (.slice ra g.n rc) b1 c1 g.rf g.pl):=hCA
   have HPP:Hid (∀X,Calls Tryz.prog 105 #[.agg (ints 26 g.pl)] X fun e w'=>e=.returned (.tuple #[.string ⟨(plS g).toArray⟩,.int .i64 0])∧Below X.heap.size X w'):=fun X=>rpl_print hgE X
   have HLR:Hid (g.rl≤1000∧∀i,i<g.rl→0≤g.ri i∧g.ri i≤25):=by
    obtain ⟨h1,_,⟨h4,h5⟩,_⟩:=gE_zero hgE
    rw[ins_iff] at h5
    exact ⟨by omega,fun i hi=>by have:=h5 i hi;omega⟩
   have HLS:Hid (g.sl≤1000∧∀i,i<g.sl→0≤g.st i∧g.st i≤25):=by
    obtain ⟨h1,_,_,⟨h4,h5⟩,_⟩:=gE_zero hgE
    rw[ins_iff] at h5
    exact ⟨by omega,fun i hi=>by have:=h5 i hi;omega⟩
   have HPL:Hid ((plS g).length≤1000):=plS_len hgE
   have HTX:Hid _:=txM_eq g
   have HSS:Hid (S.size≤40):=by rw[Hid,Pl.size_len,HS.out,List.length_append];have:=nmJ_len g g.n;have h6:rot6.length=6:=rfl;have:=HN4.out;omega
   obtain ⟨MB,hMB⟩:∃f,f=miP [66]:=⟨_,rfl⟩
   obtain ⟨MC,hMC⟩:∃f,f=miP [67]:=⟨_,rfl⟩
   obtain ⟨EB,hEB⟩:∃f,f=miE [66]:=⟨_,rfl⟩
   obtain ⟨EC,hEC⟩:∃f,f=miE [67]:=⟨_,rfl⟩
   have HM1:Hid (∀X,Calls Tryz.prog 103 #[.string ⟨#[66]⟩] X fun e w'=>e=.returned (.tuple #[.agg (ints 26 MB),.int .i64 EB])∧Below X.heap.size X w'):=fun X=>by rw[hMB,hEB];exact rmirror_any ⟨#[66]⟩ X
   have HM2:Hid (∀X,Calls Tryz.prog 103 #[.string ⟨#[67]⟩] X fun e w'=>e=.returned (.tuple #[.agg (ints 26 MC),.int .i64 EC])∧Below X.heap.size X w'):=fun X=>by rw[hMC,hEC];exact rmirror_any ⟨#[67]⟩ X
   have HF0:Hid (eqI 26 g.rf MB=true→mrF g.rf=some 0):=fun h=>fstB_of (m:=0) (fun j hj=>by omega) (by rw[←h,hMB];rfl) (by omega)
   have HF1:Hid (eqI 26 g.rf MB=false→eqI 26 g.rf MC=true→mrF g.rf=some 1):=fun h0 h=>by
    refine fstB_of (m:=1) (fun j hj=>?_) (by rw[←h,hMC];rfl) (by omega)
    obtain rfl:j=0:=by omega
    rw[←h0,hMB]
    rfl
   have HF2:Hid (eqI 26 g.rf MB=false→eqI 26 g.rf MC=false→mrF g.rf=none):=fun h0 h1=>fstB_none (fun j hj=>by
    have:j=0∨j=1:=by omega
    rcases this with rfl | rfl
    ·rw[←h0,hMB];rfl
    ·rw[←h1,hMC];rfl)
   have HMEo:Hid (mrF g.rf≠none→mcE g=0):=fun h=>by unfold mcE;rw[HWN.out,if_neg (fun h=>h rfl),if_neg h]
   have HMEn:Hid (mrF g.rf=none→mcE g≠0):=fun h=>by unfold mcE;rw[HWN.out,if_neg (fun h=>h rfl),if_pos h];decide
   have hz26:=o_zero v_zero_perm
   obtain ⟨rb,rbc,hrv,-⟩:=id HNB.out
   obtain ⟨sb,sbc,hsv,-⟩:=id HNC.out
   subst hrv hsv
   clear hnb hnc hrow hCA hgE HBW HW0 HRB hMB hMC hEB hEC HWA hk hlt HWN HB HN4
   generalize plS g=PS at *
   generalize g.rf=RF at *
   generalize g.pl=PL at *
   generalize g.rl=RL at *
   generalize g.ri=RI at *
   generalize g.sl=SL at *
   generalize g.st=ST at *
   go_wp2_with fail
   refine Calls.mono (HM1.out _) ?_
   rintro e V ⟨rfl,hb⟩
   obtain ⟨X1,hX1⟩:∃X1,X1=(V.alloc (.cells (ints 26 fun _=>0) 27)).setRow V.heap.size (ints 26 MB):=⟨_,rfl⟩
   have HBX1:Hid (Below wr.heap.size wr X1):=by rw[Hid,hX1];exact PK.Below.setRow (hb.alloc hb.size _) _ hb.size _
   have HX1:Hid (RowAt X1 V.heap.size 27 (ints 26 MB)):=by rw[Hid,hX1];exact RowAt.row (RowAt.new V _ _) _
   clear hb HM1
   go_upto_region 20 with (first | refine wpList_store_row rfl 27 _ _ rfl V.heap.size (ints 26 MB) rfl rfl 27 _ (RowAt.new V _ _) (by rw[ints_size];exact info_perm) (by rw[ints_size,ints_size]) (ints_one _ _) ?_)
   rw[←hX1]
   clear hX1
   go_wp2_with fail
   refine Calls.mono (HM2.out _) ?_
   rintro e V2 ⟨rfl,hb⟩
   obtain ⟨X2,hX2⟩:∃X2,X2=(V2.alloc (.cells (ints 26 fun _=>0) 27)).setRow V2.heap.size (ints 26 MC):=⟨_,rfl⟩
   have hb2:Below X1.heap.size X1 X2:=by rw[hX2];exact PK.Below.setRow (hb.alloc hb.size _) _ hb.size _
   have x1:=RowAt.below HX1.out hb2 (RowAt.lt HX1.out)
   have x2:RowAt X2 V2.heap.size 27 (ints 26 MC):=by rw[hX2];exact RowAt.row (RowAt.new V2 _ _) _
   have HBX2:Hid (Below wr.heap.size wr X2):=HBX1.out.trans (hb2.mono HBX1.out.size)
   have HR2:Hid (RowAt X2 w.heap.size 29 CA):=RowAt.below HRW.out HBX2.out (RowAt.lt HRW.out)
   have r3:X2.rangeAt w.heap.size 3 (ints 26 RF).toList:=mid_rf (by rw[←HCA.out];exact HR2.out)
   clear hb hb2 HM2 HX1 HBX1 HRW
   go_upto_region 21 with (first | refine wpList_store_row rfl 27 _ _ rfl V2.heap.size (ints 26 MC) rfl rfl 27 _ (RowAt.new V2 _ _) (by rw[ints_size];exact info_perm) (by rw[ints_size,ints_size]) (ints_one _ _) ?_)
   rw[←hX2]
   clear hX2 hz26
   have hql1:=run_eql_perm RF MB X2
   have hql2:=run_eql_perm RF MC X2
   cases hq1:eqI 26 RF MB with
   | true =>
    rw[hq1] at hql1
    have HNM:Hid (mrF RF=some 0):=HF0.out hq1
    clear HF0 HF1 HF2 hq1
    have hc3:(⟨#[32,66,32]⟩:ByteArray).size=3:=rfl
    have hss:S.size≤40:=HSS.out
    have HME:Hid (mcE g=0):=HMEo.out (by rw[HNM.out];exact fun h=>by cases h)
    have HTX2:Hid (txM g=rot6++nmJ g g.n++[32,66,32]++sptL RL RI++[32]++sptL SL ST++(if PS=[] then [] else [32]++PS)):=by
     rw[Hid,HTX.out,HNM.out]
     rfl
    go_wp2_with (first | refine wpList_load_arr17 (by rfl) 27 _ rfl w.heap.size 3 rfl (ints 26 RF) _ r3 Tryz.underlying27 rfl (by rw[ints_size];exact info_perm) ?_ | refine wpList_load_row rfl 27 _ rfl V.heap.size rfl 27 (ints 26 MB) (0,0) _ x1 Tryz.underlying27 rfl (by rw[ints_size];exact info_perm) ?_)
    generalize hS2:S++(⟨#[32,66,32]⟩:ByteArray)=S2
    have HS2:Hid (S2.data.toList=rot6++nmJ g g.n++[32,66,32]):=by rw[Hid,←hS2,cat17,HS.out]
    have hz2:S2.size≤43:=by rw[←hS2,cat_sz,hc3];omega
    clear hS2 hss hc3 r3 x2 hql2 HTX HNM
    try clear x1 hql1
    obtain ⟨Y,hY⟩:∃Y,Y=X2.drew:=⟨_,rfl⟩
    have hyb:Below X2.heap.size X2 Y:=by rw[hY];exact (Below.refl _ _).drew
    have hrY:=RowAt.below HR2.out hyb (RowAt.lt HR2.out)
    have cz:Y.cell? ⟨w.heap.size,1,none⟩=some (.slice rb RL rbc)∧Y.cell? ⟨w.heap.size,2,none⟩=some (.slice sb SL sbc):=⟨RowAt.cell hrY (by rw[HCA.out];exact mac_1 _ _ _ _ _),RowAt.cell hrY (by rw[HCA.out];exact mac_2 _ _ _ _ _)⟩
    have r29:Y.rangeAt w.heap.size 29 (ints 26 PL).toList:=mid_pl (by rw[←HCA.out];exact hrY)
    have HSR:Hid (Calls Tryz.prog 104 #[.slice rb RL rbc] Y fun e w'=>e=.returned (.string ⟨(sptL RL RI).toArray⟩)∧Y=w'):=rspelt17 _ RL HLR.out.1 RI HLR.out.2 Y ((HNB.out.below HBX2.out).below hyb)
    have HSU:Hid (Calls Tryz.prog 104 #[.slice sb SL sbc] Y fun e w'=>e=.returned (.string ⟨(sptL SL ST).toArray⟩)∧Y=w'):=rspelt17 _ SL HLS.out.1 ST HLS.out.2 Y ((HNC.out.below HBX2.out).below hyb)
    have HPY:Hid _:=HPP.out Y
    have HBY:Hid (Below w.heap.size w Y):=(HBE.out.trans (HBX2.out.mono HBE.out.size)).trans (hyb.mono (Nat.le_trans HBE.out.size HBX2.out.size))
    have HS3:Hid ((sptL RL RI).length=RL∧(sptL SL ST).length=SL):=⟨sptL_len _ _,sptL_len _ _⟩
    have HLB:Hid (RL≤1000∧SL≤1000∧PS.length≤1000):=⟨HLR.out.1,HLS.out.1,HPL.out⟩
    clear hyb hrY HR2 HNB HNC HPP HBX2 HCA HLR HLS HBE
    generalize sptL RL RI=TR at *
    generalize sptL SL ST=TS at *
    refine wp_region_noPanic ?_
    refine wp_region_held_drew (S:=fun W=>W.cell? ⟨w.heap.size,1,none⟩=some (.slice rb RL rbc)∧W.cell? ⟨w.heap.size,2,none⟩=some (.slice sb SL sbc)) (by kernel_rfl) (by rw[←hY];exact cz) (fun hS=>?_)
    rw[←hY] at hS ⊢
    clear hY cz
    refine vtk 0 72 (.string S2) rfl (fun W hW=>by clear hS hW;go_simp) hS ?_
    simp only[zsA,zsB,zsC]
    refine vtk 1 73 (.pointer (some ⟨w.heap.size,1,none⟩)) rfl (fun W hW=>by clear hS hW;go_simp) hS ?_
    simp only[zsA,zsB,zsC]
    refine vtk 2 74 (.slice rb RL rbc) rfl (fun W hW=>by have u:=hW.1;clear hS hW;go_simp) hS ?_
    simp only[zsA,zsB,zsC]
    refine vtk 6 78 (.pointer (some ⟨w.heap.size,2,none⟩)) rfl (fun W hW=>by clear hS hW;go_simp) hS ?_
    simp only[zsA,zsB,zsC]
    refine vtk 7 79 (.slice sb SL sbc) rfl (fun W hW=>by have u:=hW.2;clear hS hW;go_simp) hS ?_
    simp only[zsA,zsB,zsC]
    refine rd1 3 rfl (fun K hK=>?_)
    go_simp
    refine Calls.mono (HSR.out) ?_
    rintro e Y1 ⟨rfl,hY1⟩
    rw[←hY1]
    refine hK.out _ _ hS (fun hS1=>?_)
    clear hK hS K hY1 Y1
    have hS:=hS1
    clear hS1
    have q1:S2.size+(⟨TR.toArray⟩:ByteArray).size≤1043:=by have h1:(⟨TR.toArray⟩:ByteArray).size=TR.length:=rfl;rw[h1,HS3.out.1];have:=HLB.out;omega
    refine vtk 4 76 (.string (S2++⟨TR.toArray⟩)) rfl (fun W hW=>by exact run_cat17 rfl rfl rfl (by omega) W) hS ?_
    simp only[zsA,zsB,zsC]
    have q2:(S2++⟨TR.toArray⟩:ByteArray).size≤1043:=by rw[cat_sz];exact q1
    refine vtk 5 77 (.string (S2++⟨TR.toArray⟩++⟨#[32]⟩)) rfl (fun W hW=>by exact run_cat17 rfl rfl rfl (by have:(⟨#[32]⟩:ByteArray).size=1:=rfl;omega) W) hS ?_
    simp only[zsA,zsB,zsC]
    refine rd1 8 rfl (fun K hK=>?_)
    go_simp
    refine Calls.mono (HSU.out) ?_
    rintro e Y1 ⟨rfl,hY1⟩
    rw[←hY1]
    refine hK.out _ _ hS (fun hS1=>?_)
    clear hK hS K hY1 Y1
    have hS:=hS1
    clear hS1
    have q3:(S2++⟨TR.toArray⟩++⟨#[32]⟩:ByteArray).size≤1044:=by rw[cat_sz];have:(⟨#[32]⟩:ByteArray).size=1:=rfl;omega
    have q4:(⟨TS.toArray⟩:ByteArray).size≤1000:=by have h1:(⟨TS.toArray⟩:ByteArray).size=TS.length:=rfl;rw[h1,HS3.out.2];exact HLB.out.2.1
    refine vtk 9 81 (.string (S2++⟨TR.toArray⟩++⟨#[32]⟩++⟨TS.toArray⟩)) rfl (fun W hW=>by exact run_cat17 rfl rfl rfl (by omega) W) hS ?_
    simp only[zsA,zsB,zsC]
    refine vtk 10 4 (.string (S2++⟨TR.toArray⟩++⟨#[32]⟩++⟨TS.toArray⟩)) rfl (fun W hW=>by clear hS hW;go_simp) hS ?_
    simp only[zsA,zsB,zsC]
    refine wpAnyH_done (by kernel_rfl) ?_ _
    refine NoPanic.normal ?_
    generalize hS4:S2++⟨TR.toArray⟩++⟨#[32]⟩++⟨TS.toArray⟩=S4
    have HS4:Hid (S4.data.toList=rot6++nmJ g g.n++[32,66,32]++TR++[32]++TS):=by rw[Hid,←hS4,cat17,cat17,cat17,HS2.out]
    have hz4:S4.size≤2044:=by rw[←hS4,cat_sz];omega
    clear hS4 q1 q2 q3 q4 hS HSR HSU HS2 hz2 HS3
    go_wp2_with (first | refine wpList_load_arr17 (by rfl) 27 _ rfl w.heap.size 29 rfl (ints 26 PL) _ r29 Tryz.underlying27 rfl (by rw[ints_size];exact info_perm) ?_)
    refine Calls.mono HPY.out ?_
    rintro e V5 ⟨rfl,hb5⟩
    have HB5:Hid (Below w.heap.size w V5):=HBY.out.trans (hb5.mono HBY.out.size)
    clear hb5 HPY r29 HBY
    by_cases hpl:PS=[]
    ·have HEQ:Hid (S4=⟨(txM g).toArray⟩):=by
      rw[Hid,HTX2.out,if_pos hpl,List.append_nil,←HS4.out]
     subst hpl
     clear HTX2 HS4
     go_wp2
     go_ret2
     exact ⟨fun _=>by rw[HEQ.out];rfl,fun h=>absurd HME.out h,HB5.out⟩
    ·have hpe:PS.isEmpty=false:=by simpa using hpl
     have hps:(⟨PS.toArray⟩:ByteArray).size≤1000:=HLB.out.2.2
     obtain ⟨PB,hPB⟩:∃PB:ByteArray,PB=⟨PS.toArray⟩:=⟨_,rfl⟩
     have HEQ:Hid (S4++⟨#[32]⟩++PB=⟨(txM g).toArray⟩):=by
      rw[Hid,HTX2.out,if_neg hpl]
      have h1:(S4++⟨#[32]⟩++PB).data.toList=rot6++nmJ g g.n++[32,66,32]++TR++[32]++TS++([32]++PS):=by
       rw[cat17,cat17,HS4.out,hPB]
       simp
      rw[←h1]
     have hne:(PB.toList==[])=false:=ba_ne_nil (by rw[hPB];exact hpl)
     rw[←hPB] at hps ⊢
     have hc1:(⟨#[32]⟩:ByteArray).size=1:=rfl
     have hz5:(S4++⟨#[32]⟩:ByteArray).size≤2045:=by rw[cat_sz,hc1];omega
     clear HTX2 HS4 hpl hpe hPB
     go_wp2_with (first | refine wpList_catR rfl _ _ _ _ rfl _ _ rfl rfl (by omega) ?_)
     go_ret2
     exact ⟨fun _=>by rw[HEQ.out];rfl,fun h=>absurd HME.out h,HB5.out⟩
   | false =>
    rw[hq1] at hql1
    cases hq2:eqI 26 RF MC with
    | true =>
     rw[hq2] at hql2
     have HNM:Hid (mrF RF=some 1):=HF1.out hq1 hq2
     clear HF0 HF1 HF2 hq1 hq2
     have hc3:(⟨#[32,67,32]⟩:ByteArray).size=3:=rfl
     have hss:S.size≤40:=HSS.out
     have HME:Hid (mcE g=0):=HMEo.out (by rw[HNM.out];exact fun h=>by cases h)
     have HTX2:Hid (txM g=rot6++nmJ g g.n++[32,67,32]++sptL RL RI++[32]++sptL SL ST++(if PS=[] then [] else [32]++PS)):=by
      rw[Hid,HTX.out,HNM.out]
      rfl
     go_wp2_with (first | refine wpList_load_arr17 (by rfl) 27 _ rfl w.heap.size 3 rfl (ints 26 RF) _ r3 Tryz.underlying27 rfl (by rw[ints_size];exact info_perm) ?_ | refine wpList_load_row rfl 27 _ rfl V.heap.size rfl 27 (ints 26 MB) (0,0) _ x1 Tryz.underlying27 rfl (by rw[ints_size];exact info_perm) ?_ | refine wpList_load_row rfl 27 _ rfl V2.heap.size rfl 27 (ints 26 MC) (0,0) _ x2 Tryz.underlying27 rfl (by rw[ints_size];exact info_perm) ?_)
     generalize hS2:S++(⟨#[32,67,32]⟩:ByteArray)=S2
     have HS2:Hid (S2.data.toList=rot6++nmJ g g.n++[32,67,32]):=by rw[Hid,←hS2,cat17,HS.out]
     have hz2:S2.size≤43:=by rw[←hS2,cat_sz,hc3];omega
     clear hS2 hss hc3 r3 x2 hql2 HTX HNM
     try clear x1 hql1
     obtain ⟨Y,hY⟩:∃Y,Y=X2.drew:=⟨_,rfl⟩
     have hyb:Below X2.heap.size X2 Y:=by rw[hY];exact (Below.refl _ _).drew
     have hrY:=RowAt.below HR2.out hyb (RowAt.lt HR2.out)
     have cz:Y.cell? ⟨w.heap.size,1,none⟩=some (.slice rb RL rbc)∧Y.cell? ⟨w.heap.size,2,none⟩=some (.slice sb SL sbc):=⟨RowAt.cell hrY (by rw[HCA.out];exact mac_1 _ _ _ _ _),RowAt.cell hrY (by rw[HCA.out];exact mac_2 _ _ _ _ _)⟩
     have r29:Y.rangeAt w.heap.size 29 (ints 26 PL).toList:=mid_pl (by rw[←HCA.out];exact hrY)
     have HSR:Hid (Calls Tryz.prog 104 #[.slice rb RL rbc] Y fun e w'=>e=.returned (.string ⟨(sptL RL RI).toArray⟩)∧Y=w'):=rspelt17 _ RL HLR.out.1 RI HLR.out.2 Y ((HNB.out.below HBX2.out).below hyb)
     have HSU:Hid (Calls Tryz.prog 104 #[.slice sb SL sbc] Y fun e w'=>e=.returned (.string ⟨(sptL SL ST).toArray⟩)∧Y=w'):=rspelt17 _ SL HLS.out.1 ST HLS.out.2 Y ((HNC.out.below HBX2.out).below hyb)
     have HPY:Hid _:=HPP.out Y
     have HBY:Hid (Below w.heap.size w Y):=(HBE.out.trans (HBX2.out.mono HBE.out.size)).trans (hyb.mono (Nat.le_trans HBE.out.size HBX2.out.size))
     have HS3:Hid ((sptL RL RI).length=RL∧(sptL SL ST).length=SL):=⟨sptL_len _ _,sptL_len _ _⟩
     have HLB:Hid (RL≤1000∧SL≤1000∧PS.length≤1000):=⟨HLR.out.1,HLS.out.1,HPL.out⟩
     clear hyb hrY HR2 HNB HNC HPP HBX2 HCA HLR HLS HBE
     generalize sptL RL RI=TR at *
     generalize sptL SL ST=TS at *
     refine wp_region_noPanic ?_
     refine wp_region_held_drew (S:=fun W=>W.cell? ⟨w.heap.size,1,none⟩=some (.slice rb RL rbc)∧W.cell? ⟨w.heap.size,2,none⟩=some (.slice sb SL sbc)) (by kernel_rfl) (by rw[←hY];exact cz) (fun hS=>?_)
     rw[←hY] at hS ⊢
     clear hY cz
     refine vtk 0 72 (.string S2) rfl (fun W hW=>by clear hS hW;go_simp) hS ?_
     simp only[zsA,zsB,zsC]
     refine vtk 1 73 (.pointer (some ⟨w.heap.size,1,none⟩)) rfl (fun W hW=>by clear hS hW;go_simp) hS ?_
     simp only[zsA,zsB,zsC]
     refine vtk 2 74 (.slice rb RL rbc) rfl (fun W hW=>by have u:=hW.1;clear hS hW;go_simp) hS ?_
     simp only[zsA,zsB,zsC]
     refine vtk 6 78 (.pointer (some ⟨w.heap.size,2,none⟩)) rfl (fun W hW=>by clear hS hW;go_simp) hS ?_
     simp only[zsA,zsB,zsC]
     refine vtk 7 79 (.slice sb SL sbc) rfl (fun W hW=>by have u:=hW.2;clear hS hW;go_simp) hS ?_
     simp only[zsA,zsB,zsC]
     refine rd1 3 rfl (fun K hK=>?_)
     go_simp
     refine Calls.mono (HSR.out) ?_
     rintro e Y1 ⟨rfl,hY1⟩
     rw[←hY1]
     refine hK.out _ _ hS (fun hS1=>?_)
     clear hK hS K hY1 Y1
     have hS:=hS1
     clear hS1
     have q1:S2.size+(⟨TR.toArray⟩:ByteArray).size≤1043:=by have h1:(⟨TR.toArray⟩:ByteArray).size=TR.length:=rfl;rw[h1,HS3.out.1];have:=HLB.out;omega
     refine vtk 4 76 (.string (S2++⟨TR.toArray⟩)) rfl (fun W hW=>by exact run_cat17 rfl rfl rfl (by omega) W) hS ?_
     simp only[zsA,zsB,zsC]
     have q2:(S2++⟨TR.toArray⟩:ByteArray).size≤1043:=by rw[cat_sz];exact q1
     refine vtk 5 77 (.string (S2++⟨TR.toArray⟩++⟨#[32]⟩)) rfl (fun W hW=>by exact run_cat17 rfl rfl rfl (by have:(⟨#[32]⟩:ByteArray).size=1:=rfl;omega) W) hS ?_
     simp only[zsA,zsB,zsC]
     refine rd1 8 rfl (fun K hK=>?_)
     go_simp
     refine Calls.mono (HSU.out) ?_
     rintro e Y1 ⟨rfl,hY1⟩
     rw[←hY1]
     refine hK.out _ _ hS (fun hS1=>?_)
     clear hK hS K hY1 Y1
     have hS:=hS1
     clear hS1
     have q3:(S2++⟨TR.toArray⟩++⟨#[32]⟩:ByteArray).size≤1044:=by rw[cat_sz];have:(⟨#[32]⟩:ByteArray).size=1:=rfl;omega
     have q4:(⟨TS.toArray⟩:ByteArray).size≤1000:=by have h1:(⟨TS.toArray⟩:ByteArray).size=TS.length:=rfl;rw[h1,HS3.out.2];exact HLB.out.2.1
     refine vtk 9 81 (.string (S2++⟨TR.toArray⟩++⟨#[32]⟩++⟨TS.toArray⟩)) rfl (fun W hW=>by exact run_cat17 rfl rfl rfl (by omega) W) hS ?_
     simp only[zsA,zsB,zsC]
     refine vtk 10 4 (.string (S2++⟨TR.toArray⟩++⟨#[32]⟩++⟨TS.toArray⟩)) rfl (fun W hW=>by clear hS hW;go_simp) hS ?_
     simp only[zsA,zsB,zsC]
     refine wpAnyH_done (by kernel_rfl) ?_ _
     refine NoPanic.normal ?_
     generalize hS4:S2++⟨TR.toArray⟩++⟨#[32]⟩++⟨TS.toArray⟩=S4
     have HS4:Hid (S4.data.toList=rot6++nmJ g g.n++[32,67,32]++TR++[32]++TS):=by rw[Hid,←hS4,cat17,cat17,cat17,HS2.out]
     have hz4:S4.size≤2044:=by rw[←hS4,cat_sz];omega
     clear hS4 q1 q2 q3 q4 hS HSR HSU HS2 hz2 HS3
     go_wp2_with (first | refine wpList_load_arr17 (by rfl) 27 _ rfl w.heap.size 29 rfl (ints 26 PL) _ r29 Tryz.underlying27 rfl (by rw[ints_size];exact info_perm) ?_)
     refine Calls.mono HPY.out ?_
     rintro e V5 ⟨rfl,hb5⟩
     have HB5:Hid (Below w.heap.size w V5):=HBY.out.trans (hb5.mono HBY.out.size)
     clear hb5 HPY r29 HBY
     by_cases hpl:PS=[]
     ·have HEQ:Hid (S4=⟨(txM g).toArray⟩):=by
       rw[Hid,HTX2.out,if_pos hpl,List.append_nil,←HS4.out]
      subst hpl
      clear HTX2 HS4
      go_wp2
      go_ret2
      exact ⟨fun _=>by rw[HEQ.out];rfl,fun h=>absurd HME.out h,HB5.out⟩
     ·have hpe:PS.isEmpty=false:=by simpa using hpl
      have hps:(⟨PS.toArray⟩:ByteArray).size≤1000:=HLB.out.2.2
      obtain ⟨PB,hPB⟩:∃PB:ByteArray,PB=⟨PS.toArray⟩:=⟨_,rfl⟩
      have HEQ:Hid (S4++⟨#[32]⟩++PB=⟨(txM g).toArray⟩):=by
       rw[Hid,HTX2.out,if_neg hpl]
       have h1:(S4++⟨#[32]⟩++PB).data.toList=rot6++nmJ g g.n++[32,67,32]++TR++[32]++TS++([32]++PS):=by
        rw[cat17,cat17,HS4.out,hPB]
        simp
       rw[←h1]
      have hne:(PB.toList==[])=false:=ba_ne_nil (by rw[hPB];exact hpl)
      rw[←hPB] at hps ⊢
      have hc1:(⟨#[32]⟩:ByteArray).size=1:=rfl
      have hz5:(S4++⟨#[32]⟩:ByteArray).size≤2045:=by rw[cat_sz,hc1];omega
      clear HTX2 HS4 hpl hpe hPB
      go_wp2_with (first | refine wpList_catR rfl _ _ _ _ rfl _ _ rfl rfl (by omega) ?_)
      go_ret2
      exact ⟨fun _=>by rw[HEQ.out];rfl,fun h=>absurd HME.out h,HB5.out⟩
    | false =>
     rw[hq2] at hql2
     have HMZ:Hid (mcE g≠0):=HMEn.out (HF2.out hq1 hq2)
     have HBF:Hid (Below w.heap.size w X2):=HBE.out.trans (HBX2.out.mono HBE.out.size)
     clear HF0 HF1 HF2 hq1 hq2
     go_wp2_with (first | refine wpList_load_arr17 (by rfl) 27 _ rfl w.heap.size 3 rfl (ints 26 RF) _ r3 Tryz.underlying27 rfl (by rw[ints_size];exact info_perm) ?_ | refine wpList_load_row rfl 27 _ rfl V.heap.size rfl 27 (ints 26 MB) (0,0) _ x1 Tryz.underlying27 rfl (by rw[ints_size];exact info_perm) ?_ | refine wpList_load_row rfl 27 _ rfl V2.heap.size rfl 27 (ints 26 MC) (0,0) _ x2 Tryz.underlying27 rfl (by rw[ints_size];exact info_perm) ?_)
     go_ret2
     exact ⟨fun h=>absurd h HMZ.out,fun _=>rfl,HBF.out⟩
end Go.Proofs.YtkohhdkkbaifoaaGreatDoor
