/-
  The document's One: matrices and machines; all kinds.
-/
import Derived.Test.YtkohhdkkbaifoaaGreatDoorJn33
import Derived.Test.YtkohhdkkbaifoaaGreatDoorJn35
import Derived.Test.YtkohhdkkbaifoaaGreatDoorJn19
namespace Go.Proofs.YtkohhdkkbaifoaaGreatDoor
open Go.RowKit PK Vg Sm

set_option maxRecDepth 100000 in
set_option maxHeartbeats 4000000 in
theorem rone_hill_x (v:Value) (s:Sp) (t:ByteArray) (w:World) (hv:SqAt w v s) (hs:stE s=0) (hk:s.k=5) (ht:ckE t.data.toList=0) (hm:t.size % s.r≠0) (b:Bool):Calls Tryz.prog 43 #[v,.string t,.bool b] w fun e w'=>e=.returned (.tuple #[.string ⟨#[]⟩,.int .i64 8])∧Below w.heap.size w w':=by
 obtain ⟨hg,hL⟩:=(matErr_zero s.r s.L s.Z).1 (st_hill hs hk)
 have hr1:=hg.pos
 have hr4:=hg.le
 have hsz:=Pl.size_len t
 have hck:=ck_at ht
 obtain ⟨mv,x,y,z,rfl,M,XW,YN,ZN⟩:=hv
 obtain ⟨CS,hCS⟩:∃CS,CS=spA s.k s.n s.key mv x y z s.g.rf s.g.pl:=⟨_,rfl⟩
 rw[←hCS]
 obtain ⟨W,hW⟩:∃W,W=w.alloc (.cells CS 31):=⟨_,rfl⟩
 have hb1:Below w.heap.size w W:=by rw[hW];exact (Below.refl _ w).alloc (Nat.le_refl _) _
 have q1:RowAt W w.heap.size 31 CS:=by rw[hW];exact RowAt.new w _ _
 have c0:W.cell? ⟨w.heap.size,0,none⟩=some (.int .i64 s.k):=RowAt.cell q1 (by rw[hCS];exact spA_0 _ _ _ _ _ _ _ _ _)
 have c1:W.cell? ⟨w.heap.size,1,none⟩=some (.int .i64 s.n):=RowAt.cell q1 (by rw[hCS];exact spA_1 _ _ _ _ _ _ _ _ _)
 have c2:W.cell? ⟨w.heap.size,2,none⟩=some (.string s.key):=RowAt.cell q1 (by rw[hCS];exact spA_2 _ _ _ _ _ _ _ _ _)
 have c3:W.cell? ⟨w.heap.size,3,none⟩=some mv:=RowAt.cell q1 (by rw[hCS];exact spA_3 _ _ _ _ _ _ _ _ _)
 have r4:W.rangeAt w.heap.size 4 (mac x y z s.g.rf s.g.pl).toList:=row_mid q1 4 _ (fun i u hu=>by rw[hCS,spA_mac];exact hu)
 have HB:Hid (Below w.heap.size w W):=hb1
 obtain ⟨ma,mc,_,rfl,-⟩:=id M
 rw[hk] at c0
 have h0:¬(s.r:Int)=0:=by omega
 have hmi:((t.size:Int) % (s.r:Int))=((t.size % s.r:Nat):Int):=by omega
 obtain ⟨X,hX⟩:∃X,X=t.size % s.r:=⟨_,rfl⟩
 rw[←hX] at hmi hm
 have hne:((X:Int) != 0)=true:=by simp;exact hm
 have hnb:(X != 0)=true:=by simpa using hm
 have hxb:(X==0)=false:=by simpa using hm
 have hx0:¬(X:Int)=0:=by omega
 clear hX hs hk ht M XW YN ZN hCS q1 hb1 c1 c2 r4 hg hL hck hsz
 go_enter Tryz.func43,Tryz.ntmps43
 go_upto_region 1 with fail
 rw[←hW]
 clear hW
 go_wp2_with fail
 go_ret2
 exact ⟨rfl,HB.out⟩
set_option maxRecDepth 100000 in
set_option maxHeartbeats 4000000 in
theorem rone_hill_f (v:Value) (s:Sp) (t:ByteArray) (w:World) (hv:SqAt w v s) (hs:stE s=0) (hk:s.k=5) (ht:ckE t.data.toList=0) (hm:t.size % s.r=0):Calls Tryz.prog 43 #[v,.string t,.bool false] w fun e w'=>e=.returned (.tuple #[.string ⟨(encL s.r s.Z t.data.toList t.data.toList.length).toArray⟩,.int .i64 0])∧Below w.heap.size w w':=by
 obtain ⟨hg,hL⟩:=(matErr_zero s.r s.L s.Z).1 (st_hill hs hk)
 have hr1:=hg.pos
 have hr4:=hg.le
 have hsz:=Pl.size_len t
 have hck:=ck_at ht
 have hfull:fullL s.r t.data.toList=t.data.toList:=full_selfW _ _ (by rw[←hsz];exact hm)
 obtain ⟨mv,x,y,z,rfl,M,XW,YN,ZN⟩:=hv
 obtain ⟨CS,hCS⟩:∃CS,CS=spA s.k s.n s.key mv x y z s.g.rf s.g.pl:=⟨_,rfl⟩
 rw[←hCS]
 obtain ⟨W,hW⟩:∃W,W=w.alloc (.cells CS 31):=⟨_,rfl⟩
 have hb1:Below w.heap.size w W:=by rw[hW];exact (Below.refl _ w).alloc (Nat.le_refl _) _
 have q1:RowAt W w.heap.size 31 CS:=by rw[hW];exact RowAt.new w _ _
 have c0:W.cell? ⟨w.heap.size,0,none⟩=some (.int .i64 s.k):=RowAt.cell q1 (by rw[hCS];exact spA_0 _ _ _ _ _ _ _ _ _)
 have c1:W.cell? ⟨w.heap.size,1,none⟩=some (.int .i64 s.n):=RowAt.cell q1 (by rw[hCS];exact spA_1 _ _ _ _ _ _ _ _ _)
 have c2:W.cell? ⟨w.heap.size,2,none⟩=some (.string s.key):=RowAt.cell q1 (by rw[hCS];exact spA_2 _ _ _ _ _ _ _ _ _)
 have c3:W.cell? ⟨w.heap.size,3,none⟩=some mv:=RowAt.cell q1 (by rw[hCS];exact spA_3 _ _ _ _ _ _ _ _ _)
 have r4:W.rangeAt w.heap.size 4 (mac x y z s.g.rf s.g.pl).toList:=row_mid q1 4 _ (fun i u hu=>by rw[hCS,spA_mac];exact hu)
 have HB:Hid (Below w.heap.size w W):=hb1
 have HWR:Hid (Calls Tryz.prog 88 #[mv,.string t] W fun e w'=>e=.returned (.tuple #[.string ⟨(encL s.r s.Z t.data.toList t.data.toList.length).toArray⟩,.agg #[.int .i64 0,.int .i64 0]])∧Below W.heap.size W w'):=by
  have h:=rwr_ok mv s.r s.L s.Z hg hL t ht hck.1 hck.2.2 (by rw[hfull];exact hck.2.1) W (M.below hb1)
  rw[hfull] at h
  exact h
 obtain ⟨ma,mc,_,rfl,-⟩:=id M
 rw[hk] at c0
 have h0:¬(s.r:Int)=0:=by omega
 have hmi:((t.size:Int) % (s.r:Int))=0:=by omega
 generalize encL s.r s.Z t.data.toList t.data.toList.length=RS at *
 have HBV:Hid (Below w.heap.size w W):=HB.out
 clear hs hk ht M XW YN ZN hCS q1 hb1 c1 c2 r4 hg hL hck hfull hm hsz
 go_enter Tryz.func43,Tryz.ntmps43
 go_upto_region 1 with fail
 rw[←hW]
 clear hW
 have HB1:Hid (Below w.heap.size w W):=HBV.out
 go_wp2_with fail
 refine Calls.mono HWR.out ?_
 rintro e V2 ⟨rfl,hb2⟩
 have hb02:=HB1.out.trans (hb2.mono HB1.out.size)
 obtain ⟨X2,hX2⟩:∃X2,X2=V2.alloc (.cells #[.int .i64 0,.int .i64 0] 35):=⟨_,rfl⟩
 have HBX2:Hid (Below w.heap.size w X2):=by rw[Hid,hX2];exact hb02.alloc hb02.size _
 have k2:X2.cell? ⟨V2.heap.size,0,none⟩=some (.int .i64 0):=by rw[hX2];exact RowAt.cell (RowAt.new V2 _ _) (i:=0) rfl
 clear hb2 hb02 HWR
 go_upto_region 36 with fail
 rw[←hX2]
 clear hX2
 go_quiet (fail)
 go_wp2
 go_ret2
 exact ⟨rfl,HBX2.out.os,HBX2.out.tape,HBX2.out.output,HBX2.out.size,HBX2.out.block⟩
set_option maxRecDepth 100000 in
set_option maxHeartbeats 4000000 in
theorem rone_hill_n (v:Value) (s:Sp) (t:ByteArray) (w:World) (hv:SqAt w v s) (hs:stE s=0) (hk:s.k=5) (ht:ckE t.data.toList=0) (hm:t.size % s.r=0) (hrc:(recOf (detL s.r s.Z)).2=6):Calls Tryz.prog 43 #[v,.string t,.bool true] w fun e w'=>e=.returned (.tuple #[.string ⟨#[]⟩,.int .i64 6])∧Below w.heap.size w w':=by
 obtain ⟨hg,hL⟩:=(matErr_zero s.r s.L s.Z).1 (st_hill hs hk)
 have hr1:=hg.pos
 have hr4:=hg.le
 have hsz:=Pl.size_len t
 have hck:=ck_at ht
 obtain ⟨mv,x,y,z,rfl,M,XW,YN,ZN⟩:=hv
 obtain ⟨CS,hCS⟩:∃CS,CS=spA s.k s.n s.key mv x y z s.g.rf s.g.pl:=⟨_,rfl⟩
 rw[←hCS]
 obtain ⟨W,hW⟩:∃W,W=w.alloc (.cells CS 31):=⟨_,rfl⟩
 have hb1:Below w.heap.size w W:=by rw[hW];exact (Below.refl _ w).alloc (Nat.le_refl _) _
 have q1:RowAt W w.heap.size 31 CS:=by rw[hW];exact RowAt.new w _ _
 have c0:W.cell? ⟨w.heap.size,0,none⟩=some (.int .i64 s.k):=RowAt.cell q1 (by rw[hCS];exact spA_0 _ _ _ _ _ _ _ _ _)
 have c1:W.cell? ⟨w.heap.size,1,none⟩=some (.int .i64 s.n):=RowAt.cell q1 (by rw[hCS];exact spA_1 _ _ _ _ _ _ _ _ _)
 have c2:W.cell? ⟨w.heap.size,2,none⟩=some (.string s.key):=RowAt.cell q1 (by rw[hCS];exact spA_2 _ _ _ _ _ _ _ _ _)
 have c3:W.cell? ⟨w.heap.size,3,none⟩=some mv:=RowAt.cell q1 (by rw[hCS];exact spA_3 _ _ _ _ _ _ _ _ _)
 have r4:W.rangeAt w.heap.size 4 (mac x y z s.g.rf s.g.pl).toList:=row_mid q1 4 _ (fun i u hu=>by rw[hCS,spA_mac];exact hu)
 have HB:Hid (Below w.heap.size w W):=hb1
 have HIN:Hid _:=rinv_none mv s.r s.L s.Z hg hL hrc W (M.below hb1)
 obtain ⟨ma,mc,_,rfl,-⟩:=id M
 rw[hk] at c0
 have h0:¬(s.r:Int)=0:=by omega
 have hmi:((t.size:Int) % (s.r:Int))=0:=by omega
 clear hs hk ht M XW YN ZN hCS q1 hb1 c1 c2 r4 hg hL hck hm hrc hsz
 go_enter Tryz.func43,Tryz.ntmps43
 go_upto_region 1 with fail
 rw[←hW]
 clear hW
 go_wp2_with fail
 refine Calls.mono HIN.out ?_
 rintro e V1 ⟨rfl,hb1⟩
 have HB1:Hid (Below w.heap.size w V1):=HB.out.trans (hb1.mono HB.out.size)
 clear hb1 HIN
 go_wp2
 go_ret2
 exact ⟨rfl,HB1.out⟩
set_option maxRecDepth 100000 in
set_option maxHeartbeats 4000000 in
theorem rone_hill_b (v:Value) (s:Sp) (t:ByteArray) (w:World) (hv:SqAt w v s) (hs:stE s=0) (hk:s.k=5) (ht:ckE t.data.toList=0) (hm:t.size % s.r=0) (hrc:(recOf (detL s.r s.Z)).2=0):Calls Tryz.prog 43 #[v,.string t,.bool true] w fun e w'=>e=.returned (.tuple #[.string ⟨(encL s.r (invL s.r s.Z) t.data.toList t.data.toList.length).toArray⟩,.int .i64 0])∧Below w.heap.size w w':=by
 obtain ⟨hg,hL⟩:=(matErr_zero s.r s.L s.Z).1 (st_hill hs hk)
 have hr1:=hg.pos
 have hr4:=hg.le
 have hsz:=Pl.size_len t
 have hck:=ck_at ht
 have hfull:fullL s.r t.data.toList=t.data.toList:=full_selfW _ _ (by rw[←hsz];exact hm)
 have HGI:Hid (GoodM s.r (invL s.r s.Z)):=good_inv hr1 hr4 s.Z
 obtain ⟨mv,x,y,z,rfl,M,XW,YN,ZN⟩:=hv
 obtain ⟨CS,hCS⟩:∃CS,CS=spA s.k s.n s.key mv x y z s.g.rf s.g.pl:=⟨_,rfl⟩
 rw[←hCS]
 obtain ⟨W,hW⟩:∃W,W=w.alloc (.cells CS 31):=⟨_,rfl⟩
 have hb1:Below w.heap.size w W:=by rw[hW];exact (Below.refl _ w).alloc (Nat.le_refl _) _
 have q1:RowAt W w.heap.size 31 CS:=by rw[hW];exact RowAt.new w _ _
 have c0:W.cell? ⟨w.heap.size,0,none⟩=some (.int .i64 s.k):=RowAt.cell q1 (by rw[hCS];exact spA_0 _ _ _ _ _ _ _ _ _)
 have c1:W.cell? ⟨w.heap.size,1,none⟩=some (.int .i64 s.n):=RowAt.cell q1 (by rw[hCS];exact spA_1 _ _ _ _ _ _ _ _ _)
 have c2:W.cell? ⟨w.heap.size,2,none⟩=some (.string s.key):=RowAt.cell q1 (by rw[hCS];exact spA_2 _ _ _ _ _ _ _ _ _)
 have c3:W.cell? ⟨w.heap.size,3,none⟩=some mv:=RowAt.cell q1 (by rw[hCS];exact spA_3 _ _ _ _ _ _ _ _ _)
 have r4:W.rangeAt w.heap.size 4 (mac x y z s.g.rf s.g.pl).toList:=row_mid q1 4 _ (fun i u hu=>by rw[hCS,spA_mac];exact hu)
 have HB:Hid (Below w.heap.size w W):=hb1
 have HIN:Hid _:=rinv_ok mv s.r s.L s.Z hg hL hrc W (M.below hb1)
 have HWX:Hid (∀V u,MatAt V u s.r (fun _=>s.r) (invL s.r s.Z)→Calls Tryz.prog 88 #[u,.string t] V fun e w'=>e=.returned (.tuple #[.string ⟨(encL s.r (invL s.r s.Z) t.data.toList t.data.toList.length).toArray⟩,.agg #[.int .i64 0,.int .i64 0]])∧Below V.heap.size V w'):=fun V u hu=>by
  have h:=rwr_ok u s.r (fun _=>s.r) (invL s.r s.Z) HGI.out (fun _ _=>rfl) t ht hck.1 hck.2.2 (by rw[hfull];exact hck.2.1) V hu
  rw[hfull] at h
  exact h
 obtain ⟨ma,mc,_,rfl,-⟩:=id M
 rw[hk] at c0
 have h0:¬(s.r:Int)=0:=by omega
 have hmi:((t.size:Int) % (s.r:Int))=0:=by omega
 generalize encL s.r (invL s.r s.Z) t.data.toList t.data.toList.length=RS at *
 clear hs hk ht M XW YN ZN hCS q1 hb1 c1 c2 r4 hg hL hck hfull hm hrc HGI hsz
 go_enter Tryz.func43,Tryz.ntmps43
 go_upto_region 1 with fail
 rw[←hW]
 clear hW
 go_wp2_with fail
 refine Calls.mono HIN.out ?_
 rintro e V1 ⟨u,rfl,hmu,hb1⟩
 have HBV:Hid (Below w.heap.size w V1):=HB.out.trans (hb1.mono HB.out.size)
 have HWR:Hid _:=HWX.out V1 u hmu
 obtain ⟨ua,uc,_,rfl,-⟩:=id hmu
 clear hb1 HIN hmu HWX c0 c3
 have HB1:Hid (Below w.heap.size w V1):=HBV.out
 go_wp2_with fail
 refine Calls.mono HWR.out ?_
 rintro e V2 ⟨rfl,hb2⟩
 have hb02:=HB1.out.trans (hb2.mono HB1.out.size)
 obtain ⟨X2,hX2⟩:∃X2,X2=V2.alloc (.cells #[.int .i64 0,.int .i64 0] 35):=⟨_,rfl⟩
 have HBX2:Hid (Below w.heap.size w X2):=by rw[Hid,hX2];exact hb02.alloc hb02.size _
 have k2:X2.cell? ⟨V2.heap.size,0,none⟩=some (.int .i64 0):=by rw[hX2];exact RowAt.cell (RowAt.new V2 _ _) (i:=0) rfl
 clear hb2 hb02 HWR
 go_upto_region 36 with fail
 rw[←hX2]
 clear hX2
 go_quiet (fail)
 go_wp2
 go_ret2
 exact ⟨rfl,HBX2.out.os,HBX2.out.tape,HBX2.out.output,HBX2.out.size,HBX2.out.block⟩
set_option maxRecDepth 100000 in
set_option maxHeartbeats 4000000 in
theorem rone_rot_f (v:Value) (s:Sp) (t:ByteArray) (w:World) (hv:SqAt w v s) (hs:stE s=0) (hk:s.k=6) (ht:ckE t.data.toList=0):Calls Tryz.prog 43 #[v,.string t,.bool false] w fun e w'=>e=.returned (.tuple #[.string ⟨(Om.wr (maOf s.g) (maOf s.g).st t.data.toList).toArray⟩,.int .i64 0])∧Below w.heap.size w w':=by
 have hge:=st_rotor hs hk
 have hls:=ls_ck ht
 have hsz:=Pl.size_len t
 obtain ⟨mv,x,y,z,rfl,M,XW,YN,ZN⟩:=hv
 obtain ⟨CS,hCS⟩:∃CS,CS=spA s.k s.n s.key mv x y z s.g.rf s.g.pl:=⟨_,rfl⟩
 rw[←hCS]
 obtain ⟨W,hW⟩:∃W,W=w.alloc (.cells CS 31):=⟨_,rfl⟩
 have hb1:Below w.heap.size w W:=by rw[hW];exact (Below.refl _ w).alloc (Nat.le_refl _) _
 have q1:RowAt W w.heap.size 31 CS:=by rw[hW];exact RowAt.new w _ _
 have c0:W.cell? ⟨w.heap.size,0,none⟩=some (.int .i64 s.k):=RowAt.cell q1 (by rw[hCS];exact spA_0 _ _ _ _ _ _ _ _ _)
 have c1:W.cell? ⟨w.heap.size,1,none⟩=some (.int .i64 s.n):=RowAt.cell q1 (by rw[hCS];exact spA_1 _ _ _ _ _ _ _ _ _)
 have c2:W.cell? ⟨w.heap.size,2,none⟩=some (.string s.key):=RowAt.cell q1 (by rw[hCS];exact spA_2 _ _ _ _ _ _ _ _ _)
 have c3:W.cell? ⟨w.heap.size,3,none⟩=some mv:=RowAt.cell q1 (by rw[hCS];exact spA_3 _ _ _ _ _ _ _ _ _)
 have r4:W.rangeAt w.heap.size 4 (mac x y z s.g.rf s.g.pl).toList:=row_mid q1 4 _ (fun i u hu=>by rw[hCS,spA_mac];exact hu)
 have HB:Hid (Below w.heap.size w W):=hb1
 have HWR:Hid (Calls Tryz.prog 89 #[.agg (mac x y z s.g.rf s.g.pl),.string t] W fun e w'=>e=.returned (.tuple #[.string ⟨(Om.wr (maOf s.g) (maOf s.g).st t.data.toList).toArray⟩,.agg #[.int .i64 0,.int .i64 0]])∧Below W.heap.size W w'):=by
  obtain ⟨hM,hat⟩:=ok_maOf hge
  have hmac:MacAt W (.agg (mac x y z s.g.rf s.g.pl)) s.g:=⟨x,y,z,rfl,XW.below hb1,YN.below hb1,ZN.below hb1⟩
  refine rwt_ok (maOf s.g) hM _ t hls.1 (by omega) W (hat W _ hmac) (fun V hV=>?_) (fun V=>?_)
  ·have h:=rgw_any (.agg (mac x y z s.g.rf s.g.pl)) s.g V (MacAt.below hmac hV)
   rw[hge] at h
   exact h
  ·have h:=rcheck_all t V
   rw[ht,(ck_at ht).1] at h
   exact h
 obtain ⟨MA,hMA⟩:∃MA,MA=mac x y z s.g.rf s.g.pl:=⟨_,rfl⟩
 have HMZ:Hid (MA.size=55):=by rw[Hid,hMA];exact mac_size _ _ _ _ _
 rw[←hMA] at r4 HWR
 rw[hk] at c0
 generalize Om.wr (maOf s.g) (maOf s.g).st t.data.toList=RS at *
 clear hMA hs hk ht M XW YN ZN hCS q1 hb1 c1 c2 c3 hge hls hsz
 go_enter Tryz.func43,Tryz.ntmps43
 go_upto_region 1 with fail
 rw[←hW]
 clear hW
 go_upto_region 37 with fail
 go_wp2_with (first | refine wpList_load_arr rfl 29 _ rfl w.heap.size 4 rfl MA _ r4 Tryz.underlying29 rfl (by rw[HMZ.out];exact v_info_mac) ?_)
 refine Calls.mono HWR.out ?_
 rintro e V2 ⟨rfl,hb2⟩
 have hb02:=HB.out.trans (hb2.mono HB.out.size)
 obtain ⟨X2,hX2⟩:∃X2,X2=V2.alloc (.cells #[.int .i64 0,.int .i64 0] 35):=⟨_,rfl⟩
 have HBX2:Hid (Below w.heap.size w X2):=by rw[Hid,hX2];exact hb02.alloc hb02.size _
 have k2:X2.cell? ⟨V2.heap.size,0,none⟩=some (.int .i64 0):=by rw[hX2];exact RowAt.cell (RowAt.new V2 _ _) (i:=0) rfl
 clear hb2 hb02 HWR r4
 go_upto_region 38 with fail
 rw[←hX2]
 clear hX2
 go_quiet (fail)
 go_wp2
 go_ret2
 exact ⟨rfl,HBX2.out.os,HBX2.out.tape,HBX2.out.output,HBX2.out.size,HBX2.out.block⟩
set_option maxRecDepth 100000 in
set_option maxHeartbeats 4000000 in
theorem rone_rot_b (v:Value) (s:Sp) (t:ByteArray) (w:World) (hv:SqAt w v s) (hs:stE s=0) (hk:s.k=6) (ht:ckE t.data.toList=0):Calls Tryz.prog 43 #[v,.string t,.bool true] w fun e w'=>e=.returned (.tuple #[.string ⟨(Om.wr (maOf s.g) (maOf s.g).st t.data.toList).toArray⟩,.int .i64 0])∧Below w.heap.size w w':=by
 have hge:=st_rotor hs hk
 have hls:=ls_ck ht
 have hsz:=Pl.size_len t
 obtain ⟨mv,x,y,z,rfl,M,XW,YN,ZN⟩:=hv
 obtain ⟨CS,hCS⟩:∃CS,CS=spA s.k s.n s.key mv x y z s.g.rf s.g.pl:=⟨_,rfl⟩
 rw[←hCS]
 obtain ⟨W,hW⟩:∃W,W=w.alloc (.cells CS 31):=⟨_,rfl⟩
 have hb1:Below w.heap.size w W:=by rw[hW];exact (Below.refl _ w).alloc (Nat.le_refl _) _
 have q1:RowAt W w.heap.size 31 CS:=by rw[hW];exact RowAt.new w _ _
 have c0:W.cell? ⟨w.heap.size,0,none⟩=some (.int .i64 s.k):=RowAt.cell q1 (by rw[hCS];exact spA_0 _ _ _ _ _ _ _ _ _)
 have c1:W.cell? ⟨w.heap.size,1,none⟩=some (.int .i64 s.n):=RowAt.cell q1 (by rw[hCS];exact spA_1 _ _ _ _ _ _ _ _ _)
 have c2:W.cell? ⟨w.heap.size,2,none⟩=some (.string s.key):=RowAt.cell q1 (by rw[hCS];exact spA_2 _ _ _ _ _ _ _ _ _)
 have c3:W.cell? ⟨w.heap.size,3,none⟩=some mv:=RowAt.cell q1 (by rw[hCS];exact spA_3 _ _ _ _ _ _ _ _ _)
 have r4:W.rangeAt w.heap.size 4 (mac x y z s.g.rf s.g.pl).toList:=row_mid q1 4 _ (fun i u hu=>by rw[hCS,spA_mac];exact hu)
 have HB:Hid (Below w.heap.size w W):=hb1
 have HWR:Hid (Calls Tryz.prog 89 #[.agg (mac x y z s.g.rf s.g.pl),.string t] W fun e w'=>e=.returned (.tuple #[.string ⟨(Om.wr (maOf s.g) (maOf s.g).st t.data.toList).toArray⟩,.agg #[.int .i64 0,.int .i64 0]])∧Below W.heap.size W w'):=by
  obtain ⟨hM,hat⟩:=ok_maOf hge
  have hmac:MacAt W (.agg (mac x y z s.g.rf s.g.pl)) s.g:=⟨x,y,z,rfl,XW.below hb1,YN.below hb1,ZN.below hb1⟩
  refine rwt_ok (maOf s.g) hM _ t hls.1 (by omega) W (hat W _ hmac) (fun V hV=>?_) (fun V=>?_)
  ·have h:=rgw_any (.agg (mac x y z s.g.rf s.g.pl)) s.g V (MacAt.below hmac hV)
   rw[hge] at h
   exact h
  ·have h:=rcheck_all t V
   rw[ht,(ck_at ht).1] at h
   exact h
 obtain ⟨MA,hMA⟩:∃MA,MA=mac x y z s.g.rf s.g.pl:=⟨_,rfl⟩
 have HMZ:Hid (MA.size=55):=by rw[Hid,hMA];exact mac_size _ _ _ _ _
 rw[←hMA] at r4 HWR
 rw[hk] at c0
 generalize Om.wr (maOf s.g) (maOf s.g).st t.data.toList=RS at *
 clear hMA hs hk ht M XW YN ZN hCS q1 hb1 c1 c2 c3 hge hls hsz
 go_enter Tryz.func43,Tryz.ntmps43
 go_upto_region 1 with fail
 rw[←hW]
 clear hW
 go_upto_region 37 with fail
 go_wp2_with (first | refine wpList_load_arr rfl 29 _ rfl w.heap.size 4 rfl MA _ r4 Tryz.underlying29 rfl (by rw[HMZ.out];exact v_info_mac) ?_)
 refine Calls.mono HWR.out ?_
 rintro e V2 ⟨rfl,hb2⟩
 have hb02:=HB.out.trans (hb2.mono HB.out.size)
 obtain ⟨X2,hX2⟩:∃X2,X2=V2.alloc (.cells #[.int .i64 0,.int .i64 0] 35):=⟨_,rfl⟩
 have HBX2:Hid (Below w.heap.size w X2):=by rw[Hid,hX2];exact hb02.alloc hb02.size _
 have k2:X2.cell? ⟨V2.heap.size,0,none⟩=some (.int .i64 0):=by rw[hX2];exact RowAt.cell (RowAt.new V2 _ _) (i:=0) rfl
 clear hb2 hb02 HWR r4
 go_upto_region 38 with fail
 rw[←hX2]
 clear hX2
 go_quiet (fail)
 go_wp2
 go_ret2
 exact ⟨rfl,HBX2.out.os,HBX2.out.tape,HBX2.out.output,HBX2.out.size,HBX2.out.block⟩
end Go.Proofs.YtkohhdkkbaifoaaGreatDoor
