/-
  Several texts, joined: RuE, HRef2.
-/
import Derived.Test.YtkohhdkkbaifoaaGreatDoorJn32
import Derived.Test.YtkohhdkkbaifoaaGreatDoorJn23
/-
  The document's One: rails and columns.
-/
namespace Go.Proofs.YtkohhdkkbaifoaaGreatDoor
open Go.RowKit PK Vg Sm

theorem fit17 {s:Sp} {t:List UInt8} (h:OrdP s t.length (ordF s t.length)) (ht:ckE t=0):fitE t.length (ordF s t.length) t=0:=by
 unfold fitE
 rw[(ordE_zero _ _).2 (ord_good h.1 (ls_ck ht).2),if_neg (fun h=>h rfl),ht,if_neg (fun h=>h rfl),if_neg (fun h=>h rfl)]
theorem rail17 {s:Sp} (hs:stE s=0) (hk:s.k=3) {n:Nat} (hn:n≤65536) (h:OrdP s n (ordF s n)) (W:World):Calls Tryz.prog 83 #[.int .i64 (n:Nat),.int .i64 s.n] W fun e w'=>∃v,e=.returned (.tuple #[v,.int .i64 0])∧NumsAt w' v n (ordF s n)∧Below W.heap.size W w':=by
 obtain ⟨h1,h64⟩:=st_rail hs hk
 obtain ⟨ho,⟨_,hsr⟩ | ⟨h4,_⟩⟩:=h
 ·obtain ⟨hl,hg⟩:=rail_list (R:=s.n.toNat) (by omega) ho hsr
  have:=rrail_ok n s.n.toNat hn (by omega) (by omega) W
  rw[show ((s.n.toNat:Nat):Int)=s.n by omega] at this
  refine this.mono fun e w'=>?_
  rintro ⟨v,B,he,hown,hb⟩
  have hnm:=hown.nums
  rw[hl] at hnm
  exact ⟨v,he,hnm.congr fun c hc=>(hg c hc).symm,hb⟩
 ·omega
theorem col17 {s:Sp} (hs:stE s=0) (hk:s.k=4) {n:Nat} (hn:n≤65536) (h:OrdP s n (ordF s n)) (W:World):Calls Tryz.prog 84 #[.int .i64 (n:Nat),.string s.key] W fun e w'=>∃v,e=.returned (.tuple #[v,.int .i64 0])∧NumsAt w' v n (ordF s n)∧Below W.heap.size W w':=by
 obtain ⟨h3,h4,h5⟩:=st_col hs hk
 obtain ⟨ho,⟨h3',_⟩ | ⟨_,t,htu,hsr⟩⟩:=h
 ·omega
 ·have hl:=(Pl.size_len s.key)
  have hc:=ck_at h3
  obtain ⟨hll,hg⟩:=col_list (n:=n) (L:=s.key.size) (by omega) (by omega) hl.symm hc.2.2 htu ho hsr
  refine (rcol_ok n s.key hn h3 hc.1 hc.2.2 (by omega) (by omega) W).mono fun e w'=>?_
  rintro ⟨v,B,he,hown,hb⟩
  have hnm:=hown.nums
  rw[hll] at hnm
  exact ⟨v,he,hnm.congr fun c hc=>(hg c hc).symm,hb⟩
theorem rail_any17 (n:Nat) (R:Int) (hn:n≤65536) (W:World):Calls Tryz.prog 83 #[.int .i64 (n:Nat),.int .i64 R] W fun e w'=>∃a k c E,e=.returned (.tuple #[.slice a k c,.int .i64 E])∧Below W.heap.size W w':=by
 by_cases h:(0≤(n:Int)∧(n:Int)≤65536)∧1≤R∧R≤64
 ·obtain ⟨_,h1,h2⟩:=h
  have:=rrail_ok n R.toNat hn (by omega) (by omega) W
  rw[show ((R.toNat:Nat):Int)=R by omega] at this
  refine this.mono fun e w'=>?_
  rintro ⟨v,B,he,hown,hb⟩
  obtain ⟨a,c,rfl⟩:=hown.form
  exact ⟨a,_,c,0,he,hb⟩
 ·refine (rrail_bad n R h W).mono fun e w'=>?_
  rintro ⟨he,hb⟩
  exact ⟨none,0,0,3,he,hb⟩
set_option maxRecDepth 100000 in
set_option maxHeartbeats 4000000 in
theorem rone_rail_f (v:Value) (s:Sp) (t:ByteArray) (w:World) (hv:SqAt w v s) (hs:stE s=0) (hk:s.k=3) (ht:ckE t.data.toList=0):Calls Tryz.prog 43 #[v,.string t,.bool false] w fun e w'=>e=.returned (.tuple #[.string ⟨(putL t.data.toList.length (ordF s t.data.toList.length) t.data.toList).toArray⟩,.int .i64 0])∧Below w.heap.size w w':=by
 have hsz:=Pl.size_len t
 obtain ⟨hls,hle⟩:=ls_ck ht
 have hP:OrdP s t.data.toList.length (ordF s t.data.toList.length):=by
  obtain ⟨_,_,x,d,_,_,hP,_⟩:=Calls_ex (ord_any v s t.data.toList.length w hv hs (by omega) hle)
  exact (ordF_of hP).1
 have hfit:=fit17 hP ht
 have HPU:Hid (∀W v,NumsAt W v t.size (ordF s t.data.toList.length)→Calls Tryz.prog 86 #[v,.string t] W fun e w'=>e=.returned (.tuple #[.string ⟨(putL t.data.toList.length (ordF s t.data.toList.length) t.data.toList).toArray⟩,.int .i64 0])∧Below W.heap.size W w'):=fun W v h=>by
  rw[hsz] at h
  have:=rwrite_anyY2 v t.data.toList.length (ordF s t.data.toList.length) t W h
  rw[hfit,if_pos rfl] at this
  exact this
 have HRL:Hid (∀W,Calls Tryz.prog 83 #[.int .i64 (t.size:Nat),.int .i64 s.n] W fun e w'=>∃v,e=.returned (.tuple #[v,.int .i64 0])∧NumsAt w' v t.size (ordF s t.data.toList.length)∧Below W.heap.size W w'):=fun W=>by rw[hsz];exact rail17 hs hk hle hP W
 obtain ⟨mv,x,y,z,rfl,M,XW,YN,ZN⟩:=hv
 obtain ⟨CS,hCS⟩:∃CS,CS=spA s.k s.n s.key mv x y z s.g.rf s.g.pl:=⟨_,rfl⟩
 rw[←hCS]
 obtain ⟨W,hW⟩:∃W,W=w.alloc (.cells CS 31):=⟨_,rfl⟩
 have hb1:Below w.heap.size w W:=by rw[hW];exact (Below.refl _ w).alloc (Nat.le_refl _) _
 have q1:RowAt W w.heap.size 31 CS:=by rw[hW];exact RowAt.new w _ _
 have c0:W.cell? ⟨w.heap.size,0,none⟩=some (.int .i64 s.k):=RowAt.cell q1 (by rw[hCS];exact spA_0 _ _ _ _ _ _ _ _ _)
 have c1:W.cell? ⟨w.heap.size,1,none⟩=some (.int .i64 s.n):=RowAt.cell q1 (by rw[hCS];exact spA_1 _ _ _ _ _ _ _ _ _)
 have c2:W.cell? ⟨w.heap.size,2,none⟩=some (.string s.key):=RowAt.cell q1 (by rw[hCS];exact spA_2 _ _ _ _ _ _ _ _ _)
 have c3:W.cell? ⟨w.heap.size,3,none⟩=some mv:=RowAt.cell q1 (by rw[hCS];exact spA_3 _ _ _ _ _ _ _ _ _)
 have r4:W.rangeAt w.heap.size 4 (mac x y z s.g.rf s.g.pl).toList:=row_mid q1 4 _ (fun i u hu=>by rw[hCS,spA_mac];exact hu)
 have HB:Hid (Below w.heap.size w W):=hb1
 rw[hk] at c0
 have HC:Hid (W.cell? ⟨w.heap.size,0,none⟩=some (.int .i64 3)∧W.cell? ⟨w.heap.size,2,none⟩=some (.string s.key)∧w.heap.size<W.heap.size):=⟨c0,c2,RowAt.lt q1⟩
 have HT1:Hid _:=HRL.out W
 generalize putL t.data.toList.length (ordF s t.data.toList.length) t.data.toList=RS at *
 generalize ordF s t.data.toList.length=OF at *
 generalize s.n=n at *
 generalize s.key=key at *
 clear hs hk ht M XW YN ZN hCS q1 hb1 c3 r4 HRL hsz hls hle hP hfit
 go_enter Tryz.func43,Tryz.ntmps43
 go_upto_region 1 with fail
 rw[←hW]
 clear hW
 go_wp2_with fail
 refine Calls.mono HT1.out ?_
 rintro e V1 ⟨u1,rfl,hnm,hb1⟩
 obtain ⟨a1,cp1,rfl,-⟩:=id hnm
 have hb01:=HB.out.trans (hb1.mono HB.out.size)
 have d0:V1.cell? ⟨w.heap.size,0,none⟩=some (.int .i64 3):=(hb1.cell HC.out.2.2).trans HC.out.1
 have HB1:Hid (Below w.heap.size w V1):=hb01
 have HPP:Hid _:=HPU.out V1 _ hnm
 clear hnm hb1 hb01 HT1 c0 c1 c2 HPU
 go_wp2_with fail
 refine Calls.mono HPP.out ?_
 rintro e V2 ⟨rfl,hb2⟩
 have HB2:Hid (Below w.heap.size w V2):=HB1.out.trans (hb2.mono HB1.out.size)
 clear hb2 HPP
 go_wp2
 go_ret2
 exact ⟨rfl,HB2.out⟩
set_option maxRecDepth 100000 in
set_option maxHeartbeats 4000000 in
theorem rone_rail_b (v:Value) (s:Sp) (t:ByteArray) (w:World) (hv:SqAt w v s) (hs:stE s=0) (hk:s.k=3) (ht:ckE t.data.toList=0):Calls Tryz.prog 43 #[v,.string t,.bool true] w fun e w'=>e=.returned (.tuple #[.string ⟨(putL t.data.toList.length (backF (ordF s t.data.toList.length) t.data.toList.length) t.data.toList).toArray⟩,.int .i64 0])∧Below w.heap.size w w':=by
 have hsz:=Pl.size_len t
 obtain ⟨hls,hle⟩:=ls_ck ht
 have hP:OrdP s t.data.toList.length (ordF s t.data.toList.length):=by
  obtain ⟨_,_,x,d,_,_,hP,_⟩:=Calls_ex (ord_any v s t.data.toList.length w hv hs (by omega) hle)
  exact (ordF_of hP).1
 have hfit:=fit17 hP ht
 have HPU:Hid (∀W v,NumsAt W v t.size (ordF s t.data.toList.length)→Calls Tryz.prog 85 #[v,.string t] W fun e w'=>e=.returned (.tuple #[.string ⟨(putL t.data.toList.length (backF (ordF s t.data.toList.length) t.data.toList.length) t.data.toList).toArray⟩,.int .i64 0])∧Below W.heap.size W w'):=fun W v h=>by
  rw[hsz] at h
  have:=rread_any v t.data.toList.length (ordF s t.data.toList.length) t W h
  rw[hfit,if_pos rfl] at this
  exact this
 have HRL:Hid (∀W,Calls Tryz.prog 83 #[.int .i64 (t.size:Nat),.int .i64 s.n] W fun e w'=>∃v,e=.returned (.tuple #[v,.int .i64 0])∧NumsAt w' v t.size (ordF s t.data.toList.length)∧Below W.heap.size W w'):=fun W=>by rw[hsz];exact rail17 hs hk hle hP W
 obtain ⟨mv,x,y,z,rfl,M,XW,YN,ZN⟩:=hv
 obtain ⟨CS,hCS⟩:∃CS,CS=spA s.k s.n s.key mv x y z s.g.rf s.g.pl:=⟨_,rfl⟩
 rw[←hCS]
 obtain ⟨W,hW⟩:∃W,W=w.alloc (.cells CS 31):=⟨_,rfl⟩
 have hb1:Below w.heap.size w W:=by rw[hW];exact (Below.refl _ w).alloc (Nat.le_refl _) _
 have q1:RowAt W w.heap.size 31 CS:=by rw[hW];exact RowAt.new w _ _
 have c0:W.cell? ⟨w.heap.size,0,none⟩=some (.int .i64 s.k):=RowAt.cell q1 (by rw[hCS];exact spA_0 _ _ _ _ _ _ _ _ _)
 have c1:W.cell? ⟨w.heap.size,1,none⟩=some (.int .i64 s.n):=RowAt.cell q1 (by rw[hCS];exact spA_1 _ _ _ _ _ _ _ _ _)
 have c2:W.cell? ⟨w.heap.size,2,none⟩=some (.string s.key):=RowAt.cell q1 (by rw[hCS];exact spA_2 _ _ _ _ _ _ _ _ _)
 have c3:W.cell? ⟨w.heap.size,3,none⟩=some mv:=RowAt.cell q1 (by rw[hCS];exact spA_3 _ _ _ _ _ _ _ _ _)
 have r4:W.rangeAt w.heap.size 4 (mac x y z s.g.rf s.g.pl).toList:=row_mid q1 4 _ (fun i u hu=>by rw[hCS,spA_mac];exact hu)
 have HB:Hid (Below w.heap.size w W):=hb1
 rw[hk] at c0
 have HC:Hid (W.cell? ⟨w.heap.size,0,none⟩=some (.int .i64 3)∧W.cell? ⟨w.heap.size,2,none⟩=some (.string s.key)∧w.heap.size<W.heap.size):=⟨c0,c2,RowAt.lt q1⟩
 have HT1:Hid _:=HRL.out W
 generalize putL t.data.toList.length (backF (ordF s t.data.toList.length) t.data.toList.length) t.data.toList=RS at *
 generalize ordF s t.data.toList.length=OF at *
 generalize s.n=n at *
 generalize s.key=key at *
 clear hs hk ht M XW YN ZN hCS q1 hb1 c3 r4 HRL hsz hls hle hP hfit
 go_enter Tryz.func43,Tryz.ntmps43
 go_upto_region 1 with fail
 rw[←hW]
 clear hW
 go_wp2_with fail
 refine Calls.mono HT1.out ?_
 rintro e V1 ⟨u1,rfl,hnm,hb1⟩
 obtain ⟨a1,cp1,rfl,-⟩:=id hnm
 have hb01:=HB.out.trans (hb1.mono HB.out.size)
 have d0:V1.cell? ⟨w.heap.size,0,none⟩=some (.int .i64 3):=(hb1.cell HC.out.2.2).trans HC.out.1
 have HB1:Hid (Below w.heap.size w V1):=hb01
 have HPP:Hid _:=HPU.out V1 _ hnm
 clear hnm hb1 hb01 HT1 c0 c1 c2 HPU
 go_wp2_with fail
 refine Calls.mono HPP.out ?_
 rintro e V2 ⟨rfl,hb2⟩
 have HB2:Hid (Below w.heap.size w V2):=HB1.out.trans (hb2.mono HB1.out.size)
 clear hb2 HPP
 go_wp2
 go_ret2
 exact ⟨rfl,HB2.out⟩
set_option maxRecDepth 100000 in
set_option maxHeartbeats 4000000 in
theorem rone_col_f (v:Value) (s:Sp) (t:ByteArray) (w:World) (hv:SqAt w v s) (hs:stE s=0) (hk:s.k=4) (ht:ckE t.data.toList=0):Calls Tryz.prog 43 #[v,.string t,.bool false] w fun e w'=>e=.returned (.tuple #[.string ⟨(putL t.data.toList.length (ordF s t.data.toList.length) t.data.toList).toArray⟩,.int .i64 0])∧Below w.heap.size w w':=by
 have hsz:=Pl.size_len t
 obtain ⟨hls,hle⟩:=ls_ck ht
 have hP:OrdP s t.data.toList.length (ordF s t.data.toList.length):=by
  obtain ⟨_,_,x,d,_,_,hP,_⟩:=Calls_ex (ord_any v s t.data.toList.length w hv hs (by omega) hle)
  exact (ordF_of hP).1
 have hfit:=fit17 hP ht
 have HPU:Hid (∀W v,NumsAt W v t.size (ordF s t.data.toList.length)→Calls Tryz.prog 86 #[v,.string t] W fun e w'=>e=.returned (.tuple #[.string ⟨(putL t.data.toList.length (ordF s t.data.toList.length) t.data.toList).toArray⟩,.int .i64 0])∧Below W.heap.size W w'):=fun W v h=>by
  rw[hsz] at h
  have:=rwrite_anyY2 v t.data.toList.length (ordF s t.data.toList.length) t W h
  rw[hfit,if_pos rfl] at this
  exact this
 have HRL:Hid (∀W,Calls Tryz.prog 83 #[.int .i64 (t.size:Nat),.int .i64 s.n] W fun e w'=>∃a k c E,e=.returned (.tuple #[.slice a k c,.int .i64 E])∧Below W.heap.size W w'):=fun W=>rail_any17 t.size s.n (by omega) W
 have HCL:Hid (∀W,Calls Tryz.prog 84 #[.int .i64 (t.size:Nat),.string s.key] W fun e w'=>∃v,e=.returned (.tuple #[v,.int .i64 0])∧NumsAt w' v t.size (ordF s t.data.toList.length)∧Below W.heap.size W w'):=fun W=>by rw[hsz];exact col17 hs hk hle hP W
 obtain ⟨mv,x,y,z,rfl,M,XW,YN,ZN⟩:=hv
 obtain ⟨CS,hCS⟩:∃CS,CS=spA s.k s.n s.key mv x y z s.g.rf s.g.pl:=⟨_,rfl⟩
 rw[←hCS]
 obtain ⟨W,hW⟩:∃W,W=w.alloc (.cells CS 31):=⟨_,rfl⟩
 have hb1:Below w.heap.size w W:=by rw[hW];exact (Below.refl _ w).alloc (Nat.le_refl _) _
 have q1:RowAt W w.heap.size 31 CS:=by rw[hW];exact RowAt.new w _ _
 have c0:W.cell? ⟨w.heap.size,0,none⟩=some (.int .i64 s.k):=RowAt.cell q1 (by rw[hCS];exact spA_0 _ _ _ _ _ _ _ _ _)
 have c1:W.cell? ⟨w.heap.size,1,none⟩=some (.int .i64 s.n):=RowAt.cell q1 (by rw[hCS];exact spA_1 _ _ _ _ _ _ _ _ _)
 have c2:W.cell? ⟨w.heap.size,2,none⟩=some (.string s.key):=RowAt.cell q1 (by rw[hCS];exact spA_2 _ _ _ _ _ _ _ _ _)
 have c3:W.cell? ⟨w.heap.size,3,none⟩=some mv:=RowAt.cell q1 (by rw[hCS];exact spA_3 _ _ _ _ _ _ _ _ _)
 have r4:W.rangeAt w.heap.size 4 (mac x y z s.g.rf s.g.pl).toList:=row_mid q1 4 _ (fun i u hu=>by rw[hCS,spA_mac];exact hu)
 have HB:Hid (Below w.heap.size w W):=hb1
 rw[hk] at c0
 have HC:Hid (W.cell? ⟨w.heap.size,0,none⟩=some (.int .i64 4)∧W.cell? ⟨w.heap.size,2,none⟩=some (.string s.key)∧w.heap.size<W.heap.size):=⟨c0,c2,RowAt.lt q1⟩
 have HT1:Hid _:=HRL.out W
 generalize putL t.data.toList.length (ordF s t.data.toList.length) t.data.toList=RS at *
 generalize ordF s t.data.toList.length=OF at *
 generalize s.n=n at *
 generalize s.key=key at *
 clear hs hk ht M XW YN ZN hCS q1 hb1 c3 r4 HRL hsz hls hle hP hfit
 go_enter Tryz.func43,Tryz.ntmps43
 go_upto_region 1 with fail
 rw[←hW]
 clear hW
 go_wp2_with fail
 refine Calls.mono HT1.out ?_
 rintro e V0 ⟨a0,k0,cp0,E0,rfl,hb0⟩
 have hb00:=HB.out.trans (hb0.mono HB.out.size)
 have d0:V0.cell? ⟨w.heap.size,0,none⟩=some (.int .i64 4):=(hb0.cell HC.out.2.2).trans HC.out.1
 have d2:V0.cell? ⟨w.heap.size,2,none⟩=some (.string key):=(hb0.cell HC.out.2.2).trans HC.out.2.1
 have HB0:Hid (Below w.heap.size w V0):=hb00
 have HT2:Hid _:=HCL.out V0
 clear hb0 hb00 HT1 c0 c1 c2 HCL
 go_wp2_with fail
 refine Calls.mono HT2.out ?_
 rintro e V1 ⟨u1,rfl,hnm,hb1⟩
 obtain ⟨a1,cp1,rfl,-⟩:=id hnm
 have HB1:Hid (Below w.heap.size w V1):=HB0.out.trans (hb1.mono HB0.out.size)
 have HPP:Hid _:=HPU.out V1 _ hnm
 clear hnm hb1 HT2 HPU d0 d2
 go_wp2_with fail
 refine Calls.mono HPP.out ?_
 rintro e V2 ⟨rfl,hb2⟩
 have HB2:Hid (Below w.heap.size w V2):=HB1.out.trans (hb2.mono HB1.out.size)
 clear hb2 HPP
 go_wp2
 go_ret2
 exact ⟨rfl,HB2.out⟩
set_option maxRecDepth 100000 in
set_option maxHeartbeats 4000000 in
theorem rone_col_b (v:Value) (s:Sp) (t:ByteArray) (w:World) (hv:SqAt w v s) (hs:stE s=0) (hk:s.k=4) (ht:ckE t.data.toList=0):Calls Tryz.prog 43 #[v,.string t,.bool true] w fun e w'=>e=.returned (.tuple #[.string ⟨(putL t.data.toList.length (backF (ordF s t.data.toList.length) t.data.toList.length) t.data.toList).toArray⟩,.int .i64 0])∧Below w.heap.size w w':=by
 have hsz:=Pl.size_len t
 obtain ⟨hls,hle⟩:=ls_ck ht
 have hP:OrdP s t.data.toList.length (ordF s t.data.toList.length):=by
  obtain ⟨_,_,x,d,_,_,hP,_⟩:=Calls_ex (ord_any v s t.data.toList.length w hv hs (by omega) hle)
  exact (ordF_of hP).1
 have hfit:=fit17 hP ht
 have HPU:Hid (∀W v,NumsAt W v t.size (ordF s t.data.toList.length)→Calls Tryz.prog 85 #[v,.string t] W fun e w'=>e=.returned (.tuple #[.string ⟨(putL t.data.toList.length (backF (ordF s t.data.toList.length) t.data.toList.length) t.data.toList).toArray⟩,.int .i64 0])∧Below W.heap.size W w'):=fun W v h=>by
  rw[hsz] at h
  have:=rread_any v t.data.toList.length (ordF s t.data.toList.length) t W h
  rw[hfit,if_pos rfl] at this
  exact this
 have HRL:Hid (∀W,Calls Tryz.prog 83 #[.int .i64 (t.size:Nat),.int .i64 s.n] W fun e w'=>∃a k c E,e=.returned (.tuple #[.slice a k c,.int .i64 E])∧Below W.heap.size W w'):=fun W=>rail_any17 t.size s.n (by omega) W
 have HCL:Hid (∀W,Calls Tryz.prog 84 #[.int .i64 (t.size:Nat),.string s.key] W fun e w'=>∃v,e=.returned (.tuple #[v,.int .i64 0])∧NumsAt w' v t.size (ordF s t.data.toList.length)∧Below W.heap.size W w'):=fun W=>by rw[hsz];exact col17 hs hk hle hP W
 obtain ⟨mv,x,y,z,rfl,M,XW,YN,ZN⟩:=hv
 obtain ⟨CS,hCS⟩:∃CS,CS=spA s.k s.n s.key mv x y z s.g.rf s.g.pl:=⟨_,rfl⟩
 rw[←hCS]
 obtain ⟨W,hW⟩:∃W,W=w.alloc (.cells CS 31):=⟨_,rfl⟩
 have hb1:Below w.heap.size w W:=by rw[hW];exact (Below.refl _ w).alloc (Nat.le_refl _) _
 have q1:RowAt W w.heap.size 31 CS:=by rw[hW];exact RowAt.new w _ _
 have c0:W.cell? ⟨w.heap.size,0,none⟩=some (.int .i64 s.k):=RowAt.cell q1 (by rw[hCS];exact spA_0 _ _ _ _ _ _ _ _ _)
 have c1:W.cell? ⟨w.heap.size,1,none⟩=some (.int .i64 s.n):=RowAt.cell q1 (by rw[hCS];exact spA_1 _ _ _ _ _ _ _ _ _)
 have c2:W.cell? ⟨w.heap.size,2,none⟩=some (.string s.key):=RowAt.cell q1 (by rw[hCS];exact spA_2 _ _ _ _ _ _ _ _ _)
 have c3:W.cell? ⟨w.heap.size,3,none⟩=some mv:=RowAt.cell q1 (by rw[hCS];exact spA_3 _ _ _ _ _ _ _ _ _)
 have r4:W.rangeAt w.heap.size 4 (mac x y z s.g.rf s.g.pl).toList:=row_mid q1 4 _ (fun i u hu=>by rw[hCS,spA_mac];exact hu)
 have HB:Hid (Below w.heap.size w W):=hb1
 rw[hk] at c0
 have HC:Hid (W.cell? ⟨w.heap.size,0,none⟩=some (.int .i64 4)∧W.cell? ⟨w.heap.size,2,none⟩=some (.string s.key)∧w.heap.size<W.heap.size):=⟨c0,c2,RowAt.lt q1⟩
 have HT1:Hid _:=HRL.out W
 generalize putL t.data.toList.length (backF (ordF s t.data.toList.length) t.data.toList.length) t.data.toList=RS at *
 generalize ordF s t.data.toList.length=OF at *
 generalize s.n=n at *
 generalize s.key=key at *
 clear hs hk ht M XW YN ZN hCS q1 hb1 c3 r4 HRL hsz hls hle hP hfit
 go_enter Tryz.func43,Tryz.ntmps43
 go_upto_region 1 with fail
 rw[←hW]
 clear hW
 go_wp2_with fail
 refine Calls.mono HT1.out ?_
 rintro e V0 ⟨a0,k0,cp0,E0,rfl,hb0⟩
 have hb00:=HB.out.trans (hb0.mono HB.out.size)
 have d0:V0.cell? ⟨w.heap.size,0,none⟩=some (.int .i64 4):=(hb0.cell HC.out.2.2).trans HC.out.1
 have d2:V0.cell? ⟨w.heap.size,2,none⟩=some (.string key):=(hb0.cell HC.out.2.2).trans HC.out.2.1
 have HB0:Hid (Below w.heap.size w V0):=hb00
 have HT2:Hid _:=HCL.out V0
 clear hb0 hb00 HT1 c0 c1 c2 HCL
 go_wp2_with fail
 refine Calls.mono HT2.out ?_
 rintro e V1 ⟨u1,rfl,hnm,hb1⟩
 obtain ⟨a1,cp1,rfl,-⟩:=id hnm
 have HB1:Hid (Below w.heap.size w V1):=HB0.out.trans (hb1.mono HB0.out.size)
 have HPP:Hid _:=HPU.out V1 _ hnm
 clear hnm hb1 HT2 HPU d0 d2
 go_wp2_with fail
 refine Calls.mono HPP.out ?_
 rintro e V2 ⟨rfl,hb2⟩
 have HB2:Hid (Below w.heap.size w V2):=HB1.out.trans (hb2.mono HB1.out.size)
 clear hb2 HPP
 go_wp2
 go_ret2
 exact ⟨rfl,HB2.out⟩
end Go.Proofs.YtkohhdkkbaifoaaGreatDoor

/-
  Contracts of the document's Times and Product (chapter 3).
-/
namespace Go.Proofs.YtkohhdkkbaifoaaGreatDoor
open Go.RowKit PK

theorem sq_cells {w:World} {v:Value} {n:Nat} {Z:Nat→Nat→Int} (hn:0<n) (h:MatAt w v n (fun _=>n) Z):∃b o cap,v=.slice (some ⟨b,o,none⟩) n cap ∧
  ∀r,r<n→∃x y c,w.cell? ⟨b,o+r,none⟩=some (.slice (some ⟨x,y,none⟩) n c)∧∀k,k<n→w.cell? ⟨x,y+k,none⟩=some (.int .i64 (Z r k)):=by
 obtain ⟨b,o,cap,R,e,_,hc,hr⟩:=h.form hn
 refine ⟨b,o,cap,e,fun r hr0=>?_⟩
 obtain ⟨x,y,c,e2,_,hk⟩:=(hr r hr0).form hn
 exact ⟨x,y,c,by rw[←e2];exact hc r hr0,hk⟩
def rowsL (n:Nat) (F:Nat→Nat→Int) (y:Nat):List (List Int):=(List.range y).map fun r=>(List.range n).map (F r)
theorem rowsL_length (n:Nat) (F:Nat→Nat→Int) (y:Nat):(rowsL n F y).length=y:=by simp[rowsL]
theorem rowsL_step (n:Nat) (F:Nat→Nat→Int) (y:Nat):rowsL n F (y+1)=rowsL n F y++[(List.range n).map (F y)]:=by unfold rowsL;rw[List.range_succ,List.map_append];rfl
end Go.Proofs.YtkohhdkkbaifoaaGreatDoor
