/-
  Several texts, joined: RuC, XCell, XLook.
-/
import Derived.Test.YtkohhdkkbaifoaaGreatDoorJn27
import Derived.Test.YtkohhdkkbaifoaaGreatDoorJn19
import Derived.Test.YtkohhdkkbaifoaaGreatDoorJn17
import Derived.Test.YtkohhdkkbaifoaaGreatDoorJn6
import Derived.RegionTactic
/-
  The document's One: a step that moves.
-/
namespace Go.Proofs.YtkohhdkkbaifoaaGreatDoor
open Go.RowKit PK Vg

theorem mvL_take {b:Nat} {l:List UInt8} {k:Nat} (h:k<l.length):(mvL b l).take (k+1)=(mvL b l).take k++[mvC b (l.getD k 0)]:=by
 unfold mvL
 rw[List.take_add_one,List.getElem?_map,List.getElem?_eq_getElem h,List.getD_eq_getElem?_getD,List.getElem?_eq_getElem h]
 rfl
structure MvI (w W:World) (gb:Nat) (t:ByteArray) (v:Value) (l:List UInt8):Prop where
 below:Below w.heap.size w W
 gb1:w.heap.size≤gb
 gb2:gb<W.heap.size
 cells:∀j (hj:j<t.size),W.cell? ⟨gb,j,none⟩=some (.int .u8 t[j].toNat)
 own:Kit.Owns W (gb+1) 5 v l
set_option maxRecDepth 100000 in
set_option maxHeartbeats 4000000 in
theorem rone_mv_f (v:Value) (s:Sp) (t:ByteArray) (w:World) (hv:SqAt w v s) (hs:stE s=0) (hk:s.k=1) (ht:ckE t.data.toList=0):Calls Tryz.prog 43 #[v,.string t,.bool false] w fun e w'=>e=.returned (.tuple #[.string ⟨(mvL s.n.toNat t.data.toList).toArray⟩,.int .i64 0])∧Below w.heap.size w w':=by
 obtain ⟨hn0,hn25⟩:=st_move hs hk
 obtain ⟨hls,hle⟩:=ls_ck ht
 have hle2:t.size≤65536:=by rw[Pl.size_len];exact hle
 obtain ⟨mv,x,y,z,rfl,M,XW,YN,ZN⟩:=hv
 obtain ⟨CS,hCS⟩:∃CS,CS=spA s.k s.n s.key mv x y z s.g.rf s.g.pl:=⟨_,rfl⟩
 rw[←hCS]
 obtain ⟨W,hW⟩:∃W,W=w.alloc (.cells CS 31):=⟨_,rfl⟩
 have hb1:Below w.heap.size w W:=by rw[hW];exact (Below.refl _ w).alloc (Nat.le_refl _) _
 have q1:RowAt W w.heap.size 31 CS:=by rw[hW];exact RowAt.new w _ _
 have c0:W.cell? ⟨w.heap.size,0,none⟩=some (.int .i64 s.k):=RowAt.cell q1 (by rw[hCS];exact spA_0 _ _ _ _ _ _ _ _ _)
 have c1:W.cell? ⟨w.heap.size,1,none⟩=some (.int .i64 s.n):=RowAt.cell q1 (by rw[hCS];exact spA_1 _ _ _ _ _ _ _ _ _)
 have c2:W.cell? ⟨w.heap.size,2,none⟩=some (.string s.key):=RowAt.cell q1 (by rw[hCS];exact spA_2 _ _ _ _ _ _ _ _ _)
 have c3:W.cell? ⟨w.heap.size,3,none⟩=some mv:=RowAt.cell q1 (by rw[hCS];exact spA_3 _ _ _ _ _ _ _ _ _)
 have r4:W.rangeAt w.heap.size 4 (mac x y z s.g.rf s.g.pl).toList:=row_mid q1 4 _ (fun i u hu=>by rw[hCS,spA_mac];exact hu)
 have HB:Hid (Below w.heap.size w W):=hb1
 obtain ⟨N,hN⟩:∃N,N=s.n.toNat:=⟨_,rfl⟩
 obtain ⟨n,hn⟩:∃n:Nat,n=s.n.toNat:=⟨_,rfl⟩
 have hNI:(N:Int)=(n:Int):=by omega
 have hn26:n≤25:=by omega
 have hN26:N≤26:=by omega
 rw[←hN]
 have hni:s.n=(n:Int):=by omega
 rw[hni] at c1
 rw[hk] at c0
 have hcv:=fun w=>Lib.run_convert_string_bytes (P:=Tryz.prog) w 9 87 5 t Tryz.underlying9 Tryz.underlying87 Tryz.underlying5
 obtain ⟨i0,hi0,hz0,hz1,hz2⟩:=x_info_parts v_info_byte
 have HL:Hid (∀m,(h:m<t.size)→65≤t[m].toNat∧t[m].toNat≤90):=fun m h=>at_let t (lets_ls hls) m h
 have HLL:Hid (∀k,((mvL N t.data.toList).take k).length≤65536):=fun k=>by
  rw[List.length_take,show (mvL N t.data.toList).length=t.data.toList.length from List.length_map _,←Pl.size_len];omega
 have HSZ:Hid (t.data.toList.length=t.size):=(Pl.size_len t).symm
 have hbB:Below W.heap.size W (Lib.bytesWorld W 5 t):=below_bytes W (Nat.le_refl _) 5 t
 have hsz:=Lib.bytesWorld_size W 5 t
 have hg0:MvI w (Lib.bytesWorld W 5 t) W.heap.size t (.slice none 0 0) ((mvL N t.data.toList).take 0):=⟨hb1.trans (hbB.mono hb1.size),hb1.size,by omega,fun k hk=>bytes_cell W 5 t k hk,Kit.Owns.nil _ _ _⟩
 have HNI:Hid ((N:Int)=(n:Int)):=hNI
 clear hN hn hni hNI hn0 hn25 hs hk ht hls hle M XW YN ZN hCS q1 hb1 c2 c3 r4 hbB hsz
 go_enter Tryz.func43,Tryz.ntmps43
 go_upto_region 1 with fail
 rw[←hW]
 clear hW
 go_wp2_with fail
 generalize Lib.bytesWorld W 5 t=V2 at *
 obtain ⟨gb,hgb⟩:∃gb,gb=W.heap.size:=⟨_,rfl⟩
 rw[←hgb] at hg0 ⊢
 clear hgb hcv c0 c1
 go_loopw [36,8] (fun i x W=>∃(k:Nat) (v8:Value),k≤t.size∧i=.int .i64 (k:Nat)∧v8=x∧MvI w W gb t v8 ((mvL N t.data.toList).take k)) (fun i _ _=>((t.size:Int)-intOf i).toNat)
 case atStart=>exact ⟨0,_,by omega,rfl,rfl,hg0⟩
 case round =>
  clear hg0
  obtain ⟨k,v8,hk,rfl,rfl,hg⟩:=hrel
  by_cases hlt:k<t.size
  ·have hlt2:(k:Int)<(t.size:Int):=by omega
   have hcell:=hg.cells k hlt
   have hxl:=HL.out k hlt
   have HTK:Hid ((mvL N t.data.toList).take (k+1)=(mvL N t.data.toList).take k++[mvC N t[k]]):=by rw[Hid,mvL_take (by rw[HSZ.out];exact hlt),getD_byte t k hlt]
   have hnum:Vg.num t[k]=t[k].toNat-65:=rfl
   have hmv:(mvC N t[k]).toNat=65+(t[k].toNat-65+N) % 26:=by unfold mvC;rw[ltr_toNat (Nat.mod_lt _ (by decide)),hnum]
   generalize mvC N t[k]=C at *
   generalize t[k].toNat=X at *
   have hzw:IntKind.u8.wrap (65+((X:Int)-65+(n:Int)) % 26)=(C.toNat:Int):=by
    rw[hmv,←HNI.out,show (65:Int)+((X:Int)-65+(N:Int)) % 26=((65+(X-65+N) % 26:Nat):Int) by omega]
    simp[IntKind.wrap,IntKind.bits,IntKind.signed]
    omega
   have HG:Hid (MvI w wr gb t v8 ((mvL N t.data.toList).take k)):=hg
   have hown:=hg.own
   have hll:=HLL.out k
   have hgb1:=hg.gb1
   have hgb2:=hg.gb2
   have hx1:65≤(X:Int):=by omega
   have hx2:(X:Int)≤90:=by omega
   have htm:((X:Int)-65+(n:Int)).tmod 26=((X:Int)-65+(n:Int)) % 26:=by rw[Int.tmod_eq_emod_of_nonneg (by omega)]
   clear hmv hnum hg hxl hlt
   go_wp2_with (first | (at_builtin;refine wpList_append_own _ rfl _ _ 87 rfl (gb+1) 5 i0 (.int .u8 0) 1 1 Tryz.underlying87 hi0 hz0 hz1 hz2 rfl (by decide) _ _ _ rfl (World.ownsRow.alloc hown _) ⟨wr.heap.size,0,none⟩ 1 1 [.int .u8 (C.toNat:Int)] rfl rfl (cell_one_new _ _ _) (fun u hu=>by simp at hu;subst hu;rfl) (by unfold maxLen;omega) (by omega) (by simp;omega) ?_;intro v5 w5 hown5 hgrow5 _;have HO5:Hid _:=hown5;have HG5:Hid _:=hgrow5;clear hown5 hgrow5))
   have HN5:Hid (MvI w w5 gb t v5 ((mvL N t.data.toList).take (k+1))):=by
    have hal:=HG.out.below.alloc HG.out.below.size (.cells #[.int .u8 (C.toNat:Int)] 5)
    have hne:∀q,q≤gb→some q≠v8.ownBlock:=fun q hq e=>by have:=(World.ownsRow.lt HG.out.own q e.symm).1;omega
    refine ⟨hal.grown HG5.out (by simp;omega) (fun q hq=>by have:=(World.ownsRow.lt HG.out.own q hq).1;omega),HG.out.gb1,?_,fun j hj=>?_,?_⟩
    ·have:=HG5.out.size
     simp at this
     omega
    ·have h1:=HG.out.cells j hj
     have h2:(wr.alloc (.cells #[.int .u8 (C.toNat:Int)] 5)).cell? ⟨gb,j,none⟩=some (.int .u8 t[j].toNat):=by rw[←h1];exact World.cell?_alloc_lt _ _ _ HG.out.gb2
     exact HG5.out.cell h2 (hne gb (Nat.le_refl _))
    ·rw[HTK.out]
     unfold Kit.Owns
     rw[←v_cells_byte,List.length_append]
     exact HO5.out
   clear hcell hzw htm hown
   go_wp2
   go_roundw
   case rel=>first | exact ⟨k+1,v5,by omega,by go_num,rfl,HN5.out⟩ | refine Hid.out ?_
   case measure=>simp[intOf];omega
  ·obtain rfl:k=t.size:=by omega
   have hnlt:¬(t.size:Int)<(t.size:Int):=by omega
   have hown:=hg.own
   rw[←HSZ.out,show t.data.toList.length=(mvL N t.data.toList).length from (List.length_map _).symm,List.take_length] at hown
   have hst:=Kit.run_string_of_own (P:=Tryz.prog) wr 87 9 5 Tryz.underlying87 Tryz.underlying5 Tryz.underlying9 hown
   have HB9:Hid (Below w.heap.size w wr):=hg.below
   clear hown hg
   go_wp2
   go_ret2
   exact ⟨rfl,HB9.out⟩
set_option maxRecDepth 100000 in
set_option maxHeartbeats 4000000 in
theorem rone_mv_b (v:Value) (s:Sp) (t:ByteArray) (w:World) (hv:SqAt w v s) (hs:stE s=0) (hk:s.k=1) (ht:ckE t.data.toList=0):Calls Tryz.prog 43 #[v,.string t,.bool true] w fun e w'=>e=.returned (.tuple #[.string ⟨(mvL (26-s.n.toNat) t.data.toList).toArray⟩,.int .i64 0])∧Below w.heap.size w w':=by
 obtain ⟨hn0,hn25⟩:=st_move hs hk
 obtain ⟨hls,hle⟩:=ls_ck ht
 have hle2:t.size≤65536:=by rw[Pl.size_len];exact hle
 obtain ⟨mv,x,y,z,rfl,M,XW,YN,ZN⟩:=hv
 obtain ⟨CS,hCS⟩:∃CS,CS=spA s.k s.n s.key mv x y z s.g.rf s.g.pl:=⟨_,rfl⟩
 rw[←hCS]
 obtain ⟨W,hW⟩:∃W,W=w.alloc (.cells CS 31):=⟨_,rfl⟩
 have hb1:Below w.heap.size w W:=by rw[hW];exact (Below.refl _ w).alloc (Nat.le_refl _) _
 have q1:RowAt W w.heap.size 31 CS:=by rw[hW];exact RowAt.new w _ _
 have c0:W.cell? ⟨w.heap.size,0,none⟩=some (.int .i64 s.k):=RowAt.cell q1 (by rw[hCS];exact spA_0 _ _ _ _ _ _ _ _ _)
 have c1:W.cell? ⟨w.heap.size,1,none⟩=some (.int .i64 s.n):=RowAt.cell q1 (by rw[hCS];exact spA_1 _ _ _ _ _ _ _ _ _)
 have c2:W.cell? ⟨w.heap.size,2,none⟩=some (.string s.key):=RowAt.cell q1 (by rw[hCS];exact spA_2 _ _ _ _ _ _ _ _ _)
 have c3:W.cell? ⟨w.heap.size,3,none⟩=some mv:=RowAt.cell q1 (by rw[hCS];exact spA_3 _ _ _ _ _ _ _ _ _)
 have r4:W.rangeAt w.heap.size 4 (mac x y z s.g.rf s.g.pl).toList:=row_mid q1 4 _ (fun i u hu=>by rw[hCS,spA_mac];exact hu)
 have HB:Hid (Below w.heap.size w W):=hb1
 obtain ⟨N,hN⟩:∃N,N=(26-s.n.toNat):=⟨_,rfl⟩
 obtain ⟨n,hn⟩:∃n:Nat,n=s.n.toNat:=⟨_,rfl⟩
 have hNI:(N:Int)=(26-(n:Int)):=by omega
 have hn26:n≤25:=by omega
 have hN26:N≤26:=by omega
 rw[←hN]
 have hni:s.n=(n:Int):=by omega
 rw[hni] at c1
 rw[hk] at c0
 have hcv:=fun w=>Lib.run_convert_string_bytes (P:=Tryz.prog) w 9 87 5 t Tryz.underlying9 Tryz.underlying87 Tryz.underlying5
 obtain ⟨i0,hi0,hz0,hz1,hz2⟩:=x_info_parts v_info_byte
 have HL:Hid (∀m,(h:m<t.size)→65≤t[m].toNat∧t[m].toNat≤90):=fun m h=>at_let t (lets_ls hls) m h
 have HLL:Hid (∀k,((mvL N t.data.toList).take k).length≤65536):=fun k=>by
  rw[List.length_take,show (mvL N t.data.toList).length=t.data.toList.length from List.length_map _,←Pl.size_len];omega
 have HSZ:Hid (t.data.toList.length=t.size):=(Pl.size_len t).symm
 have hbB:Below W.heap.size W (Lib.bytesWorld W 5 t):=below_bytes W (Nat.le_refl _) 5 t
 have hsz:=Lib.bytesWorld_size W 5 t
 have hg0:MvI w (Lib.bytesWorld W 5 t) W.heap.size t (.slice none 0 0) ((mvL N t.data.toList).take 0):=⟨hb1.trans (hbB.mono hb1.size),hb1.size,by omega,fun k hk=>bytes_cell W 5 t k hk,Kit.Owns.nil _ _ _⟩
 have HNI:Hid ((N:Int)=(26-(n:Int))):=hNI
 clear hN hn hni hNI hn0 hn25 hs hk ht hls hle M XW YN ZN hCS q1 hb1 c2 c3 r4 hbB hsz
 go_enter Tryz.func43,Tryz.ntmps43
 go_upto_region 1 with fail
 rw[←hW]
 clear hW
 go_wp2_with fail
 generalize Lib.bytesWorld W 5 t=V2 at *
 obtain ⟨gb,hgb⟩:∃gb,gb=W.heap.size:=⟨_,rfl⟩
 rw[←hgb] at hg0 ⊢
 clear hgb hcv c0 c1
 go_loopw [36,8] (fun i x W=>∃(k:Nat) (v8:Value),k≤t.size∧i=.int .i64 (k:Nat)∧v8=x∧MvI w W gb t v8 ((mvL N t.data.toList).take k)) (fun i _ _=>((t.size:Int)-intOf i).toNat)
 case atStart=>exact ⟨0,_,by omega,rfl,rfl,hg0⟩
 case round =>
  clear hg0
  obtain ⟨k,v8,hk,rfl,rfl,hg⟩:=hrel
  by_cases hlt:k<t.size
  ·have hlt2:(k:Int)<(t.size:Int):=by omega
   have hcell:=hg.cells k hlt
   have hxl:=HL.out k hlt
   have HTK:Hid ((mvL N t.data.toList).take (k+1)=(mvL N t.data.toList).take k++[mvC N t[k]]):=by rw[Hid,mvL_take (by rw[HSZ.out];exact hlt),getD_byte t k hlt]
   have hnum:Vg.num t[k]=t[k].toNat-65:=rfl
   have hmv:(mvC N t[k]).toNat=65+(t[k].toNat-65+N) % 26:=by unfold mvC;rw[ltr_toNat (Nat.mod_lt _ (by decide)),hnum]
   generalize mvC N t[k]=C at *
   generalize t[k].toNat=X at *
   have hzw:IntKind.u8.wrap (65+((X:Int)-65+(26-(n:Int))) % 26)=(C.toNat:Int):=by
    rw[hmv,←HNI.out,show (65:Int)+((X:Int)-65+(N:Int)) % 26=((65+(X-65+N) % 26:Nat):Int) by omega]
    simp[IntKind.wrap,IntKind.bits,IntKind.signed]
    omega
   have HG:Hid (MvI w wr gb t v8 ((mvL N t.data.toList).take k)):=hg
   have hown:=hg.own
   have hll:=HLL.out k
   have hgb1:=hg.gb1
   have hgb2:=hg.gb2
   have hx1:65≤(X:Int):=by omega
   have hx2:(X:Int)≤90:=by omega
   have htm:((X:Int)-65+(26-(n:Int))).tmod 26=((X:Int)-65+(26-(n:Int))) % 26:=by rw[Int.tmod_eq_emod_of_nonneg (by omega)]
   clear hmv hnum hg hxl hlt
   go_wp2_with (first | (at_builtin;refine wpList_append_own _ rfl _ _ 87 rfl (gb+1) 5 i0 (.int .u8 0) 1 1 Tryz.underlying87 hi0 hz0 hz1 hz2 rfl (by decide) _ _ _ rfl (World.ownsRow.alloc hown _) ⟨wr.heap.size,0,none⟩ 1 1 [.int .u8 (C.toNat:Int)] rfl rfl (cell_one_new _ _ _) (fun u hu=>by simp at hu;subst hu;rfl) (by unfold maxLen;omega) (by omega) (by simp;omega) ?_;intro v5 w5 hown5 hgrow5 _;have HO5:Hid _:=hown5;have HG5:Hid _:=hgrow5;clear hown5 hgrow5))
   have HN5:Hid (MvI w w5 gb t v5 ((mvL N t.data.toList).take (k+1))):=by
    have hal:=HG.out.below.alloc HG.out.below.size (.cells #[.int .u8 (C.toNat:Int)] 5)
    have hne:∀q,q≤gb→some q≠v8.ownBlock:=fun q hq e=>by have:=(World.ownsRow.lt HG.out.own q e.symm).1;omega
    refine ⟨hal.grown HG5.out (by simp;omega) (fun q hq=>by have:=(World.ownsRow.lt HG.out.own q hq).1;omega),HG.out.gb1,?_,fun j hj=>?_,?_⟩
    ·have:=HG5.out.size
     simp at this
     omega
    ·have h1:=HG.out.cells j hj
     have h2:(wr.alloc (.cells #[.int .u8 (C.toNat:Int)] 5)).cell? ⟨gb,j,none⟩=some (.int .u8 t[j].toNat):=by rw[←h1];exact World.cell?_alloc_lt _ _ _ HG.out.gb2
     exact HG5.out.cell h2 (hne gb (Nat.le_refl _))
    ·rw[HTK.out]
     unfold Kit.Owns
     rw[←v_cells_byte,List.length_append]
     exact HO5.out
   clear hcell hzw htm hown
   go_wp2
   go_roundw
   case rel=>first | exact ⟨k+1,v5,by omega,by go_num,rfl,HN5.out⟩ | refine Hid.out ?_
   case measure=>simp[intOf];omega
  ·obtain rfl:k=t.size:=by omega
   have hnlt:¬(t.size:Int)<(t.size:Int):=by omega
   have hown:=hg.own
   rw[←HSZ.out,show t.data.toList.length=(mvL N t.data.toList).length from (List.length_map _).symm,List.take_length] at hown
   have hst:=Kit.run_string_of_own (P:=Tryz.prog) wr 87 9 5 Tryz.underlying87 Tryz.underlying5 Tryz.underlying9 hown
   have HB9:Hid (Below w.heap.size w wr):=hg.below
   clear hown hg
   go_wp2
   go_ret2
   exact ⟨rfl,HB9.out⟩
end Go.Proofs.YtkohhdkkbaifoaaGreatDoor

/-
  Contracts of the document's Look, Cell and Row.
-/
namespace Go.Proofs.YtkohhdkkbaifoaaGreatDoor
open Go.RowKit PK Vg

set_option maxRecDepth 100000 in
set_option maxHeartbeats 1000000 in
theorem cell_any (k:Nat) (t c:UInt8) (ht:65≤t.toNat∧t.toNat≤90) (hc:65≤c.toNat∧c.toNat≤90) (w:World):Calls Tryz.prog 137 #[.int .i64 (k:Nat),.int .u8 t.toNat,.int .u8 c.toNat] w fun e w'=>e=.returned (.int .u8 (ltr (there k (Vg.num t) (Vg.num c))).toNat)∧w=w':=by
 have ha:=num_lt ht
 have hb:=num_lt hc
 have e1:((Vg.num t:Nat):Int)=(t.toNat:Int)-65:=by unfold Vg.num;omega
 have e2:((Vg.num c:Nat):Int)=(c.toNat:Int)-65:=by unfold Vg.num;omega
 have e3:=ltr_toNat (there_lt k (Vg.num t) (Vg.num c))
 rw[e3]
 have HV:Hid (there k (Vg.num t) (Vg.num c)=if k=2 then (Vg.num c+26-Vg.num t) % 26 else if k=3 then (Vg.num t+26-Vg.num c) % 26 else (Vg.num t+Vg.num c) % 26):=rfl
 generalize Vg.num t=a at *
 generalize Vg.num c=b at *
 generalize t.toNat=x at *
 generalize c.toNat=y at *
 have H1:Hid (((a:Nat):Int)=(x:Int)-65):=e1
 have H2:Hid (((b:Nat):Int)=(y:Int)-65):=e2
 obtain ⟨h1,h2⟩:=ht
 obtain ⟨h3,h4⟩:=hc
 clear e1 e2 e3
 by_cases k2:k=2
 ·subst k2
  rw[if_pos rfl] at HV
  go_enter Tryz.func137,Tryz.ntmps137
  go_wp2
  go_ret
  refine ⟨ret_int ?_,rfl⟩
  have:=H1.out
  have:=H2.out
  have:=HV.out
  omega
 ·have k22:((k:Int)==2)=false:=beq_false_of_ne (by omega)
  rw[if_neg k2] at HV
  by_cases k3:k=3
  ·subst k3
   rw[if_pos rfl] at HV
   go_enter Tryz.func137,Tryz.ntmps137
   go_wp2
   go_ret
   refine ⟨ret_int ?_,rfl⟩
   have:=H1.out
   have:=H2.out
   have:=HV.out
   omega
  ·have k33:((k:Int)==3)=false:=beq_false_of_ne (by omega)
   rw[if_neg k3] at HV
   go_enter Tryz.func137,Tryz.ntmps137
   go_wp2
   go_ret
   refine ⟨ret_int ?_,rfl⟩
   have:=H1.out
   have:=H2.out
   have:=HV.out
   omega
theorem row_first (k:Nat) (c b:Nat) (hc:c<26) (hb:b<26) (a:Nat) (ha:a<26):there k a b=c↔a=back k c b:=by
 constructor
 ·intro e;rw[←e,back_there k ha hb]
 ·intro e;rw[e,there_back k hc hb]
set_option maxRecDepth 100000 in
set_option maxHeartbeats 1000000 in
theorem row_any (k:Nat) (c b:UInt8) (hc:65≤c.toNat∧c.toNat≤90) (hb:65≤b.toNat∧b.toNat≤90) (w:World):Calls Tryz.prog 138 #[.int .i64 (k:Nat),.int .u8 c.toNat,.int .u8 b.toNat] w fun e w'=>e=.returned (.int .u8 (ltr (back k (Vg.num c) (Vg.num b))).toNat)∧w=w':=by
 have hcn:=num_lt hc
 have hbn:=num_lt hb
 have hbk:=back_lt k (Vg.num c) (Vg.num b)
 have HC:=(show Hid (∀(a:Nat),a<26→∀W,Calls Tryz.prog 137 #[.int .i64 (k:Nat),.int .u8 (65+a:Nat),.int .u8 b.toNat] W fun e w'=>e=.returned (.int .u8 (ltr (there k a (Vg.num b))).toNat)∧W=w') from fun a ha W=>by
  have:=cell_any k (ltr a) b (ltr_ok ha) hb W
  rw[num_ltr ha,ltr_toNat ha] at this
  exact this)
 have HE:=(show Hid (∀a,a<26→(there k a (Vg.num b)=Vg.num c↔a=back k (Vg.num c) (Vg.num b))) from fun a ha=>row_first k _ _ hcn hbn a ha)
 have HL:Hid ((c.toNat:Int)=((65+Vg.num c:Nat):Int)):=by rw[Hid];unfold Vg.num;omega
 rw[ltr_toNat hbk]
 generalize back k (Vg.num c) (Vg.num b)=r at *
 have HLT:=(show Hid (∀a,a<26→(ltr (there k a (Vg.num b))).toNat=65+there k a (Vg.num b)) from fun a _=>ltr_toNat (there_lt _ _ _))
 generalize Vg.num c=cn at *
 generalize hbb:Vg.num b=bn at *
 generalize c.toNat=cc at *
 generalize b.toNat=bb at *
 clear hbb hc hb
 go_enter Tryz.func138,Tryz.ntmps138
 go_wp2_with fail
 go_loopw [7] (fun i W=>∃a:Nat,a≤25∧a≤r∧i=.int .u8 ((65+a:Nat):Int)∧w=W) (fun i _=>(100-intOf i).toNat)
 case atStart=>exact ⟨0,by omega,by omega,rfl,rfl⟩
 case round =>
  obtain ⟨a,ha,har,rfl,rfl⟩:=hrel
  by_cases hlt:a<25
  ·have h90:(65:Int)+(a:Int)<90:=by omega
   have HCa:=(show Hid (∀W,Calls Tryz.prog 137 #[.int .i64 (k:Nat),.int .u8 (65+(a:Int)),.int .u8 bb] W fun e w'=>e=.returned (.int .u8 (ltr (there k a bn)).toNat)∧W=w') from HC.out a (by omega))
   rw[HLT.out a (by omega)] at HCa
   have hea:=HE.out a (by omega)
   by_cases hr:a=r
   ·have hth:=hea.2 hr
    have HV:Hid ((65+there k a bn:Nat)=cc):=by rw[Hid,hth];have:=HL.out;omega
    rw[HV.out] at HCa
    have HR:Hid (a=r):=hr
    clear hr hea hth
    go_wp2_with fail
    refine (HCa.out _).mono ?_
    rintro e W1 ⟨rfl,rfl⟩
    go_wp2
    go_ret
    exact ⟨by rw[←HR.out];rfl,rfl⟩
   ·have hth:¬there k a bn=cn:=fun e=>hr (hea.1 e)
    have hne:(((65+there k a bn:Nat):Int)==(cc:Int))=false:=beq_false_of_ne (by have:=HL.out;omega)
    have hthl:=there_lt k a bn
    generalize (65+there k a bn:Nat)=z at *
    clear hth hea hthl
    go_wp2_with fail
    refine (HCa.out _).mono ?_
    rintro e W1 ⟨rfl,rfl⟩
    go_wp2
    go_roundw
    case rel=>exact ⟨a+1,by omega,by omega,by go_num,trivial⟩
    case measure=>simp[intOf] <;> omega
  ·obtain rfl:a=25:=by omega
   obtain rfl:r=25:=by omega
   go_wp2
   go_ret
   exact ⟨rfl,rfl⟩
end Go.Proofs.YtkohhdkkbaifoaaGreatDoor

/-
  Contract of the document's Look.
-/
namespace Go.Proofs.YtkohhdkkbaifoaaGreatDoor
open Go.RowKit PK Vg

set_option maxRecDepth 100000 in
set_option maxHeartbeats 2000000 in
theorem rlook_any (k:Int) (key t:ByteArray) (w:World):Calls Tryz.prog 136 #[.int .i64 k,.string key,.string t] w fun e w'=>e=.returned (.agg #[.int .i64 (lkE k key.data.toList t.data.toList),.int .i64 (lkAt k key.data.toList t.data.toList)])∧Below w.heap.size w w':=by
 have hks:=Pl.size_len key
 have HC:=(show Hid (∀W,Calls Tryz.prog 42 #[.string key] W fun e w'=>e=.returned (.agg #[.int .i64 (ckE key.data.toList),.int .i64 (ckAt key.data.toList)])∧Below W.heap.size W w') from fun W=>rcheck_all key W)
 have HD:=(show Hid (∀W,Calls Tryz.prog 42 #[.string t] W fun e w'=>e=.returned (.agg #[.int .i64 (ckE t.data.toList),.int .i64 (ckAt t.data.toList)])∧Below W.heap.size W w') from fun W=>rcheck_all t W)
 unfold lkE lkAt
 rw[←hks]
 generalize ckE key.data.toList=E1 at *
 generalize ckAt key.data.toList=A1 at *
 generalize ckE t.data.toList=E2 at *
 generalize ckAt t.data.toList=A2 at *
 clear hks
 by_cases h1:k<1∨4<k
 ·rw[if_pos h1,if_pos h1]
  rcases h1 with h1 | h1
  ·go_enter Tryz.func136,Tryz.ntmps136
   go_wp2
   refine bodyPost_ret (v:=.agg #[.int .i64 1,.int .i64 0]) (by simp[results,Tryz.results136,go_sem]) rfl ⟨rfl,?_⟩
   exact (Below.refl _ _).alloc (Nat.le_refl _) _
  ·have h2:¬k<1:=by omega
   go_enter Tryz.func136,Tryz.ntmps136
   go_wp2
   refine bodyPost_ret (v:=.agg #[.int .i64 1,.int .i64 0]) (by simp[results,Tryz.results136,go_sem]) rfl ⟨rfl,?_⟩
   exact (Below.refl _ _).alloc (Nat.le_refl _) _
 ·rw[if_neg h1,if_neg h1]
  have h2:¬k<1:=by omega
  have h3:¬4<k:=by omega
  clear h1
  by_cases h4:E1=0
  ·have h5:¬(E1≠0):=fun h=>h h4
   rw[if_neg h5,if_neg h5]
   subst h4
   clear h5
   by_cases h6:key.size<1∨256<key.size
   ·rw[if_pos h6,if_pos h6]
    rcases h6 with h6 | h6
    ·have h7:(key.size:Int)<1:=by omega
     go_enter Tryz.func136,Tryz.ntmps136
     go_wp2_with fail
     refine (HC.out _).mono ?_
     rintro e W1 ⟨rfl,hb⟩
     have hb1:Below (w.heap.size+1) (w.alloc (.cells #[.int .i64 0,.int .i64 0] 35)) W1:=by simpa using hb
     have hz:=hb1.size
     simp at hz
     have hb2:=hb1.alloc (by omega) (.cells #[.int .i64 0,.int .i64 A1] 35)
     clear hb hb1 HC HD
     obtain ⟨c0,c1,f0,f1,hsz⟩:=Kit.two_cells hb2
     go_wp2
     have q:=Kit.read_two (.int .i64 5) (.int .i64 0) c0 c1
     refine bodyPost_ret (v:=.agg #[.int .i64 5,.int .i64 0]) (by simp[results,Tryz.results136,go_sem,q.1,q.2]) rfl ⟨rfl,?_⟩
     exact Kit.below_two hb2 _ _
    ·have h7:¬(key.size:Int)<1:=by omega
     have h8:(256:Int)<(key.size:Int):=by omega
     go_enter Tryz.func136,Tryz.ntmps136
     go_wp2_with fail
     refine (HC.out _).mono ?_
     rintro e W1 ⟨rfl,hb⟩
     have hb1:Below (w.heap.size+1) (w.alloc (.cells #[.int .i64 0,.int .i64 0] 35)) W1:=by simpa using hb
     have hz:=hb1.size
     simp at hz
     have hb2:=hb1.alloc (by omega) (.cells #[.int .i64 0,.int .i64 A1] 35)
     clear hb hb1 HC HD
     obtain ⟨c0,c1,f0,f1,hsz⟩:=Kit.two_cells hb2
     go_wp2
     have q:=Kit.read_two (.int .i64 5) (.int .i64 0) c0 c1
     refine bodyPost_ret (v:=.agg #[.int .i64 5,.int .i64 0]) (by simp[results,Tryz.results136,go_sem,q.1,q.2]) rfl ⟨rfl,?_⟩
     exact Kit.below_two hb2 _ _
   ·rw[if_neg h6,if_neg h6]
    have h7:¬(key.size:Int)<1:=by omega
    have h8:¬(256:Int)<(key.size:Int):=by omega
    clear h6
    go_enter Tryz.func136,Tryz.ntmps136
    go_wp2_with fail
    refine (HC.out _).mono ?_
    rintro e W1 ⟨rfl,hb⟩
    have hb1:Below (w.heap.size+1) (w.alloc (.cells #[.int .i64 0,.int .i64 0] 35)) W1:=by simpa using hb
    have hz:=hb1.size
    simp at hz
    have hb2:=hb1.alloc (by omega) (.cells #[.int .i64 0,.int .i64 A1] 35)
    clear hb hb1 HC
    go_wp2_with fail
    refine (HD.out _).mono ?_
    rintro e W2 ⟨rfl,hb3⟩
    have hb4:=hb2.trans (hb3.mono (by have:=hb2.size;simp at this;simp;omega))
    obtain ⟨c0,c1,f0,f1,hsz⟩:=Kit.two_cells hb4
    clear hb2 hb3 HD
    go_wp2
    have q:=Kit.read_two (.int .i64 E2) (.int .i64 A2) c0 c1
    refine bodyPost_ret (v:=.agg #[.int .i64 E2,.int .i64 A2]) (by simp[results,Tryz.results136,go_sem,q.1,q.2]) rfl ⟨rfl,?_⟩
    exact Kit.below_two hb4 _ _
  ·rw[if_pos h4,if_pos h4]
   have h5:(E1==0)=false:=beq_false_of_ne h4
   go_enter Tryz.func136,Tryz.ntmps136
   go_wp2_with fail
   refine (HC.out _).mono ?_
   rintro e W1 ⟨rfl,hb⟩
   have hb1:Below (w.heap.size+1) (w.alloc (.cells #[.int .i64 0,.int .i64 0] 35)) W1:=by simpa using hb
   have hz:=hb1.size
   simp at hz
   have hb2:=hb1.alloc (by omega) (.cells #[.int .i64 E1,.int .i64 A1] 35)
   clear hb hb1 HC HD
   obtain ⟨c0,c1,f0,f1,hsz⟩:=Kit.two_cells hb2
   go_wp2
   have q:=Kit.read_two (.int .i64 E1) (.int .i64 A1) c0 c1
   refine bodyPost_ret (v:=.agg #[.int .i64 E1,.int .i64 A1]) (by simp[results,Tryz.results136,go_sem,q.1,q.2]) rfl ⟨rfl,?_⟩
   exact Kit.below_two hb2 _ _
end Go.Proofs.YtkohhdkkbaifoaaGreatDoor
