/-
  Contract of the document's Read.
-/
import Derived.Test.YtkohhdkkbaifoaaGreatDoorPz
import Derived.Test.YtkohhdkkbaifoaaGreatDoorJn30
namespace Go.Proofs.YtkohhdkkbaifoaaGreatDoor
open Go.RowKit PK Vg

set_option maxRecDepth 100000 in
set_option maxHeartbeats 4000000 in
theorem rrd_ok3 (k:Nat) (k4:k≠4) (key t:ByteArray) (hE:lkE k key.data.toList t.data.toList=0) (hA:lkAt k key.data.toList t.data.toList=0) (hn:1≤key.size∧key.size≤256) (hs:t.size≤65536) (hkl:Ls key.data.toList) (htl:Ls t.data.toList) (w:World) :
  Calls Tryz.prog 82 #[.int .i64 (k:Nat),.string key,.string t] w fun e w'=>e=.returned (.tuple #[.string ⟨(readL k key.data.toList t.data.toList).toArray⟩,.agg #[.int .i64 0,.int .i64 0]])∧Below w.heap.size w w':=by
 have k44:((k:Int)==4)=false:=beq_false_of_ne (by omega)
 have HT:=(show Hid (∀W,Calls Tryz.prog 136 #[.int .i64 (k:Nat),.string key,.string t] W fun e w'=>e=.returned (.agg #[.int .i64 0,.int .i64 0])∧Below W.heap.size W w') from fun W=>by have:=rlook_any k key t W;rw[hE,hA] at this;exact this)
 have HKS:Hid (key.size=key.data.toList.length):=Pl.size_len key
 have HTS:Hid (t.size=t.data.toList.length):=Pl.size_len t
 obtain ⟨i0,hi0,hz0,hz1,hz2⟩:=x_info_partsX v_info_byteV
 have hcv:=fun w=>Lib.run_convert_string_bytes (P:=Tryz.prog) w 9 87 5 key Tryz.underlying9 Tryz.underlying87 Tryz.underlying5
 clear hE hA
 go_enter Tryz.func82,Tryz.ntmps82
 go_wp2_with fail
 refine (HT.out _).mono ?_
 rintro e W1 ⟨rfl,hb⟩
 have hb1:Below (w.heap.size+1) (w.alloc (.cells #[.int .i64 0,.int .i64 0] 35)) W1:=by simpa using hb
 have hz:=hb1.size
 simp at hz
 have hb2:=hb1.alloc (by omega) (.cells #[.int .i64 0,.int .i64 0] 35)
 clear hb HT hb1
 go_wp2_with fail
 obtain ⟨V,hV⟩:∃V,V=W1.alloc (.cells #[.int .i64 0,.int .i64 0] 35):=⟨_,rfl⟩
 have hVs:w.heap.size+1≤V.heap.size:=by rw[hV];simp;omega
 have hVz:V.heap.size=W1.heap.size+1:=by rw[hV];simp
 rw[←hV] at hb2 ⊢
 rw[←hVz]
 clear hV hz hVz hcv
 have hoc:=OwnC.bytes V 5 key (by unfold maxLen;omega)
 have hbB:=bytes_belowV V 5 key
 obtain ⟨c0,hc0⟩:∃c,c=grownCap V key.size 0 5:=⟨_,rfl⟩
 rw[←hc0] at hoc ⊢
 obtain ⟨X,hX⟩:∃X,X=Lib.bytesWorld V 5 key:=⟨_,rfl⟩
 rw[←hX] at hoc hbB ⊢
 clear hc0 hX
 go_loopw [11,9,10] (fun i x y W=>∃(m:Nat) (L:List UInt8) (g cap n:Nat) (v:Value),m≤t.size∧i=.int .i64 m∧x=.slice (some ⟨g,0,none⟩) n cap∧n=L.length∧v=y∧OwnC W g cap L∧V.heap.size≤g∧Hid (∃c,L=rpt key.data.toList c)∧L.length≤m+600∧m≤L.length∧Kit.Owns W V.heap.size 5 v (rdTo k key.data.toList t.data.toList m)∧v.ownBlock≠some g∧Below V.heap.size V W) (fun i _ _ _=>((t.size:Int)-intOf i).toNat)
 case atStart=>exact ⟨0,_,_,_,_,_,by omega,rfl,rfl,HKS.out,rfl,hoc,Nat.le_refl _,⟨1,by simp[rpt]⟩,by have:=HKS.out;omega,by omega,Kit.Owns.nil _ _ _,by simp[Value.ownBlock],hbB⟩
 case round =>
  obtain ⟨m,L,g,cap,n,v,hm,rfl,rfl,rfl,rfl,hL,hg,HR,hLm,hmL,hown,hne,hbv⟩:=hrel
  have hzb:=hbv.size
  by_cases hlt:m<t.size
  ·have hlt2:(m:Int)<(t.size:Int):=by omega
   have hle2:(rdTo k key.data.toList t.data.toList m).length≤65536:=by rw[rdTo_length];omega
   by_cases heq:m=L.length
   ·have heqI:((m:Int)==(L.length:Int))=true:=by simp[heq]
    have HEQ:Hid (m=L.length):=heq
    clear heq
    go_upto_region 11 with (first
     | (at_builtin;refine wpList_append_ownC _ rfl _ _ 87 9 rfl 5 i0 Tryz.underlying87 hi0 hz0 hz1 hz2 rfl hL (.string key) rfl key.data.toList (by rw[←HKS.out];exact Src.ofString _ Tryz.underlying9 key) (by have:=HKS.out;omega) ?_;intro g6 cap6 w6 hL6 hgrow6 hloc6;obtain ⟨L6,hLe6⟩:∃L6,L6=L++key.data.toList:=⟨_,rfl⟩;rw[←hLe6] at hL6 ⊢;have HLE6:Hid (L6=L++key.data.toList):=hLe6;clear hLe6))
    have hlen6:L6.length=L.length+key.size:=by rw[HLE6.out,List.length_append,HKS.out]
    have HR6:Hid (∃c,L6=rpt key.data.toList c):=by
     obtain ⟨c,hc⟩:=HR.out
     exact ⟨c+1,by rw[HLE6.out,hc];rfl⟩
    have hown6:Kit.Owns w6 V.heap.size 5 v (rdTo k key.data.toList t.data.toList m):=World.ownsRow.kept hown hgrow6 (.inr hne)
    have hbv6:=hbv.grown hgrow6 hzb (fun j hj=>by cases hj;exact hg)
    have hzb6:=hbv6.size
    have hmL2:m<L6.length:=by have:=HEQ.out;omega
    have hLm6:L6.length≤m+600:=by have:=HEQ.out;omega
    have hmL6:m≤L6.length:=by omega
    have hg6:V.heap.size≤g6:=by rcases hloc6 with h | h <;> omega
    have hne6:v.ownBlock≠some g6:=by
     rcases hloc6 with h | h
     ·rw[h];exact hne
     ·rw[h];intro e;have:=(World.ownsRow.lt hown _ e).2;omega
    clear hL hown hbv hzb hgrow6 hloc6 HR hne hLm hmL hlen6 hg HLE6 HEQ heqI
    have hta:=htl.at (getD_sizeV hlt)
    have HST:=(show Hid (rdTo k key.data.toList t.data.toList (m+1)=rdTo k key.data.toList t.data.toList m++[ltr (back k (Vg.num (t.data.toList.getD m 0)) (kat k key.data.toList (rdTo k key.data.toList t.data.toList m) m))]) from rfl)
    obtain ⟨cc,hcc⟩:=HR6.out
    have hgl:L6.getD m 0=key.data.toList.getD (m % key.data.toList.length) 0:=by
     rw[hcc];exact rpt_at _ (by have:=HKS.out;omega) cc m (by rw[←rpt_length,←hcc];exact hmL2)
    have hlet:65≤(L6.getD m 0).toNat∧(L6.getD m 0).toNat≤90:=by rw[hgl];exact hkl.at (Nat.mod_lt _ (by have:=HKS.out;omega))
    have HNUM:Hid (Vg.num (L6.getD m 0)=kat k key.data.toList (rdTo k key.data.toList t.data.toList m) m):=by rw[Hid,hgl];unfold kat;rw[if_neg (fun e=>k4 e.1)]
    clear hgl hcc
    have hmI:(m:Int)<(L6.length:Int):=by omega
    have hcell:=hL6.2.2.2.1 m hmL2
    have HC:=(show Hid (∀W,Calls Tryz.prog 138 #[.int .i64 (k:Nat),.int .u8 (t.data.toList.getD m 0).toNat,.int .u8 (L6.getD m 0).toNat] W fun e w'=>e=.returned (.int .u8 (ltr (back k (Vg.num (t.data.toList.getD m 0)) (Vg.num (L6.getD m 0)))).toNat)∧W=w') from fun W=>row_any k _ _ hta hlet W)
    rw[HNUM.out] at HC
    rw[getD_byte t m hlt] at HST HC
    generalize ltr (back k (Vg.num t[m]) (kat k key.data.toList (rdTo k key.data.toList t.data.toList m) m))=z at *
    generalize rdTo k key.data.toList t.data.toList m=acc at *
    generalize L6.getD m 0=bb at *
    have HCB:=(show Hid (Lib.byteCells acc++[.int .u8 (z.toNat:Int)]=Lib.byteCells (acc++[z])) from v_cells_byteX acc z)
    clear hta hlet
    go_wp2_with fail
    refine wp_region_noPanic ?_
    refine wp_region_held_drew (S:=fun W=>W.cell? ⟨g6,m,none⟩=some (.int .u8 (bb.toNat:Nat))) (by kernel_rfl) hcell (fun hS=>?_)
    refine vtk 0 36 (.int .i64 (k:Nat)) rfl (fun W hW=>by clear hS hW;go_simp) hS ?_
    simp only[zsA,zsB,zsC]
    refine vtk 1 37 (.string t) rfl (fun W hW=>by clear hS hW;go_simp) hS ?_
    simp only[zsA,zsB,zsC]
    refine vtk 2 38 (.int .i64 (m:Nat)) rfl (fun W hW=>by clear hS hW;go_simp) hS ?_
    simp only[zsA,zsB,zsC]
    refine vtk 3 39 (.int .u8 (t[m].toNat:Nat)) rfl (fun W hW=>by clear hS hW;go_simp) hS ?_
    simp only[zsA,zsB,zsC]
    refine vtk 4 40 (.slice (some ⟨g6,0,none⟩) L6.length cap6) rfl (fun W hW=>by clear hS hW;go_simp) hS ?_
    simp only[zsA,zsB,zsC]
    refine vtk 5 41 (.int .i64 (m:Nat)) rfl (fun W hW=>by clear hS hW;go_simp) hS ?_
    simp only[zsA,zsB,zsC]
    refine vtk 6 42 (.pointer (some ⟨g6,m,none⟩)) rfl (fun W hW=>by clear hS hW;go_simp) hS ?_
    simp only[zsA,zsB,zsC]
    refine vtk 7 43 (.int .u8 (bb.toNat:Nat)) rfl (fun W hW=>by have h1:W.cell? ⟨g6,m,none⟩=some (.int .u8 (bb.toNat:Nat)):=hW;clear hS hW;go_simp) hS ?_
    simp only[zsA,zsB,zsC]
    refine rd1 8 rfl (fun K hK=>?_)
    go_simp
    refine Calls.mono (HC.out _) ?_
    rintro e Y ⟨rfl,rfl⟩
    refine hK.out _ _ (hS) (fun hS1=>?_)
    clear hK hS K
    have hS:=hS1
    clear hS1
    refine vtk 9 12 (.int .u8 (z.toNat:Nat)) rfl (fun W hW=>by clear hS hW;go_simp) hS ?_
    simp only[zsA,zsB,zsC]
    refine wpAnyH_done (by kernel_rfl) ?_ _
    refine NoPanic.normal ?_
    have hownY:Kit.Owns w6.drew V.heap.size 5 v acc:=hown6
    have hbY:Below V.heap.size V w6.drew:=hbv6.drew
    have hLY:OwnC w6.drew g6 cap6 L6:=hL6.drew
    have hzY:V.heap.size≤w6.drew.heap.size:=hzb6
    clear hown6 hbv6 hL6 hcell hS
    obtain ⟨Y,hY⟩:∃Y,Y=w6.drew:=⟨_,rfl⟩
    rw[←hY] at hownY hbY hLY hzY ⊢
    clear hY
    go_wp2_with (first
     | (at_builtin;refine wpList_append_own_at _ rfl _ _ 87 rfl V.heap.size 5 i0 (.int .u8 0) 1 1 Tryz.underlying87 hi0 hz0 hz1 hz2 rfl (by decide) _ _ _ rfl (World.ownsRow.alloc hownY _) ⟨Y.heap.size,0,none⟩ 1 1 [.int .u8 (z.toNat:Int)] rfl rfl (cell_one_new _ _ _) (fun u hu=>by simp at hu;subst hu;rfl) (by unfold maxLen;omega) (by omega) (by simp;omega) ?_;intro v5 w5 hown5 hgrow5 _ hloc5))
    go_roundw
    case rel =>
     have hb5:=(hbY.alloc hzY (.cells #[.int .u8 (z.toNat:Int)] 5)).grown hgrow5 (by simp;omega) (fun k hk=>(World.ownsRow.lt hownY k hk).1)
     refine ⟨m+1,L6,g6,cap6,_,_,by omega,by go_num,rfl,rfl,rfl,(hLY.alloc _).grown hgrow5 (fun e=>hne6 e.symm),hg6,HR6,by omega,by omega,?_,?_,hb5⟩
     ·rw[HST.out]
      unfold Kit.Owns
      rw[←HCB.out,List.length_append]
      exact hown5
     ·rcases hloc5 with h | h
      ·rw[h];exact hne6
      ·rw[h];intro e;have:=hLY.1;simp at e;omega
    case measure=>simp[intOf] <;> omega
   ·have heqI:((m:Int)==(L.length:Int))=false:=beq_false_of_ne (by omega)
    have hmL2:m<L.length:=by omega
    clear heq
    have hta:=htl.at (getD_sizeV hlt)
    have HST:=(show Hid (rdTo k key.data.toList t.data.toList (m+1)=rdTo k key.data.toList t.data.toList m++[ltr (back k (Vg.num (t.data.toList.getD m 0)) (kat k key.data.toList (rdTo k key.data.toList t.data.toList m) m))]) from rfl)
    obtain ⟨cc,hcc⟩:=HR.out
    have hgl:L.getD m 0=key.data.toList.getD (m % key.data.toList.length) 0:=by
     rw[hcc];exact rpt_at _ (by have:=HKS.out;omega) cc m (by rw[←rpt_length,←hcc];exact hmL2)
    have hlet:65≤(L.getD m 0).toNat∧(L.getD m 0).toNat≤90:=by rw[hgl];exact hkl.at (Nat.mod_lt _ (by have:=HKS.out;omega))
    have HNUM:Hid (Vg.num (L.getD m 0)=kat k key.data.toList (rdTo k key.data.toList t.data.toList m) m):=by rw[Hid,hgl];unfold kat;rw[if_neg (fun e=>k4 e.1)]
    clear hgl hcc
    have hmI:(m:Int)<(L.length:Int):=by omega
    have hcell:=hL.2.2.2.1 m hmL2
    have HC:=(show Hid (∀W,Calls Tryz.prog 138 #[.int .i64 (k:Nat),.int .u8 (t.data.toList.getD m 0).toNat,.int .u8 (L.getD m 0).toNat] W fun e w'=>e=.returned (.int .u8 (ltr (back k (Vg.num (t.data.toList.getD m 0)) (Vg.num (L.getD m 0)))).toNat)∧W=w') from fun W=>row_any k _ _ hta hlet W)
    rw[HNUM.out] at HC
    rw[getD_byte t m hlt] at HST HC
    generalize ltr (back k (Vg.num t[m]) (kat k key.data.toList (rdTo k key.data.toList t.data.toList m) m))=z at *
    generalize rdTo k key.data.toList t.data.toList m=acc at *
    generalize L.getD m 0=bb at *
    have HCB:=(show Hid (Lib.byteCells acc++[.int .u8 (z.toNat:Int)]=Lib.byteCells (acc++[z])) from v_cells_byteX acc z)
    clear hta hlet
    go_wp2_with fail
    refine wp_region_noPanic ?_
    refine wp_region_held_drew (S:=fun W=>W.cell? ⟨g,m,none⟩=some (.int .u8 (bb.toNat:Nat))) (by kernel_rfl) hcell (fun hS=>?_)
    refine vtk 0 36 (.int .i64 (k:Nat)) rfl (fun W hW=>by clear hS hW;go_simp) hS ?_
    simp only[zsA,zsB,zsC]
    refine vtk 1 37 (.string t) rfl (fun W hW=>by clear hS hW;go_simp) hS ?_
    simp only[zsA,zsB,zsC]
    refine vtk 2 38 (.int .i64 (m:Nat)) rfl (fun W hW=>by clear hS hW;go_simp) hS ?_
    simp only[zsA,zsB,zsC]
    refine vtk 3 39 (.int .u8 (t[m].toNat:Nat)) rfl (fun W hW=>by clear hS hW;go_simp) hS ?_
    simp only[zsA,zsB,zsC]
    refine vtk 4 40 (.slice (some ⟨g,0,none⟩) L.length cap) rfl (fun W hW=>by clear hS hW;go_simp) hS ?_
    simp only[zsA,zsB,zsC]
    refine vtk 5 41 (.int .i64 (m:Nat)) rfl (fun W hW=>by clear hS hW;go_simp) hS ?_
    simp only[zsA,zsB,zsC]
    refine vtk 6 42 (.pointer (some ⟨g,m,none⟩)) rfl (fun W hW=>by clear hS hW;go_simp) hS ?_
    simp only[zsA,zsB,zsC]
    refine vtk 7 43 (.int .u8 (bb.toNat:Nat)) rfl (fun W hW=>by have h1:W.cell? ⟨g,m,none⟩=some (.int .u8 (bb.toNat:Nat)):=hW;clear hS hW;go_simp) hS ?_
    simp only[zsA,zsB,zsC]
    refine rd1 8 rfl (fun K hK=>?_)
    go_simp
    refine Calls.mono (HC.out _) ?_
    rintro e Y ⟨rfl,rfl⟩
    refine hK.out _ _ (hS) (fun hS1=>?_)
    clear hK hS K
    have hS:=hS1
    clear hS1
    refine vtk 9 12 (.int .u8 (z.toNat:Nat)) rfl (fun W hW=>by clear hS hW;go_simp) hS ?_
    simp only[zsA,zsB,zsC]
    refine wpAnyH_done (by kernel_rfl) ?_ _
    refine NoPanic.normal ?_
    have hownY:Kit.Owns wr.drew V.heap.size 5 v acc:=hown
    have hbY:Below V.heap.size V wr.drew:=hbv.drew
    have hLY:OwnC wr.drew g cap L:=hL.drew
    have hzY:V.heap.size≤wr.drew.heap.size:=hzb
    clear hown hbv hL hcell hS
    obtain ⟨Y,hY⟩:∃Y,Y=wr.drew:=⟨_,rfl⟩
    rw[←hY] at hownY hbY hLY hzY ⊢
    clear hY
    go_wp2_with (first
     | (at_builtin;refine wpList_append_own_at _ rfl _ _ 87 rfl V.heap.size 5 i0 (.int .u8 0) 1 1 Tryz.underlying87 hi0 hz0 hz1 hz2 rfl (by decide) _ _ _ rfl (World.ownsRow.alloc hownY _) ⟨Y.heap.size,0,none⟩ 1 1 [.int .u8 (z.toNat:Int)] rfl rfl (cell_one_new _ _ _) (fun u hu=>by simp at hu;subst hu;rfl) (by unfold maxLen;omega) (by omega) (by simp;omega) ?_;intro v5 w5 hown5 hgrow5 _ hloc5))
    go_roundw
    case rel =>
     have hb5:=(hbY.alloc hzY (.cells #[.int .u8 (z.toNat:Int)] 5)).grown hgrow5 (by simp;omega) (fun k hk=>(World.ownsRow.lt hownY k hk).1)
     refine ⟨m+1,L,g,cap,_,_,by omega,by go_num,rfl,rfl,rfl,(hLY.alloc _).grown hgrow5 (fun e=>hne e.symm),hg,HR,by omega,by omega,?_,?_,hb5⟩
     ·rw[HST.out]
      unfold Kit.Owns
      rw[←HCB.out,List.length_append]
      exact hown5
     ·rcases hloc5 with h | h
      ·rw[h];exact hne
      ·rw[h];intro e;have:=hLY.1;simp at e;omega
    case measure=>simp[intOf] <;> omega
  ·obtain rfl:m=t.size:=by omega
   have HW:Hid (rdTo k key.data.toList t.data.toList t.size=readL k key.data.toList t.data.toList):=by rw[Hid,Pl.size_len];rfl
   have hst:=Kit.run_string_of_own (P:=Tryz.prog) wr 87 9 5 Tryz.underlying87 Tryz.underlying5 Tryz.underlying9 hown
   rw[HW.out] at hst
   obtain ⟨T,hT⟩:∃T,T=(⟨(readL k key.data.toList t.data.toList).toArray⟩:ByteArray):=⟨_,rfl⟩
   rw[←hT] at hst
   have HT:Hid (T=(⟨(readL k key.data.toList t.data.toList).toArray⟩:ByteArray)):=hT
   have hbw:=hb2.trans (hbv.mono hVs)
   obtain ⟨c0,c1,f0,f1,hsz⟩:=Kit.two_cells hbw
   clear hT hown HW
   go_wp2
   have q:=Kit.read_two (.int .i64 0) (.int .i64 0) c0 c1
   refine bodyPost_ret (v:=.tuple #[.string T,.agg #[.int .i64 0,.int .i64 0]]) (by simp[results,Tryz.results82,go_sem,q.1,q.2]) rfl ⟨by rw[HT.out],?_⟩
   exact Kit.below_two hbw _ _
set_option maxRecDepth 100000 in
set_option maxHeartbeats 4000000 in
theorem rrd_ok4 (k:Nat) (k4:k=4) (key t:ByteArray) (hE:lkE k key.data.toList t.data.toList=0) (hA:lkAt k key.data.toList t.data.toList=0) (hn:1≤key.size∧key.size≤256) (hs:t.size≤65536) (hkl:Ls key.data.toList) (htl:Ls t.data.toList) (w:World) :
  Calls Tryz.prog 82 #[.int .i64 (k:Nat),.string key,.string t] w fun e w'=>e=.returned (.tuple #[.string ⟨(readL k key.data.toList t.data.toList).toArray⟩,.agg #[.int .i64 0,.int .i64 0]])∧Below w.heap.size w w':=by
 have k44:((k:Int)==4)=true:=by simp;omega
 have K4:Hid (k=4):=k4
 clear k4
 have HT:=(show Hid (∀W,Calls Tryz.prog 136 #[.int .i64 (k:Nat),.string key,.string t] W fun e w'=>e=.returned (.agg #[.int .i64 0,.int .i64 0])∧Below W.heap.size W w') from fun W=>by have:=rlook_any k key t W;rw[hE,hA] at this;exact this)
 have HKS:Hid (key.size=key.data.toList.length):=Pl.size_len key
 have HTS:Hid (t.size=t.data.toList.length):=Pl.size_len t
 obtain ⟨i0,hi0,hz0,hz1,hz2⟩:=x_info_partsX v_info_byteV
 have hcv:=fun w=>Lib.run_convert_string_bytes (P:=Tryz.prog) w 9 87 5 key Tryz.underlying9 Tryz.underlying87 Tryz.underlying5
 clear hE hA
 go_enter Tryz.func82,Tryz.ntmps82
 go_wp2_with fail
 refine (HT.out _).mono ?_
 rintro e W1 ⟨rfl,hb⟩
 have hb1:Below (w.heap.size+1) (w.alloc (.cells #[.int .i64 0,.int .i64 0] 35)) W1:=by simpa using hb
 have hz:=hb1.size
 simp at hz
 have hb2:=hb1.alloc (by omega) (.cells #[.int .i64 0,.int .i64 0] 35)
 clear hb HT hb1
 go_wp2_with fail
 obtain ⟨V,hV⟩:∃V,V=W1.alloc (.cells #[.int .i64 0,.int .i64 0] 35):=⟨_,rfl⟩
 have hVs:w.heap.size+1≤V.heap.size:=by rw[hV];simp;omega
 have hVz:V.heap.size=W1.heap.size+1:=by rw[hV];simp
 rw[←hV] at hb2 ⊢
 rw[←hVz]
 clear hV hz hVz hcv
 have hoc:=OwnC.bytes V 5 key (by unfold maxLen;omega)
 have hbB:=bytes_belowV V 5 key
 obtain ⟨c0,hc0⟩:∃c,c=grownCap V key.size 0 5:=⟨_,rfl⟩
 rw[←hc0] at hoc ⊢
 obtain ⟨X,hX⟩:∃X,X=Lib.bytesWorld V 5 key:=⟨_,rfl⟩
 rw[←hX] at hoc hbB ⊢
 clear hc0 hX
 go_loopw [11,9,10] (fun i x y W=>∃(m:Nat) (L:List UInt8) (g cap n:Nat) (v:Value),m≤t.size∧i=.int .i64 m∧x=.slice (some ⟨g,0,none⟩) n cap∧n=L.length∧v=y∧OwnC W g cap L∧V.heap.size≤g∧Hid (L=key.data.toList++rdTo k key.data.toList t.data.toList m)∧L.length≤m+600∧m≤L.length∧Kit.Owns W V.heap.size 5 v (rdTo k key.data.toList t.data.toList m)∧v.ownBlock≠some g∧Below V.heap.size V W) (fun i _ _ _=>((t.size:Int)-intOf i).toNat)
 case atStart=>exact ⟨0,_,_,_,_,_,by omega,rfl,rfl,HKS.out,rfl,hoc,Nat.le_refl _,(by rw[Hid];simp[rdTo]),by have:=HKS.out;omega,by omega,Kit.Owns.nil _ _ _,by simp[Value.ownBlock],hbB⟩
 case round =>
  obtain ⟨m,L,g,cap,n,v,hm,rfl,rfl,rfl,rfl,hL,hg,HR,hLm,hmL,hown,hne,hbv⟩:=hrel
  have hzb:=hbv.size
  by_cases hlt:m<t.size
  ·have hlt2:(m:Int)<(t.size:Int):=by omega
   have hle2:(rdTo k key.data.toList t.data.toList m).length≤65536:=by rw[rdTo_length];omega
   have hta:=htl.at (getD_sizeV hlt)
   have HST:=(show Hid (rdTo k key.data.toList t.data.toList (m+1)=rdTo k key.data.toList t.data.toList m++[ltr (back k (Vg.num (t.data.toList.getD m 0)) (kat k key.data.toList (rdTo k key.data.toList t.data.toList m) m))]) from rfl)
   have hll:L.length=key.size+m:=by rw[HR.out,List.length_append,rdTo_length,HKS.out]
   have heqI:((m:Int)==(L.length:Int))=false:=beq_false_of_ne (by omega)
   have hmL2:m<L.length:=by omega
   have hks:=HKS.out
   have hgl:(65≤(L.getD m 0).toNat∧(L.getD m 0).toNat≤90)∧Vg.num (L.getD m 0)=kat k key.data.toList (rdTo k key.data.toList t.data.toList m) m:=by
    unfold kat
    by_cases h:key.data.toList.length≤m
    ·rw[if_pos ⟨K4.out,h⟩,HR.out,getD_append_rightX h]
     exact ⟨(rdTo_ls k key.data.toList t.data.toList m).at (by rw[rdTo_length];omega),rfl⟩
    ·rw[if_neg (fun e=>h e.2),Nat.mod_eq_of_lt (by omega),HR.out,getD_append_leftX (by omega)]
     exact ⟨hkl.at (by omega),rfl⟩
   have hlet:=hgl.1
   have HNUM:Hid (Vg.num (L.getD m 0)=kat k key.data.toList (rdTo k key.data.toList t.data.toList m) m):=hgl.2
   clear hgl hll hks
   have hmI:(m:Int)<(L.length:Int):=by omega
   have hcell:=hL.2.2.2.1 m hmL2
   have HC:=(show Hid (∀W,Calls Tryz.prog 138 #[.int .i64 (k:Nat),.int .u8 (t.data.toList.getD m 0).toNat,.int .u8 (L.getD m 0).toNat] W fun e w'=>e=.returned (.int .u8 (ltr (back k (Vg.num (t.data.toList.getD m 0)) (Vg.num (L.getD m 0)))).toNat)∧W=w') from fun W=>row_any k _ _ hta hlet W)
   rw[HNUM.out] at HC
   rw[getD_byte t m hlt] at HST HC
   generalize ltr (back k (Vg.num t[m]) (kat k key.data.toList (rdTo k key.data.toList t.data.toList m) m))=z at *
   generalize rdTo k key.data.toList t.data.toList m=acc at *
   generalize L.getD m 0=bb at *
   have HCB:=(show Hid (Lib.byteCells acc++[.int .u8 (z.toNat:Int)]=Lib.byteCells (acc++[z])) from v_cells_byteX acc z)
   clear hta hlet
   go_wp2_with fail
   refine wp_region_noPanic ?_
   refine wp_region_held_drew (S:=fun W=>W.cell? ⟨g,m,none⟩=some (.int .u8 (bb.toNat:Nat))) (by kernel_rfl) hcell (fun hS=>?_)
   refine vtk 0 36 (.int .i64 (k:Nat)) rfl (fun W hW=>by clear hS hW;go_simp) hS ?_
   simp only[zsA,zsB,zsC]
   refine vtk 1 37 (.string t) rfl (fun W hW=>by clear hS hW;go_simp) hS ?_
   simp only[zsA,zsB,zsC]
   refine vtk 2 38 (.int .i64 (m:Nat)) rfl (fun W hW=>by clear hS hW;go_simp) hS ?_
   simp only[zsA,zsB,zsC]
   refine vtk 3 39 (.int .u8 (t[m].toNat:Nat)) rfl (fun W hW=>by clear hS hW;go_simp) hS ?_
   simp only[zsA,zsB,zsC]
   refine vtk 4 40 (.slice (some ⟨g,0,none⟩) L.length cap) rfl (fun W hW=>by clear hS hW;go_simp) hS ?_
   simp only[zsA,zsB,zsC]
   refine vtk 5 41 (.int .i64 (m:Nat)) rfl (fun W hW=>by clear hS hW;go_simp) hS ?_
   simp only[zsA,zsB,zsC]
   refine vtk 6 42 (.pointer (some ⟨g,m,none⟩)) rfl (fun W hW=>by clear hS hW;go_simp) hS ?_
   simp only[zsA,zsB,zsC]
   refine vtk 7 43 (.int .u8 (bb.toNat:Nat)) rfl (fun W hW=>by have h1:W.cell? ⟨g,m,none⟩=some (.int .u8 (bb.toNat:Nat)):=hW;clear hS hW;go_simp) hS ?_
   simp only[zsA,zsB,zsC]
   refine rd1 8 rfl (fun K hK=>?_)
   go_simp
   refine Calls.mono (HC.out _) ?_
   rintro e Y ⟨rfl,rfl⟩
   refine hK.out _ _ (hS) (fun hS1=>?_)
   clear hK hS K
   have hS:=hS1
   clear hS1
   refine vtk 9 12 (.int .u8 (z.toNat:Nat)) rfl (fun W hW=>by clear hS hW;go_simp) hS ?_
   simp only[zsA,zsB,zsC]
   refine wpAnyH_done (by kernel_rfl) ?_ _
   refine NoPanic.normal ?_
   have hownY:Kit.Owns wr.drew V.heap.size 5 v acc:=hown
   have hbY:Below V.heap.size V wr.drew:=hbv.drew
   have hLY:OwnC wr.drew g cap L:=hL.drew
   have hzY:V.heap.size≤wr.drew.heap.size:=hzb
   clear hown hbv hL hcell hS
   obtain ⟨Y,hY⟩:∃Y,Y=wr.drew:=⟨_,rfl⟩
   rw[←hY] at hownY hbY hLY hzY ⊢
   clear hY
   have hgY:=hLY.1
   go_wp2_with (first
    | (at_builtin;refine wpList_append_own_at _ rfl _ _ 87 rfl V.heap.size 5 i0 (.int .u8 0) 1 1 Tryz.underlying87 hi0 hz0 hz1 hz2 rfl (by decide) _ _ _ rfl (World.ownsRow.alloc hownY _) ⟨Y.heap.size,0,none⟩ 1 1 [.int .u8 (z.toNat:Int)] rfl rfl (cell_one_new _ _ _) (fun u hu=>by simp at hu;subst hu;rfl) (by unfold maxLen;omega) (by omega) (by simp;omega) ?_;intro v5 w5 hown5 hgrow5 _ hloc5;have hL5:=(hLY.alloc (.cells #[.int .u8 (z.toNat:Int)] 5)).grown hgrow5 (fun e=>hne e.symm))
    | (at_builtin;refine wpList_append_ownC _ rfl _ _ 87 87 rfl 5 i0 Tryz.underlying87 hi0 hz0 hz1 hz2 rfl (hL5.alloc _) (.slice (some ⟨w5.heap.size,0,none⟩) 1 1) rfl [z] (Src.ofSlice _ Tryz.underlying87 ⟨w5.heap.size,0,none⟩ 1 1 [.int .u8 (z.toNat:Int)] rfl (cell_one_new _ _ _) (fun u hu=>by simp at hu;subst hu;rfl)) (by simp;omega) ?_;intro g6 cap6 w6 hL6 hgrow6 hloc6;obtain ⟨L6,hLe6⟩:∃L6,L6=L++[z]:=⟨_,rfl⟩;rw[←hLe6] at hL6 ⊢;have HLE6:Hid (L6=L++[z]):=hLe6;clear hLe6))
   have hb5:=(hbY.alloc hzY (.cells #[.int .u8 (z.toNat:Int)] 5)).grown hgrow5 (by simp;omega) (fun k hk=>(World.ownsRow.lt hownY k hk).1)
   have hz5:=hgrow5.size
   simp at hz5
   have hne5:v5.ownBlock≠some g:=by
    rcases hloc5 with h | h
    ·rw[h];exact hne
    ·rw[h];intro e;simp at e;omega
   have hb6:=(hb5.alloc hb5.size (.cells #[.int .u8 (z.toNat:Int)] 5)).grown hgrow6 (by have:=hb5.size;simp;omega) (fun j hj=>by cases hj;exact hg)
   have hown6:=World.ownsRow.kept (World.ownsRow.alloc hown5 (.cells #[.int .u8 (z.toNat:Int)] 5)) hgrow6 (.inr hne5)
   have hlen6:L6.length=L.length+1:=by rw[HLE6.out];simp
   go_roundw
   case rel =>
    refine ⟨m+1,L6,g6,cap6,_,_,by omega,by go_num,rfl,rfl,rfl,hL6,?_,?_,by omega,by omega,?_,?_,hb6⟩
    ·rcases hloc6 with h | h
     ·omega
     ·simp at h;omega
    ·rw[Hid,HLE6.out,HR.out,HST.out,List.append_assoc]
    ·rw[HST.out]
     unfold Kit.Owns
     rw[←HCB.out,List.length_append]
     exact hown6
    ·rcases hloc6 with h | h
     ·rw[h];exact hne5
     ·rw[h];intro e;have:=(World.ownsRow.lt hown5 _ e).2;simp only[World.size_alloc] at this;omega
   case measure=>simp[intOf] <;> omega
  ·obtain rfl:m=t.size:=by omega
   have HW:Hid (rdTo k key.data.toList t.data.toList t.size=readL k key.data.toList t.data.toList):=by rw[Hid,Pl.size_len];rfl
   have hst:=Kit.run_string_of_own (P:=Tryz.prog) wr 87 9 5 Tryz.underlying87 Tryz.underlying5 Tryz.underlying9 hown
   rw[HW.out] at hst
   obtain ⟨T,hT⟩:∃T,T=(⟨(readL k key.data.toList t.data.toList).toArray⟩:ByteArray):=⟨_,rfl⟩
   rw[←hT] at hst
   have HT:Hid (T=(⟨(readL k key.data.toList t.data.toList).toArray⟩:ByteArray)):=hT
   have hbw:=hb2.trans (hbv.mono hVs)
   obtain ⟨c0,c1,f0,f1,hsz⟩:=Kit.two_cells hbw
   clear hT hown HW
   go_wp2
   have q:=Kit.read_two (.int .i64 0) (.int .i64 0) c0 c1
   refine bodyPost_ret (v:=.tuple #[.string T,.agg #[.int .i64 0,.int .i64 0]]) (by simp[results,Tryz.results82,go_sem,q.1,q.2]) rfl ⟨by rw[HT.out],?_⟩
   exact Kit.below_two hbw _ _
end Go.Proofs.YtkohhdkkbaifoaaGreatDoor
