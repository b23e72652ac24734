/-
  Several texts, joined: PtD, PtE, PtF, PtG, PtH, PtI, PtJ, PtK, RuA, RuB, PAlive, PLoc, RRef, RPr.
-/
import Derived.Test.YtkohhdkkbaifoaaGreatDoorJn26
import Derived.Test.YtkohhdkkbaifoaaGreatDoorJn23
import Derived.Deep.QuietTactic
import Derived.BigQuiet
import Derived.Test.YtkohhdkkbaifoaaGreatDoorJn1
import Derived.Test.YtkohhdkkbaifoaaGreatDoorORWr
import Derived.Test.YtkohhdkkbaifoaaGreatDoorJn6
import Derived.Test.YtkohhdkkbaifoaaGreatDoorJn21
import Derived.Test.YtkohhdkkbaifoaaGreatDoorJn22
import Derived.OrdersHeld
import Derived.Test.YtkohhdkkbaifoaaGreatDoorJn24
import Derived.Test.YtkohhdkkbaifoaaGreatDoorJn25
/-
  What is written is read: what two steps have alike; keys, matrices.
-/
namespace Go.Proofs.YtkohhdkkbaifoaaGreatDoor
open Go.RowKit PK Vg

end Go.Proofs.YtkohhdkkbaifoaaGreatDoor

/-
  What is written is read: steps of all kinds but rotors.
-/
namespace Go.Proofs.YtkohhdkkbaifoaaGreatDoor
open Go.RowKit PK Vg

end Go.Proofs.YtkohhdkkbaifoaaGreatDoor

/-
  What is written is read: pieces between commas; the names of wheels; settings; plugs.
-/
namespace Go.Proofs.YtkohhdkkbaifoaaGreatDoor
open Go.RowKit PK Vg

theorem whN_ok:∀i,i<5→(whN i).data.toList≠[]∧(∀d ∈ (whN i).data.toList,d≠44∧d≠32)∧knE (whN i).data.toList=0:=by
 intro i hi
 match i,hi with
 | 0,_=>exact ⟨by decide,by decide,by kernel_rfl⟩
 | 1,_=>exact ⟨by decide,by decide,by kernel_rfl⟩
 | 2,_=>exact ⟨by decide,by decide,by kernel_rfl⟩
 | 3,_=>exact ⟨by decide,by decide,by kernel_rfl⟩
 | 4,_=>exact ⟨by decide,by decide,by kernel_rfl⟩
theorem fstB_some {p:Nat→Bool}:∀{m i:Nat},fstB p m=some i→i<m∧p i=true
 | 0,i,h=>by cases h
 | m+1,i,h=>by
  unfold fstB at h
  cases hm:fstB p m with
  | some j =>
   rw[hm] at h
   cases h
   obtain ⟨a,b⟩:=fstB_some hm
   exact ⟨by omega,b⟩
  | none =>
   rw[hm] at h
   by_cases hp:p m=true
   ·simp only[if_pos hp] at h;cases h;exact ⟨Nat.lt_succ_self _,hp⟩
   ·simp only[if_neg hp] at h;cases h
theorem fstB_ex {p:Nat→Bool}:∀{m i:Nat},i<m→p i=true→fstB p m≠none
 | 0,i,h,_=>by omega
 | m+1,i,h,hp=>by
  unfold fstB
  cases hm:fstB p m with
  | some j=>simp
  | none =>
   by_cases e:i=m
   ·subst e;simp[hp]
   ·exact absurd hm (fstB_ex (by omega) hp)
end Go.Proofs.YtkohhdkkbaifoaaGreatDoor

/-
  What is written is read: rotors; chains.
-/
namespace Go.Proofs.YtkohhdkkbaifoaaGreatDoor
open Go.RowKit PK Vg

theorem mcE_zero {g:Gm} (h:mcE g=0):(∀i,i<g.n→∃j,whF (g.wi i) (g.nl i) (g.no i)=some j)∧∃j,mrF g.rf=some j:=by
 unfold mcE at h
 by_cases h1:wnE g≠0
 ·rw[if_pos h1] at h;cases h
 rw[if_neg h1] at h
 by_cases h2:mrF g.rf=none
 ·rw[if_pos h2] at h;cases h
 refine ⟨fun i hi=>?_,Option.ne_none_iff_exists'.1 h2⟩
 have h3:=firV_zero (Decidable.not_not.1 h1) i hi
 by_cases h4:whF (g.wi i) (g.nl i) (g.no i)=none
 ·rw[if_pos h4] at h3;cases h3
 ·exact Option.ne_none_iff_exists'.1 h4
end Go.Proofs.YtkohhdkkbaifoaaGreatDoor

/-
  What is written is read: chains.
-/
namespace Go.Proofs.YtkohhdkkbaifoaaGreatDoor
open Go.RowKit PK Vg

end Go.Proofs.YtkohhdkkbaifoaaGreatDoor

/-
  What is read can be written, and has what its kind has alone.
-/
namespace Go.Proofs.YtkohhdkkbaifoaaGreatDoor
open Go.RowKit PK Vg

/-! ### Machines -/
end Go.Proofs.YtkohhdkkbaifoaaGreatDoor

/-
  What is read can be written: steps, chains.
-/
namespace Go.Proofs.YtkohhdkkbaifoaaGreatDoor
open Go.RowKit PK Vg

end Go.Proofs.YtkohhdkkbaifoaaGreatDoor

/-
  The document's Same: numbers, wheels.
-/
namespace Go.Proofs.YtkohhdkkbaifoaaGreatDoor
open Go.RowKit PK Vg

theorem wpList_load_arr17 {P:Program} {ops:Array Oper} {rest:List Oper} {op:Oper} {a:Act} {w:World} {Q:Exit→Act→World→Prop} (hw:Region.wanted op (yielded ops a.tmps)=true) (ty:TypeId) (x:Operand) (ho:op.op=.load ty x)
  (b o:Nat) (hx:a.eval x=.pointer (some ⟨b,o,none⟩)) (cs:Array Value) (d:TypeDesc) (hc:w.rangeAt b o cs.toList)
  (hu:P.underlying ty=some d) (hd:d.isRow=true) (hi:(P.info? ty).map (·.size)=some cs.size)
  (h:wpList P ops Q rest (a.put op.dst (.agg cs)) w):wpList P ops Q (op :: rest) a w:=by
 refine wpList_step fun K hK=>?_
 rw[if_pos hw]
 refine wp_load_mid ty x ho b o hx cs.toList d hc hu hd (by rw[Array.length_toList];exact hi) ?_
 rw[Array.toArray_toList]
 exact hK _ _ h
set_option maxRecDepth 100000 in
set_option maxHeartbeats 1000000 in
theorem rsameN_any (u v:Value) (n m:Nat) (hn:n=m→n≤1048576) (f g:Nat→Int) (w:World) (hu:NumsAt w u n f) (hv:NumsAt w v m g) :
  Calls Tryz.prog 110 #[u,v] w fun e w'=>e=.returned (.bool (numsEq n m f g))∧Below w.heap.size w w':=by
 obtain ⟨a,ca,rfl,_,hca⟩:=hu
 obtain ⟨b,cb,rfl,_,hcb⟩:=hv
 by_cases hnm:n=m
 ·subst hnm
  have hn:=hn rfl
  have HA:Hid (∀c,c<n→∃b o,a=some ⟨b,o,none⟩∧w.cell? ⟨b,o+c,none⟩=some (.int .i64 (f c))):=hca
  have HB:Hid (∀c,c<n→∃b' o,b=some ⟨b',o,none⟩∧w.cell? ⟨b',o+c,none⟩=some (.int .i64 (g c))):=hcb
  have HQ:Hid (numsEq n n f g=eqI n f g):=by rw[Hid];unfold numsEq;simp
  generalize numsEq n n f g=R at *
  clear hca hcb
  go_enter Tryz.func110,Tryz.ntmps110
  go_wp2
  go_loopw [13] (fun i W=>∃m:Nat,m≤n∧i=.int .i64 m∧Hid (∀j,j<m→f j=g j)∧Below w.heap.size w W) (fun i _=>((n:Int)-intOf i).toNat)
  case atStart=>exact ⟨0,by omega,rfl,fun j hj=>by omega,Below.refl _ _⟩
  case round =>
   obtain ⟨m,hm,rfl,HJ,hb⟩:=hrel
   by_cases hlt:m<n
   ·obtain ⟨b1,o1,e1,h1⟩:=HA.out m hlt
    obtain ⟨b2,o2,e2,h2⟩:=HB.out m hlt
    subst e1 e2
    have c1:=(hb.cell (cell_block h1)).trans h1
    have c2:=(hb.cell (cell_block h2)).trans h2
    by_cases hfg:f m=g m
    ·have HN:Hid (∀j,j<m+1→f j=g j):=fun j hj=>by
      by_cases e:j=m
      ·rw[e];exact hfg
      ·exact HJ.out j (by omega)
     rw[←hfg] at c2
     clear hfg HJ
     generalize f m=x at *
     clear h1 h2
     go_wp2_with fail
     go_quiet (fail)
     go_wp2
     go_roundw
     case rel=>exact ⟨m+1,by omega,by go_num,HN,⟨hb.os,hb.tape,hb.output,hb.size,hb.block⟩⟩
     case measure=>simp[intOf] <;> omega
    ·have HF:Hid (R=false):=by
      rw[Hid,HQ.out]
      cases hq:eqI n f g with
      | false=>rfl
      | true=>exact absurd ((eqI_iff n f g).1 hq m hlt) hfg
     have hne:(f m != g m)=true:=by simpa using hfg
     have hne2:(f m==g m)=false:=by simpa using hfg
     clear hfg HJ HQ
     generalize f m=x at *
     generalize g m=y at *
     clear h1 h2
     go_wp2_with fail
     go_quiet (fail)
     go_wp2
     go_ret
     exact ⟨by rw[HF.out];rfl,⟨hb.os,hb.tape,hb.output,hb.size,hb.block⟩⟩
   ·have HT:Hid (R=true):=by rw[Hid,HQ.out];exact eqI_of fun i hi=>HJ.out i (by omega)
    go_wp2
    go_ret
    exact ⟨by rw[HT.out];rfl,hb⟩
 ·have hR:numsEq n m f g=false:=by unfold numsEq;simp[hnm]
  rw[hR]
  have hne:((n:Int) != (m:Int))=true:=by simp;omega
  have hne2:((n:Int)==(m:Int))=false:=by simp;omega
  have hnb:(n==m)=false:=by simpa using hnm
  clear hca hcb hR
  go_enter Tryz.func110,Tryz.ntmps110
  go_wp2
  go_ret
  exact ⟨rfl,Below.refl _ _⟩
end Go.Proofs.YtkohhdkkbaifoaaGreatDoor

/-
  The document's Key, Wrong and All (chapter 17).
-/
namespace Go.Proofs.YtkohhdkkbaifoaaGreatDoor
open Go.RowKit PK Vg

set_option maxRecDepth 100000 in
set_option maxHeartbeats 2000000 in
theorem rkey17_any (key:ByteArray) (w:World):Calls Tryz.prog 31 #[.string key] w fun e w'=>e=.returned (.int .i64 (keyE key.data.toList))∧Below w.heap.size w w':=by
 have HC:Hid _:=rcheck_all key w
 have hl:=Pl.size_len key
 obtain ⟨E,hE⟩:∃E,E=ckE key.data.toList:=⟨_,rfl⟩
 rw[←hE] at HC
 generalize ckAt key.data.toList=A at *
 by_cases h0:E=0
 ·have HK:Hid (keyE key.data.toList=if key.size<1∨256<key.size then 5 else 0):=by
   rw[Hid];unfold keyE;rw[←hE,if_neg (fun h=>h h0),hl]
  generalize keyE key.data.toList=KE at *
  subst h0
  clear hl hE
  by_cases h1:key.size<1
  ·have g1:(key.size:Int)<1:=by omega
   have HR:Hid (KE=5):=by rw[Hid,HK.out,if_pos (.inl h1)]
   clear HK h1
   go_enter Tryz.func31,Tryz.ntmps31
   go_wp2_with fail
   refine Calls.mono HC.out ?_
   rintro e V ⟨rfl,hb⟩
   have HB:Hid (Below w.heap.size w (V.alloc (.cells #[.int .i64 0,.int .i64 A] 35))):=hb.alloc hb.size _
   clear hb
   go_wp2
   go_ret
   exact ⟨by rw[HR.out];rfl,HB.out⟩
  ·have g1:¬(key.size:Int)<1:=by omega
   by_cases h2:256<key.size
   ·have g2:256<(key.size:Int):=by omega
    have HR:Hid (KE=5):=by rw[Hid,HK.out,if_pos (.inr h2)]
    clear HK h1 h2
    go_enter Tryz.func31,Tryz.ntmps31
    go_wp2_with fail
    refine Calls.mono HC.out ?_
    rintro e V ⟨rfl,hb⟩
    have HB:Hid (Below w.heap.size w (V.alloc (.cells #[.int .i64 0,.int .i64 A] 35))):=hb.alloc hb.size _
    clear hb
    go_wp2
    go_ret
    exact ⟨by rw[HR.out];rfl,HB.out⟩
   ·have g2:¬256<(key.size:Int):=by omega
    have HR:Hid (KE=0):=by rw[Hid,HK.out,if_neg (by omega)]
    clear HK h1 h2
    go_enter Tryz.func31,Tryz.ntmps31
    go_wp2_with fail
    refine Calls.mono HC.out ?_
    rintro e V ⟨rfl,hb⟩
    have HB:Hid (Below w.heap.size w (V.alloc (.cells #[.int .i64 0,.int .i64 A] 35))):=hb.alloc hb.size _
    clear hb
    go_wp2
    go_ret
    exact ⟨by rw[HR.out];rfl,HB.out⟩
 ·have HR:Hid (keyE key.data.toList=E):=by rw[Hid];unfold keyE;rw[←hE,if_pos h0]
  have hne:(E != 0)=true:=by simpa using h0
  generalize keyE key.data.toList=KE at *
  clear hl hE h0
  go_enter Tryz.func31,Tryz.ntmps31
  go_wp2_with fail
  refine Calls.mono HC.out ?_
  rintro e V ⟨rfl,hb⟩
  have HB:Hid (Below w.heap.size w (V.alloc (.cells #[.int .i64 E,.int .i64 A] 35))):=hb.alloc hb.size _
  clear hb
  go_wp2
  go_ret
  exact ⟨by rw[HR.out];rfl,HB.out⟩
set_option maxRecDepth 100000 in
set_option maxHeartbeats 4000000 in
theorem rwrong17_any (v:Value) (s:Sp) (w:World) (hv:SqAt w v s):Calls Tryz.prog 10 #[v] w fun e w'=>e=.returned (.int .i64 (stE s))∧Below w.heap.size w w':=by
 obtain ⟨mv,x,y,z,rfl,M,XW,YN,ZN⟩:=hv
 obtain ⟨CS,hCS⟩:∃CS,CS=spA s.k s.n s.key mv x y z s.g.rf s.g.pl:=⟨_,rfl⟩
 rw[←hCS]
 obtain ⟨W,hW⟩:∃W,W=w.alloc (.cells CS 31):=⟨_,rfl⟩
 have hb1:Below w.heap.size w W:=by rw[hW];exact (Below.refl _ w).alloc (Nat.le_refl _) _
 have q1:RowAt W w.heap.size 31 CS:=by rw[hW];exact RowAt.new w _ _
 have c0:W.cell? ⟨w.heap.size,0,none⟩=some (.int .i64 s.k):=RowAt.cell q1 (by rw[hCS];exact spA_0 _ _ _ _ _ _ _ _ _)
 have c1:W.cell? ⟨w.heap.size,1,none⟩=some (.int .i64 s.n):=RowAt.cell q1 (by rw[hCS];exact spA_1 _ _ _ _ _ _ _ _ _)
 have c2:W.cell? ⟨w.heap.size,2,none⟩=some (.string s.key):=RowAt.cell q1 (by rw[hCS];exact spA_2 _ _ _ _ _ _ _ _ _)
 have c3:W.cell? ⟨w.heap.size,3,none⟩=some mv:=RowAt.cell q1 (by rw[hCS];exact spA_3 _ _ _ _ _ _ _ _ _)
 have r4:W.rangeAt w.heap.size 4 (mac x y z s.g.rf s.g.pl).toList:=row_mid q1 4 _ (fun i u hu=>by rw[hCS,spA_mac];exact hu)
 have HKY:Hid _:=rkey17_any s.key W
 have HMT:Hid _:=rw3_any mv s.r s.L s.Z W (M.below hb1)
 have HMC:Hid _:=rgw_any (.agg (mac x y z s.g.rf s.g.pl)) s.g W ⟨x,y,z,rfl,XW.below hb1,YN.below hb1,ZN.below hb1⟩
 have HB:Hid (Below w.heap.size w W):=hb1
 have HQ:Hid (stE s=stE s):=rfl
 obtain ⟨qa,qc,_,rfl,-⟩:=id M
 obtain ⟨MA,hMA⟩:∃MA,MA=mac x y z s.g.rf s.g.pl:=⟨_,rfl⟩
 have HMZ:Hid (MA.size=55):=by rw[Hid,hMA];exact mac_size _ _ _ _ _
 rw[←hMA] at r4 HMC
 have HSTE:Hid (∀R,R=stE s→R=(if s.k=1 then inE s.n 0 25 else if s.k=2 then (if inE s.n 1 4≠0 then inE s.n 1 4 else keyE s.key.data.toList)
 else if s.k=3 then inE s.n 1 64 else if s.k=4 then keyE s.key.data.toList else if s.k=5 then matErr s.r s.L s.Z else if s.k=6 then gE s.g else 1)):=fun R h=>h
 obtain ⟨R,hR⟩:∃R,R=stE s:=⟨_,rfl⟩
 have HR:=HSTE.out R hR
 rw[←hR]
 clear hR HSTE HQ hMA hCS q1 hb1 M XW YN ZN
 generalize keyE s.key.data.toList=KE at *
 generalize matErr s.r s.L s.Z=ME at *
 generalize gE s.g=GE at *
 generalize s.k=k at *
 generalize s.n=n at *
 generalize s.key=key at *
 generalize s.r=r at *
 have key1:∀j:Int,k=j→k=j:=fun _ h=>h
 clear key1
 by_cases hk1:k<1
 ·have HV:Hid (R=1):=by rw[Hid,HR,if_neg (by omega),if_neg (by omega),if_neg (by omega),if_neg (by omega),if_neg (by omega),if_neg (by omega)]
  clear HR
  go_enter Tryz.func10,Tryz.ntmps10
  go_upto_region 1 with fail
  rw[←hW]
  clear hW
  go_wp2_with fail
  go_ret
  exact ⟨by rw[HV.out];rfl,HB.out⟩
 by_cases hk6:6<k
 ·have HV:Hid (R=1):=by rw[Hid,HR,if_neg (by omega),if_neg (by omega),if_neg (by omega),if_neg (by omega),if_neg (by omega),if_neg (by omega)]
  clear HR
  go_enter Tryz.func10,Tryz.ntmps10
  go_upto_region 1 with fail
  rw[←hW]
  clear hW
  go_wp2_with fail
  go_ret
  exact ⟨by rw[HV.out];rfl,HB.out⟩
 have hk:k=1∨k=2∨k=3∨k=4∨k=5∨k=6:=by omega
 clear hk1 hk6
 rcases hk with hk | hk | hk | hk | hk | hk
 ·subst hk
  by_cases h1:n<0
  ·have HV:Hid (R=3):=by rw[Hid,HR];skip;simp[inE,h1]
   clear HR
   go_enter Tryz.func10,Tryz.ntmps10
   go_upto_region 1 with fail
   rw[←hW]
   clear hW
   go_wp2_with fail
   go_ret
   exact ⟨by rw[HV.out];rfl,HB.out⟩
  by_cases h2:25<n
  ·have HV:Hid (R=3):=by rw[Hid,HR];skip;simp[inE,h2]
   clear HR
   go_enter Tryz.func10,Tryz.ntmps10
   go_upto_region 1 with fail
   rw[←hW]
   clear hW
   go_wp2_with fail
   go_ret
   exact ⟨by rw[HV.out];rfl,HB.out⟩
  have HV:Hid (R=0):=by rw[Hid,HR];skip;simp[inE,h1,h2]
  clear HR
  go_enter Tryz.func10,Tryz.ntmps10
  go_upto_region 1 with fail
  rw[←hW]
  clear hW
  go_wp2_with fail
  go_ret
  exact ⟨by rw[HV.out];rfl,HB.out⟩
 ·subst hk
  by_cases h1:n<1
  ·have HV:Hid (R=3):=by rw[Hid,HR];skip;simp[inE,h1]
   clear HR
   go_enter Tryz.func10,Tryz.ntmps10
   go_upto_region 1 with fail
   rw[←hW]
   clear hW
   go_wp2_with fail
   go_ret
   exact ⟨by rw[HV.out];rfl,HB.out⟩
  by_cases h2:4<n
  ·have HV:Hid (R=3):=by rw[Hid,HR];skip;simp[inE,h2]
   clear HR
   go_enter Tryz.func10,Tryz.ntmps10
   go_upto_region 1 with fail
   rw[←hW]
   clear hW
   go_wp2_with fail
   go_ret
   exact ⟨by rw[HV.out];rfl,HB.out⟩
  have HV:Hid (R=KE):=by rw[Hid,HR];skip;simp[inE,h1,h2]
  clear HR
  go_enter Tryz.func10,Tryz.ntmps10
  go_upto_region 1 with fail
  rw[←hW]
  clear hW
  go_wp2_with fail
  refine Calls.mono HKY.out ?_
  rintro e V ⟨rfl,hb⟩
  have HB2:Hid (Below w.heap.size w V):=HB.out.trans (hb.mono HB.out.size)
  clear hb
  go_wp2
  go_ret
  exact ⟨by rw[HV.out];rfl,HB2.out⟩
 ·subst hk
  by_cases h1:n<1
  ·have HV:Hid (R=3):=by rw[Hid,HR];skip;simp[inE,h1]
   clear HR
   go_enter Tryz.func10,Tryz.ntmps10
   go_upto_region 1 with fail
   rw[←hW]
   clear hW
   go_wp2_with fail
   go_ret
   exact ⟨by rw[HV.out];rfl,HB.out⟩
  by_cases h2:64<n
  ·have HV:Hid (R=3):=by rw[Hid,HR];skip;simp[inE,h2]
   clear HR
   go_enter Tryz.func10,Tryz.ntmps10
   go_upto_region 1 with fail
   rw[←hW]
   clear hW
   go_wp2_with fail
   go_ret
   exact ⟨by rw[HV.out];rfl,HB.out⟩
  have HV:Hid (R=0):=by rw[Hid,HR];skip;simp[inE,h1,h2]
  clear HR
  go_enter Tryz.func10,Tryz.ntmps10
  go_upto_region 1 with fail
  rw[←hW]
  clear hW
  go_wp2_with fail
  go_ret
  exact ⟨by rw[HV.out];rfl,HB.out⟩
 ·subst hk
  have HV:Hid (R=KE):=by rw[Hid,HR];simp
  clear HR
  go_enter Tryz.func10,Tryz.ntmps10
  go_upto_region 1 with fail
  rw[←hW]
  clear hW
  go_wp2_with fail
  refine Calls.mono HKY.out ?_
  rintro e V ⟨rfl,hb⟩
  have HB2:Hid (Below w.heap.size w V):=HB.out.trans (hb.mono HB.out.size)
  clear hb
  go_wp2
  go_ret
  exact ⟨by rw[HV.out];rfl,HB2.out⟩
 ·subst hk
  have HV:Hid (R=ME):=by rw[Hid,HR];simp
  clear HR
  go_enter Tryz.func10,Tryz.ntmps10
  go_upto_region 1 with fail
  rw[←hW]
  clear hW
  go_wp2_with fail
  refine Calls.mono HMT.out ?_
  rintro e V ⟨rfl,rfl⟩
  go_wp2
  go_ret
  exact ⟨by rw[HV.out];rfl,HB.out⟩
 ·subst hk
  have HV:Hid (R=GE):=by rw[Hid,HR];simp
  clear HR
  go_enter Tryz.func10,Tryz.ntmps10
  go_upto_region 1 with fail
  rw[←hW]
  clear hW
  go_upto_region 10 with fail
  go_wp2_with (first | refine wpList_load_arr rfl 29 _ rfl w.heap.size 4 rfl MA _ r4 Tryz.underlying29 rfl (by rw[HMZ.out];exact v_info_mac) ?_)
  refine Calls.mono HMC.out ?_
  rintro e V ⟨rfl,hb⟩
  have HB2:Hid (Below w.heap.size w V):=HB.out.trans (hb.mono HB.out.size)
  clear hb
  go_wp2
  go_ret
  exact ⟨by rw[HV.out];rfl,HB2.out⟩
end Go.Proofs.YtkohhdkkbaifoaaGreatDoor

/-
  The document's All (chapter 17).
-/
namespace Go.Proofs.YtkohhdkkbaifoaaGreatDoor
open Go.RowKit PK Vg

theorem f_built0:Tryz.prog.built 35 []=some #[.int .i64 0,.int .i64 0]:=by kernel_rfl
theorem f_built1 (E:Int):Tryz.prog.built 35 [(0,.int .i64 E)]=some #[.int .i64 E,.int .i64 0]:=by kernel_rfl
theorem f_built2 (E A:Int):Tryz.prog.built 35 [(0,.int .i64 E),(1,.int .i64 A)]=some #[.int .i64 E,.int .i64 A]:=by kernel_rfl
theorem fault_set {W:World} {b:Nat} {x y:Value} (h:RowAt W b 35 #[x,y]) (u v:Value):RowAt ((W.setCell ⟨b,0,none⟩ u).setCell ⟨b,1,none⟩ v) b 35 #[u,v]:=(h.set 0 u).set 1 v
set_option maxRecDepth 100000 in
set_option maxHeartbeats 4000000 in
theorem rall17_any (v:Value) (n:Nat) (l:Nat→Sp) (w:World) (hv:ChAt w v n l):Calls Tryz.prog 41 #[v] w fun e w'=>e=.returned (fltV (chE n l) (chA n l))∧Below w.heap.size w w':=by
 obtain ⟨a,cap,R,rfl,hm,hr,hs⟩:=hv
 obtain ⟨W1,hW1⟩:∃W1,W1=w.alloc (.cells #[.int .i64 0,.int .i64 0] 35):=⟨_,rfl⟩
 have hb1:Below w.heap.size w W1:=by rw[hW1];exact (Below.refl _ w).alloc (Nat.le_refl _) _
 have q1:RowAt W1 w.heap.size 35 #[.int .i64 0,.int .i64 0]:=by rw[hW1];exact RowAt.new w _ _
 unfold maxLen at hm
 by_cases hn:64<n
 ·have hn2:64<(n:Int):=by omega
  have hE:chE n l=5:=by unfold chE;rw[if_pos hn]
  have hA:chA n l=0:=by unfold chA;rw[if_pos hn]
  rw[hE,hA]
  have c0:=RowAt.cell q1 (i:=0) rfl
  have c1:=RowAt.cell q1 (i:=1) rfl
  have f0:=RowAt.frozen q1 0
  have f1:=RowAt.frozen q1 1
  have HQ:Hid _:=fault_set q1 (.int .i64 5) (.int .i64 0)
  have HB:Hid (Below w.heap.size w ((W1.setCell ⟨w.heap.size,0,none⟩ (.int .i64 5)).setCell ⟨w.heap.size,1,none⟩ (.int .i64 0))):=(hb1.setCell (p:=⟨w.heap.size,0,none⟩) (Nat.le_refl _) _).setCell (p:=⟨w.heap.size,1,none⟩) (Nat.le_refl _) _
  clear hE hA hr hs hn q1 hb1
  go_enter Tryz.func41,Tryz.ntmps41
  go_upto_region 1 with fail
  rw[←hW1]
  clear hW1
  go_wp2_with (first | refine wpList_bA rfl 35 [(0,_)] rfl [(0,.int .i64 5)] rfl _ (f_built1 5) ?_)
  exact ⟨rfl,_,results_c1 rfl _ _ w.heap.size 35 #[.int .i64 5,.int .i64 0] (0,0) _ rfl HQ.out Tryz.underlying35 rfl f_info,rfl,HB.out⟩
 ·have hn2:¬64<(n:Int):=by omega
  have HR:Hid (∀i,i<n→∃b o,a=some ⟨b,o,none⟩∧w.rangeAt b (o+i*59) (R i).toList):=hr
  have HS:Hid (∀i,i<n→SqAt w (.agg (R i)) (l i)):=hs
  have HN:Hid (n≤64):=by rw[Hid];omega
  have HQ:Hid (chE n l=((firE l n).map fun i=>stE (l i)).getD 0):=by rw[Hid];unfold chE;rw[if_neg (by omega)]
  have HA:Hid (chA n l=(firE l n).getD 0):=by rw[Hid];unfold chA;rw[if_neg (by omega)]
  generalize chE n l=E at *
  generalize chA n l=A at *
  have HB1:Hid (Below w.heap.size w W1):=hb1
  have HQ1:Hid (RowAt W1 w.heap.size 35 #[.int .i64 0,.int .i64 0]):=q1
  clear hr hs hm hn q1 hb1
  go_enter Tryz.func41,Tryz.ntmps41
  go_upto_region 1 with fail
  rw[←hW1]
  clear hW1
  go_wp2_with fail
  go_loopw [12] (fun i X=>∃k:Nat,k≤n∧i=.int .i64 (k:Nat)∧Hid (∀j,j<k→stE (l j)=0)∧Hid (RowAt X w.heap.size 35 #[.int .i64 0,.int .i64 0])∧Below w.heap.size w X) (fun i _=>((n:Int)-intOf i).toNat)
  case atStart=>exact ⟨0,by omega,rfl,fun j hj=>by omega,HQ1.out,HB1.out⟩
  case round =>
   obtain ⟨k,hk,rfl,HK,HF,hbe⟩:=hrel
   by_cases hlt:k<n
   ·obtain ⟨bw,ow,rfl,hrg⟩:=HR.out k hlt
    have hrg2:=rangeAt_below hrg hbe
    have hsk:=(HS.out k hlt).below hbe
    have HSZ:Hid ((R k).size=59):=hsk.cells.1
    have HONE:Hid ((R k).all (·.oneCell')=true):=hsk.cells.2
    have HLT:Hid (k<n):=hlt
    have hlt2:(k:Int)<(n:Int):=by omega
    have hz59:=o_zero s_zero
    generalize hck:R k=CS at *
    have HWB:Hid _:=hbe
    go_upto_region 6 with (first | refine wpList_load_arr rfl 31 _ rfl bw (ow+k*59) rfl CS _ hrg2 Tryz.underlying31 rfl (by rw[HSZ.out];exact s_info) ?_ | refine wpList_store_row rfl 31 _ _ rfl wr.heap.size CS rfl rfl 31 _ (RowAt.new wr _ _) (by rw[HSZ.out];exact s_info) (by rw[HSZ.out,spA_size]) HONE.out ?_)
    have hr4:=(RowAt.new wr 31 (spA 0 0 ⟨#[]⟩ (.slice none 0 0) (.slice none 0 0) (.slice none 0 0) (.slice none 0 0) (fun _=>0) (fun _=>0))).row CS
    have hbw:Below wr.heap.size wr ((wr.alloc (.cells (spA 0 0 ⟨#[]⟩ (.slice none 0 0) (.slice none 0 0) (.slice none 0 0) (.slice none 0 0) (fun _=>0) (fun _=>0)) 31)).setRow wr.heap.size CS):=PK.Below.setRow ((Below.refl _ wr).alloc (Nat.le_refl _) _) wr.heap.size (Nat.le_refl _) _
    have HF4:Hid (RowAt ((wr.alloc (.cells (spA 0 0 ⟨#[]⟩ (.slice none 0 0) (.slice none 0 0) (.slice none 0 0) (.slice none 0 0) (fun _=>0) (fun _=>0)) 31)).setRow wr.heap.size CS) w.heap.size 35 #[.int .i64 0,.int .i64 0]):=RowAt.below HF.out hbw (RowAt.lt HF.out)
    have hb4:=HWB.out.trans (hbw.mono HWB.out.size)
    generalize (wr.alloc (.cells (spA 0 0 ⟨#[]⟩ (.slice none 0 0) (.slice none 0 0) (.slice none 0 0) (.slice none 0 0) (fun _=>0) (fun _=>0)) 31)).setRow wr.heap.size CS=V at *
    obtain ⟨q,hq⟩:∃q,q=wr.heap.size:=⟨_,rfl⟩
    rw[←hq] at hr4 ⊢
    have HSV:SqAt V (.agg CS) (l k):=by rw[←hck];exact (HS.out k hlt).below hb4
    have HWR:Hid _:=rwrong17_any _ _ V HSV
    have HNK:Hid (stE (l k)=0→∀j,j<k+1→stE (l j)=0):=fun h j hj=>by
     by_cases e:j=k
     ·rw[e];exact h
     ·exact HK.out j (by omega)
    have HBD:Hid (stE (l k)≠0→E=stE (l k)∧(A:Int)=k):=fun h=>by
     have hf:=firE_of HLT.out HK.out h
     rw[HQ.out,HA.out,hf]
     exact ⟨rfl,rfl⟩
    have HB4:Hid _:=hb4
    generalize stE (l k)=X at *
    clear hq hrg hrg2 hsk hz59 HONE HWB hbe hck HSV hb4 hbw hlt
    go_wp2_with (first | refine wpList_load_row rfl 31 _ rfl q rfl 31 CS (0,0) _ hr4 Tryz.underlying31 rfl (by rw[HSZ.out];exact s_info) ?_)
    refine Calls.mono HWR.out ?_
    rintro e V2 ⟨rfl,hb⟩
    have HB5:Hid (Below w.heap.size w V2):=HB4.out.trans (hb.mono HB4.out.size)
    have hf5:=RowAt.below HF4.out hb (RowAt.lt HF4.out)
    clear hb hr4 HWR
    by_cases hx0:X=0
    ·subst hx0
     have HN2:Hid (∀j,j<k+1→stE (l j)=0):=HNK.out rfl
     have HF5:Hid _:=hf5
     clear HNK HBD hf5
     go_wp2_with fail
     go_roundw
     case rel=>first | exact ⟨k+1,HLT.out,by go_num,HN2.out,HF5.out,HB5.out⟩ | refine Hid.out ?_
     case measure=>have:=HLT.out;simp[intOf] <;> omega
    ·have hne:(X != 0)=true:=by simpa using hx0
     have HBE:Hid (E=X∧(A:Int)=k):=HBD.out hx0
     have c0:=RowAt.cell hf5 (i:=0) rfl
     have c1:=RowAt.cell hf5 (i:=1) rfl
     have f0:=RowAt.frozen hf5 0
     have f1:=RowAt.frozen hf5 1
     have HF6:Hid _:=fault_set hf5 (.int .i64 X) (.int .i64 (k:Int))
     have HB6:Hid (Below w.heap.size w ((V2.setCell ⟨w.heap.size,0,none⟩ (.int .i64 X)).setCell ⟨w.heap.size,1,none⟩ (.int .i64 (k:Int)))):=(HB5.out.setCell (p:=⟨w.heap.size,0,none⟩) (Nat.le_refl _) _).setCell (p:=⟨w.heap.size,1,none⟩) (Nat.le_refl _) _
     clear hx0 hf5 HNK HBD
     go_wp2_with (first | refine wpList_bA rfl 35 [(0,_),(1,_)] rfl [(0,.int .i64 X),(1,.int .i64 (k:Int))] rfl _ (f_built2 X k) ?_)
     exact ⟨rfl,_,results_c1 rfl _ _ w.heap.size 35 #[.int .i64 X,.int .i64 (k:Int)] (0,0) _ rfl HF6.out Tryz.underlying35 rfl f_info,by rw[HBE.out.1,HBE.out.2];rfl,HB6.out⟩
   ·obtain rfl:k=n:=by omega
    have HE:Hid (E=0∧A=0):=by rw[Hid,HQ.out,HA.out,firE_all HK.out];exact ⟨rfl,rfl⟩
    have hnn:¬((k:Nat):Int)<((k:Nat):Int):=by omega
    have c0:=RowAt.cell HF.out (i:=0) rfl
    have c1:=RowAt.cell HF.out (i:=1) rfl
    have f0:=RowAt.frozen HF.out 0
    have f1:=RowAt.frozen HF.out 1
    have HF6:Hid _:=fault_set HF.out (.int .i64 0) (.int .i64 0)
    have HB6:Hid (Below w.heap.size w ((wr.setCell ⟨w.heap.size,0,none⟩ (.int .i64 0)).setCell ⟨w.heap.size,1,none⟩ (.int .i64 0))):=(hbe.setCell (p:=⟨w.heap.size,0,none⟩) (Nat.le_refl _) _).setCell (p:=⟨w.heap.size,1,none⟩) (Nat.le_refl _) _
    clear hlt hbe
    go_wp2_with (first | refine wpList_bA rfl 35 [] rfl [] rfl _ f_built0 ?_)
    exact ⟨rfl,_,results_c1 rfl _ _ w.heap.size 35 #[.int .i64 0,.int .i64 0] (0,0) _ rfl HF6.out Tryz.underlying35 rfl f_info,by rw[HE.out.1,HE.out.2];rfl,HB6.out⟩
end Go.Proofs.YtkohhdkkbaifoaaGreatDoor

/-
  The statements' closed fact, asked first.
-/
namespace Go.Proofs.YtkohhdkkbaifoaaGreatDoor
open Go.RowKit PK

end Go.Proofs.YtkohhdkkbaifoaaGreatDoor

/-
  The laws on whole arrays, as this program's walks meet them.
-/
namespace Go.Proofs.YtkohhdkkbaifoaaGreatDoor
open Go.RowKit PK

section
variable {ops:Array Oper} {rest:List Oper} {op:Oper} {a:Act} {Q:Exit→Act→World→Prop}
theorem load_permR {w:World} (hw:Region.wanted op (yielded ops a.tmps)=true) (x:Operand) (ho:op.op=.load 27 x) (g:Nat) (hx:a.eval x=.pointer (some ⟨g,0,none⟩)) (f:Nat→Int) (hr:RowAt w g 27 (ints 26 f))
  (h:wpList Tryz.prog ops Q rest (a.put op.dst (.agg (ints 26 f))) w):wpList Tryz.prog ops Q (op :: rest) a w :=
 wpList_step fun K hK=>by
  rw[if_pos hw]
  exact wp_load_row 27 x ho g hx 27 (ints 26 f) (0,0) _ hr Tryz.underlying27 rfl (by rw[ints_size];exact info_perm) (hK _ _ h)
end
section
variable {P:Program} {ops:Array Oper} {Q:Exit→Act→World→Prop} {md:Region.Mode} {S:World→Prop}
end
end Go.Proofs.YtkohhdkkbaifoaaGreatDoor

/-
  Contracts of the document's own Wrong, Two, From, Long, First.
-/
namespace Go.Proofs.YtkohhdkkbaifoaaGreatDoor
open Go.RowKit PK

theorem run_slice_permR (b k:Nat) (hk:k≤26) (W:World):(Instr.sliceAt 27 (.pointer (some ⟨b,0,none⟩)) none (some (.int .i64 (k:Int))) none).run Tryz.prog W=.ok (.slice (some ⟨b,0,none⟩) k 26) W:=by
 have ha:Tryz.prog.arrayLen 27=26:=by kernel_rfl
 have he:Tryz.prog.elem 27=3:=by kernel_rfl
 have h1:=run_sliceAt_array_h (P:=Tryz.prog) W 27 ⟨b,0,none⟩ (by rw[ha,he];exact Tryz.underlying27) .i64 (k:Int) (by omega) (by rw[ha];omega)
 rw[h1,ha,he]
 cases hq:Tryz.prog.info? 3 with
 | none=>have:=info_int;simp[hq] at this
 | some i =>
  have hs:i.size=1:=by have:=info_int;simpa [hq] using this
  simp[sizeOf,typeInfo,hq,hs,slicedAt,Addr.add_mid]

set_option maxHeartbeats 1000000 in
theorem rwrong_anyR (f:Nat→Int) (w:World):Calls Tryz.prog 70 #[.agg (ints 26 f)] w fun e w'=>e=.returned (.int .i64 (Pm.wrong f))∧Below w.heap.size w w':=by
 go_enter Tryz.func70,Tryz.ntmps70
 go_wp2_with (refine wpList_load_row rfl 27 _ rfl w.heap.size rfl 27 (ints 26 f) (0,0) _ (RowAt.new w _ _) Tryz.underlying27 rfl (by rw[ints_size];exact info_perm) ?_)
 have hrow:=RowAt.new w 27 (ints 26 f)
 have hb:Below w.heap.size w (w.alloc (.cells (ints 26 f) 27)):=(Below.refl _ _).alloc (Nat.le_refl _) _
 generalize w.alloc (.cells (ints 26 f) 27)=W at hrow hb ⊢
 go_loop [8] (fun i=>∃k:Nat,k≤26∧i=.int .i64 k∧Hid (Pm.wrongN f k=0)) (fun i=>(26-intOf i).toNat)
 case atStart=>exact ⟨0,by omega,rfl,rfl⟩
 case round =>
  obtain ⟨k,hk,rfl,HN⟩:=hrel
  by_cases hlt:k<26
  ·have hg:=run_index_ints 27 3 26 Tryz.underlying27 Tryz.underlying3 info_int f k hlt
   by_cases hr:f k<0∨26≤f k
   ·have H:Hid (Pm.wrong f=3):=by rw[Hid,Pm.wrong_stop f k HN.out (by rw[Pm.bad_range f k hr];decide) hlt,Pm.bad_range f k hr]
    rcases hr with hr | hr
    ·go_wp2
     go_ret
     exact ⟨ret_int H.out.symm,hb⟩
    ·have hr0:¬f k<0:=by omega
     have hr1:25<f k:=by omega
     go_wp2
     go_ret
     exact ⟨ret_int H.out.symm,hb⟩
   ·obtain ⟨n,hn⟩:∃n:Nat,f k=n:=⟨(f k).toNat,by omega⟩
    have hn26:n<26:=by omega
    have hn25:¬(25<n):=by omega
    have HM:Hid (f k=n):=hn
    rw[hn] at hg
    clear hr hn
    have hsl:=run_slice_permR w.heap.size k (by omega)
    go_wp2
    clear hsl
    go_loop [21] (fun i=>∃m:Nat,m≤k∧i=.int .i64 m∧Hid (Pm.seen f m n=false)) (fun i=>(k-intOf i).toNat)
    case atStart=>exact ⟨0,by omega,rfl,rfl⟩
    case round =>
     obtain ⟨m,hm,rfl,HS⟩:=hrel
     by_cases hmk:m<k
     ·have hc:=hrow.cell (ints_get f (i:=m) (by omega))
      have hss:=Pm.seen_succ f m n
      rw[HS.out,Bool.false_or] at hss
      cases he:(f m==(n:Int))
      ·rw[he] at hss
       have HSS:Hid (Pm.seen f (m+1) n=false):=hss
       clear hss
       go_wp2
       exact ⟨⟨m+1,by omega,by go_num,HSS⟩,by simp[intOf];omega⟩
      ·have hsk:Pm.seen f k n=true:=by
        unfold Pm.seen
        simp
        exact ⟨m,hmk,eq_of_beq he⟩
       have H8:Hid (Pm.wrong f=8):=by
        have h8:=Pm.bad_fit f k n HM.out hn26 hsk
        rw[Hid,Pm.wrong_stop f k HN.out (by rw[h8];decide) hlt,h8]
       clear hss hsk
       go_wp2
       go_ret
       exact ⟨ret_int H8.out.symm,hb⟩
     ·have HMK:Hid (m=k):=by rw[Hid];omega
      go_wp2
      exact ⟨⟨k+1,by omega,by go_num,by rw[Hid,Pm.wrongN_succ f k HN.out,Pm.bad_ok f k n HM.out hn26 (by rw[←HMK.out];exact HS.out)]⟩,by simp[intOf];omega⟩
  ·have HK:Hid (k=26):=by rw[Hid];omega
   go_wp2
   go_ret
   exact ⟨ret_int (Pm.wrong_end f k HN.out HK.out).symm,hb⟩

end Go.Proofs.YtkohhdkkbaifoaaGreatDoor

/-
  Contracts of the document's own First and Print, of perm.Print where something is wrong, and of the statements' own same.
-/
namespace Go.Proofs.YtkohhdkkbaifoaaGreatDoor
open Go.RowKit PK

theorem boxed1 {w W1:World} {T:TypeId} {f:Nat→Int} (hb:Below (w.alloc (.cells (ints 26 f) T)).heap.size (w.alloc (.cells (ints 26 f) T)) W1):RowAt W1 w.heap.size T (ints 26 f)∧Below w.heap.size w W1∧w.heap.size+1≤W1.heap.size:=by
 have hs:=hb.size
 simp at hs
 exact ⟨RowAt.below (RowAt.new w _ _) hb (by simp),((Below.refl _ _).alloc (Nat.le_refl _) _).trans (hb.mono (by simp)),hs⟩

theorem enc_letter (x:Nat) (hx:x<26):Utf8.encode (65+(x:Int))=⟨#[lb x]⟩:=by
 have h1:Utf8.valid (65+(x:Int))=true:=by simp[Utf8.valid];omega
 have h2:(65+(x:Int)).toNat=65+x:=by omega
 unfold Utf8.encode
 simp only[h1,h2,if_true]
 rw[if_pos (by omega)]
 rfl
theorem cat_enc (S:ByteArray) (x:Nat) (hx:x<26):(S++Utf8.encode (65+(x:Int))).data.toList=S.data.toList++[lb x]:=by
 rw[enc_letter x hx];simp
theorem cat_any (S T:ByteArray):(S++T).data.toList=S.data.toList++T.data.toList:=by simp

def leftTo (p:Nat→Nat) (i x:Nat):Nat:=((List.range 27).find? fun t=>Pm.iter p t x==i).getD 0
theorem left_iter {p:Nat→Nat} (hp:Pm.IsPerm p) (i:Nat) (hi:i<26) (m:Nat) (h1:1≤m) (h2:m≤Pm.len p i):leftTo p i (Pm.iter p m i)=Pm.len p i-m:=by
 have hl:=Pm.len_is hp i hi
 have hle:=hl.le
 have htrue:Pm.iter p (Pm.len p i-m) (Pm.iter p m i)=i:=by
  rw[←Pm.iter_add]
  have:Pm.len p i-m+m=Pm.len p i:=by omega
  rw[this];exact hl.ret
 unfold leftTo
 cases h:(List.range 27).find? fun t=>Pm.iter p t (Pm.iter p m i)==i with
 | none =>
  have:=List.find?_eq_none.1 h (Pm.len p i-m) (by simp;omega)
  simp[htrue] at this
 | some y =>
  have hy:=List.find?_some h
  have hb:=Pm.find_range _ _ _ h
  simp at hy ⊢
  have hle2:y≤Pm.len p i-m:=Nat.le_of_not_lt fun c=>by
   have:=hb _ c
   simp[htrue] at this
  by_cases e:y=Pm.len p i-m
  ·exact e
  ·rw[←Pm.iter_add] at hy
   exact absurd hy (hl.min (y+m) (by omega) (by omega))

set_option maxHeartbeats 1000000 in
theorem rfirst_any (p : Nat → Nat) (hp : Pm.IsPerm p) (i : Nat) (hi : i < 26) (w : World) :
    Calls Tryz.prog 159 #[.agg (ints 26 (Pm.up p)), .int .i64 (i : Nat)] w fun e w' => e = .returned (.bool (!Pm.met p i i)) ∧ Below w.heap.size w w' := by
  have hlen := Pm.len_is hp i hi
  go_enter Tryz.func159, Tryz.ntmps159
  have hc0 : (ints 26 (Pm.up p))[i]? = some (.int .i64 (p i : Nat)) := ints_get (Pm.up p) hi
  go_wp2
  have hrow := RowAt.new w 27 (ints 26 (Pm.up p))
  have hb : Below w.heap.size w (w.alloc (.cells (ints 26 (Pm.up p)) 27)) := (Below.refl _ _).alloc (Nat.le_refl _) _
  generalize w.alloc (.cells (ints 26 (Pm.up p)) 27) = W at hrow hb ⊢
  clear hc0
  go_loop [5] (fun a => ∃ m : Nat, 1 ≤ m ∧ m ≤ Pm.len p i ∧ a = .int .i64 (Pm.iter p m i : Nat) ∧ Hid (∀ j, 0 < j → j < m → i ≤ Pm.iter p j i)) (fun a => leftTo p i (intOf a).toNat)
  case atStart => exact ⟨1, Nat.le_refl _, hlen.pos, rfl, fun j h1 h2 => by omega⟩
  case round =>
    obtain ⟨m, hm1, hm2, rfl, HA⟩ := hrel
    have hx := Pm.iter_lt hp i hi m
    have hle := hlen.le
    by_cases hlt : m < Pm.len p i
    · have hne := hlen.min m (by omega) hlt
      have HS : Hid (Pm.iter p (m + 1) i = p (Pm.iter p m i)) := rfl
      have hbne : (((Pm.iter p m i : Nat) : Int) != ((i : Nat) : Int)) = true := by simp; omega
      have hc := hrow.cell (ints_get (Pm.up p) hx)
      simp only [Pm.up] at hc
      have HL1 : Hid (leftTo p i (Pm.iter p m i) = Pm.len p i - m) := left_iter hp i hi m hm1 hm2
      have HL2 : Hid (leftTo p i (Pm.iter p (m + 1) i) = Pm.len p i - (m + 1)) := left_iter hp i hi (m + 1) (by omega) (by omega)
      by_cases hsm : Pm.iter p m i < i
      · have HM : Hid (Pm.met p i i = true) := (Pm.met_iff p i i).2 ⟨Pm.iter p m i, hsm, Pm.cyc_symm hp _ i hi ((Pm.mem_cyc hp i hi _).2 ⟨m, rfl⟩)⟩
        generalize Pm.iter p m i = x at *
        clear hne
        go_wp2
        go_ret
        exact ⟨ret_bool (by rw [HM.out]; rfl), hb⟩
      · have HA2 : Hid (∀ j, 0 < j → j < m + 1 → i ≤ Pm.iter p j i) := fun j h1 h2 => by
          by_cases e : j = m
          · subst e; omega
          · exact HA.out j h1 (by omega)
        have HMS : Hid (leftTo p i (Pm.iter p (m + 1) i) < leftTo p i (Pm.iter p m i)) := by rw [Hid, HL1.out, HL2.out]; omega
        rw [HS.out] at HMS
        generalize Pm.iter p m i = x at *
        clear hne HL1 HL2
        go_wp2
        exact ⟨⟨m + 1, by omega, by omega, by rw [HS.out], HA2⟩, by simpa [intOf] using HMS.out⟩
    · have hret : Pm.iter p m i = i := by have : m = Pm.len p i := by omega
                                          rw [this]; exact hlen.ret
      have hbe : (((Pm.iter p m i : Nat) : Int) != ((i : Nat) : Int)) = false := by rw [hret]; simp
      have HM : Hid (Pm.met p i i = false) := by
        rw [Hid]
        cases hmt : Pm.met p i i with
        | false => rfl
        | true =>
          obtain ⟨j, hj, hji⟩ := (Pm.met_iff p i i).1 hmt
          obtain ⟨t, ht, e⟩ := List.mem_map.1 (Pm.cyc_symm hp i j (by omega) hji)
          simp at ht
          by_cases h0 : t = 0
          · subst h0
            have : i = j := e
            omega
          · have := HA.out t (by omega) (by omega)
            omega
      clear hret
      go_wp2
      go_ret
      exact ⟨ret_bool (by rw [HM.out]; rfl), hb⟩

end Go.Proofs.YtkohhdkkbaifoaaGreatDoor
