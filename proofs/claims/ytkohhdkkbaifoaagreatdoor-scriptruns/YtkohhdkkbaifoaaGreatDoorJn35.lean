/-
  Several texts, joined: HRInv, HRef3, HRInv2, WRBad, WRWrite.
-/
import Derived.Test.YtkohhdkkbaifoaaGreatDoorJn34
import Derived.Test.YtkohhdkkbaifoaaGreatDoorJn33
import Derived.Test.YtkohhdkkbaifoaaGreatDoorJn14
import Derived.Test.YtkohhdkkbaifoaaGreatDoorJn23
import Derived.RegionTactic
import Derived.Test.YtkohhdkkbaifoaaGreatDoorJn15
import Derived.Lib.ConvBytes
/-
  Contract of the document's Inverse (Cramer).
-/
namespace Go.Proofs.YtkohhdkkbaifoaaGreatDoor
open Go.RowKit PK

def unitF (k:Nat):Nat→Int:=fun r=>if r=k then 1 else 0
theorem with_cof (m:Nat) (h:m<4) (A:Nat→Nat→Int) (x k:Nat) (hx:x<m+1) (hk:k<m+1):dI (m+1) (withF A x (unitF k))=sgI (k+x) (dI m (minor A k x)):=by
 obtain rfl | rfl | rfl | rfl:m=0∨m=1∨m=2∨m=3:=by omega
 ·obtain rfl:x=0:=by omega
  obtain rfl:k=0:=by omega
  simp[dI,sumTo,sgI,withF,unitF]
 ·obtain rfl | rfl:x=0∨x=1:=by omega
  all_goals obtain rfl | rfl:k=0∨k=1:=by omega
  all_goals simp[dI,sumTo,sgI,minor,skip,withF,unitF]
 ·obtain rfl | rfl | rfl:x=0∨x=1∨x=2:=by omega
  all_goals obtain rfl | rfl | rfl:k=0∨k=1∨k=2:=by omega
  all_goals simp[dI,sumTo,sgI,minor,skip,withF,unitF]
  all_goals grind
 ·obtain rfl | rfl | rfl | rfl:x=0∨x=1∨x=2∨x=3:=by omega
  all_goals obtain rfl | rfl | rfl | rfl:k=0∨k=1∨k=2∨k=3:=by omega
  all_goals simp[dI,sumTo,sgI,minor,skip,withF,unitF]
  all_goals grind
theorem cramer (m:Nat) (h:m<4) (A:Nat→Nat→Int) (x k:Nat) (hx:x<m+1) (hk:k<m+1):detL (m+1) (withF A x (unitF k))=cofL m A k x:=by
 have h1:=cofL_mod m A k x
 have h2:=cofL_bound m A k x
 rw[detL_mod,with_cof m h A x k hx hk,←h1]
 omega
theorem with_good {n:Nat} {Z:Nat→Nat→Int} (hZ:∀r,r<n→∀c,c<n→0≤Z r c∧Z r c<26) (x k:Nat):∀r,r<n→∀c,c<n→0≤withF Z x (unitF k) r c∧withF Z x (unitF k) r c<26:=fun r hr c hc=>by
 unfold withF unitF
 split
 ·split <;> omega
 ·exact hZ r hr c hc
def uTo (d:Int):Nat→Int
 | 0=>-1
 | k+1=>if (d*((k:Nat):Int)) % 26==1 then ((k:Nat):Int) else uTo d k
theorem uTo_all (d:Int) (hd:0≤d∧d<26):uTo d 26=if (recOf d).2=0 then (recOf d).1 else -1:=by
 obtain ⟨n,rfl⟩:∃n:Nat,d=n:=⟨d.toNat,by omega⟩
 have hn:n<26:=by omega
 have key:∀n,n<26→uTo ((n:Nat):Int) 26=if (recOf ((n:Nat):Int)).2=0 then (recOf ((n:Nat):Int)).1 else -1:=by decide +kernel
 exact key n hn
set_option maxRecDepth 100000 in
set_option maxHeartbeats 2000000 in
theorem rinv_ok (v:Value) (n:Nat) (L:Nat→Nat) (Z:Nat→Nat→Int) (hg:GoodM n Z) (hL:∀r,r<n→L r=n) (hr:(recOf (detL n Z)).2=0) (w:World) (hv:MatAt w v n L Z) :
  Calls Tryz.prog 87 #[v] w fun e w'=>∃x,e=.returned (.tuple #[x,.int .i64 0])∧MatAt w' x n (fun _=>n) (invL n Z)∧Below w.heap.size w w':=by
 obtain ⟨i0,hi0,hz0,hz1,hz2⟩:=info_parts h_info_int
 obtain ⟨j0,hj0,hy0,hy1,hy2⟩:=info_parts h_info_ints
 have H0:Hid (matErr n L Z=0):=(matErr_zero n L Z).2 ⟨hg,hL⟩
 have HV:=(show Hid (MatAt w v n L Z) from hv)
 have hd:=detL_bound n Z
 have HU:Hid (uTo (detL n Z) 26=(recOf (detL n Z)).1):=by rw[Hid,uTo_all _ hd,if_pos hr]
 have hub:=recOf_bound (detL n Z)
 have h1:=hg.pos
 have h4:=hg.le
 obtain ⟨m,hm⟩:∃m,n=m+1:=⟨n-1,by omega⟩
 have HINV:Hid (∀x,x<n→∀k,k<n→((recOf (detL n Z)).1*detL n (withF Z x (unitF k))) % 26=invL n Z x k):=fun x hx k hk=>by
  subst hm
  rw[cramer m (by omega) Z x k hx hk]
  rfl
 have HZ:=(show Hid (∀r,r<n→∀c,c<n→0≤Z r c∧Z r c<26) from hg.num)
 have HM2:=(show Hid (MatAt w v n (fun _=>n) Z) from hv.square hL)
 obtain ⟨a0,c0,rfl,_⟩:=hv.len
 have hmk2:=run_make_row' (P:=Tryz.prog) 25 3 (.int .i64 0) 8 Tryz.underlying25 h_info_int rfl .i64 .i64 n (by omega) (by omega)
 rw[made_tab] at hmk2
 have HLB:=(show Hid (Calls Tryz.prog 140 #[.slice a0 n c0] w fun e w'=>e=.returned (.int .i64 (detL n Z))∧Below w.heap.size w w') from leib_any n h1 h4 Z HZ.out _ w HM2.out)
 clear hv hr hg hm
 go_enter Tryz.func87,Tryz.ntmps87
 go_wp2_with fail
 refine Calls.mono (rw3_any _ n L Z w HV.out) ?_
 rintro e W1 ⟨rfl,rfl⟩
 rw[H0.out]
 go_wp2_with fail
 refine Calls.mono HLB.out ?_
 rintro e W0 ⟨rfl,hb0⟩
 generalize detL n Z=d at *
 generalize (recOf d).1=u at *
 have hz0':=hb0.size
 go_wp2
 go_loop [7,6] (fun i a=>∃k:Nat,k≤26∧i=.int .i64 k∧a=.int .i64 (uTo d k)) (fun i _=>(26-intOf i).toNat)
 case atStart=>exact ⟨0,by omega,rfl,rfl⟩
 case round =>
  obtain ⟨k,hk,rfl,rfl⟩:=hrel
  by_cases hkl:k<26
  ·obtain ⟨p,hp⟩:∃p,p=d*(k:Int):=⟨_,rfl⟩
   have hpb:=prod_bound hd (b:=(k:Int)) (by omega)
   have HST:Hid (uTo d (k+1)=if p % 26==1 then ((k:Nat):Int) else uTo d k):=by rw[Hid,hp];rfl
   rw[←hp] at hpb
   have hpw:IntKind.i64.wrap (d*(k:Int))=p:=by rw[←hp,IntKind.wrap_i64];omega
   clear hp
   by_cases he:(p % 26==1)=true
   ·have HE:Hid (uTo d (k+1)=((k:Nat):Int)):=by rw[Hid,HST.out,if_pos he]
    go_wp2
    exact ⟨⟨k+1,by omega,by go_num,by rw[HE.out]⟩,by simp[intOf];omega⟩
   ·have HE:Hid (uTo d (k+1)=uTo d k):=by rw[Hid,HST.out,if_neg he]
    have he':(p % 26==1)=false:=by simpa using he
    clear he
    go_wp2
    exact ⟨⟨k+1,by omega,by go_num,by rw[HE.out]⟩,by simp[intOf];omega⟩
  ·have hk26:k=26:=by omega
   subst hk26
   rw[HU.out]
   go_wp2
   go_loopw [34,8] (fun i v W=>∃x:Nat,x≤n∧i=.int .i64 x∧OwnsM W w.heap.size v (rowsL n (invL n Z) x)∧Below w.heap.size w W) (fun i _ _=>((n:Int)-intOf i).toNat)
   case atStart=>exact ⟨0,by omega,rfl,OwnsM.nil _ _,hb0⟩
   case round =>
    obtain ⟨x,hx,rfl,hown,hb⟩:=hrel
    have hsz:=hb.size
    by_cases hlt:x<n
    ·have HOWN:=(show Hid (OwnsM wr w.heap.size u8 (rowsL n (invL n Z) x)) from hown)
     clear hown
     obtain ⟨W1,rfl⟩:∃W1,W1=wr:=⟨_,rfl⟩
     go_wp2
     go_loopw [39,10] (fun i v W=>∃k:Nat,k≤n∧i=.int .i64 k∧OwnsI W W1.heap.size v ((List.range k).map (invL n Z x))∧Below W1.heap.size W1 W) (fun i _ _=>((n:Int)-intOf i).toNat)
     case atStart=>exact ⟨0,by omega,rfl,OwnsI.nil _ _,Below.refl _ _⟩
     case round =>
      obtain ⟨k,hk,rfl,hro,hb2⟩:=hrel
      have hsz2:=hb2.size
      by_cases hkl:k<n
      ·have ro:=RowAt.new wr 3 (tab n fun _=>.int .i64 0)
       have kc:=ro.cell (tab_get (fun _=>.int .i64 0) hkl)
       have kf:=ro.frozen k
       have HRO:=(show Hid (OwnsI wr W1.heap.size u10 ((List.range k).map (invL n Z x))) from hro)
       clear hro
       go_wp2_with fail
       have eU:(tab n fun _=>.int .i64 0).setIfInBounds k (.int .i64 1)=ints n (unitF k):=by
        rw[tab_set]
        exact tab_ext fun q _=>by unfold upd unitF;by_cases e:q=k <;> simp[e]
       rw[eU]
       have rU:=RowAt.new wr 3 (ints n (unitF k))
       have hbU:Below wr.heap.size wr (wr.alloc (.cells (ints n (unitF k)) 3)):=(Below.refl _ _).alloc (Nat.le_refl _) _
       have hzU:=hbU.size
       clear kc kf ro eU
       generalize wr.alloc (.cells (ints n (unitF k)) 3)=W2 at *
       have hmW2:=(HM2.out.below (hb.trans (hb2.mono hsz))).below hbU
       refine Calls.mono (rwith_any n h1 h4 Z _ x hlt _ (unitF k) W2 hmW2 (NumsAt.of_row rU (by unfold maxLen;omega))) ?_
       rintro e W3 ⟨mv,rfl,hmv,hb3⟩
       have hz3:=hb3.size
       have hsq:MatAt W3 mv n (fun _=>n) (withF Z x (unitF k)):=OwnsM.square hmv
       clear hmv rU hmW2
       go_wp2_with fail
       refine Calls.mono (leib_any n h1 h4 _ (with_good HZ.out x k) mv W3 hsq) ?_
       rintro e W4 ⟨rfl,hb4⟩
       have hz4:=hb4.size
       have hb5:Below W1.heap.size W1 W4:=hb2.trans ((hbU.trans ((hb3.trans (hb4.mono hz3)).mono hzU)).mono hsz2)
       have hro4:OwnsI W4 W1.heap.size u10 ((List.range k).map (invL n Z x)):=own_belowH HRO.out (hbU.trans ((hb3.trans (hb4.mono hz3)).mono hzU))
       have HIV:=(show Hid (u*detL n (withF Z x (unitF k)) % 26=invL n Z x k) from HINV.out x hlt k hkl)
       have hdb:=detL_bound n (withF Z x (unitF k))
       have hpb:=prod_bound hub hdb
       generalize detL n (withF Z x (unitF k))=dd at *
       obtain ⟨p,hp⟩:∃p,p=u*dd:=⟨_,rfl⟩
       rw[←hp] at hpb HIV
       have hpw:IntKind.i64.wrap (u*dd)=p:=by rw[←hp,IntKind.wrap_i64];omega
       clear hp hsq hb3 hb4 hbU
       have hsz5:=hb5.size
       have hlm:((List.range k).map (invL n Z x)).length=k:=by simp
       go_wp2_with fail
       refine Calls.mono (rmod_any p W4) ?_
       rintro e W5 ⟨rfl,rfl⟩
       rw[HIV.out]
       obtain ⟨val,hval⟩:∃val,val=invL n Z x k:=⟨_,rfl⟩
       rw[←hval]
       have HVAL:Hid (val=invL n Z x k):=hval
       clear hval
       go_wp2_with (first
        | (at_builtin;refine wpList_append_own _ rfl _ _ 25 rfl W1.heap.size 3 i0 (.int .i64 0) 1 8 Tryz.underlying25 hi0 hz0 hz1 hz2 rfl (by decide) _ _ _ rfl (World.ownsRow.alloc hro4 _) ⟨W4.heap.size,0,none⟩ 1 1 [.int .i64 val] rfl rfl (cell_one_new _ _ _) (fun u hu=>by simp at hu;subst hu;rfl) (by rw[hlm];unfold maxLen;omega) (by rw[hlm];omega) (by simp;omega) ?_;intro v' w1 hown' hgrow _))
       go_roundw
       case rel =>
        refine ⟨k+1,by omega,by go_num,?_,?_⟩
        ·rw[range_app,←HVAL.out,OwnsI,inums_append,List.length_append]
         exact hown'
        ·exact (hb5.alloc (by omega) _).grown hgrow (by simp;omega) (fun q hq=>by have:=(World.ownsRow.lt hro4 q hq).1;omega)
       case measure=>simp[intOf];omega
      ·have HXN:Hid (k=n):=by rw[Hid];omega
       obtain ⟨vs,hv1,hv2⟩:=HOWN.out.below hb2
       rw[rowsL_length] at hv1
       rw[HXN.out] at hro
       have hro2:OwnsI wr w.heap.size u10 ((List.range n).map (invL n Z x)):=own_leH hro hsz
       obtain ⟨g,cp,rfl⟩:∃g cp,u10=.slice (some ⟨g,0,none⟩) n cp:=by
        have hl:((List.range n).map (invL n Z x)).length=n:=by simp
        rcases hro2.2 with ⟨_,h0'⟩ | ⟨g,cp,_,e,_⟩
        ·omega
        ·exact ⟨g,cp,by rw[e,hl]⟩
       have HV2:=(show Hid (∀(k:Nat) (u:Value) (l:List Int),vs[k]? = some u→(rowsL n (invL n Z) x)[k]? = some l→OwnsI wr w.heap.size u l) from hv2)
       have HRO2:=(show Hid (OwnsI wr w.heap.size (.slice (some ⟨g,0,none⟩) n cp) ((List.range n).map (invL n Z x))) from hro2)
       clear hro hro2 hv2
       go_wp2_with (first
        | (at_builtin;refine wpList_append_own _ rfl _ _ 23 rfl w.heap.size 25 j0 (.slice none 0 0) 1 24 Tryz.underlying23 hj0 hy0 hy1 hy2 rfl (by decide) _ _ _ rfl (World.ownsRow.alloc hv1 _) ⟨wr.heap.size,0,none⟩ 1 1 [.slice (some ⟨g,0,none⟩) n cp] rfl rfl (cell_one_new _ _ _) (fun u hu=>by simp at hu;subst hu;rfl) (by unfold maxLen;omega) (by omega) (by simp;omega) ?_;intro v' w1 hown' hgrow _))
       go_roundw
       case rel =>
        refine ⟨x+1,by omega,by go_num,?_,?_⟩
        ·rw[rowsL_step]
         have hbA:Below wr.heap.size wr (wr.alloc (.cells #[.slice (some ⟨g,0,none⟩) n cp] 25)):=(Below.refl _ _).alloc (Nat.le_refl _) _
         exact OwnsM.app (by rw[rowsL_length];exact World.ownsRow.alloc hv1 _) (fun k u l a b=>own_belowH (HV2.out k u l a b) hbA) (own_belowH HRO2.out hbA) (by rw[rowsL_length];exact hown') hgrow
        ·exact ((hb.trans (hb2.mono hsz)).alloc (by omega) _).grown hgrow (by simp;omega) (fun q hq=>(World.ownsRow.lt hv1 q hq).1)
       case measure=>simp[intOf];omega
    ·have HYN:Hid (x=n):=by rw[Hid];omega
     rw[HYN.out] at hown
     go_wp2
     go_ret2
     exact ⟨_,rfl,OwnsM.square hown,hb⟩
end Go.Proofs.YtkohhdkkbaifoaaGreatDoor

/-
  Contract of the document's Product (chapter 3).
-/
namespace Go.Proofs.YtkohhdkkbaifoaaGreatDoor
open Go.RowKit PK

end Go.Proofs.YtkohhdkkbaifoaaGreatDoor

/-
  The document's Inverse where there is none, and of what is wrong.
-/
namespace Go.Proofs.YtkohhdkkbaifoaaGreatDoor
open Go.RowKit PK

set_option maxRecDepth 100000 in
set_option maxHeartbeats 2000000 in
theorem rinv_none (v:Value) (n:Nat) (L:Nat→Nat) (Z:Nat→Nat→Int) (hg:GoodM n Z) (hL:∀r,r<n→L r=n) (hr:(recOf (detL n Z)).2=6) (w:World) (hv:MatAt w v n L Z) :
  Calls Tryz.prog 87 #[v] w fun e w'=>e=.returned (.tuple #[.slice none 0 0,.int .i64 6])∧Below w.heap.size w w':=by
 have H0:Hid (matErr n L Z=0):=(matErr_zero n L Z).2 ⟨hg,hL⟩
 have HV:=(show Hid (MatAt w v n L Z) from hv)
 have hd:=detL_bound n Z
 have HU:Hid (uTo (detL n Z) 26=-1):=by rw[Hid,uTo_all _ hd,if_neg (by rw[hr];decide)]
 obtain ⟨a0,c0,rfl,_⟩:=hv.len
 have HLB:=(show Hid (Calls Tryz.prog 140 #[.slice a0 n c0] w fun e w'=>e=.returned (.int .i64 (detL n Z))∧Below w.heap.size w w') from leib_any n hg.pos hg.le Z hg.num _ w (hv.square hL))
 clear hv hr hg
 go_enter Tryz.func87,Tryz.ntmps87
 go_wp2_with fail
 refine Calls.mono (rw3_any _ n L Z w HV.out) ?_
 rintro e W1 ⟨rfl,rfl⟩
 rw[H0.out]
 go_wp2_with fail
 refine Calls.mono HLB.out ?_
 rintro e W0 ⟨rfl,hb0⟩
 generalize detL n Z=d at *
 go_wp2
 go_loop [7,6] (fun i a=>∃k:Nat,k≤26∧i=.int .i64 k∧a=.int .i64 (uTo d k)) (fun i _=>(26-intOf i).toNat)
 case atStart=>exact ⟨0,by omega,rfl,rfl⟩
 case round =>
  obtain ⟨k,hk,rfl,rfl⟩:=hrel
  by_cases hkl:k<26
  ·obtain ⟨p,hp⟩:∃p,p=d*(k:Int):=⟨_,rfl⟩
   have hpb:=prod_bound hd (b:=(k:Int)) (by omega)
   have HST:Hid (uTo d (k+1)=if p % 26==1 then ((k:Nat):Int) else uTo d k):=by rw[Hid,hp];rfl
   rw[←hp] at hpb
   have hpw:IntKind.i64.wrap (d*(k:Int))=p:=by rw[←hp,IntKind.wrap_i64];omega
   clear hp
   by_cases he:(p % 26==1)=true
   ·have HE:Hid (uTo d (k+1)=((k:Nat):Int)):=by rw[Hid,HST.out,if_pos he]
    go_wp2
    exact ⟨⟨k+1,by omega,by go_num,by rw[HE.out]⟩,by simp[intOf];omega⟩
   ·have HE:Hid (uTo d (k+1)=uTo d k):=by rw[Hid,HST.out,if_neg he]
    have he':(p % 26==1)=false:=by simpa using he
    clear he
    go_wp2
    exact ⟨⟨k+1,by omega,by go_num,by rw[HE.out]⟩,by simp[intOf];omega⟩
  ·have hk26:k=26:=by omega
   subst hk26
   rw[HU.out]
   go_wp2
   go_ret2
   exact ⟨rfl,hb0⟩
end Go.Proofs.YtkohhdkkbaifoaaGreatDoor

/-
  Contract of the document's Write (chapter 3) where something is wrong.
-/
namespace Go.Proofs.YtkohhdkkbaifoaaGreatDoor
open Go.RowKit PK

end Go.Proofs.YtkohhdkkbaifoaaGreatDoor

/-
  Contract of the document's Write (chapter 3).
-/
namespace Go.Proofs.YtkohhdkkbaifoaaGreatDoor
open Go.RowKit PK

def strL:Value→Nat
 | .string s=>s.size
 | _=>0
theorem pad_iff (m n:Nat) (h1:1≤n) (h4:n≤4):∀j,j≤(n-m % n) % n→((m+j) % n=0↔j=(n-m % n) % n):=fun j hj=>by
 obtain rfl | rfl | rfl | rfl:n=1∨n=2∨n=3∨n=4:=by omega
 all_goals omega
theorem piece2 {n F i:Nat} (hF:F % n=0) (hi:i<F):∃q r,i=q*n+r∧r<n∧q*n+n≤F:=by
 have hn:0<n:=by
  rcases Nat.eq_zero_or_pos n with h | h
  ·subst h;rw[Nat.mod_zero] at hF;omega
  ·exact h
 refine ⟨i / n,i % n,(Nat.div_add_mod' i n).symm,Nat.mod_lt _ hn,?_⟩
 have h1:=Nat.div_add_mod' F n
 rw[hF,Nat.add_zero] at h1
 have h2:i / n<F / n:=by
  rw[Nat.div_lt_iff_lt_mul hn,h1]
  exact hi
 have h3:=Nat.mul_le_mul_right n (show i / n+1≤F / n from h2)
 rw[Nat.succ_mul,h1] at h3
 exact h3
set_option maxRecDepth 100000 in
set_option maxHeartbeats 4000000 in
theorem rwr_bad3 (v:Value) (n:Nat) (L:Nat→Nat) (Z:Nat→Nat→Int) (hg:GoodM n Z) (hL:∀r,r<n→L r=n) (s:ByteArray) (hs:s.size≤65536) (hc:ckE s.data.toList=0) (hc2:ckAt s.data.toList=0) (hlong:65536<(fullL n s.data.toList).length) (w:World) (hv:MatAt w v n L Z) :
  Calls Tryz.prog 88 #[v,.string s] w fun e w'=>e=.returned (.tuple #[.string ⟨#[]⟩,.agg #[.int .i64 4,.int .i64 0]])∧Below w.heap.size w w':=by
 have HV:=(show Hid (MatAt w v n L Z) from hv)
 have HE:Hid (matErr n L Z=0):=(matErr_zero n L Z).2 ⟨hg,hL⟩
 have HCK:=(show Hid (∀W,Calls Tryz.prog 42 #[.string s] W fun e w'=>e=.returned (.agg #[.int .i64 0,.int .i64 0])∧Below W.heap.size W w') from fun W=>by have:=rcheck_all s W;rw[hc,hc2] at this;exact this)
 have h1:=hg.pos
 have h4:=hg.le
 obtain ⟨a0,c0',rfl,_⟩:=hv.len
 have HPAD:=(show Hid (∀j,j≤(n-s.size % n) % n→((s.size+j) % n=0↔j=(n-s.size % n) % n)) from pad_iff s.size n h1 h4)
 obtain ⟨c,hcc⟩:∃c,c=(n-s.size % n) % n:=⟨_,rfl⟩
 have HFULL:=(show Hid (fullL n s.data.toList=s.data.toList++List.replicate c 88) from by rw[Hid];unfold fullL;rw[←Pl.size_len s,←hcc])
 have hc4:c<4:=by rw[hcc];exact Nat.lt_of_lt_of_le (Nat.mod_lt _ (by omega)) h4
 rw[←hcc] at HPAD
 have hFc:(fullL n s.data.toList).length=s.size+c:=by rw[HFULL.out,List.length_append,List.length_replicate,←Pl.size_len s]
 have hne:(((n:Nat):Int)==0)=false:=by simp;omega
 clear hcc
 rw[hFc] at hlong
 clear hv hg hL hc hc2 hFc HFULL
 go_enter Tryz.func88,Tryz.ntmps88
 go_wp2_with fail
 refine Calls.mono (rw3_any _ n L Z _ (HV.out.alloc _)) ?_
 rintro e W1 ⟨rfl,rfl⟩
 rw[HE.out]
 go_wp2_with fail
 refine Calls.mono (HCK.out _) ?_
 rintro e W1 ⟨rfl,hb⟩
 have hb1:Below (w.heap.size+1) (w.alloc (.cells #[.int .i64 0,.int .i64 0] 35)) W1:=by simpa using hb
 have hz:=hb1.size
 simp at hz
 have hb2:=hb1.alloc (by omega) (.cells #[.int .i64 0,.int .i64 0] 35)
 clear hb
 obtain ⟨c0,c1,f0,f1,hsz⟩:=Kit.two_cells hb2
 have qq:=Kit.read_two (.int .i64 4) (.int .i64 0) c0 c1
 have hbf:=Kit.below_two hb2 (.int .i64 4) (.int .i64 0)
 clear HCK HV HE hb1
 go_wp2
 go_loop [1] (fun x=>∃(j:Nat) (T:ByteArray),j≤c∧x=.string T∧T.size=s.size+j∧Hid (T.data.toList=s.data.toList++List.replicate j 88)) (fun x=>s.size+c-strL x)
 case atStart=>exact ⟨0,s,by omega,rfl,rfl,by simp[Hid]⟩
 case round =>
  obtain ⟨j,T,hj,rfl,hTs,HT⟩:=hrel
  by_cases hjc:j<c
  ·have hmd:((T.size:Nat):Int) % ((n:Nat):Int)≠0:=by
    have h9:=HPAD.out j (by omega)
    have h8:(s.size+j) % n≠0:=fun e=>by have:=h9.1 e;omega
    rw[hTs]
    omega
   have hmb:(((T.size:Nat):Int) % ((n:Nat):Int) != 0)=true:=by simpa using hmd
   have HTS:Hid (T.size=s.size+j):=hTs
   have hTb:T.size≤70000:=by omega
   have HX1:Hid ((⟨#[88]⟩:ByteArray).size=1):=rfl
   clear hmd hTs
   go_wp2_with (first | refine wpList_catW rfl _ _ _ _ rfl _ _ rfl rfl (by have:=HX1.out;omega) ?_)
   refine ⟨⟨j+1,T++⟨#[88]⟩,by omega,rfl,?_,?_⟩,?_⟩
   ·rw[ByteArray.size_append,HTS.out,HX1.out];omega
   ·rw[Hid,ByteArray.data_append,Array.toList_append,HT.out,List.append_assoc]
    congr 1
    rw[List.replicate_succ']
   ·have h7:=HTS.out
    have h6:=HX1.out
    simp only[strL,ByteArray.size_append]
    omega
  ·have hje:j=c:=by omega
   subst hje
   have hmb:(((T.size:Nat):Int) % ((n:Nat):Int) != 0)=false:=by
    have h9:=(HPAD.out j (Nat.le_refl _)).2 rfl
    have:((T.size:Nat):Int) % ((n:Nat):Int)=0:=by rw[hTs];omega
    simpa using this
   have HTS:Hid (T.size=s.size+j):=hTs
   clear HPAD
   have hbig:(65536:Int)<((T.size:Nat):Int):=by omega
   clear hTs
   go_wp2
   refine bodyPost_ret (v:=.tuple #[.string ⟨#[]⟩,.agg #[.int .i64 4,.int .i64 0]]) (by simp[results,Tryz.results88,go_sem,qq.1,qq.2]) rfl ⟨rfl,hbf⟩
set_option maxRecDepth 100000 in
set_option maxHeartbeats 8000000 in
theorem rwr_ok (v:Value) (n:Nat) (L:Nat→Nat) (Z:Nat→Nat→Int) (hg:GoodM n Z) (hL:∀r,r<n→L r=n) (s:ByteArray) (hc:ckE s.data.toList=0) (hc2:ckAt s.data.toList=0) (hlet:Pl.Lets s.data.toList) (hshort:(fullL n s.data.toList).length≤65536) (w:World) (hv:MatAt w v n L Z) :
  Calls Tryz.prog 88 #[v,.string s] w fun e w'=>e=.returned (.tuple #[.string ⟨(encL n Z (fullL n s.data.toList) (fullL n s.data.toList).length).toArray⟩,.agg #[.int .i64 0,.int .i64 0]])∧Below w.heap.size w w':=by
 obtain ⟨i0,hi0,hz0,hz1,hz2⟩:=info_parts info_byte
 have HV:=(show Hid (MatAt w v n L Z) from hv)
 have HE:Hid (matErr n L Z=0):=(matErr_zero n L Z).2 ⟨hg,hL⟩
 have HCK:=(show Hid (∀W,Calls Tryz.prog 42 #[.string s] W fun e w'=>e=.returned (.agg #[.int .i64 0,.int .i64 0])∧Below W.heap.size W w') from fun W=>by have:=rcheck_all s W;rw[hc,hc2] at this;exact this)
 have h1:=hg.pos
 have h4:=hg.le
 have HZ:=(show Hid (∀r,r<n→∀c,c<n→0≤Z r c∧Z r c<26) from hg.num)
 obtain ⟨bm,om,cm,rfl,hcells⟩:=sq_cells (by omega) (hv.square hL)
 have HCE:=(show Hid (∀r,r<n→∃x y c,w.cell? ⟨bm,om+r,none⟩=some (.slice (some ⟨x,y,none⟩) n c)∧∀k,k<n→w.cell? ⟨x,y+k,none⟩=some (.int .i64 (Z r k))) from hcells)
 have HLF:=(show Hid (Pl.Lets (fullL n s.data.toList)) from lets_full n _ hlet)
 have HDV:=(show Hid ((fullL n s.data.toList).length % n=0) from (fullL_length n h1 _).1)
 have HPAD:=(show Hid (∀j,j≤(n-s.size % n) % n→((s.size+j) % n=0↔j=(n-s.size % n) % n)) from pad_iff s.size n h1 h4)
 obtain ⟨c,hcc⟩:∃c,c=(n-s.size % n) % n:=⟨_,rfl⟩
 have HFULL:=(show Hid (fullL n s.data.toList=s.data.toList++List.replicate c 88) from by rw[Hid];unfold fullL;rw[←Pl.size_len s,←hcc])
 have hc4:c<4:=by rw[hcc];exact Nat.lt_of_lt_of_le (Nat.mod_lt _ (by omega)) h4
 rw[←hcc] at HPAD
 have hFc:(fullL n s.data.toList).length=s.size+c:=by rw[HFULL.out,List.length_append,List.length_replicate,←Pl.size_len s]
 have hne:(((n:Nat):Int)==0)=false:=by simp;omega
 clear hcc
 rw[hFc] at hshort HDV ⊢
 clear hv hg hL hc hc2 hlet hFc hcells
 generalize fullL n s.data.toList=full at *
 go_enter Tryz.func88,Tryz.ntmps88
 go_wp2_with fail
 refine Calls.mono (rw3_any _ n L Z _ (HV.out.alloc _)) ?_
 rintro e W1 ⟨rfl,rfl⟩
 rw[HE.out]
 go_wp2_with fail
 refine Calls.mono (HCK.out _) ?_
 rintro e W1 ⟨rfl,hb⟩
 have hb1:Below (w.heap.size+1) (w.alloc (.cells #[.int .i64 0,.int .i64 0] 35)) W1:=by simpa using hb
 have hz:=hb1.size
 simp at hz
 have hb2:=hb1.alloc (by omega) (.cells #[.int .i64 0,.int .i64 0] 35)
 clear hb
 have hbw:Below w.heap.size w (W1.alloc (.cells #[.int .i64 0,.int .i64 0] 35)):=((Below.refl w.heap.size w).alloc (Nat.le_refl _) _).trans (hb2.mono (by omega))
 clear HCK HV HE hb1
 go_wp2
 go_loop [1] (fun x=>∃(j:Nat) (T:ByteArray),j≤c∧x=.string T∧T.size=s.size+j∧Hid (T.data.toList=s.data.toList++List.replicate j 88)) (fun x=>s.size+c-strL x)
 case atStart=>exact ⟨0,s,by omega,rfl,rfl,by simp[Hid]⟩
 case round =>
  obtain ⟨j,T,hj,rfl,hTs,HT⟩:=hrel
  by_cases hjc:j<c
  ·have hmd:((T.size:Nat):Int) % ((n:Nat):Int)≠0:=by
    have h9:=HPAD.out j (by omega)
    have h8:(s.size+j) % n≠0:=fun e=>by have:=h9.1 e;omega
    rw[hTs]
    omega
   have hmb:(((T.size:Nat):Int) % ((n:Nat):Int) != 0)=true:=by simpa using hmd
   have HTS:Hid (T.size=s.size+j):=hTs
   have hTb:T.size≤70000:=by omega
   have HX1:Hid ((⟨#[88]⟩:ByteArray).size=1):=rfl
   clear hmd hTs
   go_wp2_with (first | refine wpList_catW rfl _ _ _ _ rfl _ _ rfl rfl (by have:=HX1.out;omega) ?_)
   refine ⟨⟨j+1,T++⟨#[88]⟩,by omega,rfl,?_,?_⟩,?_⟩
   ·rw[ByteArray.size_append,HTS.out,HX1.out];omega
   ·rw[Hid,ByteArray.data_append,Array.toList_append,HT.out,List.append_assoc]
    congr 1
    rw[List.replicate_succ']
   ·have h7:=HTS.out
    have h6:=HX1.out
    simp only[strL,ByteArray.size_append]
    omega
  ·have hje:j=c:=by omega
   subst hje
   have hmb:(((T.size:Nat):Int) % ((n:Nat):Int) != 0)=false:=by
    have h9:=(HPAD.out j (Nat.le_refl _)).2 rfl
    have:((T.size:Nat):Int) % ((n:Nat):Int)=0:=by rw[hTs];omega
    simpa using this
   have HTS:Hid (T.size=s.size+j):=hTs
   clear HPAD
   have HTF:Hid (T.data.toList=full):=by rw[Hid,HT.out,HFULL.out]
   have hTb:¬(65536:Int)<((T.size:Nat):Int):=by omega
   clear hTs
   have hcv:=fun w=>Lib.run_convert_string_bytes (P:=Tryz.prog) w 9 87 5 T Tryz.underlying9 Tryz.underlying87 Tryz.underlying5
   clear HT
   have HT9:Hid (T.size=s.size+j):=HTS
   have HDT:Hid (T.size % n=0):=by rw[Hid,HTS.out];exact HDV.out
   go_wp2
   have hbB:Below (W1.alloc (.cells #[.int .i64 0,.int .i64 0] 35)).heap.size (W1.alloc (.cells #[.int .i64 0,.int .i64 0] 35)) (Lib.bytesWorld (W1.alloc (.cells #[.int .i64 0,.int .i64 0] 35)) 5 T):=below_bytes _ (Nat.le_refl _) 5 T
   have hbw3:=hbw.trans (hbB.mono (by simp;omega))
   have hb23:=hb2.trans (hbB.mono (by simp;omega))
   clear hcv hbB hbw hb2
   generalize Lib.bytesWorld (W1.alloc (.cells #[.int .i64 0,.int .i64 0] 35)) 5 T=W3 at *
   generalize grownCap (W1.alloc (.cells #[.int .i64 0,.int .i64 0] 35)) T.size 0 5=capB at *
   have hz3:w.heap.size+1≤W3.heap.size:=by
    have:=hb23.size
    simp at this
    omega
   go_loopw [41,8] (fun i v W=>∃i':Nat,i'≤T.size∧i=.int .i64 i'∧Kit.Owns W W3.heap.size 5 v (encL n Z full i')∧Below W3.heap.size W3 W) (fun i _ _=>T.size-(intOf i).toNat)
   case atStart=>exact ⟨0,by omega,rfl,Kit.Owns.nil _ _ _,Below.refl _ _⟩
   case round =>
    obtain ⟨i,hi,rfl,hown,hbL⟩:=hrel
    have hzl:=hbL.size
    by_cases hlt:i<T.size
    ·obtain ⟨r,b,hrd,hbd,hrn,hbF,hib⟩:∃r b,r=i % n∧b=i-i % n∧r<n∧b+n≤T.size∧i=b+r:=by
      obtain ⟨q,r,e,hr,hq⟩:=piece2 HDT.out hlt
      have e2:i % n=r:=by rw[e,Nat.add_comm,Nat.add_mul_mod_self_right];exact Nat.mod_eq_of_lt hr
      exact ⟨r,q*n,e2.symm,by rw[e2];omega,hr,hq,e⟩
     have em:((i:Nat):Int) % ((n:Nat):Int)=((r:Nat):Int):=by omega
     have es:((i:Nat):Int)-((r:Nat):Int)=((b:Nat):Int):=by omega
     have HENC:Hid (encN n Z full i=sumTo (Z r) (fun k=>num (full.getD (b+k) 0)) n % 26):=by rw[Hid,hrd,hbd];rfl
     clear hrd hbd hib
     have hbW:=hbw3.trans (hbL.mono (by omega))
     obtain ⟨x1,y1,c1,q1,q2⟩:=HCE.out r hrn
     have k1:=(hbW.cell (p:=⟨bm,om+r,none⟩) (cell_block q1)).trans q1
     have HK2:=(show Hid (∀k,k<n→wr.cell? ⟨x1,y1+k,none⟩=some (.int .i64 (Z r k))) from fun k hk=>(hbW.cell (p:=⟨x1,y1+k,none⟩) (cell_block (q2 k hk))).trans (q2 k hk))
     have hri:((r:Nat):Int)<((n:Nat):Int):=by omega
     have HOW:=(show Hid (Kit.Owns wr W3.heap.size 5 u8 (encL n Z full i)) from hown)
     have HSB:=(show Hid (∀k,k≤n→0≤sumTo (Z r) (fun m=>num (full.getD (b+m) 0)) k∧sumTo (Z r) (fun m=>num (full.getD (b+m) 0)) k≤625*k) from fun k hk=>sumTo_bound _ _ k fun m hm=>⟨HZ.out r hrn m (by omega),(num_bound HLF.out (b+m) (by rw[←HTF.out,←Pl.size_len];omega)).1⟩)
     clear hown q1 q2
     go_wp2
     clear em es
     go_loop [58,11] (fun k a=>∃k':Nat,k'≤n∧k=.int .i64 k'∧a=.int .i64 (sumTo (Z r) (fun m=>num (full.getD (b+m) 0)) k')) (fun k _=>((n:Int)-intOf k).toNat)
     case atStart=>exact ⟨0,by omega,rfl,rfl⟩
     case round =>
      obtain ⟨k,hk,rfl,rfl⟩:=hrel
      have hsb:=HSB.out k hk
      by_cases hkl:k<n
      ·have k2:=HK2.out k hkl
       have hbk:b+k<T.size:=by omega
       have hnb:=num_bound HLF.out (b+k) (by rw[←HTF.out,←Pl.size_len];omega)
       have HNB:Hid (num (full.getD (b+k) 0)=(((T[b+k]).toNat:Nat):Int)-65):=by rw[Hid,←HTF.out,getD_byte T (b+k) hbk];rfl
       have hb2':65≤(T[b+k]).toNat∧(T[b+k]).toNat≤90:=by
        have h9:=hnb.2
        rw[←HTF.out,getD_byte T (b+k) hbk] at h9
        exact h9
       have hzb:=HZ.out r hrn k hkl
       have HS0:Hid (sumTo (Z r) (fun m=>num (full.getD (b+m) 0)) (k+1)=sumTo (Z r) (fun m=>num (full.getD (b+m) 0)) k+Z r k*num (full.getD (b+k) 0)):=rfl
       rw[HNB.out] at HS0
       obtain ⟨bt,hbt⟩:∃bt,bt=(T[b+k]).toNat:=⟨_,rfl⟩
       rw[←hbt] at hb2' HS0
       have hbt2:(T[b+k]).toNat=bt:=hbt.symm
       have hwu:IntKind.u8.wrap (((bt:Nat):Int)-65)=((bt:Nat):Int)-65:=by rw[IntKind.wrap_u8];omega
       have hwi:IntKind.i64.wrap (((bt:Nat):Int)-65)=((bt:Nat):Int)-65:=by rw[IntKind.wrap_i64];omega
       clear hbt hnb
       generalize sumTo (Z r) (fun m=>num (full.getD (b+m) 0)) k=acc at *
       generalize Z r k=z at *
       have hpb:=prod_bound hzb (b:=((bt:Nat):Int)-65) (by omega)
       obtain ⟨p,hp⟩:∃p,p=z*(((bt:Nat):Int)-65):=⟨_,rfl⟩
       rw[←hp] at hpb HS0
       have hpw:IntKind.i64.wrap (z*(((bt:Nat):Int)-65))=p:=by rw[←hp,IntKind.wrap_i64];omega
       have hbi:((b:Nat):Int)+((k:Nat):Int)<((T.size:Nat):Int):=by omega
       clear hp
       go_wp2
       exact ⟨⟨k+1,by omega,by go_num,by rw[HS0.out]⟩,by simp[intOf];omega⟩
      ·have hkn:k=n:=by omega
       subst hkn
       have hxb:=encN_bound k Z full i
       have HST:=(show Hid (encL k Z full (i+1)=encL k Z full i++[UInt8.ofNat (65+(encN k Z full i).toNat)]) from encL_step k Z full i)
       have HCE2:=(show Hid (∀acc:List UInt8,Lib.byteCells acc++[.int .u8 (65+encN k Z full i)]=Lib.byteCells (acc++[UInt8.ofNat (65+(encN k Z full i).toNat)])) from fun acc=>cells_enc acc _ hxb)
       have hle:=encL_length k Z full i
       have hown:=HOW.out
       obtain ⟨x,hx⟩:∃x,x=encN k Z full i:=⟨_,rfl⟩
       have hx2:sumTo (Z r) (fun m=>num (full.getD (b+m) 0)) k % 26=x:=by rw[hx,HENC.out]
       rw[←hx] at hxb HST HCE2
       generalize sumTo (Z r) (fun m=>num (full.getD (b+m) 0)) k=acc9 at *
       have hwx:IntKind.u8.wrap (65+x)=65+x:=by rw[IntKind.wrap_u8];omega
       generalize encL k Z full i=acc at *
       clear hx HENC HOW
       go_wp2_with (first
        | (at_builtin;refine wpList_append_own _ rfl _ _ 87 rfl W3.heap.size 5 i0 (.int .u8 0) 1 1 Tryz.underlying87 hi0 hz0 hz1 hz2 rfl (by decide) _ _ _ rfl (World.ownsRow.alloc hown _) ⟨wr.heap.size,0,none⟩ 1 1 [.int .u8 (65+x)] rfl rfl (cell_one_new _ _ _) (fun u hu=>by simp at hu;subst hu;rfl) (by unfold maxLen;omega) (by omega) (by simp;omega) ?_;intro v5 w5 hown5 hgrow5 _))
       refine ⟨⟨i+1,by omega,by go_num,?_,?_⟩,by simp[intOf];omega⟩
       ·rw[HST.out]
        unfold Kit.Owns
        rw[←HCE2.out acc,List.length_append]
        exact hown5
       ·exact (hbL.alloc (by omega) _).grown hgrow5 (by simp;omega) (fun q hq=>(World.ownsRow.lt hown q hq).1)
    ·have haF:i=T.size:=by omega
     have hstr:=Kit.run_string_of_own (P:=Tryz.prog) wr 87 9 5 Tryz.underlying87 Tryz.underlying5 Tryz.underlying9 hown
     rw[haF,HTS.out] at hstr
     have hbA:=hb23.trans (hbL.mono (by omega))
     obtain ⟨c0,c1,f0,f1,hsz⟩:=Kit.two_cells hbA
     have qq:=Kit.read_two (.int .i64 0) (.int .i64 0) c0 c1
     have hbf:=Kit.below_two hbA (.int .i64 0) (.int .i64 0)
     generalize hFF:encL n Z full (s.size+j)=out at hstr
     have HF:Hid (encL n Z full (s.size+j)=out):=hFF
     clear hown hFF
     go_wp2
     refine bodyPost_ret (v:=.tuple #[.string ⟨out.toArray⟩,.agg #[.int .i64 0,.int .i64 0]]) (by simp[results,Tryz.results88,go_sem,qq.1,qq.2]) rfl ⟨by rw[HF.out],hbf⟩
end Go.Proofs.YtkohhdkkbaifoaaGreatDoor
