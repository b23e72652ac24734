/-
  Several texts, joined: ScB, ScY, ScT, PPm, PEq, ScU, ScZ, ScO, PrA, PrB, PrC.
-/
import Derived.Test.YtkohhdkkbaifoaaGreatDoorJn4
import Derived.Test.YtkohhdkkbaifoaaGreatDoorJn3
import Derived.Test.YtkohhdkkbaifoaaGreatDoorJn21
import Derived.Test.YtkohhdkkbaifoaaGreatDoorScN
import Derived.Test.YtkohhdkkbaifoaaGreatDoorJn1
import Derived.Test.YtkohhdkkbaifoaaGreatDoorJn20
import Derived.Shelf.Strconv.Itoa3
import Derived.Shelf.Strings.OnBuilder
import Derived.Shelf.Lay
import Derived.Ground.NamesProg
import Derived.Lib.Agree
import Derived.Shelf.Slices.Equal
import Derived.Shelf.Slices.Empties2
/-
  A slice of one element that is many cells (as in ClK, which can't be met here).
-/
namespace Go.Proofs.YtkohhdkkbaifoaaGreatDoor
open Go.RowKit PK

section
variable {P:Program}
end
end Go.Proofs.YtkohhdkkbaifoaaGreatDoor

/-
  What a word tells: wheels.
-/
namespace Go.Proofs.YtkohhdkkbaifoaaGreatDoor
open Go.RowKit PK Vg
attribute [local go_sem] Oper.semAt_some

section
variable {F:Fence} {n:Nat} {P:Program}
end
theorem info17 {P:Program} {e:TypeId} {z:Value} {s b:Nat} (h:(P.info? e).map (fun i=>(i.zero,i.size,i.bytes))=some (some z,s,b)):∃i,P.info? e=some i∧i.zero=some z∧i.size=s∧i.bytes=b:=by
 obtain ⟨i,hi,hzz⟩:=Option.map_eq_some_iff.1 h
 simp only[Prod.mk.injEq] at hzz
 exact ⟨i,hi,hzz.1,hzz.2.1,hzz.2.2⟩
theorem own_form17 {w:World} {B:Nat} {e:TypeId} {s:Nat} {v:Value} {n:Nat} {xs:List Value} (h:w.ownsRow B e s v n xs):∃a c,v=.slice a n c:=by
 rcases h.2 with ⟨rfl,h0⟩ | ⟨g',cap,cur,rfl,_⟩
 ·exact ⟨none,0,by rw[h0]⟩
 ·exact ⟨_,_,rfl⟩
theorem nums_one17 {W:World} {v:Value} {n:Nat} {f:Nat→Int} (h:NumsAt W v n f):v.oneCell'=true:=by obtain ⟨a,cap,rfl,_⟩:=h;rfl
def w1 (w:World) (s:ByteArray):World:=((w.alloc (.cells #[.string s] 9)).alloc (.cells #[.string ⟨#[44]⟩] 9)).alloc (.cells #[.int .i64 0] 3)
end Go.Proofs.YtkohhdkkbaifoaaGreatDoor

/-
  What a word tells: rings or starts; plugs.
-/
namespace Go.Proofs.YtkohhdkkbaifoaaGreatDoor
open Go.RowKit PK Vg

def setF (l:List UInt8):Nat→Int:=fun i=>(Vg.num (l.getD i 0):Nat)
end Go.Proofs.YtkohhdkkbaifoaaGreatDoor

/-
  What perm.Read reads is a permutation.
-/
namespace Go.Proofs.YtkohhdkkbaifoaaGreatDoor
open Go.RowKit PK

end Go.Proofs.YtkohhdkkbaifoaaGreatDoor

/-
  Laws of no program: '==' between two arrays of numbers.
-/
namespace Go.Proofs.YtkohhdkkbaifoaaGreatDoor.PK
open Go.RowKit
def eqI (n:Nat) (f g:Nat→Int):Bool:=(List.range n).all fun i=>f i==g i
theorem eqI_iff (n:Nat) (f g:Nat→Int):eqI n f g=true↔∀i,i<n→f i=g i:=by simp[eqI]
theorem eqI_of {n:Nat} {f g:Nat→Int} (h:∀i,i<n→f i=g i):eqI n f g=true:=(eqI_iff n f g).2 h
theorem run_part_ints {P:Program} (w:World) (e:TypeId) (he:P.underlying e=some (.int .i64)) (n:Nat) (f:Nat→Int) (i:Nat) (hi:i<n):(part e (ints n f) i).run P w=.ok (.int .i64 (f i)) w:=by
 simp[part,isAgg,Sem.run_bind,run_underlying he,ints_get f hi]
theorem run_equalIn_ints {P:Program} (w:World) (d:Nat) (t e:TypeId) (n:Nat) (hu:P.underlying t=some (.array n e)) (he:P.underlying e=some (.int .i64)) (hs:(P.info? e).map (·.size)=some 1) (f g:Nat→Int) :
  (Op.equalIn (d+2) t (.agg (ints n f)) (.agg (ints n g))).run P w=.ok (eqI n f g) w:=by
 cases hq:P.info? e with
 | none=>simp[hq] at hs
 | some i =>
  have h1:i.size=1:=by simpa [hq] using hs
  have hsz:∀W,(sizeOf e).run P W=.ok 1 W:=fun W=>by simp[sizeOf,typeInfo,hq,h1]
  rw[Op.equalIn]
  simp only[Sem.run_bind,run_underlying hu,Result.andThen_ok,hsz,Nat.mul_one,Std.Legacy.Range.forIn_eq_forIn_range',Std.Legacy.Range.size,Nat.sub_zero,Nat.add_sub_cancel,Nat.div_one]
  unfold eqI
  rw[List.range_eq_range']
  have hL:∀i ∈ List.range' 0 n,i<n:=fun i hi=>by simp at hi;omega
  revert hL
  generalize List.range' 0 n=L
  intro hL
  induction L with
  | nil=>simp
  | cons s L ih =>
   have hs':s<n:=hL s (by simp)
   have ih':=ih fun i hi=>hL i (by simp[hi])
   rw[List.forIn_cons]
   simp only[Sem.run_bind,run_part_ints w e he n f s hs',run_part_ints w e he n g s hs',Result.andThen_ok,run_equalIn_int w d e .i64 .i64 (f s) (g s) he,List.all_cons]
   cases hb:(f s==g s)
   ·simp
   ·simp only[Bool.not_true,Bool.false_eq_true,if_false,Sem.run_pure,Result.andThen_ok,Bool.true_and]
    exact ih'
end Go.Proofs.YtkohhdkkbaifoaaGreatDoor.PK

/-
  What a word tells: plugs.
-/
namespace Go.Proofs.YtkohhdkkbaifoaaGreatDoor
open Go.RowKit PK Vg

end Go.Proofs.YtkohhdkkbaifoaaGreatDoor

/-
  What script.Read reads, as functions of the text.
-/
namespace Go.Proofs.YtkohhdkkbaifoaaGreatDoor
open Go.RowKit PK Vg

end Go.Proofs.YtkohhdkkbaifoaaGreatDoor

/-
  Steps told so far: a slice of them that is the owner's.
-/
namespace Go.Proofs.YtkohhdkkbaifoaaGreatDoor
open Go.RowKit PK Vg

theorem sq_size {W:World} {c:Array Value} {s:Sp} (h:SqAt W (.agg c) s):c.size=59∧c.all (·.oneCell')=true:=by
 obtain ⟨mv,a,b,d,h1,h2,h3,h4,h5⟩:=h
 injection h1 with h1
 obtain ⟨_,_,_,rfl,_⟩:=h2
 obtain ⟨_,_,_,rfl,_⟩:=h3
 obtain ⟨_,_,rfl,_⟩:=h4
 obtain ⟨_,_,rfl,_⟩:=h5
 rw[h1]
 exact ⟨spA_size _ _ _ _ _ _ _ _ _,spA_one rfl rfl rfl rfl⟩
section
variable {W W':World} {B k b:Nat} {v v':Value} {l l':Nat→Sp} {R R':Nat→Array Value} {row:Option Nat}
end
section
variable {P:Program}
end
end Go.Proofs.YtkohhdkkbaifoaaGreatDoor

/-
  For script.Print: strconv.Itoa and strings.Join out of the shelf; nameOf.
-/
namespace Go.Proofs.YtkohhdkkbaifoaaGreatDoor
open Go.Shelf Go.RowKit PK

shelf_lay Lays.n171 Nm 171 at Tryz as Tryz.laysItoa
theorem fItoa:Tryz.laysItoa_ren.f 171=98:=by kernel_rfl
theorem itoa_any (i:Nat) (hi:i<100) (w:World):Calls Tryz.prog 98 #[.int .i64 (i:Nat)] w fun e w'=>e=.returned (.string ⟨(Lib.decDigits i).toArray⟩)∧w'=w:=by
 have h:=Any.strconv_Itoa_small Tryz.laysItoa i hi w
 rw[fItoa] at h
 exact h
shelf_lay Lays.n156 Nm 156 at Tryz as Tryz.laysJoin
theorem extraJoin:Builder.Extra Tryz.prog Tryz.laysJoin_ren where
 sizeBuilder:=by kernel_rfl
 liesBuilder:=by kernel_rfl
 t5:=by kernel_rfl
 a5:=fun _=>by kernel_rfl
 z5:=fun _=>by kernel_rfl
 v5:=fun _=>by kernel_rfl
 infoByte:=by kernel_rfl
 cellsByte:=by kernel_rfl
 sizeByte:=by kernel_rfl
 neB5:=by decide
theorem fJoin:Tryz.laysJoin_ren.f 156=49:=by kernel_rfl
theorem join_any (bk o c:Nat) (xs:List ByteArray) (sep:ByteArray) (w:World) (hcells:∀(j:Nat) x,xs[j]? = some x→w.cell? ⟨bk,o+j,none⟩=some (.string x)) (hbk:bk<w.heap.size) (hN:xs.length≤140737488355328) (hcap:xs.length≤c) (hlen:(Lib.join (xs.map (·.data.toList)) sep.data.toList).length≤140737488355328) :
  Calls Tryz.prog 49 #[.slice (some ⟨bk,o,none⟩) xs.length c,.string sep] w fun e w'=>e=.returned (.string ⟨(Lib.join (xs.map (·.data.toList)) sep.data.toList).toArray⟩)∧Below w.heap.size w w':=by
 have h:=Any.strings_Join Tryz.laysJoin extraJoin bk o c xs sep w hcells hbk hN hcap hlen
 rw[fJoin] at h
 exact h
def nmO (s:Sp):ByteArray:=if s.k=2 then tbN s.n.toNat else nmN s.k.toNat
set_option maxRecDepth 100000 in
set_option maxHeartbeats 1000000 in
theorem nameOf_any (s:Sp) (hs:stE s=0) (CS:Array Value) (w:World) (hc:SqAt w (.agg CS) s) (hn:NmAt w):Calls Tryz.prog 97 #[.agg CS] w fun e w'=>e=.returned (.string (nmO s))∧Below w.heap.size w w':=by
 obtain ⟨mv,a,b,c,h1,-⟩:=hc
 have hCS:=Value.agg.inj h1
 clear h1
 have hb1:Below w.heap.size w (w.alloc (.cells CS 31)):=(Below.refl _ w).alloc (Nat.le_refl _) _
 have hr:=RowAt.new w 31 CS
 have c0:(w.alloc (.cells CS 31)).cell? ⟨w.heap.size,0,none⟩=some (.int .i64 s.k):=RowAt.cell hr (by rw[hCS];exact spA_0 _ _ _ _ _ _ _ _ _)
 have c1:(w.alloc (.cells CS 31)).cell? ⟨w.heap.size,1,none⟩=some (.int .i64 s.n):=RowAt.cell hr (by rw[hCS];exact spA_1 _ _ _ _ _ _ _ _ _)
 have hk:=st_kinds hs
 have hn1:=hn.below hb1
 have HB:Hid _:=hb1
 by_cases h2:s.k=2
 ·obtain ⟨⟨n1,n2⟩,_⟩:=st_tab hs h2
  have HO:Hid (nmO s=tbN s.n.toNat):=by rw[Hid];unfold nmO;rw[if_pos h2]
  have ct:(w.alloc (.cells CS 31)).cell? ⟨0,s.n.toNat,none⟩=some (.string (tbN s.n.toNat)):=by
   have:=hn1.tb s.n.toNat (.string (tbN s.n.toNat)) (by unfold tbA;rw[Array.getElem?_toList,tab_get _ (by omega)])
   rw[Nat.zero_add] at this
   exact this
  rw[h2] at c0
  obtain ⟨m,hm⟩:∃m:Nat,s.n=m:=⟨s.n.toNat,by omega⟩
  rw[hm] at c1 ct n1 n2 HO
  rw[Int.toNat_natCast] at ct HO
  generalize nmO s=NO at *
  clear hk hs hCS hr hn hn1 h2 hb1 hm
  go_enter Tryz.func97,Tryz.ntmps97
  go_wp2
  go_ret
  exact ⟨by rw[HO.out];rfl,HB.out⟩
 ·have HO:Hid (nmO s=nmN s.k.toNat):=by rw[Hid];unfold nmO;rw[if_neg h2]
  obtain ⟨m,hm⟩:∃m:Nat,s.k=m:=⟨s.k.toNat,by omega⟩
  have hm7:m<7:=by omega
  have ct:(w.alloc (.cells CS 31)).cell? ⟨1,m,none⟩=some (.string (nmN m)):=by
   have:=hn1.kn m (.string (nmN m)) (by unfold nmA;rw[Array.getElem?_toList,tab_get _ hm7])
   rw[Nat.zero_add] at this
   exact this
  have hb2:((m:Int)==2)=false:=beq_false_of_ne (by omega)
  rw[hm] at c0 HO
  rw[Int.toNat_natCast] at HO
  generalize nmO s=NO at *
  have hm7i:(m:Int)<7:=by omega
  clear hk hs hCS hr hn hn1 h2 hb1 hm
  go_enter Tryz.func97,Tryz.ntmps97
  go_wp2
  go_ret
  exact ⟨by rw[HO.out];rfl,HB.out⟩
end Go.Proofs.YtkohhdkkbaifoaaGreatDoor

/-
  For script.Print: slices.Equal of numbers; the names of wheels and of reflectors.
-/
namespace Go.Proofs.YtkohhdkkbaifoaaGreatDoor
open Go.Shelf Go.RowKit PK Vg

shelf_lay Lays.n111 Nm 111 at Tryz as Tryz.laysEqual
theorem fEqual:Tryz.laysEqual_ren.f 111=192:=by kernel_rfl
def numsEq (n m:Nat) (f g:Nat→Int):Bool:=decide (n=m) && eqI n f g
theorem numsEq_lists (n:Nat) (f g:Nat→Int):(((List.range n).map f).take n==((List.range n).map g).take n)=eqI n f g:=by
 rw[List.take_of_length_le (by simp),List.take_of_length_le (by simp)]
 unfold eqI
 rw[Bool.eq_iff_iff]
 simp[List.map_inj_left]
theorem equal_any (v1 v2:Value) (n m:Nat) (f g:Nat→Int) (w:World) (h1:NumsAt w v1 n f) (h2:NumsAt w v2 m g):Calls Tryz.prog 192 #[v1,v2] w fun e w'=>e=.returned (.bool (numsEq n m f g))∧Below w.heap.size w w':=by
 obtain ⟨a1,c1,rfl,m1,k1⟩:=h1
 obtain ⟨a2,c2,rfl,m2,k2⟩:=h2
 unfold maxLen at m1 m2
 unfold numsEq
 by_cases hnm:n=m
 ·subst hnm
  rw[show decide (n=n)=true by simp,Bool.true_and]
  by_cases h0:n=0
  ·subst h0
   have h:=Any.slices_Equal_int_empty Tryz.laysEqual a1 a2 c1 0 c2 w (by omega)
   rw[fEqual] at h
   exact h.mono fun e w' ⟨he,hw⟩=>⟨he,by rw[hw];exact Below.refl _ _⟩
  ·obtain ⟨b1,o1,rfl,_⟩:=k1 0 (by omega)
   obtain ⟨b2,o2,rfl,_⟩:=k2 0 (by omega)
   have h:=Any.slices_Equal_int Tryz.laysEqual b1 o1 n c1 b2 o2 n c2 ((List.range n).map f) ((List.range n).map g) w (by simp) (by simp) (by omega) (by omega) (fun j hj=>by
     simp at hj
     obtain ⟨b,o,e,hc⟩:=k1 j hj
     cases e
     rw[hc]
     simp[List.getD,hj]) (fun j hj=>by
     simp at hj
     obtain ⟨b,o,e,hc⟩:=k2 j hj
     cases e
     rw[hc]
     simp[List.getD,hj])
   rw[fEqual] at h
   refine h.mono fun e w' ⟨he,q,hw⟩=>⟨?_,?_⟩
   ·rw[he,numsEq_lists]
   ·rw[hw];exact below_drewN (Below.refl _ _) q
 ·have h:=Any.slices_Equal_int_lens Tryz.laysEqual a1 a2 n c1 m c2 w hnm
  rw[fEqual] at h
  refine h.mono fun e w' ⟨he,hw⟩=>⟨?_,by rw[hw];exact Below.refl _ _⟩
  rw[he,show decide (n=m)=false by simpa using hnm]
  rfl
end Go.Proofs.YtkohhdkkbaifoaaGreatDoor

/-
  For script.Print: the names of reflectors and of wheels.
-/
namespace Go.Proofs.YtkohhdkkbaifoaaGreatDoor
open Go.RowKit PK Vg

theorem run_eql_perm (f g:Nat→Int) (w:World):(Op.equalIn 10000 27 (.agg (ints 26 f)) (.agg (ints 26 g))).run Tryz.prog w=.ok (eqI 26 f g) w:=run_equalIn_ints (P:=Tryz.prog) w 9998 27 3 26 Tryz.underlying27 Tryz.underlying3 info_int f g
def whN:Nat→ByteArray:=fun i=>[⟨#[73]⟩,⟨#[73,73]⟩,⟨#[73,73,73]⟩,⟨#[73,86]⟩,⟨#[86]⟩].getD i ⟨#[]⟩
def whA:Array Value:=tab 5 fun i=>.string (whN i)
def mrN:Nat→ByteArray:=fun i=>[⟨#[66]⟩,⟨#[67]⟩].getD i ⟨#[]⟩
def mrA:Array Value:=tab 2 fun i=>.string (mrN i)
structure OldAt (w:World):Prop where
 wh:w.rangeAt 2 0 whA.toList
 mr:w.rangeAt 3 0 mrA.toList
theorem OldAt.below {w w':World} (h:OldAt w) (hb:Below w.heap.size w w'):OldAt w':=⟨rangeAt_below h.wh hb,rangeAt_below h.mr hb⟩
def fstB (p:Nat→Bool):Nat→Option Nat
 | 0=>none
 | m+1=>match fstB p m with
  | some i=>some i
  | none=>if p m=true then some m else none
theorem fstB_none {p:Nat→Bool}:∀{m:Nat},(∀j,j<m→p j=false)→fstB p m=none
 | 0,_=>rfl
 | m+1,h=>by
  unfold fstB
  rw[fstB_none (fun j hj=>h j (by omega))]
  simp only
  rw[if_neg (by rw[h m (by omega)];decide)]
theorem fstB_of {p:Nat→Bool} {m:Nat} (h0:∀j,j<m→p j=false) (h:p m=true):∀{n:Nat},m<n→fstB p n=some m
 | n+1,hn=>by
  unfold fstB
  by_cases e:m=n
  ·subst e
   rw[fstB_none h0]
   simp only
   rw[if_pos h]
  ·rw[fstB_of h0 h (n:=n) (by omega)]
def mrF (f:Nat→Int):Option Nat:=fstB (fun i=>eqI 26 f (miP (mrN i).data.toList)) 2
set_option maxRecDepth 100000 in
set_option maxHeartbeats 2000000 in
theorem mirrorName_any (f:Nat→Int) (w:World) (ho:OldAt w):Calls Tryz.prog 155 #[.agg (ints 26 f)] w fun e w'=>(∀i,mrF f=some i→e=.returned (.tuple #[.string (mrN i),.int .i64 0]))∧(mrF f=none→e=.returned (.tuple #[.string ⟨#[]⟩,.int .i64 7]))∧Below w.heap.size w w':=by
 obtain ⟨W,hW⟩:∃W,W=w.alloc (.cells (ints 26 f) 27):=⟨_,rfl⟩
 have hb1:Below w.heap.size w W:=by rw[hW];exact (Below.refl _ w).alloc (Nat.le_refl _) _
 have hq1:RowAt W w.heap.size 27 (ints 26 f):=by rw[hW];exact RowAt.new w _ _
 have hmr:=rangeAt_below ho.mr hb1
 have HF:Hid (mrF f=fstB (fun i=>eqI 26 f (miP (mrN i).data.toList)) 2):=rfl
 have HB:Hid (Below w.heap.size w W):=hb1
 have HQ:Hid (RowAt W w.heap.size 27 (ints 26 f)):=hq1
 have hz26:=o_zero v_zero_perm
 have hms:mrA.size=2:=tab_size _ _
 go_enter Tryz.func155,Tryz.ntmps155
 go_upto_region 1 with fail
 rw[←hW]
 clear hW hb1 hq1 ho
 go_wp2_with (refine wpList_load_arr rfl 208 _ rfl 3 0 rfl mrA _ hmr Tryz.underlying208 rfl (by rw[hms];kernel_rfl) ?_)
 have HIX:Hid (∀m X,m<2→(Instr.index 208 (.agg mrA) (.int .i64 (m:Nat))).run Tryz.prog X=.ok (.string (mrN m)) X):=fun m X hm=>run_index_strs 208 9 2 Tryz.underlying208 Tryz.underlying9 str_info mrN m hm X
 generalize mrA=KA at *
 go_loopw [9] (fun i X=>∃m:Nat,m≤2∧i=.int .i64 (m:Nat)∧Hid (∀j,j<m→eqI 26 f (miP (mrN j).data.toList)=false)∧Hid (Below W.heap.size W X)) (fun i _=>((2:Int)-intOf i).toNat)
 case atStart=>exact ⟨0,by omega,rfl,fun j hj=>by omega,Below.refl _ _⟩
 case round =>
  obtain ⟨m,hm,rfl,HJ,HBX⟩:=hrel
  by_cases hlt:m<2
  ·have hix2:=HIX.out m wr hlt
   have HLT:Hid (m<2):=hlt
   have hlt2:(m:Int)<2:=by omega
   have HMI:Hid _:=mirror_any (mrN m) wr
   have HQ2:Hid (RowAt wr w.heap.size 27 (ints 26 f)):=RowAt.below HQ.out HBX.out (RowAt.lt HQ.out)
   have HNM:Hid (∀g,eqI 26 f (miP (mrN m).data.toList)=g→(g=true→mrF f=some m)∧(g=false→∀j,j<m+1→eqI 26 f (miP (mrN j).data.toList)=false)):=fun g hg=>by
    refine ⟨fun e=>by rw[HF.out,fstB_of HJ.out (by rw[hg,e]) HLT.out],fun e j hj=>?_⟩
    by_cases ej:j=m
    ·rw[ej,hg,e]
    ·exact HJ.out j (by omega)
   generalize miP (mrN m).data.toList=MP at *
   generalize miE (mrN m).data.toList=ME at *
   clear hlt HJ
   go_wp2_with fail
   refine Calls.mono HMI.out ?_
   rintro e V ⟨rfl,hb⟩
   have hr1:=RowAt.below HQ2.out hb (RowAt.lt HQ2.out)
   obtain ⟨X,hX⟩:∃X,X=(V.alloc (.cells (ints 26 fun _=>0) 27)).setRow V.heap.size (ints 26 MP):=⟨_,rfl⟩
   have hX2:RowAt X V.heap.size 27 (ints 26 MP):=by rw[hX];exact (RowAt.new V _ _).row _
   have hXb:Below V.heap.size V X:=by rw[hX];exact PK.Below.setRow ((Below.refl _ V).alloc (Nat.le_refl _) _) V.heap.size (Nat.le_refl _) _
   have hX1:RowAt X w.heap.size 27 (ints 26 f):=RowAt.below hr1 hXb (RowAt.lt hr1)
   have hbw:=HBX.out.trans (hb.mono HBX.out.size)
   have HBB:Hid (Below W.heap.size W X):=hbw.trans (hXb.mono hbw.size)
   have hql:=run_eql_perm f MP X
   clear hr1 hXb hbw hb HQ2 HMI HBX
   by_cases hg:eqI 26 f MP=true
   ·have HY:Hid (mrF f=some m):=(HNM.out _ rfl).1 hg
    rw[hg] at hql
    clear hg HNM HF
    go_upto_region 5 with (first | refine wpList_store_row rfl 27 _ _ rfl V.heap.size (ints 26 MP) rfl rfl 27 _ (RowAt.new V _ _) (by rw[ints_size];exact info_perm) (by rw[ints_size,ints_size]) (ints_one _ _) ?_)
    rw[←hX]
    clear hX
    go_wp2_with (first | refine wpList_load_row rfl 27 _ rfl w.heap.size rfl 27 (ints 26 f) (0,0) _ hX1 Tryz.underlying27 rfl (by rw[ints_size];exact info_perm) ?_ | refine wpList_load_row rfl 27 _ rfl V.heap.size rfl 27 (ints 26 MP) (0,0) _ hX2 Tryz.underlying27 rfl (by rw[ints_size];exact info_perm) ?_)
    go_ret2
    exact ⟨fun i hi=>(by rw[HY.out] at hi;cases hi;rfl),fun h=>(by rw[HY.out] at h;cases h),HB.out.trans (HBB.out.mono HB.out.size)⟩
   ·have hg2:eqI 26 f MP=false:=by simpa using hg
    have HN:Hid _:=(HNM.out _ rfl).2 hg2
    rw[hg2] at hql
    clear hg hg2 HNM
    go_upto_region 5 with (first | refine wpList_store_row rfl 27 _ _ rfl V.heap.size (ints 26 MP) rfl rfl 27 _ (RowAt.new V _ _) (by rw[ints_size];exact info_perm) (by rw[ints_size,ints_size]) (ints_one _ _) ?_)
    rw[←hX]
    clear hX
    go_wp2_with (first | refine wpList_load_row rfl 27 _ rfl w.heap.size rfl 27 (ints 26 f) (0,0) _ hX1 Tryz.underlying27 rfl (by rw[ints_size];exact info_perm) ?_ | refine wpList_load_row rfl 27 _ rfl V.heap.size rfl 27 (ints 26 MP) (0,0) _ hX2 Tryz.underlying27 rfl (by rw[ints_size];exact info_perm) ?_)
    go_roundw
    case rel=>exact ⟨m+1,HLT.out,by go_num,HN,HBB⟩
    case measure=>have:=HLT.out;simp[intOf] <;> omega
  ·have HN:Hid (mrF f=none):=by rw[Hid,HF.out,fstB_none (fun j hj=>HJ.out j (by omega))]
   have hln:¬(m:Int)<2:=by omega
   have HBB:Hid (Below w.heap.size w wr):=HB.out.trans (HBX.out.mono HB.out.size)
   clear HJ HF HIX hlt
   go_wp2
   go_ret2
   exact ⟨fun i hi=>(by rw[HN.out] at hi;cases hi),fun _=>rfl,HBB.out⟩
end Go.Proofs.YtkohhdkkbaifoaaGreatDoor
