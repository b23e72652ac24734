/-
  Several texts, joined: HDet, HProd, WRep, WSmall, WEnc, WBad.
-/
import Derived.Test.YtkohhdkkbaifoaaGreatDoorJn13
import Derived.Deep.QuietTactic
import Derived.BigQuiet
import Derived.Test.YtkohhdkkbaifoaaGreatDoorJn1
import Derived.Shelf.Strings.Repeat
import Derived.Shelf.Lay
import Derived.Ground.NamesProg
import Derived.Lib.Agree
import Derived.RegionTactic
/-
  Contracts of hill.cofactor and hill.det.
-/
namespace Go.Proofs.YtkohhdkkbaifoaaGreatDoor
open Go.RowKit PK

def skip (i gone:Nat):Nat:=if i<gone then i else i+1
theorem skip_le {i gone n:Nat} (hi:i<n):skip i gone<n+1:=by unfold skip;split <;> omega
def minor (Z:Nat→Nat→Int) (y x:Nat):Nat→Nat→Int:=fun i j=>Z (skip i y) (skip j x)
def signed (s:Nat) (d:Int):Int:=if s % 2=1 then (26-d) % 26 else d
def detL:Nat→(Nat→Nat→Int)→Int
 | 0,_=>1
 | n+1,Z=>sumTo (Z 0) (fun x=>signed (0+x) (detL n (minor Z 0 x))) (n+1) % 26
def cofL (n:Nat) (Z:Nat→Nat→Int) (y x:Nat):Int:=signed (y+x) (detL n (minor Z y x))
theorem detL_bound:∀n Z,0≤detL n Z∧detL n Z<26
 | 0,_=>by show (0:Int)≤1∧(1:Int)<26;omega
 | n+1,Z=>⟨Int.emod_nonneg _ (by decide),Int.emod_lt_of_pos _ (by decide)⟩
theorem signed_bound (s:Nat) {d:Int} (h:0≤d∧d<26):0≤signed s d∧signed s d<26:=by
 unfold signed
 split <;> omega
theorem cofL_bound (n:Nat) (Z:Nat→Nat→Int) (y x:Nat):0≤cofL n Z y x∧cofL n Z y x<26:=signed_bound _ (detL_bound _ _)

theorem past_quiet (i g:Nat) (hi:i≤1000) (w:World):Calls Tryz.prog 187 #[.int .i64 (i:Nat),.int .i64 (g:Nat)] w fun e w'=>e=.returned (.int .i64 ((skip i g:Nat):Int))∧w'=w :=
 (past_any i g hi w).mono fun _ _ ⟨a,b⟩=>⟨a,b.symm⟩
set_option maxHeartbeats 1000000 in
theorem cof1_any (n:Nat) (hn:n<4) (Z:Nat→Nat→Int) (v:Value) (w:World) (hm:MatAt w v (n+1) (fun _=>n+1) Z) (y x:Nat) (bm b1 b2:Nat)
  (hbm:w.cell? ⟨bm,0,none⟩=some v) (hb1:w.cell? ⟨b1,0,none⟩=some (.int .i64 (y:Nat))) (hb2:w.cell? ⟨b2,0,none⟩=some (.int .i64 (x:Nat))) (i j:Nat) (hi:i<n) (hj:j<n) :
  Calls Tryz.prog 186 #[.int .i64 (i:Nat),.int .i64 (j:Nat),.pointer (some ⟨bm,0,none⟩),.pointer (some ⟨b1,0,none⟩),.pointer (some ⟨b2,0,none⟩)] w fun e w'=>e=.returned (.int .i64 (minor Z y x i j))∧Below w.heap.size w w':=by
 have h1:=skip_le (gone:=y) hi
 have h2:=skip_le (gone:=x) hj
 obtain ⟨b,o,cap,R,rfl,_,hc,hr⟩:=hm.form (by omega)
 have hrow:=hc _ h1
 obtain ⟨b',o',cap',e',_,hnum⟩:=(hr _ h1).form (by omega)
 rw[e'] at hrow
 have hcell:=hnum _ h2
 have HV:Hid (minor Z y x i j=Z (skip i y) (skip j x)):=rfl
 clear hc hr hnum hm e'
 have hr1:((skip i y:Nat):Int)<((n+1:Nat):Int):=by omega
 have hc1:((skip j x:Nat):Int)<((n+1:Nat):Int):=by omega
 go_enter Tryz.func186,Tryz.ntmps186
 go_wp2
 go_quiet (refine Calls.quiet_of_same (past_quiet _ _ (by omega) _))
 go_wp2
 go_ret
 exact ⟨ret_int HV.out.symm,rfl,rfl,rfl,Nat.le_refl _,fun _ _=>rfl⟩
theorem three_new (w:World) (c1 c2 c3:Array Value) (T1 T2 T3:TypeId):RowAt (((w.alloc (.cells c1 T1)).alloc (.cells c2 T2)).alloc (.cells c3 T3)) w.heap.size T1 c1∧RowAt (((w.alloc (.cells c1 T1)).alloc (.cells c2 T2)).alloc (.cells c3 T3)) (w.heap.size+1) T2 c2∧RowAt (((w.alloc (.cells c1 T1)).alloc (.cells c2 T2)).alloc (.cells c3 T3)) (w.heap.size+1+1) T3 c3 ∧
  Below w.heap.size w (((w.alloc (.cells c1 T1)).alloc (.cells c2 T2)).alloc (.cells c3 T3))∧w.heap.size+3≤(((w.alloc (.cells c1 T1)).alloc (.cells c2 T2)).alloc (.cells c3 T3)).heap.size:=by
 have h2:=(RowAt.new (w.alloc (.cells c1 T1)) T2 c2).alloc (.cells c3 T3)
 have h3:=RowAt.new ((w.alloc (.cells c1 T1)).alloc (.cells c2 T2)) T3 c3
 simp only[World.size_alloc] at h2 h3
 exact ⟨((RowAt.new w _ _).alloc _).alloc _,h2,h3,(((Below.refl _ _).alloc (Nat.le_refl _) _).alloc (by simp) _).alloc (by simp;omega) _,by simp⟩
def DetOk (n:Nat):Prop:=∀(Z:Nat→Nat→Int) (v:Value) (w:World),MatAt w v n (fun _=>n) Z→(∀r,r<n→∀c,c<n→0≤Z r c∧Z r c<26) →
 Calls Tryz.prog 185 #[v] w fun e w'=>e=.returned (.int .i64 (detL n Z))∧Below w.heap.size w w'
set_option maxHeartbeats 1000000 in
theorem cofactor_of (n:Nat) (hn:n<4) (ih:DetOk n) (Z:Nat→Nat→Int) (v:Value) (w:World) (hm:MatAt w v (n+1) (fun _=>n+1) Z) (hZ:∀r,r<n+1→∀c,c<n+1→0≤Z r c∧Z r c<26) (y x:Nat) (hy:y<n+1) (hx:x<n+1) :
  Calls Tryz.prog 150 #[v,.int .i64 (y:Nat),.int .i64 (x:Nat)] w fun e w'=>e=.returned (.int .i64 (cofL n Z y x))∧Below w.heap.size w w':=by
 have hmf:∀(fn:Fn) (first cap:Array Value) (w:World),(Instr.makeFunc fn first cap).run Tryz.prog w=.ok (.func fn first cap) w:=fun _ _ _ _=>rfl
 have HM:=(show Hid (MatAt w v (n+1) (fun _=>n+1) Z) from hm)
 obtain ⟨a,cap,rfl,_⟩:=hm.len
 have HZ:=(show Hid (∀r,r<n→∀c,c<n→0≤minor Z y x r c∧minor Z y x r c<26) from fun r hr c hc=>hZ _ (skip_le hr) _ (skip_le hc))
 have HIH:Hid (DetOk n):=ih
 clear hm hZ ih
 go_enter Tryz.func150,Tryz.ntmps150
 go_wp2_with fail
 have ha1:=((HM.out.alloc (.cells #[.slice a (n+1) cap] 23)).alloc (.cells #[.int .i64 (y:Nat)] 3)).alloc (.cells #[.int .i64 (x:Nat)] 3)
 obtain ⟨q1,q2,q3,hb,hsz⟩:=three_new w #[.slice a (n+1) cap] #[.int .i64 (y:Nat)] #[.int .i64 (x:Nat)] 23 3 3
 generalize ((w.alloc (.cells #[.slice a (n+1) cap] 23)).alloc (.cells #[.int .i64 (y:Nat)] 3)).alloc (.cells #[.int .i64 (x:Nat)] 3)=W0 at *
 refine Calls.mono (made_any n (by omega) (minor Z y x) 186 #[.pointer (some ⟨w.heap.size,0,none⟩),.pointer (some ⟨w.heap.size+1,0,none⟩),.pointer (some ⟨w.heap.size+1+1,0,none⟩)] W0 (by intro args W;go_simp) (fun i hi j hj W hW=>cof1_any n hn Z _ W (ha1.below hW) y x _ _ _ ((q1.below hW q1.lt).cell rfl) ((q2.below hW q2.lt).cell rfl) ((q3.below hW q3.lt).cell rfl) i j hi hj)) ?_
 rintro e W1 ⟨v',rfl,hv',hb1⟩
 replace q2:=q2.below hb1 q2.lt
 replace q3:=q3.below hb1 q3.lt
 have hz1:=hb1.size
 replace hb:=hb.trans (hb1.mono (by omega))
 clear hb1 q1 ha1
 go_wp2_with fail
 refine Calls.mono (HIH.out (minor Z y x) v' W1 hv' HZ.out) ?_
 rintro e W2 ⟨rfl,hb2⟩
 have c2:=(q2.below hb2 q2.lt).cell (i:=0) rfl
 have c3:=(q3.below hb2 q3.lt).cell (i:=0) rfl
 have hdb:=detL_bound n (minor Z y x)
 have HV:Hid (cofL n Z y x=signed (y+x) (detL n (minor Z y x))):=rfl
 replace hb:=hb.trans (hb2.mono (by omega))
 clear hb2 q2 q3
 generalize detL n (minor Z y x)=d at *
 by_cases hs:(y+x) % 2=1
 ·have HS:Hid (signed (y+x) d=(26-d) % 26):=by rw[Hid];unfold signed;rw[if_pos hs]
  have hsi:(((y:Nat):Int)+((x:Nat):Int)) % 2=1:=by omega
  clear hs
  go_wp2
  go_ret
  exact ⟨ret_int (by rw[HV.out,HS.out]),hb⟩
 ·have HS:Hid (signed (y+x) d=d):=by rw[Hid];unfold signed;rw[if_neg hs]
  have hsi:(((y:Nat):Int)+((x:Nat):Int)) % 2=0:=by omega
  clear hs
  go_wp2
  go_ret
  exact ⟨ret_int (by rw[HV.out,HS.out]),hb⟩
theorem det_zero:DetOk 0:=fun Z v w hm _=>by
 obtain ⟨a,cap,rfl,_⟩:=hm.len
 go_enter Tryz.func185,Tryz.ntmps185
 go_wp2
 go_ret
 exact ⟨rfl,(Below.refl _ _).alloc (Nat.le_refl _) _⟩
set_option maxHeartbeats 1000000 in
theorem det1_any (n:Nat) (hn:n<4) (ih:DetOk n) (Z:Nat→Nat→Int) (v:Value) (w:World) (hm:MatAt w v (n+1) (fun _=>n+1) Z) (hZ:∀r,r<n+1→∀c,c<n+1→0≤Z r c∧Z r c<26) (bm:Nat) (hbm:w.cell? ⟨bm,0,none⟩=some v) (x:Nat) (hx:x<n+1) :
  Calls Tryz.prog 218 #[.int .i64 (x:Nat),.pointer (some ⟨bm,0,none⟩)] w fun e w'=>e=.returned (.int .i64 (cofL n Z 0 x))∧Below w.heap.size w w':=by
 have HC:=(show Hid (Calls Tryz.prog 150 #[v,.int .i64 ((0:Nat):Int),.int .i64 (x:Nat)] w fun e w'=>e=.returned (.int .i64 (cofL n Z 0 x))∧Below w.heap.size w w') from cofactor_of n hn ih Z v w hm hZ 0 x (by omega) hx)
 clear hm hZ ih
 go_enter Tryz.func218,Tryz.ntmps218
 go_wp2_with fail
 refine Calls.mono HC.out ?_
 rintro e W1 ⟨rfl,hb⟩
 go_wp2
 go_ret
 exact ⟨rfl,hb⟩
set_option maxHeartbeats 1000000 in
theorem det_step (n:Nat) (hn:n<4) (ih:DetOk n):DetOk (n+1):=fun Z v w hm hZ=>by
 have hmf:∀(fn:Fn) (first cap:Array Value) (w:World),(Instr.makeFunc fn first cap).run Tryz.prog w=.ok (.func fn first cap) w:=fun _ _ _ _=>rfl
 have HM:=(show Hid (MatAt w v (n+1) (fun _=>n+1) Z) from hm)
 have HZ:=(show Hid (∀r,r<n+1→∀c,c<n+1→0≤Z r c∧Z r c<26) from hZ)
 have HIH:Hid (DetOk n):=ih
 obtain ⟨b,o,cap,R,rfl,_,hc,hr⟩:=hm.form (by omega)
 have hc0:=hc 0 (by omega)
 rw[Nat.add_zero] at hc0
 have HR0:=(show Hid (NumsAt w (R 0) (n+1) (Z 0)) from hr 0 (by omega))
 have hblk:=cell_block hc0
 clear hm hZ ih hc hr
 go_enter Tryz.func185,Tryz.ntmps185
 go_wp2_with fail
 have hm1:=HM.out.alloc (.cells #[.slice (some ⟨b,o,none⟩) (n+1) cap] 23)
 have hr1:=HR0.out.alloc (.cells #[.slice (some ⟨b,o,none⟩) (n+1) cap] 23)
 have q1:=RowAt.new w 23 #[.slice (some ⟨b,o,none⟩) (n+1) cap]
 have hb1:Below w.heap.size w (w.alloc (.cells #[.slice (some ⟨b,o,none⟩) (n+1) cap] 23)):=(Below.refl _ _).alloc (Nat.le_refl _) _
 have hz1:=hb1.size
 generalize w.alloc (.cells #[.slice (some ⟨b,o,none⟩) (n+1) cap] 23)=W0 at *
 refine Calls.mono (times_any (R 0) (n+1) (by omega) (Z 0) (fun x=>cofL n Z 0 x) 218 #[.pointer (some ⟨w.heap.size,0,none⟩)] W0 hr1 (by intro args W;go_simp) (fun k hk=>⟨HZ.out 0 (by omega) k hk,cofL_bound _ _ _ _⟩) (fun k hk W hW=>det1_any n hn HIH.out Z _ W (hm1.below hW) HZ.out _ ((q1.below hW q1.lt).cell rfl) k hk)) ?_
 rintro e W1 ⟨rfl,hb2⟩
 go_wp2
 go_ret
 exact ⟨rfl,hb1.trans (hb2.mono hz1)⟩
theorem det_any:∀n,n≤4→DetOk n
 | 0,_=>det_zero
 | n+1,h=>det_step n (by omega) (det_any n (by omega))
theorem cofactor_any (n:Nat) (hn:n<4) (Z:Nat→Nat→Int) (v:Value) (w:World) (hm:MatAt w v (n+1) (fun _=>n+1) Z) (hZ:∀r,r<n+1→∀c,c<n+1→0≤Z r c∧Z r c<26) (y x:Nat) (hy:y<n+1) (hx:x<n+1) :
  Calls Tryz.prog 150 #[v,.int .i64 (y:Nat),.int .i64 (x:Nat)] w fun e w'=>e=.returned (.int .i64 (cofL n Z y x))∧Below w.heap.size w w' :=
 cofactor_of n hn (det_any n (by omega)) Z v w hm hZ y x hy hx
end Go.Proofs.YtkohhdkkbaifoaaGreatDoor

/-
  Contracts of hill.Det, hill.Product, hill.Inverse.
-/
namespace Go.Proofs.YtkohhdkkbaifoaaGreatDoor
open Go.RowKit PK

theorem PK.MatAt.square {w:World} {v:Value} {n:Nat} {L:Nat→Nat} {Z:Nat→Nat→Int} (h:MatAt w v n L Z) (hL:∀r,r<n→L r=n):MatAt w v n (fun _=>n) Z:=h.congr hL fun _ _ _ _=>rfl
set_option maxHeartbeats 1000000 in
theorem hdet_ok (v:Value) (n:Nat) (L:Nat→Nat) (Z:Nat→Nat→Int) (hg:GoodM n Z) (hL:∀r,r<n→L r=n) (w:World) (hv:MatAt w v n L Z) :
  Calls Tryz.prog 146 #[v] w fun e w'=>e=.returned (.tuple #[.int .i64 (detL n Z),.int .i64 0])∧Below w.heap.size w w':=by
 have H0:Hid (matErr n L Z=0):=(matErr_zero n L Z).2 ⟨hg,hL⟩
 have HV:=(show Hid (MatAt w v n L Z) from hv)
 have HD:=(show Hid (Calls Tryz.prog 185 #[v] w fun e w'=>e=.returned (.int .i64 (detL n Z))∧Below w.heap.size w w') from det_any n hg.le Z v w (hv.square hL) hg.num)
 clear hg hL hv
 go_enter Tryz.func146,Tryz.ntmps146
 go_wp2_with fail
 refine Calls.mono (hwrong_any v n L Z w HV.out) ?_
 rintro e W1 ⟨rfl,rfl⟩
 rw[H0.out]
 go_wp2_with fail
 refine Calls.mono HD.out ?_
 rintro e W2 ⟨rfl,hb⟩
 go_wp2
 go_ret2
 exact ⟨rfl,hb⟩
def mulL (n:Nat) (A B:Nat→Nat→Int):Nat→Nat→Int:=fun y x=>sumTo (A y) (fun k=>B k x) n % 26
end Go.Proofs.YtkohhdkkbaifoaaGreatDoor

/-
  strings.Repeat of one X, out of the shelf; hill.filled, number, letter.
-/
namespace Go.Proofs.YtkohhdkkbaifoaaGreatDoor
open Go.Shelf Go.RowKit PK

shelf_lay Lays.n105 Nm 105 at Tryz as Tryz.laysRepeat

theorem extraRepeat:Builder.Extra Tryz.prog Tryz.laysRepeat_ren where
 sizeBuilder:=by kernel_rfl
 liesBuilder:=by kernel_rfl
 t5:=Tryz.laysRepeat.t5
 a5:=Tryz.laysRepeat.a5
 z5:=Tryz.laysRepeat.z5
 v5:=Tryz.laysRepeat.v5
 infoByte:=by kernel_rfl
 cellsByte:=by kernel_rfl
 sizeByte:=by kernel_rfl
 neB5:=by decide
theorem fRepeat:Tryz.laysRepeat_ren.f 105=175:=by kernel_rfl
theorem rep_X (c:Nat):Lib.repeatL [88] c=List.replicate c 88:=by
 induction c with
 | zero=>rfl
 | succ c ih=>rw[Lib.repeatL,ih];rfl
theorem repeatX (c:Nat) (hc:c≤4) (w:World):Calls Tryz.prog 175 #[.string ⟨#[88]⟩,.int .i64 (c:Nat)] w fun e w'=>e=.returned (.string ⟨(List.replicate c 88).toArray⟩)∧Below w.heap.size w w':=by
 have h:=Any.strings_Repeat Tryz.laysRepeat extraRepeat ⟨#[88]⟩ c w (by omega) (by show 1*c≤_;omega)
 rw[fRepeat] at h
 refine h.mono fun e w' ⟨he,hw⟩=>⟨?_,hw⟩
 rw[he]
 show Ending.returned (.string ⟨(Lib.repeatL [88] c).toArray⟩)=_
 rw[rep_X]
end Go.Proofs.YtkohhdkkbaifoaaGreatDoor

/-
  Contracts of hill.number, hill.letter, hill.filled, and of the closure of hill.Write.
-/
namespace Go.Proofs.YtkohhdkkbaifoaaGreatDoor
open Go.RowKit PK

def num (b:UInt8):Int:=(b.toNat:Int)-65
theorem num_any (c:Nat) (h1:65≤c) (h2:c≤90) (w:World):Calls Tryz.prog 129 #[.int .u8 (c:Nat)] w fun e w'=>e=.returned (.int .i64 ((c:Int)-65))∧w=w':=by
 have hw:IntKind.u8.wrap ((c:Int)-65)=(c:Int)-65:=by rw[IntKind.wrap_u8];omega
 go_enter Tryz.func129,Tryz.ntmps129
 go_wp2
 go_ret
 exact ⟨rfl,rfl⟩
theorem letter_anyW (n:Int) (h1:0≤n) (h2:n<26) (w:World):Calls Tryz.prog 130 #[.int .i64 n] w fun e w'=>e=.returned (.int .u8 (65+n))∧w=w':=by
 have hw:IntKind.u8.wrap (65+n)=65+n:=by rw[IntKind.wrap_u8];omega
 go_enter Tryz.func130,Tryz.ntmps130
 go_wp2
 go_ret
 exact ⟨rfl,rfl⟩
def fullL (n:Nat) (t:List UInt8):List UInt8:=t++List.replicate ((n-t.length % n) % n) 88
theorem wpList_catW {P:Program} {ops:Array Oper} {rest:List Oper} {op:Oper} {a:Act} {w:World} {Q:Exit→Act→World→Prop} (hgd:op.guard=none) (t t':TypeId) (x y:Operand) (ho:op.op=.binOp .add t x y t')
  (S T:ByteArray) (hx:a.eval x=.string S) (hy:a.eval y=.string T) (hsz:S.size+T.size≤9223372036854775807) (h:wpList P ops Q rest (a.put op.dst (.string (S++T))) w):wpList P ops Q (op :: rest) a w :=
 wpList_plain hgd fun _ hK=>by
  unfold Oper.wp execOp
  have h1:¬(S.size+T.size > 9223372036854775807):=by omega
  have h2:(eqGuard .add t x y (.string S) (.string T)).run P w=.ok () w:=by simp[eqGuard]
  have h3:(binOp .add t (.string S) (.string T)).run P w=.ok (.string (S++T)) w:=by rw[binOp_string_add,run_string_add_if,if_neg h1]
  simp only[ho,hx,hy,Sem.run_bind,h2,h3,Result.andThen_ok]
  exact hK _ _ h
theorem cat_bytes (S:ByteArray) (l:List UInt8):S++(⟨l.toArray⟩:ByteArray)=⟨(S.data.toList++l).toArray⟩:=by
 apply ByteArray.ext
 simp[ByteArray.data_append]
set_option maxHeartbeats 1000000 in
theorem filled_any (s:ByteArray) (hs:s.size≤65536) (n:Nat) (h1:1≤n) (h4:n≤4) (w:World):Calls Tryz.prog 126 #[.string s,.int .i64 (n:Nat)] w fun e w'=>e=.returned (.string ⟨(fullL n s.data.toList).toArray⟩)∧Below w.heap.size w w':=by
 have HL:Hid (s.size=s.data.toList.length):=Pl.size_len s
 obtain ⟨c,hc⟩:∃c,c=(n-s.size % n) % n:=⟨_,rfl⟩
 have hmod:s.size % n<n:=Nat.mod_lt _ (by omega)
 have hcn:c<n:=by rw[hc];exact Nat.mod_lt _ (by omega)
 have HV:Hid (fullL n s.data.toList=s.data.toList++List.replicate c 88):=by rw[Hid];unfold fullL;rw[←HL.out,←hc]
 have e1:((s.size:Nat):Int) % ((n:Nat):Int)=((s.size % n:Nat):Int):=by omega
 have e2:(((n:Nat):Int)-((s.size % n:Nat):Int)) % ((n:Nat):Int)=((c:Nat):Int):=by
  have:((n:Nat):Int)-((s.size % n:Nat):Int)=((n-s.size % n:Nat):Int):=by omega
  rw[this,hc]
  omega
 obtain ⟨r,hr⟩:∃r,r=s.size % n:=⟨_,rfl⟩
 rw[←hr] at e1 e2 hmod
 have hne:(((n:Nat):Int)==0)=false:=by simp;omega
 clear hc hr
 have hns:((⟨(List.replicate c 88).toArray⟩:ByteArray)).size=c:=by simp[ByteArray.size]
 go_enter Tryz.func126,Tryz.ntmps126
 go_wp2_with fail
 refine Calls.mono (repeatX c (by omega) w) ?_
 rintro e W1 ⟨rfl,hb⟩
 have HC:Hid (s++(⟨(List.replicate c 88).toArray⟩:ByteArray)=⟨(fullL n s.data.toList).toArray⟩):=by rw[Hid,cat_bytes,HV.out]
 obtain ⟨T,hT⟩:∃T:ByteArray,T=⟨(List.replicate c 88).toArray⟩:=⟨_,rfl⟩
 rw[←hT] at HC hns ⊢
 clear hT
 go_wp2_with (first | refine wpList_catW rfl _ _ _ _ rfl _ _ rfl rfl (by omega) ?_)
 go_ret
 exact ⟨by rw[←HC.out];rfl,hb⟩
end Go.Proofs.YtkohhdkkbaifoaaGreatDoor

/-
  What Write makes of a text: plain mathematics. The closure of hill.Write.
-/
namespace Go.Proofs.YtkohhdkkbaifoaaGreatDoor
open Go.RowKit PK

def encN (n:Nat) (Z:Nat→Nat→Int) (full:List UInt8) (i:Nat):Int:=sumTo (Z (i % n)) (fun k=>num (full.getD (i-i % n+k) 0)) n % 26
def encL (n:Nat) (Z:Nat→Nat→Int) (full:List UInt8) (m:Nat):List UInt8:=(List.range m).map fun i=>UInt8.ofNat (65+(encN n Z full i).toNat)
theorem encN_bound (n:Nat) (Z:Nat→Nat→Int) (full:List UInt8) (i:Nat):0≤encN n Z full i∧encN n Z full i<26:=⟨Int.emod_nonneg _ (by decide),Int.emod_lt_of_pos _ (by decide)⟩
theorem encL_step (n:Nat) (Z:Nat→Nat→Int) (full:List UInt8) (m:Nat):encL n Z full (m+1)=encL n Z full m++[UInt8.ofNat (65+(encN n Z full m).toNat)]:=by unfold encL;rw[List.range_succ,List.map_append];rfl
theorem encL_length (n:Nat) (Z:Nat→Nat→Int) (full:List UInt8) (m:Nat):(encL n Z full m).length=m:=by simp[encL]
theorem fullL_length (n:Nat) (h:1≤n) (t:List UInt8):(fullL n t).length % n=0∧t.length≤(fullL n t).length∧(fullL n t).length<t.length+n:=by
 have e:(fullL n t).length=t.length+(n-t.length % n) % n:=by simp[fullL]
 have h1:t.length % n<n:=Nat.mod_lt _ (by omega)
 have h2:(n-t.length % n) % n<n:=Nat.mod_lt _ (by omega)
 refine ⟨?_,by omega,by omega⟩
 rw[e]
 by_cases h0:t.length % n=0
 ·rw[h0,Nat.sub_zero,Nat.mod_self,Nat.add_zero];exact h0
 ·rw[Nat.mod_eq_of_lt (show n-t.length % n<n by omega)]
  have:=Nat.div_add_mod t.length n
  have e2:t.length+(n-t.length % n)=n*(t.length / n+1):=by rw[Nat.mul_add];omega
  rw[e2]
  exact Nat.mul_mod_right _ _
theorem lets_full (n:Nat) (t:List UInt8) (h:Pl.Lets t):Pl.Lets (fullL n t):=fun c hc=>by
 rcases List.mem_append.1 hc with h1 | h1
 ·exact h c h1
 ·rw[(List.mem_replicate.1 h1).2];decide
theorem num_bound {l:List UInt8} (h:Pl.Lets l) (i:Nat) (hi:i<l.length):(0≤num (l.getD i 0)∧num (l.getD i 0)<26)∧65≤(l.getD i 0).toNat∧(l.getD i 0).toNat≤90:=by
 have hm:l.getD i 0 ∈ l:=by
  have:l[i]? = some (l.getD i 0):=by simp[List.getD,List.getElem?_eq_getElem hi]
  exact List.mem_of_getElem? this
 have:=of_decide_eq_true (show decide _=true from h _ hm)
 unfold num
 omega
set_option maxHeartbeats 1000000 in
theorem wr1_any (s:ByteArray) (hl:Pl.Lets s.data.toList) (hs:s.size≤70000) (bf ba at':Nat) (w:World) (hbf:w.cell? ⟨bf,0,none⟩=some (.string s)) (hba:w.cell? ⟨ba,0,none⟩=some (.int .i64 (at':Nat))) (k:Nat) (hk:at'+k<s.size) :
  Calls Tryz.prog 128 #[.int .i64 (k:Nat),.pointer (some ⟨bf,0,none⟩),.pointer (some ⟨ba,0,none⟩)] w fun e w'=>e=.returned (.int .i64 (num (s.data.toList.getD (at'+k) 0)))∧Below w.heap.size w w':=by
 have hb:=num_bound hl (at'+k) (by have:=Pl.size_len s;omega)
 have HE:Hid (num (s.data.toList.getD (at'+k) 0)=(((s[at'+k]).toNat:Nat):Int)-65):=by rw[Hid,getD_byte s (at'+k) hk];rfl
 have hb2:65≤(s[at'+k]).toNat∧(s[at'+k]).toNat≤90:=by rw[←getD_byte s (at'+k) hk];exact hb.2
 have HN:=(show Hid (∀W,Calls Tryz.prog 129 #[.int .u8 (((s[at'+k]).toNat:Nat):Int)] W fun e w'=>e=.returned (.int .i64 ((((s[at'+k]).toNat:Nat):Int)-65))∧W=w') from fun W=>num_any _ hb2.1 hb2.2 W)
 have hi:((at':Nat):Int)+((k:Nat):Int)<((s.size:Nat):Int):=by omega
 clear hb hb2 hl
 go_enter Tryz.func128,Tryz.ntmps128
 go_wp2_with fail
 refine Calls.mono (HN.out w) ?_
 rintro e W1 ⟨rfl,rfl⟩
 go_wp2
 go_ret
 exact ⟨ret_int HE.out.symm,Below.refl _ _⟩
end Go.Proofs.YtkohhdkkbaifoaaGreatDoor

/-
  Contract of hill.Write where something is wrong.
-/
namespace Go.Proofs.YtkohhdkkbaifoaaGreatDoor
open Go.RowKit PK

end Go.Proofs.YtkohhdkkbaifoaaGreatDoor
