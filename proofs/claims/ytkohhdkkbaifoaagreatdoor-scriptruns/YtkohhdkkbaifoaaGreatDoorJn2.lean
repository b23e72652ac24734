/-
  Several texts, joined: HKit, ScA, VMath, ZMath, ZSheet, ZKit, ScP, HWrong.
-/
import Derived.Test.YtkohhdkkbaifoaaGreatDoorJn1
import Derived.Defers
import Derived.Recover
import Derived.Deep.OwnRows
import Derived.Lib.SmallJoins
import Derived.Deep.QuietTactic
import Derived.BigQuiet
import Derived.Laws.EntriesVeiled
import Derived.RegionTactic
import Derived.Deep.RegionHeld3
import Derived.OrdersHeld
import Derived.Deep.DeepCutAuto
import Derived.Shelf.Strings.Search2
import Derived.Shelf.Strings.Search3
import Derived.Shelf.Lay
import Derived.Ground.NamesProg
import Derived.Lib.Agree
import Derived.Test.YtkohhdkkbaifoaaGreatDoorChecked
/-
  Laws of no program: slices of numbers and of such slices, read in a world; what is wrong with a matrix.
-/
namespace Go.Proofs.YtkohhdkkbaifoaaGreatDoor.PK
open Go.RowKit

def NumsAt (w:World) (v:Value) (n:Nat) (f:Nat→Int):Prop :=
 ∃(a:Option Addr) (cap:Nat),v=.slice a n cap∧n≤maxLen∧∀c,c<n→∃b o,a=some ⟨b,o,none⟩∧w.cell? ⟨b,o+c,none⟩=some (.int .i64 (f c))
def MatAt (w:World) (v:Value) (n:Nat) (L:Nat→Nat) (Z:Nat→Nat→Int):Prop :=
 ∃(a:Option Addr) (cap:Nat) (R:Nat→Value),v=.slice a n cap∧n≤maxLen∧(∀r,r<n→∃b o,a=some ⟨b,o,none⟩∧w.cell? ⟨b,o+r,none⟩=some (R r))∧∀r,r<n→NumsAt w (R r) (L r) (Z r)
theorem cell_block {w:World} {a:Addr} {v:Value} (h:w.cell? a=some v):a.block<w.heap.size:=World.block_lt_of_cell? _ _ h
theorem NumsAt.below {w w':World} {v:Value} {n:Nat} {f:Nat→Int} (h:NumsAt w v n f) (hb:Below w.heap.size w w'):NumsAt w' v n f:=by
 obtain ⟨a,cap,h1,h2,h3⟩:=h
 refine ⟨a,cap,h1,h2,fun c hc=>?_⟩
 obtain ⟨b,o,e,hcell⟩:=h3 c hc
 exact ⟨b,o,e,(hb.cell (p:=⟨b,o+c,none⟩) (cell_block hcell)).trans hcell⟩
theorem MatAt.below {w w':World} {v:Value} {n:Nat} {L:Nat→Nat} {Z:Nat→Nat→Int} (h:MatAt w v n L Z) (hb:Below w.heap.size w w'):MatAt w' v n L Z:=by
 obtain ⟨a,cap,R,h1,h2,h3,h4⟩:=h
 refine ⟨a,cap,R,h1,h2,fun r hr=>?_,fun r hr=>(h4 r hr).below hb⟩
 obtain ⟨b,o,e,hcell⟩:=h3 r hr
 exact ⟨b,o,e,(hb.cell (p:=⟨b,o+r,none⟩) (cell_block hcell)).trans hcell⟩
theorem NumsAt.alloc {w:World} {v:Value} {n:Nat} {f:Nat→Int} (h:NumsAt w v n f) (o:Obj):NumsAt (w.alloc o) v n f:=h.below ((Below.refl _ _).alloc (Nat.le_refl _) _)
theorem MatAt.alloc {w:World} {v:Value} {n:Nat} {L:Nat→Nat} {Z:Nat→Nat→Int} (h:MatAt w v n L Z) (o:Obj):MatAt (w.alloc o) v n L Z:=h.below ((Below.refl _ _).alloc (Nat.le_refl _) _)
theorem NumsAt.drew {w:World} {v:Value} {n:Nat} {f:Nat→Int} (h:NumsAt w v n f):NumsAt w.drew v n f:=h
theorem MatAt.drew {w:World} {v:Value} {n:Nat} {L:Nat→Nat} {Z:Nat→Nat→Int} (h:MatAt w v n L Z):MatAt w.drew v n L Z:=h
theorem NumsAt.congr {w:World} {v:Value} {n:Nat} {f g:Nat→Int} (h:NumsAt w v n f) (e:∀c,c<n→f c=g c):NumsAt w v n g:=by
 obtain ⟨a,cap,h1,h2,h3⟩:=h
 refine ⟨a,cap,h1,h2,fun c hc=>?_⟩
 rw[←e c hc]
 exact h3 c hc
theorem MatAt.congr {w:World} {v:Value} {n:Nat} {L L':Nat→Nat} {Z Z':Nat→Nat→Int} (h:MatAt w v n L Z) (eL:∀r,r<n→L r=L' r) (eZ:∀r,r<n→∀c,c<L r→Z r c=Z' r c):MatAt w v n L' Z':=by
 obtain ⟨a,cap,R,h1,h2,h3,h4⟩:=h
 refine ⟨a,cap,R,h1,h2,h3,fun r hr=>?_⟩
 rw[←eL r hr]
 exact (h4 r hr).congr (eZ r hr)
theorem NumsAt.form {w:World} {v:Value} {n:Nat} {f:Nat→Int} (h:NumsAt w v n f) (hn:0<n):∃b o cap,v=.slice (some ⟨b,o,none⟩) n cap∧n≤maxLen∧∀c,c<n→w.cell? ⟨b,o+c,none⟩=some (.int .i64 (f c)):=by
 obtain ⟨a,cap,h1,h2,h3⟩:=h
 obtain ⟨b,o,e,_⟩:=h3 0 hn
 subst e
 refine ⟨b,o,cap,h1,h2,fun c hc=>?_⟩
 obtain ⟨b',o',e',hcell⟩:=h3 c hc
 cases e'
 exact hcell
theorem MatAt.form {w:World} {v:Value} {n:Nat} {L:Nat→Nat} {Z:Nat→Nat→Int} (h:MatAt w v n L Z) (hn:0<n):∃(b o cap:Nat) (R:Nat→Value),v=.slice (some ⟨b,o,none⟩) n cap∧n≤maxLen∧(∀r,r<n→w.cell? ⟨b,o+r,none⟩=some (R r))∧∀r,r<n→NumsAt w (R r) (L r) (Z r):=by
 obtain ⟨a,cap,R,h1,h2,h3,h4⟩:=h
 obtain ⟨b,o,e,_⟩:=h3 0 hn
 subst e
 refine ⟨b,o,cap,R,h1,h2,fun r hr=>?_,h4⟩
 obtain ⟨b',o',e',hcell⟩:=h3 r hr
 cases e'
 exact hcell
theorem NumsAt.len {w:World} {v:Value} {n:Nat} {f:Nat→Int} (h:NumsAt w v n f):∃a cap,v=.slice a n cap∧n≤maxLen:=by
 obtain ⟨a,cap,h1,h2,_⟩:=h
 exact ⟨a,cap,h1,h2⟩
theorem MatAt.len {w:World} {v:Value} {n:Nat} {L:Nat→Nat} {Z:Nat→Nat→Int} (h:MatAt w v n L Z):∃a cap,v=.slice a n cap∧n≤maxLen:=by
 obtain ⟨a,cap,R,h1,h2,_⟩:=h
 exact ⟨a,cap,h1,h2⟩
theorem NumsAt.of_row {w:World} {g n cap:Nat} {T:TypeId} {f:Nat→Int} (h:RowAt w g T (ints n f)) (hn:n≤maxLen):NumsAt w (.slice (some ⟨g,0,none⟩) n cap) n f :=
 ⟨some ⟨g,0,none⟩,cap,rfl,hn,fun c hc=>⟨g,0,rfl,by have:=h.cell (ints_get f hc);simpa using this⟩⟩
theorem MatAt.of_rows {w:World} {g n cap:Nat} {T:TypeId} {R:Nat→Value} {L:Nat→Nat} {Z:Nat→Nat→Int} (h:RowAt w g T (tab n R)) (hn:n≤maxLen) (hR:∀r,r<n→NumsAt w (R r) (L r) (Z r)):MatAt w (.slice (some ⟨g,0,none⟩) n cap) n L Z :=
 ⟨some ⟨g,0,none⟩,cap,R,rfl,hn,fun r hr=>⟨g,0,rfl,by have:=h.cell (tab_get R hr);simpa using this⟩,hR⟩
theorem MatAt.nil (w:World) (L:Nat→Nat) (Z:Nat→Nat→Int):MatAt w (.slice none 0 0) 0 L Z:=⟨none,0,fun _=>.bool false,rfl,by decide,fun r hr=>by omega,fun r hr=>by omega⟩

def firstE (g:Nat→Int):Nat→Int
 | 0=>0
 | k+1=>if firstE g k≠0 then firstE g k else g k
theorem firstE_zero (g:Nat→Int):∀n,firstE g n=0↔∀k,k<n→g k=0
 | 0=>⟨fun _ k hk=>by omega,fun _=>rfl⟩
 | n+1=>by
  show (if firstE g n≠0 then firstE g n else g n)=0↔_
  have ih:=firstE_zero g n
  by_cases h:firstE g n=0
  ·rw[if_neg (by simp[h])]
   refine ⟨fun hn k hk=>?_,fun hk=>hk n (by omega)⟩
   by_cases e:k=n
   ·rw[e];exact hn
   ·exact ih.1 h k (by omega)
  ·rw[if_pos h]
   exact ⟨fun hc=>absurd hc h,fun hk=>absurd (ih.2 fun k hk'=>hk k (by omega)) h⟩
theorem firstE_step (g:Nat→Int) (k:Nat) (h:firstE g k=0):firstE g (k+1)=g k:=by
 show (if firstE g k≠0 then firstE g k else g k)=g k
 rw[if_neg (by simp[h])]
theorem firstE_keep (g:Nat→Int) (k:Nat) (h:firstE g k≠0):∀n,k≤n→firstE g n=firstE g k:=fun n hn=>by
 induction hn with
 | refl=>rfl
 | step _ ih =>
  show (if firstE g _≠0 then firstE g _ else g _)=_
  rw[if_pos (by rw[ih];exact h),ih]
def numErr (x:Int):Int:=if x<0∨26≤x then 3 else 0
def rowErr (l n:Nat) (f:Nat→Int):Int:=if l≠n then 8 else firstE (fun c=>numErr (f c)) l
def matErr (n:Nat) (L:Nat→Nat) (Z:Nat→Nat→Int):Int:=if n<1∨4<n then 5 else firstE (fun r=>rowErr (L r) n (Z r)) n
theorem numErr_zero (x:Int):numErr x=0↔0≤x∧x<26:=by
 unfold numErr
 by_cases h:x<0∨26≤x
 ·rw[if_pos h];constructor
  ·intro h;cases h
  ·omega
 ·rw[if_neg h];constructor
  ·intro _;omega
  ·intro _;rfl
theorem rowErr_zero (l n:Nat) (f:Nat→Int):rowErr l n f=0↔l=n∧∀c,c<n→0≤f c∧f c<26:=by
 unfold rowErr
 by_cases h:l=n
 ·subst h
  rw[if_neg (by simp),firstE_zero]
  exact ⟨fun h=>⟨rfl,fun c hc=>(numErr_zero _).1 (h c hc)⟩,fun h c hc=>(numErr_zero _).2 (h.2 c hc)⟩
 ·rw[if_pos h]
  exact ⟨fun h=>(by cases h),fun hh=>absurd hh.1 h⟩
structure GoodM (n:Nat) (Z:Nat→Nat→Int):Prop where
 pos:1≤n
 le:n≤4
 num:∀r,r<n→∀c,c<n→0≤Z r c∧Z r c<26
theorem matErr_zero (n:Nat) (L:Nat→Nat) (Z:Nat→Nat→Int):matErr n L Z=0↔GoodM n Z∧∀r,r<n→L r=n:=by
 unfold matErr
 by_cases h:n<1∨4<n
 ·rw[if_pos h]
  refine ⟨fun h=>(by cases h),fun hh=>?_⟩
  have h1:=hh.1.pos
  have h2:=hh.1.le
  omega
 ·rw[if_neg h,firstE_zero]
  constructor
  ·intro hh
   refine ⟨⟨by omega,by omega,fun r hr c hc=>?_⟩,fun r hr=>?_⟩
   ·exact ((rowErr_zero _ _ _).1 (hh r hr)).2 c hc
   ·exact ((rowErr_zero _ _ _).1 (hh r hr)).1
  ·rintro ⟨hg,hL⟩ r hr
   exact (rowErr_zero _ _ _).2 ⟨hL r hr,hg.num r hr⟩
theorem rowErr_cases (l n:Nat) (f:Nat→Int):rowErr l n f=0∨(rowErr l n f != 0)=true:=by
 by_cases h:rowErr l n f=0
 ·exact .inl h
 ·exact .inr (by simpa using h)
end Go.Proofs.YtkohhdkkbaifoaaGreatDoor.PK

/-
  Faults that are thrown, and the edge at which they are caught (chapter 17): throw, pass, atEdge.
-/
namespace Go.Proofs.YtkohhdkkbaifoaaGreatDoor
open Go.RowKit PK

def flt (E A:Int):PanicEntry:={ v:=.iface 35 (.agg #[.int .i64 E,.int .i64 A]),recovered:=false }
def fltV (E A:Int):Value:=.agg #[.int .i64 E,.int .i64 A]

set_option maxRecDepth 100000 in
theorem throw_any (E A:Int) (w:World):Calls Tryz.prog 48 #[.int .i64 E,.int .i64 A] w fun e w'=>e=.panicked [flt E A]∧w'=w:=by
 go_enter Tryz.func48,Tryz.ntmps48
 go_wp2
 exact ⟨rfl,rfl,rfl⟩
set_option maxRecDepth 100000 in
theorem pass_ok (A:Int) (w:World):Calls Tryz.prog 37 #[.int .i64 0,.int .i64 A] w fun e w'=>e=.returned (.tuple #[])∧w'=w:=by
 go_enter Tryz.func37,Tryz.ntmps37
 go_wp2
 go_end0
 exact ⟨rfl,rfl⟩
set_option maxRecDepth 100000 in
theorem pass_bad (E A:Int) (h:(E != 0)=true) (w:World):Calls Tryz.prog 37 #[.int .i64 E,.int .i64 A] w fun e w'=>e=.panicked [flt E A]∧w'=w:=by
 have HT:Hid _:=throw_any E A w
 go_enter Tryz.func37,Tryz.ntmps37
 go_wp2_with fail
 refine Calls.mono HT.out ?_
 rintro e w' ⟨rfl,rfl⟩
 exact ⟨rfl,rfl,rfl⟩
theorem mkf (fn:Fn) (first cap:Array Value) (w:World):(Instr.makeFunc fn first cap).run Tryz.prog w=.ok (.func fn first cap) w:=rfl
def fbox (w:World):World:=w.alloc (.cells #[.int .i64 0,.int .i64 0] 35)
theorem as_fault (v:Value) (w:World):(Instr.typeAssert (.iface 35 v) 20 35 false).run Tryz.prog w=.ok v w:=by kernel_rfl
theorem f_info:(Tryz.prog.info? 35).map (·.size)=some 2:=by kernel_rfl
theorem results_tmp_cell {P:Program} {fn:Func} {p q:Tmp} {ty:TypeId} (h:fn.results=#[.tmp p,.cell q ty]) (tmps:Array Value) (w:World) (g:Nat) (t:TypeId) (cs:Array Value) (fr:Nat × Nat) (d:TypeDesc) (v:Value)
  (hv:tmps.getD p undef=v) (hp:tmps.getD q undef=.pointer (some ⟨g,0,none⟩)) (hg:w.heap[g]? = some (.cells cs t fr)) (hu:P.underlying ty=some d) (hd:(match d with | .struct _ | .array _ _=>true | _=>false)=true) (hi:(P.info? ty).map (·.size)=some cs.size) :
  (results fn tmps).run P w=.ok (.tuple #[v,.agg cs]) w:=by
 have hp':tmps[q]?.getD undef=.pointer (some ⟨g,0,none⟩):=by simpa using hp
 have hv':tmps[p]?.getD undef=v:=by simpa using hv
 simp[results,h,hp',hv',asAddr,run_loadVar_row w g t ty cs fr d hg hu hd hi]
set_option maxRecDepth 100000 in
theorem catchS_idle (p:Addr) (w:World):CallsD Tryz.prog 72 #[.pointer (some p)] .returning w fun e u' w'=>e=.returned (.tuple #[])∧u'=.returning∧w'=w:=by
 refine callsD_of_wpS Tryz.func72 rfl fun c₀ cs hu=>?_
 apply wpS_seq
 apply wpS_region
 simp[wpOpsS,go_sem,recoverD,hu,Tryz.ntmps72,Exit.thenS]
 refine wpS_of_wp ?_
 simp only[Array.replicate_succ,Array.replicate_zero,List.push_toArray,List.append_toArray,List.nil_append,List.cons_append,List.setIfInBounds_toArray,List.set_cons_zero,List.set_cons_succ]
 go_wp2
 cases c₀
 simp_all [bodyPostS,results,Tryz.results72]
set_option maxRecDepth 100000 in
theorem catchS_bad (b : Nat) (E A : Int) (w : World) (hb : RowAt w b 35 #[.int .i64 0, .int .i64 0]) : CallsD Tryz.prog 72 #[.pointer (some ⟨b, 0, none⟩)] (.panicking [flt E A]) w fun e u' w' =>
      e = .returned (.tuple #[]) ∧ u' = .panicking [{ flt E A with recovered := true }] ∧ w' = (w.setCell ⟨b, 0, none⟩ (.int .i64 E)).setCell ⟨b, 1, none⟩ (.int .i64 A) := by
  have c0 := hb.cell (i := 0) rfl
  have c1 := hb.cell (i := 1) rfl
  have f0 := hb.frozen 0
  have f1 := hb.frozen 1
  have hta := as_fault
  unfold flt
  refine callsD_of_wpS Tryz.func72 rfl fun c₀ cs hu => ?_
  apply wpS_seq
  apply wpS_region
  simp [wpOpsS, go_sem, recoverD, hu, Tryz.ntmps72, Exit.thenS]
  refine wpS_of_wp ?_
  simp only [Array.replicate_succ, Array.replicate_zero, List.push_toArray, List.append_toArray, List.nil_append, List.cons_append, List.setIfInBounds_toArray, List.set_cons_zero, List.set_cons_succ]
  go_wp2
  cases c₀
  simp_all [bodyPostS, results, Tryz.results72]
set_option maxRecDepth 100000 in
set_option maxHeartbeats 1000000 in
theorem edgeS_ok (m:Nat) (caps:Array Value) (he:∀args w,(callFunc m args).run Tryz.prog w=.ok (.enter m args) w) (w:World) (B:Nat) (hB:B≤w.heap.size) (K:Value→World→Prop)
  (H:Calls Tryz.prog m caps (fbox w) fun e w'=>∃v,e=.returned v∧v.oneCell'=true∧K v w'∧RowAt w' w.heap.size 35 #[.int .i64 0,.int .i64 0]∧Below B (fbox w) w') :
  Calls Tryz.prog 34 #[.func (.func m) #[] caps] w fun e w'=>∃v,e=.returned (.tuple #[v,fltV 0 0])∧(∃w1,K v w1∧w'=(w1.setCell ⟨w.heap.size,0,none⟩ (.int .i64 0)).setCell ⟨w.heap.size,1,none⟩ (.int .i64 0))∧Below B w w':=by
 have hmf:=mkf
 have HH:Hid _:=H
 have HBN:Hid (B≤w.heap.size):=hB
 clear H
 go_enter_defers Tryz.func34,Tryz.ntmps34
 go_wp2_with fail
 refine Calls.mono HH.out ?_
 rintro e w1 ⟨v,rfl,h1,hk,hr,hb⟩
 have c0:=hr.cell (i:=0) rfl
 have c1:=hr.cell (i:=1) rfl
 have f0:=hr.frozen 0
 have f1:=hr.frozen 1
 have HK:Hid (K v w1):=hk
 have HR2:Hid (RowAt ((w1.setCell ⟨w.heap.size,0,none⟩ (.int .i64 0)).setCell ⟨w.heap.size,1,none⟩ (.int .i64 0)) w.heap.size 35 #[.int .i64 0,.int .i64 0]):=(hr.set 0 _).set 1 _
 have HBW:Hid (Below B w w1):=((Below.refl _ w).alloc hB _).trans hb
 clear hk hb hr
 go_wp2
 refine leaves_cons (f:=72) (args:=#[.pointer (some ⟨w.heap.size,0,none⟩)]) (by simp) (by simp[go_sem]) ?_
 refine (catchS_idle ⟨w.heap.size,0,none⟩ _).mono ?_
 rintro e u' w'' ⟨rfl,rfl,rfl⟩
 refine ⟨_,results_tmp_cell rfl _ _ w.heap.size 35 #[.int .i64 0,.int .i64 0] (0,0) _ v rfl rfl HR2.out Tryz.underlying35 rfl f_info,v,rfl,⟨w1,HK.out,rfl⟩,?_⟩
 exact (HBW.out.setCell (p:=⟨w.heap.size,0,none⟩) HBN.out _).setCell (p:=⟨w.heap.size,1,none⟩) HBN.out _
set_option maxRecDepth 100000 in
set_option maxHeartbeats 1000000 in
theorem edgeS_bad (m:Nat) (caps:Array Value) (he:∀args w,(callFunc m args).run Tryz.prog w=.ok (.enter m args) w) (w:World) (B:Nat) (hB:B≤w.heap.size) (E A:Int) (K:World→Prop)
  (H:Calls Tryz.prog m caps (fbox w) fun e w'=>e=.panicked [flt E A]∧K w'∧RowAt w' w.heap.size 35 #[.int .i64 0,.int .i64 0]∧Below B (fbox w) w') :
  Calls Tryz.prog 34 #[.func (.func m) #[] caps] w fun e w'=>e=.returned (.tuple #[.string ⟨#[]⟩,fltV E A])∧(∃w1,K w1∧w'=(w1.setCell ⟨w.heap.size,0,none⟩ (.int .i64 E)).setCell ⟨w.heap.size,1,none⟩ (.int .i64 A))∧Below B w w':=by
 have hmf:=mkf
 have HH:Hid _:=H
 have HBN:Hid (B≤w.heap.size):=hB
 clear H
 go_enter_defers Tryz.func34,Tryz.ntmps34
 go_wp2_with fail
 refine Calls.mono HH.out ?_
 rintro e w1 ⟨rfl,hk,hr,hb⟩
 have HBW:Below B w w1:=((Below.refl _ w).alloc hB _).trans hb
 refine leaves_cons (f:=72) (args:=#[.pointer (some ⟨w.heap.size,0,none⟩)]) (by simp) (by simp[go_sem]) ?_
 refine (catchS_bad w.heap.size E A _ hr).mono ?_
 rintro e u' w'' ⟨rfl,rfl,rfl⟩
 refine ⟨_,results_tmp_cell rfl _ _ w.heap.size 35 #[.int .i64 E,.int .i64 A] (0,0) _ (.string ⟨#[]⟩) rfl rfl ((hr.set 0 _).set 1 _) Tryz.underlying35 rfl f_info,rfl,⟨w1,hk,rfl⟩,?_⟩
 exact (HBW.setCell (p:=⟨w.heap.size,0,none⟩) HBN.out _).setCell (p:=⟨w.heap.size,1,none⟩) HBN.out _
end Go.Proofs.YtkohhdkkbaifoaaGreatDoor

/-
  Keys added to letters: the mathematics.
-/
namespace Go.Proofs.YtkohhdkkbaifoaaGreatDoor.Vg

def there (kind a b:Nat):Nat:=if kind=2 then (b+26-a) % 26 else if kind=3 then (a+26-b) % 26 else (a+b) % 26
def back (kind c b:Nat):Nat:=if kind=2 then (b+26-c) % 26 else if kind=3 then (c+b) % 26 else (c+26-b) % 26
theorem there_lt (kind a b:Nat):there kind a b<26:=by unfold there;split <;> (try split) <;> omega
theorem back_lt (kind a b:Nat):back kind a b<26:=by unfold back;split <;> (try split) <;> omega
theorem back_there (kind:Nat) {a b:Nat} (ha:a<26) (hb:b<26):back kind (there kind a b) b=a:=by unfold back there;split <;> (try split) <;> omega
theorem there_back (kind:Nat) {c b:Nat} (hc:c<26) (hb:b<26):there kind (back kind c b) b=c:=by unfold back there;split <;> (try split) <;> omega
def num (c:UInt8):Nat:=c.toNat-65
def ltr (n:Nat):UInt8:=UInt8.ofNat (65+n)
theorem num_ltr {n:Nat} (h:n<26):num (ltr n)=n:=by unfold num ltr;rw[UInt8.toNat_ofNat'];omega
theorem num_lt {c:UInt8} (h:65≤c.toNat∧c.toNat≤90):num c<26:=by unfold num;omega
theorem ltr_toNat {n:Nat} (h:n<26):(ltr n).toNat=65+n:=by unfold ltr;rw[UInt8.toNat_ofNat'];omega
theorem ltr_ok {n:Nat} (h:n<26):65≤(ltr n).toNat∧(ltr n).toNat≤90:=by rw[ltr_toNat h];omega

def Ls (l:List UInt8):Prop:=∀c ∈ l,65≤c.toNat∧c.toNat≤90
theorem Ls.at {l:List UInt8} (h:Ls l) {i:Nat} (hi:i<l.length):65≤(l.getD i 0).toNat∧(l.getD i 0).toNat≤90:=by
 rw[List.getD_eq_getElem?_getD,List.getElem?_eq_getElem hi]
 exact h _ (List.getElem_mem hi)
theorem getD_some {l:List UInt8} {i:Nat} (hi:i<l.length):l.getD i 0=l[i]:=by rw[List.getD_eq_getElem?_getD,List.getElem?_eq_getElem hi];rfl
theorem getD_map {f:Nat→UInt8} {n i:Nat} (hi:i<n):((List.range n).map f).getD i 0=f i:=by
 rw[getD_some (by simpa using hi)];simp

def kat (kind:Nat) (k p:List UInt8) (i:Nat):Nat:=if kind=4∧k.length≤i then num (p.getD (i-k.length) 0) else num (k.getD (i % k.length) 0)
theorem kat_lt {kind:Nat} {k p:List UInt8} {i:Nat} (hk:Ls k) (hp:Ls p) (h0:0<k.length) (hi:k.length≤i→i-k.length<p.length):kat kind k p i<26:=by
 unfold kat
 split
 ·next h=>exact num_lt (hp.at (hi h.2))
 ·exact num_lt (hk.at (Nat.mod_lt _ h0))
def wrL (kind:Nat) (k t:List UInt8) (m:Nat):List UInt8:=(List.range m).map fun i=>ltr (there kind (num (t.getD i 0)) (kat kind k t i))
def writeL (kind:Nat) (k t:List UInt8):List UInt8:=wrL kind k t t.length
theorem wrL_length (kind:Nat) (k t:List UInt8) (m:Nat):(wrL kind k t m).length=m:=by simp[wrL]
theorem writeL_length (kind:Nat) (k t:List UInt8):(writeL kind k t).length=t.length:=wrL_length _ _ _ _
theorem wrL_succ (kind:Nat) (k t:List UInt8) (m:Nat):wrL kind k t (m+1)=wrL kind k t m++[ltr (there kind (num (t.getD m 0)) (kat kind k t m))]:=by unfold wrL;rw[List.range_succ,List.map_append];rfl
theorem writeL_at (kind:Nat) (k t:List UInt8) {i:Nat} (hi:i<t.length):(writeL kind k t).getD i 0=ltr (there kind (num (t.getD i 0)) (kat kind k t i)):=getD_map hi
theorem writeL_ls (kind:Nat) (k t:List UInt8):Ls (writeL kind k t):=by
 intro c hc
 obtain ⟨i,_,rfl⟩:=List.mem_map.1 hc
 exact ltr_ok (there_lt _ _ _)
def rdTo (kind:Nat) (k t:List UInt8):Nat→List UInt8
 | 0=>[]
 | i+1=>rdTo kind k t i++[ltr (back kind (num (t.getD i 0)) (kat kind k (rdTo kind k t i) i))]
def readL (kind:Nat) (k t:List UInt8):List UInt8:=rdTo kind k t t.length
theorem rdTo_length (kind:Nat) (k t:List UInt8):∀m,(rdTo kind k t m).length=m
 | 0=>rfl
 | m+1=>by simp[rdTo,rdTo_length kind k t m]
theorem rdTo_ls (kind:Nat) (k t:List UInt8):∀m,Ls (rdTo kind k t m)
 | 0=>fun c hc=>by simp[rdTo] at hc
 | m+1=>fun c hc=>by
  rcases List.mem_append.1 (show c ∈ rdTo kind k t m++_ from hc) with h | h
  ·exact rdTo_ls kind k t m c h
  ·simp only[List.mem_singleton] at h
   rw[h];exact ltr_ok (back_lt _ _ _)
theorem readL_length (kind:Nat) (k t:List UInt8):(readL kind k t).length=t.length:=rdTo_length _ _ _ _
theorem readL_ls (kind:Nat) (k t:List UInt8):Ls (readL kind k t):=rdTo_ls _ _ _ _
theorem again {kind:Nat} {k t:List UInt8} (h4:kind≠4) {i j:Nat} (hi:i<t.length) (hj:j<t.length) (hm:i % k.length=j % k.length) (e:t.getD i 0=t.getD j 0):(writeL kind k t).getD i 0=(writeL kind k t).getD j 0:=by
 rw[writeL_at _ _ _ hi,writeL_at _ _ _ hj,e]
 have:kat kind k t i=kat kind k t j:=by unfold kat;rw[if_neg (fun e=>h4 e.1),if_neg (fun e=>h4 e.1),hm]
 rw[this]

def nx {α:Type} [DecidableEq α] (p:Nat→α) (q:α):Nat→Nat→Option Nat
 | _,0=>none
 | j,n+1=>if p j=q then some j else nx p q (j+1) n
theorem ba_loop (b:ByteArray):∀(n i:Nat) (r:List UInt8),b.size-i=n→ByteArray.toList.loop b i r=r.reverse++b.data.toList.drop i
 | 0,i,r,h=>by
  unfold ByteArray.toList.loop
  have h1:b.data.size=b.size:=rfl
  rw[if_neg (by omega),List.drop_eq_nil_of_le (by simp;omega)]
  simp
 | n+1,i,r,h=>by
  unfold ByteArray.toList.loop
  have h1:b.data.size=b.size:=rfl
  have h2:i<b.data.toList.length:=by simp;omega
  rw[if_pos (by omega),ba_loop b n (i+1) _ (by omega),List.drop_eq_getElem_cons h2]
  have h3:b.get! i=b.data.toList[i]:=by
   show b.data[i]! = _
   rw[getElem!_pos b.data i (by simpa using h2)]
   simp
  simp[h3]
theorem ba_toList (b:ByteArray):b.toList=b.data.toList:=by
 unfold ByteArray.toList
 rw[ba_loop b _ 0 [] rfl]
 simp
end Go.Proofs.YtkohhdkkbaifoaaGreatDoor.Vg

/-
  Squares of letters: the mathematics.
-/
namespace Go.Proofs.YtkohhdkkbaifoaaGreatDoor.Zq
open Vg

def jI (c:UInt8):UInt8:=if c=74 then 73 else c
def alpha:List UInt8:=[65,66,67,68,69,70,71,72,73,75,76,77,78,79,80,81,82,83,84,85,86,87,88,89,90]
def Nj (l:List UInt8):Prop:=∀c ∈ l,(65≤c.toNat∧c.toNat≤90)∧c≠74
theorem mem_alpha (c:UInt8):c ∈ alpha↔(65≤c.toNat∧c.toNat≤90)∧c≠74:=by
 have h:∀n:Fin 256,(UInt8.ofNat n.val) ∈ alpha↔(65≤(UInt8.ofNat n.val).toNat∧(UInt8.ofNat n.val).toNat≤90)∧(UInt8.ofNat n.val)≠74:=by decide +kernel
 have:=h ⟨c.toNat,c.toNat_lt⟩
 simpa using this
def addN (out:List UInt8) (c:UInt8):List UInt8:=if c ∈ out then out else out++[c]
def layN (out l:List UInt8):List UInt8:=l.foldl addN out
def laid (key:List UInt8):List UInt8:=layN [] ((key++alpha).map jI)
theorem nodup_le:∀(a b:List UInt8),a.Nodup→(∀x ∈ a,x ∈ b)→a.length≤b.length
 | [],_,_,_=>by simp
 | x :: a,b,hn,hs=>by
  have hx:=hs x (by simp)
  have hn':=List.nodup_cons.1 hn
  have:=nodup_le a (b.erase x) hn'.2 (fun y hy=>(List.mem_erase_of_ne (fun (e:y=x)=>hn'.1 (by rw[←e];exact hy))).2 (hs y (by simp[hy])))
  rw[List.length_erase_of_mem hx] at this
  have:0<b.length:=List.length_pos_of_mem hx
  simp only[List.length_cons]
  omega
def at' (s:List UInt8) (c:UInt8):Nat:=s.idxOf c
def pairP (i j:Nat):Nat × Nat :=
 if i / 5=j / 5 then (5*(i / 5)+(i % 5+1) % 5,5*(j / 5)+(j % 5+1) % 5)
 else if i % 5=j % 5 then (5*((i / 5+1) % 5)+i % 5,5*((j / 5+1) % 5)+j % 5)
 else (5*(i / 5)+j % 5,5*(j / 5)+i % 5)
def enc (s:List UInt8) (a b:UInt8):UInt8 × UInt8:=(s.getD (pairP (at' s a) (at' s b)).1 0,s.getD (pairP (at' s a) (at' s b)).2 0)
def twos (f:UInt8→UInt8→UInt8 × UInt8):List UInt8→List UInt8
 | a :: b :: r=>(f a b).1 :: (f a b).2 :: twos f r
 | _=>[]
inductive Good:List UInt8→Prop
 | nil:Good []
 | two {a b:UInt8} {r:List UInt8} (ha:a ∈ alpha) (hb:b ∈ alpha) (hab:a≠b) (hr:Good r):Good (a :: b :: r)
theorem Good.even {l:List UInt8} (h:Good l):l.length % 2=0:=by
 induction h with
 | nil=>rfl
 | two _ _ _ _ ih=>simp;omega
theorem Good.nj {l:List UInt8} (h:Good l):Nj l:=by
 induction h with
 | nil=>intro c hc;simp at hc
 | two ha hb _ _ ih =>
  intro c hc
  simp at hc
  rcases hc with rfl | rfl | hc
  ·exact (mem_alpha _).1 ha
  ·exact (mem_alpha _).1 hb
  ·exact ih c hc
theorem Good.ls {l:List UInt8} (h:Good l):Ls l:=fun c hc=>(h.nj c hc).1
def turn:List UInt8→List UInt8:=twos fun a b=>(b,a)
def wrong (t:List UInt8) (i:Nat):Bool:=decide (t.getD i 0=74∨(i % 2=1∧t.getD i 0=t.getD (i-1) 0))
end Go.Proofs.YtkohhdkkbaifoaaGreatDoor.Zq

/-
  Squares of letters as 77 cells: the letters by their places, and the places by their letters.
-/
namespace Go.Proofs.YtkohhdkkbaifoaaGreatDoor.Zq
open Vg PK

def lay (l:List UInt8) (m:Nat):List UInt8:=layN [] ((l.take m).map jI)
def pl (L:List UInt8) (k:Nat):Nat:=if ltr k ∈ L then at' L (ltr k) else 0
end Go.Proofs.YtkohhdkkbaifoaaGreatDoor.Zq

/-
  Laws of no program: bytes in rows, and what is made of them.
-/
namespace Go.Proofs.YtkohhdkkbaifoaaGreatDoor
open Go.RowKit PK Vg Zq

theorem ls_of {l:List UInt8} (h:Pl.Lets l):Ls l:=fun c hc=>by
 have:=h c hc
 simp[Pl.isL] at this
 omega
section
variable {P:Program} {ops:Array Oper} {Q:Exit→Act→World→Prop} {md:Region.Mode} {S:World→Prop}
theorem vtake (i d:Nat) (v:Value) {oi:Oper} {fuel:Nat} {listed:Array Bool} {tm:Array Value} {df:List Deferred} {w:World} (hi:ops[i]? = some oi) (hd:oi.dst=some d)
  (hs:Region.noSelect ops=true) (hf:Region.free md ops listed i=true) (hr:(Region.ready md ops listed).contains i=true)
  (hQ:∀c a a' w,Q (.panic c) a' w→Q (.panic c) a w) (hw:Region.wanted oi (yielded ops tm)=true) (hrun:∀W,S W→(execOp (Act.eval ⟨tm,df⟩) oi).run P W=.ok (.value v) W) (hS:S w)
  (h:wpAnyH P md ops Q S fuel (listed.setIfInBounds i true) ⟨tm.setIfInBounds d v,df⟩ w):wpAnyH P md ops Q S (fuel+1) listed ⟨tm,df⟩ w:=by
 refine wpAnyH_take (i:=i) (oi:=oi) (v:=v) hi hs hf hr (fun c a w=>hQ c a _ w) (Or.inl ⟨hw,fun W hW=>hrun W hW⟩) hS ?_
 rw[hd]
 exact h
end
theorem v_info_byte:(Tryz.prog.info? 5).map (fun i=>(i.zero,i.size,i.bytes))=some (some (.int .u8 0),1,1):=by kernel_rfl
theorem x_info_parts {P:Program} {e:TypeId} {z:Value} {s b:Nat} (h:(P.info? e).map (fun i=>(i.zero,i.size,i.bytes))=some (some z,s,b)):∃i,P.info? e=some i∧i.zero=some z∧i.size=s∧i.bytes=b:=by
 obtain ⟨i,hi,hzz⟩:=Option.map_eq_some_iff.1 h
 simp only[Prod.mk.injEq] at hzz
 exact ⟨i,hi,hzz.1,hzz.2.1,hzz.2.2⟩
theorem v_cells_byte (acc:List UInt8) (b:UInt8):Lib.byteCells acc++[.int .u8 (b.toNat:Int)]=Lib.byteCells (acc++[b]):=by simp[Lib.byteCells]
theorem getD_size {s:ByteArray} {i:Nat} (hi:i<s.size):i<s.data.toList.length:=by have:=Pl.size_len s;omega
end Go.Proofs.YtkohhdkkbaifoaaGreatDoor

/-
  strings.Cut and strings.Index at one byte; where a word ends.
-/
namespace Go.Proofs.YtkohhdkkbaifoaaGreatDoor
open Go.Shelf Go.RowKit PK

shelf_lay Lays.n143 Nm 143 at Tryz as Tryz.laysIndex
shelf_lay Lays.n219 Nm 219 at Tryz as Tryz.laysIndexL
def upto (c:UInt8) (l:List UInt8):List UInt8:=l.takeWhile (· != c)
theorem results_c1 {P:Program} {fn:Func} {p:Tmp} {ty:TypeId} (h:fn.results=#[.cell p ty]) (tmps:Array Value) (w:World) (g:Nat) (t:TypeId) (cs:Array Value) (fr:Nat × Nat) (d:TypeDesc)
  (hp:tmps.getD p undef=.pointer (some ⟨g,0,none⟩)) (hg:w.heap[g]? = some (.cells cs t fr))
  (hu:P.underlying ty=some d) (hd:(match d with | .struct _ | .array _ _=>true | _=>false)=true) (hi:(P.info? ty).map (·.size)=some cs.size) :
  (results fn tmps).run P w=.ok (.agg cs) w:=by
 have hp':tmps[p]?.getD undef=.pointer (some ⟨g,0,none⟩):=by simpa using hp
 simp[results,h,hp',asAddr,run_loadVar_row w g t ty cs fr d hg hu hd hi]
end Go.Proofs.YtkohhdkkbaifoaaGreatDoor

/-
  Contracts of hill.wrongRow and hill.Wrong.
-/
namespace Go.Proofs.YtkohhdkkbaifoaaGreatDoor
open Go.RowKit PK

set_option maxHeartbeats 1000000 in
theorem wrongRow_any (v:Value) (l n:Nat) (hn:n≤4) (f:Nat→Int) (w:World) (hv:NumsAt w v l f) :
  Calls Tryz.prog 66 #[v,.int .i64 (n:Nat)] w fun e w'=>e=.returned (.int .i64 (rowErr l n f))∧w=w':=by
 by_cases hl:l=n
 ·subst hl
  by_cases h0:l=0
  ·subst h0
   obtain ⟨a,cap,rfl,_⟩:=hv.len
   go_enter Tryz.func66,Tryz.ntmps66
   go_wp2
   go_loop [13] (fun i=>i=.int .i64 0) (fun i=>(0-intOf i).toNat)
   case atStart=>rfl
   case round =>
    subst hrel
    go_wp2
    go_ret
    exact ⟨rfl,rfl⟩
  ·obtain ⟨b,o,cap,rfl,hm,hc⟩:=hv.form (by omega)
   have HC:=(show Hid _ from hc)
   have HR:Hid (rowErr l l f=firstE (fun c=>numErr (f c)) l):=by rw[Hid];unfold rowErr;rw[if_neg (by simp)]
   clear hc hv
   go_enter Tryz.func66,Tryz.ntmps66
   go_wp2
   go_loop [13] (fun i=>∃m:Nat,m≤l∧i=.int .i64 m∧Hid (firstE (fun c=>numErr (f c)) m=0)) (fun i=>((l:Int)-intOf i).toNat)
   case atStart=>exact ⟨0,by omega,rfl,rfl⟩
   case round =>
    obtain ⟨m,hm,rfl,HS⟩:=hrel
    by_cases hlt:m<l
    ·have hc:=HC.out m hlt
     have HST:=firstE_step _ m HS.out
     by_cases hx:f m<0∨26≤f m
     ·have HV:Hid (rowErr l l f=3):=by
       have h3:firstE (fun c=>numErr (f c)) (m+1)=3:=by rw[HST];show numErr (f m)=3;unfold numErr;rw[if_pos hx]
       rw[Hid,HR.out,firstE_keep _ (m+1) (by rw[h3];decide) l (by omega),h3]
      clear HST
      rcases hx with hx | hx
      ·go_wp2
       go_ret
       exact ⟨ret_int HV.out.symm,rfl⟩
      ·have hx0:¬f m<0:=by omega
       go_wp2
       go_ret
       exact ⟨ret_int HV.out.symm,rfl⟩
     ·have HN:Hid (firstE (fun c=>numErr (f c)) (m+1)=0):=by rw[Hid,HST];exact (numErr_zero _).2 (by omega)
      have h1:¬f m<0:=by omega
      have h2:¬26≤f m:=by omega
      clear HST hx
      go_wp2
      exact ⟨⟨m+1,by omega,by go_num,HN⟩,by simp[intOf];omega⟩
    ·have HE:Hid (rowErr l l f=0):=by
      have:m=l:=by omega
      rw[Hid,HR.out,←this]
      exact HS.out
     go_wp2
     go_ret
     exact ⟨ret_int HE.out.symm,rfl⟩
 ·have HR:Hid (rowErr l n f=8):=by rw[Hid];unfold rowErr;rw[if_pos hl]
  obtain ⟨a,cap,rfl,_⟩:=hv.len
  have hne:((l:Int) != (n:Int))=true:=by simp;omega
  clear hv
  go_enter Tryz.func66,Tryz.ntmps66
  go_wp2
  go_ret
  exact ⟨ret_int HR.out.symm,rfl⟩
set_option maxHeartbeats 1000000 in
theorem hwrong_any (v:Value) (n:Nat) (L:Nat→Nat) (Z:Nat→Nat→Int) (w:World) (hv:MatAt w v n L Z) :
  Calls Tryz.prog 29 #[v] w fun e w'=>e=.returned (.int .i64 (matErr n L Z))∧w=w':=by
 by_cases h:n<1∨4<n
 ·have HR:Hid (matErr n L Z=5):=by rw[Hid];unfold matErr;rw[if_pos h]
  obtain ⟨a,cap,rfl,_⟩:=hv.len
  clear hv
  rcases h with h | h
  ·have h0:n=0:=by omega
   subst h0
   go_enter Tryz.func29,Tryz.ntmps29
   go_wp2
   go_ret
   exact ⟨ret_int HR.out.symm,rfl⟩
  ·have h1:¬(n:Int)<1:=by omega
   have h2:(4:Int)<(n:Int):=by omega
   go_enter Tryz.func29,Tryz.ntmps29
   go_wp2
   go_ret
   exact ⟨ret_int HR.out.symm,rfl⟩
 ·have HR:Hid (matErr n L Z=firstE (fun r=>rowErr (L r) n (Z r)) n):=by rw[Hid];unfold matErr;rw[if_neg h]
  obtain ⟨b,o,cap,R,rfl,hm,hc,hr⟩:=hv.form (by omega)
  have HC:=(show Hid _ from hc)
  have HW:Hid (∀r,r<n→Calls Tryz.prog 66 #[R r,.int .i64 (n:Nat)] w fun e w'=>e=.returned (.int .i64 (rowErr (L r) n (Z r)))∧w=w'):=fun r hr'=>wrongRow_any (R r) (L r) n (by omega) (Z r) w (hr r hr')
  have h1:¬(n:Int)<1:=by omega
  have h2:¬(4:Int)<(n:Int):=by omega
  clear hc hr hv
  go_enter Tryz.func29,Tryz.ntmps29
  go_wp2
  go_loop [16] (fun i=>∃m:Nat,m≤n∧i=.int .i64 m∧Hid (firstE (fun r=>rowErr (L r) n (Z r)) m=0)) (fun i=>((n:Int)-intOf i).toNat)
  case atStart=>exact ⟨0,by omega,rfl,rfl⟩
  case round =>
   obtain ⟨m,hm,rfl,HS⟩:=hrel
   by_cases hlt:m<n
   ·have hc:=HC.out m hlt
    have HST:=(show Hid _ from firstE_step _ m HS.out)
    go_wp2_with fail
    refine (HW.out m hlt).mono ?_
    rintro e w1 ⟨rfl,rfl⟩
    rcases rowErr_cases (L m) n (Z m) with h0 | h0
    ·have HN:Hid (firstE (fun r=>rowErr (L r) n (Z r)) (m+1)=0):=HST.out.trans h0
     rw[h0]
     go_wp2
     exact ⟨⟨m+1,by omega,by go_num,HN⟩,by simp[intOf];omega⟩
    ·have HV:Hid (matErr n L Z=rowErr (L m) n (Z m)):=by
      rw[Hid,HR.out,firstE_keep _ (m+1) (by rw[HST.out];simpa using h0) n (by omega)]
      exact HST.out
     generalize rowErr (L m) n (Z m)=E at *
     clear HST HW
     go_wp2
     go_ret
     exact ⟨ret_int HV.out.symm,rfl⟩
   ·have HE:Hid (matErr n L Z=0):=by
     rw[Hid,HR.out]
     obtain rfl:m=n:=by omega
     exact HS.out
    go_wp2
    go_ret
    exact ⟨ret_int HE.out.symm,rfl⟩
end Go.Proofs.YtkohhdkkbaifoaaGreatDoor
