import Derived.WalkSpells
import Derived.WalkSmall
import Derived.Deep.WholeRow
import Derived.Deep.OwnRows
import Derived.Lib.SmallJoins
import Derived.BigQuiet
import Derived.Laws.EntriesVeiled
import Derived.Deep.RegionHeld3
import Derived.Deep.DeepCutAuto
import Derived.Test.YtgacaecjinlhiaaGreatDoorChecked
namespace Go.Proofs.YtgacaecjinlhiaaGreatDoor
namespace Pl
def tab : List (Int × List UInt8) :=
  [(196, [65, 69]), (228, [65, 69]), (198, [65, 69]), (230, [65, 69]),
   (214, [79, 69]), (246, [79, 69]), (216, [79, 69]), (248, [79, 69]), (338, [79, 69]), (339, [79, 69]),
   (220, [85, 69]), (252, [85, 69]), (223, [83, 83]), (197, [65, 65]), (229, [65, 65]),
   (201, [69]), (233, [69]), (200, [69]), (232, [69]), (202, [69]), (234, [69]),
   (192, [65]), (224, [65]), (194, [65]), (226, [65]), (260, [65]), (261, [65]),
   (199, [67]), (231, [67]), (262, [67]), (263, [67]), (321, [76]), (322, [76]),
   (323, [78]), (324, [78]), (209, [78]), (241, [78]), (346, [83]), (347, [83]),
   (377, [90]), (378, [90]), (379, [90]), (380, [90]), (46, [88]), (63, [88]), (33, [88])]
def look (r:Int):List (Int × List UInt8)→List UInt8
 | []=>[]
 | p :: t=>if (r==p.1)=true then p.2 else look r t
def spell (r:Int):List UInt8:=look r tab
def isL (c:Int):Bool:=decide (65≤c∧c≤90)
def Lets (l:List UInt8):Prop:=∀c ∈ l,isL c.toNat=true
def byte (l:List UInt8) (k:Nat):Nat:=(l.getD k 0).toNat
theorem aK (s:ByteArray):s.size=s.data.toList.length:=by cases s;rfl
def bad (c:UInt8):Bool:=!isL c.toNat
def Bp (l:List UInt8):Int:=match l.findIdx? bad with | none=>0 | some _=>2
def rZ (l:List UInt8):Int:=match l.findIdx? bad with | none=>0 | some i=>i
theorem DM (l:List UInt8) (h:Lets l):l.findIdx? bad=none:=by
 rw[List.findIdx?_eq_none_iff]
 intro c hc
 simp[bad,h c hc]
theorem Gt (l:List UInt8) (h:∀j (hj:j<l.length),isL (l[j].toNat)=true):l.findIdx? bad=none:=by
 apply DM
 intro c hc
 obtain ⟨j,hj,rfl⟩:=List.getElem_of_mem hc
 exact h j hj
theorem IZ (l:List UInt8) (k:Nat) (hk:k<l.length) (h:∀j (_:j<k) (hj:j<l.length),isL (l[j].toNat)=true) (hb:isL (l[k].toNat)=false):l.findIdx? bad=some k:=by
 rw[List.findIdx?_eq_some_iff_getElem]
 refine ⟨hk,by simp[bad,hb],?_⟩
 intro j hj
 simp[bad,h j hj (by omega)]
end Pl
section
open Go.RowKit
set_option maxHeartbeats 400000 in
theorem l8 (c:Int) (w:World) :
  Calls Tryz.prog 43 #[.int .u8 c] w fun e w'=>e=.returned (.bool (Pl.isL c))∧w=w':=by
 by_cases h1:65≤c
 ·by_cases h2:c≤90
  ·have e:Pl.isL c=true:=by simp[Pl.isL];omega
   go_enter Tryz.func43,Tryz.ntmps43
   go_wp2
   go_ret
   exact ⟨by rw[e];rfl,rfl⟩
  ·have e:Pl.isL c=false:=by simp[Pl.isL];omega
   go_enter Tryz.func43,Tryz.ntmps43
   go_wp2
   go_ret
   exact ⟨rfl,rfl⟩
 ·have e:Pl.isL c=false:=by simp[Pl.isL];omega
  go_enter Tryz.func43,Tryz.ntmps43
  go_wp2
  go_ret
  exact ⟨rfl,rfl⟩
end
namespace Kit
open Go.RowKit
def Dp (w:World) (B:Nat) (e:TypeId) (v:Value) (l:List UInt8):Prop:=w.ownsRow B e 1 v l.length (Lib.byteCells l)
theorem foldl_push:∀(l:List UInt8) (s:ByteArray),(l.map fun b=>(b.toNat:Int)).foldl (fun r n=>r.push (UInt8.ofNat n.toNat)) s=⟨s.data++l.toArray⟩
 | [],s=>by cases s;simp
 | c :: t,s=>by
  simp only[List.map_cons,List.foldl_cons]
  rw[foldl_push t]
  cases s
  simp[ByteArray.push]
theorem kV {P:Program} (w:World) (src dst e:TypeId) (hs:P.underlying src=some (.slice e)) (he:P.underlying e=some (.int .u8)) (hd:P.underlying dst=some .string)
  {B:Nat} {v:Value} {l:List UInt8} (h:Dp w B e v l):(convert src dst v).run P w=.ok (.string ⟨l.toArray⟩) w:=by
 rcases h.2 with ⟨rfl,h0⟩ | ⟨g,cap,cur,rfl,_⟩
 ·have:l=[]:=List.eq_nil_of_length_eq_zero h0
  subst this
  rw[run_convert_bytes_string w src dst e _ _ _ hs he hd]
  simp[Conv.bytesToString,Sem.run_pure]
  rfl
 ·rw[run_convert_bytes_string w src dst e _ _ _ hs he hd]
  have hl:=run_loadCells_list (P:=P) (w:=w) ⟨g,0,none⟩ (Lib.byteCells l) (h.cells rfl)
  rw[Lib.byteCells_length] at hl
  have e1:Lib.byteCells l=(l.map fun b=>(b.toNat:Int)).map (Value.int .u8):=by simp[Lib.byteCells]
  rw[e1] at hl
  rw[run_bytesToString w _ _ _ _ hl,foldl_push]
  simp
theorem qp {W:World} {N:Nat} {a' b':Value} (a b:Value) (h0:W.cell? ⟨N,0,none⟩=some a') (h1:W.cell? ⟨N,1,none⟩=some b') :
  ((W.setCell ⟨N,0,none⟩ a).setCell ⟨N,1,none⟩ b).cell? ⟨N,0,none⟩=some a∧((W.setCell ⟨N,0,none⟩ a).setCell ⟨N,1,none⟩ b).cell? ⟨N,1,none⟩=some b:=by
 have e0:=World.cell?_setCell_same W ⟨N,0,none⟩ a h0
 have e1:(W.setCell ⟨N,0,none⟩ a).cell? ⟨N,1,none⟩=some b':=(World.cell?_setCell_other W _ _ _ (by simp)).trans h1
 exact ⟨(World.cell?_setCell_other _ _ _ _ (by simp)).trans e0,World.cell?_setCell_same _ _ _ e1⟩
end Kit
section
open Go.RowKit
set_option maxHeartbeats 400000 in
theorem xT (s:ByteArray) (w:World) (h:65536<s.size) :
  Calls Tryz.prog 25 #[.string s] w fun e w'=>e=.returned (.agg #[.int .i64 4,.int .i64 0])∧Below w.heap.size w w':=by
 go_enter Tryz.func25,Tryz.ntmps25
 go_wp2
 exact bodyPost_ret (v:=.agg #[.int .i64 4,.int .i64 0]) (by simp[results,Tryz.results25,go_sem]) rfl ⟨rfl,(Below.refl _ _).alloc (Nat.le_refl _) _⟩
theorem qJ (l:List UInt8) (k:Nat) (h:l.findIdx? Pl.bad=some k):Pl.Bp l=2∧Pl.rZ l=k:=by
 unfold Pl.Bp Pl.rZ
 rw[h]
 exact ⟨rfl,rfl⟩
theorem iZ (l:List UInt8) (h:l.findIdx? Pl.bad=none):Pl.Bp l=0∧Pl.rZ l=0:=by
 unfold Pl.Bp Pl.rZ
 rw[h]
 exact ⟨rfl,rfl⟩
set_option maxHeartbeats 1000000 in
theorem EY (s:ByteArray) (w:World) (h:s.size≤65536) :
  Calls Tryz.prog 25 #[.string s] w fun e w'=>e=.returned (.agg #[.int .i64 (Pl.Bp s.data.toList),.int .i64 (Pl.rZ s.data.toList)])∧Below w.heap.size w w':=by
 have hb:decide (65536<(s.size:Int))=false:=by simp;omega
 have HL:Hid (s.size=s.data.toList.length):=Pl.aK s
 go_enter Tryz.func25,Tryz.ntmps25
 go_wp2
 go_loop [10] (fun i=>∃k:Nat,k≤s.size∧i=.int .i64 k∧Hid (∀j (_:j<k) (hj:j<s.data.toList.length),Pl.isL (s.data.toList[j].toNat)=true)) (fun i=>s.size-(intOf i).toNat)
 case atStart=>exact ⟨0,Nat.zero_le _,rfl,fun j hj=>by omega⟩
 case round =>
  obtain ⟨k,hk,rfl,HA⟩:=hrel
  by_cases hlt:k<s.size
  ·cases hl:Pl.isL (s[k].toNat:Int)
   ·have HE:Hid (s.data.toList.findIdx? Pl.bad=some k):=Pl.IZ _ k (by have:=HL.out;omega) HA.out hl
    go_wp2_with (go_at_call 43;refine (l8 _ _).mono ?_;rintro e w' ⟨rfl,rfl⟩)
    refine bodyPost_ret (v:=.agg #[.int .i64 2,.int .i64 k]) (by simp[results,Tryz.results25,go_sem]) rfl ⟨?_,(Below.refl _ _).alloc (Nat.le_refl _) _⟩
    rw[(qJ _ _ HE.out).1,(qJ _ _ HE.out).2]
   ·have HE:Hid (∀j (_:j<k+1) (hj:j<s.data.toList.length),Pl.isL (s.data.toList[j].toNat)=true):=by
     intro j hj hj'
     rcases Nat.lt_or_ge j k with h1 | h1
     ·exact HA.out j h1 hj'
     ·have:j=k:=by omega
      subst this
      exact hl
    go_wp2_with (go_at_call 43;refine (l8 _ _).mono ?_;rintro e w' ⟨rfl,rfl⟩)
    exact ⟨⟨k+1,by omega,by go_num,HE⟩,by simp[intOf];omega⟩
  ·have HE:Hid (s.data.toList.findIdx? Pl.bad=none):=Pl.Gt _ fun j hj=>HA.out j (by have:=HL.out;omega) hj
   go_wp2
   refine bodyPost_ret (v:=.agg #[.int .i64 0,.int .i64 0]) (by simp[results,Tryz.results25,go_sem]) rfl ⟨?_,(Below.refl _ _).alloc (Nat.le_refl _) _⟩
   rw[(iZ _ HE.out).1,(iZ _ HE.out).2]
end
section
open Go.RowKit
end
section
open Go.RowKit
def ckE (t:List UInt8):Int:=if 65536<t.length then 4 else Pl.Bp t
def oG (t:List UInt8):Int:=if 65536<t.length then 0 else Pl.rZ t
theorem eK (s:ByteArray) (w:World):Calls Tryz.prog 25 #[.string s] w fun e w'=>e=.returned (.agg #[.int .i64 (ckE s.data.toList),.int .i64 (oG s.data.toList)])∧Below w.heap.size w w':=by
 unfold ckE oG
 have hl:=Pl.aK s
 by_cases h:65536<s.size
 ·rw[if_pos (by omega),if_pos (by omega)];exact xT s w h
 ·rw[if_neg (by omega),if_neg (by omega)];exact EY s w (by omega)
theorem lG (t:List UInt8):(ckE t=0∧oG t=0∧t.length≤65536∧Pl.Lets t)∨(ckE t != 0)=true:=by
 unfold ckE oG
 by_cases h:65536<t.length
 ·rw[if_pos h];exact .inr rfl
 ·rw[if_neg h,if_neg h]
  cases hf:t.findIdx? Pl.bad with
  | none =>
   refine .inl ⟨(iZ t hf).1,(iZ t hf).2,by omega,fun c hc=>?_⟩
   have:=List.findIdx?_eq_none_iff.1 hf c hc
   simpa [Pl.bad] using this
  | some k=>exact .inr (by rw[(qJ t k hf).1];rfl)
theorem ei (s:ByteArray) (k:Nat) (hk:k<s.size):s.data.toList.getD k 0=s[k]:=by
 have hk':k<s.data.toList.length:=by have:=Pl.aK s;omega
 simp only[List.getD,List.getElem?_eq_getElem hk']
 rfl
end
namespace PK
open Go.RowKit
theorem dx {k:IntKind} {a b:Int} (h:a=b):Ending.returned (.int k a)=.returned (.int k b):=by rw[h]
def upd {α:Type} (f:Nat→α) (i:Nat) (v:α):Nat→α:=fun j=>if j=i then v else f j
@[simp] theorem upd_same {α:Type} (f:Nat→α) (i:Nat) (v:α):upd f i v i=v:=by simp[upd]
theorem cj {α:Type} (f:Nat→α) {i j:Nat} (v:α) (h:j≠i):upd f i v j=f j:=by simp[upd,h]
def tab (n:Nat) (g:Nat→Value):Array Value:=((List.range n).map g).toArray
theorem bG (n:Nat) (g:Nat→Value):(tab n g).size=n:=by simp[tab]
theorem aR {n:Nat} (g:Nat→Value) {i:Nat} (h:i<n):(tab n g)[i]? = some (g i):=by simp[tab,h]
theorem bT {n:Nat} {g g':Nat→Value} (h:∀i,i<n→g i=g' i):tab n g=tab n g':=by
 unfold tab
 congr 1
 exact List.map_congr_left fun i hi=>h i (by simpa using hi)
theorem dw (n:Nat) (g:Nat→Value) (i:Nat) (v:Value):(tab n g).setIfInBounds i v=tab n (upd g i v):=by
 apply Array.ext_getElem?
 intro j
 rw[Array.getElem?_setIfInBounds]
 by_cases hj:j<n
 ·rw[aR _ hj,aR _ hj,bG]
  by_cases e:i=j
  ·subst e;simp[hj]
  ·simp[e,upd,Ne.symm e]
 ·have h1:(tab n g)[j]? = none:=by simp[tab];omega
  have h2:(tab n (upd g i v))[j]? = none:=by simp[tab];omega
  rw[h1,h2,bG]
  by_cases e:i=j
  ·subst e;simp[hj]
  ·simp[e]
def ints (n:Nat) (f:Nat→Int):Array Value:=tab n fun i=>.int .i64 (f i)
def jo (n:Nat) (f:Nat→Bool):Array Value:=tab n fun i=>.bool (f i)
theorem ag (n:Nat) (f:Nat→Int):(ints n f).size=n:=bG _ _
theorem aB {n:Nat} (f:Nat→Int) {i:Nat} (h:i<n):(ints n f)[i]? = some (.int .i64 (f i)):=aR _ h
theorem Bj {n:Nat} (f:Nat→Bool) {i:Nat} (h:i<n):(jo n f)[i]? = some (.bool (f i)):=aR _ h
theorem bO {n:Nat} {f g:Nat→Int} (h:∀i,i<n→f i=g i):ints n f=ints n g:=bT fun i hi=>by rw[h i hi]
theorem As {n:Nat} {f g:Nat→Bool} (h:∀i,i<n→f i=g i):jo n f=jo n g:=bT fun i hi=>by rw[h i hi]
theorem ints_set (n:Nat) (f:Nat→Int) (i:Nat) (v:Int):(ints n f).setIfInBounds i (.int .i64 v)=ints n (upd f i v):=by
 unfold ints
 rw[dw]
 exact bT fun j _=>by by_cases e:j=i <;> simp[upd,e]
theorem A4 (n:Nat) (f:Nat→Bool) (i:Nat) (v:Bool):(jo n f).setIfInBounds i (.bool v)=jo n (upd f i v):=by
 unfold jo
 rw[dw]
 exact bT fun j _=>by by_cases e:j=i <;> simp[upd,e]
theorem aI (n:Nat) (f:Nat→Int):(ints n f).all (·.oneCell')=true:=by
 rw[Array.all_eq_true_iff_forall_mem]
 intro v hv
 simp[ints,tab] at hv
 obtain ⟨i,_,rfl⟩:=hv
 rfl
theorem kP:(#[.int .i64 0,.int .i64 0,.int .i64 0,.int .i64 0,.int .i64 0,.int .i64 0,.int .i64 0,.int .i64 0,.int .i64 0,.int .i64 0,.int .i64 0,.int .i64 0,.int .i64 0,.int .i64 0,.int .i64 0,.int .i64 0,.int .i64 0,.int .i64 0,.int .i64 0,.int .i64 0,.int .i64 0,.int .i64 0,.int .i64 0,.int .i64 0,.int .i64 0,.int .i64 0]:Array Value)=ints 26 fun _=>0:=rfl
theorem Ji:(#[.bool false,.bool false,.bool false,.bool false,.bool false,.bool false,.bool false,.bool false,.bool false,.bool false,.bool false,.bool false,.bool false,.bool false,.bool false,.bool false,.bool false,.bool false,.bool false,.bool false,.bool false,.bool false,.bool false,.bool false,.bool false,.bool false]:Array Value)=jo 26 fun _=>false:=rfl
theorem jf {P:Program} (t e:TypeId) (n:Nat) (hu:P.underlying t=some (.array n e)) (he:P.underlying e=some (.int .i64)) (hs:(P.info? e).map (·.size)=some 1) (f:Nat→Int) (k:Nat) (hk:k<n) (w:World) :
  (Instr.index t (.agg (ints n f)) (.int .i64 (k:Int))).run P w=.ok (.int .i64 (f k)) w:=by
 cases hq:P.info? e with
 | none=>simp[hq] at hs
 | some i =>
  have h1:i.size=1:=by simpa [hq] using hs
  have h2:((k:Int)<(n:Int)):=by omega
  simp[Instr.index,asIntOf,Sem.run_bind,run_underlying hu,part,isAgg,run_underlying he,sizeOf,typeInfo,hq,h1,hk,aB f hk]
def af (w:World) (b:Nat) (T:TypeId) (c:Array Value):Prop:=w.heap[b]? = some (.cells c T (0,0))
theorem af.new (w:World) (T:TypeId) (c:Array Value):af (w.alloc (.cells c T)) w.heap.size T c:=heap_alloc_new w _
theorem af.lt {w:World} {b:Nat} {T:TypeId} {c:Array Value} (h:af w b T c):b<w.heap.size:=(Array.getElem?_eq_some_iff.1 h).1
theorem af.alloc {w:World} {b:Nat} {T:TypeId} {c:Array Value} (h:af w b T c) (o:Obj):af (w.alloc o) b T c:=(Below.heap_alloc w o b h.lt).trans h
theorem af.cell {w:World} {b:Nat} {T:TypeId} {c:Array Value} (h:af w b T c) {i:Nat} {v:Value} (hi:c[i]? = some v):w.cell? ⟨b,i,none⟩=some v:=(cell_of_row w b i c T (0,0) h).trans hi
theorem af.frozen {w:World} {b:Nat} {T:TypeId} {c:Array Value} (h:af w b T c) (i:Nat):w.frozen? ⟨b,i,none⟩=false:=frozen_of_row w b i c T h
theorem af.set {w:World} {b:Nat} {T:TypeId} {c:Array Value} (h:af w b T c) (i:Nat) (v:Value):af (w.setCell ⟨b,i,none⟩ v) b T (c.setIfInBounds i v):=heap_setCell_same w b i c T v h
theorem af.setOther {w:World} {b:Nat} {T:TypeId} {c:Array Value} (h:af w b T c) (a:Addr) (v:Value) (hb:b≠a.block):af (w.setCell a v) b T c:=(heap_setCell_other w a b v hb).trans h
theorem af.below {w w':World} {b B:Nat} {T:TypeId} {c:Array Value} (h:af w b T c) (hb:Below B w w') (hB:b<B):af w' b T c:=(hb.block b hB).trans h
theorem af.drew {w:World} {b:Nat} {T:TypeId} {c:Array Value} (h:af w b T c):af w.drew b T c:=h
theorem af.row {w:World} {b:Nat} {T:TypeId} {c:Array Value} (h:af w b T c) (c':Array Value):af (w.setRow b c') b T c':=setRow_heap w b c c' T (0,0) h
theorem af.aX {w:World} {b:Nat} {T:TypeId} {c:Array Value} (h:af w b T c) (g:Nat) (c':Array Value) (hb:b≠g):af (w.setRow g c') b T c:=(setRow_other w g b c' hb).trans h
theorem af.range {w:World} {b:Nat} {T:TypeId} {c:Array Value} (h:af w b T c):w.rangeAt b 0 c.toList:=fun j v hv=>by
 have h1:(⟨b,0+j,none⟩:Addr)=⟨b,j,none⟩:=by simp
 rw[h1]
 exact h.cell (by simpa using hv)
theorem Below.setRow {B:Nat} {a w:World} (h:Below B a w) (g:Nat) (hg:B≤g) (c:Array Value):Below B a (w.setRow g c) :=
 ⟨h.os,h.tape,h.output,by have:=h.size;simpa using this,fun k hk=>(setRow_other w g k c (by omega)).trans (h.block k hk)⟩
theorem Below.rangeAt {B:Nat} {w w':World} (h:Below B w w') {b o:Nat} {cs:List Value} (hc:w.rangeAt b o cs) (hb:b<B):w'.rangeAt b o cs:=fun j v hv=>(h.cell (p:=⟨b,o+j,none⟩) hb).trans (hc j v hv)
end PK
namespace PK
open Go.RowKit
def aq (w:World) (v:Value) (n:Nat) (f:Nat→Int):Prop :=
 ∃(a:Option Addr) (cap:Nat),v=.slice a n cap∧n≤maxLen∧∀c,c<n→∃b o,a=some ⟨b,o,none⟩∧w.cell? ⟨b,o+c,none⟩=some (.int .i64 (f c))
def kX (w:World) (v:Value) (n:Nat) (L:Nat→Nat) (Z:Nat→Nat→Int):Prop :=
 ∃(a:Option Addr) (cap:Nat) (R:Nat→Value),v=.slice a n cap∧n≤maxLen∧(∀r,r<n→∃b o,a=some ⟨b,o,none⟩∧w.cell? ⟨b,o+r,none⟩=some (R r))∧∀r,r<n→aq w (R r) (L r) (Z r)
theorem aA {w:World} {a:Addr} {v:Value} (h:w.cell? a=some v):a.block<w.heap.size:=World.block_lt_of_cell? _ _ h
theorem aq.below {w w':World} {v:Value} {n:Nat} {f:Nat→Int} (h:aq w v n f) (hb:Below w.heap.size w w'):aq w' v n f:=by
 obtain ⟨a,cap,h1,h2,h3⟩:=h
 refine ⟨a,cap,h1,h2,fun c hc=>?_⟩
 obtain ⟨b,o,e,hcell⟩:=h3 c hc
 exact ⟨b,o,e,(hb.cell (p:=⟨b,o+c,none⟩) (aA hcell)).trans hcell⟩
theorem kX.below {w w':World} {v:Value} {n:Nat} {L:Nat→Nat} {Z:Nat→Nat→Int} (h:kX w v n L Z) (hb:Below w.heap.size w w'):kX w' v n L Z:=by
 obtain ⟨a,cap,R,h1,h2,h3,h4⟩:=h
 refine ⟨a,cap,R,h1,h2,fun r hr=>?_,fun r hr=>(h4 r hr).below hb⟩
 obtain ⟨b,o,e,hcell⟩:=h3 r hr
 exact ⟨b,o,e,(hb.cell (p:=⟨b,o+r,none⟩) (aA hcell)).trans hcell⟩
theorem aq.IM {w:World} {g n cap:Nat} {T:TypeId} {f:Nat→Int} (h:af w g T (ints n f)) (hn:n≤maxLen):aq w (.slice (some ⟨g,0,none⟩) n cap) n f :=
 ⟨some ⟨g,0,none⟩,cap,rfl,hn,fun c hc=>⟨g,0,rfl,by have:=h.cell (aB f hc);simpa using this⟩⟩
def tg (g:Nat→Int):Nat→Int
 | 0=>0
 | k+1=>if tg g k≠0 then tg g k else g k
def IG (x:Int):Int:=if x<0∨26≤x then 3 else 0
def J7 (l n:Nat) (f:Nat→Int):Int:=if l≠n then 8 else tg (fun c=>IG (f c)) l
def J0 (n:Nat) (L:Nat→Nat) (Z:Nat→Nat→Int):Int:=if n<1∨4<n then 5 else tg (fun r=>J7 (L r) n (Z r)) n
end PK
section
open Go.RowKit PK
def flt (E A:Int):PanicEntry:={ v:=.iface 37 (.agg #[.int .i64 E,.int .i64 A]),recovered:=false }
def jU (E A:Int):Value:=.agg #[.int .i64 E,.int .i64 A]
set_option maxRecDepth 100000 in
theorem cG (E A:Int) (w:World):Calls Tryz.prog 19 #[.int .i64 E,.int .i64 A] w fun e w'=>e=.panicked [flt E A]∧w'=w:=by
 go_enter Tryz.func19,Tryz.ntmps19
 go_wp2
 exact ⟨rfl,rfl,rfl⟩
set_option maxRecDepth 100000 in
theorem fX (A:Int) (w:World):Calls Tryz.prog 24 #[.int .i64 0,.int .i64 A] w fun e w'=>e=.returned (.tuple #[])∧w'=w:=by
 go_enter Tryz.func24,Tryz.ntmps24
 go_wp2
 go_end0
 exact ⟨rfl,rfl⟩
set_option maxRecDepth 100000 in
theorem gJ (E A:Int) (h:(E != 0)=true) (w:World):Calls Tryz.prog 24 #[.int .i64 E,.int .i64 A] w fun e w'=>e=.panicked [flt E A]∧w'=w:=by
 have HT:Hid _:=cG E A w
 go_enter Tryz.func24,Tryz.ntmps24
 go_wp2_with fail
 refine Calls.mono HT.out ?_
 rintro e w' ⟨rfl,rfl⟩
 exact ⟨rfl,rfl,rfl⟩
theorem mkf (fn:Fn) (first cap:Array Value) (w:World):(Instr.makeFunc fn first cap).run Tryz.prog w=.ok (.func fn first cap) w:=rfl
def ig (w:World):World:=w.alloc (.cells #[.int .i64 0,.int .i64 0] 37)
theorem vT (v:Value) (w:World):(Instr.typeAssert (.iface 37 v) 20 37 false).run Tryz.prog w=.ok v w:=by kernel_rfl
theorem ni:(Tryz.prog.info? 37).map (·.size)=some 2:=by kernel_rfl
theorem cC {P:Program} {fn:Func} {p q:Tmp} {ty:TypeId} (h:fn.results=#[.tmp p,.cell q ty]) (tmps:Array Value) (w:World) (g:Nat) (t:TypeId) (cs:Array Value) (fr:Nat × Nat) (d:TypeDesc) (v:Value)
  (hv:tmps.getD p undef=v) (hp:tmps.getD q undef=.pointer (some ⟨g,0,none⟩)) (hg:w.heap[g]? = some (.cells cs t fr)) (hu:P.underlying ty=some d) (hd:(match d with | .struct _ | .array _ _=>true | _=>false)=true) (hi:(P.info? ty).map (·.size)=some cs.size) :
  (results fn tmps).run P w=.ok (.tuple #[v,.agg cs]) w:=by
 have hp':tmps[q]?.getD undef=.pointer (some ⟨g,0,none⟩):=by simpa using hp
 have hv':tmps[p]?.getD undef=v:=by simpa using hv
 simp[results,h,hp',hv',asAddr,run_loadVar_row w g t ty cs fr d hg hu hd hi]
set_option maxRecDepth 100000 in
theorem wI (p:Addr) (w:World):CallsD Tryz.prog 41 #[.pointer (some p)] .returning w fun e u' w'=>e=.returned (.tuple #[])∧u'=.returning∧w'=w:=by
 refine callsD_of_wpS Tryz.func41 rfl fun c₀ cs hu=>?_
 apply wpS_seq
 apply wpS_region
 simp[wpOpsS,go_sem,recoverD,hu,Tryz.ntmps41,Exit.thenS]
 refine wpS_of_wp ?_
 simp only[Array.replicate_succ,Array.replicate_zero,List.push_toArray,List.append_toArray,List.nil_append,List.cons_append,List.setIfInBounds_toArray,List.set_cons_zero,List.set_cons_succ]
 go_wp2
 cases c₀
 simp_all [bodyPostS,results,Tryz.results41]
set_option maxRecDepth 100000 in
theorem Ke (b : Nat) (E A : Int) (w : World) (hb : af w b 37 #[.int .i64 0, .int .i64 0]) : CallsD Tryz.prog 41 #[.pointer (some ⟨b, 0, none⟩)] (.panicking [flt E A]) w fun e u' w' =>
      e = .returned (.tuple #[]) ∧ u' = .panicking [{ flt E A with recovered := true }] ∧ w' = (w.setCell ⟨b, 0, none⟩ (.int .i64 E)).setCell ⟨b, 1, none⟩ (.int .i64 A) := by
  have c0 := hb.cell (i := 0) rfl
  have c1 := hb.cell (i := 1) rfl
  have f0 := hb.frozen 0
  have f1 := hb.frozen 1
  have hta := vT
  unfold flt
  refine callsD_of_wpS Tryz.func41 rfl fun c₀ cs hu => ?_
  apply wpS_seq
  apply wpS_region
  simp [wpOpsS, go_sem, recoverD, hu, Tryz.ntmps41, Exit.thenS]
  refine wpS_of_wp ?_
  simp only [Array.replicate_succ, Array.replicate_zero, List.push_toArray, List.append_toArray, List.nil_append, List.cons_append, List.setIfInBounds_toArray, List.set_cons_zero, List.set_cons_succ]
  go_wp2
  cases c₀
  simp_all [bodyPostS, results, Tryz.results41]
set_option maxRecDepth 100000 in
set_option maxHeartbeats 1000000 in
theorem Es (m:Nat) (caps:Array Value) (he:∀args w,(callFunc m args).run Tryz.prog w=.ok (.enter m args) w) (w:World) (B:Nat) (hB:B≤w.heap.size) (K:Value→World→Prop)
  (H:Calls Tryz.prog m caps (ig w) fun e w'=>∃v,e=.returned v∧v.oneCell'=true∧K v w'∧af w' w.heap.size 37 #[.int .i64 0,.int .i64 0]∧Below B (ig w) w') :
  Calls Tryz.prog 21 #[.func (.func m) #[] caps] w fun e w'=>∃v,e=.returned (.tuple #[v,jU 0 0])∧(∃w1,K v w1∧w'=(w1.setCell ⟨w.heap.size,0,none⟩ (.int .i64 0)).setCell ⟨w.heap.size,1,none⟩ (.int .i64 0))∧Below B w w':=by
 have hmf:=mkf
 have HH:Hid _:=H
 have HBN:Hid (B≤w.heap.size):=hB
 clear H
 go_enter_defers Tryz.func21,Tryz.ntmps21
 go_wp2_with fail
 refine Calls.mono HH.out ?_
 rintro e w1 ⟨v,rfl,h1,hk,hr,hb⟩
 have c0:=hr.cell (i:=0) rfl
 have c1:=hr.cell (i:=1) rfl
 have f0:=hr.frozen 0
 have f1:=hr.frozen 1
 have HK:Hid (K v w1):=hk
 have HR2:Hid (af ((w1.setCell ⟨w.heap.size,0,none⟩ (.int .i64 0)).setCell ⟨w.heap.size,1,none⟩ (.int .i64 0)) w.heap.size 37 #[.int .i64 0,.int .i64 0]):=(hr.set 0 _).set 1 _
 have HBW:Hid (Below B w w1):=((Below.refl _ w).alloc hB _).trans hb
 clear hk hb hr
 go_wp2
 refine leaves_cons (f:=41) (args:=#[.pointer (some ⟨w.heap.size,0,none⟩)]) (by simp) (by simp[go_sem]) ?_
 refine (wI ⟨w.heap.size,0,none⟩ _).mono ?_
 rintro e u' w'' ⟨rfl,rfl,rfl⟩
 refine ⟨_,cC rfl _ _ w.heap.size 37 #[.int .i64 0,.int .i64 0] (0,0) _ v rfl rfl HR2.out Tryz.underlying37 rfl ni,v,rfl,⟨w1,HK.out,rfl⟩,?_⟩
 exact (HBW.out.setCell (p:=⟨w.heap.size,0,none⟩) HBN.out _).setCell (p:=⟨w.heap.size,1,none⟩) HBN.out _
set_option maxRecDepth 100000 in
theorem vU (p:Addr) (w:World):CallsD Tryz.prog 37 #[.pointer (some p)] .returning w fun e u' w'=>e=.returned (.tuple #[])∧u'=.returning∧w'=w:=by
 refine callsD_of_wpS Tryz.func37 rfl fun c₀ cs hu=>?_
 apply wpS_seq
 apply wpS_region
 simp[wpOpsS,go_sem,recoverD,hu,Tryz.ntmps37,Exit.thenS]
 refine wpS_of_wp ?_
 simp only[Array.replicate_succ,Array.replicate_zero,List.push_toArray,List.append_toArray,List.nil_append,List.cons_append,List.setIfInBounds_toArray,List.set_cons_zero,List.set_cons_succ]
 go_wp2
 cases c₀
 simp_all [bodyPostS,results,Tryz.results37]
set_option maxRecDepth 100000 in
theorem yp (b : Nat) (E A : Int) (w : World) (hb : af w b 37 #[.int .i64 0, .int .i64 0]) : CallsD Tryz.prog 37 #[.pointer (some ⟨b, 0, none⟩)] (.panicking [flt E A]) w fun e u' w' =>
      e = .returned (.tuple #[]) ∧ u' = .panicking [{ flt E A with recovered := true }] ∧ w' = (w.setCell ⟨b, 0, none⟩ (.int .i64 E)).setCell ⟨b, 1, none⟩ (.int .i64 A) := by
  have c0 := hb.cell (i := 0) rfl
  have c1 := hb.cell (i := 1) rfl
  have f0 := hb.frozen 0
  have f1 := hb.frozen 1
  have hta := vT
  unfold flt
  refine callsD_of_wpS Tryz.func37 rfl fun c₀ cs hu => ?_
  apply wpS_seq
  apply wpS_region
  simp [wpOpsS, go_sem, recoverD, hu, Tryz.ntmps37, Exit.thenS]
  refine wpS_of_wp ?_
  simp only [Array.replicate_succ, Array.replicate_zero, List.push_toArray, List.append_toArray, List.nil_append, List.cons_append, List.setIfInBounds_toArray, List.set_cons_zero, List.set_cons_succ]
  go_wp2
  cases c₀
  simp_all [bodyPostS, results, Tryz.results37]
set_option maxRecDepth 100000 in
set_option maxHeartbeats 1000000 in
theorem D8 (m:Nat) (caps:Array Value) (he:∀args w,(callFunc m args).run Tryz.prog w=.ok (.enter m args) w) (w:World) (B:Nat) (hB:B≤w.heap.size) (K:Value→World→Prop)
  (H:Calls Tryz.prog m caps (ig w) fun e w'=>∃v,e=.returned v∧v.oneCell'=true∧K v w'∧af w' w.heap.size 37 #[.int .i64 0,.int .i64 0]∧Below B (ig w) w') :
  Calls Tryz.prog 17 #[.func (.func m) #[] caps] w fun e w'=>∃v,e=.returned (.tuple #[v,jU 0 0])∧(∃w1,K v w1∧w'=(w1.setCell ⟨w.heap.size,0,none⟩ (.int .i64 0)).setCell ⟨w.heap.size,1,none⟩ (.int .i64 0))∧Below B w w':=by
 have hmf:=mkf
 have HH:Hid _:=H
 have HBN:Hid (B≤w.heap.size):=hB
 clear H
 go_enter_defers Tryz.func17,Tryz.ntmps17
 go_wp2_with fail
 refine Calls.mono HH.out ?_
 rintro e w1 ⟨v,rfl,h1,hk,hr,hb⟩
 have c0:=hr.cell (i:=0) rfl
 have c1:=hr.cell (i:=1) rfl
 have f0:=hr.frozen 0
 have f1:=hr.frozen 1
 have HK:Hid (K v w1):=hk
 have HR2:Hid (af ((w1.setCell ⟨w.heap.size,0,none⟩ (.int .i64 0)).setCell ⟨w.heap.size,1,none⟩ (.int .i64 0)) w.heap.size 37 #[.int .i64 0,.int .i64 0]):=(hr.set 0 _).set 1 _
 have HBW:Hid (Below B w w1):=((Below.refl _ w).alloc hB _).trans hb
 clear hk hb hr
 go_wp2
 refine leaves_cons (f:=37) (args:=#[.pointer (some ⟨w.heap.size,0,none⟩)]) (by simp) (by simp[go_sem]) ?_
 refine (vU ⟨w.heap.size,0,none⟩ _).mono ?_
 rintro e u' w'' ⟨rfl,rfl,rfl⟩
 refine ⟨_,cC rfl _ _ w.heap.size 37 #[.int .i64 0,.int .i64 0] (0,0) _ v rfl rfl HR2.out Tryz.underlying37 rfl ni,v,rfl,⟨w1,HK.out,rfl⟩,?_⟩
 exact (HBW.out.setCell (p:=⟨w.heap.size,0,none⟩) HBN.out _).setCell (p:=⟨w.heap.size,1,none⟩) HBN.out _
set_option maxRecDepth 100000 in
set_option maxHeartbeats 1000000 in
theorem Bw (m:Nat) (caps:Array Value) (he:∀args w,(callFunc m args).run Tryz.prog w=.ok (.enter m args) w) (w:World) (B:Nat) (hB:B≤w.heap.size) (E A:Int) (K:World→Prop)
  (H:Calls Tryz.prog m caps (ig w) fun e w'=>e=.panicked [flt E A]∧K w'∧af w' w.heap.size 37 #[.int .i64 0,.int .i64 0]∧Below B (ig w) w') :
  Calls Tryz.prog 17 #[.func (.func m) #[] caps] w fun e w'=>e=.returned (.tuple #[.slice none 0 0,jU E A])∧(∃w1,K w1∧w'=(w1.setCell ⟨w.heap.size,0,none⟩ (.int .i64 E)).setCell ⟨w.heap.size,1,none⟩ (.int .i64 A))∧Below B w w':=by
 have hmf:=mkf
 have HH:Hid _:=H
 have HBN:Hid (B≤w.heap.size):=hB
 clear H
 go_enter_defers Tryz.func17,Tryz.ntmps17
 go_wp2_with fail
 refine Calls.mono HH.out ?_
 rintro e w1 ⟨rfl,hk,hr,hb⟩
 have HBW:Below B w w1:=((Below.refl _ w).alloc hB _).trans hb
 refine leaves_cons (f:=37) (args:=#[.pointer (some ⟨w.heap.size,0,none⟩)]) (by simp) (by simp[go_sem]) ?_
 refine (yp w.heap.size E A _ hr).mono ?_
 rintro e u' w'' ⟨rfl,rfl,rfl⟩
 refine ⟨_,cC rfl _ _ w.heap.size 37 #[.int .i64 E,.int .i64 A] (0,0) _ (.slice none 0 0) rfl rfl ((hr.set 0 _).set 1 _) Tryz.underlying37 rfl ni,rfl,⟨w1,hk,rfl⟩,?_⟩
 exact (HBW.setCell (p:=⟨w.heap.size,0,none⟩) HBN.out _).setCell (p:=⟨w.heap.size,1,none⟩) HBN.out _
end
namespace Vg
def there (kind a b:Nat):Nat:=if kind=2 then (b+26-a) % 26 else if kind=3 then (a+26-b) % 26 else (a+b) % 26
def back (kind c b:Nat):Nat:=if kind=2 then (b+26-c) % 26 else if kind=3 then (c+b) % 26 else (c+26-b) % 26
def num (c:UInt8):Nat:=c.toNat-65
def ltr (n:Nat):UInt8:=UInt8.ofNat (65+n)
theorem FO {n:Nat} (h:n<26):num (ltr n)=n:=by unfold num ltr;rw[UInt8.toNat_ofNat'];omega
theorem FH {c:UInt8} (h:65≤c.toNat∧c.toNat≤90):ltr (num c)=c:=by
 unfold num ltr
 apply UInt8.toNat_inj.1
 rw[UInt8.toNat_ofNat'];omega
theorem mJ {c:UInt8} (h:65≤c.toNat∧c.toNat≤90):num c<26:=by unfold num;omega
theorem jM {n:Nat} (h:n<26):(ltr n).toNat=65+n:=by unfold ltr;rw[UInt8.toNat_ofNat'];omega
theorem JQ {n:Nat} (h:n<26):65≤(ltr n).toNat∧(ltr n).toNat≤90:=by rw[jM h];omega
def Ls (l:List UInt8):Prop:=∀c ∈ l,65≤c.toNat∧c.toNat≤90
theorem Ls.at {l:List UInt8} (h:Ls l) {i:Nat} (hi:i<l.length):65≤(l.getD i 0).toNat∧(l.getD i 0).toNat≤90:=by
 rw[List.getD_eq_getElem?_getD,List.getElem?_eq_getElem hi]
 exact h _ (List.getElem_mem hi)
theorem getD_some {l:List UInt8} {i:Nat} (hi:i<l.length):l.getD i 0=l[i]:=by rw[List.getD_eq_getElem?_getD,List.getElem?_eq_getElem hi];rfl
def kat (kind:Nat) (k p:List UInt8) (i:Nat):Nat:=if kind=4∧k.length≤i then num (p.getD (i-k.length) 0) else num (k.getD (i % k.length) 0)
def wrL (kind:Nat) (k t:List UInt8) (m:Nat):List UInt8:=(List.range m).map fun i=>ltr (there kind (num (t.getD i 0)) (kat kind k t i))
def Kk (kind:Nat) (k t:List UInt8):List UInt8:=wrL kind k t t.length
def nx {α:Type} [DecidableEq α] (p:Nat→α) (q:α):Nat→Nat→Option Nat
 | _,0=>none
 | j,n+1=>if p j=q then some j else nx p q (j+1) n
theorem zS (b:ByteArray):∀(n i:Nat) (r:List UInt8),b.size-i=n→ByteArray.toList.loop b i r=r.reverse++b.data.toList.drop i
 | 0,i,r,h=>by
  unfold ByteArray.toList.loop
  have h1:b.data.size=b.size:=rfl
  rw[if_neg (by omega),List.drop_eq_nil_of_le (by simp;omega)]
  simp
 | n+1,i,r,h=>by
  unfold ByteArray.toList.loop
  have h1:b.data.size=b.size:=rfl
  have h2:i<b.data.toList.length:=by simp;omega
  rw[if_pos (by omega),zS b n (i+1) _ (by omega),List.drop_eq_getElem_cons h2]
  have h3:b.get! i=b.data.toList[i]:=by
   show b.data[i]! = _
   rw[getElem!_pos b.data i (by simpa using h2)]
   simp
  simp[h3]
theorem jE (b:ByteArray):b.toList=b.data.toList:=by
 unfold ByteArray.toList
 rw[zS b _ 0 [] rfl]
 simp
theorem Is {a b:ByteArray} (h:¬a=b):(a.toList==b.toList)=false:=by
 rw[jE,jE]
 exact beq_false_of_ne fun e=>h (by cases a;cases b;simp at e;rw[e])
theorem H9 {a b:ByteArray} (h:a=b):(a.toList==b.toList)=true:=by rw[h];simp
end Vg
namespace Zq
open Vg
def jI (c:UInt8):UInt8:=if c=74 then 73 else c
def alpha:List UInt8:=[65,66,67,68,69,70,71,72,73,75,76,77,78,79,80,81,82,83,84,85,86,87,88,89,90]
def addN (out:List UInt8) (c:UInt8):List UInt8:=if c ∈ out then out else out++[c]
def Kw (out l:List UInt8):List UInt8:=l.foldl addN out
def laid (key:List UInt8):List UInt8:=Kw [] ((key++alpha).map jI)
def at' (s:List UInt8) (c:UInt8):Nat:=s.idxOf c
def C0 (i j:Nat):Nat × Nat :=
 if i / 5=j / 5 then (5*(i / 5)+(i % 5+1) % 5,5*(j / 5)+(j % 5+1) % 5)
 else if i % 5=j % 5 then (5*((i / 5+1) % 5)+i % 5,5*((j / 5+1) % 5)+j % 5)
 else (5*(i / 5)+j % 5,5*(j / 5)+i % 5)
def enc (s:List UInt8) (a b:UInt8):UInt8 × UInt8:=(s.getD (C0 (at' s a) (at' s b)).1 0,s.getD (C0 (at' s a) (at' s b)).2 0)
def K9 (f:UInt8→UInt8→UInt8 × UInt8):List UInt8→List UInt8
 | a :: b :: r=>(f a b).1 :: (f a b).2 :: K9 f r
 | _=>[]
inductive Good:List UInt8→Prop
 | nil:Good []
 | two {a b:UInt8} {r:List UInt8} (ha:a ∈ alpha) (hb:b ∈ alpha) (hab:a≠b) (hr:Good r):Good (a :: b :: r)
def fK:List UInt8→List UInt8:=K9 fun a b=>(b,a)
def wrong (t:List UInt8) (i:Nat):Bool:=decide (t.getD i 0=74∨(i % 2=1∧t.getD i 0=t.getD (i-1) 0))
end Zq
namespace Zq
open Vg PK
def lay (l:List UInt8) (m:Nat):List UInt8:=Kw [] ((l.take m).map jI)
def pl (L:List UInt8) (k:Nat):Nat:=if ltr k ∈ L then at' L (ltr k) else 0
def fw (t:List UInt8):Option Nat:=(List.range t.length).find? (wrong t)
end Zq
section
open Go.RowKit PK Vg Zq
theorem It {l:List UInt8} (h:Pl.Lets l):Ls l:=fun c hc=>by
 have:=h c hc
 simp[Pl.isL] at this
 omega
section
variable {P:Program} {ops:Array Oper} {Q:Exit→Act→World→Prop} {md:Region.Mode} {S:World→Prop}
theorem L4 (i d:Nat) (v:Value) {oi:Oper} {fuel:Nat} {listed:Array Bool} {tm:Array Value} {df:List Deferred} {w:World} (hi:ops[i]? = some oi) (hd:oi.dst=some d)
  (hs:Region.noSelect ops=true) (hf:Region.free md ops listed i=true) (hr:(Region.ready md ops listed).contains i=true)
  (hQ:∀c a a' w,Q (.panic c) a' w→Q (.panic c) a w) (hw:Region.wanted oi (yielded ops tm)=true) (hrun:∀W,S W→(execOp (Act.eval ⟨tm,df⟩) oi).run P W=.ok (.value v) W) (hS:S w)
  (h:wpAnyH P md ops Q S fuel (listed.setIfInBounds i true) ⟨tm.setIfInBounds d v,df⟩ w):wpAnyH P md ops Q S (fuel+1) listed ⟨tm,df⟩ w:=by
 refine wpAnyH_take (i:=i) (oi:=oi) (v:=v) hi hs hf hr (fun c a w=>hQ c a _ w) (Or.inl ⟨hw,fun W hW=>hrun W hW⟩) hS ?_
 rw[hd]
 exact h
end
theorem uF:(Tryz.prog.info? 5).map (fun i=>(i.zero,i.size,i.bytes))=some (some (.int .u8 0),1,1):=by kernel_rfl
theorem fe {P:Program} {e:TypeId} {z:Value} {s b:Nat} (h:(P.info? e).map (fun i=>(i.zero,i.size,i.bytes))=some (some z,s,b)):∃i,P.info? e=some i∧i.zero=some z∧i.size=s∧i.bytes=b:=by
 obtain ⟨i,hi,hzz⟩:=Option.map_eq_some_iff.1 h
 simp only[Prod.mk.injEq] at hzz
 exact ⟨i,hi,hzz.1,hzz.2.1,hzz.2.2⟩
theorem uy (acc:List UInt8) (b:UInt8):Lib.byteCells acc++[.int .u8 (b.toNat:Int)]=Lib.byteCells (acc++[b]):=by simp[Lib.byteCells]
theorem jH {s:ByteArray} {i:Nat} (hi:i<s.size):i<s.data.toList.length:=by have:=Pl.aK s;omega
end
end Go.Proofs.YtgacaecjinlhiaaGreatDoor
