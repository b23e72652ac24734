import Derived.WalkSpells
import Derived.WalkSmall
import Derived.Deep.WholeRow
import Derived.Deep.OwnRows
import Derived.Lib.SmallJoins
import Derived.BigQuiet
import Derived.Laws.EntriesVeiled
import Derived.Laws.AppendOwnNone
import Derived.Deep.RegionHeld3
import Derived.Deep.DeepCutAuto
import Derived.Test.YtpdemelchhkfaaaChecked
namespace Go.Proofs.Ytpdemelchhkfaaa
namespace Pl
def tab : List (Int × List UInt8) :=
  [(196, [65, 69]), (228, [65, 69]), (198, [65, 69]), (230, [65, 69]),
   (214, [79, 69]), (246, [79, 69]), (216, [79, 69]), (248, [79, 69]), (338, [79, 69]), (339, [79, 69]),
   (220, [85, 69]), (252, [85, 69]), (223, [83, 83]), (197, [65, 65]), (229, [65, 65]),
   (201, [69]), (233, [69]), (200, [69]), (232, [69]), (202, [69]), (234, [69]),
   (192, [65]), (224, [65]), (194, [65]), (226, [65]), (260, [65]), (261, [65]),
   (199, [67]), (231, [67]), (262, [67]), (263, [67]), (321, [76]), (322, [76]),
   (323, [78]), (324, [78]), (209, [78]), (241, [78]), (346, [83]), (347, [83]),
   (377, [90]), (378, [90]), (379, [90]), (380, [90]), (46, [88]), (63, [88]), (33, [88])]
def isL (c:Int):Bool:=decide (65≤c∧c≤90)
def Lets (l:List UInt8):Prop:=∀c ∈ l,isL c.toNat=true
theorem c6 (s:ByteArray):s.size=s.data.toList.length:=by cases s;rfl
def bad (c:UInt8):Bool:=!isL c.toNat
def uB (l:List UInt8):Int:=match l.findIdx? bad with | none=>0 | some _=>2
def nF (l:List UInt8):Int:=match l.findIdx? bad with | none=>0 | some i=>i
theorem AZ (l:List UInt8) (h:Lets l):l.findIdx? bad=none:=by
 rw[List.findIdx?_eq_none_iff]
 intro c hc
 simp[bad,h c hc]
theorem zU (l:List UInt8) (h:∀j (hj:j<l.length),isL (l[j].toNat)=true):l.findIdx? bad=none:=by
 apply AZ
 intro c hc
 obtain ⟨j,hj,rfl⟩:=List.getElem_of_mem hc
 exact h j hj
theorem Bh (l:List UInt8) (k:Nat) (hk:k<l.length) (h:∀j (_:j<k) (hj:j<l.length),isL (l[j].toNat)=true) (hb:isL (l[k].toNat)=false):l.findIdx? bad=some k:=by
 rw[List.findIdx?_eq_some_iff_getElem]
 refine ⟨hk,by simp[bad,hb],?_⟩
 intro j hj
 simp[bad,h j hj (by omega)]
end Pl
section
open Go.RowKit
set_option maxHeartbeats 400000 in
theorem jr (c:Int) (w:World) :
  Calls Try.prog 78 #[.int .u8 c] w fun e w'=>e=.returned (.bool (Pl.isL c))∧w=w':=by
 by_cases h1:65≤c
 ·by_cases h2:c≤90
  ·have e:Pl.isL c=true:=by simp[Pl.isL];omega
   go_enter Try.func78,Try.ntmps78
   go_wp2
   go_ret
   exact ⟨by rw[e];rfl,rfl⟩
  ·have e:Pl.isL c=false:=by simp[Pl.isL];omega
   go_enter Try.func78,Try.ntmps78
   go_wp2
   go_ret
   exact ⟨rfl,rfl⟩
 ·have e:Pl.isL c=false:=by simp[Pl.isL];omega
  go_enter Try.func78,Try.ntmps78
  go_wp2
  go_ret
  exact ⟨rfl,rfl⟩
end
namespace Kit
open Go.RowKit
end Kit
section
open Go.RowKit
set_option maxHeartbeats 400000 in
theorem rJ (s:ByteArray) (w:World) (h:65536<s.size) :
  Calls Try.prog 51 #[.string s] w fun e w'=>e=.returned (.agg #[.int .i64 4,.int .i64 0])∧Below w.heap.size w w':=by
 go_enter Try.func51,Try.ntmps51
 go_wp2
 exact bodyPost_ret (v:=.agg #[.int .i64 4,.int .i64 0]) (by simp[results,Try.results51,go_sem]) rfl ⟨rfl,(Below.refl _ _).alloc (Nat.le_refl _) _⟩
theorem mK (l:List UInt8) (k:Nat) (h:l.findIdx? Pl.bad=some k):Pl.uB l=2∧Pl.nF l=k:=by
 unfold Pl.uB Pl.nF
 rw[h]
 exact ⟨rfl,rfl⟩
theorem jq (l:List UInt8) (h:l.findIdx? Pl.bad=none):Pl.uB l=0∧Pl.nF l=0:=by
 unfold Pl.uB Pl.nF
 rw[h]
 exact ⟨rfl,rfl⟩
set_option maxHeartbeats 1000000 in
theorem wK (s:ByteArray) (w:World) (h:s.size≤65536) :
  Calls Try.prog 51 #[.string s] w fun e w'=>e=.returned (.agg #[.int .i64 (Pl.uB s.data.toList),.int .i64 (Pl.nF s.data.toList)])∧Below w.heap.size w w':=by
 have hb:decide (65536<(s.size:Int))=false:=by simp;omega
 have HL:Hid (s.size=s.data.toList.length):=Pl.c6 s
 go_enter Try.func51,Try.ntmps51
 go_wp2
 go_loop [10] (fun i=>∃k:Nat,k≤s.size∧i=.int .i64 k∧Hid (∀j (_:j<k) (hj:j<s.data.toList.length),Pl.isL (s.data.toList[j].toNat)=true)) (fun i=>s.size-(intOf i).toNat)
 case atStart=>exact ⟨0,Nat.zero_le _,rfl,fun j hj=>by omega⟩
 case round =>
  obtain ⟨k,hk,rfl,HA⟩:=hrel
  by_cases hlt:k<s.size
  ·cases hl:Pl.isL (s[k].toNat:Int)
   ·have HE:Hid (s.data.toList.findIdx? Pl.bad=some k):=Pl.Bh _ k (by have:=HL.out;omega) HA.out hl
    go_wp2_with (go_at_call 78;refine (jr _ _).mono ?_;rintro e w' ⟨rfl,rfl⟩)
    refine bodyPost_ret (v:=.agg #[.int .i64 2,.int .i64 k]) (by simp[results,Try.results51,go_sem]) rfl ⟨?_,(Below.refl _ _).alloc (Nat.le_refl _) _⟩
    rw[(mK _ _ HE.out).1,(mK _ _ HE.out).2]
   ·have HE:Hid (∀j (_:j<k+1) (hj:j<s.data.toList.length),Pl.isL (s.data.toList[j].toNat)=true):=by
     intro j hj hj'
     rcases Nat.lt_or_ge j k with h1 | h1
     ·exact HA.out j h1 hj'
     ·have:j=k:=by omega
      subst this
      exact hl
    go_wp2_with (go_at_call 78;refine (jr _ _).mono ?_;rintro e w' ⟨rfl,rfl⟩)
    exact ⟨⟨k+1,by omega,by go_num,HE⟩,by simp[intOf];omega⟩
  ·have HE:Hid (s.data.toList.findIdx? Pl.bad=none):=Pl.zU _ fun j hj=>HA.out j (by have:=HL.out;omega) hj
   go_wp2
   refine bodyPost_ret (v:=.agg #[.int .i64 0,.int .i64 0]) (by simp[results,Try.results51,go_sem]) rfl ⟨?_,(Below.refl _ _).alloc (Nat.le_refl _) _⟩
   rw[(jq _ HE.out).1,(jq _ HE.out).2]
end
section
open Go.RowKit
end
section
open Go.RowKit
def ckE (t:List UInt8):Int:=if 65536<t.length then 4 else Pl.uB t
def vm (t:List UInt8):Int:=if 65536<t.length then 0 else Pl.nF t
theorem uL (s:ByteArray) (w:World):Calls Try.prog 51 #[.string s] w fun e w'=>e=.returned (.agg #[.int .i64 (ckE s.data.toList),.int .i64 (vm s.data.toList)])∧Below w.heap.size w w':=by
 unfold ckE vm
 have hl:=Pl.c6 s
 by_cases h:65536<s.size
 ·rw[if_pos (by omega),if_pos (by omega)];exact rJ s w h
 ·rw[if_neg (by omega),if_neg (by omega)];exact wK s w (by omega)
theorem yq (t:List UInt8):(ckE t=0∧vm t=0∧t.length≤65536∧Pl.Lets t)∨(ckE t != 0)=true:=by
 unfold ckE vm
 by_cases h:65536<t.length
 ·rw[if_pos h];exact .inr rfl
 ·rw[if_neg h,if_neg h]
  cases hf:t.findIdx? Pl.bad with
  | none =>
   refine .inl ⟨(jq t hf).1,(jq t hf).2,by omega,fun c hc=>?_⟩
   have:=List.findIdx?_eq_none_iff.1 hf c hc
   simpa [Pl.bad] using this
  | some k=>exact .inr (by rw[(mK t k hf).1];rfl)
theorem vG (s:ByteArray) (k:Nat) (hk:k<s.size):s.data.toList.getD k 0=s[k]:=by
 have hk':k<s.data.toList.length:=by have:=Pl.c6 s;omega
 simp only[List.getD,List.getElem?_eq_getElem hk']
 rfl
end
namespace PK
open Go.RowKit
theorem lB {k:IntKind} {a b:Int} (h:a=b):Ending.returned (.int k a)=.returned (.int k b):=by rw[h]
def upd {α:Type} (f:Nat→α) (i:Nat) (v:α):Nat→α:=fun j=>if j=i then v else f j
@[simp] theorem upd_same {α:Type} (f:Nat→α) (i:Nat) (v:α):upd f i v i=v:=by simp[upd]
theorem nG {α:Type} (f:Nat→α) {i j:Nat} (v:α) (h:j≠i):upd f i v j=f j:=by simp[upd,h]
def tab (n:Nat) (g:Nat→Value):Array Value:=((List.range n).map g).toArray
theorem gW (n:Nat) (g:Nat→Value):(tab n g).size=n:=by simp[tab]
theorem jv {n:Nat} (g:Nat→Value) {i:Nat} (h:i<n):(tab n g)[i]? = some (g i):=by simp[tab,h]
theorem iE {n:Nat} {g g':Nat→Value} (h:∀i,i<n→g i=g' i):tab n g=tab n g':=by
 unfold tab
 congr 1
 exact List.map_congr_left fun i hi=>h i (by simpa using hi)
theorem oe (n:Nat) (g:Nat→Value) (i:Nat) (v:Value):(tab n g).setIfInBounds i v=tab n (upd g i v):=by
 apply Array.ext_getElem?
 intro j
 rw[Array.getElem?_setIfInBounds]
 by_cases hj:j<n
 ·rw[jv _ hj,jv _ hj,gW]
  by_cases e:i=j
  ·subst e;simp[hj]
  ·simp[e,upd,Ne.symm e]
 ·have h1:(tab n g)[j]? = none:=by simp[tab];omega
  have h2:(tab n (upd g i v))[j]? = none:=by simp[tab];omega
  rw[h1,h2,gW]
  by_cases e:i=j
  ·subst e;simp[hj]
  ·simp[e]
def ints (n:Nat) (f:Nat→Int):Array Value:=tab n fun i=>.int .i64 (f i)
def gN (n:Nat) (f:Nat→Bool):Array Value:=tab n fun i=>.bool (f i)
theorem af (n:Nat) (f:Nat→Int):(ints n f).size=n:=gW _ _
theorem aI {n:Nat} (f:Nat→Int) {i:Nat} (h:i<n):(ints n f)[i]? = some (.int .i64 (f i)):=jv _ h
theorem vJ {n:Nat} (f:Nat→Bool) {i:Nat} (h:i<n):(gN n f)[i]? = some (.bool (f i)):=jv _ h
theorem gR {n:Nat} {f g:Nat→Int} (h:∀i,i<n→f i=g i):ints n f=ints n g:=iE fun i hi=>by rw[h i hi]
theorem uX {n:Nat} {f g:Nat→Bool} (h:∀i,i<n→f i=g i):gN n f=gN n g:=iE fun i hi=>by rw[h i hi]
theorem ints_set (n:Nat) (f:Nat→Int) (i:Nat) (v:Int):(ints n f).setIfInBounds i (.int .i64 v)=ints n (upd f i v):=by
 unfold ints
 rw[oe]
 exact iE fun j _=>by by_cases e:j=i <;> simp[upd,e]
theorem vD (n:Nat) (f:Nat→Bool) (i:Nat) (v:Bool):(gN n f).setIfInBounds i (.bool v)=gN n (upd f i v):=by
 unfold gN
 rw[oe]
 exact iE fun j _=>by by_cases e:j=i <;> simp[upd,e]
theorem aS (n:Nat) (f:Nat→Int):(ints n f).all (·.oneCell')=true:=by
 rw[Array.all_eq_true_iff_forall_mem]
 intro v hv
 simp[ints,tab] at hv
 obtain ⟨i,_,rfl⟩:=hv
 rfl
theorem ej:(#[.int .i64 0,.int .i64 0,.int .i64 0,.int .i64 0,.int .i64 0,.int .i64 0,.int .i64 0,.int .i64 0,.int .i64 0,.int .i64 0,.int .i64 0,.int .i64 0,.int .i64 0,.int .i64 0,.int .i64 0,.int .i64 0,.int .i64 0,.int .i64 0,.int .i64 0,.int .i64 0,.int .i64 0,.int .i64 0,.int .i64 0,.int .i64 0,.int .i64 0,.int .i64 0]:Array Value)=ints 26 fun _=>0:=rfl
theorem Bv:(#[.bool false,.bool false,.bool false,.bool false,.bool false,.bool false,.bool false,.bool false,.bool false,.bool false,.bool false,.bool false,.bool false,.bool false,.bool false,.bool false,.bool false,.bool false,.bool false,.bool false,.bool false,.bool false,.bool false,.bool false,.bool false,.bool false]:Array Value)=gN 26 fun _=>false:=rfl
theorem lW {P:Program} (t e:TypeId) (n:Nat) (hu:P.underlying t=some (.array n e)) (he:P.underlying e=some (.int .i64)) (hs:(P.info? e).map (·.size)=some 1) (f:Nat→Int) (k:Nat) (hk:k<n) (w:World) :
  (Instr.index t (.agg (ints n f)) (.int .i64 (k:Int))).run P w=.ok (.int .i64 (f k)) w:=by
 cases hq:P.info? e with
 | none=>simp[hq] at hs
 | some i =>
  have h1:i.size=1:=by simpa [hq] using hs
  have h2:((k:Int)<(n:Int)):=by omega
  simp[Instr.index,asIntOf,Sem.run_bind,run_underlying hu,part,isAgg,run_underlying he,sizeOf,typeInfo,hq,h1,hk,aI f hk]
def ai (w:World) (b:Nat) (T:TypeId) (c:Array Value):Prop:=w.heap[b]? = some (.cells c T (0,0))
theorem ai.new (w:World) (T:TypeId) (c:Array Value):ai (w.alloc (.cells c T)) w.heap.size T c:=heap_alloc_new w _
theorem ai.lt {w:World} {b:Nat} {T:TypeId} {c:Array Value} (h:ai w b T c):b<w.heap.size:=(Array.getElem?_eq_some_iff.1 h).1
theorem ai.alloc {w:World} {b:Nat} {T:TypeId} {c:Array Value} (h:ai w b T c) (o:Obj):ai (w.alloc o) b T c:=(Below.heap_alloc w o b h.lt).trans h
theorem ai.cell {w:World} {b:Nat} {T:TypeId} {c:Array Value} (h:ai w b T c) {i:Nat} {v:Value} (hi:c[i]? = some v):w.cell? ⟨b,i,none⟩=some v:=(cell_of_row w b i c T (0,0) h).trans hi
theorem ai.frozen {w:World} {b:Nat} {T:TypeId} {c:Array Value} (h:ai w b T c) (i:Nat):w.frozen? ⟨b,i,none⟩=false:=frozen_of_row w b i c T h
theorem ai.set {w:World} {b:Nat} {T:TypeId} {c:Array Value} (h:ai w b T c) (i:Nat) (v:Value):ai (w.setCell ⟨b,i,none⟩ v) b T (c.setIfInBounds i v):=heap_setCell_same w b i c T v h
theorem ai.setOther {w:World} {b:Nat} {T:TypeId} {c:Array Value} (h:ai w b T c) (a:Addr) (v:Value) (hb:b≠a.block):ai (w.setCell a v) b T c:=(heap_setCell_other w a b v hb).trans h
theorem ai.below {w w':World} {b B:Nat} {T:TypeId} {c:Array Value} (h:ai w b T c) (hb:Below B w w') (hB:b<B):ai w' b T c:=(hb.block b hB).trans h
theorem ai.drew {w:World} {b:Nat} {T:TypeId} {c:Array Value} (h:ai w b T c):ai w.drew b T c:=h
theorem ai.row {w:World} {b:Nat} {T:TypeId} {c:Array Value} (h:ai w b T c) (c':Array Value):ai (w.setRow b c') b T c':=setRow_heap w b c c' T (0,0) h
theorem ai.ck {w:World} {b:Nat} {T:TypeId} {c:Array Value} (h:ai w b T c) (g:Nat) (c':Array Value) (hb:b≠g):ai (w.setRow g c') b T c:=(setRow_other w g b c' hb).trans h
theorem ai.range {w:World} {b:Nat} {T:TypeId} {c:Array Value} (h:ai w b T c):w.rangeAt b 0 c.toList:=fun j v hv=>by
 have h1:(⟨b,0+j,none⟩:Addr)=⟨b,j,none⟩:=by simp
 rw[h1]
 exact h.cell (by simpa using hv)
theorem Below.setRow {B:Nat} {a w:World} (h:Below B a w) (g:Nat) (hg:B≤g) (c:Array Value):Below B a (w.setRow g c) :=
 ⟨h.os,h.tape,h.output,by have:=h.size;simpa using this,fun k hk=>(setRow_other w g k c (by omega)).trans (h.block k hk)⟩
theorem Below.rangeAt {B:Nat} {w w':World} (h:Below B w w') {b o:Nat} {cs:List Value} (hc:w.rangeAt b o cs) (hb:b<B):w'.rangeAt b o cs:=fun j v hv=>(h.cell (p:=⟨b,o+j,none⟩) hb).trans (hc j v hv)
end PK
namespace PK
open Go.RowKit
def aY (w:World) (v:Value) (n:Nat) (f:Nat→Int):Prop :=
 ∃(a:Option Addr) (cap:Nat),v=.slice a n cap∧n≤maxLen∧∀c,c<n→∃b o,a=some ⟨b,o,none⟩∧w.cell? ⟨b,o+c,none⟩=some (.int .i64 (f c))
theorem cD {w:World} {a:Addr} {v:Value} (h:w.cell? a=some v):a.block<w.heap.size:=World.block_lt_of_cell? _ _ h
theorem aY.below {w w':World} {v:Value} {n:Nat} {f:Nat→Int} (h:aY w v n f) (hb:Below w.heap.size w w'):aY w' v n f:=by
 obtain ⟨a,cap,h1,h2,h3⟩:=h
 refine ⟨a,cap,h1,h2,fun c hc=>?_⟩
 obtain ⟨b,o,e,hcell⟩:=h3 c hc
 exact ⟨b,o,e,(hb.cell (p:=⟨b,o+c,none⟩) (cD hcell)).trans hcell⟩
end PK
section
open Go.RowKit PK
section
variable {P:Program} {ops:Array Oper} {Q:Exit→Act→World→Prop} {md:Region.Mode} {S:World→Prop}
theorem Eg (i d:Nat) (v:Value) {oi:Oper} {fuel:Nat} {listed:Array Bool} {tm:Array Value} {df:List Deferred} {w:World} (hi:ops[i]? = some oi) (hd:oi.dst=some d)
  (hs:Region.noSelect ops=true) (hf:Region.free md ops listed i=true) (hr:(Region.ready md ops listed).contains i=true)
  (hQ:∀c a a' w,Q (.panic c) a' w→Q (.panic c) a w) (hw:Region.wanted oi (yielded ops tm)=true) (hrun:∀W,S W→(execOp (Act.eval ⟨tm,df⟩) oi).run P W=.ok (.value v) W) (hS:S w)
  (h:wpAnyH P md ops Q S fuel (listed.setIfInBounds i true) ⟨tm.setIfInBounds d v,df⟩ w):wpAnyH P md ops Q S (fuel+1) listed ⟨tm,df⟩ w:=by
 refine wpAnyH_take (i:=i) (oi:=oi) (v:=v) hi hs hf hr (fun c a w=>hQ c a _ w) (Or.inl ⟨hw,fun W hW=>hrun W hW⟩) hS ?_
 rw[hd]
 exact h
end
theorem oG {P:Program} {e:TypeId} {z:Value} {s b:Nat} (h:(P.info? e).map (fun i=>(i.zero,i.size,i.bytes))=some (some z,s,b)):∃i,P.info? e=some i∧i.zero=some z∧i.size=s∧i.bytes=b:=by
 obtain ⟨i,hi,hzz⟩:=Option.map_eq_some_iff.1 h
 simp only[Prod.mk.injEq] at hzz
 exact ⟨i,hi,hzz.1,hzz.2.1,hzz.2.2⟩
theorem rD {P:Program} {t:TypeId} {z:Value} (h:(P.info? t).map (·.zero)=some (some z)) (w:World):(zeroValue t).run P w=.ok z w:=by
 cases hi:P.info? t with
 | none=>simp[hi] at h
 | some i =>
  have h2:i.zero=some z:=by simpa [hi] using h
  simp[zeroValue,typeInfo,hi,h2]
theorem sB:(Try.prog.info? 3).map (fun i=>(i.zero,i.size,i.bytes))=some (some (.int .i64 0),1,8):=by kernel_rfl
end
namespace Pm
def bad (f:Nat→Int) (i:Nat):Int:=if f i<0∨26≤f i then 3 else if (List.range i).any (fun j=>f j==f i) then 8 else 0
def cQ (f:Nat→Int):Nat→Int
 | 0=>0
 | n+1=>if cQ f n≠0 then cQ f n else bad f n
def fU (f:Nat→Int):Int:=cQ f 26
theorem kS (f : Nat → Int) (k n : Nat) (h : cQ f k ≠ 0) (hn : k ≤ n) : cQ f n = cQ f k := by
  induction n with
  | zero => have : k = 0 := by omega
            subst this; rfl
  | succ n ih =>
    by_cases e : k = n + 1
    · rw [e]
    · have := ih (by omega)
      show (if cQ f n ≠ 0 then cQ f n else bad f n) = _
      rw [this, if_pos h]
theorem fj (f:Nat→Int) (k:Nat) (h:cQ f k=0):cQ f (k+1)=bad f k:=by
 show (if cQ f k≠0 then cQ f k else bad f k)=_
 rw[if_neg (by simp[h])]
theorem mJ (f:Nat→Int) (k:Nat) (h:cQ f k=0) (hb:bad f k≠0) (hk:k<26):fU f=bad f k:=by
 have h1:=fj f k h
 have:=kS f (k+1) 26 (by rw[h1];exact hb) (by omega)
 unfold fU
 rw[this,h1]
theorem vL (f:Nat→Int) (k:Nat) (h:cQ f k=0) (hk:k=26):fU f=0:=by subst hk;exact h
def seen (f:Nat→Int) (k:Nat) (v:Nat):Bool:=(List.range k).any (fun j=>f j==(v:Int))
theorem uV (f:Nat→Int) (k v:Nat):seen f (k+1) v=(seen f k v || f k==(v:Int)):=by
 simp[seen,List.range_succ,List.any_append]
theorem nI (f:Nat→Int) (i:Nat) (h:f i<0∨26≤f i):bad f i=3:=by simp[bad,h]
theorem zL (f:Nat→Int) (i n:Nat) (h:f i=(n:Int)) (hn:n<26) (hs:seen f i n=true):bad f i=8:=by
 unfold bad
 rw[if_neg (by omega),if_pos (by rw[h];exact hs)]
theorem BB (f:Nat→Int) (i n:Nat) (h:f i=(n:Int)) (hn:n<26) (hs:seen f i n=false):bad f i=0:=by
 unfold bad
 rw[if_neg (by omega),if_neg (by rw[h];simpa [seen] using hs)]
theorem kL (f:Nat→Int):∀n,cQ f n=0↔∀i,i<n→bad f i=0
 | 0=>by simp[cQ]
 | n+1=>by
  have ih:=kL f n
  constructor
  ·intro h i hi
   by_cases e:cQ f n=0
   ·rw[fj f n e] at h
    by_cases e2:i=n
    ·rw[e2];exact h
    ·exact ih.1 e i (by omega)
   ·exact absurd ((kS f n (n+1) e (by omega)).symm.trans h) e
  ·intro h
   rw[fj f n (ih.2 fun i hi=>h i (by omega))]
   exact h n (by omega)
theorem ig (f:Nat→Int) (i:Nat):bad f i=0↔(0≤f i∧f i<26∧∀j,j<i→f j≠f i):=by
 unfold bad
 by_cases h1:f i<0∨26≤f i
 ·rw[if_pos h1]
  constructor
  ·intro h;exact absurd h (by decide)
  ·intro ⟨a,b,_⟩;omega
 ·rw[if_neg h1]
  by_cases h2:(List.range i).any (fun j=>f j==f i)=true
  ·rw[if_pos h2]
   simp at h2
   obtain ⟨j,hj,e⟩:=h2
   constructor
   ·intro h;exact absurd h (by decide)
   ·intro ⟨_,_,c⟩;exact absurd e (c j hj)
  ·rw[if_neg h2]
   simp at h2
   simp only[true_iff]
   exact ⟨by omega,by omega,h2⟩
structure cR (p:Nat→Nat):Prop where
 lt:∀i,i<26→p i<26
 inj:∀i j,i<26→j<26→p i=p j→i=j
def up (p:Nat→Nat):Nat→Int:=fun i=>(p i:Int)
theorem mQ (f:Nat→Int):fU f=0↔∃p,cR p∧∀i,i<26→f i=(p i:Int):=by
 unfold fU
 rw[kL]
 constructor
 ·intro h
  refine ⟨fun i=>(f i).toNat,⟨fun i hi=>?_,fun i j hi hj e=>?_⟩,fun i hi=>?_⟩
  ·have:=(ig f i).1 (h i hi);show (f i).toNat<26;omega
  ·have h1:=(ig f i).1 (h i hi)
   have h2:=(ig f j).1 (h j hj)
   have e':f i=f j:=by have e:(f i).toNat=(f j).toNat:=e;omega
   rcases Nat.lt_trichotomy i j with c | c | c
   ·exact absurd e' (h2.2.2 i c)
   ·exact c
   ·exact absurd e'.symm (h1.2.2 j c)
  ·have:=(ig f i).1 (h i hi);show f i=((f i).toNat:Int);omega
 ·rintro ⟨p,hp,he⟩ i hi
  rw[ig,he i hi]
  have:=hp.lt i hi
  refine ⟨by omega,by omega,fun j hj=>?_⟩
  rw[he j (by omega)]
  intro e
  have:=hp.inj j i (by omega) hi (by omega)
  omega
theorem yK (p:Nat→Nat) (hp:cR p):fU (up p)=0:=(mQ _).2 ⟨p,hp,fun _ _=>rfl⟩
theorem cR.comp {p q:Nat→Nat} (hp:cR p) (hq:cR q):cR (fun i=>q (p i)) :=
 ⟨fun i hi=>hq.lt _ (hp.lt i hi),fun i j hi hj e=>hp.inj i j hi hj (hq.inj _ _ (hp.lt i hi) (hp.lt j hj) e)⟩
theorem cR.id:cR (fun i=>i):=⟨fun _ h=>h,fun _ _ _ _ e=>e⟩
end Pm
end Go.Proofs.Ytpdemelchhkfaaa
