import Derived.WalkSpells
import Derived.WalkSmall
import Derived.Deep.WholeRow
import Derived.Deep.OwnRows
import Derived.Lib.SmallJoins
import Derived.BigQuiet
import Derived.Laws.EntriesVeiled
import Derived.Deep.DeepCutAuto
import Derived.Test.YtpcnpkhgjanamaaGreatDoorPz
import Derived.Test.YtpcnpkhgjanamaaGreatDoorChecked
namespace Go.Proofs.YtpcnpkhgjanamaaGreatDoor
open Go.Proofs.Tryz renaming prog→qf,underlying26→Yx
open Go renaming Value→R2,World→V8,TypeId→Wj,Program→Wr,Calls→WA
open Go.RowKit renaming Below→Wh
open Go.RowKit.Below renaming refl→Wm
open _root_.List renaming range→WO,setIfInBounds_toArray→YL,set_cons_zero→ZR,set_cons_succ→ZS,findIdx?_eq_none_iff→ZU,push_toArray→ZZ
open Go.Lib renaming byteCells→XL
open _root_.Array renaming replicate_zero→Zw,replicate_succ→Zx
set_option maxHeartbeats 1000000
set_option maxRecDepth 100000
namespace Pl
def bJ : List (Int×List UInt8):=
  [(196,[65,69]),(228,[65,69]),(198,[65,69]),(230,[65,69]),
   (214,[79,69]),(246,[79,69]),(216,[79,69]),(248,[79,69]),(338,[79,69]),(339,[79,69]),
   (220,[85,69]),(252,[85,69]),(223,[83,83]),(197,[65,65]),(229,[65,65]),
   (201,[69]),(233,[69]),(200,[69]),(232,[69]),(202,[69]),(234,[69]),
   (192,[65]),(224,[65]),(194,[65]),(226,[65]),(260,[65]),(261,[65]),
   (199,[67]),(231,[67]),(262,[67]),(263,[67]),(321,[76]),(322,[76]),
   (323,[78]),(324,[78]),(209,[78]),(241,[78]),(346,[83]),(347,[83]),
   (377,[90]),(378,[90]),(379,[90]),(380,[90]),(46,[88]),(63,[88]),(33,[88])]
def look(r:Int):List (Int×List UInt8)→List UInt8
 |[]=>[]
 |p :: t=>if(r==p.1)=true then p.2 else look r t
def spell(r:Int):List UInt8:=look r bJ
def yA(c:Int):Bool:=decide (65≤c∧c≤90)
def Lets(l:List UInt8):Prop:=∀c∈l,yA c.toNat=true
def byte(l:List UInt8)(k:Nat):Nat:=(l.getD k 0).toNat
theorem aN(s:ByteArray):s.size=s.data.toList.length:=by cases s;rfl
def bad(c:UInt8):Bool:=!yA c.toNat
def Gw(l:List UInt8):Int:=match l.findIdx? bad with|none=>0|some _=>2
def xu(l:List UInt8):Int:=match l.findIdx? bad with|none=>0|some i=>i
theorem Kk(l:List UInt8)(h:Lets l):l.findIdx? bad=none:=by
 rw[ZU];intro c hc;simp[bad,h c hc]
theorem Ot(l:List UInt8)(h:∀j (hj:j<l.length),yA (l[j].toNat)=true):l.findIdx? bad=none:=by
 apply Kk;intro c hc;obtain⟨j,hj,rfl⟩:=List.getElem_of_mem hc;exact h j hj
theorem Sj(l:List UInt8)(k:Nat)(hk:k<l.length)(h:∀j (_:j<k) (hj:j<l.length),yA (l[j].toNat)=true)(hb:yA (l[k].toNat)=false):l.findIdx? bad=some k:=by
 rw[List.findIdx?_eq_some_iff_getElem];refine⟨hk,by simp[bad,hb],?_⟩;intro j hj;simp[bad,h j hj vom]
end Pl
section
open Go.RowKit
theorem oW(c:Int)(w:V8):
  WA qf 42 #[.int .u8 c] w fun e w'=>e=.returned (.bool (Pl.yA c))∧w=w':=by
 by_cases h1:65≤c
 ·by_cases h2:c≤90
  ·have e:Pl.yA c=true:=by simp[Pl.yA];omega
   go_enter Tryz.func42,Tryz.ntmps42;go_wp2;go_ret;exact⟨by rw[e];rfl,rfl⟩
  ·have e:Pl.yA c=false:=by simp[Pl.yA];omega
   go_enter Tryz.func42,Tryz.ntmps42;go_wp2;go_ret;exact⟨rfl,rfl⟩
 ·have e:Pl.yA c=false:=by simp[Pl.yA];omega
  go_enter Tryz.func42,Tryz.ntmps42;go_wp2;go_ret;exact⟨rfl,rfl⟩
end
namespace Kit
open Go.RowKit
def Jv(w:V8)(B:Nat)(e:Wj)(v:R2)(l:List UInt8):Prop:=w.ownsRow B e 1 v l.length (XL l)
theorem foldl_push:∀(l:List UInt8) (s:ByteArray),(l.map fun b=>(b.toNat:Int)).foldl (fun r n=>r.push (UInt8.ofNat n.toNat)) s=⟨s.data++l.toArray⟩
 |[],s=>by cases s;simp
 |c :: t,s=>by
  simp only[Y9,List.foldl_cons];rw[foldl_push t];cases s;simp[ByteArray.push]
theorem qp{P:Wr}(w:V8)(src dst e:Wj)(hs:P.underlying src=some (.slice e))(he:P.underlying e=some (.int .u8))(hd:P.underlying dst=some .string)
  {B:Nat} {v:R2} {l:List UInt8} (h:Jv w B e v l):(convert src dst v).run P w=.ok (.string ⟨l.toArray⟩) w:=by
 rcases h.2 with⟨rfl,h0⟩|⟨g,cap,cur,rfl,_⟩
 ·have:l=[]:=Xv h0
  subst this;rw[run_convert_bytes_string w src dst e _ _ _ hs he hd];simp[Conv.bytesToString,Sem.run_pure]
  rfl
 ·rw[run_convert_bytes_string w src dst e _ _ _ hs he hd]
  have hl:=run_loadCells_list (P:=P) (w:=w) ⟨g,0,none⟩ (XL l) (h.cells rfl);rw[Lib.byteCells_length]at hl;have e1:XL l=(l.map fun b=>(b.toNat:Int)).map (Value.int .u8):=by simp[XL]
  rw[e1]at hl;rw[run_bytesToString w _ _ _ _ hl,foldl_push];simp
theorem vJ{W:V8}{N:Nat}{a' b':R2}(a b:R2)(h0:W.cell? ⟨N,0,none⟩=some a')(h1:W.cell? ⟨N,1,none⟩=some b'):
  ((W.setCell ⟨N,0,none⟩ a).setCell ⟨N,1,none⟩ b).cell? ⟨N,0,none⟩=some a∧((W.setCell ⟨N,0,none⟩ a).setCell ⟨N,1,none⟩ b).cell? ⟨N,1,none⟩=some b:=by
 have e0:=World.cell?_setCell_same W ⟨N,0,none⟩ a h0;have e1:(W.setCell ⟨N,0,none⟩ a).cell? ⟨N,1,none⟩=some b':=(World.cell?_setCell_other W _ _ _ vsi).trans h1;exact⟨(World.cell?_setCell_other _ _ _ _ vsi).trans e0,World.cell?_setCell_same _ _ _ e1⟩
end Kit
section
open Go.RowKit
theorem Eu(s:ByteArray)(w:V8)(h:65536<s.size):
  WA qf 20 #[.string s] w fun e w'=>e=.returned (.agg #[.int .i64 4,.int .i64 0])∧Wh w.heap.size w w':=by
 go_enter Tryz.func20,Tryz.ntmps20;go_wp2;exact WL (v:=.agg #[.int .i64 4,.int .i64 0]) (by simp[results,Tryz.results20,go_sem]) rfl ⟨rfl,(Wm _ _).alloc (R3 _) _⟩
theorem uJ(l:List UInt8)(k:Nat)(h:l.findIdx? Pl.bad=some k):Pl.Gw l=2∧Pl.xu l=k:=by
 unfold Pl.Gw Pl.xu;rw[h];exact⟨rfl,rfl⟩
theorem jF(l:List UInt8)(h:l.findIdx? Pl.bad=none):Pl.Gw l=0∧Pl.xu l=0:=by
 unfold Pl.Gw Pl.xu;rw[h];exact⟨rfl,rfl⟩
theorem KO(s:ByteArray)(w:V8)(h:s.size≤65536):
  WA qf 20 #[.string s] w fun e w'=>e=.returned (.agg #[.int .i64 (Pl.Gw s.data.toList),.int .i64 (Pl.xu s.data.toList)])∧Wh w.heap.size w w':=by
 have hb:decide (65536<(s.size:Int))=false:=vso;have HL:Hid (s.size=s.data.toList.length):=Pl.aN s;go_enter Tryz.func20,Tryz.ntmps20;go_wp2
 go_loop [10] (fun i=>∃k:Nat,k≤s.size∧i=.int .i64 k∧Hid (∀j (_:j<k) (hj:j<s.data.toList.length),Pl.yA (s.data.toList[j].toNat)=true)) (fun i=>s.size-(intOf i).toNat)
 case atStart=>exact⟨0,XE _,rfl,fun j hj=>by omega⟩
 case round=>
  obtain⟨k,hk,rfl,HA⟩:=hrel;by_cases hlt:k<s.size
  ·cases hl:Pl.yA (s[k].toNat:Int)
   ·have HE:Hid (s.data.toList.findIdx? Pl.bad=some k):=Pl.Sj _ k (by have:=HL.out;omega) HA.out hl
    go_wp2_with (go_at_call 42;refine(oW _ _).mono ?_;rintro e w' ⟨rfl,rfl⟩)
    refine WL (v:=.agg #[.int .i64 2,.int .i64 k]) (by simp[results,Tryz.results20,go_sem]) rfl ⟨?_,(Wm _ _).alloc (R3 _) _⟩;rw[(uJ _ _ HE.out).1,(uJ _ _ HE.out).2]
   ·have HE:Hid (∀j (_:j<k+1) (hj:j<s.data.toList.length),Pl.yA (s.data.toList[j].toNat)=true):=by
     intro j hj hj';rcases ZA j k with h1|h1
     ·exact HA.out j h1 hj'
     ·have:j=k:=vom
      subst this;exact hl
    go_wp2_with (go_at_call 42;refine(oW _ _).mono ?_;rintro e w' ⟨rfl,rfl⟩)
    exact⟨⟨k+1,vom,by go_num,HE⟩,by simp[intOf];omega⟩
  ·have HE:Hid (s.data.toList.findIdx? Pl.bad=none):=Pl.Ot _ fun j hj=>HA.out j (by have:=HL.out;omega) hj
   go_wp2;refine WL (v:=.agg #[.int .i64 0,.int .i64 0]) (by simp[results,Tryz.results20,go_sem]) rfl ⟨?_,(Wm _ _).alloc (R3 _) _⟩;rw[(jF _ HE.out).1,(jF _ HE.out).2]
def gx(t:List UInt8):Int:=if 65536<t.length then 4 else Pl.Gw t
def nK(t:List UInt8):Int:=if 65536<t.length then 0 else Pl.xu t
theorem fJ(s:ByteArray)(w:V8):WA qf 20 #[.string s] w fun e w'=>e=.returned (.agg #[.int .i64 (gx s.data.toList),.int .i64 (nK s.data.toList)])∧Wh w.heap.size w w':=by
 unfold gx nK;have hl:=Pl.aN s;by_cases h:65536<s.size
 ·rw[Wc vom,Wc vom];exact Eu s w h
 ·rw[V9 vom,V9 vom];exact KO s w vom
theorem lW(t:List UInt8):(gx t=0∧nK t=0∧t.length≤65536∧Pl.Lets t)∨(gx t != 0)=true:=by
 unfold gx nK;by_cases h:65536<t.length
 ·rw[Wc h];exact .inr rfl
 ·rw[V9 h,V9 h]
  cases hf:t.findIdx? Pl.bad with
  |none=>
   refine .inl ⟨(jF t hf).1,(jF t hf).2,vom,fun c hc=>?_⟩;have:=ZU.1 hf c hc;simpa[Pl.bad]using this
  |some k=>exact .inr (by rw[(uJ t k hf).1];rfl)
theorem fI(s:ByteArray)(k:Nat)(hk:k<s.size):s.data.toList.getD k 0=s[k]:=by
 have a:k<s.data.toList.length:=by have:=Pl.aN s;omega
 simp only[List.getD,Wu a]
 rfl
end
namespace PK
open Go.RowKit
theorem eI{k:IntKind}{a b:Int}(h:a=b):Ending.returned (.int k a)=.returned (.int k b):=by rw[h]
def upd{α:Type}(f:Nat→α)(i:Nat)(v:α):Nat→α:=fun j=>if j=i then v else f j
@[simp] theorem upd_same {α:Type} (f:Nat→α) (i:Nat) (v:α):upd f i v i=v:=by simp[upd]
theorem cH{α:Type}(f:Nat→α){i j:Nat}(v:α)(h:j≠i):upd f i v j=f j:=by simp[upd,h]
def bJ(n:Nat)(g:Nat→R2):Array R2:=((WO n).map g).toArray
theorem aU(n:Nat)(g:Nat→R2):(bJ n g).size=n:=by simp[bJ]
theorem aM{n:Nat}(g:Nat→R2){i:Nat}(h:i<n):(bJ n g)[i]?=some (g i):=by simp[bJ,h]
theorem cy{n:Nat}{g g':Nat→R2}(h:∀i,i<n→g i=g' i):bJ n g=bJ n g':=by
 unfold bJ
 congr 1
 exact List.map_congr_left fun i hi=>h i (by simpa using hi)
theorem dY(n:Nat)(g:Nat→R2)(i:Nat)(v:R2):(bJ n g).setIfInBounds i v=bJ n (upd g i v):=by
 apply Xc;intro j;rw[XA];by_cases hj:j<n
 ·rw[aM _ hj,aM _ hj,aU]
  by_cases e:i=j
  ·subst e;simp[hj]
  ·simp[e,upd,Ne.symm e]
 ·have h1:(bJ n g)[j]?=none:=by simp[bJ];omega
  have h2:(bJ n (upd g i v))[j]?=none:=by simp[bJ];omega
  rw[h1,h2,aU];by_cases e:i=j
  ·subst e;simp[hj]
  ·simp[e]
def ints(n:Nat)(f:Nat→Int):Array R2:=bJ n fun i=>.int .i64 (f i)
def iF(n:Nat)(f:Nat→Bool):Array R2:=bJ n fun i=>.bool (f i)
theorem ag(n:Nat)(f:Nat→Int):(ints n f).size=n:=aU _ _
theorem aB{n:Nat}(f:Nat→Int){i:Nat}(h:i<n):(ints n f)[i]?=some (.int .i64 (f i)):=aM _ h
theorem qR{n:Nat}(f:Nat→Bool){i:Nat}(h:i<n):(iF n f)[i]?=some (.bool (f i)):=aM _ h
theorem b8{n:Nat}{f g:Nat→Int}(h:∀i,i<n→f i=g i):ints n f=ints n g:=cy fun i hi=>by rw[h i hi]
theorem jq{n:Nat}{f g:Nat→Bool}(h:∀i,i<n→f i=g i):iF n f=iF n g:=cy fun i hi=>by rw[h i hi]
theorem ints_set(n:Nat)(f:Nat→Int)(i:Nat)(v:Int):(ints n f).setIfInBounds i (.int .i64 v)=ints n (upd f i v):=by
 unfold ints;rw[dY];exact cy fun j _=>by by_cases e:j=i<;>simp[upd,e]
theorem xY(n:Nat)(f:Nat→Bool)(i:Nat)(v:Bool):(iF n f).setIfInBounds i (.bool v)=iF n (upd f i v):=by
 unfold iF;rw[dY];exact cy fun j _=>by by_cases e:j=i<;>simp[upd,e]
theorem aI(n:Nat)(f:Nat→Int):(ints n f).all (·.oneCell')=true:=by
 rw[WJ];intro v hv;simp[ints,bJ]at hv;obtain⟨i,_,rfl⟩:=hv
 rfl
theorem oK:(#[.int .i64 0,.int .i64 0,.int .i64 0,.int .i64 0,.int .i64 0,.int .i64 0,.int .i64 0,.int .i64 0,.int .i64 0,.int .i64 0,.int .i64 0,.int .i64 0,.int .i64 0,.int .i64 0,.int .i64 0,.int .i64 0,.int .i64 0,.int .i64 0,.int .i64 0,.int .i64 0,.int .i64 0,.int .i64 0,.int .i64 0,.int .i64 0,.int .i64 0,.int .i64 0]:Array R2)=ints 26 fun _=>0:=rfl
theorem Ry:(#[.int .i64 0,.int .i64 0,.int .i64 0,.int .i64 0,.int .i64 0,.int .i64 0,.int .i64 0,.int .i64 0,.int .i64 0,.int .i64 0,.int .i64 0,.int .i64 0,.int .i64 0,.int .i64 0,.int .i64 0,.int .i64 0,.int .i64 0,.int .i64 0,.int .i64 0,.int .i64 0,.int .i64 0,.int .i64 0,.int .i64 0,.int .i64 0,.int .i64 0,.int .i64 0,.int .i64 0]:Array R2)=ints 27 fun _=>0:=rfl
theorem Kq:(#[.bool false,.bool false,.bool false,.bool false,.bool false,.bool false,.bool false,.bool false,.bool false,.bool false,.bool false,.bool false,.bool false,.bool false,.bool false,.bool false,.bool false,.bool false,.bool false,.bool false,.bool false,.bool false,.bool false,.bool false,.bool false,.bool false]:Array R2)=iF 26 fun _=>false:=rfl
theorem mB{P:Wr}(t e:Wj)(n:Nat)(hu:P.underlying t=some (.array n e))(he:P.underlying e=some (.int .i64))(hs:(P.info? e).map (·.size)=some 1)(f:Nat→Int)(k:Nat)(hk:k<n)(w:V8):
  (Instr.index t (.agg (ints n f)) (.int .i64 (k:Int))).run P w=.ok (.int .i64 (f k)) w:=by
 cases hq:P.info? e with
 |none=>simp[hq]at hs
 |some i=>
  have h1:i.size=1:=by simpa[hq]using hs
  have h2:((k:Int)<(n:Int)):=vom;simp[Instr.index,asIntOf,Sem.run_bind,run_underlying hu,part,isAgg,run_underlying he,sizeOf,typeInfo,hq,h1,hk,aB f hk]
def af(w:V8)(b:Nat)(T:Wj)(c:Array R2):Prop:=w.heap[b]?=some (.cells c T (0,0))
theorem af.new(w:V8)(T:Wj)(c:Array R2):af (w.alloc (.cells c T)) w.heap.size T c:=heap_alloc_new w _
theorem af.lt{w:V8}{b:Nat}{T:Wj}{c:Array R2}(h:af w b T c):b<w.heap.size:=(Wd.1 h).1
theorem af.alloc{w:V8}{b:Nat}{T:Wj}{c:Array R2}(h:af w b T c)(o:Obj):af (w.alloc o) b T c:=(Below.heap_alloc w o b h.lt).trans h
theorem af.cell{w:V8}{b:Nat}{T:Wj}{c:Array R2}(h:af w b T c){i:Nat}{v:R2}(hi:c[i]?=some v):w.cell? ⟨b,i,none⟩=some v:=(Xf w b i c T (0,0) h).trans hi
theorem af.frozen{w:V8}{b:Nat}{T:Wj}{c:Array R2}(h:af w b T c)(i:Nat):w.frozen? ⟨b,i,none⟩=false:=frozen_of_row w b i c T h
theorem af.set{w:V8}{b:Nat}{T:Wj}{c:Array R2}(h:af w b T c)(i:Nat)(v:R2):af (w.setCell ⟨b,i,none⟩ v) b T (c.setIfInBounds i v):=heap_setCell_same w b i c T v h
theorem af.setOther{w:V8}{b:Nat}{T:Wj}{c:Array R2}(h:af w b T c)(a:Addr)(v:R2)(hb:b≠a.block):af (w.setCell a v) b T c:=(WT w a b v hb).trans h
theorem af.below{w w':V8}{b B:Nat}{T:Wj}{c:Array R2}(h:af w b T c)(hb:Wh B w w')(hB:b<B):af w' b T c:=(hb.block b hB).trans h
theorem af.drew{w:V8}{b:Nat}{T:Wj}{c:Array R2}(h:af w b T c):af w.drew b T c:=h
theorem af.row{w:V8}{b:Nat}{T:Wj}{c:Array R2}(h:af w b T c)(c':Array R2):af (w.setRow b c') b T c':=setRow_heap w b c c' T (0,0) h
theorem af.bG{w:V8}{b:Nat}{T:Wj}{c:Array R2}(h:af w b T c)(g:Nat)(c':Array R2)(hb:b≠g):af (w.setRow g c') b T c:=(setRow_other w g b c' hb).trans h
theorem af.range{w:V8}{b:Nat}{T:Wj}{c:Array R2}(h:af w b T c):w.rangeAt b 0 c.toList:=fun j v hv=>by
 have h1:(⟨b,0+j,none⟩:Addr)=⟨b,j,none⟩:=vsi;rw[h1];exact h.cell (by simpa using hv)
theorem Below.setRow{B:Nat}{a w:V8}(h:Wh B a w)(g:Nat)(hg:B≤g)(c:Array R2):Wh B a (w.setRow g c):=
 ⟨h.os,h.tape,h.output,by have:=h.size;simpa using this,fun k hk=>(setRow_other w g k c vom).trans (h.block k hk)⟩
theorem Below.rangeAt{B:Nat}{w w':V8}(h:Wh B w w'){b o:Nat}{cs:List R2}(hc:w.rangeAt b o cs)(hb:b<B):w'.rangeAt b o cs:=fun j v hv=>(h.cell (p:=⟨b,o+j,none⟩) hb).trans (hc j v hv)
def aq(w:V8)(v:R2)(n:Nat)(f:Nat→Int):Prop:=
 ∃(a:Option Addr) (cap:Nat),v=.slice a n cap∧n≤maxLen∧∀c,c<n→∃b o,a=some ⟨b,o,none⟩∧w.cell? ⟨b,o+c,none⟩=some (.int .i64 (f c))
def pE(w:V8)(v:R2)(n:Nat)(L:Nat→Nat)(Z:Nat→Nat→Int):Prop:=
 ∃(a:Option Addr) (cap:Nat) (R:Nat→R2),v=.slice a n cap∧n≤maxLen∧(∀r,r<n→∃b o,a=some ⟨b,o,none⟩∧w.cell? ⟨b,o+r,none⟩=some (R r))∧∀r,r<n→aq w (R r) (L r) (Z r)
theorem aA{w:V8}{a:Addr}{v:R2}(h:w.cell? a=some v):a.block<w.heap.size:=ZH _ _ h
theorem aq.below{w w':V8}{v:R2}{n:Nat}{f:Nat→Int}(h:aq w v n f)(hb:Wh w.heap.size w w'):aq w' v n f:=by
 obtain⟨a,cap,h1,h2,h3⟩:=h;refine⟨a,cap,h1,h2,fun c hc=>?_⟩;obtain⟨b,o,e,d⟩:=h3 c hc;exact⟨b,o,e,(hb.cell (p:=⟨b,o+c,none⟩) (aA d)).trans d⟩
theorem pE.below{w w':V8}{v:R2}{n:Nat}{L:Nat→Nat}{Z:Nat→Nat→Int}(h:pE w v n L Z)(hb:Wh w.heap.size w w'):pE w' v n L Z:=by
 obtain⟨a,cap,R,h1,h2,h3,h4⟩:=h;refine⟨a,cap,R,h1,h2,fun r hr=>?_,fun r hr=>(h4 r hr).below hb⟩;obtain⟨b,o,e,c⟩:=h3 r hr;exact⟨b,o,e,(hb.cell (p:=⟨b,o+r,none⟩) (aA c)).trans c⟩
theorem aq.congr{w:V8}{v:R2}{n:Nat}{f g:Nat→Int}(h:aq w v n f)(e:∀c,c<n→f c=g c):aq w v n g:=by
 obtain⟨a,cap,h1,h2,h3⟩:=h;refine⟨a,cap,h1,h2,fun c hc=>?_⟩;rw[←e c hc];exact h3 c hc
theorem aq.JC{w:V8}{g n cap:Nat}{T:Wj}{f:Nat→Int}(h:af w g T (ints n f))(hn:n≤maxLen):aq w (.slice (some ⟨g,0,none⟩) n cap) n f:=
 ⟨some ⟨g,0,none⟩,cap,rfl,hn,fun c hc=>⟨g,0,rfl,by have:=h.cell (aB f hc);simpa using this⟩⟩
def yV(g:Nat→Int):Nat→Int
 |0=>0
 |k+1=>if yV g k≠0 then yV g k else g k
def QF(x:Int):Int:=if x<0∨26≤x then 3 else 0
def Sg(l n:Nat)(f:Nat→Int):Int:=if l≠n then 8 else yV (fun c=>QF (f c)) l
def St(n:Nat)(L:Nat→Nat)(Z:Nat→Nat→Int):Int:=if n<1∨4<n then 5 else yV (fun r=>Sg (L r) n (Z r)) n
end PK
section
open Go.RowKit PK
def gY(E A:Int):PanicEntry:={ v:=.iface 26 (.agg #[.int .i64 E,.int .i64 A]),recovered:=false }
def iR(E A:Int):R2:=.agg #[.int .i64 E,.int .i64 A]
theorem dr(E A:Int)(w:V8):WA qf 14 #[.int .i64 E,.int .i64 A] w fun e w'=>e=.panicked [gY E A]∧w'=w:=by
 go_enter Tryz.func14,Tryz.ntmps14;go_wp2;exact⟨rfl,rfl,rfl⟩
theorem jd(A:Int)(w:V8):WA qf 19 #[.int .i64 0,.int .i64 A] w fun e w'=>e=.returned (.tuple #[])∧w'=w:=by
 go_enter Tryz.func19,Tryz.ntmps19;go_wp2
 go_end0
 exact⟨rfl,rfl⟩
theorem gG(E A:Int)(h:(E != 0)=true)(w:V8):WA qf 19 #[.int .i64 E,.int .i64 A] w fun e w'=>e=.panicked [gY E A]∧w'=w:=by
 have HT:Hid _:=dr E A w;go_enter Tryz.func19,Tryz.ntmps19
 go_wp2_with fail
 refine We HT.out ?_;rintro e w' ⟨rfl,rfl⟩;exact⟨rfl,rfl,rfl⟩
theorem Sa(fn:Fn)(first cap:Array R2)(w:V8):(Instr.makeFunc fn first cap).run qf w=.ok (.func fn first cap) w:=rfl
def iD(w:V8):V8:=w.alloc (.cells #[.int .i64 0,.int .i64 0] 26)
theorem BL(v:R2)(w:V8):(Instr.typeAssert (.iface 26 v) 20 26 false).run qf w=.ok v w:=vkr
theorem n7:(qf.info? 26).map (·.size)=some 2:=vkr
theorem cO{P:Wr}{fn:Func}{p q:Tmp}{ty:Wj}(h:fn.results=#[.tmp p,.cell q ty])(tmps:Array R2)(w:V8)(g:Nat)(t:Wj)(cs:Array R2)(fr:Nat×Nat)(d:TypeDesc)(v:R2)
  (hv:tmps.getD p undef=v) (hp:tmps.getD q undef=.pointer (some ⟨g,0,none⟩)) (hg:w.heap[g]?=some (.cells cs t fr)) (hu:P.underlying ty=some d) (hd:(match d with|.struct _|.array _ _=>true|_=>false)=true) (hi:(P.info? ty).map (·.size)=some cs.size) :
  (results fn tmps).run P w=.ok (.tuple #[v,.agg cs]) w:=by
 have a:tmps[q]?.getD undef=.pointer (some ⟨g,0,none⟩):=by simpa using hp
 have hv':tmps[p]?.getD undef=v:=by simpa using hv
 simp[results,h,a,hv',asAddr,run_loadVar_row w g t ty cs fr d hg hu hd hi]
theorem Ar(p:Addr)(w:V8):CallsD qf 40 #[.pointer (some p)] .returning w fun e u' w'=>e=.returned (.tuple #[])∧u'=.returning∧w'=w:=by
 refine callsD_of_wpS Tryz.func40 rfl fun c₀ cs hu=>?_;apply wpS_seq;apply wpS_region;simp[wpOpsS,go_sem,recoverD,hu,Tryz.ntmps40,Exit.thenS];refine wpS_of_wp ?_;simp only[Zx,Zw,ZZ,Zn,Yi,List.cons_append,YL,ZR,ZS];go_wp2;cases c₀
 simp_all [bodyPostS,results,Tryz.results40]
theorem DL (b : Nat) (E A : Int) (w : V8) (hb : af w b 26 #[.int .i64 0, .int .i64 0]) : CallsD qf 40 #[.pointer (some ⟨b, 0, none⟩)] (.panicking [gY E A]) w fun e u' w' =>
      e = .returned (.tuple #[])∧u'=.panicking [{ gY E A with recovered:=true }]∧w'=(w.setCell ⟨b,0,none⟩ (.int .i64 E)).setCell ⟨b,1,none⟩ (.int .i64 A):=by
  have c0:=hb.cell (i:=0) rfl;have c1:=hb.cell (i:=1) rfl;have f0:=hb.frozen 0;have f1:=hb.frozen 1;have a:=BL;unfold gY;refine callsD_of_wpS Tryz.func40 rfl fun c₀ cs hu=>?_;apply wpS_seq;apply wpS_region;simp[wpOpsS,go_sem,recoverD,hu,Tryz.ntmps40,Exit.thenS];refine wpS_of_wp ?_;simp only[Zx,Zw,ZZ,Zn,Yi,List.cons_append,YL,ZR,ZS];go_wp2;cases c₀
  simp_all [bodyPostS,results,Tryz.results40]
theorem KV(m:Nat)(caps:Array R2)(he:∀args w,(callFunc m args).run qf w=.ok (.enter m args) w)(w:V8)(B:Nat)(hB:B≤w.heap.size)(K:R2→V8→Prop)
  (H:WA qf m caps (iD w) fun e w'=>∃v,e=.returned v∧v.oneCell'=true∧K v w'∧af w' w.heap.size 26 #[.int .i64 0,.int .i64 0]∧Wh B (iD w) w') :
  WA qf 16 #[.func (.func m) #[] caps] w fun e w'=>∃v,e=.returned (.tuple #[v,iR 0 0])∧(∃w1,K v w1∧w'=(w1.setCell ⟨w.heap.size,0,none⟩ (.int .i64 0)).setCell ⟨w.heap.size,1,none⟩ (.int .i64 0))∧Wh B w w':=by
 have d:=Sa;have HH:Hid _:=H;have a:Hid (B≤w.heap.size):=hB;clear H
 go_enter_defers Tryz.func16,Tryz.ntmps16
 go_wp2_with fail
 refine We HH.out ?_;rintro e w1 ⟨v,rfl,h1,hk,hr,hb⟩;have c0:=hr.cell (i:=0) rfl;have c1:=hr.cell (i:=1) rfl;have f0:=hr.frozen 0;have f1:=hr.frozen 1;have HK:Hid (K v w1):=hk;have b:Hid (af ((w1.setCell ⟨w.heap.size,0,none⟩ (.int .i64 0)).setCell ⟨w.heap.size,1,none⟩ (.int .i64 0)) w.heap.size 26 #[.int .i64 0,.int .i64 0]):=(hr.set 0 _).set 1 _;have c:Hid (Wh B w w1):=((Wm _ w).alloc hB _).trans hb;clear hk hb hr;go_wp2;refine leaves_cons (f:=40) (args:=#[.pointer (some ⟨w.heap.size,0,none⟩)]) vsi (by simp[go_sem]) ?_;refine(Ar ⟨w.heap.size,0,none⟩ _).mono ?_;rintro e u' w'' ⟨rfl,rfl,rfl⟩;refine⟨_,cO rfl _ _ w.heap.size 26 #[.int .i64 0,.int .i64 0] (0,0) _ v rfl rfl b.out Yx rfl n7,v,rfl,⟨w1,HK.out,rfl⟩,?_⟩;exact(c.out.setCell (p:=⟨w.heap.size,0,none⟩) a.out _).setCell (p:=⟨w.heap.size,1,none⟩) a.out _
theorem H9(m:Nat)(caps:Array R2)(he:∀args w,(callFunc m args).run qf w=.ok (.enter m args) w)(w:V8)(B:Nat)(hB:B≤w.heap.size)(E A:Int)(K:V8→Prop)
  (H:WA qf m caps (iD w) fun e w'=>e=.panicked [gY E A]∧K w'∧af w' w.heap.size 26 #[.int .i64 0,.int .i64 0]∧Wh B (iD w) w') :
  WA qf 16 #[.func (.func m) #[] caps] w fun e w'=>e=.returned (.tuple #[.string ⟨#[]⟩,iR E A])∧(∃w1,K w1∧w'=(w1.setCell ⟨w.heap.size,0,none⟩ (.int .i64 E)).setCell ⟨w.heap.size,1,none⟩ (.int .i64 A))∧Wh B w w':=by
 have c:=Sa;have HH:Hid _:=H;have a:Hid (B≤w.heap.size):=hB;clear H
 go_enter_defers Tryz.func16,Tryz.ntmps16
 go_wp2_with fail
 refine We HH.out ?_;rintro e w1 ⟨rfl,hk,hr,hb⟩;have b:Wh B w w1:=((Wm _ w).alloc hB _).trans hb;refine leaves_cons (f:=40) (args:=#[.pointer (some ⟨w.heap.size,0,none⟩)]) vsi (by simp[go_sem]) ?_;refine(DL w.heap.size E A _ hr).mono ?_;rintro e u' w'' ⟨rfl,rfl,rfl⟩;refine⟨_,cO rfl _ _ w.heap.size 26 #[.int .i64 E,.int .i64 A] (0,0) _ (.string ⟨#[]⟩) rfl rfl ((hr.set 0 _).set 1 _) Yx rfl n7,rfl,⟨w1,hk,rfl⟩,?_⟩;exact(b.setCell (p:=⟨w.heap.size,0,none⟩) a.out _).setCell (p:=⟨w.heap.size,1,none⟩) a.out _
theorem Bf(p:Addr)(w:V8):CallsD qf 36 #[.pointer (some p)] .returning w fun e u' w'=>e=.returned (.tuple #[])∧u'=.returning∧w'=w:=by
 refine callsD_of_wpS Tryz.func36 rfl fun c₀ cs hu=>?_;apply wpS_seq;apply wpS_region;simp[wpOpsS,go_sem,recoverD,hu,Tryz.ntmps36,Exit.thenS];refine wpS_of_wp ?_;simp only[Zx,Zw,ZZ,Zn,Yi,List.cons_append,YL,ZR,ZS];go_wp2;cases c₀
 simp_all [bodyPostS,results,Tryz.results36]
theorem Dr (b : Nat) (E A : Int) (w : V8) (hb : af w b 26 #[.int .i64 0, .int .i64 0]) : CallsD qf 36 #[.pointer (some ⟨b, 0, none⟩)] (.panicking [gY E A]) w fun e u' w' =>
      e = .returned (.tuple #[])∧u'=.panicking [{ gY E A with recovered:=true }]∧w'=(w.setCell ⟨b,0,none⟩ (.int .i64 E)).setCell ⟨b,1,none⟩ (.int .i64 A):=by
  have c0:=hb.cell (i:=0) rfl;have c1:=hb.cell (i:=1) rfl;have f0:=hb.frozen 0;have f1:=hb.frozen 1;have a:=BL;unfold gY;refine callsD_of_wpS Tryz.func36 rfl fun c₀ cs hu=>?_;apply wpS_seq;apply wpS_region;simp[wpOpsS,go_sem,recoverD,hu,Tryz.ntmps36,Exit.thenS];refine wpS_of_wp ?_;simp only[Zx,Zw,ZZ,Zn,Yi,List.cons_append,YL,ZR,ZS];go_wp2;cases c₀
  simp_all [bodyPostS,results,Tryz.results36]
theorem MI(m:Nat)(caps:Array R2)(he:∀args w,(callFunc m args).run qf w=.ok (.enter m args) w)(w:V8)(B:Nat)(hB:B≤w.heap.size)(K:R2→V8→Prop)
  (H:WA qf m caps (iD w) fun e w'=>∃v,e=.returned v∧v.oneCell'=true∧K v w'∧af w' w.heap.size 26 #[.int .i64 0,.int .i64 0]∧Wh B (iD w) w') :
  WA qf 12 #[.func (.func m) #[] caps] w fun e w'=>∃v,e=.returned (.tuple #[v,iR 0 0])∧(∃w1,K v w1∧w'=(w1.setCell ⟨w.heap.size,0,none⟩ (.int .i64 0)).setCell ⟨w.heap.size,1,none⟩ (.int .i64 0))∧Wh B w w':=by
 have d:=Sa;have HH:Hid _:=H;have a:Hid (B≤w.heap.size):=hB;clear H
 go_enter_defers Tryz.func12,Tryz.ntmps12
 go_wp2_with fail
 refine We HH.out ?_;rintro e w1 ⟨v,rfl,h1,hk,hr,hb⟩;have c0:=hr.cell (i:=0) rfl;have c1:=hr.cell (i:=1) rfl;have f0:=hr.frozen 0;have f1:=hr.frozen 1;have HK:Hid (K v w1):=hk;have b:Hid (af ((w1.setCell ⟨w.heap.size,0,none⟩ (.int .i64 0)).setCell ⟨w.heap.size,1,none⟩ (.int .i64 0)) w.heap.size 26 #[.int .i64 0,.int .i64 0]):=(hr.set 0 _).set 1 _;have c:Hid (Wh B w w1):=((Wm _ w).alloc hB _).trans hb;clear hk hb hr;go_wp2;refine leaves_cons (f:=36) (args:=#[.pointer (some ⟨w.heap.size,0,none⟩)]) vsi (by simp[go_sem]) ?_;refine(Bf ⟨w.heap.size,0,none⟩ _).mono ?_;rintro e u' w'' ⟨rfl,rfl,rfl⟩;refine⟨_,cO rfl _ _ w.heap.size 26 #[.int .i64 0,.int .i64 0] (0,0) _ v rfl rfl b.out Yx rfl n7,v,rfl,⟨w1,HK.out,rfl⟩,?_⟩;exact(c.out.setCell (p:=⟨w.heap.size,0,none⟩) a.out _).setCell (p:=⟨w.heap.size,1,none⟩) a.out _
theorem II(m:Nat)(caps:Array R2)(he:∀args w,(callFunc m args).run qf w=.ok (.enter m args) w)(w:V8)(B:Nat)(hB:B≤w.heap.size)(E A:Int)(K:V8→Prop)
  (H:WA qf m caps (iD w) fun e w'=>e=.panicked [gY E A]∧K w'∧af w' w.heap.size 26 #[.int .i64 0,.int .i64 0]∧Wh B (iD w) w') :
  WA qf 12 #[.func (.func m) #[] caps] w fun e w'=>e=.returned (.tuple #[.slice none 0 0,iR E A])∧(∃w1,K w1∧w'=(w1.setCell ⟨w.heap.size,0,none⟩ (.int .i64 E)).setCell ⟨w.heap.size,1,none⟩ (.int .i64 A))∧Wh B w w':=by
 have c:=Sa;have HH:Hid _:=H;have a:Hid (B≤w.heap.size):=hB;clear H
 go_enter_defers Tryz.func12,Tryz.ntmps12
 go_wp2_with fail
 refine We HH.out ?_;rintro e w1 ⟨rfl,hk,hr,hb⟩;have b:Wh B w w1:=((Wm _ w).alloc hB _).trans hb;refine leaves_cons (f:=36) (args:=#[.pointer (some ⟨w.heap.size,0,none⟩)]) vsi (by simp[go_sem]) ?_;refine(Dr w.heap.size E A _ hr).mono ?_;rintro e u' w'' ⟨rfl,rfl,rfl⟩;refine⟨_,cO rfl _ _ w.heap.size 26 #[.int .i64 E,.int .i64 A] (0,0) _ (.slice none 0 0) rfl rfl ((hr.set 0 _).set 1 _) Yx rfl n7,rfl,⟨w1,hk,rfl⟩,?_⟩;exact(b.setCell (p:=⟨w.heap.size,0,none⟩) a.out _).setCell (p:=⟨w.heap.size,1,none⟩) a.out _
end
namespace Vg
def there(kind a b:Nat):Nat:=if kind=2 then(b+26-a) % 26 else if kind=3 then(a+26-b) % 26 else(a+b) % 26
def back(kind c b:Nat):Nat:=if kind=2 then(b+26-c) % 26 else if kind=3 then(c+b) % 26 else(c+26-b) % 26
def num(c:UInt8):Nat:=c.toNat-65
def oB(n:Nat):UInt8:=UInt8.ofNat (65+n)
theorem FW{n:Nat}(h:n<26):num (oB n)=n:=by unfold num oB;rw[UInt8.toNat_ofNat'];omega
theorem Og{c:UInt8}(h:65≤c.toNat∧c.toNat≤90):oB (num c)=c:=by
 unfold num oB;apply UInt8.toNat_inj.1;rw[UInt8.toNat_ofNat'];omega
theorem oJ{c:UInt8}(h:65≤c.toNat∧c.toNat≤90):num c<26:=by unfold num;omega
theorem mI{n:Nat}(h:n<26):(oB n).toNat=65+n:=by unfold oB;rw[UInt8.toNat_ofNat'];omega
theorem Qr{n:Nat}(h:n<26):65≤(oB n).toNat∧(oB n).toNat≤90:=by rw[mI h];omega
def Ls(l:List UInt8):Prop:=∀c∈l,65≤c.toNat∧c.toNat≤90
theorem Ls.at{l:List UInt8}(h:Ls l){i:Nat}(hi:i<l.length):65≤(l.getD i 0).toNat∧(l.getD i 0).toNat≤90:=by
 rw[Xu,Wu hi];exact h _ (List.getElem_mem hi)
theorem getD_some{l:List UInt8}{i:Nat}(hi:i<l.length):l.getD i 0=l[i]:=by rw[Xu,Wu hi];rfl
def VP(kind:Nat)(k p:List UInt8)(i:Nat):Nat:=if kind=4∧k.length≤i then num (p.getD (i-k.length) 0)else num (k.getD (i % k.length) 0)
def VM(kind:Nat)(k t:List UInt8)(m:Nat):List UInt8:=(WO m).map fun i=>oB (there kind (num (t.getD i 0)) (VP kind k t i))
def Sw(kind:Nat)(k t:List UInt8):List UInt8:=VM kind k t t.length
def nx{α:Type}[DecidableEq α](p:Nat→α)(q:α):Nat→Nat→Option Nat
 |_,0=>none
 |j,n+1=>if p j=q then some j else nx p q (j+1) n
theorem ED(b:ByteArray):∀(n i:Nat) (r:List UInt8),b.size-i=n→ByteArray.toList.loop b i r=r.reverse++b.data.toList.drop i
 |0,i,r,h=>by
  unfold ByteArray.toList.loop;have h1:b.data.size=b.size:=rfl;rw[V9 vom,List.drop_eq_nil_of_le vso];simp
 |n+1,i,r,h=>by
  unfold ByteArray.toList.loop;have h1:b.data.size=b.size:=rfl;have h2:i<b.data.toList.length:=vso;rw[Wc vom,ED b n (i+1) _ vom,List.drop_eq_getElem_cons h2]
  have h3:b.get! i=b.data.toList[i]:=by
   show b.data[i]! = _;rw[getElem!_pos b.data i (by simpa using h2)];simp
  simp[h3]
theorem mS(b:ByteArray):b.toList=b.data.toList:=by
 unfold ByteArray.toList;rw[ED b _ 0 [] rfl];simp
theorem PC{a b:ByteArray}(h:¬a=b):(a.toList==b.toList)=false:=by
 rw[mS,mS];exact XR fun e=>h (by cases a;cases b;simp at e;rw[e])
theorem P0{a b:ByteArray}(h:a=b):(a.toList==b.toList)=true:=by rw[h];simp
end Vg
namespace Zq
open Vg
def jI(c:UInt8):UInt8:=if c=74 then 73 else c
def alpha:List UInt8:=[65,66,67,68,69,70,71,72,73,75,76,77,78,79,80,81,82,83,84,85,86,87,88,89,90]
def addN(out:List UInt8)(c:UInt8):List UInt8:=if c∈out then out else out++[c]
def Tf(out l:List UInt8):List UInt8:=l.foldl addN out
def laid(key:List UInt8):List UInt8:=Tf [] ((key++alpha).map jI)
def at'(s:List UInt8)(c:UInt8):Nat:=s.idxOf c
def KQ(i j:Nat):Nat×Nat:=
 if i / 5=j / 5 then(5*(i / 5)+(i % 5+1) % 5,5*(j / 5)+(j % 5+1) % 5)
 else if i % 5=j % 5 then(5*((i / 5+1) % 5)+i % 5,5*((j / 5+1) % 5)+j % 5)
 else(5*(i / 5)+j % 5,5*(j / 5)+i % 5)
def enc(s:List UInt8)(a b:UInt8):UInt8×UInt8:=(s.getD (KQ (at' s a) (at' s b)).1 0,s.getD (KQ (at' s a) (at' s b)).2 0)
def Tp(f:UInt8→UInt8→UInt8×UInt8):List UInt8→List UInt8
 |a :: b :: r=>(f a b).1 :: (f a b).2 :: Tp f r
 |_=>[]
inductive Good:List UInt8→Prop
 |nil:Good []
 |two {a b:UInt8} {r:List UInt8} (ha:a∈alpha) (hb:b∈alpha) (hab:a≠b) (hr:Good r):Good (a :: b :: r)
def iB:List UInt8→List UInt8:=Tp fun a b=>(b,a)
def wrong(t:List UInt8)(i:Nat):Bool:=decide (t.getD i 0=74∨(i % 2=1∧t.getD i 0=t.getD (i-1) 0))
end Zq
namespace Zq
open Vg PK
def lay(l:List UInt8)(m:Nat):List UInt8:=Tf [] ((l.take m).map jI)
def pl(L:List UInt8)(k:Nat):Nat:=if oB k∈L then at' L (oB k)else 0
def fw(t:List UInt8):Option Nat:=(WO t.length).find? (wrong t)
end Zq
section
open Go.RowKit PK Vg Zq
theorem Jz{l:List UInt8}(h:Pl.Lets l):Ls l:=fun c hc=>by
 have:=h c hc;simp[Pl.yA]at this;omega
section
variable{P:Wr}{ops:Array Oper}{Q:Exit→Act→V8→Prop}{md:Region.Mode}{S:V8→Prop}
theorem Vq(i d:Nat)(v:R2){oi:Oper}{fuel:Nat}{listed:Array Bool}{tm:Array R2}{df:List Deferred}{w:V8}(hi:ops[i]?=some oi)(hd:oi.dst=some d)
  (hs:Region.noSelect ops=true) (hf:Region.free md ops listed i=true) (hr:(Region.ready md ops listed).contains i=true)
  (hQ:∀c a a' w,Q (.panic c) a' w→Q (.panic c) a w) (hw:Region.wanted oi (yielded ops tm)=true) (hrun:∀W,S W→(execOp (Act.eval ⟨tm,df⟩) oi).run P W=.ok (.value v) W) (hS:S w)
  (h:wpAnyH P md ops Q S fuel (listed.setIfInBounds i true) ⟨tm.setIfInBounds d v,df⟩ w):wpAnyH P md ops Q S (fuel+1) listed ⟨tm,df⟩ w:=by
 refine wpAnyH_take (i:=i) (oi:=oi) (v:=v) hi hs hf hr (fun c a w=>hQ c a _ w) (Or.inl ⟨hw,fun W hW=>hrun W hW⟩) hS ?_;rw[hd];exact h
end
theorem AO:(qf.info? 5).map (fun i=>(i.zero,i.size,i.bytes))=some (some (.int .u8 0),1,1):=vkr
theorem Ke{l:List UInt8}(h:Ls l)(hn:l.length≤65536):gx l=0∧nK l=0:=by
 unfold gx nK;rw[V9 vom,V9 vom];refine jF l (ZU.2 fun c hc=>?_);have:=h c hc;simp[Pl.bad,Pl.yA];omega
theorem ig{P:Wr}{e:Wj}{z:R2}{s b:Nat}(h:(P.info? e).map (fun i=>(i.zero,i.size,i.bytes))=some (some z,s,b)):∃i,P.info? e=some i∧i.zero=some z∧i.size=s∧i.bytes=b:=by
 obtain⟨i,hi,a⟩:=Xt.1 h;simp only[Prod.mk.injEq]at a;exact⟨i,hi,a.1,a.2.1,a.2.2⟩
theorem zx(acc:List UInt8)(b:UInt8):XL acc++[.int .u8 (b.toNat:Int)]=XL (acc++[b]):=by simp[XL]
theorem mW{s:ByteArray}{i:Nat}(hi:i<s.size):i<s.data.toList.length:=by have:=Pl.aN s;omega
end
end Go.Proofs.YtpcnpkhgjanamaaGreatDoor
