import Derived.WalkSpells
import Derived.WalkSmall
import Derived.Lib.ConvBytes
import Derived.Deep.MidRow
import Derived.Deep.WholeRow
import Derived.Test.YtpdemelchhkfaaaChecked
namespace Go.Proofs.Ytpdemelchhkfaaa
namespace Pl
def tab : List (Int × List UInt8) :=
  [(196, [65, 69]), (228, [65, 69]), (198, [65, 69]), (230, [65, 69]),
   (214, [79, 69]), (246, [79, 69]), (216, [79, 69]), (248, [79, 69]), (338, [79, 69]), (339, [79, 69]),
   (220, [85, 69]), (252, [85, 69]), (223, [83, 83]), (197, [65, 65]), (229, [65, 65]),
   (201, [69]), (233, [69]), (200, [69]), (232, [69]), (202, [69]), (234, [69]),
   (192, [65]), (224, [65]), (194, [65]), (226, [65]), (260, [65]), (261, [65]),
   (199, [67]), (231, [67]), (262, [67]), (263, [67]), (321, [76]), (322, [76]),
   (323, [78]), (324, [78]), (209, [78]), (241, [78]), (346, [83]), (347, [83]),
   (377, [90]), (378, [90]), (379, [90]), (380, [90]), (46, [88]), (63, [88]), (33, [88])]
def isL (c:Int):Bool:=decide (65≤c∧c≤90)
def Lets (l:List UInt8):Prop:=∀c ∈ l,isL c.toNat=true
theorem bY (s:ByteArray):s.size=s.data.toList.length:=by cases s;rfl
def bad (c:UInt8):Bool:=!isL c.toNat
def rV (l:List UInt8):Int:=match l.findIdx? bad with | none=>0 | some _=>2
def mh (l:List UInt8):Int:=match l.findIdx? bad with | none=>0 | some i=>i
theorem AE (l:List UInt8) (h:Lets l):l.findIdx? bad=none:=by
 rw[List.findIdx?_eq_none_iff]
 intro c hc
 simp[bad,h c hc]
theorem ua (l:List UInt8) (h:∀j (hj:j<l.length),isL (l[j].toNat)=true):l.findIdx? bad=none:=by
 apply AE
 intro c hc
 obtain ⟨j,hj,rfl⟩:=List.getElem_of_mem hc
 exact h j hj
theorem xe (l:List UInt8) (k:Nat) (hk:k<l.length) (h:∀j (_:j<k) (hj:j<l.length),isL (l[j].toNat)=true) (hb:isL (l[k].toNat)=false):l.findIdx? bad=some k:=by
 rw[List.findIdx?_eq_some_iff_getElem]
 refine ⟨hk,by simp[bad,hb],?_⟩
 intro j hj
 simp[bad,h j hj (by omega)]
end Pl
section
open Go.RowKit
set_option maxHeartbeats 400000 in
theorem jJ (c:Int) (w:World) :
  Calls Try.prog 78 #[.int .u8 c] w fun e w'=>e=.returned (.bool (Pl.isL c))∧w=w':=by
 by_cases h1:65≤c
 ·by_cases h2:c≤90
  ·have e:Pl.isL c=true:=by simp[Pl.isL];omega
   go_enter Try.func78,Try.ntmps78
   go_wp2
   go_ret
   exact ⟨by rw[e];rfl,rfl⟩
  ·have e:Pl.isL c=false:=by simp[Pl.isL];omega
   go_enter Try.func78,Try.ntmps78
   go_wp2
   go_ret
   exact ⟨rfl,rfl⟩
 ·have e:Pl.isL c=false:=by simp[Pl.isL];omega
  go_enter Try.func78,Try.ntmps78
  go_wp2
  go_ret
  exact ⟨rfl,rfl⟩
end
namespace Kit
open Go.RowKit
theorem uP {w W:World} {a b:Value} {T:TypeId} (h:Below (w.heap.size+1) (w.alloc (.cells #[a,b] T)) W) :
  W.cell? ⟨w.heap.size,0,none⟩=some a∧W.cell? ⟨w.heap.size,1,none⟩=some b∧W.frozen? ⟨w.heap.size,0,none⟩=false∧W.frozen? ⟨w.heap.size,1,none⟩=false∧w.heap.size<W.heap.size:=by
 have hs:=h.size
 simp at hs
 refine ⟨?_,?_,?_,?_,by omega⟩
 ·rw[h.cell (p:=⟨w.heap.size,0,none⟩) (by simp)];simp
 ·rw[h.cell (p:=⟨w.heap.size,1,none⟩) (by simp)];simp
 ·rw[h.frozen (p:=⟨w.heap.size,0,none⟩) (by simp)];simp
 ·rw[h.frozen (p:=⟨w.heap.size,1,none⟩) (by simp)];simp
theorem qb {W:World} {N:Nat} {a' b':Value} (a b:Value) (h0:W.cell? ⟨N,0,none⟩=some a') (h1:W.cell? ⟨N,1,none⟩=some b') :
  ((W.setCell ⟨N,0,none⟩ a).setCell ⟨N,1,none⟩ b).cell? ⟨N,0,none⟩=some a∧((W.setCell ⟨N,0,none⟩ a).setCell ⟨N,1,none⟩ b).cell? ⟨N,1,none⟩=some b:=by
 have e0:=World.cell?_setCell_same W ⟨N,0,none⟩ a h0
 have e1:(W.setCell ⟨N,0,none⟩ a).cell? ⟨N,1,none⟩=some b':=(World.cell?_setCell_other W _ _ _ (by simp)).trans h1
 exact ⟨(World.cell?_setCell_other _ _ _ _ (by simp)).trans e0,World.cell?_setCell_same _ _ _ e1⟩
theorem nI {w W:World} {a b:Value} {T:TypeId} (h:Below (w.heap.size+1) (w.alloc (.cells #[a,b] T)) W) (x y:Value) :
  Below w.heap.size w ((W.setCell ⟨w.heap.size,0,none⟩ x).setCell ⟨w.heap.size,1,none⟩ y) :=
 ((((Below.refl _ w).alloc (Nat.le_refl _) _).trans (h.mono (by omega))).setCell (by simp) _).setCell (by simp) _
end Kit
section
open Go.RowKit
set_option maxHeartbeats 400000 in
theorem sW (s:ByteArray) (w:World) (h:65536<s.size) :
  Calls Try.prog 51 #[.string s] w fun e w'=>e=.returned (.agg #[.int .i64 4,.int .i64 0])∧Below w.heap.size w w':=by
 go_enter Try.func51,Try.ntmps51
 go_wp2
 exact bodyPost_ret (v:=.agg #[.int .i64 4,.int .i64 0]) (by simp[results,Try.results51,go_sem]) rfl ⟨rfl,(Below.refl _ _).alloc (Nat.le_refl _) _⟩
theorem ij (l:List UInt8) (k:Nat) (h:l.findIdx? Pl.bad=some k):Pl.rV l=2∧Pl.mh l=k:=by
 unfold Pl.rV Pl.mh
 rw[h]
 exact ⟨rfl,rfl⟩
theorem fK (l:List UInt8) (h:l.findIdx? Pl.bad=none):Pl.rV l=0∧Pl.mh l=0:=by
 unfold Pl.rV Pl.mh
 rw[h]
 exact ⟨rfl,rfl⟩
set_option maxHeartbeats 1000000 in
theorem wQ (s:ByteArray) (w:World) (h:s.size≤65536) :
  Calls Try.prog 51 #[.string s] w fun e w'=>e=.returned (.agg #[.int .i64 (Pl.rV s.data.toList),.int .i64 (Pl.mh s.data.toList)])∧Below w.heap.size w w':=by
 have hb:decide (65536<(s.size:Int))=false:=by simp;omega
 have HL:Hid (s.size=s.data.toList.length):=Pl.bY s
 go_enter Try.func51,Try.ntmps51
 go_wp2
 go_loop [10] (fun i=>∃k:Nat,k≤s.size∧i=.int .i64 k∧Hid (∀j (_:j<k) (hj:j<s.data.toList.length),Pl.isL (s.data.toList[j].toNat)=true)) (fun i=>s.size-(intOf i).toNat)
 case atStart=>exact ⟨0,Nat.zero_le _,rfl,fun j hj=>by omega⟩
 case round =>
  obtain ⟨k,hk,rfl,HA⟩:=hrel
  by_cases hlt:k<s.size
  ·cases hl:Pl.isL (s[k].toNat:Int)
   ·have HE:Hid (s.data.toList.findIdx? Pl.bad=some k):=Pl.xe _ k (by have:=HL.out;omega) HA.out hl
    go_wp2_with (go_at_call 78;refine (jJ _ _).mono ?_;rintro e w' ⟨rfl,rfl⟩)
    refine bodyPost_ret (v:=.agg #[.int .i64 2,.int .i64 k]) (by simp[results,Try.results51,go_sem]) rfl ⟨?_,(Below.refl _ _).alloc (Nat.le_refl _) _⟩
    rw[(ij _ _ HE.out).1,(ij _ _ HE.out).2]
   ·have HE:Hid (∀j (_:j<k+1) (hj:j<s.data.toList.length),Pl.isL (s.data.toList[j].toNat)=true):=by
     intro j hj hj'
     rcases Nat.lt_or_ge j k with h1 | h1
     ·exact HA.out j h1 hj'
     ·have:j=k:=by omega
      subst this
      exact hl
    go_wp2_with (go_at_call 78;refine (jJ _ _).mono ?_;rintro e w' ⟨rfl,rfl⟩)
    exact ⟨⟨k+1,by omega,by go_num,HE⟩,by simp[intOf];omega⟩
  ·have HE:Hid (s.data.toList.findIdx? Pl.bad=none):=Pl.ua _ fun j hj=>HA.out j (by have:=HL.out;omega) hj
   go_wp2
   refine bodyPost_ret (v:=.agg #[.int .i64 0,.int .i64 0]) (by simp[results,Try.results51,go_sem]) rfl ⟨?_,(Below.refl _ _).alloc (Nat.le_refl _) _⟩
   rw[(fK _ HE.out).1,(fK _ HE.out).2]
end
section
open Go.RowKit
theorem pI {B:Nat} (w:World) (hB:B≤w.heap.size) (e:TypeId) (s:ByteArray):Below B w (Lib.bytesWorld w e s):=by
 refine ⟨?_,?_,?_,by rw[Lib.bytesWorld_size];omega,fun k hk=>Lib.bytesWorld_at_old w e s k (by omega)⟩
 all_goals
  unfold Lib.bytesWorld World.freeze
  split <;> rfl
theorem rG (w:World) (e:TypeId) (s:ByteArray) (k:Nat) (hk:k<s.size):(Lib.bytesWorld w e s).cell? ⟨w.heap.size,k,none⟩=some (.int .u8 s[k].toNat):=by
 rw[Lib.bytesWorld_cell w e s k hk]
 have hk':k<s.data.toList.length:=by have:=Pl.bY s;omega
 simp only[List.getD,List.getElem?_eq_getElem hk']
 rfl
set_option maxHeartbeats 400000 in
theorem pV (s:ByteArray) (w:World) (h:65536<s.size) :
  Calls Try.prog 52 #[.string s] w fun e w'=>e=.returned (.agg #[.int .i64 4,.int .i64 0])∧Below w.heap.size w w':=by
 go_enter Try.func52,Try.ntmps52
 go_wp2
 exact bodyPost_ret (v:=.agg #[.int .i64 4,.int .i64 0]) (by simp[results,Try.results52,go_sem]) rfl ⟨rfl,(Below.refl _ _).alloc (Nat.le_refl _) _⟩
set_option maxHeartbeats 1000000 in
theorem vS (s:ByteArray) (w:World) (h:s.size≤65536) :
  Calls Try.prog 52 #[.string s] w fun e w'=>e=.returned (.agg #[.int .i64 (Pl.rV s.data.toList),.int .i64 (Pl.mh s.data.toList)])∧Below w.heap.size w w':=by
 have hb:decide (65536<(s.size:Int))=false:=by simp;omega
 have HL:Hid (s.size=s.data.toList.length):=Pl.bY s
 have hcv:=fun w=>Lib.run_convert_string_bytes (P:=Try.prog) w 9 127 5 s Try.underlying9 Try.underlying127 Try.underlying5
 go_enter Try.func52,Try.ntmps52
 go_wp2
 have hbel:Below (w.heap.size+1) (w.alloc (Obj.cells #[Value.int IntKind.i64 0,Value.int IntKind.i64 0] 95)) (Lib.bytesWorld (w.alloc (Obj.cells #[Value.int IntKind.i64 0,Value.int IntKind.i64 0] 95)) 5 s):=pI _ (by simp) 5 s
 have HC:Hid (∀k (hk:k<s.size),(Lib.bytesWorld (w.alloc (Obj.cells #[Value.int IntKind.i64 0,Value.int IntKind.i64 0] 95)) 5 s).cell? ⟨w.heap.size+1,k,none⟩=some (.int .u8 s[k].toNat)):=fun k hk=>by simpa using rG (w.alloc (Obj.cells #[Value.int IntKind.i64 0,Value.int IntKind.i64 0] 95)) 5 s k hk
 clear hcv
 generalize Lib.bytesWorld (w.alloc (Obj.cells #[Value.int IntKind.i64 0,Value.int IntKind.i64 0] 95)) 5 s=W0 at hbel HC
 have hcap:s.size≤grownCap (w.alloc (Obj.cells #[Value.int IntKind.i64 0,Value.int IntKind.i64 0] 95)) s.size 0 5:=grownCap_ge _ _ _ _
 generalize grownCap (w.alloc (Obj.cells #[Value.int IntKind.i64 0,Value.int IntKind.i64 0] 95)) s.size 0 5=cap at hcap
 obtain ⟨c0,c1,f0,f1,hsz⟩:=Kit.uP hbel
 go_loop [12] (fun i=>∃k:Nat,k≤s.size∧i=.int .i64 k∧Hid (∀j (_:j<k) (hj:j<s.data.toList.length),Pl.isL (s.data.toList[j].toNat)=true)) (fun i=>s.size-(intOf i).toNat)
 case atStart=>exact ⟨0,Nat.zero_le _,rfl,fun j hj=>by omega⟩
 case round =>
  obtain ⟨k,hk,rfl,HA⟩:=hrel
  by_cases hlt:k<s.size
  ·have hcell:=HC.out k hlt
   clear HC
   cases hl:Pl.isL (s[k].toNat:Int)
   ·have HE:Hid (s.data.toList.findIdx? Pl.bad=some k):=Pl.xe _ k (by have:=HL.out;omega) HA.out hl
    have hn:(s[k].toNat:Int)<65∨(65≤(s[k].toNat:Int)∧90<(s[k].toNat:Int)):=by
     have:=of_decide_eq_false (show decide _=false from hl)
     omega
    have q:=Kit.qb (.int .i64 2) (.int .i64 k) c0 c1
    have hbf:=Kit.nI hbel (.int .i64 2) (.int .i64 k)
    clear HA hl
    rcases hn with hn | ⟨hn,hn2⟩
    all_goals
     go_wp2
     refine bodyPost_ret (v:=.agg #[.int .i64 2,.int .i64 k]) (by simp[results,Try.results52,go_sem,q.1,q.2]) rfl ⟨?_,hbf⟩
     rw[(ij _ _ HE.out).1,(ij _ _ HE.out).2]
   ·have HE:Hid (∀j (_:j<k+1) (hj:j<s.data.toList.length),Pl.isL (s.data.toList[j].toNat)=true):=by
     intro j hj hj'
     rcases Nat.lt_or_ge j k with h1 | h1
     ·exact HA.out j h1 hj'
     ·have:j=k:=by omega
      subst this
      exact hl
    obtain ⟨hn,hn2⟩:=of_decide_eq_true (show decide _=true from hl)
    have hd1:decide ((s[k].toNat:Int)<65)=false:=by simp;omega
    have hd2:decide (90<(s[k].toNat:Int))=false:=by simp;omega
    clear HA hl
    go_wp2
    exact ⟨⟨k+1,by omega,by go_num,HE⟩,by simp[intOf];omega⟩
  ·have HE:Hid (s.data.toList.findIdx? Pl.bad=none):=Pl.ua _ fun j hj=>HA.out j (by have:=HL.out;omega) hj
   have q:=Kit.qb (.int .i64 0) (.int .i64 0) c0 c1
   have hbf:=Kit.nI hbel (.int .i64 0) (.int .i64 0)
   clear HA HC
   go_wp2
   refine bodyPost_ret (v:=.agg #[.int .i64 0,.int .i64 0]) (by simp[results,Try.results52,go_sem,q.1,q.2]) rfl ⟨?_,hbf⟩
   rw[(fK _ HE.out).1,(fK _ HE.out).2]
end
section
open Go.RowKit
def ckE (t:List UInt8):Int:=if 65536<t.length then 4 else Pl.rV t
def ni (t:List UInt8):Int:=if 65536<t.length then 0 else Pl.mh t
theorem uH (s:ByteArray) (w:World):Calls Try.prog 51 #[.string s] w fun e w'=>e=.returned (.agg #[.int .i64 (ckE s.data.toList),.int .i64 (ni s.data.toList)])∧Below w.heap.size w w':=by
 unfold ckE ni
 have hl:=Pl.bY s
 by_cases h:65536<s.size
 ·rw[if_pos (by omega),if_pos (by omega)];exact sW s w h
 ·rw[if_neg (by omega),if_neg (by omega)];exact wQ s w (by omega)
theorem rQ (s:ByteArray) (w:World):Calls Try.prog 52 #[.string s] w fun e w'=>e=.returned (.agg #[.int .i64 (ckE s.data.toList),.int .i64 (ni s.data.toList)])∧Below w.heap.size w w':=by
 unfold ckE ni
 have hl:=Pl.bY s
 by_cases h:65536<s.size
 ·rw[if_pos (by omega),if_pos (by omega)];exact pV s w h
 ·rw[if_neg (by omega),if_neg (by omega)];exact vS s w (by omega)
theorem xd (t:List UInt8):(ckE t=0∧ni t=0∧t.length≤65536∧Pl.Lets t)∨(ckE t != 0)=true:=by
 unfold ckE ni
 by_cases h:65536<t.length
 ·rw[if_pos h];exact .inr rfl
 ·rw[if_neg h,if_neg h]
  cases hf:t.findIdx? Pl.bad with
  | none =>
   refine .inl ⟨(fK t hf).1,(fK t hf).2,by omega,fun c hc=>?_⟩
   have:=List.findIdx?_eq_none_iff.1 hf c hc
   simpa [Pl.bad] using this
  | some k=>exact .inr (by rw[(ij t k hf).1];rfl)
theorem uY (s:ByteArray) (k:Nat) (hk:k<s.size):s.data.toList.getD k 0=s[k]:=by
 have hk':k<s.data.toList.length:=by have:=Pl.bY s;omega
 simp only[List.getD,List.getElem?_eq_getElem hk']
 rfl
end
namespace PK
open Go.RowKit
theorem fD {k:IntKind} {a b:Int} (h:a=b):Ending.returned (.int k a)=.returned (.int k b):=by rw[h]
def upd {α:Type} (f:Nat→α) (i:Nat) (v:α):Nat→α:=fun j=>if j=i then v else f j
@[simp] theorem upd_same {α:Type} (f:Nat→α) (i:Nat) (v:α):upd f i v i=v:=by simp[upd]
theorem nU {α:Type} (f:Nat→α) {i j:Nat} (v:α) (h:j≠i):upd f i v j=f j:=by simp[upd,h]
def tab (n:Nat) (g:Nat→Value):Array Value:=((List.range n).map g).toArray
theorem ie (n:Nat) (g:Nat→Value):(tab n g).size=n:=by simp[tab]
theorem jj {n:Nat} (g:Nat→Value) {i:Nat} (h:i<n):(tab n g)[i]? = some (g i):=by simp[tab,h]
theorem iD {n:Nat} {g g':Nat→Value} (h:∀i,i<n→g i=g' i):tab n g=tab n g':=by
 unfold tab
 congr 1
 exact List.map_congr_left fun i hi=>h i (by simpa using hi)
theorem oy (n:Nat) (g:Nat→Value) (i:Nat) (v:Value):(tab n g).setIfInBounds i v=tab n (upd g i v):=by
 apply Array.ext_getElem?
 intro j
 rw[Array.getElem?_setIfInBounds]
 by_cases hj:j<n
 ·rw[jj _ hj,jj _ hj,ie]
  by_cases e:i=j
  ·subst e;simp[hj]
  ·simp[e,upd,Ne.symm e]
 ·have h1:(tab n g)[j]? = none:=by simp[tab];omega
  have h2:(tab n (upd g i v))[j]? = none:=by simp[tab];omega
  rw[h1,h2,ie]
  by_cases e:i=j
  ·subst e;simp[hj]
  ·simp[e]
def ints (n:Nat) (f:Nat→Int):Array Value:=tab n fun i=>.int .i64 (f i)
def iq (n:Nat) (f:Nat→Bool):Array Value:=tab n fun i=>.bool (f i)
theorem af (n:Nat) (f:Nat→Int):(ints n f).size=n:=ie _ _
theorem aG {n:Nat} (f:Nat→Int) {i:Nat} (h:i<n):(ints n f)[i]? = some (.int .i64 (f i)):=jj _ h
theorem vD {n:Nat} (f:Nat→Bool) {i:Nat} (h:i<n):(iq n f)[i]? = some (.bool (f i)):=jj _ h
theorem eO {n:Nat} {f g:Nat→Int} (h:∀i,i<n→f i=g i):ints n f=ints n g:=iD fun i hi=>by rw[h i hi]
theorem uJ {n:Nat} {f g:Nat→Bool} (h:∀i,i<n→f i=g i):iq n f=iq n g:=iD fun i hi=>by rw[h i hi]
theorem ints_set (n:Nat) (f:Nat→Int) (i:Nat) (v:Int):(ints n f).setIfInBounds i (.int .i64 v)=ints n (upd f i v):=by
 unfold ints
 rw[oy]
 exact iD fun j _=>by by_cases e:j=i <;> simp[upd,e]
theorem uU (n:Nat) (f:Nat→Bool) (i:Nat) (v:Bool):(iq n f).setIfInBounds i (.bool v)=iq n (upd f i v):=by
 unfold iq
 rw[oy]
 exact iD fun j _=>by by_cases e:j=i <;> simp[upd,e]
theorem aH (n:Nat) (f:Nat→Int):(ints n f).all (·.oneCell')=true:=by
 rw[Array.all_eq_true_iff_forall_mem]
 intro v hv
 simp[ints,tab] at hv
 obtain ⟨i,_,rfl⟩:=hv
 rfl
theorem dh:(#[.int .i64 0,.int .i64 0,.int .i64 0,.int .i64 0,.int .i64 0,.int .i64 0,.int .i64 0,.int .i64 0,.int .i64 0,.int .i64 0,.int .i64 0,.int .i64 0,.int .i64 0,.int .i64 0,.int .i64 0,.int .i64 0,.int .i64 0,.int .i64 0,.int .i64 0,.int .i64 0,.int .i64 0,.int .i64 0,.int .i64 0,.int .i64 0,.int .i64 0,.int .i64 0]:Array Value)=ints 26 fun _=>0:=rfl
theorem AH:(#[.bool false,.bool false,.bool false,.bool false,.bool false,.bool false,.bool false,.bool false,.bool false,.bool false,.bool false,.bool false,.bool false,.bool false,.bool false,.bool false,.bool false,.bool false,.bool false,.bool false,.bool false,.bool false,.bool false,.bool false,.bool false,.bool false]:Array Value)=iq 26 fun _=>false:=rfl
theorem iu {P:Program} (t e:TypeId) (n:Nat) (hu:P.underlying t=some (.array n e)) (he:P.underlying e=some (.int .i64)) (hs:(P.info? e).map (·.size)=some 1) (f:Nat→Int) (k:Nat) (hk:k<n) (w:World) :
  (Instr.index t (.agg (ints n f)) (.int .i64 (k:Int))).run P w=.ok (.int .i64 (f k)) w:=by
 cases hq:P.info? e with
 | none=>simp[hq] at hs
 | some i =>
  have h1:i.size=1:=by simpa [hq] using hs
  have h2:((k:Int)<(n:Int)):=by omega
  simp[Instr.index,asIntOf,Sem.run_bind,run_underlying hu,part,isAgg,run_underlying he,sizeOf,typeInfo,hq,h1,hk,aG f hk]
def ai (w:World) (b:Nat) (T:TypeId) (c:Array Value):Prop:=w.heap[b]? = some (.cells c T (0,0))
theorem ai.new (w:World) (T:TypeId) (c:Array Value):ai (w.alloc (.cells c T)) w.heap.size T c:=heap_alloc_new w _
theorem ai.lt {w:World} {b:Nat} {T:TypeId} {c:Array Value} (h:ai w b T c):b<w.heap.size:=(Array.getElem?_eq_some_iff.1 h).1
theorem ai.alloc {w:World} {b:Nat} {T:TypeId} {c:Array Value} (h:ai w b T c) (o:Obj):ai (w.alloc o) b T c:=(Below.heap_alloc w o b h.lt).trans h
theorem ai.cell {w:World} {b:Nat} {T:TypeId} {c:Array Value} (h:ai w b T c) {i:Nat} {v:Value} (hi:c[i]? = some v):w.cell? ⟨b,i,none⟩=some v:=(cell_of_row w b i c T (0,0) h).trans hi
theorem ai.frozen {w:World} {b:Nat} {T:TypeId} {c:Array Value} (h:ai w b T c) (i:Nat):w.frozen? ⟨b,i,none⟩=false:=frozen_of_row w b i c T h
theorem ai.set {w:World} {b:Nat} {T:TypeId} {c:Array Value} (h:ai w b T c) (i:Nat) (v:Value):ai (w.setCell ⟨b,i,none⟩ v) b T (c.setIfInBounds i v):=heap_setCell_same w b i c T v h
theorem ai.setOther {w:World} {b:Nat} {T:TypeId} {c:Array Value} (h:ai w b T c) (a:Addr) (v:Value) (hb:b≠a.block):ai (w.setCell a v) b T c:=(heap_setCell_other w a b v hb).trans h
theorem ai.below {w w':World} {b B:Nat} {T:TypeId} {c:Array Value} (h:ai w b T c) (hb:Below B w w') (hB:b<B):ai w' b T c:=(hb.block b hB).trans h
theorem ai.drew {w:World} {b:Nat} {T:TypeId} {c:Array Value} (h:ai w b T c):ai w.drew b T c:=h
theorem ai.row {w:World} {b:Nat} {T:TypeId} {c:Array Value} (h:ai w b T c) (c':Array Value):ai (w.setRow b c') b T c':=setRow_heap w b c c' T (0,0) h
theorem ai.bI {w:World} {b:Nat} {T:TypeId} {c:Array Value} (h:ai w b T c) (g:Nat) (c':Array Value) (hb:b≠g):ai (w.setRow g c') b T c:=(setRow_other w g b c' hb).trans h
theorem ai.range {w:World} {b:Nat} {T:TypeId} {c:Array Value} (h:ai w b T c):w.rangeAt b 0 c.toList:=fun j v hv=>by
 have h1:(⟨b,0+j,none⟩:Addr)=⟨b,j,none⟩:=by simp
 rw[h1]
 exact h.cell (by simpa using hv)
theorem Below.setRow {B:Nat} {a w:World} (h:Below B a w) (g:Nat) (hg:B≤g) (c:Array Value):Below B a (w.setRow g c) :=
 ⟨h.os,h.tape,h.output,by have:=h.size;simpa using this,fun k hk=>(setRow_other w g k c (by omega)).trans (h.block k hk)⟩
theorem Below.rangeAt {B:Nat} {w w':World} (h:Below B w w') {b o:Nat} {cs:List Value} (hc:w.rangeAt b o cs) (hb:b<B):w'.rangeAt b o cs:=fun j v hv=>(h.cell (p:=⟨b,o+j,none⟩) hb).trans (hc j v hv)
end PK
end Go.Proofs.Ytpdemelchhkfaaa
