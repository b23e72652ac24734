/-
  Several texts, joined: YRef, YNums, YRRail.
-/
import Derived.Test.YtkohhdkkbaifoaaGreatDoorJn10
import Derived.Lib.OthersKept
import Derived.Lib.SmallJoins
import Derived.Test.YtkohhdkkbaifoaaGreatDoorJn9
import Derived.Deep.QuietTactic
import Derived.BigQuiet
import Derived.Maps.AppendAt
import Derived.Laws.AppendOwnNone
import Derived.Test.YtkohhdkkbaifoaaGreatDoorJn12
/-
  Contracts of the document's own Fit, Write and Read.
-/
namespace Go.Proofs.YtkohhdkkbaifoaaGreatDoor
open Go.RowKit PK

set_option maxHeartbeats 1000000 in
theorem rfit_any (v:Value) (n:Nat) (f:Nat→Int) (s:ByteArray) (w:World) (hv:NumsAt w v n f) :
  Calls Tryz.prog 139 #[v,.string s] w fun e w'=>e=.returned (.int .i64 (fitE n f s.data.toList))∧Below w.heap.size w w':=by
 have HW:Hid (Calls Tryz.prog 179 #[v] w fun e w'=>e=.returned (.int .i64 (ordE n f))∧Below w.heap.size w w'):=rwrong_anyY v n f w hv
 have HCK:=(show Hid (∀W,Calls Tryz.prog 42 #[.string s] W fun e w'=>e=.returned (.agg #[.int .i64 (ckE s.data.toList),.int .i64 (ckAt s.data.toList)])∧Below W.heap.size W w') from fun W=>rcheck_all s W)
 have HF:Hid (fitE n f s.data.toList=if ordE n f≠0 then ordE n f else if ckE s.data.toList≠0 then ckE s.data.toList else if n≠s.size then 8 else 0):=by rw[Hid,Pl.size_len s];rfl
 obtain ⟨a,cap,rfl,hm⟩:=hv.len
 generalize fitE n f s.data.toList=F at *
 generalize ordE n f=E1 at *
 generalize ckE s.data.toList=E2 at *
 generalize ckAt s.data.toList=A2 at *
 clear hv
 by_cases h1:E1=0
 ·subst h1
  by_cases h2:E2=0
  ·subst h2
   by_cases h3:n=s.size
   ·have HZ:Hid (F=0):=by rw[Hid,HF.out];simp[h3]
    subst h3
    go_enter Tryz.func139,Tryz.ntmps139
    go_wp2_with (first | (go_at_call 179;refine HW.out.mono ?_;rintro e W1 ⟨rfl,hb1⟩) | (go_at_call 42;refine (HCK.out _).mono ?_;rintro e W2 ⟨rfl,hb2⟩))
    go_ret
    exact ⟨ret_int HZ.out.symm,(hb1.trans (hb2.mono hb1.size)).alloc (by have:=hb1.size;have:=hb2.size;omega) _⟩
   ·have HZ:Hid (F=8):=by rw[Hid,HF.out];simp[h3]
    have h4:((n:Int)==(s.size:Int))=false:=by simp;omega
    go_enter Tryz.func139,Tryz.ntmps139
    go_wp2_with (first | (go_at_call 179;refine HW.out.mono ?_;rintro e W1 ⟨rfl,hb1⟩) | (go_at_call 42;refine (HCK.out _).mono ?_;rintro e W2 ⟨rfl,hb2⟩))
    go_ret
    exact ⟨ret_int HZ.out.symm,(hb1.trans (hb2.mono hb1.size)).alloc (by have:=hb1.size;have:=hb2.size;omega) _⟩
  ·have HZ:Hid (F=E2):=by rw[Hid,HF.out];simp[h2]
   have h4:(E2==0)=false:=by simp;omega
   clear h2
   go_enter Tryz.func139,Tryz.ntmps139
   go_wp2_with (first | (go_at_call 179;refine HW.out.mono ?_;rintro e W1 ⟨rfl,hb1⟩) | (go_at_call 42;refine (HCK.out _).mono ?_;rintro e W2 ⟨rfl,hb2⟩))
   go_ret
   exact ⟨ret_int HZ.out.symm,(hb1.trans (hb2.mono hb1.size)).alloc (by have:=hb1.size;have:=hb2.size;omega) _⟩
 ·have HZ:Hid (F=E1):=by rw[Hid,HF.out];simp[h1]
  have h4:(E1==0)=false:=by simp;omega
  clear h1
  go_enter Tryz.func139,Tryz.ntmps139
  go_wp2_with (first | (go_at_call 179;refine HW.out.mono ?_;rintro e W1 ⟨rfl,hb1⟩))
  go_ret
  exact ⟨ret_int HZ.out.symm,hb1⟩
theorem putL_step (m:Nat) (f:Nat→Int) (l:List UInt8):putL (m+1) f l=putL m f l++[l.getD (f m).toNat 0]:=by unfold putL;rw[List.range_succ,List.map_append];rfl
theorem info_parts {P:Program} {e:TypeId} {z:Value} {b:Nat} (h:(P.info? e).map (fun i=>(i.zero,i.size,i.bytes))=some (some z,1,b)):∃i,P.info? e=some i∧i.zero=some z∧i.size=1∧i.bytes=b:=by
 obtain ⟨i,hi,hzz⟩:=Option.map_eq_some_iff.1 h
 simp only[Prod.mk.injEq] at hzz
 exact ⟨i,hi,hzz.1,hzz.2.1,hzz.2.2⟩
theorem cells_byte (acc:List UInt8) (b:UInt8):Lib.byteCells acc++[.int .u8 (b.toNat:Int)]=Lib.byteCells (acc++[b]):=by simp[Lib.byteCells]
set_option maxRecDepth 100000 in
set_option maxHeartbeats 2000000 in
theorem rwrite_anyY2 (v:Value) (n:Nat) (f:Nat→Int) (s:ByteArray) (w:World) (hv:NumsAt w v n f) :
  Calls Tryz.prog 86 #[v,.string s] w fun e w'=>e=.returned (.tuple #[.string ⟨(if fitE n f s.data.toList=0 then putL n f s.data.toList else []).toArray⟩,.int .i64 (fitE n f s.data.toList)])∧Below w.heap.size w w':=by
 have HM:Hid (Calls Tryz.prog 139 #[v,.string s] w fun e w'=>e=.returned (.int .i64 (fitE n f s.data.toList))∧Below w.heap.size w w'):=rfit_any v n f s w hv
 rcases fitE_cases n f s.data.toList with ⟨h0,hg,_,hn,_,_⟩ | h0
 ·rw[if_pos h0,h0]
  rw[h0] at HM
  have hsz:n=s.size:=by rw[hn,Pl.size_len]
  have hle:=hg.le
  have HG:=(show Hid (∀i,i<n→0≤f i∧f i<n) from hg.lt)
  obtain ⟨i0,hi0,hz0,hz1,hz2⟩:=info_parts y_info_byte
  obtain ⟨a,cap,rfl,hm,hc⟩:=hv
  have HC:=(show Hid (∀c,c<n→∃b o,a=some ⟨b,o,none⟩∧w.cell? ⟨b,o+c,none⟩=some (.int .i64 (f c))) from hc)
  clear h0 hg hn hc
  subst hsz
  go_enter Tryz.func86,Tryz.ntmps86
  go_wp2_with (first | (go_at_call 139;refine HM.out.mono ?_;rintro e W1 ⟨rfl,hb1⟩))
  have hzw:=hb1.size
  go_loopw [18,7] (fun i v W=>∃m:Nat,m≤s.size∧i=.int .i64 m∧Kit.Owns W W1.heap.size 5 v (putL m f s.data.toList)∧Below W1.heap.size W1 W) (fun i _ _=>((s.size:Int)-intOf i).toNat)
  case atStart=>exact ⟨0,by omega,rfl,Kit.Owns.nil _ _ _,Below.refl _ _⟩
  case round =>
   obtain ⟨m,hm,rfl,hown,hb⟩:=hrel
   have hzb:=hb.size
   by_cases hlt:m<s.size
   ·obtain ⟨b,o,rfl,hc0⟩:=HC.out m hlt
    have hc:=((hb1.trans (hb.mono hzw)).cell (p:=⟨b,o+m,none⟩) (cell_block hc0)).trans hc0
    have hlm:=HG.out m hlt
    obtain ⟨x,hxe⟩:∃x:Nat,f m=x:=⟨(f m).toNat,by omega⟩
    have hxn:x<s.size:=by omega
    have hxn2:(x:Int)<(s.size:Int):=by omega
    have HST:Hid (putL (m+1) f s.data.toList=putL m f s.data.toList++[s[x]]):=by rw[Hid,putL_step,←getD_byte s x hxn,show x=(f m).toNat by omega]
    have hle2:(putL m f s.data.toList).length≤65536:=by rw[putL_length];omega
    rw[hxe] at hc
    generalize putL m f s.data.toList=acc at *
    have hcb:=cells_byte acc s[x]
    have HCB:Hid (Lib.byteCells acc++[.int .u8 (s[x].toNat:Int)]=Lib.byteCells (acc++[s[x]])):=hcb
    clear hc0 hlm hxe hcb
    go_wp2_with (first
     | (at_builtin;refine wpList_append_own _ rfl _ _ 87 rfl W1.heap.size 5 i0 (.int .u8 0) 1 1 Tryz.underlying87 hi0 hz0 hz1 hz2 rfl (by decide) _ _ _ rfl (World.ownsRow.alloc hown _) ⟨wr.heap.size,0,none⟩ 1 1 [.int .u8 (s[x].toNat:Int)] rfl rfl (cell_one_new _ _ _) (fun u hu=>by simp at hu;subst hu;rfl) (by unfold maxLen;omega) (by omega) (by simp;omega) ?_;intro v5 w5 hown5 hgrow5 _))
    go_roundw
    case rel =>
     refine ⟨m+1,by omega,by go_num,?_,?_⟩
     ·rw[HST.out]
      unfold Kit.Owns
      rw[←HCB.out,List.length_append]
      exact hown5
     ·exact (hb.alloc hzb _).grown hgrow5 (by simp;omega) (fun k hk=>(World.ownsRow.lt hown k hk).1)
    case measure=>simp[intOf];omega
   ·obtain rfl:m=s.size:=by omega
    have hstr:=Kit.run_string_of_own (P:=Tryz.prog) wr 87 9 5 Tryz.underlying87 Tryz.underlying5 Tryz.underlying9 hown
    clear hown
    go_wp2
    go_ret2
    exact ⟨rfl,hb1.trans (hb.mono hzw)⟩
 ·rw[if_neg (by simpa using h0)]
  generalize fitE n f s.data.toList=E at *
  have h4:(E==0)=false:=by simpa using h0
  clear h0 hv
  go_enter Tryz.func86,Tryz.ntmps86
  go_wp2_with (first | (go_at_call 139;refine HM.out.mono ?_;rintro e W1 ⟨rfl,hb1⟩))
  go_ret2
  exact ⟨rfl,hb1⟩
set_option maxRecDepth 100000 in
set_option maxHeartbeats 2000000 in
theorem rread_any (v:Value) (n:Nat) (f:Nat→Int) (s:ByteArray) (w:World) (hv:NumsAt w v n f) :
  Calls Tryz.prog 85 #[v,.string s] w fun e w'=>e=.returned (.tuple #[.string ⟨(if fitE n f s.data.toList=0 then putL n (backF f n) s.data.toList else []).toArray⟩,.int .i64 (fitE n f s.data.toList)])∧Below w.heap.size w w':=by
 have HM:Hid (Calls Tryz.prog 139 #[v,.string s] w fun e w'=>e=.returned (.int .i64 (fitE n f s.data.toList))∧Below w.heap.size w w'):=rfit_any v n f s w hv
 rcases fitE_cases n f s.data.toList with ⟨h0,hg,_,hn,_,_⟩ | h0
 ·rw[if_pos h0,h0]
  rw[h0] at HM
  have hsz:n=s.size:=by rw[hn,Pl.size_len]
  have hle:=hg.le
  have HG:=(show Hid (∀i,i<n→0≤f i∧f i<n) from hg.lt)
  have HG2:=(show Hid (∀i,i<n→0≤backF f n i∧backF f n i<n) from hg.back.1.lt)
  obtain ⟨i0,hi0,hz0,hz1,hz2⟩:=info_parts y_info_byte
  obtain ⟨a,cap,rfl,hm,hc⟩:=hv
  have HC:=(show Hid (∀c,c<n→∃b o,a=some ⟨b,o,none⟩∧w.cell? ⟨b,o+c,none⟩=some (.int .i64 (f c))) from hc)
  clear h0 hg hn hc
  subst hsz
  have hmk:=run_make_row' (P:=Tryz.prog) 25 3 (.int .i64 0) 8 Tryz.underlying25 y_info_int rfl .i64 .i64 s.size (by omega) (by omega)
  rw[y_made_tab,ints_new] at hmk
  go_enter Tryz.func85,Tryz.ntmps85
  go_wp2_with (first | (go_at_call 139;refine HM.out.mono ?_;rintro e W1 ⟨rfl,hb1⟩))
  have hzw:=hb1.size
  go_loopw [24] (fun i W=>∃m:Nat,m≤s.size∧i=.int .i64 m∧RowAt W W1.heap.size 3 (ints s.size (backF f m))∧Below w.heap.size w W∧W1.heap.size<W.heap.size) (fun i _=>((s.size:Int)-intOf i).toNat)
  case atStart=>exact ⟨0,by omega,rfl,RowAt.new W1 _ _,hb1.alloc hzw _,by simp⟩
  case round =>
   obtain ⟨m,hm,rfl,ro,hb,hbs⟩:=hrel
   by_cases hlt:m<s.size
   ·obtain ⟨b,o,rfl,hc0⟩:=HC.out m hlt
    have hc:=(hb.cell (p:=⟨b,o+m,none⟩) (cell_block hc0)).trans hc0
    have hlm:=HG.out m hlt
    obtain ⟨x,hxe⟩:∃x:Nat,f m=x:=⟨(f m).toNat,by omega⟩
    have hxn:x<s.size:=by omega
    have hxn2:(x:Int)<(s.size:Int):=by omega
    have hcx:=ro.cell (ints_get (backF f m) hxn)
    have hfx:=ro.frozen x
    have ro2:RowAt (wr.setCell ⟨W1.heap.size,x,none⟩ (.int .i64 m)) W1.heap.size 3 (ints s.size (backF f (m+1))):=by
     have:=ro.set x (.int .i64 m)
     rw[ints_set,show x=(f m).toNat by omega] at this
     rw[show x=(f m).toNat by omega]
     exact this
    have hbb:=hb.setCell (p:=⟨W1.heap.size,x,none⟩) hzw (.int .i64 m)
    rw[hxe] at hc
    clear hc0 hlm hxe ro hb
    go_wp2
    exact ⟨⟨m+1,by omega,by go_num,ro2,hbb,by simpa using hbs⟩,by simp[intOf];omega⟩
   ·obtain rfl:m=s.size:=by omega
    clear hm hmk
    obtain ⟨V,rfl⟩:∃V,V=wr:=⟨_,rfl⟩
    go_wp2
    go_loopw [36,10] (fun i v W=>∃m:Nat,m≤s.size∧i=.int .i64 m∧Kit.Owns W V.heap.size 5 v (putL m (backF f s.size) s.data.toList)∧Below V.heap.size V W) (fun i _ _=>((s.size:Int)-intOf i).toNat)
    case atStart=>exact ⟨0,by omega,rfl,Kit.Owns.nil _ _ _,Below.refl _ _⟩
    case round =>
     obtain ⟨m,hm,rfl,hown,hb2⟩:=hrel
     have hzb:=hb2.size
     by_cases hlt:m<s.size
     ·have hc:=(ro.below hb2 hbs).cell (ints_get (backF f s.size) hlt)
      have hlm:=HG2.out m hlt
      have HST:=(show Hid (putL (m+1) (backF f s.size) s.data.toList=putL m (backF f s.size) s.data.toList++[s.data.toList.getD (backF f s.size m).toNat 0]) from putL_step _ _ _)
      have hle2:(putL m (backF f s.size) s.data.toList).length≤65536:=by rw[putL_length];omega
      obtain ⟨x,hxe⟩:∃x:Nat,backF f s.size m=x:=⟨(backF f s.size m).toNat,by omega⟩
      rw[hxe] at hc hlm HST
      have hxn:x<s.size:=by omega
      have hxn2:(x:Int)<(s.size:Int):=by omega
      rw[Int.toNat_natCast,getD_byte s x hxn] at HST
      generalize putL m (backF f s.size) s.data.toList=acc at *
      have HCB:=(show Hid (Lib.byteCells acc++[.int .u8 (s[x].toNat:Int)]=Lib.byteCells (acc++[s[x]])) from cells_byte acc s[x])
      clear hlm hxe
      go_wp2_with (first
       | (at_builtin;refine wpList_append_own _ rfl _ _ 87 rfl V.heap.size 5 i0 (.int .u8 0) 1 1 Tryz.underlying87 hi0 hz0 hz1 hz2 rfl (by decide) _ _ _ rfl (World.ownsRow.alloc hown _) ⟨wr.heap.size,0,none⟩ 1 1 [.int .u8 (s[x].toNat:Int)] rfl rfl (cell_one_new _ _ _) (fun u hu=>by simp at hu;subst hu;rfl) (by unfold maxLen;omega) (by omega) (by simp;omega) ?_;intro v5 w5 hown5 hgrow5 _))
      go_roundw
      case rel =>
       refine ⟨m+1,by omega,by go_num,?_,?_⟩
       ·rw[HST.out]
        unfold Kit.Owns
        rw[←HCB.out,List.length_append]
        exact hown5
       ·exact (hb2.alloc hzb _).grown hgrow5 (by simp;omega) (fun k hk=>(World.ownsRow.lt hown k hk).1)
      case measure=>simp[intOf];omega
     ·obtain rfl:m=s.size:=by omega
      have hstr:=Kit.run_string_of_own (P:=Tryz.prog) wr 87 9 5 Tryz.underlying87 Tryz.underlying5 Tryz.underlying9 hown
      clear hown
      go_wp2
      go_ret2
      exact ⟨rfl,hb.trans (hb2.mono hb.size)⟩
 ·rw[if_neg (by simpa using h0)]
  generalize fitE n f s.data.toList=E at *
  have h4:(E==0)=false:=by simpa using h0
  clear h0 hv
  go_enter Tryz.func85,Tryz.ntmps85
  go_wp2_with (first | (go_at_call 139;refine HM.out.mono ?_;rintro e W1 ⟨rfl,hb1⟩))
  go_ret2
  exact ⟨rfl,hb1⟩
end Go.Proofs.YtkohhdkkbaifoaaGreatDoor

/-
  Slices of numbers that a call owns; contract of the document's Same.
-/
namespace Go.Proofs.YtkohhdkkbaifoaaGreatDoor
open Go.RowKit PK Sm

def nnums (l:List Nat):List Value:=l.map fun i=>Value.int .i64 (i:Nat)
theorem nnums_length (l:List Nat):(nnums l).length=l.length:=by simp[nnums]
theorem nnums_append (l m:List Nat):nnums (l++m)=nnums l++nnums m:=by simp[nnums]
theorem nnums_one (l:List Nat):∀u ∈ nnums l,u.oneCell'=true:=fun u hu=>by
 simp[nnums] at hu
 obtain ⟨i,_,rfl⟩:=hu
 rfl
def OwnsL (w:World) (B:Nat) (v:Value) (l:List Nat):Prop:=w.ownsRow B 3 1 v l.length (nnums l)
theorem OwnsL.nil (w:World) (B:Nat):OwnsL w B (.slice none 0 0) []:=World.ownsRow_nil w B _ 1
theorem OwnsL.below {w w':World} {B:Nat} {v:Value} {l:List Nat} (h:OwnsL w B v l) (hb:Below w.heap.size w w'):OwnsL w' B v l :=
 ⟨h.1,h.2.imp id fun ⟨g,cap,cur,a,b,c,d⟩=>⟨g,cap,cur,a,b,(hb.block g (Array.getElem?_eq_some_iff.1 c).1).trans c,d⟩⟩
theorem OwnsL.form {w:World} {B:Nat} {v:Value} {l:List Nat} (h:OwnsL w B v l):∃a c,v=.slice a l.length c:=by
 rcases h.2 with ⟨rfl,h0⟩ | ⟨g',cap,cur,rfl,_⟩
 ·exact ⟨none,0,by rw[h0]⟩
 ·exact ⟨_,_,rfl⟩
theorem OwnsL.nums {w:World} {B:Nat} {v:Value} {l:List Nat} (h:OwnsL w B v l):NumsAt w v l.length (fun c=>((l.getD c 0:Nat):Int)):=by
 have hx:=h
 rcases h.2 with ⟨rfl,h0⟩ | ⟨g,cap,cur,rfl,hbg,hg,hnc,hcm,hcs,htake⟩
 ·exact ⟨none,0,by rw[h0],by rw[h0];decide,fun c hc=>by omega⟩
 ·refine ⟨some ⟨g,0,none⟩,cap,rfl,by omega,fun c hc=>⟨g,0,rfl,?_⟩⟩
  have h1:(nnums l)[c]? = some (.int .i64 ((l.getD c 0:Nat):Int)):=by simp[nnums,List.getD,hc]
  have:=World.ownsRow.cells (g:=g) hx rfl c _ h1
  have e:((⟨g,0,none⟩:Addr).add c)=⟨g,0+c,none⟩:=by unfold Addr.add;by_cases e0:c=0 <;> simp[e0]
  rw[e] at this
  exact this
theorem y_info_parts {P:Program} {e:TypeId} {z:Value} {b:Nat} (h:(P.info? e).map (fun i=>(i.zero,i.size,i.bytes))=some (some z,1,b)):∃i,P.info? e=some i∧i.zero=some z∧i.size=1∧i.bytes=b:=by
 obtain ⟨i,hi,hzz⟩:=Option.map_eq_some_iff.1 h
 simp only[Prod.mk.injEq] at hzz
 exact ⟨i,hi,hzz.1,hzz.2.1,hzz.2.2⟩
end Go.Proofs.YtkohhdkkbaifoaaGreatDoor

/-
  Contract of the document's own Rail.
-/
namespace Go.Proofs.YtkohhdkkbaifoaaGreatDoor
open Go.RowKit PK Sm

theorem y_info_sl:(Tryz.prog.info? 25).map (fun i=>(i.zero,i.size,i.bytes))=some (some (.slice none 0 0),1,24):=by kernel_rfl
structure OnR (W:World) (B R i:Nat) (vals:Nat→Value):Prop where
 own:∀r,r<R→OwnsL W B (vals r) (grp (railK R) i r)
 apart:∀r r',r<R→r'<R→r≠r'→(vals r).ownBlock=none∨(vals r).ownBlock≠(vals r').ownBlock
theorem grp_len (k:Nat→Nat) (i r:Nat):(grp k i r).length≤i:=by
 unfold grp
 have:=List.length_filter_le (fun j=>k j==r) (List.range i)
 simpa using this
theorem own_form5 {w:World} {B:Nat} {e:TypeId} {v:Value} {n:Nat} {xs:List Value} (h:w.ownsRow B e 1 v n xs):∃a c,v=.slice a n c:=by
 rcases h.2 with ⟨rfl,h0⟩ | ⟨g',cap,cur,rfl,_⟩
 ·exact ⟨none,0,by rw[h0]⟩
 ·exact ⟨_,_,rfl⟩
theorem row_kept5 {W W':World} {b:Nat} {T:TypeId} {c:Array Value} {row:Option Nat} (h:RowAt W b T c) (hg:W.grownBy W' row) (hne:row≠some b):RowAt W' b T c:=(hg.block b h.lt (fun e=>hne e.symm)).trans h
theorem own_ne_sl {w:World} {B:Nat} {v:Value} {n:Nat} {xs:List Value} {b:Nat} {c:Array Value} (h:w.ownsRow B 3 1 v n xs) (hr:RowAt w b 25 c):v.ownBlock≠some b:=fun hg=>by
 rcases h.2 with ⟨rfl,_⟩ | ⟨g',cap,cur,rfl,hb,hg',_⟩
 ·cases hg
 ·simp[Value.ownBlock] at hg
  subst hg
  unfold RowAt at hr
  rw[hr] at hg'
  simp at hg'
theorem own_setO {w:World} {B:Nat} {v:Value} {l:List Nat} (h:OwnsL w B v l) (a:Addr) (x:Value) (hne:v.ownBlock≠some a.block):OwnsL (w.setCell a x) B v l:=by
 refine ⟨h.1,?_⟩
 rcases h.2 with hn | ⟨g,cap,cur,rfl,hb,hg,rest⟩
 ·exact .inl hn
 ·exact .inr ⟨g,cap,cur,rfl,hb,RowAt.setOther (T:=3) (c:=cur) hg a x (fun e=>hne (by rw[←e];rfl)),rest⟩
theorem OnR.step {W W5:World} {B R i A G:Nat} {vals:Nat→Value} {v':Value} (h:OnR W B R i vals) (hA:A<R) (hk:railK R i=A)
  (hown:W5.ownsRow B 3 1 v' ((grp (railK R) i A).length+1) (nnums (grp (railK R) i A)++[.int .i64 (i:Nat)]))
  (hg:W.grownBy W5 (vals A).ownBlock) (hat:v'.ownBlock=(vals A).ownBlock∨v'.ownBlock=some W.heap.size) (c:Array Value) (hG:RowAt W5 G 25 c) (k:Nat) :
  OnR (W5.setCell ⟨G,k,none⟩ v') B R (i+1) (upd vals A v'):=by
 have hlt:∀r,r<R→∀g,(vals r).ownBlock=some g→g<W.heap.size:=fun r hr g e=>(World.ownsRow.lt (h.own r hr) g e).2
 refine ⟨fun r hr=>?_,fun r r' hr hr' hne=>?_⟩
 ·by_cases e:r=A
  ·rw[e,upd_same,grp_succ,if_pos hk]
   have h1:OwnsL W5 B v' (grp (railK R) i A++[i]):=by
    unfold OwnsL
    rw[List.length_append,nnums_append]
    exact hown
   exact own_setO h1 _ _ (own_ne_sl hown hG)
  ·rw[upd_other _ _ e,grp_succ,if_neg (by rw[hk];exact fun e2=>e e2.symm)]
   have h1:OwnsL W5 B (vals r) (grp (railK R) i r):=World.ownsRow.kept (h.own r hr) hg (h.apart r A hr hA e)
   exact own_setO h1 _ _ (own_ne_sl h1 hG)
 ·by_cases e:r=A
  ·subst e
   rw[upd_same,upd_other _ _ (Ne.symm hne)]
   rcases hat with hat | hat
   ·rw[hat];exact h.apart r r' hr hr' hne
   ·right
    rw[hat]
    intro e2
    have:=hlt r' hr' W.heap.size e2.symm
    omega
  ·rw[upd_other _ _ e]
   by_cases e':r'=A
   ·rw[e',upd_same]
    rcases hat with hat | hat
    ·rw[hat];exact h.apart r A hr hA e
    ·right
     rw[hat]
     intro e2
     have:=hlt r hr W.heap.size e2
     omega
   ·rw[upd_other _ _ e'];exact h.apart r r' hr hr' hne
def flatR (R n m:Nat):List Nat:=(List.range m).flatMap (grp (railK R) n)
theorem flatR_step (R n m:Nat):flatR R n (m+1)=flatR R n m++grp (railK R) n m:=by simp[flatR,List.range_succ,List.flatMap_append]
theorem flatR_len (R n m:Nat) (hn:n≤65536) (hm:m≤64):(flatR R n m).length≤4194304:=by
 have:(flatR R n m).length≤m*n:=by
  clear hm
  induction m with
  | zero=>simp[flatR]
  | succ m ih =>
   rw[flatR_step,List.length_append,Nat.succ_mul]
   have:=grp_len (railK R) n m
   omega
 have h2:m*n≤64*65536:=Nat.mul_le_mul hm hn
 omega
theorem rrail_bad (n R:Int) (h:¬((0≤n∧n≤65536)∧1≤R∧R≤64)) (w:World) :
  Calls Tryz.prog 83 #[.int .i64 n,.int .i64 R] w fun e w'=>e=.returned (.tuple #[.slice none 0 0,.int .i64 3])∧Below w.heap.size w w':=by
 by_cases h1:n<0
 ·clear h
  go_enter Tryz.func83,Tryz.ntmps83
  go_wp2
  go_ret2
  exact ⟨rfl,Below.refl _ _⟩
 ·by_cases h2:65536<n
  ·clear h
   go_enter Tryz.func83,Tryz.ntmps83
   go_wp2
   go_ret2
   exact ⟨rfl,Below.refl _ _⟩
  ·by_cases h3:R<1
   ·clear h
    go_enter Tryz.func83,Tryz.ntmps83
    go_wp2
    go_ret2
    exact ⟨rfl,Below.refl _ _⟩
   ·have h4:64<R:=by omega
    clear h
    go_enter Tryz.func83,Tryz.ntmps83
    go_wp2
    go_ret2
    exact ⟨rfl,Below.refl _ _⟩
set_option maxRecDepth 100000 in
set_option maxHeartbeats 8000000 in
theorem rrail_ok (n R:Nat) (hn:n≤65536) (h1:1≤R) (h64:R≤64) (w:World) :
  Calls Tryz.prog 83 #[.int .i64 (n:Nat),.int .i64 (R:Nat)] w fun e w'=>∃(v:Value) (B:Nat),e=.returned (.tuple #[v,.int .i64 0])∧OwnsL w' B v (byKey (railK R) R n)∧Below w.heap.size w w':=by
 obtain ⟨i0,hi0,hz0,hz1,hz2⟩:=y_info_parts y_info_int
 have hmk:=run_make_row' (P:=Tryz.prog) 23 25 (.slice none 0 0) 24 Tryz.underlying23 y_info_sl rfl .i64 .i64 R (by omega) (by omega)
 rw[y_made_tab] at hmk
 go_enter Tryz.func83,Tryz.ntmps83
 go_wp2
 clear hmk
 go_loopw [7,8,9] (fun x y z W=>∃(i:Nat) (a b:Int) (vals:Nat→Value),i≤n∧z=.int .i64 i∧x=.int .i64 a∧y=.int .i64 b∧Hid (Zig R i a b)∧RowAt W w.heap.size 25 (tab R vals)∧Hid (OnR W w.heap.size R i vals)∧Below w.heap.size w W∧w.heap.size<W.heap.size) (fun _ _ z _=>((n:Int)-intOf z).toNat)
 case atStart=>exact ⟨0,0,1,fun _=>.slice none 0 0,by omega,rfl,rfl,rfl,zig_start R,RowAt.new w _ _,⟨fun r _=>OwnsL.nil _ _,fun _ _ _ _ _=>.inl rfl⟩,(Below.refl _ _).alloc (Nat.le_refl _) _,by simp⟩
 case round =>
  obtain ⟨i,a,b,vals,hi,rfl,rfl,rfl,HZ,ro,HON,hb,hws⟩:=hrel
  by_cases hlt:i<n
  ·obtain ⟨A,hA⟩:∃A,A=railK R i:=⟨_,rfl⟩
   have hAR:A<R:=by rw[hA];exact railK_lt h1 i
   have haA:a=(A:Nat):=by rw[hA];exact HZ.out.1
   subst haA
   have hbb:b=1∨b=-1:=HZ.out.2.1
   have HZ2:=(show Hid (Zig R (i+1) (if 1<R then ((A:Nat):Int)+(if ((A:Nat):Int)+b<0∨(R:Int)≤((A:Nat):Int)+b then -b else b) else ((A:Nat):Int)) (if ((A:Nat):Int)+b<0∨(R:Int)≤((A:Nat):Int)+b then -b else b)) from zig_step h1 HZ.out)
   have hAI:((A:Nat):Int)<((R:Nat):Int):=by omega
   have hcell:=ro.cell (tab_get vals hAR)
   have hfr:=ro.frozen A
   have hown:wr.ownsRow w.heap.size 3 1 (vals A) (grp (railK R) i A).length (nnums (grp (railK R) i A)):=HON.out.own A hAR
   have hgl:=grp_len (railK R) i A
   have HGL:Hid _:=hgl
   have HAK:Hid (railK R i=A):=hA.symm
   have HSTEP:=(show Hid (∀(W5:World) (v':Value) (c:Array Value) (k:Nat),W5.ownsRow w.heap.size 3 1 v' ((grp (railK R) i A).length+1) (nnums (grp (railK R) i A)++[.int .i64 (i:Nat)])→(wr.alloc (.cells #[.int .i64 (i:Nat)] 3)).grownBy W5 (vals A).ownBlock→(v'.ownBlock=(vals A).ownBlock∨v'.ownBlock=some (wr.alloc (.cells #[.int .i64 (i:Nat)] 3)).heap.size)→RowAt W5 w.heap.size 25 c→OnR (W5.setCell ⟨w.heap.size,k,none⟩ v') w.heap.size R (i+1) (upd vals A v')) from fun W5 v' c k q1 q2 q3 q4 =>
    OnR.step ⟨fun r hr=>World.ownsRow.alloc (HON.out.own r hr) _,HON.out.apart⟩ hAR hA.symm q1 q2 q3 c q4 k)
   have HNE:Hid ((vals A).ownBlock≠some w.heap.size):=own_ne_sl hown ro
   have HLB:=(show Hid (∀g,(vals A).ownBlock=some g→w.heap.size≤g) from fun g e=>(World.ownsRow.lt hown g e).1)
   generalize (grp (railK R) i A).length=gl at *
   generalize nnums (grp (railK R) i A)=gx at *
   generalize vals A=va at *
   clear hA HZ HON hgl
   by_cases hR:1<R
   ·have hRI:((1:Int)<((R:Nat):Int)):=by omega
    by_cases hc:((A:Nat):Int)+b<0
    ·skip
     rw[if_pos (show ((A:Nat):Int)+b<0∨(R:Int)≤((A:Nat):Int)+b from .inl hc)] at HZ2
     rw[if_pos hR] at HZ2
     go_wp2_with (first
      | (at_builtin;refine wpList_append_own_at _ rfl _ _ 25 rfl w.heap.size 3 i0 (.int .i64 0) 1 8 Tryz.underlying25 hi0 hz0 hz1 hz2 rfl (by decide) _ _ _ rfl (World.ownsRow.alloc hown _) ⟨wr.heap.size,0,none⟩ 1 1 [.int .i64 (i:Nat)] rfl rfl (cell_one_new _ _ _) (fun u hu=>by simp at hu;subst hu;rfl) (by have:=HGL.out;unfold maxLen;omega) (by have:=HGL.out;omega) (by simp;omega) ?_;intro v5 w5 hown5 hgrow5 _ hat5;obtain ⟨g5,c5,rfl⟩:=own_form5 hown5;have ro5:=row_kept5 (ro.alloc (.cells #[.int .i64 (i:Nat)] 3)) hgrow5 HNE.out;have hcell5:=ro5.cell (tab_get vals hAR);have hfr5:=ro5.frozen A))
     have ro6:RowAt (w5.setCell ⟨w.heap.size,A,none⟩ (.slice g5 (gl+1) c5)) w.heap.size 25 (tab R (upd vals A (.slice g5 (gl+1) c5))):=by
      have:=ro5.set A (.slice g5 (gl+1) c5)
      rw[tab_set] at this
      exact this
     have hb6:Below w.heap.size w (w5.setCell ⟨w.heap.size,A,none⟩ (.slice g5 (gl+1) c5)):=((hb.alloc (by omega) _).grown hgrow5 (by simp;omega) HLB.out).setCell (by simp) _
     have hz6:w.heap.size<(w5.setCell ⟨w.heap.size,A,none⟩ (.slice g5 (gl+1) c5)).heap.size:=by have:=hgrow5.size;simp at this;simp;omega
     go_roundw
     case rel=>exact ⟨i+1,_,_,_,by omega,by go_num,rfl,rfl,HZ2,ro6,HSTEP.out _ _ _ _ hown5 hgrow5 hat5 ro5,hb6,hz6⟩
     case measure=>simp[intOf] <;> omega
    ·by_cases hc2:(R:Int)≤((A:Nat):Int)+b
     ·skip
      rw[if_pos (show ((A:Nat):Int)+b<0∨(R:Int)≤((A:Nat):Int)+b from .inr hc2)] at HZ2
      rw[if_pos hR] at HZ2
      go_wp2_with (first
       | (at_builtin;refine wpList_append_own_at _ rfl _ _ 25 rfl w.heap.size 3 i0 (.int .i64 0) 1 8 Tryz.underlying25 hi0 hz0 hz1 hz2 rfl (by decide) _ _ _ rfl (World.ownsRow.alloc hown _) ⟨wr.heap.size,0,none⟩ 1 1 [.int .i64 (i:Nat)] rfl rfl (cell_one_new _ _ _) (fun u hu=>by simp at hu;subst hu;rfl) (by have:=HGL.out;unfold maxLen;omega) (by have:=HGL.out;omega) (by simp;omega) ?_;intro v5 w5 hown5 hgrow5 _ hat5;obtain ⟨g5,c5,rfl⟩:=own_form5 hown5;have ro5:=row_kept5 (ro.alloc (.cells #[.int .i64 (i:Nat)] 3)) hgrow5 HNE.out;have hcell5:=ro5.cell (tab_get vals hAR);have hfr5:=ro5.frozen A))
      have ro6:RowAt (w5.setCell ⟨w.heap.size,A,none⟩ (.slice g5 (gl+1) c5)) w.heap.size 25 (tab R (upd vals A (.slice g5 (gl+1) c5))):=by
       have:=ro5.set A (.slice g5 (gl+1) c5)
       rw[tab_set] at this
       exact this
      have hb6:Below w.heap.size w (w5.setCell ⟨w.heap.size,A,none⟩ (.slice g5 (gl+1) c5)):=((hb.alloc (by omega) _).grown hgrow5 (by simp;omega) HLB.out).setCell (by simp) _
      have hz6:w.heap.size<(w5.setCell ⟨w.heap.size,A,none⟩ (.slice g5 (gl+1) c5)).heap.size:=by have:=hgrow5.size;simp at this;simp;omega
      go_roundw
      case rel=>exact ⟨i+1,_,_,_,by omega,by go_num,rfl,rfl,HZ2,ro6,HSTEP.out _ _ _ _ hown5 hgrow5 hat5 ro5,hb6,hz6⟩
      case measure=>simp[intOf] <;> omega
     ·skip
      rw[if_neg (show ¬(((A:Nat):Int)+b<0∨(R:Int)≤((A:Nat):Int)+b) by omega)] at HZ2
      rw[if_pos hR] at HZ2
      go_wp2_with (first
       | (at_builtin;refine wpList_append_own_at _ rfl _ _ 25 rfl w.heap.size 3 i0 (.int .i64 0) 1 8 Tryz.underlying25 hi0 hz0 hz1 hz2 rfl (by decide) _ _ _ rfl (World.ownsRow.alloc hown _) ⟨wr.heap.size,0,none⟩ 1 1 [.int .i64 (i:Nat)] rfl rfl (cell_one_new _ _ _) (fun u hu=>by simp at hu;subst hu;rfl) (by have:=HGL.out;unfold maxLen;omega) (by have:=HGL.out;omega) (by simp;omega) ?_;intro v5 w5 hown5 hgrow5 _ hat5;obtain ⟨g5,c5,rfl⟩:=own_form5 hown5;have ro5:=row_kept5 (ro.alloc (.cells #[.int .i64 (i:Nat)] 3)) hgrow5 HNE.out;have hcell5:=ro5.cell (tab_get vals hAR);have hfr5:=ro5.frozen A))
      have ro6:RowAt (w5.setCell ⟨w.heap.size,A,none⟩ (.slice g5 (gl+1) c5)) w.heap.size 25 (tab R (upd vals A (.slice g5 (gl+1) c5))):=by
       have:=ro5.set A (.slice g5 (gl+1) c5)
       rw[tab_set] at this
       exact this
      have hb6:Below w.heap.size w (w5.setCell ⟨w.heap.size,A,none⟩ (.slice g5 (gl+1) c5)):=((hb.alloc (by omega) _).grown hgrow5 (by simp;omega) HLB.out).setCell (by simp) _
      have hz6:w.heap.size<(w5.setCell ⟨w.heap.size,A,none⟩ (.slice g5 (gl+1) c5)).heap.size:=by have:=hgrow5.size;simp at this;simp;omega
      go_roundw
      case rel=>exact ⟨i+1,_,_,_,by omega,by go_num,rfl,rfl,HZ2,ro6,HSTEP.out _ _ _ _ hown5 hgrow5 hat5 ro5,hb6,hz6⟩
      case measure=>simp[intOf] <;> omega
   ·have hRI:¬((1:Int)<((R:Nat):Int)):=by omega
    by_cases hc:((A:Nat):Int)+b<0
    ·skip
     rw[if_pos (show ((A:Nat):Int)+b<0∨(R:Int)≤((A:Nat):Int)+b from .inl hc)] at HZ2
     rw[if_neg hR] at HZ2
     go_wp2_with (first
      | (at_builtin;refine wpList_append_own_at _ rfl _ _ 25 rfl w.heap.size 3 i0 (.int .i64 0) 1 8 Tryz.underlying25 hi0 hz0 hz1 hz2 rfl (by decide) _ _ _ rfl (World.ownsRow.alloc hown _) ⟨wr.heap.size,0,none⟩ 1 1 [.int .i64 (i:Nat)] rfl rfl (cell_one_new _ _ _) (fun u hu=>by simp at hu;subst hu;rfl) (by have:=HGL.out;unfold maxLen;omega) (by have:=HGL.out;omega) (by simp;omega) ?_;intro v5 w5 hown5 hgrow5 _ hat5;obtain ⟨g5,c5,rfl⟩:=own_form5 hown5;have ro5:=row_kept5 (ro.alloc (.cells #[.int .i64 (i:Nat)] 3)) hgrow5 HNE.out;have hcell5:=ro5.cell (tab_get vals hAR);have hfr5:=ro5.frozen A))
     have ro6:RowAt (w5.setCell ⟨w.heap.size,A,none⟩ (.slice g5 (gl+1) c5)) w.heap.size 25 (tab R (upd vals A (.slice g5 (gl+1) c5))):=by
      have:=ro5.set A (.slice g5 (gl+1) c5)
      rw[tab_set] at this
      exact this
     have hb6:Below w.heap.size w (w5.setCell ⟨w.heap.size,A,none⟩ (.slice g5 (gl+1) c5)):=((hb.alloc (by omega) _).grown hgrow5 (by simp;omega) HLB.out).setCell (by simp) _
     have hz6:w.heap.size<(w5.setCell ⟨w.heap.size,A,none⟩ (.slice g5 (gl+1) c5)).heap.size:=by have:=hgrow5.size;simp at this;simp;omega
     go_roundw
     case rel=>exact ⟨i+1,_,_,_,by omega,by go_num,rfl,rfl,HZ2,ro6,HSTEP.out _ _ _ _ hown5 hgrow5 hat5 ro5,hb6,hz6⟩
     case measure=>simp[intOf] <;> omega
    ·by_cases hc2:(R:Int)≤((A:Nat):Int)+b
     ·skip
      rw[if_pos (show ((A:Nat):Int)+b<0∨(R:Int)≤((A:Nat):Int)+b from .inr hc2)] at HZ2
      rw[if_neg hR] at HZ2
      go_wp2_with (first
       | (at_builtin;refine wpList_append_own_at _ rfl _ _ 25 rfl w.heap.size 3 i0 (.int .i64 0) 1 8 Tryz.underlying25 hi0 hz0 hz1 hz2 rfl (by decide) _ _ _ rfl (World.ownsRow.alloc hown _) ⟨wr.heap.size,0,none⟩ 1 1 [.int .i64 (i:Nat)] rfl rfl (cell_one_new _ _ _) (fun u hu=>by simp at hu;subst hu;rfl) (by have:=HGL.out;unfold maxLen;omega) (by have:=HGL.out;omega) (by simp;omega) ?_;intro v5 w5 hown5 hgrow5 _ hat5;obtain ⟨g5,c5,rfl⟩:=own_form5 hown5;have ro5:=row_kept5 (ro.alloc (.cells #[.int .i64 (i:Nat)] 3)) hgrow5 HNE.out;have hcell5:=ro5.cell (tab_get vals hAR);have hfr5:=ro5.frozen A))
      have ro6:RowAt (w5.setCell ⟨w.heap.size,A,none⟩ (.slice g5 (gl+1) c5)) w.heap.size 25 (tab R (upd vals A (.slice g5 (gl+1) c5))):=by
       have:=ro5.set A (.slice g5 (gl+1) c5)
       rw[tab_set] at this
       exact this
      have hb6:Below w.heap.size w (w5.setCell ⟨w.heap.size,A,none⟩ (.slice g5 (gl+1) c5)):=((hb.alloc (by omega) _).grown hgrow5 (by simp;omega) HLB.out).setCell (by simp) _
      have hz6:w.heap.size<(w5.setCell ⟨w.heap.size,A,none⟩ (.slice g5 (gl+1) c5)).heap.size:=by have:=hgrow5.size;simp at this;simp;omega
      go_roundw
      case rel=>exact ⟨i+1,_,_,_,by omega,by go_num,rfl,rfl,HZ2,ro6,HSTEP.out _ _ _ _ hown5 hgrow5 hat5 ro5,hb6,hz6⟩
      case measure=>simp[intOf] <;> omega
     ·exfalso;omega
  ·obtain rfl:i=n:=by omega
   have hzb:=hb.size
   clear HZ
   obtain ⟨V,rfl⟩:∃V,V=wr:=⟨_,rfl⟩
   go_wp2
   go_loopw [64,10] (fun c o W=>∃m:Nat,m≤R∧c=.int .i64 m∧OwnsL W V.heap.size o (flatR R i m)∧Below V.heap.size V W) (fun c _ _=>((R:Int)-intOf c).toNat)
   case atStart=>exact ⟨0,by omega,rfl,OwnsL.nil _ _,Below.refl _ _⟩
   case round =>
    obtain ⟨m,hm,rfl,hown,hb2⟩:=hrel
    have hz2b:=hb2.size
    by_cases hlt2:m<R
    ·have hcell:=(ro.below hb2 hws).cell (tab_get vals hlt2)
     have hsrc:OwnsL wr w.heap.size (vals m) (grp (railK R) i m):=(HON.out.own m hlt2).below hb2
     have hl1:=flatR_len R i m hn (by omega)
     have hl2:=grp_len (railK R) i m
     have HST:=(show Hid (flatR R i (m+1)=flatR R i m++grp (railK R) i m) from flatR_step R i m)
     have hown':wr.ownsRow V.heap.size 3 1 u10 (flatR R i m).length (nnums (flatR R i m)):=hown
     generalize grp (railK R) i m=gm at *
     generalize flatR R i m=fm at *
     have hx:=hsrc
     rcases hsrc.2 with ⟨hv0,h0⟩ | ⟨g,cap,cur,hv0,hbg,hg,hnc,hcm,hcs,htake⟩
     ·rw[hv0] at hcell
      have hgm:gm=[]:=List.eq_nil_of_length_eq_zero h0
      have HF:Hid (flatR R i (m+1)=fm):=by rw[Hid,HST.out,hgm,List.append_nil]
      clear hx hsrc hown HST hgm h0
      go_wp2_with (at_builtin;refine wpList_append_own_none rfl _ _ 25 rfl V.heap.size 3 i0 1 Tryz.underlying25 hi0 _ _ _ rfl hown' rfl ?_)
      go_roundw
      case rel=>exact ⟨m+1,by omega,by go_num,by rw[HF.out];exact hown',hb2⟩
      case measure=>simp[intOf] <;> omega
     ·rw[hv0] at hcell hx
      have HNW:=(show Hid (∀j u,(nnums gm)[j]? = some u→wr.cell? ((⟨g,0,none⟩:Addr).add j)=some u) from World.ownsRow.cells (g:=g) hx rfl)
      clear hx hsrc hown htake hg
      go_wp2_with (first
       | (at_builtin;refine wpList_append_own _ rfl _ _ 25 rfl V.heap.size 3 i0 (.int .i64 0) 1 8 Tryz.underlying25 hi0 hz0 hz1 hz2 rfl (by decide) _ _ _ rfl hown' ⟨g,0,none⟩ gm.length cap (nnums gm) rfl (by rw[nnums_length,Nat.mul_one]) HNW.out (nnums_one gm) (by unfold maxLen;omega) (by omega) (by omega) ?_;intro v5 w5 hown5 hgrow5 _))
      go_roundw
      case rel =>
       refine ⟨m+1,by omega,by go_num,?_,hb2.grown hgrow5 (by omega) (fun k hk=>(World.ownsRow.lt hown' k hk).1)⟩
       rw[HST.out]
       unfold OwnsL
       rw[List.length_append,nnums_append]
       exact hown5
      case measure=>simp[intOf] <;> omega
    ·obtain rfl:m=R:=by omega
     have HF:=(show Hid (OwnsL wr V.heap.size u10 (byKey (railK m) m i)) from by rw[Hid,byKey_grp];exact hown)
     go_wp2
     go_ret2
     exact ⟨_,_,rfl,HF.out,hb.trans (hb2.mono hzb)⟩
end Go.Proofs.YtkohhdkkbaifoaaGreatDoor
