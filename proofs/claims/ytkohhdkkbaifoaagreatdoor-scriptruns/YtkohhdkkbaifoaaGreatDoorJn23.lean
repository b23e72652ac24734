/-
  Several texts, joined: LdT, ScM, ScMm, ScSt, ScMn, ScMw, ScSw, ScCh, HOwn, HRef1, PrD, PrE.
-/
import Derived.Test.YtkohhdkkbaifoaaGreatDoorJn20
import Derived.Test.YtkohhdkkbaifoaaGreatDoorJn22
import Derived.Test.YtkohhdkkbaifoaaGreatDoorJn17
import Derived.Test.YtkohhdkkbaifoaaGreatDoorJn21
import Derived.Test.YtkohhdkkbaifoaaGreatDoorJn13
import Derived.Maps.AppendAt
import Derived.WalkSpells
import Derived.WalkSmall
import Derived.Lib.OthersKept
import Derived.Lib.SmallJoins
import Derived.Test.YtkohhdkkbaifoaaGreatDoorJn14
import Derived.Deep.QuietTactic
import Derived.BigQuiet
/-
  The listed package variables of ScriptTurns and ScriptRuns: the names of wheels and reflectors besides.
-/
namespace Go.Proofs.YtkohhdkkbaifoaaGreatDoor
open Go.RowKit PK

theorem g_whe : Tryz.prog.globalNamed "blackroom/script.wheels" = some 2 := by kernel_rfl
theorem g_mir : Tryz.prog.globalNamed "blackroom/script.mirrors" = some 3 := by kernel_rfl
theorem gt_whe:(Tryz.prog.globals[2]?).map (·.type)=some 170:=by kernel_rfl
theorem gt_mir:(Tryz.prog.globals[3]?).map (·.type)=some 208:=by kernel_rfl
theorem laid_whe {r : List (String × DataW Unit)} {W : World} (h : laidMet Tryz.prog (("blackroom/script.wheels", Rows.laid_blackroom_script_wheels) :: r) W) : W.rangeAt 2 0 whA.toList := by
 have:=laid_range (bs:=[[73],[73,73],[73,73,73],[73,86],[86]]) h g_whe gt_whe Tryz.underlying170 rfl
 rw[show whA.toList=List.map (fun b:List UInt8=>Value.string ⟨b.toArray⟩) [[73],[73,73],[73,73,73],[73,86],[86]] by kernel_rfl]
 exact this
theorem laid_mir {r : List (String × DataW Unit)} {W : World} (h : laidMet Tryz.prog (("blackroom/script.mirrors", Rows.laid_blackroom_script_mirrors) :: r) W) : W.rangeAt 3 0 mrA.toList := by
 have:=laid_range (bs:=[[66],[67]]) h g_mir gt_mir Tryz.underlying208 rfl
 rw[show mrA.toList=List.map (fun b:List UInt8=>Value.string ⟨b.toArray⟩) [[66],[67]] by kernel_rfl]
 exact this
theorem laid_allR {W:World} (h:laidMetH Tryz.prog Rows.scriptRunsRow.laid W):NmAt W∧OldAt W:=by
 rw[MakeChecks.laidMetH_plain _ _ _ (by kernel_rfl)] at h
 have h3:=h.tail.tail.tail
 have h5:=h3.tail.tail
 exact ⟨⟨laid_kinds h3,laid_tabl h3.tail⟩,⟨laid_whe h5,laid_mir h5.tail⟩⟩
theorem laid_startR (os:Os) (args:Array Value):laidMetH Tryz.prog Rows.scriptRunsRow.laid ((World.laidAll Tryz.prog os Rows.scriptRunsRow.laid).forCall (fun _ _=>0) ⟨#[],args,[]⟩).memory:=by
 rw[MakeChecks.laidMetH_plain _ _ _ (by kernel_rfl)]
 exact laidMet_laidAll _ (by kernel_rfl) (by kernel_rfl)
end Go.Proofs.YtkohhdkkbaifoaaGreatDoor

/-
  A machine, as it is read.
-/
namespace Go.Proofs.YtkohhdkkbaifoaaGreatDoor
open Go.RowKit PK Vg

section
variable {w W W':World} {b q:Nat} {T:ByteArray} {p p':Nat} {a c d a' c' d':Value} {rf pl rf' pl':Nat→Int} {P Q:World→Prop}
end
end Go.Proofs.YtkohhdkkbaifoaaGreatDoor

/-
  A matrix, as it is read.
-/
namespace Go.Proofs.YtkohhdkkbaifoaaGreatDoor
open Go.RowKit PK Vg

section
variable {w W W':World} {b q n:Nat} {T:ByteArray} {p p' k:Nat} {G:Nat→Nat} {L:List Nat}
end
end Go.Proofs.YtkohhdkkbaifoaaGreatDoor

/-
  A step, as it is read: what is held.
-/
namespace Go.Proofs.YtkohhdkkbaifoaaGreatDoor
open Go.RowKit PK Vg

section
variable (k n:Int) (key:ByteArray) (mv a b c:Value) (rf pl:Nat→Int)
end
section
variable {w W W':World} {b q q6:Nat} {T:ByteArray} {p p':Nat} {z c c':Array Value} {P Q:World→Prop}
end
end Go.Proofs.YtkohhdkkbaifoaaGreatDoor

/-
  A matrix, as it is read: the walk.
-/
namespace Go.Proofs.YtkohhdkkbaifoaaGreatDoor
open Go.RowKit PK Vg

end Go.Proofs.YtkohhdkkbaifoaaGreatDoor

/-
  A machine, as it is read: the walk.
-/
namespace Go.Proofs.YtkohhdkkbaifoaaGreatDoor
open Go.RowKit PK Vg

end Go.Proofs.YtkohhdkkbaifoaaGreatDoor

/-
  A step, as it is read: the walk.
-/
namespace Go.Proofs.YtkohhdkkbaifoaaGreatDoor
open Go.RowKit PK Vg

end Go.Proofs.YtkohhdkkbaifoaaGreatDoor

/-
  A chain, as it is read: the walk.
-/
namespace Go.Proofs.YtkohhdkkbaifoaaGreatDoor
open Go.RowKit PK Vg

end Go.Proofs.YtkohhdkkbaifoaaGreatDoor

/-
  Slices that a call owns: of numbers, and of such slices.
-/
namespace Go.Proofs.YtkohhdkkbaifoaaGreatDoor
open Go.RowKit PK

def inums (l:List Int):List Value:=l.map fun i=>Value.int .i64 i
theorem inums_length (l:List Int):(inums l).length=l.length:=by simp[inums]
theorem inums_append (l m:List Int):inums (l++m)=inums l++inums m:=by simp[inums]
theorem inums_one (l:List Int):∀u ∈ inums l,u.oneCell'=true:=fun u hu=>by
 simp[inums] at hu
 obtain ⟨i,_,rfl⟩:=hu
 rfl
def OwnsI (w:World) (B:Nat) (v:Value) (l:List Int):Prop:=w.ownsRow B 3 1 v l.length (inums l)
def OwnsM (w:World) (B:Nat) (v:Value) (ls:List (List Int)):Prop :=
 ∃vs:List Value,w.ownsRow B 25 1 v ls.length vs∧∀(k:Nat) (u:Value) (l:List Int),vs[k]? = some u→ls[k]? = some l→OwnsI w B u l
def sliceLenH:Value→Nat
 | .slice _ n _=>n
 | _=>0
theorem sliceLen_ownH {w:World} {B:Nat} {e:TypeId} {v:Value} {n:Nat} {xs:List Value} (h:w.ownsRow B e 1 v n xs):sliceLenH v=n:=by
 rcases h.2 with ⟨rfl,h0⟩ | ⟨g,cap,cur,rfl,_⟩
 ·rw[h0];rfl
 ·rfl
theorem own_leH {w:World} {B B':Nat} {e:TypeId} {v:Value} {n:Nat} {xs:List Value} (h:w.ownsRow B e 1 v n xs) (hb:B'≤B):w.ownsRow B' e 1 v n xs :=
 ⟨h.1,h.2.imp id fun ⟨g,cap,cur,a,b,c⟩=>⟨g,cap,cur,a,Nat.le_trans hb b,c⟩⟩
theorem own_belowH {w w':World} {B:Nat} {e:TypeId} {v:Value} {n:Nat} {xs:List Value} (h:w.ownsRow B e 1 v n xs) (hb:Below w.heap.size w w'):w'.ownsRow B e 1 v n xs :=
 ⟨h.1,h.2.imp id fun ⟨g,cap,cur,a,b,c,d⟩=>⟨g,cap,cur,a,b,(hb.block g (Array.getElem?_eq_some_iff.1 c).1).trans c,d⟩⟩
theorem own_apartH {w:World} {B B':Nat} {e e':TypeId} {v v':Value} {n n':Nat} {xs xs':List Value} (h:w.ownsRow B e 1 v n xs) (h':w.ownsRow B' e' 1 v' n' xs') (he:e≠e'):v.ownBlock=none∨v.ownBlock≠v'.ownBlock:=by
 rcases h.2 with ⟨rfl,_⟩ | ⟨g,cap,cur,rfl,_,hc,_⟩
 ·exact .inl rfl
 ·rcases h'.2 with ⟨rfl,_⟩ | ⟨g',cap',cur',rfl,_,hc',_⟩
  ·exact .inr (by simp[Value.ownBlock])
  ·refine .inr fun e1=>?_
   simp[Value.ownBlock] at e1
   rw[e1,hc'] at hc
   simp at hc
   exact he hc.2.symm
theorem OwnsM.nil (w:World) (B:Nat):OwnsM w B (.slice none 0 0) []:=⟨[],World.ownsRow_nil w B _ 1,fun k u l h _=>by simp at h⟩
theorem OwnsI.nil (w:World) (B:Nat):OwnsI w B (.slice none 0 0) []:=World.ownsRow_nil w B _ 1
theorem OwnsM.below {w w':World} {B:Nat} {v:Value} {ls:List (List Int)} (h:OwnsM w B v ls) (hb:Below w.heap.size w w'):OwnsM w' B v ls:=by
 obtain ⟨vs,h1,h2⟩:=h
 exact ⟨vs,own_belowH h1 hb,fun k u l a b=>own_belowH (h2 k u l a b) hb⟩
theorem OwnsM.alloc {w:World} {B:Nat} {v:Value} {ls:List (List Int)} (h:OwnsM w B v ls) (o:Obj):OwnsM (w.alloc o) B v ls:=h.below ((Below.refl _ _).alloc (Nat.le_refl _) _)
theorem OwnsM.le {w:World} {B B':Nat} {v:Value} {ls:List (List Int)} (h:OwnsM w B v ls) (hb:B'≤B):OwnsM w B' v ls:=by
 obtain ⟨vs,h1,h2⟩:=h
 exact ⟨vs,own_leH h1 hb,fun k u l a b=>own_leH (h2 k u l a b) hb⟩
theorem OwnsM.app {w w':World} {B:Nat} {v v' u:Value} {ls:List (List Int)} {l:List Int} {vs:List Value} (h1:w.ownsRow B 25 1 v ls.length vs) (h2:∀(k:Nat) (u:Value) (l:List Int),vs[k]? = some u→ls[k]? = some l→OwnsI w B u l)
  (hu:OwnsI w B u l) (h':w'.ownsRow B 25 1 v' (ls.length+1) (vs++[u])) (hg:w.grownBy w' v.ownBlock):OwnsM w' B v' (ls++[l]):=by
 have hlen:vs.length=ls.length:=by have:=h1.1;omega
 refine ⟨vs++[u],by simpa using h',fun k a b ha hb=>?_⟩
 have keep:∀a b,OwnsI w B a b→OwnsI w' B a b:=fun a b h=>World.ownsRow.kept h hg (own_apartH h h1 (by decide))
 by_cases hk:k<ls.length
 ·rw[List.getElem?_append_left (by omega)] at ha
  rw[List.getElem?_append_left hk] at hb
  exact keep _ _ (h2 k a b ha hb)
 ·have hk':k=ls.length:=by
   have:=(List.getElem?_eq_some_iff.1 hb).1
   simp at this
   omega
  subst hk'
  rw[←hlen] at ha
  simp at ha hb
  subst ha hb
  exact keep _ _ hu
theorem OwnsI.nums {w:World} {B:Nat} {v:Value} {l:List Int} (h:OwnsI w B v l):NumsAt w v l.length (fun c=>l.getD c 0):=by
 have hx:=h
 rcases h.2 with ⟨rfl,h0⟩ | ⟨g,cap,cur,rfl,hbg,hg,hnc,hcm,hcs,htake⟩
 ·exact ⟨none,0,by rw[h0],by rw[h0];decide,fun c hc=>by omega⟩
 ·refine ⟨some ⟨g,0,none⟩,cap,rfl,by omega,fun c hc=>⟨g,0,rfl,?_⟩⟩
  have h1:(inums l)[c]? = some (.int .i64 (l.getD c 0)):=by simp[inums,List.getD,hc]
  have:=World.ownsRow.cells (g:=g) hx rfl c _ h1
  have e:((⟨g,0,none⟩:Addr).add c)=⟨g,0+c,none⟩:=by unfold Addr.add;by_cases e0:c=0 <;> simp[e0]
  rw[e] at this
  exact this
theorem OwnsM.mat {w:World} {B:Nat} {v:Value} {ls:List (List Int)} (h:OwnsM w B v ls):MatAt w v ls.length (fun r=>(ls.getD r []).length) (fun r c=>(ls.getD r []).getD c 0):=by
 obtain ⟨vs,h1,h2⟩:=h
 have hlen:vs.length=ls.length:=by have:=h1.1;omega
 have hx:=h1
 have key:∀r,r<ls.length→NumsAt w (vs.getD r (.bool false)) ((ls.getD r []).length) (fun c=>(ls.getD r []).getD c 0):=fun r hr=>by
  have e1:vs[r]? = some (vs.getD r (.bool false)):=by simp[List.getD,List.getElem?_eq_getElem (show r<vs.length by omega)]
  have e2:ls[r]? = some (ls.getD r []):=by simp[List.getD,List.getElem?_eq_getElem hr]
  exact (h2 r _ _ e1 e2).nums
 rcases h1.2 with ⟨rfl,h0⟩ | ⟨g,cap,cur,rfl,hbg,hg,hnc,hcm,hcs,htake⟩
 ·exact ⟨none,0,fun r=>vs.getD r (.bool false),by rw[h0],by rw[h0];decide,fun r hr=>by omega,key⟩
 ·refine ⟨some ⟨g,0,none⟩,cap,fun r=>vs.getD r (.bool false),rfl,by omega,fun r hr=>⟨g,0,rfl,?_⟩,key⟩
  have e1:vs[r]? = some (vs.getD r (.bool false)):=by simp[List.getD,List.getElem?_eq_getElem (show r<vs.length by omega)]
  have:=World.ownsRow.cells (g:=g) hx rfl r _ e1
  have e:((⟨g,0,none⟩:Addr).add r)=⟨g,0+r,none⟩:=by unfold Addr.add;by_cases e0:r=0 <;> simp[e0]
  rw[e] at this
  exact this
def tabL (n:Nat) (F:Nat→Nat→Int):List (List Int):=(List.range n).map fun y=>(List.range n).map (F y)
theorem OwnsM.square {w:World} {B:Nat} {v:Value} {n:Nat} {F:Nat→Nat→Int} (h:OwnsM w B v (tabL n F)):MatAt w v n (fun _=>n) F:=by
 have:=h.mat
 have e:(tabL n F).length=n:=by simp[tabL]
 have hr:∀r,r<n→(tabL n F).getD r []=(List.range n).map (F r):=fun r hr=>by simp[tabL,List.getD,hr]
 rw[e] at this
 refine this.congr (fun r hr0=>by rw[hr r hr0];simp) (fun r hr0 c hc=>?_)
 rw[hr r hr0] at hc ⊢
 have hc':c<n:=by simpa using hc
 simp[List.getD,hc']
theorem range_app (n:Nat) (f:Nat→Int):(List.range (n+1)).map f=(List.range n).map f++[f n]:=by rw[List.range_succ,List.map_append];rfl
end Go.Proofs.YtkohhdkkbaifoaaGreatDoor

/-
  Contracts of the document's Wrong, Mod and Times (chapter 3).
-/
namespace Go.Proofs.YtkohhdkkbaifoaaGreatDoor
open Go.RowKit PK

set_option maxHeartbeats 1000000 in
theorem rw3_any (v:Value) (n:Nat) (L:Nat→Nat) (Z:Nat→Nat→Int) (w:World) (hv:MatAt w v n L Z) :
  Calls Tryz.prog 32 #[v] w fun e w'=>e=.returned (.int .i64 (matErr n L Z))∧w=w':=by
 by_cases h:n<1∨4<n
 ·have HR:Hid (matErr n L Z=5):=by rw[Hid];unfold matErr;rw[if_pos h]
  obtain ⟨a,cap,rfl,_⟩:=hv.len
  clear hv
  rcases h with h | h
  ·have h0:n=0:=by omega
   subst h0
   go_enter Tryz.func32,Tryz.ntmps32
   go_wp2
   go_ret
   exact ⟨ret_int HR.out.symm,rfl⟩
  ·have h1:((n:Int)==0)=false:=by simp;omega
   have h2:(4:Int)<(n:Int):=by omega
   go_enter Tryz.func32,Tryz.ntmps32
   go_wp2
   go_ret
   exact ⟨ret_int HR.out.symm,rfl⟩
 ·have HR:Hid (matErr n L Z=firstE (fun r=>rowErr (L r) n (Z r)) n):=by rw[Hid];unfold matErr;rw[if_neg h]
  obtain ⟨b,o,cap,R,rfl,hm,hc,hr⟩:=hv.form (by omega)
  have HC:=(show Hid (∀r,r<n→w.cell? ⟨b,o+r,none⟩=some (R r)) from hc)
  have HN:=(show Hid (∀r,r<n→NumsAt w (R r) (L r) (Z r)) from hr)
  have h1:((n:Int)==0)=false:=by simp;omega
  have h2:¬(4:Int)<(n:Int):=by omega
  clear hc hr hv
  go_enter Tryz.func32,Tryz.ntmps32
  go_wp2
  go_loop [17] (fun i=>∃m:Nat,m≤n∧i=.int .i64 m∧Hid (firstE (fun r=>rowErr (L r) n (Z r)) m=0)) (fun i=>((n:Int)-intOf i).toNat)
  case atStart=>exact ⟨0,by omega,rfl,rfl⟩
  case round =>
   obtain ⟨m,hm,rfl,HS⟩:=hrel
   by_cases hlt:m<n
   ·have hc:=HC.out m hlt
    have HST:Hid (firstE (fun r=>rowErr (L r) n (Z r)) (m+1)=rowErr (L m) n (Z m)):=firstE_step _ m HS.out
    have hbad:∀E:Int,E≠0→rowErr (L m) n (Z m)=E→matErr n L Z=E:=fun E hE he=>by
     rw[HR.out,firstE_keep _ (m+1) (by rw[HST.out,he];exact hE) n (by omega),HST.out,he]
    have HBAD:Hid (∀E:Int,E≠0→rowErr (L m) n (Z m)=E→matErr n L Z=E):=hbad
    clear hbad
    by_cases hl:L m=n
    ·obtain ⟨b',o',cap',e',_,hnum⟩:=(HN.out m hlt).form (by omega)
     rw[e'] at hc
     have HNUM:=(show Hid (∀c,c<L m→w.cell? ⟨b',o'+c,none⟩=some (.int .i64 (Z m c))) from hnum)
     have HRE:Hid (rowErr (L m) n (Z m)=firstE (fun c=>numErr (Z m c)) n):=by rw[Hid];unfold rowErr;rw[if_neg (by simp[hl]),hl]
     rw[hl] at hc HNUM
     clear hnum e'
     go_wp2
     go_loop [28] (fun i=>∃k:Nat,k≤n∧i=.int .i64 k∧Hid (firstE (fun c=>numErr (Z m c)) k=0)) (fun i=>((n:Int)-intOf i).toNat)
     case atStart=>exact ⟨0,by omega,rfl,rfl⟩
     case round =>
      obtain ⟨k,hk,rfl,HK⟩:=hrel
      by_cases hkl:k<n
      ·have hcell:=HNUM.out k hkl
       have HKS:Hid (firstE (fun c=>numErr (Z m c)) (k+1)=numErr (Z m k)):=firstE_step _ k HK.out
       by_cases hx:Z m k<0∨26≤Z m k
       ·have HV:Hid (matErr n L Z=3):=by
         have h3:firstE (fun c=>numErr (Z m c)) (k+1)=3:=by rw[HKS.out];unfold numErr;rw[if_pos hx]
         exact HBAD.out 3 (by decide) (by rw[HRE.out,firstE_keep _ (k+1) (by rw[h3];decide) n (by omega),h3])
        rcases hx with hx | hx
        ·go_wp2
         go_ret
         exact ⟨ret_int HV.out.symm,rfl⟩
        ·have hx0:¬Z m k<0:=by omega
         have hx1:(25:Int)<Z m k:=by omega
         go_wp2
         go_ret
         exact ⟨ret_int HV.out.symm,rfl⟩
       ·have HNX:Hid (firstE (fun c=>numErr (Z m c)) (k+1)=0):=by rw[Hid,HKS.out];exact (numErr_zero _).2 (by omega)
        have h5:¬Z m k<0:=by omega
        have h6:¬(25:Int)<Z m k:=by omega
        clear hx
        go_wp2
        exact ⟨⟨k+1,by omega,by go_num,HNX⟩,by simp[intOf];omega⟩
      ·have HNX:Hid (firstE (fun r=>rowErr (L r) n (Z r)) (m+1)=0):=by
        rw[Hid,HST.out,HRE.out]
        obtain rfl:k=n:=by omega
        exact HK.out
       go_wp2
       exact ⟨⟨m+1,by omega,by go_num,HNX⟩,by simp[intOf];omega⟩
    ·have HV:Hid (matErr n L Z=8):=HBAD.out 8 (by decide) (by unfold rowErr;rw[if_pos hl])
     obtain ⟨a',cap',e',_⟩:=(HN.out m hlt).len
     rw[e'] at hc
     have hne:(((L m:Nat):Int) != (n:Int))=true:=by simp;omega
     generalize L m=lm at *
     clear e'
     go_wp2
     go_ret
     exact ⟨ret_int HV.out.symm,rfl⟩
   ·have HE:Hid (matErr n L Z=0):=by
     rw[Hid,HR.out]
     obtain rfl:m=n:=by omega
     exact HS.out
    go_wp2
    go_ret
    exact ⟨ret_int HE.out.symm,rfl⟩
theorem tmod_emod (x:Int):(if x.tmod 26<0 then x.tmod 26+26 else x.tmod 26)=x % 26:=by
 rw[Int.tmod_eq_emod]
 split <;> split <;> omega
theorem rmod_any (x:Int) (w:World):Calls Tryz.prog 141 #[.int .i64 x] w fun e w'=>e=.returned (.int .i64 (x % 26))∧w=w':=by
 have hE:=tmod_emod x
 have hlo:-26<x.tmod 26∧x.tmod 26<26:=by
  rw[Int.tmod_eq_emod]
  split <;> omega
 have HE:Hid (∀t,t=x.tmod 26→(if t<0 then t+26 else t)=x % 26):=fun t ht=>by rw[ht];exact hE
 clear hE
 obtain ⟨t,ht⟩:∃t,t=x.tmod 26:=⟨_,rfl⟩
 have HT:Hid (t=x.tmod 26):=ht
 rw[←ht] at hlo
 have ht2:x.tmod 26=t:=ht.symm
 clear ht
 by_cases hneg:t<0
 ·go_enter Tryz.func141,Tryz.ntmps141
  go_wp2
  go_ret
  exact ⟨ret_int (by have:=HE.out t HT.out;rw[if_pos hneg] at this;exact this),rfl⟩
 ·go_enter Tryz.func141,Tryz.ntmps141
  go_wp2
  go_ret
  exact ⟨ret_int (by have:=HE.out t HT.out;rw[if_neg (by omega)] at this;exact this),rfl⟩
end Go.Proofs.YtkohhdkkbaifoaaGreatDoor

/-
  For script.Print: the names of wheels.
-/
namespace Go.Proofs.YtkohhdkkbaifoaaGreatDoor
open Go.RowKit PK Vg

theorem whl_range {W:World} {b:Nat} {T:TypeId} {f:Nat→Int} {R:Value} (h:RowAt W b T (whl f R)):W.rangeAt b 0 (ints 26 f).toList:=fun j v hv=>by
 rw[Array.getElem?_toList] at hv
 have hj:j<26:=by
  have:=(Array.getElem?_eq_some_iff.1 hv).1
  rw[ints_size] at this
  exact this
 rw[ints_get _ hj] at hv
 cases hv
 rw[Nat.zero_add]
 exact RowAt.cell h (whl_get f R hj)
def whB (wi:Nat→Int) (nl:Nat) (no:Nat→Int) (i:Nat):Bool:=eqI 26 wi (knW (whN i).data.toList) && numsEq nl (knN (whN i).data.toList).length no (fun j=>(((knN (whN i).data.toList).getD j 0:Nat):Int))
def whF (wi:Nat→Int) (nl:Nat) (no:Nat→Int):Option Nat:=fstB (whB wi nl no) 5
set_option maxRecDepth 100000 in
set_option maxHeartbeats 4000000 in
theorem wheelName_any (wi:Nat→Int) (R:Value) (nl:Nat) (no:Nat→Int) (w:World) (hR:NumsAt w R nl no) (ho:OldAt w):Calls Tryz.prog 154 #[.agg (whl wi R)] w fun e w'=>(∀i,whF wi nl no=some i→e=.returned (.tuple #[.string (whN i),.int .i64 0]))∧(whF wi nl no=none→e=.returned (.tuple #[.string ⟨#[]⟩,.int .i64 7]))∧Below w.heap.size w w':=by
 obtain ⟨CS,hCS⟩:∃CS,CS=whl wi R:=⟨_,rfl⟩
 rw[←hCS]
 obtain ⟨W,hW⟩:∃W,W=w.alloc (.cells CS 97):=⟨_,rfl⟩
 have hb1:Below w.heap.size w W:=by rw[hW];exact (Below.refl _ w).alloc (Nat.le_refl _) _
 have hq1:RowAt W w.heap.size 97 CS:=by rw[hW];exact RowAt.new w _ _
 have hwh:=rangeAt_below ho.wh hb1
 have HF:Hid (whF wi nl no=fstB (whB wi nl no) 5):=rfl
 have HB:Hid (Below w.heap.size w W):=hb1
 have HQ:Hid (RowAt W w.heap.size 97 CS):=hq1
 have HCS:Hid (CS=whl wi R):=hCS
 have HR:Hid (NumsAt W R nl no):=hR.below hb1
 obtain ⟨ra,rc,rfl,-⟩:=id hR
 have hz27:=o_zero v_zero_whl
 have hws:whA.size=5:=tab_size _ _
 clear hCS hR
 go_enter Tryz.func154,Tryz.ntmps154
 go_upto_region 1 with fail
 rw[←hW]
 clear hW hb1 hq1 ho
 go_wp2_with (refine wpList_load_arr rfl 170 _ rfl 2 0 rfl whA _ hwh Tryz.underlying170 rfl (by rw[hws];kernel_rfl) ?_)
 have HIX:Hid (∀m X,m<5→(Instr.index 170 (.agg whA) (.int .i64 (m:Nat))).run Tryz.prog X=.ok (.string (whN m)) X):=fun m X hm=>run_index_strs 170 9 5 Tryz.underlying170 Tryz.underlying9 str_info whN m hm X
 generalize whA=KA at *
 go_loopw [9] (fun i X=>∃m:Nat,m≤5∧i=.int .i64 (m:Nat)∧Hid (∀j,j<m→whB wi nl no j=false)∧Hid (Below W.heap.size W X)) (fun i _=>((5:Int)-intOf i).toNat)
 case atStart=>exact ⟨0,by omega,rfl,fun j hj=>by omega,Below.refl _ _⟩
 case round =>
  obtain ⟨m,hm,rfl,HJ,HBX⟩:=hrel
  by_cases hlt:m<5
  ·have hix2:=HIX.out m wr hlt
   have HLT:Hid (m<5):=hlt
   have hlt2:(m:Int)<5:=by omega
   have HKN:Hid _:=known_new (whN m) wr
   have HQ2:Hid (RowAt wr w.heap.size 97 CS):=RowAt.below HQ.out HBX.out (RowAt.lt HQ.out)
   have HR2:Hid (NumsAt wr (.slice ra nl rc) nl no):=HR.out.below HBX.out
   have HNM:Hid (∀g,whB wi nl no m=g→(g=true→whF wi nl no=some m)∧(g=false→∀j,j<m+1→whB wi nl no j=false)):=fun g hg=>by
    refine ⟨fun e=>by rw[HF.out,fstB_of HJ.out (by rw[hg,e]) HLT.out],fun e j hj=>?_⟩
    by_cases ej:j=m
    ·rw[ej,hg,e]
    ·exact HJ.out j (by omega)
   have HWB:Hid (whB wi nl no m=(eqI 26 wi (knW (whN m).data.toList) && numsEq nl (knN (whN m).data.toList).length no (fun j=>(((knN (whN m).data.toList).getD j 0:Nat):Int)))):=rfl
   generalize knW (whN m).data.toList=KW at *
   generalize knN (whN m).data.toList=KN at *
   generalize knE (whN m).data.toList=KE at *
   clear hlt HJ
   go_wp2_with fail
   refine Calls.mono HKN.out ?_
   rintro e V ⟨Q,rfl,hq,-,hb⟩
   obtain ⟨qa,qc,rfl,-⟩:=id hq
   have hr1:=RowAt.below HQ2.out hb (RowAt.lt HQ2.out)
   have HSZ:Hid ((whl KW (.slice qa KN.length qc)).size=27):=whl_size _ _
   have HONE:Hid ((whl KW (.slice qa KN.length qc)).all (·.oneCell')=true):=whl_one rfl
   obtain ⟨OS,hOS⟩:∃OS,OS=whl KW (.slice qa KN.length qc):=⟨_,rfl⟩
   rw[←hOS] at HSZ HONE ⊢
   obtain ⟨X,hX⟩:∃X,X=(V.alloc (.cells (whl (fun _=>0) (.slice none 0 0)) 97)).setRow V.heap.size OS:=⟨_,rfl⟩
   have hX2:RowAt X V.heap.size 97 OS:=by rw[hX];exact (RowAt.new V _ _).row _
   have hXb:Below V.heap.size V X:=by rw[hX];exact PK.Below.setRow ((Below.refl _ V).alloc (Nat.le_refl _) _) V.heap.size (Nat.le_refl _) _
   have hX1:RowAt X w.heap.size 97 CS:=RowAt.below hr1 hXb (RowAt.lt hr1)
   have hbw:=HBX.out.trans (hb.mono HBX.out.size)
   have HBB:Hid (Below W.heap.size W X):=hbw.trans (hXb.mono hbw.size)
   have HN1:Hid (NumsAt X (.slice ra nl rc) nl no):=(HR2.out.below hb).below hXb
   have HN2:Hid (NumsAt X (.slice qa KN.length qc) KN.length (fun j=>((KN.getD j 0:Nat):Int))):=hq.below hXb
   have HEQ:Hid _:=equal_any _ _ nl KN.length no (fun j=>((KN.getD j 0:Nat):Int)) X HN1.out HN2.out
   have r1:X.rangeAt w.heap.size 0 (ints 26 wi).toList:=whl_range (by rw[←HCS.out];exact hX1)
   have r2:X.rangeAt V.heap.size 0 (ints 26 KW).toList:=whl_range (by rw[←hOS];exact hX2)
   have d1:X.cell? ⟨w.heap.size,26,none⟩=some (.slice ra nl rc):=RowAt.cell hX1 (by rw[HCS.out];exact whl_last _ _)
   have d2:X.cell? ⟨V.heap.size,26,none⟩=some (.slice qa KN.length qc):=RowAt.cell hX2 (by rw[hOS];exact whl_last _ _)
   have hql:=run_eql_perm wi KW X
   clear hr1 hXb hbw hb HQ2 HR2 HKN HBX hq hX1 hX2 hOS
   go_upto_region 5 with (first | refine wpList_store_row rfl 97 _ _ rfl V.heap.size OS rfl rfl 97 _ (RowAt.new V _ _) (by rw[HSZ.out];exact v_info_whl) (by rw[HSZ.out,whl_size]) HONE.out ?_)
   rw[←hX]
   clear hX
   by_cases hg:eqI 26 wi KW=true
   ·rw[hg] at hql
    rw[hg,Bool.true_and] at HWB
    clear hg
    go_wp2_with (first | refine wpList_load_arr rfl 27 _ rfl w.heap.size 0 rfl (ints 26 wi) _ r1 Tryz.underlying27 rfl (by rw[ints_size];exact info_perm) ?_ | refine wpList_load_arr rfl 27 _ rfl V.heap.size 0 rfl (ints 26 KW) _ r2 Tryz.underlying27 rfl (by rw[ints_size];exact info_perm) ?_)
    refine Calls.mono HEQ.out ?_
    rintro e V2 ⟨rfl,hb2⟩
    have HB3:Hid (Below W.heap.size W V2):=HBB.out.trans (hb2.mono HBB.out.size)
    rw[←HWB.out]
    clear HEQ hb2 r1 r2 d1 d2 hql HN1 HN2
    by_cases hg2:whB wi nl no m=true
    ·have HY:Hid (whF wi nl no=some m):=(HNM.out _ rfl).1 hg2
     rw[hg2]
     clear hg2 HNM HWB HF
     go_wp2
     go_ret2
     exact ⟨fun i hi=>(by rw[HY.out] at hi;cases hi;rfl),fun h=>(by rw[HY.out] at h;cases h),HB.out.trans (HB3.out.mono HB.out.size)⟩
    ·have hg3:whB wi nl no m=false:=by simpa using hg2
     have HN:Hid _:=(HNM.out _ rfl).2 hg3
     rw[hg3]
     clear hg2 hg3 HNM HWB
     go_wp2
     go_roundw
     case rel=>exact ⟨m+1,HLT.out,by go_num,HN,HB3⟩
     case measure=>have:=HLT.out;simp[intOf] <;> omega
   ·have hg2:eqI 26 wi KW=false:=by simpa using hg
    rw[hg2] at hql
    have HN:Hid _:=(HNM.out _ rfl).2 (by rw[HWB.out,hg2];rfl)
    clear hg hg2 HNM HWB HEQ
    go_wp2_with (first | refine wpList_load_arr rfl 27 _ rfl w.heap.size 0 rfl (ints 26 wi) _ r1 Tryz.underlying27 rfl (by rw[ints_size];exact info_perm) ?_ | refine wpList_load_arr rfl 27 _ rfl V.heap.size 0 rfl (ints 26 KW) _ r2 Tryz.underlying27 rfl (by rw[ints_size];exact info_perm) ?_)
    go_roundw
    case rel=>exact ⟨m+1,HLT.out,by go_num,HN,HBB⟩
    case measure=>have:=HLT.out;simp[intOf] <;> omega
  ·have HN:Hid (whF wi nl no=none):=by rw[Hid,HF.out,fstB_none (fun j hj=>HJ.out j (by omega))]
   have hln:¬(m:Int)<5:=by omega
   have HBB:Hid (Below w.heap.size w wr):=HB.out.trans (HBX.out.mono HB.out.size)
   clear HJ HF HIX hlt
   go_wp2
   go_ret2
   exact ⟨fun i hi=>(by rw[HN.out] at hi;cases hi),fun _=>rfl,HBB.out⟩
end Go.Proofs.YtkohhdkkbaifoaaGreatDoor

/-
  For script.Print: numbers of letters written as letters.
-/
namespace Go.Proofs.YtkohhdkkbaifoaaGreatDoor
open Go.RowKit PK Vg

def sptL (n:Nat) (f:Nat→Int):List UInt8:=(List.range n).map fun i=>ltr (f i).toNat
def sptB (f:Nat→Int) (m:Nat):Nat→UInt8:=fun i=>if i<m then ltr (f i).toNat else 0
theorem sptB_step (f:Nat→Int) (m:Nat):upd (sptB f m) m (ltr (f m).toNat)=sptB f (m+1):=by
 funext i
 unfold upd sptB
 by_cases h:i=m
 ·rw[if_pos h,if_pos (by omega),h]
 ·rw[if_neg h]
  by_cases h2:i<m
  ·rw[if_pos h2,if_pos (by omega)]
  ·rw[if_neg h2,if_neg (by omega)]
theorem sptL_length (n:Nat) (f:Nat→Int):(sptL n f).length=n:=by simp[sptL]
theorem sptB_all (n:Nat) (f:Nat→Int):bytsY n (sptB f n)=(Lib.byteCells (sptL n f)).toArray:=by
 unfold bytsY tab Lib.byteCells sptL
 congr 1
 rw[List.map_map]
 apply List.ext_getElem
 ·simp
 ·intro i h1 h2
  have h3:i<n:=by simpa using h1
  simp[sptB,h3]
set_option maxRecDepth 100000 in
set_option maxHeartbeats 1000000 in
theorem spelt_any (v:Value) (n:Nat) (f:Nat→Int) (hn:n≤65536) (hf:∀i,i<n→0≤f i∧f i<26) (w:World) (hv:NumsAt w v n f):Calls Tryz.prog 156 #[v] w fun e w'=>e=.returned (.string ⟨(sptL n f).toArray⟩)∧Below w.heap.size w w':=by
 have HV:Hid (NumsAt w v n f):=hv
 obtain ⟨a,cap,rfl,-⟩:=id hv
 have hmk:=run_make_row' (P:=Tryz.prog) 87 5 (.int .u8 0) 1 Tryz.underlying87 y_info_byte rfl .i64 .i64 n (by omega) (by omega)
 rw[y_made_tab,byts_newY] at hmk
 have HFF:Hid _:=hf
 clear hf hv
 go_enter Tryz.func156,Tryz.ntmps156
 go_wp2_with fail
 go_loopw [11] (fun i W=>∃m:Nat,m≤n∧i=.int .i64 m∧RowAt W w.heap.size 5 (bytsY n (sptB f m))∧Hid (Below w.heap.size w W)) (fun i _=>((n:Int)-intOf i).toNat)
 case atStart=>exact ⟨0,by omega,rfl,RowAt.new w _ _,(Below.refl _ _).alloc (Nat.le_refl _) _⟩
 case round =>
  obtain ⟨m,hm,rfl,ro,HB⟩:=hrel
  by_cases hlt:m<n
  ·have hfm:=HFF.out m hlt
   obtain ⟨vb,vo,rfl,hc⟩:∃vb vo,a=some ⟨vb,vo,none⟩∧wr.cell? ⟨vb,vo+m,none⟩=some (.int .i64 (f m)):=by
    obtain ⟨_,_,e,_,h⟩:=HV.out.below HB.out
    cases e
    obtain ⟨b,o,e,hc⟩:=h m hlt
    exact ⟨b,o,e,hc⟩
   have hcx:=ro.cell (byts_getY (sptB f m) hlt)
   have hfx:=ro.frozen m
   have ro2:RowAt (wr.setCell ⟨w.heap.size,m,none⟩ (.int .u8 (ltr (f m).toNat).toNat)) w.heap.size 5 (bytsY n (sptB f (m+1))):=by
    have:=ro.set m (.int .u8 (ltr (f m).toNat).toNat)
    rw[byts_setY,sptB_step] at this
    exact this
   have HBB:Hid (Below w.heap.size w (wr.setCell ⟨w.heap.size,m,none⟩ (.int .u8 (ltr (f m).toNat).toNat))):=HB.out.setCell (p:=⟨w.heap.size,m,none⟩) (by simp) _
   have HLT:Hid _:=let17_any (f m).toNat (by omega) wr
   rw[Int.toNat_of_nonneg hfm.1] at HLT
   generalize ltr (f m).toNat=C at *
   generalize f m=x at *
   have hmi:(m:Int)<(n:Int):=by omega
   clear ro HB
   go_wp2_with fail
   refine Calls.mono HLT.out ?_
   rintro e V ⟨rfl,rfl⟩
   go_wp2_with fail
   go_roundw
   case rel=>exact ⟨m+1,by omega,by go_num,ro2,HBB⟩
   case measure=>simp[intOf];omega
  ·obtain rfl:m=n:=by omega
   have ro2:RowAt wr w.heap.size 5 (Lib.byteCells (sptL m f)).toArray:=by
    rw[←sptB_all]
    exact ro
   have hst:=run_string_of_rowY (P:=Tryz.prog) wr 87 9 5 Tryz.underlying87 Tryz.underlying5 Tryz.underlying9 (cap:=m) (sptL_length m f) ro2
   clear ro
   go_wp2
   go_ret
   exact ⟨rfl,HB.out⟩
end Go.Proofs.YtkohhdkkbaifoaaGreatDoor
