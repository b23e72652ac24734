import Derived.Conc.CrowdComm
import Derived.WalkKit
import Derived.Conc.CompanyCalls
import Derived.Test.YtpdemelchhkfaaaJn7
namespace Go.Proofs.Ytpdemelchhkfaaa
namespace Cs
open Go.Conc
open Go.ConcN (sumTo upd sumTo_upd upd_ne upd_same sumTo_congr)
structure Cst where
 n:Nat
 K:Nat
 S0:Nat
 N1:Nat
 H0:Nat→Option Obj
 C1:Nat
 C2:Nat
 Fd:Nat
 TF:TypeId
 z1:Value
 z2:Value
 zs1:Value
 zs2:Value
 fB:FuncId
 ar:Nat→Array Value
 os0:Os
 yX:Array (Nat × ByteArray)
 ex:Nat→Prop:=fun _=>False
def Cst.Fix (c:Cst) (q:Nat):Prop:=q<c.N1∧q≠c.Fd∧q≠c.C1∧q≠c.C2∧¬c.ex q
structure Cst.Ok (c:Cst) (w:World):Prop where
 fix:∀q,c.Fix q→w.heap[q]? = c.H0 q
 fd:∃cs,w.heap[c.Fd]? = some (.cells cs c.TF (0,0))∧cs.size=c.K
 big:c.N1≤w.heap.size
 env:w.os=c.os0∧w.output=c.yX
def Cst.R (c:Cst):World→World→Prop:=fun _ w=>c.Ok w
structure DQ (c:Cst) (w w':World) (es:Array Event):Prop where
 heap:w'.heap=w.heap
 os:w'.os=w.os
 tape:w'.tape=w.tape
 output:w'.output=w.output
 evs:∀e ∈ es,∃a:Addr,e=⟨.cell a,false,false⟩∧c.Fix a.block
def Walk (P:Program) (c:Cst) (main:Bool) (Stp:Goroutine→Prop) (m:Nat) (g:Goroutine) (w:World):Prop:=Goes P main c.R (DQ c) (fun g _=>g.status=.running∧Stp g) m g w
def isG (g:Goroutine):Prop:=∃fr cs,g=G fr cs
variable [Fns]
structure Scr (P:Program) (c:Cst) (Post:Nat→Value→World→Prop) where
 Rec:Goroutine→Prop
 Snd:Goroutine→Prop
 Cal:Nat→Goroutine→Prop
 Sto:Nat→Value→Goroutine→Prop
 GoP:Nat→Goroutine→Prop
 vF:Nat→Goroutine→Prop
 ClP:Goroutine→Prop
 vE:Nat→Goroutine→Prop
 JnP:Goroutine→Prop
 OkV:Value→Prop
 n1:1≤c.n
 k1:1≤c.K
 s1:1≤c.S0
 d1:c.C1<c.N1∧c.C2<c.N1∧c.Fd<c.N1∧c.C1≠c.C2∧c.C1≠c.Fd∧c.C2≠c.Fd
 Ei:∀g,Rec g→isG g∧∀w,stepG P false g w=.comm g #[rcase c.C1 c.z1] true (.recv true) w #[]
 DK:∀g,Rec g→∀k,k<c.K→∀w,c.Ok w→∃m,Walk P c false (Cal k) m (Conc.served g (.tuple #[.int .i64 (k:Nat),.bool true])) w
 DJ:∀g,Rec g→∀w,c.Ok w→∃m,Walk P c false Snd m (Conc.served g (.tuple #[c.z1,.bool false])) w
 cal:∀k g,Cal k g→k<c.K→∃cal rest,g=G (Frame.enter P c.fB (c.ar k) .normal) (cal :: rest)∧∀v,OkV v→∀w,c.Ok w→∃m,Walk P c false (Sto k v) m (G (cal.finish v) rest) w
 sto:∀k v g,Sto k v g→k<c.K→OkV v→isG g∧∃g',(∀w,c.Ok w→stepG P false g w=.go g' (w.setCell ⟨c.Fd,k,none⟩ v) #[⟨.cell ⟨c.Fd,k,none⟩,true,false⟩])∧g'.status=.running∧∀w,c.Ok w→∃m,Walk P c false Rec m g' w
 Eh:∀g,Snd g→isG g∧(∀w,stepG P false g w=.comm g #[scase c.C2 (.bool true) c.zs2] true .send w #[])∧∃q,QuitsIn P q (Conc.served g undef)
 gop:∀j g,GoP j g→j<c.n→isG g∧∃g' ch,(∀w,stepG P true g w=.spawn g' ch w #[])∧(∀w,c.Ok w→∃m,Walk P c false Rec m ch w)∧∀w,c.Ok w→∃m,Walk P c true (fun g=>if j+1<c.n then GoP (j+1) g else vF 0 g) m g' w
 Ek:∀k g,vF k g→k<c.K→isG g∧(∀w,stepG P true g w=.comm g #[scase c.C1 (.int .i64 (k:Nat)) c.zs1] true .send w #[])∧∀w,c.Ok w→∃m,Walk P c true (fun g=>if k+1<c.K then vF (k+1) g else ClP g) m (Conc.served g undef) w
 clp:∀g,ClP g→isG g∧mayWake P g=true∧∃g',(∀w s r,w.heap[c.C1]? = some (.chan 0 #[] false s r false)→stepG P true g w=.go g' { w with heap:=w.heap.setIfInBounds c.C1 (.chan 0 #[] true s r false) } #[⟨.obj c.C1,false,true⟩,⟨.obj c.C1,true,true⟩])∧g'.status=.running∧∀w,c.Ok w→∃m,Walk P c true (vE 0) m g' w
 Ej:∀r g,vE r g→r<c.n→isG g∧(∀w,stepG P true g w=.comm g #[rcase c.C2 c.z2] true (.recv false) w #[])∧∀w,c.Ok w→∃m,Walk P c true (fun g=>if r+1<c.n then vE (r+1) g else JnP g) m (Conc.served g (.bool true)) w
 fok:Fns.ok c.fB=true
 job:∀k,k<c.K→∀w,c.Ok w→∃(E:Env) (wl:World) (x:Array Value),(∀b q s o,E b=some (q,s,o)→o=false∧c.Fix q)∧LR E x (c.ar k)∧WR P E wl w∧Fns.G≤wl.heap.size∧∀τ,Calls P c.fB x (wl.tp τ) fun e w'=>∃v,e=.returned v∧Post k v w'
 okv:∀k v wl (E:Env) v',Post k v wl→VR E v v'→OkV v'
inductive Z0
 | sp (j m:Nat)
 | sd (k m:Nat)
 | sdW (k:Nat)
 | cl (m:Nat)
 | rc (r m:Nat)
 | rcW (r:Nat)
inductive ZW (P:Program)
 | st (m:Nat)
 | wt
 | aw
 | pr (k m:Nat)
 | ca (k:Nat) (E:Env) (s:{ s:Gh // Acc (After P [ay P]) s })
 | po (k:Nat) (v:Value) (m:Nat)
 | fi (m:Nat)
 | fw
 | lv (q:Nat)
section
variable {P:Program} {c:Cst} {Post:Nat→Value→World→Prop} (S:Scr P c Post)
def Aa (c:Cst):Z0→Nat
 | .sp j _=>j
 | _=>c.n
def sent (c:Cst):Z0→Nat
 | .sp _ _=>0
 | .sd k _=>k
 | .sdW k=>k
 | _=>c.K
def closed:Z0→Bool
 | .rc _ _ | .rcW _=>true
 | _=>false
def rcvd:Z0→Nat
 | .rc r _=>r
 | .rcW r=>r
 | _=>0
def St0:Z0→Goroutine→World→Prop
 | .sp j m,g,w=>j<c.n∧Walk P c true (S.GoP j) m g w
 | .sd k m,g,w=>k<c.K∧Walk P c true (S.vF k) m g w
 | .sdW k,g,_=>k<c.K∧∃g',S.vF k g'∧g=parked g' #[scase c.C1 (.int .i64 (k:Nat)) c.zs1] .send
 | .cl m,g,w=>Walk P c true S.ClP m g w
 | .rc r m,g,w=>r≤c.n∧Walk P c true (fun g=>if r<c.n then S.vE r g else S.JnP g) m g w
 | .rcW r,g,_=>r<c.n∧∃g',S.vE r g'∧g=parked g' #[rcase c.C2 c.z2] (.recv false)
def StW:ZW P→Goroutine→World→Prop
 | .st m,g,w=>Walk P c false S.Rec m g w
 | .wt,g,_=>∃g',S.Rec g'∧g=parked g' #[rcase c.C1 c.z1] (.recv true)
 | .aw,g,_=>∃g',S.Rec g'∧g={ parked g' #[rcase c.C1 c.z1] (.recv true) with status:=.running }
 | .pr k m,g,w=>k<c.K∧Walk P c false (S.Cal k) m g w
 | .ca k E s,g,w=>k<c.K∧∃cal rest,bB P (Post k) (cal :: rest) E s.1.1 s.1.2 g w∧∀v,S.OkV v→∀w,c.Ok w→∃m,Walk P c false (S.Sto k v) m (G (cal.finish v) rest) w
 | .po k v m,g,w=>k<c.K∧S.OkV v∧Walk P c false (S.Sto k v) m g w
 | .fi m,g,w=>Walk P c false S.Snd m g w
 | .fw,g,_=>∃g',S.Snd g'∧g=parked g' #[scase c.C2 (.bool true) c.zs2] .send
 | .lv q,g,_=>QuitsIn P q g
def mi0:Z0→Mi P [ay P]
 | .sp _ m | .sd _ m | .cl m | .rc _ m=>.inl m
 | _=>.inl 0
def miW:ZW P→Mi P [ay P]
 | .st m | .pr _ m | .po _ _ m | .fi m | .lv m=>.inl m
 | .ca _ _ s=>.inr s
 | _=>.inl 0
def p0 (c:Cst):Z0→Nat
 | .sp j _=>4*c.n+4+10*c.K+3+10*(c.n-j)
 | .sd k _=>4*c.n+4+10*(c.K-k)+2
 | .sdW k=>4*c.n+4+10*(c.K-k)+1
 | .cl _=>4*c.n+4
 | .rc r _=>4*(c.n-r)+2
 | .rcW r=>4*(c.n-r)+1
def pW:ZW P→Nat
 | .lv _=>0
 | .fw=>1
 | .fi _=>2
 | .aw=>3
 | .wt=>4
 | .st _=>5
 | .po _ _ _=>6
 | .ca _ _ _=>7
 | .pr _ _=>8
def holds:ZW P→Nat→Prop
 | .pr k _,j=>k=j
 | .ca k _ _,j=>k=j
 | .po k _ _,j=>k=j
 | _,_=>False
def As:ZW P→Nat→Prop
 | .ca _ E _,q=>∃b s,E b=some (q,s,true)
 | _,_=>False
def Res (P:Program) (c:Cst) (Post:Nat→Value→World→Prop) (k:Nat) (v:Value) (RS:Nat→Prop) (w:World):Prop :=
 ∃(E:Env) (vl:Value) (wl:World),Post k vl wl∧VR E vl v∧WR P E wl w∧∀b q s o,E b=some (q,s,o)→(o=false∧c.Fix q)∨RS q
end
end Cs
namespace Cs
open Go.Conc
def aJ {α:Type} (f:Nat→α) (i:Nat) (x:α):Nat→α:=fun j=>if j=i then x else f j
theorem an {α:Type} (f:Nat→α) (i:Nat) (x:α):aJ f i x i=x:=by unfold aJ;rw[if_pos rfl]
theorem aF {α:Type} (f:Nat→α) {i j:Nat} (x:α) (h:j≠i):aJ f i x j=f j:=by unfold aJ;rw[if_neg h]
variable [Fns]
section
variable {P:Program} {c:Cst} {Post:Nat→Value→World→Prop}
theorem WR.keep {E:Env} {wl w w':World} (h:WR P E wl w) (hk:∀b q s o,E b=some (q,s,o)→w'.heap[q]? = w.heap[q]?):WR P E wl w':=by
 refine ⟨fun b q s e=>?_,fun b q s e=>?_,h.inj,h.low⟩
 ·obtain ⟨h1,ol,o,h2,h3,h4⟩:=h.own b q s e
  exact ⟨h1,ol,o,h2,(hk b q s _ e).trans h3,h4⟩
 ·obtain ⟨x,T,y,T',fr,h1,h2,h3,h4⟩:=h.shared b q s e
  exact ⟨x,T,y,T',fr,h1,h2,(hk b q s _ e).trans h3,h4⟩
structure Mem (P:Program) (c:Cst) (Post:Nat→Value→World→Prop) (zs:Nat→ZW P) (top snt:Nat) (fnd:Nat→Option Nat) (RS:Nat→Nat→Prop) (blk:Nat→Option Nat) (w:World):Prop where
 ok:c.Ok w
 jb0:∀k,snt≤k→fnd k=none
 jb1:∀k,k<snt→∃i,c.S0≤i∧i<top∧fnd k=some i
 jb2:∀i k,c.S0≤i→i<top→holds (zs i) k→k<snt∧fnd k=some i
 jb3:∀k i,fnd k=some i→¬holds (zs i) k→∃v,w.cell? ⟨c.Fd,k,none⟩=some v∧Res P c Post k v (RS k) w
 jb4:∀i k v m,c.S0≤i→i<top→zs i=.po k v m→Res P c Post k v (RS k) w
 us1:∀i q,c.S0≤i→i<top→As (zs i) q→c.N1≤q∧q<w.heap.size∧blk q=some i
 us2:∀k q,RS k q→c.N1≤q∧q<w.heap.size
 us3:∀i k q,c.S0≤i→i<top→As (zs i) q→¬RS k q
 us4:∀q i,blk q=some i→c.N1≤q∧q<w.heap.size
variable {zs zs':Nat→ZW P} {top snt:Nat} {fnd:Nat→Option Nat} {RS:Nat→Nat→Prop} {blk:Nat→Option Nat} {w w':World}
end
end Cs
namespace Cs
open Go.Conc
variable [Fns]
section
variable {P:Program} {c:Cst} {Post:Nat→Value→World→Prop}
variable {zs zs':Nat→ZW P} {top snt:Nat} {fnd:Nat→Option Nat} {RS:Nat→Nat→Prop} {blk:Nat→Option Nat} {w w':World}
end
end Cs
namespace Cs
open Go.Conc
variable [Fns]
section
variable {P:Program} {c:Cst}
def DX:ZW P→Prop
 | .lv _=>True
 | _=>False
def Db (c:Cst) (fnd blk:Nat→Option Nat):_root_.Go.Loc→Option Nat
 | .cell a=>if a.block=c.Fd then fnd a.off else if a.block<c.N1 then none else blk a.block
 | .obj q=>if q<c.N1 then none else blk q
 | _=>none
def eW (size:Nat):_root_.Go.Loc→Prop
 | .cell a=>a.block<size
 | .obj q=>q<size
 | _=>True
structure Tr (c:Cst) (zs:Nat→ZW P) (top:Nat) (fnd blk:Nat→Option Nat) (size:Nat) (t:Trace):Prop where
 ti:TI t (Db c fnd blk) (fun i=>i=0∨(c.S0≤i∧i<top))
 low:∀j a,touchAt t j=some a→eW size a.loc
 fdT:∀j a ad,touchAt t j=some a→a.loc=.cell ad→ad.block=c.Fd→∃i,fnd ad.off=some i
 kn:∀j x a,t[j]? = some x→x.act.touch? = some a→Knows t 0 j∨(c.S0≤x.g∧x.g<top∧¬DX (zs x.g))
variable {zs zs':Nat→ZW P} {top:Nat} {fnd blk:Nat→Option Nat} {size size':Nat} {t u:Trace}
omit [Fns] in
theorem ir (h:size≤size'):∀{l:_root_.Go.Loc},eW size l→eW size' l
 | .cell _,x | .obj _,x=>Nat.lt_of_lt_of_le x h
 | .output,_ | .goroutines,_ | .mark _,_=>trivial
end
end Cs
namespace Cs
open Go.Conc
open Go.ConcN (sumTo sumTo_congr)
theorem fo {α:Type} (F:Nat→α→Nat) (f:Nat→α) (x:α) {i:Nat}:∀{n:Nat},i<n→sumTo n (fun a=>F a (aJ f i x a))+F i (f i)=sumTo n (fun a=>F a (f a))+F i x
 | n+1,h=>by
  rcases Nat.lt_or_ge i n with hlt | hge
  ·have:=fo F f x hlt
   simp only[sumTo,aF f x (show n≠i by omega)]
   omega
  ·obtain rfl:i=n:=by omega
   have:sumTo i (fun a=>F a (aJ f i x a))=sumTo i (fun a=>F a (f a)):=sumTo_congr fun a ha=>by rw[aF f x (by omega)]
   simp only[sumTo,an,this]
   omega
theorem gB {α:Type} {gs:Array α} {i:Nat} {f:α→α} {y:α} (h:∀j x,j≠i→gs[j]? = some x→f x=x):(gs.map f).setIfInBounds i y=gs.setIfInBounds i y:=by
 apply Array.ext_getElem?
 intro j
 by_cases e:i=j
 ·subst e
  by_cases hl:i<gs.size
  ·rw[Array.getElem?_setIfInBounds_self_of_lt (by simpa using hl),Array.getElem?_setIfInBounds_self_of_lt hl]
  ·rw[Array.getElem?_eq_none (by simpa using hl),Array.getElem?_eq_none (by simpa using hl)]
 ·rw[Array.getElem?_setIfInBounds_ne e,Array.getElem?_setIfInBounds_ne e,Array.getElem?_map]
  cases hx:gs[j]? with
  | none=>rfl
  | some x=>rw[Option.map_some,h j x (fun e'=>e e'.symm) hx]
theorem bf {α:Type} {gs:Array α} {i:Nat} {g:α} (hi:gs[i]? = some g):i<gs.size:=(Array.getElem?_eq_some_iff.1 hi).1
variable [Fns]
section
variable {P:Program} {c:Cst} {Post:Nat→Value→World→Prop} {S:Scr P c Post}
def lvN:ZW P→Nat
 | .lv _=>1
 | _=>0
def early:ZW P→Prop
 | .aw | .fi _ | .fw | .lv _=>False
 | _=>True
def lvF (c:Cst) (i:Nat) (z:ZW P):Nat:=if i<c.S0 then 0 else lvN z
structure CY (S:Scr P c Post) (gs:Array Goroutine) (w:World) (t:Trace) (z0:Z0) (zs:Nat→ZW P) (fnd:Nat→Option Nat) (RS:Nat→Nat→Prop) (blk:Nat→Option Nat):Prop where
 sz:gs.size=c.S0+Aa c z0
 a0:∃g,gs[0]? = some g∧St0 S z0 g w
 wk:∀i g,1≤i→gs[i]? = some g→StW S (zs i) g w
 old:∀i,1≤i→i<c.S0→∃q,zs i=.lv q
 c1:w.heap[c.C1]? = some (.chan 0 #[] (closed z0) (sent c z0) (sent c z0) false)
 c2:w.heap[c.C2]? = some (.chan 0 #[] false (rcvd z0) (rcvd z0) false)
 ph1:closed z0=true→∀i,1≤i→i<gs.size→zs i≠.wt
 ph2:closed z0=false→∀i,c.S0≤i→i<gs.size→early (zs i)
 nw1:(∃k,z0=.sdW k)→∀i,1≤i→i<gs.size→zs i≠.wt
 nw2:(∃r,z0=.rcW r)→∀i,1≤i→i<gs.size→zs i≠.fw
 cnt:sumTo gs.size (fun i=>lvF c i (zs i))=rcvd z0
 shr:∀i k E s,c.S0≤i→i<gs.size→zs i=.ca k E s→∀b q s,E b=some (q,s,false)→c.Fix q
 mem:Mem P c Post zs gs.size (sent c z0) fnd RS blk w
 tr:Tr c zs gs.size fnd blk w.heap.size t
variable {gs:Array Goroutine} {w w':World} {t:Trace} {z0:Z0} {zs:Nat→ZW P} {fnd:Nat→Option Nat} {RS:Nat→Nat→Prop} {blk:Nat→Option Nat} {g g':Goroutine} {z:ZW P}
section
variable (h:CY S gs w t z0 zs fnd RS blk)
include h
end
end
end Cs
namespace Cs
open Go.Conc
open Go.ConcN (sumTo sumTo_congr)
variable [Fns]
section
variable {P:Program} {c:Cst} {Post:Nat→Value→World→Prop} {S:Scr P c Post}
def me (c:Cst) (z0:Z0) (zs:Nat→ZW P) (n:Nat):Me P [ay P]:=(p0 c z0+sumTo n (fun i=>pW (zs i)),mi0 z0 :: (List.range n).map fun i=>miW (zs i))
variable {z0 z0':Z0} {zs:Nat→ZW P} {z':ZW P} {n i:Nat}
variable {gs gs':Array Goroutine} {w w':World} {t t':Trace} {fnd fnd':Nat→Option Nat} {RS RS':Nat→Nat→Prop} {blk blk':Nat→Option Nat} {g g':Goroutine}
def Ef (S:Scr P c Post) (gs:Array Goroutine) (w:World) (t:Trace) (z0:Z0) (zs:Nat→ZW P) (i:Nat):Prop :=
 ∀sl,∃gs' w' ops z0' zs' fnd' RS' blk',runT P (crowd gs w sl) i=(.next (crowd gs' w' sl),ops)∧CY S gs' w' (t++ops) z0' zs' fnd' RS' blk'∧yP P [ay P] (me c z0' zs' gs'.size) (me c z0 zs gs.size)
end
end Cs
namespace Cs
open Go.Conc
open Go.ConcN (sumTo sumTo_congr)
variable [Fns]
section
variable {P:Program} {c:Cst} {Post:Nat→Value→World→Prop} {S:Scr P c Post}
variable {z0:Z0} {zs:Nat→ZW P} {z':ZW P} {n i:Nat}
variable {gs:Array Goroutine} {w w':World} {t:Trace} {fnd:Nat→Option Nat} {RS RS':Nat→Nat→Prop} {blk blk':Nat→Option Nat} {g g':Goroutine} {es:Array Event}
inductive Alike:ZW P→ZW P→Nat→(Goroutine→Prop)→Prop
 | st (m:Nat):Alike (.st (m+1)) (.st m) m S.Rec
 | pr (k m:Nat):Alike (.pr k (m+1)) (.pr k m) m (S.Cal k)
 | po (k:Nat) (v:Value) (m:Nat):Alike (.po k v (m+1)) (.po k v m) m (S.Sto k v)
 | fi (m:Nat):Alike (.fi (m+1)) (.fi m) m S.Snd
end
end Cs
namespace Cs
open Go.Conc
variable [Fns]
section
variable {P:Program} {c:Cst} {Post:Nat→Value→World→Prop} {S:Scr P c Post}
variable {z0:Z0} {zs:Nat→ZW P} {z':ZW P} {n i:Nat}
variable {gs:Array Goroutine} {w w':World} {t:Trace} {fnd:Nat→Option Nat} {RS RS':Nat→Nat→Prop} {blk blk':Nat→Option Nat} {g g':Goroutine} {es:Array Event}
end
end Cs
namespace Cs
open Go.Conc
variable [Fns]
section
variable {P:Program} {c:Cst} {Post:Nat→Value→World→Prop} {S:Scr P c Post}
variable {z0:Z0} {zs:Nat→ZW P} {z':ZW P} {n i:Nat}
variable {gs:Array Goroutine} {w w':World} {t:Trace} {fnd:Nat→Option Nat} {RS RS':Nat→Nat→Prop} {blk blk':Nat→Option Nat} {g g' g2:Goroutine} {es:Array Event}
end
end Cs
namespace Cs
open Go.Conc
variable [Fns]
section
variable {P:Program} {c:Cst} {Post:Nat→Value→World→Prop} {S:Scr P c Post}
variable {z0:Z0} {zs:Nat→ZW P} {z':ZW P} {n i:Nat}
variable {gs:Array Goroutine} {w w':World} {t:Trace} {fnd:Nat→Option Nat} {RS RS':Nat→Nat→Prop} {blk blk':Nat→Option Nat} {g g' g2:Goroutine} {es:Array Event}
end
end Cs
namespace Cs
open Go.Conc
open Go.ConcN (sumTo sumTo_congr)
variable [Fns]
section
variable {P:Program} {c:Cst} {Post:Nat→Value→World→Prop} {S:Scr P c Post}
variable {z0 z0':Z0} {zs:Nat→ZW P} {n i:Nat}
variable {gs:Array Goroutine} {w w':World} {t:Trace} {fnd:Nat→Option Nat} {RS RS':Nat→Nat→Prop} {blk blk':Nat→Option Nat} {g g' g2:Goroutine} {es:Array Event}
inductive oW:Z0→Z0→Nat→(Goroutine→Prop)→Prop
 | sp (j m:Nat):oW (.sp j (m+1)) (.sp j m) m (S.GoP j)
 | sd (k m:Nat):oW (.sd k (m+1)) (.sd k m) m (S.vF k)
 | cl (m:Nat):oW (.cl (m+1)) (.cl m) m S.ClP
 | rc (r m:Nat):oW (.rc r (m+1)) (.rc r m) m (fun g=>if r<c.n then S.vE r g else S.JnP g)
end
end Cs
namespace Cs
open Go.Conc
open Go.ConcN (sumTo sumTo_congr)
variable [Fns]
section
variable {P:Program} {c:Cst} {Post:Nat→Value→World→Prop} {S:Scr P c Post}
variable {z0 z0':Z0} {zs:Nat→ZW P} {n i:Nat}
variable {gs:Array Goroutine} {w w':World} {t:Trace} {fnd:Nat→Option Nat} {RS RS':Nat→Nat→Prop} {blk blk':Nat→Option Nat} {g g' g2:Goroutine} {es:Array Event}
end
end Cs
namespace Cs
open Go.Conc
open Go.ConcN (sumTo sumTo_congr)
theorem yc (t:Trace):∃B0,∀B,B0≤B→∀op ∈ t,op.act.low B:=by
 have one:∀x:MemAct,∃B0,∀B,B0≤B→x.low B:=fun x=>by
  cases x with
  | access e =>
   obtain ⟨l,wr,s⟩:=e
   cases l with
   | cell a=>exact ⟨a.block+1,fun B hB=>(show a.block<B by omega)⟩
   | obj r=>exact ⟨r+1,fun B hB=>(show r<B by omega)⟩
   | _=>exact ⟨0,fun _ _=>trivial⟩
  | mark m =>
   cases m with
   | acquire a | release a | releaseMerge a | read a | write a=>exact ⟨a.block+1,fun B hB=>(show a.block<B by omega)⟩
   | _=>exact ⟨0,fun _ _=>trivial⟩
  | go _ | start=>exact ⟨0,fun _ _=>trivial⟩
  | send c _ | sendDone c _ | recv c _ _ | recvDone c _ | close c | recvClosed c=>exact ⟨c+1,fun B hB=>(show c<B by omega)⟩
 have:∀l:List MemOp,∃B0,∀B,B0≤B→∀op ∈ l,op.act.low B:=fun l=>by
  induction l with
  | nil=>exact ⟨0,fun _ _ _ h=>by cases h⟩
  | cons a l ih =>
   obtain ⟨b1,h1⟩:=ih
   obtain ⟨b2,h2⟩:=one a.act
   refine ⟨b1+b2,fun B hB op hop=>?_⟩
   rcases List.mem_cons.1 hop with rfl | h
   ·exact h2 B (by omega)
   ·exact h1 B (by omega) op h
 obtain ⟨b,h⟩:=this t.toList
 exact ⟨b,fun B hB op hop=>h B hB op (Array.mem_toList_iff.2 hop)⟩
variable [Fns]
section
variable {P:Program} {c:Cst} {Post:Nat→Value→World→Prop} {S:Scr P c Post}
variable {w:World} {t:Trace} {g:Goroutine}
end
end Cs
namespace Cs
open Go.Conc
open Go.ConcN (sumTo sumTo_congr upd upd_same upd_ne sumTo_upd)
def EvW (size:Nat) (e:Event):Prop:=(∀x,(MemAct.ofEvent e).touch? = some x→eW size x.loc)∧∀m,MemAct.ofEvent e=.mark m→Neutral m
section
variable {P:Program} {gs gs':Array Goroutine} {t:Trace} {q q':Nat→Nat} {size size':Nat}
end
variable [Fns]
section
variable {P:Program} {c:Cst} {S:Nat→Value→World→Prop}
inductive lM (P:Program):Option { s:Gh // Acc (After P [ay P]) s }→Option { s:Gh // Acc (After P [ay P]) s }→Prop
 | back (s):lM P none (some s)
 | on {s s'} (h:After P [ay P] s'.1 s.1):lM P (some s') (some s)
omit [Fns] in
theorem mg (P:Program):WellFounded (lM P):=by
 have h0:Acc (lM P) none:=Acc.intro _ fun y hy=>by cases hy
 refine ⟨fun a=>?_⟩
 cases a with
 | none=>exact h0
 | some s =>
  obtain ⟨s,hs⟩:=s
  induction hs with
  | intro s hs ih =>
   refine Acc.intro _ fun y hy=>?_
   cases hy with
   | back=>exact h0
   | @on _ s' h=>exact ih s'.1 h
theorem x8 {E:Env} {wl w:World} (hw:WR P E wl w) {e:Event} (h:ef E e):EvW w.heap.size e:=by
 have lo:∀b q s o,E b=some (q,s,o)→q<w.heap.size:=fun b q s o e=>by
  cases o with
  | true =>
   obtain ⟨_,_,o',_,h3,_⟩:=hw.own b q s e
   exact (Array.getElem?_eq_some_iff.1 h3).1
  | false =>
   obtain ⟨_,_,_,_,_,_,_,h3,_⟩:=hw.shared b q s e
   exact (Array.getElem?_eq_some_iff.1 h3).1
 cases h with
 | read hE=>exact ⟨(fun x e=>by cases e;exact lo _ _ _ _ hE),(fun m e=>by cases e)⟩
 | write hE=>exact ⟨(fun x e=>by cases e;exact lo _ _ _ _ hE),(fun m e=>by cases e)⟩
 | @obj r b s wr hE =>
  have e1:MemAct.ofEvent ⟨.obj r,wr,false⟩=.access ⟨.obj r,wr,false⟩:=by cases wr <;> rfl
  exact ⟨(fun x e=>by rw[e1] at e;cases e;exact lo _ _ _ _ hE),(fun m e=>by rw[e1] at e;cases e)⟩
 | noRoom=>exact ⟨(fun x e=>by cases e),(fun m e=>by cases e;rfl)⟩
end
end Cs
namespace Cs
open Go.Conc
open Go.ConcN (sumTo sumTo_congr)
section
variable {P:Program} {gs:Array Goroutine} {t:Trace} {q:Nat→Nat} {g:Goroutine} {w:World} {sl:Option (Nat × Nat)}
end
variable [Fns]
section
variable {P:Program} {c:Cst} {Post:Nat→Value→World→Prop} {S:Scr P c Post}
variable {gs:Array Goroutine} {w:World} {t:Trace} {q:Nat→Nat} {g:Goroutine}
end
end Cs
namespace Cs
open Go.Conc
def fE (Post:Value→World→Prop) (e:Ending) (w':World):Prop:=∃v,e=.returned v∧Post v w'
section
variable {P:Program} {Post:Value→World→Prop} {fn:FuncId} {f:Func} {x:Array Value} {cs:List Frame} {w:World}
theorem aT (hf:P.funcs[fn]? = some f) {m:Machine} {g:Goroutine} (hm:lone g.frame g.callers w=m) {e:Exit} {a':Act} {w':World} (hq:bodyPost P f (fE Post) e a' w') (h:Arrives P m (mkF fn #[] [] .run) [] cs e a' w'):Reach P cs Post g w:=by
 have hat:∀a todo,(mkF fn #[] [] .run).at a todo={ mkF fn a.tmps todo .run with defers:=a.defers }:=fun a todo=>rfl
 subst hm
 cases e with
 | normal =>
  obtain ⟨hd,v,hr,u,hu,hp⟩:=hq
  cases hu
  obtain ⟨n,hn⟩:=Steps.trans h (.one step_end)
  exact ⟨n,_,w',v,hn,⟨rfl,hd,rfl,f,hf,hr⟩,hp⟩
 | ret =>
  obtain ⟨hd,v,hr,u,hu,hp⟩:=hq
  cases hu
  obtain ⟨todo,n,hn⟩:=h
  exact ⟨n,_,w',v,hn,⟨rfl,hd,rfl,f,hf,hr⟩,hp⟩
 | panic chain =>
  obtain ⟨_,u,hu,_⟩:=hq
  cases hu
 | outgrown =>
  obtain ⟨u,hu,_⟩:=hq
  cases hu
 | exit id=>exact hq.elim
 | goto l=>exact hq.elim
theorem mq (hf:P.funcs[fn]? = some f) {c:Code} (h:c.wp P (bodyPost P f (fE Post)) ⟨x,[]⟩ w):Reach P cs Post (G (mkF fn x [.code c] .run) cs) w:=by
 obtain ⟨e,a',w',hq,harr⟩:=h (mkF fn #[] [] .run) [] cs
 exact aT hf rfl hq harr
theorem oH (hf:P.funcs[fn]? = some f) {ops:Array Oper} {l:List Nat} {c:Code} (h:wpOps P ops (Exit.then (c.wp P (bodyPost P f (fE Post))) (bodyPost P f (fE Post))) l ⟨x,[]⟩ w):Reach P cs Post (G (mkF fn x [.inRegion ops l,.code c] .run) cs) w:=by
 obtain ⟨e,a1,w1,hq,harr⟩:=wp_ops l ⟨x,[]⟩ w h (mkF fn #[] [] .run) [.code c] cs
 cases e with
 | normal =>
  obtain ⟨e2,a2,w2,hq2,harr2⟩:=hq (mkF fn #[] [] .run) [] cs
  exact aT hf rfl hq2 (.of_steps harr harr2)
 | exit id=>exact hq.elim
 | goto l=>exact hq.elim
 | ret=>exact aT (e:=.ret) hf rfl hq (.pass (x:=.code c) rfl (fun _ _=>.inl (by simp)) harr)
 | panic ch=>exact aT (e:=.panic ch) hf rfl hq (.pass (x:=.code c) rfl (fun _ _=>.inl (by simp)) harr)
 | outgrown=>exact aT (e:=.outgrown) hf rfl hq (.pass (x:=.code c) rfl (fun _ _=>.inl (by simp)) harr)
end
variable [Fns]
section
variable {P:Program} {Post:Value→World→Prop} {c:List Frame} {E:Env} {wl w:World}
theorem bB.mid {fn:FuncId} (hf:dK P fn) {x y:Array Value} (hx:LR E x y) (hw:WR P E wl w) (hb:Fns.G≤wl.heap.size) {todo:List Item} (ht:todo.all (aK P)=true) (hr:∀τ,Reach P [ay P] Post (G (mkF fn x todo .run) [ay P]) (wl.tp τ)) :
  bB P Post c E (G (mkF fn x todo .run) [ay P]) wl (G (mkF fn y todo .run) c) w :=
 ⟨.mk' hf hx ht (.inl rfl) .base,hw,hb,fun τ _=>hr τ⟩
end
end Cs
namespace Cs
open Go.Conc Go.RowKit
variable [Fns]
structure Cp (P:Program) (E:Env) (wl w:World):Prop where
 wr:WR P E wl w
 big:Fns.G≤wl.heap.size
 sh:∀b q s o,E b=some (q,s,o)→o=false
 top:∀b,wl.heap.size≤b→E b=none
structure jj (E E':Env) (wl wl':World):Prop where
 le:E.le E'
 size:wl.heap.size≤wl'.heap.size
 old:∀b,b<wl.heap.size→wl'.heap[b]? = wl.heap[b]?
 os:wl'.os=wl.os
 tape:wl'.tape=wl.tape
 output:wl'.output=wl.output
omit [Fns] in
theorem jj.refl (E:Env) (wl:World):jj E E wl wl:=⟨E.le_refl,Nat.le_refl _,fun _ _=>rfl,rfl,rfl,rfl⟩
omit [Fns] in
theorem jj.trans {A B C:Env} {u v w:World} (h:jj A B u v) (k:jj B C v w):jj A C u w :=
 ⟨Env.le_trans h.le k.le,Nat.le_trans h.size k.size,fun b hb=>(k.old b (Nat.lt_of_lt_of_le hb h.size)).trans (h.old b hb),k.os.trans h.os,k.tape.trans h.tape,k.output.trans h.output⟩
omit [Fns] in
theorem jj.cell {E E':Env} {wl wl':World} (h:jj E E' wl wl') {a:Addr} {v:Value} (hc:wl.cell? a=some v):wl'.cell? a=some v:=by
 have hb:a.block<wl.heap.size:=World.block_lt_of_cell? _ _ hc
 have:=h.old a.block hb
 unfold World.cell? at hc ⊢
 rw[this]
 exact hc
section
variable {P:Program} {w:World}
theorem Cp.nil (w:World):Cp P (fun _=>none) { w with heap:=Array.replicate Fns.G (.cells #[] 0) } w :=
 ⟨⟨fun _ _ _ e=>(by cases e),fun _ _ _ e=>(by cases e),fun _ _ _ _ _ _ e=>(by cases e),fun _ _ e=>(by cases e)⟩,by simp,fun _ _ _ _ e=>(by cases e),fun _ _=>rfl⟩
end
end Cs
namespace Cs
variable [Fns]
theorem qO {E:Env} {c:Array Value} (ih:∀(i:Nat) (hi:i<c.size),∃u,VR E u c[i]):∃x,LR E x c:=by
 refine ⟨Array.ofFn fun i:Fin c.size=>(ih i i.2).choose,by simp,fun i u v hu hv=>?_⟩
 obtain ⟨hi,rfl⟩:=Array.getElem?_eq_some_iff.1 hv
 obtain ⟨hj,rfl⟩:=Array.getElem?_eq_some_iff.1 hu
 simp only[Array.getElem_ofFn]
 exact (ih i hi).choose_spec
theorem x9 (E:Env):∀(n:Nat) (v:Value),SizeOf.sizeOf v<n→∃u,VR E u v
 | 0,_,h=>absurd h (Nat.not_lt_zero _)
 | n+1,v,h=>by
  cases v with
  | agg c =>
   obtain ⟨x,hx⟩:=qO (E:=E) (c:=c) fun i hi=>x9 E n c[i] (by
    have:=Array.sizeOf_getElem c i hi
    simp only[Value.agg.sizeOf_spec] at h
    omega)
   exact ⟨_,.mP hx⟩
  | tuple c =>
   obtain ⟨x,hx⟩:=qO (E:=E) (c:=c) fun i hi=>x9 E n c[i] (by
    have:=Array.sizeOf_getElem c i hi
    simp only[Value.tuple.sizeOf_spec] at h
    omega)
   exact ⟨_,.mkTuple hx⟩
  | bool b=>exact ⟨_,.bool b⟩
  | nilIface=>exact ⟨_,.nilIface⟩
  | _=>exact ⟨_,.any _ rfl⟩
theorem Cv (E:Env) (v:Value):∃u,VR E u v:=x9 E _ v (Nat.lt_succ_self _)
end Cs
namespace Cs
open Go.Conc
variable [Fns]
section
variable {P:Program} {Post:Value→World→Prop} {c:List Frame} {E:Env} {wl w:World}
end
end Cs
namespace Cs
open Go.Conc
variable [Fns]
section
variable {P:Program} {Post:Value→World→Prop}
theorem bB.atEnd {E:Env} {gl g:Goroutine} {wl w:World} (hin:bB P Post [] E gl wl g w) (hs:Stop [ay P] gl) {fn0:FuncId} {f:Func} {t:Nat} (hl:dL g=fn0) (hf:P.funcs[fn0]? = some f) (hr:f.results=#[.tmp t]) (hn:P.inits.idxOf? fn0=none) :
  ∃v v' wl2,Post v wl2∧VR E v v'∧g.status=.running∧∀w,stepG P true g w=.ended (.done v') w #[]:=by
 obtain ⟨v,hlv,hp⟩:=iM hin.gr hs (hin.live (aL wl w) (fun i q hi=>bK q hi))
 obtain ⟨fn,x,y,todo,mode,l,l',rfl,rfl,hf',hx,ht,hm,hcr⟩:=hin.gr.ex
 obtain ⟨hm2,hl2⟩:=hs
 have hm2':mode=.returning:=hm2
 have hl2':l=[ay P]:=hl2
 subst hm2' hl2'
 have hlc:l'=[]:=by
  have hlen:∀{a b:List Frame},CR P E [ay P] [] a b→a=[ay P]→b=[]:=fun {a b} hab e=>by
   cases hab with
   | base=>rfl
   | cons hf2 hx2 ht2 h2 =>
    exfalso
    injection e with e1 e2
    have:=congrArg Frame.todo e1
    simp only[mkF,ay] at this
    rw[this] at ht2
    simp[pend,aK] at ht2
  exact hlen hcr rfl
 subst hlc
 have hfn:fn=fn0:=hl
 subst hfn
 obtain ⟨_,_,_,f2,hfn2,hr2⟩:=hlv
 have e2:f2=f:=by
  have h1:P.funcs[fn]? = some f2:=hfn2
  rw[hf] at h1
  injection h1 with h1
  exact h1.symm
 subst e2
 have hr3:(results f2 x).run P (wl.tp (aL wl w))=.ok v (wl.tp (aL wl w)):=hr2
 rw[(resultsC_tmp (P:=P) hr x (wl.tp (aL wl w))).1] at hr3
 injection hr3 with hv _
 subst hv
 refine ⟨_,_,_,hp,jG hx t,rfl,fun w=>?_⟩
 have h1:=(resultsC_tmp (P:=P) hr y w).1
 have h2:=(resultsC_tmp (P:=P) hr y w).2
 have h3:(results f2 y).runT P w #[]=(.ok (y.getD t undef) w,#[]):=by
  refine Prod.ext ?_ ?_
  ·rw[Sem.runT_fst];exact h1
  ·exact h2
 simp only[G,stepG,unwind,mkF,hf,doReturn,h3,hn]
 rfl
end
end Cs
end Go.Proofs.Ytpdemelchhkfaaa
