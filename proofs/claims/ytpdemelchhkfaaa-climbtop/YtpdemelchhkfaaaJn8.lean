/-
  Several texts, joined: CsW, CsX.
-/
import Derived.Test.YtpdemelchhkfaaaJn7
import Derived.Conc.CrowdComm
import Derived.Conc.Quits
/-
  The pool: one hands out jobs over a channel, many do them, and tell by another channel that they are done. What each of them does; where each of them is.
-/
namespace Go.Proofs.Ytpdemelchhkfaaa.Cs
open Go.Conc
open Go.ConcN (sumTo upd sumTo_upd upd_ne upd_same sumTo_congr)
structure Cst where
 n:Nat
 K:Nat
 S0:Nat
 N1:Nat
 H0:Nat→Option Obj
 C1:Nat
 C2:Nat
 Fd:Nat
 TF:TypeId
 z1:Value
 z2:Value
 zs1:Value
 zs2:Value
 fB:FuncId
 ar:Nat→Array Value
 os0:Os
 out0:Array (Nat × ByteArray)
 ex:Nat→Prop:=fun _=>False
def Cst.Fix (c:Cst) (q:Nat):Prop:=q<c.N1∧q≠c.Fd∧q≠c.C1∧q≠c.C2∧¬c.ex q
structure Cst.Ok (c:Cst) (w:World):Prop where
 fix:∀q,c.Fix q→w.heap[q]? = c.H0 q
 fd:∃cs,w.heap[c.Fd]? = some (.cells cs c.TF (0,0))∧cs.size=c.K
 big:c.N1≤w.heap.size
 env:w.os=c.os0∧w.output=c.out0
def Cst.R (c:Cst):World→World→Prop:=fun _ w=>c.Ok w
structure DQ (c:Cst) (w w':World) (es:Array Event):Prop where
 heap:w'.heap=w.heap
 os:w'.os=w.os
 tape:w'.tape=w.tape
 output:w'.output=w.output
 evs:∀e ∈ es,∃a:Addr,e=⟨.cell a,false,false⟩∧c.Fix a.block
def Walk (P:Program) (c:Cst) (main:Bool) (Stp:Goroutine→Prop) (m:Nat) (g:Goroutine) (w:World):Prop:=Goes P main c.R (DQ c) (fun g _=>g.status=.running∧Stp g) m g w
def isG (g:Goroutine):Prop:=∃fr cs,g=G fr cs
variable [Fns]
structure Scr (P:Program) (c:Cst) (Post:Nat→Value→World→Prop) where
 Rec:Goroutine→Prop
 Snd:Goroutine→Prop
 Cal:Nat→Goroutine→Prop
 Sto:Nat→Value→Goroutine→Prop
 GoP:Nat→Goroutine→Prop
 SndP:Nat→Goroutine→Prop
 ClP:Goroutine→Prop
 RcvP:Nat→Goroutine→Prop
 JnP:Goroutine→Prop
 OkV:Value→Prop
 n1:1≤c.n
 k1:1≤c.K
 s1:1≤c.S0
 d1:c.C1<c.N1∧c.C2<c.N1∧c.Fd<c.N1∧c.C1≠c.C2∧c.C1≠c.Fd∧c.C2≠c.Fd
 rec_s:∀g,Rec g→isG g∧∀w,stepG P false g w=.comm g #[rcase c.C1 c.z1] true (.recv true) w #[]
 rec_job:∀g,Rec g→∀k,k<c.K→∀w,c.Ok w→∃m,Walk P c false (Cal k) m (Conc.served g (.tuple #[.int .i64 (k:Nat),.bool true])) w
 rec_end:∀g,Rec g→∀w,c.Ok w→∃m,Walk P c false Snd m (Conc.served g (.tuple #[c.z1,.bool false])) w
 cal:∀k g,Cal k g→k<c.K→∃cal rest,g=G (Frame.enter P c.fB (c.ar k) .normal) (cal :: rest)∧∀v,OkV v→∀w,c.Ok w→∃m,Walk P c false (Sto k v) m (G (cal.finish v) rest) w
 sto:∀k v g,Sto k v g→k<c.K→OkV v→isG g∧∃g',(∀w,c.Ok w→stepG P false g w=.go g' (w.setCell ⟨c.Fd,k,none⟩ v) #[⟨.cell ⟨c.Fd,k,none⟩,true,false⟩])∧g'.status=.running∧∀w,c.Ok w→∃m,Walk P c false Rec m g' w
 snd_s:∀g,Snd g→isG g∧(∀w,stepG P false g w=.comm g #[scase c.C2 (.bool true) c.zs2] true .send w #[])∧∃q,QuitsIn P q (Conc.served g undef)
 gop:∀j g,GoP j g→j<c.n→isG g∧∃g' ch,(∀w,stepG P true g w=.spawn g' ch w #[])∧(∀w,c.Ok w→∃m,Walk P c false Rec m ch w)∧∀w,c.Ok w→∃m,Walk P c true (fun g=>if j+1<c.n then GoP (j+1) g else SndP 0 g) m g' w
 sndp:∀k g,SndP k g→k<c.K→isG g∧(∀w,stepG P true g w=.comm g #[scase c.C1 (.int .i64 (k:Nat)) c.zs1] true .send w #[])∧∀w,c.Ok w→∃m,Walk P c true (fun g=>if k+1<c.K then SndP (k+1) g else ClP g) m (Conc.served g undef) w
 clp:∀g,ClP g→isG g∧mayWake P g=true∧∃g',(∀w s r,w.heap[c.C1]? = some (.chan 0 #[] false s r false)→stepG P true g w=.go g' { w with heap:=w.heap.setIfInBounds c.C1 (.chan 0 #[] true s r false) } #[⟨.obj c.C1,false,true⟩,⟨.obj c.C1,true,true⟩])∧g'.status=.running∧∀w,c.Ok w→∃m,Walk P c true (RcvP 0) m g' w
 rcvp:∀r g,RcvP r g→r<c.n→isG g∧(∀w,stepG P true g w=.comm g #[rcase c.C2 c.z2] true (.recv false) w #[])∧∀w,c.Ok w→∃m,Walk P c true (fun g=>if r+1<c.n then RcvP (r+1) g else JnP g) m (Conc.served g (.bool true)) w
 fok:Fns.ok c.fB=true
 job:∀k,k<c.K→∀w,c.Ok w→∃(E:Env) (wl:World) (x:Array Value),(∀b q s o,E b=some (q,s,o)→o=false∧c.Fix q)∧LR E x (c.ar k)∧WR P E wl w∧Fns.G≤wl.heap.size∧∀τ,Calls P c.fB x (wl.tp τ) fun e w'=>∃v,e=.returned v∧Post k v w'
 okv:∀k v wl (E:Env) v',Post k v wl→VR E v v'→OkV v'
inductive Z0
 | sp (j m:Nat)
 | sd (k m:Nat)
 | sdW (k:Nat)
 | cl (m:Nat)
 | rc (r m:Nat)
 | rcW (r:Nat)
inductive ZW (P:Program)
 | st (m:Nat)
 | wt
 | aw
 | pr (k m:Nat)
 | ca (k:Nat) (E:Env) (s:{ s:Gh // Acc (After P [trap P]) s })
 | po (k:Nat) (v:Value) (m:Nat)
 | fi (m:Nat)
 | fw
 | lv (q:Nat)
section
variable {P:Program} {c:Cst} {Post:Nat→Value→World→Prop} (S:Scr P c Post)
def spawned (c:Cst):Z0→Nat
 | .sp j _=>j
 | _=>c.n
def sent (c:Cst):Z0→Nat
 | .sp _ _=>0
 | .sd k _=>k
 | .sdW k=>k
 | _=>c.K
def closed:Z0→Bool
 | .rc _ _ | .rcW _=>true
 | _=>false
def rcvd:Z0→Nat
 | .rc r _=>r
 | .rcW r=>r
 | _=>0
def St0:Z0→Goroutine→World→Prop
 | .sp j m,g,w=>j<c.n∧Walk P c true (S.GoP j) m g w
 | .sd k m,g,w=>k<c.K∧Walk P c true (S.SndP k) m g w
 | .sdW k,g,_=>k<c.K∧∃g',S.SndP k g'∧g=parked g' #[scase c.C1 (.int .i64 (k:Nat)) c.zs1] .send
 | .cl m,g,w=>Walk P c true S.ClP m g w
 | .rc r m,g,w=>r≤c.n∧Walk P c true (fun g=>if r<c.n then S.RcvP r g else S.JnP g) m g w
 | .rcW r,g,_=>r<c.n∧∃g',S.RcvP r g'∧g=parked g' #[rcase c.C2 c.z2] (.recv false)
def StW:ZW P→Goroutine→World→Prop
 | .st m,g,w=>Walk P c false S.Rec m g w
 | .wt,g,_=>∃g',S.Rec g'∧g=parked g' #[rcase c.C1 c.z1] (.recv true)
 | .aw,g,_=>∃g',S.Rec g'∧g={ parked g' #[rcase c.C1 c.z1] (.recv true) with status:=.running }
 | .pr k m,g,w=>k<c.K∧Walk P c false (S.Cal k) m g w
 | .ca k E s,g,w=>k<c.K∧∃cal rest,InCall P (Post k) (cal :: rest) E s.1.1 s.1.2 g w∧∀v,S.OkV v→∀w,c.Ok w→∃m,Walk P c false (S.Sto k v) m (G (cal.finish v) rest) w
 | .po k v m,g,w=>k<c.K∧S.OkV v∧Walk P c false (S.Sto k v) m g w
 | .fi m,g,w=>Walk P c false S.Snd m g w
 | .fw,g,_=>∃g',S.Snd g'∧g=parked g' #[scase c.C2 (.bool true) c.zs2] .send
 | .lv q,g,_=>QuitsIn P q g
def mi0:Z0→Mi P [trap P]
 | .sp _ m | .sd _ m | .cl m | .rc _ m=>.inl m
 | _=>.inl 0
def miW:ZW P→Mi P [trap P]
 | .st m | .pr _ m | .po _ _ m | .fi m | .lv m=>.inl m
 | .ca _ _ s=>.inr s
 | _=>.inl 0
def p0 (c:Cst):Z0→Nat
 | .sp j _=>4*c.n+4+10*c.K+3+10*(c.n-j)
 | .sd k _=>4*c.n+4+10*(c.K-k)+2
 | .sdW k=>4*c.n+4+10*(c.K-k)+1
 | .cl _=>4*c.n+4
 | .rc r _=>4*(c.n-r)+2
 | .rcW r=>4*(c.n-r)+1
def pW:ZW P→Nat
 | .lv _=>0
 | .fw=>1
 | .fi _=>2
 | .aw=>3
 | .wt=>4
 | .st _=>5
 | .po _ _ _=>6
 | .ca _ _ _=>7
 | .pr _ _=>8
def holds:ZW P→Nat→Prop
 | .pr k _,j=>k=j
 | .ca k _ _,j=>k=j
 | .po k _ _,j=>k=j
 | _,_=>False
def inUse:ZW P→Nat→Prop
 | .ca _ E _,q=>∃b s,E b=some (q,s,true)
 | _,_=>False
def Res (P:Program) (c:Cst) (Post:Nat→Value→World→Prop) (k:Nat) (v:Value) (RS:Nat→Prop) (w:World):Prop :=
 ∃(E:Env) (vl:Value) (wl:World),Post k vl wl∧VR E vl v∧WR P E wl w∧∀b q s o,E b=some (q,s,o)→(o=false∧c.Fix q)∨RS q
end
end Go.Proofs.Ytpdemelchhkfaaa.Cs

/-
  The pool's memory: what is fixed, whose blocks are, what has been told.
-/
namespace Go.Proofs.Ytpdemelchhkfaaa.Cs
open Go.Conc
def upd' {α:Type} (f:Nat→α) (i:Nat) (x:α):Nat→α:=fun j=>if j=i then x else f j
theorem upd'_same {α:Type} (f:Nat→α) (i:Nat) (x:α):upd' f i x i=x:=by unfold upd';rw[if_pos rfl]
theorem upd'_ne {α:Type} (f:Nat→α) {i j:Nat} (x:α) (h:j≠i):upd' f i x j=f j:=by unfold upd';rw[if_neg h]
variable [Fns]
section
variable {P:Program} {c:Cst} {Post:Nat→Value→World→Prop}
theorem WR.keep {E:Env} {wl w w':World} (h:WR P E wl w) (hk:∀b q s o,E b=some (q,s,o)→w'.heap[q]? = w.heap[q]?):WR P E wl w':=by
 refine ⟨fun b q s e=>?_,fun b q s e=>?_,h.inj,h.low⟩
 ·obtain ⟨h1,ol,o,h2,h3,h4⟩:=h.own b q s e
  exact ⟨h1,ol,o,h2,(hk b q s _ e).trans h3,h4⟩
 ·obtain ⟨x,T,y,T',fr,h1,h2,h3,h4⟩:=h.shared b q s e
  exact ⟨x,T,y,T',fr,h1,h2,(hk b q s _ e).trans h3,h4⟩
theorem Res.keep {k:Nat} {v:Value} {RS:Nat→Prop} {w w':World} (h:Res P c Post k v RS w) (hk:∀q,c.Fix q∨RS q→w'.heap[q]? = w.heap[q]?):Res P c Post k v RS w':=by
 obtain ⟨E,vl,wl,h1,h2,h3,h4⟩:=h
 refine ⟨E,vl,wl,h1,h2,h3.keep fun b q s o e=>hk q ?_,h4⟩
 rcases h4 b q s o e with ⟨_,h5⟩ | h5
 ·exact .inl h5
 ·exact .inr h5
structure Mem (P:Program) (c:Cst) (Post:Nat→Value→World→Prop) (zs:Nat→ZW P) (top snt:Nat) (fnd:Nat→Option Nat) (RS:Nat→Nat→Prop) (blk:Nat→Option Nat) (w:World):Prop where
 ok:c.Ok w
 jb0:∀k,snt≤k→fnd k=none
 jb1:∀k,k<snt→∃i,c.S0≤i∧i<top∧fnd k=some i
 jb2:∀i k,c.S0≤i→i<top→holds (zs i) k→k<snt∧fnd k=some i
 jb3:∀k i,fnd k=some i→¬holds (zs i) k→∃v,w.cell? ⟨c.Fd,k,none⟩=some v∧Res P c Post k v (RS k) w
 jb4:∀i k v m,c.S0≤i→i<top→zs i=.po k v m→Res P c Post k v (RS k) w
 us1:∀i q,c.S0≤i→i<top→inUse (zs i) q→c.N1≤q∧q<w.heap.size∧blk q=some i
 us2:∀k q,RS k q→c.N1≤q∧q<w.heap.size
 us3:∀i k q,c.S0≤i→i<top→inUse (zs i) q→¬RS k q
 us4:∀q i,blk q=some i→c.N1≤q∧q<w.heap.size
variable {zs zs':Nat→ZW P} {top snt:Nat} {fnd:Nat→Option Nat} {RS:Nat→Nat→Prop} {blk:Nat→Option Nat} {w w':World}
omit [Fns] in
theorem Cst.Ok.keep (h:c.Ok w) (hf:∀q,c.Fix q→w'.heap[q]? = w.heap[q]?) (hd:w'.heap[c.Fd]? = w.heap[c.Fd]?) (hs:w.heap.size≤w'.heap.size) (he:w'.os=w.os∧w'.output=w.output):c.Ok w' :=
 ⟨fun q hq=>(hf q hq).trans (h.fix q hq),by rw[hd];exact h.fd,Nat.le_trans h.big hs,he.1.trans h.env.1,he.2.trans h.env.2⟩
theorem Mem.turn (h:Mem P c Post zs top snt fnd RS blk w) (hk:∀q,q≠c.C1→q≠c.C2→w'.heap[q]? = w.heap[q]?) (hse:w'.heap.size=w.heap.size∧w'.os=w.os∧w'.output=w.output) (hC:c.Fd≠c.C1∧c.Fd≠c.C2∧c.C1<c.N1∧c.C2<c.N1)
  (hh:∀i k,c.S0≤i→i<top→(holds (zs' i) k↔holds (zs i) k)) (hu:∀i q,c.S0≤i→i<top→inUse (zs' i) q→inUse (zs i) q) (hp:∀i k v m,c.S0≤i→i<top→zs' i=.po k v m→∃m',zs i=.po k v m'):Mem P c Post zs' top snt fnd RS blk w':=by
 obtain ⟨hs,he⟩:=hse
 have hfx:∀q,c.Fix q→w'.heap[q]? = w.heap[q]?:=fun q hq=>hk q hq.2.2.1 hq.2.2.2.1
 have hfd:w'.heap[c.Fd]? = w.heap[c.Fd]?:=hk _ hC.1 hC.2.1
 have hbig:∀q,c.N1≤q→w'.heap[q]? = w.heap[q]?:=fun q hq=>hk q (by omega) (by omega)
 have hres:∀k v,Res P c Post k v (RS k) w→Res P c Post k v (RS k) w':=fun k v hr=>hr.keep fun q hq=>by
  rcases hq with hq | hq
  ·exact hfx q hq
  ·exact hbig q (h.us2 k q hq).1
 have hin:∀k i,fnd k=some i→c.S0≤i∧i<top:=fun k i e=>by
  by_cases hks:k<snt
  ·obtain ⟨i',h1,h2,h3⟩:=h.jb1 k hks
   rw[e] at h3
   cases h3
   exact ⟨h1,h2⟩
  ·rw[h.jb0 k (by omega)] at e;cases e
 refine ⟨h.ok.keep hfx hfd (by omega) he,h.jb0,h.jb1,fun i k h1 h2 h3=>h.jb2 i k h1 h2 ((hh i k h1 h2).1 h3),fun k i h1 h2=>?_,fun i k v m h1 h2 h3=>?_,fun i q h1 h2 h3=>?_,fun k q h1=>?_,fun i k q h1 h2 h3=>h.us3 i k q h1 h2 (hu i q h1 h2 h3),fun q i h1=>?_⟩
 ·obtain ⟨ha,hb⟩:=hin k i h1
  obtain ⟨v,h3,h4⟩:=h.jb3 k i h1 (fun e=>h2 ((hh i k ha hb).2 e))
  refine ⟨v,?_,hres k v h4⟩
  rw[←h3]
  unfold World.cell?
  rw[hfd]
 ·obtain ⟨m',h4⟩:=hp i k v m h1 h2 h3
  exact hres k v (h.jb4 i k v m' h1 h2 h4)
 ·rw[hs];exact h.us1 i q h1 h2 (hu i q h1 h2 h3)
 ·rw[hs];exact h.us2 k q h1
 ·rw[hs];exact h.us4 q i h1
theorem Mem.call (h:Mem P c Post zs top snt fnd RS blk w) {i k:Nat} (hi:c.S0≤i) (hit:i<top) {E E':Env} {s':{ s:Gh // Acc (After P [trap P]) s }} (hz:(∀q,inUse (zs i) q↔∃b s,E b=some (q,s,true))) (hzk:∀j,holds (zs i) j↔k=j) (hf:FC E E' w w') (hsh:∀b q s,E b=some (q,s,false)→c.Fix q) (hC:c.Fd<c.N1) :
  ∃blk',Mem P c Post (upd' zs i (.ca k E' s')) top snt fnd RS blk' w'∧(∀q,blk' q=blk q∨(w.heap.size≤q∧blk' q=some i))∧(∀b q s,E' b=some (q,s,true)→blk' q=some i)∧∀b q s,E' b=some (q,s,false)→c.Fix q:=by
 have hown:∀b q s,E b=some (q,s,true)→c.N1≤q∧q<w.heap.size∧blk q=some i:=fun b q s e=>h.us1 i q hi hit ((hz q).2 ⟨b,s,e⟩)
 have hkeep:∀q,q<w.heap.size→(∀b s,E b≠some (q,s,true))→w'.heap[q]? = w.heap[q]?:=hf.keep
 have hfix:∀q,q<c.N1→w'.heap[q]? = w.heap[q]?:=fun q hq=>hkeep q (Nat.lt_of_lt_of_le hq h.ok.big) (fun b s e=>by have:=(hown b q s e).1;omega)
 have hres:∀j v,Res P c Post j v (RS j) w→Res P c Post j v (RS j) w':=fun j v hr=>hr.keep fun q hq=>by
  rcases hq with hq | hq
  ·exact hfix q hq.1
  ·exact hkeep q (h.us2 j q hq).2 (fun b s e=>h.us3 i j q hi hit ((hz q).2 ⟨b,s,e⟩) hq)
 have hfr:∀b q s,E' b=some (q,s,true)→(∃b s,E b=some (q,s,true))∨w.heap.size≤q∧q<w'.heap.size:=fun b q s e=>by
  rcases hf.fresh b q s true e with h1 | ⟨h1,h2,_⟩
  ·exact .inl ⟨b,s,h1⟩
  ·exact .inr ⟨h1,h2⟩
 classical
 refine ⟨fun q=>if ∃b s,E' b=some (q,s,true) then some i else blk q,⟨h.ok.keep (fun q hq=>hfix q hq.1) (hfix _ hC) hf.size ⟨hf.os,hf.output⟩,h.jb0,h.jb1,fun j k' h1 h2 h3=>?_,fun k' j h1 h2=>?_,fun j k' v m h1 h2 h3=>?_,fun j q h1 h2 h3=>?_,fun k' q h1=>?_,fun j k' q h1 h2 h3=>?_,fun q j h1=>?_⟩,fun q=>?_,fun b q s e=>?_,fun b q s e=>?_⟩
 ·by_cases e:j=i
  ·subst e
   rw[upd'_same] at h3
   exact h.jb2 j k' h1 h2 ((hzk k').2 h3)
  ·rw[upd'_ne _ _ e] at h3
   exact h.jb2 j k' h1 h2 h3
 ·have h2':¬holds (zs j) k':=fun e=>h2 (by
   by_cases ej:j=i
   ·subst ej
    rw[upd'_same]
    exact (hzk k').1 e
   ·rw[upd'_ne _ _ ej];exact e)
  obtain ⟨v,h3,h4⟩:=h.jb3 k' j h1 h2'
  refine ⟨v,?_,hres k' v h4⟩
  rw[←h3]
  unfold World.cell?
  rw[hfix _ hC]
 ·by_cases e:j=i
  ·subst e;rw[upd'_same] at h3;cases h3
  ·rw[upd'_ne _ _ e] at h3
   exact hres k' v (h.jb4 j k' v m h1 h2 h3)
 ·by_cases e:j=i
  ·subst e
   rw[upd'_same] at h3
   obtain ⟨b,s,h4⟩:=h3
   refine ⟨?_,?_,by show (if _ then _ else _)=_;rw[if_pos ⟨b,s,h4⟩]⟩
   ·rcases hfr b q s h4 with ⟨b2,s2,h5⟩ | ⟨h5,_⟩
    ·exact (hown b2 q s2 h5).1
    ·exact Nat.le_trans h.ok.big h5
   ·rcases hfr b q s h4 with ⟨b2,s2,h5⟩ | ⟨_,h5⟩
    ·exact Nat.lt_of_lt_of_le (hown b2 q s2 h5).2.1 hf.size
    ·exact h5
  ·rw[upd'_ne _ _ e] at h3
   obtain ⟨h4,h5,h6⟩:=h.us1 j q h1 h2 h3
   refine ⟨h4,Nat.lt_of_lt_of_le h5 hf.size,?_⟩
   show (if _ then _ else _)=_
   rw[if_neg]
   ·exact h6
   ·rintro ⟨b,s,h7⟩
    rcases hfr b q s h7 with ⟨b2,s2,h8⟩ | ⟨h8,_⟩
    ·have:=(hown b2 q s2 h8).2.2
     rw[h6] at this
     injection this with this
     exact e this
    ·omega
 ·obtain ⟨h2,h3⟩:=h.us2 k' q h1
  exact ⟨h2,Nat.lt_of_lt_of_le h3 hf.size⟩
 ·by_cases e:j=i
  ·subst e
   rw[upd'_same] at h3
   obtain ⟨b,s,h4⟩:=h3
   intro h5
   rcases hfr b q s h4 with ⟨b2,s2,h6⟩ | ⟨h6,_⟩
   ·exact h.us3 j k' q h1 h2 ((hz q).2 ⟨b2,s2,h6⟩) h5
   ·have:=(h.us2 k' q h5).2;omega
  ·rw[upd'_ne _ _ e] at h3
   exact h.us3 j k' q h1 h2 h3
 ·have h1':(if ∃b s,E' b=some (q,s,true) then some i else blk q)=some j:=h1
  by_cases hq:∃b s,E' b=some (q,s,true)
  ·obtain ⟨b,s,h4⟩:=hq
   rcases hfr b q s h4 with ⟨b2,s2,h5⟩ | ⟨h5,h6⟩
   ·obtain ⟨h6,h7,_⟩:=hown b2 q s2 h5
    exact ⟨h6,Nat.lt_of_lt_of_le h7 hf.size⟩
   ·exact ⟨Nat.le_trans h.ok.big h5,h6⟩
  ·rw[if_neg hq] at h1'
   obtain ⟨h6,h7⟩:=h.us4 q j h1'
   exact ⟨h6,Nat.lt_of_lt_of_le h7 hf.size⟩
 ·show (if ∃b s,E' b=some (q,s,true) then some i else blk q)=blk q∨_∧(if _ then _ else _)=_
  by_cases hq:∃b s,E' b=some (q,s,true)
  ·rw[if_pos hq]
   obtain ⟨b,s,h4⟩:=hq
   rcases hfr b q s h4 with ⟨b2,s2,h5⟩ | ⟨h5,h6⟩
   ·exact .inl (hown b2 q s2 h5).2.2.symm
   ·exact .inr ⟨h5,rfl⟩
  ·rw[if_neg hq];exact .inl rfl
 ·show (if ∃b s,E' b=some (q,s,true) then some i else blk q)=some i
  rw[if_pos ⟨b,s,e⟩]
 ·rcases hf.fresh b q s false e with h1 | ⟨_,_,h2⟩
  ·exact hsh b q s h1
  ·cases h2
end
end Go.Proofs.Ytpdemelchhkfaaa.Cs
