import Derived.Test.YtgacaecjinlhiaaGreatDoorJn39
namespace Go.Proofs.YtgacaecjinlhiaaGreatDoor
namespace Nm
open Go Go.Conc
section
variable {P:Program}
theorem fZ {q:Question} {w w':World} {k:Nat} (h:(choose q).run P w=.ok k w'):w'.heap=w.heap:=by
 unfold choose Sem.run at h
 split at h
 ·cases h
  rfl
 ·cases h
  rfl
def One (g:Goroutine) (n:Nat) (m:Machine):Prop:=∃w sl,m=crowd #[g] w sl∧w.heap.size=n
def iX (g:Goroutine) (n:Nat):Move→Prop
 | .goroutine m i=>i=0∧One g n m
 | .machine (.next m) ops=>ops=#[]∧One g n m
 | .machine (.ended _ _) _=>True
theorem B7 (t:Nat):due #[] t=[]:=by simp[due]
theorem Gj (g:Goroutine) (t:Nat):runnable #[g] t=[]∨runnable #[g] t=[0]:=by
 rw[runnable_eq]
 simp only[List.size_toArray,List.length_singleton]
 rw[show List.range 1=[0] from rfl]
 by_cases h:g.canRun t=true
 ·exact .inr (by simp[List.filter,h])
 ·exact .inl (by simp[List.filter,h])
theorem BA (g:Goroutine) (w:World) (sl:Option (Nat × Nat)):iX g w.heap.size (askOn P (crowd #[g] w sl)):=by
 have one:∀(w1:World) (sl1:Option (Nat × Nat)),w1.heap=w.heap→One g w.heap.size (crowd #[g] w1 sl1):=fun w1 sl1 h=>⟨w1,sl1,rfl,by rw[h]⟩
 have adv:∀(w1:World) (t:Nat),w1.heap=w.heap→One g w.heap.size ((crowd #[g] w1 sl).advanceTo t):=fun w1 t h=>⟨{ w1 with os:=w1.os.advanceTo t },sl,rfl,by rw[←h]⟩
 have pick:∀w1:World,w1.heap=w.heap→iX g w.heap.size (match (choose (.sched [0].length)).run P w1 with
   | .halt _ w => .machine (.ended (.stuck "sched" "") w)
   | .ok k world =>
    if [0].length≤1 then .goroutine { (crowd #[g] w1 sl) with world } ([0].getD k 0) else
    match (choose (.extern "sched.slice" 65536)).run P world with
    | .halt _ w => .machine (.ended (.stuck "sched.slice" "") w)
    | .ok n world=>.goroutine { (crowd #[g] w1 sl) with world,rest:={ (crowd #[g] w1 sl).rest with slice:=if n=0 then none else some ([0].getD k 0,n) } } ([0].getD k 0)):=fun w1 h=>by
  split
  ·trivial
  ·next k w2 e =>
   rw[if_pos (by decide)]
   refine ⟨?_,one w2 sl ((fZ e).trans h)⟩
   cases k <;> rfl
 unfold askOn
 dsimp only
 rw[show due (crowd #[g] w sl).rest.timers (crowd #[g] w sl).world.os.mono=[] from B7 _]
 rw[if_pos (by rfl)]
 show iX g w.heap.size (if 0<[].length then _ else _)
 rw[if_neg (by simp)]
 rcases Gj g w.os.mono with e | e
 ·rw[show runnable (crowd #[g] w sl).gs (crowd #[g] w sl).world.os.mono=[] from e]
  dsimp only
  split
  ·exact ⟨rfl,adv w _ rfl⟩
  ·split
   ·exact ⟨rfl,one w sl rfl⟩
   ·split <;> trivial
 ·rw[show runnable (crowd #[g] w sl).gs (crowd #[g] w sl).world.os.mono=[0] from e]
  dsimp only
  split
  ·exact pick w rfl
  ·split
   ·trivial
   ·next e=>exact pick _ (fZ e)
   ·next e=>exact ⟨rfl,adv _ _ (fZ e)⟩
   ·next k w1 e=>exact pick { w1 with os:=w1.os.advanceTo _ } (show w1.heap=w.heap from fZ e)
theorem ye {g:Goroutine} {n:Nat} {c:Prop} [Decidable c] {a b:Move} (h:c→iX g n a) (k:iX g n b):iX g n (if c then a else b):=by
 split
 ·exact h ‹_›
 ·exact k
theorem EP (g:Goroutine) (w:World) (sl:Option (Nat × Nat)):iX g w.heap.size (move P (crowd #[g] w sl)):=by
 have ak:∀sl,iX g w.heap.size (ask P (crowd #[g] w sl)):=fun sl=>by
  unfold ask
  rw[if_neg (by simp[crowd])]
  exact BA g w sl
 unfold move
 dsimp only[crowd]
 split
 ·next i n =>
  refine ye (fun h=>?_) (ak none)
  refine ⟨?_,⟨w,_,rfl,rfl⟩⟩
  have:=lt_of_any _ _ _ h
  simp at this
  exact this
 ·exact ak _
def Ops (n:Nat) (ops:Array MemOp):Prop:=(∀o ∈ ops,(o.act.touch? = none∨o.g=0)∧∀a,o.act.touch? = some a→match a.loc with
 | .cell a=>a.block<n
 | .obj q=>q<n
 | _=>True)∧∀g d,ops.toList.foldl (deafStep g) d=d
theorem Ops.nil (n:Nat):Ops n #[]:=⟨fun o ho=>by simp at ho,fun _ _=>rfl⟩
theorem Ops.app {n:Nat} {a b:Array MemOp} (h:Ops n a) (k:Ops n b):Ops n (a++b):=⟨fun o ho=>(Array.mem_append.1 ho).elim (h.1 o) (k.1 o),fun g d=>by rw[Array.toList_append,List.foldl_append,h.2,k.2]⟩
theorem Ops.up {n m:Nat} {a:Array MemOp} (h:Ops n a) (hn:n≤m):Ops m a:=⟨fun o ho=>⟨(h.1 o ho).1,fun x hx=>by
 have:=(h.1 o ho).2 x hx
 revert this
 cases x.loc with
 | cell p=>exact fun this=>Nat.lt_of_lt_of_le this hn
 | obj q=>exact fun this=>Nat.lt_of_lt_of_le this hn
 | _=>exact id⟩,h.2⟩
theorem Ops.mute {n:Nat} {a:Array MemOp} (h:∀o ∈ a,o.act.touch? = none∧∀m,o.act≠.mark m):Ops n a:=⟨fun o ho=>⟨.inl (h o ho).1,fun x hx=>by rw[(h o ho).1] at hx;cases hx⟩,fun g d=>by
 obtain ⟨l⟩:=a
 have h':∀o ∈ l,∀m,o.act≠.mark m:=fun o ho=>(h o (by simpa using ho)).2
 clear h
 induction l with
 | nil=>rfl
 | cons o l ih =>
  have e:deafStep g d o=d:=by
   unfold deafStep
   split
   ·rename_i e;exact absurd e (h' o (by simp) _)
   ·rename_i e;exact absurd e (h' o (by simp) _)
   ·rfl
  show List.foldl (deafStep g) (deafStep g d o) l=d
  rw[e]
  exact ih fun o ho=>h' o (by simp[ho])⟩
theorem Fp (g d:Nat) (fn:FuncId) (pos:String) (e:Event):deafStep g d { g:=0,fn,pos,act:=.ofEvent e }=if g=0 then deafBehind d #[e] else d:=by
 obtain ⟨lc,x,y⟩:=e
 by_cases hg:g=0
 ·subst hg
  cases lc with
  | mark m=>cases m <;> rfl
  | obj c=>cases x <;> cases y <;> rfl
  | _=>rfl
 ·rw[if_neg hg]
  have hg':¬0=g:=fun e=>hg e.symm
  cases lc with
  | mark m=>cases m <;> simp[deafStep,MemAct.ofEvent,hg']
  | obj c=>cases x <;> cases y <;> rfl
  | _=>rfl
theorem Ops.of {w:World} {es:Array Event} (h:Ev w es) (fn:FuncId) (pos:String):Ops w.heap.size (MemOp.ofEvents 0 fn pos es):=by
 refine ⟨fun o ho=>?_,fun g d=>?_⟩
 ·obtain ⟨e,he,rfl⟩:=Conc.mem_ofEvents ho
  refine ⟨.inr rfl,fun a ha=>?_⟩
  have hl:=h.1 e he
  obtain ⟨lc,x,y⟩:=e
  cases lc with
  | cell p =>
   cases ha
   exact hl
  | obj q =>
   cases x <;> cases y <;> cases ha <;> exact hl
  | output =>
   cases ha
   trivial
  | goroutines =>
   cases ha
   trivial
  | mark m =>
   rcases hl.1 with (rfl | ⟨f,rfl⟩) | rfl | rfl <;> cases ha
 ·rw[ofEvents_eq]
  have key:∀(l:List Event) (d:Nat),(l.map fun e=>({ g:=0,fn,pos,act:=.ofEvent e }:MemOp)).foldl (deafStep g) d=if g=0 then deafBehind d l.toArray else d:=fun l=>by
   induction l with
   | nil =>
    intro d
    split <;> rfl
   | cons e l ih =>
    intro d
    rw[List.map_cons,List.foldl_cons,Fp,ih]
    by_cases hg:g=0
    ·rw[if_pos hg,if_pos hg,if_pos hg]
     unfold deafBehind
     simp
    ·rw[if_neg hg,if_neg hg,if_neg hg]
  have:=key es.toList d
  rw[Array.toList_map,this]
  split
  ·exact h.2 d
  ·rfl
theorem BG (rest:Rest) (gs:Array Goroutine) (i:Nat) (g:Goroutine) (cases:Array CommCase) (b:Bool) (sh:CommShape) (w:World):∀o ∈ (communicate P rest gs i g cases b sh w).2,∀m,o.act≠.mark m:=by
 unfold communicate
 simp only[]
 repeat' first
  | (intro o ho;simp at ho;done)
  | (intro o ho m;simp at ho;rcases ho with rfl | rfl | rfl | rfl <;> (intro e;cases e))
  | (intro o ho m;simp at ho;rcases ho with rfl | rfl <;> (intro e;cases e))
  | (intro o ho m;simp at ho;subst ho;intro e;cases e)
  | split
def okR (n:Nat) (ops:Array MemOp):Stepped→Prop
 | .next m=>m.gs.size=1→∃g n',okG g∧One g n' m∧n≤n'∧Ops n' ops
 | .ended _ _=>True
theorem sZ {g:Goroutine} (h:okG g) {n:Nat} {w:World} (hs:n≤w.heap.size) {sl:Option (Nat × Nat)} {ops:Array MemOp} (ho:Ops w.heap.size ops) {gs:Array Goroutine} (hg:gs=#[g]):okR n ops (.next { world:=w,gs:=gs,rest:={ timers:=#[],alone:=none,slice:=sl } }):=fun _=>by
 subst hg
 exact ⟨g,_,h,⟨w,sl,rfl,rfl⟩,hs,ho⟩
theorem s7 {g:Goroutine} (h:okG g) {n:Nat} {w:World} (hs:n≤w.heap.size) {sl:Option (Nat × Nat)} {rest:Rest} {ops:Array MemOp} (ho:Ops w.heap.size ops) {gs:Array Goroutine} (hg:gs=#[g]) (hr:rest={ timers:=#[],alone:=none,slice:=sl }):okR n ops (.next { world:=w,gs:=gs,rest:=rest }):=by
 subst hr
 exact sZ h hs ho hg
theorem oQ {gs:Array Goroutine} (h:gs.size=1) {g:Goroutine}:gs.setIfInBounds 0 g=#[g]:=by
 obtain ⟨l⟩:=gs
 rcases l with _ | ⟨a,_ | ⟨b,l⟩⟩
 ·cases h
 ·rfl
 ·simp at h
theorem qc {gs:Array Goroutine} (h:gs.size=1) {k m:Nat} {v:Value}:(finishPartner P gs k m v).size=1:=by
 unfold finishPartner
 rw[Array.size_modify,h]
theorem Bq {rest:Rest} {cases:Array CommCase} {w w':World} (h:waitingAt rest cases w=some w'):w'.heap=w.heap:=by
 unfold waitingAt at h
 split at h
 ·split at h
  ·cases h
   rfl
  ·cases h
 ·cases h
  rfl
theorem Ge {α:Type} {s:Sem α} {w w':World} {x:Halt} (h:s.run P w=.halt x w'):w.heap.size≤w'.heap.size:=by
 have:=Ct (P:=P) s w
 rw[h] at this
 exact this
theorem CJ (sl:Option (Nat × Nat)) (d g:Goroutine) (h:okG g) (cases:Array CommCase) (b:Bool) (sh:CommShape) (w:World) (n:Nat) (hn:n≤w.heap.size):okR n (communicate P { timers:=#[],alone:=none,slice:=sl } #[d] 0 g cases b sh w).2 (communicate P { timers:=#[],alone:=none,slice:=sl } #[d] 0 g cases b sh w).1:=by
 have hm:∀k,Ops k (communicate P { timers:=#[],alone:=none,slice:=sl } #[d] 0 g cases b sh w).2:=fun k=>Ops.mute fun o ho=>⟨communicate_silent _ _ _ _ _ _ _ _ _ o ho,BG _ _ _ _ _ _ _ _ o ho⟩
 generalize (communicate P { timers:=#[],alone:=none,slice:=sl } #[d] 0 g cases b sh w).2=ops at hm ⊢
 have fin:∀(w1:World) (gs:Array Goroutine) (k:Int) (v:Value) (ok:Bool),n≤w1.heap.size→gs.size=1→okR n ops (.next { world:=w1,gs:=gs.setIfInBounds 0 (g.finishComm P cases sh k v ok),rest:={ timers:=#[],alone:=none,slice:=sl } }):=fun w1 gs k v ok hs hg=>sZ (g:=g.finishComm P cases sh k v ok) ⟨cS h.1 _,h.2⟩ hs (hm _) (oQ hg)
 have h1:(#[d]:Array Goroutine).size=1:=rfl
 unfold communicate
 simp only[]
 split
 ·trivial
 split
 ·split
  ·split
   ·next w1 e=>exact sZ (g:={ g with status:=.blocked,offers:=some (cases,sh) }) h (by rw[Bq e];exact hn) (hm _) (oQ h1)
   ·trivial
  ·exact fin _ _ _ _ _ hn h1
 ·split
  ·trivial
  ·next k c way w1 e =>
   have hn1:n≤w1.heap.size:=Nat.le_trans hn (iw e)
   split
   ·split
    ·exact sZ (g:={ g with frame:=g.frame.raise _ }) ⟨fQ h.1 _,h.2⟩ (by next e2=>exact Nat.le_trans hn1 (Ge e2)) (hm _) (oQ h1)
    ·trivial
   ·exact fin _ _ _ _ _ hn1 h1
   ·exact fin _ _ _ _ _ (by simpa using hn1) h1
   ·split
    ·exact fin _ _ _ _ _ (by simpa using hn1) h1
    ·split
     ·next e2=>exact fin _ _ _ _ _ (by simpa using Nat.le_trans hn1 (iw e2)) (qc h1)
     ·trivial
   ·exact fin _ _ _ _ _ (by simpa using hn1) (qc h1)
   ·exact fin _ _ _ _ _ (by simpa using hn1) (qc h1)
   ·trivial
theorem GQ {n n1:Nat} {ops more:Array MemOp} {s:Stepped} (h:n≤n1) (ho:Ops n1 ops) (k:okR n1 more s):okR n (ops++more) s:=by
 cases s with
 | next m =>
  intro h1
  obtain ⟨g2,n2,a,b,c,d⟩:=k h1
  exact ⟨g2,n2,a,b,Nat.le_trans h c,(ho.up c).app d⟩
 | ended o w=>trivial
theorem mod_one {g:Goroutine} (h:okG g) (k:Nat):∃me,okG me∧(((#[{ (default:Goroutine) with status:=.finished }]:Array Goroutine).setIfInBounds 0 g).modify k fun o=>{ o with status:=.running })=#[me]:=by
 cases k with
 | zero=>exact ⟨{ g with status:=.running },h,rfl⟩
 | succ k =>
  refine ⟨g,h,?_⟩
  apply Array.ext_getElem?
  intro i
  rw[Array.getElem?_modify]
  split
  ·next e =>
   subst e
   rfl
  ·rfl
theorem DK (Q:Quiet P) (g:Goroutine) (w:World) (sl:Option (Nat × Nat)) (h:okG g):okR w.heap.size (Go.runT P (crowd #[g] w sl) 0).2 (Go.runT P (crowd #[g] w sl) 0).1:=by
 have hk:=FD Q true g w h
 unfold Go.runT
 show okR w.heap.size _ _
 have e:(crowd #[g] w sl).gs.swapAt! 0 { (default:Goroutine) with status:=.finished }=(g,#[{ (default:Goroutine) with status:=.finished }]):=rfl
 simp only[e]
 have e0:((0:Nat)==0)=true:=rfl
 rw[e0]
 show okR w.heap.size _ _
 have hw:(crowd #[g] w sl).world=w:=rfl
 rw[hw]
 cases hs:stepG P true g w with
 | go g' w' es =>
  rw[hs] at hk
  exact s7 (sl:=sl) hk.1 hk.2.1 (Ops.of hk.2.2 _ _) (oQ (by split <;> simp)) (by split <;> rfl)
 | comm g' cs b sh w' es =>
  rw[hs] at hk
  have k1:=CJ (P:=P) sl { (default:Goroutine) with status:=.finished } g' hk.1 cs b sh w' w'.heap.size (Nat.le_refl _)
  exact GQ hk.2.1 (Ops.of hk.2.2 _ _) k1
 | spawn g' c w' es =>
  intro h1
  simp at h1
 | coroswitch g' c b w' es =>
  rw[hs] at hk
  dsimp only
  split
  ·next h0 _ =>
   obtain ⟨me,hme,e2⟩:=mod_one (g:=if b=true then { g' with status:=.finished } else { g' with frame:=g'.frame.finish undef,status:=.parked }) (by
    split
    ·exact hk.1
    ·exact ⟨cS hk.1.1 _,hk.1.2⟩) h0
   exact s7 (sl:=sl) (g:=me) hme (by simpa using hk.2.1) (show Ops (({ w' with heap:=w'.heap.setIfInBounds c (.coro (if b=true then none else some 0)) }:World).heap.size) (MemOp.ofEvents 0 _ _ es) from by simpa using Ops.of hk.2.2 _ _) e2 rfl
  ·exact s7 (sl := sl) (g := { frame := g'.frame, callers := [], status := .running, dying := some { todo := [], texts := [], calling := false, pending := "", runtimeError := false, fatal := some { pieces := [] ++ bytes "fatal error: " :: indentedPieces (bytes "coroswitch on exited coro") ++ [bytes "\n"], text := "coroswitch on exited coro", whole := false, begun := false } } }) ⟨hk.1.1, .nil⟩ hk.2.1 (Ops.of hk.2.2 _ _) rfl rfl
  ·trivial
 | ended o w' es=>trivial
 | count g' w' es=>rw[hs] at hk;exact hk.elim
 | timer g' o w' es=>rw[hs] at hk;exact hk.elim
 | alone g' o w' es=>rw[hs] at hk;exact hk.elim
 | newcoro g' c d w' es=>rw[hs] at hk;exact hk.elim
 | collect g' w' es=>rw[hs] at hk;exact hk.elim
 | watch g' w' es=>rw[hs] at hk;exact hk.elim
theorem Ai (Q:Quiet P) (g:Goroutine) (w:World) (sl:Option (Nat × Nat)) (h:okG g):okR w.heap.size (stepT P (crowd #[g] w sl)).2 (stepT P (crowd #[g] w sl)).1:=by
 have hm:=EP (P:=P) g w sl
 unfold stepT
 cases e:move P (crowd #[g] w sl) with
 | goroutine m i =>
  rw[e] at hm
  obtain ⟨rfl,w1,sl1,rfl,h1⟩:=hm
  have:=DK Q g w1 sl1 h
  rw[h1] at this
  exact this
 | machine s ops =>
  rw[e] at hm
  cases s with
  | next m =>
   obtain ⟨rfl,h1⟩:=hm
   exact fun _=>⟨g,_,h,h1,Nat.le_refl _,Ops.nil _⟩
  | ended o w=>trivial
theorem runNT_size:∀(n:Nat) (m m':Machine) (t t':Trace),runNT P n m t=(.next m',t')→m.gs.size≤m'.gs.size
 | 0,m,m',t,t',h=>by
  cases h
  exact Nat.le_refl _
 | n+1,m,m',t,t',h=>by
  unfold runNT at h
  cases e:stepT P m with
  | mk s ops =>
   rw[e] at h
   cases s with
   | next m1=>exact Nat.le_trans (stepT_size P m m1 true (by rw[e])) (runNT_size n m1 m' _ t' h)
   | ended o w=>cases h
theorem wK (Q:Quiet P):∀(n:Nat) (g:Goroutine) (w:World) (sl:Option (Nat × Nat)) (m':Machine) (t t':Trace),okG g→runNT P n (crowd #[g] w sl) t=(.next m',t')→m'.gs.size=1→∃g' w' sl' u,m'=crowd #[g'] w' sl'∧okG g'∧w.heap.size≤w'.heap.size∧t'=t++u∧Ops w'.heap.size u
 | 0,g,w,sl,m',t,t',h,e,h1=>by
  cases e
  exact ⟨g,w,sl,#[],rfl,h,Nat.le_refl _,by simp,Ops.nil _⟩
 | n+1,g,w,sl,m',t,t',h,e,h1=>by
  have hk:=Ai Q g w sl h
  unfold runNT at e
  cases es:stepT P (crowd #[g] w sl) with
  | mk s ops =>
   rw[es] at e hk
   cases s with
   | next m1 =>
    have hs:=runNT_size n m1 m' _ t' e
    have hs0:=stepT_size P (crowd #[g] w sl) m1 true (by rw[es])
    have hs1:(crowd #[g] w sl).gs.size=1:=rfl
    obtain ⟨g1,n1,a,⟨w1,sl1,rfl,rfl⟩,c,d⟩:=hk (by omega)
    obtain ⟨g2,w2,sl2,u,e2,k1,k2,k3,k4⟩:=wK Q n g1 w1 sl1 m' (t++ops) t' a e h1
    exact ⟨g2,w2,sl2,ops++u,e2,k1,Nat.le_trans c k2,by rw[k3,Array.append_assoc],(d.up k2).app k4⟩
   | ended o w=>cases e
end
end Nm
namespace Nm
open Go Go.Conc Cs
section
variable {P:Program}
theorem IU {n:Nat} {u:Array MemOp} (h:Ops n u) (g:Goroutine) (q:Nat→Nat):Qt P #[g] u q n:=by
 refine ⟨fun i x h1 h2=>?_,fun said=>not_race_of_allBy (Trace.allBy_of_forall fun o ho=>(h.1 o ho).1),⟨u.size,Nat.le_refl _,fun g=>?_,fun i x hi hx=>?_⟩,fun j x a hx ha=>?_,fun j a ha=>?_⟩
 ·have:=bX h2
  simp at this
  omega
 ·have:=Deaf_append #[] g u.toList
  rw[show ((#[]:Trace)++u.toList.toArray)=u by simp,h.2] at this
  exact this
 ·have:=lt_size_of_getElem? hx
  omega
 ·have h1:=(h.1 x (Array.mem_of_getElem? hx)).1
  have k:=knows_own hx
  rcases h1 with h1 | h1
  ·rw[h1] at ha
   cases ha
  ·rw[h1] at k
   exact k
 ·obtain ⟨x,hx,hxa⟩:=touch_of ha
  have:=(h.1 x (Array.mem_of_getElem? hx)).2 a hxa
  unfold gD
  revert this
  cases a.loc <;> exact id
theorem yX (Q:Quiet P) {fr0 fr:Frame} {W w':World} (h0:okT fr0.todo) (hs:Steps P (lone fr0 [] W) (lone fr [] w')):∃N t,runNT P N (crowd #[G fr0 []] W none) #[]=(.next (crowd #[G fr []] w' none),t)∧∀q,Qt P #[G fr []] t q w'.heap.size:=by
 obtain ⟨n,hn⟩:=hs
 have e:runNT P n (crowd #[G fr0 []] W none) #[]=(.next (crowd #[G fr []] w' none),(runNT P n (crowd #[G fr0 []] W none) #[]).2):=by
  refine Prod.ext ?_ rfl
  rw[runNT_fst]
  exact hn
 obtain ⟨g2,w2,sl2,u,e2,k1,k2,k3,k4⟩:=wK Q n _ _ _ _ _ _ ⟨h0,.nil⟩ e rfl
 refine ⟨n,_,e,fun q=>?_⟩
 rw[k3,Array.empty_append]
 have hw:w'=w2:=congrArg (fun m:Machine=>m.world) e2
 rw[hw]
 exact IU k4 _ q
theorem uB {f:FuncId} {T:Array Value} {W:World} {A B C D:Code} {Post:Array Value→World→Prop} (h:A.wp P (Exit.then (B.wp P (Exit.then (C.wp P fun e a w=>e=.normal∧a.defers=[]∧Post a.tmps w) fun e a w=>e=.normal∧a.defers=[]∧Post a.tmps w)) fun e a w=>e=.normal∧a.defers=[]∧Post a.tmps w) ⟨T,[]⟩ W) :
  ∃T' w',Post T' w'∧Steps P (lone (mkF f T [.code (.seq A (.seq B (.seq C D)))] .run) [] W) (lone (mkF f T' [.code D] .run) [] w'):=by
 have s1:∀(x:Array Value) (d:List Deferred) (a b:Code) (w:World),Steps P (lone ((mkF f #[] [] .run).at ⟨x,d⟩ [.code (.seq a b)]) [] w) (lone ((mkF f #[] [] .run).at ⟨x,d⟩ [.code a,.code b]) [] w):=fun x d a b w=>⟨1,by
  simp only[runN]
  rw[step_lone_go (by rfl)]
  rfl⟩
 obtain ⟨e,a1,w1,hq,harr⟩:=h (mkF f #[] [] .run) [.code (.seq B (.seq C D))] []
 cases e with
 | normal =>
  obtain ⟨e2,a2,w2,hq2,harr2⟩:=hq (mkF f #[] [] .run) [.code (.seq C D)] []
  cases e2 with
  | normal =>
   obtain ⟨e3,a3,w3,hq3,harr3⟩:=hq2 (mkF f #[] [] .run) [.code D] []
   obtain ⟨rfl,hd,hp⟩:=hq3
   obtain ⟨T1,d1⟩:=a1
   obtain ⟨T2,d2⟩:=a2
   obtain ⟨T3,d3⟩:=a3
   obtain rfl:d3=[]:=hd
   exact ⟨T3,w3,hp,(s1 T [] A _ W).trans (Steps.trans harr ((s1 T1 d1 B _ w1).trans (Steps.trans harr2 ((s1 T2 d2 C D w2).trans harr3))))⟩
  | _=>exact absurd hq2.1 (by simp)
 | _=>exact absurd hq.1 (by simp)
end
end Nm
namespace Nm
open Go Go.Conc
section
variable {P:Program}
instance (s:String):NM P (Extern.RuntimeError.text s):=by
 unfold Extern.RuntimeError.text
 repeat' (first | infer_instance | (refine bE ?_ fun _=>?_) | (refine dW ?_ ?_) | (refine c7 (fun _ _=>?_) _ _) | (refine de (fun _ _=>?_) _ _) | split | dsimp only)
instance (xs:Array Value):NM P (Extern.RuntimeError.nothing xs):=by
 unfold Extern.RuntimeError.nothing
 repeat' (first | infer_instance | (refine bE ?_ fun _=>?_) | (refine dW ?_ ?_) | (refine c7 (fun _ _=>?_) _ _) | (refine de (fun _ _=>?_) _ _) | split | dsimp only)
instance (v:Value):NM P (Extern.RuntimeError.described v):=by
 unfold Extern.RuntimeError.described
 repeat' (first | infer_instance | (refine bE ?_ fun _=>?_) | (refine dW ?_ ?_) | (refine c7 (fun _ _=>?_) _ _) | (refine de (fun _ _=>?_) _ _) | split | dsimp only)
instance (v:TypeInfo):NM P (Extern.RuntimeError.pkgpathOf v):=by
 unfold Extern.RuntimeError.pkgpathOf
 repeat' (first | infer_instance | (refine bE ?_ fun _=>?_) | (refine dW ?_ ?_) | (refine c7 (fun _ _=>?_) _ _) | (refine de (fun _ _=>?_) _ _) | split | dsimp only)
instance (xs:Array Value):NM P (Extern.RuntimeError.typeAssertionError xs):=by
 unfold Extern.RuntimeError.typeAssertionError
 repeat' (first | infer_instance | (refine bE ?_ fun _=>?_) | (refine dW ?_ ?_) | (refine c7 (fun _ _=>?_) _ _) | (refine de (fun _ _=>?_) _ _) | split | dsimp only)
theorem Ih:∀(n:Nat) (a:Addr) (z:ByteArray),NM P (Extern.Bytes.loadBytes a n z)
 | 0,a,z=>by
  unfold Extern.Bytes.loadBytes
  infer_instance
 | n+1,a,z=>by
  have ih:=Ih n
  unfold Extern.Bytes.loadBytes
  repeat' (first | infer_instance | (refine bE ?_ fun _=>?_) | (refine dW ?_ ?_) | (refine c7 (fun _ _=>?_) _ _) | (refine de (fun _ _=>?_) _ _) | split | dsimp only)
instance (a:Addr) (n:Nat) (z:ByteArray):NM P (Extern.Bytes.loadBytes a n z):=Ih n a z
instance (v:Value):NM P (Extern.Bytes.bytesOf v):=by
 unfold Extern.Bytes.bytesOf
 repeat' (first | infer_instance | (refine bE ?_ fun _=>?_) | (refine dW ?_ ?_) | (refine c7 (fun _ _=>?_) _ _) | (refine de (fun _ _=>?_) _ _) | split | dsimp only)
instance (v:Value):NM P (Extern.Bytes.asByte v):=by
 unfold Extern.Bytes.asByte
 repeat' (first | infer_instance | (refine bE ?_ fun _=>?_) | (refine dW ?_ ?_) | (refine c7 (fun _ _=>?_) _ _) | (refine de (fun _ _=>?_) _ _) | split | dsimp only)
instance :NM P (Extern.BytealgIndex.maxLen):=by
 unfold Extern.BytealgIndex.maxLen
 repeat' (first | infer_instance | (refine bE ?_ fun _=>?_) | (refine dW ?_ ?_) | (refine c7 (fun _ _=>?_) _ _) | (refine de (fun _ _=>?_) _ _) | split | dsimp only)
theorem Cx (Q:Sem Value→Prop) (xs:Array Value) (h0:Value→Value→Sem Value) (h1:Array Value→Sem Value) (k0:∀x y,Q (h0 x y)) (k1:∀x,Q (h1 x)):Q (Extern.BytealgIndex.index.match_2 (fun _=>Sem Value) xs h0 h1):=by
 rcases xs with ⟨_ | ⟨a,_ | ⟨b,_ | ⟨c,l⟩⟩⟩⟩
 ·exact k1 _
 ·exact k1 _
 ·exact k0 _ _
 ·exact k1 _
theorem tS (Q:Sem Value→Prop) (xs:Array Value) (h0:Value→Value→Sem Value) (h1:Array Value→Sem Value) (k0:∀x y,Q (h0 x y)) (k1:∀x,Q (h1 x)):Q (Extern.BytealgIndexByte.indexByte.match_2 (fun _=>Sem Value) xs h0 h1):=by
 rcases xs with ⟨_ | ⟨a,_ | ⟨b,_ | ⟨c,l⟩⟩⟩⟩
 ·exact k1 _
 ·exact k1 _
 ·exact k0 _ _
 ·exact k1 _
instance (xs:Array Value):NM P (Extern.BytealgIndex.index xs):=by
 unfold Extern.BytealgIndex.index
 refine Cx (NM P) _ _ _ (fun _ _=>?_) (fun _=>?_) <;> repeat' (first | infer_instance | (refine bE ?_ fun _=>?_) | (refine dW ?_ ?_) | (refine c7 (fun _ _=>?_) _ _) | (refine de (fun _ _=>?_) _ _) | split | dsimp only)
instance (xs:Array Value):NM P (Extern.BytealgIndexByte.indexByte xs):=by
 unfold Extern.BytealgIndexByte.indexByte
 refine tS (NM P) _ _ _ (fun _ _=>?_) (fun _=>?_) <;> repeat' (first | infer_instance | (refine bE ?_ fun _=>?_) | (refine dW ?_ ?_) | (refine c7 (fun _ _=>?_) _ _) | (refine de (fun _ _=>?_) _ _) | split | dsimp only)
theorem He (Q:Sem Value→Prop) (xs:Array Value) (h0:Value→Sem Value) (h1:Array Value→Sem Value) (k0:∀x,Q (h0 x)) (k1:∀x,Q (h1 x)):Q (Extern.AbiNoEscape.same.match_1 (fun _=>Sem Value) xs h0 h1):=by
 rcases xs with ⟨_ | ⟨a,_ | ⟨b,l⟩⟩⟩
 ·exact k1 _
 ·exact k0 _
 ·exact k1 _
instance (xs:Array Value):NM P (Extern.AbiNoEscape.same xs):=by
 unfold Extern.AbiNoEscape.same
 refine He (NM P) _ _ _ (fun _=>?_) (fun _=>?_) <;> infer_instance
theorem Ju (Q:Sem Value→Prop) (xs:Array Value) (h0:Int→Sem Value) (h1:Array Value→Sem Value) (k0:∀x,Q (h0 x)) (k1:∀x,Q (h1 x)):Q (Extern.BytealgMakeNoZero.makeNoZero.match_3 (fun _=>Sem Value) xs h0 h1):=by
 rcases xs with ⟨_ | ⟨a,_ | ⟨b,l⟩⟩⟩
 ·exact k1 _
 ·cases a with
  | int k n=>cases k <;> first | exact k0 _ | exact k1 _
  | _=>exact k1 _
 ·exact k1 _
instance (ps rs:Array TypeId) (xs:Array Value):NM P (Extern.BytealgMakeNoZero.makeNoZero ps rs xs):=by
 unfold Extern.BytealgMakeNoZero.makeNoZero
 refine Ju (NM P) _ _ _ (fun _=>?_) (fun _=>?_) <;> repeat' (first | infer_instance | (refine bE ?_ fun _=>?_) | (refine dW ?_ ?_) | (refine c7 (fun _ _=>?_) _ _) | (refine de (fun _ _=>?_) _ _) | split | dsimp only)
theorem KI (Q:Sem Value→Prop) (xs:Array Value) (h0:Value→Sem Value) (h1:Array Value→Sem Value) (k0:∀x,Q (h0 x)) (k1:∀x,Q (h1 x)):Q (Extern.RuntimeError.unhashableTypeError.match_1 (fun _=>Sem Value) xs h0 h1):=by
 rcases xs with ⟨_ | ⟨a,_ | ⟨b,l⟩⟩⟩
 ·exact k1 _
 ·cases a with
  | agg x =>
   rcases x with ⟨_ | ⟨a,_ | ⟨b,l⟩⟩⟩
   ·exact k1 _
   ·exact k0 _
   ·exact k1 _
  | _=>exact k1 _
 ·exact k1 _
instance (xs:Array Value):NM P (Extern.RuntimeError.unhashableTypeError xs):=by
 unfold Extern.RuntimeError.unhashableTypeError
 refine KI (NM P) _ _ _ (fun _=>?_) (fun _=>?_) <;> repeat' (first | infer_instance | (refine bE ?_ fun _=>?_) | (refine dW ?_ ?_) | (refine c7 (fun _ _=>?_) _ _) | (refine de (fun _ _=>?_) _ _) | split | dsimp only)
theorem KN (Q:Sem Value→Prop) (xs:Array Value) (h0:IntKind→Int→IntKind→Int→Bool→IntKind→Int→Sem Value) (h1:Array Value→Sem Value) (k0:∀a b c d e f g,Q (h0 a b c d e f g)) (k1:∀x,Q (h1 x)):Q (Extern.RuntimeError.boundsError.match_2 (fun _=>Sem Value) xs h0 h1):=by
 rcases xs with ⟨_ | ⟨a,_ | ⟨b,l⟩⟩⟩
 ·exact k1 _
 ·cases a with
  | agg x =>
   rcases x with ⟨_ | ⟨a,_ | ⟨b,_ | ⟨c,_ | ⟨d,_ | ⟨e,l⟩⟩⟩⟩⟩⟩
   ·exact k1 _
   ·exact k1 _
   ·exact k1 _
   ·exact k1 _
   ·cases a with
    | int=>cases b with
     | int=>cases c with
      | bool=>cases d with
       | int=>exact k0 _ _ _ _ _ _ _
       | _=>exact k1 _
      | _=>exact k1 _
     | _=>exact k1 _
    | _=>exact k1 _
   ·exact k1 _
  | _=>exact k1 _
 ·exact k1 _
instance (xs:Array Value):NM P (Extern.RuntimeError.boundsError xs):=by
 unfold Extern.RuntimeError.boundsError
 refine KN (NM P) _ _ _ (fun _ _ _ _ _ _ _=>?_) (fun _=>?_) <;> repeat' (first | infer_instance | (refine bE ?_ fun _=>?_) | (refine dW ?_ ?_) | (refine c7 (fun _ _=>?_) _ _) | (refine de (fun _ _=>?_) _ _) | split | dsimp only)
end
def nj:List Nat:=[169,174,175,180,196,197,198,199,200,201,202,203,204,205,206,207,209,210,216]
theorem Lt : (Tryz.prog.funcs.toList.all fun fn => !(fn.name == "runtime.NumGoroutine")) = true := by kernel_rfl
theorem LA:(Tryz.prog.funcs.toList.all fun fn=>fn.body.isSome || (Extern.findNext fn).isNone)=true:=by kernel_rfl
theorem LY:((Tryz.prog.funcs.toList.zipIdx).all fun (fn,k)=>fn.body.isSome || (Extern.find fn).isNone || nj.contains k)=true:=by kernel_rfl
theorem q_0:Extern.find Tryz.f169=some (Extern.BytealgIndex.index):=by kernel_rfl
theorem q_1:Extern.find Tryz.f174=some (Extern.AbiNoEscape.same):=by kernel_rfl
theorem q_2:Extern.find Tryz.f175=some (Extern.BytealgMakeNoZero.makeNoZero Tryz.f175.params Tryz.f175.resultTypes):=by kernel_rfl
theorem q_3:Extern.find Tryz.f180=some (Extern.BytealgIndexByte.indexByte):=by kernel_rfl
theorem q_4:Extern.find Tryz.f196=some (Extern.RuntimeError.boundsError):=by kernel_rfl
theorem q_5:Extern.find Tryz.f197=some (Extern.RuntimeError.nothing):=by kernel_rfl
theorem q_6 : Extern.find Tryz.f198 = some (fun args => do pure (.string ("runtime error: ".toUTF8 ++ (← asString (args.getD 0 (.tuple #[])))))) := by kernel_rfl
theorem q_7:Extern.find Tryz.f199=some (Extern.RuntimeError.nothing):=by kernel_rfl
theorem q_8:Extern.find Tryz.f200=some (fun args=>do pure (.string (←asString (args.getD 0 (.tuple #[]))))):=by kernel_rfl
theorem q_9:Extern.find Tryz.f201=some (Extern.RuntimeError.nothing):=by kernel_rfl
theorem LV : Extern.find Tryz.f202 = some (fun args => do pure (.string ("runtime error: ".toUTF8 ++ (← asString ((← asAgg (args.getD 0 (.tuple #[]))).getD 0 (.tuple #[])))))) := by kernel_rfl
theorem LH:Extern.find Tryz.f203=some (Extern.RuntimeError.nothing):=by kernel_rfl
theorem Ll:Extern.find Tryz.f204=some (Extern.RuntimeError.typeAssertionError):=by kernel_rfl
theorem LG:Extern.find Tryz.f205=some (Extern.RuntimeError.nothing):=by kernel_rfl
theorem LI : Extern.find Tryz.f206 = some (fun _ => Extern.RuntimeError.text "runtime error: panic called with nil argument") := by kernel_rfl
theorem LN:Extern.find Tryz.f207=some (Extern.RuntimeError.nothing):=by kernel_rfl
theorem LQ:Extern.find Tryz.f209=some (Extern.RuntimeError.unhashableTypeError):=by kernel_rfl
theorem Lr:Extern.find Tryz.f210=some (Extern.RuntimeError.nothing):=by kernel_rfl
theorem Lz:Extern.find Tryz.f216=some (fun args=>do pure (strVal (Extern.Rtype.kindName (←asInt (args.getD 0 (.tuple #[]))).toNat))):=by kernel_rfl
theorem quiet:Quiet Tryz.prog:=by
 have mem:∀(f:FuncId) (fn:Func),Tryz.prog.funcs[f]? = some fn→fn ∈ Tryz.prog.funcs.toList:=fun f fn h=>Array.mem_toList_iff.2 (Array.mem_of_getElem? h)
 refine ⟨fun f fn h=>?_,fun f fn h hb=>?_,fun f fn e h hb he xs=>?_⟩
 ·have:=List.all_eq_true.1 Lt fn (mem f fn h)
  simpa using this
 ·have:=List.all_eq_true.1 LA fn (mem f fn h)
  cases hn:Extern.findNext fn with
  | none=>rfl
  | some x =>
   rw[hn] at this
   simp at hb this
   rw[hb] at this
   cases this
 ·have hm:(fn,f) ∈ Tryz.prog.funcs.toList.zipIdx:=by
   rw[List.mem_zipIdx_iff_getElem?]
   simpa using h
  have:=List.all_eq_true.1 LY (fn,f) hm
  dsimp only at this
  rw[he] at this
  have hb2:fn.body.isSome=false:=by
   cases hx:fn.body with
   | none=>rfl
   | some x=>rw[hx] at hb;cases hb
  rw[hb2] at this
  have hk:f ∈ nj:=by simpa using this
  unfold nj at hk
  simp only[List.mem_cons,List.not_mem_nil,or_false] at hk
  rcases hk with rfl | rfl | rfl | rfl | rfl | rfl | rfl | rfl | rfl | rfl | rfl | rfl | rfl | rfl | rfl | rfl | rfl | rfl | rfl
  ·rw[Tryz.func169] at h
   cases h
   rw[q_0] at he
   cases he
   infer_instance
  ·rw[Tryz.func174] at h
   cases h
   rw[q_1] at he
   cases he
   infer_instance
  ·rw[Tryz.func175] at h
   cases h
   rw[q_2] at he
   cases he
   infer_instance
  ·rw[Tryz.func180] at h
   cases h
   rw[q_3] at he
   cases he
   infer_instance
  ·rw[Tryz.func196] at h
   cases h
   rw[q_4] at he
   cases he
   infer_instance
  ·rw[Tryz.func197] at h
   cases h
   rw[q_5] at he
   cases he
   infer_instance
  ·rw[Tryz.func198] at h
   cases h
   rw[q_6] at he
   cases he
   infer_instance
  ·rw[Tryz.func199] at h
   cases h
   rw[q_7] at he
   cases he
   infer_instance
  ·rw[Tryz.func200] at h
   cases h
   rw[q_8] at he
   cases he
   infer_instance
  ·rw[Tryz.func201] at h
   cases h
   rw[q_9] at he
   cases he
   infer_instance
  ·rw[Tryz.func202] at h
   cases h
   rw[LV] at he
   cases he
   infer_instance
  ·rw[Tryz.func203] at h
   cases h
   rw[LH] at he
   cases he
   infer_instance
  ·rw[Tryz.func204] at h
   cases h
   rw[Ll] at he
   cases he
   infer_instance
  ·rw[Tryz.func205] at h
   cases h
   rw[LG] at he
   cases he
   infer_instance
  ·rw[Tryz.func206] at h
   cases h
   rw[LI] at he
   cases he
   infer_instance
  ·rw[Tryz.func207] at h
   cases h
   rw[LN] at he
   cases he
   infer_instance
  ·rw[Tryz.func209] at h
   cases h
   rw[LQ] at he
   cases he
   infer_instance
  ·rw[Tryz.func210] at h
   cases h
   rw[Lr] at he
   cases he
   infer_instance
  ·rw[Tryz.func216] at h
   cases h
   rw[Lz] at he
   cases he
   infer_instance
end Nm
end Go.Proofs.YtgacaecjinlhiaaGreatDoor
