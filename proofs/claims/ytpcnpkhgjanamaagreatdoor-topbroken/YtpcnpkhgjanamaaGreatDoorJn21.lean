import Derived.Test.YtpcnpkhgjanamaaGreatDoorPz
import Derived.RangeFuncNested
import Derived.RangeFuncBound
import Derived.Shelf.RegionOpen
import Derived.OwnWalkIn
import Derived.LoopNIn
import Derived.LoopIn
import Derived.Test.YtpcnpkhgjanamaaGreatDoorJn20
import Derived.Test.YtpcnpkhgjanamaaGreatDoorJn10
namespace Go.Proofs.YtpcnpkhgjanamaaGreatDoor
open Go renaming Value→R2,World→V8,Goroutine→Wi,Program→Wr,Frame→WG,FuncId→Xg,Operand→Yb,stepR_block→YV,fenced_wide→Zm
open Go.World renaming putObj_heap_other→XN
open Go.Fence renaming wide→Yd
open Go.StepsIn renaming trans→YD
set_option maxRecDepth 100000
set_option maxHeartbeats 2000000
namespace Nm
open Go Go.Conc
section
variable{P:Wr}
theorem iW{q:Question}{w w':V8}{k:Nat}(h:(choose q).run P w=.ok k w'):w'.heap=w.heap:=by
 unfold choose Sem.run at h;split at h
 ·cases h
  rfl
 ·cases h
  rfl
def One(g:Wi)(n:Nat)(m:Machine):Prop:=∃w sl,m=crowd #[g] w sl∧w.heap.size=n
def mE(g:Wi)(n:Nat):Move→Prop
 |.goroutine m i=>i=0∧One g n m
 |.machine (.next m) ops=>ops=#[]∧One g n m
 |.machine (.ended _ _) _=>True
theorem MF(t:Nat):due #[] t=[]:=by simp[due]
theorem OM(g:Wi)(t:Nat):runnable #[g] t=[]∨runnable #[g] t=[0]:=by
 rw[runnable_eq];simp only[List.size_toArray,List.length_singleton];rw[show List.range 1=[0]from rfl];by_cases h:g.canRun t=true
 ·exact .inr (by simp[List.filter,h])
 ·exact .inl (by simp[List.filter,h])
theorem Gk(g:Wi)(w:V8)(sl:Option (Nat×Nat)):mE g w.heap.size (askOn P (crowd #[g] w sl)):=by
 have one:∀(w1:V8) (sl1:Option (Nat×Nat)),w1.heap=w.heap→One g w.heap.size (crowd #[g] w1 sl1):=fun w1 sl1 h=>⟨w1,sl1,rfl,by rw[h]⟩
 have adv:∀(w1:V8) (t:Nat),w1.heap=w.heap→One g w.heap.size ((crowd #[g] w1 sl).advanceTo t):=fun w1 t h=>⟨{ w1 with os:=w1.os.advanceTo t },sl,rfl,by rw[←h]⟩
 have pick:∀w1:V8,w1.heap=w.heap→mE g w.heap.size (match(choose (.sched [0].length)).run P w1 with
   | .halt _ w => .machine (.ended (.stuck "sched" "") w)
   |.ok k world=>
    if[0].length≤1 then .goroutine { (crowd #[g] w1 sl)with world } ([0].getD k 0)else
    match (choose (.extern "sched.slice" 65536)).run P world with
    | .halt _ w => .machine (.ended (.stuck "sched.slice" "") w)
    |.ok n world=>.goroutine { (crowd #[g] w1 sl)with world,rest:={ (crowd #[g] w1 sl).rest with slice:=if n=0 then none else some ([0].getD k 0,n) } } ([0].getD k 0)):=fun w1 h=>by
  split
  ·trivial
  ·next k w2 e=>
   rw[Wc vde];refine⟨?_,one w2 sl ((iW e).trans h)⟩;cases k<;>rfl
 unfold askOn;dsimp only;rw[show due (crowd #[g] w sl).rest.timers (crowd #[g] w sl).world.os.mono=[]from MF _];rw[if_pos vrf];show mE g w.heap.size (if 0<[].length then _ else _);rw[if_neg vsi];rcases OM g w.os.mono with e|e
 ·rw[show runnable (crowd #[g] w sl).gs (crowd #[g] w sl).world.os.mono=[]from e]
  dsimp only;split
  ·exact⟨rfl,adv w _ rfl⟩
  ·split
   ·exact⟨rfl,one w sl rfl⟩
   ·split<;>trivial
 ·rw[show runnable (crowd #[g] w sl).gs (crowd #[g] w sl).world.os.mono=[0]from e]
  dsimp only;split
  ·exact pick w rfl
  ·split
   ·trivial
   ·next e=>exact pick _ (iW e)
   ·next e=>exact⟨rfl,adv _ _ (iW e)⟩
   ·next k w1 e=>exact pick { w1 with os:=w1.os.advanceTo _ } (show w1.heap=w.heap from iW e)
theorem DM{g:Wi}{n:Nat}{c:Prop}[Decidable c]{a b:Move}(h:c→mE g n a)(k:mE g n b):mE g n (if c then a else b):=by
 split
 ·exact h ‹_›
 ·exact k
theorem LY(g:Wi)(w:V8)(sl:Option (Nat×Nat)):mE g w.heap.size (move P (crowd #[g] w sl)):=by
 have ak:∀sl,mE g w.heap.size (ask P (crowd #[g] w sl)):=fun sl=>by
  unfold ask;rw[V9 (by simp[crowd])];exact Gk g w sl
 unfold move;dsimp only[crowd];split
 ·next i n=>
  refine DM (fun h=>?_) (ak none);refine⟨?_,⟨w,_,rfl,rfl⟩⟩;have:=lt_of_any _ _ _ h;simp at this;exact this
 ·exact ak _
def qy(n:Nat)(ops:Array MemOp):Prop:=(∀o∈ops,(o.act.touch? = none∨o.g=0)∧∀a,o.act.touch? = some a→match a.loc with
 |.cell a=>a.block<n
 |.obj q=>q<n
 |_=>True)∧∀g d,ops.toList.foldl (deafStep g) d=d
theorem qy.nil(n:Nat):qy n #[]:=⟨fun o ho=>by simp at ho,fun _ _=>rfl⟩
theorem qy.app{n:Nat}{a b:Array MemOp}(h:qy n a)(k:qy n b):qy n (a++b):=⟨fun o ho=>(Array.mem_append.1 ho).elim (h.1 o) (k.1 o),fun g d=>by rw[Array.toList_append,List.foldl_append,h.2,k.2]⟩
theorem qy.up{n m:Nat}{a:Array MemOp}(h:qy n a)(hn:n≤m):qy m a:=⟨fun o ho=>⟨(h.1 o ho).1,fun x hx=>by
 have:=(h.1 o ho).2 x hx
 revert this
 cases x.loc with
 |cell p=>exact fun this=>WE this hn
 |obj q=>exact fun this=>WE this hn
 |_=>exact id⟩,h.2⟩
theorem qy.mute{n:Nat}{a:Array MemOp}(h:∀o∈a,o.act.touch? = none∧∀m,o.act≠.mark m):qy n a:=⟨fun o ho=>⟨.inl (h o ho).1,fun x hx=>by rw[(h o ho).1]at hx;cases hx⟩,fun g d=>by
 obtain⟨l⟩:=a;have h':∀o∈l,∀m,o.act≠.mark m:=fun o ho=>(h o (by simpa using ho)).2;clear h
 induction l with
 |nil=>rfl
 |cons o l ih=>
  have e:deafStep g d o=d:=by
   unfold deafStep;split
   ·rename_i e;exact absurd e (h' o vsi _)
   ·rename_i e;exact absurd e (h' o vsi _)
   ·rfl
  show List.foldl (deafStep g) (deafStep g d o) l=d;rw[e];exact ih fun o ho=>h' o (by simp[ho])⟩
theorem Pq(g d:Nat)(fn:Xg)(pos:String)(e:Event):deafStep g d { g:=0,fn,pos,act:=.ofEvent e }=if g=0 then deafBehind d #[e]else d:=by
 obtain⟨lc,x,y⟩:=e;by_cases hg:g=0
 ·subst hg
  cases lc with
  |mark m=>cases m<;>rfl
  |obj c=>cases x<;>cases y<;>rfl
  |_=>rfl
 ·rw[V9 hg]
  have a:¬0=g:=fun e=>hg e.symm;cases lc with
  |mark m=>cases m<;>simp[deafStep,MemAct.ofEvent,a]
  |obj c=>cases x<;>cases y<;>rfl
  |_=>rfl
theorem qy.of{w:V8}{es:Array Event}(h:Ev w es)(fn:Xg)(pos:String):qy w.heap.size (MemOp.ofEvents 0 fn pos es):=by
 refine⟨fun o ho=>?_,fun g d=>?_⟩
 ·obtain⟨e,he,rfl⟩:=Conc.mem_ofEvents ho
  refine⟨.inr rfl,fun a ha=>?_⟩;have hl:=h.1 e he;obtain⟨lc,x,y⟩:=e;cases lc with
  |cell p=>
   cases ha;exact hl
  |obj q=>
   cases x<;>cases y<;>cases ha<;>exact hl
  |output=>
   cases ha;trivial
  |goroutines=>
   cases ha;trivial
  |mark m=>
   rcases hl.1 with(rfl|⟨f,rfl⟩)|rfl|rfl<;>cases ha
 ·rw[ofEvents_eq]
  have key:∀(l:List Event) (d:Nat),(l.map fun e=>({ g:=0,fn,pos,act:=.ofEvent e }:MemOp)).foldl (deafStep g) d=if g=0 then deafBehind d l.toArray else d:=fun l=>by
   induction l with
   |nil=>
    intro d;split<;>rfl
   |cons e l ih=>
    intro d;rw[Y9,List.foldl_cons,Pq,ih];by_cases hg:g=0
    ·rw[Wc hg,Wc hg,Wc hg]
     unfold deafBehind;simp
    ·rw[V9 hg,V9 hg,V9 hg]
  have:=key es.toList d;rw[Array.toList_map,this];split
  ·exact h.2 d
  ·rfl
theorem IQ(rest:Rest)(gs:Array Wi)(i:Nat)(g:Wi)(cases:Array CommCase)(b:Bool)(sh:CommShape)(w:V8):∀o∈(communicate P rest gs i g cases b sh w).2,∀m,o.act≠.mark m:=by
 unfold communicate;simp only[]
 repeat' first
  |(intro o ho;simp at ho;done)
  |(intro o ho m;simp at ho;rcases ho with rfl|rfl|rfl|rfl<;>(intro e;cases e))
  |(intro o ho m;simp at ho;rcases ho with rfl|rfl<;>(intro e;cases e))
  |(intro o ho m;simp at ho;subst ho;intro e;cases e)
  |split
def M3(n:Nat)(ops:Array MemOp):Stepped→Prop
 |.next m=>m.gs.size=1→∃g n',Jc g∧One g n' m∧n≤n'∧qy n' ops
 |.ended _ _=>True
theorem zn{g:Wi}(h:Jc g){n:Nat}{w:V8}(hs:n≤w.heap.size){sl:Option (Nat×Nat)}{ops:Array MemOp}(ho:qy w.heap.size ops){gs:Array Wi}(hg:gs=#[g]):M3 n ops (.next { world:=w,gs:=gs,rest:={ timers:=#[],alone:=none,slice:=sl } }):=fun _=>by
 subst hg;exact⟨g,_,h,⟨w,sl,rfl,rfl⟩,hs,ho⟩
theorem yG{g:Wi}(h:Jc g){n:Nat}{w:V8}(hs:n≤w.heap.size){sl:Option (Nat×Nat)}{rest:Rest}{ops:Array MemOp}(ho:qy w.heap.size ops){gs:Array Wi}(hg:gs=#[g])(hr:rest={ timers:=#[],alone:=none,slice:=sl }):M3 n ops (.next { world:=w,gs:=gs,rest:=rest }):=by
 subst hr;exact zn h hs ho hg
theorem tI{gs:Array Wi}(h:gs.size=1){g:Wi}:gs.setIfInBounds 0 g=#[g]:=by
 obtain⟨l⟩:=gs;rcases l with _|⟨a,_|⟨b,l⟩⟩
 ·cases h
 ·rfl
 ·simp at h
theorem uj{gs:Array Wi}(h:gs.size=1){k m:Nat}{v:R2}:(finishPartner P gs k m v).size=1:=by
 unfold finishPartner;rw[Array.size_modify,h]
theorem GL{rest:Rest}{cases:Array CommCase}{w w':V8}(h:waitingAt rest cases w=some w'):w'.heap=w.heap:=by
 unfold waitingAt at h;split at h
 ·split at h
  ·cases h
   rfl
  ·cases h
 ·cases h
  rfl
theorem Nq{α:Type}{s:Sem α}{w w':V8}{x:Halt}(h:s.run P w=.halt x w'):w.heap.size≤w'.heap.size:=by
 have:=Lc (P:=P) s w;rw[h]at this;exact this
theorem Kg(sl:Option (Nat×Nat))(d g:Wi)(h:Jc g)(cases:Array CommCase)(b:Bool)(sh:CommShape)(w:V8)(n:Nat)(hn:n≤w.heap.size):M3 n (communicate P { timers:=#[],alone:=none,slice:=sl } #[d] 0 g cases b sh w).2 (communicate P { timers:=#[],alone:=none,slice:=sl } #[d] 0 g cases b sh w).1:=by
 have hm:∀k,qy k (communicate P { timers:=#[],alone:=none,slice:=sl } #[d] 0 g cases b sh w).2:=fun k=>qy.mute fun o ho=>⟨communicate_silent _ _ _ _ _ _ _ _ _ o ho,IQ _ _ _ _ _ _ _ _ o ho⟩
 generalize (communicate P { timers:=#[],alone:=none,slice:=sl } #[d] 0 g cases b sh w).2=ops at hm⊢;have fin:∀(w1:V8) (gs:Array Wi) (k:Int) (v:R2) (ok:Bool),n≤w1.heap.size→gs.size=1→M3 n ops (.next { world:=w1,gs:=gs.setIfInBounds 0 (g.finishComm P cases sh k v ok),rest:={ timers:=#[],alone:=none,slice:=sl } }):=fun w1 gs k v ok hs hg=>zn (g:=g.finishComm P cases sh k v ok) ⟨dO h.1 _,h.2⟩ hs (hm _) (tI hg);have h1:(#[d]:Array Wi).size=1:=rfl;unfold communicate;simp only[];split
 ·trivial
 split
 ·split
  ·split
   ·next w1 e=>exact zn (g:={ g with status:=.blocked,offers:=some (cases,sh) }) h (by rw[GL e];exact hn) (hm _) (tI h1)
   ·trivial
  ·exact fin _ _ _ _ _ hn h1
 ·split
  ·trivial
  ·next k c way w1 e=>
   have a:n≤w1.heap.size:=Ws hn (kO e);split
   ·split
    ·exact zn (g:={ g with frame:=g.frame.raise _ }) ⟨iJ h.1 _,h.2⟩ (by next e2=>exact Ws a (Nq e2)) (hm _) (tI h1)
    ·trivial
   ·exact fin _ _ _ _ _ a h1
   ·exact fin _ _ _ _ _ (by simpa using a) h1
   ·split
    ·exact fin _ _ _ _ _ (by simpa using a) h1
    ·split
     ·next e2=>exact fin _ _ _ _ _ (by simpa using Ws a (kO e2)) (uj h1)
     ·trivial
   ·exact fin _ _ _ _ _ (by simpa using a) (uj h1)
   ·exact fin _ _ _ _ _ (by simpa using a) (uj h1)
   ·trivial
theorem OA{n n1:Nat}{ops more:Array MemOp}{s:Stepped}(h:n≤n1)(ho:qy n1 ops)(k:M3 n1 more s):M3 n (ops++more) s:=by
 cases s with
 |next m=>
  intro h1;obtain⟨g2,n2,a,b,c,d⟩:=k h1;exact⟨g2,n2,a,b,Ws h c,(ho.up c).app d⟩
 |ended o w=>trivial
theorem mod_one{g:Wi}(h:Jc g)(k:Nat):∃me,Jc me∧(((#[{ (default:Wi)with status:=.finished }]:Array Wi).setIfInBounds 0 g).modify k fun o=>{ o with status:=.running })=#[me]:=by
 cases k with
 |zero=>exact⟨{ g with status:=.running },h,rfl⟩
 |succ k=>
  refine⟨g,h,?_⟩;apply Xc;intro i;rw[Array.getElem?_modify];split
  ·next e=>
   subst e
   rfl
  ·rfl
theorem LI(Q:Quiet P)(g:Wi)(w:V8)(sl:Option (Nat×Nat))(h:Jc g):M3 w.heap.size (Go.runT P (crowd #[g] w sl) 0).2 (Go.runT P (crowd #[g] w sl) 0).1:=by
 have hk:=Oq Q true g w h;unfold Go.runT;show M3 w.heap.size _ _;have e:(crowd #[g] w sl).gs.swapAt! 0 { (default:Wi)with status:=.finished }=(g,#[{ (default:Wi)with status:=.finished }]):=rfl;simp only[e];have e0:((0:Nat)==0)=true:=rfl;rw[e0];show M3 w.heap.size _ _;have hw:(crowd #[g] w sl).world=w:=rfl;rw[hw];cases hs:stepG P true g w with
 |go g' w' es=>
  rw[hs]at hk;exact yG (sl:=sl) hk.1 hk.2.1 (qy.of hk.2.2 _ _) (tI (by split<;>simp)) (by split<;>rfl)
 |comm g' cs b sh w' es=>
  rw[hs]at hk;have k1:=Kg (P:=P) sl { (default:Wi)with status:=.finished } g' hk.1 cs b sh w' w'.heap.size (R3 _);exact OA hk.2.1 (qy.of hk.2.2 _ _) k1
 |spawn g' c w' es=>
  intro h1;simp at h1
 |coroswitch g' c b w' es=>
  rw[hs]at hk;dsimp only;split
  ·next h0 _=>
   obtain⟨me,hme,e2⟩:=mod_one (g:=if b=true then { g' with status:=.finished } else { g' with frame:=g'.frame.finish undef,status:=.parked }) (by
    split
    ·exact hk.1
    ·exact⟨dO hk.1.1 _,hk.1.2⟩) h0
   exact yG (sl:=sl) (g:=me) hme (by simpa using hk.2.1) (show qy (({ w' with heap:=w'.heap.setIfInBounds c (.coro (if b=true then none else some 0)) }:V8).heap.size) (MemOp.ofEvents 0 _ _ es)from by simpa using qy.of hk.2.2 _ _) e2 rfl
  ·exact yG (sl := sl) (g := { frame := g'.frame, callers := [], status := .running, dying := some { todo := [], texts := [], calling := false, pending := "", runtimeError := false, fatal := some { pieces := [] ++ bytes "fatal error: " :: indentedPieces (bytes "coroswitch on exited coro") ++ [bytes "\n"], text := "coroswitch on exited coro", whole := false, begun := false } } }) ⟨hk.1.1, .nil⟩ hk.2.1 (qy.of hk.2.2 _ _) rfl rfl
  ·trivial
 |ended o w' es=>trivial
 |count g' w' es=>rw[hs]at hk;exact hk.elim
 |timer g' o w' es=>rw[hs]at hk;exact hk.elim
 |alone g' o w' es=>rw[hs]at hk;exact hk.elim
 |newcoro g' c d w' es=>rw[hs]at hk;exact hk.elim
 |collect g' w' es=>rw[hs]at hk;exact hk.elim
 |watch g' w' es=>rw[hs]at hk;exact hk.elim
theorem GV(Q:Quiet P)(g:Wi)(w:V8)(sl:Option (Nat×Nat))(h:Jc g):M3 w.heap.size (stepT P (crowd #[g] w sl)).2 (stepT P (crowd #[g] w sl)).1:=by
 have hm:=LY (P:=P) g w sl;unfold stepT;cases e:move P (crowd #[g] w sl)with
 |goroutine m i=>
  rw[e]at hm;obtain⟨rfl,w1,sl1,rfl,h1⟩:=hm;have:=LI Q g w1 sl1 h;rw[h1]at this;exact this
 |machine s ops=>
  rw[e]at hm;cases s with
  |next m=>
   obtain⟨rfl,h1⟩:=hm;exact fun _=>⟨g,_,h,h1,R3 _,qy.nil _⟩
  |ended o w=>trivial
theorem runNT_size:∀(n:Nat) (m m':Machine) (t t':Trace),runNT P n m t=(.next m',t')→m.gs.size≤m'.gs.size
 |0,m,m',t,t',h=>by
  cases h;exact R3 _
 |n+1,m,m',t,t',h=>by
  unfold runNT at h;cases e:stepT P m with
  |mk s ops=>
   rw[e]at h;cases s with
   |next m1=>exact Ws (stepT_size P m m1 true (by rw[e])) (runNT_size n m1 m' _ t' h)
   |ended o w=>cases h
theorem BH(Q:Quiet P):∀(n:Nat) (g:Wi) (w:V8) (sl:Option (Nat×Nat)) (m':Machine) (t t':Trace),Jc g→runNT P n (crowd #[g] w sl) t=(.next m',t')→m'.gs.size=1→∃g' w' sl' u,m'=crowd #[g'] w' sl'∧Jc g'∧w.heap.size≤w'.heap.size∧t'=t++u∧qy w'.heap.size u
 |0,g,w,sl,m',t,t',h,e,h1=>by
  cases e;exact⟨g,w,sl,#[],rfl,h,R3 _,vsi,qy.nil _⟩
 |n+1,g,w,sl,m',t,t',h,e,h1=>by
  have hk:=GV Q g w sl h;unfold runNT at e;cases es:stepT P (crowd #[g] w sl)with
  |mk s ops=>
   rw[es]at e hk;cases s with
   |next m1=>
    have hs:=runNT_size n m1 m' _ t' e;have f:=stepT_size P (crowd #[g] w sl) m1 true (by rw[es]);have b:(crowd #[g] w sl).gs.size=1:=rfl;obtain⟨g1,n1,a,⟨w1,sl1,rfl,rfl⟩,c,d⟩:=hk vom;obtain⟨g2,w2,sl2,u,e2,k1,k2,k3,k4⟩:=BH Q n g1 w1 sl1 m' (t++ops) t' a e h1;exact⟨g2,w2,sl2,ops++u,e2,k1,Ws c k2,by rw[k3,Yw],(d.up k2).app k4⟩
   |ended o w=>cases e
end
end Nm
namespace Nm
open Go Go.Conc Cs
section
variable{P:Wr}
theorem Sb{n:Nat}{u:Array MemOp}(h:qy n u)(g:Wi)(q:Nat→Nat):Qt P #[g] u q n:=by
 refine⟨fun i x h1 h2=>?_,fun said=>not_race_of_allBy (Trace.allBy_of_forall fun o ho=>(h.1 o ho).1),⟨u.size,R3 _,fun g=>?_,fun i x hi hx=>?_⟩,fun j x a hx ha=>?_,fun j a ha=>?_⟩
 ·have:=cI h2
  simp at this;omega
 ·have:=Deaf_append #[] g u.toList
  rw[show((#[]:Trace)++u.toList.toArray)=u by simp,h.2]at this;exact this
 ·have:=lt_size_of_getElem? hx
  omega
 ·have h1:=(h.1 x (YU hx)).1
  have k:=knows_own hx;rcases h1 with h1|h1
  ·rw[h1]at ha
   cases ha
  ·rw[h1]at k
   exact k
 ·obtain⟨x,hx,b⟩:=touch_of ha
  have:=(h.1 x (YU hx)).2 a b;unfold jf
  revert this
  cases a.loc<;>exact id
theorem DG(Q:Quiet P){fr0 fr:WG}{W w':V8}(h0:jS fr0.todo)(hs:Steps P (lone fr0 [] W) (lone fr [] w')):∃N t,runNT P N (crowd #[G fr0 []] W none) #[]=(.next (crowd #[G fr []] w' none),t)∧∀q,Qt P #[G fr []] t q w'.heap.size:=by
 obtain⟨n,hn⟩:=hs
 have e:runNT P n (crowd #[G fr0 []] W none) #[]=(.next (crowd #[G fr []] w' none),(runNT P n (crowd #[G fr0 []] W none) #[]).2):=by
  refine Prod.ext ?_ rfl;rw[runNT_fst];exact hn
 obtain⟨g2,w2,sl2,u,e2,k1,k2,k3,k4⟩:=BH Q n _ _ _ _ _ _ ⟨h0,.nil⟩ e rfl;refine⟨n,_,e,fun q=>?_⟩;rw[k3,ZE];have hw:w'=w2:=XI (fun m:Machine=>m.world) e2;rw[hw];exact Sb k4 _ q
end
end Nm
namespace Cs
open Go.Conc Go.RowKit
def oG:List Code→Code→Code
 |[],c=>c
 |a :: r,c=>.seq a (oG r c)
def nest(P:Wr)(Q:Exit→Act→V8→Prop):List Code→(Act→V8→Prop)→Act→V8→Prop
 |[],K=>K
 |a :: r,K=>a.wp P (Exit.then (nest P Q r K) Q)
variable{P:Wr}
theorem E0{Q:Exit→Act→V8→Prop}{c:Code}:∀{l:List Code} {a:Act} {w:V8},nest P Q l (c.wp P Q) a w→(oG l c).wp P Q a w
 |[],_,_,h=>h
 |_ :: _,_,_,h=>wp_seq (wp_mono h fun e a w h=>by
   cases e with
   |normal=>exact E0 h
   |_=>exact h)
theorem uX{f:Xg}{C:Code}{Post:Array R2→V8→Prop}:∀{l:List Code} {T:Array R2} {d:List Deferred} {W:V8},nest P (fun _ _ _=>False) l (fun a w=>a.defers=[]∧Post a.tmps w) ⟨T,d⟩ W→
  ∃T' w',Post T' w'∧Steps P (lone ((aL f #[] [] .run).at ⟨T,d⟩ [.code (oG l C)]) [] W) (lone (aL f T' [.code C] .run) [] w')
 |[],T,d,W,h=>by
  obtain⟨h1,h2⟩:=h;have c:d=[]:=h1;subst c;exact⟨T,W,h2,0,rfl⟩
 |a :: r,T,d,W,h=>by
  obtain⟨e,⟨T1,d1⟩,w1,hq,b⟩:=h (aL f #[] [] .run) [.code (oG r C)] [];cases e with
  |normal=>
   obtain⟨T2,w2,h2,s2⟩:=uX (C:=C) (f:=f) hq;refine⟨T2,w2,h2,Steps.trans ⟨1,?_⟩ (Steps.trans b s2)⟩;simp only[runN];rw[step_lone_go vrf]
   rfl
  |_=>exact absurd hq id
end Cs
section
open Go.RowKit
variable{F:Fence}{n:Nat}{P:Wr}
def Dt(P:Wr)(l:Nat)(R:Ending→V8→Prop):Exit→Act→V8→Prop
 |.normal,_,w=>∃v w',(Instr.endRound l none).run P w=.ok v w'∧R (.returned v) w'
 |.panic ch,a,w=>a.defers=[]∧R (.panicked ch) w
 |_,_,_=>False
theorem qK{l:Nat}{f:Xg}{tmps:Array R2}{assign body:Code}{w:V8}{R:Ending→V8→Prop}(hF:F.fn f)(hfn:∃fn,P.funcs[f]?=some fn)
  (h:assign.wpIn (F.inRound l) n P (Exit.then (fun a₁ w₁=>∃w₂,(Instr.beginRound l).run P w₁=.ok () w₂∧body.wpIn (F.inRound l) n P (Dt P l R) a₁ w₂) (fun _ _ _=>False))
   { tmps:=tmps,defers:=[] } w) :
  RoundIn F n P l f tmps assign body w R:=by
 refine⟨hF,fun c cs hr=>?_⟩
 let b:WG:={ (default:WG)with fn:=f,kind:=.normal,roundOf:=some l }
 have o:Frame.round l f tmps assign body .normal=b.atR { tmps:=tmps,defers:=[] } [.code assign,.beginRound,.code body]:=by
  simp[Frame.round,Frame.atR,b]
 have j:(F.inRound l).room ((c :: cs).length+1+n):=hr;have g:(F.inRound l).fn b.fn:=hF;obtain⟨e,a₁,w₁,hq,d⟩:=h b [.beginRound,.code body] (c :: cs) rfl g j;rw[←o]at d;cases e with
 |normal=>
  obtain⟨w₂,q,k⟩:=hq
  have s1:StepsIn (Machine.fenced P (F.inRound l)) P (lone (b.atR a₁ [.beginRound,.code body]) (c :: cs) w₁) (lone (b.atR a₁ [.code body]) (c :: cs) w₂):=
   .one (fenced_calm (fr:=b.atR a₁ [.beginRound,.code body]) g j rfl) (stepR_beginRound rfl q)
  obtain⟨e₂,a₂,w₃,a,i⟩:=k b [] (c :: cs) rfl g j;cases e₂ with
  |normal=>
   obtain⟨v,w₄,m,hR⟩:=a;exact⟨.returned v,w₄,hR,(YD d s1).trans (YD i (.one (fenced_calm (fr:=b.atR a₂ []) g j rfl) (stepR_round_end rfl rfl m)))⟩
  |panic chain=>
   obtain⟨hd,hR⟩:=a;obtain⟨todo,hs⟩:=i;have hl:({ b.atR a₂ todo with mode:=.panicking chain }:WG).leaving P w₃ (.panicked chain):=⟨rfl,hd,hfn⟩
   have hi:(lone { b.atR a₂ todo with mode:=.panicking chain } (c :: cs) w₃).fenced P (F.inRound l):=fenced_leaving g j hl;exact⟨.panicked chain,w₃,hR,(YD d s1).trans (YD hs (.one hi (step_leave_panicked hl)))⟩
  |ret=>exact a.elim
  |exit id=>exact a.elim
  |goto t=>exact a.elim
  |outgrown=>exact a.elim
 |exit id=>exact hq.elim
 |goto t=>exact hq.elim
 |ret=>exact hq.elim
 |panic chain=>exact hq.elim
 |outgrown=>exact hq.elim
def B5(B:Nat)(Ob:Nat→Prop)(J:Nat→V8→Prop):Prop:=
 ∀s W W' row,B≤W.heap.size→J s W→W.grownBy W' row→(∀r,row=some r→Ob r)→J s W'
def Lf(F:Fence)(n:Nat)(P:Wr)(g:Nat)(lb:Array R2)(N:Nat)(xs:Nat→Array R2)(Ob:Nat→Prop)(Kp:V8→V8→Prop)(w:V8):Prop:=
 ∀(l:Nat) (J:Nat→V8→Prop) (Jp:List PanicEntry→V8→Prop) (W:V8),Below w.heap.size w W→B5 W.heap.size Ob J→
  (∀k W1,J k W1→k<N→YieldAt F (n-1) P l (xs k) W1 fun e W'=>
   (e=.returned (.bool true)∧J (k+1) W'∧Kp W1 W')∨(∃ch,e=.panicked ch∧Jp ch W'))→
  J 0 W→
  CallsIn F n P g (#[.func (.yield l) #[] #[]]++lb) W fun e W'=>((∃v,e=.returned v)∧J N W')∨(∃ch,e=.panicked ch∧Jp ch W')
def Mw(Kp:V8→V8→Prop)(I:Nat→V8→Prop)(Ip:List PanicEntry→V8→Prop)(k:Nat)(W:V8):Exit→Act→V8→Prop
 |.normal,_,W'=>KeepsOthers W W'∧Kp W W'∧I k W'
 |.panic ch,a,W'=>a.defers=[]∧KeepsOthers W W'∧Ip ch W'
 |_,_,_=>False
def xw(B:Nat)(Ob:Nat→Prop)(I:Nat→V8→Prop):Prop:=
 ∀s W W' row,I s W→W.grownBy W' row→(∀r,row=some r→(B≤r∧∃o:Obj,W.heap[r]?=some o∧o.isCells=false)∨Ob r)→I s W'
theorem xw.putObj{B:Nat}{Ob:Nat→Prop}{I:Nat→V8→Prop}(h:xw B Ob I){s:Nat}{W:V8}{l:Nat}{o:Obj}(o':Obj)(hs:I s W)(hB:B≤l)(hl:W.heap[l]?=some o)(ho:o.isCells=false):I s (W.putObj l o'):=
 h s W _ (some l) hs (grownBy_putObj' W l o') (fun r e=>by cases e;exact .inl ⟨hB,o,hl,ho⟩)
theorem xw.alloc{B:Nat}{Ob:Nat→Prop}{I:Nat→V8→Prop}(h:xw B Ob I){s:Nat}{W:V8}(o:Obj)(hs:I s W):I s (W.alloc o):=
 h s W _ none hs (World.grownBy_alloc W o none) (fun r e=>by cases e)
theorem wH{g:Yb}{ps:Array Tmp}{assign body:Code}{Q:Exit→Act→V8→Prop}{a:Act}{w:V8}(fn:Xg)(hfn:F.fn fn)(hfns:∃f,P.funcs[fn]?=some f)
  (h1:1≤n) {gf:Nat} {lb:Array R2} (hg:a.eval g=.func (.func gf) #[] lb) (hFg:F.fn gf) (eg:∀args w,(callFunc gf args).run P w=.ok (.enter gf args) w)
  {N:Nat} {xs:Nat→Array R2} {Ob:Nat→Prop} {Kp:V8→V8→Prop} {w0:V8} (hseq:Lf F (n-1) P gf lb N xs Ob Kp w0) (hOb:∀r,Ob r→r<w.heap.size)
  (hKt:∀{A B C:V8},Kp A B→Kp B C→Kp A C) (hKb:∀(W:V8) (l:Nat) (o o':Obj),w.heap.size≤l→W.heap[l]?=some o→o.isCells=false→o.isWalk=false→Kp W (W.putObj l o')) (hb0:Below w0.heap.size w0 w) (hps:∀k,(xs k).size=ps.size)
  (I:Nat→V8→Prop) (Ip:List PanicEntry→V8→Prop) (hI:xw w.heap.size Ob I) (h0:I 0 w) (Ax:Nat→Act→V8→Prop) (hAx:∀k a,xw w.heap.size Ob (fun _ W=>Ax k a W))
  (hassign:∀(l:Nat) (k:Nat) (W:V8) (K:Act→V8→Prop),I k W→k<N→(∀a' W',KeepsOthers W W'→Kp W W'→I k W'→Ax k a' W'→K a' W')→
   assign.wpIn (F.inRound l) (n-1-1) P (Exit.then K (fun _ _ _=>False)) { tmps:=(ps.zip (xs k)).foldl (fun t (p,v)=>t.setIfInBounds p v) a.tmps,defers:=[] } W)
  (hbody:∀(l:Nat) (k:Nat) (a':Act) (W:V8),I k W→Ax k a' W→k<N→body.wpIn (F.inRound l) (n-1-1) P (Mw Kp I Ip (k+1) W) a' W)
  (hdone:∀(D:Nat) (W:V8),w.heap.size≤D→I N W→W.heap[D]?=some (.deferred (some []))→Q .normal { a with defers:={ target:=.collected D,args:=#[] } :: a.defers } W)
  (hpan:∀(D:Nat) (ch:List PanicEntry) (W:V8),w.heap.size≤D→Ip ch W→W.heap[D]?=some (.deferred (some []))→Q (.panic ch) { a with defers:={ target:=.collected D,args:=#[] } :: a.defers } W) :
  ∃(l:Nat) (mark:List Deferred) (w₁:V8) (d:Deferred) (w₁':V8) (f:Xg) (args:Array R2) (w₂:V8),
   (Instr.enterLoop fn a.tmps ps assign body none).run P w=.ok (l,mark) w₁∧
   (resolve a.eval (rangeCall g l) 0).run P w₁=.ok d w₁'∧
   (∀f',Target.leads P w₁' d.target d.args=some f'→F.fn f')∧
   (invoke d.target d.args).run P w₁'=.ok (.enter f args) w₂∧
   (F.depth.isSome=true→1≤n)∧
   CallsIn F (n-1) P f args w₂ (rangePost F n P l Q { a with defers:=mark++a.defers }):=by
 obtain⟨rec,b⟩:∃rec:LoopState→Option Code→Loop,rec=fun st pe=>{ state:=st,pending:=pe,fn,tmps:=a.tmps,params:=ps,assign,body,defers:=w.heap.size }:=⟨_,rfl⟩
 obtain⟨W1,h⟩:∃W1,(w.alloc (.deferred (some []))).alloc (.loop (rec .ready none))=W1:=⟨_,rfl⟩
 have J:W1.heap[w.heap.size+1]?=some (.loop (rec .ready none)):=by
  rw[←h];have:=World.alloc_heap_new (w.alloc (.deferred (some []))) (.loop (rec .ready none));rwa [WI]at this
 have S:W1.heap[w.heap.size]?=some (.deferred (some [])):=by
  rw[←h];exact(Below.heap_alloc _ _ _ vsi).trans (World.alloc_heap_new w _)
 have G:I 0 W1:=by rw[←h];exact hI.alloc _ (hI.alloc _ h0)
 have z:Below w0.heap.size w0 W1:=by
  rw[←h];exact hb0.trans ((((Below.refl _ w).alloc (R3 _) _).alloc vsi _).mono hb0.size)
 have m:∀{W W':V8} {row:Option Nat} {r:Nat} {o:Obj},W.grownBy W' row→(∀r,row=some r→Ob r)→w.heap.size≤r→W.heap[r]?=some o→W'.heap[r]?=some o:=fun {W W' row r o} hg hr hle ho=>by
  refine(hg.block r (Wd.1 ho).1 (fun e=>?_)).trans ho;have:=hOb r (hr r e.symm);omega
 refine⟨w.heap.size+1,[{ target:=.collected w.heap.size,args:=#[] }],W1,{ target:=.fn (.func gf) lb,args:=#[.func (.yield (w.heap.size+1)) #[] #[]] },W1,gf,
  #[.func (.yield (w.heap.size+1)) #[] #[]]++lb,W1,?_,?_,?_,?_,fun _=>h1,?_⟩
 ·rw[←h,b];exact run_enterLoop_outer _ _ _ _ _
 ·simp only[resolve,hg]
  simp[go_sem]
 ·intro f' hf';simp[Target.leads]at hf';subst hf';exact hFg
 ·simp[invoke,go_sem,eg]
 ·refine(hseq (w.heap.size+1)
   (fun k W=>I k W∧W.heap[w.heap.size+1]?=some (.loop (rec .ready none))∧W.heap[w.heap.size]?=some (.deferred (some [])))
   (fun ch W=>Ip ch W∧W.heap[w.heap.size]?=some (.deferred (some [])))
   W1 z
   (fun s A B row hsz hs hg' hr=>⟨hI s A B row hs.1 hg' (fun r e=>.inr (hr r e)),m hg' hr vom hs.2.1,m hg' hr vom hs.2.2⟩)
   ?_ ⟨G,J,S⟩).mono ?_
  ·rintro k W ⟨hi,hl,hk⟩ q
   have T:w.heap.size+1<W.heap.size:=(Wd.1 hl).1;have hy:=run_yield (P:=P) (args:=xs k) hl (by rw[b];exact hps k);rw[b]at hy;refine⟨fn,_,assign,body,hy,qK hfn hfns (hassign _ k W _ hi q (fun a' Wa hko hkp hia hax=>?_))⟩;have c:Wa.heap[w.heap.size+1]?=some (.loop (rec .ready none)):=hko.same _ _ hl rfl;have L:Wa.heap[w.heap.size]?=some (.deferred (some [])):=hko.same _ _ hk rfl;have y:w.heap.size+1<Wa.heap.size:=(Wd.1 c).1;refine⟨_,run_beginRound c (by rw[b]),?_⟩;have E:(Wa.putObj (w.heap.size+1) (.loop { rec .ready none with state:=.busy })).heap[w.heap.size+1]?=some (.loop { rec .ready none with state:=.busy }):=World.putObj_heap_same y;have u:(Wa.putObj (w.heap.size+1) (.loop { rec .ready none with state:=.busy })).heap[w.heap.size]?=some (.deferred (some [])):=(XN vom).trans L;have O:Kp Wa (Wa.putObj (w.heap.size+1) (.loop { rec .ready none with state:=.busy })):=hKb _ _ _ _ vom c rfl rfl;refine wpIn_mono (hbody _ k a' _ (hI.putObj _ hia vom c rfl) ((hAx k a').putObj (s:=0) _ hax vom c rfl) q) ?_;rintro e a3 W3 hp;cases e with
   |normal=>
    obtain⟨j,x,M⟩:=hp;have i:=j.same _ _ E rfl;have hr:=run_endRound (P:=P) none i;rw[b]at hr i⊢;exact⟨_,_,hr,.inl ⟨rfl,⟨hI.putObj _ M vom i rfl,World.putObj_heap_same (Wd.1 i).1,(XN vom).trans (j.same _ _ u rfl)⟩,hKt (hKt hkp (hKt O x)) (hKb _ _ _ _ vom i rfl rfl)⟩⟩
   |panic ch=>
    obtain⟨hd,j,H⟩:=hp;exact⟨hd,.inr ⟨ch,rfl,H,j.same _ _ u rfl⟩⟩
   |ret=>exact hp.elim
   |exit id=>exact hp.elim
   |goto t=>exact hp.elim
   |outgrown=>exact hp.elim
  ·rintro e W2 (⟨⟨v,rfl⟩,hi,hl,hk⟩|⟨ch,rfl,hi,hk⟩)
   ·exact⟨none,_,by have:=run_endLoop (P:=P) hl (by rw[b];simp);rw[b]at this;exact this,hdone _ _ (R3 _) (hI.putObj _ hi vom hl rfl) ((XN vom).trans hk)⟩
   ·exact hpan _ ch _ (R3 _) hi hk
def Oj(f:Xg)(P:Wr)(c:Code)(Q:Exit→Act→V8→Prop)(a:Act)(w:V8):Prop:=
 ∀(b:WG) (k:List Item) (cs:List WG),b.roundOf=none→b.fn=f→
  ∃e a' w',Q e a' w'∧ArrivesIn (Machine.fenced P Yd) P (lone (b.atR a (.code c :: k)) cs w) b k cs e a' w'
section
variable{f:Xg}{Q:Exit→Act→V8→Prop}{a:Act}{w:V8}
theorem jr{c:Code}(h:c.wp P Q a w):Oj f P c Q a w:=fun b k cs hro _=>(wpIn_wide (n:=0)).2 h b k cs hro trivial (room_wide _)
theorem o4{x y:Code}(h:Oj f P x (Exit.then (Oj f P y Q) Q) a w):Oj f P (Code.seq x y) Q a w:=by
 intro b k cs hro hb;have h0:(lone (b.atR a (.code (.seq x y) :: k)) cs w).fenced P Yd:=Zm _ _;obtain⟨e,a₁,w₁,hq,c⟩:=h b (.code y :: k) cs hro hb;cases e with
 |normal=>
  obtain⟨e₂,a₂,w₂,g,d⟩:=hq b k cs hro hb;exact⟨e₂,a₂,w₂,g,.of_steps (.head h0 stepR_seq c) d⟩
 |exit id=>exact⟨_,a₁,w₁,hq,.of_steps (.one h0 stepR_seq) (.pass (x:=.code y) rfl (fun _ _=>.inl vsi) c)⟩
 |goto l=>exact⟨_,a₁,w₁,hq,.of_steps (.one h0 stepR_seq) (.pass (x:=.code y) rfl (fun _ _=>.inl vsi) c)⟩
 |ret=>exact⟨_,a₁,w₁,hq,.of_steps (.one h0 stepR_seq) (.pass (x:=.code y) rfl (fun _ _=>.inl vsi) c)⟩
 |panic ch=>exact⟨_,a₁,w₁,hq,.of_steps (.one h0 stepR_seq) (.pass (x:=.code y) rfl (fun _ _=>.inl vsi) c)⟩
 |outgrown=>exact⟨_,a₁,w₁,hq,.of_steps (.one h0 stepR_seq) (.pass (x:=.code y) rfl (fun _ _=>.inl vsi) c)⟩
theorem IV{id:Nat}{c:Code}(h:Oj f P c (Exit.inBlock id Q) a w):Oj f P (Code.block id c) Q a w:=by
 intro b k cs hro hb;have h0:(lone (b.atR a (.code (.block id c) :: k)) cs w).fenced P Yd:=Zm _ _;obtain⟨e,a₁,w₁,hq,d⟩:=h b (.inBlock id :: k) cs hro hb;cases e with
 |normal=>exact⟨.normal,a₁,w₁,hq,.head h0 YV (YD d (.one (Zm _ _) stepR_inBlock))⟩
 |exit id'=>
  by_cases hid:id'=id
  ·simp only[Exit.inBlock,hid,YI]at hq
   exact⟨.normal,a₁,w₁,hq,.head h0 YV (d.1 k (by simp[exitTo,hid]))⟩
  ·simp only[Exit.inBlock,hid,X9]at hq
   have this:(id==id')=false:=by simp;exact fun h=>hid h.symm
   have hx:exitTo id' (.inBlock id :: k)=exitTo id' k:=by simp[exitTo,this]
   exact⟨.exit id',a₁,w₁,hq,fun k' hk=>.head h0 YV (d.1 k' (by rw[hx];exact hk)),
    fun hr' hk=>let⟨k₁,h1,h2⟩:=d.2 hr' (by rw[hx];exact hk);⟨k₁,h1,.head h0 YV h2⟩⟩
 |goto l=>
  have hx:gotoIn l (.inBlock id :: k)=gotoIn l k:=by simp[gotoIn]
  exact⟨_,a₁,w₁,hq,fun k' hk=>.head h0 YV (d.1 k' (by rw[hx];exact hk)),
   fun hr' hk=>let⟨k₁,h1,h2⟩:=d.2 hr' (by rw[hx];exact hk);⟨k₁,h1,.head h0 YV h2⟩⟩
 |ret=>exact⟨_,a₁,w₁,hq,.of_steps (.one h0 YV) d⟩
 |panic ch=>exact⟨_,a₁,w₁,hq,.of_steps (.one h0 YV) d⟩
 |outgrown=>exact⟨_,a₁,w₁,hq,.of_steps (.one h0 YV) d⟩
theorem wz{g:Yb}{ps:Array Tmp}{assign body:Code}{n:Nat}
  (h:∃(l:Nat) (mark:List Deferred) (w₁:V8) (d:Deferred) (w₁':V8) (f1:Xg) (args:Array R2) (w₂:V8),
   (Instr.enterLoop f a.tmps ps assign body none).run P w=.ok (l,mark) w₁∧
   (resolve a.eval (rangeCall g l) 0).run P w₁=.ok d w₁'∧
   (∀f',Target.leads P w₁' d.target d.args=some f'→Fence.wide.fn f')∧
   (invoke d.target d.args).run P w₁'=.ok (.enter f1 args) w₂∧
   (Fence.wide.depth.isSome=true→1≤n)∧
   CallsIn Yd (n-1) P f1 args w₂ (rangePost Yd n P l Q { a with defers:=mark++a.defers })) :
  Oj f P (Code.rangeFunc g ps assign body) Q a w:=by
 intro b k cs hro hb;obtain⟨l,mark,w₁,d,w₁',f1,args,w₂,he,t,x,u,hn,hF,o⟩:=h;rw[←hro,←hb]at he;have h0:(lone (b.atR a (.code (.rangeFunc g ps assign body) :: k)) cs w).fenced P Yd:=Zm _ _;have i:=stepR_rangeFunc (P:=P) (b:=b) (a:=a) (k:=k) (cs:=cs) (w:=w) he t u;obtain⟨e,w₃,fr,hR,j,y,m⟩:=o (b.atR { a with defers:=mark++a.defers } (.inRangeFunc l :: k) :: cs) (room_wide _);cases e with
 |outgrown=>
  obtain⟨a₀,w₀,hq⟩:=hR;exact⟨.outgrown,a₀,w₀,hq,.inr (Outgrown.of_steps (.one i) j)⟩
 |returned v=>
  have hl:(lone fr (b.atR { a with defers:=mark++a.defers } (.inRangeFunc l :: k) :: cs) w₃).fenced P Yd:=Zm _ _;obtain⟨jump,w₄,s,hj⟩:=hR
  have sback:StepsIn (Machine.fenced P Yd) P (lone (b.atR a (.code (.rangeFunc g ps assign body) :: k)) cs w) (lone (b.atR { a with defers:=mark++a.defers } ((jump.map Item.code).toList++k)) cs w₄):=by
   refine .head h0 i (YD j (.head hl ?_ (.one (Zm _ _) (stepR_endRangeFunc s))));rw[←finish_atR_inRangeFunc l v];exact step_leave_returned m
  cases jump with
  |none=>exact⟨.normal,_,w₄,hj,sback⟩
  |some c=>
   obtain⟨e',a'',w₅,hq,q⟩:=hj b k cs hro trivial (room_wide _);exact⟨e',a'',w₅,hq,.of_steps sback q⟩
 |panicked chain=>
  have hl:(lone fr (b.atR { a with defers:=mark++a.defers } (.inRangeFunc l :: k) :: cs) w₃).fenced P Yd:=Zm _ _;refine⟨.panic chain,_,w₃,hR,.inRangeFunc l :: k,.head h0 i (YD j (.one hl ?_))⟩;rw[←Frame.raise_atR];exact step_leave_panicked m
end
theorem yR{f:Xg}{fn:Func}{c:Code}{args:Array R2}{w:V8}{R:Ending→V8→Prop}
  (hf:P.funcs[f]?=some fn) (hb:fn.body=some c)
  (h:Oj f P c (bodyPostM Yd 9 P fn R) { tmps:=args++Array.replicate (fn.ntmps-args.size) undef,defers:=[] } w):Calls P f args w R:=by
 refine(callsIn_wide (n:=9)).1 ⟨trivial,fun cs hr=>?_⟩
 let b:WG:={ (default:WG)with fn:=f,kind:=.normal,roundOf:=none }
 have g:Frame.enter P f args .normal =
   b.atR { tmps:=args++Array.replicate (fn.ntmps-args.size) undef,defers:=[] } [.code c]:=by
  simp[Frame.enter,Frame.atR,hf,hb,b]
 obtain⟨e,a',w',hq,a⟩:=h b [] cs rfl rfl;rw[←g]at a;cases e with
 |normal=>
  obtain⟨e',w'',fr',hR,hs,d,hl⟩:=leaves_stepsInM a'.defers .returning w' { b.atR a' []with mode:=.returning } cs rfl rfl rfl hf rfl trivial hr hq;exact⟨e',w'',fr',hR,ComesIn.of_steps (YD a (.one (Zm _ _) (stepR_end rfl))) hs,d,hl⟩
 |ret=>
  obtain⟨todo,i⟩:=a.1 rfl;obtain⟨e',w'',fr',hR,hs,d,hl⟩:=leaves_stepsInM a'.defers .returning w' { b.atR a' todo with mode:=.returning } cs rfl rfl rfl hf rfl trivial hr hq;exact⟨e',w'',fr',hR,ComesIn.of_steps i hs,d,hl⟩
 |panic chain=>
  obtain⟨todo,i⟩:=a;obtain⟨e',w'',fr',hR,hs,d,hl⟩:=leaves_stepsInM a'.defers (.panicking chain) w' { b.atR a' todo with mode:=.panicking chain } cs rfl rfl rfl hf rfl trivial hr hq;exact⟨e',w'',fr',hR,ComesIn.of_steps i hs,d,hl⟩
 |exit id=>exact hq.elim
 |goto l=>exact hq.elim
 |outgrown=>exact⟨.outgrown,w',b,hq,a.resolve_left (by simp[b]),rfl,trivial⟩
end
section
open Go.RowKit PK Vg Sm
attribute [local go_sem] Oper.semAt_some
section
variable{F:Fence}{n:Nat}{P:Wr}
theorem qo{ops:Array Oper}{rest:List Oper}{op:Oper}{a:Act}{w:V8}{Q:Exit→Act→V8→Prop}(hgd:op.guard=none)(ty:TypeId)(x:Yb)(ho:op.op=.load ty x)
  (b o:Nat) (hx:a.eval x=.pointer (some ⟨b,o,none⟩)) (cs:Array R2) (d:TypeDesc) (hc:w.rangeAt b o cs.toList)
  (hu:P.underlying ty=some d) (hd:d.isRow=true) (hi:(P.info? ty).map (·.size)=some cs.size)
  (h:wpListIn F n P ops Q rest (a.put op.dst (.agg cs)) w):wpListIn F n P ops Q (op :: rest) a w:=by
 refine wpListIn_plain hgd fun K hK=>?_;have hl:=run_loadVar_mid w b o ty cs.toList d hc hu hd (by rw[Wx];exact hi);rw[Array.toArray_toList]at hl;unfold Oper.wpIn;refine⟨by simp[Oper.about,ho],?_⟩;rw[Oper.semAt_plain F _ _ (by rw[ho];intro c hc';cases hc')];unfold execOp;simp only[ho,hx,Instr.loadAt,Instr.sureAddr,XQ,Sem.run_pure,Xo,hl];exact hK _ _ h
theorem iC{ops:Array Oper}{rest:List Oper}{o:Oper}{a:Act}{w:V8}{Q:Exit→Act→V8→Prop}(hgd:o.guard=none)(ty:TypeId)(x y:Yb)(ho:o.op=.store ty x y)
  (g:Nat) (cells:Array R2) (hx:a.eval x=.pointer (some ⟨g,0,none⟩)) (hy:a.eval y=.agg cells)
  (t:TypeId) (old:Array R2) (hg:w.heap[g]?=some (.cells old t (0,0))) (hi:(P.info? ty).map (·.size)=some cells.size)
  (hold:old.size=cells.size) (h1:cells.all (·.oneCell')=true)
  (h:wpListIn F n P ops Q rest (a.put o.dst undef) (w.setRow g cells)):wpListIn F n P ops Q (o :: rest) a w:=by
 refine wpListIn_plain hgd fun K hK=>?_;unfold Oper.wpIn;refine⟨by simp[Oper.about,ho],?_⟩;rw[Oper.semAt_plain F _ _ (by rw[ho];intro c hc';cases hc')];unfold execOp;simp only[ho,hx,hy,Instr.storeAt,Instr.sureAddr,XQ,Sem.run_pure,Xo,run_storeVar_row w g t ty old cells hg hi hold h1];exact hK _ _ h
end
end
section
open Go.RowKit PK Vg
attribute [local go_sem] Oper.semAt_some
def qB(l:List UInt8):Nat→List UInt8
 |0=>l
 |k+1=>(qB l k).drop ((upto 44 (qB l k)).length+1)
def gd(l:List UInt8)(k:Nat):List UInt8:=upto 44 (qB l k)
def off(l:List UInt8):Nat→Nat
 |0=>0
 |k+1=>off l k+(gd l k).length+1
def gi(l:List UInt8):Nat:=l.count 44+1
theorem kG(c:UInt8):∀l:List UInt8,(l.count c=0∧upto c l=l)∨((upto c l).length<l.length∧l.count c=(l.drop ((upto c l).length+1)).count c+1)
 |[]=>.inl ⟨rfl,rfl⟩
 |b :: l=>by
  by_cases hb:b=c
  ·right
   subst hb;unfold upto;simp
  ·have hb2:(b != c)=true:=by simp[hb]
   have hu:upto c (b :: l)=b :: upto c l:=by unfold upto;rw[List.takeWhile_cons,hb2];rfl
   rw[hu];have hc:(b :: l).count c=l.count c:=by rw[List.count_cons];simp[hb]
   rw[hc];rcases kG c l with⟨h1,h2⟩|⟨h1,h2⟩
   ·exact .inl ⟨h1,by rw[h2]⟩
   ·right
    refine⟨vso,?_⟩;rw[h2]
    rfl
theorem ry(l:List UInt8):∀k,k<gi l→(qB l k).count 44+k=l.count 44
 |0,_=>rfl
 |k+1,h=>by
  have ih:=ry l k vom;unfold gi at h;rcases kG 44 (qB l k)with⟨h1,_⟩|⟨_,h2⟩
  ·omega
  ·show((qB l k).drop ((upto 44 (qB l k)).length+1)).count 44+(k+1)=_
   omega
theorem FQ(l:List UInt8){k:Nat}(h:k+1<gi l):Lib.indexByte (qB l k) 44=((gd l k).length:Int)∧(gd l k).length<(qB l k).length:=by
 have hc:=ry l k vom;unfold gi at h;rcases kG 44 (qB l k)with⟨h1,_⟩|⟨h1,h2⟩
 ·omega
 ·rcases kQ 44 (qB l k)with⟨h3,h4⟩|h3
  ·rw[h4]at h1;omega
  ·exact h3
theorem Jx(l:List UInt8){k:Nat}(h:k+1=gi l):Lib.indexByte (qB l k) 44=-1∧gd l k=qB l k:=by
 have hc:=ry l k vom;unfold gi at h;rcases kG 44 (qB l k)with⟨h1,h2⟩|⟨_,h2⟩
 ·rcases kQ 44 (qB l k)with h3|⟨_,h4⟩
  ·exact h3
  ·rw[h2]at h4;omega
 ·omega
theorem FO(l:List UInt8):∀k,(qB l k).length≤l.length
 |0=>R3 _
 |k+1=>by
  show((qB l k).drop _).length≤_;rw[List.length_drop];have:=FO l k;omega
theorem EU(l:List UInt8):∀k,k<gi l→(qB l k).length+off l k=l.length
 |0,_=>rfl
 |k+1,h=>by
  have ih:=EU l k vom;have hm:=(FQ l h).2;show((qB l k).drop ((upto 44 (qB l k)).length+1)).length+(off l k+(gd l k).length+1)=_;rw[List.length_drop];unfold gd at hm⊢;omega
structure s8(W:V8)(bp bs bv:Nat)(s:ByteArray):Prop where
 sep:af W bp 9 #[.string ⟨#[44]⟩]
 Cn:af W bs 9 #[.string s]
 Tq:af W bv 3 #[.int .i64 0]
 ne:bp≠bs∧bv≠bs
def wV(bp bs bv:Nat)(W W':V8):Prop:=W'.heap[bp]?=W.heap[bp]?∧W'.heap[bs]?=W.heap[bs]?∧W'.heap[bv]?=W.heap[bv]?∧W.heap.size≤W'.heap.size
theorem wV.trans{bp bs bv:Nat}{A B C:V8}(h:wV bp bs bv A B)(k:wV bp bs bv B C):wV bp bs bv A C:=⟨k.1.trans h.1,k.2.1.trans h.2.1,k.2.2.1.trans h.2.2.1,Ws h.2.2.2 k.2.2.2⟩
theorem s8.keep{bp bs bv:Nat}{W W':V8}{s:ByteArray}(h:s8 W bp bs bv s)(k:wV bp bs bv W W'):s8 W' bp bs bv s:=⟨k.1.trans h.sep,k.2.1.trans h.Cn,k.2.2.1.trans h.Tq,h.ne⟩
theorem s8.set{bp bs bv:Nat}{W:V8}{s:ByteArray}(h:s8 W bp bs bv s)(t:ByteArray):s8 (W.setCell ⟨bs,0,none⟩ (.string t)) bp bs bv t:=⟨af.setOther h.sep _ _ h.ne.1,af.set h.Cn 0 _,af.setOther h.Tq _ _ h.ne.2,h.ne⟩
def Uj(bs:Nat)(W:V8):Nat:=match W.cell? ⟨bs,0,none⟩with
 |some (.string t)=>t.data.toList.length
 |_=>0
theorem Lx{l:List UInt8}{s:ByteArray}(h:s.data.toList=l):(⟨l.toArray⟩:ByteArray)=s:=by
 cases s;rw[←h]
theorem GX(bp bs bv:Nat)(s:ByteArray)(hs:s.size≤65536)(w0:V8)(m:Nat)(h0:s8 w0 bp bs bv s):
  Lf Yd m Tryz.prog 175 #[.pointer (some ⟨bp,0,none⟩),.pointer (some ⟨bs,0,none⟩),.pointer (some ⟨bv,0,none⟩)] (gi s.data.toList) (fun k=>#[.string ⟨(gd s.data.toList k).toArray⟩]) (fun b=>b=bs) (wV bp bs bv) w0:=by
 intro l J Jp W hW hJ hY hj0;have x:s8 W bp bs bv s:=⟨af.below h0.sep hW (af.lt h0.sep),af.below h0.Cn hW (af.lt h0.Cn),af.below h0.Tq hW (af.lt h0.Tq),h0.ne⟩
 have HY:Hid (∀k W1,J k W1→k<gi s.data.toList→YieldAt Yd (m-1) Tryz.prog l #[.string ⟨(gd s.data.toList k).toArray⟩] W1 fun e W'=>(e=.returned (.bool true)∧J (k+1) W'∧wV bp bs bv W1 W')∨(∃ch,e=.panicked ch∧Jp ch W')):=hY;have HJ:Hid (B5 W.heap.size (fun b=>b=bs) J):=hJ;have D:Hid (s.data.toList.length≤65536):=by rw[Hid,←Pl.aN s];exact hs
 have c1:=af.cell x.sep (i:=0) rfl;generalize hls:s.data.toList=L at *
 have F:Hid (s8 W bp bs bv ⟨(qB L 0).toArray⟩):=by
  have e:(⟨(qB L 0).toArray⟩:ByteArray)=s:=by rw[←hls];rfl
  rw[Hid,e];exact x
 clear h0 x hY hJ hs hW hls;refine callsIn_of_wp Tryz.func175 rfl trivial ?_ rfl;simp only[Tryz.ntmps175,List.size_toArray,List.length_cons,List.length_nil,Nat.reduceAdd,Nat.reduceSub,Array.replicate_succ,Array.replicate_zero,List.push_toArray,Zn,Yi,List.cons_append]
 gi_wp2
 gi_loopw [7] (fun _ wr=>∃k:Nat,k<gi L∧J k wr∧Hid (s8 wr bp bs bv ⟨(qB L k).toArray⟩)∧Hid (W.heap.size≤wr.heap.size)) (fun _ wr=>Uj bs wr)
 case atStart=>exact⟨0,by unfold gi;omega,hj0,F,R3 _⟩
 case round=>
  obtain⟨k,hk,hj,c,A⟩:=hrel;obtain⟨T,hT⟩:∃T:ByteArray,T=⟨(qB L k).toArray⟩:=⟨_,rfl⟩
  have n:Hid (T.data.toList=qB L k):=by rw[Hid,hT]
  have z:T.size=(qB L k).length:=by rw[Pl.aN,n.out]
  rw[←hT]at c;have ks:=af.cell c.out.sep (i:=0) rfl;have kt:=af.cell c.out.Cn (i:=0) rfl;have kv:=af.cell c.out.Tq (i:=0) rfl;have HI:Hid _:=C0 T 44 wr;rw[n.out]at HI;have y:=FO L k;have G:Hid (Uj bs wr=T.data.toList.length):=by rw[Hid];unfold Uj;rw[kt];rfl
  by_cases a:k+1<gi L
  ·obtain⟨t,g⟩:=FQ L a
   rw[t]at HI;obtain⟨j,u⟩:∃j:Nat,j=(gd L k).length:=⟨_,rfl⟩
   rw[←u]at HI g;have M:j<T.size:=vom;have I:(j:Int)≤(T.size:Int):=vom;have H:(j:Int)+1≤(T.size:Int):=vom;have K:(T.size:Int)≤65536:=by have:=D.out;omega
   obtain⟨fn,tmps,assign,body,hy,hR⟩:=HY.out k wr hj hk;have q:(⟨(gd L k).toArray⟩:ByteArray)=T.extract 0 j:=Lx (by rw[lI,u,n.out];show List.drop 0 (List.take (upto 44 _).length _)=_;rw[xU];rfl);rw[q]at hy;have o:Hid _:=hR
   have E:Hid ((⟨(qB L (k+1)).toArray⟩:ByteArray)=T.extract (j+1) T.size):=Lx (by
    rw[lI,n.out,ZD vom,u]
    rfl)
   have B:Hid ((T.extract (j+1) T.size).data.toList.length<T.data.toList.length):=by
    rw[Hid,lI,n.out,ZD vom,List.length_drop];omega
   have C:Hid (k+1<gi L):=a;clear hR t q a hj hk u g y z hT;have hY:(j:Int)≠-1:=vom
   gi_wp2
   refine⟨trivial,fun h=>(by cases h),?_⟩;refine(callsIn_wide.2 HI.out).mono ?_;rintro e V ⟨rfl,rfl⟩
   gi_wp2
   refine⟨fun h=>(by cases h),?_⟩;refine RoundIn.mono o.out ?_;rintro e W3 (⟨rfl,v,d⟩|⟨ch,rfl,w⟩)
   ·have f:Hid (s8 W3 bp bs bv T):=c.out.keep d
    have ks3:=af.cell f.out.sep (i:=0) rfl;have kt3:=af.cell f.out.Cn (i:=0) rfl;have f0:=af.frozen f.out.Cn 0;have HG:Hid (W.heap.size≤W3.heap.size):=Ws A.out d.2.2.2;clear ks kt kv d c o A
    gi_wp2
    go_roundw
    case rel=>
     refine⟨k+1,C.out,?_,?_,?_⟩
     ·exact HJ.out _ _ _ (some bs) HG.out v (grownBy_setCell' _ _ _) (fun r hr=>by cases hr;rfl)
     ·rw[Hid,E.out];exact f.out.set _
     ·exact Ws HG.out (grownBy_setCell' _ _ _).size
    case measure=>
     rw[G.out];have:=af.cell (f.out.set (T.extract (j+1) T.size)).Cn (i:=0) rfl;unfold Uj;rw[this];exact B.out
   ·exact⟨rfl,.inr ⟨ch,rfl,w⟩⟩
  ·have a:k+1=gi L:=vom
   obtain⟨t,g⟩:=Jx L a;rw[t]at HI;obtain⟨fn,tmps,assign,body,hy,hR⟩:=HY.out k wr hj hk;have o:Hid _:=hR;have q:(⟨(gd L k).toArray⟩:ByteArray)=T:=by rw[g,←hT]
   rw[q]at hy;clear hR t g q hj hk y z hT
   gi_wp2
   refine⟨trivial,fun h=>(by cases h),?_⟩;refine(callsIn_wide.2 HI.out).mono ?_;rintro e V ⟨rfl,rfl⟩
   gi_wp2
   refine⟨fun h=>(by cases h),?_⟩;refine RoundIn.mono o.out ?_;rintro e W3 (⟨rfl,v,d⟩|⟨ch,rfl,w⟩)
   ·rw[a]at v
    clear ks kt kv d c o hy
    gi_wp2
    go_end0
    exact .inl ⟨⟨_,rfl⟩,v⟩
   ·exact⟨rfl,.inr ⟨ch,rfl,w⟩⟩
end
end Go.Proofs.YtpcnpkhgjanamaaGreatDoor
