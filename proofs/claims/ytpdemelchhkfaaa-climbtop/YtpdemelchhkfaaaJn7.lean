import Derived.Conc.Beside
import Derived.Test.YtpdemelchhkfaaaJn6
namespace Go.Proofs.Ytpdemelchhkfaaa
namespace Cs
open Go.Conc
abbrev Gh:=Goroutine × World
def Stop (cl:List Frame) (g:Goroutine):Prop:=g.frame.mode=.returning∧g.callers=cl
def Reach (P:Program) (cl:List Frame) (Post:Value→World→Prop) (g:Goroutine) (w:World):Prop :=
 ∃n fr w' v,runN P n (lone g.frame g.callers w)=.next (lone fr cl w')∧fr.leaving P w' (.returned v)∧Post v w'
def Live (P:Program) (cl:List Frame) (Post:Value→World→Prop) (g:Goroutine) (w:World):Prop:=∀τ,(∀i q,i<w.drawn→τ i q=w.tape i q)→Reach P cl Post g (w.tp τ)
def After (P:Program) (cl:List Frame) (s' s:Gh):Prop :=
 ¬Stop cl s.1∧(∃fr cs,s.1=G fr cs)∧(∃fr cs,s'.1=G fr cs)∧∃τ,fN P s.1 (s.2.tp τ) s'.1 s'.2
section
variable {P:Program} {cl:List Frame} {Post:Value→World→Prop}
theorem dW {s s':Gh} {τ τ':Nat→Question→Nat} (h1:∃fr cs,s.1=G fr cs) (h2:∃fr cs,s'.1=G fr cs) (h:fN P s.1 (s.2.tp τ) s'.1 s'.2) (ht:∀i q,s.2.drawn≤i→i<s'.2.drawn→τ' i q=τ i q):step P (lone s.1.frame s.1.callers (s.2.tp τ'))=.next (lone s'.1.frame s'.1.callers (s'.2.tp τ')):=by
 obtain ⟨fr,cs,e1⟩:=h1
 obtain ⟨fr',cs',e2⟩:=h2
 obtain ⟨_,_,h3⟩:=h
 obtain ⟨es,h4⟩:=h3 τ' ht
 rw[e1,e2] at h4
 rw[e1,e2]
 refine step_lone_go ?_
 have h5:stepG P true { frame:=fr,callers:=cs,status:=.running,dying:=none } (s.2.tp τ')=.go (G fr' cs') (s'.2.tp τ') es:=h4
 show (stepG P true { frame:=fr,callers:=cs,status:=.running,dying:=none } (s.2.tp τ')).bare=_
 rw[h5]
 rfl
theorem jN {α:Type} {r:α→α→Prop} {a:α} (h:¬Acc r a):∃f:Nat→α,f 0=a∧∀n,r (f (n+1)) (f n):=by
 have nx:∀x:{ x // ¬Acc r x },∃y:{ x // ¬Acc r x },r y.1 x.1:=fun x=>by
  apply Classical.byContradiction
  intro hn
  refine x.2 (Acc.intro _ fun y hy=>?_)
  apply Classical.byContradiction
  intro hy'
  exact hn ⟨⟨y,hy'⟩,hy⟩
 let g:{ x // ¬Acc r x }→{ x // ¬Acc r x }:=fun x=>Classical.choose (nx x)
 let f:Nat→{ x // ¬Acc r x }:=fun n=>Nat.rec ⟨a,h⟩ (fun _ x=>g x) n
 exact ⟨fun n=>(f n).1,rfl,fun n=>Classical.choose_spec (nx (f n))⟩
theorem dY {g:Goroutine} {w:World} (h:Live P cl Post g w):Acc (After P cl) (g,w):=by
 apply Classical.byContradiction
 intro hn
 obtain ⟨f,f0,hf⟩:=jN hn
 let d:Nat→Nat:=fun k=>(f k).2.drawn
 let t:Nat→Nat→Question→Nat:=fun k=>Classical.choose (hf k).2.2.2
 have ht:∀k,fN P (f k).1 ((f k).2.tp (t k)) (f (k+1)).1 (f (k+1)).2:=fun k=>Classical.choose_spec (hf k).2.2.2
 have hd:∀k,d k≤d (k+1):=fun k=>(ht k).1
 have hmono:∀k j,d k≤d (k+j):=fun k j=>by
  induction j with
  | zero=>exact Nat.le_refl _
  | succ j ih=>exact Nat.le_trans ih (hd (k+j))
 let T:Nat→Question→Nat:=fun i q=>open Classical in if hk:∃k,d k≤i∧i<d (k+1) then t (Classical.choose hk) i q else w.tape i q
 have hT:∀k i q,d k≤i→i<d (k+1)→T i q=t k i q:=fun k i q h1 h2=>by
  have hk:∃k,d k≤i∧i<d (k+1):=⟨k,h1,h2⟩
  show (open Classical in if hk:∃k,d k≤i∧i<d (k+1) then t (Classical.choose hk) i q else w.tape i q)=_
  rw[dif_pos hk]
  obtain ⟨h3,h4⟩:=Classical.choose_spec hk
  have:Classical.choose hk=k:=by
   rcases Nat.lt_trichotomy (Classical.choose hk) k with hlt | heq | hgt
   ·have:=hmono (Classical.choose hk+1) (k-(Classical.choose hk+1))
    rw[show Classical.choose hk+1+(k-(Classical.choose hk+1))=k by omega] at this
    omega
   ·exact heq
   ·have:=hmono (k+1) (Classical.choose hk-(k+1))
    rw[show k+1+(Classical.choose hk-(k+1))=Classical.choose hk by omega] at this
    omega
  rw[this]
 have hrun:∀k,runN P k (lone (f 0).1.frame (f 0).1.callers ((f 0).2.tp T))=.next (lone (f k).1.frame (f k).1.callers ((f k).2.tp T)):=fun k=>by
  induction k with
  | zero=>rfl
  | succ k ih =>
   have hs:=dW (τ':=T) (hf k).2.1 (hf k).2.2.1 (ht k) (fun i q h1 h2=>hT k i q h1 h2)
   rw[runN_add,ih]
   show runN P 1 _=_
   simp only[runN,hs]
 have hd0:d 0=w.drawn:=by show (f 0).2.drawn=_;rw[f0]
 obtain ⟨n,fr,w',v,h1,h2,_⟩:=h T (fun i q hi=>by
  show (open Classical in if hk:∃k,d k≤i∧i<d (k+1) then t (Classical.choose hk) i q else w.tape i q)=_
  rw[dif_neg (fun ⟨k,h3,_⟩=>by have:=hmono 0 k;rw[Nat.zero_add] at this;omega)])
 have hfn:=hrun n
 rw[f0] at hfn
 rw[hfn] at h1
 injection h1 with h1
 have e1:(f n).1.frame=fr∧(f n).1.callers=cl:=by
  unfold lone at h1
  injection h1 with hw hg hr
  have:({ frame:=(f n).1.frame,callers:=(f n).1.callers,status:=.running,dying:=none }:Goroutine)={ frame:=fr,callers:=cl,status:=.running,dying:=none }:=by
   have:=congrArg (fun a=>a[0]?) hg
   simpa using this
  injection this with a b
  exact ⟨a,b⟩
 exact (hf n).1 ⟨by rw[e1.1];exact h2.1,e1.2⟩
end
end Cs
namespace Cs
open Go.Conc
def ay (P : Program) : Frame := { fn := P.funcs.size, tmps := #[], todo := [.call default false "fmt's door" #[]], defers := [], mode := .run, kind := .normal }
theorem uD : Extern.next "fmt's door" = none := by kernel_rfl
theorem vw : ("fmt's door".startsWith "fmt's door") = true := by kernel_rfl
section
variable {P:Program} {Post:Value→World→Prop}
theorem jZ (v:Value) (w:World):∃o w' ,step P (lone ((ay P).finish v) [] w)=.ended o w':=by
 have h : stepG P true (G ((ay P).finish v) []) w = .ended (.stuck ("no extern row " ++ "fmt's door") (((ay P).finish v).pos P)) w := by
  simp only[G,stepG,stepG.exec,ay,Frame.finish,uD,Option.elim_none]
 exact ⟨_,_,step_lone_ended (by
  have h5:stepG P true { frame:=(ay P).finish v,callers:=[],status:=.running,dying:=none } w=_:=h
  rw[h5]
  rfl)⟩
theorem lU (chain:List PanicEntry) (w:World):∃o w',step P (lone ((ay P).raise chain) [] w)=.ended o w':=by
 have hc:((ay P).raise chain).catches P=true:=by
  unfold Frame.catches
  have:P.funcs[((ay P).raise chain).fn]? = none:=by simp[ay,Frame.raise]
  rw[this]
  show ("fmt's door".startsWith "fmt's door") = true
  exact vw
 have h:∃o w' es,stepG P true (G ((ay P).raise chain) []) w=.ended o w' es:=by
  have e:stepG P true (G ((ay P).raise chain) []) w=unwind P true ((ay P).raise chain) [] none w:=rfl
  rw[e]
  unfold unwind
  simp only[ay,Frame.raise] at hc ⊢
  simp only[hc,if_true]
  exact ⟨_,_,_,rfl⟩
 obtain ⟨o,w',es,h⟩:=h
 exact ⟨_,_,step_lone_ended (by
  have h5:stepG P true { frame:=(ay P).raise chain,callers:=[],status:=.running,dying:=none } w=_:=h
  rw[h5]
  rfl)⟩
theorem cz {m:Machine} {o:Outcome} {w:World} (h:step P m=.ended o w):∀n m',runN P (n+1) m≠.next m':=fun n m' e=>by
 simp only[runN,h] at e
 cases e
theorem bE {fr fr':Frame} {cs cs':List Frame} {w w':World} (h:lone fr cs w=lone fr' cs' w'):fr=fr'∧cs=cs'∧w=w':=by
 unfold lone at h
 injection h with hw hg hr
 have:({ frame:=fr,callers:=cs,status:=.running,dying:=none }:Goroutine)={ frame:=fr',callers:=cs',status:=.running,dying:=none }:=by
  have:=congrArg (fun a=>a[0]?) hg
  simpa using this
 injection this with a b
 exact ⟨a,b,hw⟩
inductive lg (P:Program):List Frame→Prop
 | base:lg P [ay P]
 | cons {fn:FuncId} {x:Array Value} {todo:List Item} {l:List Frame} (hf:∃f,P.funcs[fn]? = some f) (h:lg P l):lg P (mkF fn x todo .run :: l)
theorem ja:∀(n:Nat) {l:List Frame},lg P l→∀{fn:FuncId} {x:Array Value} {todo:List Item} {chain:List PanicEntry} {w:World},(∃f,P.funcs[fn]? = some f)→∀{fr':Frame} {cs':List Frame} {w':World},runN P n (lone (mkF fn x todo (.panicking chain)) l w)=.next (lone fr' cs' w')→fr'.mode≠.returning
 | 0,l,_,fn,x,todo,chain,w,_,fr',cs',w',h=>by
  injection h with h
  obtain ⟨rfl,_⟩:=bE h
  exact fun e=>by cases e
 | n+1,l,hl,fn,x,todo,chain,w,⟨f,hf⟩,fr',cs',w',h=>by
  have hstep:∀(cal:Frame) (rest:List Frame),l=cal :: rest→step P (lone (mkF fn x todo (.panicking chain)) l w)=.next (lone (cal.raise chain) rest w):=fun cal rest e=>by
   subst e
   refine step_lone_go ?_
   have hc:(mkF fn x todo (.panicking chain)).catches P=false:=by
    unfold Frame.catches
    have:P.funcs[(mkF fn x todo (.panicking chain)).fn]? = some f:=hf
    rw[this]
   show GStep.bare (unwind P true (mkF fn x todo (.panicking chain)) (cal :: rest) none w)=_
   unfold unwind
   simp only[mkF] at hc ⊢
   simp only[hc,Bool.false_eq_true,if_false]
   rfl
  cases hl with
  | base =>
   simp only[runN,hstep _ _ rfl] at h
   cases n with
   | zero =>
    injection h with h
    obtain ⟨rfl,_⟩:=bE h
    exact fun e=>by cases e
   | succ n =>
    obtain ⟨o,w2,hd⟩:=lU (P:=P) chain w
    exact absurd h (cz hd n _)
  | cons hf2 hl2 =>
   simp only[runN,hstep _ _ rfl] at h
   exact ja n hl2 hf2 h
variable [Fns]
theorem CR.DU {E:Env} {c l l':List Frame} (h:CR P E [ay P] c l l'):lg P l:=by
 induction h with
 | base=>exact .base
 | cons hf _ _ _ ih=>exact .cons hf ih
theorem wV {E:Env} {c:List Frame} {gl g:Goroutine} {wl:World} (hg:GR P E [ay P] c gl g) (hns:¬Stop [ay P] gl) (h:kW P gl wl):¬Reach P [ay P] Post gl wl:=by
 rintro ⟨n,fr,w',v,h1,h2,_⟩
 obtain ⟨fn,x,y,todo,mode,l,l',rfl,rfl,hf,hx,ht,hm,hcr⟩:=hg.ex
 cases n with
 | zero =>
  injection h1 with h1
  obtain ⟨e1,e2,_⟩:=bE h1
  exact hns ⟨by rw[e1];exact h2.1,e2⟩
 | succ n =>
  rcases h with ⟨o,w2,es,h⟩ | ⟨fn2,x2,todo2,chain,w2,es,h,hf2⟩
  ·have:step P (lone (mkF fn x todo mode) l wl)=.ended o w2:=step_lone_ended (by
    have h5:stepG P true { frame:=mkF fn x todo mode,callers:=l,status:=.running,dying:=none } wl=_:=h
    rw[h5]
    rfl)
   exact cz this n _ h1
  ·have:step P (lone (mkF fn x todo mode) l wl)=.next (lone (mkF fn2 x2 todo2 (.panicking chain)) l w2):=step_lone_go (by
    have h5:stepG P true { frame:=mkF fn x todo mode,callers:=l,status:=.running,dying:=none } wl=_:=h
    rw[h5]
    rfl)
   have h1':runN P (n+1) (lone (mkF fn x todo mode) l wl)=.next (lone fr [ay P] w'):=h1
   simp only[runN,this] at h1'
   exact ja n hcr.DU hf2 h1' h2.1
theorem iM {E:Env} {c:List Frame} {gl g:Goroutine} {wl:World} (hg:GR P E [ay P] c gl g) (hs:Stop [ay P] gl) (h:Reach P [ay P] Post gl wl):∃v,gl.frame.leaving P wl (.returned v)∧Post v wl:=by
 obtain ⟨n,fr,w',v,h1,h2,h3⟩:=h
 obtain ⟨fn,x,y,todo,mode,l,l',rfl,rfl,hf,hx,ht,hm,hcr⟩:=hg.ex
 cases n with
 | zero =>
  injection h1 with h1
  obtain ⟨rfl,_,rfl⟩:=bE h1
  exact ⟨v,h2,h3⟩
 | succ n =>
  exfalso
  obtain ⟨hm2,hl⟩:=hs
  have hm2':mode=.returning:=hm2
  have hl':l=[ay P]:=hl
  subst hm2' hl'
  obtain ⟨f,hfn⟩:=hf
  have h1':runN P (n+1) (lone (mkF fn x todo .returning) [ay P] wl)=.next (lone fr [ay P] w'):=h1
  have s1:=bA (P:=P) (main:=true) (x:=x) (todo:=todo) (l:=[]) (w:=wl) (cal:=ay P) hfn
  cases hr:(results f x).run P wl with
  | halt hh w2 =>
   rw[hr] at s1
   have:∃o w3,step P (lone (mkF fn x todo .returning) [ay P] wl)=.ended o w3:=by
    cases hh <;> exact ⟨_,_,step_lone_ended (by
     have h5:stepG P true { frame:=mkF fn x todo .returning,callers:=[ay P],status:=.running,dying:=none } wl=_:=s1
     rw[h5]
     rfl)⟩
   obtain ⟨o,w3,h4⟩:=this
   exact cz h4 n _ h1'
  | ok u w2 =>
   rw[hr] at s1
   have h4:step P (lone (mkF fn x todo .returning) [ay P] wl)=.next (lone ((ay P).finish u) [] w2):=step_lone_go (by
    have h5:stepG P true { frame:=mkF fn x todo .returning,callers:=[ay P],status:=.running,dying:=none } wl=_:=s1
    rw[h5]
    rfl)
   simp only[runN,h4] at h1'
   cases n with
   | zero =>
    injection h1' with h1'
    obtain ⟨_,e2,_⟩:=bE h1'
    cases e2
   | succ n =>
    obtain ⟨o,w3,h5⟩:=jZ (P:=P) u w2
    exact cz h5 n _ h1'
end
end Cs
namespace Cs
open Go.Conc
variable [Fns]
structure bB (P:Program) (Post:Value→World→Prop) (c:List Frame) (E:Env) (gl:Goroutine) (wl:World) (g:Goroutine) (w:World):Prop where
 gr:GR P E [ay P] c gl g
 wr:WR P E wl w
 big:Fns.G≤wl.heap.size
 live:Live P [ay P] Post gl wl
section
variable {P:Program} {Post:Value→World→Prop} {c:List Frame} {E:Env} {gl g:Goroutine} {wl w:World}
theorem bB.other {w2:World} (h:bB P Post c E gl wl g w) (hw:∀b x,E b=some x→w2.heap[x.1]? = w.heap[x.1]?):bB P Post c E gl wl g w2:=by
 refine ⟨h.gr,⟨fun b q s e=>?_,fun b q s e=>?_,h.wr.inj,h.wr.low⟩,h.big,h.live⟩
 ·obtain ⟨h1,ol,o,h2,h3,h4⟩:=h.wr.own b q s e
  exact ⟨h1,ol,o,h2,(hw b _ e).trans h3,h4⟩
 ·obtain ⟨x,T,y,T',fr,h1,h2,h3,h4⟩:=h.wr.shared b q s e
  exact ⟨x,T,y,T',fr,h1,h2,(hw b _ e).trans h3,h4⟩
theorem bB.running (h:bB P Post c E gl wl g w):g.status=.running:=by
 obtain ⟨fn,x,y,todo,mode,l,l',rfl,rfl,_⟩:=h.gr.ex
 rfl
theorem bB.start (hC:bu P) {f:FuncId} (hf:Fns.ok f=true) {x y:Array Value} (hx:LR E x y) (hw:WR P E wl w) (hb:Fns.G≤wl.heap.size) (hc:∀τ,Calls P f x (wl.tp τ) fun e w'=>∃v,e=.returned v∧Post v w') :
  bB P Post c E (G (Frame.enter P f x .normal) [ay P]) wl (G (Frame.enter P f y .normal) c) w:=by
 obtain ⟨x',y',todo,e1,e2,e3,e4⟩:=jw hC hf hx
 refine ⟨?_,hw,hb,fun τ _=>?_⟩
 ·rw[e1,e2]
  exact .mk' (hC.zD hf) e3 e4 (.inl rfl) .base
 ·obtain ⟨e,w',fr,⟨v,rfl,hp⟩,⟨n,hn⟩,_,hl⟩:=hc τ [ay P]
  exact ⟨n,fr,w',v,hn,hl,hp⟩
def aL (wl w:World):Nat→Question→Nat:=fun i q=>if i<wl.drawn then wl.tape i q else w.tape (i-wl.drawn+w.drawn) q
omit [Fns] in
theorem eO (wl w:World):TA (wl.tp (aL wl w)) w:=fun i q=>by
 show aL wl w (wl.drawn+i) q=_
 unfold aL
 rw[if_neg (by omega),show wl.drawn+i-wl.drawn+w.drawn=w.drawn+i by omega]
omit [Fns] in
theorem bK {wl w:World} {i:Nat} (q:Question) (h:i<wl.drawn):aL wl w i q=wl.tape i q:=by
 unfold aL
 rw[if_pos h]
theorem WR.tp (h:WR P E wl w) (τ:Nat→Question→Nat):WR P E (wl.tp τ) w:=⟨h.own,h.shared,h.inj,h.low⟩
theorem bB.AH (hG:P.globals.size≤Fns.G) (hC:bu P) (main:Bool) (h:bB P Post c E gl wl g w) (hns:¬Stop [ay P] gl) :
  ∃E' gl' wl' g' w' es,stepG P main g w=.go g' w' es∧bB P Post c E' gl' wl' g' w'∧After P [ay P] (gl',wl') (gl,wl)∧(∀e ∈ es,ef E' e)∧FC E E' w w'∧dL g'=dL g:=by
 have hb:cT P E (wl.tp (aL wl w)) w:=⟨h.wr.tp _,eO _ _,h.big⟩
 rcases jd (main:=main) hG hC h.gr hb hns with ⟨gl',wl',esl,E',g',w',es,s1,s2,hg,hB,hev,hlast,hfc,hloc⟩ | hlost
 ·have f1:∃fr cs,gl=G fr cs:=by
   obtain ⟨fn,x,y,todo,mode,l,l',e,_⟩:=h.gr.ex
   exact ⟨_,_,e⟩
  have f2:∃fr cs,gl'=G fr cs:=by
   obtain ⟨fn,x,y,todo,mode,l,l',e,_⟩:=hg.ex
   exact ⟨_,_,e⟩
  refine ⟨E',gl',wl',g',w',es,s2,⟨hg,hB.wr,hB.big,fun τ hτ=>?_⟩,⟨hns,f1,f2,_,hloc⟩,hev,hfc,hlast⟩
  obtain ⟨l1,l2,l3⟩:=hloc
  have l1':wl.drawn≤wl'.drawn:=l1
  have l2':wl'.tape=aL wl w:=l2
  rw[l2'] at hτ
  obtain ⟨n,fr,w2,v,h1,h2,h3⟩:=h.live τ (fun i q hi=>by rw[hτ i q (by omega),bK q hi])
  cases n with
  | zero =>
   injection h1 with h1
   obtain ⟨e1,e2,_⟩:=bE h1
   exact absurd ⟨by rw[e1];exact h2.1,e2⟩ hns
  | succ n =>
   have hs:=dW (P:=P) (s:=(gl,wl)) (s':=(gl',wl')) (τ:=aL wl w) (τ':=τ) f1 f2 ⟨l1,l2,l3⟩ (fun i q h4 h5=>hτ i q h5)
   simp only[runN,hs] at h1
   exact ⟨n,fr,w2,v,h1,h2,h3⟩
 ·exact absurd (h.live (aL wl w) (fun i q hi=>bK q hi)) (wV h.gr hns hlost)
theorem bB.step (hG:P.globals.size≤Fns.G) (hC:bu P) (main:Bool) (h:bB P Post c E gl wl g w) (hns:¬Stop [ay P] gl) :
  ∃E' gl' wl' g' w' es,stepG P main g w=.go g' w' es∧bB P Post c E' gl' wl' g' w'∧After P [ay P] (gl',wl') (gl,wl)∧(∀e ∈ es,ef E' e)∧FC E E' w w':=by
 obtain ⟨E',gl',wl',g',w',es,h1,h2,h3,h4,h5,_⟩:=h.AH hG hC main hns
 exact ⟨E',gl',wl',g',w',es,h1,h2,h3,h4,h5⟩
theorem bB.ret (main:Bool) {cal:Frame} {rest:List Frame} (h:bB P Post (cal :: rest) E gl wl g w) (hs:Stop [ay P] gl) :
  ∃v wl2 E' v' w' es,Post v wl2∧VR E' v v'∧WR P E' wl2 w'∧stepG P main g w=.go (G (cal.finish v') rest) w' es∧(∀e ∈ es,ef E' e)∧FC E E' w w':=by
 have hb:cT P E (wl.tp (aL wl w)) w:=⟨h.wr.tp _,eO _ _,h.big⟩
 obtain ⟨v,hl,hp⟩:=iM h.gr hs (h.live (aL wl w) (fun i q hi=>bK q hi))
 obtain ⟨fn,x,y,todo,mode,l,l',rfl,rfl,hf,hx,ht,hm,hcr⟩:=h.gr.ex
 obtain ⟨hm2,hl2⟩:=hs
 have hm2':mode=.returning:=hm2
 have hl2':l=[ay P]:=hl2
 subst hm2' hl2'
 obtain ⟨_,_,_,f,hfn,hr⟩:=hl
 have hfn':P.funcs[fn]? = some f:=hfn
 have hr':(results f x).run P (wl.tp (aL wl w))=.ok v (wl.tp (aL wl w)):=hr
 have hout:=(cY (P:=P) f hx).run _ w #[] hb
 rw[hr'] at hout
 obtain ⟨E',v',w',es',k1,k2,k3,k4,k5⟩:=hout
 have hlc:l'=cal :: rest:=by
  have hlen:∀{a b:List Frame},CR P E [ay P] (cal :: rest) a b→a=[ay P]→b=cal :: rest:=fun {a b} hab e=>by
   cases hab with
   | base=>rfl
   | cons hf2 hx2 ht2 h2 =>
    exfalso
    injection e with e1 e2
    have:=congrArg Frame.todo e1
    simp only[mkF,ay] at this
    rw[this] at ht2
    simp[pend,aK] at ht2
  exact hlen hcr rfl
 subst hlc
 have s2:=bA (P:=P) (main:=main) (x:=y) (todo:=todo) (l:=rest) (w:=w) (cal:=cal) hfn'
 have hr2:(results f y).run P w=.ok v' w':=by rw[←Sem.runT_fst P _ w #[],k1]
 rw[hr2,k1] at s2
 dsimp only[GStep.after] at s2
 refine ⟨v,_,E',v',w',_,hp,k2,k3.wr,s2,fun e he=>?_,k5⟩
 simp only[Array.append_empty,Array.empty_append] at he
 exact k4 e (mem_seen he)
end
end Cs
namespace Cs
open Go.Conc
def Wdl (t:Trace):Prop:=∃k,k≤t.size∧(∀g,t.deaf g k=0)∧∀i x,k≤i→t[i]? = some x→∀m,x.act=.mark m→Neutral m
structure TI (t:Trace) (own:_root_.Go.Loc→Option Nat) (act:Nat→Prop):Prop where
 clean:∀said,¬Race said t
 mine:∀l g,own l=some g→Perm t g l
 read:∀l,own l=none→∀g,act g→∀i a,touchAt t i=some a→a.loc=l→a.write=true→Knows t g i
 words:Wdl t
section
variable {t u:Trace} {own:_root_.Go.Loc→Option Nat} {act:Nat→Prop}
end
end Cs
namespace Cs
open Go.Conc
section
variable {α:Type} {r:α→α→Prop}
inductive fq (r:α→α→Prop):List α→List α→Prop
 | head {a b:α} (l:List α) (h:r a b):fq r (a :: l) (b :: l)
 | tail (a:α) {l l':List α} (h:fq r l l'):fq r (a :: l) (a :: l')
theorem oD {a:α} (ha:Acc r a):∀{l:List α},Acc (fq r) l→Acc (fq r) (a :: l):=by
 induction ha with
 | intro a _ iha =>
  intro l hl
  induction hl with
  | intro l hl ihl =>
   refine Acc.intro _ fun y hy=>?_
   cases hy with
   | head _ h=>exact iha _ h (Acc.intro _ hl)
   | tail _ h=>exact ihl _ h
theorem sG (wf:WellFounded r):WellFounded (fq r):=⟨fun l=>by
 induction l with
 | nil=>exact Acc.intro _ fun y hy=>by cases hy
 | cons a l ih=>exact oD (wf.apply a) ih⟩
theorem kN {ι:Type} (f f':ι→α):∀{l:List ι} {i:ι},l.Nodup→i ∈ l→r (f' i) (f i)→(∀j,j≠i→f' j=f j)→fq r (l.map f') (l.map f)
 | [],_,_,h,_,_=>by cases h
 | a :: l,i,hn,hi,hr,ho=>by
  have hna:a ∉ l:=(List.nodup_cons.1 hn).1
  by_cases e:a=i
  ·subst e
   have:l.map f'=l.map f:=List.map_congr_left fun j hj=>ho j (fun e=>hna (e ▸ hj))
   rw[List.map_cons,List.map_cons,this]
   exact .head _ hr
  ·have hi':i ∈ l:=by
    rcases List.mem_cons.1 hi with h | h
    ·exact absurd h.symm e
    ·exact h
   rw[List.map_cons,List.map_cons,ho a e]
   exact .tail _ (kN f f' (List.nodup_cons.1 hn).2 hi' hr ho)
end
abbrev Mi (P:Program) (cl:List Frame):=Nat ⊕ { s:Gh // Acc (After P cl) s }
inductive kV (P:Program) (cl:List Frame):Mi P cl→Mi P cl→Prop
 | walk {m n:Nat} (h:m<n):kV P cl (.inl m) (.inl n)
 | call {s s':{ s:Gh // Acc (After P cl) s }} (h:After P cl s'.1 s.1):kV P cl (.inr s') (.inr s)
theorem DD (P:Program) (cl:List Frame):WellFounded (kV P cl):=⟨fun a=>by
 cases a with
 | inl n =>
  induction n using Nat.strongRecOn with
  | _ n ih =>
   refine Acc.intro _ fun y hy=>?_
   cases hy with
   | walk h=>exact ih _ h
 | inr s =>
  obtain ⟨s,hs⟩:=s
  induction hs with
  | intro s hs ih =>
   refine Acc.intro _ fun y hy=>?_
   cases hy with
   | @call _ s' h=>exact ih s'.1 h⟩
abbrev Me (P:Program) (cl:List Frame):=Nat × List (Mi P cl)
def yP (P:Program) (cl:List Frame):Me P cl→Me P cl→Prop:=Prod.Lex (·<·) (fq (kV P cl))
theorem De (P:Program) (cl:List Frame):WellFounded (yP P cl):=(Prod.lex ⟨_,Nat.lt_wfRel.wf⟩ ⟨_,sG (DD P cl)⟩).wf
theorem ga {P:Program} {α:Type} {r:α→α→Prop} (wf:WellFounded r) (Inv:α→Machine→Trace→Prop) (Q:Machine→Trace→Prop)
  (h:∀μ m t,Inv μ m t→Q m t∨∃m' ops μ',stepT P m=(.next m',ops)∧r μ' μ∧Inv μ' m' (t++ops)) :
  ∀μ m t,Inv μ m t→∃N m' t',runNT P N m t=(.next m',t')∧Q m' t':=by
 intro μ
 induction μ using wf.induction with
 | _ μ ih =>
  intro m t hI
  rcases h μ m t hI with hq | ⟨m',ops,μ',hs,hr,hI'⟩
  ·exact ⟨0,m,t,rfl,hq⟩
  ·obtain ⟨N,m2,t2,h1,h2⟩:=ih μ' hr m' (t++ops) hI'
   exact ⟨N+1,m2,t2,by rw[runNT_succ_next hs];exact h1,h2⟩
end Cs
end Go.Proofs.Ytpdemelchhkfaaa
