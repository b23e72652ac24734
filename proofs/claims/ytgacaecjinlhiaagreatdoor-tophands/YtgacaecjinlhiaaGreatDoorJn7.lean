import Derived.Conc.Beside
import Derived.Conc.CrowdComm
import Derived.Test.YtgacaecjinlhiaaGreatDoorJn6
namespace Go.Proofs.YtgacaecjinlhiaaGreatDoor
namespace Cs
open Go.Conc
abbrev Gh:=Goroutine × World
def Stop (cl:List Frame) (g:Goroutine):Prop:=g.frame.mode=.returning∧g.callers=cl
def Reach (P:Program) (cl:List Frame) (Post:Value→World→Prop) (g:Goroutine) (w:World):Prop :=
 ∃n fr w' v,runN P n (lone g.frame g.callers w)=.next (lone fr cl w')∧fr.leaving P w' (.returned v)∧Post v w'
def Live (P:Program) (cl:List Frame) (Post:Value→World→Prop) (g:Goroutine) (w:World):Prop:=∀τ,(∀i q,i<w.drawn→τ i q=w.tape i q)→Reach P cl Post g (w.tp τ)
def After (P:Program) (cl:List Frame) (s' s:Gh):Prop :=
 ¬Stop cl s.1∧(∃fr cs,s.1=G fr cs)∧(∃fr cs,s'.1=G fr cs)∧∃τ,ve P s.1 (s.2.tp τ) s'.1 s'.2
section
variable {P:Program} {cl:List Frame} {Post:Value→World→Prop}
theorem nH {s s':Gh} {τ τ':Nat→Question→Nat} (h1:∃fr cs,s.1=G fr cs) (h2:∃fr cs,s'.1=G fr cs) (h:ve P s.1 (s.2.tp τ) s'.1 s'.2) (ht:∀i q,s.2.drawn≤i→i<s'.2.drawn→τ' i q=τ i q):step P (lone s.1.frame s.1.callers (s.2.tp τ'))=.next (lone s'.1.frame s'.1.callers (s'.2.tp τ')):=by
 obtain ⟨fr,cs,e1⟩:=h1
 obtain ⟨fr',cs',e2⟩:=h2
 obtain ⟨_,_,h3⟩:=h
 obtain ⟨es,h4⟩:=h3 τ' ht
 rw[e1,e2] at h4
 rw[e1,e2]
 refine step_lone_go ?_
 have h5:stepG P true { frame:=fr,callers:=cs,status:=.running,dying:=none } (s.2.tp τ')=.go (G fr' cs') (s'.2.tp τ') es:=h4
 show (stepG P true { frame:=fr,callers:=cs,status:=.running,dying:=none } (s.2.tp τ')).bare=_
 rw[h5]
 rfl
theorem tK {α:Type} {r:α→α→Prop} {a:α} (h:¬Acc r a):∃f:Nat→α,f 0=a∧∀n,r (f (n+1)) (f n):=by
 have nx:∀x:{ x // ¬Acc r x },∃y:{ x // ¬Acc r x },r y.1 x.1:=fun x=>by
  apply Classical.byContradiction
  intro hn
  refine x.2 (Acc.intro _ fun y hy=>?_)
  apply Classical.byContradiction
  intro hy'
  exact hn ⟨⟨y,hy'⟩,hy⟩
 let g:{ x // ¬Acc r x }→{ x // ¬Acc r x }:=fun x=>Classical.choose (nx x)
 let f:Nat→{ x // ¬Acc r x }:=fun n=>Nat.rec ⟨a,h⟩ (fun _ x=>g x) n
 exact ⟨fun n=>(f n).1,rfl,fun n=>Classical.choose_spec (nx (f n))⟩
theorem fR {g:Goroutine} {w:World} (h:Live P cl Post g w):Acc (After P cl) (g,w):=by
 apply Classical.byContradiction
 intro hn
 obtain ⟨f,f0,hf⟩:=tK hn
 let d:Nat→Nat:=fun k=>(f k).2.drawn
 let t:Nat→Nat→Question→Nat:=fun k=>Classical.choose (hf k).2.2.2
 have ht:∀k,ve P (f k).1 ((f k).2.tp (t k)) (f (k+1)).1 (f (k+1)).2:=fun k=>Classical.choose_spec (hf k).2.2.2
 have hd:∀k,d k≤d (k+1):=fun k=>(ht k).1
 have hmono:∀k j,d k≤d (k+j):=fun k j=>by
  induction j with
  | zero=>exact Nat.le_refl _
  | succ j ih=>exact Nat.le_trans ih (hd (k+j))
 let T:Nat→Question→Nat:=fun i q=>open Classical in if hk:∃k,d k≤i∧i<d (k+1) then t (Classical.choose hk) i q else w.tape i q
 have hT:∀k i q,d k≤i→i<d (k+1)→T i q=t k i q:=fun k i q h1 h2=>by
  have hk:∃k,d k≤i∧i<d (k+1):=⟨k,h1,h2⟩
  show (open Classical in if hk:∃k,d k≤i∧i<d (k+1) then t (Classical.choose hk) i q else w.tape i q)=_
  rw[dif_pos hk]
  obtain ⟨h3,h4⟩:=Classical.choose_spec hk
  have:Classical.choose hk=k:=by
   rcases Nat.lt_trichotomy (Classical.choose hk) k with hlt | heq | hgt
   ·have:=hmono (Classical.choose hk+1) (k-(Classical.choose hk+1))
    rw[show Classical.choose hk+1+(k-(Classical.choose hk+1))=k by omega] at this
    omega
   ·exact heq
   ·have:=hmono (k+1) (Classical.choose hk-(k+1))
    rw[show k+1+(Classical.choose hk-(k+1))=Classical.choose hk by omega] at this
    omega
  rw[this]
 have hrun:∀k,runN P k (lone (f 0).1.frame (f 0).1.callers ((f 0).2.tp T))=.next (lone (f k).1.frame (f k).1.callers ((f k).2.tp T)):=fun k=>by
  induction k with
  | zero=>rfl
  | succ k ih =>
   have hs:=nH (τ':=T) (hf k).2.1 (hf k).2.2.1 (ht k) (fun i q h1 h2=>hT k i q h1 h2)
   rw[runN_add,ih]
   show runN P 1 _=_
   simp only[runN,hs]
 have hd0:d 0=w.drawn:=by show (f 0).2.drawn=_;rw[f0]
 obtain ⟨n,fr,w',v,h1,h2,_⟩:=h T (fun i q hi=>by
  show (open Classical in if hk:∃k,d k≤i∧i<d (k+1) then t (Classical.choose hk) i q else w.tape i q)=_
  rw[dif_neg (fun ⟨k,h3,_⟩=>by have:=hmono 0 k;rw[Nat.zero_add] at this;omega)])
 have hfn:=hrun n
 rw[f0] at hfn
 rw[hfn] at h1
 injection h1 with h1
 have e1:(f n).1.frame=fr∧(f n).1.callers=cl:=by
  unfold lone at h1
  injection h1 with hw hg hr
  have:({ frame:=(f n).1.frame,callers:=(f n).1.callers,status:=.running,dying:=none }:Goroutine)={ frame:=fr,callers:=cl,status:=.running,dying:=none }:=by
   have:=congrArg (fun a=>a[0]?) hg
   simpa using this
  injection this with a b
  exact ⟨a,b⟩
 exact (hf n).1 ⟨by rw[e1.1];exact h2.1,e1.2⟩
end
end Cs
namespace Cs
open Go.Conc
def aV (P : Program) : Frame := { fn := P.funcs.size, tmps := #[], todo := [.call default false "fmt's door" #[]], defers := [], mode := .run, kind := .normal }
theorem AB : Extern.next "fmt's door" = none := by kernel_rfl
theorem Bh : ("fmt's door".startsWith "fmt's door") = true := by kernel_rfl
section
variable {P:Program} {Post:Value→World→Prop}
theorem BP (v:Value) (w:World):∃o w' ,step P (lone ((aV P).finish v) [] w)=.ended o w':=by
 have h : stepG P true (G ((aV P).finish v) []) w = .ended (.stuck ("no extern row " ++ "fmt's door") (((aV P).finish v).pos P)) w := by
  simp only[G,stepG,stepG.exec,aV,Frame.finish,AB,Option.elim_none]
 exact ⟨_,_,step_lone_ended (by
  have h5:stepG P true { frame:=(aV P).finish v,callers:=[],status:=.running,dying:=none } w=_:=h
  rw[h5]
  rfl)⟩
theorem yF (chain:List PanicEntry) (w:World):∃o w',step P (lone ((aV P).raise chain) [] w)=.ended o w':=by
 have hc:((aV P).raise chain).catches P=true:=by
  unfold Frame.catches
  have:P.funcs[((aV P).raise chain).fn]? = none:=by simp[aV,Frame.raise]
  rw[this]
  show ("fmt's door".startsWith "fmt's door") = true
  exact Bh
 have h:∃o w' es,stepG P true (G ((aV P).raise chain) []) w=.ended o w' es:=by
  have e:stepG P true (G ((aV P).raise chain) []) w=unwind P true ((aV P).raise chain) [] none w:=rfl
  rw[e]
  unfold unwind
  simp only[aV,Frame.raise] at hc ⊢
  simp only[hc,if_true]
  exact ⟨_,_,_,rfl⟩
 obtain ⟨o,w',es,h⟩:=h
 exact ⟨_,_,step_lone_ended (by
  have h5:stepG P true { frame:=(aV P).raise chain,callers:=[],status:=.running,dying:=none } w=_:=h
  rw[h5]
  rfl)⟩
theorem jK {m:Machine} {o:Outcome} {w:World} (h:step P m=.ended o w):∀n m',runN P (n+1) m≠.next m':=fun n m' e=>by
 simp only[runN,h] at e
 cases e
theorem gO {fr fr':Frame} {cs cs':List Frame} {w w':World} (h:lone fr cs w=lone fr' cs' w'):fr=fr'∧cs=cs'∧w=w':=by
 unfold lone at h
 injection h with hw hg hr
 have:({ frame:=fr,callers:=cs,status:=.running,dying:=none }:Goroutine)={ frame:=fr',callers:=cs',status:=.running,dying:=none }:=by
  have:=congrArg (fun a=>a[0]?) hg
  simpa using this
 injection this with a b
 exact ⟨a,b,hw⟩
inductive C6 (P:Program):List Frame→Prop
 | base:C6 P [aV P]
 | cons {fn:FuncId} {x:Array Value} {todo:List Item} {l:List Frame} (hf:∃f,P.funcs[fn]? = some f) (h:C6 P l):C6 P (mkF fn x todo .run :: l)
theorem pR:∀(n:Nat) {l:List Frame},C6 P l→∀{fn:FuncId} {x:Array Value} {todo:List Item} {chain:List PanicEntry} {w:World},(∃f,P.funcs[fn]? = some f)→∀{fr':Frame} {cs':List Frame} {w':World},runN P n (lone (mkF fn x todo (.panicking chain)) l w)=.next (lone fr' cs' w')→fr'.mode≠.returning
 | 0,l,_,fn,x,todo,chain,w,_,fr',cs',w',h=>by
  injection h with h
  obtain ⟨rfl,_⟩:=gO h
  exact fun e=>by cases e
 | n+1,l,hl,fn,x,todo,chain,w,⟨f,hf⟩,fr',cs',w',h=>by
  have hstep:∀(cal:Frame) (rest:List Frame),l=cal :: rest→step P (lone (mkF fn x todo (.panicking chain)) l w)=.next (lone (cal.raise chain) rest w):=fun cal rest e=>by
   subst e
   refine step_lone_go ?_
   have hc:(mkF fn x todo (.panicking chain)).catches P=false:=by
    unfold Frame.catches
    have:P.funcs[(mkF fn x todo (.panicking chain)).fn]? = some f:=hf
    rw[this]
   show GStep.bare (unwind P true (mkF fn x todo (.panicking chain)) (cal :: rest) none w)=_
   unfold unwind
   simp only[mkF] at hc ⊢
   simp only[hc,Bool.false_eq_true,if_false]
   rfl
  cases hl with
  | base =>
   simp only[runN,hstep _ _ rfl] at h
   cases n with
   | zero =>
    injection h with h
    obtain ⟨rfl,_⟩:=gO h
    exact fun e=>by cases e
   | succ n =>
    obtain ⟨o,w2,hd⟩:=yF (P:=P) chain w
    exact absurd h (jK hd n _)
  | cons hf2 hl2 =>
   simp only[runN,hstep _ _ rfl] at h
   exact pR n hl2 hf2 h
variable [Fns]
theorem CR.LP {E:Env} {c l l':List Frame} (h:CR P E [aV P] c l l'):C6 P l:=by
 induction h with
 | base=>exact .base
 | cons hf _ _ _ ih=>exact .cons hf ih
theorem EL {E:Env} {c:List Frame} {gl g:Goroutine} {wl:World} (hg:GR P E [aV P] c gl g) (hns:¬Stop [aV P] gl) (h:GX P gl wl):¬Reach P [aV P] Post gl wl:=by
 rintro ⟨n,fr,w',v,h1,h2,_⟩
 obtain ⟨fn,x,y,todo,mode,l,l',rfl,rfl,hf,hx,ht,hm,hcr⟩:=hg.ex
 cases n with
 | zero =>
  injection h1 with h1
  obtain ⟨e1,e2,_⟩:=gO h1
  exact hns ⟨by rw[e1];exact h2.1,e2⟩
 | succ n =>
  rcases h with ⟨o,w2,es,h⟩ | ⟨fn2,x2,todo2,chain,w2,es,h,hf2⟩
  ·have:step P (lone (mkF fn x todo mode) l wl)=.ended o w2:=step_lone_ended (by
    have h5:stepG P true { frame:=mkF fn x todo mode,callers:=l,status:=.running,dying:=none } wl=_:=h
    rw[h5]
    rfl)
   exact jK this n _ h1
  ·have:step P (lone (mkF fn x todo mode) l wl)=.next (lone (mkF fn2 x2 todo2 (.panicking chain)) l w2):=step_lone_go (by
    have h5:stepG P true { frame:=mkF fn x todo mode,callers:=l,status:=.running,dying:=none } wl=_:=h
    rw[h5]
    rfl)
   have h1':runN P (n+1) (lone (mkF fn x todo mode) l wl)=.next (lone fr [aV P] w'):=h1
   simp only[runN,this] at h1'
   exact pR n hcr.LP hf2 h1' h2.1
theorem sk {E:Env} {c:List Frame} {gl g:Goroutine} {wl:World} (hg:GR P E [aV P] c gl g) (hs:Stop [aV P] gl) (h:Reach P [aV P] Post gl wl):∃v,gl.frame.leaving P wl (.returned v)∧Post v wl:=by
 obtain ⟨n,fr,w',v,h1,h2,h3⟩:=h
 obtain ⟨fn,x,y,todo,mode,l,l',rfl,rfl,hf,hx,ht,hm,hcr⟩:=hg.ex
 cases n with
 | zero =>
  injection h1 with h1
  obtain ⟨rfl,_,rfl⟩:=gO h1
  exact ⟨v,h2,h3⟩
 | succ n =>
  exfalso
  obtain ⟨hm2,hl⟩:=hs
  have hm2':mode=.returning:=hm2
  have hl':l=[aV P]:=hl
  subst hm2' hl'
  obtain ⟨f,hfn⟩:=hf
  have h1':runN P (n+1) (lone (mkF fn x todo .returning) [aV P] wl)=.next (lone fr [aV P] w'):=h1
  have s1:=eO (P:=P) (main:=true) (x:=x) (todo:=todo) (l:=[]) (w:=wl) (cal:=aV P) hfn
  cases hr:(results f x).run P wl with
  | halt hh w2 =>
   rw[hr] at s1
   have:∃o w3,step P (lone (mkF fn x todo .returning) [aV P] wl)=.ended o w3:=by
    cases hh <;> exact ⟨_,_,step_lone_ended (by
     have h5:stepG P true { frame:=mkF fn x todo .returning,callers:=[aV P],status:=.running,dying:=none } wl=_:=s1
     rw[h5]
     rfl)⟩
   obtain ⟨o,w3,h4⟩:=this
   exact jK h4 n _ h1'
  | ok u w2 =>
   rw[hr] at s1
   have h4:step P (lone (mkF fn x todo .returning) [aV P] wl)=.next (lone ((aV P).finish u) [] w2):=step_lone_go (by
    have h5:stepG P true { frame:=mkF fn x todo .returning,callers:=[aV P],status:=.running,dying:=none } wl=_:=s1
    rw[h5]
    rfl)
   simp only[runN,h4] at h1'
   cases n with
   | zero =>
    injection h1' with h1'
    obtain ⟨_,e2,_⟩:=gO h1'
    cases e2
   | succ n =>
    obtain ⟨o,w3,h5⟩:=BP (P:=P) u w2
    exact jK h5 n _ h1'
end
end Cs
namespace Cs
open Go.Conc
variable [Fns]
structure bh (P:Program) (Post:Value→World→Prop) (c:List Frame) (E:Env) (gl:Goroutine) (wl:World) (g:Goroutine) (w:World):Prop where
 gr:GR P E [aV P] c gl g
 wr:WR P E wl w
 big:Fns.G≤wl.heap.size
 live:Live P [aV P] Post gl wl
section
variable {P:Program} {Post:Value→World→Prop} {c:List Frame} {E:Env} {gl g:Goroutine} {wl w:World}
theorem bh.other {w2:World} (h:bh P Post c E gl wl g w) (hw:∀b x,E b=some x→w2.heap[x.1]? = w.heap[x.1]?):bh P Post c E gl wl g w2:=by
 refine ⟨h.gr,⟨fun b q s e=>?_,fun b q s e=>?_,h.wr.inj,h.wr.low⟩,h.big,h.live⟩
 ·obtain ⟨h1,ol,o,h2,h3,h4⟩:=h.wr.own b q s e
  exact ⟨h1,ol,o,h2,(hw b _ e).trans h3,h4⟩
 ·obtain ⟨x,T,y,T',fr,h1,h2,h3,h4⟩:=h.wr.shared b q s e
  exact ⟨x,T,y,T',fr,h1,h2,(hw b _ e).trans h3,h4⟩
theorem bh.running (h:bh P Post c E gl wl g w):g.status=.running:=by
 obtain ⟨fn,x,y,todo,mode,l,l',rfl,rfl,_⟩:=h.gr.ex
 rfl
theorem bh.start (hC:cJ P) {f:FuncId} (hf:Fns.ok f=true) {x y:Array Value} (hx:LR E x y) (hw:WR P E wl w) (hb:Fns.G≤wl.heap.size) (hc:∀τ,Calls P f x (wl.tp τ) fun e w'=>∃v,e=.returned v∧Post v w') :
  bh P Post c E (G (Frame.enter P f x .normal) [aV P]) wl (G (Frame.enter P f y .normal) c) w:=by
 obtain ⟨x',y',todo,e1,e2,e3,e4⟩:=vS hC hf hx
 refine ⟨?_,hw,hb,fun τ _=>?_⟩
 ·rw[e1,e2]
  exact .mk' (hC.KR hf) e3 e4 (.inl rfl) .base
 ·obtain ⟨e,w',fr,⟨v,rfl,hp⟩,⟨n,hn⟩,_,hl⟩:=hc τ [aV P]
  exact ⟨n,fr,w',v,hn,hl,hp⟩
def cI (wl w:World):Nat→Question→Nat:=fun i q=>if i<wl.drawn then wl.tape i q else w.tape (i-wl.drawn+w.drawn) q
omit [Fns] in
theorem qh (wl w:World):TA (wl.tp (cI wl w)) w:=fun i q=>by
 show cI wl w (wl.drawn+i) q=_
 unfold cI
 rw[if_neg (by omega),show wl.drawn+i-wl.drawn+w.drawn=w.drawn+i by omega]
omit [Fns] in
theorem gi {wl w:World} {i:Nat} (q:Question) (h:i<wl.drawn):cI wl w i q=wl.tape i q:=by
 unfold cI
 rw[if_pos h]
theorem WR.tp (h:WR P E wl w) (τ:Nat→Question→Nat):WR P E (wl.tp τ) w:=⟨h.own,h.shared,h.inj,h.low⟩
theorem bh.step2 (hG:P.globals.size≤Fns.G) (hC:cJ P) (main:Bool) (h:bh P Post c E gl wl g w) (hns:¬Stop [aV P] gl) :
  ∃E' gl' wl' g' w' es,stepG P main g w=.go g' w' es∧bh P Post c E' gl' wl' g' w'∧After P [aV P] (gl',wl') (gl,wl)∧(∀e ∈ es,iV E' e)∧FC E E' w w'∧eU g'=eU g:=by
 have hb:gx P E (wl.tp (cI wl w)) w:=⟨h.wr.tp _,qh _ _,h.big⟩
 rcases xh (main:=main) hG hC h.gr hb hns with ⟨gl',wl',esl,E',g',w',es,s1,s2,hg,hB,hev,hlast,hfc,hloc⟩ | hlost
 ·have f1:∃fr cs,gl=G fr cs:=by
   obtain ⟨fn,x,y,todo,mode,l,l',e,_⟩:=h.gr.ex
   exact ⟨_,_,e⟩
  have f2:∃fr cs,gl'=G fr cs:=by
   obtain ⟨fn,x,y,todo,mode,l,l',e,_⟩:=hg.ex
   exact ⟨_,_,e⟩
  refine ⟨E',gl',wl',g',w',es,s2,⟨hg,hB.wr,hB.big,fun τ hτ=>?_⟩,⟨hns,f1,f2,_,hloc⟩,hev,hfc,hlast⟩
  obtain ⟨l1,l2,l3⟩:=hloc
  have l1':wl.drawn≤wl'.drawn:=l1
  have l2':wl'.tape=cI wl w:=l2
  rw[l2'] at hτ
  obtain ⟨n,fr,w2,v,h1,h2,h3⟩:=h.live τ (fun i q hi=>by rw[hτ i q (by omega),gi q hi])
  cases n with
  | zero =>
   injection h1 with h1
   obtain ⟨e1,e2,_⟩:=gO h1
   exact absurd ⟨by rw[e1];exact h2.1,e2⟩ hns
  | succ n =>
   have hs:=nH (P:=P) (s:=(gl,wl)) (s':=(gl',wl')) (τ:=cI wl w) (τ':=τ) f1 f2 ⟨l1,l2,l3⟩ (fun i q h4 h5=>hτ i q h5)
   simp only[runN,hs] at h1
   exact ⟨n,fr,w2,v,h1,h2,h3⟩
 ·exact absurd (h.live (cI wl w) (fun i q hi=>gi q hi)) (EL h.gr hns hlost)
theorem bh.step (hG:P.globals.size≤Fns.G) (hC:cJ P) (main:Bool) (h:bh P Post c E gl wl g w) (hns:¬Stop [aV P] gl) :
  ∃E' gl' wl' g' w' es,stepG P main g w=.go g' w' es∧bh P Post c E' gl' wl' g' w'∧After P [aV P] (gl',wl') (gl,wl)∧(∀e ∈ es,iV E' e)∧FC E E' w w':=by
 obtain ⟨E',gl',wl',g',w',es,h1,h2,h3,h4,h5,_⟩:=h.step2 hG hC main hns
 exact ⟨E',gl',wl',g',w',es,h1,h2,h3,h4,h5⟩
theorem bh.ret (main:Bool) {cal:Frame} {rest:List Frame} (h:bh P Post (cal :: rest) E gl wl g w) (hs:Stop [aV P] gl) :
  ∃v wl2 E' v' w' es,Post v wl2∧VR E' v v'∧WR P E' wl2 w'∧stepG P main g w=.go (G (cal.finish v') rest) w' es∧(∀e ∈ es,iV E' e)∧FC E E' w w':=by
 have hb:gx P E (wl.tp (cI wl w)) w:=⟨h.wr.tp _,qh _ _,h.big⟩
 obtain ⟨v,hl,hp⟩:=sk h.gr hs (h.live (cI wl w) (fun i q hi=>gi q hi))
 obtain ⟨fn,x,y,todo,mode,l,l',rfl,rfl,hf,hx,ht,hm,hcr⟩:=h.gr.ex
 obtain ⟨hm2,hl2⟩:=hs
 have hm2':mode=.returning:=hm2
 have hl2':l=[aV P]:=hl2
 subst hm2' hl2'
 obtain ⟨_,_,_,f,hfn,hr⟩:=hl
 have hfn':P.funcs[fn]? = some f:=hfn
 have hr':(results f x).run P (wl.tp (cI wl w))=.ok v (wl.tp (cI wl w)):=hr
 have hout:=(kH (P:=P) f hx).run _ w #[] hb
 rw[hr'] at hout
 obtain ⟨E',v',w',es',k1,k2,k3,k4,k5⟩:=hout
 have hlc:l'=cal :: rest:=by
  have hlen:∀{a b:List Frame},CR P E [aV P] (cal :: rest) a b→a=[aV P]→b=cal :: rest:=fun {a b} hab e=>by
   cases hab with
   | base=>rfl
   | cons hf2 hx2 ht2 h2 =>
    exfalso
    injection e with e1 e2
    have:=congrArg Frame.todo e1
    simp only[mkF,aV] at this
    rw[this] at ht2
    simp[uv,bH] at ht2
  exact hlen hcr rfl
 subst hlc
 have s2:=eO (P:=P) (main:=main) (x:=y) (todo:=todo) (l:=rest) (w:=w) (cal:=cal) hfn'
 have hr2:(results f y).run P w=.ok v' w':=by rw[←Sem.runT_fst P _ w #[],k1]
 rw[hr2,k1] at s2
 dsimp only[GStep.after] at s2
 refine ⟨v,_,E',v',w',_,hp,k2,k3.wr,s2,fun e he=>?_,k5⟩
 simp only[Array.append_empty,Array.empty_append] at he
 exact k4 e (mem_seen he)
end
end Cs
namespace Cs
open Go.Conc
def Wdl (t:Trace):Prop:=∃k,k≤t.size∧(∀g,t.deaf g k=0)∧∀i x,k≤i→t[i]? = some x→∀m,x.act=.mark m→Neutral m
theorem Wdl.append {t u:Trace} (h:Wdl t) (hu:Wordless u):Wdl (t++u):=by
 obtain ⟨k,h1,h2,h3⟩:=h
 refine ⟨k,by simp;omega,fun g=>by rw[deaf_old h1,h2],fun i x hi hx m hm=>?_⟩
 rcases getElem?_append_cases hx with ⟨_,hx'⟩ | ⟨_,hxu⟩
 ·exact h3 i x hi hx' m hm
 ·exact hu x hxu m hm
theorem Wdl.deaf {t:Trace} (h:Wdl t) (g:Nat):Deaf t g=0:=by
 obtain ⟨k,h1,h2,h3⟩:=h
 have key:∀n,k+n≤t.size→t.deaf g (k+n)=0:=fun n=>by
  induction n with
  | zero=>exact fun _=>h2 g
  | succ n ih =>
   intro hn
   have hlt:k+n<t.size:=by omega
   rw[show k+(n+1)=k+n+1 by omega,deaf_succ (Array.getElem?_eq_getElem hlt),ih (by omega)]
   have hm:=h3 (k+n) _ (by omega) (Array.getElem?_eq_getElem hlt)
   unfold deafStep
   split
   ·rename_i e;exact absurd (hm _ e) (fun h=>h.ne_disable rfl)
   ·split <;> rfl
   ·rfl
 have:=key (t.size-k) (by omega)
 rwa [show k+(t.size-k)=t.size by omega] at this
theorem Wdl.later {t u:Trace} (h:Wdl t) (hu:Wordless u) (g j:Nat) (hj:j≤u.size):(t++u).deaf g (t.size+j)=0:=by
 have h1:Wdl (t++u.extract 0 j):=h.append fun op hop=>hu op (by
  obtain ⟨i,hi,rfl⟩:=Array.mem_iff_getElem.1 hop
  simp only[Array.getElem_extract]
  exact Array.getElem_mem _)
 have h2:=h1.deaf g
 unfold Deaf at h2
 have e0:u.extract 0 j++u.extract j u.size=u:=by simp;omega
 have e:t++u=(t++u.extract 0 j)++u.extract j u.size:=by rw[Array.append_assoc,e0]
 rw[e,deaf_old (by simp;omega)]
 have hs:(t++u.extract 0 j).size=t.size+j:=by simp;omega
 rw[hs] at h2
 exact h2
structure TI (t:Trace) (own:_root_.Go.Loc→Option Nat) (act:Nat→Prop):Prop where
 clean:∀said,¬Race said t
 mine:∀l g,own l=some g→Perm t g l
 read:∀l,own l=none→∀g,act g→∀i a,touchAt t i=some a→a.loc=l→a.write=true→Knows t g i
 words:Wdl t
section
variable {t u:Trace} {own:_root_.Go.Loc→Option Nat} {act:Nat→Prop}
def Kz (own:_root_.Go.Loc→Option Nat) (g:Nat) (op:MemOp):Prop:=op.g=g∧∀b,op.act.touch? = some b→own b.loc=some g∨(own b.loc=none∧b.write=false)
theorem TI.step {g:Nat} (h:TI t own act) (hg:act g) (hu:∀op ∈ u,Kz own g op) (hw:Wordless u):TI (t++u) own act:=by
 refine ⟨fun said=>noRace_append (h.clean said) (fun op hop=>(hu op hop).1) fun i a ha op hop b hb hc=>?_,fun l g' hl=>?_,fun l hl g' hg' i a ha hal haw=>?_,h.words.append hw⟩
 ·rcases (hu op hop).2 b hb with h1 | ⟨h1,h2⟩
  ·exact h.mine b.loc g h1 i a ha hc.1
  ·rcases hc.2.2.1 with h3 | h3
   ·exact h.read b.loc h1 g hg i a ha hc.1 h3
   ·rw[h2] at h3;cases h3
 ·refine (h.mine l g' hl).app fun op hop b hb e=>?_
  rcases (hu op hop).2 b hb with h1 | ⟨h1,_⟩
  ·rw[e,hl] at h1
   cases h1
   exact (hu op hop).1
  ·rw[e,hl] at h1;cases h1
 ·obtain ⟨x,hx,hxa⟩:=touch_of ha
  rcases getElem?_append_cases hx with ⟨hi,hx'⟩ | ⟨_,hxu⟩
  ·exact (h.read l hl g' hg' i a (by rw[touchAt_of hx'];exact hxa) hal haw).app u
  ·rcases (hu x hxu).2 a hxa with h1 | ⟨_,h2⟩
   ·rw[hal,hl] at h1;cases h1
   ·rw[h2] at haw;cases haw
theorem TI.mute (h:TI t own act) (hn:∀op ∈ u,op.act.touch? = none) (hw:Wordless u):TI (t++u) own act:=by
 refine ⟨fun said=>?_,fun l g' hl=>?_,fun l hl g' hg' i a ha hal haw=>?_,h.words.append hw⟩
 ·rintro ⟨i,j,hij,⟨a,b,ha,hb,hc⟩,n1,n2⟩
  obtain ⟨x,hx,hxa⟩:=touch_of ha
  obtain ⟨y,hy,hyb⟩:=touch_of hb
  rcases getElem?_append_cases hy with ⟨hj,hy'⟩ | ⟨_,hyu⟩
  ·have hi:i<t.size:=Nat.lt_trans hij hj
   have hx':t[i]? = some x:=by rw[←getElem?_append_old (u:=u) hi];exact hx
   exact h.clean said ⟨i,j,hij,⟨a,b,by simp[Trace.act?,hx',hxa],by simp[Trace.act?,hy',hyb],hc⟩,fun e=>n1 (hb_app u e),fun e=>n2 (hb_app u e)⟩
  ·rw[hn y hyu] at hyb;cases hyb
 ·exact (h.mine l g' hl).app fun op hop b hb _=>by rw[hn op hop] at hb;cases hb
 ·obtain ⟨x,hx,hxa⟩:=touch_of ha
  rcases getElem?_append_cases hx with ⟨hi,hx'⟩ | ⟨_,hxu⟩
  ·exact (h.read l hl g' hg' i a (by rw[touchAt_of hx'];exact hxa) hal haw).app u
  ·rw[hn x hxu] at hxa;cases hxa
theorem TI.fK {own':_root_.Go.Loc→Option Nat} (h:TI t own act) (hm:∀l g,own' l=some g→own l=some g∨(∀i a,touchAt t i=some a→a.loc≠l)∨Perm t g l) (hr:∀l,own' l=none→own l=none∨∀i a,touchAt t i=some a→a.loc≠l):TI t own' act:=by
 refine ⟨h.clean,fun l g hl=>?_,fun l hl g hg i a ha hal haw=>?_,h.words⟩
 ·rcases hm l g hl with h1 | h1 | h1
  ·exact h.mine l g h1
  ·exact fun i a ha hal=>absurd hal (h1 i a ha)
  ·exact h1
 ·rcases hr l hl with h1 | h1
  ·exact h.read l h1 g hg i a ha hal haw
  ·exact absurd hal (h1 i a ha)
theorem Knows.over {g g' i p q:Nat} {x y:MemOp} (hw:∀g,t.deaf g p=0∧t.deaf g q=0) (h:Knows (t.extract 0 p) g i) (hx:t[p]? = some x) (hg:x.g=g) (hy:t[q]? = some y) (hg':y.g=g') (hn:Notices t p q):Knows t g' i:=by
 have hp:p<t.size:=lt_size_of_getElem? hx
 obtain ⟨j,z,hz,hzg,hb⟩:=h
 have hjp:j<p:=by
  have:=lt_size_of_getElem? hz
  simp at this
  omega
 have e:t.extract 0 p++t.extract p t.size=t:=by simp;omega
 have hz':t[j]? = some z:=by
  have:=getElem?_append_old (u:=t.extract p t.size) (lt_size_of_getElem? hz)
  rw[e] at this
  rw[this]
  exact hz
 have hb':Before t i j:=by
  have:=hb.app (t.extract p t.size)
  rw[e] at this
  exact this
 refine ⟨q,y,hy,hg',.inr ?_⟩
 have h1:HappensBefore t j p:=hb_po hjp hz' hx (hzg.trans hg.symm)
 have h2:HappensBefore t p q:=Relation.TransGen.single (.inr ⟨hn,⟨x.g,by simp[Trace.g?,hx],(hw _).1⟩,⟨y.g,by simp[Trace.g?,hy],(hw _).2⟩⟩)
 exact (hb'.hb h1).trans h2
end
end Cs
namespace Cs
open Go.Conc
section
variable {α:Type} {r:α→α→Prop}
inductive fq (r:α→α→Prop):List α→List α→Prop
 | head {a b:α} (l:List α) (h:r a b):fq r (a :: l) (b :: l)
 | tail (a:α) {l l':List α} (h:fq r l l'):fq r (a :: l) (a :: l')
theorem ur {a:α} (ha:Acc r a):∀{l:List α},Acc (fq r) l→Acc (fq r) (a :: l):=by
 induction ha with
 | intro a _ iha =>
  intro l hl
  induction hl with
  | intro l hl ihl =>
   refine Acc.intro _ fun y hy=>?_
   cases hy with
   | head _ h=>exact iha _ h (Acc.intro _ hl)
   | tail _ h=>exact ihl _ h
theorem xq (wf:WellFounded r):WellFounded (fq r):=⟨fun l=>by
 induction l with
 | nil=>exact Acc.intro _ fun y hy=>by cases hy
 | cons a l ih=>exact ur (wf.apply a) ih⟩
theorem nY {ι:Type} (f f':ι→α):∀{l:List ι} {i:ι},l.Nodup→i ∈ l→r (f' i) (f i)→(∀j,j≠i→f' j=f j)→fq r (l.map f') (l.map f)
 | [],_,_,h,_,_=>by cases h
 | a :: l,i,hn,hi,hr,ho=>by
  have hna:a ∉ l:=(List.nodup_cons.1 hn).1
  by_cases e:a=i
  ·subst e
   have:l.map f'=l.map f:=List.map_congr_left fun j hj=>ho j (fun e=>hna (e ▸ hj))
   rw[List.map_cons,List.map_cons,this]
   exact .head _ hr
  ·have hi':i ∈ l:=by
    rcases List.mem_cons.1 hi with h | h
    ·exact absurd h.symm e
    ·exact h
   rw[List.map_cons,List.map_cons,ho a e]
   exact .tail _ (nY f f' (List.nodup_cons.1 hn).2 hi' hr ho)
end
abbrev Mi (P:Program) (cl:List Frame):=Nat ⊕ { s:Gh // Acc (After P cl) s }
inductive rq (P:Program) (cl:List Frame):Mi P cl→Mi P cl→Prop
 | walk {m n:Nat} (h:m<n):rq P cl (.inl m) (.inl n)
 | call {s s':{ s:Gh // Acc (After P cl) s }} (h:After P cl s'.1 s.1):rq P cl (.inr s') (.inr s)
theorem Kq (P:Program) (cl:List Frame):WellFounded (rq P cl):=⟨fun a=>by
 cases a with
 | inl n =>
  induction n using Nat.strongRecOn with
  | _ n ih =>
   refine Acc.intro _ fun y hy=>?_
   cases hy with
   | walk h=>exact ih _ h
 | inr s =>
  obtain ⟨s,hs⟩:=s
  induction hs with
  | intro s hs ih =>
   refine Acc.intro _ fun y hy=>?_
   cases hy with
   | @call _ s' h=>exact ih s'.1 h⟩
abbrev Me (P:Program) (cl:List Frame):=Nat × List (Mi P cl)
def pI (P:Program) (cl:List Frame):Me P cl→Me P cl→Prop:=Prod.Lex (·<·) (fq (rq P cl))
theorem KO (P:Program) (cl:List Frame):WellFounded (pI P cl):=(Prod.lex ⟨_,Nat.lt_wfRel.wf⟩ ⟨_,xq (Kq P cl)⟩).wf
theorem iI {P:Program} {α:Type} {r:α→α→Prop} (wf:WellFounded r) (Inv:α→Machine→Trace→Prop) (Q:Machine→Trace→Prop)
  (h:∀μ m t,Inv μ m t→Q m t∨∃m' ops μ',stepT P m=(.next m',ops)∧r μ' μ∧Inv μ' m' (t++ops)) :
  ∀μ m t,Inv μ m t→∃N m' t',runNT P N m t=(.next m',t')∧Q m' t':=by
 intro μ
 induction μ using wf.induction with
 | _ μ ih =>
  intro m t hI
  rcases h μ m t hI with hq | ⟨m',ops,μ',hs,hr,hI'⟩
  ·exact ⟨0,m,t,rfl,hq⟩
  ·obtain ⟨N,m2,t2,h1,h2⟩:=ih μ' hr m' (t++ops) hI'
   exact ⟨N+1,m2,t2,by rw[runNT_succ_next hs];exact h1,h2⟩
end Cs
namespace Cs
open Go.Conc
open Go.ConcN (sumTo upd sumTo_upd upd_ne upd_same sumTo_congr)
structure Cst where
 n:Nat
 K:Nat
 S0:Nat
 N1:Nat
 H0:Nat→Option Obj
 C1:Nat
 C2:Nat
 Fd:Nat
 TF:TypeId
 z1:Value
 z2:Value
 zs1:Value
 zs2:Value
 fB:FuncId
 ar:Nat→Array Value
 os0:Os
 JU:Array (Nat × ByteArray)
 ex:Nat→Prop:=fun _=>False
def Cst.Fix (c:Cst) (q:Nat):Prop:=q<c.N1∧q≠c.Fd∧q≠c.C1∧q≠c.C2∧¬c.ex q
structure Cst.Ok (c:Cst) (w:World):Prop where
 fix:∀q,c.Fix q→w.heap[q]? = c.H0 q
 fd:∃cs,w.heap[c.Fd]? = some (.cells cs c.TF (0,0))∧cs.size=c.K
 big:c.N1≤w.heap.size
 env:w.os=c.os0∧w.output=c.JU
def Cst.R (c:Cst):World→World→Prop:=fun _ w=>c.Ok w
structure DQ (c:Cst) (w w':World) (es:Array Event):Prop where
 heap:w'.heap=w.heap
 os:w'.os=w.os
 tape:w'.tape=w.tape
 output:w'.output=w.output
 evs:∀e ∈ es,∃a:Addr,e=⟨.cell a,false,false⟩∧c.Fix a.block
def Walk (P:Program) (c:Cst) (main:Bool) (Stp:Goroutine→Prop) (m:Nat) (g:Goroutine) (w:World):Prop:=Goes P main c.R (DQ c) (fun g _=>g.status=.running∧Stp g) m g w
def isG (g:Goroutine):Prop:=∃fr cs,g=G fr cs
variable [Fns]
structure Scr (P:Program) (c:Cst) (Post:Nat→Value→World→Prop) where
 Rec:Goroutine→Prop
 Snd:Goroutine→Prop
 Cal:Nat→Goroutine→Prop
 Sto:Nat→Value→Goroutine→Prop
 GoP:Nat→Goroutine→Prop
 tE:Nat→Goroutine→Prop
 ClP:Goroutine→Prop
 oW:Nat→Goroutine→Prop
 JnP:Goroutine→Prop
 OkV:Value→Prop
 n1:1≤c.n
 k1:1≤c.K
 s1:1≤c.S0
 d1:c.C1<c.N1∧c.C2<c.N1∧c.Fd<c.N1∧c.C1≠c.C2∧c.C1≠c.Fd∧c.C2≠c.Fd
 B5:∀g,Rec g→isG g∧∀w,stepG P false g w=.comm g #[rcase c.C1 c.z1] true (.recv true) w #[]
 zn:∀g,Rec g→∀k,k<c.K→∀w,c.Ok w→∃m,Walk P c false (Cal k) m (Conc.served g (.tuple #[.int .i64 (k:Nat),.bool true])) w
 zC:∀g,Rec g→∀w,c.Ok w→∃m,Walk P c false Snd m (Conc.served g (.tuple #[c.z1,.bool false])) w
 cal:∀k g,Cal k g→k<c.K→∃cal rest,g=G (Frame.enter P c.fB (c.ar k) .normal) (cal :: rest)∧∀v,OkV v→∀w,c.Ok w→∃m,Walk P c false (Sto k v) m (G (cal.finish v) rest) w
 sto:∀k v g,Sto k v g→k<c.K→OkV v→isG g∧∃g',(∀w,c.Ok w→stepG P false g w=.go g' (w.setCell ⟨c.Fd,k,none⟩ v) #[⟨.cell ⟨c.Fd,k,none⟩,true,false⟩])∧g'.status=.running∧∀w,c.Ok w→∃m,Walk P c false Rec m g' w
 CZ:∀g,Snd g→isG g∧(∀w,stepG P false g w=.comm g #[scase c.C2 (.bool true) c.zs2] true .send w #[])∧∃q,QuitsIn P q (Conc.served g undef)
 gop:∀j g,GoP j g→j<c.n→isG g∧∃g' ch,(∀w,stepG P true g w=.spawn g' ch w #[])∧(∀w,c.Ok w→∃m,Walk P c false Rec m ch w)∧∀w,c.Ok w→∃m,Walk P c true (fun g=>if j+1<c.n then GoP (j+1) g else tE 0 g) m g' w
 Kl:∀k g,tE k g→k<c.K→isG g∧(∀w,stepG P true g w=.comm g #[scase c.C1 (.int .i64 (k:Nat)) c.zs1] true .send w #[])∧∀w,c.Ok w→∃m,Walk P c true (fun g=>if k+1<c.K then tE (k+1) g else ClP g) m (Conc.served g undef) w
 clp:∀g,ClP g→isG g∧mayWake P g=true∧∃g',(∀w s r,w.heap[c.C1]? = some (.chan 0 #[] false s r false)→stepG P true g w=.go g' { w with heap:=w.heap.setIfInBounds c.C1 (.chan 0 #[] true s r false) } #[⟨.obj c.C1,false,true⟩,⟨.obj c.C1,true,true⟩])∧g'.status=.running∧∀w,c.Ok w→∃m,Walk P c true (oW 0) m g' w
 JA:∀r g,oW r g→r<c.n→isG g∧(∀w,stepG P true g w=.comm g #[rcase c.C2 c.z2] true (.recv false) w #[])∧∀w,c.Ok w→∃m,Walk P c true (fun g=>if r+1<c.n then oW (r+1) g else JnP g) m (Conc.served g (.bool true)) w
 fok:Fns.ok c.fB=true
 job:∀k,k<c.K→∀w,c.Ok w→∃(E:Env) (wl:World) (x:Array Value),(∀b q s o,E b=some (q,s,o)→o=false∧c.Fix q)∧LR E x (c.ar k)∧WR P E wl w∧Fns.G≤wl.heap.size∧∀τ,Calls P c.fB x (wl.tp τ) fun e w'=>∃v,e=.returned v∧Post k v w'
 okv:∀k v wl (E:Env) v',Post k v wl→VR E v v'→OkV v'
inductive Z0
 | sp (j m:Nat)
 | sd (k m:Nat)
 | sdW (k:Nat)
 | cl (m:Nat)
 | rc (r m:Nat)
 | rcW (r:Nat)
inductive ZW (P:Program)
 | st (m:Nat)
 | wt
 | aw
 | pr (k m:Nat)
 | ca (k:Nat) (E:Env) (s:{ s:Gh // Acc (After P [aV P]) s })
 | po (k:Nat) (v:Value) (m:Nat)
 | fi (m:Nat)
 | fw
 | lv (q:Nat)
section
variable {P:Program} {c:Cst} {Post:Nat→Value→World→Prop} (S:Scr P c Post)
def eN (c:Cst):Z0→Nat
 | .sp j _=>j
 | _=>c.n
def sent (c:Cst):Z0→Nat
 | .sp _ _=>0
 | .sd k _=>k
 | .sdW k=>k
 | _=>c.K
def closed:Z0→Bool
 | .rc _ _ | .rcW _=>true
 | _=>false
def rcvd:Z0→Nat
 | .rc r _=>r
 | .rcW r=>r
 | _=>0
def St0:Z0→Goroutine→World→Prop
 | .sp j m,g,w=>j<c.n∧Walk P c true (S.GoP j) m g w
 | .sd k m,g,w=>k<c.K∧Walk P c true (S.tE k) m g w
 | .sdW k,g,_=>k<c.K∧∃g',S.tE k g'∧g=parked g' #[scase c.C1 (.int .i64 (k:Nat)) c.zs1] .send
 | .cl m,g,w=>Walk P c true S.ClP m g w
 | .rc r m,g,w=>r≤c.n∧Walk P c true (fun g=>if r<c.n then S.oW r g else S.JnP g) m g w
 | .rcW r,g,_=>r<c.n∧∃g',S.oW r g'∧g=parked g' #[rcase c.C2 c.z2] (.recv false)
def StW:ZW P→Goroutine→World→Prop
 | .st m,g,w=>Walk P c false S.Rec m g w
 | .wt,g,_=>∃g',S.Rec g'∧g=parked g' #[rcase c.C1 c.z1] (.recv true)
 | .aw,g,_=>∃g',S.Rec g'∧g={ parked g' #[rcase c.C1 c.z1] (.recv true) with status:=.running }
 | .pr k m,g,w=>k<c.K∧Walk P c false (S.Cal k) m g w
 | .ca k E s,g,w=>k<c.K∧∃cal rest,bh P (Post k) (cal :: rest) E s.1.1 s.1.2 g w∧∀v,S.OkV v→∀w,c.Ok w→∃m,Walk P c false (S.Sto k v) m (G (cal.finish v) rest) w
 | .po k v m,g,w=>k<c.K∧S.OkV v∧Walk P c false (S.Sto k v) m g w
 | .fi m,g,w=>Walk P c false S.Snd m g w
 | .fw,g,_=>∃g',S.Snd g'∧g=parked g' #[scase c.C2 (.bool true) c.zs2] .send
 | .lv q,g,_=>QuitsIn P q g
def mi0:Z0→Mi P [aV P]
 | .sp _ m | .sd _ m | .cl m | .rc _ m=>.inl m
 | _=>.inl 0
def miW:ZW P→Mi P [aV P]
 | .st m | .pr _ m | .po _ _ m | .fi m | .lv m=>.inl m
 | .ca _ _ s=>.inr s
 | _=>.inl 0
def p0 (c:Cst):Z0→Nat
 | .sp j _=>4*c.n+4+10*c.K+3+10*(c.n-j)
 | .sd k _=>4*c.n+4+10*(c.K-k)+2
 | .sdW k=>4*c.n+4+10*(c.K-k)+1
 | .cl _=>4*c.n+4
 | .rc r _=>4*(c.n-r)+2
 | .rcW r=>4*(c.n-r)+1
def pW:ZW P→Nat
 | .lv _=>0
 | .fw=>1
 | .fi _=>2
 | .aw=>3
 | .wt=>4
 | .st _=>5
 | .po _ _ _=>6
 | .ca _ _ _=>7
 | .pr _ _=>8
def holds:ZW P→Nat→Prop
 | .pr k _,j=>k=j
 | .ca k _ _,j=>k=j
 | .po k _ _,j=>k=j
 | _,_=>False
def eY:ZW P→Nat→Prop
 | .ca _ E _,q=>∃b s,E b=some (q,s,true)
 | _,_=>False
def Res (P:Program) (c:Cst) (Post:Nat→Value→World→Prop) (k:Nat) (v:Value) (RS:Nat→Prop) (w:World):Prop :=
 ∃(E:Env) (vl:Value) (wl:World),Post k vl wl∧VR E vl v∧WR P E wl w∧∀b q s o,E b=some (q,s,o)→(o=false∧c.Fix q)∨RS q
end
end Cs
namespace Cs
open Go.Conc
def bW {α:Type} (f:Nat→α) (i:Nat) (x:α):Nat→α:=fun j=>if j=i then x else f j
theorem ay {α:Type} (f:Nat→α) (i:Nat) (x:α):bW f i x i=x:=by unfold bW;rw[if_pos rfl]
theorem aC {α:Type} (f:Nat→α) {i j:Nat} (x:α) (h:j≠i):bW f i x j=f j:=by unfold bW;rw[if_neg h]
variable [Fns]
section
variable {P:Program} {c:Cst} {Post:Nat→Value→World→Prop}
theorem WR.keep {E:Env} {wl w w':World} (h:WR P E wl w) (hk:∀b q s o,E b=some (q,s,o)→w'.heap[q]? = w.heap[q]?):WR P E wl w':=by
 refine ⟨fun b q s e=>?_,fun b q s e=>?_,h.inj,h.low⟩
 ·obtain ⟨h1,ol,o,h2,h3,h4⟩:=h.own b q s e
  exact ⟨h1,ol,o,h2,(hk b q s _ e).trans h3,h4⟩
 ·obtain ⟨x,T,y,T',fr,h1,h2,h3,h4⟩:=h.shared b q s e
  exact ⟨x,T,y,T',fr,h1,h2,(hk b q s _ e).trans h3,h4⟩
theorem Res.keep {k:Nat} {v:Value} {RS:Nat→Prop} {w w':World} (h:Res P c Post k v RS w) (hk:∀q,c.Fix q∨RS q→w'.heap[q]? = w.heap[q]?):Res P c Post k v RS w':=by
 obtain ⟨E,vl,wl,h1,h2,h3,h4⟩:=h
 refine ⟨E,vl,wl,h1,h2,h3.keep fun b q s o e=>hk q ?_,h4⟩
 rcases h4 b q s o e with ⟨_,h5⟩ | h5
 ·exact .inl h5
 ·exact .inr h5
structure Mem (P:Program) (c:Cst) (Post:Nat→Value→World→Prop) (zs:Nat→ZW P) (top snt:Nat) (fnd:Nat→Option Nat) (RS:Nat→Nat→Prop) (blk:Nat→Option Nat) (w:World):Prop where
 ok:c.Ok w
 jb0:∀k,snt≤k→fnd k=none
 jb1:∀k,k<snt→∃i,c.S0≤i∧i<top∧fnd k=some i
 jb2:∀i k,c.S0≤i→i<top→holds (zs i) k→k<snt∧fnd k=some i
 jb3:∀k i,fnd k=some i→¬holds (zs i) k→∃v,w.cell? ⟨c.Fd,k,none⟩=some v∧Res P c Post k v (RS k) w
 jb4:∀i k v m,c.S0≤i→i<top→zs i=.po k v m→Res P c Post k v (RS k) w
 us1:∀i q,c.S0≤i→i<top→eY (zs i) q→c.N1≤q∧q<w.heap.size∧blk q=some i
 us2:∀k q,RS k q→c.N1≤q∧q<w.heap.size
 us3:∀i k q,c.S0≤i→i<top→eY (zs i) q→¬RS k q
 us4:∀q i,blk q=some i→c.N1≤q∧q<w.heap.size
variable {zs zs':Nat→ZW P} {top snt:Nat} {fnd:Nat→Option Nat} {RS:Nat→Nat→Prop} {blk:Nat→Option Nat} {w w':World}
omit [Fns] in
theorem Cst.Ok.keep (h:c.Ok w) (hf:∀q,c.Fix q→w'.heap[q]? = w.heap[q]?) (hd:w'.heap[c.Fd]? = w.heap[c.Fd]?) (hs:w.heap.size≤w'.heap.size) (he:w'.os=w.os∧w'.output=w.output):c.Ok w' :=
 ⟨fun q hq=>(hf q hq).trans (h.fix q hq),by rw[hd];exact h.fd,Nat.le_trans h.big hs,he.1.trans h.env.1,he.2.trans h.env.2⟩
theorem Mem.fK (h:Mem P c Post zs top snt fnd RS blk w) (hk:∀q,q≠c.C1→q≠c.C2→w'.heap[q]? = w.heap[q]?) (hse:w'.heap.size=w.heap.size∧w'.os=w.os∧w'.output=w.output) (hC:c.Fd≠c.C1∧c.Fd≠c.C2∧c.C1<c.N1∧c.C2<c.N1)
  (hh:∀i k,c.S0≤i→i<top→(holds (zs' i) k↔holds (zs i) k)) (hu:∀i q,c.S0≤i→i<top→eY (zs' i) q→eY (zs i) q) (hp:∀i k v m,c.S0≤i→i<top→zs' i=.po k v m→∃m',zs i=.po k v m'):Mem P c Post zs' top snt fnd RS blk w':=by
 obtain ⟨hs,he⟩:=hse
 have hfx:∀q,c.Fix q→w'.heap[q]? = w.heap[q]?:=fun q hq=>hk q hq.2.2.1 hq.2.2.2.1
 have hfd:w'.heap[c.Fd]? = w.heap[c.Fd]?:=hk _ hC.1 hC.2.1
 have hbig:∀q,c.N1≤q→w'.heap[q]? = w.heap[q]?:=fun q hq=>hk q (by omega) (by omega)
 have hres:∀k v,Res P c Post k v (RS k) w→Res P c Post k v (RS k) w':=fun k v hr=>hr.keep fun q hq=>by
  rcases hq with hq | hq
  ·exact hfx q hq
  ·exact hbig q (h.us2 k q hq).1
 have hin:∀k i,fnd k=some i→c.S0≤i∧i<top:=fun k i e=>by
  by_cases hks:k<snt
  ·obtain ⟨i',h1,h2,h3⟩:=h.jb1 k hks
   rw[e] at h3
   cases h3
   exact ⟨h1,h2⟩
  ·rw[h.jb0 k (by omega)] at e;cases e
 refine ⟨h.ok.keep hfx hfd (by omega) he,h.jb0,h.jb1,fun i k h1 h2 h3=>h.jb2 i k h1 h2 ((hh i k h1 h2).1 h3),fun k i h1 h2=>?_,fun i k v m h1 h2 h3=>?_,fun i q h1 h2 h3=>?_,fun k q h1=>?_,fun i k q h1 h2 h3=>h.us3 i k q h1 h2 (hu i q h1 h2 h3),fun q i h1=>?_⟩
 ·obtain ⟨ha,hb⟩:=hin k i h1
  obtain ⟨v,h3,h4⟩:=h.jb3 k i h1 (fun e=>h2 ((hh i k ha hb).2 e))
  refine ⟨v,?_,hres k v h4⟩
  rw[←h3]
  unfold World.cell?
  rw[hfd]
 ·obtain ⟨m',h4⟩:=hp i k v m h1 h2 h3
  exact hres k v (h.jb4 i k v m' h1 h2 h4)
 ·rw[hs];exact h.us1 i q h1 h2 (hu i q h1 h2 h3)
 ·rw[hs];exact h.us2 k q h1
 ·rw[hs];exact h.us4 q i h1
theorem Mem.call (h:Mem P c Post zs top snt fnd RS blk w) {i k:Nat} (hi:c.S0≤i) (hit:i<top) {E E':Env} {s':{ s:Gh // Acc (After P [aV P]) s }} (hz:(∀q,eY (zs i) q↔∃b s,E b=some (q,s,true))) (hzk:∀j,holds (zs i) j↔k=j) (hf:FC E E' w w') (hsh:∀b q s,E b=some (q,s,false)→c.Fix q) (hC:c.Fd<c.N1) :
  ∃blk',Mem P c Post (bW zs i (.ca k E' s')) top snt fnd RS blk' w'∧(∀q,blk' q=blk q∨(w.heap.size≤q∧blk' q=some i))∧(∀b q s,E' b=some (q,s,true)→blk' q=some i)∧∀b q s,E' b=some (q,s,false)→c.Fix q:=by
 have hown:∀b q s,E b=some (q,s,true)→c.N1≤q∧q<w.heap.size∧blk q=some i:=fun b q s e=>h.us1 i q hi hit ((hz q).2 ⟨b,s,e⟩)
 have hkeep:∀q,q<w.heap.size→(∀b s,E b≠some (q,s,true))→w'.heap[q]? = w.heap[q]?:=hf.keep
 have hfix:∀q,q<c.N1→w'.heap[q]? = w.heap[q]?:=fun q hq=>hkeep q (Nat.lt_of_lt_of_le hq h.ok.big) (fun b s e=>by have:=(hown b q s e).1;omega)
 have hres:∀j v,Res P c Post j v (RS j) w→Res P c Post j v (RS j) w':=fun j v hr=>hr.keep fun q hq=>by
  rcases hq with hq | hq
  ·exact hfix q hq.1
  ·exact hkeep q (h.us2 j q hq).2 (fun b s e=>h.us3 i j q hi hit ((hz q).2 ⟨b,s,e⟩) hq)
 have hfr:∀b q s,E' b=some (q,s,true)→(∃b s,E b=some (q,s,true))∨w.heap.size≤q∧q<w'.heap.size:=fun b q s e=>by
  rcases hf.fresh b q s true e with h1 | ⟨h1,h2,_⟩
  ·exact .inl ⟨b,s,h1⟩
  ·exact .inr ⟨h1,h2⟩
 classical
 refine ⟨fun q=>if ∃b s,E' b=some (q,s,true) then some i else blk q,⟨h.ok.keep (fun q hq=>hfix q hq.1) (hfix _ hC) hf.size ⟨hf.os,hf.output⟩,h.jb0,h.jb1,fun j k' h1 h2 h3=>?_,fun k' j h1 h2=>?_,fun j k' v m h1 h2 h3=>?_,fun j q h1 h2 h3=>?_,fun k' q h1=>?_,fun j k' q h1 h2 h3=>?_,fun q j h1=>?_⟩,fun q=>?_,fun b q s e=>?_,fun b q s e=>?_⟩
 ·by_cases e:j=i
  ·subst e
   rw[ay] at h3
   exact h.jb2 j k' h1 h2 ((hzk k').2 h3)
  ·rw[aC _ _ e] at h3
   exact h.jb2 j k' h1 h2 h3
 ·have h2':¬holds (zs j) k':=fun e=>h2 (by
   by_cases ej:j=i
   ·subst ej
    rw[ay]
    exact (hzk k').1 e
   ·rw[aC _ _ ej];exact e)
  obtain ⟨v,h3,h4⟩:=h.jb3 k' j h1 h2'
  refine ⟨v,?_,hres k' v h4⟩
  rw[←h3]
  unfold World.cell?
  rw[hfix _ hC]
 ·by_cases e:j=i
  ·subst e;rw[ay] at h3;cases h3
  ·rw[aC _ _ e] at h3
   exact hres k' v (h.jb4 j k' v m h1 h2 h3)
 ·by_cases e:j=i
  ·subst e
   rw[ay] at h3
   obtain ⟨b,s,h4⟩:=h3
   refine ⟨?_,?_,by show (if _ then _ else _)=_;rw[if_pos ⟨b,s,h4⟩]⟩
   ·rcases hfr b q s h4 with ⟨b2,s2,h5⟩ | ⟨h5,_⟩
    ·exact (hown b2 q s2 h5).1
    ·exact Nat.le_trans h.ok.big h5
   ·rcases hfr b q s h4 with ⟨b2,s2,h5⟩ | ⟨_,h5⟩
    ·exact Nat.lt_of_lt_of_le (hown b2 q s2 h5).2.1 hf.size
    ·exact h5
  ·rw[aC _ _ e] at h3
   obtain ⟨h4,h5,h6⟩:=h.us1 j q h1 h2 h3
   refine ⟨h4,Nat.lt_of_lt_of_le h5 hf.size,?_⟩
   show (if _ then _ else _)=_
   rw[if_neg]
   ·exact h6
   ·rintro ⟨b,s,h7⟩
    rcases hfr b q s h7 with ⟨b2,s2,h8⟩ | ⟨h8,_⟩
    ·have:=(hown b2 q s2 h8).2.2
     rw[h6] at this
     injection this with this
     exact e this
    ·omega
 ·obtain ⟨h2,h3⟩:=h.us2 k' q h1
  exact ⟨h2,Nat.lt_of_lt_of_le h3 hf.size⟩
 ·by_cases e:j=i
  ·subst e
   rw[ay] at h3
   obtain ⟨b,s,h4⟩:=h3
   intro h5
   rcases hfr b q s h4 with ⟨b2,s2,h6⟩ | ⟨h6,_⟩
   ·exact h.us3 j k' q h1 h2 ((hz q).2 ⟨b2,s2,h6⟩) h5
   ·have:=(h.us2 k' q h5).2;omega
  ·rw[aC _ _ e] at h3
   exact h.us3 j k' q h1 h2 h3
 ·have h1':(if ∃b s,E' b=some (q,s,true) then some i else blk q)=some j:=h1
  by_cases hq:∃b s,E' b=some (q,s,true)
  ·obtain ⟨b,s,h4⟩:=hq
   rcases hfr b q s h4 with ⟨b2,s2,h5⟩ | ⟨h5,h6⟩
   ·obtain ⟨h6,h7,_⟩:=hown b2 q s2 h5
    exact ⟨h6,Nat.lt_of_lt_of_le h7 hf.size⟩
   ·exact ⟨Nat.le_trans h.ok.big h5,h6⟩
  ·rw[if_neg hq] at h1'
   obtain ⟨h6,h7⟩:=h.us4 q j h1'
   exact ⟨h6,Nat.lt_of_lt_of_le h7 hf.size⟩
 ·show (if ∃b s,E' b=some (q,s,true) then some i else blk q)=blk q∨_∧(if _ then _ else _)=_
  by_cases hq:∃b s,E' b=some (q,s,true)
  ·rw[if_pos hq]
   obtain ⟨b,s,h4⟩:=hq
   rcases hfr b q s h4 with ⟨b2,s2,h5⟩ | ⟨h5,h6⟩
   ·exact .inl (hown b2 q s2 h5).2.2.symm
   ·exact .inr ⟨h5,rfl⟩
  ·rw[if_neg hq];exact .inl rfl
 ·show (if ∃b s,E' b=some (q,s,true) then some i else blk q)=some i
  rw[if_pos ⟨b,s,e⟩]
 ·rcases hf.fresh b q s false e with h1 | ⟨_,_,h2⟩
  ·exact hsh b q s h1
  ·cases h2
end
end Cs
end Go.Proofs.YtgacaecjinlhiaaGreatDoor
