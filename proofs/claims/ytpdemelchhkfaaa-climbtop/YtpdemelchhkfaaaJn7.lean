/-
  Several texts, joined: CsR, CsS, CsT, CsU, CsV.
-/
import Derived.Test.YtpdemelchhkfaaaJn6
import Derived.KernelRfl
import Derived.Conc.Beside
/-
  A lone run that ends on every tape: it ends in whatever company.
-/
namespace Go.Proofs.Ytpdemelchhkfaaa.Cs
open Go.Conc
abbrev Gh:=Goroutine × World
def Stop (cl:List Frame) (g:Goroutine):Prop:=g.frame.mode=.returning∧g.callers=cl
def Reach (P:Program) (cl:List Frame) (Post:Value→World→Prop) (g:Goroutine) (w:World):Prop :=
 ∃n fr w' v,runN P n (lone g.frame g.callers w)=.next (lone fr cl w')∧fr.leaving P w' (.returned v)∧Post v w'
def Live (P:Program) (cl:List Frame) (Post:Value→World→Prop) (g:Goroutine) (w:World):Prop:=∀τ,(∀i q,i<w.drawn→τ i q=w.tape i q)→Reach P cl Post g (w.tp τ)
def After (P:Program) (cl:List Frame) (s' s:Gh):Prop :=
 ¬Stop cl s.1∧(∃fr cs,s.1=G fr cs)∧(∃fr cs,s'.1=G fr cs)∧∃τ,LocG P s.1 (s.2.tp τ) s'.1 s'.2
section
variable {P:Program} {cl:List Frame} {Post:Value→World→Prop}
theorem step_of_loc {s s':Gh} {τ τ':Nat→Question→Nat} (h1:∃fr cs,s.1=G fr cs) (h2:∃fr cs,s'.1=G fr cs) (h:LocG P s.1 (s.2.tp τ) s'.1 s'.2) (ht:∀i q,s.2.drawn≤i→i<s'.2.drawn→τ' i q=τ i q):step P (lone s.1.frame s.1.callers (s.2.tp τ'))=.next (lone s'.1.frame s'.1.callers (s'.2.tp τ')):=by
 obtain ⟨fr,cs,e1⟩:=h1
 obtain ⟨fr',cs',e2⟩:=h2
 obtain ⟨_,_,h3⟩:=h
 obtain ⟨es,h4⟩:=h3 τ' ht
 rw[e1,e2] at h4
 rw[e1,e2]
 refine step_lone_go ?_
 have h5:stepG P true { frame:=fr,callers:=cs,status:=.running,dying:=none } (s.2.tp τ')=.go (G fr' cs') (s'.2.tp τ') es:=h4
 show (stepG P true { frame:=fr,callers:=cs,status:=.running,dying:=none } (s.2.tp τ')).bare=_
 rw[h5]
 rfl
theorem notAcc_chain {α:Type} {r:α→α→Prop} {a:α} (h:¬Acc r a):∃f:Nat→α,f 0=a∧∀n,r (f (n+1)) (f n):=by
 have nx:∀x:{ x // ¬Acc r x },∃y:{ x // ¬Acc r x },r y.1 x.1:=fun x=>by
  apply Classical.byContradiction
  intro hn
  refine x.2 (Acc.intro _ fun y hy=>?_)
  apply Classical.byContradiction
  intro hy'
  exact hn ⟨⟨y,hy'⟩,hy⟩
 let g:{ x // ¬Acc r x }→{ x // ¬Acc r x }:=fun x=>Classical.choose (nx x)
 let f:Nat→{ x // ¬Acc r x }:=fun n=>Nat.rec ⟨a,h⟩ (fun _ x=>g x) n
 exact ⟨fun n=>(f n).1,rfl,fun n=>Classical.choose_spec (nx (f n))⟩
theorem live_acc {g:Goroutine} {w:World} (h:Live P cl Post g w):Acc (After P cl) (g,w):=by
 apply Classical.byContradiction
 intro hn
 obtain ⟨f,f0,hf⟩:=notAcc_chain hn
 let d:Nat→Nat:=fun k=>(f k).2.drawn
 let t:Nat→Nat→Question→Nat:=fun k=>Classical.choose (hf k).2.2.2
 have ht:∀k,LocG P (f k).1 ((f k).2.tp (t k)) (f (k+1)).1 (f (k+1)).2:=fun k=>Classical.choose_spec (hf k).2.2.2
 have hd:∀k,d k≤d (k+1):=fun k=>(ht k).1
 have hmono:∀k j,d k≤d (k+j):=fun k j=>by
  induction j with
  | zero=>exact Nat.le_refl _
  | succ j ih=>exact Nat.le_trans ih (hd (k+j))
 let T:Nat→Question→Nat:=fun i q=>open Classical in if hk:∃k,d k≤i∧i<d (k+1) then t (Classical.choose hk) i q else w.tape i q
 have hT:∀k i q,d k≤i→i<d (k+1)→T i q=t k i q:=fun k i q h1 h2=>by
  have hk:∃k,d k≤i∧i<d (k+1):=⟨k,h1,h2⟩
  show (open Classical in if hk:∃k,d k≤i∧i<d (k+1) then t (Classical.choose hk) i q else w.tape i q)=_
  rw[dif_pos hk]
  obtain ⟨h3,h4⟩:=Classical.choose_spec hk
  have:Classical.choose hk=k:=by
   rcases Nat.lt_trichotomy (Classical.choose hk) k with hlt | heq | hgt
   ·have:=hmono (Classical.choose hk+1) (k-(Classical.choose hk+1))
    rw[show Classical.choose hk+1+(k-(Classical.choose hk+1))=k by omega] at this
    omega
   ·exact heq
   ·have:=hmono (k+1) (Classical.choose hk-(k+1))
    rw[show k+1+(Classical.choose hk-(k+1))=Classical.choose hk by omega] at this
    omega
  rw[this]
 have hrun:∀k,runN P k (lone (f 0).1.frame (f 0).1.callers ((f 0).2.tp T))=.next (lone (f k).1.frame (f k).1.callers ((f k).2.tp T)):=fun k=>by
  induction k with
  | zero=>rfl
  | succ k ih =>
   have hs:=step_of_loc (τ':=T) (hf k).2.1 (hf k).2.2.1 (ht k) (fun i q h1 h2=>hT k i q h1 h2)
   rw[runN_add,ih]
   show runN P 1 _=_
   simp only[runN,hs]
 have hd0:d 0=w.drawn:=by show (f 0).2.drawn=_;rw[f0]
 obtain ⟨n,fr,w',v,h1,h2,_⟩:=h T (fun i q hi=>by
  show (open Classical in if hk:∃k,d k≤i∧i<d (k+1) then t (Classical.choose hk) i q else w.tape i q)=_
  rw[dif_neg (fun ⟨k,h3,_⟩=>by have:=hmono 0 k;rw[Nat.zero_add] at this;omega)])
 have hfn:=hrun n
 rw[f0] at hfn
 rw[hfn] at h1
 injection h1 with h1
 have e1:(f n).1.frame=fr∧(f n).1.callers=cl:=by
  unfold lone at h1
  injection h1 with hw hg hr
  have:({ frame:=(f n).1.frame,callers:=(f n).1.callers,status:=.running,dying:=none }:Goroutine)={ frame:=fr,callers:=cl,status:=.running,dying:=none }:=by
   have:=congrArg (fun a=>a[0]?) hg
   simpa using this
  injection this with a b
  exact ⟨a,b⟩
 exact (hf n).1 ⟨by rw[e1.1];exact h2.1,e1.2⟩
end
end Go.Proofs.Ytpdemelchhkfaaa.Cs

/-
  A call in company: its ghost, the same call alone.
-/
namespace Go.Proofs.Ytpdemelchhkfaaa.Cs
open Go.Conc
def trap (P : Program) : Frame := { fn := P.funcs.size, tmps := #[], todo := [.call default false "fmt's door" #[]], defers := [], mode := .run, kind := .normal }
theorem next_none : Extern.next "fmt's door" = none := by kernel_rfl
theorem door_self : ("fmt's door".startsWith "fmt's door") = true := by kernel_rfl
section
variable {P:Program} {Post:Value→World→Prop}
theorem trap_step (v:Value) (w:World):∃o w' ,step P (lone ((trap P).finish v) [] w)=.ended o w':=by
 have h : stepG P true (G ((trap P).finish v) []) w = .ended (.stuck ("no extern row " ++ "fmt's door") (((trap P).finish v).pos P)) w := by
  simp only[G,stepG,stepG.exec,trap,Frame.finish,next_none,Option.elim_none]
 exact ⟨_,_,step_lone_ended (by
  have h5:stepG P true { frame:=(trap P).finish v,callers:=[],status:=.running,dying:=none } w=_:=h
  rw[h5]
  rfl)⟩
theorem trap_panic (chain:List PanicEntry) (w:World):∃o w',step P (lone ((trap P).raise chain) [] w)=.ended o w':=by
 have hc:((trap P).raise chain).catches P=true:=by
  unfold Frame.catches
  have:P.funcs[((trap P).raise chain).fn]? = none:=by simp[trap,Frame.raise]
  rw[this]
  show ("fmt's door".startsWith "fmt's door") = true
  exact door_self
 have h:∃o w' es,stepG P true (G ((trap P).raise chain) []) w=.ended o w' es:=by
  have e:stepG P true (G ((trap P).raise chain) []) w=unwind P true ((trap P).raise chain) [] none w:=rfl
  rw[e]
  unfold unwind
  simp only[trap,Frame.raise] at hc ⊢
  simp only[hc,if_true]
  exact ⟨_,_,_,rfl⟩
 obtain ⟨o,w',es,h⟩:=h
 exact ⟨_,_,step_lone_ended (by
  have h5:stepG P true { frame:=(trap P).raise chain,callers:=[],status:=.running,dying:=none } w=_:=h
  rw[h5]
  rfl)⟩
theorem runN_dead {m:Machine} {o:Outcome} {w:World} (h:step P m=.ended o w):∀n m',runN P (n+1) m≠.next m':=fun n m' e=>by
 simp only[runN,h] at e
 cases e
theorem lone_inj {fr fr':Frame} {cs cs':List Frame} {w w':World} (h:lone fr cs w=lone fr' cs' w'):fr=fr'∧cs=cs'∧w=w':=by
 unfold lone at h
 injection h with hw hg hr
 have:({ frame:=fr,callers:=cs,status:=.running,dying:=none }:Goroutine)={ frame:=fr',callers:=cs',status:=.running,dying:=none }:=by
  have:=congrArg (fun a=>a[0]?) hg
  simpa using this
 injection this with a b
 exact ⟨a,b,hw⟩
inductive PanL (P:Program):List Frame→Prop
 | base:PanL P [trap P]
 | cons {fn:FuncId} {x:Array Value} {todo:List Item} {l:List Frame} (hf:∃f,P.funcs[fn]? = some f) (h:PanL P l):PanL P (mkF fn x todo .run :: l)
theorem never_back:∀(n:Nat) {l:List Frame},PanL P l→∀{fn:FuncId} {x:Array Value} {todo:List Item} {chain:List PanicEntry} {w:World},(∃f,P.funcs[fn]? = some f)→∀{fr':Frame} {cs':List Frame} {w':World},runN P n (lone (mkF fn x todo (.panicking chain)) l w)=.next (lone fr' cs' w')→fr'.mode≠.returning
 | 0,l,_,fn,x,todo,chain,w,_,fr',cs',w',h=>by
  injection h with h
  obtain ⟨rfl,_⟩:=lone_inj h
  exact fun e=>by cases e
 | n+1,l,hl,fn,x,todo,chain,w,⟨f,hf⟩,fr',cs',w',h=>by
  have hstep:∀(cal:Frame) (rest:List Frame),l=cal :: rest→step P (lone (mkF fn x todo (.panicking chain)) l w)=.next (lone (cal.raise chain) rest w):=fun cal rest e=>by
   subst e
   refine step_lone_go ?_
   have hc:(mkF fn x todo (.panicking chain)).catches P=false:=by
    unfold Frame.catches
    have:P.funcs[(mkF fn x todo (.panicking chain)).fn]? = some f:=hf
    rw[this]
   show GStep.bare (unwind P true (mkF fn x todo (.panicking chain)) (cal :: rest) none w)=_
   unfold unwind
   simp only[mkF] at hc ⊢
   simp only[hc,Bool.false_eq_true,if_false]
   rfl
  cases hl with
  | base =>
   simp only[runN,hstep _ _ rfl] at h
   cases n with
   | zero =>
    injection h with h
    obtain ⟨rfl,_⟩:=lone_inj h
    exact fun e=>by cases e
   | succ n =>
    obtain ⟨o,w2,hd⟩:=trap_panic (P:=P) chain w
    exact absurd h (runN_dead hd n _)
  | cons hf2 hl2 =>
   simp only[runN,hstep _ _ rfl] at h
   exact never_back n hl2 hf2 h
variable [Fns]
theorem CR.panL {E:Env} {c l l':List Frame} (h:CR P E [trap P] c l l'):PanL P l:=by
 induction h with
 | base=>exact .base
 | cons hf _ _ _ ih=>exact .cons hf ih
theorem lost_not {E:Env} {c:List Frame} {gl g:Goroutine} {wl:World} (hg:GR P E [trap P] c gl g) (hns:¬Stop [trap P] gl) (h:Lost P gl wl):¬Reach P [trap P] Post gl wl:=by
 rintro ⟨n,fr,w',v,h1,h2,_⟩
 obtain ⟨fn,x,y,todo,mode,l,l',rfl,rfl,hf,hx,ht,hm,hcr⟩:=hg.ex
 cases n with
 | zero =>
  injection h1 with h1
  obtain ⟨e1,e2,_⟩:=lone_inj h1
  exact hns ⟨by rw[e1];exact h2.1,e2⟩
 | succ n =>
  rcases h with ⟨o,w2,es,h⟩ | ⟨fn2,x2,todo2,chain,w2,es,h,hf2⟩
  ·have:step P (lone (mkF fn x todo mode) l wl)=.ended o w2:=step_lone_ended (by
    have h5:stepG P true { frame:=mkF fn x todo mode,callers:=l,status:=.running,dying:=none } wl=_:=h
    rw[h5]
    rfl)
   exact runN_dead this n _ h1
  ·have:step P (lone (mkF fn x todo mode) l wl)=.next (lone (mkF fn2 x2 todo2 (.panicking chain)) l w2):=step_lone_go (by
    have h5:stepG P true { frame:=mkF fn x todo mode,callers:=l,status:=.running,dying:=none } wl=_:=h
    rw[h5]
    rfl)
   have h1':runN P (n+1) (lone (mkF fn x todo mode) l wl)=.next (lone fr [trap P] w'):=h1
   simp only[runN,this] at h1'
   exact never_back n hcr.panL hf2 h1' h2.1
theorem stop_post {E:Env} {c:List Frame} {gl g:Goroutine} {wl:World} (hg:GR P E [trap P] c gl g) (hs:Stop [trap P] gl) (h:Reach P [trap P] Post gl wl):∃v,gl.frame.leaving P wl (.returned v)∧Post v wl:=by
 obtain ⟨n,fr,w',v,h1,h2,h3⟩:=h
 obtain ⟨fn,x,y,todo,mode,l,l',rfl,rfl,hf,hx,ht,hm,hcr⟩:=hg.ex
 cases n with
 | zero =>
  injection h1 with h1
  obtain ⟨rfl,_,rfl⟩:=lone_inj h1
  exact ⟨v,h2,h3⟩
 | succ n =>
  exfalso
  obtain ⟨hm2,hl⟩:=hs
  have hm2':mode=.returning:=hm2
  have hl':l=[trap P]:=hl
  subst hm2' hl'
  obtain ⟨f,hfn⟩:=hf
  have h1':runN P (n+1) (lone (mkF fn x todo .returning) [trap P] wl)=.next (lone fr [trap P] w'):=h1
  have s1:=stepG_returns (P:=P) (main:=true) (x:=x) (todo:=todo) (l:=[]) (w:=wl) (cal:=trap P) hfn
  cases hr:(results f x).run P wl with
  | halt hh w2 =>
   rw[hr] at s1
   have:∃o w3,step P (lone (mkF fn x todo .returning) [trap P] wl)=.ended o w3:=by
    cases hh <;> exact ⟨_,_,step_lone_ended (by
     have h5:stepG P true { frame:=mkF fn x todo .returning,callers:=[trap P],status:=.running,dying:=none } wl=_:=s1
     rw[h5]
     rfl)⟩
   obtain ⟨o,w3,h4⟩:=this
   exact runN_dead h4 n _ h1'
  | ok u w2 =>
   rw[hr] at s1
   have h4:step P (lone (mkF fn x todo .returning) [trap P] wl)=.next (lone ((trap P).finish u) [] w2):=step_lone_go (by
    have h5:stepG P true { frame:=mkF fn x todo .returning,callers:=[trap P],status:=.running,dying:=none } wl=_:=s1
    rw[h5]
    rfl)
   simp only[runN,h4] at h1'
   cases n with
   | zero =>
    injection h1' with h1'
    obtain ⟨_,e2,_⟩:=lone_inj h1'
    cases e2
   | succ n =>
    obtain ⟨o,w3,h5⟩:=trap_step (P:=P) u w2
    exact runN_dead h5 n _ h1'
end
end Go.Proofs.Ytpdemelchhkfaaa.Cs

/-
  A call in company: it begins, goes on, and returns what the same call returns alone.
-/
namespace Go.Proofs.Ytpdemelchhkfaaa.Cs
open Go.Conc
variable [Fns]
structure InCall (P:Program) (Post:Value→World→Prop) (c:List Frame) (E:Env) (gl:Goroutine) (wl:World) (g:Goroutine) (w:World):Prop where
 gr:GR P E [trap P] c gl g
 wr:WR P E wl w
 big:Fns.G≤wl.heap.size
 live:Live P [trap P] Post gl wl
section
variable {P:Program} {Post:Value→World→Prop} {c:List Frame} {E:Env} {gl g:Goroutine} {wl w:World}
theorem InCall.other {w2:World} (h:InCall P Post c E gl wl g w) (hw:∀b x,E b=some x→w2.heap[x.1]? = w.heap[x.1]?):InCall P Post c E gl wl g w2:=by
 refine ⟨h.gr,⟨fun b q s e=>?_,fun b q s e=>?_,h.wr.inj,h.wr.low⟩,h.big,h.live⟩
 ·obtain ⟨h1,ol,o,h2,h3,h4⟩:=h.wr.own b q s e
  exact ⟨h1,ol,o,h2,(hw b _ e).trans h3,h4⟩
 ·obtain ⟨x,T,y,T',fr,h1,h2,h3,h4⟩:=h.wr.shared b q s e
  exact ⟨x,T,y,T',fr,h1,h2,(hw b _ e).trans h3,h4⟩
theorem InCall.running (h:InCall P Post c E gl wl g w):g.status=.running:=by
 obtain ⟨fn,x,y,todo,mode,l,l',rfl,rfl,_⟩:=h.gr.ex
 rfl
theorem InCall.start (hC:FnsCode P) {f:FuncId} (hf:Fns.ok f=true) {x y:Array Value} (hx:LR E x y) (hw:WR P E wl w) (hb:Fns.G≤wl.heap.size) (hc:∀τ,Calls P f x (wl.tp τ) fun e w'=>∃v,e=.returned v∧Post v w') :
  InCall P Post c E (G (Frame.enter P f x .normal) [trap P]) wl (G (Frame.enter P f y .normal) c) w:=by
 obtain ⟨x',y',todo,e1,e2,e3,e4⟩:=enter_ok hC hf hx
 refine ⟨?_,hw,hb,fun τ _=>?_⟩
 ·rw[e1,e2]
  exact .mk' (hC.hasF hf) e3 e4 (.inl rfl) .base
 ·obtain ⟨e,w',fr,⟨v,rfl,hp⟩,⟨n,hn⟩,_,hl⟩:=hc τ [trap P]
  exact ⟨n,fr,w',v,hn,hl,hp⟩
def aligned (wl w:World):Nat→Question→Nat:=fun i q=>if i<wl.drawn then wl.tape i q else w.tape (i-wl.drawn+w.drawn) q
omit [Fns] in
theorem aligned_ta (wl w:World):TA (wl.tp (aligned wl w)) w:=fun i q=>by
 show aligned wl w (wl.drawn+i) q=_
 unfold aligned
 rw[if_neg (by omega),show wl.drawn+i-wl.drawn+w.drawn=w.drawn+i by omega]
omit [Fns] in
theorem aligned_low {wl w:World} {i:Nat} (q:Question) (h:i<wl.drawn):aligned wl w i q=wl.tape i q:=by
 unfold aligned
 rw[if_pos h]
theorem WR.tp (h:WR P E wl w) (τ:Nat→Question→Nat):WR P E (wl.tp τ) w:=⟨h.own,h.shared,h.inj,h.low⟩
theorem InCall.step2 (hG:P.globals.size≤Fns.G) (hC:FnsCode P) (main:Bool) (h:InCall P Post c E gl wl g w) (hns:¬Stop [trap P] gl) :
  ∃E' gl' wl' g' w' es,stepG P main g w=.go g' w' es∧InCall P Post c E' gl' wl' g' w'∧After P [trap P] (gl',wl') (gl,wl)∧(∀e ∈ es,EvOk E' e)∧FC E E' w w'∧lastG g'=lastG g:=by
 have hb:Both P E (wl.tp (aligned wl w)) w:=⟨h.wr.tp _,aligned_ta _ _,h.big⟩
 rcases step_alike (main:=main) hG hC h.gr hb hns with ⟨gl',wl',esl,E',g',w',es,s1,s2,hg,hB,hev,hlast,hfc,hloc⟩ | hlost
 ·have f1:∃fr cs,gl=G fr cs:=by
   obtain ⟨fn,x,y,todo,mode,l,l',e,_⟩:=h.gr.ex
   exact ⟨_,_,e⟩
  have f2:∃fr cs,gl'=G fr cs:=by
   obtain ⟨fn,x,y,todo,mode,l,l',e,_⟩:=hg.ex
   exact ⟨_,_,e⟩
  refine ⟨E',gl',wl',g',w',es,s2,⟨hg,hB.wr,hB.big,fun τ hτ=>?_⟩,⟨hns,f1,f2,_,hloc⟩,hev,hfc,hlast⟩
  obtain ⟨l1,l2,l3⟩:=hloc
  have l1':wl.drawn≤wl'.drawn:=l1
  have l2':wl'.tape=aligned wl w:=l2
  rw[l2'] at hτ
  obtain ⟨n,fr,w2,v,h1,h2,h3⟩:=h.live τ (fun i q hi=>by rw[hτ i q (by omega),aligned_low q hi])
  cases n with
  | zero =>
   injection h1 with h1
   obtain ⟨e1,e2,_⟩:=lone_inj h1
   exact absurd ⟨by rw[e1];exact h2.1,e2⟩ hns
  | succ n =>
   have hs:=step_of_loc (P:=P) (s:=(gl,wl)) (s':=(gl',wl')) (τ:=aligned wl w) (τ':=τ) f1 f2 ⟨l1,l2,l3⟩ (fun i q h4 h5=>hτ i q h5)
   simp only[runN,hs] at h1
   exact ⟨n,fr,w2,v,h1,h2,h3⟩
 ·exact absurd (h.live (aligned wl w) (fun i q hi=>aligned_low q hi)) (lost_not h.gr hns hlost)
theorem InCall.step (hG:P.globals.size≤Fns.G) (hC:FnsCode P) (main:Bool) (h:InCall P Post c E gl wl g w) (hns:¬Stop [trap P] gl) :
  ∃E' gl' wl' g' w' es,stepG P main g w=.go g' w' es∧InCall P Post c E' gl' wl' g' w'∧After P [trap P] (gl',wl') (gl,wl)∧(∀e ∈ es,EvOk E' e)∧FC E E' w w':=by
 obtain ⟨E',gl',wl',g',w',es,h1,h2,h3,h4,h5,_⟩:=h.step2 hG hC main hns
 exact ⟨E',gl',wl',g',w',es,h1,h2,h3,h4,h5⟩
theorem InCall.ret (main:Bool) {cal:Frame} {rest:List Frame} (h:InCall P Post (cal :: rest) E gl wl g w) (hs:Stop [trap P] gl) :
  ∃v wl2 E' v' w' es,Post v wl2∧VR E' v v'∧WR P E' wl2 w'∧stepG P main g w=.go (G (cal.finish v') rest) w' es∧(∀e ∈ es,EvOk E' e)∧FC E E' w w':=by
 have hb:Both P E (wl.tp (aligned wl w)) w:=⟨h.wr.tp _,aligned_ta _ _,h.big⟩
 obtain ⟨v,hl,hp⟩:=stop_post h.gr hs (h.live (aligned wl w) (fun i q hi=>aligned_low q hi))
 obtain ⟨fn,x,y,todo,mode,l,l',rfl,rfl,hf,hx,ht,hm,hcr⟩:=h.gr.ex
 obtain ⟨hm2,hl2⟩:=hs
 have hm2':mode=.returning:=hm2
 have hl2':l=[trap P]:=hl2
 subst hm2' hl2'
 obtain ⟨_,_,_,f,hfn,hr⟩:=hl
 have hfn':P.funcs[fn]? = some f:=hfn
 have hr':(results f x).run P (wl.tp (aligned wl w))=.ok v (wl.tp (aligned wl w)):=hr
 have hout:=(sr_results (P:=P) f hx).run _ w #[] hb
 rw[hr'] at hout
 obtain ⟨E',v',w',es',k1,k2,k3,k4,k5⟩:=hout
 have hlc:l'=cal :: rest:=by
  have hlen:∀{a b:List Frame},CR P E [trap P] (cal :: rest) a b→a=[trap P]→b=cal :: rest:=fun {a b} hab e=>by
   cases hab with
   | base=>rfl
   | cons hf2 hx2 ht2 h2 =>
    exfalso
    injection e with e1 e2
    have:=congrArg Frame.todo e1
    simp only[mkF,trap] at this
    rw[this] at ht2
    simp[pend,itemOk] at ht2
  exact hlen hcr rfl
 subst hlc
 have s2:=stepG_returns (P:=P) (main:=main) (x:=y) (todo:=todo) (l:=rest) (w:=w) (cal:=cal) hfn'
 have hr2:(results f y).run P w=.ok v' w':=by rw[←Sem.runT_fst P _ w #[],k1]
 rw[hr2,k1] at s2
 dsimp only[GStep.after] at s2
 refine ⟨v,_,E',v',w',_,hp,k2,k3.wr,s2,fun e he=>?_,k5⟩
 simp only[Array.append_empty,Array.empty_append] at he
 exact k4 e (mem_seen he)
end
end Go.Proofs.Ytpdemelchhkfaaa.Cs

/-
  Who may touch what: a trace in which each place is one goroutine's own, or read by all.
-/
namespace Go.Proofs.Ytpdemelchhkfaaa.Cs
open Go.Conc

structure TI (t:Trace) (own:_root_.Go.Loc→Option Nat) (act:Nat→Prop):Prop where
 clean:∀said,¬Race said t
 mine:∀l g,own l=some g→Perm t g l
 read:∀l,own l=none→∀g,act g→∀i a,touchAt t i=some a→a.loc=l→a.write=true→Knows t g i
 words:Wordless t
section
variable {t u:Trace} {own:_root_.Go.Loc→Option Nat} {act:Nat→Prop}
def OkBy (own:_root_.Go.Loc→Option Nat) (g:Nat) (op:MemOp):Prop:=op.g=g∧∀b,op.act.touch? = some b→own b.loc=some g∨(own b.loc=none∧b.write=false)
theorem TI.step {g:Nat} (h:TI t own act) (hg:act g) (hu:∀op ∈ u,OkBy own g op) (hw:Wordless u):TI (t++u) own act:=by
 refine ⟨fun said=>noRace_append (h.clean said) (fun op hop=>(hu op hop).1) fun i a ha op hop b hb hc=>?_,fun l g' hl=>?_,fun l hl g' hg' i a ha hal haw=>?_,h.words.append hw⟩
 ·rcases (hu op hop).2 b hb with h1 | ⟨h1,h2⟩
  ·exact h.mine b.loc g h1 i a ha hc.1
  ·rcases hc.2.2.1 with h3 | h3
   ·exact h.read b.loc h1 g hg i a ha hc.1 h3
   ·rw[h2] at h3;cases h3
 ·refine (h.mine l g' hl).app fun op hop b hb e=>?_
  rcases (hu op hop).2 b hb with h1 | ⟨h1,_⟩
  ·rw[e,hl] at h1
   cases h1
   exact (hu op hop).1
  ·rw[e,hl] at h1;cases h1
 ·obtain ⟨x,hx,hxa⟩:=touch_of ha
  rcases getElem?_append_cases hx with ⟨hi,hx'⟩ | ⟨_,hxu⟩
  ·exact (h.read l hl g' hg' i a (by rw[touchAt_of hx'];exact hxa) hal haw).app u
  ·rcases (hu x hxu).2 a hxa with h1 | ⟨_,h2⟩
   ·rw[hal,hl] at h1;cases h1
   ·rw[h2] at haw;cases haw
theorem TI.mute (h:TI t own act) (hn:∀op ∈ u,op.act.touch? = none) (hw:Wordless u):TI (t++u) own act:=by
 refine ⟨fun said=>?_,fun l g' hl=>?_,fun l hl g' hg' i a ha hal haw=>?_,h.words.append hw⟩
 ·rintro ⟨i,j,hij,⟨a,b,ha,hb,hc⟩,n1,n2⟩
  obtain ⟨x,hx,hxa⟩:=touch_of ha
  obtain ⟨y,hy,hyb⟩:=touch_of hb
  rcases getElem?_append_cases hy with ⟨hj,hy'⟩ | ⟨_,hyu⟩
  ·have hi:i<t.size:=Nat.lt_trans hij hj
   have hx':t[i]? = some x:=by rw[←getElem?_append_old (u:=u) hi];exact hx
   exact h.clean said ⟨i,j,hij,⟨a,b,by simp[Trace.act?,hx',hxa],by simp[Trace.act?,hy',hyb],hc⟩,fun e=>n1 (hb_app u e),fun e=>n2 (hb_app u e)⟩
  ·rw[hn y hyu] at hyb;cases hyb
 ·exact (h.mine l g' hl).app fun op hop b hb _=>by rw[hn op hop] at hb;cases hb
 ·obtain ⟨x,hx,hxa⟩:=touch_of ha
  rcases getElem?_append_cases hx with ⟨hi,hx'⟩ | ⟨_,hxu⟩
  ·exact (h.read l hl g' hg' i a (by rw[touchAt_of hx'];exact hxa) hal haw).app u
  ·rw[hn x hxu] at hxa;cases hxa
theorem TI.turn {own':_root_.Go.Loc→Option Nat} (h:TI t own act) (hm:∀l g,own' l=some g→own l=some g∨(∀i a,touchAt t i=some a→a.loc≠l)∨Perm t g l) (hr:∀l,own' l=none→own l=none∨∀i a,touchAt t i=some a→a.loc≠l):TI t own' act:=by
 refine ⟨h.clean,fun l g hl=>?_,fun l hl g hg i a ha hal haw=>?_,h.words⟩
 ·rcases hm l g hl with h1 | h1 | h1
  ·exact h.mine l g h1
  ·exact fun i a ha hal=>absurd hal (h1 i a ha)
  ·exact h1
 ·rcases hr l hl with h1 | h1
  ·exact h.read l h1 g hg i a ha hal haw
  ·exact absurd hal (h1 i a ha)
theorem TI.less {act':Nat→Prop} (h:TI t own act) (ha:∀g,act' g→act g):TI t own act':=⟨h.clean,h.mine,fun l hl g hg=>h.read l hl g (ha g hg),h.words⟩
theorem Knows.over {g g' i p q:Nat} {x y:MemOp} (hw:Wordless t) (h:Knows (t.extract 0 p) g i) (hx:t[p]? = some x) (hg:x.g=g) (hy:t[q]? = some y) (hg':y.g=g') (hn:Notices t p q):Knows t g' i:=by
 have hp:p<t.size:=lt_size_of_getElem? hx
 obtain ⟨j,z,hz,hzg,hb⟩:=h
 have hjp:j<p:=by
  have:=lt_size_of_getElem? hz
  simp at this
  omega
 have e:t.extract 0 p++t.extract p t.size=t:=by simp;omega
 have hz':t[j]? = some z:=by
  have:=getElem?_append_old (u:=t.extract p t.size) (lt_size_of_getElem? hz)
  rw[e] at this
  rw[this]
  exact hz
 have hb':Before t i j:=by
  have:=hb.app (t.extract p t.size)
  rw[e] at this
  exact this
 refine ⟨q,y,hy,hg',.inr ?_⟩
 have h1:HappensBefore t j p:=hb_po hjp hz' hx (hzg.trans hg.symm)
 have h2:HappensBefore t p q:=Relation.TransGen.single (.inr ⟨hn,hw.heard hx,hw.heard hy⟩)
 exact (hb'.hb h1).trans h2
end
end Go.Proofs.Ytpdemelchhkfaaa.Cs

/-
  A measure for many at work: one falls, the others stay; and a run that comes to a goal.
-/
namespace Go.Proofs.Ytpdemelchhkfaaa.Cs
open Go.Conc
section
variable {α:Type} {r:α→α→Prop}
inductive OneLess (r:α→α→Prop):List α→List α→Prop
 | head {a b:α} (l:List α) (h:r a b):OneLess r (a :: l) (b :: l)
 | tail (a:α) {l l':List α} (h:OneLess r l l'):OneLess r (a :: l) (a :: l')
theorem oneLess_cons {a:α} (ha:Acc r a):∀{l:List α},Acc (OneLess r) l→Acc (OneLess r) (a :: l):=by
 induction ha with
 | intro a _ iha =>
  intro l hl
  induction hl with
  | intro l hl ihl =>
   refine Acc.intro _ fun y hy=>?_
   cases hy with
   | head _ h=>exact iha _ h (Acc.intro _ hl)
   | tail _ h=>exact ihl _ h
theorem oneLess_wf (wf:WellFounded r):WellFounded (OneLess r):=⟨fun l=>by
 induction l with
 | nil=>exact Acc.intro _ fun y hy=>by cases hy
 | cons a l ih=>exact oneLess_cons (wf.apply a) ih⟩
theorem oneLess_map {ι:Type} (f f':ι→α):∀{l:List ι} {i:ι},l.Nodup→i ∈ l→r (f' i) (f i)→(∀j,j≠i→f' j=f j)→OneLess r (l.map f') (l.map f)
 | [],_,_,h,_,_=>by cases h
 | a :: l,i,hn,hi,hr,ho=>by
  have hna:a ∉ l:=(List.nodup_cons.1 hn).1
  by_cases e:a=i
  ·subst e
   have:l.map f'=l.map f:=List.map_congr_left fun j hj=>ho j (fun e=>hna (e ▸ hj))
   rw[List.map_cons,List.map_cons,this]
   exact .head _ hr
  ·have hi':i ∈ l:=by
    rcases List.mem_cons.1 hi with h | h
    ·exact absurd h.symm e
    ·exact h
   rw[List.map_cons,List.map_cons,ho a e]
   exact .tail _ (oneLess_map f f' (List.nodup_cons.1 hn).2 hi' hr ho)
end
abbrev Mi (P:Program) (cl:List Frame):=Nat ⊕ { s:Gh // Acc (After P cl) s }
inductive MiLt (P:Program) (cl:List Frame):Mi P cl→Mi P cl→Prop
 | walk {m n:Nat} (h:m<n):MiLt P cl (.inl m) (.inl n)
 | call {s s':{ s:Gh // Acc (After P cl) s }} (h:After P cl s'.1 s.1):MiLt P cl (.inr s') (.inr s)
theorem mi_wf (P:Program) (cl:List Frame):WellFounded (MiLt P cl):=⟨fun a=>by
 cases a with
 | inl n =>
  induction n using Nat.strongRecOn with
  | _ n ih =>
   refine Acc.intro _ fun y hy=>?_
   cases hy with
   | walk h=>exact ih _ h
 | inr s =>
  obtain ⟨s,hs⟩:=s
  induction hs with
  | intro s hs ih =>
   refine Acc.intro _ fun y hy=>?_
   cases hy with
   | @call _ s' h=>exact ih s'.1 h⟩
abbrev Me (P:Program) (cl:List Frame):=Nat × List (Mi P cl)
def MeLt (P:Program) (cl:List Frame):Me P cl→Me P cl→Prop:=Prod.Lex (·<·) (OneLess (MiLt P cl))
theorem me_wf (P:Program) (cl:List Frame):WellFounded (MeLt P cl):=(Prod.lex ⟨_,Nat.lt_wfRel.wf⟩ ⟨_,oneLess_wf (mi_wf P cl)⟩).wf
theorem reach_of_inv {P:Program} {α:Type} {r:α→α→Prop} (wf:WellFounded r) (Inv:α→Machine→Trace→Prop) (Q:Machine→Trace→Prop)
  (h:∀μ m t,Inv μ m t→Q m t∨∃m' ops μ',stepT P m=(.next m',ops)∧r μ' μ∧Inv μ' m' (t++ops)) :
  ∀μ m t,Inv μ m t→∃N m' t',runNT P N m t=(.next m',t')∧Q m' t':=by
 intro μ
 induction μ using wf.induction with
 | _ μ ih =>
  intro m t hI
  rcases h μ m t hI with hq | ⟨m',ops,μ',hs,hr,hI'⟩
  ·exact ⟨0,m,t,rfl,hq⟩
  ·obtain ⟨N,m2,t2,h1,h2⟩:=ih μ' hr m' (t++ops) hI'
   exact ⟨N+1,m2,t2,by rw[runNT_succ_next hs];exact h1,h2⟩
end Go.Proofs.Ytpdemelchhkfaaa.Cs
