import Derived.Test.YtpdemelchhkfaaaCzA
namespace Go.Proofs.Ytpdemelchhkfaaa
namespace Cs
open Go.Conc
def g8 (P:Program) (cl:List Frame) (Post:Array Value→World→Prop) (g:Goroutine) (w:World):Prop :=
 ∃n fn x w',runN P n (lone g.frame g.callers w)=.next (lone (mkF fn x [] .run) cl w')∧Post x w'
def Aw (P:Program) (cl:List Frame) (Post:Array Value→World→Prop) (g:Goroutine) (w:World):Prop:=∀τ,(∀i q,i<w.drawn→τ i q=w.tape i q)→g8 P cl Post g (w.tp τ)
def iq (P:Program) (cl:List Frame) (s' s:Gh):Prop :=
 ¬xD cl s.1∧(∃fr cs,s.1=G fr cs)∧(∃fr cs,s'.1=G fr cs)∧∃τ,fN P s.1 (s.2.tp τ) s'.1 s'.2
section
variable {P:Program} {cl:List Frame} {Post:Array Value→World→Prop}
theorem nN {g:Goroutine} {w:World} (h:Aw P cl Post g w):Acc (iq P cl) (g,w):=by
 apply Classical.byContradiction
 intro hn
 obtain ⟨f,f0,hf⟩:=jN hn
 let d:Nat→Nat:=fun k=>(f k).2.drawn
 let t:Nat→Nat→Question→Nat:=fun k=>Classical.choose (hf k).2.2.2
 have ht:∀k,fN P (f k).1 ((f k).2.tp (t k)) (f (k+1)).1 (f (k+1)).2:=fun k=>Classical.choose_spec (hf k).2.2.2
 have hd:∀k,d k≤d (k+1):=fun k=>(ht k).1
 have hmono:∀k j,d k≤d (k+j):=fun k j=>by
  induction j with
  | zero=>exact Nat.le_refl _
  | succ j ih=>exact Nat.le_trans ih (hd (k+j))
 let T:Nat→Question→Nat:=fun i q=>open Classical in if hk:∃k,d k≤i∧i<d (k+1) then t (Classical.choose hk) i q else w.tape i q
 have hT:∀k i q,d k≤i→i<d (k+1)→T i q=t k i q:=fun k i q h1 h2=>by
  have hk:∃k,d k≤i∧i<d (k+1):=⟨k,h1,h2⟩
  show (open Classical in if hk:∃k,d k≤i∧i<d (k+1) then t (Classical.choose hk) i q else w.tape i q)=_
  rw[dif_pos hk]
  obtain ⟨h3,h4⟩:=Classical.choose_spec hk
  have:Classical.choose hk=k:=by
   rcases Nat.lt_trichotomy (Classical.choose hk) k with hlt | heq | hgt
   ·have:=hmono (Classical.choose hk+1) (k-(Classical.choose hk+1))
    rw[show Classical.choose hk+1+(k-(Classical.choose hk+1))=k by omega] at this
    omega
   ·exact heq
   ·have:=hmono (k+1) (Classical.choose hk-(k+1))
    rw[show k+1+(Classical.choose hk-(k+1))=Classical.choose hk by omega] at this
    omega
  rw[this]
 have hrun:∀k,runN P k (lone (f 0).1.frame (f 0).1.callers ((f 0).2.tp T))=.next (lone (f k).1.frame (f k).1.callers ((f k).2.tp T)):=fun k=>by
  induction k with
  | zero=>rfl
  | succ k ih =>
   have hs:=dW (τ':=T) (hf k).2.1 (hf k).2.2.1 (ht k) (fun i q h1 h2=>hT k i q h1 h2)
   rw[runN_add,ih]
   show runN P 1 _=_
   simp only[runN,hs]
 have hd0:d 0=w.drawn:=by show (f 0).2.drawn=_;rw[f0]
 obtain ⟨n,fn,x,w',h1,_⟩:=h T (fun i q hi=>by
  show (open Classical in if hk:∃k,d k≤i∧i<d (k+1) then t (Classical.choose hk) i q else w.tape i q)=_
  rw[dif_neg (fun ⟨k,h3,_⟩=>by have:=hmono 0 k;rw[Nat.zero_add] at this;omega)])
 have hfn:=hrun n
 rw[f0] at hfn
 rw[hfn] at h1
 injection h1 with h1
 obtain ⟨e1,e2,_⟩:=bE h1
 exact (hf n).1 ⟨by rw[e1];rfl,by rw[e1];rfl,e2⟩
theorem mW:∀(n:Nat) {l:List Frame},lg P l→∀{fn:FuncId} {x:Array Value} {todo:List Item} {chain:List PanicEntry} {w:World},(∃f,P.funcs[fn]? = some f)→∀{fr':Frame} {cs':List Frame} {w':World},runN P n (lone (mkF fn x todo (.panicking chain)) l w)=.next (lone fr' cs' w')→fr'.mode≠.run
 | 0,l,_,fn,x,todo,chain,w,_,fr',cs',w',h=>by
  injection h with h
  obtain ⟨rfl,_⟩:=bE h
  exact fun e=>by cases e
 | n+1,l,hl,fn,x,todo,chain,w,⟨f,hf⟩,fr',cs',w',h=>by
  have hstep:∀(cal:Frame) (rest:List Frame),l=cal :: rest→step P (lone (mkF fn x todo (.panicking chain)) l w)=.next (lone (cal.raise chain) rest w):=fun cal rest e=>by
   subst e
   refine step_lone_go ?_
   have hc:(mkF fn x todo (.panicking chain)).catches P=false:=by
    unfold Frame.catches
    have:P.funcs[(mkF fn x todo (.panicking chain)).fn]? = some f:=hf
    rw[this]
   show GStep.bare (unwind P true (mkF fn x todo (.panicking chain)) (cal :: rest) none w)=_
   unfold unwind
   simp only[mkF] at hc ⊢
   simp only[hc,Bool.false_eq_true,if_false]
   rfl
  cases hl with
  | base =>
   simp only[runN,hstep _ _ rfl] at h
   cases n with
   | zero =>
    injection h with h
    obtain ⟨rfl,_⟩:=bE h
    exact fun e=>by cases e
   | succ n =>
    obtain ⟨o,w2,hd⟩:=lU (P:=P) chain w
    exact absurd h (cz hd n _)
  | cons hf2 hl2 =>
   simp only[runN,hstep _ _ rfl] at h
   exact mW n hl2 hf2 h
theorem vT {fn:FuncId} {x:Array Value} {todo:List Item} {mode:FrameMode} {l:List Frame} (hl:lg P l) {wl:World} (hns:¬xD [ay P] (G (mkF fn x todo mode) l)) (h:kW P (G (mkF fn x todo mode) l) wl):¬g8 P [ay P] Post (G (mkF fn x todo mode) l) wl:=by
 rintro ⟨n,fn',x',w',h1,_⟩
 cases n with
 | zero =>
  injection h1 with h1
  obtain ⟨e1,e2,_⟩:=bE h1
  exact hns ⟨by rw[e1];rfl,by rw[e1];rfl,e2⟩
 | succ n =>
  rcases h with ⟨o,w2,es,h⟩ | ⟨fn2,x2,todo2,chain,w2,es,h,hf2⟩
  ·have:step P (lone (mkF fn x todo mode) l wl)=.ended o w2:=step_lone_ended (by
    have h5:stepG P true { frame:=mkF fn x todo mode,callers:=l,status:=.running,dying:=none } wl=_:=h
    rw[h5]
    rfl)
   exact cz this n _ h1
  ·have:step P (lone (mkF fn x todo mode) l wl)=.next (lone (mkF fn2 x2 todo2 (.panicking chain)) l w2):=step_lone_go (by
    have h5:stepG P true { frame:=mkF fn x todo mode,callers:=l,status:=.running,dying:=none } wl=_:=h
    rw[h5]
    rfl)
   have h1':runN P (n+1) (lone (mkF fn x todo mode) l wl)=.next (lone (mkF fn' x' [] .run) [ay P] w'):=h1
   simp only[runN,this] at h1'
   exact mW n hl hf2 h1' rfl
theorem wo {fn:FuncId} {x:Array Value} {k:List Item} (hf:dK P fn) {wl:World}:¬g8 P [ay P] Post (G (mkF fn x (.code .ret :: k) .run) [ay P]) wl:=by
 rintro ⟨n,fn',x',w',h1,_⟩
 obtain ⟨f,hfn⟩:=hf
 cases n with
 | zero =>
  injection h1 with h1
  obtain ⟨e1,_⟩:=bE h1
  have:=congrArg Frame.todo e1
  cases this
 | succ n =>
  have s1:step P (lone (mkF fn x (.code .ret :: k) .run) [ay P] wl)=.next (lone (mkF fn x (.code .ret :: k) .returning) [ay P] wl):=step_lone_go rfl
  have h1':runN P (n+1) (lone (mkF fn x (.code .ret :: k) .run) [ay P] wl)=.next (lone (mkF fn' x' [] .run) [ay P] w'):=h1
  simp only[runN,s1] at h1'
  cases n with
  | zero =>
   injection h1' with h1'
   obtain ⟨e1,_⟩:=bE h1'
   have:=congrArg Frame.mode e1
   cases this
  | succ n =>
   have s2:=bA (P:=P) (main:=true) (x:=x) (todo:=.code .ret :: k) (l:=[]) (w:=wl) (cal:=ay P) hfn
   cases hr:(results f x).run P wl with
   | halt hh w2 =>
    rw[hr] at s2
    have:∃o w3,step P (lone (mkF fn x (.code .ret :: k) .returning) [ay P] wl)=.ended o w3:=by
     cases hh <;> exact ⟨_,_,step_lone_ended (by
      have h5:stepG P true { frame:=mkF fn x (.code .ret :: k) .returning,callers:=[ay P],status:=.running,dying:=none } wl=_:=s2
      rw[h5]
      rfl)⟩
    obtain ⟨o,w3,h4⟩:=this
    exact cz h4 n _ h1'
   | ok u w2 =>
    rw[hr] at s2
    have h4:step P (lone (mkF fn x (.code .ret :: k) .returning) [ay P] wl)=.next (lone ((ay P).finish u) [] w2):=step_lone_go (by
     have h5:stepG P true { frame:=mkF fn x (.code .ret :: k) .returning,callers:=[ay P],status:=.running,dying:=none } wl=_:=s2
     rw[h5]
     rfl)
    simp only[runN,h4] at h1'
    cases n with
    | zero =>
     injection h1' with h1'
     obtain ⟨_,e2,_⟩:=bE h1'
     cases e2
    | succ n =>
     obtain ⟨o,w3,h5⟩:=jZ (P:=P) u w2
     exact cz h5 n _ h1'
theorem kO {fn:FuncId} {x:Array Value} {w:World} {c:Code} (h:c.wp P (fun e a w'=>e=.normal∧a.defers=[]∧Post a.tmps w') ⟨x,[]⟩ w):g8 P cl Post (G (mkF fn x [.code c] .run) cl) w:=by
 obtain ⟨e,a',w',⟨rfl,h1,h2⟩,harr⟩:=h (mkF fn #[] [] .run) [] cl
 obtain ⟨n,hn⟩:=(show Steps P (lone ((mkF fn #[] [] .run).at ⟨x,[]⟩ [.code c]) cl w) (lone ((mkF fn #[] [] .run).at a' []) cl w') from harr)
 obtain ⟨T,D⟩:=a'
 cases h1
 exact ⟨n,fn,T,w',hn,h2⟩
end
variable [Fns]
theorem CR.AE {P:Program} {E:Env} {cl c l l':List Frame} (hcl:lg P cl) (h:CR P E cl c l l'):lg P l:=by
 induction h with
 | base=>exact hcl
 | cons hf _ _ _ ih=>exact .cons hf ih
structure dA (P:Program) (Post:Array Value→World→Prop) (fB:FuncId) (c:List Frame) (ct:Code) (E:Env) (gl:Goroutine) (wl:World) (g:Goroutine) (w:World):Prop where
 gt:GT P E fB [ay P] c ct gl g
 wr:WR P E wl w
 big:Fns.G≤wl.heap.size
 live:Aw P [ay P] Post gl wl
section
variable {P:Program} {Post:Array Value→World→Prop} {fB:FuncId} {c:List Frame} {ct:Code} {E:Env} {gl g:Goroutine} {wl w:World}
theorem dA.other {w2:World} (h:dA P Post fB c ct E gl wl g w) (hw:∀b x,E b=some x→w2.heap[x.1]? = w.heap[x.1]?):dA P Post fB c ct E gl wl g w2:=by
 refine ⟨h.gt,⟨fun b q s e=>?_,fun b q s e=>?_,h.wr.inj,h.wr.low⟩,h.big,h.live⟩
 ·obtain ⟨h1,ol,o,h2,h3,h4⟩:=h.wr.own b q s e
  exact ⟨h1,ol,o,h2,(hw b _ e).trans h3,h4⟩
 ·obtain ⟨x,T,y,T',fr,h1,h2,h3,h4⟩:=h.wr.shared b q s e
  exact ⟨x,T,y,T',fr,h1,h2,(hw b _ e).trans h3,h4⟩
theorem dA.running (h:dA P Post fB c ct E gl wl g w):g.status=.running:=by
 cases h.gt with
 | top=>rfl
 | sub _ _ _ _ h =>
  obtain ⟨fn,x,y,todo,mode,l,l',rfl,rfl,_⟩:=h.ex
  rfl
theorem dA.start (hf:dK P fB) {x y:Array Value} (hx:LR E x y) (hw:WR P E wl w) (hb:Fns.G≤wl.heap.size) {d d':Code} (ht:codeOk P d=true) (hd:TC ct d d') (hr:∀τ,g8 P [ay P] Post (G (mkF fB x [.code d] .run) [ay P]) (wl.tp τ)) :
  dA P Post fB c ct E (G (mkF fB x [.code d] .run) [ay P]) wl (G (mkF fB y [.code d'] .run) c) w:=⟨.top hf hx (ax (show aK P (.code d)=true from ht) rfl) (.cut hd),hw,hb,fun τ _=>hr τ⟩
theorem dA.step (hG:P.globals.size≤Fns.G) (hC:bu P) (main:Bool) (h:dA P Post fB c ct E gl wl g w) (hns:¬tj [ay P] gl) :
  ∃E' gl' wl' g' w' es,stepG P main g w=.go g' w' es∧dA P Post fB c ct E' gl' wl' g' w'∧iq P [ay P] (gl',wl') (gl,wl)∧(∀e ∈ es,ef E' e)∧FC E E' w w':=by
 have hb:cT P E (wl.tp (aL wl w)) w:=⟨h.wr.tp _,eO _ _,h.big⟩
 have form:∀{E:Env} {gl g:Goroutine},GT P E fB [ay P] c ct gl g→∃fn x todo mode l,gl=G (mkF fn x todo mode) l∧dK P fn∧lg P l:=fun {E gl g} hg=>by
  cases hg with
  | top hf _ _ _=>exact ⟨_,_,_,_,_,rfl,hf,.base⟩
  | sub hf _ _ _ h =>
   obtain ⟨fn,x,y,todo,mode,l,l',rfl,rfl,hf2,_,_,_,hcr⟩:=h.ex
   exact ⟨_,_,_,_,_,rfl,hf2,hcr.AE (.cons hf .base)⟩
 obtain ⟨fn,x,todo,mode,l,e0,hf0,hp⟩:=form h.gt
 rcases qd (main:=main) hG hC h.gt hb hns with ⟨gl',wl',esl,E',g',w',es,s1,s2,hg,hB,hev,hfc,hloc⟩ | hlost | ⟨fn2,x2,k2,e2⟩
 ·have f1:∃fr cs,gl=G fr cs:=⟨_,_,e0⟩
  have f2:∃fr cs,gl'=G fr cs:=by
   obtain ⟨_,_,_,_,_,e,_⟩:=form hg
   exact ⟨_,_,e⟩
  refine ⟨E',gl',wl',g',w',es,s2,⟨hg,hB.wr,hB.big,fun τ hτ=>?_⟩,⟨h.gt.BQ,f1,f2,_,hloc⟩,hev,hfc⟩
  obtain ⟨l1,l2,l3⟩:=hloc
  have l1':wl.drawn≤wl'.drawn:=l1
  have l2':wl'.tape=aL wl w:=l2
  rw[l2'] at hτ
  obtain ⟨n,fn,x,w2,h1,h3⟩:=h.live τ (fun i q hi=>by rw[hτ i q (by omega),bK q hi])
  cases n with
  | zero =>
   injection h1 with h1
   obtain ⟨e1,e2,_⟩:=bE h1
   exact absurd ⟨by rw[e1];rfl,by rw[e1];rfl,e2⟩ h.gt.BQ
  | succ n =>
   have hs:=dW (P:=P) (s:=(gl,wl)) (s':=(gl',wl')) (τ:=aL wl w) (τ':=τ) f1 f2 ⟨l1,l2,l3⟩ (fun i q h4 h5=>hτ i q h5)
   simp only[runN,hs] at h1
   exact ⟨n,fn,x,w2,h1,h3⟩
 ·subst e0
  exact absurd (h.live (aL wl w) (fun i q hi=>bK q hi)) (vT hp h.gt.BQ hlost)
 ·have e3:=e0
  rw[e2] at e3
  have hfn:fn2=fn:=congrArg (fun g=>g.frame.fn) e3
  subst hfn
  have hl:=h.live (aL wl w) (fun i q hi=>bK q hi)
  rw[e2] at hl
  exact absurd hl (wo hf0)
theorem dA.stop (h:dA P Post fB c ct E gl wl g w) (hs:tj [ay P] gl):∃x y wl2,g=G (mkF fB y [.code ct] .run) c∧LR E x y∧WR P E wl2 w∧Post x wl2∧Fns.G≤wl2.heap.size:=by
 obtain ⟨n,fn',x',w',h1,h2⟩:=h.live (aL wl w) (fun i q hi=>bK q hi)
 obtain ⟨q1,q2,q3⟩:=hs
 cases h.gt with
 | sub hf hx ht _ h3 =>
  exfalso
  obtain ⟨fn,x,y,todo,mode,l,l',rfl,rfl,hf2,_,_,_,hcr⟩:=h3.ex
  have:=hcr.len.1
  have q3':l=[ay P]:=q3
  rw[q3'] at this
  simp at this
 | @top x y todo todo' hf hx ht hr =>
  have q1':todo=[.code .skip]:=q1
  subst q1'
  have ht':todo'=[.code ct]:=by
   cases hr with
   | cut hd=>cases hd;rfl
   | cons i hk=>cases hk
  subst ht'
  cases n with
  | zero =>
   injection h1 with h1
   obtain ⟨e1,_,_⟩:=bE h1
   have:=congrArg Frame.todo e1
   cases this
  | succ n =>
  have s0:_root_.Go.step P (lone (mkF fB x [.code .skip] .run) [ay P] (wl.tp (aL wl w)))=.next (lone (mkF fB x [] .run) [ay P] (wl.tp (aL wl w))):=step_lone_go rfl
  have h1:runN P (n+1) (lone (mkF fB x [.code .skip] .run) [ay P] (wl.tp (aL wl w)))=.next (lone (mkF fn' x' [] .run) [ay P] w'):=h1
  simp only[runN,s0] at h1
  cases n with
  | zero =>
   injection h1 with h1
   obtain ⟨e1,_,e3⟩:=bE h1
   have e4:x=x':=congrArg Frame.tmps e1
   subst e4
   rw[←e3] at h2
   exact ⟨x,y,_,rfl,hx,h.wr.tp _,h2,h.big⟩
  | succ n =>
   exfalso
   obtain ⟨f,hfn⟩:=hf
   have s1:_root_.Go.step P (lone (mkF fB x [] .run) [ay P] (wl.tp (aL wl w)))=.next (lone (mkF fB x [] .returning) [ay P] (wl.tp (aL wl w))):=step_lone_go rfl
   have h1':runN P (n+1) (lone (mkF fB x [] .run) [ay P] (wl.tp (aL wl w)))=.next (lone (mkF fn' x' [] .run) [ay P] w'):=h1
   simp only[runN,s1] at h1'
   have hl:∀n,runN P n (lone (mkF fB x [] .returning) [ay P] (wl.tp (aL wl w)))=.next (lone (mkF fn' x' [] .run) [ay P] w')→False:=fun n hn=>by
    cases n with
    | zero =>
     injection hn with hn
     obtain ⟨e1,_⟩:=bE hn
     have:=congrArg Frame.mode e1
     cases this
    | succ n =>
     have s2:=bA (P:=P) (main:=true) (x:=x) (todo:=[]) (l:=[]) (w:=wl.tp (aL wl w)) (cal:=ay P) hfn
     cases hr:(results f x).run P (wl.tp (aL wl w)) with
     | halt hh w2 =>
      rw[hr] at s2
      have:∃o w3,_root_.Go.step P (lone (mkF fB x [] .returning) [ay P] (wl.tp (aL wl w)))=.ended o w3:=by
       cases hh <;> exact ⟨_,_,step_lone_ended (by
        have h5:stepG P true { frame:=mkF fB x [] .returning,callers:=[ay P],status:=.running,dying:=none } (wl.tp (aL wl w))=_:=s2
        rw[h5]
        rfl)⟩
      obtain ⟨o,w3,h4⟩:=this
      exact cz h4 n _ hn
     | ok u w2 =>
      rw[hr] at s2
      have h4:_root_.Go.step P (lone (mkF fB x [] .returning) [ay P] (wl.tp (aL wl w)))=.next (lone ((ay P).finish u) [] w2):=step_lone_go (by
       have h5:stepG P true { frame:=mkF fB x [] .returning,callers:=[ay P],status:=.running,dying:=none } (wl.tp (aL wl w))=_:=s2
       rw[h5]
       rfl)
      simp only[runN,h4] at hn
      cases n with
      | zero =>
       injection hn with hn
       obtain ⟨_,e2,_⟩:=bE hn
       cases e2
      | succ n =>
       obtain ⟨o,w3,h5⟩:=jZ (P:=P) u w2
       exact cz h5 n _ hn
   exact hl n h1'
end
section
variable {P:Program} {Sn:Nat→Prop}
inductive oB (P:Program):Option { s:Gh // Acc (iq P [ay P]) s }→Option { s:Gh // Acc (iq P [ay P]) s }→Prop
 | on {s s':{ s:Gh // Acc (iq P [ay P]) s }} (h:iq P [ay P] s'.1 s.1):oB P (some s') (some s)
omit [Fns] in
theorem vH (P:Program):WellFounded (oB P):=by
 have key:∀s:Gh,Acc (iq P [ay P]) s→∀hs,Acc (oB P) (some ⟨s,hs⟩):=fun s h=>by
  induction h with
  | intro s _ ih=>exact fun hs=>Acc.intro _ fun y hy=>by cases hy with | on h=>exact ih _ h _
 refine ⟨fun a=>?_⟩
 cases a with
 | none=>exact Acc.intro _ fun y hy=>by cases hy
 | some s=>exact key s.1 s.2 s.2
theorem gz {Post:Array Value→World→Prop} (hG:P.globals.size≤Fns.G) (hC:bu P) {gs:Array Goroutine} {t:Trace} {q:Nat→Nat} {d:Nat} {g:Goroutine} {w:World} {sl:Option (Nat × Nat)} {fB:FuncId} {c:List Frame} {ct:Code} {E:Env} {gl:Goroutine} {wl:World} (hn:∀b x,E b=some x→¬Sn x.1) (hsn:∀b,Sn b→b<w.heap.size) (h0:gs[0]? = some g) (hin:dA P Post fB c ct E gl wl g w) (hq:Qs P Sn gs t q d w.heap.size) :
  ∃N gs' w' sl' t' q' E' x y wl2,runNT P N (crowd gs w sl) t=(.next (crowd gs' w' sl'),t')∧gs'.size=gs.size∧gs'[0]? = some (G (mkF fB y [.code ct] .run) c)∧Post x wl2∧LR E' x y∧WR P E' wl2 w'∧Fns.G≤wl2.heap.size∧FC E E' w w'∧Qs P Sn gs' t' q' d w'.heap.size:=by
 have hnn:∀{E':Env} {w':World},FC E E' w w'→∀b x,E' b=some x→¬Sn x.1:=fun {E' w'} hf b x hx hs=>by
  obtain ⟨c,s,o⟩:=x
  rcases hf.fresh b c s o hx with h1 | ⟨h1,_⟩
  ·exact hn b _ h1 hs
  ·exact absurd (hsn c hs) (by omega)
 let Q:Nat→Goroutine→World→Prop:=fun d' g' w'=>d'=d∧∃E' x y wl2,g'=G (mkF fB y [.code ct] .run) c∧Post x wl2∧LR E' x y∧WR P E' wl2 w'∧Fns.G≤wl2.heap.size∧FC E E' w w'
 let I:Option { s:Gh // Acc (iq P [ay P]) s }→Nat→Goroutine→World→Prop:=fun μ d' g' w'=>match μ with
  | some s=>d'=d∧∃E',dA P Post fB c ct E' s.1.1 s.1.2 g' w'∧FC E E' w w'
  | none=>False
 have fcAt:∀{E':Env} {w':World} (k:Nat),FC E E' w w'→FC E E' w (w'.at k):=fun k h=>⟨h.le,h.os,h.tape,h.output,h.size,h.keep,h.fresh⟩
 have fcAt':∀{E':Env} {w':World} (k:Nat),FC E E' w (w'.at k)→FC E E' w w':=fun k h=>⟨h.le,h.os,h.tape,h.output,h.size,h.keep,h.fresh⟩
 have a1:∀μ d' g' w' k,I μ d' g' w'→I μ d' g' (w'.at k):=fun μ d' g' w' k h=>by
  cases μ with
  | none=>exact h
  | some s =>
   obtain ⟨h0,E',h1,h2⟩:=h
   exact ⟨h0,E',h1.other fun _ _ _=>rfl,fcAt k h2⟩
 have a2:∀d' g' w' k,Q d' g' (w'.at k)→Q d' g' w':=fun d' g' w' k h=>by
  obtain ⟨h1,E',x,y,wl2,e,k1,k2,k3,k5,k4⟩:=h
  exact ⟨h1,E',x,y,wl2,e,k1,k2,k3.keep fun _ _ _ _ _=>rfl,k5,fcAt' k k4⟩
 have a3:∀μ d' g' w',I μ d' g' w'→g'.status=.running:=fun μ d' g' w' h=>by
  cases μ with
  | none=>exact h.elim
  | some s =>
   obtain ⟨_,E',h1,h2⟩:=h
   exact h1.running
 have a4:∀μ d' g' w',I μ d' g' w'→Q d' g' w'∨∃g2 w2 es μ',stepG P true g' w'=.go g2 w2 es∧oB P μ' μ∧I μ' (deafBehind d' es) g2 w2∧w'.heap.size≤w2.heap.size∧∀e ∈ es,EvS Sn w2.heap.size e:=fun μ d' g' w' h=>by
  cases μ with
  | none=>exact h.elim
  | some s =>
   obtain ⟨rfl,E1,hin1,hf1⟩:=h
   by_cases hs:tj [ay P] s.1.1
   ·obtain ⟨x,y,wl2,e,k1,k2,k3,k4⟩:=hin1.stop hs
    exact .inl ⟨rfl,E1,x,y,wl2,e,k3,k1,k2,k4,hf1⟩
   ·obtain ⟨E',gl',wl',g2,w2,es,hst,hin',haft,hev,hfc⟩:=hin1.step hG hC true hs
    have hok:=fun e he=>mV (Sn:=Sn) hin'.wr (hnn (hf1.trans hfc)) (hev e he)
    exact .inr ⟨g2,w2,es,some ⟨(gl',wl'),nN hin'.live⟩,hst,.on haft,⟨deafBehind_still (fun e he=>(hok e he).2) _,E',hin',hf1.trans hfc⟩,hfc.size,fun e he=>(hok e he).1⟩
 obtain ⟨N,gs',w',sl',t',q',d',g',h1,h2,h3,⟨rfl,E',x,y,wl2,rfl,k1,k2,k3,k4,k6⟩,h5⟩:=iD (P:=P) (vH P) I Q a1 a2 a3 a4 (μ:=some ⟨(gl,wl),nN hin.live⟩) (sl:=sl) h0 ⟨rfl,E,hin,FC.refl E w⟩ hq
 exact ⟨N,gs',w',sl',t',q',E',x,y,wl2,h1,h2,h3,k1,k2,k3,k4,k6,h5⟩
end
end Cs
end Go.Proofs.Ytpdemelchhkfaaa
