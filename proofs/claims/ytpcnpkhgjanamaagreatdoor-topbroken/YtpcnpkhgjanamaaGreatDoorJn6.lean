import Derived.Test.YtpcnpkhgjanamaaGreatDoorPz
import Derived.Conc.Beside
import Derived.Conc.CrowdComm
import Derived.Test.YtpcnpkhgjanamaaGreatDoorJn5
namespace Go.Proofs.YtpcnpkhgjanamaaGreatDoor
open Go renaming Value→R2,World→V8,Goroutine→Wi,Program→Wr,Frame→WG,stepG→Xe,FuncId→Xg,step_lone_go→YE,Trace→Y7,step_lone_ended→ZF
open _root_.Classical renaming choose→WK,choose_spec→Y4
open Go.Conc renaming served→Xr,getElem?_append_cases→Xw
namespace Cs
open Go.Conc
abbrev Gh:=Wi×V8
def Stop(cl:List WG)(g:Wi):Prop:=g.frame.mode=.returning∧g.callers=cl
def Reach(P:Wr)(cl:List WG)(Post:R2→V8→Prop)(g:Wi)(w:V8):Prop:=
 ∃n fr w' v,runN P n (lone g.frame g.callers w)=.next (lone fr cl w')∧fr.leaving P w' (.returned v)∧Post v w'
def Live(P:Wr)(cl:List WG)(Post:R2→V8→Prop)(g:Wi)(w:V8):Prop:=∀τ,(∀i q,i<w.drawn→τ i q=w.tape i q)→Reach P cl Post g (w.tp τ)
def After(P:Wr)(cl:List WG)(s' s:Gh):Prop:=
 ¬Stop cl s.1∧(∃fr cs,s.1=G fr cs)∧(∃fr cs,s'.1=G fr cs)∧∃τ,ot P s.1 (s.2.tp τ) s'.1 s'.2
section
variable{P:Wr}{cl:List WG}{Post:R2→V8→Prop}
theorem jc{s s':Gh}{τ τ':Nat→Question→Nat}(h1:∃fr cs,s.1=G fr cs)(h2:∃fr cs,s'.1=G fr cs)(h:ot P s.1 (s.2.tp τ) s'.1 s'.2)(ht:∀i q,s.2.drawn≤i→i<s'.2.drawn→τ' i q=τ i q):step P (lone s.1.frame s.1.callers (s.2.tp τ'))=.next (lone s'.1.frame s'.1.callers (s'.2.tp τ')):=by
 obtain⟨fr,cs,e1⟩:=h1;obtain⟨fr',cs',e2⟩:=h2;obtain⟨_,_,h3⟩:=h;obtain⟨es,h4⟩:=h3 τ' ht;rw[e1,e2]at h4;rw[e1,e2];refine YE ?_;have h5:Xe P true { frame:=fr,callers:=cs,status:=.running,dying:=none } (s.2.tp τ')=.go (G fr' cs') (s'.2.tp τ') es:=h4;show(Xe P true { frame:=fr,callers:=cs,status:=.running,dying:=none } (s.2.tp τ')).bare=_;rw[h5]
 rfl
theorem qc{α:Type}{r:α→α→Prop}{a:α}(h:¬Acc r a):∃f:Nat→α,f 0=a∧∀n,r (f (n+1)) (f n):=by
 have nx:∀x:{ x // ¬Acc r x },∃y:{ x // ¬Acc r x },r y.1 x.1:=fun x=>by
  apply XB;intro hn;refine x.2 (Acc.intro _ fun y hy=>?_);apply XB;intro hy';exact hn ⟨⟨y,hy'⟩,hy⟩
 let g:{ x // ¬Acc r x }→{ x // ¬Acc r x }:=fun x=>WK (nx x)
 let f:Nat→{ x // ¬Acc r x }:=fun n=>Nat.rec ⟨a,h⟩ (fun _ x=>g x) n
 exact⟨fun n=>(f n).1,rfl,fun n=>Y4 (nx (f n))⟩
theorem iM{g:Wi}{w:V8}(h:Live P cl Post g w):Acc (After P cl) (g,w):=by
 apply XB;intro hn;obtain⟨f,f0,hf⟩:=qc hn
 let d:Nat→Nat:=fun k=>(f k).2.drawn
 let t:Nat→Nat→Question→Nat:=fun k=>WK (hf k).2.2.2
 have ht:∀k,ot P (f k).1 ((f k).2.tp (t k)) (f (k+1)).1 (f (k+1)).2:=fun k=>Y4 (hf k).2.2.2;have hd:∀k,d k≤d (k+1):=fun k=>(ht k).1
 have c:∀k j,d k≤d (k+j):=fun k j=>by
  induction j with
  |zero=>exact R3 _
  |succ j ih=>exact Ws ih (hd (k+j))
 let T:Nat→Question→Nat:=fun i q=>open Classical in if hk:∃k,d k≤i∧i<d (k+1)then t (WK hk) i q else w.tape i q
 have hT:∀k i q,d k≤i→i<d (k+1)→T i q=t k i q:=fun k i q h1 h2=>by
  have hk:∃k,d k≤i∧i<d (k+1):=⟨k,h1,h2⟩
  show(open Classical in if hk:∃k,d k≤i∧i<d (k+1)then t (WK hk) i q else w.tape i q)=_;rw[dif_pos hk];obtain⟨h3,h4⟩:=Y4 hk
  have:WK hk=k:=by
   rcases Nat.lt_trichotomy (WK hk) k with s|m|o
   ·have:=c (WK hk+1) (k-(WK hk+1))
    rw[show WK hk+1+(k-(WK hk+1))=k by omega]at this;omega
   ·exact m
   ·have:=c (k+1) (WK hk-(k+1))
    rw[show k+1+(WK hk-(k+1))=WK hk by omega]at this;omega
  rw[this]
 have e:∀k,runN P k (lone (f 0).1.frame (f 0).1.callers ((f 0).2.tp T))=.next (lone (f k).1.frame (f k).1.callers ((f k).2.tp T)):=fun k=>by
  induction k with
  |zero=>rfl
  |succ k ih=>
   have hs:=jc (τ':=T) (hf k).2.1 (hf k).2.2.1 (ht k) (fun i q h1 h2=>hT k i q h1 h2);rw[runN_add,ih];show runN P 1 _=_;simp only[runN,hs]
 have u:d 0=w.drawn:=by show(f 0).2.drawn=_;rw[f0]
 obtain⟨n,fr,w',v,h1,h2,_⟩:=h T (fun i q hi=>by
  show(open Classical in if hk:∃k,d k≤i∧i<d (k+1)then t (WK hk) i q else w.tape i q)=_;rw[dif_neg (fun⟨k,h3,_⟩=>by have:=c 0 k;rw[WN]at this;omega)])
 have l:=e n;rw[f0]at l;rw[l]at h1;injection h1 with h1
 have e1:(f n).1.frame=fr∧(f n).1.callers=cl:=by
  unfold lone at h1;injection h1 with hw hg hr
  have:({ frame:=(f n).1.frame,callers:=(f n).1.callers,status:=.running,dying:=none }:Wi)={ frame:=fr,callers:=cl,status:=.running,dying:=none }:=by
   have:=XI (fun a=>a[0]?) hg;simpa using this
  injection this with a b;exact⟨a,b⟩
 exact(hf n).1 ⟨by rw[e1.1];exact h2.1,e1.2⟩
end
def aK (P : Wr) : WG := { fn := P.funcs.size, tmps := #[], todo := [.call default false "fmt's door" #[]], defers := [], mode := .run, kind := .normal }
theorem Jb : Extern.next "fmt's door" = none := by kernel_rfl
theorem GF : ("fmt's door".startsWith "fmt's door") = true := by kernel_rfl
section
variable{P:Wr}{Post:R2→V8→Prop}
theorem qF(v:R2)(w:V8):∃o w',step P (lone ((aK P).finish v) [] w)=.ended o w':=by
 have h : Xe P true (G ((aK P).finish v) []) w = .ended (.stuck ("no extern row " ++ "fmt's door") (((aK P).finish v).pos P)) w := by
  simp only[G,Xe,stepG.exec,aK,Frame.finish,Jb,Option.elim_none]
 exact⟨_,_,ZF (by
  have h5:Xe P true { frame:=(aK P).finish v,callers:=[],status:=.running,dying:=none } w=_:=h;rw[h5]
  rfl)⟩
theorem uc(chain:List PanicEntry)(w:V8):∃o w',step P (lone ((aK P).raise chain) [] w)=.ended o w':=by
 have hc:((aK P).raise chain).catches P=true:=by
  unfold Frame.catches;have:P.funcs[((aK P).raise chain).fn]?=none:=by simp[aK,Frame.raise]
  rw[this];show ("fmt's door".startsWith "fmt's door") = true
  exact GF
 have h:∃o w' es,Xe P true (G ((aK P).raise chain) []) w=.ended o w' es:=by
  have e:Xe P true (G ((aK P).raise chain) []) w=unwind P true ((aK P).raise chain) [] none w:=rfl;rw[e];unfold unwind;simp only[aK,Frame.raise]at hc⊢;simp only[hc,YI];exact⟨_,_,_,rfl⟩
 obtain⟨o,w',es,h⟩:=h
 exact⟨_,_,ZF (by
  have h5:Xe P true { frame:=(aK P).raise chain,callers:=[],status:=.running,dying:=none } w=_:=h;rw[h5]
  rfl)⟩
theorem eE{m:Machine}{o:Outcome}{w:V8}(h:step P m=.ended o w):∀n m',runN P (n+1) m≠.next m':=fun n m' e=>by
 simp only[runN,h]at e;cases e
theorem cM{fr fr':WG}{cs cs':List WG}{w w':V8}(h:lone fr cs w=lone fr' cs' w'):fr=fr'∧cs=cs'∧w=w':=by
 unfold lone at h;injection h with hw hg hr
 have:({ frame:=fr,callers:=cs,status:=.running,dying:=none }:Wi)={ frame:=fr',callers:=cs',status:=.running,dying:=none }:=by
  have:=XI (fun a=>a[0]?) hg;simpa using this
 injection this with a b;exact⟨a,b,hw⟩
inductive wG(P:Wr):List WG→Prop
 |base:wG P [aK P]
 |cons {fn:Xg} {x:Array R2} {todo:List Item} {l:List WG} (hf:∃f,P.funcs[fn]?=some f) (h:wG P l):wG P (aL fn x todo .run :: l)
theorem vY:∀(n:Nat) {l:List WG},wG P l→∀{fn:Xg} {x:Array R2} {todo:List Item} {chain:List PanicEntry} {w:V8},(∃f,P.funcs[fn]?=some f)→∀{fr':WG} {cs':List WG} {w':V8},runN P n (lone (aL fn x todo (.panicking chain)) l w)=.next (lone fr' cs' w')→fr'.mode≠.returning
 |0,l,_,fn,x,todo,chain,w,_,fr',cs',w',h=>by
  injection h with h;obtain⟨rfl,_⟩:=cM h;exact fun e=>by cases e
 |n+1,l,hl,fn,x,todo,chain,w,⟨f,hf⟩,fr',cs',w',h=>by
  have a:∀(cal:WG) (rest:List WG),l=cal :: rest→step P (lone (aL fn x todo (.panicking chain)) l w)=.next (lone (cal.raise chain) rest w):=fun cal rest e=>by
   subst e;refine YE ?_
   have hc:(aL fn x todo (.panicking chain)).catches P=false:=by
    unfold Frame.catches;have:P.funcs[(aL fn x todo (.panicking chain)).fn]?=some f:=hf;rw[this]
   show GStep.bare (unwind P true (aL fn x todo (.panicking chain)) (cal :: rest) none w)=_;unfold unwind;simp only[aL]at hc⊢;simp only[hc,WV,X9]
   rfl
  cases hl with
  |base=>
   simp only[runN,a _ _ rfl]at h;cases n with
   |zero=>
    injection h with h;obtain⟨rfl,_⟩:=cM h;exact fun e=>by cases e
   |succ n=>
    obtain⟨o,w2,hd⟩:=uc (P:=P) chain w;exact absurd h (eE hd n _)
  |cons hf2 hl2=>
   simp only[runN,a _ _ rfl]at h;exact vY n hl2 hf2 h
variable[aT]
theorem CR.Ux{E:Env}{c l l':List WG}(h:CR P E [aK P] c l l'):wG P l:=by
 induction h with
 |base=>exact .base
 |cons hf _ _ _ ih=>exact .cons hf ih
theorem Js{E:Env}{c:List WG}{gl g:Wi}{wl:V8}(hg:GR P E [aK P] c gl g)(hns:¬Stop [aK P] gl)(h:Ad P gl wl):¬Reach P [aK P] Post gl wl:=by
 rintro⟨n,fr,w',v,h1,h2,_⟩;obtain⟨fn,x,y,todo,mode,l,l',rfl,rfl,hf,hx,ht,hm,b⟩:=hg.ex;cases n with
 |zero=>
  injection h1 with h1;obtain⟨e1,e2,_⟩:=cM h1;exact hns ⟨by rw[e1];exact h2.1,e2⟩
 |succ n=>
  rcases h with⟨o,w2,es,h⟩|⟨qA,x2,todo2,chain,w2,es,h,d⟩
  ·have:step P (lone (aL fn x todo mode) l wl)=.ended o w2:=ZF (by
    have h5:Xe P true { frame:=aL fn x todo mode,callers:=l,status:=.running,dying:=none } wl=_:=h;rw[h5]
    rfl)
   exact eE this n _ h1
  ·have:step P (lone (aL fn x todo mode) l wl)=.next (lone (aL qA x2 todo2 (.panicking chain)) l w2):=YE (by
    have h5:Xe P true { frame:=aL fn x todo mode,callers:=l,status:=.running,dying:=none } wl=_:=h;rw[h5]
    rfl)
   have a:runN P (n+1) (lone (aL fn x todo mode) l wl)=.next (lone fr [aK P] w'):=h1
   simp only[runN,this]at a;exact vY n b.Ux d a h2.1
theorem xK{E:Env}{c:List WG}{gl g:Wi}{wl:V8}(hg:GR P E [aK P] c gl g)(hs:Stop [aK P] gl)(h:Reach P [aK P] Post gl wl):∃v,gl.frame.leaving P wl (.returned v)∧Post v wl:=by
 obtain⟨n,fr,w',v,h1,h2,h3⟩:=h;obtain⟨fn,x,y,todo,mode,l,l',rfl,rfl,hf,hx,ht,hm,j⟩:=hg.ex;cases n with
 |zero=>
  injection h1 with h1;obtain⟨rfl,_,rfl⟩:=cM h1;exact⟨v,h2,h3⟩
 |succ n=>
  exfalso;obtain⟨e,hl⟩:=hs;have b:mode=.returning:=e;have d:l=[aK P]:=hl;subst b d;obtain⟨f,i⟩:=hf;have a:runN P (n+1) (lone (aL fn x todo .returning) [aK P] wl)=.next (lone fr [aK P] w'):=h1
  have s1:=di (P:=P) (main:=true) (x:=x) (todo:=todo) (l:=[]) (w:=wl) (cal:=aK P) i;cases hr:(results f x).run P wl with
  |halt hh w2=>
   rw[hr]at s1
   have:∃o w3,step P (lone (aL fn x todo .returning) [aK P] wl)=.ended o w3:=by
    cases hh<;>exact⟨_,_,ZF (by
     have h5:Xe P true { frame:=aL fn x todo .returning,callers:=[aK P],status:=.running,dying:=none } wl=_:=s1;rw[h5]
     rfl)⟩
   obtain⟨o,w3,h4⟩:=this;exact eE h4 n _ a
  |ok u w2=>
   rw[hr]at s1
   have h4:step P (lone (aL fn x todo .returning) [aK P] wl)=.next (lone ((aK P).finish u) [] w2):=YE (by
    have h5:Xe P true { frame:=aL fn x todo .returning,callers:=[aK P],status:=.running,dying:=none } wl=_:=s1;rw[h5]
    rfl)
   simp only[runN,h4]at a;cases n with
   |zero=>
    injection a with a;obtain⟨_,e2,_⟩:=cM a;cases e2
   |succ n=>
    obtain⟨o,w3,h5⟩:=qF (P:=P) u w2;exact eE h5 n _ a
end
end Cs
namespace Cs
open Go.Conc
variable[aT]
structure bH(P:Wr)(Post:R2→V8→Prop)(c:List WG)(E:Env)(gl:Wi)(wl:V8)(g:Wi)(w:V8):Prop where
 gr:GR P E [aK P] c gl g
 wr:WR P E wl w
 gF:aT.G≤wl.heap.size
 live:Live P [aK P] Post gl wl
section
variable{P:Wr}{Post:R2→V8→Prop}{c:List WG}{E:Env}{gl g:Wi}{wl w:V8}
theorem bH.other{w2:V8}(h:bH P Post c E gl wl g w)(hw:∀b x,E b=some x→w2.heap[x.1]?=w.heap[x.1]?):bH P Post c E gl wl g w2:=by
 refine⟨h.gr,⟨fun b q s e=>?_,fun b q s e=>?_,h.wr.inj,h.wr.low⟩,h.gF,h.live⟩
 ·obtain⟨h1,ol,o,h2,h3,h4⟩:=h.wr.own b q s e
  exact⟨h1,ol,o,h2,(hw b _ e).trans h3,h4⟩
 ·obtain⟨x,T,y,T',fr,h1,h2,h3,h4⟩:=h.wr.shared b q s e
  exact⟨x,T,y,T',fr,h1,h2,(hw b _ e).trans h3,h4⟩
theorem bH.running(h:bH P Post c E gl wl g w):g.status=.running:=by
 obtain⟨fn,x,y,todo,mode,l,l',rfl,rfl,_⟩:=h.gr.ex
 rfl
theorem bH.start(hC:cP P){f:Xg}(hf:aT.ok f=true){x y:Array R2}(hx:LR E x y)(hw:WR P E wl w)(hb:aT.G≤wl.heap.size)(hc:∀τ,Calls P f x (wl.tp τ) fun e w'=>∃v,e=.returned v∧Post v w'):
  bH P Post c E (G (Frame.enter P f x .normal) [aK P]) wl (G (Frame.enter P f y .normal) c) w:=by
 obtain⟨x',y',todo,e1,e2,e3,e4⟩:=vP hC hf hx;refine⟨?_,hw,hb,fun τ _=>?_⟩
 ·rw[e1,e2]
  exact .mk' (hC.SD hf) e3 e4 (.inl rfl) .base
 ·obtain⟨e,w',fr,⟨v,rfl,hp⟩,⟨n,hn⟩,_,hl⟩:=hc τ [aK P]
  exact⟨n,fr,w',v,hn,hl,hp⟩
def bx(wl w:V8):Nat→Question→Nat:=fun i q=>if i<wl.drawn then wl.tape i q else w.tape (i-wl.drawn+w.drawn) q
omit [aT] in
theorem oD(wl w:V8):TA (wl.tp (bx wl w)) w:=fun i q=>by
 show bx wl w (wl.drawn+i) q=_;unfold bx;rw[V9 vom,show wl.drawn+i-wl.drawn+w.drawn=w.drawn+i by omega]
omit [aT] in
theorem dX{wl w:V8}{i:Nat}(q:Question)(h:i<wl.drawn):bx wl w i q=wl.tape i q:=by
 unfold bx;rw[Wc h]
theorem WR.tp(h:WR P E wl w)(τ:Nat→Question→Nat):WR P E (wl.tp τ) w:=⟨h.own,h.shared,h.inj,h.low⟩
theorem bH.step2(hG:P.globals.size≤aT.G)(hC:cP P)(main:Bool)(h:bH P Post c E gl wl g w)(hns:¬Stop [aK P] gl):
  ∃E' gl' wl' g' w' es,Xe P main g w=.go g' w' es∧bH P Post c E' gl' wl' g' w'∧After P [aK P] (gl',wl') (gl,wl)∧(∀e∈es,jH E' e)∧FC E E' w w'∧gJ g'=gJ g:=by
 have hb:fZ P E (wl.tp (bx wl w)) w:=⟨h.wr.tp _,oD _ _,h.gF⟩
 rcases uI (main:=main) hG hC h.gr hb hns with⟨gl',wl',esl,E',g',w',es,s1,s2,hg,hB,j,b,f,a⟩|d
 ·have f1:∃fr cs,gl=G fr cs:=by
   obtain⟨fn,x,y,todo,mode,l,l',e,_⟩:=h.gr.ex;exact⟨_,_,e⟩
  have f2:∃fr cs,gl'=G fr cs:=by
   obtain⟨fn,x,y,todo,mode,l,l',e,_⟩:=hg.ex;exact⟨_,_,e⟩
  refine⟨E',gl',wl',g',w',es,s2,⟨hg,hB.wr,hB.gF,fun τ hτ=>?_⟩,⟨hns,f1,f2,_,a⟩,j,f,b⟩;obtain⟨l1,l2,l3⟩:=a;have l1':wl.drawn≤wl'.drawn:=l1;have l2':wl'.tape=bx wl w:=l2;rw[l2']at hτ;obtain⟨n,fr,w2,v,h1,h2,h3⟩:=h.live τ (fun i q hi=>by rw[hτ i q vom,dX q hi]);cases n with
  |zero=>
   injection h1 with h1;obtain⟨e1,e2,_⟩:=cM h1;exact absurd ⟨by rw[e1];exact h2.1,e2⟩ hns
  |succ n=>
   have hs:=jc (P:=P) (s:=(gl,wl)) (s':=(gl',wl')) (τ:=bx wl w) (τ':=τ) f1 f2 ⟨l1,l2,l3⟩ (fun i q h4 h5=>hτ i q h5);simp only[runN,hs]at h1;exact⟨n,fr,w2,v,h1,h2,h3⟩
 ·exact absurd (h.live (bx wl w) (fun i q hi=>dX q hi)) (Js h.gr hns d)
theorem bH.step(hG:P.globals.size≤aT.G)(hC:cP P)(main:Bool)(h:bH P Post c E gl wl g w)(hns:¬Stop [aK P] gl):
  ∃E' gl' wl' g' w' es,Xe P main g w=.go g' w' es∧bH P Post c E' gl' wl' g' w'∧After P [aK P] (gl',wl') (gl,wl)∧(∀e∈es,jH E' e)∧FC E E' w w':=by
 obtain⟨E',gl',wl',g',w',es,h1,h2,h3,h4,h5,_⟩:=h.step2 hG hC main hns;exact⟨E',gl',wl',g',w',es,h1,h2,h3,h4,h5⟩
theorem bH.ret(main:Bool){cal:WG}{rest:List WG}(h:bH P Post (cal :: rest) E gl wl g w)(hs:Stop [aK P] gl):
  ∃v wl2 E' v' w' es,Post v wl2∧VR E' v v'∧WR P E' wl2 w'∧Xe P main g w=.go (G (cal.finish v') rest) w' es∧(∀e∈es,jH E' e)∧FC E E' w w':=by
 have hb:fZ P E (wl.tp (bx wl w)) w:=⟨h.wr.tp _,oD _ _,h.gF⟩
 obtain⟨v,hl,hp⟩:=xK h.gr hs (h.live (bx wl w) (fun i q hi=>dX q hi));obtain⟨fn,x,y,todo,mode,l,l',rfl,rfl,hf,hx,ht,hm,n⟩:=h.gr.ex;obtain⟨u,t⟩:=hs;have k:mode=.returning:=u;have d:l=[aK P]:=t;subst k d;obtain⟨_,_,_,f,z,hr⟩:=hl;have j:P.funcs[fn]?=some f:=z;have A:(results f x).run P (wl.tp (bx wl w))=.ok v (wl.tp (bx wl w)):=hr;have c:=(iy (P:=P) f hx).run _ w #[] hb;rw[A]at c;obtain⟨E',v',w',es',k1,k2,k3,k4,k5⟩:=c
 have o:l'=cal :: rest:=by
  have m:∀{a b:List WG},CR P E [aK P] (cal :: rest) a b→a=[aK P]→b=cal :: rest:=fun {a b} hab e=>by
   cases hab with
   |base=>rfl
   |cons hf2 hx2 ht2 h2=>
    exfalso;injection e with e1 e2;have:=XI Frame.todo e1;simp only[aL,aK]at this;rw[this]at ht2;simp[pY,aZ]at ht2
  exact m n rfl
 subst o;have s2:=di (P:=P) (main:=main) (x:=y) (todo:=todo) (l:=rest) (w:=w) (cal:=cal) j;have s:(results f y).run P w=.ok v' w':=by rw[←Sem.runT_fst P _ w #[],k1]
 rw[s,k1]at s2;dsimp only[GStep.after]at s2;refine⟨v,_,E',v',w',_,hp,k2,k3.wr,s2,fun e he=>?_,k5⟩;simp only[Array.append_empty,Array.empty_append]at he;exact k4 e (mem_seen he)
end
end Cs
namespace Cs
open Go.Conc
def Kt(t:Y7):Prop:=∃k,k≤t.size∧(∀g,t.deaf g k=0)∧∀i x,k≤i→t[i]?=some x→∀m,x.act=.mark m→Neutral m
theorem Kt.append{t u:Y7}(h:Kt t)(hu:Wordless u):Kt (t++u):=by
 obtain⟨k,h1,h2,h3⟩:=h;refine⟨k,vso,fun g=>by rw[deaf_old h1,h2],fun i x hi hx m hm=>?_⟩;rcases Xw hx with⟨_,a⟩|⟨_,b⟩
 ·exact h3 i x hi a m hm
 ·exact hu x b m hm
theorem Kt.deaf{t:Y7}(h:Kt t)(g:Nat):Deaf t g=0:=by
 obtain⟨k,h1,h2,h3⟩:=h
 have key:∀n,k+n≤t.size→t.deaf g (k+n)=0:=fun n=>by
  induction n with
  |zero=>exact fun _=>h2 g
  |succ n ih=>
   intro hn;have a:k+n<t.size:=vom;rw[show k+(n+1)=k+n+1 by omega,deaf_succ (Wl a),ih vom];have hm:=h3 (k+n) _ vom (Wl a);unfold deafStep;split
   ·rename_i e;exact absurd (hm _ e) (fun h=>h.ne_disable rfl)
   ·split<;>rfl
   ·rfl
 have:=key (t.size-k) vom
 rwa [show k+(t.size-k)=t.size by omega]at this
theorem Kt.later{t u:Y7}(h:Kt t)(hu:Wordless u)(g j:Nat)(hj:j≤u.size):(t++u).deaf g (t.size+j)=0:=by
 have h1:Kt (t++u.extract 0 j):=h.append fun op hop=>hu op (by
  obtain⟨i,hi,rfl⟩:=Array.mem_iff_getElem.1 hop;simp only[Array.getElem_extract];exact Array.getElem_mem _)
 have h2:=h1.deaf g;unfold Deaf at h2;have e0:u.extract 0 j++u.extract j u.size=u:=vso;have e:t++u=(t++u.extract 0 j)++u.extract j u.size:=by rw[Yw,e0]
 rw[e,deaf_old vso];have hs:(t++u.extract 0 j).size=t.size+j:=vso;rw[hs]at h2;exact h2
structure TI(t:Y7)(own:_root_.Go.Loc→Option Nat)(act:Nat→Prop):Prop where
 clean:∀said,¬Race said t
 mine:∀l g,own l=some g→Perm t g l
 read:∀l,own l=none→∀g,act g→∀i a,touchAt t i=some a→a.loc=l→a.write=true→Knows t g i
 words:Kt t
section
variable{t u:Y7}{own:_root_.Go.Loc→Option Nat}{act:Nat→Prop}
def Tc(own:_root_.Go.Loc→Option Nat)(g:Nat)(op:MemOp):Prop:=op.g=g∧∀b,op.act.touch? = some b→own b.loc=some g∨(own b.loc=none∧b.write=false)
theorem TI.step{g:Nat}(h:TI t own act)(hg:act g)(hu:∀op∈u,Tc own g op)(hw:Wordless u):TI (t++u) own act:=by
 refine⟨fun said=>noRace_append (h.clean said) (fun op hop=>(hu op hop).1) fun i a ha op hop b hb hc=>?_,fun l g' hl=>?_,fun l hl g' hg' i a ha hal haw=>?_,h.words.append hw⟩
 ·rcases(hu op hop).2 b hb with h1|⟨h1,h2⟩
  ·exact h.mine b.loc g h1 i a ha hc.1
  ·rcases hc.2.2.1 with h3|h3
   ·exact h.read b.loc h1 g hg i a ha hc.1 h3
   ·rw[h2]at h3;cases h3
 ·refine(h.mine l g' hl).app fun op hop b hb e=>?_
  rcases(hu op hop).2 b hb with h1|⟨h1,_⟩
  ·rw[e,hl]at h1
   cases h1;exact(hu op hop).1
  ·rw[e,hl]at h1;cases h1
 ·obtain⟨x,hx,c⟩:=touch_of ha
  rcases Xw hx with⟨hi,d⟩|⟨_,f⟩
  ·exact(h.read l hl g' hg' i a (by rw[touchAt_of d];exact c) hal haw).app u
  ·rcases(hu x f).2 a c with h1|⟨_,h2⟩
   ·rw[hal,hl]at h1;cases h1
   ·rw[h2]at haw;cases haw
theorem TI.mute(h:TI t own act)(hn:∀op∈u,op.act.touch? = none)(hw:Wordless u):TI (t++u) own act:=by
 refine⟨fun said=>?_,fun l g' hl=>?_,fun l hl g' hg' i a ha hal haw=>?_,h.words.append hw⟩
 ·rintro⟨i,j,g,⟨a,b,ha,hb,hc⟩,n1,n2⟩
  obtain⟨x,hx,c⟩:=touch_of ha;obtain⟨y,hy,f⟩:=touch_of hb;rcases Xw hy with⟨hj,n⟩|⟨_,k⟩
  ·have hi:i<t.size:=Nat.lt_trans g hj
   have d:t[i]?=some x:=by rw[←getElem?_append_old (u:=u) hi];exact hx
   exact h.clean said ⟨i,j,g,⟨a,b,by simp[Trace.act?,d,c],by simp[Trace.act?,n,f],hc⟩,fun e=>n1 (hb_app u e),fun e=>n2 (hb_app u e)⟩
  ·rw[hn y k]at f;cases f
 ·exact(h.mine l g' hl).app fun op hop b hb _=>by rw[hn op hop]at hb;cases hb
 ·obtain⟨x,hx,c⟩:=touch_of ha
  rcases Xw hx with⟨hi,d⟩|⟨_,m⟩
  ·exact(h.read l hl g' hg' i a (by rw[touchAt_of d];exact c) hal haw).app u
  ·rw[hn x m]at c;cases c
theorem TI.iB{own':_root_.Go.Loc→Option Nat}(h:TI t own act)(hm:∀l g,own' l=some g→own l=some g∨(∀i a,touchAt t i=some a→a.loc≠l)∨Perm t g l)(hr:∀l,own' l=none→own l=none∨∀i a,touchAt t i=some a→a.loc≠l):TI t own' act:=by
 refine⟨h.clean,fun l g hl=>?_,fun l hl g hg i a ha hal haw=>?_,h.words⟩
 ·rcases hm l g hl with h1|h1|h1
  ·exact h.mine l g h1
  ·exact fun i a ha hal=>absurd hal (h1 i a ha)
  ·exact h1
 ·rcases hr l hl with h1|h1
  ·exact h.read l h1 g hg i a ha hal haw
  ·exact absurd hal (h1 i a ha)
theorem Knows.over{g g' i p q:Nat}{x y:MemOp}(hw:∀g,t.deaf g p=0∧t.deaf g q=0)(h:Knows (t.extract 0 p) g i)(hx:t[p]?=some x)(hg:x.g=g)(hy:t[q]?=some y)(hg':y.g=g')(hn:Notices t p q):Knows t g' i:=by
 have hp:p<t.size:=lt_size_of_getElem? hx;obtain⟨j,z,hz,b,hb⟩:=h
 have a:j<p:=by
  have:=lt_size_of_getElem? hz;simp at this;omega
 have e:t.extract 0 p++t.extract p t.size=t:=vso
 have c:t[j]?=some z:=by
  have:=getElem?_append_old (u:=t.extract p t.size) (lt_size_of_getElem? hz);rw[e]at this;rw[this];exact hz
 have d:Before t i j:=by
  have:=hb.app (t.extract p t.size);rw[e]at this;exact this
 refine⟨q,y,hy,hg',.inr ?_⟩;have h1:HappensBefore t j p:=hb_po a c hx (b.trans hg.symm);have h2:HappensBefore t p q:=Relation.TransGen.single (.inr ⟨hn,⟨x.g,by simp[Trace.g?,hx],(hw _).1⟩,⟨y.g,by simp[Trace.g?,hy],(hw _).2⟩⟩);exact(d.hb h1).trans h2
end
section
variable{α:Type}{r:α→α→Prop}
inductive gZ(r:α→α→Prop):List α→List α→Prop
 |head {a b:α} (l:List α) (h:r a b):gZ r (a :: l) (b :: l)
 |tail (a:α) {l l':List α} (h:gZ r l l'):gZ r (a :: l) (a :: l')
theorem zO{a:α}(ha:Acc r a):∀{l:List α},Acc (gZ r) l→Acc (gZ r) (a :: l):=by
 induction ha with
 |intro a _ iha=>
  intro l hl
  induction hl with
  |intro l hl ihl=>
   refine Acc.intro _ fun y hy=>?_;cases hy with
   |head _ h=>exact iha _ h (Acc.intro _ hl)
   |tail _ h=>exact ihl _ h
theorem Dl(wf:WellFounded r):WellFounded (gZ r):=⟨fun l=>by
 induction l with
 |nil=>exact Acc.intro _ fun y hy=>by cases hy
 |cons a l ih=>exact zO (wf.apply a) ih⟩
theorem sP{ι:Type}(f f':ι→α):∀{l:List ι} {i:ι},l.Nodup→i∈l→r (f' i) (f i)→(∀j,j≠i→f' j=f j)→gZ r (l.map f') (l.map f)
 |[],_,_,h,_,_=>by cases h
 |a :: l,i,hn,hi,hr,ho=>by
  have hna:a∉l:=(List.nodup_cons.1 hn).1;by_cases e:a=i
  ·subst e
   have:l.map f'=l.map f:=List.map_congr_left fun j hj=>ho j (fun e=>hna (e▸hj));rw[Y9,Y9,this];exact .head _ hr
  ·have b:i∈l:=by
    rcases Xl.1 hi with h|h
    ·exact absurd h.symm e
    ·exact h
   rw[Y9,Y9,ho a e];exact .tail _ (sP f f' (List.nodup_cons.1 hn).2 b hr ho)
end
abbrev Mi(P:Wr)(cl:List WG):=Nat ⊕ { s:Gh // Acc (After P cl) s }
inductive wO(P:Wr)(cl:List WG):Mi P cl→Mi P cl→Prop
 |walk {m n:Nat} (h:m<n):wO P cl (.inl m) (.inl n)
 |call {s s':{ s:Gh // Acc (After P cl) s }} (h:After P cl s'.1 s.1):wO P cl (.inr s') (.inr s)
theorem Tk(P:Wr)(cl:List WG):WellFounded (wO P cl):=⟨fun a=>by
 cases a with
 |inl n=>
  induction n using Nat.strongRecOn with
  |_ n ih=>
   refine Acc.intro _ fun y hy=>?_;cases hy with
   |walk h=>exact ih _ h
 |inr s=>
  obtain⟨s,hs⟩:=s
  induction hs with
  |intro s hs ih=>
   refine Acc.intro _ fun y hy=>?_;cases hy with
   |@call _ s' h=>exact ih s'.1 h⟩
abbrev Me(P:Wr)(cl:List WG):=Nat×List (Mi P cl)
def uK(P:Wr)(cl:List WG):Me P cl→Me P cl→Prop:=Prod.Lex (·<·) (gZ (wO P cl))
theorem Tl(P:Wr)(cl:List WG):WellFounded (uK P cl):=(Prod.lex ⟨_,Nat.lt_wfRel.wf⟩ ⟨_,Dl (Tk P cl)⟩).wf
theorem kJ{P:Wr}{α:Type}{r:α→α→Prop}(wf:WellFounded r)(Inv:α→Machine→Y7→Prop)(Q:Machine→Y7→Prop)
  (h:∀μ m t,Inv μ m t→Q m t∨∃m' ops μ',stepT P m=(.next m',ops)∧r μ' μ∧Inv μ' m' (t++ops)) :
  ∀μ m t,Inv μ m t→∃N m' t',runNT P N m t=(.next m',t')∧Q m' t':=by
 intro μ
 induction μ using wf.induction with
 |_ μ ih=>
  intro m t hI;rcases h μ m t hI with hq|⟨m',ops,μ',hs,hr,a⟩
  ·exact⟨0,m,t,rfl,hq⟩
  ·obtain⟨N,m2,t2,h1,h2⟩:=ih μ' hr m' (t++ops) a
   exact⟨N+1,m2,t2,by rw[runNT_succ_next hs];exact h1,h2⟩
end Cs
namespace Cs
open Go.Conc
open Go.ConcN (sumTo upd sumTo_upd upd_ne upd_same sumTo_congr)
structure fX where
 n:Nat
 K:Nat
 S0:Nat
 N1:Nat
 H0:Nat→Option Obj
 C1:Nat
 C2:Nat
 Fd:Nat
 TF:TypeId
 z1:R2
 z2:R2
 MV:R2
 zs2:R2
 fB:Xg
 ar:Nat→Array R2
 Ua:Os
 KS:Array (Nat×ByteArray)
 ex:Nat→Prop:=fun _=>False
def fX.Fix(c:fX)(q:Nat):Prop:=q<c.N1∧q≠c.Fd∧q≠c.C1∧q≠c.C2∧¬c.ex q
structure fX.Ok(c:fX)(w:V8):Prop where
 fix:∀q,c.Fix q→w.heap[q]?=c.H0 q
 fd:∃cs,w.heap[c.Fd]?=some (.cells cs c.TF (0,0))∧cs.size=c.K
 gF:c.N1≤w.heap.size
 env:w.os=c.Ua∧w.output=c.KS
def fX.R(c:fX):V8→V8→Prop:=fun _ w=>c.Ok w
structure DQ(c:fX)(w w':V8)(es:Array Event):Prop where
 heap:w'.heap=w.heap
 os:w'.os=w.os
 tape:w'.tape=w.tape
 output:w'.output=w.output
 evs:∀e∈es,∃a:Addr,e=⟨.cell a,false,false⟩∧c.Fix a.block
def Walk(P:Wr)(c:fX)(main:Bool)(Stp:Wi→Prop)(m:Nat)(g:Wi)(w:V8):Prop:=Goes P main c.R (DQ c) (fun g _=>g.status=.running∧Stp g) m g w
def EC(g:Wi):Prop:=∃fr cs,g=G fr cs
variable[aT]
structure yq(P:Wr)(c:fX)(Post:Nat→R2→V8→Prop)where
 Rec:Wi→Prop
 Jl:Wi→Prop
 SW:Nat→Wi→Prop
 Qa:Nat→R2→Wi→Prop
 Px:Nat→Wi→Prop
 zM:Nat→Wi→Prop
 Ov:Wi→Prop
 tW:Nat→Wi→Prop
 OF:Wi→Prop
 PW:R2→Prop
 n1:1≤c.n
 k1:1≤c.K
 s1:1≤c.S0
 d1:c.C1<c.N1∧c.C2<c.N1∧c.Fd<c.N1∧c.C1≠c.C2∧c.C1≠c.Fd∧c.C2≠c.Fd
 Lu:∀g,Rec g→EC g∧∀w,Xe P false g w=.comm g #[rcase c.C1 c.z1] true (.recv true) w #[]
 Gb:∀g,Rec g→∀k,k<c.K→∀w,c.Ok w→∃m,Walk P c false (SW k) m (Xr g (.tuple #[.int .i64 (k:Nat),.bool true])) w
 EG:∀g,Rec g→∀w,c.Ok w→∃m,Walk P c false Jl m (Xr g (.tuple #[c.z1,.bool false])) w
 cal:∀k g,SW k g→k<c.K→∃cal rest,g=G (Frame.enter P c.fB (c.ar k) .normal) (cal :: rest)∧∀v,PW v→∀w,c.Ok w→∃m,Walk P c false (Qa k v) m (G (cal.finish v) rest) w
 Vr:∀k v g,Qa k v g→k<c.K→PW v→EC g∧∃g',(∀w,c.Ok w→Xe P false g w=.go g' (w.setCell ⟨c.Fd,k,none⟩ v) #[⟨.cell ⟨c.Fd,k,none⟩,true,false⟩])∧g'.status=.running∧∀w,c.Ok w→∃m,Walk P c false Rec m g' w
 LX:∀g,Jl g→EC g∧(∀w,Xe P false g w=.comm g #[scase c.C2 (.bool true) c.zs2] true .send w #[])∧∃q,QuitsIn P q (Xr g undef)
 Vw:∀j g,Px j g→j<c.n→EC g∧∃g' ch,(∀w,Xe P true g w=.spawn g' ch w #[])∧(∀w,c.Ok w→∃m,Walk P c false Rec m ch w)∧∀w,c.Ok w→∃m,Walk P c true (fun g=>if j+1<c.n then Px (j+1) g else zM 0 g) m g' w
 Qk:∀k g,zM k g→k<c.K→EC g∧(∀w,Xe P true g w=.comm g #[scase c.C1 (.int .i64 (k:Nat)) c.MV] true .send w #[])∧∀w,c.Ok w→∃m,Walk P c true (fun g=>if k+1<c.K then zM (k+1) g else Ov g) m (Xr g undef) w
 VB:∀g,Ov g→EC g∧mayWake P g=true∧∃g',(∀w s r,w.heap[c.C1]?=some (.chan 0 #[] false s r false)→Xe P true g w=.go g' { w with heap:=w.heap.setIfInBounds c.C1 (.chan 0 #[] true s r false) } #[⟨.obj c.C1,false,true⟩,⟨.obj c.C1,true,true⟩])∧g'.status=.running∧∀w,c.Ok w→∃m,Walk P c true (tW 0) m g' w
 Qy:∀r g,tW r g→r<c.n→EC g∧(∀w,Xe P true g w=.comm g #[rcase c.C2 c.z2] true (.recv false) w #[])∧∀w,c.Ok w→∃m,Walk P c true (fun g=>if r+1<c.n then tW (r+1) g else OF g) m (Xr g (.bool true)) w
 Uq:aT.ok c.fB=true
 Un:∀k,k<c.K→∀w,c.Ok w→∃(E:Env) (wl:V8) (x:Array R2),(∀b q s o,E b=some (q,s,o)→o=false∧c.Fix q)∧LR E x (c.ar k)∧WR P E wl w∧aT.G≤wl.heap.size∧∀τ,Calls P c.fB x (wl.tp τ) fun e w'=>∃v,e=.returned v∧Post k v w'
 SV:∀k v wl (E:Env) v',Post k v wl→VR E v v'→PW v'
inductive Z0
 |sp (j m:Nat)
 |sd (k m:Nat)
 |wQ (k:Nat)
 |cl (m:Nat)
 |rc (r m:Nat)
 |xF (r:Nat)
inductive ZW(P:Wr)
 |st (m:Nat)
 |wt
 |aw
 |pr (k m:Nat)
 |ca (k:Nat) (E:Env) (s:{ s:Gh // Acc (After P [aK P]) s })
 |po (k:Nat) (v:R2) (m:Nat)
 |fi (m:Nat)
 |fw
 |lv (q:Nat)
section
variable{P:Wr}{c:fX}{Post:Nat→R2→V8→Prop}(S:yq P c Post)
def gz(c:fX):Z0→Nat
 |.sp j _=>j
 |_=>c.n
def sent(c:fX):Z0→Nat
 |.sp _ _=>0
 |.sd k _=>k
 |.wQ k=>k
 |_=>c.K
def closed:Z0→Bool
 |.rc _ _|.xF _=>true
 |_=>false
def rcvd:Z0→Nat
 |.rc r _=>r
 |.xF r=>r
 |_=>0
def Ga:Z0→Wi→V8→Prop
 |.sp j m,g,w=>j<c.n∧Walk P c true (S.Px j) m g w
 |.sd k m,g,w=>k<c.K∧Walk P c true (S.zM k) m g w
 |.wQ k,g,_=>k<c.K∧∃g',S.zM k g'∧g=parked g' #[scase c.C1 (.int .i64 (k:Nat)) c.MV] .send
 |.cl m,g,w=>Walk P c true S.Ov m g w
 |.rc r m,g,w=>r≤c.n∧Walk P c true (fun g=>if r<c.n then S.tW r g else S.OF g) m g w
 |.xF r,g,_=>r<c.n∧∃g',S.tW r g'∧g=parked g' #[rcase c.C2 c.z2] (.recv false)
def BV:ZW P→Wi→V8→Prop
 |.st m,g,w=>Walk P c false S.Rec m g w
 |.wt,g,_=>∃g',S.Rec g'∧g=parked g' #[rcase c.C1 c.z1] (.recv true)
 |.aw,g,_=>∃g',S.Rec g'∧g={ parked g' #[rcase c.C1 c.z1] (.recv true)with status:=.running }
 |.pr k m,g,w=>k<c.K∧Walk P c false (S.SW k) m g w
 |.ca k E s,g,w=>k<c.K∧∃cal rest,bH P (Post k) (cal :: rest) E s.1.1 s.1.2 g w∧∀v,S.PW v→∀w,c.Ok w→∃m,Walk P c false (S.Qa k v) m (G (cal.finish v) rest) w
 |.po k v m,g,w=>k<c.K∧S.PW v∧Walk P c false (S.Qa k v) m g w
 |.fi m,g,w=>Walk P c false S.Jl m g w
 |.fw,g,_=>∃g',S.Jl g'∧g=parked g' #[scase c.C2 (.bool true) c.zs2] .send
 |.lv q,g,_=>QuitsIn P q g
def TL:Z0→Mi P [aK P]
 |.sp _ m|.sd _ m|.cl m|.rc _ m=>.inl m
 |_=>.inl 0
def OB:ZW P→Mi P [aK P]
 |.st m|.pr _ m|.po _ _ m|.fi m|.lv m=>.inl m
 |.ca _ _ s=>.inr s
 |_=>.inl 0
def p0(c:fX):Z0→Nat
 |.sp j _=>4*c.n+4+10*c.K+3+10*(c.n-j)
 |.sd k _=>4*c.n+4+10*(c.K-k)+2
 |.wQ k=>4*c.n+4+10*(c.K-k)+1
 |.cl _=>4*c.n+4
 |.rc r _=>4*(c.n-r)+2
 |.xF r=>4*(c.n-r)+1
def pW:ZW P→Nat
 |.lv _=>0
 |.fw=>1
 |.fi _=>2
 |.aw=>3
 |.wt=>4
 |.st _=>5
 |.po _ _ _=>6
 |.ca _ _ _=>7
 |.pr _ _=>8
def holds:ZW P→Nat→Prop
 |.pr k _,j=>k=j
 |.ca k _ _,j=>k=j
 |.po k _ _,j=>k=j
 |_,_=>False
def gV:ZW P→Nat→Prop
 |.ca _ E _,q=>∃b s,E b=some (q,s,true)
 |_,_=>False
def tq(P:Wr)(c:fX)(Post:Nat→R2→V8→Prop)(k:Nat)(v:R2)(RS:Nat→Prop)(w:V8):Prop:=
 ∃(E:Env) (vl:R2) (wl:V8),Post k vl wl∧VR E vl v∧WR P E wl w∧∀b q s o,E b=some (q,s,o)→(o=false∧c.Fix q)∨RS q
end
end Cs
namespace Cs
open Go.Conc
def cJ{α:Type}(f:Nat→α)(i:Nat)(x:α):Nat→α:=fun j=>if j=i then x else f j
theorem ay{α:Type}(f:Nat→α)(i:Nat)(x:α):cJ f i x i=x:=by unfold cJ;rw[Wc rfl]
theorem aG{α:Type}(f:Nat→α){i j:Nat}(x:α)(h:j≠i):cJ f i x j=f j:=by unfold cJ;rw[V9 h]
variable[aT]
section
variable{P:Wr}{c:fX}{Post:Nat→R2→V8→Prop}
theorem WR.keep{E:Env}{wl w w':V8}(h:WR P E wl w)(hk:∀b q s o,E b=some (q,s,o)→w'.heap[q]?=w.heap[q]?):WR P E wl w':=by
 refine⟨fun b q s e=>?_,fun b q s e=>?_,h.inj,h.low⟩
 ·obtain⟨h1,ol,o,h2,h3,h4⟩:=h.own b q s e
  exact⟨h1,ol,o,h2,(hk b q s _ e).trans h3,h4⟩
 ·obtain⟨x,T,y,T',fr,h1,h2,h3,h4⟩:=h.shared b q s e
  exact⟨x,T,y,T',fr,h1,h2,(hk b q s _ e).trans h3,h4⟩
theorem tq.keep{k:Nat}{v:R2}{RS:Nat→Prop}{w w':V8}(h:tq P c Post k v RS w)(hk:∀q,c.Fix q∨RS q→w'.heap[q]?=w.heap[q]?):tq P c Post k v RS w':=by
 obtain⟨E,vl,wl,h1,h2,h3,h4⟩:=h;refine⟨E,vl,wl,h1,h2,h3.keep fun b q s o e=>hk q ?_,h4⟩;rcases h4 b q s o e with⟨_,h5⟩|h5
 ·exact .inl h5
 ·exact .inr h5
structure Mem(P:Wr)(c:fX)(Post:Nat→R2→V8→Prop)(zs:Nat→ZW P)(top snt:Nat)(bU:Nat→Option Nat)(RS:Nat→Nat→Prop)(blk:Nat→Option Nat)(w:V8):Prop where
 ok:c.Ok w
 Pa:∀k,snt≤k→bU k=none
 OS:∀k,k<snt→∃i,c.S0≤i∧i<top∧bU k=some i
 KM:∀i k,c.S0≤i→i<top→holds (zs i) k→k<snt∧bU k=some i
 R6:∀k i,bU k=some i→¬holds (zs i) k→∃v,w.cell? ⟨c.Fd,k,none⟩=some v∧tq P c Post k v (RS k) w
 Rp:∀i k v m,c.S0≤i→i<top→zs i=.po k v m→tq P c Post k v (RS k) w
 En:∀i q,c.S0≤i→i<top→gV (zs i) q→c.N1≤q∧q<w.heap.size∧blk q=some i
 LV:∀k q,RS k q→c.N1≤q∧q<w.heap.size
 Qe:∀i k q,c.S0≤i→i<top→gV (zs i) q→¬RS k q
 PJ:∀q i,blk q=some i→c.N1≤q∧q<w.heap.size
variable{zs zs':Nat→ZW P}{top snt:Nat}{bU:Nat→Option Nat}{RS:Nat→Nat→Prop}{blk:Nat→Option Nat}{w w':V8}
omit [aT] in
theorem fX.Ok.keep(h:c.Ok w)(hf:∀q,c.Fix q→w'.heap[q]?=w.heap[q]?)(hd:w'.heap[c.Fd]?=w.heap[c.Fd]?)(hs:w.heap.size≤w'.heap.size)(he:w'.os=w.os∧w'.output=w.output):c.Ok w':=
 ⟨fun q hq=>(hf q hq).trans (h.fix q hq),by rw[hd];exact h.fd,Ws h.gF hs,he.1.trans h.env.1,he.2.trans h.env.2⟩
theorem Mem.iB(h:Mem P c Post zs top snt bU RS blk w)(hk:∀q,q≠c.C1→q≠c.C2→w'.heap[q]?=w.heap[q]?)(hse:w'.heap.size=w.heap.size∧w'.os=w.os∧w'.output=w.output)(hC:c.Fd≠c.C1∧c.Fd≠c.C2∧c.C1<c.N1∧c.C2<c.N1)
  (hh:∀i k,c.S0≤i→i<top→(holds (zs' i) k↔holds (zs i) k)) (hu:∀i q,c.S0≤i→i<top→gV (zs' i) q→gV (zs i) q) (hp:∀i k v m,c.S0≤i→i<top→zs' i=.po k v m→∃m',zs i=.po k v m'):Mem P c Post zs' top snt bU RS blk w':=by
 obtain⟨hs,he⟩:=hse;have f:∀q,c.Fix q→w'.heap[q]?=w.heap[q]?:=fun q hq=>hk q hq.2.2.1 hq.2.2.2.1;have d:w'.heap[c.Fd]?=w.heap[c.Fd]?:=hk _ hC.1 hC.2.1;have b:∀q,c.N1≤q→w'.heap[q]?=w.heap[q]?:=fun q hq=>hk q vom vom
 have a:∀k v,tq P c Post k v (RS k) w→tq P c Post k v (RS k) w':=fun k v hr=>hr.keep fun q hq=>by
  rcases hq with hq|hq
  ·exact f q hq
  ·exact b q (h.LV k q hq).1
 have g:∀k i,bU k=some i→c.S0≤i∧i<top:=fun k i e=>by
  by_cases hks:k<snt
  ·obtain⟨i',h1,h2,h3⟩:=h.OS k hks
   rw[e]at h3;cases h3;exact⟨h1,h2⟩
  ·rw[h.Pa k vom]at e;cases e
 refine⟨h.ok.keep f d vom he,h.Pa,h.OS,fun i k h1 h2 h3=>h.KM i k h1 h2 ((hh i k h1 h2).1 h3),fun k i h1 h2=>?_,fun i k v m h1 h2 h3=>?_,fun i q h1 h2 h3=>?_,fun k q h1=>?_,fun i k q h1 h2 h3=>h.Qe i k q h1 h2 (hu i q h1 h2 h3),fun q i h1=>?_⟩
 ·obtain⟨ha,hb⟩:=g k i h1
  obtain⟨v,h3,h4⟩:=h.R6 k i h1 (fun e=>h2 ((hh i k ha hb).2 e));refine⟨v,?_,a k v h4⟩;rw[←h3];unfold World.cell?;rw[d]
 ·obtain⟨m',h4⟩:=hp i k v m h1 h2 h3
  exact a k v (h.Rp i k v m' h1 h2 h4)
 ·rw[hs];exact h.En i q h1 h2 (hu i q h1 h2 h3)
 ·rw[hs];exact h.LV k q h1
 ·rw[hs];exact h.PJ q i h1
theorem Mem.call(h:Mem P c Post zs top snt bU RS blk w){i k:Nat}(hi:c.S0≤i)(hit:i<top){E E':Env}{s':{ s:Gh // Acc (After P [aK P]) s }}(hz:(∀q,gV (zs i) q↔∃b s,E b=some (q,s,true)))(hzk:∀j,holds (zs i) j↔k=j)(hf:FC E E' w w')(hsh:∀b q s,E b=some (q,s,false)→c.Fix q)(hC:c.Fd<c.N1):
  ∃blk',Mem P c Post (cJ zs i (.ca k E' s')) top snt bU RS blk' w'∧(∀q,blk' q=blk q∨(w.heap.size≤q∧blk' q=some i))∧(∀b q s,E' b=some (q,s,true)→blk' q=some i)∧∀b q s,E' b=some (q,s,false)→c.Fix q:=by
 have a:∀b q s,E b=some (q,s,true)→c.N1≤q∧q<w.heap.size∧blk q=some i:=fun b q s e=>h.En i q hi hit ((hz q).2 ⟨b,s,e⟩);have g:∀q,q<w.heap.size→(∀b s,E b≠some (q,s,true))→w'.heap[q]?=w.heap[q]?:=hf.keep;have d:∀q,q<c.N1→w'.heap[q]?=w.heap[q]?:=fun q hq=>g q (WE hq h.ok.gF) (fun b s e=>by have:=(a b q s e).1;omega)
 have l:∀j v,tq P c Post j v (RS j) w→tq P c Post j v (RS j) w':=fun j v hr=>hr.keep fun q hq=>by
  rcases hq with hq|hq
  ·exact d q hq.1
  ·exact g q (h.LV j q hq).2 (fun b s e=>h.Qe i j q hi hit ((hz q).2 ⟨b,s,e⟩) hq)
 have f:∀b q s,E' b=some (q,s,true)→(∃b s,E b=some (q,s,true))∨w.heap.size≤q∧q<w'.heap.size:=fun b q s e=>by
  rcases hf.fresh b q s true e with h1|⟨h1,h2,_⟩
  ·exact .inl ⟨b,s,h1⟩
  ·exact .inr ⟨h1,h2⟩
 classical
 refine⟨fun q=>if ∃b s,E' b=some (q,s,true)then some i else blk q,⟨h.ok.keep (fun q hq=>d q hq.1) (d _ hC) hf.size ⟨hf.os,hf.output⟩,h.Pa,h.OS,fun j k' h1 h2 h3=>?_,fun k' j h1 h2=>?_,fun j k' v m h1 h2 h3=>?_,fun j q h1 h2 h3=>?_,fun k' q h1=>?_,fun j k' q h1 h2 h3=>?_,fun q j h1=>?_⟩,fun q=>?_,fun b q s e=>?_,fun b q s e=>?_⟩
 ·by_cases e:j=i
  ·subst e
   rw[ay]at h3;exact h.KM j k' h1 h2 ((hzk k').2 h3)
  ·rw[aG _ _ e]at h3
   exact h.KM j k' h1 h2 h3
 ·have o:¬holds (zs j) k':=fun e=>h2 (by
   by_cases ej:j=i
   ·subst ej
    rw[ay];exact(hzk k').1 e
   ·rw[aG _ _ ej];exact e)
  obtain⟨v,h3,h4⟩:=h.R6 k' j h1 o;refine⟨v,?_,l k' v h4⟩;rw[←h3];unfold World.cell?;rw[d _ hC]
 ·by_cases e:j=i
  ·subst e;rw[ay]at h3;cases h3
  ·rw[aG _ _ e]at h3
   exact l k' v (h.Rp j k' v m h1 h2 h3)
 ·by_cases e:j=i
  ·subst e
   rw[ay]at h3;obtain⟨b,s,h4⟩:=h3;refine⟨?_,?_,by show(if _ then _ else _)=_;rw[Wc ⟨b,s,h4⟩]⟩
   ·rcases f b q s h4 with⟨b2,s2,h5⟩|⟨h5,_⟩
    ·exact(a b2 q s2 h5).1
    ·exact Ws h.ok.gF h5
   ·rcases f b q s h4 with⟨b2,s2,h5⟩|⟨_,h5⟩
    ·exact WE (a b2 q s2 h5).2.1 hf.size
    ·exact h5
  ·rw[aG _ _ e]at h3
   obtain⟨h4,h5,h6⟩:=h.En j q h1 h2 h3;refine⟨h4,WE h5 hf.size,?_⟩;show(if _ then _ else _)=_;rw[V9]
   ·exact h6
   ·rintro⟨b,s,h7⟩
    rcases f b q s h7 with⟨b2,s2,h8⟩|⟨h8,_⟩
    ·have:=(a b2 q s2 h8).2.2
     rw[h6]at this;injection this with this;exact e this
    ·omega
 ·obtain⟨h2,h3⟩:=h.LV k' q h1
  exact⟨h2,WE h3 hf.size⟩
 ·by_cases e:j=i
  ·subst e
   rw[ay]at h3;obtain⟨b,s,h4⟩:=h3;intro h5;rcases f b q s h4 with⟨b2,s2,h6⟩|⟨h6,_⟩
   ·exact h.Qe j k' q h1 h2 ((hz q).2 ⟨b2,s2,h6⟩) h5
   ·have:=(h.LV k' q h5).2;omega
  ·rw[aG _ _ e]at h3
   exact h.Qe j k' q h1 h2 h3
 ·have n:(if ∃b s,E' b=some (q,s,true)then some i else blk q)=some j:=h1
  by_cases hq:∃b s,E' b=some (q,s,true)
  ·obtain⟨b,s,h4⟩:=hq
   rcases f b q s h4 with⟨b2,s2,h5⟩|⟨h5,h6⟩
   ·obtain⟨h6,h7,_⟩:=a b2 q s2 h5
    exact⟨h6,WE h7 hf.size⟩
   ·exact⟨Ws h.ok.gF h5,h6⟩
  ·rw[V9 hq]at n
   obtain⟨h6,h7⟩:=h.PJ q j n;exact⟨h6,WE h7 hf.size⟩
 ·show(if ∃b s,E' b=some (q,s,true)then some i else blk q)=blk q∨_∧(if _ then _ else _)=_
  by_cases hq:∃b s,E' b=some (q,s,true)
  ·rw[Wc hq]
   obtain⟨b,s,h4⟩:=hq;rcases f b q s h4 with⟨b2,s2,h5⟩|⟨h5,h6⟩
   ·exact .inl (a b2 q s2 h5).2.2.symm
   ·exact .inr ⟨h5,rfl⟩
  ·rw[V9 hq];exact .inl rfl
 ·show(if ∃b s,E' b=some (q,s,true)then some i else blk q)=some i
  rw[Wc ⟨b,s,e⟩]
 ·rcases hf.fresh b q s false e with h1|⟨_,_,h2⟩
  ·exact hsh b q s h1
  ·cases h2
end
end Cs
end Go.Proofs.YtpcnpkhgjanamaaGreatDoor
