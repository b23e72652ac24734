import Derived.Test.YtpcnpkhgjanamaaGreatDoorPz
import Derived.Conc.CompanyCalls
import Derived.WalkKit
import Derived.Test.YtpcnpkhgjanamaaGreatDoorJn9
import Derived.Test.YtpcnpkhgjanamaaGreatDoorChecked
namespace Go.Proofs.YtpcnpkhgjanamaaGreatDoor
open Go renaming Value→R2,World→V8,Goroutine→Wi,Program→Wr,Frame→WG,stepG→Xe,FuncId→Xg,Trace→Y7
open _root_.Array renaming size_setIfInBounds→WZ
open Go.MemAct renaming ofEvent→Yy
namespace Cs
open Go.Conc
open Go.ConcN (sumTo sumTo_congr)
def DW(w w':V8)(es:Array Event):Prop:=w.heap.size≤w'.heap.size∧∀e∈es,EvW w'.heap.size e
section
variable{P:Wr}{gs:Array Wi}{t:Y7}{q:Nat→Nat}{g:Wi}{w:V8}{sl:Option (Nat×Nat)}
theorem de{D:V8→V8→Array Event→Prop}{Stp:Wi→V8→Prop}(hD:∀w w' es,D w w' es→DW w w' es)(hS:∀g w,Stp g w→g.status=.running){m:Nat}(h0:gs[0]?=some g)(hG:Goes P true AtRel D Stp m g w)(hq:Qt P gs t q w.heap.size):
  ∃N gs' w' sl' t' q' g',runNT P N (crowd gs w sl) t=(.next (crowd gs' w' sl'),t')∧gs'.size=gs.size∧gs'[0]?=some g'∧Stp g' w'∧Qt P gs' t' q' w'.heap.size:=by
 have a1:∀(μ:Nat) g' w' d,Goes P true AtRel D Stp μ g' w'→Goes P true AtRel D Stp μ g' (w'.at d):=fun μ g' w' d h=>Goes.rely atRel_trans h ⟨d,rfl⟩
 have a4:∀(μ:Nat) g' w',Goes P true AtRel D Stp μ g' w'→(∀d,Stp g' (w'.at d))∨∃g2 w2 es μ',Xe P true g' w'=.go g2 w2 es∧μ'<μ∧Goes P true AtRel D Stp μ' g2 w2∧w'.heap.size≤w2.heap.size∧∀e∈es,EvW w2.heap.size e:=fun μ g' w' h=>by
  rcases h.cases with h1|⟨m',rfl,h1⟩
  ·exact .inl fun d=>h1 _ ⟨d,rfl⟩
  ·obtain⟨g2,w2,es,k1,k2,k3⟩:=h1 w' (atRel_refl w')
   exact .inr ⟨g2,w2,es,m',k1,Xj _,k3,hD _ _ _ k2⟩
 obtain⟨N,gs',w',sl',t',q',g',h1,h2,h3,h4,h5⟩:=beside (P:=P) Nat.lt_wfRel.wf (fun μ g' w'=>Goes P true AtRel D Stp μ g' w') (fun g' w'=>∀d,Stp g' (w'.at d)) a1 (fun g' w' d h d'=>h d') (fun μ g' w' h=>h.running hS w' (atRel_refl w')) a4 (sl:=sl) h0 hG hq;exact⟨N,gs',w',sl',t',q',g',h1,h2,h3,h4 w'.drawn,h5⟩
end
variable[aT]
section
variable{P:Wr}{c:fX}{Post:Nat→R2→V8→Prop}{S:yq P c Post}
variable{gs:Array Wi}{w:V8}{t:Y7}{q:Nat→Nat}{g:Wi}
theorem cg.QS(S:yq P c Post)(h1:c.S0=gs.size)(h0:gs[0]?=some g)(hq:Qt P gs t q w.heap.size){m:Nat}(hw:Walk P c true (S.Px 0) m g w)(ok:c.Ok w)(c1:w.heap[c.C1]?=some (.chan 0 #[] false 0 0 false))(c2:w.heap[c.C2]?=some (.chan 0 #[] false 0 0 false))
  (fd:∀j a ad,touchAt t j=some a→a.loc=.cell ad→ad.block≠c.Fd) :
  cg S gs w t (.sp 0 m) (fun i=>.lv (q i)) (fun _=>none) (fun _ _=>False) (fun _=>none):=by
 have d:∀i:Nat,c.S0≤i→i<gs.size→False:=fun i a b=>by omega
 refine⟨by rw[h1];rfl,⟨g,h0,S.n1,hw⟩,fun i x a b=>hq.lv i x a b,fun i a b=>⟨q i,rfl⟩,c1,c2,(fun e=>by cases e),fun _ i a b=>(d i a b).elim,(fun⟨_,e⟩=>by cases e),(fun⟨_,e⟩=>by cases e),?_,fun i k E s a b=>(d i a b).elim,?_,?_⟩
 ·show sumTo gs.size _=0
  have:∀n,n≤gs.size→sumTo n (fun i=>xg c i (ZW.lv (q i):ZW P))=0:=fun n=>by
   induction n with
   |zero=>intro _;rfl
   |succ n ih=>
    intro hn;show sumTo n _+xg c n _=0;unfold xg at ih⊢;rw[ih vom,Wc vom]
  exact this _ (R3 _)
 ·exact⟨ok,fun _ _=>rfl,(fun k hk=>by cases hk),fun i _ a b=>(d i a b).elim,(fun _ _ e=>by cases e),fun i _ _ _ a b=>(d i a b).elim,fun i _ a b=>(d i a b).elim,fun _ _ e=>e.elim,fun i _ _ a b=>(d i a b).elim,(fun _ _ e=>by cases e)⟩
 ·refine⟨⟨hq.clean,fun l g hl=>?_,fun l _ g hg i a ha _ _=>?_,hq.words⟩,hq.low,fun j a ad ha e1 e2=>absurd e2 (fd j a ad ha e1),fun j x a hx ha=>.inl (hq.kn j x a hx ha)⟩
  ·cases l<;>simp[eJ]at hl
  ·rcases hg with rfl|⟨a1,a2⟩
   ·obtain⟨x,hx,f⟩:=touch_of ha
    exact hq.kn i x a hx f
   ·exact(d _ a1 a2).elim
theorem Joined.qt{mm:Machine}(h:Joined S mm t):∃gs w sl g q,mm=crowd gs w sl∧gs.size=c.S0+c.n∧gs[0]?=some g∧S.OF g∧g.status=.running∧Qt P gs t q w.heap.size∧c.Ok w∧∃RS:Nat→Nat→Prop,(∀k q,RS k q→c.N1≤q∧q<w.heap.size)∧∀k,k<c.K→∃v,w.cell? ⟨c.Fd,k,none⟩=some v∧tq P c Post k v (RS k) w:=by
 obtain⟨gs,w,sl,zs,bU,RS,blk,m,g,rfl,h,hg,hj,hr⟩:=h;have d:gs.size=c.S0+c.n:=h.sz
 have b:∀i,c.S0≤i→i<gs.size→∃q,zs i=.lv q:=fun i h1 h2=>by
  have hc:sumTo gs.size (fun i=>xg c i (zs i))=c.n:=h.cnt;rw[d]at hc;have:=ET c.n hc (i-c.S0) vom;rw[show c.S0+(i-c.S0)=i by omega]at this;cases hz:zs i with
  |lv q=>exact⟨q,rfl⟩
  |_=>rw[hz]at this;cases this
 have l:∀i,1≤i→i<gs.size→∃q,zs i=.lv q:=fun i h1 h2=>by
  rcases ZA i c.S0 with h3|h3
  ·exact h.old i h1 h3
  ·exact b i h3 h2
 let q:Nat→Nat:=fun i=>match zs i with
  |.lv q=>q
  |_=>0
 refine⟨gs,w,sl,g,q,rfl,d,hg,hj,hr,⟨fun i x h1 h2=>?_,h.tr.ti.clean,h.tr.ti.words,fun j x a hx ha=>?_,h.tr.low⟩,h.mem.ok,RS,h.mem.LV,fun k hk=>?_⟩
 ·obtain⟨q',f⟩:=l i h1 (cI h2)
  have hs:=h.wk i x h1 h2;rw[f]at hs;have e:q i=q':=by show(match zs i with|.lv q=>q|_=>0)=q';rw[f]
  rw[e];exact hs
 ·rcases h.tr.kn j x a hx ha with h1|⟨h1,h2,h3⟩
  ·exact h1
  ·obtain⟨q,hq⟩:=b x.g h1 h2
   rw[hq]at h3;exact absurd trivial h3
 ·obtain⟨i,h1,h2,h3⟩:=h.mem.OS k hk
  refine h.mem.R6 k i h3 fun e=>?_;obtain⟨q,hq⟩:=b i h1 h2;rw[hq]at e;exact e.elim
theorem yh(hG:P.globals.size≤aT.G)(hC:cP P)(S:yq P c Post)(h1:c.S0=gs.size)(h0:gs[0]?=some g)(hq:Qt P gs t q w.heap.size){m:Nat}(hw:Walk P c true (S.Px 0) m g w)(ok:c.Ok w)(c1:w.heap[c.C1]?=some (.chan 0 #[] false 0 0 false))(c2:w.heap[c.C2]?=some (.chan 0 #[] false 0 0 false))
  (fd:∀j a ad,touchAt t j=some a→a.loc=.cell ad→ad.block≠c.Fd) (sl:Option (Nat×Nat)) :
  ∃N gs' w' sl' t' q' g',runNT P N (crowd gs w sl) t=(.next (crowd gs' w' sl'),t')∧gs'[0]?=some g'∧S.OF g'∧g'.status=.running∧Qt P gs' t' q' w'.heap.size∧c.Ok w'∧∃RS:Nat→Nat→Prop,(∀k q,RS k q→c.N1≤q∧q<w'.heap.size)∧∀k,k<c.K→∃v,w'.cell? ⟨c.Fd,k,none⟩=some v∧tq P c Post k v (RS k) w':=by
 obtain⟨N,m',t',k1,k2⟩:=(cg.QS S h1 h0 hq hw ok c1 c2 fd).runs hG hC sl;obtain⟨gs',w',sl',g',q',rfl,_,k4,k5,k6,k7,k8,k9⟩:=k2.qt;exact⟨N,gs',w',sl',t',q',g',k1,k4,k5,k6,k7,k8,k9⟩
end
end Cs
namespace Cs
open Go.Conc
variable[aT]
section
variable{P:Wr}{Post:R2→V8→Prop}
theorem AB(hG:P.globals.size≤aT.G)(hC:cP P){gs:Array Wi}{t:Y7}{q:Nat→Nat}{g:Wi}{w:V8}{sl:Option (Nat×Nat)}{c:List WG}{E:Env}{gl:Wi}{wl:V8}(h0:gs[0]?=some g)(hin:bH P Post c E gl wl g w)(hq:Qt P gs t q w.heap.size):
  ∃N gs' w' sl' t' q' E' gl' wl' g',runNT P N (crowd gs w sl) t=(.next (crowd gs' w' sl'),t')∧gs'.size=gs.size∧gs'[0]?=some g'∧bH P Post c E' gl' wl' g' w'∧Stop [aK P] gl'∧gJ g'=gJ g∧FC E E' w w'∧Qt P gs' t' q' w'.heap.size:=by
 let Q:Wi→V8→Prop:=fun g' w'=>∃E' gl' wl',bH P Post c E' gl' wl' g' w'∧Stop [aK P] gl'∧gJ g'=gJ g∧FC E E' w w'
 let I:Option { s:Gh // Acc (After P [aK P]) s }→Wi→V8→Prop:=fun μ g' w'=>match μ with
  |some s=>∃E',bH P Post c E' s.1.1 s.1.2 g' w'∧gJ g'=gJ g∧FC E E' w w'
  |none=>False
 have fcAt:∀{E':Env} {w':V8} (d:Nat),FC E E' w w'→FC E E' w (w'.at d):=fun d h=>⟨h.le,h.os,h.tape,h.output,h.size,h.keep,h.fresh⟩
 have fcAt':∀{E':Env} {w':V8} (d:Nat),FC E E' w (w'.at d)→FC E E' w w':=fun d h=>⟨h.le,h.os,h.tape,h.output,h.size,h.keep,h.fresh⟩
 have a1:∀μ g' w' d,I μ g' w'→I μ g' (w'.at d):=fun μ g' w' d h=>by
  cases μ with
  |none=>exact h.elim
  |some s=>
   obtain⟨E',h1,h3,h2⟩:=h;exact⟨E',h1.other fun _ _ _=>rfl,h3,fcAt d h2⟩
 have a2:∀g' w' d,Q g' (w'.at d)→Q g' w':=fun g' w' d h=>by
  obtain⟨E',gl',wl',k1,k2,k3,k4⟩:=h;exact⟨E',gl',wl',k1.other fun _ _ _=>rfl,k2,k3,fcAt' d k4⟩
 have a3:∀μ g' w',I μ g' w'→g'.status=.running:=fun μ g' w' h=>by
  cases μ with
  |none=>exact h.elim
  |some s=>
   obtain⟨E',h1,h3,h2⟩:=h;exact h1.running
 have a4:∀μ g' w',I μ g' w'→Q g' w'∨∃g2 w2 es μ',Xe P true g' w'=.go g2 w2 es∧xH P μ' μ∧I μ' g2 w2∧w'.heap.size≤w2.heap.size∧∀e∈es,EvW w2.heap.size e:=fun μ g' w' h=>by
  cases μ with
  |none=>exact h.elim
  |some s=>
   obtain⟨E1,b,f,j⟩:=h;by_cases hs:Stop [aK P] s.1.1
   ·exact .inl ⟨E1,_,_,b,hs,f,j⟩
   ·obtain⟨E',gl',wl',g2,w2,es,l,a,k,n,i,m⟩:=b.step2 hG hC true hs
    exact .inr ⟨g2,w2,es,some ⟨(gl',wl'),iM a.live⟩,l,.on k,⟨E',a,m.trans f,j.trans i⟩,i.size,fun e he=>pH a.wr (n e he)⟩
 obtain⟨N,gs',w',sl',t',q',g',h1,h2,h3,⟨E',gl',wl',k1,k2,k3,k4⟩,h5⟩:=beside (P:=P) (Br P) I Q a1 a2 a3 a4 (μ:=some ⟨(gl,wl),iM hin.live⟩) (sl:=sl) h0 ⟨E,hin,rfl,FC.refl E w⟩ hq;exact⟨N,gs',w',sl',t',q',E',gl',wl',g',h1,h2,h3,k1,k2,k3,k4,h5⟩
theorem bH.atEnd{E:Env}{gl g:Wi}{wl w:V8}(hin:bH P Post [] E gl wl g w)(hs:Stop [aK P] gl){fn0:Xg}{f:Func}{t:Nat}(hl:gJ g=fn0)(hf:P.funcs[fn0]?=some f)(hr:f.results=#[.tmp t])(hn:P.inits.idxOf? fn0=none):
  ∃v v' wl2,Post v wl2∧VR E v v'∧g.status=.running∧∀w,Xe P true g w=.ended (.done v') w #[]:=by
 obtain⟨v,A,hp⟩:=xK hin.gr hs (hin.live (bx wl w) (fun i q hi=>dX q hi));obtain⟨fn,x,y,todo,mode,l,l',rfl,rfl,B,hx,ht,hm,m⟩:=hin.gr.ex;obtain⟨z,s⟩:=hs;have h:mode=.returning:=z;have d:l=[aK P]:=s;subst h d
 have n:l'=[]:=by
  have j:∀{a b:List WG},CR P E [aK P] [] a b→a=[aK P]→b=[]:=fun {a b} hab e=>by
   cases hab with
   |base=>rfl
   |cons hf2 hx2 ht2 h2=>
    exfalso;injection e with e1 e2;have:=XI Frame.todo e1;simp only[aL,aK]at this;rw[this]at ht2;simp[pY,aZ]at ht2
  exact j m rfl
 subst n;have u:fn=fn0:=hl;subst u;obtain⟨_,_,_,f2,k,o⟩:=A
 have e2:f2=f:=by
  have h1:P.funcs[fn]?=some f2:=k;rw[hf]at h1;injection h1 with h1;exact h1.symm
 subst e2;have c:(results f2 x).run P (wl.tp (bx wl w))=.ok v (wl.tp (bx wl w)):=o;rw[(resultsC_tmp (P:=P) hr x (wl.tp (bx wl w))).1]at c;injection c with hv _;subst hv;refine⟨_,_,_,hp,tB hx t,rfl,fun w=>?_⟩;have h1:=(resultsC_tmp (P:=P) hr y w).1;have h2:=(resultsC_tmp (P:=P) hr y w).2
 have h3:(results f2 y).runT P w #[]=(.ok (y.getD t undef) w,#[]):=by
  refine Prod.ext ?_ ?_
  ·rw[Sem.runT_fst];exact h1
  ·exact h2
 simp only[G,Xe,unwind,aL,hf,doReturn,h3,hn]
 rfl
end
end Cs
namespace Cs
open Go.Conc
open Go.ConcN (sumTo sumTo_congr upd upd_same upd_ne sumTo_upd)
structure Cm(Pl:Touch→Prop)(P:Wr)(gs:Array Wi)(t:Y7)(q:Nat→Nat)(size:Nat):Prop where
 qt:Qt P gs t q size
 pl:∀j a,touchAt t j=some a→Pl a
section
variable{P:Wr}{gs gs':Array Wi}{t:Y7}{q q':Nat→Nat}{size size':Nat}
theorem Cm.own{Pl:Touch→Prop}(h:Cm Pl P gs t q size){fn:Xg}{pos:String}{es:Array Event}(hs:size≤size')(hes:∀e∈es,EvW size' e∧∀x,(Yy e).touch? = some x→Pl x)(hlv:∀i g,0<i→gs'[i]?=some g→QuitsIn P (q i) g):Cm Pl P gs' (t++MemOp.ofEvents 0 fn pos es) q size':=by
 refine⟨h.qt.own hs (fun e he=>(hes e he).1) hlv,fun j a ha=>?_⟩;obtain⟨x,hx,b⟩:=touch_of ha;rcases getElem?_append_cases hx with⟨_,c⟩|⟨_,d⟩
 ·exact h.pl j a (by rw[touchAt_of c];exact b)
 ·obtain⟨e,he,rfl⟩:=Conc.mem_ofEvents d
  exact(hes e he).2 a b
theorem Cm.set{Pl:Touch→Prop}(h:Cm Pl P gs t q size)(hlv:∀i g,0<i→gs'[i]?=some g→QuitsIn P (q' i) g):Cm Pl P gs' t q' size:=⟨h.qt.set hlv,h.pl⟩
theorem K4{Pl:Touch→Prop}{α:Type}{r:α→α→Prop}(wf:WellFounded r)(I:α→Wi→V8→Prop)(Q:Wi→V8→Prop)(hI:∀μ g w d,I μ g w→I μ g (w.at d))(hQ:∀g w d,Q g (w.at d)→Q g w)(hrun:∀μ g w,I μ g w→g.status=.running)
  (hstep:∀μ g w,I μ g w→Q g w∨∃g' w' es μ',Xe P true g w=.go g' w' es∧r μ' μ∧I μ' g' w'∧w.heap.size≤w'.heap.size∧∀e∈es,EvW w'.heap.size e∧∀x,(Yy e).touch? = some x→Pl x) {μ:α} {g:Wi} {w:V8} {sl:Option (Nat×Nat)} (h0:gs[0]?=some g) (hi:I μ g w) (hq:Cm Pl P gs t q w.heap.size) :
  ∃N gs' w' sl' t' q' g',runNT P N (crowd gs w sl) t=(.next (crowd gs' w' sl'),t')∧gs'.size=gs.size∧gs'[0]?=some g'∧Q g' w'∧Cm Pl P gs' t' q' w'.heap.size:=by
 have key:=kJ (P:=P) (Prod.lex ⟨r,wf⟩ ⟨_,Nat.lt_wfRel.wf⟩).wf (fun(μ:α×Nat) m t=>∃gs' w sl q g,m=crowd gs' w sl∧gs'.size=gs.size∧gs'[0]?=some g∧I μ.1 g w∧Cm Pl P gs' t q w.heap.size∧μ.2=sumTo gs'.size q)
  (fun m t=>∃gs' w sl q g,m=crowd gs' w sl∧gs'.size=gs.size∧gs'[0]?=some g∧Q g w∧Cm Pl P gs' t q w.heap.size) ?_ (μ,sumTo gs.size q) _ t ⟨gs,w,sl,q,g,rfl,rfl,h0,hi,hq,rfl⟩
 ·obtain⟨N,m',t',h1,gs',w',sl',q',g',rfl,h2,h3,h4,h5⟩:=key
  exact⟨N,gs',w',sl',t',q',g',h1,h2,h3,h4,h5⟩
 ·rintro⟨μ,k⟩ m t ⟨gs,w,sl,q,g,rfl,c,h0,hi,hq,rfl⟩
  have hg:=hrun μ g w hi
  have s:∀x∈gs,awake x:=fun x hx=>by
   obtain⟨i,l,rfl⟩:=Array.mem_iff_getElem.1 hx;rcases XK i with rfl|hp
   ·have:gs[0]=g:=by simpa[Array.getElem?_eq_getElem l]using h0
    rw[this];exact awake_of (.inl hg)
   ·rcases(hq.qt.lv i _ hp (Wl l)).status with h3|h3
    ·exact awake_of (.inl h3)
    ·exact awake_of (.inr (.inr h3))
  obtain⟨i,x,d,sl',hx,o,f⟩:=crowd_pick (P:=P) (w:=w) (sl:=sl) s ⟨0,g,h0,hg⟩
  have quiet:∀(a a' y:Wi) (w':V8) (j:Nat),(gs.map (woken P a a' w')).setIfInBounds j y=gs.setIfInBounds j y:=fun a a' y w' j=>kz fun k z _ hz=>by
   rcases XK k with rfl|hp
   ·rw[h0]at hz
    cases hz;exact woken_running hg
   ·exact woken_quits (hq.qt.lv k z hp hz)
  rcases XK i with rfl|hp
  ·rw[h0]at hx
   cases hx;rcases hstep μ g (w.at d) (hI μ g w d hi)with h1|⟨g',w',es,μ',h1,h2,h3,h4,h5⟩
   ·exact .inl ⟨gs,w,sl,q,g,rfl,c,h0,hQ g w d h1,hq⟩
   ·have hr:=runT_crowd_go (P:=P) (sl:=sl') (i:=0) h0 (show Xe P (0==0) g (w.at d)=_ from h1)
    rw[quiet]at hr;refine .inr ⟨_,_,(μ',sumTo gs.size q),f.trans hr,Prod.Lex.left _ _ h2,_,w',sl',q,g',rfl,by rw[WZ];exact c,WB (cI h0),h3,hq.own (gs':=gs.setIfInBounds 0 g') h4 h5 fun k z hk hz=>?_,by rw[WZ]⟩;rw[Wt vom]at hz;exact hq.qt.lv k z hk hz
  ·have b:=hq.qt.lv i x hp hx
   cases hqe:q i with
   |zero=>
    rw[hqe]at b;have:x.status=.finished:=b;rw[o]at this;cases this
   |succ n=>
    rw[hqe]at b;rcases b with hf|⟨_,x',h,u⟩
    ·rw[o]at hf;cases hf
    ·have hr:=runT_crowd_go (P:=P) (sl:=sl') (i:=i) hx (by rw[show(i==0)=false by simp;omega];exact h (w.at d))
     rw[quiet]at hr
     have v:sumTo gs.size (upd q i n)+(n+1)=sumTo gs.size q+n:=by
      have:=sumTo_upd q n id (cI hx);simpa[hqe]using this
     refine .inr ⟨_,_,(μ,sumTo gs.size (upd q i n)),f.trans hr,Prod.Lex.right _ (show _<_ by omega),_,w.at d,sl',upd q i n,g,rfl,by rw[WZ];exact c,?_,hI μ g w d hi,?_,by rw[WZ]⟩
     ·rw[Wt vom];exact h0
     ·have e:t++MemOp.ofEvents i x.frame.fn x.frame.place #[]=t:=by rw[ofEvents_none,Array.append_empty]
      rw[e];refine hq.set fun k z hk hz=>?_;by_cases ek:k=i
      ·subst ek
       rw[WB (cI hx)]at hz;cases hz;rw[upd_same];exact u
      ·rw[Wt (fun e=>ek e.symm)]at hz
       rw[upd_ne _ _ ek];exact hq.qt.lv k z hk hz
theorem eC{Pl:Touch→Prop}{g:Wi}{w:V8}{sl:Option (Nat×Nat)}{D:V8→V8→Array Event→Prop}{Stp:Wi→V8→Prop}(hD:∀w w' es,D w w' es→w.heap.size≤w'.heap.size∧∀e∈es,EvW w'.heap.size e∧∀x,(Yy e).touch? = some x→Pl x)(hS:∀g w,Stp g w→g.status=.running){m:Nat}(h0:gs[0]?=some g)(hG:Goes P true AtRel D Stp m g w)(hq:Cm Pl P gs t q w.heap.size):
  ∃N gs' w' sl' t' q' g',runNT P N (crowd gs w sl) t=(.next (crowd gs' w' sl'),t')∧gs'.size=gs.size∧gs'[0]?=some g'∧Stp g' w'∧Cm Pl P gs' t' q' w'.heap.size:=by
 have a1:∀(μ:Nat) g' w' d,Goes P true AtRel D Stp μ g' w'→Goes P true AtRel D Stp μ g' (w'.at d):=fun μ g' w' d h=>Goes.rely atRel_trans h ⟨d,rfl⟩
 have a4:∀(μ:Nat) g' w',Goes P true AtRel D Stp μ g' w'→(∀d,Stp g' (w'.at d))∨∃g2 w2 es μ',Xe P true g' w'=.go g2 w2 es∧μ'<μ∧Goes P true AtRel D Stp μ' g2 w2∧w'.heap.size≤w2.heap.size∧∀e∈es,EvW w2.heap.size e∧∀x,(Yy e).touch? = some x→Pl x:=fun μ g' w' h=>by
  rcases h.cases with h1|⟨m',rfl,h1⟩
  ·exact .inl fun d=>h1 _ ⟨d,rfl⟩
  ·obtain⟨g2,w2,es,k1,k2,k3⟩:=h1 w' (atRel_refl w')
   exact .inr ⟨g2,w2,es,m',k1,Xj _,k3,hD _ _ _ k2⟩
 obtain⟨N,gs',w',sl',t',q',g',h1,h2,h3,h4,h5⟩:=K4 (P:=P) (Pl:=Pl) Nat.lt_wfRel.wf (fun μ g' w'=>Goes P true AtRel D Stp μ g' w') (fun g' w'=>∀d,Stp g' (w'.at d)) a1 (fun g' w' d h d'=>h d') (fun μ g' w' h=>h.running hS w' (atRel_refl w')) a4 (sl:=sl) h0 hG hq;exact⟨N,gs',w',sl',t',q',g',h1,h2,h3,h4 w'.drawn,h5⟩
end
end Cs
namespace Cs
open Go.Conc
def kY(Post:R2→V8→Prop)(e:Ending)(w':V8):Prop:=∃v,e=.returned v∧Post v w'
section
variable{P:Wr}{Post:R2→V8→Prop}{fn:Xg}{f:Func}{x:Array R2}{cs:List WG}{w:V8}
theorem dL(hf:P.funcs[fn]?=some f){m:Machine}{g:Wi}(hm:lone g.frame g.callers w=m){e:Exit}{a':Act}{w':V8}(hq:bodyPost P f (kY Post) e a' w')(h:Arrives P m (aL fn #[] [] .run) [] cs e a' w'):Reach P cs Post g w:=by
 have b:∀a todo,(aL fn #[] [] .run).at a todo={ aL fn a.tmps todo .run with defers:=a.defers }:=fun a todo=>rfl;subst hm;cases e with
 |normal=>
  obtain⟨hd,v,hr,u,hu,hp⟩:=hq;cases hu;obtain⟨n,hn⟩:=Steps.trans h (.one step_end);exact⟨n,_,w',v,hn,⟨rfl,hd,rfl,f,hf,hr⟩,hp⟩
 |ret=>
  obtain⟨hd,v,hr,u,hu,hp⟩:=hq;cases hu;obtain⟨todo,n,hn⟩:=h;exact⟨n,_,w',v,hn,⟨rfl,hd,rfl,f,hf,hr⟩,hp⟩
 |panic chain=>
  obtain⟨_,u,hu,_⟩:=hq;cases hu
 |outgrown=>
  obtain⟨u,hu,_⟩:=hq;cases hu
 |exit id=>exact hq.elim
 |goto l=>exact hq.elim
theorem vg(hf:P.funcs[fn]?=some f){c:Code}(h:c.wp P (bodyPost P f (kY Post)) ⟨x,[]⟩ w):Reach P cs Post (G (aL fn x [.code c] .run) cs) w:=by
 obtain⟨e,a',w',hq,a⟩:=h (aL fn #[] [] .run) [] cs;exact dL hf rfl hq a
theorem j5(hf:P.funcs[fn]?=some f){ops:Array Oper}{l:List Nat}{c:Code}(h:wpOps P ops (Exit.then (c.wp P (bodyPost P f (kY Post))) (bodyPost P f (kY Post))) l ⟨x,[]⟩ w):Reach P cs Post (G (aL fn x [.inRegion ops l,.code c] .run) cs) w:=by
 obtain⟨e,a1,w1,hq,a⟩:=wp_ops l ⟨x,[]⟩ w h (aL fn #[] [] .run) [.code c] cs;cases e with
 |normal=>
  obtain⟨e2,a2,w2,d,b⟩:=hq (aL fn #[] [] .run) [] cs;exact dL hf rfl d (.of_steps a b)
 |exit id=>exact hq.elim
 |goto l=>exact hq.elim
 |ret=>exact dL (e:=.ret) hf rfl hq (.pass (x:=.code c) rfl (fun _ _=>.inl vsi) a)
 |panic ch=>exact dL (e:=.panic ch) hf rfl hq (.pass (x:=.code c) rfl (fun _ _=>.inl vsi) a)
 |outgrown=>exact dL (e:=.outgrown) hf rfl hq (.pass (x:=.code c) rfl (fun _ _=>.inl vsi) a)
end
variable[aT]
section
variable{P:Wr}{Post:R2→V8→Prop}{c:List WG}{E:Env}{wl w:V8}
theorem bH.mid{fn:Xg}(hf:j9 P fn){x y:Array R2}(hx:LR E x y)(hw:WR P E wl w)(hb:aT.G≤wl.heap.size){todo:List Item}(ht:todo.all (aZ P)=true)(hr:∀τ,Reach P [aK P] Post (G (aL fn x todo .run) [aK P]) (wl.tp τ)):
  bH P Post c E (G (aL fn x todo .run) [aK P]) wl (G (aL fn y todo .run) c) w:=
 ⟨.mk' hf hx ht (.inl rfl) .base,hw,hb,fun τ _=>hr τ⟩
end
end Cs
namespace Cs
open Go.Conc Go.RowKit
variable[aT]
structure Cp(P:Wr)(E:Env)(wl w:V8):Prop where
 wr:WR P E wl w
 gF:aT.G≤wl.heap.size
 sh:∀b q s o,E b=some (q,s,o)→o=false
 top:∀b,wl.heap.size≤b→E b=none
structure dR(E E':Env)(wl wl':V8):Prop where
 le:E.le E'
 size:wl.heap.size≤wl'.heap.size
 old:∀b,b<wl.heap.size→wl'.heap[b]?=wl.heap[b]?
 os:wl'.os=wl.os
 tape:wl'.tape=wl.tape
 output:wl'.output=wl.output
omit [aT] in
theorem dR.refl(E:Env)(wl:V8):dR E E wl wl:=⟨E.le_refl,R3 _,fun _ _=>rfl,rfl,rfl,rfl⟩
omit [aT] in
theorem dR.trans{A B C:Env}{u v w:V8}(h:dR A B u v)(k:dR B C v w):dR A C u w:=
 ⟨Env.le_trans h.le k.le,Ws h.size k.size,fun b hb=>(k.old b (WE hb h.size)).trans (h.old b hb),k.os.trans h.os,k.tape.trans h.tape,k.output.trans h.output⟩
omit [aT] in
theorem dR.cell{E E':Env}{wl wl':V8}(h:dR E E' wl wl'){a:Addr}{v:R2}(hc:wl.cell? a=some v):wl'.cell? a=some v:=by
 have hb:a.block<wl.heap.size:=ZH _ _ hc;have:=h.old a.block hb;unfold World.cell? at hc⊢;rw[this];exact hc
section
variable{P:Wr}{w:V8}
theorem Cp.nil(w:V8):Cp P (fun _=>none) { w with heap:=Array.replicate aT.G (.cells #[] 0) } w:=
 ⟨⟨fun _ _ _ e=>(by cases e),fun _ _ _ e=>(by cases e),fun _ _ _ _ _ _ e=>(by cases e),fun _ _ e=>(by cases e)⟩,vsi,fun _ _ _ _ e=>(by cases e),fun _ _=>rfl⟩
theorem Cp.row{E:Env}{wl:V8}(h:Cp P E wl w){TJ:TypeId}(hJ:P.info? TJ=none){q s:Nat}{y:Array R2}{T':TypeId}{fr:Nat×Nat}(hq:w.heap[q]?=some (.cells y T' fr))(x:Array R2)(hx:∀(i:Nat) u,x[i]?=some u→∃v,y[i+s]?=some v∧VR E u v):
  ∃E',Cp P E' (wl.alloc (.cells x TJ (0,x.size))) w∧dR E E' wl (wl.alloc (.cells x TJ (0,x.size)))∧(∀o,AR E' ⟨wl.heap.size,o,none⟩ ⟨q,o+s,none⟩)∧∀i u,x[i]?=some u→(wl.alloc (.cells x TJ (0,x.size))).cell? ⟨wl.heap.size,i,none⟩=some u:=by
 let E':Env:=fun b=>if b=wl.heap.size then some (q,s,false)else E b
 have hn:E wl.heap.size=none:=h.top _ (R3 _)
 have g:E.le E':=fun b x e=>by
  show(if b=wl.heap.size then some (q,s,false)else E b)=some x;rw[V9 (fun e'=>by rw[e',hn]at e;cases e)];exact e
 have f:(wl.alloc (.cells x TJ (0,x.size))).heap.size=wl.heap.size+1:=vsi;have d:∀b,b<wl.heap.size→(wl.alloc (.cells x TJ (0,x.size))).heap[b]?=wl.heap[b]?:=fun b hb=>Below.heap_alloc wl _ b hb;have a:(wl.alloc (.cells x TJ (0,x.size))).heap[wl.heap.size]?=some (.cells x TJ (0,x.size)):=heap_alloc_new wl _
 have hE:∀b q' s' o,E' b=some (q',s',o)→(b=wl.heap.size∧q'=q∧s'=s∧o=false)∨E b=some (q',s',o):=fun b q' s' o e=>by
  have e':(if b=wl.heap.size then some (q,s,false)else E b)=some (q',s',o):=e;by_cases hb:b=wl.heap.size
  ·rw[Wc hb]at e'
   cases e';exact .inl ⟨hb,rfl,rfl,rfl⟩
  ·rw[V9 hb]at e'
   exact .inr e'
 refine⟨E',⟨⟨fun b c s' e=>?_,fun b c s' e=>?_,fun b b' c s' s'' o e e2=>?_,fun b x' e=>?_⟩,by rw[f];exact Nat.le_succ_of_le h.gF,fun b q' s' o e=>?_,fun b hb=>?_⟩,⟨g,by rw[f];exact Nat.le_succ _,d,rfl,rfl,rfl⟩,fun o=>⟨s,false,by show(if wl.heap.size=wl.heap.size then _ else _)=_;rw[Wc rfl],rfl,rfl,h.gF,fun e=>by cases e⟩,fun i u hu=>?_⟩
 ·rcases hE b c s' true e with⟨_,_,_,e'⟩|e'
  ·cases e'
  ·have:=h.sh _ _ _ _ e'
   cases this
 ·rcases hE b c s' false e with⟨rfl,rfl,rfl,_⟩|e'
  ·exact⟨x,TJ,y,T',fr,a,hJ,hq,fun i u hu=>by
    obtain⟨v,h1,h2⟩:=hx i u hu;exact⟨v,h1,h2.mono g⟩⟩
  ·obtain⟨x',T,y',T2,fr',h1,h2,h3,h4⟩:=h.wr.shared b c s' e'
   exact⟨x',T,y',T2,fr',(d b (h.wr.lt e').1).trans h1,h2,h3,fun i u hu=>by
    obtain⟨v,k1,k2⟩:=h4 i u hu;exact⟨v,k1,k2.mono g⟩⟩
 ·rcases hE b c s' true e with⟨_,_,_,e'⟩|e'
  ·cases e'
  ·have:=h.sh _ _ _ _ e'
   cases this
 ·obtain⟨q',s',o⟩:=x'
  rcases hE b q' s' o e with⟨rfl,_⟩|e'
  ·exact h.gF
  ·exact h.wr.low b _ e'
 ·rcases hE b q' s' o e with⟨_,_,_,e'⟩|e'
  ·exact e'
  ·exact h.sh _ _ _ _ e'
 ·rw[f]at hb
  show(if b=wl.heap.size then some (q,s,false)else E b)=none;rw[V9 vom];exact h.top b vom
 ·rw[Xf _ _ _ _ _ _ a]
  exact hu
end
end Cs
namespace Cs
variable[aT]
theorem A9{E:Env}{c:Array R2}(ih:∀(i:Nat) (hi:i<c.size),∃u,VR E u c[i]):∃x,LR E x c:=by
 refine⟨Array.ofFn fun i:Fin c.size=>(ih i i.2).choose,vsi,fun i u v hu hv=>?_⟩;obtain⟨hi,rfl⟩:=Wd.1 hv;obtain⟨hj,rfl⟩:=Wd.1 hu;simp only[Array.getElem_ofFn];exact(ih i hi).choose_spec
theorem KW(E:Env):∀(n:Nat) (v:R2),SizeOf.sizeOf v<n→∃u,VR E u v
 |0,_,h=>absurd h (Xy _)
 |n+1,v,h=>by
  cases v with
  |agg c=>
   obtain⟨x,hx⟩:=A9 (E:=E) (c:=c) fun i hi=>KW E n c[i] (by
    have:=Array.sizeOf_getElem c i hi;simp only[Value.agg.sizeOf_spec]at h;omega)
   exact⟨_,.lK hx⟩
  |tuple c=>
   obtain⟨x,hx⟩:=A9 (E:=E) (c:=c) fun i hi=>KW E n c[i] (by
    have:=Array.sizeOf_getElem c i hi;simp only[Value.tuple.sizeOf_spec]at h;omega)
   exact⟨_,.mkTuple hx⟩
  |bool b=>exact⟨_,.bool b⟩
  |nilIface=>exact⟨_,.nilIface⟩
  |_=>exact⟨_,.any _ rfl⟩
theorem aJ(E:Env)(v:R2):∃u,VR E u v:=KW E _ v (Xj _)
end Cs
namespace Cs
open Go.Conc
theorem ue{P:Wr}{Post1 Post:R2→V8→Prop}{f2:WG}{cs cs1:List WG}{g:Wi}{w:V8}(h:Reach P (f2 :: cs1) Post1 g w)(h2:∀v w',Post1 v w'→Reach P cs Post (G (f2.finish v) cs1) w'):Reach P cs Post g w:=by
 obtain⟨n,fr,w',v,hn,hl,hp⟩:=h;obtain⟨n2,fr2,w2,v2,a,c,b⟩:=h2 v w' hp;obtain⟨k,hk⟩:=Steps.trans ⟨n,hn⟩ (Steps.trans (.one (step_leave_returned hl)) ⟨n2,a⟩);exact⟨k,fr2,w2,v2,hk,c,b⟩
variable[aT]
section
variable{P:Wr}{Post:R2→V8→Prop}{c:List WG}{E:Env}{wl w:V8}
theorem bH.T3{fn:Xg}(hf:j9 P fn){x y:Array R2}(hx:LR E x y)(hw:WR P E wl w)(hb:aT.G≤wl.heap.size){todo:List Item}(ht:todo.all (aZ P)=true){l l':List WG}(hl:CR P E [aK P] c l l')(hr:∀τ,Reach P [aK P] Post (G (aL fn x todo .run) l) (wl.tp τ)):
  bH P Post c E (G (aL fn x todo .run) l) wl (G (aL fn y todo .run) l') w:=
 ⟨.mk' hf hx ht (.inl rfl) hl,hw,hb,fun τ _=>hr τ⟩
end
end Cs
namespace Cs
def CQ:List Xg:=[7,9,10,20,23,24,25,26,28,29,30,31,32,34,35,42,51,52,53,54,56,57,58,59,60,61,62,63,64,65,66,68,69,95,97,98,99,100,101,102,103,104,105,106,107,127,128,129,130,131,153]
noncomputable instance fdFns:aT where
 ok:=fun f=>CQ.contains f
 G:=Tryz.prog.globals.size
noncomputable def Kb:List Xg:=CQ.filter fun f=>match Tryz.prog.funcs[f]? with
 | some fn => (match fn.body with | some b => !(codeOk Tryz.prog b) | none => true) || (fn.name == "runtime.NumGoroutine")
 |none=>true
theorem Pe:Kb=[]:=vkr
theorem cG:cP Tryz.prog:=fun f hf=>by
 have hm:f∈CQ:=List.contains_iff_mem.1 hf;have hb:f∉Kb:=by rw[Pe];simp
 unfold Kb at hb;rw[Yj]at hb;have hb':=fun e=>hb ⟨hm,e⟩;cases h1:Tryz.prog.funcs[f]? with
 |none=>exact absurd (by simp only[h1]) hb'
 |some fn=>
  cases h2:fn.body with
  |none=>exact absurd (by simp only[h1,h2,Bool.true_or]) hb'
  |some b=>
   cases h3:codeOk Tryz.prog b with
   |false=>exact absurd (by simp only[h1,h2,h3,Bool.not_false,Bool.true_or]) hb'
   |true=>
    cases h4 : (fn.name == "runtime.NumGoroutine") with
    |true=>exact absurd (by simp only[h1,h2,h3,h4,Bool.or_true]) hb'
    |false=>exact⟨fn,b,rfl,h2,h3,h4⟩
end Cs
end Go.Proofs.YtpcnpkhgjanamaaGreatDoor
