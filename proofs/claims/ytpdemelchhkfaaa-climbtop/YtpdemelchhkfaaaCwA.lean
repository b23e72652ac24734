import Derived.Test.YtpdemelchhkfaaaJn8
namespace Go.Proofs.Ytpdemelchhkfaaa
namespace Cs
open Go.Conc
open Go.ConcN (sumTo sumTo_congr upd upd_same upd_ne sumTo_upd)
def snL (Sn:Nat→Prop):_root_.Go.Loc→Prop
 | .cell a=>Sn a.block
 | .obj q=>Sn q
 | _=>False
def eL:MemAct→Bool
 | .mark (.release _)=>true
 | _=>false
def Cn (Sn:Nat→Prop) (t:Trace) (j:Nat) (a:Touch):Prop:=¬snL Sn a.loc∨t.heard j
theorem Cn.old {Sn:Nat→Prop} {t u:Trace} {j:Nat} {a:Touch} (h:Cn Sn (t++u) j a) (hj:j<t.size):Cn Sn t j a:=h.elim .inl fun k=>.inr ((heard_old hj).1 k)
structure Qs (P:Program) (Sn:Nat→Prop) (gs:Array Goroutine) (t:Trace) (q:Nat→Nat) (d size:Nat):Prop where
 lv:Leavers P t gs q
 clean:∀said,¬Race said t
 df:Deaf t 0=d
 kn:∀(j:Nat) (x:MemOp) (a:Touch),t[j]? = some x→x.act.touch? = some a→Cn Sn t j a→Knows t 0 j
 sn:∀(j:Nat) (x:MemOp) (a:Touch),t[j]? = some x→x.act.touch? = some a→snL Sn a.loc→a.kind≠.plain∧(a.kind=.said→x.g=0)
 low:∀j a,touchAt t j=some a→eW size a.loc
 nor:∀(j:Nat) (x:MemOp),t[j]? = some x→eL x.act≠true
def EvS (Sn:Nat→Prop) (size:Nat) (e:Event):Prop:=eL (MemAct.ofEvent e)≠true∧∀x,(MemAct.ofEvent e).touch? = some x→eW size x.loc∧(snL Sn x.loc→x.kind≠.plain)
section
variable {P:Program} {Sn:Nat→Prop} {gs gs':Array Goroutine} {t:Trace} {q q':Nat→Nat} {d size size':Nat}
theorem Qs.own (h:Qs P Sn gs t q d size) {fn:FuncId} {pos:String} {es:Array Event} (hs:size≤size') (hes:∀e ∈ es,EvS Sn size' e) (hlv:Leavers P (t++MemOp.ofEvents 0 fn pos es) gs' q):Qs P Sn gs' (t++MemOp.ofEvents 0 fn pos es) q (deafBehind d es) size':=by
 have key:∀op ∈ MemOp.ofEvents 0 fn pos es,op.g=0∧eL op.act≠true∧∀x,op.act.touch? = some x→eW size' x.loc∧(snL Sn x.loc→x.kind≠.plain):=fun op hop=>by
  obtain ⟨e,he,rfl⟩:=Conc.mem_ofEvents hop
  exact ⟨rfl,hes e he⟩
 have kno:∀j x,(t++MemOp.ofEvents 0 fn pos es)[j]? = some x→x ∈ MemOp.ofEvents 0 fn pos es→Knows (t++MemOp.ofEvents 0 fn pos es) 0 j:=fun j x hx hxu=>by
  have:=knows_own hx
  rw[(key x hxu).1] at this
  exact this
 refine ⟨hlv,fun said=>noRace_append (h.clean said) (fun op hop=>(key op hop).1) fun i a ha op hop b hb hc=>?_,by rw[Deaf_own,h.df],fun j x a hx ha hn=>?_,fun j x a hx ha hn=>?_,fun j a ha=>?_,fun j x hx=>?_⟩
 ·obtain ⟨x,hx,hxa⟩:=touch_of ha
  by_cases hn:snL Sn a.loc
  ·obtain ⟨h1,h2⟩:=h.sn i x a hx hxa hn
   have h3:=((key op hop).2.2 b hb).2 (by rw[←hc.1];exact hn)
   rcases hc.2.2.2 with h4 | h4 | ⟨_,h4,_⟩
   ·exact absurd h4 h1
   ·exact absurd h4 h3
   ·have:=knows_own hx
    rw[h2 h4] at this
    exact this
  ·exact h.kn i x a hx hxa (.inl hn)
 ·rcases getElem?_append_cases hx with ⟨_,hx'⟩ | ⟨_,hxu⟩
  ·exact (h.kn j x a hx' ha (hn.old (lt_size_of_getElem? hx'))).app _
  ·exact kno j x hx hxu
 ·rcases getElem?_append_cases hx with ⟨_,hx'⟩ | ⟨_,hxu⟩
  ·exact h.sn j x a hx' ha hn
  ·exact ⟨((key x hxu).2.2 a ha).2 hn,fun _=>(key x hxu).1⟩
 ·obtain ⟨x,hx,hxa⟩:=touch_of ha
  rcases getElem?_append_cases hx with ⟨_,hx'⟩ | ⟨_,hxu⟩
  ·exact ir hs (h.low j a (by rw[touchAt_of hx'];exact hxa))
  ·exact ((key x hxu).2.2 a hxa).1
 ·rcases getElem?_append_cases hx with ⟨_,hx'⟩ | ⟨_,hxu⟩
  ·exact h.nor j x hx'
  ·exact (key x hxu).2.1
theorem aX {u:Trace} (hn:∀op ∈ u,op.act.touch? = none) {j:Nat} {x:MemOp} {a:Touch} (hx:(t++u)[j]? = some x) (ha:x.act.touch? = some a):t[j]? = some x:=by
 rcases getElem?_append_cases hx with ⟨_,hx'⟩ | ⟨_,hxu⟩
 ·exact hx'
 ·rw[hn x hxu] at ha;cases ha
theorem lO {u:Trace} {said:Bool} (hc:¬Race said t) (hn:∀op ∈ u,op.act.touch? = none):¬Race said (t++u):=by
 rintro ⟨i,j,hij,⟨a,b,ha,hb,hk⟩,n1,n2⟩
 obtain ⟨x,hx,hxa⟩:=touch_of ha
 obtain ⟨y,hy,hyb⟩:=touch_of hb
 have hx':=aX hn hx hxa
 have hy':=aX hn hy hyb
 exact hc ⟨i,j,hij,⟨a,b,by simp[Trace.act?,hx',hxa],by simp[Trace.act?,hy',hyb],hk⟩,fun e=>n1 (hb_app u e),fun e=>n2 (hb_app u e)⟩
theorem Qs.mute (h:Qs P Sn gs t q d size) {i:Nat} {fn:FuncId} {pos:String} {es:Array Event} (hi:i≠0) (hm:∀e ∈ es,e.mute=true) (hlv:Leavers P (t++MemOp.ofEvents i fn pos es) gs' q'):Qs P Sn gs' (t++MemOp.ofEvents i fn pos es) q' d size:=by
 have hn:∀op ∈ MemOp.ofEvents i fn pos es,op.act.touch? = none:=fun op hop=>by
  obtain ⟨e,he,rfl⟩:=Conc.mem_ofEvents hop
  exact touch_mute (hm e he)
 refine ⟨hlv,fun said=>lO (h.clean said) hn,?_,fun j x a hx ha h3=>(h.kn j x a (aX hn hx ha) ha (h3.old (lt_size_of_getElem? (aX hn hx ha)))).app _,fun j x a hx ha h3=>h.sn j x a (aX hn hx ha) ha h3,fun j a ha=>?_,fun j x hx=>?_⟩
 ·rw[Deaf_other t hi _ (fun op hop=>by obtain ⟨e,_,rfl⟩:=Conc.mem_ofEvents hop;rfl)]
  exact h.df
 ·obtain ⟨x,hx,hxa⟩:=touch_of ha
  exact h.low j a (by rw[touchAt_of (aX hn hx hxa)];exact hxa)
 ·rcases getElem?_append_cases hx with ⟨_,hx'⟩ | ⟨_,hxu⟩
  ·exact h.nor j x hx'
  ·obtain ⟨e,he,rfl⟩:=Conc.mem_ofEvents hxu
   have:=hm e he
   obtain ⟨loc,a,b⟩:=e
   cases loc with
   | mark m=>cases m <;> simp_all [Event.mute,MemAct.ofEvent,eL]
   | _=>simp_all [Event.mute,MemAct.ofEvent]
theorem gO (h:Leavers P t gs q) (hp:0<gs.size) {g':Goroutine} (fn:FuncId) (pos:String) (es:Array Event):Leavers P (t++MemOp.ofEvents 0 fn pos es) (gs.setIfInBounds 0 g') q:=by
 have hd:∀j,j≠0→Deaf (t++MemOp.ofEvents 0 fn pos es) j=Deaf t j:=fun j hj=>Deaf_other t (fun e=>hj e.symm) _ (fun op hop=>by obtain ⟨e,_,rfl⟩:=Conc.mem_ofEvents hop;rfl)
 refine ⟨fun i g hi hg=>?_,fun j hj=>?_⟩
 ·rw[Array.getElem?_setIfInBounds_ne (by omega)] at hg
  rw[hd i (by omega)]
  exact h.old i g hi hg
 ·rw[Array.size_setIfInBounds] at hj
  rw[hd j (by omega)]
  exact h.above j hj
theorem jR (h:Leavers P t gs q) {i n:Nat} {x x':Goroutine} (hi:0<i) (hx:gs[i]? = some x) (fn:FuncId) (pos:String) {es:Array Event} (hq:QuitsD P n (deafBehind (Deaf t i) es) x'):Leavers P (t++MemOp.ofEvents i fn pos es) (gs.setIfInBounds i x') (upd q i n):=by
 have hd:∀j,j≠i→Deaf (t++MemOp.ofEvents i fn pos es) j=Deaf t j:=fun j hj=>Deaf_other t (fun e=>hj e.symm) _ (fun op hop=>by obtain ⟨e,_,rfl⟩:=Conc.mem_ofEvents hop;rfl)
 refine ⟨fun j g hj hg=>?_,fun j hj=>?_⟩
 ·by_cases e:j=i
  ·subst e
   rw[Array.getElem?_setIfInBounds_self_of_lt (bf hx)] at hg
   cases hg
   rw[upd_same,Deaf_own]
   exact hq
  ·rw[Array.getElem?_setIfInBounds_ne (fun e'=>e e'.symm)] at hg
   rw[upd_ne _ _ e,hd j e]
   exact h.old j g hj hg
 ·rw[Array.size_setIfInBounds] at hj
  rw[hd j (by have:=bf hx;omega)]
  exact h.above j hj
theorem iD {α:Type} {r:α→α→Prop} (wf:WellFounded r) (I:α→Nat→Goroutine→World→Prop) (Q:Nat→Goroutine→World→Prop) (hI:∀μ d g w k,I μ d g w→I μ d g (w.at k)) (hQ:∀d g w k,Q d g (w.at k)→Q d g w) (hrun:∀μ d g w,I μ d g w→g.status=.running)
  (hstep:∀μ d g w,I μ d g w→Q d g w∨∃g' w' es μ',stepG P true g w=.go g' w' es∧r μ' μ∧I μ' (deafBehind d es) g' w'∧w.heap.size≤w'.heap.size∧∀e ∈ es,EvS Sn w'.heap.size e) {μ:α} {g:Goroutine} {w:World} {sl:Option (Nat × Nat)} (h0:gs[0]? = some g) (hi:I μ d g w) (hq:Qs P Sn gs t q d w.heap.size) :
  ∃N gs' w' sl' t' q' d' g',runNT P N (crowd gs w sl) t=(.next (crowd gs' w' sl'),t')∧gs'.size=gs.size∧gs'[0]? = some g'∧Q d' g' w'∧Qs P Sn gs' t' q' d' w'.heap.size:=by
 have key:=ga (P:=P) (Prod.lex ⟨r,wf⟩ ⟨_,Nat.lt_wfRel.wf⟩).wf (fun (μ:α × Nat) m t=>∃gs' w sl q d g,m=crowd gs' w sl∧gs'.size=gs.size∧gs'[0]? = some g∧I μ.1 d g w∧Qs P Sn gs' t q d w.heap.size∧μ.2=sumTo gs'.size q)
  (fun m t=>∃gs' w sl q d g,m=crowd gs' w sl∧gs'.size=gs.size∧gs'[0]? = some g∧Q d g w∧Qs P Sn gs' t q d w.heap.size) ?_ (μ,sumTo gs.size q) _ t ⟨gs,w,sl,q,d,g,rfl,rfl,h0,hi,hq,rfl⟩
 ·obtain ⟨N,m',t',h1,gs',w',sl',q',d',g',rfl,h2,h3,h4,h5⟩:=key
  exact ⟨N,gs',w',sl',t',q',d',g',h1,h2,h3,h4,h5⟩
 ·rintro ⟨μ,k⟩ m t ⟨gs,w,sl,q,d,g,rfl,hsz,h0,hi,hq,rfl⟩
  have hg:=hrun μ d g w hi
  have haw:∀x ∈ gs,awake x:=fun x hx=>by
   obtain ⟨i,hlt,rfl⟩:=Array.mem_iff_getElem.1 hx
   rcases Nat.eq_zero_or_pos i with rfl | hp
   ·have:gs[0]=g:=by simpa [Array.getElem?_eq_getElem hlt] using h0
    rw[this];exact awake_of (.inl hg)
   ·rcases (hq.lv.old i _ hp (Array.getElem?_eq_getElem hlt)).status with h3 | h3
    ·exact awake_of (.inl h3)
    ·exact awake_of (.inr (.inr h3))
  obtain ⟨i,x,k,sl',hx,hxr,hst⟩:=crowd_pick (P:=P) (w:=w) (sl:=sl) haw ⟨0,g,h0,hg⟩
  have quiet:∀(a a' y:Goroutine) (w':World) (j:Nat),(gs.map (woken P a a' w')).setIfInBounds j y=gs.setIfInBounds j y:=fun a a' y w' j=>gB fun k z _ hz=>by
   rcases Nat.eq_zero_or_pos k with rfl | hp
   ·rw[h0] at hz
    cases hz
    exact woken_running hg
   ·exact woken_quitsD (hq.lv.old k z hp hz)
  rcases Nat.eq_zero_or_pos i with rfl | hp
  ·rw[h0] at hx
   cases hx
   rcases hstep μ d g (w.at k) (hI μ d g w k hi) with h1 | ⟨g',w',es,μ',h1,h2,h3,h4,h5⟩
   ·exact .inl ⟨gs,w,sl,q,d,g,rfl,hsz,h0,hQ d g w k h1,hq⟩
   ·have hr:=runT_crowd_go (P:=P) (sl:=sl') (i:=0) h0 (show stepG P (0==0) g (w.at k)=_ from h1)
    rw[quiet] at hr
    exact .inr ⟨_,_,(μ',sumTo gs.size q),hst.trans hr,Prod.Lex.left _ _ h2,_,w',sl',q,_,g',rfl,by rw[Array.size_setIfInBounds];exact hsz,Array.getElem?_setIfInBounds_self_of_lt (bf h0),h3,hq.own h4 h5 (gO hq.lv (bf h0) _ _ _),by rw[Array.size_setIfInBounds]⟩
  ·have hqi:=hq.lv.old i x hp hx
   cases hqe:q i with
   | zero =>
    rw[hqe] at hqi
    rw[hqi.1] at hxr;cases hxr
   | succ n =>
    rw[hqe] at hqi
    rcases hqi with ⟨hf,_⟩ | ⟨_,x',es,hm,hstp,hq'⟩
    ·rw[hxr] at hf;cases hf
    ·have hr:=runT_crowd_go (P:=P) (sl:=sl') (i:=i) hx (by rw[show (i==0)=false by simp;omega];exact hstp (w.at k))
     rw[quiet] at hr
     have hsum:sumTo gs.size (upd q i n)+(n+1)=sumTo gs.size q+n:=by
      have:=sumTo_upd q n id (bf hx)
      simpa [hqe] using this
     refine .inr ⟨_,_,(μ,sumTo gs.size (upd q i n)),hst.trans hr,Prod.Lex.right _ (show _<_ by omega),_,w.at k,sl',upd q i n,d,g,rfl,by rw[Array.size_setIfInBounds];exact hsz,?_,hI μ d g w k hi,hq.mute (by omega) hm (jR hq.lv hp hx _ _ hq'),by rw[Array.size_setIfInBounds]⟩
     rw[Array.getElem?_setIfInBounds_ne (by omega)];exact h0
def DS (Sn:Nat→Prop) (w w':World) (es:Array Event):Prop:=w.heap.size≤w'.heap.size∧∀e ∈ es,EvS Sn w'.heap.size e∧e.loc≠.mark .disable∧e.loc≠.mark .enable
theorem cL {D:World→World→Array Event→Prop} {Stp:Goroutine→World→Prop} (hD:∀w w' es,D w w' es→DS Sn w w' es) (hS:∀g w,Stp g w→g.status=.running) {m:Nat} {g:Goroutine} {w:World} {sl:Option (Nat × Nat)} (h0:gs[0]? = some g) (hG:Goes P true AtRel D Stp m g w) (hq:Qs P Sn gs t q d w.heap.size) :
  ∃N gs' w' sl' t' q' g',runNT P N (crowd gs w sl) t=(.next (crowd gs' w' sl'),t')∧gs'.size=gs.size∧gs'[0]? = some g'∧Stp g' w'∧Qs P Sn gs' t' q' d w'.heap.size:=by
 have a1:∀(μ:Nat) (d':Nat) g' w' k,(d'=d∧Goes P true AtRel D Stp μ g' w')→(d'=d∧Goes P true AtRel D Stp μ g' (w'.at k)):=fun μ d' g' w' k h=>⟨h.1,Goes.rely atRel_trans h.2 ⟨k,rfl⟩⟩
 have a4:∀(μ:Nat) (d':Nat) g' w',(d'=d∧Goes P true AtRel D Stp μ g' w')→(d'=d∧∀k,Stp g' (w'.at k))∨∃g2 w2 es μ',stepG P true g' w'=.go g2 w2 es∧μ'<μ∧(deafBehind d' es=d∧Goes P true AtRel D Stp μ' g2 w2)∧w'.heap.size≤w2.heap.size∧∀e ∈ es,EvS Sn w2.heap.size e:=fun μ d' g' w' h=>by
  obtain ⟨rfl,h⟩:=h
  rcases h.cases with h1 | ⟨m',rfl,h1⟩
  ·exact .inl ⟨rfl,fun k=>h1 _ ⟨k,rfl⟩⟩
  ·obtain ⟨g2,w2,es,k1,k2,k3⟩:=h1 w' (atRel_refl w')
   obtain ⟨k4,k5⟩:=hD _ _ _ k2
   exact .inr ⟨g2,w2,es,m',k1,Nat.lt_succ_self _,⟨deafBehind_still (fun e he=>(k5 e he).2) _,k3⟩,k4,fun e he=>(k5 e he).1⟩
 obtain ⟨N,gs',w',sl',t',q',d',g',h1,h2,h3,⟨rfl,h4⟩,h5⟩:=iD (P:=P) Nat.lt_wfRel.wf (fun μ d' g' w'=>d'=d∧Goes P true AtRel D Stp μ g' w') (fun d' g' w'=>d'=d∧∀k,Stp g' (w'.at k)) a1 (fun d' g' w' k h=>h) (fun μ d' g' w' h=>h.2.running hS w' (atRel_refl w')) a4 (sl:=sl) h0 ⟨rfl,hG⟩ hq
 exact ⟨N,gs',w',sl',t',q',g',h1,h2,h3,h4 w'.drawn,h5⟩
theorem AW {g:Goroutine} {w:World} {sl:Option (Nat × Nat)} {R:World→Goroutine→World→Array Event→Prop} (h0:gs[0]? = some g) (hr:g.status=.running) (hs:∀k,∃g' w' es,stepG P true g (w.at k)=.go g' w' es∧g'.status=.running∧w.heap.size≤w'.heap.size∧(∀e ∈ es,EvS Sn w'.heap.size e)∧R (w.at k) g' w' es) (hR:∀w1 g' w' es k,R w1 g' w' es→R w1 g' (w'.at k) es) (hq:Qs P Sn gs t q d w.heap.size) :
  ∃N gs' w' sl' t' q' g' k es,runNT P N (crowd gs w sl) t=(.next (crowd gs' w' sl'),t')∧gs'.size=gs.size∧gs'[0]? = some g'∧R (w.at k) g' w' es∧g'.status=.running∧Qs P Sn gs' t' q' (deafBehind d es) w'.heap.size:=by
 let I:Bool→Nat→Goroutine→World→Prop:=fun b d' g' w'=>match b with
  | true=>d'=d∧g'=g∧∃k,w'=w.at k
  | false=>g'.status=.running∧∃k es,d'=deafBehind d es∧R (w.at k) g' w' es
 have wf:WellFounded (fun a b:Bool=>a=false∧b=true):=⟨fun a=>by
  have h1:Acc (fun a b:Bool=>a=false∧b=true) false:=Acc.intro _ fun y hy=>by cases hy.2
  cases a with
  | false=>exact h1
  | true=>exact Acc.intro _ fun y hy=>by rw[hy.1];exact h1⟩
 obtain ⟨N,gs',w',sl',t',q',d',g',h1,h2,h3,⟨h4,k,es,rfl,h5⟩,h6⟩:=iD (P:=P) (Sn:=Sn) wf I (fun d' g' w'=>I false d' g' w') (fun μ d' g' w' k h=>by
   cases μ with
   | true=>obtain ⟨h1,h2,j,h3⟩:=h;exact ⟨h1,h2,k,by rw[h3];rfl⟩
   | false=>obtain ⟨h1,j,es,h2,h3⟩:=h;exact ⟨h1,j,es,h2,hR _ _ _ _ k h3⟩) (fun d' g' w' k h=>by
   obtain ⟨h1,j,es,h2,h3⟩:=h
   have:=hR _ _ _ _ w'.drawn h3
   exact ⟨h1,j,es,h2,this⟩) (fun μ d' g' w' h=>by
   cases μ with
   | true=>rw[h.2.1];exact hr
   | false=>exact h.1) (fun μ d' g' w' h=>by
   cases μ with
   | false=>exact .inl h
   | true =>
    obtain ⟨rfl,rfl,j,rfl⟩:=h
    obtain ⟨g2,w2,es,k1,k2,k3,k4,k5⟩:=hs j
    exact .inr ⟨g2,w2,es,false,k1,⟨rfl,rfl⟩,⟨k2,j,es,rfl,k5⟩,k3,k4⟩) (μ:=true) (sl:=sl) h0 ⟨rfl,rfl,w.drawn,rfl⟩ hq
 exact ⟨N,gs',w',sl',t',q',g',k,es,h1,h2,h3,h5,h4,h6⟩
theorem yf {Pl:Touch→Prop} (hp:∀j a,touchAt t j=some a→Pl a) {i:Nat} {fn:FuncId} {pos:String} {es:Array Event} (he:∀e ∈ es,∀x,(MemAct.ofEvent e).touch? = some x→Pl x):∀j a,touchAt (t++MemOp.ofEvents i fn pos es) j=some a→Pl a:=fun j a ha=>by
 obtain ⟨x,hx,hxa⟩:=touch_of ha
 rcases getElem?_append_cases hx with ⟨_,hx'⟩ | ⟨_,hxu⟩
 ·exact hp j a (by rw[touchAt_of hx'];exact hxa)
 ·obtain ⟨e,h1,rfl⟩:=Conc.mem_ofEvents hxu
  exact he e h1 a hxa
theorem ql {Pl:Touch→Prop} {α:Type} {r:α→α→Prop} (wf:WellFounded r) (I:α→Nat→Goroutine→World→Prop) (Q:Nat→Goroutine→World→Prop) (hI:∀μ d g w k,I μ d g w→I μ d g (w.at k)) (hQ:∀d g w k,Q d g (w.at k)→Q d g w) (hrun:∀μ d g w,I μ d g w→g.status=.running)
  (hstep:∀μ d g w,I μ d g w→Q d g w∨∃g' w' es μ',stepG P true g w=.go g' w' es∧r μ' μ∧I μ' (deafBehind d es) g' w'∧w.heap.size≤w'.heap.size∧∀e ∈ es,EvS Sn w'.heap.size e∧∀x,(MemAct.ofEvent e).touch? = some x→Pl x) {μ:α} {g:Goroutine} {w:World} {sl:Option (Nat × Nat)} (h0:gs[0]? = some g) (hi:I μ d g w) (hq:Qs P Sn gs t q d w.heap.size) (hp:∀j a,touchAt t j=some a→Pl a) :
  ∃N gs' w' sl' t' q' d' g',runNT P N (crowd gs w sl) t=(.next (crowd gs' w' sl'),t')∧gs'.size=gs.size∧gs'[0]? = some g'∧Q d' g' w'∧Qs P Sn gs' t' q' d' w'.heap.size∧∀j a,touchAt t' j=some a→Pl a:=by
 have key:=ga (P:=P) (Prod.lex ⟨r,wf⟩ ⟨_,Nat.lt_wfRel.wf⟩).wf (fun (μ:α × Nat) m t=>∃gs' w sl q d g,m=crowd gs' w sl∧gs'.size=gs.size∧gs'[0]? = some g∧I μ.1 d g w∧Qs P Sn gs' t q d w.heap.size∧(∀j a,touchAt t j=some a→Pl a)∧μ.2=sumTo gs'.size q)
  (fun m t=>∃gs' w sl q d g,m=crowd gs' w sl∧gs'.size=gs.size∧gs'[0]? = some g∧Q d g w∧Qs P Sn gs' t q d w.heap.size∧(∀j a,touchAt t j=some a→Pl a)) ?_ (μ,sumTo gs.size q) _ t ⟨gs,w,sl,q,d,g,rfl,rfl,h0,hi,hq,hp,rfl⟩
 ·obtain ⟨N,m',t',h1,gs',w',sl',q',d',g',rfl,h2,h3,h4,h5,h6⟩:=key
  exact ⟨N,gs',w',sl',t',q',d',g',h1,h2,h3,h4,h5,h6⟩
 ·rintro ⟨μ,k⟩ m t ⟨gs,w,sl,q,d,g,rfl,hsz,h0,hi,hq,hp,rfl⟩
  have hg:=hrun μ d g w hi
  have haw:∀x ∈ gs,awake x:=fun x hx=>by
   obtain ⟨i,hlt,rfl⟩:=Array.mem_iff_getElem.1 hx
   rcases Nat.eq_zero_or_pos i with rfl | hpo
   ·have:gs[0]=g:=by simpa [Array.getElem?_eq_getElem hlt] using h0
    rw[this];exact awake_of (.inl hg)
   ·rcases (hq.lv.old i _ hpo (Array.getElem?_eq_getElem hlt)).status with h3 | h3
    ·exact awake_of (.inl h3)
    ·exact awake_of (.inr (.inr h3))
  obtain ⟨i,x,k,sl',hx,hxr,hst⟩:=crowd_pick (P:=P) (w:=w) (sl:=sl) haw ⟨0,g,h0,hg⟩
  have quiet:∀(a a' y:Goroutine) (w':World) (j:Nat),(gs.map (woken P a a' w')).setIfInBounds j y=gs.setIfInBounds j y:=fun a a' y w' j=>gB fun k z _ hz=>by
   rcases Nat.eq_zero_or_pos k with rfl | hpo
   ·rw[h0] at hz
    cases hz
    exact woken_running hg
   ·exact woken_quitsD (hq.lv.old k z hpo hz)
  rcases Nat.eq_zero_or_pos i with rfl | hpo
  ·rw[h0] at hx
   cases hx
   rcases hstep μ d g (w.at k) (hI μ d g w k hi) with h1 | ⟨g',w',es,μ',h1,h2,h3,h4,h5⟩
   ·exact .inl ⟨gs,w,sl,q,d,g,rfl,hsz,h0,hQ d g w k h1,hq,hp⟩
   ·have hr:=runT_crowd_go (P:=P) (sl:=sl') (i:=0) h0 (show stepG P (0==0) g (w.at k)=_ from h1)
    rw[quiet] at hr
    exact .inr ⟨_,_,(μ',sumTo gs.size q),hst.trans hr,Prod.Lex.left _ _ h2,_,w',sl',q,_,g',rfl,by rw[Array.size_setIfInBounds];exact hsz,Array.getElem?_setIfInBounds_self_of_lt (bf h0),h3,hq.own h4 (fun e he=>(h5 e he).1) (gO hq.lv (bf h0) _ _ _),yf hp (fun e he=>(h5 e he).2),by rw[Array.size_setIfInBounds]⟩
  ·have hqi:=hq.lv.old i x hpo hx
   cases hqe:q i with
   | zero =>
    rw[hqe] at hqi
    rw[hqi.1] at hxr;cases hxr
   | succ n =>
    rw[hqe] at hqi
    rcases hqi with ⟨hf,_⟩ | ⟨_,x',es,hm,hstp,hq'⟩
    ·rw[hxr] at hf;cases hf
    ·have hr:=runT_crowd_go (P:=P) (sl:=sl') (i:=i) hx (by rw[show (i==0)=false by simp;omega];exact hstp (w.at k))
     rw[quiet] at hr
     have hsum:sumTo gs.size (upd q i n)+(n+1)=sumTo gs.size q+n:=by
      have:=sumTo_upd q n id (bf hx)
      simpa [hqe] using this
     refine .inr ⟨_,_,(μ,sumTo gs.size (upd q i n)),hst.trans hr,Prod.Lex.right _ (show _<_ by omega),_,w.at k,sl',upd q i n,d,g,rfl,by rw[Array.size_setIfInBounds];exact hsz,?_,hI μ d g w k hi,hq.mute (by omega) hm (jR hq.lv hpo hx _ _ hq'),yf hp (fun e he x hx=>by rw[touch_mute (hm e he)] at hx;cases hx),by rw[Array.size_setIfInBounds]⟩
     rw[Array.getElem?_setIfInBounds_ne (by omega)];exact h0
theorem ez {Pl:Touch→Prop} {D:World→World→Array Event→Prop} {Stp:Goroutine→World→Prop} (hD:∀w w' es,D w w' es→DS Sn w w' es∧∀e ∈ es,∀x,(MemAct.ofEvent e).touch? = some x→Pl x) (hS:∀g w,Stp g w→g.status=.running) {m:Nat} {g:Goroutine} {w:World} {sl:Option (Nat × Nat)} (h0:gs[0]? = some g) (hG:Goes P true AtRel D Stp m g w) (hq:Qs P Sn gs t q d w.heap.size) (hp:∀j a,touchAt t j=some a→Pl a) :
  ∃N gs' w' sl' t' q' g',runNT P N (crowd gs w sl) t=(.next (crowd gs' w' sl'),t')∧gs'.size=gs.size∧gs'[0]? = some g'∧Stp g' w'∧Qs P Sn gs' t' q' d w'.heap.size∧∀j a,touchAt t' j=some a→Pl a:=by
 have a1:∀(μ:Nat) (d':Nat) g' w' k,(d'=d∧Goes P true AtRel D Stp μ g' w')→(d'=d∧Goes P true AtRel D Stp μ g' (w'.at k)):=fun μ d' g' w' k h=>⟨h.1,Goes.rely atRel_trans h.2 ⟨k,rfl⟩⟩
 have a4:∀(μ:Nat) (d':Nat) g' w',(d'=d∧Goes P true AtRel D Stp μ g' w')→(d'=d∧∀k,Stp g' (w'.at k))∨∃g2 w2 es μ',stepG P true g' w'=.go g2 w2 es∧μ'<μ∧(deafBehind d' es=d∧Goes P true AtRel D Stp μ' g2 w2)∧w'.heap.size≤w2.heap.size∧∀e ∈ es,EvS Sn w2.heap.size e∧∀x,(MemAct.ofEvent e).touch? = some x→Pl x:=fun μ d' g' w' h=>by
  obtain ⟨rfl,h⟩:=h
  rcases h.cases with h1 | ⟨m',rfl,h1⟩
  ·exact .inl ⟨rfl,fun k=>h1 _ ⟨k,rfl⟩⟩
  ·obtain ⟨g2,w2,es,k1,k2,k3⟩:=h1 w' (atRel_refl w')
   obtain ⟨⟨k4,k5⟩,k6⟩:=hD _ _ _ k2
   exact .inr ⟨g2,w2,es,m',k1,Nat.lt_succ_self _,⟨deafBehind_still (fun e he=>(k5 e he).2) _,k3⟩,k4,fun e he=>⟨(k5 e he).1,k6 e he⟩⟩
 obtain ⟨N,gs',w',sl',t',q',d',g',h1,h2,h3,⟨rfl,h4⟩,h5,h6⟩:=ql (Pl:=Pl) (P:=P) Nat.lt_wfRel.wf (fun μ d' g' w'=>d'=d∧Goes P true AtRel D Stp μ g' w') (fun d' g' w'=>d'=d∧∀k,Stp g' (w'.at k)) a1 (fun d' g' w' k h=>h) (fun μ d' g' w' h=>h.2.running hS w' (atRel_refl w')) a4 (sl:=sl) h0 ⟨rfl,hG⟩ hq hp
 exact ⟨N,gs',w',sl',t',q',g',h1,h2,h3,h4 w'.drawn,h5,h6⟩
theorem qg {Pl:Touch→Prop} {g:Goroutine} {w:World} {sl:Option (Nat × Nat)} {R:World→Goroutine→World→Array Event→Prop} (h0:gs[0]? = some g) (hr:g.status=.running) (hs:∀k,∃g' w' es,stepG P true g (w.at k)=.go g' w' es∧g'.status=.running∧w.heap.size≤w'.heap.size∧(∀e ∈ es,EvS Sn w'.heap.size e∧∀x,(MemAct.ofEvent e).touch? = some x→Pl x)∧R (w.at k) g' w' es) (hR:∀w1 g' w' es k,R w1 g' w' es→R w1 g' (w'.at k) es) (hq:Qs P Sn gs t q d w.heap.size) (hp:∀j a,touchAt t j=some a→Pl a) :
  ∃N gs' w' sl' t' q' g' k es,runNT P N (crowd gs w sl) t=(.next (crowd gs' w' sl'),t')∧gs'.size=gs.size∧gs'[0]? = some g'∧R (w.at k) g' w' es∧g'.status=.running∧Qs P Sn gs' t' q' (deafBehind d es) w'.heap.size∧∀j a,touchAt t' j=some a→Pl a:=by
 let I:Bool→Nat→Goroutine→World→Prop:=fun b d' g' w'=>match b with
  | true=>d'=d∧g'=g∧∃k,w'=w.at k
  | false=>g'.status=.running∧∃k es,d'=deafBehind d es∧R (w.at k) g' w' es
 have wf:WellFounded (fun a b:Bool=>a=false∧b=true):=⟨fun a=>by
  have h1:Acc (fun a b:Bool=>a=false∧b=true) false:=Acc.intro _ fun y hy=>by cases hy.2
  cases a with
  | false=>exact h1
  | true=>exact Acc.intro _ fun y hy=>by rw[hy.1];exact h1⟩
 obtain ⟨N,gs',w',sl',t',q',d',g',h1,h2,h3,⟨h4,k,es,rfl,h5⟩,h6,h7⟩:=ql (Pl:=Pl) (P:=P) (Sn:=Sn) wf I (fun d' g' w'=>I false d' g' w') (fun μ d' g' w' k h=>by
   cases μ with
   | true=>obtain ⟨h1,h2,j,h3⟩:=h;exact ⟨h1,h2,k,by rw[h3];rfl⟩
   | false=>obtain ⟨h1,j,es,h2,h3⟩:=h;exact ⟨h1,j,es,h2,hR _ _ _ _ k h3⟩) (fun d' g' w' k h=>by
   obtain ⟨h1,j,es,h2,h3⟩:=h
   have:=hR _ _ _ _ w'.drawn h3
   exact ⟨h1,j,es,h2,this⟩) (fun μ d' g' w' h=>by
   cases μ with
   | true=>rw[h.2.1];exact hr
   | false=>exact h.1) (fun μ d' g' w' h=>by
   cases μ with
   | false=>exact .inl h
   | true =>
    obtain ⟨rfl,rfl,j,rfl⟩:=h
    obtain ⟨g2,w2,es,k1,k2,k3,k4,k5⟩:=hs j
    exact .inr ⟨g2,w2,es,false,k1,⟨rfl,rfl⟩,⟨k2,j,es,rfl,k5⟩,k3,k4⟩) (μ:=true) (sl:=sl) h0 ⟨rfl,rfl,w.drawn,rfl⟩ hq hp
 exact ⟨N,gs',w',sl',t',q',g',k,es,h1,h2,h3,h5,h4,h6,h7⟩
theorem Bc (P:Program) (g:Goroutine) (q:Nat→Nat) (size:Nat):Qs P Sn #[g] #[] q 0 size :=
 ⟨⟨fun i x h1 h2=>by have:=bf h2;simp at this;omega,fun _ _=>rfl⟩,past_nil.clean,rfl,fun j x a hx=>by simp at hx,fun j x a hx=>by simp at hx,(fun j a ha=>by obtain ⟨x,hx,_⟩:=touch_of ha;simp at hx),fun j x hx=>by simp at hx⟩
theorem Qs.D4 {Sn':Nat→Prop} (h:Qs P Sn gs t q d size) (hs:∀b,Sn b→Sn' b) (hn:∀(j:Nat) (x:MemOp) (a:Touch),t[j]? = some x→x.act.touch? = some a→snL Sn' a.loc→snL Sn a.loc):Qs P Sn' gs t q d size :=
 ⟨h.lv,h.clean,h.df,fun j x a hx ha h1=>h.kn j x a hx ha (h1.elim (fun h1=>.inl fun h2=>h1 (by
  cases hl:a.loc with
  | cell b=>rw[hl] at h2;exact hs _ h2
  | obj b=>rw[hl] at h2;exact hs _ h2
  | output=>rw[hl] at h2;exact h2
  | goroutines=>rw[hl] at h2;exact h2
  | mark m=>rw[hl] at h2;exact h2)) .inr),fun j x a hx ha h1=>h.sn j x a hx ha (hn j x a hx ha h1),h.low,h.nor⟩
end
variable [Fns]
section
variable {P:Program} {Sn:Nat→Prop}
theorem mV {E:Env} {wl w:World} (hw:WR P E wl w) (hn:∀b x,E b=some x→¬Sn x.1) {e:Event} (h:ef E e):EvS Sn w.heap.size e∧e.loc≠.mark .disable∧e.loc≠.mark .enable:=by
 obtain ⟨h1,h2⟩:=x8 hw h
 refine ⟨⟨?_,fun x hx=>⟨h1 x hx,fun hs=>?_⟩⟩,?_,?_⟩
 ·cases h with
  | read hE=>exact fun e=>by cases e
  | write hE=>exact fun e=>by cases e
  | @obj r b s wr hE=>cases wr <;> exact fun e=>by cases e
  | noRoom=>exact fun e=>by cases e
 ·exfalso
  cases h with
  | read hE=>cases hx;exact hn _ _ hE hs
  | write hE=>cases hx;exact hn _ _ hE hs
  | @obj r b s wr hE =>
   have e1:MemAct.ofEvent ⟨.obj r,wr,false⟩=.access ⟨.obj r,wr,false⟩:=by cases wr <;> rfl
   rw[e1] at hx;cases hx;exact hn _ _ hE hs
  | noRoom=>cases hx
 ·cases h <;> exact fun e=>by cases e
 ·cases h <;> exact fun e=>by cases e
end
end Cs
end Go.Proofs.Ytpdemelchhkfaaa
