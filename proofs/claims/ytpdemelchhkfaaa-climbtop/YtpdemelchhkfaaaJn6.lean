import Derived.Test.YtpdemelchhkfaaaJn5
namespace Go.Proofs.Ytpdemelchhkfaaa
namespace Cs
open Go.Conc
variable [Fns]
section
variable {P:Program} {E:Env} {cl c l l':List Frame} {wl w:World} {main:Bool}
omit [Fns] in
theorem eD {fn:FuncId} {x:Array Value} {ops:Array Oper} {i:Nat} {rest:List Nat} {k:List Item} {o:Oper} (ho:ops[i]? = some o) (hw:Region.wanted o (yielded ops x)=true):stepG P main (G (mkF fn x (.inRegion ops (i :: rest) :: k) .run) l) w=stepG.apply P true (mkF fn x (.inRegion ops (i :: rest) :: k) .run) l none (execOp (mkF fn x (.inRegion ops (i :: rest) :: k) .run).eval o) w:=by
 have h:=stepG_oper (P:=P) (main:=main) (b:=mkF fn x [] .run) (a:=⟨x,[]⟩) (k:=k) (cs:=l) (w:=w) (rest:=rest) ho hw
 have e:(⟨x,[]⟩:Act).eval=(mkF fn x (.inRegion ops (i :: rest) :: k) .run).eval:=by
  funext q
  cases q <;> rfl
 rw[e] at h
 exact h
omit [Fns] in
theorem cO {fn:FuncId} {x:Array Value} {ops:Array Oper} {i:Nat} {rest:List Nat} {k:List Item} (h:((ops[i]?).map (Region.wanted · (yielded ops x))).getD false=false):stepG P main (G (mkF fn x (.inRegion ops (i :: rest) :: k) .run) l) w=.go (G ((mkF fn x (.inRegion ops (i :: rest) :: k) .run).finish undef) l) w:=by
 simp only[G,stepG,stepG.exec,mkF,h,Bool.false_eq_true,if_false]
omit [Fns] in
theorem je {fn:FuncId} {x:Array Value} {ops:Array Oper} {i:Nat} {rest:List Nat} {k:List Item} {cs:List Frame} {s:Sem Next} {h:Halt} {w w':World} (hr:s.run P w=.halt h w') (hh:lJ h) :
  (∃o w2 es,stepG.apply P true (mkF fn x (.inRegion ops (i :: rest) :: k) .run) cs none s w=.ended o w2 es)∨∃chain w2 es,stepG.apply P true (mkF fn x (.inRegion ops (i :: rest) :: k) .run) cs none s w=.go (G (mkF fn x (.inRegion ops (i :: rest) :: k) (.panicking chain)) cs) w2 es:=by
 unfold stepG.apply
 cases h with
 | panic v=>exact .inr ⟨_,_,_,by simp only[if_true,Sem.runT_eq,hr,GStep.after];rfl⟩
 | stuck s=>exact .inl ⟨_,_,_,by simp only[if_true,Sem.runT_eq,hr,GStep.after];rfl⟩
 | unsupported u =>
  cases u with
  | initOrder g=>exact absurd rfl (hh g)
  | _=>exact .inl ⟨_,_,_,by simp only[if_true,Sem.runT_eq,hr,GStep.after];rfl⟩
 | _=>exact hh.elim
theorem jw {f:FuncId} (hC:bu P) (hf:Fns.ok f=true) {x y:Array Value} (h:LR E x y):∃x' y' todo,Frame.enter P f x .normal=mkF f x' todo .run∧Frame.enter P f y .normal=mkF f y' todo .run∧LR E x' y'∧todo.all (aK P)=true:=by
 obtain ⟨fn,body,h1,h2,h3,h4⟩:=hC f hf
 have hen:∀z:Array Value,Frame.enter P f z .normal=mkF f (z++Array.replicate (fn.ntmps-z.size) undef) [.code body] .run:=fun z=>by
  unfold Frame.enter mkF
  simp only[h1,h2,Option.bind_some,Option.getD_some,Option.map_some]
 refine ⟨_,_,_,hen x,hen y,?_,by simp[aK,h3]⟩
 rw[h.size]
 refine h.app ⟨by simp,fun i u v hu hv=>?_⟩
 rw[Array.getElem?_replicate] at hu hv
 split at hu
 ·rename_i hi
  rw[if_pos hi] at hv
  cases hu
  cases hv
  exact .mkTuple (LR.nil _)
 ·cases hu
theorem iG {fn:FuncId} {x y:Array Value} {todo:List Item} (hx:LR E x y) (ht:(pend todo).all (aK P)=true) {u v:Value} (hv:VR E u v):∃x' y' todo',(mkF fn x todo .run).finish u=mkF fn x' todo' .run∧(mkF fn y todo .run).finish v=mkF fn y' todo' .run∧LR E x' y'∧todo'.all (aK P)=true:=by
 cases todo with
 | nil=>exact ⟨x,y,[],rfl,rfl,hx,ht⟩
 | cons i k =>
  cases i with
  | inRegion ops t =>
   cases t with
   | nil=>exact ⟨x,y,_,rfl,rfl,hx,ht⟩
   | cons j rest =>
    refine ⟨_,_,_,eG _ _ _ _ _ _ _ _,eG _ _ _ _ _ _ _ _,rM hx hv _,?_⟩
    exact ht
  | code a=>exact ⟨x,y,_,rfl,rfl,hx,ht⟩
  | inBlock a=>exact ⟨x,y,_,rfl,rfl,hx,ht⟩
  | inLoop a=>exact ⟨x,y,_,rfl,rfl,hx,ht⟩
  | inScope a=>exact ⟨x,y,_,rfl,rfl,hx,ht⟩
  | _=>simp[pend,aK] at ht
theorem vX (hG:P.globals.size≤Fns.G) (hC:bu P) {fn:FuncId} {x y:Array Value} {ops:Array Oper} {i:Nat} {rest:List Nat} {k:List Item} (hf:dK P fn) (hx:LR E x y) (ht:(Item.inRegion ops (i :: rest) :: k).all (aK P)=true) (hcr:CR P E cl c l l') (hb:cT P E wl w) :
  tQ P E cl c main (G (mkF fn x (.inRegion ops (i :: rest) :: k) .run) l) (G (mkF fn y (.inRegion ops (i :: rest) :: k) .run) l') wl w∨kW P (G (mkF fn x (.inRegion ops (i :: rest) :: k) .run) l) wl:=by
 have hu:VR E undef undef:=.mkTuple (LR.nil _)
 cases hw:((ops[i]?).map (Region.wanted · (yielded ops x))).getD false
 ·obtain ⟨x',y',todo',e1,e2,e3,e4⟩:=iG (fn:=fn) hx (dx ht) hu
  have s1:=fun wl=>cO (P:=P) (main:=true) (fn:=fn) (l:=l) (w:=wl) (rest:=rest) (k:=k) hw
  have s2:=cO (P:=P) (main:=main) (fn:=fn) (l:=l') (w:=w) (rest:=rest) (k:=k) (x:=y) (by rw[←dN hx];exact hw)
  rw[e1] at s1
  rw[e2] at s2
  exact .inl ⟨_,_,_,E,_,_,_,s1 _,s2,.mk' hf e3 e4 (.inl rfl) hcr,hb,fun e he=>by simp at he,gK _,FC.refl _ _,Nat.le_refl _,rfl,fun _ _=>⟨_,s1 _⟩⟩
 ·cases ho:ops[i]? with
  | none=>rw[ho] at hw;cases hw
  | some o =>
   rw[ho] at hw
   have hw1:Region.wanted o (yielded ops x)=true:=hw
   have hok:fH P o.op=true:=by
    simp only[List.all_cons,Bool.and_eq_true,aK] at ht
    have h1:=ht.1.1
    rw[ho] at h1
    exact h1
   have s0:=fun wl=>eD (P:=P) (main:=true) (fn:=fn) (l:=l) (w:=wl) (rest:=rest) (k:=k) ho hw1
   have s1:=s0 wl
   have s2:=eD (P:=P) (main:=main) (fn:=fn) (l:=l') (w:=w) (rest:=rest) (k:=k) (x:=y) ho (by rw[←dN hx];exact hw1)
   have hout:=(iL hG hC.nW (eu (fn:=fn) (todo:=.inRegion ops (i :: rest) :: k) (mode:=.run) hx) o hok).run wl w #[] hb
   cases hr:(execOp (mkF fn x (.inRegion ops (i :: rest) :: k) .run).eval o).run P wl with
   | halt h w' =>
    rw[hr] at hout
    obtain ⟨f0,hfn⟩:=id hf
    rcases je (fn:=fn) (x:=x) (ops:=ops) (i:=i) (rest:=rest) (k:=k) (cs:=l) hr hout with ⟨a,b,d,e⟩ | ⟨ch,b,d,e⟩
    ·exact .inr (.inl ⟨a,b,d,by rw[s1];exact e⟩)
    ·exact .inr (.inr ⟨fn,x,_,ch,b,d,by rw[s1];exact e,f0,hfn⟩)
   | ok nx wl' =>
    rw[hr] at hout
    obtain ⟨E',a,w',es',h1,h2,h3,h4,h5⟩:=hout
    have hrl:(execOp (mkF fn x (.inRegion ops (i :: rest) :: k) .run).eval o).runT P wl #[]=(.ok nx wl',((execOp (mkF fn x (.inRegion ops (i :: rest) :: k) .run).eval o).runT P wl #[]).2):=by
     refine Prod.ext ?_ rfl
     rw[Sem.runT_fst]
     exact hr
    obtain ⟨q1,q2,q3⟩:=(iL hG hC.nW (eu (fn:=fn) (todo:=.inRegion ops (i :: rest) :: k) (mode:=.run) hx) o hok).loc wl w hb nx wl' hr
    have hrt:∀τ,(∀i q,wl.drawn≤i→i<wl'.drawn→τ i q=wl.tape i q)→(execOp (mkF fn x (.inRegion ops (i :: rest) :: k) .run).eval o).runT P (wl.tp τ) #[]=(.ok nx (wl'.tp τ),((execOp (mkF fn x (.inRegion ops (i :: rest) :: k) .run).eval o).runT P (wl.tp τ) #[]).2):=fun τ hτ=>by
     refine Prod.ext ?_ rfl
     rw[Sem.runT_fst]
     exact q3 τ hτ
    have evs:∀e ∈ seen P fn (#[]++es'),ef E' e:=fun e he=>h4 e (by simpa using mem_seen he)
    left
    cases h2 with
    | value hv =>
     obtain ⟨x',y',todo',e1,e2,e3,e4⟩:=iG (fn:=fn) (hx.mono h5.le) (dx ht) hv
     rw[aW hrl (.inl ⟨_,rfl⟩)] at s1
     rw[aW h1 (.inl ⟨_,rfl⟩)] at s2
     unfold upon at s1 s2
     dsimp only at s1 s2
     have sl:fN P _ wl _ wl':=⟨q1,q2,fun τ hτ=>⟨_,by rw[s0,aW (hrt τ hτ) (.inl ⟨_,rfl⟩)];rfl⟩⟩
     rw[e1] at s1 sl
     rw[e2] at s2
     exact ⟨_,_,_,E',_,_,_,s1,s2,.mk' hf e3 e4 (.inl rfl) (hcr.mono h5.le),h3,evs,gK _,h5,sl⟩
    | skip =>
     obtain ⟨x',y',todo',e1,e2,e3,e4⟩:=iG (fn:=fn) (hx.mono h5.le) (dx ht) (hu.mono h5.le)
     rw[aW hrl (.inr (.inl rfl))] at s1
     rw[aW h1 (.inr (.inl rfl))] at s2
     unfold upon at s1 s2
     dsimp only at s1 s2
     have sl:fN P _ wl _ wl':=⟨q1,q2,fun τ hτ=>⟨_,by rw[s0,aW (hrt τ hτ) (.inr (.inl rfl))];rfl⟩⟩
     rw[e1] at s1 sl
     rw[e2] at s2
     exact ⟨_,_,_,E',_,_,_,s1,s2,.mk' hf e3 e4 (.inl rfl) (hcr.mono h5.le),h3,evs,gK _,h5,sl⟩
    | enter f hf' hl =>
     obtain ⟨x',y',todo',e1,e2,e3,e4⟩:=jw hC hf' hl
     rw[aW hrl (.inr (.inr ⟨_,_,rfl⟩))] at s1
     rw[aW h1 (.inr (.inr ⟨_,_,rfl⟩))] at s2
     unfold upon at s1 s2
     dsimp only at s1 s2
     have sl:fN P _ wl _ wl':=⟨q1,q2,fun τ hτ=>⟨_,by rw[s0,aW (hrt τ hτ) (.inr (.inr ⟨_,_,rfl⟩))];rfl⟩⟩
     rw[e1] at s1 sl
     rw[e2] at s2
     exact ⟨_,_,_,E',_,_,_,s1,s2,.mk' (hC.zD hf') e3 e4 (.inl rfl) (.cons hf (hx.mono h5.le) (dx ht) (hcr.mono h5.le)),h3,evs,wZ _,h5,sl⟩
end
end Cs
namespace Cs
open Go.Conc
variable [Fns]
section
variable {P:Program} {E:Env} {cl c l l':List Frame} {wl w:World} {main:Bool}
theorem pO {α:Type} {f g:α→Sem Value} (E:Env) (h:∀a E',E.le E'→SR P (fun E2 x y=>VR E2 x y) E' (f a) (g a)):∀(l:List α) (E':Env),E.le E'→SR P (fun E2 x y=>x.length=y.length∧∀(i:Nat) u v,x[i]? = some u→y[i]? = some v→VR E2 u v) E' (l.mapM f) (l.mapM g)
 | [],_,_=>.ret ⟨rfl,fun i u v hu=>by simp at hu⟩
 | a :: l,E',hl=>by
  rw[List.mapM_cons,List.mapM_cons]
  refine SR.bind (h a E' hl) ?_
  intro E1 u v hl1 huv
  refine SR.bind (pO E h l E1 (Env.le_trans hl hl1)) ?_
  rintro E2 x y hl2 ⟨h1,h2⟩
  refine .ret ⟨by simp[h1],fun i p q hp hq=>?_⟩
  cases i with
  | zero=>simp at hp hq;subst hp hq;exact huv.mono hl2
  | succ i=>exact h2 i p q (by simpa using hp) (by simpa using hq)
theorem vc {u v:Value} (h:VR E u v):SR P (fun E' a b=>AR E' a b) E (asAddr u) (asAddr v):=by
 cases h with
 | ptr h=>exact .ret h
 | fF =>
  refine .die ?_
  unfold asAddr
  exact cF _
 | any v h =>
  refine .die ?_
  unfold asAddr
  exact cF _
 | _=>exact .die (ag _)
theorem ax {i:Item} {k:List Item} (h1:aK P i=true) (h2:k.all (aK P)=true):(i :: k).all (aK P)=true:=by
 simp only[List.all_cons,h1,h2,Bool.and_self]
theorem cY (fn:Func) {x y:Array Value} (h:LR E x y):SR P (fun E' a b=>VR E' a b) E (results fn x) (results fn y):=by
 unfold results
 refine SR.bind (R1:=fun E' a b=>LR E' a b) ?_ ?_
 ·rw[Array.mapM_eq_mapM_toList,Array.mapM_eq_mapM_toList]
  refine SR.bind (pO E (fun r E' hl=>?_) fn.results.toList E (Env.le_refl _)) ?_
  ·cases r with
   | tmp t=>exact .ret (jG (h.mono hl) t)
   | cell a t =>
    refine SR.bind (vc (jG (h.mono hl) a)) ?_
    intro E2 p q _ hpq
    exact lX t hpq
  ·rintro E1 a b _ ⟨h1,h2⟩
   exact .ret ⟨by simpa using h1,fun i u v hu hv=>h2 i u v (by simpa using hu) (by simpa using hv)⟩
 ·intro E1 a b _ hab
  by_cases hs:a.size=1
  ·have hs':b.size=1:=by rw[←hab.size];exact hs
   rw[dif_pos hs,dif_pos hs']
   exact .ret (hab.at_ 0 _ _ (Array.getElem?_eq_getElem _) (Array.getElem?_eq_getElem _))
  ·rw[dif_neg hs,dif_neg (by rw[←hab.size];exact hs)]
   exact .ret (.mkTuple hab)
omit [Fns] in
theorem bA {fn:FuncId} {x:Array Value} {todo:List Item} {f:Func} (hf:P.funcs[fn]? = some f) {cal:Frame}:stepG P main (G (mkF fn x todo .returning) (cal :: l)) w=GStep.after (seen P fn ((results f x).runT P w #[]).2) (match (results f x).run P w with
  | .ok v w=>.go (G (cal.finish v) l) w
  | .halt (.stuck s) w=>.ended (.stuck s ((mkF fn x todo .returning).pos P)) w
  | .halt _ w => .ended (.stuck "return: the result variables cannot be read" ((mkF fn x todo .returning).pos P)) w) := by
 simp only[G,stepG,unwind,mkF,hf,doReturn,Sem.runT_eq]
 rfl
theorem o9 {fn fn2:FuncId} {x y x2 y2:Array Value} {todo todo2:List Item} (hf:dK P fn) (hx:LR E x y) (hf2:dK P fn2) (hx2:LR E x2 y2) (ht2:(pend todo2).all (aK P)=true) (hcr:CR P E cl c l l') (hb:cT P E wl w) :
  tQ P E cl c main (G (mkF fn x todo .returning) (mkF fn2 x2 todo2 .run :: l)) (G (mkF fn y todo .returning) (mkF fn2 y2 todo2 .run :: l')) wl w∨kW P (G (mkF fn x todo .returning) (mkF fn2 x2 todo2 .run :: l)) wl:=by
 obtain ⟨f,h1⟩:=hf
 have s0:=fun wl=>bA (main:=true) (x:=x) (todo:=todo) (l:=l) (w:=wl) (cal:=mkF fn2 x2 todo2 .run) h1
 have s1:=s0 wl
 have s2:=bA (main:=main) (x:=y) (todo:=todo) (l:=l') (w:=w) (cal:=mkF fn2 y2 todo2 .run) h1
 have hout:=(cY (P:=P) f hx).run wl w #[] hb
 cases hr:(results f x).run P wl with
 | halt h w' =>
  rw[hr] at s1
  right;left
  cases h <;> exact ⟨_,_,_,s1⟩
 | ok v wl' =>
  rw[hr] at hout s1
  obtain ⟨E',v',w',es',k1,k2,k3,k4,k5⟩:=hout
  have hr2:(results f y).run P w=.ok v' w':=by rw[←Sem.runT_fst P _ w #[],k1]
  rw[hr2,k1] at s2
  obtain ⟨x',y',todo',e1,e2,e3,e4⟩:=iG (fn:=fn2) (hx2.mono k5.le) ht2 k2
  dsimp only[GStep.after] at s1 s2
  obtain ⟨q1,q2,q3⟩:=(cY (P:=P) f hx).loc wl w hb v wl' hr
  have sl:fN P (G (mkF fn x todo .returning) (mkF fn2 x2 todo2 .run :: l)) wl (G (mkF fn2 x' todo' .run) l) wl':=⟨q1,q2,fun τ hτ=>⟨_,by
   rw[s0,q3 τ hτ]
   dsimp only[GStep.after]
   rw[e1]⟩⟩
  rw[e1] at s1
  rw[e2] at s2
  left
  refine ⟨_,_,_,E',_,_,_,s1,s2,.mk' hf2 e3 e4 (.inl rfl) (hcr.mono k5.le),k3,fun e he=>?_,uY _,k5,sl⟩
  simp only[Array.append_empty,Array.empty_append] at he
  exact k4 e (mem_seen he)
theorem jd (hG:P.globals.size≤Fns.G) (hC:bu P) {gl g:Goroutine} (hg:GR P E cl c gl g) (hb:cT P E wl w) (hns:¬(gl.frame.mode=.returning∧gl.callers=cl)):tQ P E cl c main gl g wl w∨kW P gl wl:=by
 obtain ⟨fn,x,y,todo,mode,l,l',rfl,rfl,hf,hx,ht,hm,hcr⟩:=hg.ex
 rcases hm with rfl | rfl
 ·cases todo with
  | nil=>exact .inl (aZ hf hx ht (.inr rfl) hcr hb (fun _=>rfl) rfl)
  | cons i k =>
   have htk:k.all (aK P)=true:=by simp only[List.all_cons,Bool.and_eq_true] at ht;exact ht.2
   have hti:aK P i=true:=by simp only[List.all_cons,Bool.and_eq_true] at ht;exact ht.1
   cases i with
   | inBlock id=>exact .inl (aZ hf hx htk (.inl rfl) hcr hb (fun _=>rfl) rfl)
   | inScope b=>exact .inl (aZ hf hx htk (.inl rfl) hcr hb (fun _=>rfl) rfl)
   | inLoop b=>exact .inl (aZ (todo':=.code b :: .inLoop b :: k) hf hx (ax hti (ax hti htk)) (.inl rfl) hcr hb (fun _=>rfl) rfl)
   | inRegion ops t =>
    cases t with
    | nil=>exact .inl (aZ hf hx htk (.inl rfl) hcr hb (fun _=>rfl) rfl)
    | cons j rest=>exact vX hG hC hf hx ht hcr hb
   | code cd =>
    have hcd:codeOk P cd=true:=hti
    cases cd with
    | skip=>exact .inl (aZ hf hx htk (.inl rfl) hcr hb (fun _=>rfl) rfl)
    | label lb=>exact .inl (aZ hf hx htk (.inl rfl) hcr hb (fun _=>rfl) rfl)
    | ret=>exact .inl (aZ (todo':=.code .ret :: k) hf hx ht (.inr rfl) hcr hb (fun _=>rfl) rfl)
    | seq a b =>
     simp only[codeOk,Bool.and_eq_true] at hcd
     exact .inl (aZ (todo':=.code a :: .code b :: k) hf hx (ax hcd.1 (ax hcd.2 htk)) (.inl rfl) hcr hb (fun _=>rfl) rfl)
    | block id a=>exact .inl (aZ (todo':=.code a :: .inBlock id :: k) hf hx (ax (show codeOk P a=true from hcd) (ax rfl htk)) (.inl rfl) hcr hb (fun _=>rfl) rfl)
    | loop a=>exact .inl (aZ (todo':=.code a :: .inLoop a :: k) hf hx (ax (show codeOk P a=true from hcd) (ax (show codeOk P a=true from hcd) htk)) (.inl rfl) hcr hb (fun _=>rfl) rfl)
    | scope a=>exact .inl (aZ (todo':=.code a :: .inScope a :: k) hf hx (ax (show codeOk P a=true from hcd) (ax (show codeOk P a=true from hcd) htk)) (.inl rfl) hcr hb (fun _=>rfl) rfl)
    | cond q a b =>
     simp only[codeOk,Bool.and_eq_true] at hcd
     have s1:=fun wl=>dz (P:=P) (main:=true) fn x q a b k l wl
     have s2:=dz (P:=P) (main:=main) fn y q a b k l' w
     have hv:=eu (fn:=fn) (todo:=.code (.cond q a b) :: k) (mode:=.run) hx q hcd.1.1
     generalize (mkF fn x (.code (.cond q a b) :: k) .run).eval q=u at hv s1
     generalize (mkF fn y (.code (.cond q a b) :: k) .run).eval q=v at hv s2
     cases hv with
     | bool t=>exact .inl (aZ hf hx (ax (i:=.code (if t then a else b)) (by cases t;exact hcd.2;exact hcd.1.2) htk) (.inl rfl) hcr hb s1 s2)
     | _=>exact .inr (.inl ⟨_,_,_,s1 wl⟩)
    | exit id =>
     cases he:exitTo id k with
     | none=>exact .inr (.inl ⟨_,_,_,by simp only[G,stepG,stepG.exec,mkF,he,Option.elim_none];rfl⟩)
     | some k'=>exact .inl (aZ hf hx (fK id htk he) (.inl rfl) hcr hb (fun _=>by simp only[G,stepG,stepG.exec,mkF,he,Option.elim_some]) (by simp only[G,stepG,stepG.exec,mkF,he,Option.elim_some]))
    | goto lb =>
     cases he:gotoIn lb k with
     | none=>exact .inr (.inl ⟨_,_,_,by simp only[G,stepG,stepG.exec,mkF,he,Option.elim_none];rfl⟩)
     | some k'=>exact .inl (aZ hf hx (fS lb htk he) (.inl rfl) hcr hb (fun _=>by simp only[G,stepG,stepG.exec,mkF,he,Option.elim_some]) (by simp only[G,stepG,stepG.exec,mkF,he,Option.elim_some]))
    | region id ops draw =>
     cases draw
     ·exact .inl (aZ (todo':=.inRegion ops (List.range ops.size) :: k) hf hx (ax (eJ hcd _) htk) (.inl rfl) hcr hb (fun _=>rfl) rfl)
     ·have ht0:wl.tape wl.drawn (.order fn id)=w.tape w.drawn (.order fn id):=hb.ta 0 _
      have s1:stepG P true (G (mkF fn x (.code (.region id ops true) :: k) .run) l) wl=.go (G (mkF fn x (.inRegion ops (Region.schedule (P.follows .mixedOrders) ops (w.tape w.drawn (.order fn id))) :: k) .run) l) { wl with drawn:=wl.drawn+1 }:=by
       rw[←ht0]
       simp[stepG,stepG.exec,mkF,G,choose,Sem.run,Question.forced,Question.cut]
      have s2:stepG P main (G (mkF fn y (.code (.region id ops true) :: k) .run) l') w=.go (G (mkF fn y (.inRegion ops (Region.schedule (P.follows .mixedOrders) ops (w.tape w.drawn (.order fn id))) :: k) .run) l') { w with drawn:=w.drawn+1 }:=by
       simp[stepG,stepG.exec,mkF,G,choose,Sem.run,Question.forced,Question.cut]
      have hB:cT P E { wl with drawn:=wl.drawn+1 } { w with drawn:=w.drawn+1 }:=⟨⟨hb.wr.own,hb.wr.shared,hb.wr.inj,hb.wr.low⟩,fun i q'=>by
       have:=hb.ta (1+i) q'
       show wl.tape (wl.drawn+1+i) q'=w.tape (w.drawn+1+i) q'
       rw[Nat.add_assoc,Nat.add_assoc]
       exact this,hb.big⟩
      exact .inl ⟨_,_,_,E,_,_,_,s1,s2,.mk' hf hx (ax (eJ hcd _) htk) (.inl rfl) hcr,hB,fun e he=>by simp at he,gK _,⟨E.le_refl,rfl,rfl,rfl,Nat.le_refl _,fun _ _ _=>rfl,fun _ _ _ _ h=>.inl h⟩,Nat.le_succ _,rfl,fun τ hτ=>⟨#[],by
       have h0:τ wl.drawn (.order fn id)=wl.tape wl.drawn (.order fn id):=hτ _ _ (Nat.le_refl _) (Nat.lt_succ_self _)
       rw[←ht0,←h0]
       simp[stepG,stepG.exec,mkF,G,choose,Sem.run,Question.forced,Question.cut,World.tp]⟩⟩
    | rangeFunc a b d e=>cases hcd
    | refuse s=>cases hcd
   | _=>cases hti
 ·cases hcr with
  | base=>exact absurd ⟨rfl,rfl⟩ hns
  | cons hf2 hx2 ht2 h=>exact o9 hf hx hf2 hx2 ht2 h hb
end
end Cs
end Go.Proofs.Ytpdemelchhkfaaa
