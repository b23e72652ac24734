import Derived.Test.YtpdemelchhkfaaaCwA
namespace Go.Proofs.Ytpdemelchhkfaaa
namespace Cs
open Go.Conc
variable [Fns]
section
variable {P:Program} {E:Env} {cl c l l':List Frame} {ct:Code} {wl w:World} {main:Bool}
inductive TC (ct:Code):Code→Code→Prop
 | skip:TC ct .skip ct
 | seq (a:Code) {b b':Code} (h:TC ct b b'):TC ct (.seq a b) (.seq a b')
inductive RT (ct:Code):List Item→List Item→Prop
 | cut {d d':Code} (h:TC ct d d'):RT ct [.code d] [.code d']
 | cons (i:Item) {k k':List Item} (h:RT ct k k'):RT ct (i :: k) (i :: k')
inductive GT (P:Program) (E:Env) (fn:FuncId) (cl c:List Frame) (ct:Code):Goroutine→Goroutine→Prop
 | top {x y:Array Value} {todo todo':List Item} (hf:dK P fn) (hx:LR E x y) (ht:todo.all (aK P)=true) (hr:RT ct todo todo'):GT P E fn cl c ct (G (mkF fn x todo .run) cl) (G (mkF fn y todo' .run) c)
 | sub {x y:Array Value} {i:Item} {k k':List Item} {gl g:Goroutine} (hf:dK P fn) (hx:LR E x y) (ht:(pend (i :: k)).all (aK P)=true) (hr:RT ct k k') (h:GR P E (mkF fn x (i :: k) .run :: cl) (mkF fn y (i :: k') .run :: c) gl g):GT P E fn cl c ct gl g
def tK (P:Program) (E:Env) (fn:FuncId) (cl c:List Frame) (ct:Code) (main:Bool) (gl g:Goroutine) (wl w:World):Prop :=
 ∃gl' wl' esl E' g' w' es,stepG P true gl wl=.go gl' wl' esl∧stepG P main g w=.go g' w' es∧GT P E' fn cl c ct gl' g'∧cT P E' wl' w'∧(∀e ∈ es,ef E' e)∧FC E E' w w'∧fN P gl wl gl' wl'
theorem bn {fn:FuncId} {x y:Array Value} {todo todo1 todo' todo1':List Item} (hf:dK P fn) (hx:LR E x y) (ht:todo1.all (aK P)=true) (hr:RT ct todo1 todo1') (hb:cT P E wl w)
  (h1:∀wl,stepG P true (G (mkF fn x todo .run) cl) wl=.go (G (mkF fn x todo1 .run) cl) wl) (h2:stepG P main (G (mkF fn y todo' .run) c) w=.go (G (mkF fn y todo1' .run) c) w):tK P E fn cl c ct main (G (mkF fn x todo .run) cl) (G (mkF fn y todo' .run) c) wl w :=
 ⟨_,_,_,E,_,_,_,h1 _,h2,.top hf hx ht hr,hb,fun e he=>by simp at he,FC.refl _ _,Nat.le_refl _,rfl,fun _ _=>⟨_,h1 _⟩⟩
theorem gw {fn:FuncId} {x y:Array Value} {i:Item} {k k':List Item} (hr:RT ct k k') (hx:LR E x y) (ht:(pend (i :: k)).all (aK P)=true) {u v:Value} (hv:VR E u v):∃x' y' todo1 todo1',(mkF fn x (i :: k) .run).finish u=mkF fn x' todo1 .run∧(mkF fn y (i :: k') .run).finish v=mkF fn y' todo1' .run∧RT ct todo1 todo1'∧LR E x' y'∧todo1.all (aK P)=true:=by
 cases i with
 | inRegion ops t =>
  cases t with
  | nil=>exact ⟨x,y,_,_,rfl,rfl,.cons _ hr,hx,ht⟩
  | cons j rest =>
   refine ⟨_,_,.inRegion ops rest :: k,.inRegion ops rest :: k',eG _ _ _ _ _ _ _ _,eG _ _ _ _ _ _ _ _,.cons _ hr,rM hx hv _,?_⟩
   exact ht
 | code a=>exact ⟨x,y,_,_,rfl,rfl,.cons _ hr,hx,ht⟩
 | inBlock a=>exact ⟨x,y,_,_,rfl,rfl,.cons _ hr,hx,ht⟩
 | inLoop a=>exact ⟨x,y,_,_,rfl,rfl,.cons _ hr,hx,ht⟩
 | inScope a=>exact ⟨x,y,_,_,rfl,rfl,.cons _ hr,hx,ht⟩
 | _=>simp[pend,aK] at ht
omit [Fns] in
theorem jh {id:Nat}:∀{k k' k1:List Item},RT ct k k'→exitTo id k=some k1→∃k1',exitTo id k'=some k1'∧RT ct k1 k1'
 | _,_,_,.cut _,h=>by cases h
 | _,_,k1,.cons i hr,h=>by
  cases i with
  | inBlock id' =>
   simp only[exitTo] at h ⊢
   split at h
   ·rename_i e
    cases h
    rw[if_pos e]
    exact ⟨_,rfl,hr⟩
   ·rename_i e
    rw[if_neg e]
    exact jh hr h
  | _ =>
   obtain ⟨a,b,d⟩:=jh hr (show exitTo id _=some k1 from h)
   exact ⟨a,b,d⟩
omit [Fns] in
theorem jk {lb:Nat}:∀{k k' k1:List Item},RT ct k k'→gotoIn lb k=some k1→∃k1',gotoIn lb k'=some k1'∧RT ct k1 k1'
 | _,_,_,.cut _,h=>by cases h
 | _,_,k1,.cons i hr,h=>by
  cases i with
  | inScope body =>
   simp only[gotoIn] at h ⊢
   cases hf:findLabel body lb with
   | some rest =>
    rw[hf] at h
    cases h
    exact ⟨_,rfl,.cons _ (.cons _ hr)⟩
   | none =>
    rw[hf] at h
    exact jk hr h
  | _ =>
   obtain ⟨a,b,d⟩:=jk hr (show gotoIn lb _=some k1 from h)
   exact ⟨a,b,d⟩
theorem vU (hG:P.globals.size≤Fns.G) (hC:bu P) {fn:FuncId} {x y:Array Value} {ops:Array Oper} {i:Nat} {rest:List Nat} {k k':List Item} (hf:dK P fn) (hx:LR E x y) (ht:(Item.inRegion ops (i :: rest) :: k).all (aK P)=true) (hr':RT ct k k') (hb:cT P E wl w) :
  tK P E fn cl c ct main (G (mkF fn x (.inRegion ops (i :: rest) :: k) .run) cl) (G (mkF fn y (.inRegion ops (i :: rest) :: k') .run) c) wl w∨kW P (G (mkF fn x (.inRegion ops (i :: rest) :: k) .run) cl) wl:=by
 have hu:VR E undef undef:=.mkTuple (LR.nil _)
 cases hw:((ops[i]?).map (Region.wanted · (yielded ops x))).getD false
 ·obtain ⟨x',y',todo',todo'',e1,e2,er,e3,e4⟩:=gw (fn:=fn) hr' hx (dx ht) hu
  have s1:=fun wl=>cO (P:=P) (main:=true) (fn:=fn) (l:=cl) (w:=wl) (rest:=rest) (k:=k) hw
  have s2:=cO (P:=P) (main:=main) (fn:=fn) (l:=c) (w:=w) (rest:=rest) (k:=k') (x:=y) (by rw[←dN hx];exact hw)
  rw[e1] at s1
  rw[e2] at s2
  exact .inl ⟨_,_,_,E,_,_,_,s1 _,s2,.top hf e3 e4 er,hb,fun e he=>by simp at he,FC.refl _ _,Nat.le_refl _,rfl,fun _ _=>⟨_,s1 _⟩⟩
 ·cases ho:ops[i]? with
  | none=>rw[ho] at hw;cases hw
  | some o =>
   rw[ho] at hw
   have hw1:Region.wanted o (yielded ops x)=true:=hw
   have hok:fH P o.op=true:=by
    simp only[List.all_cons,Bool.and_eq_true,aK] at ht
    have h1:=ht.1.1
    rw[ho] at h1
    exact h1
   have s0:=fun wl=>eD (P:=P) (main:=true) (fn:=fn) (l:=cl) (w:=wl) (rest:=rest) (k:=k) ho hw1
   have s1:=s0 wl
   have s2:=eD (P:=P) (main:=main) (fn:=fn) (l:=c) (w:=w) (rest:=rest) (k:=k') (x:=y) ho (by rw[←dN hx];exact hw1)
   have hev:(mkF fn y (.inRegion ops (i :: rest) :: k') .run).eval=(mkF fn y (.inRegion ops (i :: rest) :: k) .run).eval:=by
    funext q
    cases q <;> rfl
   rw[hev] at s2
   have hout:=(iL hG hC.nW (eu (fn:=fn) (todo:=.inRegion ops (i :: rest) :: k) (mode:=.run) hx) o hok).run wl w #[] hb
   cases hr:(execOp (mkF fn x (.inRegion ops (i :: rest) :: k) .run).eval o).run P wl with
   | halt h w' =>
    rw[hr] at hout
    obtain ⟨f0,hfn⟩:=id hf
    rcases je (fn:=fn) (x:=x) (ops:=ops) (i:=i) (rest:=rest) (k:=k) (cs:=cl) hr hout with ⟨a,b,d,e⟩ | ⟨ch,b,d,e⟩
    ·exact .inr (.inl ⟨a,b,d,by rw[s1];exact e⟩)
    ·exact .inr (.inr ⟨fn,x,_,ch,b,d,by rw[s1];exact e,f0,hfn⟩)
   | ok nx wl' =>
    rw[hr] at hout
    obtain ⟨E',a,w',es',h1,h2,h3,h4,h5⟩:=hout
    have hrl:(execOp (mkF fn x (.inRegion ops (i :: rest) :: k) .run).eval o).runT P wl #[]=(.ok nx wl',((execOp (mkF fn x (.inRegion ops (i :: rest) :: k) .run).eval o).runT P wl #[]).2):=by
     refine Prod.ext ?_ rfl
     rw[Sem.runT_fst]
     exact hr
    obtain ⟨q1,q2,q3⟩:=(iL hG hC.nW (eu (fn:=fn) (todo:=.inRegion ops (i :: rest) :: k) (mode:=.run) hx) o hok).loc wl w hb nx wl' hr
    have hrt:∀τ,(∀i q,wl.drawn≤i→i<wl'.drawn→τ i q=wl.tape i q)→(execOp (mkF fn x (.inRegion ops (i :: rest) :: k) .run).eval o).runT P (wl.tp τ) #[]=(.ok nx (wl'.tp τ),((execOp (mkF fn x (.inRegion ops (i :: rest) :: k) .run).eval o).runT P (wl.tp τ) #[]).2):=fun τ hτ=>by
     refine Prod.ext ?_ rfl
     rw[Sem.runT_fst]
     exact q3 τ hτ
    have evs:∀e ∈ seen P fn (#[]++es'),ef E' e:=fun e he=>h4 e (by simpa using mem_seen he)
    left
    cases h2 with
    | value hv =>
     obtain ⟨x',y',todo',todo'',e1,e2,er,e3,e4⟩:=gw (fn:=fn) hr' (hx.mono h5.le) (dx ht) hv
     rw[aW hrl (.inl ⟨_,rfl⟩)] at s1
     rw[aW h1 (.inl ⟨_,rfl⟩)] at s2
     unfold upon at s1 s2
     dsimp only at s1 s2
     have sl:fN P _ wl _ wl':=⟨q1,q2,fun τ hτ=>⟨_,by rw[s0,aW (hrt τ hτ) (.inl ⟨_,rfl⟩)];rfl⟩⟩
     rw[e1] at s1 sl
     rw[e2] at s2
     exact ⟨_,_,_,E',_,_,_,s1,s2,.top hf e3 e4 er,h3,evs,h5,sl⟩
    | skip =>
     obtain ⟨x',y',todo',todo'',e1,e2,er,e3,e4⟩:=gw (fn:=fn) hr' (hx.mono h5.le) (dx ht) (hu.mono h5.le)
     rw[aW hrl (.inr (.inl rfl))] at s1
     rw[aW h1 (.inr (.inl rfl))] at s2
     unfold upon at s1 s2
     dsimp only at s1 s2
     have sl:fN P _ wl _ wl':=⟨q1,q2,fun τ hτ=>⟨_,by rw[s0,aW (hrt τ hτ) (.inr (.inl rfl))];rfl⟩⟩
     rw[e1] at s1 sl
     rw[e2] at s2
     exact ⟨_,_,_,E',_,_,_,s1,s2,.top hf e3 e4 er,h3,evs,h5,sl⟩
    | enter f hf' hl =>
     obtain ⟨x',y',todo',e1,e2,e3,e4⟩:=jw hC hf' hl
     rw[aW hrl (.inr (.inr ⟨_,_,rfl⟩))] at s1
     rw[aW h1 (.inr (.inr ⟨_,_,rfl⟩))] at s2
     unfold upon at s1 s2
     dsimp only at s1 s2
     have sl:fN P _ wl _ wl':=⟨q1,q2,fun τ hτ=>⟨_,by rw[s0,aW (hrt τ hτ) (.inr (.inr ⟨_,_,rfl⟩))];rfl⟩⟩
     rw[e1] at s1 sl
     rw[e2] at s2
     exact ⟨_,_,_,E',_,_,_,s1,s2,.sub hf (hx.mono h5.le) (dx ht) hr' (.mk' (hC.zD hf') e3 e4 (.inl rfl) .base),h3,evs,h5,sl⟩
theorem CR.len (h:CR P E cl c l l'):cl.length≤l.length∧(l.length=cl.length→l=cl∧l'=c):=by
 induction h with
 | base=>exact ⟨Nat.le_refl _,fun _=>⟨rfl,rfl⟩⟩
 | cons _ _ _ _ ih=>exact ⟨Nat.le_succ_of_le ih.1,fun e=>by have:=ih.1;simp only[List.length_cons] at e;omega⟩
theorem ry {fn fn2:FuncId} {x y x2 y2:Array Value} {todo:List Item} {i:Item} {k k':List Item} (hf:dK P fn) (hx:LR E x y) (hf2:dK P fn2) (hx2:LR E x2 y2) (ht2:(pend (i :: k)).all (aK P)=true) (hr':RT ct k k') (hb:cT P E wl w) :
  tK P E fn2 cl c ct main (G (mkF fn x todo .returning) (mkF fn2 x2 (i :: k) .run :: cl)) (G (mkF fn y todo .returning) (mkF fn2 y2 (i :: k') .run :: c)) wl w∨kW P (G (mkF fn x todo .returning) (mkF fn2 x2 (i :: k) .run :: cl)) wl:=by
 obtain ⟨f,h1⟩:=hf
 have s0:=fun wl=>bA (main:=true) (x:=x) (todo:=todo) (l:=cl) (w:=wl) (cal:=mkF fn2 x2 (i :: k) .run) h1
 have s1:=s0 wl
 have s2:=bA (main:=main) (x:=y) (todo:=todo) (l:=c) (w:=w) (cal:=mkF fn2 y2 (i :: k') .run) h1
 have hout:=(cY (P:=P) f hx).run wl w #[] hb
 cases hr:(results f x).run P wl with
 | halt h w' =>
  rw[hr] at s1
  right;left
  cases h <;> exact ⟨_,_,_,s1⟩
 | ok v wl' =>
  rw[hr] at hout s1
  obtain ⟨E',v',w',es',k1,k2,k3,k4,k5⟩:=hout
  have hr2:(results f y).run P w=.ok v' w':=by rw[←Sem.runT_fst P _ w #[],k1]
  rw[hr2,k1] at s2
  obtain ⟨x',y',todo',todo'',e1,e2,er,e3,e4⟩:=gw (fn:=fn2) hr' (hx2.mono k5.le) ht2 k2
  dsimp only[GStep.after] at s1 s2
  obtain ⟨q1,q2,q3⟩:=(cY (P:=P) f hx).loc wl w hb v wl' hr
  have sl:fN P (G (mkF fn x todo .returning) (mkF fn2 x2 (i :: k) .run :: cl)) wl (G (mkF fn2 x' todo' .run) cl) wl':=⟨q1,q2,fun τ hτ=>⟨_,by
   rw[s0,q3 τ hτ]
   dsimp only[GStep.after]
   rw[e1]⟩⟩
  rw[e1] at s1
  rw[e2] at s2
  left
  refine ⟨_,_,_,E',_,_,_,s1,s2,.top hf2 e3 e4 er,k3,fun e he=>?_,k5,sl⟩
  simp only[Array.append_empty,Array.empty_append] at he
  exact k4 e (mem_seen he)
def AtRet (cl:List Frame) (gl:Goroutine):Prop:=∃fn x k,gl=G (mkF fn x (.code .ret :: k) .run) cl
def xD (cl:List Frame) (g:Goroutine):Prop:=g.frame.todo=[]∧g.frame.mode=.run∧g.callers=cl
def tj (cl:List Frame) (g:Goroutine):Prop:=g.frame.todo=[.code .skip]∧g.frame.mode=.run∧g.callers=cl
theorem GT.BQ {fn:FuncId} {gl g:Goroutine} (hg:GT P E fn cl c ct gl g):¬xD cl gl:=by
 rintro ⟨q1,_,q3⟩
 cases hg with
 | top _ _ _ hr =>
  cases hr <;> cases q1
 | sub _ _ _ _ h =>
  obtain ⟨fn,x,y,todo,mode,l,l',rfl,rfl,_,_,_,_,hcr⟩:=h.ex
  have:=hcr.len.1
  have q3':l=cl:=q3
  rw[q3'] at this
  simp at this
  omega
theorem qd (hG:P.globals.size≤Fns.G) (hC:bu P) {fn:FuncId} {gl g:Goroutine} (hg:GT P E fn cl c ct gl g) (hb:cT P E wl w) (hns:¬tj cl gl):tK P E fn cl c ct main gl g wl w∨kW P gl wl∨AtRet cl gl:=by
 cases hg with
 | @sub x y i k k' gl g hf hx ht hr' h =>
  by_cases hr:gl.frame.mode=.returning∧gl.callers=mkF fn x (i :: k) .run :: cl
  ·obtain ⟨fn2,x2,y2,todo2,mode,l,l',rfl,rfl,hf2,hx2,ht2,hm,hcr⟩:=h.ex
   obtain ⟨hm2,hl2⟩:=hr
   have hm2':mode=.returning:=hm2
   have hl2':l=mkF fn x (i :: k) .run :: cl:=hl2
   subst hm2'
   obtain ⟨_,e2⟩:=hcr.len.2 (by rw[hl2'])
   subst hl2' e2
   rcases ry hf2 hx2 hf hx ht hr' hb with h | h
   ·exact .inl h
   ·exact .inr (.inl h)
  ·rcases jd (main:=main) hG hC h hb hr with ⟨gl',wl',esl,E',g',w',es,s1,s2,hg,hB,hev,_,hfc,hloc⟩ | hlost
   ·refine .inl ⟨gl',wl',esl,E',g',w',es,s1,s2,.sub hf (hx.mono hfc.le) ht hr' hg,hB,hev,hfc,hloc⟩
   ·exact .inr (.inl hlost)
 | @top x y todo todo' hf hx ht hr' =>
  cases hr' with
  | cut hd =>
   cases hd with
   | skip=>exact absurd ⟨rfl,rfl,rfl⟩ hns
   | seq a hd =>
    simp only[List.all_cons,List.all_nil,Bool.and_true,aK,codeOk,Bool.and_eq_true] at ht
    exact .inl (bn (todo1:=[.code a,.code _]) (todo1':=[.code a,.code _]) hf hx (ax ht.1 (ax ht.2 rfl)) (.cons _ (.cut hd)) hb (fun _=>rfl) rfl)
  | @cons i k k' hk =>
   have htk:k.all (aK P)=true:=by simp only[List.all_cons,Bool.and_eq_true] at ht;exact ht.2
   have hti:aK P i=true:=by simp only[List.all_cons,Bool.and_eq_true] at ht;exact ht.1
   cases i with
   | inBlock id=>exact .inl (bn hf hx htk hk hb (fun _=>rfl) rfl)
   | inScope b=>exact .inl (bn hf hx htk hk hb (fun _=>rfl) rfl)
   | inLoop b=>exact .inl (bn (todo1:=.code b :: .inLoop b :: k) hf hx (ax hti (ax hti htk)) (.cons _ (.cons _ hk)) hb (fun _=>rfl) rfl)
   | inRegion ops t =>
    cases t with
    | nil=>exact .inl (bn hf hx htk hk hb (fun _=>rfl) rfl)
    | cons j rest =>
     rcases vU (cl:=cl) (c:=c) (main:=main) hG hC hf hx ht hk hb with h | h
     ·exact .inl h
     ·exact .inr (.inl h)
   | code cd =>
    have hcd:codeOk P cd=true:=hti
    cases cd with
    | skip=>exact .inl (bn hf hx htk hk hb (fun _=>rfl) rfl)
    | label lb=>exact .inl (bn hf hx htk hk hb (fun _=>rfl) rfl)
    | ret=>exact .inr (.inr ⟨_,_,_,rfl⟩)
    | seq a b =>
     simp only[codeOk,Bool.and_eq_true] at hcd
     exact .inl (bn (todo1:=.code a :: .code b :: k) hf hx (ax hcd.1 (ax hcd.2 htk)) (.cons _ (.cons _ hk)) hb (fun _=>rfl) rfl)
    | block id a=>exact .inl (bn (todo1:=.code a :: .inBlock id :: k) hf hx (ax (show codeOk P a=true from hcd) (ax rfl htk)) (.cons _ (.cons _ hk)) hb (fun _=>rfl) rfl)
    | loop a=>exact .inl (bn (todo1:=.code a :: .inLoop a :: k) hf hx (ax (show codeOk P a=true from hcd) (ax (show codeOk P a=true from hcd) htk)) (.cons _ (.cons _ hk)) hb (fun _=>rfl) rfl)
    | scope a=>exact .inl (bn (todo1:=.code a :: .inScope a :: k) hf hx (ax (show codeOk P a=true from hcd) (ax (show codeOk P a=true from hcd) htk)) (.cons _ (.cons _ hk)) hb (fun _=>rfl) rfl)
    | cond q a b =>
     simp only[codeOk,Bool.and_eq_true] at hcd
     have s1:=fun wl=>dz (P:=P) (main:=true) fn x q a b k cl wl
     have s2:=dz (P:=P) (main:=main) fn y q a b k' c w
     have hv:=eu (fn:=fn) (todo:=.code (.cond q a b) :: k) (mode:=.run) hx q hcd.1.1
     have hev:(mkF fn y (.code (.cond q a b) :: k') .run).eval q=(mkF fn y (.code (.cond q a b) :: k) .run).eval q:=by cases q <;> rfl
     rw[hev] at s2
     generalize (mkF fn x (.code (.cond q a b) :: k) .run).eval q=u at hv s1
     generalize (mkF fn y (.code (.cond q a b) :: k) .run).eval q=v at hv s2
     cases hv with
     | bool t=>exact .inl (bn hf hx (ax (i:=.code (if t then a else b)) (by cases t;exact hcd.2;exact hcd.1.2) htk) (.cons _ hk) hb s1 s2)
     | _=>exact .inr (.inl (.inl ⟨_,_,_,s1 wl⟩))
    | exit id =>
     cases he:exitTo id k with
     | none=>exact .inr (.inl (.inl ⟨_,_,_,by simp only[G,stepG,stepG.exec,mkF,he,Option.elim_none];rfl⟩))
     | some k1 =>
      obtain ⟨k1',he',hr1⟩:=jh hk he
      exact .inl (bn hf hx (fK id htk he) hr1 hb (fun _=>by simp only[G,stepG,stepG.exec,mkF,he,Option.elim_some]) (by simp only[G,stepG,stepG.exec,mkF,he',Option.elim_some]))
    | goto lb =>
     cases he:gotoIn lb k with
     | none=>exact .inr (.inl (.inl ⟨_,_,_,by simp only[G,stepG,stepG.exec,mkF,he,Option.elim_none];rfl⟩))
     | some k1 =>
      obtain ⟨k1',he',hr1⟩:=jk hk he
      exact .inl (bn hf hx (fS lb htk he) hr1 hb (fun _=>by simp only[G,stepG,stepG.exec,mkF,he,Option.elim_some]) (by simp only[G,stepG,stepG.exec,mkF,he',Option.elim_some]))
    | region id ops draw =>
     cases draw
     ·exact .inl (bn (todo1:=.inRegion ops (List.range ops.size) :: k) hf hx (ax (eJ hcd _) htk) (.cons _ hk) hb (fun _=>rfl) rfl)
     ·have ht0:wl.tape wl.drawn (.order fn id)=w.tape w.drawn (.order fn id):=hb.ta 0 _
      have s1:stepG P true (G (mkF fn x (.code (.region id ops true) :: k) .run) cl) wl=.go (G (mkF fn x (.inRegion ops (Region.schedule (P.follows .mixedOrders) ops (w.tape w.drawn (.order fn id))) :: k) .run) cl) { wl with drawn:=wl.drawn+1 }:=by
       rw[←ht0]
       simp[stepG,stepG.exec,mkF,G,choose,Sem.run,Question.forced,Question.cut]
      have s2:stepG P main (G (mkF fn y (.code (.region id ops true) :: k') .run) c) w=.go (G (mkF fn y (.inRegion ops (Region.schedule (P.follows .mixedOrders) ops (w.tape w.drawn (.order fn id))) :: k') .run) c) { w with drawn:=w.drawn+1 }:=by
       simp[stepG,stepG.exec,mkF,G,choose,Sem.run,Question.forced,Question.cut]
      have hB:cT P E { wl with drawn:=wl.drawn+1 } { w with drawn:=w.drawn+1 }:=⟨⟨hb.wr.own,hb.wr.shared,hb.wr.inj,hb.wr.low⟩,fun i q'=>by
       have:=hb.ta (1+i) q'
       show wl.tape (wl.drawn+1+i) q'=w.tape (w.drawn+1+i) q'
       rw[Nat.add_assoc,Nat.add_assoc]
       exact this,hb.big⟩
      exact .inl ⟨_,_,_,E,_,_,_,s1,s2,.top hf hx (ax (eJ hcd _) htk) (.cons _ hk),hB,fun e he=>by simp at he,⟨E.le_refl,rfl,rfl,rfl,Nat.le_refl _,fun _ _ _=>rfl,fun _ _ _ _ h=>.inl h⟩,Nat.le_succ _,rfl,fun τ hτ=>⟨#[],by
       have h0:τ wl.drawn (.order fn id)=wl.tape wl.drawn (.order fn id):=hτ _ _ (Nat.le_refl _) (Nat.lt_succ_self _)
       rw[←ht0,←h0]
       simp[stepG,stepG.exec,mkF,G,choose,Sem.run,Question.forced,Question.cut,World.tp]⟩⟩
    | rangeFunc a b d e=>cases hcd
    | refuse s=>cases hcd
   | _=>cases hti
end
end Cs
end Go.Proofs.Ytpdemelchhkfaaa
