/-
  Several texts, joined: CzA, CzB.
-/
import Derived.Test.YtpdemelchhkfaaaCwA
import Derived.Test.YtpdemelchhkfaaaJn13
/-
  A piece of a call in company, to its end: it comes to what the same piece comes to alone. One step.
-/
namespace Go.Proofs.Ytpdemelchhkfaaa.Cs
open Go.Conc
variable [Fns]
section
variable {P:Program} {E:Env} {cl c l l':List Frame} {ct:Code} {wl w:World} {main:Bool}
inductive TC (ct:Code):Code→Code→Prop
 | skip:TC ct .skip ct
 | seq (a:Code) {b b':Code} (h:TC ct b b'):TC ct (.seq a b) (.seq a b')
inductive RT (ct:Code):List Item→List Item→Prop
 | cut {d d':Code} (h:TC ct d d'):RT ct [.code d] [.code d']
 | cons (i:Item) {k k':List Item} (h:RT ct k k'):RT ct (i :: k) (i :: k')
inductive GT (P:Program) (E:Env) (fn:FuncId) (cl c:List Frame) (ct:Code):Goroutine→Goroutine→Prop
 | top {x y:Array Value} {todo todo':List Item} (hf:HasF P fn) (hx:LR E x y) (ht:todo.all (itemOk P)=true) (hr:RT ct todo todo'):GT P E fn cl c ct (G (mkF fn x todo .run) cl) (G (mkF fn y todo' .run) c)
 | sub {x y:Array Value} {i:Item} {k k':List Item} {gl g:Goroutine} (hf:HasF P fn) (hx:LR E x y) (ht:(pend (i :: k)).all (itemOk P)=true) (hr:RT ct k k') (h:GR P E (mkF fn x (i :: k) .run :: cl) (mkF fn y (i :: k') .run :: c) gl g):GT P E fn cl c ct gl g
def GoesT (P:Program) (E:Env) (fn:FuncId) (cl c:List Frame) (ct:Code) (main:Bool) (gl g:Goroutine) (wl w:World):Prop :=
 ∃gl' wl' esl E' g' w' es,stepG P true gl wl=.go gl' wl' esl∧stepG P main g w=.go g' w' es∧GT P E' fn cl c ct gl' g'∧Both P E' wl' w'∧(∀e ∈ es,EvOk E' e)∧FC E E' w w'∧LocG P gl wl gl' wl'
theorem goesT_still {fn:FuncId} {x y:Array Value} {todo todo1 todo' todo1':List Item} (hf:HasF P fn) (hx:LR E x y) (ht:todo1.all (itemOk P)=true) (hr:RT ct todo1 todo1') (hb:Both P E wl w)
  (h1:∀wl,stepG P true (G (mkF fn x todo .run) cl) wl=.go (G (mkF fn x todo1 .run) cl) wl) (h2:stepG P main (G (mkF fn y todo' .run) c) w=.go (G (mkF fn y todo1' .run) c) w):GoesT P E fn cl c ct main (G (mkF fn x todo .run) cl) (G (mkF fn y todo' .run) c) wl w :=
 ⟨_,_,_,E,_,_,_,h1 _,h2,.top hf hx ht hr,hb,fun e he=>by simp at he,FC.refl _ _,Nat.le_refl _,rfl,fun _ _=>⟨_,h1 _⟩⟩
theorem finish_okT {fn:FuncId} {x y:Array Value} {i:Item} {k k':List Item} (hr:RT ct k k') (hx:LR E x y) (ht:(pend (i :: k)).all (itemOk P)=true) {u v:Value} (hv:VR E u v):∃x' y' todo1 todo1',(mkF fn x (i :: k) .run).finish u=mkF fn x' todo1 .run∧(mkF fn y (i :: k') .run).finish v=mkF fn y' todo1' .run∧RT ct todo1 todo1'∧LR E x' y'∧todo1.all (itemOk P)=true:=by
 cases i with
 | inRegion ops t =>
  cases t with
  | nil=>exact ⟨x,y,_,_,rfl,rfl,.cons _ hr,hx,ht⟩
  | cons j rest =>
   refine ⟨_,_,.inRegion ops rest :: k,.inRegion ops rest :: k',finish_mk _ _ _ _ _ _ _ _,finish_mk _ _ _ _ _ _ _ _,.cons _ hr,lr_put hx hv _,?_⟩
   exact ht
 | code a=>exact ⟨x,y,_,_,rfl,rfl,.cons _ hr,hx,ht⟩
 | inBlock a=>exact ⟨x,y,_,_,rfl,rfl,.cons _ hr,hx,ht⟩
 | inLoop a=>exact ⟨x,y,_,_,rfl,rfl,.cons _ hr,hx,ht⟩
 | inScope a=>exact ⟨x,y,_,_,rfl,rfl,.cons _ hr,hx,ht⟩
 | _=>simp[pend,itemOk] at ht
omit [Fns] in
theorem exitTo_app {id:Nat}:∀{k k' k1:List Item},RT ct k k'→exitTo id k=some k1→∃k1',exitTo id k'=some k1'∧RT ct k1 k1'
 | _,_,_,.cut _,h=>by cases h
 | _,_,k1,.cons i hr,h=>by
  cases i with
  | inBlock id' =>
   simp only[exitTo] at h ⊢
   split at h
   ·rename_i e
    cases h
    rw[if_pos e]
    exact ⟨_,rfl,hr⟩
   ·rename_i e
    rw[if_neg e]
    exact exitTo_app hr h
  | _ =>
   obtain ⟨a,b,d⟩:=exitTo_app hr (show exitTo id _=some k1 from h)
   exact ⟨a,b,d⟩
omit [Fns] in
theorem gotoIn_app {lb:Nat}:∀{k k' k1:List Item},RT ct k k'→gotoIn lb k=some k1→∃k1',gotoIn lb k'=some k1'∧RT ct k1 k1'
 | _,_,_,.cut _,h=>by cases h
 | _,_,k1,.cons i hr,h=>by
  cases i with
  | inScope body =>
   simp only[gotoIn] at h ⊢
   cases hf:findLabel body lb with
   | some rest =>
    rw[hf] at h
    cases h
    exact ⟨_,rfl,.cons _ (.cons _ hr)⟩
   | none =>
    rw[hf] at h
    exact gotoIn_app hr h
  | _ =>
   obtain ⟨a,b,d⟩:=gotoIn_app hr (show gotoIn lb _=some k1 from h)
   exact ⟨a,b,d⟩
theorem op_alikeT (hG:P.globals.size≤Fns.G) (hC:FnsCode P) {fn:FuncId} {x y:Array Value} {ops:Array Oper} {i:Nat} {rest:List Nat} {k k':List Item} (hf:HasF P fn) (hx:LR E x y) (ht:(Item.inRegion ops (i :: rest) :: k).all (itemOk P)=true) (hr':RT ct k k') (hb:Both P E wl w) :
  GoesT P E fn cl c ct main (G (mkF fn x (.inRegion ops (i :: rest) :: k) .run) cl) (G (mkF fn y (.inRegion ops (i :: rest) :: k') .run) c) wl w∨Lost P (G (mkF fn x (.inRegion ops (i :: rest) :: k) .run) cl) wl:=by
 have hu:VR E undef undef:=.mkTuple (LR.nil _)
 cases hw:((ops[i]?).map (Region.wanted · (yielded ops x))).getD false
 ·obtain ⟨x',y',todo',todo'',e1,e2,er,e3,e4⟩:=finish_okT (fn:=fn) hr' hx (pend_ok ht) hu
  have s1:=fun wl=>stepG_skipped (P:=P) (main:=true) (fn:=fn) (l:=cl) (w:=wl) (rest:=rest) (k:=k) hw
  have s2:=stepG_skipped (P:=P) (main:=main) (fn:=fn) (l:=c) (w:=w) (rest:=rest) (k:=k') (x:=y) (by rw[←yielded_lr hx];exact hw)
  rw[e1] at s1
  rw[e2] at s2
  exact .inl ⟨_,_,_,E,_,_,_,s1 _,s2,.top hf e3 e4 er,hb,fun e he=>by simp at he,FC.refl _ _,Nat.le_refl _,rfl,fun _ _=>⟨_,s1 _⟩⟩
 ·cases ho:ops[i]? with
  | none=>rw[ho] at hw;cases hw
  | some o =>
   rw[ho] at hw
   have hw1:Region.wanted o (yielded ops x)=true:=hw
   have hok:opOk P o.op=true:=by
    simp only[List.all_cons,Bool.and_eq_true,itemOk] at ht
    have h1:=ht.1.1
    rw[ho] at h1
    exact h1
   have s0:=fun wl=>stepG_op' (P:=P) (main:=true) (fn:=fn) (l:=cl) (w:=wl) (rest:=rest) (k:=k) ho hw1
   have s1:=s0 wl
   have s2:=stepG_op' (P:=P) (main:=main) (fn:=fn) (l:=c) (w:=w) (rest:=rest) (k:=k') (x:=y) ho (by rw[←yielded_lr hx];exact hw1)
   have hev:(mkF fn y (.inRegion ops (i :: rest) :: k') .run).eval=(mkF fn y (.inRegion ops (i :: rest) :: k) .run).eval:=by
    funext q
    cases q <;> rfl
   rw[hev] at s2
   have hout:=(sr_exec hG hC.have_ (eval_er (fn:=fn) (todo:=.inRegion ops (i :: rest) :: k) (mode:=.run) hx) o hok).run wl w #[] hb
   cases hr:(execOp (mkF fn x (.inRegion ops (i :: rest) :: k) .run).eval o).run P wl with
   | halt h w' =>
    rw[hr] at hout
    obtain ⟨f0,hfn⟩:=id hf
    rcases apply_halt (fn:=fn) (x:=x) (ops:=ops) (i:=i) (rest:=rest) (k:=k) (cs:=cl) hr hout with ⟨a,b,d,e⟩ | ⟨ch,b,d,e⟩
    ·exact .inr (.inl ⟨a,b,d,by rw[s1];exact e⟩)
    ·exact .inr (.inr ⟨fn,x,_,ch,b,d,by rw[s1];exact e,f0,hfn⟩)
   | ok nx wl' =>
    rw[hr] at hout
    obtain ⟨E',a,w',es',h1,h2,h3,h4,h5⟩:=hout
    have hrl:(execOp (mkF fn x (.inRegion ops (i :: rest) :: k) .run).eval o).runT P wl #[]=(.ok nx wl',((execOp (mkF fn x (.inRegion ops (i :: rest) :: k) .run).eval o).runT P wl #[]).2):=by
     refine Prod.ext ?_ rfl
     rw[Sem.runT_fst]
     exact hr
    obtain ⟨q1,q2,q3⟩:=(sr_exec hG hC.have_ (eval_er (fn:=fn) (todo:=.inRegion ops (i :: rest) :: k) (mode:=.run) hx) o hok).loc wl w hb nx wl' hr
    have hrt:∀τ,(∀i q,wl.drawn≤i→i<wl'.drawn→τ i q=wl.tape i q)→(execOp (mkF fn x (.inRegion ops (i :: rest) :: k) .run).eval o).runT P (wl.tp τ) #[]=(.ok nx (wl'.tp τ),((execOp (mkF fn x (.inRegion ops (i :: rest) :: k) .run).eval o).runT P (wl.tp τ) #[]).2):=fun τ hτ=>by
     refine Prod.ext ?_ rfl
     rw[Sem.runT_fst]
     exact q3 τ hτ
    have evs:∀e ∈ seen P fn (#[]++es'),EvOk E' e:=fun e he=>h4 e (by simpa using mem_seen he)
    left
    cases h2 with
    | value hv =>
     obtain ⟨x',y',todo',todo'',e1,e2,er,e3,e4⟩:=finish_okT (fn:=fn) hr' (hx.mono h5.le) (pend_ok ht) hv
     rw[apply_ok hrl (.inl ⟨_,rfl⟩)] at s1
     rw[apply_ok h1 (.inl ⟨_,rfl⟩)] at s2
     unfold upon at s1 s2
     dsimp only at s1 s2
     have sl:LocG P _ wl _ wl':=⟨q1,q2,fun τ hτ=>⟨_,by rw[s0,apply_ok (hrt τ hτ) (.inl ⟨_,rfl⟩)];rfl⟩⟩
     rw[e1] at s1 sl
     rw[e2] at s2
     exact ⟨_,_,_,E',_,_,_,s1,s2,.top hf e3 e4 er,h3,evs,h5,sl⟩
    | skip =>
     obtain ⟨x',y',todo',todo'',e1,e2,er,e3,e4⟩:=finish_okT (fn:=fn) hr' (hx.mono h5.le) (pend_ok ht) (hu.mono h5.le)
     rw[apply_ok hrl (.inr (.inl rfl))] at s1
     rw[apply_ok h1 (.inr (.inl rfl))] at s2
     unfold upon at s1 s2
     dsimp only at s1 s2
     have sl:LocG P _ wl _ wl':=⟨q1,q2,fun τ hτ=>⟨_,by rw[s0,apply_ok (hrt τ hτ) (.inr (.inl rfl))];rfl⟩⟩
     rw[e1] at s1 sl
     rw[e2] at s2
     exact ⟨_,_,_,E',_,_,_,s1,s2,.top hf e3 e4 er,h3,evs,h5,sl⟩
    | enter f hf' hl =>
     obtain ⟨x',y',todo',e1,e2,e3,e4⟩:=enter_ok hC hf' hl
     rw[apply_ok hrl (.inr (.inr ⟨_,_,rfl⟩))] at s1
     rw[apply_ok h1 (.inr (.inr ⟨_,_,rfl⟩))] at s2
     unfold upon at s1 s2
     dsimp only at s1 s2
     have sl:LocG P _ wl _ wl':=⟨q1,q2,fun τ hτ=>⟨_,by rw[s0,apply_ok (hrt τ hτ) (.inr (.inr ⟨_,_,rfl⟩))];rfl⟩⟩
     rw[e1] at s1 sl
     rw[e2] at s2
     exact ⟨_,_,_,E',_,_,_,s1,s2,.sub hf (hx.mono h5.le) (pend_ok ht) hr' (.mk' (hC.hasF hf') e3 e4 (.inl rfl) .base),h3,evs,h5,sl⟩
theorem CR.len (h:CR P E cl c l l'):cl.length≤l.length∧(l.length=cl.length→l=cl∧l'=c):=by
 induction h with
 | base=>exact ⟨Nat.le_refl _,fun _=>⟨rfl,rfl⟩⟩
 | cons _ _ _ _ ih=>exact ⟨Nat.le_succ_of_le ih.1,fun e=>by have:=ih.1;simp only[List.length_cons] at e;omega⟩
theorem back_alikeT {fn fn2:FuncId} {x y x2 y2:Array Value} {todo:List Item} {i:Item} {k k':List Item} (hf:HasF P fn) (hx:LR E x y) (hf2:HasF P fn2) (hx2:LR E x2 y2) (ht2:(pend (i :: k)).all (itemOk P)=true) (hr':RT ct k k') (hb:Both P E wl w) :
  GoesT P E fn2 cl c ct main (G (mkF fn x todo .returning) (mkF fn2 x2 (i :: k) .run :: cl)) (G (mkF fn y todo .returning) (mkF fn2 y2 (i :: k') .run :: c)) wl w∨Lost P (G (mkF fn x todo .returning) (mkF fn2 x2 (i :: k) .run :: cl)) wl:=by
 obtain ⟨f,h1⟩:=hf
 have s0:=fun wl=>stepG_returns (main:=true) (x:=x) (todo:=todo) (l:=cl) (w:=wl) (cal:=mkF fn2 x2 (i :: k) .run) h1
 have s1:=s0 wl
 have s2:=stepG_returns (main:=main) (x:=y) (todo:=todo) (l:=c) (w:=w) (cal:=mkF fn2 y2 (i :: k') .run) h1
 have hout:=(sr_results (P:=P) f hx).run wl w #[] hb
 cases hr:(results f x).run P wl with
 | halt h w' =>
  rw[hr] at s1
  right;left
  cases h <;> exact ⟨_,_,_,s1⟩
 | ok v wl' =>
  rw[hr] at hout s1
  obtain ⟨E',v',w',es',k1,k2,k3,k4,k5⟩:=hout
  have hr2:(results f y).run P w=.ok v' w':=by rw[←Sem.runT_fst P _ w #[],k1]
  rw[hr2,k1] at s2
  obtain ⟨x',y',todo',todo'',e1,e2,er,e3,e4⟩:=finish_okT (fn:=fn2) hr' (hx2.mono k5.le) ht2 k2
  dsimp only[GStep.after] at s1 s2
  obtain ⟨q1,q2,q3⟩:=(sr_results (P:=P) f hx).loc wl w hb v wl' hr
  have sl:LocG P (G (mkF fn x todo .returning) (mkF fn2 x2 (i :: k) .run :: cl)) wl (G (mkF fn2 x' todo' .run) cl) wl':=⟨q1,q2,fun τ hτ=>⟨_,by
   rw[s0,q3 τ hτ]
   dsimp only[GStep.after]
   rw[e1]⟩⟩
  rw[e1] at s1
  rw[e2] at s2
  left
  refine ⟨_,_,_,E',_,_,_,s1,s2,.top hf2 e3 e4 er,k3,fun e he=>?_,k5,sl⟩
  simp only[Array.append_empty,Array.empty_append] at he
  exact k4 e (mem_seen he)
def AtRet (cl:List Frame) (gl:Goroutine):Prop:=∃fn x k,gl=G (mkF fn x (.code .ret :: k) .run) cl
def StopE (cl:List Frame) (g:Goroutine):Prop:=g.frame.todo=[]∧g.frame.mode=.run∧g.callers=cl
def StopT (cl:List Frame) (g:Goroutine):Prop:=g.frame.todo=[.code .skip]∧g.frame.mode=.run∧g.callers=cl
theorem GT.notE {fn:FuncId} {gl g:Goroutine} (hg:GT P E fn cl c ct gl g):¬StopE cl gl:=by
 rintro ⟨q1,_,q3⟩
 cases hg with
 | top _ _ _ hr =>
  cases hr <;> cases q1
 | sub _ _ _ _ h =>
  obtain ⟨fn,x,y,todo,mode,l,l',rfl,rfl,_,_,_,_,hcr⟩:=h.ex
  have:=hcr.len.1
  have q3':l=cl:=q3
  rw[q3'] at this
  simp at this
  omega
theorem step_alikeT (hG:P.globals.size≤Fns.G) (hC:FnsCode P) {fn:FuncId} {gl g:Goroutine} (hg:GT P E fn cl c ct gl g) (hb:Both P E wl w) (hns:¬StopT cl gl):GoesT P E fn cl c ct main gl g wl w∨Lost P gl wl∨AtRet cl gl:=by
 cases hg with
 | @sub x y i k k' gl g hf hx ht hr' h =>
  by_cases hr:gl.frame.mode=.returning∧gl.callers=mkF fn x (i :: k) .run :: cl
  ·obtain ⟨fn2,x2,y2,todo2,mode,l,l',rfl,rfl,hf2,hx2,ht2,hm,hcr⟩:=h.ex
   obtain ⟨hm2,hl2⟩:=hr
   have hm2':mode=.returning:=hm2
   have hl2':l=mkF fn x (i :: k) .run :: cl:=hl2
   subst hm2'
   obtain ⟨_,e2⟩:=hcr.len.2 (by rw[hl2'])
   subst hl2' e2
   rcases back_alikeT hf2 hx2 hf hx ht hr' hb with h | h
   ·exact .inl h
   ·exact .inr (.inl h)
  ·rcases step_alike (main:=main) hG hC h hb hr with ⟨gl',wl',esl,E',g',w',es,s1,s2,hg,hB,hev,_,hfc,hloc⟩ | hlost
   ·refine .inl ⟨gl',wl',esl,E',g',w',es,s1,s2,.sub hf (hx.mono hfc.le) ht hr' hg,hB,hev,hfc,hloc⟩
   ·exact .inr (.inl hlost)
 | @top x y todo todo' hf hx ht hr' =>
  cases hr' with
  | cut hd =>
   cases hd with
   | skip=>exact absurd ⟨rfl,rfl,rfl⟩ hns
   | seq a hd =>
    simp only[List.all_cons,List.all_nil,Bool.and_true,itemOk,codeOk,Bool.and_eq_true] at ht
    exact .inl (goesT_still (todo1:=[.code a,.code _]) (todo1':=[.code a,.code _]) hf hx (items_cons ht.1 (items_cons ht.2 rfl)) (.cons _ (.cut hd)) hb (fun _=>rfl) rfl)
  | @cons i k k' hk =>
   have htk:k.all (itemOk P)=true:=by simp only[List.all_cons,Bool.and_eq_true] at ht;exact ht.2
   have hti:itemOk P i=true:=by simp only[List.all_cons,Bool.and_eq_true] at ht;exact ht.1
   cases i with
   | inBlock id=>exact .inl (goesT_still hf hx htk hk hb (fun _=>rfl) rfl)
   | inScope b=>exact .inl (goesT_still hf hx htk hk hb (fun _=>rfl) rfl)
   | inLoop b=>exact .inl (goesT_still (todo1:=.code b :: .inLoop b :: k) hf hx (items_cons hti (items_cons hti htk)) (.cons _ (.cons _ hk)) hb (fun _=>rfl) rfl)
   | inRegion ops t =>
    cases t with
    | nil=>exact .inl (goesT_still hf hx htk hk hb (fun _=>rfl) rfl)
    | cons j rest =>
     rcases op_alikeT (cl:=cl) (c:=c) (main:=main) hG hC hf hx ht hk hb with h | h
     ·exact .inl h
     ·exact .inr (.inl h)
   | code cd =>
    have hcd:codeOk P cd=true:=hti
    cases cd with
    | skip=>exact .inl (goesT_still hf hx htk hk hb (fun _=>rfl) rfl)
    | label lb=>exact .inl (goesT_still hf hx htk hk hb (fun _=>rfl) rfl)
    | ret=>exact .inr (.inr ⟨_,_,_,rfl⟩)
    | seq a b =>
     simp only[codeOk,Bool.and_eq_true] at hcd
     exact .inl (goesT_still (todo1:=.code a :: .code b :: k) hf hx (items_cons hcd.1 (items_cons hcd.2 htk)) (.cons _ (.cons _ hk)) hb (fun _=>rfl) rfl)
    | block id a=>exact .inl (goesT_still (todo1:=.code a :: .inBlock id :: k) hf hx (items_cons (show codeOk P a=true from hcd) (items_cons rfl htk)) (.cons _ (.cons _ hk)) hb (fun _=>rfl) rfl)
    | loop a=>exact .inl (goesT_still (todo1:=.code a :: .inLoop a :: k) hf hx (items_cons (show codeOk P a=true from hcd) (items_cons (show codeOk P a=true from hcd) htk)) (.cons _ (.cons _ hk)) hb (fun _=>rfl) rfl)
    | scope a=>exact .inl (goesT_still (todo1:=.code a :: .inScope a :: k) hf hx (items_cons (show codeOk P a=true from hcd) (items_cons (show codeOk P a=true from hcd) htk)) (.cons _ (.cons _ hk)) hb (fun _=>rfl) rfl)
    | cond q a b =>
     simp only[codeOk,Bool.and_eq_true] at hcd
     have s1:=fun wl=>stepG_cond' (P:=P) (main:=true) fn x q a b k cl wl
     have s2:=stepG_cond' (P:=P) (main:=main) fn y q a b k' c w
     have hv:=eval_er (fn:=fn) (todo:=.code (.cond q a b) :: k) (mode:=.run) hx q hcd.1.1
     have hev:(mkF fn y (.code (.cond q a b) :: k') .run).eval q=(mkF fn y (.code (.cond q a b) :: k) .run).eval q:=by cases q <;> rfl
     rw[hev] at s2
     generalize (mkF fn x (.code (.cond q a b) :: k) .run).eval q=u at hv s1
     generalize (mkF fn y (.code (.cond q a b) :: k) .run).eval q=v at hv s2
     cases hv with
     | bool t=>exact .inl (goesT_still hf hx (items_cons (i:=.code (if t then a else b)) (by cases t;exact hcd.2;exact hcd.1.2) htk) (.cons _ hk) hb s1 s2)
     | _=>exact .inr (.inl (.inl ⟨_,_,_,s1 wl⟩))
    | exit id =>
     cases he:exitTo id k with
     | none=>exact .inr (.inl (.inl ⟨_,_,_,by simp only[G,stepG,stepG.exec,mkF,he,Option.elim_none];rfl⟩))
     | some k1 =>
      obtain ⟨k1',he',hr1⟩:=exitTo_app hk he
      exact .inl (goesT_still hf hx (exitTo_ok id htk he) hr1 hb (fun _=>by simp only[G,stepG,stepG.exec,mkF,he,Option.elim_some]) (by simp only[G,stepG,stepG.exec,mkF,he',Option.elim_some]))
    | goto lb =>
     cases he:gotoIn lb k with
     | none=>exact .inr (.inl (.inl ⟨_,_,_,by simp only[G,stepG,stepG.exec,mkF,he,Option.elim_none];rfl⟩))
     | some k1 =>
      obtain ⟨k1',he',hr1⟩:=gotoIn_app hk he
      exact .inl (goesT_still hf hx (gotoIn_ok lb htk he) hr1 hb (fun _=>by simp only[G,stepG,stepG.exec,mkF,he,Option.elim_some]) (by simp only[G,stepG,stepG.exec,mkF,he',Option.elim_some]))
    | region id ops draw =>
     cases draw
     ·exact .inl (goesT_still (todo1:=.inRegion ops (List.range ops.size) :: k) hf hx (items_cons (region_ok hcd _) htk) (.cons _ hk) hb (fun _=>rfl) rfl)
     ·have ht0:wl.tape wl.drawn (.order fn id)=w.tape w.drawn (.order fn id):=hb.ta 0 _
      have s1:stepG P true (G (mkF fn x (.code (.region id ops true) :: k) .run) cl) wl=.go (G (mkF fn x (.inRegion ops (Region.schedule (P.follows .mixedOrders) ops (w.tape w.drawn (.order fn id))) :: k) .run) cl) { wl with drawn:=wl.drawn+1 }:=by
       rw[←ht0]
       simp[stepG,stepG.exec,mkF,G,choose,Sem.run,Question.forced,Question.cut]
      have s2:stepG P main (G (mkF fn y (.code (.region id ops true) :: k') .run) c) w=.go (G (mkF fn y (.inRegion ops (Region.schedule (P.follows .mixedOrders) ops (w.tape w.drawn (.order fn id))) :: k') .run) c) { w with drawn:=w.drawn+1 }:=by
       simp[stepG,stepG.exec,mkF,G,choose,Sem.run,Question.forced,Question.cut]
      have hB:Both P E { wl with drawn:=wl.drawn+1 } { w with drawn:=w.drawn+1 }:=⟨⟨hb.wr.own,hb.wr.shared,hb.wr.inj,hb.wr.low⟩,fun i q'=>by
       have:=hb.ta (1+i) q'
       show wl.tape (wl.drawn+1+i) q'=w.tape (w.drawn+1+i) q'
       rw[Nat.add_assoc,Nat.add_assoc]
       exact this,hb.big⟩
      exact .inl ⟨_,_,_,E,_,_,_,s1,s2,.top hf hx (items_cons (region_ok hcd _) htk) (.cons _ hk),hB,fun e he=>by simp at he,⟨E.le_refl,rfl,rfl,rfl,Nat.le_refl _,fun _ _ _=>rfl,fun _ _ _ _ h=>.inl h⟩,Nat.le_succ _,rfl,fun τ hτ=>⟨#[],by
       have h0:τ wl.drawn (.order fn id)=wl.tape wl.drawn (.order fn id):=hτ _ _ (Nat.le_refl _) (Nat.lt_succ_self _)
       rw[←ht0,←h0]
       simp[stepG,stepG.exec,mkF,G,choose,Sem.run,Question.forced,Question.cut,World.tp]⟩⟩
    | rangeFunc a b d e=>cases hcd
    | refuse s=>cases hcd
   | _=>cases hti
end
end Go.Proofs.Ytpdemelchhkfaaa.Cs

/-
  A piece of a call in company, to its end: it comes to what the same piece comes to alone.
-/
namespace Go.Proofs.Ytpdemelchhkfaaa.Cs
open Go.Conc
def ReachT (P:Program) (cl:List Frame) (Post:Array Value→World→Prop) (g:Goroutine) (w:World):Prop :=
 ∃n fn x w',runN P n (lone g.frame g.callers w)=.next (lone (mkF fn x [] .run) cl w')∧Post x w'
def LiveT (P:Program) (cl:List Frame) (Post:Array Value→World→Prop) (g:Goroutine) (w:World):Prop:=∀τ,(∀i q,i<w.drawn→τ i q=w.tape i q)→ReachT P cl Post g (w.tp τ)
def AfterT (P:Program) (cl:List Frame) (s' s:Gh):Prop :=
 ¬StopE cl s.1∧(∃fr cs,s.1=G fr cs)∧(∃fr cs,s'.1=G fr cs)∧∃τ,LocG P s.1 (s.2.tp τ) s'.1 s'.2
section
variable {P:Program} {cl:List Frame} {Post:Array Value→World→Prop}
theorem liveT_acc {g:Goroutine} {w:World} (h:LiveT P cl Post g w):Acc (AfterT P cl) (g,w):=by
 apply Classical.byContradiction
 intro hn
 obtain ⟨f,f0,hf⟩:=notAcc_chain hn
 let d:Nat→Nat:=fun k=>(f k).2.drawn
 let t:Nat→Nat→Question→Nat:=fun k=>Classical.choose (hf k).2.2.2
 have ht:∀k,LocG P (f k).1 ((f k).2.tp (t k)) (f (k+1)).1 (f (k+1)).2:=fun k=>Classical.choose_spec (hf k).2.2.2
 have hd:∀k,d k≤d (k+1):=fun k=>(ht k).1
 have hmono:∀k j,d k≤d (k+j):=fun k j=>by
  induction j with
  | zero=>exact Nat.le_refl _
  | succ j ih=>exact Nat.le_trans ih (hd (k+j))
 let T:Nat→Question→Nat:=fun i q=>open Classical in if hk:∃k,d k≤i∧i<d (k+1) then t (Classical.choose hk) i q else w.tape i q
 have hT:∀k i q,d k≤i→i<d (k+1)→T i q=t k i q:=fun k i q h1 h2=>by
  have hk:∃k,d k≤i∧i<d (k+1):=⟨k,h1,h2⟩
  show (open Classical in if hk:∃k,d k≤i∧i<d (k+1) then t (Classical.choose hk) i q else w.tape i q)=_
  rw[dif_pos hk]
  obtain ⟨h3,h4⟩:=Classical.choose_spec hk
  have:Classical.choose hk=k:=by
   rcases Nat.lt_trichotomy (Classical.choose hk) k with hlt | heq | hgt
   ·have:=hmono (Classical.choose hk+1) (k-(Classical.choose hk+1))
    rw[show Classical.choose hk+1+(k-(Classical.choose hk+1))=k by omega] at this
    omega
   ·exact heq
   ·have:=hmono (k+1) (Classical.choose hk-(k+1))
    rw[show k+1+(Classical.choose hk-(k+1))=Classical.choose hk by omega] at this
    omega
  rw[this]
 have hrun:∀k,runN P k (lone (f 0).1.frame (f 0).1.callers ((f 0).2.tp T))=.next (lone (f k).1.frame (f k).1.callers ((f k).2.tp T)):=fun k=>by
  induction k with
  | zero=>rfl
  | succ k ih =>
   have hs:=step_of_loc (τ':=T) (hf k).2.1 (hf k).2.2.1 (ht k) (fun i q h1 h2=>hT k i q h1 h2)
   rw[runN_add,ih]
   show runN P 1 _=_
   simp only[runN,hs]
 have hd0:d 0=w.drawn:=by show (f 0).2.drawn=_;rw[f0]
 obtain ⟨n,fn,x,w',h1,_⟩:=h T (fun i q hi=>by
  show (open Classical in if hk:∃k,d k≤i∧i<d (k+1) then t (Classical.choose hk) i q else w.tape i q)=_
  rw[dif_neg (fun ⟨k,h3,_⟩=>by have:=hmono 0 k;rw[Nat.zero_add] at this;omega)])
 have hfn:=hrun n
 rw[f0] at hfn
 rw[hfn] at h1
 injection h1 with h1
 obtain ⟨e1,e2,_⟩:=lone_inj h1
 exact (hf n).1 ⟨by rw[e1];rfl,by rw[e1];rfl,e2⟩
theorem never_runs:∀(n:Nat) {l:List Frame},PanL P l→∀{fn:FuncId} {x:Array Value} {todo:List Item} {chain:List PanicEntry} {w:World},(∃f,P.funcs[fn]? = some f)→∀{fr':Frame} {cs':List Frame} {w':World},runN P n (lone (mkF fn x todo (.panicking chain)) l w)=.next (lone fr' cs' w')→fr'.mode≠.run
 | 0,l,_,fn,x,todo,chain,w,_,fr',cs',w',h=>by
  injection h with h
  obtain ⟨rfl,_⟩:=lone_inj h
  exact fun e=>by cases e
 | n+1,l,hl,fn,x,todo,chain,w,⟨f,hf⟩,fr',cs',w',h=>by
  have hstep:∀(cal:Frame) (rest:List Frame),l=cal :: rest→step P (lone (mkF fn x todo (.panicking chain)) l w)=.next (lone (cal.raise chain) rest w):=fun cal rest e=>by
   subst e
   refine step_lone_go ?_
   have hc:(mkF fn x todo (.panicking chain)).catches P=false:=by
    unfold Frame.catches
    have:P.funcs[(mkF fn x todo (.panicking chain)).fn]? = some f:=hf
    rw[this]
   show GStep.bare (unwind P true (mkF fn x todo (.panicking chain)) (cal :: rest) none w)=_
   unfold unwind
   simp only[mkF] at hc ⊢
   simp only[hc,Bool.false_eq_true,if_false]
   rfl
  cases hl with
  | base =>
   simp only[runN,hstep _ _ rfl] at h
   cases n with
   | zero =>
    injection h with h
    obtain ⟨rfl,_⟩:=lone_inj h
    exact fun e=>by cases e
   | succ n =>
    obtain ⟨o,w2,hd⟩:=trap_panic (P:=P) chain w
    exact absurd h (runN_dead hd n _)
  | cons hf2 hl2 =>
   simp only[runN,hstep _ _ rfl] at h
   exact never_runs n hl2 hf2 h
theorem lost_notT {fn:FuncId} {x:Array Value} {todo:List Item} {mode:FrameMode} {l:List Frame} (hl:PanL P l) {wl:World} (hns:¬StopE [trap P] (G (mkF fn x todo mode) l)) (h:Lost P (G (mkF fn x todo mode) l) wl):¬ReachT P [trap P] Post (G (mkF fn x todo mode) l) wl:=by
 rintro ⟨n,fn',x',w',h1,_⟩
 cases n with
 | zero =>
  injection h1 with h1
  obtain ⟨e1,e2,_⟩:=lone_inj h1
  exact hns ⟨by rw[e1];rfl,by rw[e1];rfl,e2⟩
 | succ n =>
  rcases h with ⟨o,w2,es,h⟩ | ⟨fn2,x2,todo2,chain,w2,es,h,hf2⟩
  ·have:step P (lone (mkF fn x todo mode) l wl)=.ended o w2:=step_lone_ended (by
    have h5:stepG P true { frame:=mkF fn x todo mode,callers:=l,status:=.running,dying:=none } wl=_:=h
    rw[h5]
    rfl)
   exact runN_dead this n _ h1
  ·have:step P (lone (mkF fn x todo mode) l wl)=.next (lone (mkF fn2 x2 todo2 (.panicking chain)) l w2):=step_lone_go (by
    have h5:stepG P true { frame:=mkF fn x todo mode,callers:=l,status:=.running,dying:=none } wl=_:=h
    rw[h5]
    rfl)
   have h1':runN P (n+1) (lone (mkF fn x todo mode) l wl)=.next (lone (mkF fn' x' [] .run) [trap P] w'):=h1
   simp only[runN,this] at h1'
   exact never_runs n hl hf2 h1' rfl
theorem ret_notT {fn:FuncId} {x:Array Value} {k:List Item} (hf:HasF P fn) {wl:World}:¬ReachT P [trap P] Post (G (mkF fn x (.code .ret :: k) .run) [trap P]) wl:=by
 rintro ⟨n,fn',x',w',h1,_⟩
 obtain ⟨f,hfn⟩:=hf
 cases n with
 | zero =>
  injection h1 with h1
  obtain ⟨e1,_⟩:=lone_inj h1
  have:=congrArg Frame.todo e1
  cases this
 | succ n =>
  have s1:step P (lone (mkF fn x (.code .ret :: k) .run) [trap P] wl)=.next (lone (mkF fn x (.code .ret :: k) .returning) [trap P] wl):=step_lone_go rfl
  have h1':runN P (n+1) (lone (mkF fn x (.code .ret :: k) .run) [trap P] wl)=.next (lone (mkF fn' x' [] .run) [trap P] w'):=h1
  simp only[runN,s1] at h1'
  cases n with
  | zero =>
   injection h1' with h1'
   obtain ⟨e1,_⟩:=lone_inj h1'
   have:=congrArg Frame.mode e1
   cases this
  | succ n =>
   have s2:=stepG_returns (P:=P) (main:=true) (x:=x) (todo:=.code .ret :: k) (l:=[]) (w:=wl) (cal:=trap P) hfn
   cases hr:(results f x).run P wl with
   | halt hh w2 =>
    rw[hr] at s2
    have:∃o w3,step P (lone (mkF fn x (.code .ret :: k) .returning) [trap P] wl)=.ended o w3:=by
     cases hh <;> exact ⟨_,_,step_lone_ended (by
      have h5:stepG P true { frame:=mkF fn x (.code .ret :: k) .returning,callers:=[trap P],status:=.running,dying:=none } wl=_:=s2
      rw[h5]
      rfl)⟩
    obtain ⟨o,w3,h4⟩:=this
    exact runN_dead h4 n _ h1'
   | ok u w2 =>
    rw[hr] at s2
    have h4:step P (lone (mkF fn x (.code .ret :: k) .returning) [trap P] wl)=.next (lone ((trap P).finish u) [] w2):=step_lone_go (by
     have h5:stepG P true { frame:=mkF fn x (.code .ret :: k) .returning,callers:=[trap P],status:=.running,dying:=none } wl=_:=s2
     rw[h5]
     rfl)
    simp only[runN,h4] at h1'
    cases n with
    | zero =>
     injection h1' with h1'
     obtain ⟨_,e2,_⟩:=lone_inj h1'
     cases e2
    | succ n =>
     obtain ⟨o,w3,h5⟩:=trap_step (P:=P) u w2
     exact runN_dead h5 n _ h1'
theorem reachT_code {fn:FuncId} {x:Array Value} {w:World} {c:Code} (h:c.wp P (fun e a w'=>e=.normal∧a.defers=[]∧Post a.tmps w') ⟨x,[]⟩ w):ReachT P cl Post (G (mkF fn x [.code c] .run) cl) w:=by
 obtain ⟨e,a',w',⟨rfl,h1,h2⟩,harr⟩:=h (mkF fn #[] [] .run) [] cl
 obtain ⟨n,hn⟩:=(show Steps P (lone ((mkF fn #[] [] .run).at ⟨x,[]⟩ [.code c]) cl w) (lone ((mkF fn #[] [] .run).at a' []) cl w') from harr)
 obtain ⟨T,D⟩:=a'
 cases h1
 exact ⟨n,fn,T,w',hn,h2⟩
end
variable [Fns]
theorem CR.panL2 {P:Program} {E:Env} {cl c l l':List Frame} (hcl:PanL P cl) (h:CR P E cl c l l'):PanL P l:=by
 induction h with
 | base=>exact hcl
 | cons hf _ _ _ ih=>exact .cons hf ih
structure InPre (P:Program) (Post:Array Value→World→Prop) (fB:FuncId) (c:List Frame) (ct:Code) (E:Env) (gl:Goroutine) (wl:World) (g:Goroutine) (w:World):Prop where
 gt:GT P E fB [trap P] c ct gl g
 wr:WR P E wl w
 big:Fns.G≤wl.heap.size
 live:LiveT P [trap P] Post gl wl
section
variable {P:Program} {Post:Array Value→World→Prop} {fB:FuncId} {c:List Frame} {ct:Code} {E:Env} {gl g:Goroutine} {wl w:World}
theorem InPre.other {w2:World} (h:InPre P Post fB c ct E gl wl g w) (hw:∀b x,E b=some x→w2.heap[x.1]? = w.heap[x.1]?):InPre P Post fB c ct E gl wl g w2:=by
 refine ⟨h.gt,⟨fun b q s e=>?_,fun b q s e=>?_,h.wr.inj,h.wr.low⟩,h.big,h.live⟩
 ·obtain ⟨h1,ol,o,h2,h3,h4⟩:=h.wr.own b q s e
  exact ⟨h1,ol,o,h2,(hw b _ e).trans h3,h4⟩
 ·obtain ⟨x,T,y,T',fr,h1,h2,h3,h4⟩:=h.wr.shared b q s e
  exact ⟨x,T,y,T',fr,h1,h2,(hw b _ e).trans h3,h4⟩
theorem InPre.running (h:InPre P Post fB c ct E gl wl g w):g.status=.running:=by
 cases h.gt with
 | top=>rfl
 | sub _ _ _ _ h =>
  obtain ⟨fn,x,y,todo,mode,l,l',rfl,rfl,_⟩:=h.ex
  rfl
theorem InPre.start (hf:HasF P fB) {x y:Array Value} (hx:LR E x y) (hw:WR P E wl w) (hb:Fns.G≤wl.heap.size) {d d':Code} (ht:codeOk P d=true) (hd:TC ct d d') (hr:∀τ,ReachT P [trap P] Post (G (mkF fB x [.code d] .run) [trap P]) (wl.tp τ)) :
  InPre P Post fB c ct E (G (mkF fB x [.code d] .run) [trap P]) wl (G (mkF fB y [.code d'] .run) c) w:=⟨.top hf hx (items_cons (show itemOk P (.code d)=true from ht) rfl) (.cut hd),hw,hb,fun τ _=>hr τ⟩
theorem InPre.step (hG:P.globals.size≤Fns.G) (hC:FnsCode P) (main:Bool) (h:InPre P Post fB c ct E gl wl g w) (hns:¬StopT [trap P] gl) :
  ∃E' gl' wl' g' w' es,stepG P main g w=.go g' w' es∧InPre P Post fB c ct E' gl' wl' g' w'∧AfterT P [trap P] (gl',wl') (gl,wl)∧(∀e ∈ es,EvOk E' e)∧FC E E' w w':=by
 have hb:Both P E (wl.tp (aligned wl w)) w:=⟨h.wr.tp _,aligned_ta _ _,h.big⟩
 have form:∀{E:Env} {gl g:Goroutine},GT P E fB [trap P] c ct gl g→∃fn x todo mode l,gl=G (mkF fn x todo mode) l∧HasF P fn∧PanL P l:=fun {E gl g} hg=>by
  cases hg with
  | top hf _ _ _=>exact ⟨_,_,_,_,_,rfl,hf,.base⟩
  | sub hf _ _ _ h =>
   obtain ⟨fn,x,y,todo,mode,l,l',rfl,rfl,hf2,_,_,_,hcr⟩:=h.ex
   exact ⟨_,_,_,_,_,rfl,hf2,hcr.panL2 (.cons hf .base)⟩
 obtain ⟨fn,x,todo,mode,l,e0,hf0,hp⟩:=form h.gt
 rcases step_alikeT (main:=main) hG hC h.gt hb hns with ⟨gl',wl',esl,E',g',w',es,s1,s2,hg,hB,hev,hfc,hloc⟩ | hlost | ⟨fn2,x2,k2,e2⟩
 ·have f1:∃fr cs,gl=G fr cs:=⟨_,_,e0⟩
  have f2:∃fr cs,gl'=G fr cs:=by
   obtain ⟨_,_,_,_,_,e,_⟩:=form hg
   exact ⟨_,_,e⟩
  refine ⟨E',gl',wl',g',w',es,s2,⟨hg,hB.wr,hB.big,fun τ hτ=>?_⟩,⟨h.gt.notE,f1,f2,_,hloc⟩,hev,hfc⟩
  obtain ⟨l1,l2,l3⟩:=hloc
  have l1':wl.drawn≤wl'.drawn:=l1
  have l2':wl'.tape=aligned wl w:=l2
  rw[l2'] at hτ
  obtain ⟨n,fn,x,w2,h1,h3⟩:=h.live τ (fun i q hi=>by rw[hτ i q (by omega),aligned_low q hi])
  cases n with
  | zero =>
   injection h1 with h1
   obtain ⟨e1,e2,_⟩:=lone_inj h1
   exact absurd ⟨by rw[e1];rfl,by rw[e1];rfl,e2⟩ h.gt.notE
  | succ n =>
   have hs:=step_of_loc (P:=P) (s:=(gl,wl)) (s':=(gl',wl')) (τ:=aligned wl w) (τ':=τ) f1 f2 ⟨l1,l2,l3⟩ (fun i q h4 h5=>hτ i q h5)
   simp only[runN,hs] at h1
   exact ⟨n,fn,x,w2,h1,h3⟩
 ·subst e0
  exact absurd (h.live (aligned wl w) (fun i q hi=>aligned_low q hi)) (lost_notT hp h.gt.notE hlost)
 ·have e3:=e0
  rw[e2] at e3
  have hfn:fn2=fn:=congrArg (fun g=>g.frame.fn) e3
  subst hfn
  have hl:=h.live (aligned wl w) (fun i q hi=>aligned_low q hi)
  rw[e2] at hl
  exact absurd hl (ret_notT hf0)
theorem InPre.stop (h:InPre P Post fB c ct E gl wl g w) (hs:StopT [trap P] gl):∃x y wl2,g=G (mkF fB y [.code ct] .run) c∧LR E x y∧WR P E wl2 w∧Post x wl2∧Fns.G≤wl2.heap.size:=by
 obtain ⟨n,fn',x',w',h1,h2⟩:=h.live (aligned wl w) (fun i q hi=>aligned_low q hi)
 obtain ⟨q1,q2,q3⟩:=hs
 cases h.gt with
 | sub hf hx ht _ h3 =>
  exfalso
  obtain ⟨fn,x,y,todo,mode,l,l',rfl,rfl,hf2,_,_,_,hcr⟩:=h3.ex
  have:=hcr.len.1
  have q3':l=[trap P]:=q3
  rw[q3'] at this
  simp at this
 | @top x y todo todo' hf hx ht hr =>
  have q1':todo=[.code .skip]:=q1
  subst q1'
  have ht':todo'=[.code ct]:=by
   cases hr with
   | cut hd=>cases hd;rfl
   | cons i hk=>cases hk
  subst ht'
  cases n with
  | zero =>
   injection h1 with h1
   obtain ⟨e1,_,_⟩:=lone_inj h1
   have:=congrArg Frame.todo e1
   cases this
  | succ n =>
  have s0:_root_.Go.step P (lone (mkF fB x [.code .skip] .run) [trap P] (wl.tp (aligned wl w)))=.next (lone (mkF fB x [] .run) [trap P] (wl.tp (aligned wl w))):=step_lone_go rfl
  have h1:runN P (n+1) (lone (mkF fB x [.code .skip] .run) [trap P] (wl.tp (aligned wl w)))=.next (lone (mkF fn' x' [] .run) [trap P] w'):=h1
  simp only[runN,s0] at h1
  cases n with
  | zero =>
   injection h1 with h1
   obtain ⟨e1,_,e3⟩:=lone_inj h1
   have e4:x=x':=congrArg Frame.tmps e1
   subst e4
   rw[←e3] at h2
   exact ⟨x,y,_,rfl,hx,h.wr.tp _,h2,h.big⟩
  | succ n =>
   exfalso
   obtain ⟨f,hfn⟩:=hf
   have s1:_root_.Go.step P (lone (mkF fB x [] .run) [trap P] (wl.tp (aligned wl w)))=.next (lone (mkF fB x [] .returning) [trap P] (wl.tp (aligned wl w))):=step_lone_go rfl
   have h1':runN P (n+1) (lone (mkF fB x [] .run) [trap P] (wl.tp (aligned wl w)))=.next (lone (mkF fn' x' [] .run) [trap P] w'):=h1
   simp only[runN,s1] at h1'
   have hl:∀n,runN P n (lone (mkF fB x [] .returning) [trap P] (wl.tp (aligned wl w)))=.next (lone (mkF fn' x' [] .run) [trap P] w')→False:=fun n hn=>by
    cases n with
    | zero =>
     injection hn with hn
     obtain ⟨e1,_⟩:=lone_inj hn
     have:=congrArg Frame.mode e1
     cases this
    | succ n =>
     have s2:=stepG_returns (P:=P) (main:=true) (x:=x) (todo:=[]) (l:=[]) (w:=wl.tp (aligned wl w)) (cal:=trap P) hfn
     cases hr:(results f x).run P (wl.tp (aligned wl w)) with
     | halt hh w2 =>
      rw[hr] at s2
      have:∃o w3,_root_.Go.step P (lone (mkF fB x [] .returning) [trap P] (wl.tp (aligned wl w)))=.ended o w3:=by
       cases hh <;> exact ⟨_,_,step_lone_ended (by
        have h5:stepG P true { frame:=mkF fB x [] .returning,callers:=[trap P],status:=.running,dying:=none } (wl.tp (aligned wl w))=_:=s2
        rw[h5]
        rfl)⟩
      obtain ⟨o,w3,h4⟩:=this
      exact runN_dead h4 n _ hn
     | ok u w2 =>
      rw[hr] at s2
      have h4:_root_.Go.step P (lone (mkF fB x [] .returning) [trap P] (wl.tp (aligned wl w)))=.next (lone ((trap P).finish u) [] w2):=step_lone_go (by
       have h5:stepG P true { frame:=mkF fB x [] .returning,callers:=[trap P],status:=.running,dying:=none } (wl.tp (aligned wl w))=_:=s2
       rw[h5]
       rfl)
      simp only[runN,h4] at hn
      cases n with
      | zero =>
       injection hn with hn
       obtain ⟨_,e2,_⟩:=lone_inj hn
       cases e2
      | succ n =>
       obtain ⟨o,w3,h5⟩:=trap_step (P:=P) u w2
       exact runN_dead h5 n _ hn
   exact hl n h1'
end
section
variable {P:Program} {Sn:Nat→Prop}
inductive OptLtT (P:Program):Option { s:Gh // Acc (AfterT P [trap P]) s }→Option { s:Gh // Acc (AfterT P [trap P]) s }→Prop
 | on {s s':{ s:Gh // Acc (AfterT P [trap P]) s }} (h:AfterT P [trap P] s'.1 s.1):OptLtT P (some s') (some s)
omit [Fns] in
theorem optLtT_wf (P:Program):WellFounded (OptLtT P):=by
 have key:∀s:Gh,Acc (AfterT P [trap P]) s→∀hs,Acc (OptLtT P) (some ⟨s,hs⟩):=fun s h=>by
  induction h with
  | intro s _ ih=>exact fun hs=>Acc.intro _ fun y hy=>by cases hy with | on h=>exact ih _ h _
 refine ⟨fun a=>?_⟩
 cases a with
 | none=>exact Acc.intro _ fun y hy=>by cases hy
 | some s=>exact key s.1 s.2 s.2
theorem beside_pre {Post:Array Value→World→Prop} (hG:P.globals.size≤Fns.G) (hC:FnsCode P) {gs:Array Goroutine} {t:Trace} {q:Nat→Nat} {d:Nat} {g:Goroutine} {w:World} {sl:Option (Nat × Nat)} {fB:FuncId} {c:List Frame} {ct:Code} {E:Env} {gl:Goroutine} {wl:World} (hn:∀b x,E b=some x→¬Sn x.1) (hsn:∀b,Sn b→b<w.heap.size) (h0:gs[0]? = some g) (hin:InPre P Post fB c ct E gl wl g w) (hq:Qs P Sn gs t q d w.heap.size) :
  ∃N gs' w' sl' t' q' E' x y wl2,runNT P N (crowd gs w sl) t=(.next (crowd gs' w' sl'),t')∧gs'.size=gs.size∧gs'[0]? = some (G (mkF fB y [.code ct] .run) c)∧Post x wl2∧LR E' x y∧WR P E' wl2 w'∧Fns.G≤wl2.heap.size∧FC E E' w w'∧Qs P Sn gs' t' q' d w'.heap.size:=by
 have hnn:∀{E':Env} {w':World},FC E E' w w'→∀b x,E' b=some x→¬Sn x.1:=fun {E' w'} hf b x hx hs=>by
  obtain ⟨c,s,o⟩:=x
  rcases hf.fresh b c s o hx with h1 | ⟨h1,_⟩
  ·exact hn b _ h1 hs
  ·exact absurd (hsn c hs) (by omega)
 let Q:Nat→Goroutine→World→Prop:=fun d' g' w'=>d'=d∧∃E' x y wl2,g'=G (mkF fB y [.code ct] .run) c∧Post x wl2∧LR E' x y∧WR P E' wl2 w'∧Fns.G≤wl2.heap.size∧FC E E' w w'
 let I:Option { s:Gh // Acc (AfterT P [trap P]) s }→Nat→Goroutine→World→Prop:=fun μ d' g' w'=>match μ with
  | some s=>d'=d∧∃E',InPre P Post fB c ct E' s.1.1 s.1.2 g' w'∧FC E E' w w'
  | none=>False
 have fcAt:∀{E':Env} {w':World} (k:Nat),FC E E' w w'→FC E E' w (w'.at k):=fun k h=>⟨h.le,h.os,h.tape,h.output,h.size,h.keep,h.fresh⟩
 have fcAt':∀{E':Env} {w':World} (k:Nat),FC E E' w (w'.at k)→FC E E' w w':=fun k h=>⟨h.le,h.os,h.tape,h.output,h.size,h.keep,h.fresh⟩
 have a1:∀μ d' g' w' k,I μ d' g' w'→I μ d' g' (w'.at k):=fun μ d' g' w' k h=>by
  cases μ with
  | none=>exact h
  | some s =>
   obtain ⟨h0,E',h1,h2⟩:=h
   exact ⟨h0,E',h1.other fun _ _ _=>rfl,fcAt k h2⟩
 have a2:∀d' g' w' k,Q d' g' (w'.at k)→Q d' g' w':=fun d' g' w' k h=>by
  obtain ⟨h1,E',x,y,wl2,e,k1,k2,k3,k5,k4⟩:=h
  exact ⟨h1,E',x,y,wl2,e,k1,k2,k3.keep fun _ _ _ _ _=>rfl,k5,fcAt' k k4⟩
 have a3:∀μ d' g' w',I μ d' g' w'→g'.status=.running:=fun μ d' g' w' h=>by
  cases μ with
  | none=>exact h.elim
  | some s =>
   obtain ⟨_,E',h1,h2⟩:=h
   exact h1.running
 have a4:∀μ d' g' w',I μ d' g' w'→Q d' g' w'∨∃g2 w2 es μ',stepG P true g' w'=.go g2 w2 es∧OptLtT P μ' μ∧I μ' (deafBehind d' es) g2 w2∧w'.heap.size≤w2.heap.size∧∀e ∈ es,EvS Sn w2.heap.size e:=fun μ d' g' w' h=>by
  cases μ with
  | none=>exact h.elim
  | some s =>
   obtain ⟨rfl,E1,hin1,hf1⟩:=h
   by_cases hs:StopT [trap P] s.1.1
   ·obtain ⟨x,y,wl2,e,k1,k2,k3,k4⟩:=hin1.stop hs
    exact .inl ⟨rfl,E1,x,y,wl2,e,k3,k1,k2,k4,hf1⟩
   ·obtain ⟨E',gl',wl',g2,w2,es,hst,hin',haft,hev,hfc⟩:=hin1.step hG hC true hs
    have hok:=fun e he=>evOk_s (Sn:=Sn) hin'.wr (hnn (hf1.trans hfc)) (hev e he)
    exact .inr ⟨g2,w2,es,some ⟨(gl',wl'),liveT_acc hin'.live⟩,hst,.on haft,⟨deafBehind_still (fun e he=>(hok e he).2) _,E',hin',hf1.trans hfc⟩,hfc.size,fun e he=>(hok e he).1⟩
 obtain ⟨N,gs',w',sl',t',q',d',g',h1,h2,h3,⟨rfl,E',x,y,wl2,rfl,k1,k2,k3,k4,k6⟩,h5⟩:=beside2 (P:=P) (optLtT_wf P) I Q a1 a2 a3 a4 (μ:=some ⟨(gl,wl),liveT_acc hin.live⟩) (sl:=sl) h0 ⟨rfl,E,hin,FC.refl E w⟩ hq
 exact ⟨N,gs',w',sl',t',q',E',x,y,wl2,h1,h2,h3,k1,k2,k3,k4,k6,h5⟩
end
end Go.Proofs.Ytpdemelchhkfaaa.Cs
