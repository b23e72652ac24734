import Derived.Test.YtpcnpkhgjanamaaGreatDoorPz
import Derived.Test.YtpcnpkhgjanamaaGreatDoorJn10
namespace Go.Proofs.YtpcnpkhgjanamaaGreatDoor
open Go renaming Value→R2,World→V8,Goroutine→Wi,Program→Wr,Frame→WG,stepG→Xe,FuncId→Xg,execOp→Yn,step_lone_go→YE,step_lone_ended→ZF
open _root_.Classical renaming choose→WK,choose_spec→Y4
open Go.stepG renaming exec→XH
namespace Cs
open Go.Conc
section
variable[aT]
section
variable{P:Wr}{E:Env}{cl c l l':List WG}{ct:Code}{wl w:V8}{main:Bool}
inductive TC(ct:Code):Code→Code→Prop
 |skip:TC ct .skip ct
 |seq (a:Code) {b b':Code} (h:TC ct b b'):TC ct (.seq a b) (.seq a b')
inductive RT(ct:Code):List Item→List Item→Prop
 |cut {d d':Code} (h:TC ct d d'):RT ct [.code d] [.code d']
 |cons (i:Item) {k k':List Item} (h:RT ct k k'):RT ct (i :: k) (i :: k')
inductive GT(P:Wr)(E:Env)(fn:Xg)(cl c:List WG)(ct:Code):Wi→Wi→Prop
 |top {x y:Array R2} {todo todo':List Item} (hf:j9 P fn) (hx:LR E x y) (ht:todo.all (aZ P)=true) (hr:RT ct todo todo'):GT P E fn cl c ct (G (aL fn x todo .run) cl) (G (aL fn y todo' .run) c)
 |sub {x y:Array R2} {i:Item} {k k':List Item} {gl g:Wi} (hf:j9 P fn) (hx:LR E x y) (ht:(pY (i :: k)).all (aZ P)=true) (hr:RT ct k k') (h:GR P E (aL fn x (i :: k) .run :: cl) (aL fn y (i :: k') .run :: c) gl g):GT P E fn cl c ct gl g
def FN(P:Wr)(E:Env)(fn:Xg)(cl c:List WG)(ct:Code)(main:Bool)(gl g:Wi)(wl w:V8):Prop:=
 ∃gl' wl' esl E' g' w' es,Xe P true gl wl=.go gl' wl' esl∧Xe P main g w=.go g' w' es∧GT P E' fn cl c ct gl' g'∧fZ P E' wl' w'∧(∀e∈es,jH E' e)∧FC E E' w w'∧ot P gl wl gl' wl'
theorem bX{fn:Xg}{x y:Array R2}{todo todo1 todo' todo1':List Item}(hf:j9 P fn)(hx:LR E x y)(ht:todo1.all (aZ P)=true)(hr:RT ct todo1 todo1')(hb:fZ P E wl w)
  (h1:∀wl,Xe P true (G (aL fn x todo .run) cl) wl=.go (G (aL fn x todo1 .run) cl) wl) (h2:Xe P main (G (aL fn y todo' .run) c) w=.go (G (aL fn y todo1' .run) c) w):FN P E fn cl c ct main (G (aL fn x todo .run) cl) (G (aL fn y todo' .run) c) wl w:=
 ⟨_,_,_,E,_,_,_,h1 _,h2,.top hf hx ht hr,hb,fun e he=>by simp at he,FC.refl _ _,R3 _,rfl,fun _ _=>⟨_,h1 _⟩⟩
theorem kS{fn:Xg}{x y:Array R2}{i:Item}{k k':List Item}(hr:RT ct k k')(hx:LR E x y)(ht:(pY (i :: k)).all (aZ P)=true){u v:R2}(hv:VR E u v):∃x' y' todo1 todo1',(aL fn x (i :: k) .run).finish u=aL fn x' todo1 .run∧(aL fn y (i :: k') .run).finish v=aL fn y' todo1' .run∧RT ct todo1 todo1'∧LR E x' y'∧todo1.all (aZ P)=true:=by
 cases i with
 |inRegion ops t=>
  cases t with
  |nil=>exact⟨x,y,_,_,rfl,rfl,.cons _ hr,hx,ht⟩
  |cons j rest=>
   refine⟨_,_,.inRegion ops rest :: k,.inRegion ops rest :: k',iw _ _ _ _ _ _ _ _,iw _ _ _ _ _ _ _ _,.cons _ hr,Jt hx hv _,?_⟩;exact ht
 |code a=>exact⟨x,y,_,_,rfl,rfl,.cons _ hr,hx,ht⟩
 |inBlock a=>exact⟨x,y,_,_,rfl,rfl,.cons _ hr,hx,ht⟩
 |inLoop a=>exact⟨x,y,_,_,rfl,rfl,.cons _ hr,hx,ht⟩
 |inScope a=>exact⟨x,y,_,_,rfl,rfl,.cons _ hr,hx,ht⟩
 |_=>simp[pY,aZ]at ht
omit [aT] in
theorem oE{id:Nat}:∀{k k' k1:List Item},RT ct k k'→exitTo id k=some k1→∃k1',exitTo id k'=some k1'∧RT ct k1 k1'
 |_,_,_,.cut _,h=>by cases h
 |_,_,k1,.cons i hr,h=>by
  cases i with
  |inBlock id'=>
   simp only[exitTo]at h⊢;split at h
   ·rename_i e
    cases h;rw[Wc e];exact⟨_,rfl,hr⟩
   ·rename_i e
    rw[V9 e];exact oE hr h
  |_=>
   obtain⟨a,b,d⟩:=oE hr (show exitTo id _=some k1 from h);exact⟨a,b,d⟩
omit [aT] in
theorem n6{lb:Nat}:∀{k k' k1:List Item},RT ct k k'→gotoIn lb k=some k1→∃k1',gotoIn lb k'=some k1'∧RT ct k1 k1'
 |_,_,_,.cut _,h=>by cases h
 |_,_,k1,.cons i hr,h=>by
  cases i with
  |inScope body=>
   simp only[gotoIn]at h⊢;cases hf:findLabel body lb with
   |some rest=>
    rw[hf]at h;cases h;exact⟨_,rfl,.cons _ (.cons _ hr)⟩
   |none=>
    rw[hf]at h;exact n6 hr h
  |_=>
   obtain⟨a,b,d⟩:=n6 hr (show gotoIn lb _=some k1 from h);exact⟨a,b,d⟩
theorem GQ(hG:P.globals.size≤aT.G)(hC:cP P){fn:Xg}{x y:Array R2}{ops:Array Oper}{i:Nat}{rest:List Nat}{k k':List Item}(hf:j9 P fn)(hx:LR E x y)(ht:(Item.inRegion ops (i :: rest) :: k).all (aZ P)=true)(hr':RT ct k k')(hb:fZ P E wl w):
  FN P E fn cl c ct main (G (aL fn x (.inRegion ops (i :: rest) :: k) .run) cl) (G (aL fn y (.inRegion ops (i :: rest) :: k') .run) c) wl w∨Ad P (G (aL fn x (.inRegion ops (i :: rest) :: k) .run) cl) wl:=by
 have hu:VR E undef undef:=.mkTuple (LR.nil _);cases hw:((ops[i]?).map (Region.wanted · (yielded ops x))).getD false
 ·obtain⟨x',y',todo',todo'',e1,e2,er,e3,e4⟩:=kS (fn:=fn) hr' hx (iV ht) hu
  have s1:=fun wl=>gu (P:=P) (main:=true) (fn:=fn) (l:=cl) (w:=wl) (rest:=rest) (k:=k) hw;have s2:=gu (P:=P) (main:=main) (fn:=fn) (l:=c) (w:=w) (rest:=rest) (k:=k') (x:=y) (by rw[←jV hx];exact hw);rw[e1]at s1;rw[e2]at s2;exact .inl ⟨_,_,_,E,_,_,_,s1 _,s2,.top hf e3 e4 er,hb,fun e he=>by simp at he,FC.refl _ _,R3 _,rfl,fun _ _=>⟨_,s1 _⟩⟩
 ·cases ho:ops[i]? with
  |none=>rw[ho]at hw;cases hw
  |some o=>
   rw[ho]at hw;have n:Region.wanted o (yielded ops x)=true:=hw
   have s:jB P o.op=true:=by
    simp only[XT,Wy,aZ]at ht;have h1:=ht.1.1;rw[ho]at h1;exact h1
   have s0:=fun wl=>nB (P:=P) (main:=true) (fn:=fn) (l:=cl) (w:=wl) (rest:=rest) (k:=k) ho n;have s1:=s0 wl;have s2:=nB (P:=P) (main:=main) (fn:=fn) (l:=c) (w:=w) (rest:=rest) (k:=k') (x:=y) ho (by rw[←jV hx];exact n)
   have u:(aL fn y (.inRegion ops (i :: rest) :: k') .run).eval=(aL fn y (.inRegion ops (i :: rest) :: k) .run).eval:=by
    funext q
    cases q<;>rfl
   rw[u]at s2;have g:=(tJ hG hC.EK (mX (fn:=fn) (todo:=.inRegion ops (i :: rest) :: k) (mode:=.run) hx) o s).run wl w #[] hb;cases hr:(Yn (aL fn x (.inRegion ops (i :: rest) :: k) .run).eval o).run P wl with
   |halt h w'=>
    rw[hr]at g;obtain⟨f0,t⟩:=id hf;rcases tY (fn:=fn) (x:=x) (ops:=ops) (i:=i) (rest:=rest) (k:=k) (cs:=cl) hr g with⟨a,b,d,e⟩|⟨ch,b,d,e⟩
    ·exact .inr (.inl ⟨a,b,d,by rw[s1];exact e⟩)
    ·exact .inr (.inr ⟨fn,x,_,ch,b,d,by rw[s1];exact e,f0,t⟩)
   |ok nx wl'=>
    rw[hr]at g;obtain⟨E',a,w',es',h1,h2,h3,h4,h5⟩:=g
    have j:(Yn (aL fn x (.inRegion ops (i :: rest) :: k) .run).eval o).runT P wl #[]=(.ok nx wl',((Yn (aL fn x (.inRegion ops (i :: rest) :: k) .run).eval o).runT P wl #[]).2):=by
     refine Prod.ext ?_ rfl;rw[Sem.runT_fst];exact hr
    obtain⟨q1,q2,q3⟩:=(tJ hG hC.EK (mX (fn:=fn) (todo:=.inRegion ops (i :: rest) :: k) (mode:=.run) hx) o s).loc wl w hb nx wl' hr
    have m:∀τ,(∀i q,wl.drawn≤i→i<wl'.drawn→τ i q=wl.tape i q)→(Yn (aL fn x (.inRegion ops (i :: rest) :: k) .run).eval o).runT P (wl.tp τ) #[]=(.ok nx (wl'.tp τ),((Yn (aL fn x (.inRegion ops (i :: rest) :: k) .run).eval o).runT P (wl.tp τ) #[]).2):=fun τ hτ=>by
     refine Prod.ext ?_ rfl;rw[Sem.runT_fst];exact q3 τ hτ
    have evs:∀e∈seen P fn (#[]++es'),jH E' e:=fun e he=>h4 e (by simpa using mem_seen he);left;cases h2 with
    |value hv=>
     obtain⟨x',y',todo',todo'',e1,e2,er,e3,e4⟩:=kS (fn:=fn) hr' (hx.mono h5.le) (iV ht) hv;rw[cK j (.inl ⟨_,rfl⟩)]at s1;rw[cK h1 (.inl ⟨_,rfl⟩)]at s2;unfold upon at s1 s2;dsimp only at s1 s2;have sl:ot P _ wl _ wl':=⟨q1,q2,fun τ hτ=>⟨_,by rw[s0,cK (m τ hτ) (.inl ⟨_,rfl⟩)];rfl⟩⟩
     rw[e1]at s1 sl;rw[e2]at s2;exact⟨_,_,_,E',_,_,_,s1,s2,.top hf e3 e4 er,h3,evs,h5,sl⟩
    |skip=>
     obtain⟨x',y',todo',todo'',e1,e2,er,e3,e4⟩:=kS (fn:=fn) hr' (hx.mono h5.le) (iV ht) (hu.mono h5.le);rw[cK j (.inr (.inl rfl))]at s1;rw[cK h1 (.inr (.inl rfl))]at s2;unfold upon at s1 s2;dsimp only at s1 s2;have sl:ot P _ wl _ wl':=⟨q1,q2,fun τ hτ=>⟨_,by rw[s0,cK (m τ hτ) (.inr (.inl rfl))];rfl⟩⟩
     rw[e1]at s1 sl;rw[e2]at s2;exact⟨_,_,_,E',_,_,_,s1,s2,.top hf e3 e4 er,h3,evs,h5,sl⟩
    |enter f hf' hl=>
     obtain⟨x',y',todo',e1,e2,e3,e4⟩:=vP hC hf' hl;rw[cK j (.inr (.inr ⟨_,_,rfl⟩))]at s1;rw[cK h1 (.inr (.inr ⟨_,_,rfl⟩))]at s2;unfold upon at s1 s2;dsimp only at s1 s2;have sl:ot P _ wl _ wl':=⟨q1,q2,fun τ hτ=>⟨_,by rw[s0,cK (m τ hτ) (.inr (.inr ⟨_,_,rfl⟩))];rfl⟩⟩
     rw[e1]at s1 sl;rw[e2]at s2;exact⟨_,_,_,E',_,_,_,s1,s2,.sub hf (hx.mono h5.le) (iV ht) hr' (.mk' (hC.SD hf') e3 e4 (.inl rfl) .base),h3,evs,h5,sl⟩
theorem CR.len(h:CR P E cl c l l'):cl.length≤l.length∧(l.length=cl.length→l=cl∧l'=c):=by
 induction h with
 |base=>exact⟨R3 _,fun _=>⟨rfl,rfl⟩⟩
 |cons _ _ _ _ ih=>exact⟨Nat.le_succ_of_le ih.1,fun e=>by have:=ih.1;simp only[List.length_cons]at e;omega⟩
theorem Bi{fn qA:Xg}{x y x2 y2:Array R2}{todo:List Item}{i:Item}{k k':List Item}(hf:j9 P fn)(hx:LR E x y)(hf2:j9 P qA)(hx2:LR E x2 y2)(ht2:(pY (i :: k)).all (aZ P)=true)(hr':RT ct k k')(hb:fZ P E wl w):
  FN P E qA cl c ct main (G (aL fn x todo .returning) (aL qA x2 (i :: k) .run :: cl)) (G (aL fn y todo .returning) (aL qA y2 (i :: k') .run :: c)) wl w∨Ad P (G (aL fn x todo .returning) (aL qA x2 (i :: k) .run :: cl)) wl:=by
 obtain⟨f,h1⟩:=hf;have s0:=fun wl=>di (main:=true) (x:=x) (todo:=todo) (l:=cl) (w:=wl) (cal:=aL qA x2 (i :: k) .run) h1;have s1:=s0 wl;have s2:=di (main:=main) (x:=y) (todo:=todo) (l:=c) (w:=w) (cal:=aL qA y2 (i :: k') .run) h1;have a:=(iy (P:=P) f hx).run wl w #[] hb;cases hr:(results f x).run P wl with
 |halt h w'=>
  rw[hr]at s1;right;left;cases h<;>exact⟨_,_,_,s1⟩
 |ok v wl'=>
  rw[hr]at a s1;obtain⟨E',v',w',es',k1,k2,k3,k4,k5⟩:=a;have b:(results f y).run P w=.ok v' w':=by rw[←Sem.runT_fst P _ w #[],k1]
  rw[b,k1]at s2;obtain⟨x',y',todo',todo'',e1,e2,er,e3,e4⟩:=kS (fn:=qA) hr' (hx2.mono k5.le) ht2 k2;dsimp only[GStep.after]at s1 s2;obtain⟨q1,q2,q3⟩:=(iy (P:=P) f hx).loc wl w hb v wl' hr
  have sl:ot P (G (aL fn x todo .returning) (aL qA x2 (i :: k) .run :: cl)) wl (G (aL qA x' todo' .run) cl) wl':=⟨q1,q2,fun τ hτ=>⟨_,by
   rw[s0,q3 τ hτ];dsimp only[GStep.after];rw[e1]⟩⟩
  rw[e1]at s1;rw[e2]at s2;left;refine⟨_,_,_,E',_,_,_,s1,s2,.top hf2 e3 e4 er,k3,fun e he=>?_,k5,sl⟩;simp only[Array.append_empty,ZE]at he;exact k4 e (mem_seen he)
def AtRet(cl:List WG)(gl:Wi):Prop:=∃fn x k,gl=G (aL fn x (.code .ret :: k) .run) cl
def Ly(cl:List WG)(g:Wi):Prop:=g.frame.todo=[]∧g.frame.mode=.run∧g.callers=cl
def Fv(cl:List WG)(g:Wi):Prop:=g.frame.todo=[.code .skip]∧g.frame.mode=.run∧g.callers=cl
theorem GT.Si{fn:Xg}{gl g:Wi}(hg:GT P E fn cl c ct gl g):¬Ly cl gl:=by
 rintro⟨q1,_,q3⟩;cases hg with
 |top _ _ _ hr=>
  cases hr<;>cases q1
 |sub _ _ _ _ h=>
  obtain⟨fn,x,y,todo,mode,l,l',rfl,rfl,_,_,_,_,a⟩:=h.ex;have:=a.len.1;have q3':l=cl:=q3;rw[q3']at this;simp at this;omega
theorem A3(hG:P.globals.size≤aT.G)(hC:cP P){fn:Xg}{gl g:Wi}(hg:GT P E fn cl c ct gl g)(hb:fZ P E wl w)(hns:¬Fv cl gl):FN P E fn cl c ct main gl g wl w∨Ad P gl wl∨AtRet cl gl:=by
 cases hg with
 |@sub x y i k k' gl g hf hx ht hr' h=>
  by_cases hr:gl.frame.mode=.returning∧gl.callers=aL fn x (i :: k) .run :: cl
  ·obtain⟨qA,x2,y2,todo2,mode,l,l',rfl,rfl,N,M,O,hm,J⟩:=h.ex
   obtain⟨L,K⟩:=hr;have H:mode=.returning:=L;have o:l=aL fn x (i :: k) .run :: cl:=K;subst H;obtain⟨_,e2⟩:=J.len.2 (by rw[o]);subst o e2;rcases Bi N M hf hx ht hr' hb with h|h
   ·exact .inl h
   ·exact .inr (.inl h)
  ·rcases uI (main:=main) hG hC h hb hr with⟨gl',wl',esl,E',g',w',es,s1,s2,hg,hB,B,_,D,I⟩|C
   ·refine .inl ⟨gl',wl',esl,E',g',w',es,s1,s2,.sub hf (hx.mono D.le) ht hr' hg,hB,B,D,I⟩
   ·exact .inr (.inl C)
 |@top x y todo todo' hf hx ht hr'=>
  cases hr' with
  |cut hd=>
   cases hd with
   |skip=>exact absurd ⟨rfl,rfl,rfl⟩ hns
   |seq a hd=>
    simp only[XT,List.all_nil,Bool.and_true,aZ,codeOk,Wy]at ht;exact .inl (bX (todo1:=[.code a,.code _]) (todo1':=[.code a,.code _]) hf hx (aR ht.1 (aR ht.2 rfl)) (.cons _ (.cut hd)) hb (fun _=>rfl) rfl)
  |@cons i k k' hk=>
   have m:k.all (aZ P)=true:=by simp only[XT,Wy]at ht;exact ht.2
   have n:aZ P i=true:=by simp only[XT,Wy]at ht;exact ht.1
   cases i with
   |inBlock id=>exact .inl (bX hf hx m hk hb (fun _=>rfl) rfl)
   |inScope b=>exact .inl (bX hf hx m hk hb (fun _=>rfl) rfl)
   |inLoop b=>exact .inl (bX (todo1:=.code b :: .inLoop b :: k) hf hx (aR n (aR n m)) (.cons _ (.cons _ hk)) hb (fun _=>rfl) rfl)
   |inRegion ops t=>
    cases t with
    |nil=>exact .inl (bX hf hx m hk hb (fun _=>rfl) rfl)
    |cons j rest=>
     rcases GQ (cl:=cl) (c:=c) (main:=main) hG hC hf hx ht hk hb with h|h
     ·exact .inl h
     ·exact .inr (.inl h)
   |code cd=>
    have f:codeOk P cd=true:=n;cases cd with
    |skip=>exact .inl (bX hf hx m hk hb (fun _=>rfl) rfl)
    |label lb=>exact .inl (bX hf hx m hk hb (fun _=>rfl) rfl)
    |ret=>exact .inr (.inr ⟨_,_,_,rfl⟩)
    |seq a b=>
     simp only[codeOk,Wy]at f;exact .inl (bX (todo1:=.code a :: .code b :: k) hf hx (aR f.1 (aR f.2 m)) (.cons _ (.cons _ hk)) hb (fun _=>rfl) rfl)
    |block id a=>exact .inl (bX (todo1:=.code a :: .inBlock id :: k) hf hx (aR (show codeOk P a=true from f) (aR rfl m)) (.cons _ (.cons _ hk)) hb (fun _=>rfl) rfl)
    |loop a=>exact .inl (bX (todo1:=.code a :: .inLoop a :: k) hf hx (aR (show codeOk P a=true from f) (aR (show codeOk P a=true from f) m)) (.cons _ (.cons _ hk)) hb (fun _=>rfl) rfl)
    |scope a=>exact .inl (bX (todo1:=.code a :: .inScope a :: k) hf hx (aR (show codeOk P a=true from f) (aR (show codeOk P a=true from f) m)) (.cons _ (.cons _ hk)) hb (fun _=>rfl) rfl)
    |cond q a b=>
     simp only[codeOk,Wy]at f;have s1:=fun wl=>iY (P:=P) (main:=true) fn x q a b k cl wl;have s2:=iY (P:=P) (main:=main) fn y q a b k' c w;have hv:=mX (fn:=fn) (todo:=.code (.cond q a b) :: k) (mode:=.run) hx q f.1.1;have B:(aL fn y (.code (.cond q a b) :: k') .run).eval q=(aL fn y (.code (.cond q a b) :: k) .run).eval q:=by cases q<;>rfl
     rw[B]at s2;generalize (aL fn x (.code (.cond q a b) :: k) .run).eval q=u at hv s1;generalize (aL fn y (.code (.cond q a b) :: k) .run).eval q=v at hv s2;cases hv with
     |bool t=>exact .inl (bX hf hx (aR (i:=.code (if t then a else b)) (by cases t;exact f.2;exact f.1.2) m) (.cons _ hk) hb s1 s2)
     |_=>exact .inr (.inl (.inl ⟨_,_,_,s1 wl⟩))
    |exit id=>
     cases he:exitTo id k with
     |none=>exact .inr (.inl (.inl ⟨_,_,_,by simp only[G,Xe,XH,aL,he,Option.elim_none];rfl⟩))
     |some k1=>
      obtain⟨k1',z,A⟩:=oE hk he;exact .inl (bX hf hx (mT id m he) A hb (fun _=>by simp only[G,Xe,XH,aL,he,Option.elim_some]) (by simp only[G,Xe,XH,aL,z,Option.elim_some]))
    |goto lb=>
     cases he:gotoIn lb k with
     |none=>exact .inr (.inl (.inl ⟨_,_,_,by simp only[G,Xe,XH,aL,he,Option.elim_none];rfl⟩))
     |some k1=>
      obtain⟨k1',z,A⟩:=n6 hk he;exact .inl (bX hf hx (mZ lb m he) A hb (fun _=>by simp only[G,Xe,XH,aL,he,Option.elim_some]) (by simp only[G,Xe,XH,aL,z,Option.elim_some]))
    |region id ops draw=>
     cases draw
     ·exact .inl (bX (todo1:=.inRegion ops (List.range ops.size) :: k) hf hx (aR (mK f _) m) (.cons _ hk) hb (fun _=>rfl) rfl)
     ·have F:wl.tape wl.drawn (.order fn id)=w.tape w.drawn (.order fn id):=hb.ta 0 _
      have s1:Xe P true (G (aL fn x (.code (.region id ops true) :: k) .run) cl) wl=.go (G (aL fn x (.inRegion ops (Region.schedule (P.follows .mixedOrders) ops (w.tape w.drawn (.order fn id))) :: k) .run) cl) { wl with drawn:=wl.drawn+1 }:=by
       rw[←F];simp[Xe,XH,aL,G,choose,Sem.run,Question.forced,Question.cut]
      have s2:Xe P main (G (aL fn y (.code (.region id ops true) :: k') .run) c) w=.go (G (aL fn y (.inRegion ops (Region.schedule (P.follows .mixedOrders) ops (w.tape w.drawn (.order fn id))) :: k') .run) c) { w with drawn:=w.drawn+1 }:=by
       simp[Xe,XH,aL,G,choose,Sem.run,Question.forced,Question.cut]
      have hB:fZ P E { wl with drawn:=wl.drawn+1 } { w with drawn:=w.drawn+1 }:=⟨⟨hb.wr.own,hb.wr.shared,hb.wr.inj,hb.wr.low⟩,fun i q'=>by
       have:=hb.ta (1+i) q';show wl.tape (wl.drawn+1+i) q'=w.tape (w.drawn+1+i) q';rw[XS,XS];exact this,hb.gF⟩
      exact .inl ⟨_,_,_,E,_,_,_,s1,s2,.top hf hx (aR (mK f _) m) (.cons _ hk),hB,fun e he=>by simp at he,⟨E.le_refl,rfl,rfl,rfl,R3 _,fun _ _ _=>rfl,fun _ _ _ _ h=>.inl h⟩,Nat.le_succ _,rfl,fun τ hτ=>⟨#[],by
       have h0:τ wl.drawn (.order fn id)=wl.tape wl.drawn (.order fn id):=hτ _ _ (R3 _) (Xj _);rw[←F,←h0];simp[Xe,XH,aL,G,choose,Sem.run,Question.forced,Question.cut,World.tp]⟩⟩
    |rangeFunc a b d e=>cases f
    |refuse s=>cases f
   |_=>cases n
end
end
def uZ(P:Wr)(cl:List WG)(Post:Array R2→V8→Prop)(g:Wi)(w:V8):Prop:=
 ∃n fn x w',runN P n (lone g.frame g.callers w)=.next (lone (aL fn x [] .run) cl w')∧Post x w'
def Pz(P:Wr)(cl:List WG)(Post:Array R2→V8→Prop)(g:Wi)(w:V8):Prop:=∀τ,(∀i q,i<w.drawn→τ i q=w.tape i q)→uZ P cl Post g (w.tp τ)
def lV(P:Wr)(cl:List WG)(s' s:Gh):Prop:=
 ¬Ly cl s.1∧(∃fr cs,s.1=G fr cs)∧(∃fr cs,s'.1=G fr cs)∧∃τ,ot P s.1 (s.2.tp τ) s'.1 s'.2
section
variable{P:Wr}{cl:List WG}{Post:Array R2→V8→Prop}
theorem xO{g:Wi}{w:V8}(h:Pz P cl Post g w):Acc (lV P cl) (g,w):=by
 apply XB;intro hn;obtain⟨f,f0,hf⟩:=qc hn
 let d:Nat→Nat:=fun k=>(f k).2.drawn
 let t:Nat→Nat→Question→Nat:=fun k=>WK (hf k).2.2.2
 have ht:∀k,ot P (f k).1 ((f k).2.tp (t k)) (f (k+1)).1 (f (k+1)).2:=fun k=>Y4 (hf k).2.2.2;have hd:∀k,d k≤d (k+1):=fun k=>(ht k).1
 have a:∀k j,d k≤d (k+j):=fun k j=>by
  induction j with
  |zero=>exact R3 _
  |succ j ih=>exact Ws ih (hd (k+j))
 let T:Nat→Question→Nat:=fun i q=>open Classical in if hk:∃k,d k≤i∧i<d (k+1)then t (WK hk) i q else w.tape i q
 have hT:∀k i q,d k≤i→i<d (k+1)→T i q=t k i q:=fun k i q h1 h2=>by
  have hk:∃k,d k≤i∧i<d (k+1):=⟨k,h1,h2⟩
  show(open Classical in if hk:∃k,d k≤i∧i<d (k+1)then t (WK hk) i q else w.tape i q)=_;rw[dif_pos hk];obtain⟨h3,h4⟩:=Y4 hk
  have:WK hk=k:=by
   rcases Nat.lt_trichotomy (WK hk) k with m|e|l
   ·have:=a (WK hk+1) (k-(WK hk+1))
    rw[show WK hk+1+(k-(WK hk+1))=k by omega]at this;omega
   ·exact e
   ·have:=a (k+1) (WK hk-(k+1))
    rw[show k+1+(WK hk-(k+1))=WK hk by omega]at this;omega
  rw[this]
 have b:∀k,runN P k (lone (f 0).1.frame (f 0).1.callers ((f 0).2.tp T))=.next (lone (f k).1.frame (f k).1.callers ((f k).2.tp T)):=fun k=>by
  induction k with
  |zero=>rfl
  |succ k ih=>
   have hs:=jc (τ':=T) (hf k).2.1 (hf k).2.2.1 (ht k) (fun i q h1 h2=>hT k i q h1 h2);rw[runN_add,ih];show runN P 1 _=_;simp only[runN,hs]
 have o:d 0=w.drawn:=by show(f 0).2.drawn=_;rw[f0]
 obtain⟨n,fn,x,w',h1,_⟩:=h T (fun i q hi=>by
  show(open Classical in if hk:∃k,d k≤i∧i<d (k+1)then t (WK hk) i q else w.tape i q)=_;rw[dif_neg (fun⟨k,h3,_⟩=>by have:=a 0 k;rw[WN]at this;omega)])
 have c:=b n;rw[f0]at c;rw[c]at h1;injection h1 with h1;obtain⟨e1,e2,_⟩:=cM h1;exact(hf n).1 ⟨by rw[e1];rfl,by rw[e1];rfl,e2⟩
theorem uU:∀(n:Nat) {l:List WG},wG P l→∀{fn:Xg} {x:Array R2} {todo:List Item} {chain:List PanicEntry} {w:V8},(∃f,P.funcs[fn]?=some f)→∀{fr':WG} {cs':List WG} {w':V8},runN P n (lone (aL fn x todo (.panicking chain)) l w)=.next (lone fr' cs' w')→fr'.mode≠.run
 |0,l,_,fn,x,todo,chain,w,_,fr',cs',w',h=>by
  injection h with h;obtain⟨rfl,_⟩:=cM h;exact fun e=>by cases e
 |n+1,l,hl,fn,x,todo,chain,w,⟨f,hf⟩,fr',cs',w',h=>by
  have a:∀(cal:WG) (rest:List WG),l=cal :: rest→step P (lone (aL fn x todo (.panicking chain)) l w)=.next (lone (cal.raise chain) rest w):=fun cal rest e=>by
   subst e;refine YE ?_
   have hc:(aL fn x todo (.panicking chain)).catches P=false:=by
    unfold Frame.catches;have:P.funcs[(aL fn x todo (.panicking chain)).fn]?=some f:=hf;rw[this]
   show GStep.bare (unwind P true (aL fn x todo (.panicking chain)) (cal :: rest) none w)=_;unfold unwind;simp only[aL]at hc⊢;simp only[hc,WV,X9]
   rfl
  cases hl with
  |base=>
   simp only[runN,a _ _ rfl]at h;cases n with
   |zero=>
    injection h with h;obtain⟨rfl,_⟩:=cM h;exact fun e=>by cases e
   |succ n=>
    obtain⟨o,w2,hd⟩:=uc (P:=P) chain w;exact absurd h (eE hd n _)
  |cons hf2 hl2=>
   simp only[runN,a _ _ rfl]at h;exact uU n hl2 hf2 h
theorem GA{fn:Xg}{x:Array R2}{todo:List Item}{mode:FrameMode}{l:List WG}(hl:wG P l){wl:V8}(hns:¬Ly [aK P] (G (aL fn x todo mode) l))(h:Ad P (G (aL fn x todo mode) l) wl):¬uZ P [aK P] Post (G (aL fn x todo mode) l) wl:=by
 rintro⟨n,fn',x',w',h1,_⟩;cases n with
 |zero=>
  injection h1 with h1;obtain⟨e1,e2,_⟩:=cM h1;exact hns ⟨by rw[e1];rfl,by rw[e1];rfl,e2⟩
 |succ n=>
  rcases h with⟨o,w2,es,h⟩|⟨qA,x2,todo2,chain,w2,es,h,b⟩
  ·have:step P (lone (aL fn x todo mode) l wl)=.ended o w2:=ZF (by
    have h5:Xe P true { frame:=aL fn x todo mode,callers:=l,status:=.running,dying:=none } wl=_:=h;rw[h5]
    rfl)
   exact eE this n _ h1
  ·have:step P (lone (aL fn x todo mode) l wl)=.next (lone (aL qA x2 todo2 (.panicking chain)) l w2):=YE (by
    have h5:Xe P true { frame:=aL fn x todo mode,callers:=l,status:=.running,dying:=none } wl=_:=h;rw[h5]
    rfl)
   have a:runN P (n+1) (lone (aL fn x todo mode) l wl)=.next (lone (aL fn' x' [] .run) [aK P] w'):=h1
   simp only[runN,this]at a;exact uU n hl b a rfl
theorem LK{fn:Xg}{x:Array R2}{k:List Item}(hf:j9 P fn){wl:V8}:¬uZ P [aK P] Post (G (aL fn x (.code .ret :: k) .run) [aK P]) wl:=by
 rintro⟨n,fn',x',w',h1,_⟩;obtain⟨f,b⟩:=hf;cases n with
 |zero=>
  injection h1 with h1;obtain⟨e1,_⟩:=cM h1;have:=XI Frame.todo e1;cases this
 |succ n=>
  have s1:step P (lone (aL fn x (.code .ret :: k) .run) [aK P] wl)=.next (lone (aL fn x (.code .ret :: k) .returning) [aK P] wl):=YE rfl
  have a:runN P (n+1) (lone (aL fn x (.code .ret :: k) .run) [aK P] wl)=.next (lone (aL fn' x' [] .run) [aK P] w'):=h1
  simp only[runN,s1]at a;cases n with
  |zero=>
   injection a with a;obtain⟨e1,_⟩:=cM a;have:=XI Frame.mode e1;cases this
  |succ n=>
   have s2:=di (P:=P) (main:=true) (x:=x) (todo:=.code .ret :: k) (l:=[]) (w:=wl) (cal:=aK P) b;cases hr:(results f x).run P wl with
   |halt hh w2=>
    rw[hr]at s2
    have:∃o w3,step P (lone (aL fn x (.code .ret :: k) .returning) [aK P] wl)=.ended o w3:=by
     cases hh<;>exact⟨_,_,ZF (by
      have h5:Xe P true { frame:=aL fn x (.code .ret :: k) .returning,callers:=[aK P],status:=.running,dying:=none } wl=_:=s2;rw[h5]
      rfl)⟩
    obtain⟨o,w3,h4⟩:=this;exact eE h4 n _ a
   |ok u w2=>
    rw[hr]at s2
    have h4:step P (lone (aL fn x (.code .ret :: k) .returning) [aK P] wl)=.next (lone ((aK P).finish u) [] w2):=YE (by
     have h5:Xe P true { frame:=aL fn x (.code .ret :: k) .returning,callers:=[aK P],status:=.running,dying:=none } wl=_:=s2;rw[h5]
     rfl)
    simp only[runN,h4]at a;cases n with
    |zero=>
     injection a with a;obtain⟨_,e2,_⟩:=cM a;cases e2
    |succ n=>
     obtain⟨o,w3,h5⟩:=qF (P:=P) u w2;exact eE h5 n _ a
end
variable[aT]
theorem CR.T7{P:Wr}{E:Env}{cl c l l':List WG}(hcl:wG P cl)(h:CR P E cl c l l'):wG P l:=by
 induction h with
 |base=>exact hcl
 |cons hf _ _ _ ih=>exact .cons hf ih
structure gT(P:Wr)(Post:Array R2→V8→Prop)(fB:Xg)(c:List WG)(ct:Code)(E:Env)(gl:Wi)(wl:V8)(g:Wi)(w:V8):Prop where
 gt:GT P E fB [aK P] c ct gl g
 wr:WR P E wl w
 gF:aT.G≤wl.heap.size
 live:Pz P [aK P] Post gl wl
section
variable{P:Wr}{Post:Array R2→V8→Prop}{fB:Xg}{c:List WG}{ct:Code}{E:Env}{gl g:Wi}{wl w:V8}
theorem gT.other{w2:V8}(h:gT P Post fB c ct E gl wl g w)(hw:∀b x,E b=some x→w2.heap[x.1]?=w.heap[x.1]?):gT P Post fB c ct E gl wl g w2:=by
 refine⟨h.gt,⟨fun b q s e=>?_,fun b q s e=>?_,h.wr.inj,h.wr.low⟩,h.gF,h.live⟩
 ·obtain⟨h1,ol,o,h2,h3,h4⟩:=h.wr.own b q s e
  exact⟨h1,ol,o,h2,(hw b _ e).trans h3,h4⟩
 ·obtain⟨x,T,y,T',fr,h1,h2,h3,h4⟩:=h.wr.shared b q s e
  exact⟨x,T,y,T',fr,h1,h2,(hw b _ e).trans h3,h4⟩
theorem gT.running(h:gT P Post fB c ct E gl wl g w):g.status=.running:=by
 cases h.gt with
 |top=>rfl
 |sub _ _ _ _ h=>
  obtain⟨fn,x,y,todo,mode,l,l',rfl,rfl,_⟩:=h.ex
  rfl
theorem gT.step(hG:P.globals.size≤aT.G)(hC:cP P)(main:Bool)(h:gT P Post fB c ct E gl wl g w)(hns:¬Fv [aK P] gl):
  ∃E' gl' wl' g' w' es,Xe P main g w=.go g' w' es∧gT P Post fB c ct E' gl' wl' g' w'∧lV P [aK P] (gl',wl') (gl,wl)∧(∀e∈es,jH E' e)∧FC E E' w w':=by
 have hb:fZ P E (wl.tp (bx wl w)) w:=⟨h.wr.tp _,oD _ _,h.gF⟩
 have form:∀{E:Env} {gl g:Wi},GT P E fB [aK P] c ct gl g→∃fn x todo mode l,gl=G (aL fn x todo mode) l∧j9 P fn∧wG P l:=fun {E gl g} hg=>by
  cases hg with
  |top hf _ _ _=>exact⟨_,_,_,_,_,rfl,hf,.base⟩
  |sub hf _ _ _ h=>
   obtain⟨fn,x,y,todo,mode,l,l',rfl,rfl,m,_,_,_,d⟩:=h.ex;exact⟨_,_,_,_,_,rfl,m,d.T7 (.cons hf .base)⟩
 obtain⟨fn,x,todo,mode,l,e0,f,hp⟩:=form h.gt;rcases A3 (main:=main) hG hC h.gt hb hns with⟨gl',wl',esl,E',g',w',es,s1,s2,hg,hB,o,j,a⟩|b|⟨qA,x2,k2,e2⟩
 ·have f1:∃fr cs,gl=G fr cs:=⟨_,_,e0⟩
  have f2:∃fr cs,gl'=G fr cs:=by
   obtain⟨_,_,_,_,_,e,_⟩:=form hg;exact⟨_,_,e⟩
  refine⟨E',gl',wl',g',w',es,s2,⟨hg,hB.wr,hB.gF,fun τ hτ=>?_⟩,⟨h.gt.Si,f1,f2,_,a⟩,o,j⟩;obtain⟨l1,l2,l3⟩:=a;have l1':wl.drawn≤wl'.drawn:=l1;have l2':wl'.tape=bx wl w:=l2;rw[l2']at hτ;obtain⟨n,fn,x,w2,h1,h3⟩:=h.live τ (fun i q hi=>by rw[hτ i q vom,dX q hi]);cases n with
  |zero=>
   injection h1 with h1;obtain⟨e1,e2,_⟩:=cM h1;exact absurd ⟨by rw[e1];rfl,by rw[e1];rfl,e2⟩ h.gt.Si
  |succ n=>
   have hs:=jc (P:=P) (s:=(gl,wl)) (s':=(gl',wl')) (τ:=bx wl w) (τ':=τ) f1 f2 ⟨l1,l2,l3⟩ (fun i q h4 h5=>hτ i q h5);simp only[runN,hs]at h1;exact⟨n,fn,x,w2,h1,h3⟩
 ·subst e0
  exact absurd (h.live (bx wl w) (fun i q hi=>dX q hi)) (GA hp h.gt.Si b)
 ·have e3:=e0
  rw[e2]at e3;have k:qA=fn:=XI (fun g=>g.frame.fn) e3;subst k;have hl:=h.live (bx wl w) (fun i q hi=>dX q hi);rw[e2]at hl;exact absurd hl (LK f)
theorem gT.stop(h:gT P Post fB c ct E gl wl g w)(hs:Fv [aK P] gl):∃x y wl2,g=G (aL fB y [.code ct] .run) c∧LR E x y∧WR P E wl2 w∧Post x wl2∧aT.G≤wl2.heap.size:=by
 obtain⟨n,fn',x',w',h1,h2⟩:=h.live (bx wl w) (fun i q hi=>dX q hi);obtain⟨q1,q2,q3⟩:=hs;cases h.gt with
 |sub hf hx ht _ h3=>
  exfalso;obtain⟨fn,x,y,todo,mode,l,l',rfl,rfl,j,_,_,_,b⟩:=h3.ex;have:=b.len.1;have q3':l=[aK P]:=q3;rw[q3']at this;simp at this
 |@top x y todo todo' hf hx ht hr=>
  have q1':todo=[.code .skip]:=q1;subst q1'
  have e:todo'=[.code ct]:=by
   cases hr with
   |cut hd=>cases hd;rfl
   |cons i hk=>cases hk
  subst e;cases n with
  |zero=>
   injection h1 with h1;obtain⟨e1,_,_⟩:=cM h1;have:=XI Frame.todo e1;cases this
  |succ n=>
  have s0:_root_.Go.step P (lone (aL fB x [.code .skip] .run) [aK P] (wl.tp (bx wl w)))=.next (lone (aL fB x [] .run) [aK P] (wl.tp (bx wl w))):=YE rfl
  have h1:runN P (n+1) (lone (aL fB x [.code .skip] .run) [aK P] (wl.tp (bx wl w)))=.next (lone (aL fn' x' [] .run) [aK P] w'):=h1
  simp only[runN,s0]at h1;cases n with
  |zero=>
   injection h1 with h1;obtain⟨e1,_,e3⟩:=cM h1;have e4:x=x':=XI Frame.tmps e1;subst e4;rw[←e3]at h2;exact⟨x,y,_,rfl,hx,h.wr.tp _,h2,h.gF⟩
  |succ n=>
   exfalso;obtain⟨f,d⟩:=hf;have s1:_root_.Go.step P (lone (aL fB x [] .run) [aK P] (wl.tp (bx wl w)))=.next (lone (aL fB x [] .returning) [aK P] (wl.tp (bx wl w))):=YE rfl
   have a:runN P (n+1) (lone (aL fB x [] .run) [aK P] (wl.tp (bx wl w)))=.next (lone (aL fn' x' [] .run) [aK P] w'):=h1
   simp only[runN,s1]at a
   have hl:∀n,runN P n (lone (aL fB x [] .returning) [aK P] (wl.tp (bx wl w)))=.next (lone (aL fn' x' [] .run) [aK P] w')→False:=fun n hn=>by
    cases n with
    |zero=>
     injection hn with hn;obtain⟨e1,_⟩:=cM hn;have:=XI Frame.mode e1;cases this
    |succ n=>
     have s2:=di (P:=P) (main:=true) (x:=x) (todo:=[]) (l:=[]) (w:=wl.tp (bx wl w)) (cal:=aK P) d;cases hr:(results f x).run P (wl.tp (bx wl w))with
     |halt hh w2=>
      rw[hr]at s2
      have:∃o w3,_root_.Go.step P (lone (aL fB x [] .returning) [aK P] (wl.tp (bx wl w)))=.ended o w3:=by
       cases hh<;>exact⟨_,_,ZF (by
        have h5:Xe P true { frame:=aL fB x [] .returning,callers:=[aK P],status:=.running,dying:=none } (wl.tp (bx wl w))=_:=s2;rw[h5]
        rfl)⟩
      obtain⟨o,w3,h4⟩:=this;exact eE h4 n _ hn
     |ok u w2=>
      rw[hr]at s2
      have h4:_root_.Go.step P (lone (aL fB x [] .returning) [aK P] (wl.tp (bx wl w)))=.next (lone ((aK P).finish u) [] w2):=YE (by
       have h5:Xe P true { frame:=aL fB x [] .returning,callers:=[aK P],status:=.running,dying:=none } (wl.tp (bx wl w))=_:=s2;rw[h5]
       rfl)
      simp only[runN,h4]at hn;cases n with
      |zero=>
       injection hn with hn;obtain⟨_,e2,_⟩:=cM hn;cases e2
      |succ n=>
       obtain⟨o,w3,h5⟩:=qF (P:=P) u w2;exact eE h5 n _ hn
   exact hl n a
end
section
variable{P:Wr}
inductive zl(P:Wr):Option { s:Gh // Acc (lV P [aK P]) s }→Option { s:Gh // Acc (lV P [aK P]) s }→Prop
 |on {s s':{ s:Gh // Acc (lV P [aK P]) s }} (h:lV P [aK P] s'.1 s.1):zl P (some s') (some s)
omit [aT] in
theorem Gl(P:Wr):WellFounded (zl P):=by
 have key:∀s:Gh,Acc (lV P [aK P]) s→∀hs,Acc (zl P) (some ⟨s,hs⟩):=fun s h=>by
  induction h with
  |intro s _ ih=>exact fun hs=>Acc.intro _ fun y hy=>by cases hy with|on h=>exact ih _ h _
 refine⟨fun a=>?_⟩;cases a with
 |none=>exact Acc.intro _ fun y hy=>by cases hy
 |some s=>exact key s.1 s.2 s.2
theorem Dd{Post:Array R2→V8→Prop}(hG:P.globals.size≤aT.G)(hC:cP P){gs:Array Wi}{t:Trace}{q:Nat→Nat}{g:Wi}{w:V8}{sl:Option (Nat×Nat)}{fB:Xg}{c:List WG}{ct:Code}{E:Env}{gl:Wi}{wl:V8}(h0:gs[0]?=some g)(hin:gT P Post fB c ct E gl wl g w)(hq:Qt P gs t q w.heap.size):
  ∃N gs' w' sl' t' q' E' x y wl2,runNT P N (crowd gs w sl) t=(.next (crowd gs' w' sl'),t')∧gs'.size=gs.size∧gs'[0]?=some (G (aL fB y [.code ct] .run) c)∧Post x wl2∧LR E' x y∧WR P E' wl2 w'∧aT.G≤wl2.heap.size∧FC E E' w w'∧Qt P gs' t' q' w'.heap.size:=by
 let Q:Wi→V8→Prop:=fun g' w'=>∃E' x y wl2,g'=G (aL fB y [.code ct] .run) c∧Post x wl2∧LR E' x y∧WR P E' wl2 w'∧aT.G≤wl2.heap.size∧FC E E' w w'
 let I:Option { s:Gh // Acc (lV P [aK P]) s }→Wi→V8→Prop:=fun μ g' w'=>match μ with
  |some s=>∃E',gT P Post fB c ct E' s.1.1 s.1.2 g' w'∧FC E E' w w'
  |none=>False
 have fcAt:∀{E':Env} {w':V8} (k:Nat),FC E E' w w'→FC E E' w (w'.at k):=fun k h=>⟨h.le,h.os,h.tape,h.output,h.size,h.keep,h.fresh⟩
 have fcAt':∀{E':Env} {w':V8} (k:Nat),FC E E' w (w'.at k)→FC E E' w w':=fun k h=>⟨h.le,h.os,h.tape,h.output,h.size,h.keep,h.fresh⟩
 have a1:∀μ g' w' k,I μ g' w'→I μ g' (w'.at k):=fun μ g' w' k h=>by
  cases μ with
  |none=>exact h
  |some s=>
   obtain⟨E',h1,h2⟩:=h;exact⟨E',h1.other fun _ _ _=>rfl,fcAt k h2⟩
 have a2:∀g' w' k,Q g' (w'.at k)→Q g' w':=fun g' w' k h=>by
  obtain⟨E',x,y,wl2,e,k1,k2,k3,k5,k4⟩:=h;exact⟨E',x,y,wl2,e,k1,k2,k3.keep fun _ _ _ _ _=>rfl,k5,fcAt' k k4⟩
 have a3:∀μ g' w',I μ g' w'→g'.status=.running:=fun μ g' w' h=>by
  cases μ with
  |none=>exact h.elim
  |some s=>
   obtain⟨E',h1,h2⟩:=h;exact h1.running
 have a4:∀μ g' w',I μ g' w'→Q g' w'∨∃g2 w2 es μ',Xe P true g' w'=.go g2 w2 es∧zl P μ' μ∧I μ' g2 w2∧w'.heap.size≤w2.heap.size∧∀e∈es,EvW w2.heap.size e:=fun μ g' w' h=>by
  cases μ with
  |none=>exact h.elim
  |some s=>
   obtain⟨E1,b,f⟩:=h;by_cases hs:Fv [aK P] s.1.1
   ·obtain⟨x,y,wl2,e,k1,k2,k3,k4⟩:=b.stop hs
    exact .inl ⟨E1,x,y,wl2,e,k3,k1,k2,k4,f⟩
   ·obtain⟨E',gl',wl',g2,w2,es,j,a,i,l,d⟩:=b.step hG hC true hs
    exact .inr ⟨g2,w2,es,some ⟨(gl',wl'),xO a.live⟩,j,.on i,⟨E',a,f.trans d⟩,d.size,fun e he=>pH a.wr (l e he)⟩
 obtain⟨N,gs',w',sl',t',q',g',h1,h2,h3,⟨E',x,y,wl2,rfl,k1,k2,k3,k4,k6⟩,h5⟩:=beside (P:=P) (Gl P) I Q a1 a2 a3 a4 (μ:=some ⟨(gl,wl),xO hin.live⟩) (sl:=sl) h0 ⟨E,hin,FC.refl E w⟩ hq;exact⟨N,gs',w',sl',t',q',E',x,y,wl2,h1,h2,h3,k1,k2,k3,k4,k6,h5⟩
end
theorem gT.mid{P:Wr}{Post:Array R2→V8→Prop}{fB:Xg}{c:List WG}{ct:Code}{E:Env}{wl w:V8}(hf:j9 P fB){x y:Array R2}(hx:LR E x y)(hw:WR P E wl w)(hb:aT.G≤wl.heap.size){todo todo':List Item}(ht:todo.all (aZ P)=true)(hr:RT ct todo todo')(h:∀τ,uZ P [aK P] Post (G (aL fB x todo .run) [aK P]) (wl.tp τ)):
  gT P Post fB c ct E (G (aL fB x todo .run) [aK P]) wl (G (aL fB y todo' .run) c) w:=⟨.top hf hx ht hr,hw,hb,fun τ _=>h τ⟩
omit [aT]
section
variable{P:Wr}{Post:Array R2→V8→Prop}{cl:List WG}{fn:Xg}{x:Array R2}{w:V8}
def EN(Post:Array R2→V8→Prop)(e:Exit)(a:Act)(w:V8):Prop:=e=.normal∧a.defers=[]∧Post a.tmps w
theorem wK{ops:Array Oper}{l:List Nat}{c:Code}(h:wpOps P ops (Exit.then (c.wp P (EN Post)) (EN Post)) l ⟨x,[]⟩ w):uZ P cl Post (G (aL fn x [.inRegion ops l,.code c] .run) cl) w:=by
 obtain⟨e,a1,w1,hq,b⟩:=wp_ops l ⟨x,[]⟩ w h (aL fn #[] [] .run) [.code c] cl;cases e with
 |normal=>
  obtain⟨e2,a2,w2,⟨rfl,h1,h2⟩,a⟩:=hq (aL fn #[] [] .run) [] cl;obtain⟨T,D⟩:=a2;cases h1;have s1:Steps P (lone ((aL fn #[] [] .run).at ⟨x,[]⟩ [.inRegion ops l,.code c]) cl w) (lone ((aL fn #[] [] .run).at a1 [.code c]) cl w1):=b;have s2:Steps P (lone ((aL fn #[] [] .run).at a1 [.code c]) cl w1) (lone ((aL fn #[] [] .run).at ⟨T,[]⟩ []) cl w2):=a;obtain⟨n,hn⟩:=s1.trans s2;exact⟨n,fn,T,w2,hn,h2⟩
 |exit id=>cases hq.1
 |goto l=>cases hq.1
 |ret=>cases hq.1
 |panic ch=>cases hq.1
 |outgrown=>cases hq.1
end
end Cs
end Go.Proofs.YtpcnpkhgjanamaaGreatDoor
