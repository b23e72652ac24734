import Derived.Test.YtpcnpkhgjanamaaGreatDoorPz
import Derived.Test.YtpcnpkhgjanamaaGreatDoorLnB
namespace Go.Proofs.YtpcnpkhgjanamaaGreatDoor
open Go renaming Value→R2,World→V8,Goroutine→Wi,TypeId→Wj,Program→Wr,Frame→WG,FuncId→Xg,Event→Ym
open Go.Extern.PrintPieces renaming piece→Zo
namespace Nm
open Go Go.Conc
def Jh:Next→Prop
 |.value _|.skip|.enter _ _|.round _ _ _ _ _|.defer _|.recover|.spawn _|.comm _ _ _|.coroswitch _ _=>True
 | .row r _ => r = "runtime.print$piece"
 |_=>False
section
variable{P:Wr}
theorem dH{α:Type}{s:Sem α}(h:NM P s):Gr P s fun _=>True:=sG _ h.nm
theorem Rx{s:Sem R2}(h:NM P s):Gr P (do pure (.value (←s))) Jh:=cC (dH h) fun _ _=>sG (.pure _) trivial
theorem UQ{s:Sem Unit}(h:NM P s):Gr P (do s;pure .skip) Jh:=cC (dH h) fun _ _=>sG (.pure _) trivial
theorem iE{α:Type}{Q:α→Prop}{c:Prop}[Decidable c]{s t:Sem α}(h:Gr P s Q)(k:Gr P t Q):Gr P (if c then s else t) Q:=by split<;>assumption
theorem cQ{α:Type}{Q:α→Prop}{a:α}(h:Q a):Gr P (pure a) Q:=sG (.pure a) h
theorem dm{α:Type}{Q:α→Prop}(h:Halt):Gr P (.halt h:Sem α) Q:=sG (.halt h) trivial
def U3(es0 es:Array Ym)(w w':V8):Prop:=w.heap.size≤w'.heap.size∧(∀x∈es,x∈es0∨y6 w'.heap.size x)∧∀d,deafBehind d es=deafBehind d es0+1
def Gd{α:Type}(P:Wr)(s:Sem α)(Q:α→Prop):Prop:=∀w es0 w1 es1,U3 es0 es1 w w1→match s.runT P w1 es1 with
 |(.ok a w',es)=>Q a∧lG es0 es w w'
 |(.halt h w',es)=>w.heap.size≤w'.heap.size∧(uA h=true→lG es0 es w w')
def Gs{α:Type}(P:Wr)(s:Sem α):Prop:=Gr P s (fun _=>True)∧∀w es0 h w' es,s.runT P w es0=(.halt h w',es)→uA h=false
theorem DR{α:Type}{s:Sem α}{Q:α→Prop}(h:Gd P s Q):Gr P (do mark .disable;s) Q:=fun w es0=>h w es0 w (es0.push ⟨.mark .disable,false,true⟩) ⟨R3 _,fun x hx=>by
 rcases Array.mem_push.1 hx with hx|rfl
 ·exact .inl hx
 ·exact .inr ⟨.inr (.inl rfl),rfl⟩,fun d=>by rw[deaf_push];rfl⟩
theorem BD{α:Type}{s:Sem α}{Q:α→Prop}(h:Gr P s Q):Gd P (do mark .enable;s) Q:=fun w es0 w1 es1 l=>dM (es1:=es1.push ⟨.mark .enable,false,true⟩) (w1:=w1) ⟨l.1,fun x hx=>by
 rcases Array.mem_push.1 hx with hx|rfl
 ·exact l.2.1 x hx
 ·exact .inr ⟨.inr (.inr rfl),rfl⟩,fun d=>by rw[deaf_push,l.2.2];rfl⟩ (h w1 (es1.push ⟨.mark .enable,false,true⟩))
theorem zN{α:Type}{Q:α→Prop}{c:Prop}[Decidable c]{s t:Sem α}(h:Gd P s Q)(k:Gd P t Q):Gd P (if c then s else t) Q:=by split<;>assumption
theorem Fc{α β:Type}{Q:β→Prop}{h:Halt}{f:α→Sem β}(hh:uA h=false):Gd P ((.halt h:Sem α) >>= f) Q:=fun w es0 w1 es1 l=>⟨l.1,fun e=>by rw[hh]at e;cases e⟩
theorem iX{α β:Type}{s:Sem α}{f:α→Sem β}{Q:β→Prop}(h:Gs P s)(k:∀a,Gd P (f a) Q):Gd P (s >>= f) Q:=fun w es0 w1 es1 l=>by
 have e:(s >>= f).runT P w1 es1=_:=Sem.runT_bind' P s f w1 es1;rw[e];have h1:=h.1 w1 es1;have h2:=h.2 w1 es1
 revert h1 h2
 cases s.runT P w1 es1 with
 |mk r es=>cases r with
  |ok a w'=>exact fun h1 _=>k a w es0 w' es ⟨Ws l.1 h1.2.1,fun x hx=>(h1.2.2.1 x hx).elim (fun hx=>(l.2.1 x hx).elim .inl fun hx=>.inr (hx.up h1.2.1)) .inr,fun d=>by rw[h1.2.2.2,l.2.2]⟩
  |halt x w'=>exact fun h1 h2=>⟨Ws l.1 h1.1,fun e=>by rw[h2 x w' es rfl]at e;cases e⟩
theorem tQ:Gs P program:=⟨dH inferInstance,fun w es0 h w' es e=>by cases e⟩
theorem ze{w:V8}{a:Addr}{b:Bool}{h:Halt}(e:w.farLoad P a b=.error h):uA h=false:=by
 unfold World.farLoad at e;split at e
 ·split at e<;>cases e
  rfl
 ·cases e
  unfold World.noCell;split<;>rfl
theorem wL{w:V8}{a:Addr}{v:R2}{b:Bool}{h:Halt}(e:w.farStore P a v b=.error h):uA h=false:=by
 unfold World.farStore at e;split at e
 ·split at e<;>cases e
  rfl
 ·cases e
  unfold World.noCell;split<;>rfl
theorem NI(a:Addr)(m:Mode):Gs P (load a m):=⟨dH inferInstance,fun w es0 h w' es e=>by
 unfold load Sem.runT at e;split at e
 ·cases e
 ·split at e
  ·cases e
  ·next hf=>
   cases e;exact ze hf⟩
theorem vR(a:Addr)(b:Bool)(m:Mode):Gs P (store a (.bool b) m):=⟨dH inferInstance,fun w es0 h w' es e=>by
 unfold store Sem.runT at e;split at e
 ·split at e
  ·cases e
   rfl
  ·cases e
 ·split at e
  ·cases e
  ·next hf=>
   cases e;exact wL hf⟩
theorem FR{α β:Type}{s:Sem α}{f:α→Sem β}(h:Gs P s)(k:∀a,Gs P (f a)):Gs P (s >>= f):=⟨cC h.1 fun a _=>(k a).1,fun w es0 x w' es e=>by
 have e1:(s >>= f).runT P w es0=_:=Sem.runT_bind' P s f w es0;rw[e1]at e;have h2:=h.2 w es0
 revert e h2
 cases s.runT P w es0 with
 |mk r es2=>cases r with
  |ok a w2=>exact fun e _=>(k a).2 w2 es2 x w' es e
  |halt y w2=>exact fun e h2=>by cases e;exact h2 _ _ _ rfl⟩
theorem Ft:Gs P Extern.PrintPieces.held:=FR tQ fun p=>FR (NI _ _) fun v=>by
 split
 ·exact⟨cQ trivial,fun w es0 h w' es e=>by cases e⟩
 ·exact⟨dm _,fun w es0 h w' es e=>by cases e;rfl⟩
theorem Ci(a b:Array Wj)(args:Array R2):Gr P (Zo a b args) Jh:=by
 unfold Zo;split
 ·split
  ·next first _ _ p _=>
   have tail:Gr P (do
     writeFd 2 p
     if (!(args.size == 2)) = true then pure (Next.row "runtime.print$piece" (#[Value.bool false] ++ args.extract 2)) else
      if(!first)=true then do
       mark Mark.disable
       let q ←program
       store (printLock q) (Value.bool false) Mode.atomic
       let _ ←mark Mark.enable
       pure (Next.value (Value.tuple #[]))
      else pure (Next.value (Value.tuple #[]))) Jh:=
    cC (dH inferInstance) fun _ _=>iE (cQ rfl) (iE (DR (iX tQ fun _=>iX (vR _ _ _) fun _=>BD (cQ trivial))) (cQ trivial))
   dsimp only;refine iE (dm _) (iE (DR (iX Ft fun h=>zN (Fc rfl) (zN (iX tQ fun _=>iX (vR _ _ _) fun _=>BD tail) (BD tail)))) tail)
  ·exact dm _
 ·exact dm _
theorem JF(ln:Bool)(cs:Array Bool)(ts:Array Wj)(xs:Array R2):Gr P (Builtin.printMarked ln cs ts xs) Jh:=by
 unfold Builtin.printMarked;exact cC (dH inferInstance) fun _ _=>iE (cQ trivial) (Ci _ _ _)
theorem Eb(b:Builtin)(ts:Array Wj)(t:Wj)(cs:Array Bool)(xs:Array R2):Gr P (builtin b ts t cs xs) Jh:=by
 unfold builtin
 cases b<;>first
  |exact Rx inferInstance
  |exact JF _ _ _ _
  |exact cQ trivial
  |exact dm _
  |exact cC (dH inferInstance) fun _ _=>cQ trivial
theorem J8(l:Nat)(xs:Array R2):Gr P (Instr.yield l xs) Jh:=by
 unfold Instr.yield;exact cC (dH inferInstance) fun _ _=>iE (dm _) (cQ trivial)
theorem xk{α:Type}{Q:α→Prop}:Gr P (runtimePanic .nilDeref:Sem α) Q:=sG _ (show zg P (runtimePanic .nilDeref:Sem α) Q from trivial)
structure Quiet(P:Wr):Prop where
 ng : ∀ (f : Xg) (fn : Func), P.funcs[f]? = some fn → (fn.name == "runtime.NumGoroutine") = false
 nx:∀(f:Xg) (fn:Func),P.funcs[f]?=some fn→fn.body.isNone=true→Extern.findNext fn=none
 ex:∀(f:Xg) (fn:Func) e,P.funcs[f]?=some fn→fn.body.isNone=true→Extern.find fn=some e→∀xs,NM P (e xs)
theorem lP(Q:Quiet P)(f:Xg)(xs:Array R2):Gr P (callFunc f xs) Jh:=by
 unfold callFunc;refine cC (Q:=fun p=>p=P) (sG (.program .pure) rfl) fun p hp=>?_;subst hp;cases hf:p.funcs[f]? with
 |none=>exact dm _
 |some fn=>
  dsimp only;rw[if_neg (by rw[Q.ng f fn hf];simp)];by_cases hb:fn.body.isNone=true
  ·rw[Wc hb,Q.nx f fn hf hb]
   refine cC (Q:=fun _=>True) (sG (.mark _ (.pure ())) ⟨.inr ⟨f,rfl⟩,trivial⟩) fun _ _=>?_;cases he:Extern.find fn with
   |some e=>exact Rx (Q.ex f fn e hf hb he xs)
   |none=>exact iE (cQ trivial) (dm _)
  ·rw[V9 hb]
   exact cQ trivial
theorem nX(Q:Quiet P)(v:R2)(s:String)(xs:Array R2):Gr P (callMethod v s xs) Jh:=by
 unfold callMethod;split
 ·exact cC (dH inferInstance) fun _ _=>cC (dH inferInstance) fun _ _=>lP Q _ _
 ·exact xk
 ·exact dm _
theorem mQ(Q:Quiet P)(t:Target)(xs:Array R2):Gr P (invoke t xs) Jh:=by
 unfold invoke;cases t with
 |nil=>exact xk
 |builtin b ts t cs=>exact Eb _ _ _ _ _
 |fn f c=>
  cases f with
  |func f=>exact lP Q _ _
  |method n=>
   dsimp only;split
   ·exact nX Q _ _ _
   ·exact dm _
  |methodOf t n=>
   dsimp only;split
   ·exact cC (dH inferInstance) fun _ _=>nX Q _ _ _
   ·exact dm _
  |via t p f b=>
   dsimp only;split
   ·exact cC (dH inferInstance) fun _ _=>lP Q _ _
   ·exact dm _
  |yield l=>exact J8 _ _
 |collected r=>exact dm _
 |coroexit c=>exact cQ trivial
theorem OU(Q:Quiet P)(r:Operand→R2)(o:Oper):Gr P (execOp r o) Jh:=by
 obtain⟨dst,op,type,pos,after,guard⟩:=o;unfold execOp
 cases op<;>dsimp only<;>first
  |exact cQ trivial
  |exact Rx inferInstance
  |exact UQ inferInstance
  |exact cC (dH inferInstance) fun _ _=>cQ trivial
  |exact cC (dH inferInstance) fun _ _=>mQ Q _ _
  |skip
 case nilCheck=>
  split
  ·exact xk
  ·exact xk
  ·exact xk
  ·split
   ·exact xk
   ·exact cC (dH inferInstance) fun _ _=>cC (dH inferInstance) fun _ _=>iE (dm _) (cQ trivial)
   ·exact cQ trivial
  ·exact cQ trivial
 case recv=>
  refine cC (dH inferInstance) fun _ _=>?_;split
  ·exact cC (dH inferInstance) fun _ _=>cQ trivial
  ·exact dm _
end
def Ev(w:V8)(es:Array Ym):Prop:=(∀e∈es,y6 w.heap.size e)∧∀d,deafBehind d es=d
theorem Ev.nil(w:V8):Ev w #[]:=⟨fun e he=>by simp at he,fun _=>rfl⟩
theorem Ev.of{es:Array Ym}{w w':V8}(h:lG #[] es w w'):Ev w' es:=⟨fun e he=>(h.2.1 e he).elim (fun he=>by simp at he) id,fun d=>(h.2.2 d).trans rfl⟩
theorem Ev.up{es:Array Ym}{w w':V8}(h:Ev w es)(hs:w.heap.size≤w'.heap.size):Ev w' es:=⟨fun e he=>(h.1 e he).up hs,h.2⟩
theorem Ev.app{es es':Array Ym}{w:V8}(h:Ev w es)(k:Ev w es'):Ev w (es++es'):=⟨fun e he=>(Array.mem_append.1 he).elim (h.1 e) (k.1 e),fun d=>by rw[AI,h.2,k.2]⟩
theorem xL(quiet:Xg→Bool):∀(l:List Ym) (q:Bool) (kept:Array Ym) (d:Nat),(∀e∈l,∀m,e.loc=.mark m→e.sync=true)→deafBehind d (l.foldl (seenStep quiet) (q,kept)).2=deafBehind (deafBehind d kept) l.toArray
 |[],q,kept,d,_=>rfl
 |e :: l,q,kept,d,h=>by
  have hc:deafBehind (deafBehind d kept) (e :: l).toArray=deafBehind (deafBehind (deafBehind d kept) #[e]) l.toArray:=by
   unfold deafBehind;simp
  rw[hc,List.foldl_cons];have ht:∀e∈l,∀m,e.loc=.mark m→e.sync=true:=fun e he=>h e (by simp[he])
  have key:∃q' kept',seenStep quiet (q,kept) e=(q',kept')∧deafBehind d kept'=deafBehind (deafBehind d kept) #[e]:=by
   have plain:(∀c,deafBehind c #[e]=c)→∀b:Bool,deafBehind d (if b=true then kept else kept.push e)=deafBehind (deafBehind d kept) #[e]:=fun hp b=>by
    cases b with
    |true=>exact(hp _).symm
    |false=>exact deaf_push _ _ _
   have hs:=h e vsi;obtain⟨lc,x,y⟩:=e;cases lc with
   |mark m=>
    obtain rfl:y=true:=hs m rfl;cases m with
    |extern f=>exact⟨quiet f,kept,rfl,rfl⟩
    |_=>exact⟨q,_,rfl,by rw[Bool.not_true,Bool.and_false];exact deaf_push _ _ _⟩
   |_=>exact⟨q,_,rfl,plain (fun _=>rfl) _⟩
  obtain⟨q',kept',e1,e2⟩:=key;rw[e1,xL quiet l _ _ d ht,e2]
theorem Ev.seen{P:Wr}{fn:Xg}{es:Array Ym}{w:V8}(h:Ev w es):Ev w (seen P fn es):=⟨fun e he=>h.1 e (mem_seen he),fun d=>by
 rw[seen_def,xL _ _ _ _ _ fun e he m hm=>?_]
 ·exact h.2 d
 ·have:=h.1 e (Array.mem_toList_iff.1 he)
  unfold y6 at this;rw[hm]at this;exact this.2⟩
def DV:Item→Prop
 |.call _ _ _ _=>False
 | .extern r _ => r = "runtime.print$piece"
 |_=>True
def jS(l:List Item):Prop:=∀x∈l,DV x
def qW(l:List WG):Prop:=∀f∈l,jS f.todo
def Jc(g:Wi):Prop:=jS g.frame.todo∧qW g.callers
theorem jS.cons{x:Item}{l:List Item}(h:DV x)(k:jS l):jS (x :: l):=fun y hy=>by
 rcases Xl.1 hy with rfl|hy
 ·exact h
 ·exact k y hy
theorem jS.tail{x:Item}{l:List Item}(h:jS (x :: l)):jS l:=fun y hy=>h y (List.mem_cons_of_mem _ hy)
theorem jS.head{x:Item}{l:List Item}(h:jS (x :: l)):DV x:=h x vsi
theorem jS.nil:jS []:=fun x hx=>by simp at hx
theorem qW.cons{f:WG}{l:List WG}(h:jS f.todo)(k:qW l):qW (f :: l):=fun y hy=>by
 rcases Xl.1 hy with rfl|hy
 ·exact h
 ·exact k y hy
theorem qW.tail{f:WG}{l:List WG}(h:qW (f :: l)):qW l:=fun y hy=>h y (List.mem_cons_of_mem _ hy)
theorem qW.head{f:WG}{l:List WG}(h:qW (f :: l)):jS f.todo:=h f vsi
theorem qW.nil:qW []:=fun x hx=>by simp at hx
theorem dO{fr:WG}(h:jS fr.todo)(v:R2):jS (fr.finish v).todo:=by
 unfold Frame.finish;split
 ·next e=>
  rw[e]at h;exact .cons trivial h.tail
 ·next e=>
  rw[e]at h;exact .cons trivial h.tail
 ·next e=>
  rw[e]at h;exact h.tail
 ·next e=>
  rw[e]at h;exact h.head.elim
 ·next e=>
  rw[e]at h;exact h.tail
 ·exact h
theorem iJ{fr:WG}(h:jS fr.todo)(l:List PanicEntry):jS (fr.raise l).todo:=by
 unfold Frame.raise;split<;>exact h
theorem jQ(P:Wr)(f:Xg)(xs:Array R2)(k:CallKind):jS (Frame.enter P f xs k).todo:=.cons trivial .nil
theorem iN:∀{cs:List WG} {fr:WG} {v:R2} {cs':List WG},tryRecover fr cs=some (v,cs')→qW cs→qW cs'
 |[],fr,v,cs',h,k=>by
  unfold tryRecover at h;split at h
  ·cases ‹_=_ :: _›
  ·cases ‹_=_ :: _›
  ·cases h
 |c :: cs,fr,v,cs',h,k=>by
  unfold tryRecover at h;split at h
  ·next e=>
   cases e;split at h
   ·cases h
    exact .cons k.head k.tail
   ·cases h
  ·next e=>
   cases e;cases hr:tryRecover c cs with
   |none=>rw[hr]at h;cases h
   |some p=>
    rw[hr]at h;cases h;exact .cons k.head (iN hr k.tail)
  ·cases h
theorem iT:∀{cs:List WG} {l:Nat} {v:R2} {cs':List WG},tryRecoverLoop l cs=some (v,cs')→qW cs→qW cs'
 |[],l,v,cs',h,k=>by
  unfold tryRecoverLoop at h;cases h
 |c :: cs,l,v,cs',h,k=>by
  have key:∀o:Option (R2×List WG),(∀p,o=some p→qW p.2)→o.map (fun(v,rest)=>(v,c :: rest))=some (v,cs')→qW cs':=fun o ho e=>by
   cases o with
   |none=>cases e
   |some p=>
    cases e;exact .cons k.head (ho _ rfl)
  unfold tryRecoverLoop at h;refine key _ (fun p hp=>?_) h;split at hp
  ·exact iT hp k.tail
  ·split at hp
   ·exact iN hp k.tail
   ·exact iT hp k.tail
  ·exact iT hp k.tail
theorem yI:∀{l:List Item} {id:Nat} {l':List Item},exitTo id l=some l'→jS l→jS l'
 |[],id,l',h,k=>by
  unfold exitTo at h;cases h
 |x :: l,id,l',h,k=>by
  unfold exitTo at h;split at h
  ·next e=>
   cases e;split at h
   ·cases h
    exact k.tail
   ·exact yI h k.tail
  ·next e=>
   cases e;exact yI h k.tail
  ·cases h
theorem zC:∀{l:List Item} {id:Nat} {l':List Item},gotoIn id l=some l'→jS l→jS l'
 |[],id,l',h,k=>by
  unfold gotoIn at h;cases h
 |x :: l,id,l',h,k=>by
  unfold gotoIn at h;split at h
  ·next e=>
   cases e;split at h
   ·cases h
    exact .cons trivial (.cons trivial k.tail)
   ·exact zC h k.tail
  ·next e=>
   cases e;exact zC h k.tail
  ·cases h
def oO(w:V8):GStep→Prop
 |.go g w' es|.comm g _ _ _ w' es|.spawn g _ w' es|.coroswitch g _ _ w' es=>Jc g∧w.heap.size≤w'.heap.size∧Ev w' es
 |.ended _ _ _=>True
 |_=>False
theorem bO{w w1:V8}{es:Array Ym}{s:GStep}(he:Ev w1 es)(hs:w.heap.size≤w1.heap.size)(h:oO w1 s):oO w (s.after es):=by
 cases s with
 |go g w' es'=>exact⟨h.1,Ws hs h.2.1,(he.up h.2.1).app h.2.2⟩
 |comm g a b c w' es'=>exact⟨h.1,Ws hs h.2.1,(he.up h.2.1).app h.2.2⟩
 |spawn g c w' es'=>exact⟨h.1,Ws hs h.2.1,(he.up h.2.1).app h.2.2⟩
 |coroswitch g a b w' es'=>exact⟨h.1,Ws hs h.2.1,(he.up h.2.1).app h.2.2⟩
 |ended o w' es'=>trivial
 |_=>exact h.elim
theorem aY{w w':V8}{g:Wi}(h:Jc g)(hs:w.heap.size≤w'.heap.size):oO w (.go g w'):=⟨h,hs,Ev.nil _⟩
theorem Bp(fr:WG)(l:List ByteArray)(m:String)(b:Bool)(w:V8)(h:jS fr.todo):oO w (dieOf fr l m b w):=aY ⟨h,.nil⟩ (R3 _)
theorem o8(fr:WG)(m:String)(w:V8)(h:jS fr.todo):oO w (endThrow fr m w):=Bp _ _ _ _ _ h
theorem Rs{w w1:V8}(h:w.heap.size≤w1.heap.size){s:GStep}(k:oO w1 s):oO w s:=by
 cases s with
 |go g w' es'=>exact⟨k.1,Ws h k.2.1,k.2.2⟩
 |comm g a b c w' es'=>exact⟨k.1,Ws h k.2.1,k.2.2⟩
 |spawn g c w' es'=>exact⟨k.1,Ws h k.2.1,k.2.2⟩
 |coroswitch g a b w' es'=>exact⟨k.1,Ws h k.2.1,k.2.2⟩
 |ended o w' es'=>trivial
 |_=>exact k.elim
section
variable{P:Wr}
theorem Lc{α:Type}(s:Sem α):∀w,match s.run P w with
  |.ok _ w'=>w.heap.size≤w'.heap.size
  |.halt _ w'=>w.heap.size≤w'.heap.size:=by
 have up:∀{r:Result α} {w w1:V8},w.heap.size≤w1.heap.size→(match r with
  |.ok _ w'=>w1.heap.size≤w'.heap.size
  |.halt _ w'=>w1.heap.size≤w'.heap.size)→match r with
  |.ok _ w'=>w.heap.size≤w'.heap.size
  |.halt _ w'=>w.heap.size≤w'.heap.size:=fun {r w w1} h k=>by
  cases r with
  |ok a w'=>exact Ws h k
  |halt x w'=>exact Ws h k
 induction s with
 |pure a=>exact fun w=>R3 _
 |load m a k ih=>
  intro w;unfold Sem.run;cases w.cell? a with
  |some v=>exact ih v w
  |none=>
   cases w.farLoad P a (m==Mode.atomic)with
   |ok r=>exact ih r.1 w
   |error x=>exact R3 _
 |store m a v k ih=>
  intro w
  have key:match(match w.cell? a with
   | some _ => if w.frozen? a then Result.halt (.unsupported (.unsafePointer "a write to bytes that a string shares")) w else k.run P (w.setCell a v)
   |none=>match w.farStore P a v (m==Mode.atomic)with
    |.ok (w,_)=>k.run P w
    |.error h=>.halt h w)with
   |.ok _ w'=>w.heap.size≤w'.heap.size
   |.halt _ w'=>w.heap.size≤w'.heap.size:=by
   cases w.cell? a with
   |some v0=>
    dsimp only;by_cases hz:w.frozen? a=true
    ·rw[Wc hz]
     exact R3 _
    ·rw[V9 hz]
     exact up (by rw[size_set];exact R3 _) (ih (w.setCell a v))
   |none=>
    dsimp only;cases hf:w.farStore P a v (m==Mode.atomic)with
    |ok r=>
     obtain⟨w1,l⟩:=r;exact up (by rw[(pJ hf).1];exact R3 _) (ih w1)
    |error x=>exact R3 _
  cases v<;>first
   |exact key
   |exact R3 _
 |new o k ih=>exact fun w=>up vsi (ih _ { w with heap:=w.heap.push o })
 |shape r k ih=>exact fun w=>ih _ w
 |freeze a n k ih=>exact fun w=>up (by rw[su];exact R3 _) (ih (w.freeze a n))
 |frozen a k ih=>exact fun w=>ih _ w
 |getObj r k ih=>
  intro w;unfold Sem.run;cases w.heap[r]? with
  |none=>exact R3 _
  |some o=>cases o<;>first
   |exact R3 _
   |exact ih _ w
 |setObj r o k ih=>
  intro w;unfold Sem.run;cases w.heap[r]? with
  |none=>exact R3 _
  |some o2=>cases o2<;>first
   |exact R3 _
   |exact up vsi (ih { w with heap:=w.heap.setIfInBounds r o })
 |choose q k ih=>
  intro w;unfold Sem.run;by_cases hz:q.forced=true
  ·rw[Wc hz]
   exact ih _ w
  ·rw[V9 hz]
   exact ih _ { w with drawn:=w.drawn+1 }
 |sys c k ih=>exact fun w=>up (by rw[Ag];exact R3 _) (ih _ (w.sys c).2)
 |program k ih=>exact fun w=>ih P w
 |mark m k ih=>exact fun w=>ih w
 |halt x=>exact fun w=>R3 _
theorem kO{α:Type}{s:Sem α}{w w':V8}{a:α}(h:s.run P w=.ok a w'):w.heap.size≤w'.heap.size:=by
 have:=Lc (P:=P) s w;rw[h]at this;exact this
theorem As(fr:WG)(cs:List WG)(d:Option Dying)(m:String)(w:V8)(h:jS fr.todo):oO w (endFatal P fr cs d m w):=by
 unfold endFatal;dsimp only;split
 ·next e=>exact Rs (kO e) (Bp _ _ _ _ _ h)
 ·trivial
 ·trivial
theorem sO(fr:WG)(v:R2)(w:V8)(h:jS fr.todo):oO w (endPrinting P fr v w):=by
 unfold endPrinting;dsimp only;split
 ·exact o8 _ _ _ h
 ·trivial
theorem rH(m:Bool)(fr:WG)(cs:List WG)(d:Option Dying)(v:R2)(w:V8)(h:jS fr.todo)(k:qW cs):oO w (doReturn P m fr cs d v w):=by
 unfold doReturn;split
 ·next c rest=>
  split
  ·exact aY ⟨dO k.head v,k.tail⟩ (R3 _)
  ·exact aY ⟨dO k.head v,k.tail⟩ (R3 _)
  ·exact aY ⟨k.head,k.tail⟩ (R3 _)
  ·dsimp only
   refine aY ⟨?_,k.tail⟩ (Nat.le_refl _);dsimp only;split
   ·split<;>exact k.head
   ·exact k.head
 ·split
  ·exact aY ⟨h,.nil⟩ (R3 _)
  ·trivial
  ·split
   ·exact aY ⟨h,.nil⟩ (R3 _)
   ·split
    ·exact aY ⟨jQ _ _ _ _,.nil⟩ (R3 _)
    ·trivial
theorem Lm(fr:WG)(cs:List WG)(d:Option Dying)(g:Nat)(w:V8)(h:jS fr.todo)(k:qW cs):oO w (early P fr cs d g w):=by
 have ny:∀w1:V8,w.heap.size≤w1.heap.size→oO w (match w1.heap[g]? with
   |some (.pending c elem)=>.go { frame:=fr,callers:=cs,status:=.running,dying:=d } { w1 with heap:=w1.heap.setIfInBounds g (.cells c elem) }
   | _ => .ended (.stuck "early: the variable does not wait" (fr.pos P)) w1) := fun w1 hs => by
  split
  ·exact aY ⟨h,k⟩ (by simpa using hs)
  ·trivial
 have en:∀(l:List Xg) (cs:List WG),qW cs→qW (l.map (Frame.enter P · #[] .early)++cs):=fun l cs hc=>by
  induction l with
  |nil=>exact hc
  |cons a l ih=>exact .cons (jQ _ _ _ _) ih
 have th:∀(f:Xg) (l:List Xg) (w1:V8),w.heap.size≤w1.heap.size→oO w (.go { frame:=Frame.enter P f #[] .early,callers:=l.map (Frame.enter P · #[] .early)++fr :: cs,status:=.running,dying:=d } w1):=fun f l w1 hs=>aY ⟨jQ _ _ _ _,en _ _ (.cons h k)⟩ hs;unfold early;dsimp only
 repeat' first
  |exact ny _ (R3 _)
  |exact th _ _ _ (R3 _)
  |trivial
  |(rename_i e;exact ny _ (kO e))
  |(rename_i e;exact th _ _ _ (kO e))
  |(rename_i e _;exact th _ _ _ (kO e))
  |split
theorem kI{α:Type}{s:Sem α}{Q:α→Prop}(h:Gr P s Q){w w':V8}{a:α}{es:Array Ym}(e:s.runT P w #[]=(.ok a w',es)):Q a∧w.heap.size≤w'.heap.size∧Ev w' es:=by
 have:=h w #[];rw[e]at this;exact⟨this.1,this.2.1,.of this.2⟩
theorem mq{α:Type}{s:Sem α}{Q:α→Prop}(h:Gr P s Q){w w':V8}{x:Halt}{es:Array Ym}(e:s.runT P w #[]=(.halt x w',es)):w.heap.size≤w'.heap.size∧(uA x=true→Ev w' es):=by
 have:=h w #[];rw[e]at this;exact⟨this.1,fun hl=>.of (this.2 hl)⟩
theorem ko{c:Prop}[Decidable c]{w:V8}{a b:GStep}(h:oO w a)(k:oO w b):oO w (if c then a else b):=by split<;>assumption
theorem Ev.ite{c:Prop}[Decidable c]{w:V8}{a b:Array Ym}(h:Ev w a)(k:Ev w b):Ev w (if c then a else b):=by split<;>assumption
theorem AV(Q:Quiet P)(fr:WG)(cs:List WG)(d:Option Dying)(x:Deferred)(w:V8)(h:jS fr.todo)(k:qW cs):oO w (callDeferred P fr cs d x w):=by
 unfold callDeferred;refine ko trivial ?_
 ·have hg:=mQ Q x.target x.args
  cases hr:(invoke x.target x.args).runT P w #[]with
  |mk r es=>
   cases r with
   |ok n w1=>
    obtain⟨hn,hs,he⟩:=kI hg hr;dsimp only;refine bO he.seen hs ?_;have stay:oO w1 (.go { frame:=fr,callers:=cs,status:=.running,dying:=d } w1):=aY ⟨h,k⟩ (Nat.le_refl _);cases n with
    |enter f xs=>exact aY ⟨jQ _ _ _ _,.cons h k⟩ (R3 _)
    |round l f ts a b=>exact aY ⟨.cons trivial (.cons trivial (.cons trivial .nil)),.cons h k⟩ (R3 _)
    |row r xs=>exact aY ⟨.cons hn .nil,.cons h k⟩ (R3 _)
    |recover=>
     dsimp only;split
     ·next e=>exact aY ⟨h,iN e k⟩ (R3 _)
     ·exact stay
    |coroswitch c b=>
     cases b with
     |true=>exact⟨⟨h,k⟩,R3 _,Ev.nil _⟩
     |false=>trivial
    |value v=>exact stay
    |skip=>exact stay
    |defer y=>exact stay
    |spawn y=>exact stay
    |comm a b c=>exact stay
    |_=>exact hn.elim
   |halt y w1=>
    obtain⟨hs,he⟩:=mq hg hr;dsimp only;cases y with
    |panic v=>exact bO (he rfl).seen hs (aY ⟨iJ h _,k⟩ (R3 _))
    |fatal m=>exact bO (he rfl).seen hs (As _ _ _ _ _ h)
    |throw m=>exact bO (he rfl).seen hs (o8 _ _ _ h)
    |goexit=>exact bO (he rfl).seen hs (aY ⟨iJ h _,k⟩ (R3 _))
    |blocked=>exact bO (Ev.nil w1).seen hs (aY ⟨h,k⟩ (R3 _))
    |waiting=>exact bO (Ev.nil w1).seen hs (aY ⟨h,k⟩ (R3 _))
    |_=>trivial
theorem qx(fr:WG)(cs:List WG)(d:Option Dying)(s:Sem Next)(w:V8)(hg:Gr P s Jh)(h:jS fr.todo)(k:qW cs):oO w (stepG.apply P true fr cs d s w):=by
 unfold stepG.apply;dsimp only;rw[if_pos rfl]
 generalize (match fr.todo with
  |.call _ true _ _ :: _=>CallKind.wrapped
  |_=>CallKind.normal)=kd
 cases hr:s.runT P w #[]with
 |mk r es=>
  cases r with
  |ok n w1=>
   obtain⟨hn,hs,he⟩:=kI hg hr;dsimp only;refine bO (Ev.ite (Ev.nil _) he).seen hs ?_;cases n with
   |value v=>exact aY ⟨dO h v,k⟩ (R3 _)
   |skip=>exact aY ⟨dO h _,k⟩ (R3 _)
   |enter f xs=>exact aY ⟨jQ _ _ _ _,.cons h k⟩ (R3 _)
   |round l f ts a b=>exact aY ⟨.cons trivial (.cons trivial (.cons trivial .nil)),.cons h k⟩ (R3 _)
   |row r xs=>
    dsimp only;split
    ·next e=>
     rw[e]at h;exact aY ⟨.cons hn h.tail,k⟩ (R3 _)
    ·exact aY ⟨.cons hn .nil,.cons h k⟩ (R3 _)
   |defer y=>exact aY ⟨dO (fr:={ fr with defers:=y :: fr.defers }) h _,k⟩ (R3 _)
   |recover=>
    have key:∀o:Option (R2×List WG),(∀p,o=some p→qW p.2)→oO w1 (match o with
     |some (v,callers)=>.go { frame:=fr.finish v,callers,status:=.running,dying:=d } w1
     |none=>.go { frame:=fr.finish .nilIface,callers:=cs,status:=.running,dying:=d } w1):=fun o ho=>by
     cases o with
     |some p=>exact aY ⟨dO h _,ho p rfl⟩ (R3 _)
     |none=>exact aY ⟨dO h _,k⟩ (R3 _)
    refine key _ fun p hp=>?_;split at hp
    ·split at hp
     ·exact iN hp k
     ·exact iT hp k
    ·exact iN hp k
   |spawn y=>exact ko (o8 _ _ _ h) ⟨⟨dO h _,k⟩,R3 _,Ev.nil _⟩
   |comm a b c=>exact⟨⟨h,k⟩,R3 _,Ev.nil _⟩
   |coroswitch c b=>exact⟨⟨h,k⟩,R3 _,Ev.nil _⟩
   |_=>exact hn.elim
  |halt y w1=>
   obtain⟨hs,he⟩:=mq hg hr;cases y with
   |panic v=>exact bO (Ev.ite (Ev.nil _) (he rfl)).seen hs (aY ⟨iJ h _,k⟩ (R3 _))
   |fatal m=>exact bO (Ev.ite (Ev.nil _) (he rfl)).seen hs (As _ _ _ _ _ h)
   |throw m=>exact bO (Ev.ite (Ev.nil _) (he rfl)).seen hs (o8 _ _ _ h)
   |goexit=>exact bO (Ev.ite (Ev.nil _) (he rfl)).seen hs (aY ⟨iJ h _,k⟩ (R3 _))
   |blocked=>exact bO (Ev.ite (Ev.nil w1) (Ev.nil w1)).seen hs (aY ⟨h,k⟩ (R3 _))
   |waiting=>exact bO (Ev.ite (Ev.nil w1) (Ev.nil w1)).seen hs (aY ⟨h,k⟩ (R3 _))
   |unsupported u=>
    cases u with
    |initOrder g=>exact bO (Ev.ite (Ev.nil w1) (Ev.nil w1)).seen hs (Lm _ _ _ _ _ h k)
    |_=>trivial
   |_=>trivial
theorem On(Q:Quiet P)(fr:WG)(cs:List WG)(d:Option Dying)(w:V8)(h:jS fr.todo)(k:qW cs):oO w (stepG.oper P true fr cs d w):=by
 unfold stepG.oper;split
 ·trivial
 ·split
  ·exact qx _ _ _ _ _ (cC (dH inferInstance) fun _ _=>cC (dH inferInstance) fun _ _=>cQ trivial) h k
  ·exact qx _ _ _ _ _ (OU Q _ _) h k
theorem LU (piece : ByteArray) (a b : Bool) : Gr P (do
      if !(a&&b)then
        mark .disable
        if ← Extern.PrintPieces.held then .halt .blocked
        if a then store (printLock (← program)) (.bool true) .atomic
        mark .enable
      if piece.size > 65536 then unsupported (.noEntry "a report of more than 65536 bytes")
      match ← sys (.write 2 piece)with
      | .int n => if n != piece.size then unsupported (.noEntry "a report that its descriptor cannot take whole")
      |.err _=>pure ()
      | _ => unsupported (.noEntry "a report that its descriptor cannot take whole") : Sem Unit) fun _ => True := by
  have tail : Gr P (do
      if piece.size > 65536 then unsupported (.noEntry "a report of more than 65536 bytes")
      match ← sys (.write 2 piece)with
      | .int n => if n != piece.size then unsupported (.noEntry "a report that its descriptor cannot take whole")
      |.err _=>pure ()
      | _ => unsupported (.noEntry "a report that its descriptor cannot take whole") : Sem Unit) fun _ => True := by
    refine iE (dm _) (cC (dH inferInstance) fun _ _=>?_);split
    · exact iE (dm _) (cQ trivial)
    · exact cQ trivial
    · exact dm _
  exact iE (DR (iX Ft fun h=>zN (Fc rfl) (zN (iX tQ fun _=>iX (vR _ _ _) fun _=>BD tail) (BD tail)))) tail
theorem KR(fr:WG)(d:Dying)(f:Fatal)(w:V8)(h:jS fr.todo):oO w (writeOn P fr d f w):=by
 unfold writeOn;dsimp only;split
 ·trivial
 ·next piece rest _=>
  have hg:=LU (P:=P) piece f.whole f.begun;split
  ·next hr=>
   obtain⟨_,hs,he⟩:=kI hg hr;exact⟨⟨h,.nil⟩,hs,he⟩
  ·next hr=>
   obtain⟨hs,_⟩:=mq hg hr;exact aY ⟨h,.nil⟩ hs
  ·trivial
  ·trivial
theorem Qg(Q:Quiet P)(fr:WG)(d:Dying)(w:V8)(h:jS fr.todo):oO w (die P fr d w):=by
 unfold die;split
 ·exact KR _ _ _ _ h
 ·split
  ·split
   ·exact aY ⟨h,.nil⟩ (R3 _)
   ·unfold endWith
    dsimp only;split
    ·split<;>trivial
    ·trivial
    ·trivial
  ·dsimp only
   split
   ·exact aY ⟨h,.nil⟩ (R3 _)
   ·split
    ·next e=>exact aY ⟨h,.nil⟩ (kO e)
    ·trivial
   ·next t recv name _=>
    have hg:=mQ Q (.fn (.method name) #[]) #[.iface t recv];cases hr:(invoke (.fn (.method name) #[]) #[.iface t recv]).runT P w #[]with
    |mk r es=>
     cases r with
     |ok n w1=>
      obtain⟨hn,hs,he⟩:=kI hg hr;dsimp only;refine bO he.seen hs ?_;split
      ·next e=>
       cases e;exact aY ⟨jQ _ _ _ _,.nil⟩ (R3 _)
      ·next e=>
       cases e;exact aY ⟨h,.nil⟩ (R3 _)
      ·trivial
      ·next e=>cases e
      ·trivial
     |halt y w1=>
      obtain⟨hs,he⟩:=mq hg hr;dsimp only;cases y with
      |panic v=>exact bO (he rfl).seen hs (sO _ _ _ h)
      |unsupported u=>trivial
      |_=>trivial
   ·trivial
theorem NS{α β:Type}{f:α→Sem β}(h:∀a,NM P (f a))(l:Array α):NM P (l.mapM f):=by
 rw[Array.mapM_eq_mapM_toList];exact b5 (tG h _) fun _=>⟨trivial⟩
theorem Ge(Q:Quiet P)(m:Bool)(fr:WG)(cs:List WG)(d:Option Dying)(w:V8)(h:jS fr.todo)(k:qW cs):oO w (unwind P m fr cs d w):=by
 unfold unwind;split
 ·next block _ _ _=>
  have hg:Gr P (Instr.takeDeferred block) fun _=>True:=dH inferInstance;cases hr:(Instr.takeDeferred block).runT P w #[]with
  |mk r es=>
   cases r with
   |ok n w1=>
    obtain⟨_,hs,he⟩:=kI hg hr;exact bO he.seen hs (aY ⟨h,k⟩ (R3 _))
   |halt y w1=>trivial
 ·exact AV Q _ _ _ _ _ h k
 ·split
  ·trivial
  ·next chain _=>
   refine ko trivial ?_;split
   ·exact aY ⟨iJ k.head _,k.tail⟩ (R3 _)
   ·split
    ·refine ko (aY ⟨h,.nil⟩ (R3 _)) ?_
     split
     ·next e=>exact aY ⟨h,.nil⟩ (kO e)
     ·trivial
     ·trivial
    ·split
     ·exact sO _ _ _ h
     ·trivial
  ·split
   ·exact rH _ _ _ _ _ _ h k
   ·next fn _=>
    have hg:Gr P (results fn fr.tmps) fun _=>True:=dH (by
     unfold results;refine b5 (NS (fun x=>?_) _) fun _=>inferInstance;split
     ·infer_instance
     ·infer_instance)
    cases hr:(results fn fr.tmps).runT P w #[]with
    |mk r es=>
     cases r with
     |ok n w1=>
      obtain⟨_,hs,he⟩:=kI hg hr;exact bO he.seen hs (rH _ _ _ _ _ _ h k)
     |halt y w1=>cases y<;>trivial
theorem DT : Extern.next "runtime.print$piece" = some (Zo #[] #[]) := by kernel_rfl
theorem Pf(Q:Quiet P)(m:Bool)(fr:WG)(cs:List WG)(d:Option Dying)(w:V8)(h:jS fr.todo)(k:qW cs):oO w (stepG.exec P m true fr cs d w):=by
 have leave:∀(fr:WG) (jump:Option Code),jS fr.todo→oO w (match fr.roundOf with
   | none => if jump matches none | some .ret then .go { frame := { fr with mode := .returning }, callers := cs, status := .running, dying := d } w else .ended (.stuck "exit, goto: no such block or label" (fr.pos P)) w
   |some l=>match(Instr.endRound l jump).runT P w #[]with
    |(r,es)=>GStep.after (seen P fr.fn es) (match r with
     |.ok v w=>doReturn P m fr cs d v w
     | .halt _ w => .ended (.stuck "range over a function: no such loop" (fr.pos P)) w)) := fun fr jump h => by
  split
  ·exact ko (aY ⟨h,k⟩ (R3 _)) trivial
  ·next l _=>
   have hg:Gr P (Instr.endRound l jump) fun _=>True:=dH inferInstance;cases hr:(Instr.endRound l jump).runT P w #[]with
   |mk r es=>
    cases r with
    |ok n w1=>
     obtain⟨_,hs,he⟩:=kI hg hr;exact bO he.seen hs (rH _ _ _ _ _ _ h k)
    |halt y w1=>trivial
 have go:∀(fr:WG),jS fr.todo→oO w (.go { frame:=fr,callers:=cs,status:=.running,dying:=d } w):=fun fr hl=>aY ⟨hl,k⟩ (R3 _)
 have elim:∀(fr:WG) (o:Option (List Item)) (a:GStep),oO w a→(∀l,o=some l→jS l)→oO w (o.elim a fun l=>.go { frame:={ fr with todo:=l },callers:=cs,status:=.running,dying:=d } w):=fun fr o a ha ho=>by
  cases o with
  |none=>exact ha
  |some l=>exact aY ⟨ho l rfl,k⟩ (R3 _)
 have oper:=On Q fr cs d w h k;have app:=fun(s:Sem Next) (hg:Gr P s Jh)=>qx fr cs d s w hg h k;obtain⟨fn,ts,todo,ds,mode,kind,ro⟩:=fr;unfold stepG.exec;dsimp only at h⊢;cases todo with
 |nil=>exact leave ⟨fn,ts,[],ds,mode,kind,ro⟩ none h
 |cons x l=>
  have hl:=h.tail;cases x with
  |code c=>
   cases c with
   |ret=>exact leave ⟨fn,ts,.code .ret :: l,ds,mode,kind,ro⟩ (some .ret) h
   |skip=>exact go _ hl
   |label _=>exact go _ hl
   |seq a b=>exact go _ (.cons trivial (.cons trivial hl))
   |cond c a b=>
    dsimp only;split
    ·exact go _ (.cons trivial hl)
    ·trivial
   |block id b=>exact go _ (.cons trivial (.cons trivial hl))
   |loop b=>exact go _ (.cons trivial (.cons trivial hl))
   |scope b=>exact go _ (.cons trivial (.cons trivial hl))
   |exit id=>exact elim ⟨fn,ts,.code (.exit id) :: l,ds,mode,kind,ro⟩ _ _ (leave ⟨fn,ts,.code (.exit id) :: l,ds,mode,kind,ro⟩ (some (.exit id)) h) fun l' e=>yI e hl
   |goto id=>exact elim ⟨fn,ts,.code (.goto id) :: l,ds,mode,kind,ro⟩ _ _ (leave ⟨fn,ts,.code (.goto id) :: l,ds,mode,kind,ro⟩ (some (.goto id)) h) fun l' e=>zC e hl
   |rangeFunc f params a b=>
    dsimp only;have hg:Gr P (Instr.enterLoop fn ts params a b ro) fun _=>True:=dH inferInstance;cases hr:(Instr.enterLoop fn ts params a b ro).runT P w #[]with
    |mk r es=>
     cases r with
     |ok n w1=>
      obtain⟨_,hs,he⟩:=kI hg hr;exact bO he.seen hs (qx _ _ _ _ _ (cC (dH inferInstance) fun _ _=>mQ Q _ _) (.cons trivial hl) k)
     |halt y w1=>trivial
   |refuse y=>trivial
   |region id ops draw=>
    dsimp only;refine ko (go _ (.cons trivial hl)) ?_;split
    ·next e=>exact aY ⟨.cons trivial hl,k⟩ (kO e)
    ·trivial
  |inBlock id=>exact go _ hl
  |inScope b=>exact go _ hl
  |inLoop b=>exact go _ (.cons trivial (.cons trivial hl))
  |inRegion ops t=>
   cases t with
   |nil=>exact go _ hl
   |cons i r=>exact ko oper (aY ⟨dO h _,k⟩ (R3 _))
  |inRangeFunc n=>trivial
  |endRangeFunc n=>
   dsimp only;have hg:Gr P (Instr.endLoop n) fun _=>True:=dH inferInstance;cases hr:(Instr.endLoop n).runT P w #[]with
   |mk r es=>
    cases r with
    |ok j w1=>
     obtain⟨_,hs,he⟩:=kI hg hr;refine bO he.seen hs (aY ⟨?_,k⟩ (R3 _));cases j with
     |none=>exact hl
     |some c=>exact .cons trivial hl
    |halt y w1=>
     obtain⟨hs,he⟩:=mq hg hr;cases y with
     |panic v=>exact bO (he rfl).seen hs (aY ⟨iJ (fr:=⟨fn,ts,.endRangeFunc n :: l,ds,mode,kind,ro⟩) h _,k⟩ (R3 _))
     |_=>trivial
  |beginRound=>
   refine app _ (cC (Q:=fun _=>True) (dH ?_) fun _ _=>cQ trivial);cases ro<;>(dsimp only[Option.elim];infer_instance)
  |call a b c e=>exact h.head.elim
  |extern r xs=>
   obtain rfl : r = "runtime.print$piece" := h.head
   dsimp only;rw[DT];exact app _ (Ci _ _ _)
theorem Oq(Q:Quiet P)(m:Bool)(g:Wi)(w:V8)(h:Jc g):oO w (stepG P m g w):=by
 obtain⟨fr,cs,st,d,o⟩:=g;unfold stepG;dsimp only;split
 ·exact Qg Q _ _ _ h.1
 ·exact Pf Q _ _ _ _ _ h.1 h.2
 ·exact Ge Q _ _ _ _ _ h.1 h.2
end
end Nm
end Go.Proofs.YtpcnpkhgjanamaaGreatDoor
