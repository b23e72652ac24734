import Derived.Test.YtgacaecjinlhiaaGreatDoorLnB
namespace Go.Proofs.YtgacaecjinlhiaaGreatDoor
namespace Nm
open Go Go.Conc
def okN:Next→Prop
 | .value _ | .skip | .enter _ _ | .round _ _ _ _ _ | .defer _ | .recover | .spawn _ | .comm _ _ _ | .coroswitch _ _=>True
 | .row r _ => r = "runtime.print$piece"
 | _=>False
section
variable {P:Program}
theorem cL {α:Type} {s:Sem α} (h:NM P s):Gr P s fun _=>True:=nY _ h.nm
theorem Jk {s:Sem Value} (h:NM P s):Gr P (do pure (.value (←s))) okN:=bQ (cL h) fun _ _=>nY (.pure _) trivial
theorem Lp {s:Sem Unit} (h:NM P s):Gr P (do s;pure .skip) okN:=bQ (cL h) fun _ _=>nY (.pure _) trivial
theorem fP {α:Type} {Q:α→Prop} {c:Prop} [Decidable c] {s t:Sem α} (h:Gr P s Q) (k:Gr P t Q):Gr P (if c then s else t) Q:=by split <;> assumption
theorem b6 {α:Type} {Q:α→Prop} {a:α} (h:Q a):Gr P (pure a) Q:=nY (.pure a) h
theorem cD {α:Type} {Q:α→Prop} (h:Halt):Gr P (.halt h:Sem α) Q:=nY (.halt h) trivial
def L1 (es0 es:Array Event) (w w':World):Prop:=w.heap.size≤w'.heap.size∧(∀x ∈ es,x ∈ es0∨tM w'.heap.size x)∧∀d,deafBehind d es=deafBehind d es0+1
def Gd {α:Type} (P:Program) (s:Sem α) (Q:α→Prop):Prop:=∀w es0 w1 es1,L1 es0 es1 w w1→match s.runT P w1 es1 with
 | (.ok a w',es)=>Q a∧Lst es0 es w w'
 | (.halt h w',es)=>w.heap.size≤w'.heap.size∧(pH h=true→Lst es0 es w w')
def Gs {α:Type} (P:Program) (s:Sem α):Prop:=Gr P s (fun _=>True)∧∀w es0 h w' es,s.runT P w es0=(.halt h w',es)→pH h=false
theorem y4 {α:Type} {s:Sem α} {Q:α→Prop} (h:Gd P s Q):Gr P (do mark .disable;s) Q:=fun w es0=>h w es0 w (es0.push ⟨.mark .disable,false,true⟩) ⟨Nat.le_refl _,fun x hx=>by
 rcases Array.mem_push.1 hx with hx | rfl
 ·exact .inl hx
 ·exact .inr ⟨.inr (.inl rfl),rfl⟩,fun d=>by rw[deaf_push];rfl⟩
theorem wU {α:Type} {s:Sem α} {Q:α→Prop} (h:Gr P s Q):Gd P (do mark .enable;s) Q:=fun w es0 w1 es1 l=>cS (es1:=es1.push ⟨.mark .enable,false,true⟩) (w1:=w1) ⟨l.1,fun x hx=>by
 rcases Array.mem_push.1 hx with hx | rfl
 ·exact l.2.1 x hx
 ·exact .inr ⟨.inr (.inr rfl),rfl⟩,fun d=>by rw[deaf_push,l.2.2];rfl⟩ (h w1 (es1.push ⟨.mark .enable,false,true⟩))
theorem tT {α:Type} {Q:α→Prop} {c:Prop} [Decidable c] {s t:Sem α} (h:Gd P s Q) (k:Gd P t Q):Gd P (if c then s else t) Q:=by split <;> assumption
theorem zL {α β:Type} {Q:β→Prop} {h:Halt} {f:α→Sem β} (hh:pH h=false):Gd P ((.halt h:Sem α) >>= f) Q:=fun w es0 w1 es1 l=>⟨l.1,fun e=>by rw[hh] at e;cases e⟩
theorem gh {α β:Type} {s:Sem α} {f:α→Sem β} {Q:β→Prop} (h:Gs P s) (k:∀a,Gd P (f a) Q):Gd P (s >>= f) Q:=fun w es0 w1 es1 l=>by
 have e:(s >>= f).runT P w1 es1=_:=Sem.runT_bind' P s f w1 es1
 rw[e]
 have h1:=h.1 w1 es1
 have h2:=h.2 w1 es1
 revert h1 h2
 cases s.runT P w1 es1 with
 | mk r es=>cases r with
  | ok a w'=>exact fun h1 _=>k a w es0 w' es ⟨Nat.le_trans l.1 h1.2.1,fun x hx=>(h1.2.2.1 x hx).elim (fun hx=>(l.2.1 x hx).elim .inl fun hx=>.inr (hx.up h1.2.1)) .inr,fun d=>by rw[h1.2.2.2,l.2.2]⟩
  | halt x w'=>exact fun h1 h2=>⟨Nat.le_trans l.1 h1.1,fun e=>by rw[h2 x w' es rfl] at e;cases e⟩
theorem oP:Gs P program:=⟨cL inferInstance,fun w es0 h w' es e=>by cases e⟩
theorem tY {w:World} {a:Addr} {b:Bool} {h:Halt} (e:w.farLoad P a b=.error h):pH h=false:=by
 unfold World.farLoad at e
 split at e
 ·split at e <;> cases e
  rfl
 ·cases e
  unfold World.noCell
  split <;> rfl
theorem qU {w:World} {a:Addr} {v:Value} {b:Bool} {h:Halt} (e:w.farStore P a v b=.error h):pH h=false:=by
 unfold World.farStore at e
 split at e
 ·split at e <;> cases e
  rfl
 ·cases e
  unfold World.noCell
  split <;> rfl
theorem FN (a:Addr) (m:Mode):Gs P (load a m):=⟨cL inferInstance,fun w es0 h w' es e=>by
 unfold load Sem.runT at e
 split at e
 ·cases e
 ·split at e
  ·cases e
  ·next hf =>
   cases e
   exact tY hf⟩
theorem pL (a:Addr) (b:Bool) (m:Mode):Gs P (store a (.bool b) m):=⟨cL inferInstance,fun w es0 h w' es e=>by
 unfold store Sem.runT at e
 split at e
 ·split at e
  ·cases e
   rfl
  ·cases e
 ·split at e
  ·cases e
  ·next hf =>
   cases e
   exact qU hf⟩
theorem Aa {α β:Type} {s:Sem α} {f:α→Sem β} (h:Gs P s) (k:∀a,Gs P (f a)):Gs P (s >>= f):=⟨bQ h.1 fun a _=>(k a).1,fun w es0 x w' es e=>by
 have e1:(s >>= f).runT P w es0=_:=Sem.runT_bind' P s f w es0
 rw[e1] at e
 have h2:=h.2 w es0
 revert e h2
 cases s.runT P w es0 with
 | mk r es2=>cases r with
  | ok a w2=>exact fun e _=>(k a).2 w2 es2 x w' es e
  | halt y w2=>exact fun e h2=>by cases e;exact h2 _ _ _ rfl⟩
theorem zo:Gs P Extern.PrintPieces.held:=Aa oP fun p=>Aa (FN _ _) fun v=>by
 split
 ·exact ⟨b6 trivial,fun w es0 h w' es e=>by cases e⟩
 ·exact ⟨cD _,fun w es0 h w' es e=>by cases e;rfl⟩
theorem wv (a b:Array TypeId) (args:Array Value):Gr P (Extern.PrintPieces.piece a b args) okN:=by
 unfold Extern.PrintPieces.piece
 split
 ·split
  ·next first _ _ p _ =>
   have tail:Gr P (do
     writeFd 2 p
     if (!(args.size == 2)) = true then pure (Next.row "runtime.print$piece" (#[Value.bool false] ++ args.extract 2)) else
      if (!first)=true then do
       mark Mark.disable
       let q ←program
       store (printLock q) (Value.bool false) Mode.atomic
       let _ ←mark Mark.enable
       pure (Next.value (Value.tuple #[]))
      else pure (Next.value (Value.tuple #[]))) okN :=
    bQ (cL inferInstance) fun _ _=>fP (b6 rfl) (fP (y4 (gh oP fun _=>gh (pL _ _ _) fun _=>wU (b6 trivial))) (b6 trivial))
   dsimp only
   refine fP (cD _) (fP (y4 (gh zo fun h=>tT (zL rfl) (tT (gh oP fun _=>gh (pL _ _ _) fun _=>wU tail) (wU tail)))) tail)
  ·exact cD _
 ·exact cD _
theorem EB (ln:Bool) (cs:Array Bool) (ts:Array TypeId) (xs:Array Value):Gr P (Builtin.printMarked ln cs ts xs) okN:=by
 unfold Builtin.printMarked
 exact bQ (cL inferInstance) fun _ _=>fP (b6 trivial) (wv _ _ _)
theorem yS (b:Builtin) (ts:Array TypeId) (t:TypeId) (cs:Array Bool) (xs:Array Value):Gr P (builtin b ts t cs xs) okN:=by
 unfold builtin
 cases b <;> first
  | exact Jk inferInstance
  | exact EB _ _ _ _
  | exact b6 trivial
  | exact cD _
  | exact bQ (cL inferInstance) fun _ _=>b6 trivial
theorem EE (l:Nat) (xs:Array Value):Gr P (Instr.yield l xs) okN:=by
 unfold Instr.yield
 exact bQ (cL inferInstance) fun _ _=>fP (cD _) (b6 trivial)
theorem sI {α:Type} {Q:α→Prop}:Gr P (runtimePanic .nilDeref:Sem α) Q:=nY _ (show NMp P (runtimePanic .nilDeref:Sem α) Q from trivial)
structure Quiet (P:Program):Prop where
 ng : ∀ (f : FuncId) (fn : Func), P.funcs[f]? = some fn → (fn.name == "runtime.NumGoroutine") = false
 nx:∀(f:FuncId) (fn:Func),P.funcs[f]? = some fn→fn.body.isNone=true→Extern.findNext fn=none
 ex:∀(f:FuncId) (fn:Func) e,P.funcs[f]? = some fn→fn.body.isNone=true→Extern.find fn=some e→∀xs,NM P (e xs)
theorem ju (Q:Quiet P) (f:FuncId) (xs:Array Value):Gr P (callFunc f xs) okN:=by
 unfold callFunc
 refine bQ (Q:=fun p=>p=P) (nY (.program .pure) rfl) fun p hp=>?_
 subst hp
 cases hf:p.funcs[f]? with
 | none=>exact cD _
 | some fn =>
  dsimp only
  rw[if_neg (by rw[Q.ng f fn hf];simp)]
  by_cases hb:fn.body.isNone=true
  ·rw[if_pos hb,Q.nx f fn hf hb]
   refine bQ (Q:=fun _=>True) (nY (.mark _ (.pure ())) ⟨.inr ⟨f,rfl⟩,trivial⟩) fun _ _=>?_
   cases he:Extern.find fn with
   | some e=>exact Jk (Q.ex f fn e hf hb he xs)
   | none=>exact fP (b6 trivial) (cD _)
  ·rw[if_neg hb]
   exact b6 trivial
theorem jZ (Q:Quiet P) (v:Value) (s:String) (xs:Array Value):Gr P (callMethod v s xs) okN:=by
 unfold callMethod
 split
 ·exact bQ (cL inferInstance) fun _ _=>bQ (cL inferInstance) fun _ _=>ju Q _ _
 ·exact sI
 ·exact cD _
theorem jJ (Q:Quiet P) (t:Target) (xs:Array Value):Gr P (invoke t xs) okN:=by
 unfold invoke
 cases t with
 | nil=>exact sI
 | builtin b ts t cs=>exact yS _ _ _ _ _
 | fn f c =>
  cases f with
  | func f=>exact ju Q _ _
  | method n =>
   dsimp only
   split
   ·exact jZ Q _ _ _
   ·exact cD _
  | methodOf t n =>
   dsimp only
   split
   ·exact bQ (cL inferInstance) fun _ _=>jZ Q _ _ _
   ·exact cD _
  | via t p f b =>
   dsimp only
   split
   ·exact bQ (cL inferInstance) fun _ _=>ju Q _ _
   ·exact cD _
  | yield l=>exact EE _ _
 | collected r=>exact cD _
 | coroexit c=>exact b6 trivial
theorem Fv (Q:Quiet P) (r:Operand→Value) (o:Oper):Gr P (execOp r o) okN:=by
 obtain ⟨dst,op,type,pos,after,guard⟩:=o
 unfold execOp
 cases op <;> dsimp only <;> first
  | exact b6 trivial
  | exact Jk inferInstance
  | exact Lp inferInstance
  | exact bQ (cL inferInstance) fun _ _=>b6 trivial
  | exact bQ (cL inferInstance) fun _ _=>jJ Q _ _
  | skip
 case nilCheck =>
  split
  ·exact sI
  ·exact sI
  ·exact sI
  ·split
   ·exact sI
   ·exact bQ (cL inferInstance) fun _ _=>bQ (cL inferInstance) fun _ _=>fP (cD _) (b6 trivial)
   ·exact b6 trivial
  ·exact b6 trivial
 case recv =>
  refine bQ (cL inferInstance) fun _ _=>?_
  split
  ·exact bQ (cL inferInstance) fun _ _=>b6 trivial
  ·exact cD _
end
end Nm
namespace Nm
open Go Go.Conc
def Ev (w:World) (es:Array Event):Prop:=(∀e ∈ es,tM w.heap.size e)∧∀d,deafBehind d es=d
theorem Ev.nil (w:World):Ev w #[]:=⟨fun e he=>by simp at he,fun _=>rfl⟩
theorem Ev.of {es:Array Event} {w w':World} (h:Lst #[] es w w'):Ev w' es:=⟨fun e he=>(h.2.1 e he).elim (fun he=>by simp at he) id,fun d=>(h.2.2 d).trans rfl⟩
theorem Ev.up {es:Array Event} {w w':World} (h:Ev w es) (hs:w.heap.size≤w'.heap.size):Ev w' es:=⟨fun e he=>(h.1 e he).up hs,h.2⟩
theorem Ev.app {es es':Array Event} {w:World} (h:Ev w es) (k:Ev w es'):Ev w (es++es'):=⟨fun e he=>(Array.mem_append.1 he).elim (h.1 e) (k.1 e),fun d=>by rw[wH,h.2,k.2]⟩
theorem su (quiet:FuncId→Bool):∀(l:List Event) (q:Bool) (kept:Array Event) (d:Nat),(∀e ∈ l,∀m,e.loc=.mark m→e.sync=true)→deafBehind d (l.foldl (seenStep quiet) (q,kept)).2=deafBehind (deafBehind d kept) l.toArray
 | [],q,kept,d,_=>rfl
 | e :: l,q,kept,d,h=>by
  have hc:deafBehind (deafBehind d kept) (e :: l).toArray=deafBehind (deafBehind (deafBehind d kept) #[e]) l.toArray:=by
   unfold deafBehind
   simp
  rw[hc,List.foldl_cons]
  have ht:∀e ∈ l,∀m,e.loc=.mark m→e.sync=true:=fun e he=>h e (by simp[he])
  have key:∃q' kept',seenStep quiet (q,kept) e=(q',kept')∧deafBehind d kept'=deafBehind (deafBehind d kept) #[e]:=by
   have plain:(∀c,deafBehind c #[e]=c)→∀b:Bool,deafBehind d (if b=true then kept else kept.push e)=deafBehind (deafBehind d kept) #[e]:=fun hp b=>by
    cases b with
    | true=>exact (hp _).symm
    | false=>exact deaf_push _ _ _
   have hs:=h e (by simp)
   obtain ⟨lc,x,y⟩:=e
   cases lc with
   | mark m =>
    obtain rfl:y=true:=hs m rfl
    cases m with
    | extern f=>exact ⟨quiet f,kept,rfl,rfl⟩
    | _=>exact ⟨q,_,rfl,by rw[Bool.not_true,Bool.and_false];exact deaf_push _ _ _⟩
   | _=>exact ⟨q,_,rfl,plain (fun _=>rfl) _⟩
  obtain ⟨q',kept',e1,e2⟩:=key
  rw[e1,su quiet l _ _ d ht,e2]
theorem Ev.seen {P:Program} {fn:FuncId} {es:Array Event} {w:World} (h:Ev w es):Ev w (seen P fn es):=⟨fun e he=>h.1 e (mem_seen he),fun d=>by
 rw[seen_def,su _ _ _ _ _ fun e he m hm=>?_]
 ·exact h.2 d
 ·have:=h.1 e (Array.mem_toList_iff.1 he)
  unfold tM at this
  rw[hm] at this
  exact this.2⟩
def xP:Item→Prop
 | .call _ _ _ _=>False
 | .extern r _ => r = "runtime.print$piece"
 | _=>True
def okT (l:List Item):Prop:=∀x ∈ l,xP x
def okC (l:List Frame):Prop:=∀f ∈ l,okT f.todo
def okG (g:Goroutine):Prop:=okT g.frame.todo∧okC g.callers
theorem okT.cons {x:Item} {l:List Item} (h:xP x) (k:okT l):okT (x :: l):=fun y hy=>by
 rcases List.mem_cons.1 hy with rfl | hy
 ·exact h
 ·exact k y hy
theorem okT.tail {x:Item} {l:List Item} (h:okT (x :: l)):okT l:=fun y hy=>h y (List.mem_cons_of_mem _ hy)
theorem okT.head {x:Item} {l:List Item} (h:okT (x :: l)):xP x:=h x (by simp)
theorem okT.nil:okT []:=fun x hx=>by simp at hx
theorem okC.cons {f:Frame} {l:List Frame} (h:okT f.todo) (k:okC l):okC (f :: l):=fun y hy=>by
 rcases List.mem_cons.1 hy with rfl | hy
 ·exact h
 ·exact k y hy
theorem okC.tail {f:Frame} {l:List Frame} (h:okC (f :: l)):okC l:=fun y hy=>h y (List.mem_cons_of_mem _ hy)
theorem okC.head {f:Frame} {l:List Frame} (h:okC (f :: l)):okT f.todo:=h f (by simp)
theorem okC.nil:okC []:=fun x hx=>by simp at hx
theorem cU {fr:Frame} (h:okT fr.todo) (v:Value):okT (fr.finish v).todo:=by
 unfold Frame.finish
 split
 ·next e =>
  rw[e] at h
  exact .cons trivial h.tail
 ·next e =>
  rw[e] at h
  exact .cons trivial h.tail
 ·next e =>
  rw[e] at h
  exact h.tail
 ·next e =>
  rw[e] at h
  exact h.head.elim
 ·next e =>
  rw[e] at h
  exact h.tail
 ·exact h
theorem fI {fr:Frame} (h:okT fr.todo) (l:List PanicEntry):okT (fr.raise l).todo:=by
 unfold Frame.raise
 split <;> exact h
theorem gY (P:Program) (f:FuncId) (xs:Array Value) (k:CallKind):okT (Frame.enter P f xs k).todo:=.cons trivial .nil
theorem fS:∀{cs:List Frame} {fr:Frame} {v:Value} {cs':List Frame},tryRecover fr cs=some (v,cs')→okC cs→okC cs'
 | [],fr,v,cs',h,k=>by
  unfold tryRecover at h
  split at h
  ·cases ‹_=_ :: _›
  ·cases ‹_=_ :: _›
  ·cases h
 | c :: cs,fr,v,cs',h,k=>by
  unfold tryRecover at h
  split at h
  ·next e =>
   cases e
   split at h
   ·cases h
    exact .cons k.head k.tail
   ·cases h
  ·next e =>
   cases e
   cases hr:tryRecover c cs with
   | none=>rw[hr] at h;cases h
   | some p =>
    rw[hr] at h
    cases h
    exact .cons k.head (fS hr k.tail)
  ·cases h
theorem gb:∀{cs:List Frame} {l:Nat} {v:Value} {cs':List Frame},tryRecoverLoop l cs=some (v,cs')→okC cs→okC cs'
 | [],l,v,cs',h,k=>by
  unfold tryRecoverLoop at h
  cases h
 | c :: cs,l,v,cs',h,k=>by
  have key:∀o:Option (Value × List Frame),(∀p,o=some p→okC p.2)→o.map (fun (v,rest)=>(v,c :: rest))=some (v,cs')→okC cs':=fun o ho e=>by
   cases o with
   | none=>cases e
   | some p =>
    cases e
    exact .cons k.head (ho _ rfl)
  unfold tryRecoverLoop at h
  refine key _ (fun p hp=>?_) h
  split at hp
  ·exact gb hp k.tail
  ·split at hp
   ·exact fS hp k.tail
   ·exact gb hp k.tail
  ·exact gb hp k.tail
theorem uo:∀{l:List Item} {id:Nat} {l':List Item},exitTo id l=some l'→okT l→okT l'
 | [],id,l',h,k=>by
  unfold exitTo at h
  cases h
 | x :: l,id,l',h,k=>by
  unfold exitTo at h
  split at h
  ·next e =>
   cases e
   split at h
   ·cases h
    exact k.tail
   ·exact uo h k.tail
  ·next e =>
   cases e
   exact uo h k.tail
  ·cases h
theorem tP:∀{l:List Item} {id:Nat} {l':List Item},gotoIn id l=some l'→okT l→okT l'
 | [],id,l',h,k=>by
  unfold gotoIn at h
  cases h
 | x :: l,id,l',h,k=>by
  unfold gotoIn at h
  split at h
  ·next e =>
   cases e
   split at h
   ·cases h
    exact .cons trivial (.cons trivial k.tail)
   ·exact tP h k.tail
  ·next e =>
   cases e
   exact tP h k.tail
  ·cases h
def okS (w:World):GStep→Prop
 | .go g w' es | .comm g _ _ _ w' es | .spawn g _ w' es | .coroswitch g _ _ w' es=>okG g∧w.heap.size≤w'.heap.size∧Ev w' es
 | .ended _ _ _=>True
 | _=>False
theorem aZ {w w1:World} {es:Array Event} {s:GStep} (he:Ev w1 es) (hs:w.heap.size≤w1.heap.size) (h:okS w1 s):okS w (s.after es):=by
 cases s with
 | go g w' es'=>exact ⟨h.1,Nat.le_trans hs h.2.1,(he.up h.2.1).app h.2.2⟩
 | comm g a b c w' es'=>exact ⟨h.1,Nat.le_trans hs h.2.1,(he.up h.2.1).app h.2.2⟩
 | spawn g c w' es'=>exact ⟨h.1,Nat.le_trans hs h.2.1,(he.up h.2.1).app h.2.2⟩
 | coroswitch g a b w' es'=>exact ⟨h.1,Nat.le_trans hs h.2.1,(he.up h.2.1).app h.2.2⟩
 | ended o w' es'=>trivial
 | _=>exact h.elim
theorem aP {w w':World} {g:Goroutine} (h:okG g) (hs:w.heap.size≤w'.heap.size):okS w (.go g w'):=⟨h,hs,Ev.nil _⟩
theorem ve (fr:Frame) (l:List ByteArray) (m:String) (b:Bool) (w:World) (h:okT fr.todo):okS w (dieOf fr l m b w):=aP ⟨h,.nil⟩ (Nat.le_refl _)
theorem lA (fr:Frame) (m:String) (w:World) (h:okT fr.todo):okS w (endThrow fr m w):=ve _ _ _ _ _ h
theorem JD {w w1:World} (h:w.heap.size≤w1.heap.size) {s:GStep} (k:okS w1 s):okS w s:=by
 cases s with
 | go g w' es'=>exact ⟨k.1,Nat.le_trans h k.2.1,k.2.2⟩
 | comm g a b c w' es'=>exact ⟨k.1,Nat.le_trans h k.2.1,k.2.2⟩
 | spawn g c w' es'=>exact ⟨k.1,Nat.le_trans h k.2.1,k.2.2⟩
 | coroswitch g a b w' es'=>exact ⟨k.1,Nat.le_trans h k.2.1,k.2.2⟩
 | ended o w' es'=>trivial
 | _=>exact k.elim
end Nm
namespace Nm
open Go Go.Conc
section
variable {P:Program}
theorem Cw {α:Type} (s:Sem α):∀w,match s.run P w with
  | .ok _ w'=>w.heap.size≤w'.heap.size
  | .halt _ w'=>w.heap.size≤w'.heap.size:=by
 have up:∀{r:Result α} {w w1:World},w.heap.size≤w1.heap.size→(match r with
  | .ok _ w'=>w1.heap.size≤w'.heap.size
  | .halt _ w'=>w1.heap.size≤w'.heap.size)→match r with
  | .ok _ w'=>w.heap.size≤w'.heap.size
  | .halt _ w'=>w.heap.size≤w'.heap.size:=fun {r w w1} h k=>by
  cases r with
  | ok a w'=>exact Nat.le_trans h k
  | halt x w'=>exact Nat.le_trans h k
 induction s with
 | pure a=>exact fun w=>Nat.le_refl _
 | load m a k ih =>
  intro w
  unfold Sem.run
  cases w.cell? a with
  | some v=>exact ih v w
  | none =>
   cases w.farLoad P a (m==Mode.atomic) with
   | ok r=>exact ih r.1 w
   | error x=>exact Nat.le_refl _
 | store m a v k ih =>
  intro w
  have key:match (match w.cell? a with
   | some _ => if w.frozen? a then Result.halt (.unsupported (.unsafePointer "a write to bytes that a string shares")) w else k.run P (w.setCell a v)
   | none=>match w.farStore P a v (m==Mode.atomic) with
    | .ok (w,_)=>k.run P w
    | .error h=>.halt h w) with
   | .ok _ w'=>w.heap.size≤w'.heap.size
   | .halt _ w'=>w.heap.size≤w'.heap.size:=by
   cases w.cell? a with
   | some v0 =>
    dsimp only
    by_cases hz:w.frozen? a=true
    ·rw[if_pos hz]
     exact Nat.le_refl _
    ·rw[if_neg hz]
     exact up (by rw[size_set];exact Nat.le_refl _) (ih (w.setCell a v))
   | none =>
    dsimp only
    cases hf:w.farStore P a v (m==Mode.atomic) with
    | ok r =>
     obtain ⟨w1,l⟩:=r
     exact up (by rw[(l6 hf).1];exact Nat.le_refl _) (ih w1)
    | error x=>exact Nat.le_refl _
  cases v <;> first
   | exact key
   | exact Nat.le_refl _
 | new o k ih=>exact fun w=>up (by simp) (ih _ { w with heap:=w.heap.push o })
 | shape r k ih=>exact fun w=>ih _ w
 | freeze a n k ih=>exact fun w=>up (by rw[og];exact Nat.le_refl _) (ih (w.freeze a n))
 | frozen a k ih=>exact fun w=>ih _ w
 | getObj r k ih =>
  intro w
  unfold Sem.run
  cases w.heap[r]? with
  | none=>exact Nat.le_refl _
  | some o=>cases o <;> first
   | exact Nat.le_refl _
   | exact ih _ w
 | setObj r o k ih =>
  intro w
  unfold Sem.run
  cases w.heap[r]? with
  | none=>exact Nat.le_refl _
  | some o2=>cases o2 <;> first
   | exact Nat.le_refl _
   | exact up (by simp) (ih { w with heap:=w.heap.setIfInBounds r o })
 | choose q k ih =>
  intro w
  unfold Sem.run
  by_cases hz:q.forced=true
  ·rw[if_pos hz]
   exact ih _ w
  ·rw[if_neg hz]
   exact ih _ { w with drawn:=w.drawn+1 }
 | sys c k ih=>exact fun w=>up (by rw[vF];exact Nat.le_refl _) (ih _ (w.sys c).2)
 | program k ih=>exact fun w=>ih P w
 | mark m k ih=>exact fun w=>ih w
 | halt x=>exact fun w=>Nat.le_refl _
theorem ie {α:Type} {s:Sem α} {w w':World} {a:α} (h:s.run P w=.ok a w'):w.heap.size≤w'.heap.size:=by
 have:=Cw (P:=P) s w
 rw[h] at this
 exact this
theorem we (fr:Frame) (cs:List Frame) (d:Option Dying) (m:String) (w:World) (h:okT fr.todo):okS w (endFatal P fr cs d m w):=by
 unfold endFatal
 dsimp only
 split
 ·next e=>exact JD (ie e) (ve _ _ _ _ _ h)
 ·trivial
 ·trivial
theorem nL (fr:Frame) (v:Value) (w:World) (h:okT fr.todo):okS w (endPrinting P fr v w):=by
 unfold endPrinting
 dsimp only
 split
 ·exact lA _ _ _ h
 ·trivial
theorem mF (m:Bool) (fr:Frame) (cs:List Frame) (d:Option Dying) (v:Value) (w:World) (h:okT fr.todo) (k:okC cs):okS w (doReturn P m fr cs d v w):=by
 unfold doReturn
 split
 ·next c rest =>
  split
  ·exact aP ⟨cU k.head v,k.tail⟩ (Nat.le_refl _)
  ·exact aP ⟨cU k.head v,k.tail⟩ (Nat.le_refl _)
  ·exact aP ⟨k.head,k.tail⟩ (Nat.le_refl _)
  ·dsimp only
   refine aP ⟨?_,k.tail⟩ (Nat.le_refl _)
   dsimp only
   split
   ·split <;> exact k.head
   ·exact k.head
 ·split
  ·exact aP ⟨h,.nil⟩ (Nat.le_refl _)
  ·trivial
  ·split
   ·exact aP ⟨h,.nil⟩ (Nat.le_refl _)
   ·split
    ·exact aP ⟨gY _ _ _ _,.nil⟩ (Nat.le_refl _)
    ·trivial
theorem Dq (fr:Frame) (cs:List Frame) (d:Option Dying) (g:Nat) (w:World) (h:okT fr.todo) (k:okC cs):okS w (early P fr cs d g w):=by
 have ny:∀w1:World,w.heap.size≤w1.heap.size→okS w (match w1.heap[g]? with
   | some (.pending c elem)=>.go { frame:=fr,callers:=cs,status:=.running,dying:=d } { w1 with heap:=w1.heap.setIfInBounds g (.cells c elem) }
   | _ => .ended (.stuck "early: the variable does not wait" (fr.pos P)) w1) := fun w1 hs => by
  split
  ·exact aP ⟨h,k⟩ (by simpa using hs)
  ·trivial
 have en:∀(l:List FuncId) (cs:List Frame),okC cs→okC (l.map (Frame.enter P · #[] .early)++cs):=fun l cs hc=>by
  induction l with
  | nil=>exact hc
  | cons a l ih=>exact .cons (gY _ _ _ _) ih
 have th:∀(f:FuncId) (l:List FuncId) (w1:World),w.heap.size≤w1.heap.size→okS w (.go { frame:=Frame.enter P f #[] .early,callers:=l.map (Frame.enter P · #[] .early)++fr :: cs,status:=.running,dying:=d } w1):=fun f l w1 hs=>aP ⟨gY _ _ _ _,en _ _ (.cons h k)⟩ hs
 unfold early
 dsimp only
 repeat' first
  | exact ny _ (Nat.le_refl _)
  | exact th _ _ _ (Nat.le_refl _)
  | trivial
  | (rename_i e;exact ny _ (ie e))
  | (rename_i e;exact th _ _ _ (ie e))
  | (rename_i e _;exact th _ _ _ (ie e))
  | split
theorem iK {α:Type} {s:Sem α} {Q:α→Prop} (h:Gr P s Q) {w w':World} {a:α} {es:Array Event} (e:s.runT P w #[]=(.ok a w',es)):Q a∧w.heap.size≤w'.heap.size∧Ev w' es:=by
 have:=h w #[]
 rw[e] at this
 exact ⟨this.1,this.2.1,.of this.2⟩
theorem jc {α:Type} {s:Sem α} {Q:α→Prop} (h:Gr P s Q) {w w':World} {x:Halt} {es:Array Event} (e:s.runT P w #[]=(.halt x w',es)):w.heap.size≤w'.heap.size∧(pH x=true→Ev w' es):=by
 have:=h w #[]
 rw[e] at this
 exact ⟨this.1,fun hl=>.of (this.2 hl)⟩
theorem iM {c:Prop} [Decidable c] {w:World} {a b:GStep} (h:okS w a) (k:okS w b):okS w (if c then a else b):=by split <;> assumption
theorem Ev.ite {c:Prop} [Decidable c] {w:World} {a b:Array Event} (h:Ev w a) (k:Ev w b):Ev w (if c then a else b):=by split <;> assumption
theorem wm (Q:Quiet P) (fr:Frame) (cs:List Frame) (d:Option Dying) (x:Deferred) (w:World) (h:okT fr.todo) (k:okC cs):okS w (callDeferred P fr cs d x w):=by
 unfold callDeferred
 refine iM trivial ?_
 ·have hg:=jJ Q x.target x.args
  cases hr:(invoke x.target x.args).runT P w #[] with
  | mk r es =>
   cases r with
   | ok n w1 =>
    obtain ⟨hn,hs,he⟩:=iK hg hr
    dsimp only
    refine aZ he.seen hs ?_
    have stay:okS w1 (.go { frame:=fr,callers:=cs,status:=.running,dying:=d } w1):=aP ⟨h,k⟩ (Nat.le_refl _)
    cases n with
    | enter f xs=>exact aP ⟨gY _ _ _ _,.cons h k⟩ (Nat.le_refl _)
    | round l f ts a b=>exact aP ⟨.cons trivial (.cons trivial (.cons trivial .nil)),.cons h k⟩ (Nat.le_refl _)
    | row r xs=>exact aP ⟨.cons hn .nil,.cons h k⟩ (Nat.le_refl _)
    | recover =>
     dsimp only
     split
     ·next e=>exact aP ⟨h,fS e k⟩ (Nat.le_refl _)
     ·exact stay
    | coroswitch c b =>
     cases b with
     | true=>exact ⟨⟨h,k⟩,Nat.le_refl _,Ev.nil _⟩
     | false=>trivial
    | value v=>exact stay
    | skip=>exact stay
    | defer y=>exact stay
    | spawn y=>exact stay
    | comm a b c=>exact stay
    | _=>exact hn.elim
   | halt y w1 =>
    obtain ⟨hs,he⟩:=jc hg hr
    dsimp only
    cases y with
    | panic v=>exact aZ (he rfl).seen hs (aP ⟨fI h _,k⟩ (Nat.le_refl _))
    | fatal m=>exact aZ (he rfl).seen hs (we _ _ _ _ _ h)
    | throw m=>exact aZ (he rfl).seen hs (lA _ _ _ h)
    | goexit=>exact aZ (he rfl).seen hs (aP ⟨fI h _,k⟩ (Nat.le_refl _))
    | blocked=>exact aZ (Ev.nil w1).seen hs (aP ⟨h,k⟩ (Nat.le_refl _))
    | waiting=>exact aZ (Ev.nil w1).seen hs (aP ⟨h,k⟩ (Nat.le_refl _))
    | _=>trivial
theorem lX (fr:Frame) (cs:List Frame) (d:Option Dying) (s:Sem Next) (w:World) (hg:Gr P s okN) (h:okT fr.todo) (k:okC cs):okS w (stepG.apply P true fr cs d s w):=by
 unfold stepG.apply
 dsimp only
 rw[if_pos rfl]
 generalize (match fr.todo with
  | .call _ true _ _ :: _=>CallKind.wrapped
  | _=>CallKind.normal)=kd
 cases hr:s.runT P w #[] with
 | mk r es =>
  cases r with
  | ok n w1 =>
   obtain ⟨hn,hs,he⟩:=iK hg hr
   dsimp only
   refine aZ (Ev.ite (Ev.nil _) he).seen hs ?_
   cases n with
   | value v=>exact aP ⟨cU h v,k⟩ (Nat.le_refl _)
   | skip=>exact aP ⟨cU h _,k⟩ (Nat.le_refl _)
   | enter f xs=>exact aP ⟨gY _ _ _ _,.cons h k⟩ (Nat.le_refl _)
   | round l f ts a b=>exact aP ⟨.cons trivial (.cons trivial (.cons trivial .nil)),.cons h k⟩ (Nat.le_refl _)
   | row r xs =>
    dsimp only
    split
    ·next e =>
     rw[e] at h
     exact aP ⟨.cons hn h.tail,k⟩ (Nat.le_refl _)
    ·exact aP ⟨.cons hn .nil,.cons h k⟩ (Nat.le_refl _)
   | defer y=>exact aP ⟨cU (fr:={ fr with defers:=y :: fr.defers }) h _,k⟩ (Nat.le_refl _)
   | recover =>
    have key:∀o:Option (Value × List Frame),(∀p,o=some p→okC p.2)→okS w1 (match o with
     | some (v,callers)=>.go { frame:=fr.finish v,callers,status:=.running,dying:=d } w1
     | none=>.go { frame:=fr.finish .nilIface,callers:=cs,status:=.running,dying:=d } w1):=fun o ho=>by
     cases o with
     | some p=>exact aP ⟨cU h _,ho p rfl⟩ (Nat.le_refl _)
     | none=>exact aP ⟨cU h _,k⟩ (Nat.le_refl _)
    refine key _ fun p hp=>?_
    split at hp
    ·split at hp
     ·exact fS hp k
     ·exact gb hp k
    ·exact fS hp k
   | spawn y=>exact iM (lA _ _ _ h) ⟨⟨cU h _,k⟩,Nat.le_refl _,Ev.nil _⟩
   | comm a b c=>exact ⟨⟨h,k⟩,Nat.le_refl _,Ev.nil _⟩
   | coroswitch c b=>exact ⟨⟨h,k⟩,Nat.le_refl _,Ev.nil _⟩
   | _=>exact hn.elim
  | halt y w1 =>
   obtain ⟨hs,he⟩:=jc hg hr
   cases y with
   | panic v=>exact aZ (Ev.ite (Ev.nil _) (he rfl)).seen hs (aP ⟨fI h _,k⟩ (Nat.le_refl _))
   | fatal m=>exact aZ (Ev.ite (Ev.nil _) (he rfl)).seen hs (we _ _ _ _ _ h)
   | throw m=>exact aZ (Ev.ite (Ev.nil _) (he rfl)).seen hs (lA _ _ _ h)
   | goexit=>exact aZ (Ev.ite (Ev.nil _) (he rfl)).seen hs (aP ⟨fI h _,k⟩ (Nat.le_refl _))
   | blocked=>exact aZ (Ev.ite (Ev.nil w1) (Ev.nil w1)).seen hs (aP ⟨h,k⟩ (Nat.le_refl _))
   | waiting=>exact aZ (Ev.ite (Ev.nil w1) (Ev.nil w1)).seen hs (aP ⟨h,k⟩ (Nat.le_refl _))
   | unsupported u =>
    cases u with
    | initOrder g=>exact aZ (Ev.ite (Ev.nil w1) (Ev.nil w1)).seen hs (Dq _ _ _ _ _ h k)
    | _=>trivial
   | _=>trivial
theorem Fw (Q:Quiet P) (fr:Frame) (cs:List Frame) (d:Option Dying) (w:World) (h:okT fr.todo) (k:okC cs):okS w (stepG.oper P true fr cs d w):=by
 unfold stepG.oper
 split
 ·trivial
 ·split
  ·exact lX _ _ _ _ _ (bQ (cL inferInstance) fun _ _=>bQ (cL inferInstance) fun _ _=>b6 trivial) h k
  ·exact lX _ _ _ _ _ (Fv Q _ _) h k
theorem Dz (piece : ByteArray) (a b : Bool) : Gr P (do
      if !(a && b) then
        mark .disable
        if ← Extern.PrintPieces.held then .halt .blocked
        if a then store (printLock (← program)) (.bool true) .atomic
        mark .enable
      if piece.size > 65536 then unsupported (.noEntry "a report of more than 65536 bytes")
      match ← sys (.write 2 piece) with
      | .int n => if n != piece.size then unsupported (.noEntry "a report that its descriptor cannot take whole")
      | .err _ => pure ()
      | _ => unsupported (.noEntry "a report that its descriptor cannot take whole") : Sem Unit) fun _ => True := by
  have tail : Gr P (do
      if piece.size > 65536 then unsupported (.noEntry "a report of more than 65536 bytes")
      match ← sys (.write 2 piece) with
      | .int n => if n != piece.size then unsupported (.noEntry "a report that its descriptor cannot take whole")
      | .err _ => pure ()
      | _ => unsupported (.noEntry "a report that its descriptor cannot take whole") : Sem Unit) fun _ => True := by
    refine fP (cD _) (bQ (cL inferInstance) fun _ _ => ?_)
    split
    · exact fP (cD _) (b6 trivial)
    · exact b6 trivial
    · exact cD _
  exact fP (y4 (gh zo fun h => tT (zL rfl) (tT (gh oP fun _ => gh (pL _ _ _) fun _ => wU tail) (wU tail)))) tail
theorem EL (fr:Frame) (d:Dying) (f:Fatal) (w:World) (h:okT fr.todo):okS w (writeOn P fr d f w):=by
 unfold writeOn
 dsimp only
 split
 ·trivial
 ·next piece rest _ =>
  have hg:=Dz (P:=P) piece f.whole f.begun
  split
  ·next hr =>
   obtain ⟨_,hs,he⟩:=iK hg hr
   exact ⟨⟨h,.nil⟩,hs,he⟩
  ·next hr =>
   obtain ⟨hs,_⟩:=jc hg hr
   exact aP ⟨h,.nil⟩ hs
  ·trivial
  ·trivial
theorem JH (Q:Quiet P) (fr:Frame) (d:Dying) (w:World) (h:okT fr.todo):okS w (die P fr d w):=by
 unfold die
 split
 ·exact EL _ _ _ _ h
 ·split
  ·split
   ·exact aP ⟨h,.nil⟩ (Nat.le_refl _)
   ·unfold endWith
    dsimp only
    split
    ·split <;> trivial
    ·trivial
    ·trivial
  ·dsimp only
   split
   ·exact aP ⟨h,.nil⟩ (Nat.le_refl _)
   ·split
    ·next e=>exact aP ⟨h,.nil⟩ (ie e)
    ·trivial
   ·next t recv name _ =>
    have hg:=jJ Q (.fn (.method name) #[]) #[.iface t recv]
    cases hr:(invoke (.fn (.method name) #[]) #[.iface t recv]).runT P w #[] with
    | mk r es =>
     cases r with
     | ok n w1 =>
      obtain ⟨hn,hs,he⟩:=iK hg hr
      dsimp only
      refine aZ he.seen hs ?_
      split
      ·next e =>
       cases e
       exact aP ⟨gY _ _ _ _,.nil⟩ (Nat.le_refl _)
      ·next e =>
       cases e
       exact aP ⟨h,.nil⟩ (Nat.le_refl _)
      ·trivial
      ·next e=>cases e
      ·trivial
     | halt y w1 =>
      obtain ⟨hs,he⟩:=jc hg hr
      dsimp only
      cases y with
      | panic v=>exact aZ (he rfl).seen hs (nL _ _ _ h)
      | unsupported u=>trivial
      | _=>trivial
   ·trivial
theorem GG {α β:Type} {f:α→Sem β} (h:∀a,NM P (f a)) (l:Array α):NM P (l.mapM f):=by
 rw[Array.mapM_eq_mapM_toList]
 exact bE (oV h _) fun _=>⟨trivial⟩
theorem AT (Q:Quiet P) (m:Bool) (fr:Frame) (cs:List Frame) (d:Option Dying) (w:World) (h:okT fr.todo) (k:okC cs):okS w (unwind P m fr cs d w):=by
 unfold unwind
 split
 ·next block _ _ _ =>
  have hg:Gr P (Instr.takeDeferred block) fun _=>True:=cL inferInstance
  cases hr:(Instr.takeDeferred block).runT P w #[] with
  | mk r es =>
   cases r with
   | ok n w1 =>
    obtain ⟨_,hs,he⟩:=iK hg hr
    exact aZ he.seen hs (aP ⟨h,k⟩ (Nat.le_refl _))
   | halt y w1=>trivial
 ·exact wm Q _ _ _ _ _ h k
 ·split
  ·trivial
  ·next chain _ =>
   refine iM trivial ?_
   split
   ·exact aP ⟨fI k.head _,k.tail⟩ (Nat.le_refl _)
   ·split
    ·refine iM (aP ⟨h,.nil⟩ (Nat.le_refl _)) ?_
     split
     ·next e=>exact aP ⟨h,.nil⟩ (ie e)
     ·trivial
     ·trivial
    ·split
     ·exact nL _ _ _ h
     ·trivial
  ·split
   ·exact mF _ _ _ _ _ _ h k
   ·next fn _ =>
    have hg:Gr P (results fn fr.tmps) fun _=>True:=cL (by
     unfold results
     refine bE (GG (fun x=>?_) _) fun _=>inferInstance
     split
     ·infer_instance
     ·infer_instance)
    cases hr:(results fn fr.tmps).runT P w #[] with
    | mk r es =>
     cases r with
     | ok n w1 =>
      obtain ⟨_,hs,he⟩:=iK hg hr
      exact aZ he.seen hs (mF _ _ _ _ _ _ h k)
     | halt y w1=>cases y <;> trivial
theorem xx : Extern.next "runtime.print$piece" = some (Extern.PrintPieces.piece #[] #[]) := by kernel_rfl
theorem GU (Q:Quiet P) (m:Bool) (fr:Frame) (cs:List Frame) (d:Option Dying) (w:World) (h:okT fr.todo) (k:okC cs):okS w (stepG.exec P m true fr cs d w):=by
 have leave:∀(fr:Frame) (jump:Option Code),okT fr.todo→okS w (match fr.roundOf with
   | none => if jump matches none | some .ret then .go { frame := { fr with mode := .returning }, callers := cs, status := .running, dying := d } w else .ended (.stuck "exit, goto: no such block or label" (fr.pos P)) w
   | some l=>match (Instr.endRound l jump).runT P w #[] with
    | (r,es)=>GStep.after (seen P fr.fn es) (match r with
     | .ok v w=>doReturn P m fr cs d v w
     | .halt _ w => .ended (.stuck "range over a function: no such loop" (fr.pos P)) w)) := fun fr jump h => by
  split
  ·exact iM (aP ⟨h,k⟩ (Nat.le_refl _)) trivial
  ·next l _ =>
   have hg:Gr P (Instr.endRound l jump) fun _=>True:=cL inferInstance
   cases hr:(Instr.endRound l jump).runT P w #[] with
   | mk r es =>
    cases r with
    | ok n w1 =>
     obtain ⟨_,hs,he⟩:=iK hg hr
     exact aZ he.seen hs (mF _ _ _ _ _ _ h k)
    | halt y w1=>trivial
 have go:∀(fr:Frame),okT fr.todo→okS w (.go { frame:=fr,callers:=cs,status:=.running,dying:=d } w):=fun fr hl=>aP ⟨hl,k⟩ (Nat.le_refl _)
 have elim:∀(fr:Frame) (o:Option (List Item)) (a:GStep),okS w a→(∀l,o=some l→okT l)→okS w (o.elim a fun l=>.go { frame:={ fr with todo:=l },callers:=cs,status:=.running,dying:=d } w):=fun fr o a ha ho=>by
  cases o with
  | none=>exact ha
  | some l=>exact aP ⟨ho l rfl,k⟩ (Nat.le_refl _)
 have oper:=Fw Q fr cs d w h k
 have app:=fun (s:Sem Next) (hg:Gr P s okN)=>lX fr cs d s w hg h k
 obtain ⟨fn,ts,todo,ds,mode,kind,ro⟩:=fr
 unfold stepG.exec
 dsimp only at h ⊢
 cases todo with
 | nil=>exact leave ⟨fn,ts,[],ds,mode,kind,ro⟩ none h
 | cons x l =>
  have hl:=h.tail
  cases x with
  | code c =>
   cases c with
   | ret=>exact leave ⟨fn,ts,.code .ret :: l,ds,mode,kind,ro⟩ (some .ret) h
   | skip=>exact go _ hl
   | label _=>exact go _ hl
   | seq a b=>exact go _ (.cons trivial (.cons trivial hl))
   | cond c a b =>
    dsimp only
    split
    ·exact go _ (.cons trivial hl)
    ·trivial
   | block id b=>exact go _ (.cons trivial (.cons trivial hl))
   | loop b=>exact go _ (.cons trivial (.cons trivial hl))
   | scope b=>exact go _ (.cons trivial (.cons trivial hl))
   | exit id=>exact elim ⟨fn,ts,.code (.exit id) :: l,ds,mode,kind,ro⟩ _ _ (leave ⟨fn,ts,.code (.exit id) :: l,ds,mode,kind,ro⟩ (some (.exit id)) h) fun l' e=>uo e hl
   | goto id=>exact elim ⟨fn,ts,.code (.goto id) :: l,ds,mode,kind,ro⟩ _ _ (leave ⟨fn,ts,.code (.goto id) :: l,ds,mode,kind,ro⟩ (some (.goto id)) h) fun l' e=>tP e hl
   | rangeFunc f params a b =>
    dsimp only
    have hg:Gr P (Instr.enterLoop fn ts params a b ro) fun _=>True:=cL inferInstance
    cases hr:(Instr.enterLoop fn ts params a b ro).runT P w #[] with
    | mk r es =>
     cases r with
     | ok n w1 =>
      obtain ⟨_,hs,he⟩:=iK hg hr
      exact aZ he.seen hs (lX _ _ _ _ _ (bQ (cL inferInstance) fun _ _=>jJ Q _ _) (.cons trivial hl) k)
     | halt y w1=>trivial
   | refuse y=>trivial
   | region id ops draw =>
    dsimp only
    refine iM (go _ (.cons trivial hl)) ?_
    split
    ·next e=>exact aP ⟨.cons trivial hl,k⟩ (ie e)
    ·trivial
  | inBlock id=>exact go _ hl
  | inScope b=>exact go _ hl
  | inLoop b=>exact go _ (.cons trivial (.cons trivial hl))
  | inRegion ops t =>
   cases t with
   | nil=>exact go _ hl
   | cons i r=>exact iM oper (aP ⟨cU h _,k⟩ (Nat.le_refl _))
  | inRangeFunc n=>trivial
  | endRangeFunc n =>
   dsimp only
   have hg:Gr P (Instr.endLoop n) fun _=>True:=cL inferInstance
   cases hr:(Instr.endLoop n).runT P w #[] with
   | mk r es =>
    cases r with
    | ok j w1 =>
     obtain ⟨_,hs,he⟩:=iK hg hr
     refine aZ he.seen hs (aP ⟨?_,k⟩ (Nat.le_refl _))
     cases j with
     | none=>exact hl
     | some c=>exact .cons trivial hl
    | halt y w1 =>
     obtain ⟨hs,he⟩:=jc hg hr
     cases y with
     | panic v=>exact aZ (he rfl).seen hs (aP ⟨fI (fr:=⟨fn,ts,.endRangeFunc n :: l,ds,mode,kind,ro⟩) h _,k⟩ (Nat.le_refl _))
     | _=>trivial
  | beginRound =>
   refine app _ (bQ (Q:=fun _=>True) (cL ?_) fun _ _=>b6 trivial)
   cases ro <;> (dsimp only[Option.elim];infer_instance)
  | call a b c e=>exact h.head.elim
  | extern r xs =>
   obtain rfl : r = "runtime.print$piece" := h.head
   dsimp only
   rw[xx]
   exact app _ (wv _ _ _)
theorem GZ (Q:Quiet P) (m:Bool) (g:Goroutine) (w:World) (h:okG g):okS w (stepG P m g w):=by
 obtain ⟨fr,cs,st,d,o⟩:=g
 unfold stepG
 dsimp only
 split
 ·exact JH Q _ _ _ h.1
 ·exact GU Q _ _ _ _ _ h.1 h.2
 ·exact AT Q _ _ _ _ _ h.1 h.2
end
end Nm
end Go.Proofs.YtgacaecjinlhiaaGreatDoor
