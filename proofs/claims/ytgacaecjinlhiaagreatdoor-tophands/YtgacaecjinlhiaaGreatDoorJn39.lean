import Derived.Test.YtgacaecjinlhiaaGreatDoorLnB
namespace Go.Proofs.YtgacaecjinlhiaaGreatDoor
namespace Nm
open Go Go.Conc
def okN:Next→Prop
 | .value _ | .skip | .enter _ _ | .round _ _ _ _ _ | .defer _ | .recover | .spawn _ | .comm _ _ _ | .coroswitch _ _=>True
 | .row r _ => r = "runtime.print$piece"
 | _=>False
section
variable {P:Program}
theorem cK {α:Type} {s:Sem α} (h:NM P s):Gr P s fun _=>True:=oh _ h.nm
theorem JI {s:Sem Value} (h:NM P s):Gr P (do pure (.value (←s))) okN:=bR (cK h) fun _ _=>oh (.pure _) trivial
theorem Lx {s:Sem Unit} (h:NM P s):Gr P (do s;pure .skip) okN:=bR (cK h) fun _ _=>oh (.pure _) trivial
theorem fJ {α:Type} {Q:α→Prop} {c:Prop} [Decidable c] {s t:Sem α} (h:Gr P s Q) (k:Gr P t Q):Gr P (if c then s else t) Q:=by split <;> assumption
theorem b5 {α:Type} {Q:α→Prop} {a:α} (h:Q a):Gr P (pure a) Q:=oh (.pure a) h
theorem cD {α:Type} {Q:α→Prop} (h:Halt):Gr P (.halt h:Sem α) Q:=oh (.halt h) trivial
def Ly (es0 es:Array Event) (w w':World):Prop:=w.heap.size≤w'.heap.size∧(∀x ∈ es,x ∈ es0∨ue w'.heap.size x)∧∀d,deafBehind d es=deafBehind d es0+1
def Gd {α:Type} (P:Program) (s:Sem α) (Q:α→Prop):Prop:=∀w es0 w1 es1,Ly es0 es1 w w1→match s.runT P w1 es1 with
 | (.ok a w',es)=>Q a∧Lst es0 es w w'
 | (.halt h w',es)=>w.heap.size≤w'.heap.size∧(pg h=true→Lst es0 es w w')
def Gs {α:Type} (P:Program) (s:Sem α):Prop:=Gr P s (fun _=>True)∧∀w es0 h w' es,s.runT P w es0=(.halt h w',es)→pg h=false
theorem xZ {α:Type} {s:Sem α} {Q:α→Prop} (h:Gd P s Q):Gr P (do mark .disable;s) Q:=fun w es0=>h w es0 w (es0.push ⟨.mark .disable,false,true⟩) ⟨Nat.le_refl _,fun x hx=>by
 rcases Array.mem_push.1 hx with hx | rfl
 ·exact .inl hx
 ·exact .inr ⟨.inr (.inl rfl),rfl⟩,fun d=>by rw[deaf_push];rfl⟩
theorem wR {α:Type} {s:Sem α} {Q:α→Prop} (h:Gr P s Q):Gd P (do mark .enable;s) Q:=fun w es0 w1 es1 l=>cT (es1:=es1.push ⟨.mark .enable,false,true⟩) (w1:=w1) ⟨l.1,fun x hx=>by
 rcases Array.mem_push.1 hx with hx | rfl
 ·exact l.2.1 x hx
 ·exact .inr ⟨.inr (.inr rfl),rfl⟩,fun d=>by rw[deaf_push,l.2.2];rfl⟩ (h w1 (es1.push ⟨.mark .enable,false,true⟩))
theorem tC {α:Type} {Q:α→Prop} {c:Prop} [Decidable c] {s t:Sem α} (h:Gd P s Q) (k:Gd P t Q):Gd P (if c then s else t) Q:=by split <;> assumption
theorem y9 {α β:Type} {Q:β→Prop} {h:Halt} {f:α→Sem β} (hh:pg h=false):Gd P ((.halt h:Sem α) >>= f) Q:=fun w es0 w1 es1 l=>⟨l.1,fun e=>by rw[hh] at e;cases e⟩
theorem gm {α β:Type} {s:Sem α} {f:α→Sem β} {Q:β→Prop} (h:Gs P s) (k:∀a,Gd P (f a) Q):Gd P (s >>= f) Q:=fun w es0 w1 es1 l=>by
 have e:(s >>= f).runT P w1 es1=_:=Sem.runT_bind' P s f w1 es1
 rw[e]
 have h1:=h.1 w1 es1
 have h2:=h.2 w1 es1
 revert h1 h2
 cases s.runT P w1 es1 with
 | mk r es=>cases r with
  | ok a w'=>exact fun h1 _=>k a w es0 w' es ⟨Nat.le_trans l.1 h1.2.1,fun x hx=>(h1.2.2.1 x hx).elim (fun hx=>(l.2.1 x hx).elim .inl fun hx=>.inr (hx.up h1.2.1)) .inr,fun d=>by rw[h1.2.2.2,l.2.2]⟩
  | halt x w'=>exact fun h1 h2=>⟨Nat.le_trans l.1 h1.1,fun e=>by rw[h2 x w' es rfl] at e;cases e⟩
theorem oL:Gs P program:=⟨cK inferInstance,fun w es0 h w' es e=>by cases e⟩
theorem tn {w:World} {a:Addr} {b:Bool} {h:Halt} (e:w.farLoad P a b=.error h):pg h=false:=by
 unfold World.farLoad at e
 split at e
 ·split at e <;> cases e
  rfl
 ·cases e
  unfold World.noCell
  split <;> rfl
theorem rm {w:World} {a:Addr} {v:Value} {b:Bool} {h:Halt} (e:w.farStore P a v b=.error h):pg h=false:=by
 unfold World.farStore at e
 split at e
 ·split at e <;> cases e
  rfl
 ·cases e
  unfold World.noCell
  split <;> rfl
theorem Hs (a:Addr) (m:Mode):Gs P (load a m):=⟨cK inferInstance,fun w es0 h w' es e=>by
 unfold load Sem.runT at e
 split at e
 ·cases e
 ·split at e
  ·cases e
  ·next hf =>
   cases e
   exact tn hf⟩
theorem qO (a:Addr) (b:Bool) (m:Mode):Gs P (store a (.bool b) m):=⟨cK inferInstance,fun w es0 h w' es e=>by
 unfold store Sem.runT at e
 split at e
 ·split at e
  ·cases e
   rfl
  ·cases e
 ·split at e
  ·cases e
  ·next hf =>
   cases e
   exact rm hf⟩
theorem zP {α β:Type} {s:Sem α} {f:α→Sem β} (h:Gs P s) (k:∀a,Gs P (f a)):Gs P (s >>= f):=⟨bR h.1 fun a _=>(k a).1,fun w es0 x w' es e=>by
 have e1:(s >>= f).runT P w es0=_:=Sem.runT_bind' P s f w es0
 rw[e1] at e
 have h2:=h.2 w es0
 revert e h2
 cases s.runT P w es0 with
 | mk r es2=>cases r with
  | ok a w2=>exact fun e _=>(k a).2 w2 es2 x w' es e
  | halt y w2=>exact fun e h2=>by cases e;exact h2 _ _ _ rfl⟩
theorem zW:Gs P Extern.PrintPieces.held:=zP oL fun p=>zP (Hs _ _) fun v=>by
 split
 ·exact ⟨b5 trivial,fun w es0 h w' es e=>by cases e⟩
 ·exact ⟨cD _,fun w es0 h w' es e=>by cases e;rfl⟩
theorem wT (a b:Array TypeId) (args:Array Value):Gr P (Extern.PrintPieces.piece a b args) okN:=by
 unfold Extern.PrintPieces.piece
 split
 ·split
  ·next first _ _ p _ =>
   have tail:Gr P (do
     writeFd 2 p
     if (!(args.size == 2)) = true then pure (Next.row "runtime.print$piece" (#[Value.bool false] ++ args.extract 2)) else
      if (!first)=true then do
       mark Mark.disable
       let q ←program
       store (printLock q) (Value.bool false) Mode.atomic
       let _ ←mark Mark.enable
       pure (Next.value (Value.tuple #[]))
      else pure (Next.value (Value.tuple #[]))) okN :=
    bR (cK inferInstance) fun _ _=>fJ (b5 rfl) (fJ (xZ (gm oL fun _=>gm (qO _ _ _) fun _=>wR (b5 trivial))) (b5 trivial))
   dsimp only
   refine fJ (cD _) (fJ (xZ (gm zW fun h=>tC (y9 rfl) (tC (gm oL fun _=>gm (qO _ _ _) fun _=>wR tail) (wR tail)))) tail)
  ·exact cD _
 ·exact cD _
theorem CY (ln:Bool) (cs:Array Bool) (ts:Array TypeId) (xs:Array Value):Gr P (Builtin.printMarked ln cs ts xs) okN:=by
 unfold Builtin.printMarked
 exact bR (cK inferInstance) fun _ _=>fJ (b5 trivial) (wT _ _ _)
theorem xO (b:Builtin) (ts:Array TypeId) (t:TypeId) (cs:Array Bool) (xs:Array Value):Gr P (builtin b ts t cs xs) okN:=by
 unfold builtin
 cases b <;> first
  | exact JI inferInstance
  | exact CY _ _ _ _
  | exact b5 trivial
  | exact cD _
  | exact bR (cK inferInstance) fun _ _=>b5 trivial
theorem DI (l:Nat) (xs:Array Value):Gr P (Instr.yield l xs) okN:=by
 unfold Instr.yield
 exact bR (cK inferInstance) fun _ _=>fJ (cD _) (b5 trivial)
theorem sj {α:Type} {Q:α→Prop}:Gr P (runtimePanic .nilDeref:Sem α) Q:=oh _ (show NMp P (runtimePanic .nilDeref:Sem α) Q from trivial)
structure Quiet (P:Program):Prop where
 ng : ∀ (f : FuncId) (fn : Func), P.funcs[f]? = some fn → (fn.name == "runtime.NumGoroutine") = false
 nx:∀(f:FuncId) (fn:Func),P.funcs[f]? = some fn→fn.body.isNone=true→Extern.findNext fn=none
 ex:∀(f:FuncId) (fn:Func) e,P.funcs[f]? = some fn→fn.body.isNone=true→Extern.find fn=some e→∀xs,NM P (e xs)
theorem iY (Q:Quiet P) (f:FuncId) (xs:Array Value):Gr P (callFunc f xs) okN:=by
 unfold callFunc
 refine bR (Q:=fun p=>p=P) (oh (.program .pure) rfl) fun p hp=>?_
 subst hp
 cases hf:p.funcs[f]? with
 | none=>exact cD _
 | some fn =>
  dsimp only
  rw[if_neg (by rw[Q.ng f fn hf];simp)]
  by_cases hb:fn.body.isNone=true
  ·rw[if_pos hb,Q.nx f fn hf hb]
   refine bR (Q:=fun _=>True) (oh (.mark _ (.pure ())) ⟨.inr ⟨f,rfl⟩,trivial⟩) fun _ _=>?_
   cases he:Extern.find fn with
   | some e=>exact JI (Q.ex f fn e hf hb he xs)
   | none=>exact fJ (b5 trivial) (cD _)
  ·rw[if_neg hb]
   exact b5 trivial
theorem j7 (Q:Quiet P) (v:Value) (s:String) (xs:Array Value):Gr P (callMethod v s xs) okN:=by
 unfold callMethod
 split
 ·exact bR (cK inferInstance) fun _ _=>bR (cK inferInstance) fun _ _=>iY Q _ _
 ·exact sj
 ·exact cD _
theorem jO (Q:Quiet P) (t:Target) (xs:Array Value):Gr P (invoke t xs) okN:=by
 unfold invoke
 cases t with
 | nil=>exact sj
 | builtin b ts t cs=>exact xO _ _ _ _ _
 | fn f c =>
  cases f with
  | func f=>exact iY Q _ _
  | method n =>
   dsimp only
   split
   ·exact j7 Q _ _ _
   ·exact cD _
  | methodOf t n =>
   dsimp only
   split
   ·exact bR (cK inferInstance) fun _ _=>j7 Q _ _ _
   ·exact cD _
  | via t p f b =>
   dsimp only
   split
   ·exact bR (cK inferInstance) fun _ _=>iY Q _ _
   ·exact cD _
  | yield l=>exact DI _ _
 | collected r=>exact cD _
 | coroexit c=>exact b5 trivial
theorem Gp (Q:Quiet P) (r:Operand→Value) (o:Oper):Gr P (execOp r o) okN:=by
 obtain ⟨dst,op,type,pos,after,guard⟩:=o
 unfold execOp
 cases op <;> dsimp only <;> first
  | exact b5 trivial
  | exact JI inferInstance
  | exact Lx inferInstance
  | exact bR (cK inferInstance) fun _ _=>b5 trivial
  | exact bR (cK inferInstance) fun _ _=>jO Q _ _
  | skip
 case nilCheck =>
  split
  ·exact sj
  ·exact sj
  ·exact sj
  ·split
   ·exact sj
   ·exact bR (cK inferInstance) fun _ _=>bR (cK inferInstance) fun _ _=>fJ (cD _) (b5 trivial)
   ·exact b5 trivial
  ·exact b5 trivial
 case recv =>
  refine bR (cK inferInstance) fun _ _=>?_
  split
  ·exact bR (cK inferInstance) fun _ _=>b5 trivial
  ·exact cD _
end
end Nm
namespace Nm
open Go Go.Conc
def Ev (w:World) (es:Array Event):Prop:=(∀e ∈ es,ue w.heap.size e)∧∀d,deafBehind d es=d
theorem Ev.nil (w:World):Ev w #[]:=⟨fun e he=>by simp at he,fun _=>rfl⟩
theorem Ev.of {es:Array Event} {w w':World} (h:Lst #[] es w w'):Ev w' es:=⟨fun e he=>(h.2.1 e he).elim (fun he=>by simp at he) id,fun d=>(h.2.2 d).trans rfl⟩
theorem Ev.up {es:Array Event} {w w':World} (h:Ev w es) (hs:w.heap.size≤w'.heap.size):Ev w' es:=⟨fun e he=>(h.1 e he).up hs,h.2⟩
theorem Ev.app {es es':Array Event} {w:World} (h:Ev w es) (k:Ev w es'):Ev w (es++es'):=⟨fun e he=>(Array.mem_append.1 he).elim (h.1 e) (k.1 e),fun d=>by rw[wL,h.2,k.2]⟩
theorem rO (quiet:FuncId→Bool):∀(l:List Event) (q:Bool) (kept:Array Event) (d:Nat),(∀e ∈ l,∀m,e.loc=.mark m→e.sync=true)→deafBehind d (l.foldl (seenStep quiet) (q,kept)).2=deafBehind (deafBehind d kept) l.toArray
 | [],q,kept,d,_=>rfl
 | e :: l,q,kept,d,h=>by
  have hc:deafBehind (deafBehind d kept) (e :: l).toArray=deafBehind (deafBehind (deafBehind d kept) #[e]) l.toArray:=by
   unfold deafBehind
   simp
  rw[hc,List.foldl_cons]
  have ht:∀e ∈ l,∀m,e.loc=.mark m→e.sync=true:=fun e he=>h e (by simp[he])
  have key:∃q' kept',seenStep quiet (q,kept) e=(q',kept')∧deafBehind d kept'=deafBehind (deafBehind d kept) #[e]:=by
   have plain:(∀c,deafBehind c #[e]=c)→∀b:Bool,deafBehind d (if b=true then kept else kept.push e)=deafBehind (deafBehind d kept) #[e]:=fun hp b=>by
    cases b with
    | true=>exact (hp _).symm
    | false=>exact deaf_push _ _ _
   have hs:=h e (by simp)
   obtain ⟨lc,x,y⟩:=e
   cases lc with
   | mark m =>
    obtain rfl:y=true:=hs m rfl
    cases m with
    | extern f=>exact ⟨quiet f,kept,rfl,rfl⟩
    | _=>exact ⟨q,_,rfl,by rw[Bool.not_true,Bool.and_false];exact deaf_push _ _ _⟩
   | _=>exact ⟨q,_,rfl,plain (fun _=>rfl) _⟩
  obtain ⟨q',kept',e1,e2⟩:=key
  rw[e1,rO quiet l _ _ d ht,e2]
theorem Ev.seen {P:Program} {fn:FuncId} {es:Array Event} {w:World} (h:Ev w es):Ev w (seen P fn es):=⟨fun e he=>h.1 e (mem_seen he),fun d=>by
 rw[seen_def,rO _ _ _ _ _ fun e he m hm=>?_]
 ·exact h.2 d
 ·have:=h.1 e (Array.mem_toList_iff.1 he)
  unfold ue at this
  rw[hm] at this
  exact this.2⟩
def yl:Item→Prop
 | .call _ _ _ _=>False
 | .extern r _ => r = "runtime.print$piece"
 | _=>True
def okT (l:List Item):Prop:=∀x ∈ l,yl x
def okC (l:List Frame):Prop:=∀f ∈ l,okT f.todo
def okG (g:Goroutine):Prop:=okT g.frame.todo∧okC g.callers
theorem okT.cons {x:Item} {l:List Item} (h:yl x) (k:okT l):okT (x :: l):=fun y hy=>by
 rcases List.mem_cons.1 hy with rfl | hy
 ·exact h
 ·exact k y hy
theorem okT.tail {x:Item} {l:List Item} (h:okT (x :: l)):okT l:=fun y hy=>h y (List.mem_cons_of_mem _ hy)
theorem okT.head {x:Item} {l:List Item} (h:okT (x :: l)):yl x:=h x (by simp)
theorem okT.nil:okT []:=fun x hx=>by simp at hx
theorem okC.cons {f:Frame} {l:List Frame} (h:okT f.todo) (k:okC l):okC (f :: l):=fun y hy=>by
 rcases List.mem_cons.1 hy with rfl | hy
 ·exact h
 ·exact k y hy
theorem okC.tail {f:Frame} {l:List Frame} (h:okC (f :: l)):okC l:=fun y hy=>h y (List.mem_cons_of_mem _ hy)
theorem okC.head {f:Frame} {l:List Frame} (h:okC (f :: l)):okT f.todo:=h f (by simp)
theorem okC.nil:okC []:=fun x hx=>by simp at hx
theorem cS {fr:Frame} (h:okT fr.todo) (v:Value):okT (fr.finish v).todo:=by
 unfold Frame.finish
 split
 ·next e =>
  rw[e] at h
  exact .cons trivial h.tail
 ·next e =>
  rw[e] at h
  exact .cons trivial h.tail
 ·next e =>
  rw[e] at h
  exact h.tail
 ·next e =>
  rw[e] at h
  exact h.head.elim
 ·next e =>
  rw[e] at h
  exact h.tail
 ·exact h
theorem fQ {fr:Frame} (h:okT fr.todo) (l:List PanicEntry):okT (fr.raise l).todo:=by
 unfold Frame.raise
 split <;> exact h
theorem gF (P:Program) (f:FuncId) (xs:Array Value) (k:CallKind):okT (Frame.enter P f xs k).todo:=.cons trivial .nil
theorem fI:∀{cs:List Frame} {fr:Frame} {v:Value} {cs':List Frame},tryRecover fr cs=some (v,cs')→okC cs→okC cs'
 | [],fr,v,cs',h,k=>by
  unfold tryRecover at h
  split at h
  ·cases ‹_=_ :: _›
  ·cases ‹_=_ :: _›
  ·cases h
 | c :: cs,fr,v,cs',h,k=>by
  unfold tryRecover at h
  split at h
  ·next e =>
   cases e
   split at h
   ·cases h
    exact .cons k.head k.tail
   ·cases h
  ·next e =>
   cases e
   cases hr:tryRecover c cs with
   | none=>rw[hr] at h;cases h
   | some p =>
    rw[hr] at h
    cases h
    exact .cons k.head (fI hr k.tail)
  ·cases h
theorem fW:∀{cs:List Frame} {l:Nat} {v:Value} {cs':List Frame},tryRecoverLoop l cs=some (v,cs')→okC cs→okC cs'
 | [],l,v,cs',h,k=>by
  unfold tryRecoverLoop at h
  cases h
 | c :: cs,l,v,cs',h,k=>by
  have key:∀o:Option (Value × List Frame),(∀p,o=some p→okC p.2)→o.map (fun (v,rest)=>(v,c :: rest))=some (v,cs')→okC cs':=fun o ho e=>by
   cases o with
   | none=>cases e
   | some p =>
    cases e
    exact .cons k.head (ho _ rfl)
  unfold tryRecoverLoop at h
  refine key _ (fun p hp=>?_) h
  split at hp
  ·exact fW hp k.tail
  ·split at hp
   ·exact fI hp k.tail
   ·exact fW hp k.tail
  ·exact fW hp k.tail
theorem ud:∀{l:List Item} {id:Nat} {l':List Item},exitTo id l=some l'→okT l→okT l'
 | [],id,l',h,k=>by
  unfold exitTo at h
  cases h
 | x :: l,id,l',h,k=>by
  unfold exitTo at h
  split at h
  ·next e =>
   cases e
   split at h
   ·cases h
    exact k.tail
   ·exact ud h k.tail
  ·next e =>
   cases e
   exact ud h k.tail
  ·cases h
theorem sY:∀{l:List Item} {id:Nat} {l':List Item},gotoIn id l=some l'→okT l→okT l'
 | [],id,l',h,k=>by
  unfold gotoIn at h
  cases h
 | x :: l,id,l',h,k=>by
  unfold gotoIn at h
  split at h
  ·next e =>
   cases e
   split at h
   ·cases h
    exact .cons trivial (.cons trivial k.tail)
   ·exact sY h k.tail
  ·next e =>
   cases e
   exact sY h k.tail
  ·cases h
def okS (w:World):GStep→Prop
 | .go g w' es | .comm g _ _ _ w' es | .spawn g _ w' es | .coroswitch g _ _ w' es=>okG g∧w.heap.size≤w'.heap.size∧Ev w' es
 | .ended _ _ _=>True
 | _=>False
theorem aZ {w w1:World} {es:Array Event} {s:GStep} (he:Ev w1 es) (hs:w.heap.size≤w1.heap.size) (h:okS w1 s):okS w (s.after es):=by
 cases s with
 | go g w' es'=>exact ⟨h.1,Nat.le_trans hs h.2.1,(he.up h.2.1).app h.2.2⟩
 | comm g a b c w' es'=>exact ⟨h.1,Nat.le_trans hs h.2.1,(he.up h.2.1).app h.2.2⟩
 | spawn g c w' es'=>exact ⟨h.1,Nat.le_trans hs h.2.1,(he.up h.2.1).app h.2.2⟩
 | coroswitch g a b w' es'=>exact ⟨h.1,Nat.le_trans hs h.2.1,(he.up h.2.1).app h.2.2⟩
 | ended o w' es'=>trivial
 | _=>exact h.elim
theorem aO {w w':World} {g:Goroutine} (h:okG g) (hs:w.heap.size≤w'.heap.size):okS w (.go g w'):=⟨h,hs,Ev.nil _⟩
theorem vq (fr:Frame) (l:List ByteArray) (m:String) (b:Bool) (w:World) (h:okT fr.todo):okS w (dieOf fr l m b w):=aO ⟨h,.nil⟩ (Nat.le_refl _)
theorem kS (fr:Frame) (m:String) (w:World) (h:okT fr.todo):okS w (endThrow fr m w):=vq _ _ _ _ _ h
theorem JP {w w1:World} (h:w.heap.size≤w1.heap.size) {s:GStep} (k:okS w1 s):okS w s:=by
 cases s with
 | go g w' es'=>exact ⟨k.1,Nat.le_trans h k.2.1,k.2.2⟩
 | comm g a b c w' es'=>exact ⟨k.1,Nat.le_trans h k.2.1,k.2.2⟩
 | spawn g c w' es'=>exact ⟨k.1,Nat.le_trans h k.2.1,k.2.2⟩
 | coroswitch g a b w' es'=>exact ⟨k.1,Nat.le_trans h k.2.1,k.2.2⟩
 | ended o w' es'=>trivial
 | _=>exact k.elim
end Nm
namespace Nm
open Go Go.Conc
section
variable {P:Program}
theorem Ct {α:Type} (s:Sem α):∀w,match s.run P w with
  | .ok _ w'=>w.heap.size≤w'.heap.size
  | .halt _ w'=>w.heap.size≤w'.heap.size:=by
 have up:∀{r:Result α} {w w1:World},w.heap.size≤w1.heap.size→(match r with
  | .ok _ w'=>w1.heap.size≤w'.heap.size
  | .halt _ w'=>w1.heap.size≤w'.heap.size)→match r with
  | .ok _ w'=>w.heap.size≤w'.heap.size
  | .halt _ w'=>w.heap.size≤w'.heap.size:=fun {r w w1} h k=>by
  cases r with
  | ok a w'=>exact Nat.le_trans h k
  | halt x w'=>exact Nat.le_trans h k
 induction s with
 | pure a=>exact fun w=>Nat.le_refl _
 | load m a k ih =>
  intro w
  unfold Sem.run
  cases w.cell? a with
  | some v=>exact ih v w
  | none =>
   cases w.farLoad P a (m==Mode.atomic) with
   | ok r=>exact ih r.1 w
   | error x=>exact Nat.le_refl _
 | store m a v k ih =>
  intro w
  have key:match (match w.cell? a with
   | some _ => if w.frozen? a then Result.halt (.unsupported (.unsafePointer "a write to bytes that a string shares")) w else k.run P (w.setCell a v)
   | none=>match w.farStore P a v (m==Mode.atomic) with
    | .ok (w,_)=>k.run P w
    | .error h=>.halt h w) with
   | .ok _ w'=>w.heap.size≤w'.heap.size
   | .halt _ w'=>w.heap.size≤w'.heap.size:=by
   cases w.cell? a with
   | some v0 =>
    dsimp only
    by_cases hz:w.frozen? a=true
    ·rw[if_pos hz]
     exact Nat.le_refl _
    ·rw[if_neg hz]
     exact up (by rw[size_set];exact Nat.le_refl _) (ih (w.setCell a v))
   | none =>
    dsimp only
    cases hf:w.farStore P a v (m==Mode.atomic) with
    | ok r =>
     obtain ⟨w1,l⟩:=r
     exact up (by rw[(lK hf).1];exact Nat.le_refl _) (ih w1)
    | error x=>exact Nat.le_refl _
  cases v <;> first
   | exact key
   | exact Nat.le_refl _
 | new o k ih=>exact fun w=>up (by simp) (ih _ { w with heap:=w.heap.push o })
 | shape r k ih=>exact fun w=>ih _ w
 | freeze a n k ih=>exact fun w=>up (by rw[nT];exact Nat.le_refl _) (ih (w.freeze a n))
 | frozen a k ih=>exact fun w=>ih _ w
 | getObj r k ih =>
  intro w
  unfold Sem.run
  cases w.heap[r]? with
  | none=>exact Nat.le_refl _
  | some o=>cases o <;> first
   | exact Nat.le_refl _
   | exact ih _ w
 | setObj r o k ih =>
  intro w
  unfold Sem.run
  cases w.heap[r]? with
  | none=>exact Nat.le_refl _
  | some o2=>cases o2 <;> first
   | exact Nat.le_refl _
   | exact up (by simp) (ih { w with heap:=w.heap.setIfInBounds r o })
 | choose q k ih =>
  intro w
  unfold Sem.run
  by_cases hz:q.forced=true
  ·rw[if_pos hz]
   exact ih _ w
  ·rw[if_neg hz]
   exact ih _ { w with drawn:=w.drawn+1 }
 | sys c k ih=>exact fun w=>up (by rw[uX];exact Nat.le_refl _) (ih _ (w.sys c).2)
 | program k ih=>exact fun w=>ih P w
 | mark m k ih=>exact fun w=>ih w
 | halt x=>exact fun w=>Nat.le_refl _
theorem iw {α:Type} {s:Sem α} {w w':World} {a:α} (h:s.run P w=.ok a w'):w.heap.size≤w'.heap.size:=by
 have:=Ct (P:=P) s w
 rw[h] at this
 exact this
theorem uG (fr:Frame) (cs:List Frame) (d:Option Dying) (m:String) (w:World) (h:okT fr.todo):okS w (endFatal P fr cs d m w):=by
 unfold endFatal
 dsimp only
 split
 ·next e=>exact JP (iw e) (vq _ _ _ _ _ h)
 ·trivial
 ·trivial
theorem nQ (fr:Frame) (v:Value) (w:World) (h:okT fr.todo):okS w (endPrinting P fr v w):=by
 unfold endPrinting
 dsimp only
 split
 ·exact kS _ _ _ h
 ·trivial
theorem mH (m:Bool) (fr:Frame) (cs:List Frame) (d:Option Dying) (v:Value) (w:World) (h:okT fr.todo) (k:okC cs):okS w (doReturn P m fr cs d v w):=by
 unfold doReturn
 split
 ·next c rest =>
  split
  ·exact aO ⟨cS k.head v,k.tail⟩ (Nat.le_refl _)
  ·exact aO ⟨cS k.head v,k.tail⟩ (Nat.le_refl _)
  ·exact aO ⟨k.head,k.tail⟩ (Nat.le_refl _)
  ·dsimp only
   refine aO ⟨?_,k.tail⟩ (Nat.le_refl _)
   dsimp only
   split
   ·split <;> exact k.head
   ·exact k.head
 ·split
  ·exact aO ⟨h,.nil⟩ (Nat.le_refl _)
  ·trivial
  ·split
   ·exact aO ⟨h,.nil⟩ (Nat.le_refl _)
   ·split
    ·exact aO ⟨gF _ _ _ _,.nil⟩ (Nat.le_refl _)
    ·trivial
theorem Cv (fr:Frame) (cs:List Frame) (d:Option Dying) (g:Nat) (w:World) (h:okT fr.todo) (k:okC cs):okS w (early P fr cs d g w):=by
 have ny:∀w1:World,w.heap.size≤w1.heap.size→okS w (match w1.heap[g]? with
   | some (.pending c elem)=>.go { frame:=fr,callers:=cs,status:=.running,dying:=d } { w1 with heap:=w1.heap.setIfInBounds g (.cells c elem) }
   | _ => .ended (.stuck "early: the variable does not wait" (fr.pos P)) w1) := fun w1 hs => by
  split
  ·exact aO ⟨h,k⟩ (by simpa using hs)
  ·trivial
 have en:∀(l:List FuncId) (cs:List Frame),okC cs→okC (l.map (Frame.enter P · #[] .early)++cs):=fun l cs hc=>by
  induction l with
  | nil=>exact hc
  | cons a l ih=>exact .cons (gF _ _ _ _) ih
 have th:∀(f:FuncId) (l:List FuncId) (w1:World),w.heap.size≤w1.heap.size→okS w (.go { frame:=Frame.enter P f #[] .early,callers:=l.map (Frame.enter P · #[] .early)++fr :: cs,status:=.running,dying:=d } w1):=fun f l w1 hs=>aO ⟨gF _ _ _ _,en _ _ (.cons h k)⟩ hs
 unfold early
 dsimp only
 repeat' first
  | exact ny _ (Nat.le_refl _)
  | exact th _ _ _ (Nat.le_refl _)
  | trivial
  | (rename_i e;exact ny _ (iw e))
  | (rename_i e;exact th _ _ _ (iw e))
  | (rename_i e _;exact th _ _ _ (iw e))
  | split
theorem iL {α:Type} {s:Sem α} {Q:α→Prop} (h:Gr P s Q) {w w':World} {a:α} {es:Array Event} (e:s.runT P w #[]=(.ok a w',es)):Q a∧w.heap.size≤w'.heap.size∧Ev w' es:=by
 have:=h w #[]
 rw[e] at this
 exact ⟨this.1,this.2.1,.of this.2⟩
theorem ju {α:Type} {s:Sem α} {Q:α→Prop} (h:Gr P s Q) {w w':World} {x:Halt} {es:Array Event} (e:s.runT P w #[]=(.halt x w',es)):w.heap.size≤w'.heap.size∧(pg x=true→Ev w' es):=by
 have:=h w #[]
 rw[e] at this
 exact ⟨this.1,fun hl=>.of (this.2 hl)⟩
theorem hO {c:Prop} [Decidable c] {w:World} {a b:GStep} (h:okS w a) (k:okS w b):okS w (if c then a else b):=by split <;> assumption
theorem Ev.ite {c:Prop} [Decidable c] {w:World} {a b:Array Event} (h:Ev w a) (k:Ev w b):Ev w (if c then a else b):=by split <;> assumption
theorem wo (Q:Quiet P) (fr:Frame) (cs:List Frame) (d:Option Dying) (x:Deferred) (w:World) (h:okT fr.todo) (k:okC cs):okS w (callDeferred P fr cs d x w):=by
 unfold callDeferred
 refine hO trivial ?_
 ·have hg:=jO Q x.target x.args
  cases hr:(invoke x.target x.args).runT P w #[] with
  | mk r es =>
   cases r with
   | ok n w1 =>
    obtain ⟨hn,hs,he⟩:=iL hg hr
    dsimp only
    refine aZ he.seen hs ?_
    have stay:okS w1 (.go { frame:=fr,callers:=cs,status:=.running,dying:=d } w1):=aO ⟨h,k⟩ (Nat.le_refl _)
    cases n with
    | enter f xs=>exact aO ⟨gF _ _ _ _,.cons h k⟩ (Nat.le_refl _)
    | round l f ts a b=>exact aO ⟨.cons trivial (.cons trivial (.cons trivial .nil)),.cons h k⟩ (Nat.le_refl _)
    | row r xs=>exact aO ⟨.cons hn .nil,.cons h k⟩ (Nat.le_refl _)
    | recover =>
     dsimp only
     split
     ·next e=>exact aO ⟨h,fI e k⟩ (Nat.le_refl _)
     ·exact stay
    | coroswitch c b =>
     cases b with
     | true=>exact ⟨⟨h,k⟩,Nat.le_refl _,Ev.nil _⟩
     | false=>trivial
    | value v=>exact stay
    | skip=>exact stay
    | defer y=>exact stay
    | spawn y=>exact stay
    | comm a b c=>exact stay
    | _=>exact hn.elim
   | halt y w1 =>
    obtain ⟨hs,he⟩:=ju hg hr
    dsimp only
    cases y with
    | panic v=>exact aZ (he rfl).seen hs (aO ⟨fQ h _,k⟩ (Nat.le_refl _))
    | fatal m=>exact aZ (he rfl).seen hs (uG _ _ _ _ _ h)
    | throw m=>exact aZ (he rfl).seen hs (kS _ _ _ h)
    | goexit=>exact aZ (he rfl).seen hs (aO ⟨fQ h _,k⟩ (Nat.le_refl _))
    | blocked=>exact aZ (Ev.nil w1).seen hs (aO ⟨h,k⟩ (Nat.le_refl _))
    | waiting=>exact aZ (Ev.nil w1).seen hs (aO ⟨h,k⟩ (Nat.le_refl _))
    | _=>trivial
theorem lH (fr:Frame) (cs:List Frame) (d:Option Dying) (s:Sem Next) (w:World) (hg:Gr P s okN) (h:okT fr.todo) (k:okC cs):okS w (stepG.apply P true fr cs d s w):=by
 unfold stepG.apply
 dsimp only
 rw[if_pos rfl]
 generalize (match fr.todo with
  | .call _ true _ _ :: _=>CallKind.wrapped
  | _=>CallKind.normal)=kd
 cases hr:s.runT P w #[] with
 | mk r es =>
  cases r with
  | ok n w1 =>
   obtain ⟨hn,hs,he⟩:=iL hg hr
   dsimp only
   refine aZ (Ev.ite (Ev.nil _) he).seen hs ?_
   cases n with
   | value v=>exact aO ⟨cS h v,k⟩ (Nat.le_refl _)
   | skip=>exact aO ⟨cS h _,k⟩ (Nat.le_refl _)
   | enter f xs=>exact aO ⟨gF _ _ _ _,.cons h k⟩ (Nat.le_refl _)
   | round l f ts a b=>exact aO ⟨.cons trivial (.cons trivial (.cons trivial .nil)),.cons h k⟩ (Nat.le_refl _)
   | row r xs =>
    dsimp only
    split
    ·next e =>
     rw[e] at h
     exact aO ⟨.cons hn h.tail,k⟩ (Nat.le_refl _)
    ·exact aO ⟨.cons hn .nil,.cons h k⟩ (Nat.le_refl _)
   | defer y=>exact aO ⟨cS (fr:={ fr with defers:=y :: fr.defers }) h _,k⟩ (Nat.le_refl _)
   | recover =>
    have key:∀o:Option (Value × List Frame),(∀p,o=some p→okC p.2)→okS w1 (match o with
     | some (v,callers)=>.go { frame:=fr.finish v,callers,status:=.running,dying:=d } w1
     | none=>.go { frame:=fr.finish .nilIface,callers:=cs,status:=.running,dying:=d } w1):=fun o ho=>by
     cases o with
     | some p=>exact aO ⟨cS h _,ho p rfl⟩ (Nat.le_refl _)
     | none=>exact aO ⟨cS h _,k⟩ (Nat.le_refl _)
    refine key _ fun p hp=>?_
    split at hp
    ·split at hp
     ·exact fI hp k
     ·exact fW hp k
    ·exact fI hp k
   | spawn y=>exact hO (kS _ _ _ h) ⟨⟨cS h _,k⟩,Nat.le_refl _,Ev.nil _⟩
   | comm a b c=>exact ⟨⟨h,k⟩,Nat.le_refl _,Ev.nil _⟩
   | coroswitch c b=>exact ⟨⟨h,k⟩,Nat.le_refl _,Ev.nil _⟩
   | _=>exact hn.elim
  | halt y w1 =>
   obtain ⟨hs,he⟩:=ju hg hr
   cases y with
   | panic v=>exact aZ (Ev.ite (Ev.nil _) (he rfl)).seen hs (aO ⟨fQ h _,k⟩ (Nat.le_refl _))
   | fatal m=>exact aZ (Ev.ite (Ev.nil _) (he rfl)).seen hs (uG _ _ _ _ _ h)
   | throw m=>exact aZ (Ev.ite (Ev.nil _) (he rfl)).seen hs (kS _ _ _ h)
   | goexit=>exact aZ (Ev.ite (Ev.nil _) (he rfl)).seen hs (aO ⟨fQ h _,k⟩ (Nat.le_refl _))
   | blocked=>exact aZ (Ev.ite (Ev.nil w1) (Ev.nil w1)).seen hs (aO ⟨h,k⟩ (Nat.le_refl _))
   | waiting=>exact aZ (Ev.ite (Ev.nil w1) (Ev.nil w1)).seen hs (aO ⟨h,k⟩ (Nat.le_refl _))
   | unsupported u =>
    cases u with
    | initOrder g=>exact aZ (Ev.ite (Ev.nil w1) (Ev.nil w1)).seen hs (Cv _ _ _ _ _ h k)
    | _=>trivial
   | _=>trivial
theorem FX (Q:Quiet P) (fr:Frame) (cs:List Frame) (d:Option Dying) (w:World) (h:okT fr.todo) (k:okC cs):okS w (stepG.oper P true fr cs d w):=by
 unfold stepG.oper
 split
 ·trivial
 ·split
  ·exact lH _ _ _ _ _ (bR (cK inferInstance) fun _ _=>bR (cK inferInstance) fun _ _=>b5 trivial) h k
  ·exact lH _ _ _ _ _ (Gp Q _ _) h k
theorem Dv (piece : ByteArray) (a b : Bool) : Gr P (do
      if !(a && b) then
        mark .disable
        if ← Extern.PrintPieces.held then .halt .blocked
        if a then store (printLock (← program)) (.bool true) .atomic
        mark .enable
      if piece.size > 65536 then unsupported (.noEntry "a report of more than 65536 bytes")
      match ← sys (.write 2 piece) with
      | .int n => if n != piece.size then unsupported (.noEntry "a report that its descriptor cannot take whole")
      | .err _ => pure ()
      | _ => unsupported (.noEntry "a report that its descriptor cannot take whole") : Sem Unit) fun _ => True := by
  have tail : Gr P (do
      if piece.size > 65536 then unsupported (.noEntry "a report of more than 65536 bytes")
      match ← sys (.write 2 piece) with
      | .int n => if n != piece.size then unsupported (.noEntry "a report that its descriptor cannot take whole")
      | .err _ => pure ()
      | _ => unsupported (.noEntry "a report that its descriptor cannot take whole") : Sem Unit) fun _ => True := by
    refine fJ (cD _) (bR (cK inferInstance) fun _ _ => ?_)
    split
    · exact fJ (cD _) (b5 trivial)
    · exact b5 trivial
    · exact cD _
  exact fJ (xZ (gm zW fun h => tC (y9 rfl) (tC (gm oL fun _ => gm (qO _ _ _) fun _ => wR tail) (wR tail)))) tail
theorem B6 (fr:Frame) (d:Dying) (f:Fatal) (w:World) (h:okT fr.todo):okS w (writeOn P fr d f w):=by
 unfold writeOn
 dsimp only
 split
 ·trivial
 ·next piece rest _ =>
  have hg:=Dv (P:=P) piece f.whole f.begun
  split
  ·next hr =>
   obtain ⟨_,hs,he⟩:=iL hg hr
   exact ⟨⟨h,.nil⟩,hs,he⟩
  ·next hr =>
   obtain ⟨hs,_⟩:=ju hg hr
   exact aO ⟨h,.nil⟩ hs
  ·trivial
  ·trivial
theorem Jk (Q:Quiet P) (fr:Frame) (d:Dying) (w:World) (h:okT fr.todo):okS w (die P fr d w):=by
 unfold die
 split
 ·exact B6 _ _ _ _ h
 ·split
  ·split
   ·exact aO ⟨h,.nil⟩ (Nat.le_refl _)
   ·unfold endWith
    dsimp only
    split
    ·split <;> trivial
    ·trivial
    ·trivial
  ·dsimp only
   split
   ·exact aO ⟨h,.nil⟩ (Nat.le_refl _)
   ·split
    ·next e=>exact aO ⟨h,.nil⟩ (iw e)
    ·trivial
   ·next t recv name _ =>
    have hg:=jO Q (.fn (.method name) #[]) #[.iface t recv]
    cases hr:(invoke (.fn (.method name) #[]) #[.iface t recv]).runT P w #[] with
    | mk r es =>
     cases r with
     | ok n w1 =>
      obtain ⟨hn,hs,he⟩:=iL hg hr
      dsimp only
      refine aZ he.seen hs ?_
      split
      ·next e =>
       cases e
       exact aO ⟨gF _ _ _ _,.nil⟩ (Nat.le_refl _)
      ·next e =>
       cases e
       exact aO ⟨h,.nil⟩ (Nat.le_refl _)
      ·trivial
      ·next e=>cases e
      ·trivial
     | halt y w1 =>
      obtain ⟨hs,he⟩:=ju hg hr
      dsimp only
      cases y with
      | panic v=>exact aZ (he rfl).seen hs (nQ _ _ _ h)
      | unsupported u=>trivial
      | _=>trivial
   ·trivial
theorem FT {α β:Type} {f:α→Sem β} (h:∀a,NM P (f a)) (l:Array α):NM P (l.mapM f):=by
 rw[Array.mapM_eq_mapM_toList]
 exact bE (oV h _) fun _=>⟨trivial⟩
theorem Aq (Q:Quiet P) (m:Bool) (fr:Frame) (cs:List Frame) (d:Option Dying) (w:World) (h:okT fr.todo) (k:okC cs):okS w (unwind P m fr cs d w):=by
 unfold unwind
 split
 ·next block _ _ _ =>
  have hg:Gr P (Instr.takeDeferred block) fun _=>True:=cK inferInstance
  cases hr:(Instr.takeDeferred block).runT P w #[] with
  | mk r es =>
   cases r with
   | ok n w1 =>
    obtain ⟨_,hs,he⟩:=iL hg hr
    exact aZ he.seen hs (aO ⟨h,k⟩ (Nat.le_refl _))
   | halt y w1=>trivial
 ·exact wo Q _ _ _ _ _ h k
 ·split
  ·trivial
  ·next chain _ =>
   refine hO trivial ?_
   split
   ·exact aO ⟨fQ k.head _,k.tail⟩ (Nat.le_refl _)
   ·split
    ·refine hO (aO ⟨h,.nil⟩ (Nat.le_refl _)) ?_
     split
     ·next e=>exact aO ⟨h,.nil⟩ (iw e)
     ·trivial
     ·trivial
    ·split
     ·exact nQ _ _ _ h
     ·trivial
  ·split
   ·exact mH _ _ _ _ _ _ h k
   ·next fn _ =>
    have hg:Gr P (results fn fr.tmps) fun _=>True:=cK (by
     unfold results
     refine bE (FT (fun x=>?_) _) fun _=>inferInstance
     split
     ·infer_instance
     ·infer_instance)
    cases hr:(results fn fr.tmps).runT P w #[] with
    | mk r es =>
     cases r with
     | ok n w1 =>
      obtain ⟨_,hs,he⟩:=iL hg hr
      exact aZ he.seen hs (mH _ _ _ _ _ _ h k)
     | halt y w1=>cases y <;> trivial
theorem xz : Extern.next "runtime.print$piece" = some (Extern.PrintPieces.piece #[] #[]) := by kernel_rfl
theorem Fu (Q:Quiet P) (m:Bool) (fr:Frame) (cs:List Frame) (d:Option Dying) (w:World) (h:okT fr.todo) (k:okC cs):okS w (stepG.exec P m true fr cs d w):=by
 have leave:∀(fr:Frame) (jump:Option Code),okT fr.todo→okS w (match fr.roundOf with
   | none => if jump matches none | some .ret then .go { frame := { fr with mode := .returning }, callers := cs, status := .running, dying := d } w else .ended (.stuck "exit, goto: no such block or label" (fr.pos P)) w
   | some l=>match (Instr.endRound l jump).runT P w #[] with
    | (r,es)=>GStep.after (seen P fr.fn es) (match r with
     | .ok v w=>doReturn P m fr cs d v w
     | .halt _ w => .ended (.stuck "range over a function: no such loop" (fr.pos P)) w)) := fun fr jump h => by
  split
  ·exact hO (aO ⟨h,k⟩ (Nat.le_refl _)) trivial
  ·next l _ =>
   have hg:Gr P (Instr.endRound l jump) fun _=>True:=cK inferInstance
   cases hr:(Instr.endRound l jump).runT P w #[] with
   | mk r es =>
    cases r with
    | ok n w1 =>
     obtain ⟨_,hs,he⟩:=iL hg hr
     exact aZ he.seen hs (mH _ _ _ _ _ _ h k)
    | halt y w1=>trivial
 have go:∀(fr:Frame),okT fr.todo→okS w (.go { frame:=fr,callers:=cs,status:=.running,dying:=d } w):=fun fr hl=>aO ⟨hl,k⟩ (Nat.le_refl _)
 have elim:∀(fr:Frame) (o:Option (List Item)) (a:GStep),okS w a→(∀l,o=some l→okT l)→okS w (o.elim a fun l=>.go { frame:={ fr with todo:=l },callers:=cs,status:=.running,dying:=d } w):=fun fr o a ha ho=>by
  cases o with
  | none=>exact ha
  | some l=>exact aO ⟨ho l rfl,k⟩ (Nat.le_refl _)
 have oper:=FX Q fr cs d w h k
 have app:=fun (s:Sem Next) (hg:Gr P s okN)=>lH fr cs d s w hg h k
 obtain ⟨fn,ts,todo,ds,mode,kind,ro⟩:=fr
 unfold stepG.exec
 dsimp only at h ⊢
 cases todo with
 | nil=>exact leave ⟨fn,ts,[],ds,mode,kind,ro⟩ none h
 | cons x l =>
  have hl:=h.tail
  cases x with
  | code c =>
   cases c with
   | ret=>exact leave ⟨fn,ts,.code .ret :: l,ds,mode,kind,ro⟩ (some .ret) h
   | skip=>exact go _ hl
   | label _=>exact go _ hl
   | seq a b=>exact go _ (.cons trivial (.cons trivial hl))
   | cond c a b =>
    dsimp only
    split
    ·exact go _ (.cons trivial hl)
    ·trivial
   | block id b=>exact go _ (.cons trivial (.cons trivial hl))
   | loop b=>exact go _ (.cons trivial (.cons trivial hl))
   | scope b=>exact go _ (.cons trivial (.cons trivial hl))
   | exit id=>exact elim ⟨fn,ts,.code (.exit id) :: l,ds,mode,kind,ro⟩ _ _ (leave ⟨fn,ts,.code (.exit id) :: l,ds,mode,kind,ro⟩ (some (.exit id)) h) fun l' e=>ud e hl
   | goto id=>exact elim ⟨fn,ts,.code (.goto id) :: l,ds,mode,kind,ro⟩ _ _ (leave ⟨fn,ts,.code (.goto id) :: l,ds,mode,kind,ro⟩ (some (.goto id)) h) fun l' e=>sY e hl
   | rangeFunc f params a b =>
    dsimp only
    have hg:Gr P (Instr.enterLoop fn ts params a b ro) fun _=>True:=cK inferInstance
    cases hr:(Instr.enterLoop fn ts params a b ro).runT P w #[] with
    | mk r es =>
     cases r with
     | ok n w1 =>
      obtain ⟨_,hs,he⟩:=iL hg hr
      exact aZ he.seen hs (lH _ _ _ _ _ (bR (cK inferInstance) fun _ _=>jO Q _ _) (.cons trivial hl) k)
     | halt y w1=>trivial
   | refuse y=>trivial
   | region id ops draw =>
    dsimp only
    refine hO (go _ (.cons trivial hl)) ?_
    split
    ·next e=>exact aO ⟨.cons trivial hl,k⟩ (iw e)
    ·trivial
  | inBlock id=>exact go _ hl
  | inScope b=>exact go _ hl
  | inLoop b=>exact go _ (.cons trivial (.cons trivial hl))
  | inRegion ops t =>
   cases t with
   | nil=>exact go _ hl
   | cons i r=>exact hO oper (aO ⟨cS h _,k⟩ (Nat.le_refl _))
  | inRangeFunc n=>trivial
  | endRangeFunc n =>
   dsimp only
   have hg:Gr P (Instr.endLoop n) fun _=>True:=cK inferInstance
   cases hr:(Instr.endLoop n).runT P w #[] with
   | mk r es =>
    cases r with
    | ok j w1 =>
     obtain ⟨_,hs,he⟩:=iL hg hr
     refine aZ he.seen hs (aO ⟨?_,k⟩ (Nat.le_refl _))
     cases j with
     | none=>exact hl
     | some c=>exact .cons trivial hl
    | halt y w1 =>
     obtain ⟨hs,he⟩:=ju hg hr
     cases y with
     | panic v=>exact aZ (he rfl).seen hs (aO ⟨fQ (fr:=⟨fn,ts,.endRangeFunc n :: l,ds,mode,kind,ro⟩) h _,k⟩ (Nat.le_refl _))
     | _=>trivial
  | beginRound =>
   refine app _ (bR (Q:=fun _=>True) (cK ?_) fun _ _=>b5 trivial)
   cases ro <;> (dsimp only[Option.elim];infer_instance)
  | call a b c e=>exact h.head.elim
  | extern r xs =>
   obtain rfl : r = "runtime.print$piece" := h.head
   dsimp only
   rw[xz]
   exact app _ (wT _ _ _)
theorem FD (Q:Quiet P) (m:Bool) (g:Goroutine) (w:World) (h:okG g):okS w (stepG P m g w):=by
 obtain ⟨fr,cs,st,d,o⟩:=g
 unfold stepG
 dsimp only
 split
 ·exact Jk Q _ _ _ h.1
 ·exact Fu Q _ _ _ _ _ h.1 h.2
 ·exact Aq Q _ _ _ _ _ h.1 h.2
end
end Nm
end Go.Proofs.YtgacaecjinlhiaaGreatDoor
