import Derived.Test.YtpdemelchhkfaaaCsC
namespace Go.Proofs.Ytpdemelchhkfaaa
namespace Cs
variable [Fns]
section
variable {P:Program} {α β:Type} {R:Env→α→β→Prop} {E:Env}
def Tm (P:Program) {α:Type} (m:Sem α):Prop:=∀w,(∃a w',m.run P w=.ok a w')∨∃h w',m.run P w=.halt h w'∧lJ h
omit [Fns] in
theorem fC {γ:Type} {m:Sem γ} {f:γ→Sem α} {w w':World} {a:γ} (h:m.run P w=.ok a w'):(m >>= f).run P w=(f a).run P w':=by
 change Sem.run P (m.bind f) w=_
 rw[Sem.run_bind',h]
 rfl
omit [Fns] in
theorem fG {γ:Type} {m:Sem γ} {f:γ→Sem α} {w w':World} {a:Halt} (h:m.run P w=.halt a w'):(m >>= f).run P w=.halt a w':=by
 change Sem.run P (m.bind f) w=_
 rw[Sem.run_bind',h]
 rfl
omit [Fns] in
theorem aN {γ:Type} {m:Sem γ} {f:γ→Sem α} (h:cZ P m):cZ P (m >>= f):=fun w=>by
 obtain ⟨x,w',h1,h2⟩:=h w
 exact ⟨x,w',fG h1,h2⟩
omit [Fns] in
theorem bQ {γ:Type} {m:Sem γ} {f:γ→Sem α} (hm:Tm P m) (h:∀x,cZ P (f x)):cZ P (m >>= f):=fun w=>by
 rcases hm w with ⟨a,w',h1⟩ | ⟨x,w',h1,h2⟩
 ·obtain ⟨x,w2,h2,h3⟩:=h a w'
  exact ⟨x,w2,by rw[fC h1];exact h2,h3⟩
 ·exact ⟨x,w',fG h1,h2⟩
omit [Fns] in
theorem kg (h:Halt) (hh:lJ h):cZ P (.halt h:Sem α):=fun w=>⟨h,w,rfl,hh⟩
omit [Fns] in
theorem ag (s:String):cZ P (stuck s:Sem α):=kg _ trivial
omit [Fns] in
theorem au (u:Unsupported) (hu:∀g,u≠.initOrder g:=by intro g e;cases e):cZ P (unsupported u:Sem α):=kg _ hu
omit [Fns] in
theorem jc (v:Value):cZ P (goPanic v:Sem α):=kg _ trivial
omit [Fns] in
theorem jE {m:Sem α} (h:cZ P m):Tm P m:=fun w=>.inr (h w)
omit [Fns] in
theorem cS (a:α):Tm P (Pure.pure a:Sem α):=fun w=>.inl ⟨a,w,rfl⟩
omit [Fns] in
theorem dI {γ:Type} {m:Sem γ} {f:γ→Sem α} (hm:Tm P m) (h:∀x,Tm P (f x)):Tm P (m >>= f):=fun w=>by
 rcases hm w with ⟨a,w',h1⟩ | ⟨x,w',h1,h2⟩
 ·rw[fC h1];exact h a w'
 ·exact .inr ⟨x,w',fG h1,h2⟩
omit [Fns] in
theorem mD:Tm P program:=fun w=>.inl ⟨P,w,rfl⟩
omit [Fns] in
theorem j5 (q:Question):Tm P (choose q):=fun w=>by
 by_cases hq:q.forced=true
 ·exact .inl ⟨0,w,by simp[choose,Sem.run,hq]⟩
 ·exact .inl ⟨_,_,by simp only[choose,Sem.run,hq];rfl⟩
omit [Fns] in
theorem xI (r:Nat):Tm P (shape r):=fun w=>.inl ⟨_,w,rfl⟩
omit [Fns] in
theorem vC (a:Addr):Tm P (frozen a):=fun w=>.inl ⟨_,w,rfl⟩
omit [Fns] in
theorem Bj (o:Obj):Tm P (newObj o):=fun _=>.inl ⟨_,_,rfl⟩
omit [Fns] in
theorem BX {c:Prop} [Decidable c] {x y:Sem α} (h1:Tm P x) (h2:Tm P y):Tm P (if c then x else y):=by
 split
 ·exact h1
 ·exact h2
omit [Fns] in
theorem uT:Tm P (mark .noRoom):=fun w=>.inl ⟨(),w,rfl⟩
omit [Fns] in
theorem ny (t:TypeId):Tm P (underlying t):=dI mD fun p=>by
 cases p.underlying t with
 | none=>exact jE (ag _)
 | some d=>exact cS d
omit [Fns] in
theorem nE (t:TypeId):Tm P (elemOf t):=dI (ny t) fun d=>by
 cases d <;> first | exact cS _ | exact jE (ag _)
omit [Fns] in
theorem oc (t:TypeId) (v:Value):Tm P (newVar t v):=dI (Bj _) fun _=>cS _
omit [Fns] in
theorem rF (v:Value):Tm P (asIntOf v):=by
 cases v with
 | int k n=>exact cS _
 | pointer a=>cases a with
  | none=>exact jE (ag _)
  | some a=>exact jE (au _)
 | _=>exact jE (ag _)
omit [Fns] in
theorem mG (v:Value):Tm P (asInt v):=dI (rF v) fun _=>cS _
omit [Fns] in
theorem cF (e:RuntimeError):cZ P (runtimePanic e:Sem α):=by
 unfold runtimePanic
 refine bQ mD fun p=>?_
 cases e with
 | typeAssertion i c a m=>exact bQ (nE _) fun _=>bQ (oc _ _) fun _=>jc _
 | panicNil=>exact bQ (nE _) fun _=>bQ (oc _ _) fun _=>jc _
 | _=>exact jc _
omit [Fns] in
theorem b8 (k:IntKind) (x y:Int) (c:BoundsCode):cZ P (boundsPanic k x y c:Sem α):=by
 unfold boundsPanic
 dsimp only
 split
 ·exact bQ (dI (j5 _) fun _=>cS _) fun _=>cF _
 ·exact bQ (cS _) fun _=>cF _
omit [Fns] in
theorem cN {c:Prop} [Decidable c] {x y:Sem α} (h1:cZ P x) (h2:cZ P y):cZ P (if c then x else y):=by
 split
 ·exact h1
 ·exact h2
theorem SR.die {ml:Sem α} {m:Sem β} (h:cZ P ml):SR P R E ml m:=.rE h
theorem SR.ite {c:Prop} [Decidable c] {A B:Sem α} {A' B':Sem β} (h1:SR P R E A A') (h2:SR P R E B B'):SR P R E (if c then A else B) (if c then A' else B'):=by
 split
 ·exact h1
 ·exact h2
theorem SR.mono {R':Env→α→β→Prop} {ml:Sem α} {m:Sem β} (h:SR P R E ml m) (hR:∀E' a b,E.le E'→R E' a b→R' E' a b):SR P R' E ml m:=by
 induction h with
 | pure h=>exact .pure (hR _ _ _ (Env.le_refl _) h)
 | rE h=>exact .rE h
 | load ha _ ih=>exact .load ha fun u v hv=>ih u v hv hR
 | store ha hv _ ih=>exact .store ha hv (ih hR)
 | new ho _ ih=>exact .new ho fun E' bl b hl he hg=>ih E' bl b hl he hg fun E2 a b' h2=>hR E2 a b' (Env.le_trans hl h2)
 | shape h _ ih=>exact .shape h fun x y hx=>ih x y hx hR
 | freeze h ho _ ih=>exact .freeze h ho (ih hR)
 | getObj h _ ih=>exact .getObj h fun x y hx=>ih x y hx hR
 | dR h=>exact .dR h
 | setObj h ho _ ih=>exact .setObj h ho (ih hR)
 | choose q _ ih=>exact .choose q fun n=>ih n hR
 | program _ ih=>exact .program (ih hR)
 | noRoom _ ih=>exact .noRoom (ih hR)
theorem SR.bind {γ δ:Type} {R1:Env→γ→δ→Prop} {ml:Sem γ} {m:Sem δ} {fl:γ→Sem α} {f:δ→Sem β} (h:SR P R1 E ml m) (hk:∀E' a b,E.le E'→R1 E' a b→SR P R E' (fl a) (f b)):SR P R E (ml >>= fl) (m >>= f):=by
 show SR P R E (ml.bind fl) (m.bind f)
 induction h with
 | pure h=>exact hk _ _ _ (Env.le_refl _) h
 | rE h=>exact .rE (aN (f:=fl) h)
 | load ha _ ih=>exact .load ha fun u v hv=>ih u v hv hk
 | store ha hv _ ih=>exact .store ha hv (ih hk)
 | new ho _ ih=>exact .new ho fun E' bl b hl he hg=>ih E' bl b hl he hg fun E2 a b' h2=>hk E2 a b' (Env.le_trans hl h2)
 | shape h _ ih=>exact .shape h fun x y hx=>ih x y hx hk
 | freeze h ho _ ih=>exact .freeze h ho (ih hk)
 | getObj h _ ih=>exact .getObj h fun x y hx=>ih x y hx hk
 | dR h=>exact .dR h
 | setObj h ho _ ih=>exact .setObj h ho (ih hk)
 | choose q _ ih=>exact .choose q fun n=>ih n hk
 | program _ ih=>exact .program (ih hk)
 | noRoom _ ih=>exact .noRoom (ih hk)
theorem SR.ret {a:α} {b:β} (h:R E a b):SR P R E (Pure.pure a:Sem α) (Pure.pure b:Sem β):=.pure h
theorem cn:SR P (fun _ a b=>a=P∧b=P) E program program:=.program (.pure ⟨rfl,rfl⟩)
theorem aB (t:TypeId):SR P (fun _ a b=>a=b∧P.underlying t=some a) E (underlying t) (underlying t):=by
 unfold underlying
 refine SR.bind cn ?_
 rintro E' a b _ ⟨ha,hb⟩
 rw[ha,hb]
 cases h:P.underlying t with
 | none=>exact .die (ag _)
 | some d=>exact .ret ⟨rfl,rfl⟩
theorem cB (t:TypeId):SR P (fun _ a b=>a=b∧P.info? t=some a) E (typeInfo t) (typeInfo t):=by
 unfold typeInfo
 refine SR.bind cn ?_
 rintro E' a b _ ⟨ha,hb⟩
 rw[ha,hb]
 cases h:P.info? t with
 | none=>exact .die (ag _)
 | some d=>exact .ret ⟨rfl,rfl⟩
theorem bF (t:TypeId):SR P (fun _ a b=>a=b∧∃i,P.info? t=some i∧a=i.size) E (sizeOf t) (sizeOf t):=by
 unfold sizeOf
 refine SR.bind (cB t) ?_
 rintro E' a b _ ⟨rfl,h⟩
 exact .ret ⟨rfl,a,h,rfl⟩
theorem pU (t:TypeId):SR P (fun _ a b=>a=b) E (isAgg t) (isAgg t):=by
 unfold isAgg
 refine SR.bind (aB t) ?_
 rintro E' a b _ ⟨rfl,h⟩
 cases a <;> exact .ret rfl
end
def mR:Value→Bool
 | .bool _ | .int _ _ | .string _ | .pointer none | .slice none _ _ | .nilFunc | .nilIface | .chan none=>true
 | .func (.func f) x y=>Fns.ok f && x.isEmpty && y.isEmpty
 | _=>false
def oR:Value→Bool
 | .agg x | .tuple x=>x.all mR
 | v=>mR v
theorem nH {E:Env} {v:Value} (h:mR v=true):VR E v v:=by
 cases v with
 | bool b=>exact .bool b
 | int k n=>exact .int k n
 | float k n=>cases h
 | complex k n m=>cases h
 | string s=>exact .string s
 | pointer a=>cases a with
  | none=>exact .fF
  | some a=>cases h
 | slice a l c=>cases a with
  | none=>exact .bY l c
  | some a=>cases h
 | map r=>cases h
 | chan r=>cases r with
  | none=>exact .jW
  | some r=>cases h
 | func fn x y=>cases fn with
  | func f =>
   simp[mR] at h
   obtain ⟨⟨h1,rfl⟩,rfl⟩:=h
   exact .func f h1 rfl (fun i u v hu=>by simp at hu) rfl (fun i u v hu=>by simp at hu)
  | _=>cases h
 | nilFunc=>exact .nilFunc
 | iface t v=>cases h
 | nilIface=>exact .nilIface
 | agg c=>cases h
 | tuple c=>cases h
theorem nS {E:Env} {x:Array Value} (h:x.all mR=true):LR E x x:=⟨rfl,fun i u v hu hv=>by
 rw[hu] at hv
 cases hv
 exact nH (by rw[Array.all_eq_true_iff_forall_mem] at h;exact h u (Array.mem_of_getElem? hu))⟩
theorem nJ {E:Env} {v:Value} (h:oR v=true):VR E v v:=by
 cases v with
 | agg c=>exact .mP (nS h)
 | tuple c=>exact .mkTuple (nS h)
 | _=>exact nH h
def eM (P:Program) (t:TypeId):Bool:=match P.info? t with
 | some i=>match i.zero with
  | some v=>oR v
  | none=>true
 | none=>true
def jf (P:Program) (t:TypeId):Bool:=match P.underlying t with
 | some (.slice e)=>eM P e
 | _=>true
theorem gn {P:Program} {t e:TypeId} (h:jf P t=true) (hd:P.underlying t=some (.slice e)):eM P e=true:=by
 unfold jf at h
 rw[hd] at h
 exact h
section
variable {P:Program} {E:Env}
theorem dj (t:TypeId) (hZ:eM P t=true):SR P (fun E' a b=>VR E' a b∧a=b) E (zeroValue t) (zeroValue t):=by
 unfold zeroValue
 refine SR.bind (cB t) ?_
 rintro E' a b _ ⟨rfl,h⟩
 cases hz:a.zero with
 | none=>exact .die (au _)
 | some v =>
  have hp:oR v=true:=by
   unfold eM at hZ
   rw[h] at hZ
   dsimp only at hZ
   rw[hz] at hZ
   exact hZ
  exact .ret ⟨nJ hp,rfl⟩
theorem tJ {al a:Addr} (h:AR E al a):SR P (fun E' u v=>VR E' u v) E (load al) (load a):=.load h fun _ _ hv=>.pure hv
theorem wu {al a:Addr} {u v:Value} (h:AR E al a) (hv:VR E u v):SR P (fun _ _ _=>True) E (store al u) (store a v):=.store h hv (.pure trivial)
theorem iF (elem:TypeId) {x y:Array Value} (h:LR E x y):SR P (fun E' a b=>AR E' a b) E (newRow elem x) (newRow elem y):=by
 unfold newRow newObj
 refine SR.bind (R1:=fun E' bl b=>E' bl=some (b,0,true)∧Fns.G≤bl) (.new (.cells _ _ h) fun E' bl b _ he hg=>.pure ⟨he,hg⟩) ?_
 rintro E' a b _ ⟨he,hg⟩
 exact .ret ⟨0,true,he,rfl,rfl,hg,fun _=>rfl⟩
theorem fV:∀(n:Nat) {E:Env} {al a:Addr} (i:Nat) {x y:Array Value},AR E al a→LR E x y→SR P (fun E' u v=>LR E' u v) E (loadCellsFrom al i n x) (loadCellsFrom a i n y)
 | 0,_,_,_,_,_,_,_,h=>.ret h
 | n+1,_,_,_,i,_,_,ha,h=>by
  unfold loadCellsFrom
  refine SR.bind (tJ (ha.add i)) ?_
  intro E' u v hl hv
  exact fV n (i+1) (ha.mono hl) ((h.mono hl).push hv)
theorem gk {al a:Addr} (n:Nat) (ha:AR E al a):SR P (fun E' u v=>LR E' u v) E (loadCells al n) (loadCells a n):=fV n 0 ha (LR.nil _)
theorem iW:∀(l l':List Value) {E:Env} {al a:Addr} (i:Nat),AR E al a→l.length=l'.length→(∀(j:Nat) u v,l[j]? = some u→l'[j]? = some v→VR E u v)→SR P (fun _ _ _=>True) E (storeCells al l i) (storeCells a l' i)
 | [],[],_,_,_,_,_,_,_=>.ret trivial
 | [],_ :: _,_,_,_,_,_,h,_=>by cases h
 | _ :: _,[],_,_,_,_,_,h,_=>by cases h
 | u :: l,v :: l',_,_,_,i,ha,hl,h=>by
  unfold storeCells
  refine SR.bind (wu (ha.add i) (h 0 u v rfl rfl)) ?_
  intro E' _ _ hle _
  exact iW l l' (i+1) (ha.mono hle) (by simpa using hl) (fun j x y hx hy=>(h (j+1) x y (by simpa using hx) (by simpa using hy)).mono hle)
theorem lX (t:TypeId) {al a:Addr} (ha:AR E al a):SR P (fun E' u v=>VR E' u v) E (loadVar t al) (loadVar t a):=by
 unfold loadVar
 refine SR.bind (pU t) ?_
 rintro E1 b _ hl rfl
 cases b
 ·exact tJ (ha.mono hl)
 ·refine SR.bind (bF t) ?_
  rintro E2 n _ hl2 ⟨rfl,_⟩
  refine SR.bind (gk n (ha.mono (Env.le_trans hl hl2))) ?_
  intro E3 x y _ h
  exact .ret (.mP h)
theorem kJ {al a:Addr} {x y:Array Value} (ha:AR E al a) (h:LR E x y):SR P (fun _ _ _=>True) E (storeCells al x.toList) (storeCells a y.toList) :=
 iW x.toList y.toList 0 ha (by simp[h.size]) (fun j u v hu hv=>h.at_ j u v (by simpa using hu) (by simpa using hv))
theorem rq (t:TypeId) {al a:Addr} {u v:Value} (ha:AR E al a) (hv:VR E u v):SR P (fun _ _ _=>True) E (storeVar t al u) (storeVar t a v):=by
 unfold storeVar
 refine SR.bind (bF t) ?_
 rintro E2 n _ hl2 ⟨rfl,_⟩
 have hc:=(hv.mono hl2).cells
 rw[←hc.size]
 split
 ·exact .die (aN (ag _))
 ·exact kJ (ha.mono hl2) hc
theorem nT (t:TypeId) {u v:Value} (h:VR E u v):SR P (fun E' a b=>AR E' a b) E (newVar t u) (newVar t v):=iF t h.cells
theorem jo (t:TypeId) {x y:Array Value} (off:Nat) (h:LR E x y):SR P (fun E' u v=>VR E' u v) E (part t x off) (part t y off):=by
 unfold part
 refine SR.bind (pU t) ?_
 rintro E1 b _ hl rfl
 cases b
 ·cases hx:x[off]? with
  | none=>exact .die (by simpa using ag _)
  | some u =>
   obtain ⟨v,h1,h2⟩:=(h.mono hl).get hx
   simp only[h1]
   exact .ret h2
 ·refine SR.bind (bF t) ?_
  rintro E2 n _ hl2 ⟨rfl,_⟩
  exact .ret (.mP ((h.mono (Env.le_trans hl hl2)).extract _ _))
theorem gi {u v:Value} (h:VR E u v):SR P (fun _ a b=>a=b) E (asIntOf u) (asIntOf v):=by
 cases h with
 | int k n=>exact .ret rfl
 | ptr h=>exact .die (au _)
 | _=>exact .die (ag _)
theorem jJ {u v:Value} (h:VR E u v):SR P (fun _ a b=>a=b) E (asInt u) (asInt v):=by
 unfold asInt
 refine SR.bind (gi h) ?_
 rintro E1 a _ _ rfl
 exact .ret rfl
theorem uP {u v:Value} (h:VR E u v):SR P (fun _ a b=>a=b) E (asBool u) (asBool v):=by
 cases h with
 | bool b=>exact .ret rfl
 | _=>exact .die (ag _)
theorem dZ {u v:Value} (h:VR E u v):SR P (fun E' a b=>AR E' a b) E (Instr.sureAddr u) (Instr.sureAddr v):=by
 cases h with
 | ptr h=>exact .ret h
 | _=>exact .die (ag _)
end
end Cs
namespace Cs
variable [Fns]
section
variable {P:Program} {E:Env}
theorem uJ (t:TypeId) {u v:Value} (h:VR E u v):SR P (fun E' a b=>VR E' a b) E (Instr.loadAt t u) (Instr.loadAt t v) :=
 SR.bind (dZ h) fun _ _ _ _ ha=>lX t ha
theorem sA (t:TypeId) {u v x y:Value} (h:VR E u v) (hx:VR E x y):SR P (fun _ _ _=>True) E (Instr.storeAt t u x) (Instr.storeAt t v y) :=
 SR.bind (dZ h) fun _ _ _ hl ha=>rq t ha (hx.mono hl)
def oP (P:Program) (s:TypeId) (f:Nat):Bool:=match P.underlying s with
 | some (.struct fs)=>match fs[f]? with
  | some x=>match P.info? x.type with
   | some i=>i.size != 0
   | none=>true
  | none=>true
 | _=>true
theorem sM (s:TypeId) (f:Nat) (hf:oP P s f=true) {u v:Value} (h:VR E u v):SR P (fun E' a b=>VR E' a b) E (Instr.fieldAt s u f) (Instr.fieldAt s v f):=by
 unfold Instr.fieldAt
 refine SR.bind (aB s) ?_
 rintro E1 d _ hl ⟨rfl,hd⟩
 unfold oP at hf
 rw[hd] at hf
 cases d with
 | struct fs =>
  dsimp only at hf ⊢
  cases hx:fs[f]? with
  | none=>exact .die (ag _)
  | some x =>
   rw[hx] at hf
   dsimp only at hf ⊢
   refine SR.bind (dZ (h.mono hl)) ?_
   intro E2 a b hl2 hab
   unfold fieldPlace
   refine SR.bind (R1:=fun E' a b=>AR E' a b) (SR.bind (bF x.type) ?_) ?_
   ·rintro E3 n _ hl3 ⟨rfl,i,hi,hn⟩
    rw[hi] at hf
    have:n≠0:=by rw[hn];simpa using hf
    rw[if_neg this,if_neg this]
    exact .ret ((hab.mono hl3).add _)
   ·intro E3 a b _ hab
    exact .ret (.ptr hab)
 | _=>exact .die (ag _)
theorem rL (t:TypeId) {u v x y:Value} (h:VR E u v) (hx:VR E x y):SR P (fun E' a b=>VR E' a b) E (Instr.indexAt t u x) (Instr.indexAt t v y):=by
 unfold Instr.indexAt
 refine SR.bind (gi hx) ?_
 rintro E1 ⟨k,i⟩ _ hl rfl
 dsimp only
 refine SR.bind (aB t) ?_
 rintro E2 d _ hl2 ⟨rfl,hd⟩
 have hv:=h.mono (Env.le_trans hl hl2)
 cases d with
 | array len elem =>
  refine SR.bind (dZ hv) ?_
  intro E6 a b _ hab
  refine SR.bind (R1:=fun E' (a b:Option Addr × Nat × TypeId)=>a.2=b.2∧((a.1=none∧b.1=none)∨∃p q,a.1=some p∧b.1=some q∧AR E' p q)) (.ret ⟨rfl,.inr ⟨a,b,rfl,rfl,hab⟩⟩) ?_
  rintro E3 ⟨bl,len,elem⟩ ⟨b,len',elem'⟩ hl3 ⟨he,hb⟩
  cases he
  dsimp only at hb ⊢
  refine SR.bind (aB t) ?_
  rintro E4 d' _ hl4 ⟨rfl,_⟩
  rcases hb with ⟨rfl,rfl⟩ | ⟨p,q,rfl,rfl,hpq⟩
  ·exact .die (b8 _ _ _ _)
  ·dsimp only
   split
   ·refine SR.bind (bF elem) ?_
    rintro E5 n _ hl5 ⟨rfl,_⟩
    exact .ret (.ptr ((hpq.mono (Env.le_trans hl4 hl5)).add _))
   ·exact .die (cN (au _) (b8 _ _ _ _))
 | slice elem =>
  cases hv with
  | bY l c =>
   refine SR.bind (R1:=fun E' (a b:Option Addr × Nat × TypeId)=>a.2=b.2∧((a.1=none∧b.1=none)∨∃p q,a.1=some p∧b.1=some q∧AR E' p q)) (.ret ⟨rfl,.inl ⟨rfl,rfl⟩⟩) ?_
   rintro E3 ⟨bl,len,elem⟩ ⟨b,len',elem'⟩ hl3 ⟨he,hb⟩
   cases he
   dsimp only at hb ⊢
   refine SR.bind (aB t) ?_
   rintro E4 d' _ hl4 ⟨rfl,_⟩
   rcases hb with ⟨rfl,rfl⟩ | ⟨p,q,rfl,rfl,hpq⟩
   ·exact .die (b8 _ _ _ _)
   ·dsimp only
    split
    ·refine SR.bind (bF elem) ?_
     rintro E5 n _ hl5 ⟨rfl,_⟩
     exact .ret (.ptr ((hpq.mono (Env.le_trans hl4 hl5)).add _))
    ·exact .die (cN (au _) (b8 _ _ _ _))
  | bP p q =>
   refine SR.bind (R1:=fun _ (a b:Option Addr × Nat × TypeId)=>a.2=b.2∧a.2.1=0∧a.1=some p∧b.1=some q) (.ret ⟨rfl,rfl,rfl,rfl⟩) ?_
   rintro E3 ⟨bl,len,elem⟩ ⟨b,len',elem'⟩ hl3 ⟨he,h0,h1,h2⟩
   cases he
   dsimp only at h0 h1 h2 ⊢
   subst h0 h1 h2
   refine SR.bind (aB t) ?_
   rintro E4 d' _ hl4 ⟨rfl,_⟩
   dsimp only
   split
   ·rename_i hno
    exact absurd hno (by omega)
   ·exact .die (cN (au _) (b8 _ _ _ _))
  | slice l c ha =>
   refine SR.bind (R1:=fun E' (a b:Option Addr × Nat × TypeId)=>a.2=b.2∧((a.1=none∧b.1=none)∨∃p q,a.1=some p∧b.1=some q∧AR E' p q)) (.ret ⟨rfl,.inr ⟨_,_,rfl,rfl,ha⟩⟩) ?_
   rintro E3 ⟨bl,len,elem⟩ ⟨b,len',elem'⟩ hl3 ⟨he,hb⟩
   cases he
   dsimp only at hb ⊢
   refine SR.bind (aB t) ?_
   rintro E4 d' _ hl4 ⟨rfl,_⟩
   rcases hb with ⟨rfl,rfl⟩ | ⟨p,q,rfl,rfl,hpq⟩
   ·exact .die (b8 _ _ _ _)
   ·dsimp only
    split
    ·refine SR.bind (bF elem) ?_
     rintro E5 n _ hl5 ⟨rfl,_⟩
     exact .ret (.ptr ((hpq.mono (Env.le_trans hl4 hl5)).add _))
    ·exact .die (cN (au _) (b8 _ _ _ _))
  | _=>exact .die (aN (ag _))
 | _=>exact .die (aN (ag _))
theorem cP {u v:Value} (y:Nat) (c:BoundsCode) (h:VR E u v):SR P (fun _ a b=>a=b∧a≤y) E (Instr.sliceBound u y c) (Instr.sliceBound v y c):=by
 unfold Instr.sliceBound
 refine SR.bind (gi h) ?_
 rintro E1 ⟨k,i⟩ _ hl rfl
 dsimp only
 split
 ·exact .ret ⟨rfl,by omega⟩
 ·exact .die (b8 _ _ _ _)
inductive MR (E:Env):Option Value→Option Value→Prop
 | none:MR E none none
 | some {u v:Value} (h:VR E u v):MR E (some u) (some v)
theorem MR.mono {E E':Env} (hl:E.le E') {u v:Option Value} (h:MR E u v):MR E' u v:=by
 cases h with
 | none=>exact .none
 | some h=>exact .some (h.mono hl)
theorem dJ (b:Bool) (len cap:Nat) {lo lo' hi hi' mx mx':Option Value} (h1:MR E lo lo') (h2:MR E hi hi') (h3:MR E mx mx'):SR P (fun _ a b=>a=b∧a.2.2≤cap∧(a.2.1≤a.2.2∨a.2.1=len)∧a.1≤a.2.1) E (Instr.sliceBounds b len cap lo hi mx) (Instr.sliceBounds b len cap lo' hi' mx'):=by
 unfold Instr.sliceBounds
 dsimp only
 cases h3 with
 | none =>
  refine SR.bind (R1:=fun _ a b=>a=b∧a=cap) (.ret ⟨rfl,rfl⟩) ?_
  rintro E1 m _ hl ⟨rfl,rfl⟩
  cases h2.mono hl with
  | none =>
   refine SR.bind (R1:=fun _ a b=>a=b∧a=len) (.ret ⟨rfl,rfl⟩) ?_
   rintro E2 x _ hl2 ⟨rfl,rfl⟩
   cases h1.mono (Env.le_trans hl hl2) with
   | none=>exact .ret ⟨rfl,by dsimp only;omega,by dsimp only;omega,by dsimp only;omega⟩
   | some h =>
    refine SR.bind (cP _ _ h) ?_
    rintro E3 l _ hl3 ⟨rfl,hle3⟩
    exact .ret ⟨rfl,by dsimp only;omega,by dsimp only;omega,by dsimp only;omega⟩
  | some h =>
   refine SR.bind (cP _ _ h) ?_
   rintro E2 x _ hl2 ⟨rfl,hle2⟩
   cases h1.mono (Env.le_trans hl hl2) with
   | none=>exact .ret ⟨rfl,by dsimp only;omega,by dsimp only;omega,by dsimp only;omega⟩
   | some h =>
    refine SR.bind (cP _ _ h) ?_
    rintro E3 l _ hl3 ⟨rfl,hle3⟩
    exact .ret ⟨rfl,by dsimp only;omega,by dsimp only;omega,by dsimp only;omega⟩
 | some h3 =>
  refine SR.bind (cP _ _ h3) ?_
  rintro E1 m _ hl ⟨rfl,hle1⟩
  cases h2.mono hl with
  | none=>exact .die (aN (ag _))
  | some h =>
   refine SR.bind (cP _ _ h) ?_
   rintro E2 x _ hl2 ⟨rfl,hle2⟩
   cases h1.mono (Env.le_trans hl hl2) with
   | none=>exact .ret ⟨rfl,by dsimp only;omega,by dsimp only;omega,by dsimp only;omega⟩
   | some h =>
    refine SR.bind (cP _ _ h) ?_
    rintro E3 l _ hl3 ⟨rfl,hle3⟩
    exact .ret ⟨rfl,by dsimp only;omega,by dsimp only;omega,by dsimp only;omega⟩
theorem wN (t:TypeId) {u v:Value} {lo lo' hi hi' mx mx':Option Value} (h:VR E u v) (h1:MR E lo lo') (h2:MR E hi hi') (h3:MR E mx mx') (hp:∀a,P.underlying t≠some (.pointer a)):SR P (fun E' a b=>VR E' a b) E (Instr.slice t u lo hi mx) (Instr.slice t v lo' hi' mx'):=by
 unfold Instr.slice
 refine SR.bind (aB t) ?_
 rintro E1 d _ hl ⟨rfl,hd⟩
 cases d with
 | string =>
  cases h.mono hl with
  | string s =>
   dsimp only
   cases h3 with
   | some _=>exact .die (aN (ag _))
   | none =>
    refine SR.bind (dJ false s.size s.size (h1.mono hl) (h2.mono hl) .none) ?_
    rintro E3 ⟨l,x,m⟩ _ hl3 ⟨rfl,_⟩
    exact .ret (.string _)
  | _=>exact .die (ag _)
 | slice elem =>
  have hv:=h.mono hl
  have main:∀(a b:Option Addr) (len cap:Nat),((a=none∧b=none)∨∃p q,a=some p∧b=some q∧AR E1 p q) →
    SR P (fun E' a b=>VR E' a b) E1 (do
     let (l,h,m) ←Instr.sliceBounds true len cap lo hi mx
     let size ←sizeOf elem
     pure (.slice (if m=l then a else a.map (·.add (l*size))) (h-l) (m-l))) (do
     let (l,h,m) ←Instr.sliceBounds true len cap lo' hi' mx'
     let size ←sizeOf elem
     pure (.slice (if m=l then b else b.map (·.add (l*size))) (h-l) (m-l))):=fun a b len cap hab=>by
   refine SR.bind (dJ true len cap (h1.mono hl) (h2.mono hl) (h3.mono hl)) ?_
   rintro E2 ⟨l,x,m⟩ _ hl2 ⟨rfl,_⟩
   dsimp only
   refine SR.bind (bF elem) ?_
   rintro E3 n _ hl3 ⟨rfl,_⟩
   rcases hab with ⟨rfl,rfl⟩ | ⟨p,q,rfl,rfl,hpq⟩
   ·have:(if m=l then (none:Option Addr) else Option.map (fun x:Addr=>x.add (l*n)) none)=none:=by split <;> rfl
    rw[this]
    exact .ret (.bY _ _)
   ·have hq:=hpq.mono (Env.le_trans hl2 hl3)
    by_cases e:m=l
    ·rw[if_pos e,if_pos e];exact .ret (.slice _ _ hq)
    ·rw[if_neg e,if_neg e];exact .ret (.slice _ _ (hq.add _))
  cases hv with
  | bY l c=>exact main none none l c (.inl ⟨rfl,rfl⟩)
  | slice l c ha=>exact main _ _ l c (.inr ⟨_,_,rfl,rfl,ha⟩)
  | bP p q =>
   dsimp only
   refine SR.bind (dJ true 0 0 (h1.mono hl) (h2.mono hl) (h3.mono hl)) ?_
   rintro E2 ⟨l,x,m⟩ _ hl2 ⟨rfl,b1,b2,b3⟩
   dsimp only at b1 b2 b3 ⊢
   obtain rfl:m=0:=by omega
   obtain rfl:x=0:=by omega
   obtain rfl:l=0:=by omega
   refine SR.bind (bF elem) ?_
   rintro E3 n _ hl3 ⟨rfl,_⟩
   exact .ret (.bP p q)
  | _=>exact .die (ag _)
 | pointer a=>exact absurd hd (hp a)
 | _=>exact .die (ag _)
theorem sI (t:TypeId) {u v:Value} {lo lo' hi hi' mx mx':Option Value} (h:VR E u v) (h1:MR E lo lo') (h2:MR E hi hi') (h3:MR E mx mx') (hp:∀a,P.underlying t≠some (.pointer a)):SR P (fun E' a b=>VR E' a b) E (Instr.sliceAt t u lo hi mx) (Instr.sliceAt t v lo' hi' mx'):=by
 unfold Instr.sliceAt
 refine SR.bind (aB t) ?_
 rintro E1 d _ hl ⟨rfl,hd⟩
 have oth:SR P (fun E' a b=>VR E' a b) E1 (Instr.slice t u lo hi mx) (Instr.slice t v lo' hi' mx'):=wN t (h.mono hl) (h1.mono hl) (h2.mono hl) (h3.mono hl) hp
 cases d with
 | array n elem =>
  dsimp only
  refine SR.bind (dZ (h.mono hl)) ?_
  intro E2 p q hl2 hpq
  refine SR.bind (dJ false n n (h1.mono (Env.le_trans hl hl2)) (h2.mono (Env.le_trans hl hl2)) (h3.mono (Env.le_trans hl hl2))) ?_
  rintro E3 ⟨l,x,m⟩ _ hl3 ⟨rfl,_⟩
  dsimp only
  refine SR.bind (bF elem) ?_
  rintro E4 s _ hl4 ⟨rfl,_⟩
  have hq:=hpq.mono (Env.le_trans hl3 hl4)
  by_cases e:m=l
  ·rw[if_pos e,if_pos e];exact .ret (.slice _ _ hq)
  ·rw[if_neg e,if_neg e];exact .ret (.slice _ _ (hq.add _))
 | _=>exact oth
theorem yO (elem:TypeId) (hZ:eM P elem=true):SR P (fun E' a b=>VR E' a b) E (Instr.alloc elem true (.tuple #[])) (Instr.alloc elem true (.tuple #[])):=by
 unfold Instr.alloc
 refine SR.bind (dj elem hZ) ?_
 rintro E1 u v hl ⟨h,_⟩
 dsimp only
 refine SR.bind (nT elem h) ?_
 intro E2 a b _ hab
 exact .ret (.ptr hab)
theorem AM (elem:TypeId) {u v:Value} (h:VR E u v):SR P (fun E' a b=>VR E' a b) E (Instr.box elem u) (Instr.box elem v):=by
 unfold Instr.box
 refine SR.bind (nT elem h) ?_
 intro E2 a b _ hab
 exact .ret (.ptr hab)
theorem xF (t:TypeId) {u v x y:Value} (h:VR E u v) (hx:VR E x y):SR P (fun E' a b=>VR E' a b) E (Instr.index t u x) (Instr.index t v y):=by
 unfold Instr.index
 refine SR.bind (gi hx) ?_
 rintro E1 ⟨k,i⟩ _ hl rfl
 dsimp only
 refine SR.bind (aB t) ?_
 rintro E2 d _ hl2 ⟨rfl,hd⟩
 have hv:=h.mono (Env.le_trans hl hl2)
 cases d with
 | array len elem =>
  cases hv with
  | agg h1 h2 =>
   dsimp only
   split
   ·refine SR.bind (bF elem) ?_
    rintro E3 n _ hl3 ⟨rfl,_⟩
    exact jo elem _ ((LR.mk h1 h2).mono hl3)
   ·exact .die (b8 _ _ _ _)
  | _=>exact .die (ag _)
 | string =>
  cases hv with
  | string s =>
   dsimp only
   split
   ·exact .ret (.int _ _)
   ·exact .die (b8 _ _ _ _)
  | _=>exact .die (ag _)
 | _=>exact .die (ag _)
theorem sV {u v:Value} (i:Nat) (h:VR E u v):SR P (fun E' a b=>VR E' a b) E (Instr.extract u i) (Instr.extract v i):=by
 unfold Instr.extract
 cases h with
 | @tuple x y h1 h2 =>
  dsimp only
  cases hx:x[i]? with
  | none=>exact .die (ag _)
  | some a =>
   obtain ⟨b,e1,e2⟩:=(LR.mk h1 h2).get hx
   rw[e1]
   exact .ret e2
 | _=>exact .die (ag _)
end
end Cs
end Go.Proofs.Ytpdemelchhkfaaa
