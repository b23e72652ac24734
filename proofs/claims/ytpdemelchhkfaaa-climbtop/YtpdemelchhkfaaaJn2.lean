/-
  Several texts, joined: CsD, CsE.
-/
import Derived.Test.YtpdemelchhkfaaaCsC
/-
  Trees that are alike: one behind the other; what dies; what the program tells.
-/
namespace Go.Proofs.Ytpdemelchhkfaaa.Cs
variable [Fns]

section
variable {P:Program} {α β:Type} {R:Env→α→β→Prop} {E:Env}
def Tm (P:Program) {α:Type} (m:Sem α):Prop:=∀w,(∃a w',m.run P w=.ok a w')∨∃h w',m.run P w=.halt h w'∧HaltOk h
omit [Fns] in
theorem run_bind_ok {γ:Type} {m:Sem γ} {f:γ→Sem α} {w w':World} {a:γ} (h:m.run P w=.ok a w'):(m >>= f).run P w=(f a).run P w':=by
 change Sem.run P (m.bind f) w=_
 rw[Sem.run_bind',h]
 rfl
omit [Fns] in
theorem run_bind_halt {γ:Type} {m:Sem γ} {f:γ→Sem α} {w w':World} {a:Halt} (h:m.run P w=.halt a w'):(m >>= f).run P w=.halt a w':=by
 change Sem.run P (m.bind f) w=_
 rw[Sem.run_bind',h]
 rfl
omit [Fns] in
theorem dies_bind {γ:Type} {m:Sem γ} {f:γ→Sem α} (h:Dies P m):Dies P (m >>= f):=fun w=>by
 obtain ⟨x,w',h1,h2⟩:=h w
 exact ⟨x,w',run_bind_halt h1,h2⟩
omit [Fns] in
theorem dies_then {γ:Type} {m:Sem γ} {f:γ→Sem α} (hm:Tm P m) (h:∀x,Dies P (f x)):Dies P (m >>= f):=fun w=>by
 rcases hm w with ⟨a,w',h1⟩ | ⟨x,w',h1,h2⟩
 ·obtain ⟨x,w2,h2,h3⟩:=h a w'
  exact ⟨x,w2,by rw[run_bind_ok h1];exact h2,h3⟩
 ·exact ⟨x,w',run_bind_halt h1,h2⟩
omit [Fns] in
theorem dies_halt (h:Halt) (hh:HaltOk h):Dies P (.halt h:Sem α):=fun w=>⟨h,w,rfl,hh⟩
omit [Fns] in
theorem dies_stuck (s:String):Dies P (stuck s:Sem α):=dies_halt _ trivial
omit [Fns] in
theorem dies_unsup (u:Unsupported) (hu:∀g,u≠.initOrder g:=by intro g e;cases e):Dies P (unsupported u:Sem α):=dies_halt _ hu
omit [Fns] in
theorem dies_panic (v:Value):Dies P (goPanic v:Sem α):=dies_halt _ trivial
omit [Fns] in
theorem tm_dies {m:Sem α} (h:Dies P m):Tm P m:=fun w=>.inr (h w)
omit [Fns] in
theorem tm_pure (a:α):Tm P (Pure.pure a:Sem α):=fun w=>.inl ⟨a,w,rfl⟩
omit [Fns] in
theorem tm_bind {γ:Type} {m:Sem γ} {f:γ→Sem α} (hm:Tm P m) (h:∀x,Tm P (f x)):Tm P (m >>= f):=fun w=>by
 rcases hm w with ⟨a,w',h1⟩ | ⟨x,w',h1,h2⟩
 ·rw[run_bind_ok h1];exact h a w'
 ·exact .inr ⟨x,w',run_bind_halt h1,h2⟩
omit [Fns] in
theorem tm_program:Tm P program:=fun w=>.inl ⟨P,w,rfl⟩
omit [Fns] in
theorem tm_choose (q:Question):Tm P (choose q):=fun w=>by
 by_cases hq:q.forced=true
 ·exact .inl ⟨0,w,by simp[choose,Sem.run,hq]⟩
 ·exact .inl ⟨_,_,by simp only[choose,Sem.run,hq];rfl⟩
omit [Fns] in
theorem tm_shape (r:Nat):Tm P (shape r):=fun w=>.inl ⟨_,w,rfl⟩
omit [Fns] in
theorem tm_frozen (a:Addr):Tm P (frozen a):=fun w=>.inl ⟨_,w,rfl⟩
omit [Fns] in
theorem tm_new (o:Obj):Tm P (newObj o):=fun _=>.inl ⟨_,_,rfl⟩
omit [Fns] in
theorem tm_ite {c:Prop} [Decidable c] {x y:Sem α} (h1:Tm P x) (h2:Tm P y):Tm P (if c then x else y):=by
 split
 ·exact h1
 ·exact h2
omit [Fns] in
theorem tm_noRoom:Tm P (mark .noRoom):=fun w=>.inl ⟨(),w,rfl⟩
omit [Fns] in
theorem tm_underlying (t:TypeId):Tm P (underlying t):=tm_bind tm_program fun p=>by
 cases p.underlying t with
 | none=>exact tm_dies (dies_stuck _)
 | some d=>exact tm_pure d
omit [Fns] in
theorem tm_elemOf (t:TypeId):Tm P (elemOf t):=tm_bind (tm_underlying t) fun d=>by
 cases d <;> first | exact tm_pure _ | exact tm_dies (dies_stuck _)
omit [Fns] in
theorem tm_newVar (t:TypeId) (v:Value):Tm P (newVar t v):=tm_bind (tm_new _) fun _=>tm_pure _
omit [Fns] in
theorem tm_asIntOf (v:Value):Tm P (asIntOf v):=by
 cases v with
 | int k n=>exact tm_pure _
 | pointer a=>cases a with
  | none=>exact tm_dies (dies_stuck _)
  | some a=>exact tm_dies (dies_unsup _)
 | _=>exact tm_dies (dies_stuck _)
omit [Fns] in
theorem tm_asInt (v:Value):Tm P (asInt v):=tm_bind (tm_asIntOf v) fun _=>tm_pure _
omit [Fns] in
theorem dies_rt (e:RuntimeError):Dies P (runtimePanic e:Sem α):=by
 unfold runtimePanic
 refine dies_then tm_program fun p=>?_
 cases e with
 | typeAssertion i c a m=>exact dies_then (tm_elemOf _) fun _=>dies_then (tm_newVar _ _) fun _=>dies_panic _
 | panicNil=>exact dies_then (tm_elemOf _) fun _=>dies_then (tm_newVar _ _) fun _=>dies_panic _
 | _=>exact dies_panic _
omit [Fns] in
theorem dies_bounds (k:IntKind) (x y:Int) (c:BoundsCode):Dies P (boundsPanic k x y c:Sem α):=by
 unfold boundsPanic
 dsimp only
 split
 ·exact dies_then (tm_bind (tm_choose _) fun _=>tm_pure _) fun _=>dies_rt _
 ·exact dies_then (tm_pure _) fun _=>dies_rt _
omit [Fns] in
theorem dies_ite {c:Prop} [Decidable c] {x y:Sem α} (h1:Dies P x) (h2:Dies P y):Dies P (if c then x else y):=by
 split
 ·exact h1
 ·exact h2
theorem SR.die {ml:Sem α} {m:Sem β} (h:Dies P ml):SR P R E ml m:=.dies h
theorem SR.ite {c:Prop} [Decidable c] {A B:Sem α} {A' B':Sem β} (h1:SR P R E A A') (h2:SR P R E B B'):SR P R E (if c then A else B) (if c then A' else B'):=by
 split
 ·exact h1
 ·exact h2
theorem SR.mono {R':Env→α→β→Prop} {ml:Sem α} {m:Sem β} (h:SR P R E ml m) (hR:∀E' a b,E.le E'→R E' a b→R' E' a b):SR P R' E ml m:=by
 induction h with
 | pure h=>exact .pure (hR _ _ _ (Env.le_refl _) h)
 | dies h=>exact .dies h
 | load ha _ ih=>exact .load ha fun u v hv=>ih u v hv hR
 | store ha hv _ ih=>exact .store ha hv (ih hR)
 | new ho _ ih=>exact .new ho fun E' bl b hl he hg=>ih E' bl b hl he hg fun E2 a b' h2=>hR E2 a b' (Env.le_trans hl h2)
 | shape h _ ih=>exact .shape h fun x y hx=>ih x y hx hR
 | freeze h ho _ ih=>exact .freeze h ho (ih hR)
 | getObj h _ ih=>exact .getObj h fun x y hx=>ih x y hx hR
 | getShared h=>exact .getShared h
 | setObj h ho _ ih=>exact .setObj h ho (ih hR)
 | choose q _ ih=>exact .choose q fun n=>ih n hR
 | program _ ih=>exact .program (ih hR)
 | noRoom _ ih=>exact .noRoom (ih hR)
theorem SR.bind {γ δ:Type} {R1:Env→γ→δ→Prop} {ml:Sem γ} {m:Sem δ} {fl:γ→Sem α} {f:δ→Sem β} (h:SR P R1 E ml m) (hk:∀E' a b,E.le E'→R1 E' a b→SR P R E' (fl a) (f b)):SR P R E (ml >>= fl) (m >>= f):=by
 show SR P R E (ml.bind fl) (m.bind f)
 induction h with
 | pure h=>exact hk _ _ _ (Env.le_refl _) h
 | dies h=>exact .dies (dies_bind (f:=fl) h)
 | load ha _ ih=>exact .load ha fun u v hv=>ih u v hv hk
 | store ha hv _ ih=>exact .store ha hv (ih hk)
 | new ho _ ih=>exact .new ho fun E' bl b hl he hg=>ih E' bl b hl he hg fun E2 a b' h2=>hk E2 a b' (Env.le_trans hl h2)
 | shape h _ ih=>exact .shape h fun x y hx=>ih x y hx hk
 | freeze h ho _ ih=>exact .freeze h ho (ih hk)
 | getObj h _ ih=>exact .getObj h fun x y hx=>ih x y hx hk
 | getShared h=>exact .getShared h
 | setObj h ho _ ih=>exact .setObj h ho (ih hk)
 | choose q _ ih=>exact .choose q fun n=>ih n hk
 | program _ ih=>exact .program (ih hk)
 | noRoom _ ih=>exact .noRoom (ih hk)
theorem SR.ret {a:α} {b:β} (h:R E a b):SR P R E (Pure.pure a:Sem α) (Pure.pure b:Sem β):=.pure h
theorem sr_program:SR P (fun _ a b=>a=P∧b=P) E program program:=.program (.pure ⟨rfl,rfl⟩)
theorem sr_underlying (t:TypeId):SR P (fun _ a b=>a=b∧P.underlying t=some a) E (underlying t) (underlying t):=by
 unfold underlying
 refine SR.bind sr_program ?_
 rintro E' a b _ ⟨ha,hb⟩
 rw[ha,hb]
 cases h:P.underlying t with
 | none=>exact .die (dies_stuck _)
 | some d=>exact .ret ⟨rfl,rfl⟩
theorem sr_typeInfo (t:TypeId):SR P (fun _ a b=>a=b∧P.info? t=some a) E (typeInfo t) (typeInfo t):=by
 unfold typeInfo
 refine SR.bind sr_program ?_
 rintro E' a b _ ⟨ha,hb⟩
 rw[ha,hb]
 cases h:P.info? t with
 | none=>exact .die (dies_stuck _)
 | some d=>exact .ret ⟨rfl,rfl⟩
theorem sr_sizeOf (t:TypeId):SR P (fun _ a b=>a=b∧∃i,P.info? t=some i∧a=i.size) E (sizeOf t) (sizeOf t):=by
 unfold sizeOf
 refine SR.bind (sr_typeInfo t) ?_
 rintro E' a b _ ⟨rfl,h⟩
 exact .ret ⟨rfl,a,h,rfl⟩
theorem sr_isAgg (t:TypeId):SR P (fun _ a b=>a=b) E (isAgg t) (isAgg t):=by
 unfold isAgg
 refine SR.bind (sr_underlying t) ?_
 rintro E' a b _ ⟨rfl,h⟩
 cases a <;> exact .ret rfl
end
def plain1:Value→Bool
 | .bool _ | .int _ _ | .string _ | .pointer none | .slice none _ _ | .nilFunc | .nilIface | .chan none=>true
 | .func (.func f) x y=>Fns.ok f && x.isEmpty && y.isEmpty
 | _=>false
def plainV:Value→Bool
 | .agg x | .tuple x=>x.all plain1
 | v=>plain1 v
theorem plain1_vr {E:Env} {v:Value} (h:plain1 v=true):VR E v v:=by
 cases v with
 | bool b=>exact .bool b
 | int k n=>exact .int k n
 | float k n=>cases h
 | complex k n m=>cases h
 | string s=>exact .string s
 | pointer a=>cases a with
  | none=>exact .ptrNil
  | some a=>cases h
 | slice a l c=>cases a with
  | none=>exact .sliceNil l c
  | some a=>cases h
 | map r=>cases h
 | chan r=>cases r with
  | none=>exact .chanNil
  | some r=>cases h
 | func fn x y=>cases fn with
  | func f =>
   simp[plain1] at h
   obtain ⟨⟨h1,rfl⟩,rfl⟩:=h
   exact .func f h1 rfl (fun i u v hu=>by simp at hu) rfl (fun i u v hu=>by simp at hu)
  | _=>cases h
 | nilFunc=>exact .nilFunc
 | iface t v=>cases h
 | nilIface=>exact .nilIface
 | agg c=>cases h
 | tuple c=>cases h
theorem plains_lr {E:Env} {x:Array Value} (h:x.all plain1=true):LR E x x:=⟨rfl,fun i u v hu hv=>by
 rw[hu] at hv
 cases hv
 exact plain1_vr (by rw[Array.all_eq_true_iff_forall_mem] at h;exact h u (Array.mem_of_getElem? hu))⟩
theorem plainV_vr {E:Env} {v:Value} (h:plainV v=true):VR E v v:=by
 cases v with
 | agg c=>exact .mkAgg (plains_lr h)
 | tuple c=>exact .mkTuple (plains_lr h)
 | _=>exact plain1_vr h
def zeroOk (P:Program) (t:TypeId):Bool:=match P.info? t with
 | some i=>match i.zero with
  | some v=>plainV v
  | none=>true
 | none=>true
def elemOk (P:Program) (t:TypeId):Bool:=match P.underlying t with
 | some (.slice e)=>zeroOk P e
 | _=>true
theorem elemOk_slice {P:Program} {t e:TypeId} (h:elemOk P t=true) (hd:P.underlying t=some (.slice e)):zeroOk P e=true:=by
 unfold elemOk at h
 rw[hd] at h
 exact h
section
variable {P:Program} {E:Env}
theorem sr_zeroValue (t:TypeId) (hZ:zeroOk P t=true):SR P (fun E' a b=>VR E' a b∧a=b) E (zeroValue t) (zeroValue t):=by
 unfold zeroValue
 refine SR.bind (sr_typeInfo t) ?_
 rintro E' a b _ ⟨rfl,h⟩
 cases hz:a.zero with
 | none=>exact .die (dies_unsup _)
 | some v =>
  have hp:plainV v=true:=by
   unfold zeroOk at hZ
   rw[h] at hZ
   dsimp only at hZ
   rw[hz] at hZ
   exact hZ
  exact .ret ⟨plainV_vr hp,rfl⟩
theorem sr_load {al a:Addr} (h:AR E al a):SR P (fun E' u v=>VR E' u v) E (load al) (load a):=.load h fun _ _ hv=>.pure hv
theorem sr_store {al a:Addr} {u v:Value} (h:AR E al a) (hv:VR E u v):SR P (fun _ _ _=>True) E (store al u) (store a v):=.store h hv (.pure trivial)
theorem sr_newRow (elem:TypeId) {x y:Array Value} (h:LR E x y):SR P (fun E' a b=>AR E' a b) E (newRow elem x) (newRow elem y):=by
 unfold newRow newObj
 refine SR.bind (R1:=fun E' bl b=>E' bl=some (b,0,true)∧Fns.G≤bl) (.new (.cells _ _ h) fun E' bl b _ he hg=>.pure ⟨he,hg⟩) ?_
 rintro E' a b _ ⟨he,hg⟩
 exact .ret ⟨0,true,he,rfl,rfl,hg,fun _=>rfl⟩
theorem sr_loadCellsFrom:∀(n:Nat) {E:Env} {al a:Addr} (i:Nat) {x y:Array Value},AR E al a→LR E x y→SR P (fun E' u v=>LR E' u v) E (loadCellsFrom al i n x) (loadCellsFrom a i n y)
 | 0,_,_,_,_,_,_,_,h=>.ret h
 | n+1,_,_,_,i,_,_,ha,h=>by
  unfold loadCellsFrom
  refine SR.bind (sr_load (ha.add i)) ?_
  intro E' u v hl hv
  exact sr_loadCellsFrom n (i+1) (ha.mono hl) ((h.mono hl).push hv)
theorem sr_loadCells {al a:Addr} (n:Nat) (ha:AR E al a):SR P (fun E' u v=>LR E' u v) E (loadCells al n) (loadCells a n):=sr_loadCellsFrom n 0 ha (LR.nil _)
theorem sr_storeCells:∀(l l':List Value) {E:Env} {al a:Addr} (i:Nat),AR E al a→l.length=l'.length→(∀(j:Nat) u v,l[j]? = some u→l'[j]? = some v→VR E u v)→SR P (fun _ _ _=>True) E (storeCells al l i) (storeCells a l' i)
 | [],[],_,_,_,_,_,_,_=>.ret trivial
 | [],_ :: _,_,_,_,_,_,h,_=>by cases h
 | _ :: _,[],_,_,_,_,_,h,_=>by cases h
 | u :: l,v :: l',_,_,_,i,ha,hl,h=>by
  unfold storeCells
  refine SR.bind (sr_store (ha.add i) (h 0 u v rfl rfl)) ?_
  intro E' _ _ hle _
  exact sr_storeCells l l' (i+1) (ha.mono hle) (by simpa using hl) (fun j x y hx hy=>(h (j+1) x y (by simpa using hx) (by simpa using hy)).mono hle)
theorem sr_loadVar (t:TypeId) {al a:Addr} (ha:AR E al a):SR P (fun E' u v=>VR E' u v) E (loadVar t al) (loadVar t a):=by
 unfold loadVar
 refine SR.bind (sr_isAgg t) ?_
 rintro E1 b _ hl rfl
 cases b
 ·exact sr_load (ha.mono hl)
 ·refine SR.bind (sr_sizeOf t) ?_
  rintro E2 n _ hl2 ⟨rfl,_⟩
  refine SR.bind (sr_loadCells n (ha.mono (Env.le_trans hl hl2))) ?_
  intro E3 x y _ h
  exact .ret (.mkAgg h)
theorem sr_storeRow {al a:Addr} {x y:Array Value} (ha:AR E al a) (h:LR E x y):SR P (fun _ _ _=>True) E (storeCells al x.toList) (storeCells a y.toList) :=
 sr_storeCells x.toList y.toList 0 ha (by simp[h.size]) (fun j u v hu hv=>h.at_ j u v (by simpa using hu) (by simpa using hv))
theorem sr_storeVar (t:TypeId) {al a:Addr} {u v:Value} (ha:AR E al a) (hv:VR E u v):SR P (fun _ _ _=>True) E (storeVar t al u) (storeVar t a v):=by
 unfold storeVar
 refine SR.bind (sr_sizeOf t) ?_
 rintro E2 n _ hl2 ⟨rfl,_⟩
 have hc:=(hv.mono hl2).cells
 rw[←hc.size]
 split
 ·exact .die (dies_bind (dies_stuck _))
 ·exact sr_storeRow (ha.mono hl2) hc
theorem sr_newVar (t:TypeId) {u v:Value} (h:VR E u v):SR P (fun E' a b=>AR E' a b) E (newVar t u) (newVar t v):=sr_newRow t h.cells
theorem sr_part (t:TypeId) {x y:Array Value} (off:Nat) (h:LR E x y):SR P (fun E' u v=>VR E' u v) E (part t x off) (part t y off):=by
 unfold part
 refine SR.bind (sr_isAgg t) ?_
 rintro E1 b _ hl rfl
 cases b
 ·cases hx:x[off]? with
  | none=>exact .die (by simpa using dies_stuck _)
  | some u =>
   obtain ⟨v,h1,h2⟩:=(h.mono hl).get hx
   simp only[h1]
   exact .ret h2
 ·refine SR.bind (sr_sizeOf t) ?_
  rintro E2 n _ hl2 ⟨rfl,_⟩
  exact .ret (.mkAgg ((h.mono (Env.le_trans hl hl2)).extract _ _))
theorem sr_asIntOf {u v:Value} (h:VR E u v):SR P (fun _ a b=>a=b) E (asIntOf u) (asIntOf v):=by
 cases h with
 | int k n=>exact .ret rfl
 | ptr h=>exact .die (dies_unsup _)
 | _=>exact .die (dies_stuck _)
theorem sr_asInt {u v:Value} (h:VR E u v):SR P (fun _ a b=>a=b) E (asInt u) (asInt v):=by
 unfold asInt
 refine SR.bind (sr_asIntOf h) ?_
 rintro E1 a _ _ rfl
 exact .ret rfl
theorem sr_asBool {u v:Value} (h:VR E u v):SR P (fun _ a b=>a=b) E (asBool u) (asBool v):=by
 cases h with
 | bool b=>exact .ret rfl
 | _=>exact .die (dies_stuck _)
theorem sr_sureAddr {u v:Value} (h:VR E u v):SR P (fun E' a b=>AR E' a b) E (Instr.sureAddr u) (Instr.sureAddr v):=by
 cases h with
 | ptr h=>exact .ret h
 | _=>exact .die (dies_stuck _)
end
end Go.Proofs.Ytpdemelchhkfaaa.Cs

/-
  Operations of the model that are alike (first part): memory, addresses, slices, values that are built.
-/
namespace Go.Proofs.Ytpdemelchhkfaaa.Cs
variable [Fns]
section
variable {P:Program} {E:Env}
theorem sr_loadAt (t:TypeId) {u v:Value} (h:VR E u v):SR P (fun E' a b=>VR E' a b) E (Instr.loadAt t u) (Instr.loadAt t v) :=
 SR.bind (sr_sureAddr h) fun _ _ _ _ ha=>sr_loadVar t ha
theorem sr_storeAt (t:TypeId) {u v x y:Value} (h:VR E u v) (hx:VR E x y):SR P (fun _ _ _=>True) E (Instr.storeAt t u x) (Instr.storeAt t v y) :=
 SR.bind (sr_sureAddr h) fun _ _ _ hl ha=>sr_storeVar t ha (hx.mono hl)
def fieldOk (P:Program) (s:TypeId) (f:Nat):Bool:=match P.underlying s with
 | some (.struct fs)=>match fs[f]? with
  | some x=>match P.info? x.type with
   | some i=>i.size != 0
   | none=>true
  | none=>true
 | _=>true
theorem sr_fieldAt (s:TypeId) (f:Nat) (hf:fieldOk P s f=true) {u v:Value} (h:VR E u v):SR P (fun E' a b=>VR E' a b) E (Instr.fieldAt s u f) (Instr.fieldAt s v f):=by
 unfold Instr.fieldAt
 refine SR.bind (sr_underlying s) ?_
 rintro E1 d _ hl ⟨rfl,hd⟩
 unfold fieldOk at hf
 rw[hd] at hf
 cases d with
 | struct fs =>
  dsimp only at hf ⊢
  cases hx:fs[f]? with
  | none=>exact .die (dies_stuck _)
  | some x =>
   rw[hx] at hf
   dsimp only at hf ⊢
   refine SR.bind (sr_sureAddr (h.mono hl)) ?_
   intro E2 a b hl2 hab
   unfold fieldPlace
   refine SR.bind (R1:=fun E' a b=>AR E' a b) (SR.bind (sr_sizeOf x.type) ?_) ?_
   ·rintro E3 n _ hl3 ⟨rfl,i,hi,hn⟩
    rw[hi] at hf
    have:n≠0:=by rw[hn];simpa using hf
    rw[if_neg this,if_neg this]
    exact .ret ((hab.mono hl3).add _)
   ·intro E3 a b _ hab
    exact .ret (.ptr hab)
 | _=>exact .die (dies_stuck _)
theorem sr_indexAt (t:TypeId) {u v x y:Value} (h:VR E u v) (hx:VR E x y):SR P (fun E' a b=>VR E' a b) E (Instr.indexAt t u x) (Instr.indexAt t v y):=by
 unfold Instr.indexAt
 refine SR.bind (sr_asIntOf hx) ?_
 rintro E1 ⟨k,i⟩ _ hl rfl
 dsimp only
 refine SR.bind (sr_underlying t) ?_
 rintro E2 d _ hl2 ⟨rfl,hd⟩
 have hv:=h.mono (Env.le_trans hl hl2)
 cases d with
 | array len elem =>
  refine SR.bind (sr_sureAddr hv) ?_
  intro E6 a b _ hab
  refine SR.bind (R1:=fun E' (a b:Option Addr × Nat × TypeId)=>a.2=b.2∧((a.1=none∧b.1=none)∨∃p q,a.1=some p∧b.1=some q∧AR E' p q)) (.ret ⟨rfl,.inr ⟨a,b,rfl,rfl,hab⟩⟩) ?_
  rintro E3 ⟨bl,len,elem⟩ ⟨b,len',elem'⟩ hl3 ⟨he,hb⟩
  cases he
  dsimp only at hb ⊢
  refine SR.bind (sr_underlying t) ?_
  rintro E4 d' _ hl4 ⟨rfl,_⟩
  rcases hb with ⟨rfl,rfl⟩ | ⟨p,q,rfl,rfl,hpq⟩
  ·exact .die (dies_bounds _ _ _ _)
  ·dsimp only
   split
   ·refine SR.bind (sr_sizeOf elem) ?_
    rintro E5 n _ hl5 ⟨rfl,_⟩
    exact .ret (.ptr ((hpq.mono (Env.le_trans hl4 hl5)).add _))
   ·exact .die (dies_ite (dies_unsup _) (dies_bounds _ _ _ _))
 | slice elem =>
  cases hv with
  | sliceNil l c =>
   refine SR.bind (R1:=fun E' (a b:Option Addr × Nat × TypeId)=>a.2=b.2∧((a.1=none∧b.1=none)∨∃p q,a.1=some p∧b.1=some q∧AR E' p q)) (.ret ⟨rfl,.inl ⟨rfl,rfl⟩⟩) ?_
   rintro E3 ⟨bl,len,elem⟩ ⟨b,len',elem'⟩ hl3 ⟨he,hb⟩
   cases he
   dsimp only at hb ⊢
   refine SR.bind (sr_underlying t) ?_
   rintro E4 d' _ hl4 ⟨rfl,_⟩
   rcases hb with ⟨rfl,rfl⟩ | ⟨p,q,rfl,rfl,hpq⟩
   ·exact .die (dies_bounds _ _ _ _)
   ·dsimp only
    split
    ·refine SR.bind (sr_sizeOf elem) ?_
     rintro E5 n _ hl5 ⟨rfl,_⟩
     exact .ret (.ptr ((hpq.mono (Env.le_trans hl4 hl5)).add _))
    ·exact .die (dies_ite (dies_unsup _) (dies_bounds _ _ _ _))
  | sliceNo p q =>
   refine SR.bind (R1:=fun _ (a b:Option Addr × Nat × TypeId)=>a.2=b.2∧a.2.1=0∧a.1=some p∧b.1=some q) (.ret ⟨rfl,rfl,rfl,rfl⟩) ?_
   rintro E3 ⟨bl,len,elem⟩ ⟨b,len',elem'⟩ hl3 ⟨he,h0,h1,h2⟩
   cases he
   dsimp only at h0 h1 h2 ⊢
   subst h0 h1 h2
   refine SR.bind (sr_underlying t) ?_
   rintro E4 d' _ hl4 ⟨rfl,_⟩
   dsimp only
   split
   ·rename_i hno
    exact absurd hno (by omega)
   ·exact .die (dies_ite (dies_unsup _) (dies_bounds _ _ _ _))
  | slice l c ha =>
   refine SR.bind (R1:=fun E' (a b:Option Addr × Nat × TypeId)=>a.2=b.2∧((a.1=none∧b.1=none)∨∃p q,a.1=some p∧b.1=some q∧AR E' p q)) (.ret ⟨rfl,.inr ⟨_,_,rfl,rfl,ha⟩⟩) ?_
   rintro E3 ⟨bl,len,elem⟩ ⟨b,len',elem'⟩ hl3 ⟨he,hb⟩
   cases he
   dsimp only at hb ⊢
   refine SR.bind (sr_underlying t) ?_
   rintro E4 d' _ hl4 ⟨rfl,_⟩
   rcases hb with ⟨rfl,rfl⟩ | ⟨p,q,rfl,rfl,hpq⟩
   ·exact .die (dies_bounds _ _ _ _)
   ·dsimp only
    split
    ·refine SR.bind (sr_sizeOf elem) ?_
     rintro E5 n _ hl5 ⟨rfl,_⟩
     exact .ret (.ptr ((hpq.mono (Env.le_trans hl4 hl5)).add _))
    ·exact .die (dies_ite (dies_unsup _) (dies_bounds _ _ _ _))
  | _=>exact .die (dies_bind (dies_stuck _))
 | _=>exact .die (dies_bind (dies_stuck _))
theorem sr_sliceBound {u v:Value} (y:Nat) (c:BoundsCode) (h:VR E u v):SR P (fun _ a b=>a=b∧a≤y) E (Instr.sliceBound u y c) (Instr.sliceBound v y c):=by
 unfold Instr.sliceBound
 refine SR.bind (sr_asIntOf h) ?_
 rintro E1 ⟨k,i⟩ _ hl rfl
 dsimp only
 split
 ·exact .ret ⟨rfl,by omega⟩
 ·exact .die (dies_bounds _ _ _ _)
inductive MR (E:Env):Option Value→Option Value→Prop
 | none:MR E none none
 | some {u v:Value} (h:VR E u v):MR E (some u) (some v)
theorem MR.mono {E E':Env} (hl:E.le E') {u v:Option Value} (h:MR E u v):MR E' u v:=by
 cases h with
 | none=>exact .none
 | some h=>exact .some (h.mono hl)
theorem sr_sliceBounds (b:Bool) (len cap:Nat) {lo lo' hi hi' mx mx':Option Value} (h1:MR E lo lo') (h2:MR E hi hi') (h3:MR E mx mx'):SR P (fun _ a b=>a=b∧a.2.2≤cap∧(a.2.1≤a.2.2∨a.2.1=len)∧a.1≤a.2.1) E (Instr.sliceBounds b len cap lo hi mx) (Instr.sliceBounds b len cap lo' hi' mx'):=by
 unfold Instr.sliceBounds
 dsimp only
 cases h3 with
 | none =>
  refine SR.bind (R1:=fun _ a b=>a=b∧a=cap) (.ret ⟨rfl,rfl⟩) ?_
  rintro E1 m _ hl ⟨rfl,rfl⟩
  cases h2.mono hl with
  | none =>
   refine SR.bind (R1:=fun _ a b=>a=b∧a=len) (.ret ⟨rfl,rfl⟩) ?_
   rintro E2 x _ hl2 ⟨rfl,rfl⟩
   cases h1.mono (Env.le_trans hl hl2) with
   | none=>exact .ret ⟨rfl,by dsimp only;omega,by dsimp only;omega,by dsimp only;omega⟩
   | some h =>
    refine SR.bind (sr_sliceBound _ _ h) ?_
    rintro E3 l _ hl3 ⟨rfl,hle3⟩
    exact .ret ⟨rfl,by dsimp only;omega,by dsimp only;omega,by dsimp only;omega⟩
  | some h =>
   refine SR.bind (sr_sliceBound _ _ h) ?_
   rintro E2 x _ hl2 ⟨rfl,hle2⟩
   cases h1.mono (Env.le_trans hl hl2) with
   | none=>exact .ret ⟨rfl,by dsimp only;omega,by dsimp only;omega,by dsimp only;omega⟩
   | some h =>
    refine SR.bind (sr_sliceBound _ _ h) ?_
    rintro E3 l _ hl3 ⟨rfl,hle3⟩
    exact .ret ⟨rfl,by dsimp only;omega,by dsimp only;omega,by dsimp only;omega⟩
 | some h3 =>
  refine SR.bind (sr_sliceBound _ _ h3) ?_
  rintro E1 m _ hl ⟨rfl,hle1⟩
  cases h2.mono hl with
  | none=>exact .die (dies_bind (dies_stuck _))
  | some h =>
   refine SR.bind (sr_sliceBound _ _ h) ?_
   rintro E2 x _ hl2 ⟨rfl,hle2⟩
   cases h1.mono (Env.le_trans hl hl2) with
   | none=>exact .ret ⟨rfl,by dsimp only;omega,by dsimp only;omega,by dsimp only;omega⟩
   | some h =>
    refine SR.bind (sr_sliceBound _ _ h) ?_
    rintro E3 l _ hl3 ⟨rfl,hle3⟩
    exact .ret ⟨rfl,by dsimp only;omega,by dsimp only;omega,by dsimp only;omega⟩
theorem sr_slice (t:TypeId) {u v:Value} {lo lo' hi hi' mx mx':Option Value} (h:VR E u v) (h1:MR E lo lo') (h2:MR E hi hi') (h3:MR E mx mx') (hp:∀a,P.underlying t≠some (.pointer a)):SR P (fun E' a b=>VR E' a b) E (Instr.slice t u lo hi mx) (Instr.slice t v lo' hi' mx'):=by
 unfold Instr.slice
 refine SR.bind (sr_underlying t) ?_
 rintro E1 d _ hl ⟨rfl,hd⟩
 cases d with
 | string =>
  cases h.mono hl with
  | string s =>
   dsimp only
   cases h3 with
   | some _=>exact .die (dies_bind (dies_stuck _))
   | none =>
    refine SR.bind (sr_sliceBounds false s.size s.size (h1.mono hl) (h2.mono hl) .none) ?_
    rintro E3 ⟨l,x,m⟩ _ hl3 ⟨rfl,_⟩
    exact .ret (.string _)
  | _=>exact .die (dies_stuck _)
 | slice elem =>
  have hv:=h.mono hl
  have main:∀(a b:Option Addr) (len cap:Nat),((a=none∧b=none)∨∃p q,a=some p∧b=some q∧AR E1 p q) →
    SR P (fun E' a b=>VR E' a b) E1 (do
     let (l,h,m) ←Instr.sliceBounds true len cap lo hi mx
     let size ←sizeOf elem
     pure (.slice (if m=l then a else a.map (·.add (l*size))) (h-l) (m-l))) (do
     let (l,h,m) ←Instr.sliceBounds true len cap lo' hi' mx'
     let size ←sizeOf elem
     pure (.slice (if m=l then b else b.map (·.add (l*size))) (h-l) (m-l))):=fun a b len cap hab=>by
   refine SR.bind (sr_sliceBounds true len cap (h1.mono hl) (h2.mono hl) (h3.mono hl)) ?_
   rintro E2 ⟨l,x,m⟩ _ hl2 ⟨rfl,_⟩
   dsimp only
   refine SR.bind (sr_sizeOf elem) ?_
   rintro E3 n _ hl3 ⟨rfl,_⟩
   rcases hab with ⟨rfl,rfl⟩ | ⟨p,q,rfl,rfl,hpq⟩
   ·have:(if m=l then (none:Option Addr) else Option.map (fun x:Addr=>x.add (l*n)) none)=none:=by split <;> rfl
    rw[this]
    exact .ret (.sliceNil _ _)
   ·have hq:=hpq.mono (Env.le_trans hl2 hl3)
    by_cases e:m=l
    ·rw[if_pos e,if_pos e];exact .ret (.slice _ _ hq)
    ·rw[if_neg e,if_neg e];exact .ret (.slice _ _ (hq.add _))
  cases hv with
  | sliceNil l c=>exact main none none l c (.inl ⟨rfl,rfl⟩)
  | slice l c ha=>exact main _ _ l c (.inr ⟨_,_,rfl,rfl,ha⟩)
  | sliceNo p q =>
   dsimp only
   refine SR.bind (sr_sliceBounds true 0 0 (h1.mono hl) (h2.mono hl) (h3.mono hl)) ?_
   rintro E2 ⟨l,x,m⟩ _ hl2 ⟨rfl,b1,b2,b3⟩
   dsimp only at b1 b2 b3 ⊢
   obtain rfl:m=0:=by omega
   obtain rfl:x=0:=by omega
   obtain rfl:l=0:=by omega
   refine SR.bind (sr_sizeOf elem) ?_
   rintro E3 n _ hl3 ⟨rfl,_⟩
   exact .ret (.sliceNo p q)
  | _=>exact .die (dies_stuck _)
 | pointer a=>exact absurd hd (hp a)
 | _=>exact .die (dies_stuck _)
theorem sr_sliceAt (t:TypeId) {u v:Value} {lo lo' hi hi' mx mx':Option Value} (h:VR E u v) (h1:MR E lo lo') (h2:MR E hi hi') (h3:MR E mx mx') (hp:∀a,P.underlying t≠some (.pointer a)):SR P (fun E' a b=>VR E' a b) E (Instr.sliceAt t u lo hi mx) (Instr.sliceAt t v lo' hi' mx'):=by
 unfold Instr.sliceAt
 refine SR.bind (sr_underlying t) ?_
 rintro E1 d _ hl ⟨rfl,hd⟩
 have oth:SR P (fun E' a b=>VR E' a b) E1 (Instr.slice t u lo hi mx) (Instr.slice t v lo' hi' mx'):=sr_slice t (h.mono hl) (h1.mono hl) (h2.mono hl) (h3.mono hl) hp
 cases d with
 | array n elem =>
  dsimp only
  refine SR.bind (sr_sureAddr (h.mono hl)) ?_
  intro E2 p q hl2 hpq
  refine SR.bind (sr_sliceBounds false n n (h1.mono (Env.le_trans hl hl2)) (h2.mono (Env.le_trans hl hl2)) (h3.mono (Env.le_trans hl hl2))) ?_
  rintro E3 ⟨l,x,m⟩ _ hl3 ⟨rfl,_⟩
  dsimp only
  refine SR.bind (sr_sizeOf elem) ?_
  rintro E4 s _ hl4 ⟨rfl,_⟩
  have hq:=hpq.mono (Env.le_trans hl3 hl4)
  by_cases e:m=l
  ·rw[if_pos e,if_pos e];exact .ret (.slice _ _ hq)
  ·rw[if_neg e,if_neg e];exact .ret (.slice _ _ (hq.add _))
 | _=>exact oth
theorem sr_alloc (elem:TypeId) (hZ:zeroOk P elem=true):SR P (fun E' a b=>VR E' a b) E (Instr.alloc elem true (.tuple #[])) (Instr.alloc elem true (.tuple #[])):=by
 unfold Instr.alloc
 refine SR.bind (sr_zeroValue elem hZ) ?_
 rintro E1 u v hl ⟨h,_⟩
 dsimp only
 refine SR.bind (sr_newVar elem h) ?_
 intro E2 a b _ hab
 exact .ret (.ptr hab)
theorem sr_box (elem:TypeId) {u v:Value} (h:VR E u v):SR P (fun E' a b=>VR E' a b) E (Instr.box elem u) (Instr.box elem v):=by
 unfold Instr.box
 refine SR.bind (sr_newVar elem h) ?_
 intro E2 a b _ hab
 exact .ret (.ptr hab)
theorem sr_index (t:TypeId) {u v x y:Value} (h:VR E u v) (hx:VR E x y):SR P (fun E' a b=>VR E' a b) E (Instr.index t u x) (Instr.index t v y):=by
 unfold Instr.index
 refine SR.bind (sr_asIntOf hx) ?_
 rintro E1 ⟨k,i⟩ _ hl rfl
 dsimp only
 refine SR.bind (sr_underlying t) ?_
 rintro E2 d _ hl2 ⟨rfl,hd⟩
 have hv:=h.mono (Env.le_trans hl hl2)
 cases d with
 | array len elem =>
  cases hv with
  | agg h1 h2 =>
   dsimp only
   split
   ·refine SR.bind (sr_sizeOf elem) ?_
    rintro E3 n _ hl3 ⟨rfl,_⟩
    exact sr_part elem _ ((LR.mk h1 h2).mono hl3)
   ·exact .die (dies_bounds _ _ _ _)
  | _=>exact .die (dies_stuck _)
 | string =>
  cases hv with
  | string s =>
   dsimp only
   split
   ·exact .ret (.int _ _)
   ·exact .die (dies_bounds _ _ _ _)
  | _=>exact .die (dies_stuck _)
 | _=>exact .die (dies_stuck _)
theorem sr_extract {u v:Value} (i:Nat) (h:VR E u v):SR P (fun E' a b=>VR E' a b) E (Instr.extract u i) (Instr.extract v i):=by
 unfold Instr.extract
 cases h with
 | @tuple x y h1 h2 =>
  dsimp only
  cases hx:x[i]? with
  | none=>exact .die (dies_stuck _)
  | some a =>
   obtain ⟨b,e1,e2⟩:=(LR.mk h1 h2).get hx
   rw[e1]
   exact .ret e2
 | _=>exact .die (dies_stuck _)
end
end Go.Proofs.Ytpdemelchhkfaaa.Cs
