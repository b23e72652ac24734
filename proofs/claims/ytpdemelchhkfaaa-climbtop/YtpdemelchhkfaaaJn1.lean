import Derived.Conc.Events
namespace Go.Proofs.Ytpdemelchhkfaaa
namespace Cs
abbrev Env:=Nat→Option (Nat × Nat × Bool)
def Env.le (E E':Env):Prop:=∀b x,E b=some x→E' b=some x
theorem Env.le_refl (E:Env):E.le E:=fun _ _ h=>h
theorem Env.le_trans {A B C:Env} (h:A.le B) (h':B.le C):A.le C:=fun b x e=>h' b x (h b x e)
class Fns where
 ok:FuncId→Bool
 G:Nat
variable [Fns]
def AR (E:Env) (a b:Addr):Prop:=∃s o,E a.block=some (b.block,s,o)∧b.off=a.off+s∧b.spot=a.spot∧Fns.G≤a.block∧(o=true→s=0)
theorem AR.mono {E E':Env} {a b:Addr} (h:AR E a b) (hl:E.le E'):AR E' a b:=by
 obtain ⟨s,o,h1,h2⟩:=h
 exact ⟨s,o,hl _ _ h1,h2⟩
theorem AR.add {E:Env} {a b:Addr} (h:AR E a b) (n:Nat):AR E (a.add n) (b.add n):=by
 obtain ⟨s,o,h1,h2,h3,h4⟩:=h
 unfold Addr.add
 by_cases e:n=0
 ·rw[if_pos e,if_pos e];exact ⟨s,o,h1,h2,h3,h4⟩
 ·rw[if_neg e,if_neg e];exact ⟨s,o,h1,by show b.off+n=a.off+n+s;omega,rfl,h4⟩
def A2:Value→Bool
 | .agg _ | .tuple _ | .bool _ | .nilIface=>false
 | _=>true
inductive VR (E:Env):Value→Value→Prop
 | bool (b:Bool):VR E (.bool b) (.bool b)
 | int (k:IntKind) (n:Int):VR E (.int k n) (.int k n)
 | string (s:ByteArray):VR E (.string s) (.string s)
 | fF:VR E (.pointer none) (.pointer none)
 | ptr {a b:Addr} (h:AR E a b):VR E (.pointer (some a)) (.pointer (some b))
 | bY (l c:Nat):VR E (.slice none l c) (.slice none l c)
 | slice {a b:Addr} (l c:Nat) (h:AR E a b):VR E (.slice (some a) l c) (.slice (some b) l c)
 | bP (a b:Addr):VR E (.slice (some a) 0 0) (.slice (some b) 0 0)
 | func (f:FuncId) {x y x' y':Array Value} (hf:Fns.ok f=true) (h1:x.size=x'.size) (h2:∀(i:Nat) u v,x[i]? = some u→x'[i]? = some v→VR E u v)
   (h3:y.size=y'.size) (h4:∀(i:Nat) u v,y[i]? = some u→y'[i]? = some v→VR E u v):VR E (.func (.func f) x y) (.func (.func f) x' y')
 | nilFunc:VR E .nilFunc .nilFunc
 | nilIface:VR E .nilIface .nilIface
 | jW:VR E (.chan none) (.chan none)
 | any (v:Value) (h:A2 v=true):VR E (.pointer none) v
 | agg {x x':Array Value} (h1:x.size=x'.size) (h2:∀(i:Nat) u v,x[i]? = some u→x'[i]? = some v→VR E u v):VR E (.agg x) (.agg x')
 | tuple {x x':Array Value} (h1:x.size=x'.size) (h2:∀(i:Nat) u v,x[i]? = some u→x'[i]? = some v→VR E u v):VR E (.tuple x) (.tuple x')
theorem VR.mono {E E':Env} (hl:E.le E') {u v:Value} (h:VR E u v):VR E' u v:=by
 induction h with
 | bool b=>exact .bool b
 | int k n=>exact .int k n
 | string s=>exact .string s
 | fF=>exact .fF
 | ptr h=>exact .ptr (h.mono hl)
 | bY l c=>exact .bY l c
 | slice l c h=>exact .slice l c (h.mono hl)
 | bP a b=>exact .bP a b
 | func f hf h1 _ h3 _ i2 i4=>exact .func f hf h1 i2 h3 i4
 | nilFunc=>exact .nilFunc
 | nilIface=>exact .nilIface
 | jW=>exact .jW
 | any v h=>exact .any v h
 | agg h1 _ i2=>exact .agg h1 i2
 | tuple h1 _ i2=>exact .tuple h1 i2
structure LR (E:Env) (x y:Array Value):Prop where
 size:x.size=y.size
 at_:∀(i:Nat) u v,x[i]? = some u→y[i]? = some v→VR E u v
theorem LR.mono {E E':Env} (hl:E.le E') {x y:Array Value} (h:LR E x y):LR E' x y:=⟨h.size,fun i u v a b=>(h.at_ i u v a b).mono hl⟩
theorem VR.mP {E:Env} {x y:Array Value} (h:LR E x y):VR E (.agg x) (.agg y):=.agg h.size h.at_
theorem VR.mkTuple {E:Env} {x y:Array Value} (h:LR E x y):VR E (.tuple x) (.tuple y):=.tuple h.size h.at_
theorem LR.get {E:Env} {x y:Array Value} (h:LR E x y) {i:Nat} {u:Value} (hu:x[i]? = some u):∃v,y[i]? = some v∧VR E u v:=by
 have hi:i<x.size:=(Array.getElem?_eq_some_iff.1 hu).1
 have hj:i<y.size:=by have:=h.size;omega
 exact ⟨y[i],Array.getElem?_eq_getElem hj,h.at_ i u _ hu (Array.getElem?_eq_getElem hj)⟩
theorem LR.none {E:Env} {x y:Array Value} (h:LR E x y) {i:Nat} (hu:x[i]? = Option.none):y[i]? = Option.none:=by
 have:¬i<x.size:=fun hi=>by rw[Array.getElem?_eq_getElem hi] at hu;cases hu
 exact Array.getElem?_eq_none (by have:=h.size;omega)
theorem LR.nil (E:Env):LR E #[] #[]:=⟨rfl,fun i u v h=>by simp at h⟩
theorem LR.one {E:Env} {u v:Value} (h:VR E u v):LR E #[u] #[v]:=⟨rfl,fun i a b ha hb=>by
 have hi:i<1:=by have:=(Array.getElem?_eq_some_iff.1 ha).1;simpa using this
 obtain rfl:i=0:=by omega
 simp at ha hb
 subst ha hb
 exact h⟩
theorem LR.push {E:Env} {x y:Array Value} {u v:Value} (h:LR E x y) (hv:VR E u v):LR E (x.push u) (y.push v):=⟨by simp[h.size],fun i a b ha hb=>by
 rw[Array.getElem?_push] at ha hb
 by_cases e:i=x.size
 ·rw[if_pos e] at ha
  rw[if_pos (by rw[e,h.size])] at hb
  cases ha;cases hb
  exact hv
 ·rw[if_neg e] at ha
  rw[if_neg (by rw[←h.size];exact e)] at hb
  exact h.at_ i a b ha hb⟩
theorem LR.app {E:Env} {x y x' y':Array Value} (h:LR E x y) (h':LR E x' y'):LR E (x++x') (y++y'):=⟨by simp[h.size,h'.size],fun i a b ha hb=>by
 rw[Array.getElem?_append] at ha hb
 by_cases e:i<x.size
 ·rw[if_pos e] at ha
  rw[if_pos (by rw[←h.size];exact e)] at hb
  exact h.at_ i a b ha hb
 ·rw[if_neg e] at ha
  rw[if_neg (by rw[←h.size];exact e),←h.size] at hb
  exact h'.at_ _ a b ha hb⟩
theorem LR.set {E:Env} {x y:Array Value} {u v:Value} (h:LR E x y) (j:Nat) (hv:VR E u v):LR E (x.setIfInBounds j u) (y.setIfInBounds j v):=⟨by simp[h.size],fun i a b ha hb=>by
 rw[Array.getElem?_setIfInBounds] at ha hb
 by_cases e:j=i
 ·rw[if_pos e] at ha hb
  by_cases e2:j<x.size
  ·rw[if_pos e2] at ha
   rw[if_pos (by rw[←h.size];exact e2)] at hb
   cases ha;cases hb
   exact hv
  ·rw[if_neg e2] at ha;cases ha
 ·rw[if_neg e] at ha hb
  exact h.at_ i a b ha hb⟩
theorem LR.extract {E:Env} {x y:Array Value} (h:LR E x y) (a b:Nat):LR E (x.extract a b) (y.extract a b):=⟨by simp[h.size],fun i u v hu hv=>by
 rw[Array.getElem?_extract] at hu hv
 rw[←h.size] at hv
 split at hu
 ·rename_i c
  rw[if_pos c] at hv
  exact h.at_ _ u v hu hv
 ·cases hu⟩
theorem LR.map {E:Env} {α:Type} (l:Array α) {f g:α→Value} (h:∀a,VR E (f a) (g a)):LR E (l.map f) (l.map g):=⟨by simp,fun i u v hu hv=>by
 simp only[Array.getElem?_map,Option.map_eq_some_iff] at hu hv
 obtain ⟨a,h1,rfl⟩:=hu
 obtain ⟨b,h2,rfl⟩:=hv
 rw[h1] at h2
 cases h2
 exact h a⟩
theorem VR.cells {E:Env} {u v:Value} (h:VR E u v):LR E u.cells v.cells:=by
 cases h with
 | agg h1 h2=>exact ⟨h1,h2⟩
 | bool b=>exact LR.one (.bool b)
 | int k n=>exact LR.one (.int k n)
 | string s=>exact LR.one (.string s)
 | fF=>exact LR.one .fF
 | ptr h=>exact LR.one (.ptr h)
 | bY l c=>exact LR.one (.bY l c)
 | slice l c h=>exact LR.one (.slice l c h)
 | bP a b=>exact LR.one (.bP a b)
 | func f hf h1 h2 h3 h4=>exact LR.one (.func f hf h1 h2 h3 h4)
 | nilFunc=>exact LR.one .nilFunc
 | nilIface=>exact LR.one .nilIface
 | jW=>exact LR.one .jW
 | any v h =>
  have e:v.cells=#[v]:=by cases v <;> first | rfl | cases h
  rw[e]
  exact LR.one (.any v h)
 | tuple h1 h2=>exact LR.one (.tuple h1 h2)
inductive OR (E:Env):Obj→Obj→Prop
 | cells {x y:Array Value} (T:TypeId) (fr:Nat × Nat) (h:LR E x y):OR E (.cells x T fr) (.cells y T fr)
 | iter (s:ByteArray) (p:Nat):OR E (.stringIter s p) (.stringIter s p)
 | number {a b:Addr} (l:Bool) (h:AR E a b):OR E (.number a l) (.number b l)
theorem OR.mono {E E':Env} (hl:E.le E') {u v:Obj} (h:OR E u v):OR E' u v:=by
 cases h with
 | cells T fr h=>exact .cells T fr (h.mono hl)
 | iter s p=>exact .iter s p
 | number l h=>exact .number l (h.mono hl)
structure WR (P:Program) (E:Env) (wl w:World):Prop where
 own:∀b c s,E b=some (c,s,true)→s=0∧∃ol o,wl.heap[b]? = some ol∧w.heap[c]? = some o∧OR E ol o
 shared:∀b c s,E b=some (c,s,false)→∃(x:Array Value) (T:TypeId) (y:Array Value) (T':TypeId) (fr:Nat × Nat),wl.heap[b]? = some (.cells x T (0,x.size))∧P.info? T=none∧w.heap[c]? = some (.cells y T' fr) ∧
  ∀(i:Nat) u,x[i]? = some u→∃v,y[i+s]? = some v∧VR E u v
 inj:∀b b' c s s' o,E b=some (c,s,true)→E b'=some (c,s',o)→b=b'
 low:∀b x,E b=some x→Fns.G≤b
theorem WR.lt {P:Program} {E:Env} {wl w:World} (h:WR P E wl w) {b:Nat} {x:Nat × Nat × Bool} (e:E b=some x):b<wl.heap.size∧x.1<w.heap.size:=by
 obtain ⟨c,s,o⟩:=x
 cases o
 ·obtain ⟨x,T,y,T',fr,h1,_,h2,_⟩:=h.shared b c s e
  exact ⟨(Array.getElem?_eq_some_iff.1 h1).1,(Array.getElem?_eq_some_iff.1 h2).1⟩
 ·obtain ⟨_,ol,o,h1,h2,_⟩:=h.own b c s e
  exact ⟨(Array.getElem?_eq_some_iff.1 h1).1,(Array.getElem?_eq_some_iff.1 h2).1⟩
def TA (wl w:World):Prop:=∀i q,wl.tape (wl.drawn+i) q=w.tape (w.drawn+i) q
inductive ef (E:Env):Event→Prop
 | read {a:Addr} {b s:Nat} {o:Bool} (h:E b=some (a.block,s,o)):ef E ⟨.cell a,false,false⟩
 | write {a:Addr} {b s:Nat} (h:E b=some (a.block,s,true)):ef E ⟨.cell a,true,false⟩
 | obj {r:Nat} {b s:Nat} (wr:Bool) (h:E b=some (r,s,true)):ef E ⟨.obj r,wr,false⟩
 | noRoom:ef E ⟨.mark .noRoom,false,true⟩
omit [Fns] in
theorem ef.mono {E E':Env} (hl:E.le E') {e:Event} (h:ef E e):ef E' e:=by
 cases h with
 | read h=>exact .read (hl _ _ h)
 | write h=>exact .write (hl _ _ h)
 | obj wr h=>exact .obj wr (hl _ _ h)
 | noRoom=>exact .noRoom
structure FC (E E':Env) (w w':World):Prop where
 le:E.le E'
 os:w'.os=w.os
 tape:w'.tape=w.tape
 output:w'.output=w.output
 size:w.heap.size≤w'.heap.size
 keep:∀c,c<w.heap.size→(∀b s,E b≠some (c,s,true))→w'.heap[c]? = w.heap[c]?
 fresh:∀b c s o,E' b=some (c,s,o)→E b=some (c,s,o)∨(w.heap.size≤c∧c<w'.heap.size∧o=true)
omit [Fns] in
theorem FC.refl (E:Env) (w:World):FC E E w w:=⟨E.le_refl,rfl,rfl,rfl,Nat.le_refl _,fun _ _ _=>rfl,fun _ _ _ _ h=>.inl h⟩
omit [Fns] in
theorem FC.trans {A B C:Env} {w v u:World} (h:FC A B w v) (h':FC B C v u):FC A C w u:=by
 refine ⟨Env.le_trans h.le h'.le,h'.os.trans h.os,h'.tape.trans h.tape,h'.output.trans h.output,Nat.le_trans h.size h'.size,fun c hc hn=>?_,fun b c s o e=>?_⟩
 ·rw[h'.keep c (Nat.lt_of_lt_of_le hc h.size) (fun b s e=>?_),h.keep c hc hn]
  rcases h.fresh b c s true e with e' | ⟨e',_⟩
  ·exact hn b s e'
  ·omega
 ·rcases h'.fresh b c s o e with e' | ⟨e1,e2,e3⟩
  ·rcases h.fresh b c s o e' with e'' | ⟨e1,e2,e3⟩
   ·exact .inl e''
   ·exact .inr ⟨e1,Nat.lt_of_lt_of_le e2 h'.size,e3⟩
  ·exact .inr ⟨Nat.le_trans h.size e1,e2,e3⟩
end Cs
namespace Cs
variable [Fns]
def ShR (P:Program) (o:Bool) (x y:Option (TypeId × Nat)):Prop:=(o=true∧x=y)∨(o=false∧∃T n T' n',x=some (T,n)∧y=some (T',n')∧P.info? T=none)
def lJ:Halt→Prop
 | .panic _ | .stuck _=>True
 | .unsupported u=>∀g,u≠.initOrder g
 | _=>False
def cZ (P:Program) {α:Type} (m:Sem α):Prop:=∀w,∃h w',m.run P w=.halt h w'∧lJ h
inductive SR (P:Program) {α β:Type} (R:Env→α→β→Prop):Env→Sem α→Sem β→Prop
 | pure {E:Env} {a:α} {b:β} (h:R E a b):SR P R E (.pure a) (.pure b)
 | rE {E:Env} {ml:Sem α} {m:Sem β} (h:cZ P ml):SR P R E ml m
 | load {E:Env} {al a:Addr} {kl:Value→Sem α} {k:Value→Sem β} (ha:AR E al a) (hk:∀u v,VR E u v→SR P R E (kl u) (k v)):SR P R E (.load .plain al kl) (.load .plain a k)
 | store {E:Env} {al a:Addr} {u v:Value} {kl:Sem α} {k:Sem β} (ha:AR E al a) (hv:VR E u v) (hk:SR P R E kl k):SR P R E (.store .plain al u kl) (.store .plain a v k)
 | new {E:Env} {ol o:Obj} {kl:Nat→Sem α} {k:Nat→Sem β} (ho:OR E ol o) (hk:∀E' bl b,E.le E'→E' bl=some (b,0,true)→Fns.G≤bl→SR P R E' (kl bl) (k b)):SR P R E (.new ol kl) (.new o k)
 | shape {E:Env} {bl b s:Nat} {o:Bool} {kl:Option (TypeId × Nat)→Sem α} {k:Option (TypeId × Nat)→Sem β} (h:E bl=some (b,s,o)) (hk:∀x y,ShR P o x y→SR P R E (kl x) (k y)):SR P R E (.shape bl kl) (.shape b k)
 | freeze {E:Env} {al a:Addr} {n:Nat} {kl:Sem α} {k:Sem β} (h:E al.block=some (a.block,0,true)) (ho:a.off=al.off) (hk:SR P R E kl k):SR P R E (.freeze al n kl) (.freeze a n k)
 | getObj {E:Env} {bl b s:Nat} {o:Bool} {kl:Obj→Sem α} {k:Obj→Sem β} (h:E bl=some (b,s,o)) (hk:∀x y,OR E x y→SR P R E (kl x) (k y)):SR P R E (.getObj bl kl) (.getObj b k)
 | dR {E:Env} {bl b s:Nat} {kl:Obj→Sem α} {m:Sem β} (h:E bl=some (b,s,false)):SR P R E (.getObj bl kl) m
 | setObj {E:Env} {bl b s:Nat} {o:Bool} {x y:Obj} {kl:Sem α} {k:Sem β} (h:E bl=some (b,s,o)) (ho:OR E x y) (hk:SR P R E kl k):SR P R E (.setObj bl x kl) (.setObj b y k)
 | choose {E:Env} (q:Question) {kl:Nat→Sem α} {k:Nat→Sem β} (hk:∀n,SR P R E (kl n) (k n)):SR P R E (.choose q kl) (.choose q k)
 | program {E:Env} {kl:Program→Sem α} {k:Program→Sem β} (hk:SR P R E (kl P) (k P)):SR P R E (.program kl) (.program k)
 | noRoom {E:Env} {kl:Sem α} {k:Sem β} (hk:SR P R E kl k):SR P R E (.mark .noRoom kl) (.mark .noRoom k)
section
variable {P:Program} {E:Env} {wl w:World}
omit [Fns] in
theorem jY {w:World} {a:Addr} {v:Value} (h:w.cell? a=some v):∃c T fr,w.heap[a.block]? = some (.cells c T fr)∧a.spot=none∧c[a.off]? = some v:=by
 unfold World.cell? at h
 split at h
 ·rename_i c T fr hc
  cases hs:a.spot with
  | none=>rw[hs] at h;exact ⟨c,T,fr,hc,rfl,h⟩
  | some x=>rw[hs] at h;cases h
 ·cases h
omit [Fns] in
theorem cell_of {w:World} {a:Addr} {v:Value} {c:Array Value} {T:TypeId} {fr:Nat × Nat} (h1:w.heap[a.block]? = some (.cells c T fr)) (h2:a.spot=none) (h3:c[a.off]? = some v):w.cell? a=some v:=by
 unfold World.cell?
 rw[h1,h2]
 exact h3
theorem WR.cell (h:WR P E wl w) {al a:Addr} (ha:AR E al a) {u:Value} (hu:wl.cell? al=some u):∃v,w.cell? a=some v∧VR E u v:=by
 obtain ⟨c,T,fr,h1,h2,h3⟩:=jY hu
 obtain ⟨s,o,e1,e2,e3,_⟩:=ha
 cases o
 ·obtain ⟨x,T1,y,T2,fr2,k1,_,k2,k3⟩:=h.shared _ _ _ e1
  rw[h1] at k1
  cases k1
  obtain ⟨v,hv1,hv2⟩:=k3 _ _ h3
  exact ⟨v,cell_of k2 (by rw[e3,h2]) (by rw[e2];exact hv1),hv2⟩
 ·obtain ⟨rfl,ol,o,k1,k2,k3⟩:=h.own _ _ _ e1
  rw[h1] at k1
  cases k1
  cases k3 with
  | cells T fr hl =>
   obtain ⟨v,hv1,hv2⟩:=hl.get h3
   exact ⟨v,cell_of k2 (by rw[e3,h2]) (by rw[e2];exact hv1),hv2⟩
omit [Fns] in
theorem ku {α:Type} (x:Array α) (j:Nat) (f:α→α) (i:Nat):(x.modify j f)[i]? = if j=i then (x[i]?).map f else x[i]?:=by
 rw[Array.getElem?_modify]
theorem WR.kq (h:WR P E wl w) {bl b:Nat} (e:E bl=some (b,0,true)) {ol o:Obj} (ho:OR E ol o) {wl' w':World} (h1:∀i,wl'.heap[i]? = if bl=i then some ol else wl.heap[i]?) (h2:∀i,w'.heap[i]? = if b=i then some o else w.heap[i]?):WR P E wl' w':=by
 refine ⟨fun x c s hx=>?_,fun x c s hx=>?_,h.inj,h.low⟩
 ·obtain ⟨k0,xl,xo,k1,k2,k3⟩:=h.own x c s hx
  refine ⟨k0,?_⟩
  by_cases hb:bl=x
  ·subst hb
   rw[e] at hx
   cases hx
   exact ⟨ol,o,by rw[h1,if_pos rfl],by rw[h2,if_pos rfl],ho⟩
  ·refine ⟨xl,xo,by rw[h1,if_neg hb];exact k1,?_,k3⟩
   rw[h2,if_neg (fun hc=>hb (h.inj _ _ _ _ _ _ e (by rw[hc];exact hx)))]
   exact k2
 ·obtain ⟨xs,T,ys,T',fr,k1,k2,k3,k4⟩:=h.shared x c s hx
  refine ⟨xs,T,ys,T',fr,?_,k2,?_,k4⟩
  ·rw[h1,if_neg (fun hb=>by subst hb;rw[e] at hx;cases hx)];exact k1
  ·rw[h2,if_neg (fun hc=>by
    have:=h.inj _ _ _ _ _ _ e (by rw[hc];exact hx)
    subst this
    rw[e] at hx
    cases hx)]
   exact k3
omit [Fns] in
theorem eZ (w:World) (a:Addr) (v:Value) {c:Array Value} {T:TypeId} {fr:Nat × Nat} (h:w.heap[a.block]? = some (.cells c T fr)) (hs:a.spot=none) (i:Nat):(w.setCell a v).heap[i]? = if a.block=i then some (.cells (c.setIfInBounds a.off v) T fr) else w.heap[i]?:=by
 unfold World.setCell
 show (w.heap.modify _ _)[i]? = _
 rw[ku]
 by_cases e:a.block=i
 ·rw[if_pos e,if_pos e,←e,h,hs]
  rfl
 ·rw[if_neg e,if_neg e]
def Env.put (E:Env) (bl b:Nat):Env:=fun i=>if i=bl then some (b,0,true) else E i
theorem WR.new (h:WR P E wl w) (hG:Fns.G≤wl.heap.size) {ol o:Obj} (ho:OR E ol o):E.le (E.put wl.heap.size w.heap.size)∧WR P (E.put wl.heap.size w.heap.size) { wl with heap:=wl.heap.push ol } { w with heap:=w.heap.push o }:=by
 have hle:E.le (E.put wl.heap.size w.heap.size):=fun b x e=>by
  unfold Env.put
  rw[if_neg (fun hb=>by have:=(h.lt e).1;omega)]
  exact e
 have old:∀{b:Nat} {x:Obj} {v:World} {y:Obj},v.heap[b]? = some x→(v.heap.push y)[b]? = some x:=fun {b x v y} hb=>by
  rw[Array.getElem?_push,if_neg (by have:=(Array.getElem?_eq_some_iff.1 hb).1;omega)]
  exact hb
 refine ⟨hle,fun b c s hb=>?_,fun b c s hb=>?_,fun b b' c s s' o' hb hb'=>?_,fun b x hb=>?_⟩
 ·unfold Env.put at hb
  by_cases e:b=wl.heap.size
  ·rw[if_pos e] at hb
   cases hb
   exact ⟨rfl,ol,o,by rw[e];simp,by simp,ho.mono hle⟩
  ·rw[if_neg e] at hb
   obtain ⟨k0,xl,xo,k1,k2,k3⟩:=h.own b c s hb
   exact ⟨k0,xl,xo,old k1,old k2,k3.mono hle⟩
 ·unfold Env.put at hb
  by_cases e:b=wl.heap.size
  ·rw[if_pos e] at hb
   cases hb
  ·rw[if_neg e] at hb
   obtain ⟨xs,T,ys,T',fr,k1,k2,k3,k4⟩:=h.shared b c s hb
   exact ⟨xs,T,ys,T',fr,old k1,k2,old k3,fun i u hu=>let ⟨v,a1,a2⟩:=k4 i u hu;⟨v,a1,a2.mono hle⟩⟩
 ·unfold Env.put at hb hb'
  by_cases e:b=wl.heap.size
  ·rw[if_pos e] at hb
   cases hb
   by_cases e':b'=wl.heap.size
   ·rw[e,e']
   ·rw[if_neg e'] at hb'
    have:=(h.lt hb').2
    simp at this
  ·rw[if_neg e] at hb
   by_cases e':b'=wl.heap.size
   ·rw[if_pos e'] at hb'
    cases hb'
    have:=(h.lt hb).2
    simp at this
   ·rw[if_neg e'] at hb'
    exact h.inj b b' c s s' o' hb hb'
 ·unfold Env.put at hb
  by_cases e:b=wl.heap.size
  ·rw[e];exact hG
  ·rw[if_neg e] at hb;exact h.low b x hb
end
end Cs
end Go.Proofs.Ytpdemelchhkfaaa
