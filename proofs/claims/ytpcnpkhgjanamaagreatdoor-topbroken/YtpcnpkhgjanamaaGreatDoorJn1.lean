import Derived.Conc.Events
import Derived.Test.YtpcnpkhgjanamaaGreatDoorPz
namespace Go.Proofs.YtpcnpkhgjanamaaGreatDoor
open Go renaming Value→R2,World→V8,TypeId→Wj,Program→Wr,Event→Ym
open Go.Sem renaming run→Xh,runT→YQ
set_option maxHeartbeats 1000000
namespace Cs
abbrev Env:=Nat→Option (Nat×Nat×Bool)
def Env.le(E E':Env):Prop:=∀b x,E b=some x→E' b=some x
theorem Env.le_refl(E:Env):E.le E:=fun _ _ h=>h
theorem Env.le_trans{A B C:Env}(h:A.le B)(h':B.le C):A.le C:=fun b x e=>h' b x (h b x e)
class aT where
 ok:FuncId→Bool
 G:Nat
variable[aT]
def AR(E:Env)(a b:Addr):Prop:=∃s o,E a.block=some (b.block,s,o)∧b.off=a.off+s∧b.spot=a.spot∧aT.G≤a.block∧(o=true→s=0)
theorem AR.mono{E E':Env}{a b:Addr}(h:AR E a b)(hl:E.le E'):AR E' a b:=by
 obtain⟨s,o,h1,h2⟩:=h;exact⟨s,o,hl _ _ h1,h2⟩
theorem AR.add{E:Env}{a b:Addr}(h:AR E a b)(n:Nat):AR E (a.add n) (b.add n):=by
 obtain⟨s,o,h1,h2,h3,h4⟩:=h;unfold Addr.add;by_cases e:n=0
 ·rw[Wc e,Wc e];exact⟨s,o,h1,h2,h3,h4⟩
 ·rw[V9 e,V9 e];exact⟨s,o,h1,by show b.off+n=a.off+n+s;omega,rfl,h4⟩
def Ri:R2→Bool
 |.agg _|.tuple _|.bool _|.nilIface=>false
 |_=>true
inductive VR(E:Env):R2→R2→Prop
 |bool (b:Bool):VR E (.bool b) (.bool b)
 |int (k:IntKind) (n:Int):VR E (.int k n) (.int k n)
 |string (s:ByteArray):VR E (.string s) (.string s)
 |jm:VR E (.pointer none) (.pointer none)
 |ptr {a b:Addr} (h:AR E a b):VR E (.pointer (some a)) (.pointer (some b))
 |bW (l c:Nat):VR E (.slice none l c) (.slice none l c)
 |slice {a b:Addr} (l c:Nat) (h:AR E a b):VR E (.slice (some a) l c) (.slice (some b) l c)
 |cx (a b:Addr):VR E (.slice (some a) 0 0) (.slice (some b) 0 0)
 |func (f:FuncId) {x y x' y':Array R2} (hf:aT.ok f=true) (h1:x.size=x'.size) (h2:∀(i:Nat) u v,x[i]?=some u→x'[i]?=some v→VR E u v)
   (h3:y.size=y'.size) (h4:∀(i:Nat) u v,y[i]?=some u→y'[i]?=some v→VR E u v):VR E (.func (.func f) x y) (.func (.func f) x' y')
 |nilFunc:VR E .nilFunc .nilFunc
 |nilIface:VR E .nilIface .nilIface
 |qj:VR E (.chan none) (.chan none)
 |any (v:R2) (h:Ri v=true):VR E (.pointer none) v
 |agg {x x':Array R2} (h1:x.size=x'.size) (h2:∀(i:Nat) u v,x[i]?=some u→x'[i]?=some v→VR E u v):VR E (.agg x) (.agg x')
 |tuple {x x':Array R2} (h1:x.size=x'.size) (h2:∀(i:Nat) u v,x[i]?=some u→x'[i]?=some v→VR E u v):VR E (.tuple x) (.tuple x')
theorem VR.mono{E E':Env}(hl:E.le E'){u v:R2}(h:VR E u v):VR E' u v:=by
 induction h with
 |bool b=>exact .bool b
 |int k n=>exact .int k n
 |string s=>exact .string s
 |jm=>exact .jm
 |ptr h=>exact .ptr (h.mono hl)
 |bW l c=>exact .bW l c
 |slice l c h=>exact .slice l c (h.mono hl)
 |cx a b=>exact .cx a b
 |func f hf h1 _ h3 _ i2 i4=>exact .func f hf h1 i2 h3 i4
 |nilFunc=>exact .nilFunc
 |nilIface=>exact .nilIface
 |qj=>exact .qj
 |any v h=>exact .any v h
 |agg h1 _ i2=>exact .agg h1 i2
 |tuple h1 _ i2=>exact .tuple h1 i2
structure LR(E:Env)(x y:Array R2):Prop where
 size:x.size=y.size
 at_:∀(i:Nat) u v,x[i]?=some u→y[i]?=some v→VR E u v
theorem LR.mono{E E':Env}(hl:E.le E'){x y:Array R2}(h:LR E x y):LR E' x y:=⟨h.size,fun i u v a b=>(h.at_ i u v a b).mono hl⟩
theorem VR.lK{E:Env}{x y:Array R2}(h:LR E x y):VR E (.agg x) (.agg y):=.agg h.size h.at_
theorem VR.mkTuple{E:Env}{x y:Array R2}(h:LR E x y):VR E (.tuple x) (.tuple y):=.tuple h.size h.at_
theorem LR.get{E:Env}{x y:Array R2}(h:LR E x y){i:Nat}{u:R2}(hu:x[i]?=some u):∃v,y[i]?=some v∧VR E u v:=by
 have hi:i<x.size:=(Wd.1 hu).1;have hj:i<y.size:=by have:=h.size;omega
 exact⟨y[i],Wl hj,h.at_ i u _ hu (Wl hj)⟩
theorem LR.none{E:Env}{x y:Array R2}(h:LR E x y){i:Nat}(hu:x[i]?=Option.none):y[i]?=Option.none:=by
 have:¬i<x.size:=fun hi=>by rw[Wl hi]at hu;cases hu
 exact Wv (by have:=h.size;omega)
theorem LR.nil(E:Env):LR E #[] #[]:=⟨rfl,fun i u v h=>by simp at h⟩
theorem LR.one{E:Env}{u v:R2}(h:VR E u v):LR E #[u] #[v]:=⟨rfl,fun i a b ha hb=>by
 have hi:i<1:=by have:=(Wd.1 ha).1;simpa using this
 obtain rfl:i=0:=vom;simp at ha hb;subst ha hb;exact h⟩
theorem LR.push{E:Env}{x y:Array R2}{u v:R2}(h:LR E x y)(hv:VR E u v):LR E (x.push u) (y.push v):=⟨by simp[h.size],fun i a b ha hb=>by
 rw[Wq]at ha hb;by_cases e:i=x.size
 ·rw[Wc e]at ha
  rw[Wc (by rw[e,h.size])]at hb;cases ha;cases hb;exact hv
 ·rw[V9 e]at ha
  rw[V9 (by rw[←h.size];exact e)]at hb;exact h.at_ i a b ha hb⟩
theorem LR.app{E:Env}{x y x' y':Array R2}(h:LR E x y)(h':LR E x' y'):LR E (x++x') (y++y'):=⟨by simp[h.size,h'.size],fun i a b ha hb=>by
 rw[Yq]at ha hb;by_cases e:i<x.size
 ·rw[Wc e]at ha
  rw[Wc (by rw[←h.size];exact e)]at hb;exact h.at_ i a b ha hb
 ·rw[V9 e]at ha
  rw[V9 (by rw[←h.size];exact e),←h.size]at hb;exact h'.at_ _ a b ha hb⟩
theorem LR.set{E:Env}{x y:Array R2}{u v:R2}(h:LR E x y)(j:Nat)(hv:VR E u v):LR E (x.setIfInBounds j u) (y.setIfInBounds j v):=⟨by simp[h.size],fun i a b ha hb=>by
 rw[XA]at ha hb;by_cases e:j=i
 ·rw[Wc e]at ha hb
  by_cases e2:j<x.size
  ·rw[Wc e2]at ha
   rw[Wc (by rw[←h.size];exact e2)]at hb;cases ha;cases hb;exact hv
  ·rw[V9 e2]at ha;cases ha
 ·rw[V9 e]at ha hb
  exact h.at_ i a b ha hb⟩
theorem LR.extract{E:Env}{x y:Array R2}(h:LR E x y)(a b:Nat):LR E (x.extract a b) (y.extract a b):=⟨by simp[h.size],fun i u v hu hv=>by
 rw[Array.getElem?_extract]at hu hv;rw[←h.size]at hv;split at hu
 ·rename_i c
  rw[Wc c]at hv;exact h.at_ _ u v hu hv
 ·cases hu⟩
theorem LR.map{E:Env}{α:Type}(l:Array α){f g:α→R2}(h:∀a,VR E (f a) (g a)):LR E (l.map f) (l.map g):=⟨vsi,fun i u v hu hv=>by
 simp only[Array.getElem?_map,Xt]at hu hv;obtain⟨a,h1,rfl⟩:=hu;obtain⟨b,h2,rfl⟩:=hv;rw[h1]at h2;cases h2;exact h a⟩
theorem VR.cells{E:Env}{u v:R2}(h:VR E u v):LR E u.cells v.cells:=by
 cases h with
 |agg h1 h2=>exact⟨h1,h2⟩
 |bool b=>exact LR.one (.bool b)
 |int k n=>exact LR.one (.int k n)
 |string s=>exact LR.one (.string s)
 |jm=>exact LR.one .jm
 |ptr h=>exact LR.one (.ptr h)
 |bW l c=>exact LR.one (.bW l c)
 |slice l c h=>exact LR.one (.slice l c h)
 |cx a b=>exact LR.one (.cx a b)
 |func f hf h1 h2 h3 h4=>exact LR.one (.func f hf h1 h2 h3 h4)
 |nilFunc=>exact LR.one .nilFunc
 |nilIface=>exact LR.one .nilIface
 |qj=>exact LR.one .qj
 |any v h=>
  have e:v.cells=#[v]:=by cases v<;>first|rfl|cases h
  rw[e];exact LR.one (.any v h)
 |tuple h1 h2=>exact LR.one (.tuple h1 h2)
inductive OR(E:Env):Obj→Obj→Prop
 |cells {x y:Array R2} (T:Wj) (fr:Nat×Nat) (h:LR E x y):OR E (.cells x T fr) (.cells y T fr)
 |iter (s:ByteArray) (p:Nat):OR E (.stringIter s p) (.stringIter s p)
 |number {a b:Addr} (l:Bool) (h:AR E a b):OR E (.number a l) (.number b l)
theorem OR.mono{E E':Env}(hl:E.le E'){u v:Obj}(h:OR E u v):OR E' u v:=by
 cases h with
 |cells T fr h=>exact .cells T fr (h.mono hl)
 |iter s p=>exact .iter s p
 |number l h=>exact .number l (h.mono hl)
structure WR(P:Wr)(E:Env)(wl w:V8):Prop where
 own:∀b c s,E b=some (c,s,true)→s=0∧∃ol o,wl.heap[b]?=some ol∧w.heap[c]?=some o∧OR E ol o
 shared:∀b c s,E b=some (c,s,false)→∃(x:Array R2) (T:Wj) (y:Array R2) (T':Wj) (fr:Nat×Nat),wl.heap[b]?=some (.cells x T (0,x.size))∧P.info? T=none∧w.heap[c]?=some (.cells y T' fr)∧
  ∀(i:Nat) u,x[i]?=some u→∃v,y[i+s]?=some v∧VR E u v
 inj:∀b b' c s s' o,E b=some (c,s,true)→E b'=some (c,s',o)→b=b'
 low:∀b x,E b=some x→aT.G≤b
theorem WR.lt{P:Wr}{E:Env}{wl w:V8}(h:WR P E wl w){b:Nat}{x:Nat×Nat×Bool}(e:E b=some x):b<wl.heap.size∧x.1<w.heap.size:=by
 obtain⟨c,s,o⟩:=x;cases o
 ·obtain⟨x,T,y,T',fr,h1,_,h2,_⟩:=h.shared b c s e
  exact⟨(Wd.1 h1).1,(Wd.1 h2).1⟩
 ·obtain⟨_,ol,o,h1,h2,_⟩:=h.own b c s e
  exact⟨(Wd.1 h1).1,(Wd.1 h2).1⟩
def TA(wl w:V8):Prop:=∀i q,wl.tape (wl.drawn+i) q=w.tape (w.drawn+i) q
inductive jH(E:Env):Ym→Prop
 |read {a:Addr} {b s:Nat} {o:Bool} (h:E b=some (a.block,s,o)):jH E ⟨.cell a,false,false⟩
 |write {a:Addr} {b s:Nat} (h:E b=some (a.block,s,true)):jH E ⟨.cell a,true,false⟩
 |obj {r:Nat} {b s:Nat} (wr:Bool) (h:E b=some (r,s,true)):jH E ⟨.obj r,wr,false⟩
 |noRoom:jH E ⟨.mark .noRoom,false,true⟩
omit [aT] in
theorem jH.mono{E E':Env}(hl:E.le E'){e:Ym}(h:jH E e):jH E' e:=by
 cases h with
 |read h=>exact .read (hl _ _ h)
 |write h=>exact .write (hl _ _ h)
 |obj wr h=>exact .obj wr (hl _ _ h)
 |noRoom=>exact .noRoom
structure FC(E E':Env)(w w':V8):Prop where
 le:E.le E'
 os:w'.os=w.os
 tape:w'.tape=w.tape
 output:w'.output=w.output
 size:w.heap.size≤w'.heap.size
 keep:∀c,c<w.heap.size→(∀b s,E b≠some (c,s,true))→w'.heap[c]?=w.heap[c]?
 fresh:∀b c s o,E' b=some (c,s,o)→E b=some (c,s,o)∨(w.heap.size≤c∧c<w'.heap.size∧o=true)
omit [aT] in
theorem FC.refl(E:Env)(w:V8):FC E E w w:=⟨E.le_refl,rfl,rfl,rfl,R3 _,fun _ _ _=>rfl,fun _ _ _ _ h=>.inl h⟩
omit [aT] in
theorem FC.trans{A B C:Env}{w v u:V8}(h:FC A B w v)(h':FC B C v u):FC A C w u:=by
 refine⟨Env.le_trans h.le h'.le,h'.os.trans h.os,h'.tape.trans h.tape,h'.output.trans h.output,Ws h.size h'.size,fun c hc hn=>?_,fun b c s o e=>?_⟩
 ·rw[h'.keep c (WE hc h.size) (fun b s e=>?_),h.keep c hc hn]
  rcases h.fresh b c s true e with e'| ⟨e',_⟩
  ·exact hn b s e'
  ·omega
 ·rcases h'.fresh b c s o e with e'| ⟨e1,e2,e3⟩
  ·rcases h.fresh b c s o e' with e''| ⟨e1,e2,e3⟩
   ·exact .inl e''
   ·exact .inr ⟨e1,WE e2 h'.size,e3⟩
  ·exact .inr ⟨Ws h.size e1,e2,e3⟩
end Cs
namespace Cs
variable[aT]
def ShR(P:Wr)(o:Bool)(x y:Option (Wj×Nat)):Prop:=(o=true∧x=y)∨(o=false∧∃T n T' n',x=some (T,n)∧y=some (T',n')∧P.info? T=none)
def vZ:Halt→Prop
 |.panic _|.stuck _=>True
 |.unsupported u=>∀g,u≠.initOrder g
 |_=>False
def eO(P:Wr){α:Type}(m:Sem α):Prop:=∀w,∃h w',m.run P w=.halt h w'∧vZ h
inductive SR(P:Wr){α β:Type}(R:Env→α→β→Prop):Env→Sem α→Sem β→Prop
 |pure {E:Env} {a:α} {b:β} (h:R E a b):SR P R E (.pure a) (.pure b)
 |dies {E:Env} {ml:Sem α} {m:Sem β} (h:eO P ml):SR P R E ml m
 |load {E:Env} {al a:Addr} {kl:R2→Sem α} {k:R2→Sem β} (ha:AR E al a) (hk:∀u v,VR E u v→SR P R E (kl u) (k v)):SR P R E (.load .plain al kl) (.load .plain a k)
 |store {E:Env} {al a:Addr} {u v:R2} {kl:Sem α} {k:Sem β} (ha:AR E al a) (hv:VR E u v) (hk:SR P R E kl k):SR P R E (.store .plain al u kl) (.store .plain a v k)
 |new {E:Env} {ol o:Obj} {kl:Nat→Sem α} {k:Nat→Sem β} (ho:OR E ol o) (hk:∀E' bl b,E.le E'→E' bl=some (b,0,true)→aT.G≤bl→SR P R E' (kl bl) (k b)):SR P R E (.new ol kl) (.new o k)
 |shape {E:Env} {bl b s:Nat} {o:Bool} {kl:Option (Wj×Nat)→Sem α} {k:Option (Wj×Nat)→Sem β} (h:E bl=some (b,s,o)) (hk:∀x y,ShR P o x y→SR P R E (kl x) (k y)):SR P R E (.shape bl kl) (.shape b k)
 |freeze {E:Env} {al a:Addr} {n:Nat} {kl:Sem α} {k:Sem β} (h:E al.block=some (a.block,0,true)) (ho:a.off=al.off) (hk:SR P R E kl k):SR P R E (.freeze al n kl) (.freeze a n k)
 |getObj {E:Env} {bl b s:Nat} {o:Bool} {kl:Obj→Sem α} {k:Obj→Sem β} (h:E bl=some (b,s,o)) (hk:∀x y,OR E x y→SR P R E (kl x) (k y)):SR P R E (.getObj bl kl) (.getObj b k)
 |gq {E:Env} {bl b s:Nat} {kl:Obj→Sem α} {m:Sem β} (h:E bl=some (b,s,false)):SR P R E (.getObj bl kl) m
 |setObj {E:Env} {bl b s:Nat} {o:Bool} {x y:Obj} {kl:Sem α} {k:Sem β} (h:E bl=some (b,s,o)) (ho:OR E x y) (hk:SR P R E kl k):SR P R E (.setObj bl x kl) (.setObj b y k)
 |choose {E:Env} (q:Question) {kl:Nat→Sem α} {k:Nat→Sem β} (hk:∀n,SR P R E (kl n) (k n)):SR P R E (.choose q kl) (.choose q k)
 |program {E:Env} {kl:Wr→Sem α} {k:Wr→Sem β} (hk:SR P R E (kl P) (k P)):SR P R E (.program kl) (.program k)
 |noRoom {E:Env} {kl:Sem α} {k:Sem β} (hk:SR P R E kl k):SR P R E (.mark .noRoom kl) (.mark .noRoom k)
section
variable{P:Wr}{E:Env}{wl w:V8}
omit [aT] in
theorem cN{w:V8}{a:Addr}{v:R2}(h:w.cell? a=some v):∃c T fr,w.heap[a.block]?=some (.cells c T fr)∧a.spot=none∧c[a.off]?=some v:=by
 unfold World.cell? at h;split at h
 ·rename_i c T fr hc
  cases hs:a.spot with
  |none=>rw[hs]at h;exact⟨c,T,fr,hc,rfl,h⟩
  |some x=>rw[hs]at h;cases h
 ·cases h
omit [aT] in
theorem cell_of{w:V8}{a:Addr}{v:R2}{c:Array R2}{T:Wj}{fr:Nat×Nat}(h1:w.heap[a.block]?=some (.cells c T fr))(h2:a.spot=none)(h3:c[a.off]?=some v):w.cell? a=some v:=by
 unfold World.cell?;rw[h1,h2];exact h3
theorem WR.cell(h:WR P E wl w){al a:Addr}(ha:AR E al a){u:R2}(hu:wl.cell? al=some u):∃v,w.cell? a=some v∧VR E u v:=by
 obtain⟨c,T,fr,h1,h2,h3⟩:=cN hu;obtain⟨s,o,e1,e2,e3,_⟩:=ha;cases o
 ·obtain⟨x,T1,y,T2,fr2,k1,_,k2,k3⟩:=h.shared _ _ _ e1
  rw[h1]at k1;cases k1;obtain⟨v,hv1,hv2⟩:=k3 _ _ h3;exact⟨v,cell_of k2 (by rw[e3,h2]) (by rw[e2];exact hv1),hv2⟩
 ·obtain⟨rfl,ol,o,k1,k2,k3⟩:=h.own _ _ _ e1
  rw[h1]at k1;cases k1;cases k3 with
  |cells T fr hl=>
   obtain⟨v,hv1,hv2⟩:=hl.get h3;exact⟨v,cell_of k2 (by rw[e3,h2]) (by rw[e2];exact hv1),hv2⟩
omit [aT] in
theorem qO{α:Type}(x:Array α)(j:Nat)(f:α→α)(i:Nat):(x.modify j f)[i]?=if j=i then(x[i]?).map f else x[i]?:=by
 rw[Array.getElem?_modify]
theorem WR.iB(h:WR P E wl w){bl b:Nat}(e:E bl=some (b,0,true)){ol o:Obj}(ho:OR E ol o){wl' w':V8}(h1:∀i,wl'.heap[i]?=if bl=i then some ol else wl.heap[i]?)(h2:∀i,w'.heap[i]?=if b=i then some o else w.heap[i]?):WR P E wl' w':=by
 refine⟨fun x c s hx=>?_,fun x c s hx=>?_,h.inj,h.low⟩
 ·obtain⟨k0,xl,xo,k1,k2,k3⟩:=h.own x c s hx
  refine⟨k0,?_⟩;by_cases hb:bl=x
  ·subst hb
   rw[e]at hx;cases hx;exact⟨ol,o,by rw[h1,Wc rfl],by rw[h2,Wc rfl],ho⟩
  ·refine⟨xl,xo,by rw[h1,V9 hb];exact k1,?_,k3⟩
   rw[h2,V9 (fun hc=>hb (h.inj _ _ _ _ _ _ e (by rw[hc];exact hx)))];exact k2
 ·obtain⟨xs,T,ys,T',fr,k1,k2,k3,k4⟩:=h.shared x c s hx
  refine⟨xs,T,ys,T',fr,?_,k2,?_,k4⟩
  ·rw[h1,V9 (fun hb=>by subst hb;rw[e]at hx;cases hx)];exact k1
  ·rw[h2,V9 (fun hc=>by
    have:=h.inj _ _ _ _ _ _ e (by rw[hc];exact hx);subst this;rw[e]at hx;cases hx)]
   exact k3
omit [aT] in
theorem fu(w:V8)(a:Addr)(v:R2){c:Array R2}{T:Wj}{fr:Nat×Nat}(h:w.heap[a.block]?=some (.cells c T fr))(hs:a.spot=none)(i:Nat):(w.setCell a v).heap[i]?=if a.block=i then some (.cells (c.setIfInBounds a.off v) T fr)else w.heap[i]?:=by
 unfold World.setCell;show(w.heap.modify _ _)[i]?=_;rw[qO];by_cases e:a.block=i
 ·rw[Wc e,Wc e,←e,h,hs]
  rfl
 ·rw[V9 e,V9 e]
def Env.put(E:Env)(bl b:Nat):Env:=fun i=>if i=bl then some (b,0,true)else E i
theorem WR.new(h:WR P E wl w)(hG:aT.G≤wl.heap.size){ol o:Obj}(ho:OR E ol o):E.le (E.put wl.heap.size w.heap.size)∧WR P (E.put wl.heap.size w.heap.size) { wl with heap:=wl.heap.push ol } { w with heap:=w.heap.push o }:=by
 have a:E.le (E.put wl.heap.size w.heap.size):=fun b x e=>by
  unfold Env.put;rw[V9 (fun hb=>by have:=(h.lt e).1;omega)];exact e
 have old:∀{b:Nat} {x:Obj} {v:V8} {y:Obj},v.heap[b]?=some x→(v.heap.push y)[b]?=some x:=fun {b x v y} hb=>by
  rw[Wq,V9 (by have:=(Wd.1 hb).1;omega)];exact hb
 refine⟨a,fun b c s hb=>?_,fun b c s hb=>?_,fun b b' c s s' o' hb hb'=>?_,fun b x hb=>?_⟩
 ·unfold Env.put at hb
  by_cases e:b=wl.heap.size
  ·rw[Wc e]at hb
   cases hb;exact⟨rfl,ol,o,by rw[e];simp,vsi,ho.mono a⟩
  ·rw[V9 e]at hb
   obtain⟨k0,xl,xo,k1,k2,k3⟩:=h.own b c s hb;exact⟨k0,xl,xo,old k1,old k2,k3.mono a⟩
 ·unfold Env.put at hb
  by_cases e:b=wl.heap.size
  ·rw[Wc e]at hb
   cases hb
  ·rw[V9 e]at hb
   obtain⟨xs,T,ys,T',fr,k1,k2,k3,k4⟩:=h.shared b c s hb;exact⟨xs,T,ys,T',fr,old k1,k2,old k3,fun i u hu=>let⟨v,a1,a2⟩:=k4 i u hu;⟨v,a1,a2.mono a⟩⟩
 ·unfold Env.put at hb hb'
  by_cases e:b=wl.heap.size
  ·rw[Wc e]at hb
   cases hb;by_cases e':b'=wl.heap.size
   ·rw[e,e']
   ·rw[V9 e']at hb'
    have:=(h.lt hb').2;simp at this
  ·rw[V9 e]at hb
   by_cases e':b'=wl.heap.size
   ·rw[Wc e']at hb'
    cases hb';have:=(h.lt hb).2;simp at this
   ·rw[V9 e']at hb'
    exact h.inj b b' c s s' o' hb hb'
 ·unfold Env.put at hb
  by_cases e:b=wl.heap.size
  ·rw[e];exact hG
  ·rw[V9 e]at hb;exact h.low b x hb
end
structure fZ(P:Wr)(E:Env)(wl w:V8):Prop where
 wr:WR P E wl w
 ta:TA wl w
 gF:aT.G≤wl.heap.size
def O9(P:Wr){α β:Type}(R:Env→α→β→Prop)(E:Env)(m:Sem β)(w:V8)(es:Array Ym)(al:α)(wl':V8):Prop:=
 ∃E' a w' es',m.runT P w es=(.ok a w',es++es')∧R E' al a∧fZ P E' wl' w'∧(∀e∈es',jH E' e)∧FC E E' w w'
def Out(P:Wr){α β:Type}(R:Env→α→β→Prop)(E:Env)(m:Sem β)(w:V8)(es:Array Ym):Result α→Prop
 |.ok al wl'=>O9 P R E m w es al wl'
 |.halt h _=>vZ h
section
variable{P:Wr}{α β:Type}{R:Env→α→β→Prop}{E:Env}{wl w:V8}
omit [aT] in
theorem FC.set{E:Env}{w w':V8}{bl b s:Nat}(e:E bl=some (b,s,true))(h1:w'.os=w.os)(h2:w'.tape=w.tape)(h3:w'.output=w.output)(h4:w'.heap.size=w.heap.size)(h5:∀i,b≠i→w'.heap[i]?=w.heap[i]?):FC E E w w':=
 ⟨E.le_refl,h1,h2,h3,vom,fun c _ hn=>h5 c (fun hc=>hn bl s (by rw[←hc];exact e)),fun _ _ _ _ h=>.inl h⟩
theorem O9.next{m m':Sem β}{w':V8}{es:Array Ym}{al:α}{wl':V8}{e:Ym}{E':Env}(hstep:m.runT P w es=m'.runT P w' (es.push e))(he:jH E' e)(hf:FC E E' w w')(h:O9 P R E' m' w' (es.push e) al wl'):O9 P R E m w es al wl':=by
 obtain⟨E2,a,w2,es2,h1,h2,h3,h4,h5⟩:=h;refine⟨E2,a,w2,#[e]++es2,by rw[hstep,h1,←Array.append_singleton,Yw],h2,h3,fun x hx=>?_,hf.trans h5⟩;rcases Array.mem_append.1 hx with hx|hx
 ·simp at hx;rw[hx];exact he.mono h5.le
 ·exact h4 x hx
theorem O9.quiet{m m':Sem β}{w':V8}{es:Array Ym}{al:α}{wl':V8}{E':Env}(hstep:m.runT P w es=m'.runT P w' es)(hf:FC E E' w w')(h:O9 P R E' m' w' es al wl'):O9 P R E m w es al wl':=by
 obtain⟨E2,a,w2,es2,h1,h2,h3,h4,h5⟩:=h;exact⟨E2,a,w2,es2,by rw[hstep,h1],h2,h3,h4,hf.trans h5⟩
theorem VR.one{u v:R2}(h:VR E u v):(∀c,u≠.agg c)→(∀c,u≠.tuple c)→(∀c,v≠.agg c)∧∀c,v≠.tuple c:=fun h1 h2=>by
 cases h with
 |agg a b=>exact absurd rfl (h1 _)
 |tuple a b=>exact absurd rfl (h2 _)
 |any v h=>exact⟨(fun c e=>by subst e;cases h),(fun c e=>by subst e;cases h)⟩
 |_=>exact⟨(fun c e=>by cases e),(fun c e=>by cases e)⟩
omit [aT] in
theorem run_store{α:Type}(P:Wr)(a:Addr)(v:R2)(k:Sem α)(w:V8)(h1:∀c,v≠.agg c)(h2:∀c,v≠.tuple c):(Sem.store .plain a v k).run P w=(match w.cell? a with
  | some _ => if w.frozen? a then .halt (.unsupported (.unsafePointer "a write to bytes that a string shares")) w else k.run P (w.setCell a v)
  |none=>match w.farStore P a v false with
   |.ok (w,_)=>k.run P w
   |.error h=>.halt h w):=by
 cases v<;>first|rfl|exact absurd rfl (h1 _)|exact absurd rfl (h2 _)
omit [aT] in
theorem D7{α:Type}(P:Wr)(a:Addr)(v:R2)(k:Sem α)(w:V8)(es:Array Ym)(h1:∀c,v≠.agg c)(h2:∀c,v≠.tuple c){x:R2}(hx:w.cell? a=some x)(hf:w.frozen? a=false):(Sem.store .plain a v k).runT P w es=k.runT P (w.setCell a v) (es.push ⟨.cell a,true,false⟩):=by
 cases v<;>first|exact absurd rfl (h1 _)|exact absurd rfl (h2 _)|(simp only[YQ,hx,hf];rfl)
omit [aT] in
theorem iq{w:V8}{a:Addr}{c:Array R2}{T:Wj}{fr:Nat×Nat}(h:w.heap[a.block]?=some (.cells c T fr)):w.frozen? a=(decide (fr.1≤a.off)&&decide (a.off<fr.2)):=by
 unfold World.frozen?;rw[h]
omit [aT] in
theorem jy(w:V8)(a:Addr)(n:Nat){c:Array R2}{T:Wj}{fr:Nat×Nat}(h:w.heap[a.block]?=some (.cells c T fr))(i:Nat):(w.freeze a n).heap[i]?=if a.block=i then some (.cells c T (if n=0 then fr else(if fr.1==fr.2 then(a.off,a.off+n)else(min fr.1 a.off,max fr.2 (a.off+n)))))else w.heap[i]?:=by
 unfold World.freeze;by_cases hn:n=0
 ·rw[Wc hn,Wc hn]
  by_cases e:a.block=i
  ·rw[Wc e,←e,h]
  ·rw[V9 e]
 ·rw[V9 hn,V9 hn]
  show(w.heap.modify _ _)[i]?=_;rw[qO];by_cases e:a.block=i
  ·rw[Wc e,Wc e,←e,h]
   rfl
  ·rw[V9 e,V9 e]
omit [aT] in
theorem cR(w:V8)(a:Addr)(n:Nat)(h:∀c T fr,w.heap[a.block]?≠some (.cells c T fr))(i:Nat):(w.freeze a n).heap[i]?=w.heap[i]?:=by
 unfold World.freeze;by_cases hn:n=0
 ·rw[Wc hn]
 ·rw[V9 hn]
  show(w.heap.modify _ _)[i]?=_;rw[qO];by_cases e:a.block=i
  ·rw[Wc e]
   subst e;cases ho:w.heap[a.block]? with
   |none=>rfl
   |some o=>
    cases o<;>first|rfl|exact absurd ho (h _ _ _)
  ·rw[V9 e]
omit [aT] in
theorem je(w:V8)(a:Addr)(n:Nat):(w.freeze a n).os=w.os∧(w.freeze a n).tape=w.tape∧(w.freeze a n).output=w.output∧(w.freeze a n).heap.size=w.heap.size∧(w.freeze a n).drawn=w.drawn:=by
 unfold World.freeze;by_cases hn:n=0
 ·rw[Wc hn];exact⟨rfl,rfl,rfl,rfl,rfl⟩
 ·rw[V9 hn];exact⟨rfl,rfl,rfl,vsi,rfl⟩
theorem Out.next{m m':Sem β}{w':V8}{es:Array Ym}{r:Result α}{e:Ym}{E':Env}(hstep:m.runT P w es=m'.runT P w' (es.push e))(he:jH E' e)(hf:FC E E' w w')(h:Out P R E' m' w' (es.push e) r):Out P R E m w es r:=by
 cases r with
 |ok al wl'=>exact O9.next hstep he hf h
 |halt x v=>exact h
theorem Out.quiet{m m':Sem β}{w':V8}{es:Array Ym}{r:Result α}{E':Env}(hstep:m.runT P w es=m'.runT P w' es)(hf:FC E E' w w')(h:Out P R E' m' w' es r):Out P R E m w es r:=by
 cases r with
 |ok al wl'=>exact O9.quiet hstep hf h
 |halt x v=>exact h
theorem B4(h:WR P E wl w){al a:Addr}(ha:AR E al a)(what:String):∃s,wl.noCell al what=.stuck s:=by
 obtain⟨s,o,e1,e2,e3,_⟩:=ha;unfold World.noCell;cases o
 ·obtain⟨x,T1,y,T2,fr2,k1,_,k2,k3⟩:=h.shared _ _ _ e1
  rw[k1];exact⟨_,rfl⟩
 ·obtain⟨rfl,ol,o,k1,k2,k3⟩:=h.own _ _ _ e1
  rw[k1];cases k3<;>exact⟨_,rfl⟩
theorem pX(h:WR P E wl w){al a:Addr}(ha:AR E al a)(at':Bool):∃s,wl.farLoad P al at'=.error (.stuck s):=by
 obtain ⟨s, hs⟩ := B4 h ha "load: no such cell"
 refine⟨s,?_⟩;obtain⟨sh,o,e1,e2,e3,_⟩:=ha;unfold World.farLoad;cases o
 ·obtain⟨x,T1,y,T2,fr2,k1,_,k2,k3⟩:=h.shared _ _ _ e1
  rw[k1,hs]
 ·obtain⟨rfl,ol,o,k1,k2,k3⟩:=h.own _ _ _ e1
  rw[k1];cases k3<;>simp only[hs]
theorem nN(h:WR P E wl w){al a:Addr}(ha:AR E al a)(v:R2)(at':Bool):∃s,wl.farStore P al v at'=.error (.stuck s):=by
 obtain ⟨s, hs⟩ := B4 h ha "store: no such cell"
 refine⟨s,?_⟩;obtain⟨sh,o,e1,e2,e3,_⟩:=ha;unfold World.farStore;cases o
 ·obtain⟨x,T1,y,T2,fr2,k1,_,k2,k3⟩:=h.shared _ _ _ e1
  rw[k1,hs]
 ·obtain⟨rfl,ol,o,k1,k2,k3⟩:=h.own _ _ _ e1
  rw[k1];cases k3<;>simp only[hs]
theorem SR.run{ml:Sem α}{m:Sem β}(h:SR P R E ml m):∀wl w es,fZ P E wl w→Out P R E m w es (ml.run P wl):=by
 induction h with
 |pure h=>
  intro wl w es hb;exact⟨_,_,w,#[],by simp[YQ],h,hb,fun e he=>by simp at he,FC.refl _ _⟩
 |dies h=>
  intro wl w es hb;obtain⟨x,w',h1,h2⟩:=h wl;rw[h1];exact h2
 |@load E al a kl k ha hk ih=>
  intro wl w es hb;cases hc:wl.cell? al with
  |none=>
   obtain⟨s,hs⟩:=pX hb.wr ha (Mode.plain==.atomic);simp only[Xh,hc,hs];exact trivial
  |some u=>
   simp only[Xh,hc];obtain⟨v,hv1,hv2⟩:=hb.wr.cell ha hc;refine Out.next (e:=⟨.cell a,false,false⟩) (by simp only[YQ,hv1];rfl) ?_ (FC.refl _ _) (ih u v hv2 wl w _ hb)
   obtain⟨s,o,e1,_⟩:=ha;exact .read e1
 |@store E al a u v kl k ha hv hk ih=>
  intro wl w es hb;by_cases hag:∃c,u=.agg c
  ·obtain⟨c,rfl⟩:=hag
   simp only[Xh];exact trivial
  by_cases htu:∃c,u=.tuple c
  ·obtain⟨c,rfl⟩:=htu
   simp only[Xh];exact trivial
  have n1:∀c,u≠.agg c:=fun c e=>hag ⟨c,e⟩;have n2:∀c,u≠.tuple c:=fun c e=>htu ⟨c,e⟩;obtain⟨n3,n4⟩:=hv.one n1 n2;rw[run_store P al u kl wl n1 n2];cases hc:wl.cell? al with
  |none=>
   obtain⟨s,hs⟩:=nN hb.wr ha u false;simp only[hs];exact trivial
  |some u0=>
   cases hfz:wl.frozen? al
   case true=>
    simp only[YI];exact fun g e=>by cases e
   simp only[WV,X9];obtain⟨v0,hv1,hv2⟩:=hb.wr.cell ha hc;obtain⟨s,o,e1,e2,e3,_⟩:=ha;obtain⟨c,T,fr,g1,g2,g3⟩:=cN hc;cases o
   ·obtain⟨xs,T1,y,T2,fr2,k1,_,k2,k3⟩:=hb.wr.shared _ _ _ e1
    rw[g1]at k1;cases k1;rw[iq g1]at hfz;have:=(Wd.1 g3).1;simp at hfz;omega
   ·obtain⟨rfl,ol,oo,k1,k2,k3⟩:=hb.wr.own _ _ _ e1
    rw[g1]at k1;cases k1;cases k3 with
    |@cells _ y _ _ hl=>
     have d:a.off=al.off:=by rw[e2];rfl
     have j:a.spot=none:=by rw[e3,g2]
     have t:w.frozen? a=false:=by rw[iq k2,d,←iq g1];exact hfz
     have hW:WR P E (wl.setCell al u) (w.setCell a v):=hb.wr.iB e1 (.cells T fr (hl.set al.off hv)) (fu wl al u g1 g2) (fun i=>by rw[fu w a v k2 j,d]);have hB:fZ P E (wl.setCell al u) (w.setCell a v):=⟨hW,hb.ta,by unfold World.setCell;simpa using hb.gF⟩
     refine Out.next (e:=⟨.cell a,true,false⟩) (D7 P a v k w es n3 n4 hv1 t) (.write e1) (FC.set e1 rfl rfl rfl (by unfold World.setCell;simp) (fun i hi=>by rw[fu w a v k2 j,V9 hi])) (ih _ _ _ hB)
 |@new E ol o kl k ho hk ih=>
  intro wl w es hb;obtain⟨f,hW⟩:=hb.wr.new hb.gF ho;have hB:fZ P (E.put wl.heap.size w.heap.size) { wl with heap:=wl.heap.push ol } { w with heap:=w.heap.push o }:=⟨hW,hb.ta,by have:=hb.gF;simp;omega⟩
  have hf:FC E (E.put wl.heap.size w.heap.size) w { w with heap:=w.heap.push o }:=by
   refine⟨f,rfl,rfl,rfl,vsi,fun c hc _=>?_,fun b c s o' e=>?_⟩
   ·show(w.heap.push o)[c]?=_
    rw[Wq,V9 vom]
   ·unfold Env.put at e
    by_cases eb:b=wl.heap.size
    ·rw[Wc eb]at e
     cases e;exact .inr ⟨R3 _,vsi,rfl⟩
    ·rw[V9 eb]at e
     exact .inl e
  exact Out.quiet (m':=k w.heap.size) (w':={ w with heap:=w.heap.push o }) rfl hf (ih _ _ _ f (by unfold Env.put;rw[Wc rfl]) hb.gF _ _ _ hB)
 |@shape E bl b s o kl k h hk ih=>
  intro wl w es hb;refine Out.quiet rfl (FC.refl _ _) (ih _ _ ?_ wl w es hb);cases o
  ·obtain⟨xs,T1,y,T2,fr2,k1,k0,k2,k3⟩:=hb.wr.shared _ _ _ h
   exact .inr ⟨rfl,T1,xs.size,T2,y.size,by unfold World.shape?;rw[k1],by unfold World.shape?;rw[k2],k0⟩
  ·obtain⟨rfl,ol,oo,k1,k2,k3⟩:=hb.wr.own _ _ _ h
   refine .inl ⟨rfl,?_⟩;unfold World.shape?;rw[k1,k2];cases k3 with
   |cells T fr hl=>simp only[hl.size]
   |_=>rfl
 |@freeze E al a n kl k h ho hk ih=>
  intro wl w es hb;obtain⟨_,ol,oo,k1,k2,k3⟩:=hb.wr.own _ _ _ h;have r1:=je wl al n;have r2:=je w a n
  have hB:fZ P E (wl.freeze al n) (w.freeze a n):=by
   refine⟨?_,fun i q=>by rw[r1.2.1,r1.2.2.2.2,r2.2.1,r2.2.2.2.2];exact hb.ta i q,by rw[r1.2.2.2.1];exact hb.gF⟩;cases k3 with
   |@cells xs ys T fr hl=>
    refine hb.wr.iB h (.cells T (if n=0 then fr else(if fr.1==fr.2 then(al.off,al.off+n)else(min fr.1 al.off,max fr.2 (al.off+n)))) hl) (jy wl al n k1) (fun i=>?_);rw[jy w a n k2,ho]
   |iter s p=>
    refine hb.wr.iB h (.iter s p) (fun i=>?_) (fun i=>?_)
    ·rw[cR wl al n (fun c T fr e=>by rw[k1]at e;cases e)]
     by_cases e:al.block=i
     ·rw[Wc e,←e,k1]
     ·rw[V9 e]
    ·rw[cR w a n (fun c T fr e=>by rw[k2]at e;cases e)]
     by_cases e:a.block=i
     ·rw[Wc e,←e,k2]
     ·rw[V9 e]
   |number l hn=>
    refine hb.wr.iB h (.number l hn) (fun i=>?_) (fun i=>?_)
    ·rw[cR wl al n (fun c T fr e=>by rw[k1]at e;cases e)]
     by_cases e:al.block=i
     ·rw[Wc e,←e,k1]
     ·rw[V9 e]
    ·rw[cR w a n (fun c T fr e=>by rw[k2]at e;cases e)]
     by_cases e:a.block=i
     ·rw[Wc e,←e,k2]
     ·rw[V9 e]
  refine Out.quiet (m':=k) (w':=w.freeze a n) rfl (FC.set h r2.1 r2.2.1 r2.2.2.1 r2.2.2.2.1 (fun i hi=>?_)) (ih _ _ _ hB);cases hq:w.heap[a.block]? with
  |none=>rw[cR w a n (fun c T fr e=>by rw[hq]at e;cases e)]
  |some q=>
   cases q with
   |cells c T fr=>rw[jy w a n hq,V9 hi]
   |_=>rw[cR w a n (fun c T fr e=>by rw[hq]at e;cases e)]
 |@getObj E bl b s o kl k h hk ih=>
  intro wl w es hb;cases o
  ·obtain⟨xs,T1,y,T2,fr2,k1,k0,k2,k3⟩:=hb.wr.shared _ _ _ h
   simp only[Xh,k1];exact trivial
  ·obtain⟨rfl,ol,oo,k1,k2,k3⟩:=hb.wr.own _ _ _ h
   have k3':=k3;cases k3 with
   |cells T fr hl=>simp only[Xh,k1];exact trivial
   |iter p q=>
    simp only[Xh,k1];exact Out.next (e:=⟨.obj b,false,false⟩) (by simp only[YQ,k2,Obj.isChan]) (.obj false h) (FC.refl _ _) (ih _ _ k3' wl w _ hb)
   |number l hn=>
    simp only[Xh,k1];exact Out.next (e:=⟨.obj b,false,false⟩) (by simp only[YQ,k2,Obj.isChan]) (.obj false h) (FC.refl _ _) (ih _ _ k3' wl w _ hb)
 |@gq E bl b s kl m h=>
  intro wl w es hb;obtain⟨xs,T1,y,T2,fr2,k1,k0,k2,k3⟩:=hb.wr.shared _ _ _ h;simp only[Xh,k1];exact trivial
 |@setObj E bl b s o xo yo kl k h ho hk ih=>
  intro wl w es hb;cases o
  ·obtain⟨xs,T1,y,T2,fr2,k1,k0,k2,k3⟩:=hb.wr.shared _ _ _ h
   simp only[Xh,k1];exact trivial
  ·obtain⟨rfl,ol,oo,k1,k2,k3⟩:=hb.wr.own _ _ _ h
   have l1:=(Wd.1 k1).1;have l2:=(Wd.1 k2).1
   have hB:fZ P E { wl with heap:=wl.heap.setIfInBounds bl xo } { w with heap:=w.heap.setIfInBounds b yo }:=by
    refine⟨hb.wr.iB h ho (fun i=>?_) (fun i=>?_),hb.ta,by simpa using hb.gF⟩
    ·show(wl.heap.setIfInBounds bl xo)[i]?=_
     rw[XA];by_cases e:bl=i
     ·rw[Wc e,Wc e,Wc l1]
     ·rw[V9 e,V9 e]
    ·show(w.heap.setIfInBounds b yo)[i]?=_
     rw[XA];by_cases e:b=i
     ·rw[Wc e,Wc e,Wc l2]
     ·rw[V9 e,V9 e]
   have z:yo.isChan=false:=by cases ho<;>rfl
   have hf:FC E E w { w with heap:=w.heap.setIfInBounds b yo }:=FC.set h rfl rfl rfl vsi (fun i hi=>by
    show(w.heap.setIfInBounds b yo)[i]?=_;rw[XA,V9 hi])
   cases k3 with
   |cells T fr hl=>simp only[Xh,k1];exact trivial
   |iter p q=>
    simp only[Xh,k1];exact Out.next (e:=⟨.obj b,true,false⟩) (by simp only[YQ,k2,z]) (.obj true h) hf (ih _ _ _ hB)
   |number l hn=>
    simp only[Xh,k1];exact Out.next (e:=⟨.obj b,true,false⟩) (by simp only[YQ,k2,z]) (.obj true h) hf (ih _ _ _ hB)
 |@choose E q kl k hk ih=>
  intro wl w es hb;by_cases hq:q.forced=true
  ·simp only[Xh,hq,YI]
   exact Out.quiet (by simp only[YQ,hq,YI]) (FC.refl _ _) (ih 0 wl w es hb)
  ·simp only[Xh,hq]
   have ht:wl.tape wl.drawn q=w.tape w.drawn q:=hb.ta 0 q;rw[ht]
   have hB:fZ P E { wl with drawn:=wl.drawn+1 } { w with drawn:=w.drawn+1 }:=⟨⟨hb.wr.own,hb.wr.shared,hb.wr.inj,hb.wr.low⟩,fun i q'=>by
    have:=hb.ta (1+i) q';show wl.tape (wl.drawn+1+i) q'=w.tape (w.drawn+1+i) q';rw[XS,XS];exact this,hb.gF⟩
   exact Out.quiet (m':=k (q.cut (w.tape w.drawn q))) (w':={ w with drawn:=w.drawn+1 }) (by simp only[YQ,hq];rfl) ⟨E.le_refl,rfl,rfl,rfl,R3 _,fun _ _ _=>rfl,fun _ _ _ _ h=>.inl h⟩ (ih _ _ _ es hB)
 |program hk ih=>
  intro wl w es hb;exact Out.quiet rfl (FC.refl _ _) (ih wl w es hb)
 |noRoom hk ih=>
  intro wl w es hb;exact Out.next (e:=⟨.mark .noRoom,false,true⟩) rfl .noRoom (FC.refl _ _) (ih wl w _ hb)
def _root_.Go.World.tp(w:V8)(τ:Nat→Question→Nat):V8:={ w with tape:=τ }
def Loc(P:Wr){α:Type}(m:Sem α)(w:V8)(a:α)(w':V8):Prop:=
 w.drawn≤w'.drawn∧w'.tape=w.tape∧∀τ,(∀i q,w.drawn≤i→i<w'.drawn→τ i q=w.tape i q)→m.run P (w.tp τ)=.ok a (w'.tp τ)
omit [aT] in
theorem Loc.step'{α:Type}{m m':Sem α}{w v w':V8}{a:α}(h:Loc P m' v a w')(ht:w.tape=v.tape)(hd:w.drawn=v.drawn)(hs:∀τ,m.run P (w.tp τ)=m'.run P (v.tp τ)):Loc P m w a w':=by
 obtain⟨h1,h2,h3⟩:=h;refine⟨vom,by rw[ht];exact h2,fun τ hτ=>?_⟩;rw[hs];exact h3 τ (by rw[←ht,←hd];exact hτ)
omit [aT] in
theorem Loc.step{α:Type}{m m':Sem α}{w v w':V8}{a:α}(h:Loc P m' v a w')(hs:∀τ,m.run P (w.tp τ)=m'.run P (v.tp τ))(ht:w.tape=v.tape:=by rfl)(hd:w.drawn=v.drawn:=by rfl):Loc P m w a w':=h.step' ht hd hs
theorem SR.loc{ml:Sem α}{m:Sem β}(h:SR P R E ml m):∀wl w,fZ P E wl w→∀al wl',ml.run P wl=.ok al wl'→Loc P ml wl al wl':=by
 induction h with
 |pure h=>
  intro wl w hb x wl' hr;cases hr;exact⟨R3 _,rfl,fun _ _=>rfl⟩
 |dies h=>
  intro wl w hb x wl' hr;obtain⟨y,w',h1,h2⟩:=h wl;rw[h1]at hr;cases hr
 |@load E al a kl k ha hk ih=>
  intro wl w hb x wl' hr;cases hc:wl.cell? al with
  |none=>
   obtain⟨s,hs⟩:=pX hb.wr ha (Mode.plain==.atomic);simp only[Xh,hc,hs]at hr;cases hr
  |some u=>
   simp only[Xh,hc]at hr;obtain⟨v,hv1,hv2⟩:=hb.wr.cell ha hc
   exact(ih u v hv2 wl w hb x wl' hr).step fun τ=>by
    have:(wl.tp τ).cell? al=some u:=hc;simp only[Xh,this]
 |@store E al a u v kl k ha hv hk ih=>
  intro wl w hb x wl' hr;by_cases hag:∃c,u=.agg c
  ·obtain⟨c,rfl⟩:=hag
   simp only[Xh]at hr;cases hr
  by_cases htu:∃c,u=.tuple c
  ·obtain⟨c,rfl⟩:=htu
   simp only[Xh]at hr;cases hr
  have n1:∀c,u≠.agg c:=fun c e=>hag ⟨c,e⟩;have n2:∀c,u≠.tuple c:=fun c e=>htu ⟨c,e⟩;obtain⟨n3,n4⟩:=hv.one n1 n2;rw[run_store P al u kl wl n1 n2]at hr;cases hc:wl.cell? al with
  |none=>
   obtain⟨s,hs⟩:=nN hb.wr ha u false;simp only[hc,hs]at hr;cases hr
  |some u0=>
   cases hfz:wl.frozen? al
   case true=>
    simp only[hc,hfz,YI]at hr;cases hr
   simp only[hc,hfz,WV,X9]at hr;obtain⟨v0,hv1,hv2⟩:=hb.wr.cell ha hc;obtain⟨s,o,e1,e2,e3,_⟩:=ha;obtain⟨c,T,fr,g1,g2,g3⟩:=cN hc;cases o
   ·obtain⟨xs,T1,y,T2,fr2,k1,_,k2,k3⟩:=hb.wr.shared _ _ _ e1
    rw[g1]at k1;cases k1;rw[iq g1]at hfz;have:=(Wd.1 g3).1;simp at hfz;omega
   ·obtain⟨rfl,ol,oo,k1,k2,k3⟩:=hb.wr.own _ _ _ e1
    rw[g1]at k1;cases k1;cases k3 with
    |@cells _ y _ _ hl=>
     have d:a.off=al.off:=by rw[e2];rfl
     have g:a.spot=none:=by rw[e3,g2]
     have j:w.frozen? a=false:=by rw[iq k2,d,←iq g1];exact hfz
     have hW:WR P E (wl.setCell al u) (w.setCell a v):=hb.wr.iB e1 (.cells T fr (hl.set al.off hv)) (fu wl al u g1 g2) (fun i=>by rw[fu w a v k2 g,d]);have hB:fZ P E (wl.setCell al u) (w.setCell a v):=⟨hW,hb.ta,by unfold World.setCell;simpa using hb.gF⟩
     exact(ih _ _ hB x wl' hr).step fun τ=>by
      have h1:(wl.tp τ).cell? al=some u0:=hc;have h2:(wl.tp τ).frozen? al=false:=hfz;rw[run_store P al u kl (wl.tp τ) n1 n2];simp only[h1,h2,WV,X9]
      rfl
 |@new E ol o kl k ho hk ih=>
  intro wl w hb x wl' hr;obtain⟨f,hW⟩:=hb.wr.new hb.gF ho;have hB:fZ P (E.put wl.heap.size w.heap.size) { wl with heap:=wl.heap.push ol } { w with heap:=w.heap.push o }:=⟨hW,hb.ta,by have:=hb.gF;simp;omega⟩
  exact(ih _ _ _ f (by unfold Env.put;rw[Wc rfl]) hb.gF _ _ hB x wl' hr).step fun τ=>rfl
 |@shape E bl b s o kl k h hk ih=>
  intro wl w hb x wl' hr;refine(ih _ (w.shape? b) ?_ wl w hb x wl' hr).step fun τ=>rfl;cases o
  ·obtain⟨xs,T1,y,T2,fr2,k1,k0,k2,k3⟩:=hb.wr.shared _ _ _ h
   exact .inr ⟨rfl,T1,xs.size,T2,y.size,by unfold World.shape?;rw[k1],by unfold World.shape?;rw[k2],k0⟩
  ·obtain⟨rfl,ol,oo,k1,k2,k3⟩:=hb.wr.own _ _ _ h
   refine .inl ⟨rfl,?_⟩;unfold World.shape?;rw[k1,k2];cases k3 with
   |cells T fr hl=>simp only[hl.size]
   |_=>rfl
 |@freeze E al a n kl k h ho hk ih=>
  intro wl w hb x wl' hr;obtain⟨_,ol,oo,k1,k2,k3⟩:=hb.wr.own _ _ _ h;have r1:=je wl al n;have r2:=je w a n
  have hB:fZ P E (wl.freeze al n) (w.freeze a n):=by
   refine⟨?_,fun i q=>by rw[r1.2.1,r1.2.2.2.2,r2.2.1,r2.2.2.2.2];exact hb.ta i q,by rw[r1.2.2.2.1];exact hb.gF⟩;cases k3 with
   |@cells xs ys T fr hl=>
    refine hb.wr.iB h (.cells T (if n=0 then fr else(if fr.1==fr.2 then(al.off,al.off+n)else(min fr.1 al.off,max fr.2 (al.off+n)))) hl) (jy wl al n k1) (fun i=>?_);rw[jy w a n k2,ho]
   |iter s p=>
    refine hb.wr.iB h (.iter s p) (fun i=>?_) (fun i=>?_)
    ·rw[cR wl al n (fun c T fr e=>by rw[k1]at e;cases e)]
     by_cases e:al.block=i
     ·rw[Wc e,←e,k1]
     ·rw[V9 e]
    ·rw[cR w a n (fun c T fr e=>by rw[k2]at e;cases e)]
     by_cases e:a.block=i
     ·rw[Wc e,←e,k2]
     ·rw[V9 e]
   |number l hn=>
    refine hb.wr.iB h (.number l hn) (fun i=>?_) (fun i=>?_)
    ·rw[cR wl al n (fun c T fr e=>by rw[k1]at e;cases e)]
     by_cases e:al.block=i
     ·rw[Wc e,←e,k1]
     ·rw[V9 e]
    ·rw[cR w a n (fun c T fr e=>by rw[k2]at e;cases e)]
     by_cases e:a.block=i
     ·rw[Wc e,←e,k2]
     ·rw[V9 e]
  refine(ih _ _ hB x wl' hr).step' r1.2.1.symm r1.2.2.2.2.symm fun τ=>?_
  have:(wl.tp τ).freeze al n=(wl.freeze al n).tp τ:=by
   unfold World.freeze;by_cases hn:n=0
   ·rw[Wc hn,Wc hn]
   ·rw[V9 hn,V9 hn];rfl
  show kl.run P ((wl.tp τ).freeze al n)=_;rw[this]
 |@getObj E bl b s o kl k h hk ih=>
  intro wl w hb x wl' hr;cases o
  ·obtain⟨xs,T1,y,T2,fr2,k1,k0,k2,k3⟩:=hb.wr.shared _ _ _ h
   simp only[Xh,k1]at hr;cases hr
  ·obtain⟨rfl,ol,oo,k1,k2,k3⟩:=hb.wr.own _ _ _ h
   have k3':=k3;cases k3 with
   |cells T fr hl=>simp only[Xh,k1]at hr;cases hr
   |iter p q=>
    simp only[Xh,k1]at hr
    exact(ih _ _ k3' wl w hb x wl' hr).step fun τ=>by
     have:(wl.tp τ).heap[bl]?=_:=k1;simp only[Xh,this]
   |number l hn=>
    simp only[Xh,k1]at hr
    exact(ih _ _ k3' wl w hb x wl' hr).step fun τ=>by
     have:(wl.tp τ).heap[bl]?=_:=k1;simp only[Xh,this]
 |@gq E bl b s kl m h=>
  intro wl w hb x wl' hr;obtain⟨xs,T1,y,T2,fr2,k1,k0,k2,k3⟩:=hb.wr.shared _ _ _ h;simp only[Xh,k1]at hr;cases hr
 |@setObj E bl b s o xo yo kl k h ho hk ih=>
  intro wl w hb x wl' hr;cases o
  ·obtain⟨xs,T1,y,T2,fr2,k1,k0,k2,k3⟩:=hb.wr.shared _ _ _ h
   simp only[Xh,k1]at hr;cases hr
  ·obtain⟨rfl,ol,oo,k1,k2,k3⟩:=hb.wr.own _ _ _ h
   have l1:=(Wd.1 k1).1;have l2:=(Wd.1 k2).1
   have hB:fZ P E { wl with heap:=wl.heap.setIfInBounds bl xo } { w with heap:=w.heap.setIfInBounds b yo }:=by
    refine⟨hb.wr.iB h ho (fun i=>?_) (fun i=>?_),hb.ta,by simpa using hb.gF⟩
    ·show(wl.heap.setIfInBounds bl xo)[i]?=_
     rw[XA];by_cases e:bl=i
     ·rw[Wc e,Wc e,Wc l1]
     ·rw[V9 e,V9 e]
    ·show(w.heap.setIfInBounds b yo)[i]?=_
     rw[XA];by_cases e:b=i
     ·rw[Wc e,Wc e,Wc l2]
     ·rw[V9 e,V9 e]
   cases k3 with
   |cells T fr hl=>simp only[Xh,k1]at hr;cases hr
   |iter p q=>
    simp only[Xh,k1]at hr
    exact(ih _ _ hB x wl' hr).step fun τ=>by
     have:(wl.tp τ).heap[bl]?=_:=k1;simp only[Xh,this]
     rfl
   |number l hn=>
    simp only[Xh,k1]at hr
    exact(ih _ _ hB x wl' hr).step fun τ=>by
     have:(wl.tp τ).heap[bl]?=_:=k1;simp only[Xh,this]
     rfl
 |@choose E q kl k hk ih=>
  intro wl w hb x wl' hr;by_cases hq:q.forced=true
  ·simp only[Xh,hq,YI]at hr
   exact(ih 0 wl w hb x wl' hr).step fun τ=>by simp only[Xh,hq,YI]
  ·simp only[Xh,hq]at hr
   have hB:fZ P E { wl with drawn:=wl.drawn+1 } { w with drawn:=w.drawn+1 }:=⟨⟨hb.wr.own,hb.wr.shared,hb.wr.inj,hb.wr.low⟩,fun i q'=>by
    have:=hb.ta (1+i) q';show wl.tape (wl.drawn+1+i) q'=w.tape (w.drawn+1+i) q';rw[XS,XS];exact this,hb.gF⟩
   obtain⟨h1,h2,h3⟩:=ih _ _ _ hB x wl' hr;have t:wl.drawn+1≤wl'.drawn:=h1;refine⟨vom,h2,fun τ hτ=>?_⟩;have h0:τ wl.drawn q=wl.tape wl.drawn q:=hτ _ _ (R3 _) vom;have:=h3 τ (fun i q' hi hi'=>hτ i q' (by have:wl.drawn+1≤i:=hi;omega) hi');rw[←this];show(if q.forced=true then _ else _)=_;rw[V9 hq,←h0]
   rfl
 |program hk ih=>
  intro wl w hb x wl' hr;exact(ih wl w hb x wl' hr).step fun τ=>rfl
 |noRoom hk ih=>
  intro wl w hb x wl' hr;exact(ih wl w hb x wl' hr).step fun τ=>rfl
end
end Cs
end Go.Proofs.YtpcnpkhgjanamaaGreatDoor
