import Derived.Test.YtpcnpkhgjanamaaGreatDoorPz
import Derived.Test.YtpcnpkhgjanamaaGreatDoorJn1
namespace Go.Proofs.YtpcnpkhgjanamaaGreatDoor
open Go renaming Value→R2,TypeId→Wj,Program→Wr
open Go.Instr renaming loadAt→XO,index→Yc,sliceBounds→Zb
namespace Cs
variable[aT]
section
variable{P:Wr}{α β:Type}{R:Env→α→β→Prop}{E:Env}
def Tm(P:Wr){α:Type}(m:Sem α):Prop:=∀w,(∃a w',m.run P w=.ok a w')∨∃h w',m.run P w=.halt h w'∧vZ h
omit [aT] in
theorem iU{γ:Type}{m:Sem γ}{f:γ→Sem α}{w w':World}{a:γ}(h:m.run P w=.ok a w'):(m >>= f).run P w=(f a).run P w':=by
 change Sem.run P (m.bind f) w=_
 rw[Sem.run_bind',h]
 rfl
omit [aT] in
theorem jg{γ:Type}{m:Sem γ}{f:γ→Sem α}{w w':World}{a:Halt}(h:m.run P w=.halt a w'):(m >>= f).run P w=.halt a w':=by
 change Sem.run P (m.bind f) w=_
 rw[Sem.run_bind',h]
 rfl
omit [aT] in
theorem aQ{γ:Type}{m:Sem γ}{f:γ→Sem α}(h:eO P m):eO P (m >>= f):=fun w=>by
 obtain⟨x,w',h1,h2⟩:=h w;exact⟨x,w',jg h1,h2⟩
omit [aT] in
theorem cY{γ:Type}{m:Sem γ}{f:γ→Sem α}(hm:Tm P m)(h:∀x,eO P (f x)):eO P (m >>= f):=fun w=>by
 rcases hm w with⟨a,w',h1⟩|⟨x,w',h1,h2⟩
 ·obtain⟨x,w2,h2,h3⟩:=h a w'
  exact⟨x,w2,by rw[iU h1];exact h2,h3⟩
 ·exact⟨x,w',jg h1,h2⟩
omit [aT] in
theorem rL(h:Halt)(hh:vZ h):eO P (.halt h:Sem α):=fun w=>⟨h,w,rfl,hh⟩
omit [aT] in
theorem ai(s:String):eO P (stuck s:Sem α):=rL _ trivial
omit [aT] in
theorem ax(u:Unsupported)(hu:∀g,u≠.initOrder g:=by intro g e;cases e):eO P (unsupported u:Sem α):=rL _ hu
omit [aT] in
theorem n8(v:R2):eO P (goPanic v:Sem α):=rL _ trivial
omit [aT] in
theorem pV{m:Sem α}(h:eO P m):Tm P m:=fun w=>.inr (h w)
omit [aT] in
theorem eH(a:α):Tm P (Pure.pure a:Sem α):=fun w=>.inl ⟨a,w,rfl⟩
omit [aT] in
theorem fQ{γ:Type}{m:Sem γ}{f:γ→Sem α}(hm:Tm P m)(h:∀x,Tm P (f x)):Tm P (m >>= f):=fun w=>by
 rcases hm w with⟨a,w',h1⟩|⟨x,w',h1,h2⟩
 ·rw[iU h1];exact h a w'
 ·exact .inr ⟨x,w',jg h1,h2⟩
omit [aT] in
theorem uN:Tm P program:=fun w=>.inl ⟨P,w,rfl⟩
omit [aT] in
theorem rq(q:Question):Tm P (choose q):=fun w=>by
 by_cases hq:q.forced=true
 ·exact .inl ⟨0,w,by simp[choose,Sem.run,hq]⟩
 ·exact .inl ⟨_,_,by simp only[choose,Sem.run,hq];rfl⟩
omit [aT] in
theorem Ku(r:Nat):Tm P (shape r):=fun w=>.inl ⟨_,w,rfl⟩
omit [aT] in
theorem IW(a:Addr):Tm P (frozen a):=fun w=>.inl ⟨_,w,rfl⟩
omit [aT] in
theorem Qu(o:Obj):Tm P (newObj o):=fun _=>.inl ⟨_,_,rfl⟩
omit [aT] in
theorem RX{c:Prop}[Decidable c]{x y:Sem α}(h1:Tm P x)(h2:Tm P y):Tm P (if c then x else y):=by
 split
 ·exact h1
 ·exact h2
omit [aT] in
theorem Gi:Tm P (mark .noRoom):=fun w=>.inl ⟨(),w,rfl⟩
omit [aT] in
theorem wv(t:Wj):Tm P (underlying t):=fQ uN fun p=>by
 cases p.underlying t with
 |none=>exact pV (ai _)
 |some d=>exact eH d
omit [aT] in
theorem xT(t:Wj):Tm P (elemOf t):=fQ (wv t) fun d=>by
 cases d<;>first|exact eH _|exact pV (ai _)
omit [aT] in
theorem xM(t:Wj)(v:R2):Tm P (newVar t v):=fQ (Qu _) fun _=>eH _
omit [aT] in
theorem Eo(v:R2):Tm P (asIntOf v):=by
 cases v with
 |int k n=>exact eH _
 |pointer a=>cases a with
  |none=>exact pV (ai _)
  |some a=>exact pV (ax _)
 |_=>exact pV (ai _)
omit [aT] in
theorem uo(v:R2):Tm P (asInt v):=fQ (Eo v) fun _=>eH _
omit [aT] in
theorem ec(e:RuntimeError):eO P (runtimePanic e:Sem α):=by
 unfold runtimePanic;refine cY uN fun p=>?_;cases e with
 |typeAssertion i c a m=>exact cY (xT _) fun _=>cY (xM _ _) fun _=>n8 _
 |panicNil=>exact cY (xT _) fun _=>cY (xM _ _) fun _=>n8 _
 |_=>exact n8 _
omit [aT] in
theorem dh(k:IntKind)(x y:Int)(c:BoundsCode):eO P (boundsPanic k x y c:Sem α):=by
 unfold boundsPanic;dsimp only;split
 ·exact cY (fQ (rq _) fun _=>eH _) fun _=>ec _
 ·exact cY (eH _) fun _=>ec _
omit [aT] in
theorem ew{c:Prop}[Decidable c]{x y:Sem α}(h1:eO P x)(h2:eO P y):eO P (if c then x else y):=by
 split
 ·exact h1
 ·exact h2
theorem SR.die{ml:Sem α}{m:Sem β}(h:eO P ml):SR P R E ml m:=.dies h
theorem SR.ite{c:Prop}[Decidable c]{A B:Sem α}{A' B':Sem β}(h1:SR P R E A A')(h2:SR P R E B B'):SR P R E (if c then A else B) (if c then A' else B'):=by
 split
 ·exact h1
 ·exact h2
theorem SR.mono{R':Env→α→β→Prop}{ml:Sem α}{m:Sem β}(h:SR P R E ml m)(hR:∀E' a b,E.le E'→R E' a b→R' E' a b):SR P R' E ml m:=by
 induction h with
 |pure h=>exact .pure (hR _ _ _ (Env.le_refl _) h)
 |dies h=>exact .dies h
 |load ha _ ih=>exact .load ha fun u v hv=>ih u v hv hR
 |store ha hv _ ih=>exact .store ha hv (ih hR)
 |new ho _ ih=>exact .new ho fun E' bl b hl he hg=>ih E' bl b hl he hg fun E2 a b' h2=>hR E2 a b' (Env.le_trans hl h2)
 |shape h _ ih=>exact .shape h fun x y hx=>ih x y hx hR
 |freeze h ho _ ih=>exact .freeze h ho (ih hR)
 |getObj h _ ih=>exact .getObj h fun x y hx=>ih x y hx hR
 |gq h=>exact .gq h
 |setObj h ho _ ih=>exact .setObj h ho (ih hR)
 |choose q _ ih=>exact .choose q fun n=>ih n hR
 |program _ ih=>exact .program (ih hR)
 |noRoom _ ih=>exact .noRoom (ih hR)
theorem SR.bind{γ δ:Type}{R1:Env→γ→δ→Prop}{ml:Sem γ}{m:Sem δ}{fl:γ→Sem α}{f:δ→Sem β}(h:SR P R1 E ml m)(hk:∀E' a b,E.le E'→R1 E' a b→SR P R E' (fl a) (f b)):SR P R E (ml >>= fl) (m >>= f):=by
 show SR P R E (ml.bind fl) (m.bind f)
 induction h with
 |pure h=>exact hk _ _ _ (Env.le_refl _) h
 |dies h=>exact .dies (aQ (f:=fl) h)
 |load ha _ ih=>exact .load ha fun u v hv=>ih u v hv hk
 |store ha hv _ ih=>exact .store ha hv (ih hk)
 |new ho _ ih=>exact .new ho fun E' bl b hl he hg=>ih E' bl b hl he hg fun E2 a b' h2=>hk E2 a b' (Env.le_trans hl h2)
 |shape h _ ih=>exact .shape h fun x y hx=>ih x y hx hk
 |freeze h ho _ ih=>exact .freeze h ho (ih hk)
 |getObj h _ ih=>exact .getObj h fun x y hx=>ih x y hx hk
 |gq h=>exact .gq h
 |setObj h ho _ ih=>exact .setObj h ho (ih hk)
 |choose q _ ih=>exact .choose q fun n=>ih n hk
 |program _ ih=>exact .program (ih hk)
 |noRoom _ ih=>exact .noRoom (ih hk)
theorem SR.ret{a:α}{b:β}(h:R E a b):SR P R E (Pure.pure a:Sem α) (Pure.pure b:Sem β):=.pure h
theorem dI:SR P (fun _ a b=>a=P∧b=P) E program program:=.program (.pure ⟨rfl,rfl⟩)
theorem aH(t:Wj):SR P (fun _ a b=>a=b∧P.underlying t=some a) E (underlying t) (underlying t):=by
 unfold underlying;refine SR.bind dI ?_;rintro E' a b _ ⟨ha,hb⟩;rw[ha,hb];cases h:P.underlying t with
 |none=>exact .die (ai _)
 |some d=>exact .ret ⟨rfl,rfl⟩
theorem dS(t:Wj):SR P (fun _ a b=>a=b∧P.info? t=some a) E (typeInfo t) (typeInfo t):=by
 unfold typeInfo;refine SR.bind dI ?_;rintro E' a b _ ⟨ha,hb⟩;rw[ha,hb];cases h:P.info? t with
 |none=>exact .die (ai _)
 |some d=>exact .ret ⟨rfl,rfl⟩
theorem cB(t:Wj):SR P (fun _ a b=>a=b∧∃i,P.info? t=some i∧a=i.size) E (sizeOf t) (sizeOf t):=by
 unfold sizeOf;refine SR.bind (dS t) ?_;rintro E' a b _ ⟨rfl,h⟩;exact .ret ⟨rfl,a,h,rfl⟩
theorem Az(t:Wj):SR P (fun _ a b=>a=b) E (isAgg t) (isAgg t):=by
 unfold isAgg;refine SR.bind (aH t) ?_;rintro E' a b _ ⟨rfl,h⟩;cases a<;>exact .ret rfl
end
def vS:R2→Bool
 |.bool _|.int _ _|.string _|.pointer none|.slice none _ _|.nilFunc|.nilIface|.chan none=>true
 |.func (.func f) x y=>aT.ok f&&x.isEmpty&&y.isEmpty
 |_=>false
def zP:R2→Bool
 |.agg x|.tuple x=>x.all vS
 |v=>vS v
theorem yl{E:Env}{v:R2}(h:vS v=true):VR E v v:=by
 cases v with
 |bool b=>exact .bool b
 |int k n=>exact .int k n
 |float k n=>cases h
 |complex k n m=>cases h
 |string s=>exact .string s
 |pointer a=>cases a with
  |none=>exact .jm
  |some a=>cases h
 |slice a l c=>cases a with
  |none=>exact .bW l c
  |some a=>cases h
 |map r=>cases h
 |chan r=>cases r with
  |none=>exact .qj
  |some r=>cases h
 |func fn x y=>cases fn with
  |func f=>
   simp[vS]at h;obtain⟨⟨h1,rfl⟩,rfl⟩:=h;exact .func f h1 rfl (fun i u v hu=>by simp at hu) rfl (fun i u v hu=>by simp at hu)
  |_=>cases h
 |nilFunc=>exact .nilFunc
 |iface t v=>cases h
 |nilIface=>exact .nilIface
 |agg c=>cases h
 |tuple c=>cases h
theorem xA{E:Env}{x:Array R2}(h:x.all vS=true):LR E x x:=⟨rfl,fun i u v hu hv=>by
 rw[hu]at hv;cases hv;exact yl (by rw[WJ]at h;exact h u (YU hu))⟩
theorem ya{E:Env}{v:R2}(h:zP v=true):VR E v v:=by
 cases v with
 |agg c=>exact .lK (xA h)
 |tuple c=>exact .mkTuple (xA h)
 |_=>exact yl h
def iH(P:Wr)(t:Wj):Bool:=match P.info? t with
 |some i=>match i.zero with
  |some v=>zP v
  |none=>true
 |none=>true
def oI(P:Wr)(t:Wj):Bool:=match P.underlying t with
 |some (.slice e)=>iH P e
 |_=>true
theorem ki{P:Wr}{t e:Wj}(h:oI P t=true)(hd:P.underlying t=some (.slice e)):iH P e=true:=by
 unfold oI at h;rw[hd]at h;exact h
section
variable{P:Wr}{E:Env}
theorem eT(t:Wj)(hZ:iH P t=true):SR P (fun E' a b=>VR E' a b∧a=b) E (zeroValue t) (zeroValue t):=by
 unfold zeroValue;refine SR.bind (dS t) ?_;rintro E' a b _ ⟨rfl,h⟩;cases hz:a.zero with
 |none=>exact .die (ax _)
 |some v=>
  have hp:zP v=true:=by
   unfold iH at hZ;rw[h]at hZ;dsimp only at hZ;rw[hz]at hZ;exact hZ
  exact .ret ⟨ya hp,rfl⟩
theorem FD{al a:Addr}(h:AR E al a):SR P (fun E' u v=>VR E' u v) E (load al) (load a):=.load h fun _ _ hv=>.pure hv
theorem Mf{al a:Addr}{u v:R2}(h:AR E al a)(hv:VR E u v):SR P (fun _ _ _=>True) E (store al u) (store a v):=.store h hv (.pure trivial)
theorem mN(elem:Wj){x y:Array R2}(h:LR E x y):SR P (fun E' a b=>AR E' a b) E (newRow elem x) (newRow elem y):=by
 unfold newRow newObj;refine SR.bind (R1:=fun E' bl b=>E' bl=some (b,0,true)∧aT.G≤bl) (.new (.cells _ _ h) fun E' bl b _ he hg=>.pure ⟨he,hg⟩) ?_;rintro E' a b _ ⟨he,hg⟩;exact .ret ⟨0,true,he,rfl,rfl,hg,fun _=>rfl⟩
theorem jO:∀(n:Nat) {E:Env} {al a:Addr} (i:Nat) {x y:Array R2},AR E al a→LR E x y→SR P (fun E' u v=>LR E' u v) E (loadCellsFrom al i n x) (loadCellsFrom a i n y)
 |0,_,_,_,_,_,_,_,h=>.ret h
 |n+1,_,_,_,i,_,_,ha,h=>by
  unfold loadCellsFrom;refine SR.bind (FD (ha.add i)) ?_;intro E' u v hl hv;exact jO n (i+1) (ha.mono hl) ((h.mono hl).push hv)
theorem j7{al a:Addr}(n:Nat)(ha:AR E al a):SR P (fun E' u v=>LR E' u v) E (loadCells al n) (loadCells a n):=jO n 0 ha (LR.nil _)
theorem nO:∀(l l':List R2) {E:Env} {al a:Addr} (i:Nat),AR E al a→l.length=l'.length→(∀(j:Nat) u v,l[j]?=some u→l'[j]?=some v→VR E u v)→SR P (fun _ _ _=>True) E (storeCells al l i) (storeCells a l' i)
 |[],[],_,_,_,_,_,_,_=>.ret trivial
 |[],_ :: _,_,_,_,_,_,h,_=>by cases h
 |_ :: _,[],_,_,_,_,_,h,_=>by cases h
 |u :: l,v :: l',_,_,_,i,ha,hl,h=>by
  unfold storeCells;refine SR.bind (Mf (ha.add i) (h 0 u v rfl rfl)) ?_;intro E' _ _ hle _;exact nO l l' (i+1) (ha.mono hle) (by simpa using hl) (fun j x y hx hy=>(h (j+1) x y (by simpa using hx) (by simpa using hy)).mono hle)
theorem vE(t:Wj){al a:Addr}(ha:AR E al a):SR P (fun E' u v=>VR E' u v) E (loadVar t al) (loadVar t a):=by
 unfold loadVar;refine SR.bind (Az t) ?_;rintro E1 b _ hl rfl;cases b
 ·exact FD (ha.mono hl)
 ·refine SR.bind (cB t) ?_
  rintro E2 n _ c ⟨rfl,_⟩;refine SR.bind (j7 n (ha.mono (Env.le_trans hl c))) ?_;intro E3 x y _ h;exact .ret (.lK h)
theorem sW{al a:Addr}{x y:Array R2}(ha:AR E al a)(h:LR E x y):SR P (fun _ _ _=>True) E (storeCells al x.toList) (storeCells a y.toList):=
 nO x.toList y.toList 0 ha (by simp[h.size]) (fun j u v hu hv=>h.at_ j u v (by simpa using hu) (by simpa using hv))
theorem Au(t:Wj){al a:Addr}{u v:R2}(ha:AR E al a)(hv:VR E u v):SR P (fun _ _ _=>True) E (storeVar t al u) (storeVar t a v):=by
 unfold storeVar;refine SR.bind (cB t) ?_;rintro E2 n _ b ⟨rfl,_⟩;have hc:=(hv.mono b).cells;rw[←hc.size];split
 ·exact .die (aQ (ai _))
 ·exact sW (ha.mono b) hc
theorem yF(t:Wj){u v:R2}(h:VR E u v):SR P (fun E' a b=>AR E' a b) E (newVar t u) (newVar t v):=mN t h.cells
theorem p8(t:Wj){x y:Array R2}(off:Nat)(h:LR E x y):SR P (fun E' u v=>VR E' u v) E (part t x off) (part t y off):=by
 unfold part;refine SR.bind (Az t) ?_;rintro E1 b _ hl rfl;cases b
 ·cases hx:x[off]? with
  |none=>exact .die (by simpa using ai _)
  |some u=>
   obtain⟨v,h1,h2⟩:=(h.mono hl).get hx;simp only[h1];exact .ret h2
 ·refine SR.bind (cB t) ?_
  rintro E2 n _ a ⟨rfl,_⟩;exact .ret (.lK ((h.mono (Env.le_trans hl a)).extract _ _))
theorem kP{u v:R2}(h:VR E u v):SR P (fun _ a b=>a=b) E (asIntOf u) (asIntOf v):=by
 cases h with
 |int k n=>exact .ret rfl
 |ptr h=>exact .die (ax _)
 |_=>exact .die (ai _)
theorem p6{u v:R2}(h:VR E u v):SR P (fun _ a b=>a=b) E (asInt u) (asInt v):=by
 unfold asInt;refine SR.bind (kP h) ?_;rintro E1 a _ _ rfl;exact .ret rfl
theorem Hr{u v:R2}(h:VR E u v):SR P (fun _ a b=>a=b) E (asBool u) (asBool v):=by
 cases h with
 |bool b=>exact .ret rfl
 |_=>exact .die (ai _)
theorem gK{u v:R2}(h:VR E u v):SR P (fun E' a b=>AR E' a b) E (Instr.sureAddr u) (Instr.sureAddr v):=by
 cases h with
 |ptr h=>exact .ret h
 |_=>exact .die (ai _)
theorem Gj(t:Wj){u v:R2}(h:VR E u v):SR P (fun E' a b=>VR E' a b) E (XO t u) (XO t v):=
 SR.bind (gK h) fun _ _ _ _ ha=>vE t ha
theorem Ea(t:Wj){u v x y:R2}(h:VR E u v)(hx:VR E x y):SR P (fun _ _ _=>True) E (Instr.storeAt t u x) (Instr.storeAt t v y):=
 SR.bind (gK h) fun _ _ _ hl ha=>Au t ha (hx.mono hl)
def zk(P:Wr)(s:Wj)(f:Nat):Bool:=match P.underlying s with
 |some (.struct fs)=>match fs[f]? with
  |some x=>match P.info? x.type with
   |some i=>i.size != 0
   |none=>true
  |none=>true
 |_=>true
theorem CL(s:Wj)(f:Nat)(hf:zk P s f=true){u v:R2}(h:VR E u v):SR P (fun E' a b=>VR E' a b) E (Instr.fieldAt s u f) (Instr.fieldAt s v f):=by
 unfold Instr.fieldAt;refine SR.bind (aH s) ?_;rintro E1 d _ hl ⟨rfl,hd⟩;unfold zk at hf;rw[hd]at hf;cases d with
 |struct fs=>
  dsimp only at hf⊢;cases hx:fs[f]? with
  |none=>exact .die (ai _)
  |some x=>
   rw[hx]at hf;dsimp only at hf⊢;refine SR.bind (gK (h.mono hl)) ?_;intro E2 a b hl2 hab;unfold fieldPlace;refine SR.bind (R1:=fun E' a b=>AR E' a b) (SR.bind (cB x.type) ?_) ?_
   ·rintro E3 n _ c ⟨rfl,i,hi,hn⟩
    rw[hi]at hf;have:n≠0:=by rw[hn];simpa using hf
    rw[V9 this,V9 this];exact .ret ((hab.mono c).add _)
   ·intro E3 a b _ hab
    exact .ret (.ptr hab)
 |_=>exact .die (ai _)
theorem DF(t:Wj){u v x y:R2}(h:VR E u v)(hx:VR E x y):SR P (fun E' a b=>VR E' a b) E (Instr.indexAt t u x) (Instr.indexAt t v y):=by
 unfold Instr.indexAt;refine SR.bind (kP hx) ?_;rintro E1 ⟨k,i⟩ _ hl rfl;dsimp only;refine SR.bind (aH t) ?_;rintro E2 d _ m ⟨rfl,hd⟩;have hv:=h.mono (Env.le_trans hl m);cases d with
 |array len elem=>
  refine SR.bind (gK hv) ?_;intro E6 a b _ hab;refine SR.bind (R1:=fun E' (a b:Option Addr×Nat×Wj)=>a.2=b.2∧((a.1=none∧b.1=none)∨∃p q,a.1=some p∧b.1=some q∧AR E' p q)) (.ret ⟨rfl,.inr ⟨a,b,rfl,rfl,hab⟩⟩) ?_;rintro E3 ⟨bl,len,elem⟩ ⟨b,len',elem'⟩ j ⟨he,hb⟩;cases he;dsimp only at hb⊢;refine SR.bind (aH t) ?_;rintro E4 d' _ e ⟨rfl,_⟩;rcases hb with⟨rfl,rfl⟩|⟨p,q,rfl,rfl,g⟩
  ·exact .die (dh _ _ _ _)
  ·dsimp only
   split
   ·refine SR.bind (cB elem) ?_
    rintro E5 n _ f ⟨rfl,_⟩;exact .ret (.ptr ((g.mono (Env.le_trans e f)).add _))
   ·exact .die (ew (ax _) (dh _ _ _ _))
 |slice elem=>
  cases hv with
  |bW l c=>
   refine SR.bind (R1:=fun E' (a b:Option Addr×Nat×Wj)=>a.2=b.2∧((a.1=none∧b.1=none)∨∃p q,a.1=some p∧b.1=some q∧AR E' p q)) (.ret ⟨rfl,.inl ⟨rfl,rfl⟩⟩) ?_;rintro E3 ⟨bl,len,elem⟩ ⟨b,len',elem'⟩ j ⟨he,hb⟩;cases he;dsimp only at hb⊢;refine SR.bind (aH t) ?_;rintro E4 d' _ e ⟨rfl,_⟩;rcases hb with⟨rfl,rfl⟩|⟨p,q,rfl,rfl,g⟩
   ·exact .die (dh _ _ _ _)
   ·dsimp only
    split
    ·refine SR.bind (cB elem) ?_
     rintro E5 n _ f ⟨rfl,_⟩;exact .ret (.ptr ((g.mono (Env.le_trans e f)).add _))
    ·exact .die (ew (ax _) (dh _ _ _ _))
  |cx p q=>
   refine SR.bind (R1:=fun _ (a b:Option Addr×Nat×Wj)=>a.2=b.2∧a.2.1=0∧a.1=some p∧b.1=some q) (.ret ⟨rfl,rfl,rfl,rfl⟩) ?_;rintro E3 ⟨bl,len,elem⟩ ⟨b,len',elem'⟩ j ⟨he,h0,h1,h2⟩;cases he;dsimp only at h0 h1 h2⊢;subst h0 h1 h2;refine SR.bind (aH t) ?_;rintro E4 d' _ e ⟨rfl,_⟩;dsimp only;split
   ·rename_i hno
    exact absurd hno vom
   ·exact .die (ew (ax _) (dh _ _ _ _))
  |slice l c ha=>
   refine SR.bind (R1:=fun E' (a b:Option Addr×Nat×Wj)=>a.2=b.2∧((a.1=none∧b.1=none)∨∃p q,a.1=some p∧b.1=some q∧AR E' p q)) (.ret ⟨rfl,.inr ⟨_,_,rfl,rfl,ha⟩⟩) ?_;rintro E3 ⟨bl,len,elem⟩ ⟨b,len',elem'⟩ j ⟨he,hb⟩;cases he;dsimp only at hb⊢;refine SR.bind (aH t) ?_;rintro E4 d' _ e ⟨rfl,_⟩;rcases hb with⟨rfl,rfl⟩|⟨p,q,rfl,rfl,g⟩
   ·exact .die (dh _ _ _ _)
   ·dsimp only
    split
    ·refine SR.bind (cB elem) ?_
     rintro E5 n _ f ⟨rfl,_⟩;exact .ret (.ptr ((g.mono (Env.le_trans e f)).add _))
    ·exact .die (ew (ax _) (dh _ _ _ _))
  |_=>exact .die (aQ (ai _))
 |_=>exact .die (aQ (ai _))
theorem eD{u v:R2}(y:Nat)(c:BoundsCode)(h:VR E u v):SR P (fun _ a b=>a=b∧a≤y) E (Instr.sliceBound u y c) (Instr.sliceBound v y c):=by
 unfold Instr.sliceBound;refine SR.bind (kP h) ?_;rintro E1 ⟨k,i⟩ _ hl rfl;dsimp only;split
 ·exact .ret ⟨rfl,vom⟩
 ·exact .die (dh _ _ _ _)
inductive MR(E:Env):Option R2→Option R2→Prop
 |none:MR E none none
 |some {u v:R2} (h:VR E u v):MR E (some u) (some v)
theorem MR.mono{E E':Env}(hl:E.le E'){u v:Option R2}(h:MR E u v):MR E' u v:=by
 cases h with
 |none=>exact .none
 |some h=>exact .some (h.mono hl)
theorem fU(b:Bool)(len cap:Nat){lo lo' hi hi' mx mx':Option R2}(h1:MR E lo lo')(h2:MR E hi hi')(h3:MR E mx mx'):SR P (fun _ a b=>a=b∧a.2.2≤cap∧(a.2.1≤a.2.2∨a.2.1=len)∧a.1≤a.2.1) E (Zb b len cap lo hi mx) (Zb b len cap lo' hi' mx'):=by
 unfold Zb;dsimp only;cases h3 with
 |none=>
  refine SR.bind (R1:=fun _ a b=>a=b∧a=cap) (.ret ⟨rfl,rfl⟩) ?_;rintro E1 m _ hl ⟨rfl,rfl⟩;cases h2.mono hl with
  |none=>
   refine SR.bind (R1:=fun _ a b=>a=b∧a=len) (.ret ⟨rfl,rfl⟩) ?_;rintro E2 x _ c ⟨rfl,rfl⟩;cases h1.mono (Env.le_trans hl c)with
   |none=>exact .ret ⟨rfl,by dsimp only;omega,by dsimp only;omega,by dsimp only;omega⟩
   |some h=>
    refine SR.bind (eD _ _ h) ?_;rintro E3 l _ e ⟨rfl,d⟩;exact .ret ⟨rfl,by dsimp only;omega,by dsimp only;omega,by dsimp only;omega⟩
  |some h=>
   refine SR.bind (eD _ _ h) ?_;rintro E2 x _ c ⟨rfl,f⟩;cases h1.mono (Env.le_trans hl c)with
   |none=>exact .ret ⟨rfl,by dsimp only;omega,by dsimp only;omega,by dsimp only;omega⟩
   |some h=>
    refine SR.bind (eD _ _ h) ?_;rintro E3 l _ e ⟨rfl,d⟩;exact .ret ⟨rfl,by dsimp only;omega,by dsimp only;omega,by dsimp only;omega⟩
 |some h3=>
  refine SR.bind (eD _ _ h3) ?_;rintro E1 m _ hl ⟨rfl,g⟩;cases h2.mono hl with
  |none=>exact .die (aQ (ai _))
  |some h=>
   refine SR.bind (eD _ _ h) ?_;rintro E2 x _ c ⟨rfl,f⟩;cases h1.mono (Env.le_trans hl c)with
   |none=>exact .ret ⟨rfl,by dsimp only;omega,by dsimp only;omega,by dsimp only;omega⟩
   |some h=>
    refine SR.bind (eD _ _ h) ?_;rintro E3 l _ e ⟨rfl,d⟩;exact .ret ⟨rfl,by dsimp only;omega,by dsimp only;omega,by dsimp only;omega⟩
theorem LH(t:Wj){u v:R2}{lo lo' hi hi' mx mx':Option R2}(h:VR E u v)(h1:MR E lo lo')(h2:MR E hi hi')(h3:MR E mx mx')(hp:∀a,P.underlying t≠some (.pointer a)):SR P (fun E' a b=>VR E' a b) E (Instr.slice t u lo hi mx) (Instr.slice t v lo' hi' mx'):=by
 unfold Instr.slice;refine SR.bind (aH t) ?_;rintro E1 d _ hl ⟨rfl,hd⟩;cases d with
 |string=>
  cases h.mono hl with
  |string s=>
   dsimp only;cases h3 with
   |some _=>exact .die (aQ (ai _))
   |none=>
    refine SR.bind (fU false s.size s.size (h1.mono hl) (h2.mono hl) .none) ?_;rintro E3 ⟨l,x,m⟩ _ f ⟨rfl,_⟩;exact .ret (.string _)
  |_=>exact .die (ai _)
 |slice elem=>
  have hv:=h.mono hl
  have main:∀(a b:Option Addr) (len cap:Nat),((a=none∧b=none)∨∃p q,a=some p∧b=some q∧AR E1 p q)→
    SR P (fun E' a b=>VR E' a b) E1 (do
     let(l,h,m) ←Zb true len cap lo hi mx
     let size ←sizeOf elem
     pure (.slice (if m=l then a else a.map (·.add (l*size))) (h-l) (m-l))) (do
     let(l,h,m) ←Zb true len cap lo' hi' mx'
     let size ←sizeOf elem
     pure (.slice (if m=l then b else b.map (·.add (l*size))) (h-l) (m-l))):=fun a b len cap hab=>by
   refine SR.bind (fU true len cap (h1.mono hl) (h2.mono hl) (h3.mono hl)) ?_;rintro E2 ⟨l,x,m⟩ _ g ⟨rfl,_⟩;dsimp only;refine SR.bind (cB elem) ?_;rintro E3 n _ f ⟨rfl,_⟩;rcases hab with⟨rfl,rfl⟩|⟨p,q,rfl,rfl,i⟩
   ·have:(if m=l then(none:Option Addr)else Option.map (fun x:Addr=>x.add (l*n)) none)=none:=by split<;>rfl
    rw[this];exact .ret (.bW _ _)
   ·have hq:=i.mono (Env.le_trans g f)
    by_cases e:m=l
    ·rw[Wc e,Wc e];exact .ret (.slice _ _ hq)
    ·rw[V9 e,V9 e];exact .ret (.slice _ _ (hq.add _))
  cases hv with
  |bW l c=>exact main none none l c (.inl ⟨rfl,rfl⟩)
  |slice l c ha=>exact main _ _ l c (.inr ⟨_,_,rfl,rfl,ha⟩)
  |cx p q=>
   dsimp only;refine SR.bind (fU true 0 0 (h1.mono hl) (h2.mono hl) (h3.mono hl)) ?_;rintro E2 ⟨l,x,m⟩ _ g ⟨rfl,b1,b2,b3⟩;dsimp only at b1 b2 b3⊢;obtain rfl:m=0:=vom;obtain rfl:x=0:=vom;obtain rfl:l=0:=vom;refine SR.bind (cB elem) ?_;rintro E3 n _ f ⟨rfl,_⟩;exact .ret (.cx p q)
  |_=>exact .die (ai _)
 |pointer a=>exact absurd hd (hp a)
 |_=>exact .die (ai _)
theorem Du(t:Wj){u v:R2}{lo lo' hi hi' mx mx':Option R2}(h:VR E u v)(h1:MR E lo lo')(h2:MR E hi hi')(h3:MR E mx mx')(hp:∀a,P.underlying t≠some (.pointer a)):SR P (fun E' a b=>VR E' a b) E (Instr.sliceAt t u lo hi mx) (Instr.sliceAt t v lo' hi' mx'):=by
 unfold Instr.sliceAt;refine SR.bind (aH t) ?_;rintro E1 d _ hl ⟨rfl,hd⟩;have oth:SR P (fun E' a b=>VR E' a b) E1 (Instr.slice t u lo hi mx) (Instr.slice t v lo' hi' mx'):=LH t (h.mono hl) (h1.mono hl) (h2.mono hl) (h3.mono hl) hp;cases d with
 |array n elem=>
  dsimp only;refine SR.bind (gK (h.mono hl)) ?_;intro E2 p q hl2 hpq;refine SR.bind (fU false n n (h1.mono (Env.le_trans hl hl2)) (h2.mono (Env.le_trans hl hl2)) (h3.mono (Env.le_trans hl hl2))) ?_;rintro E3 ⟨l,x,m⟩ _ f ⟨rfl,_⟩;dsimp only;refine SR.bind (cB elem) ?_;rintro E4 s _ c ⟨rfl,_⟩;have hq:=hpq.mono (Env.le_trans f c);by_cases e:m=l
  ·rw[Wc e,Wc e];exact .ret (.slice _ _ hq)
  ·rw[V9 e,V9 e];exact .ret (.slice _ _ (hq.add _))
 |_=>exact oth
theorem JX(elem:Wj)(hZ:iH P elem=true):SR P (fun E' a b=>VR E' a b) E (Instr.alloc elem true (.tuple #[])) (Instr.alloc elem true (.tuple #[])):=by
 unfold Instr.alloc;refine SR.bind (eT elem hZ) ?_;rintro E1 u v hl ⟨h,_⟩;dsimp only;refine SR.bind (yF elem h) ?_;intro E2 a b _ hab;exact .ret (.ptr hab)
theorem Qf(elem:Wj){u v:R2}(h:VR E u v):SR P (fun E' a b=>VR E' a b) E (Instr.box elem u) (Instr.box elem v):=by
 unfold Instr.box;refine SR.bind (yF elem h) ?_;intro E2 a b _ hab;exact .ret (.ptr hab)
theorem JJ(t:Wj){u v x y:R2}(h:VR E u v)(hx:VR E x y):SR P (fun E' a b=>VR E' a b) E (Yc t u x) (Yc t v y):=by
 unfold Yc;refine SR.bind (kP hx) ?_;rintro E1 ⟨k,i⟩ _ hl rfl;dsimp only;refine SR.bind (aH t) ?_;rintro E2 d _ c ⟨rfl,hd⟩;have hv:=h.mono (Env.le_trans hl c);cases d with
 |array len elem=>
  cases hv with
  |agg h1 h2=>
   dsimp only;split
   ·refine SR.bind (cB elem) ?_
    rintro E3 n _ e ⟨rfl,_⟩;exact p8 elem _ ((LR.mk h1 h2).mono e)
   ·exact .die (dh _ _ _ _)
  |_=>exact .die (ai _)
 |string=>
  cases hv with
  |string s=>
   dsimp only;split
   ·exact .ret (.int _ _)
   ·exact .die (dh _ _ _ _)
  |_=>exact .die (ai _)
 |_=>exact .die (ai _)
theorem Dn{u v:R2}(i:Nat)(h:VR E u v):SR P (fun E' a b=>VR E' a b) E (Instr.extract u i) (Instr.extract v i):=by
 unfold Instr.extract;cases h with
 |@tuple x y h1 h2=>
  dsimp only;cases hx:x[i]? with
  |none=>exact .die (ai _)
  |some a=>
   obtain⟨b,e1,e2⟩:=(LR.mk h1 h2).get hx;rw[e1];exact .ret e2
 |_=>exact .die (ai _)
end
end Cs
end Go.Proofs.YtpcnpkhgjanamaaGreatDoor
