import Derived.Test.YtpcnpkhgjanamaaGreatDoorPz
import Derived.Conc.Listed
import Derived.Test.YtpcnpkhgjanamaaGreatDoorJn4
namespace Go.Proofs.YtpcnpkhgjanamaaGreatDoor
open Go renaming Value→R2,World→V8,undef→Wb,Goroutine→Wi,TypeId→Wj,Program→Wr,Frame→WG,stepG→Xe,FuncId→Xg,Operand→Yb,execOp→Yn,FrameMode→ZK
open Go.Frame renaming enter→Xa
open Go.stepG renaming exec→XH,apply→Zz
open Go.GStep renaming after→Yo
open Go.Op renaming eqGuardIn→Yz
open Go.Region renaming wanted→Zv
set_option maxHeartbeats 2000000
namespace Cs
variable[aT]
inductive NR(E:Env):Next→Next→Prop
 |value {u v:R2} (h:VR E u v):NR E (.value u) (.value v)
 |skip:NR E .skip .skip
 |enter (f:Xg) (hf:aT.ok f=true) {x y:Array R2} (h:LR E x y):NR E (.enter f x) (.enter f y)
def tH (P : Wr) : Prop := ∀ f, aT.ok f = true → ∃ fn, P.funcs[f]? = some fn ∧ (fn.name == "runtime.NumGoroutine") = false ∧ fn.body.isNone = false
def aV:Yb→Bool
 |.tmp _=>true
 |.const v=>zP v
 |.global _=>false
 |.func f=>aT.ok f
def uP(P:Wr)(c:Call):Bool:=match c.callee with
 |.value f=>aV f
 |.builtin .len=>F3 P c.argTypes
 |.builtin .append=>KI P c.argTypes
 |.builtin .min|.builtin .max=>true
 |_=>false
def DO(P:Wr)(src dst:Wj):Bool:=match P.underlying src,P.underlying dst with
 |some (.int _),some (.int _)=>true
 |some .string,some (.slice e)=>match P.underlying e with
  |some (.int .u8)=>true
  |_=>false
 |some (.slice e),some .string=>match P.underlying e with
  |some (.int .u8)=>true
  |_=>false
 |_,_=>false
def JA(P:Wr)(t:Wj):Bool:=match P.underlying t with
 |some (.pointer _)=>false
 |_=>true
def jB(P:Wr):Op→Bool
 |.move x|.assign x|.unOp _ _ x|.nilCheck x|.load _ x|.box _ x|.extract x _|.range _ x=>aV x
 |.next x s=>s&&aV x
 |.pick c a b=>aV c&&aV a&&aV b
 |.alloc t=>iH P t
 |.build t ps=>iH P t&&ps.all fun p=>aV p.2
 |.buildSlice t _ ps=>oI P t&&ps.all fun p=>aV p.2
 |.store _ a x=>aV a&&aV x
 |.binOp op t x y _=>(dW P t||Bj P op t)&&aV x&&aV y
 |.convert s d x=>DO P s d&&aV x
 |.makeFunc (.func f) a b=>aT.ok f&&a.all aV&&b.all aV
 |.makeSlice t l c=>oI P t&&aV l&&aV c
 |.slice t x lo hi mx=>JA P t&&aV x&&lo.all aV&&hi.all aV&&mx.all aV
 |.fieldAddr s x f=>zk P s f&&aV x
 |.indexAddr _ x i|.index _ x i=>aV x&&aV i
 |.call c=>uP P c&&c.args.all aV
 |_=>false
def ER(E:Env)(r r':Yb→R2):Prop:=∀x,aV x=true→VR E (r x) (r' x)
section
variable{P:Wr}{E:Env}
omit [aT] in
theorem EZ(op:BinOp)(t:Wj)(a b:Yb){w u:R2}(h:Ri w=true):eqGuard op t a b w u=Pure.pure ():=by
 unfold eqGuard;cases op<;>first|rfl|(cases w<;>first|rfl|cases h)
omit [aT] in
theorem EM(op:BinOp)(t:Wj)(a b:Yb){w u:R2}(h:Ri w=true):eqGuard op t a b u w=Pure.pure ():=by
 unfold eqGuard;cases op<;>first|rfl|(cases w<;>first|(cases u<;>rfl)|cases h)
theorem CV(op : BinOp)(t : Wj)(ht : dW P t = true)(a b : Yb){x y u v : R2}(hx : VR E x y)(hu : VR E u v): SR P (fun _ _ _=>True) E (eqGuard op t a b x u) (eqGuard op t a b y v):=by
  have guard : ∀ (d : Nat) (x y : R2) (E : Env),(∀ c,x≠.agg c)→SR P (fun _ a b=>a = false∧b = false) E (Yz (d + 1) t x y) (Yz (d + 1) t x y):=fun d x y E hx=>by
    rw[Yz];refine SR.bind (aH t) ?_;rintro E1 ds _ hl ⟨rfl,hd⟩;unfold dW at ht;rw[hd]at ht;cases ds<;>first|exact .ret ⟨rfl,rfl⟩|cases ht
  have gt : ∀ n,P.eqGuardType (n + 1) t = false:=fun n=>by
    rw[Program.eqGuardType];unfold dW at ht;cases hd : P.underlying t with
    |none=>rfl
    |some ds=>
      rw[hd]at ht;cases ds<;>first|rfl|cases ht
  cases hx with
  |any w h=>
    rw[EZ op t a b (w:=.pointer none) rfl,EZ op t a b h];exact .ret trivial
  |_=>
    cases hu with
    |any w h=>
      rw[EM op t a b (w:=.pointer none) rfl,EM op t a b h];exact .ret trivial
    |_=>
      unfold eqGuard;cases op
      all_goals(first
        |exact .ret trivial
        | (first
            |exact .ret trivial
            | (simp only [Bool.not_true, WV, X9]
               refine SR.bind dI ?_;rintro E1 p p' hl ⟨rfl,rfl⟩;refine SR.bind dI ?_;rintro E2 q q' g ⟨h1,h2⟩;rw[h1,h2];have hg:=gt (2 * (p'.types.size + Made.depth) + 1);have f : p'.eqGuardType p'.depth t = false:=hg;simp only[f,Bool.not_false,YI];exact .ret trivial)
            | (simp only [Bool.not_true, WV, X9]
               refine SR.ite (.ret trivial) (SR.bind (guard 9999 _ _ E (fun c e=>by cases e)) ?_);rintro E1 _ _ _ ⟨rfl,rfl⟩;exact .ret trivial)))
theorem Bz(op : BinOp)(t : Wj)(ht : Bj P op t = true)(a b : Yb){x y u v : R2}(hx : VR E x y)(hu : VR E u v): SR P (fun _ _ _=>True) E (eqGuard op t a b x u) (eqGuard op t a b y v):=by
  simp only[Bj,Wy]at ht;obtain⟨⟨⟨_,hm⟩,_⟩,f⟩:=ht;have gt : P.eqGuardType P.depth t = false:=by simpa using f
  have guard : ∀ (d : Nat) (x y : R2) (E : Env),(∀ c,x≠.agg c)→SR P (fun _ a b=>a = false∧b = false) E (Yz (d + 1) t x y) (Yz (d + 1) t x y):=fun d x y E hx=>by
    rw[Yz];refine SR.bind (aH t) ?_;rintro E1 ds _ hl ⟨rfl,hd⟩;rw[hd]at hm;cases ds with
    |struct fs=>cases x<;>first|exact .ret ⟨rfl,rfl⟩|exact absurd rfl (hx _)
    |array n e=>cases x<;>first|exact .ret ⟨rfl,rfl⟩|exact absurd rfl (hx _)
    |_=>cases hm
  cases hx with
  |any w h=>
    rw[EZ op t a b (w:=.pointer none) rfl,EZ op t a b h];exact .ret trivial
  |_=>
    cases hu with
    |any w h=>
      rw[EM op t a b (w:=.pointer none) rfl,EM op t a b h];exact .ret trivial
    |_=>
      unfold eqGuard;cases op
      all_goals(first
        |exact .ret trivial
        | (first
            |exact .ret trivial
            | (simp only [Bool.not_true, WV, X9]
               refine SR.bind dI ?_;rintro E1 p p' hl ⟨rfl,rfl⟩;refine SR.bind dI ?_;rintro E2 q q' g ⟨h1,h2⟩;rw[h1,h2];simp only[gt,Bool.not_false,YI];exact .ret trivial)
            | (simp only [Bool.not_true, WV, X9]
               refine SR.ite (.ret trivial) (SR.bind (guard 9999 _ _ E (fun c e=>by cases e)) ?_);rintro E1 _ _ _ ⟨rfl,rfl⟩;exact .ret trivial)))
theorem CO(src dst:Wj)(h:DO P src dst=true){x y:R2}(hx:VR E x y):SR P (fun E' a b=>VR E' a b) E (convert src dst x) (convert src dst y):=by
 unfold convert;refine SR.bind (aH src) ?_;rintro E1 d _ hl ⟨rfl,hd⟩;refine SR.bind (aH dst) ?_;rintro E2 d' _ hl2 ⟨rfl,hd'⟩;have hv:=hx.mono (Env.le_trans hl hl2);unfold DO at h;rw[hd,hd']at h;cases d with
 |int k=>
  cases d' with
  |int k'=>cases hv<;>first|exact .ret (.int _ _)|exact .die (ax _)
  |_=>cases h
 |string=>
  cases d' with
  |slice e=>
   dsimp only at h;cases he:P.underlying e with
   |none=>rw[he]at h;cases h
   |some ed=>
    rw[he]at h;cases hv with
    |string s=>
     dsimp only;refine SR.bind (aH e) ?_;rintro E3 d3 _ hl3 ⟨rfl,hd3⟩;rw[he]at hd3;cases hd3;cases ed with
     |int k=>cases k<;>first|exact qZ e s|cases h
     |_=>cases h
    |_=>exact .die (ax _)
  |_=>cases h
 |slice e=>
  cases d' with
  |string=>
   dsimp only at h;cases he:P.underlying e with
   |none=>rw[he]at h;cases h
   |some ed=>
    rw[he]at h
    have main:∀{u v:R2},VR E2 u v→SR P (fun E' a b=>VR E' a b) E2 (do
      match ←underlying e with
      |.int .u8=>Conv.bytesToString u
      |.int .i32=>Conv.runesToString u
      | _ => stuck "Convert: a slice of what to string?") (do
      match ←underlying e with
      |.int .u8=>Conv.bytesToString v
      |.int .i32=>Conv.runesToString v
      | _ => stuck "Convert: a slice of what to string?") := fun {u v} huv => by
     refine SR.bind (aH e) ?_;rintro E3 d3 _ hl3 ⟨rfl,hd3⟩;rw[he]at hd3;cases hd3;cases ed with
     |int k=>cases k<;>first|exact qP (huv.mono hl3)|cases h
     |_=>cases h
    have hv2:=hv;cases hv with
    |any v hr=>
     refine .die (gm fun d3 hd3=>?_);rw[he]at hd3;cases hd3;cases ed with
     |int k=>cases k<;>first|exact ai _|cases h
     |_=>cases h
    |_=>first|exact .ret (.string _)|exact main hv2
  |_=>cases h
 |_=>cases h
theorem Bm(hF:tH P)(f:Xg)(hf:aT.ok f=true){x y:Array R2}(h:LR E x y):SR P (fun E' a b=>NR E' a b) E (callFunc f x) (callFunc f y):=by
 unfold callFunc;refine SR.bind dI ?_;rintro E1 p p' hl ⟨h1,h2⟩;rw[h1,h2];obtain⟨fn,e1,e2,e3⟩:=hF f hf;simp only[e1,e2,e3,WV,X9];exact .ret (.enter f hf (h.mono hl))
theorem iQ{s s':Sem R2}(h:SR P (fun E' a b=>VR E' a b) E s s'):SR P (fun E' a b=>NR E' a b) E (do pure (.value (←s)):Sem Next) (do pure (.value (←s')):Sem Next):=SR.bind h fun _ _ _ _ hv=>.ret (.value hv)
theorem UG{s s':Sem Unit}(h:SR P (fun _ _ _=>True) E s s'):SR P (fun E' a b=>NR E' a b) E (do s;pure .skip:Sem Next) (do s';pure .skip:Sem Next):=SR.bind h fun _ _ _ _ _=>.ret .skip
theorem tE{r r':Yb→R2}(h:ER E r r'){l:Array Yb}(hl:l.all aV=true):LR E (l.map r) (l.map r'):=⟨vsi,fun i u v hu hv=>by
 simp only[Array.getElem?_map,Xt]at hu hv;obtain⟨a,h1,rfl⟩:=hu;obtain⟨b,h2,rfl⟩:=hv;rw[h1]at h2;cases h2;rw[WJ]at hl;exact h a (hl a (YU h1))⟩
theorem vK{r r':Yb→R2}(h:ER E r r'):∀{l:List (Nat×Yb)},(∀p∈l,aV p.2=true)→PR E (l.map fun(i,x)=>(i,r x)) (l.map fun(i,x)=>(i,r' x))
 |[],_=>.nil
 |(i,x) :: l,hl=>.cons i (h x (hl (i,x) vsi)) (vK h fun p hp=>hl p (by simp[hp]))
theorem CC{r r':Yb→R2}(h:ER E r r'){o:Option Yb}(ho:o.all aV=true):MR E (o.map r) (o.map r'):=by
 cases o with
 |none=>exact .none
 |some x=>exact .some (h x ho)
theorem NW{x y u v:R2}(hx:VR E x y)(hu:VR E u v):SR P (fun E' a b=>VR E' a b) E (Builtin.min2 x u) (Builtin.min2 y v):=by
 cases hx<;>cases hu<;>first
  |exact .ret (.int _ _)
  |exact .ret (.string _)
  |exact .die (ai _)
  |exact .die (ax _)
theorem O3{x y u v:R2}(hx:VR E x y)(hu:VR E u v):SR P (fun E' a b=>VR E' a b) E (Builtin.max2 x u) (Builtin.max2 y v):=by
 cases hx<;>cases hu<;>first
  |exact .ret (.int _ _)
  |exact .ret (.string _)
  |exact .die (ai _)
  |exact .die (ax _)
theorem rj{f:R2→R2→Sem R2}(hf:∀(E:Env) x y u v,VR E x y→VR E u v→SR P (fun E' a b=>VR E' a b) E (f x u) (f y v)):∀(l l':List R2) (E:Env) (x y:R2),l.length=l'.length→(∀(i:Nat) u v,l[i]?=some u→l'[i]?=some v→VR E u v)→VR E x y→SR P (fun E' a b=>VR E' a b) E (l.foldlM f x) (l'.foldlM f y)
 |[],[],_,_,_,_,_,h=>.ret h
 |[],_ :: _,_,_,_,hl,_,_=>by cases hl
 |_ :: _,[],_,_,_,hl,_,_=>by cases hl
 |u :: l,v :: l',E,x,y,hl,hi,h=>by
  rw[List.foldlM_cons,List.foldlM_cons];refine SR.bind (hf E x y u v h (hi 0 u v rfl rfl)) ?_;intro E1 a b hle hab;exact rj hf l l' E1 a b (by simpa using hl) (fun i u v hu hv=>(hi (i+1) u v (by simpa using hu) (by simpa using hv)).mono hle) hab
theorem Rm(tys:Array Wj)(ty:Wj){x y:Array R2}(h:LR E x y):SR P (fun E' a b=>VR E' a b) E (Builtin.min_ tys ty x) (Builtin.min_ tys ty y):=by
 obtain⟨x⟩:=x;obtain⟨y⟩:=y;have hs:x.length=y.length:=h.size;have hi:∀(i:Nat) u v,x[i]?=some u→y[i]?=some v→VR E u v:=fun i u v hu hv=>h.at_ i u v (by simpa using hu) (by simpa using hv);unfold Builtin.min_
 match x,y,hs,hi with
 |[],[],_,_=>exact .die (ai _)
 |u :: x,v :: y,hs,hi=>exact rj (fun _ _ _ _ _=>NW) x y E u v (by simpa using hs) (fun i a b ha hb=>hi (i+1) a b (by simpa using ha) (by simpa using hb)) (hi 0 u v rfl rfl)
theorem Q8(tys:Array Wj)(ty:Wj){x y:Array R2}(h:LR E x y):SR P (fun E' a b=>VR E' a b) E (Builtin.max_ tys ty x) (Builtin.max_ tys ty y):=by
 obtain⟨x⟩:=x;obtain⟨y⟩:=y;have hs:x.length=y.length:=h.size;have hi:∀(i:Nat) u v,x[i]?=some u→y[i]?=some v→VR E u v:=fun i u v hu hv=>h.at_ i u v (by simpa using hu) (by simpa using hv);unfold Builtin.max_
 match x,y,hs,hi with
 |[],[],_,_=>exact .die (ai _)
 |u :: x,v :: y,hs,hi=>exact rj (fun _ _ _ _ _=>O3) x y E u v (by simpa using hs) (fun i a b ha hb=>hi (i+1) a b (by simpa using ha) (by simpa using hb)) (hi 0 u v rfl rfl)
theorem OX(hF:tH P){r r':Yb→R2}(h:ER E r r')(c:Call)(ty:Wj)(hc:uP P c=true)(ha:c.args.all aV=true):SR P (fun E' a b=>NR E' a b) E (do let d ←resolve r c ty;invoke d.target d.args) (do let d ←resolve r' c ty;invoke d.target d.args):=by
 unfold resolve;unfold uP at hc;cases hcal:c.callee with
 |value f=>
  rw[hcal]at hc;dsimp only at hc⊢;unfold Deferred.ofValue;have hl:=tE h ha;have hv:=h f hc;generalize r f=u at hv⊢;generalize r' f=v at hv⊢;cases hv with
  |@func g x y x' y' hg h1 h2 h3 h4=>
   show SR P _ E (invoke (.fn (.func g) y) (x++c.args.map r)) (invoke (.fn (.func g) y') (x'++c.args.map r'));unfold invoke;exact Bm hF g hg (((LR.mk h1 h2).app hl).app (LR.mk h3 h4))
  |nilFunc=>
   refine .die ?_;show eO P (invoke .nil (c.args.map r));unfold invoke;exact ec _
  |_=>exact .die (aQ (ai _))
 |invoke a b=>rw[hcal]at hc;cases hc
 |builtin b=>
  rw[hcal]at hc;have hl:=tE h ha;cases b with
  |len=>exact iQ (QM _ _ hl hc)
  |append=>exact iQ (IA _ hc _ hl)
  |min=>exact iQ (Rm _ _ hl)
  |max=>exact iQ (Q8 _ _ hl)
  |_=>cases hc
theorem tJ(hG:P.globals.size≤aT.G)(hF:tH P){r r':Yb→R2}(h:ER E r r')(o:Oper)(ho:jB P o.op=true):SR P (fun E' a b=>NR E' a b) E (Yn r o) (Yn r' o):=by
 obtain⟨dst,op,type,pos,after,guard⟩:=o;dsimp only at ho;cases op with
 |move x=>exact .ret (.value (h x ho))
 |assign x=>exact .ret (.value (h x ho))
 |pick c a b=>
  simp only[jB,Wy]at ho;refine SR.bind (Hr (h c ho.1.1)) ?_;rintro E1 t _ hl rfl;cases t
  ·exact .ret (.value ((h b ho.2).mono hl))
  ·exact .ret (.value ((h a ho.1.2).mono hl))
 |alloc e=>exact iQ (JX e ho)
 |box e x=>exact iQ (Qf e (h x ho))
 |build t ps=>
  simp only[jB,Wy]at ho;refine iQ (Ju t ho.1 ?_);rw[Array.toList_map,Array.toList_map]
  exact vK h fun p hp=>by
   have:=ho.2;simp only[WJ]at this;exact this p (by simpa using hp)
 |buildSlice t n ps=>
  simp only[jB,Wy]at ho;refine iQ (xh t ho.1 n ?_);rw[Array.toList_map,Array.toList_map]
  exact vK h fun p hp=>by
   have:=ho.2;simp only[WJ]at this;exact this p (by simpa using hp)
 |load t a=>exact iQ (Gj t (h a ho))
 |store t a x=>
  simp only[jB,Wy]at ho;exact UG (Ea t (h a ho.1) (h x ho.2))
 |nilCheck x=>
  have hv:=h x ho;unfold Yn;dsimp only;generalize r x=u at hv⊢;generalize r' x=v at hv⊢;have hv':=hv;cases hv<;>first|exact .die (ec _)|exact .ret (.value hv')
 |binOp op t x y ty=>
  simp only[jB,Wy]at ho;rcases Bool.or_eq_true_iff.1 ho.1.1 with hc|hc
  ·refine iQ (SR.bind (CV op t hc x y (h x ho.1.2) (h y ho.2)) ?_)
   intro E1 _ _ hl _;exact JN hG op t hc ((h x ho.1.2).mono hl) ((h y ho.2).mono hl)
  ·refine iQ (SR.bind (Bz op t hc x y (h x ho.1.2) (h y ho.2)) ?_)
   intro E1 _ _ hl _;exact Hs hG op t hc ((h x ho.1.2).mono hl) ((h y ho.2).mono hl)
 |unOp op t x=>exact iQ (LZ op (h x ho))
 |convert s d x=>
  simp only[jB,Wy]at ho;exact iQ (CO s d ho.1 (h x ho.2))
 |makeFunc fn a b=>
  cases fn with
  |func f=>
   simp only[jB,Wy]at ho;exact iQ (AL f ho.1.1 (tE h ho.1.2) (tE h ho.2))
  |_=>cases ho
 |makeSlice t l c=>
  simp only[jB,Wy]at ho;exact iQ (yK t ho.1.1 (h l ho.1.2) (h c ho.2))
 |slice t x lo hi mx=>
  simp only[jB,Wy]at ho;refine iQ (Du t (h x ho.1.1.1.2) (CC h ho.1.1.2) (CC h ho.1.2) (CC h ho.2) (fun a e=>?_));have:=ho.1.1.1.1;unfold JA at this;rw[e]at this;cases this
 |fieldAddr s x f=>
  simp only[jB,Wy]at ho;exact iQ (CL s f ho.1 (h x ho.2))
 |indexAddr t x i=>
  simp only[jB,Wy]at ho;exact iQ (DF t (h x ho.1) (h i ho.2))
 |index t x i=>
  simp only[jB,Wy]at ho;exact iQ (JJ t (h x ho.1) (h i ho.2))
 |range t x=>exact iQ (JU t (h x ho))
 |next x s=>
  simp only[jB,Wy]at ho;obtain⟨rfl,h2⟩:=ho;exact iQ (Nc _ (h x h2))
 |extract x i=>exact iQ (Dn i (h x ho))
 |call c=>
  simp only[jB,Wy]at ho;exact OX hF h c type ho.1 ho.2
 |_=>cases ho
end
end Cs
namespace Cs
open Go.Conc
variable[aT]
def codeOk(P:Wr):Code→Bool
 |.skip|.label _|.exit _|.goto _|.ret=>true
 |.region _ ops _=>ops.all fun o=>jB P o.op
 |.seq a b=>codeOk P a&&codeOk P b
 |.cond c a b=>aV c&&codeOk P a&&codeOk P b
 |.block _ c|.loop c|.scope c=>codeOk P c
 |_=>false
def aZ(P:Wr):Item→Bool
 |.code c|.inLoop c|.inScope c=>codeOk P c
 |.inBlock _=>true
 |.inRegion ops l=>l.all fun i=>match ops[i]? with
  |some o=>jB P o.op
  |none=>true
 |_=>false
theorem mK{P:Wr}{ops:Array Oper}(h:ops.all (fun o=>jB P o.op)=true)(l:List Nat):aZ P (.inRegion ops l)=true:=by
 rw[WJ]at h;show l.all _=true;rw[Yv];intro i _;cases hi:ops[i]? with
 |none=>rfl
 |some o=>exact h o (YU hi)
def j9(P:Wr)(fn:Xg):Prop:=∃f,P.funcs[fn]?=some f
def cP (P : Wr) : Prop := ∀ f, aT.ok f = true → ∃ fn body, P.funcs[f]? = some fn ∧ fn.body = some body ∧ codeOk P body = true ∧ (fn.name == "runtime.NumGoroutine") = false
theorem cP.SD{P:Wr}(h:cP P){f:Xg}(hf:aT.ok f=true):j9 P f:=by
 obtain⟨fn,_,h1,_⟩:=h f hf;exact⟨fn,h1⟩
theorem cP.EK{P:Wr}(h:cP P):tH P:=fun f hf=>by
 obtain⟨fn,body,h1,h2,_,h4⟩:=h f hf;exact⟨fn,h1,h4,by rw[h2];rfl⟩
def aL(fn:Xg)(x:Array R2)(todo:List Item)(mode:ZK):WG:={ fn,tmps:=x,todo,defers:=[],mode,kind:=.normal }
def pY:List Item→List Item
 |.inRegion ops (_ :: rest) :: k=>.inRegion ops rest :: k
 |k=>k
theorem iV{P:Wr}{k:List Item}(h:k.all (aZ P)=true):(pY k).all (aZ P)=true:=by
 cases k with
 |nil=>exact h
 |cons i k=>
  cases i with
  |inRegion ops t=>
   cases t with
   |nil=>exact h
   |cons j rest=>
    simp only[pY,XT,Wy,aZ]at h⊢;exact⟨h.1.2,h.2⟩
  |_=>exact h
inductive CR(P:Wr)(E:Env)(cl c:List WG):List WG→List WG→Prop
 |base:CR P E cl c cl c
 |cons {fn:Xg} {x y:Array R2} {todo:List Item} {l l':List WG} (hf:j9 P fn) (hx:LR E x y) (ht:(pY todo).all (aZ P)=true) (h:CR P E cl c l l'):CR P E cl c (aL fn x todo .run :: l) (aL fn y todo .run :: l')
theorem CR.mono{P:Wr}{E E':Env}(hl:E.le E'){cl c l l':List WG}(h:CR P E cl c l l'):CR P E' cl c l l':=by
 induction h with
 |base=>exact .base
 |cons hf hx ht _ ih=>exact .cons hf (hx.mono hl) ht ih
structure GR(P:Wr)(E:Env)(cl c:List WG)(gl g:Wi):Prop where
 ex:∃(fn:Xg) (x y:Array R2) (todo:List Item) (mode:ZK) (l l':List WG),gl=G (aL fn x todo mode) l∧g=G (aL fn y todo mode) l'∧j9 P fn∧LR E x y∧todo.all (aZ P)=true∧(mode=.run∨mode=.returning)∧CR P E cl c l l'
theorem GR.mk'{P:Wr}{E:Env}{cl c l l':List WG}{fn:Xg}{x y:Array R2}{todo:List Item}{mode:ZK}(hf:j9 P fn)(hx:LR E x y)(ht:todo.all (aZ P)=true)(hm:mode=.run∨mode=.returning)(h:CR P E cl c l l'):GR P E cl c (G (aL fn x todo mode) l) (G (aL fn y todo mode) l'):=⟨fn,x,y,todo,mode,l,l',rfl,rfl,hf,hx,ht,hm,h⟩
theorem mT{P:Wr}(id:Nat):∀{k k':List Item},k.all (aZ P)=true→exitTo id k=some k'→k'.all (aZ P)=true
 |[],_,_,h=>by cases h
 |i :: k,k',hk,h=>by
  simp only[XT,Wy]at hk;cases i with
  |inBlock id'=>
   simp only[exitTo]at h;split at h
   ·cases h;exact hk.2
   ·exact mT id hk.2 h
  |_=>exact mT id hk.2 h
theorem jY{P:Wr}:∀{c c':Code} {l:Nat},codeOk P c=true→findLabel c l=some c'→codeOk P c'=true
 |.seq a b,c',l,hc,h=>by
  simp only[codeOk,Wy]at hc;simp only[findLabel]at h;split at h
  ·rename_i rest hr
   cases h;simp only[codeOk,Wy];exact⟨jY hc.1 hr,hc.2⟩
  ·exact jY hc.2 h
 |.label l',c',l,_,h=>by
  simp only[findLabel]at h;split at h
  ·cases h;rfl
  ·cases h
 |.skip,_,_,_,h|.ret,_,_,_,h=>by cases h
 |.region _ _ _,_,_,_,h|.cond _ _ _,_,_,_,h|.block _ _,_,_,_,h|.loop _,_,_,_,h|.scope _,_,_,_,h|.exit _,_,_,_,h|.goto _,_,_,_,h=>by cases h
 |.rangeFunc _ _ _ _,_,_,hc,_=>by cases hc
 |.refuse _,_,_,hc,_=>by cases hc
theorem mZ{P:Wr}(l:Nat):∀{k k':List Item},k.all (aZ P)=true→gotoIn l k=some k'→k'.all (aZ P)=true
 |[],_,_,h=>by cases h
 |i :: k,k',hk,h=>by
  simp only[XT,Wy]at hk;cases i with
  |inScope body=>
   simp only[gotoIn]at h;split at h
   ·rename_i rest hr
    cases h;simp only[XT,Wy];exact⟨jY hk.1 hr,hk.1,hk.2⟩
   ·exact mZ l hk.2 h
  |_=>exact mZ l hk.2 h
theorem tB{E:Env}{x y:Array R2}(h:LR E x y)(t:Nat):VR E (x.getD t Wb) (y.getD t Wb):=by
 simp only[Array.getD_eq_getD_getElem?];cases hx:x[t]? with
 |none=>
  rw[h.none hx];exact .mkTuple (LR.nil _)
 |some u=>
  obtain⟨v,h1,h2⟩:=h.get hx;rw[h1];exact h2
theorem mX{E:Env}{fn:Xg}{x y:Array R2}{todo:List Item}{mode:ZK}(h:LR E x y):ER E (aL fn x todo mode).eval (aL fn y todo mode).eval:=fun o ho=>by
 cases o with
 |tmp t=>exact tB h t
 |const v=>exact ya ho
 |global g=>cases ho
 |func f=>exact .func f ho rfl (fun i u v hu=>by simp at hu) rfl (fun i u v hu=>by simp at hu)
theorem jV{E:Env}{x y:Array R2}(h:LR E x y)(ops:Array Oper):yielded ops x=yielded ops y:=by
 funext j
 unfold yielded;cases hd:(ops[j]?).bind (·.dst)with
 |none=>rfl
 |some d=>
  simp only[Option.bind_some];cases hx:x[d]? with
  |none=>rw[h.none hx]
  |some u=>
   obtain⟨v,h1,h2⟩:=h.get hx;rw[h1];cases h2 with
   |any v hv=>cases v<;>first|rfl|cases hv
   |_=>rfl
omit [aT] in
theorem iw(fn:Xg)(x:Array R2)(ops:Array Oper)(i:Nat)(rest:List Nat)(k:List Item)(mode:ZK)(v:R2):(aL fn x (.inRegion ops (i :: rest) :: k) mode).finish v=aL fn (match(ops[i]?).bind (·.dst)with|some d=>x.setIfInBounds d v|none=>x) (.inRegion ops rest :: k) mode:=rfl
theorem Jt{E:Env}{x y:Array R2}(h:LR E x y){u v:R2}(hv:VR E u v)(d:Option Tmp):LR E (match d with|some d=>x.setIfInBounds d u|none=>x) (match d with|some d=>y.setIfInBounds d v|none=>y):=by
 cases d with
 |none=>exact h
 |some d=>exact h.set d hv
section
variable{P:Wr}{E:Env}{cl c l l':List WG}{wl w:V8}{main:Bool}
def ot(P:Wr)(gl:Wi)(wl:V8)(gl':Wi)(wl':V8):Prop:=
 wl.drawn≤wl'.drawn∧wl'.tape=wl.tape∧∀τ,(∀i q,wl.drawn≤i→i<wl'.drawn→τ i q=wl.tape i q)→∃es,Xe P true gl (wl.tp τ)=.go gl' (wl'.tp τ) es
def zW:WG→List WG→Xg
 |f,[]=>f.fn
 |_,g :: l=>zW g l
omit [aT] in
theorem lN{f f':WG}(h:f.fn=f'.fn):∀l:List WG,zW f l=zW f' l
 |[]=>h
 |_ :: _=>rfl
def gJ(g:Wi):Xg:=zW g.frame g.callers
omit [aT] in
theorem lQ{fn:Xg}{x y:Array R2}{k k':List Item}{m m':ZK}(l:List WG):gJ (G (aL fn x k m) l)=gJ (G (aL fn y k' m') l):=lN (f:=aL fn x k m) (f':=aL fn y k' m') rfl l
omit [aT] in
theorem J5{fn:Xg}{x y:Array R2}{k k':List Item}{m m':ZK}{fr:WG}(l:List WG):gJ (G fr (aL fn x k m :: l))=gJ (G (aL fn y k' m') l):=lN (f:=aL fn x k m) (f':=aL fn y k' m') rfl l
omit [aT] in
theorem GB{fn:Xg}{x y:Array R2}{k k':List Item}{m m':ZK}{fr:WG}(l:List WG):gJ (G (aL fn y k' m') l)=gJ (G fr (aL fn x k m :: l)):=lN (f:=aL fn y k' m') (f':=aL fn x k m) rfl l
def Fh(P:Wr)(E:Env)(cl c:List WG)(main:Bool)(gl g:Wi)(wl w:V8):Prop:=
 ∃gl' wl' esl E' g' w' es,Xe P true gl wl=.go gl' wl' esl∧Xe P main g w=.go g' w' es∧GR P E' cl c gl' g'∧fZ P E' wl' w'∧(∀e∈es,jH E' e)∧gJ g'=gJ g∧FC E E' w w'∧ot P gl wl gl' wl'
def Ad(P:Wr)(gl:Wi)(wl:V8):Prop:=
 (∃o w' es,Xe P true gl wl=.ended o w' es)∨∃fn x todo chain w' es,Xe P true gl wl=.go (G (aL fn x todo (.panicking chain)) gl.callers) w' es∧∃f,P.funcs[fn]?=some f
theorem bV{fn:Xg}{x y:Array R2}{todo todo':List Item}{mode mode':ZK}(hf:j9 P fn)(hx:LR E x y)(ht:todo'.all (aZ P)=true)(hm:mode'=.run∨mode'=.returning)(hcr:CR P E cl c l l')(hb:fZ P E wl w)
  (h1:∀wl,Xe P true (G (aL fn x todo mode) l) wl=.go (G (aL fn x todo' mode') l) wl) (h2:Xe P main (G (aL fn y todo mode) l') w=.go (G (aL fn y todo' mode') l') w):Fh P E cl c main (G (aL fn x todo mode) l) (G (aL fn y todo mode) l') wl w:=
 ⟨_,_,_,E,_,_,_,h1 _,h2,.mk' hf hx ht hm hcr,hb,fun e he=>by simp at he,lQ _,FC.refl _ _,R3 _,rfl,fun _ _=>⟨_,h1 _⟩⟩
omit [aT] in
theorem iY(fn:Xg)(x:Array R2)(cnd:Yb)(a b:Code)(k:List Item)(l:List WG)(w:V8):Xe P main (G (aL fn x (.code (.cond cnd a b) :: k) .run) l) w=match(aL fn x (.code (.cond cnd a b) :: k) .run).eval cnd with
  |.bool t=>.go (G (aL fn x (.code (if t then a else b) :: k) .run) l) w
  | _ => .ended (.stuck "cond: bool expected" ((aL fn x (.code (.cond cnd a b) :: k) .run).pos P)) w := rfl
def upon(P:Wr)(fr:WG)(cs:List WG)(es:Array Event):Next→V8→GStep
 |.value v,w=>.go (G (fr.finish v) cs) w es
 |.skip,w=>.go (G (fr.finish Wb) cs) w es
 |.enter f args,w=>.go (G (Xa P f args .normal) (fr :: cs)) w es
 | _, w => .ended (.stuck "" "") w
omit [aT] in
theorem cK{fn:Xg}{x:Array R2}{ops:Array Oper}{i:Nat}{rest:List Nat}{k cs}{s:Sem Next}{nx:Next}{w w':V8}{es:Array Event}(h:s.runT P w #[]=(.ok nx w',es))(hn:(∃v,nx=.value v)∨nx=.skip∨∃f a,nx=.enter f a):
  Zz P true (aL fn x (.inRegion ops (i :: rest) :: k) .run) cs none s w=upon P (aL fn x (.inRegion ops (i :: rest) :: k) .run) cs (seen P fn es) nx w':=by
 unfold Zz;simp only[h,YI];rcases hn with⟨v,rfl⟩|rfl|⟨f,a,rfl⟩
 ·simp[Yo,upon,aL,G]
 ·simp[Yo,upon,aL,G]
 ·simp[Yo,upon,aL,G]
omit [aT] in
theorem nB{fn:Xg}{x:Array R2}{ops:Array Oper}{i:Nat}{rest:List Nat}{k:List Item}{o:Oper}(ho:ops[i]?=some o)(hw:Zv o (yielded ops x)=true):Xe P main (G (aL fn x (.inRegion ops (i :: rest) :: k) .run) l) w=Zz P true (aL fn x (.inRegion ops (i :: rest) :: k) .run) l none (Yn (aL fn x (.inRegion ops (i :: rest) :: k) .run).eval o) w:=by
 have h:=stepG_oper (P:=P) (main:=main) (b:=aL fn x [] .run) (a:=⟨x,[]⟩) (k:=k) (cs:=l) (w:=w) (rest:=rest) ho hw
 have e:(⟨x,[]⟩:Act).eval=(aL fn x (.inRegion ops (i :: rest) :: k) .run).eval:=by
  funext q
  cases q<;>rfl
 rw[e]at h;exact h
omit [aT] in
theorem gu{fn:Xg}{x:Array R2}{ops:Array Oper}{i:Nat}{rest:List Nat}{k:List Item}(h:((ops[i]?).map (Zv · (yielded ops x))).getD false=false):Xe P main (G (aL fn x (.inRegion ops (i :: rest) :: k) .run) l) w=.go (G ((aL fn x (.inRegion ops (i :: rest) :: k) .run).finish Wb) l) w:=by
 simp only[G,Xe,XH,aL,h,WV,X9]
omit [aT] in
theorem tY{fn:Xg}{x:Array R2}{ops:Array Oper}{i:Nat}{rest:List Nat}{k:List Item}{cs:List WG}{s:Sem Next}{h:Halt}{w w':V8}(hr:s.run P w=.halt h w')(hh:vZ h):
  (∃o w2 es,Zz P true (aL fn x (.inRegion ops (i :: rest) :: k) .run) cs none s w=.ended o w2 es)∨∃chain w2 es,Zz P true (aL fn x (.inRegion ops (i :: rest) :: k) .run) cs none s w=.go (G (aL fn x (.inRegion ops (i :: rest) :: k) (.panicking chain)) cs) w2 es:=by
 unfold Zz;cases h with
 |panic v=>exact .inr ⟨_,_,_,by simp only[YI,Sem.runT_eq,hr,Yo];rfl⟩
 |stuck s=>exact .inl ⟨_,_,_,by simp only[YI,Sem.runT_eq,hr,Yo];rfl⟩
 |unsupported u=>
  cases u with
  |initOrder g=>exact absurd rfl (hh g)
  |_=>exact .inl ⟨_,_,_,by simp only[YI,Sem.runT_eq,hr,Yo];rfl⟩
 |_=>exact hh.elim
theorem vP{f:Xg}(hC:cP P)(hf:aT.ok f=true){x y:Array R2}(h:LR E x y):∃x' y' todo,Xa P f x .normal=aL f x' todo .run∧Xa P f y .normal=aL f y' todo .run∧LR E x' y'∧todo.all (aZ P)=true:=by
 obtain⟨fn,body,h1,h2,h3,h4⟩:=hC f hf
 have a:∀z:Array R2,Xa P f z .normal=aL f (z++Array.replicate (fn.ntmps-z.size) Wb) [.code body] .run:=fun z=>by
  unfold Xa aL;simp only[h1,h2,Option.bind_some,Ww,Option.map_some]
 refine⟨_,_,_,a x,a y,?_,by simp[aZ,h3]⟩;rw[h.size];refine h.app ⟨vsi,fun i u v hu hv=>?_⟩;rw[Array.getElem?_replicate]at hu hv;split at hu
 ·rename_i hi
  rw[Wc hi]at hv;cases hu;cases hv;exact .mkTuple (LR.nil _)
 ·cases hu
theorem nG{fn:Xg}{x y:Array R2}{todo:List Item}(hx:LR E x y)(ht:(pY todo).all (aZ P)=true){u v:R2}(hv:VR E u v):∃x' y' todo',(aL fn x todo .run).finish u=aL fn x' todo' .run∧(aL fn y todo .run).finish v=aL fn y' todo' .run∧LR E x' y'∧todo'.all (aZ P)=true:=by
 cases todo with
 |nil=>exact⟨x,y,[],rfl,rfl,hx,ht⟩
 |cons i k=>
  cases i with
  |inRegion ops t=>
   cases t with
   |nil=>exact⟨x,y,_,rfl,rfl,hx,ht⟩
   |cons j rest=>
    refine⟨_,_,_,iw _ _ _ _ _ _ _ _,iw _ _ _ _ _ _ _ _,Jt hx hv _,?_⟩;exact ht
  |code a=>exact⟨x,y,_,rfl,rfl,hx,ht⟩
  |inBlock a=>exact⟨x,y,_,rfl,rfl,hx,ht⟩
  |inLoop a=>exact⟨x,y,_,rfl,rfl,hx,ht⟩
  |inScope a=>exact⟨x,y,_,rfl,rfl,hx,ht⟩
  |_=>simp[pY,aZ]at ht
theorem MK(hG:P.globals.size≤aT.G)(hC:cP P){fn:Xg}{x y:Array R2}{ops:Array Oper}{i:Nat}{rest:List Nat}{k:List Item}(hf:j9 P fn)(hx:LR E x y)(ht:(Item.inRegion ops (i :: rest) :: k).all (aZ P)=true)(hcr:CR P E cl c l l')(hb:fZ P E wl w):
  Fh P E cl c main (G (aL fn x (.inRegion ops (i :: rest) :: k) .run) l) (G (aL fn y (.inRegion ops (i :: rest) :: k) .run) l') wl w∨Ad P (G (aL fn x (.inRegion ops (i :: rest) :: k) .run) l) wl:=by
 have hu:VR E Wb Wb:=.mkTuple (LR.nil _);cases hw:((ops[i]?).map (Zv · (yielded ops x))).getD false
 ·obtain⟨x',y',todo',e1,e2,e3,e4⟩:=nG (fn:=fn) hx (iV ht) hu
  have s1:=fun wl=>gu (P:=P) (main:=true) (fn:=fn) (l:=l) (w:=wl) (rest:=rest) (k:=k) hw;have s2:=gu (P:=P) (main:=main) (fn:=fn) (l:=l') (w:=w) (rest:=rest) (k:=k) (x:=y) (by rw[←jV hx];exact hw);rw[e1]at s1;rw[e2]at s2;exact .inl ⟨_,_,_,E,_,_,_,s1 _,s2,.mk' hf e3 e4 (.inl rfl) hcr,hb,fun e he=>by simp at he,lQ _,FC.refl _ _,R3 _,rfl,fun _ _=>⟨_,s1 _⟩⟩
 ·cases ho:ops[i]? with
  |none=>rw[ho]at hw;cases hw
  |some o=>
   rw[ho]at hw;have n:Zv o (yielded ops x)=true:=hw
   have s:jB P o.op=true:=by
    simp only[XT,Wy,aZ]at ht;have h1:=ht.1.1;rw[ho]at h1;exact h1
   have s0:=fun wl=>nB (P:=P) (main:=true) (fn:=fn) (l:=l) (w:=wl) (rest:=rest) (k:=k) ho n;have s1:=s0 wl;have s2:=nB (P:=P) (main:=main) (fn:=fn) (l:=l') (w:=w) (rest:=rest) (k:=k) (x:=y) ho (by rw[←jV hx];exact n);have g:=(tJ hG hC.EK (mX (fn:=fn) (todo:=.inRegion ops (i :: rest) :: k) (mode:=.run) hx) o s).run wl w #[] hb;cases hr:(Yn (aL fn x (.inRegion ops (i :: rest) :: k) .run).eval o).run P wl with
   |halt h w'=>
    rw[hr]at g;obtain⟨f0,t⟩:=id hf;rcases tY (fn:=fn) (x:=x) (ops:=ops) (i:=i) (rest:=rest) (k:=k) (cs:=l) hr g with⟨a,b,d,e⟩|⟨ch,b,d,e⟩
    ·exact .inr (.inl ⟨a,b,d,by rw[s1];exact e⟩)
    ·exact .inr (.inr ⟨fn,x,_,ch,b,d,by rw[s1];exact e,f0,t⟩)
   |ok nx wl'=>
    rw[hr]at g;obtain⟨E',a,w',es',h1,h2,h3,h4,h5⟩:=g
    have j:(Yn (aL fn x (.inRegion ops (i :: rest) :: k) .run).eval o).runT P wl #[]=(.ok nx wl',((Yn (aL fn x (.inRegion ops (i :: rest) :: k) .run).eval o).runT P wl #[]).2):=by
     refine Prod.ext ?_ rfl;rw[Sem.runT_fst];exact hr
    obtain⟨q1,q2,q3⟩:=(tJ hG hC.EK (mX (fn:=fn) (todo:=.inRegion ops (i :: rest) :: k) (mode:=.run) hx) o s).loc wl w hb nx wl' hr
    have m:∀τ,(∀i q,wl.drawn≤i→i<wl'.drawn→τ i q=wl.tape i q)→(Yn (aL fn x (.inRegion ops (i :: rest) :: k) .run).eval o).runT P (wl.tp τ) #[]=(.ok nx (wl'.tp τ),((Yn (aL fn x (.inRegion ops (i :: rest) :: k) .run).eval o).runT P (wl.tp τ) #[]).2):=fun τ hτ=>by
     refine Prod.ext ?_ rfl;rw[Sem.runT_fst];exact q3 τ hτ
    have evs:∀e∈seen P fn (#[]++es'),jH E' e:=fun e he=>h4 e (by simpa using mem_seen he);left;cases h2 with
    |value hv=>
     obtain⟨x',y',todo',e1,e2,e3,e4⟩:=nG (fn:=fn) (hx.mono h5.le) (iV ht) hv;rw[cK j (.inl ⟨_,rfl⟩)]at s1;rw[cK h1 (.inl ⟨_,rfl⟩)]at s2;unfold upon at s1 s2;dsimp only at s1 s2;have sl:ot P _ wl _ wl':=⟨q1,q2,fun τ hτ=>⟨_,by rw[s0,cK (m τ hτ) (.inl ⟨_,rfl⟩)];rfl⟩⟩
     rw[e1]at s1 sl;rw[e2]at s2;exact⟨_,_,_,E',_,_,_,s1,s2,.mk' hf e3 e4 (.inl rfl) (hcr.mono h5.le),h3,evs,lQ _,h5,sl⟩
    |skip=>
     obtain⟨x',y',todo',e1,e2,e3,e4⟩:=nG (fn:=fn) (hx.mono h5.le) (iV ht) (hu.mono h5.le);rw[cK j (.inr (.inl rfl))]at s1;rw[cK h1 (.inr (.inl rfl))]at s2;unfold upon at s1 s2;dsimp only at s1 s2;have sl:ot P _ wl _ wl':=⟨q1,q2,fun τ hτ=>⟨_,by rw[s0,cK (m τ hτ) (.inr (.inl rfl))];rfl⟩⟩
     rw[e1]at s1 sl;rw[e2]at s2;exact⟨_,_,_,E',_,_,_,s1,s2,.mk' hf e3 e4 (.inl rfl) (hcr.mono h5.le),h3,evs,lQ _,h5,sl⟩
    |enter f hf' hl=>
     obtain⟨x',y',todo',e1,e2,e3,e4⟩:=vP hC hf' hl;rw[cK j (.inr (.inr ⟨_,_,rfl⟩))]at s1;rw[cK h1 (.inr (.inr ⟨_,_,rfl⟩))]at s2;unfold upon at s1 s2;dsimp only at s1 s2;have sl:ot P _ wl _ wl':=⟨q1,q2,fun τ hτ=>⟨_,by rw[s0,cK (m τ hτ) (.inr (.inr ⟨_,_,rfl⟩))];rfl⟩⟩
     rw[e1]at s1 sl;rw[e2]at s2;exact⟨_,_,_,E',_,_,_,s1,s2,.mk' (hC.SD hf') e3 e4 (.inl rfl) (.cons hf (hx.mono h5.le) (iV ht) (hcr.mono h5.le)),h3,evs,J5 _,h5,sl⟩
theorem B8{α:Type}{f g:α→Sem R2}(E:Env)(h:∀a E',E.le E'→SR P (fun E2 x y=>VR E2 x y) E' (f a) (g a)):∀(l:List α) (E':Env),E.le E'→SR P (fun E2 x y=>x.length=y.length∧∀(i:Nat) u v,x[i]?=some u→y[i]?=some v→VR E2 u v) E' (l.mapM f) (l.mapM g)
 |[],_,_=>.ret ⟨rfl,fun i u v hu=>by simp at hu⟩
 |a :: l,E',hl=>by
  rw[List.mapM_cons,List.mapM_cons];refine SR.bind (h a E' hl) ?_;intro E1 u v hl1 huv;refine SR.bind (B8 E h l E1 (Env.le_trans hl hl1)) ?_;rintro E2 x y hl2 ⟨h1,h2⟩;refine .ret ⟨by simp[h1],fun i p q hp hq=>?_⟩;cases i with
  |zero=>simp at hp hq;subst hp hq;exact huv.mono hl2
  |succ i=>exact h2 i p q (by simpa using hp) (by simpa using hq)
theorem Ic{u v:R2}(h:VR E u v):SR P (fun E' a b=>AR E' a b) E (asAddr u) (asAddr v):=by
 cases h with
 |ptr h=>exact .ret h
 |jm=>
  refine .die ?_;unfold asAddr;exact ec _
 |any v h=>
  refine .die ?_;unfold asAddr;exact ec _
 |_=>exact .die (ai _)
theorem aR{i:Item}{k:List Item}(h1:aZ P i=true)(h2:k.all (aZ P)=true):(i :: k).all (aZ P)=true:=by
 simp only[XT,h1,h2,Bool.and_self]
theorem iy(fn:Func){x y:Array R2}(h:LR E x y):SR P (fun E' a b=>VR E' a b) E (results fn x) (results fn y):=by
 unfold results;refine SR.bind (R1:=fun E' a b=>LR E' a b) ?_ ?_
 ·rw[Array.mapM_eq_mapM_toList,Array.mapM_eq_mapM_toList]
  refine SR.bind (B8 E (fun r E' hl=>?_) fn.results.toList E (Env.le_refl _)) ?_
  ·cases r with
   |tmp t=>exact .ret (tB (h.mono hl) t)
   |cell a t=>
    refine SR.bind (Ic (tB (h.mono hl) a)) ?_;intro E2 p q _ hpq;exact vE t hpq
  ·rintro E1 a b _ ⟨h1,h2⟩
   exact .ret ⟨by simpa using h1,fun i u v hu hv=>h2 i u v (by simpa using hu) (by simpa using hv)⟩
 ·intro E1 a b _ hab
  by_cases hs:a.size=1
  ·have c:b.size=1:=by rw[←hab.size];exact hs
   rw[dif_pos hs,dif_pos c];exact .ret (hab.at_ 0 _ _ (Wl _) (Wl _))
  ·rw[dif_neg hs,dif_neg (by rw[←hab.size];exact hs)]
   exact .ret (.mkTuple hab)
omit [aT] in
theorem di{fn:Xg}{x:Array R2}{todo:List Item}{f:Func}(hf:P.funcs[fn]?=some f){cal:WG}:Xe P main (G (aL fn x todo .returning) (cal :: l)) w=Yo (seen P fn ((results f x).runT P w #[]).2) (match(results f x).run P w with
  |.ok v w=>.go (G (cal.finish v) l) w
  |.halt (.stuck s) w=>.ended (.stuck s ((aL fn x todo .returning).pos P)) w
  | .halt _ w => .ended (.stuck "return: the result variables cannot be read" ((aL fn x todo .returning).pos P)) w) := by
 simp only[G,Xe,unwind,aL,hf,doReturn,Sem.runT_eq]
 rfl
theorem zL{fn qA:Xg}{x y x2 y2:Array R2}{todo todo2:List Item}(hf:j9 P fn)(hx:LR E x y)(hf2:j9 P qA)(hx2:LR E x2 y2)(ht2:(pY todo2).all (aZ P)=true)(hcr:CR P E cl c l l')(hb:fZ P E wl w):
  Fh P E cl c main (G (aL fn x todo .returning) (aL qA x2 todo2 .run :: l)) (G (aL fn y todo .returning) (aL qA y2 todo2 .run :: l')) wl w∨Ad P (G (aL fn x todo .returning) (aL qA x2 todo2 .run :: l)) wl:=by
 obtain⟨f,h1⟩:=hf;have s0:=fun wl=>di (main:=true) (x:=x) (todo:=todo) (l:=l) (w:=wl) (cal:=aL qA x2 todo2 .run) h1;have s1:=s0 wl;have s2:=di (main:=main) (x:=y) (todo:=todo) (l:=l') (w:=w) (cal:=aL qA y2 todo2 .run) h1;have a:=(iy (P:=P) f hx).run wl w #[] hb;cases hr:(results f x).run P wl with
 |halt h w'=>
  rw[hr]at s1;right;left;cases h<;>exact⟨_,_,_,s1⟩
 |ok v wl'=>
  rw[hr]at a s1;obtain⟨E',v',w',es',k1,k2,k3,k4,k5⟩:=a;have b:(results f y).run P w=.ok v' w':=by rw[←Sem.runT_fst P _ w #[],k1]
  rw[b,k1]at s2;obtain⟨x',y',todo',e1,e2,e3,e4⟩:=nG (fn:=qA) (hx2.mono k5.le) ht2 k2;dsimp only[Yo]at s1 s2;obtain⟨q1,q2,q3⟩:=(iy (P:=P) f hx).loc wl w hb v wl' hr
  have sl:ot P (G (aL fn x todo .returning) (aL qA x2 todo2 .run :: l)) wl (G (aL qA x' todo' .run) l) wl':=⟨q1,q2,fun τ hτ=>⟨_,by
   rw[s0,q3 τ hτ];dsimp only[Yo];rw[e1]⟩⟩
  rw[e1]at s1;rw[e2]at s2;left;refine⟨_,_,_,E',_,_,_,s1,s2,.mk' hf2 e3 e4 (.inl rfl) (hcr.mono k5.le),k3,fun e he=>?_,GB _,k5,sl⟩;simp only[Array.append_empty,ZE]at he;exact k4 e (mem_seen he)
theorem uI(hG:P.globals.size≤aT.G)(hC:cP P){gl g:Wi}(hg:GR P E cl c gl g)(hb:fZ P E wl w)(hns:¬(gl.frame.mode=.returning∧gl.callers=cl)):Fh P E cl c main gl g wl w∨Ad P gl wl:=by
 obtain⟨fn,x,y,todo,mode,l,l',rfl,rfl,hf,hx,ht,hm,f⟩:=hg.ex;rcases hm with rfl|rfl
 ·cases todo with
  |nil=>exact .inl (bV hf hx ht (.inr rfl) f hb (fun _=>rfl) rfl)
  |cons i k=>
   have n:k.all (aZ P)=true:=by simp only[XT,Wy]at ht;exact ht.2
   have o:aZ P i=true:=by simp only[XT,Wy]at ht;exact ht.1
   cases i with
   |inBlock id=>exact .inl (bV hf hx n (.inl rfl) f hb (fun _=>rfl) rfl)
   |inScope b=>exact .inl (bV hf hx n (.inl rfl) f hb (fun _=>rfl) rfl)
   |inLoop b=>exact .inl (bV (todo':=.code b :: .inLoop b :: k) hf hx (aR o (aR o n)) (.inl rfl) f hb (fun _=>rfl) rfl)
   |inRegion ops t=>
    cases t with
    |nil=>exact .inl (bV hf hx n (.inl rfl) f hb (fun _=>rfl) rfl)
    |cons j rest=>exact MK hG hC hf hx ht f hb
   |code cd=>
    have m:codeOk P cd=true:=o;cases cd with
    |skip=>exact .inl (bV hf hx n (.inl rfl) f hb (fun _=>rfl) rfl)
    |label lb=>exact .inl (bV hf hx n (.inl rfl) f hb (fun _=>rfl) rfl)
    |ret=>exact .inl (bV (todo':=.code .ret :: k) hf hx ht (.inr rfl) f hb (fun _=>rfl) rfl)
    |seq a b=>
     simp only[codeOk,Wy]at m;exact .inl (bV (todo':=.code a :: .code b :: k) hf hx (aR m.1 (aR m.2 n)) (.inl rfl) f hb (fun _=>rfl) rfl)
    |block id a=>exact .inl (bV (todo':=.code a :: .inBlock id :: k) hf hx (aR (show codeOk P a=true from m) (aR rfl n)) (.inl rfl) f hb (fun _=>rfl) rfl)
    |loop a=>exact .inl (bV (todo':=.code a :: .inLoop a :: k) hf hx (aR (show codeOk P a=true from m) (aR (show codeOk P a=true from m) n)) (.inl rfl) f hb (fun _=>rfl) rfl)
    |scope a=>exact .inl (bV (todo':=.code a :: .inScope a :: k) hf hx (aR (show codeOk P a=true from m) (aR (show codeOk P a=true from m) n)) (.inl rfl) f hb (fun _=>rfl) rfl)
    |cond q a b=>
     simp only[codeOk,Wy]at m;have s1:=fun wl=>iY (P:=P) (main:=true) fn x q a b k l wl;have s2:=iY (P:=P) (main:=main) fn y q a b k l' w;have hv:=mX (fn:=fn) (todo:=.code (.cond q a b) :: k) (mode:=.run) hx q m.1.1;generalize (aL fn x (.code (.cond q a b) :: k) .run).eval q=u at hv s1;generalize (aL fn y (.code (.cond q a b) :: k) .run).eval q=v at hv s2;cases hv with
     |bool t=>exact .inl (bV hf hx (aR (i:=.code (if t then a else b)) (by cases t;exact m.2;exact m.1.2) n) (.inl rfl) f hb s1 s2)
     |_=>exact .inr (.inl ⟨_,_,_,s1 wl⟩)
    |exit id=>
     cases he:exitTo id k with
     |none=>exact .inr (.inl ⟨_,_,_,by simp only[G,Xe,XH,aL,he,Option.elim_none];rfl⟩)
     |some k'=>exact .inl (bV hf hx (mT id n he) (.inl rfl) f hb (fun _=>by simp only[G,Xe,XH,aL,he,Option.elim_some]) (by simp only[G,Xe,XH,aL,he,Option.elim_some]))
    |goto lb=>
     cases he:gotoIn lb k with
     |none=>exact .inr (.inl ⟨_,_,_,by simp only[G,Xe,XH,aL,he,Option.elim_none];rfl⟩)
     |some k'=>exact .inl (bV hf hx (mZ lb n he) (.inl rfl) f hb (fun _=>by simp only[G,Xe,XH,aL,he,Option.elim_some]) (by simp only[G,Xe,XH,aL,he,Option.elim_some]))
    |region id ops draw=>
     cases draw
     ·exact .inl (bV (todo':=.inRegion ops (List.range ops.size) :: k) hf hx (aR (mK m _) n) (.inl rfl) f hb (fun _=>rfl) rfl)
     ·have z:wl.tape wl.drawn (.order fn id)=w.tape w.drawn (.order fn id):=hb.ta 0 _
      have s1:Xe P true (G (aL fn x (.code (.region id ops true) :: k) .run) l) wl=.go (G (aL fn x (.inRegion ops (Region.schedule (P.follows .mixedOrders) ops (w.tape w.drawn (.order fn id))) :: k) .run) l) { wl with drawn:=wl.drawn+1 }:=by
       rw[←z];simp[Xe,XH,aL,G,choose,Sem.run,Question.forced,Question.cut]
      have s2:Xe P main (G (aL fn y (.code (.region id ops true) :: k) .run) l') w=.go (G (aL fn y (.inRegion ops (Region.schedule (P.follows .mixedOrders) ops (w.tape w.drawn (.order fn id))) :: k) .run) l') { w with drawn:=w.drawn+1 }:=by
       simp[Xe,XH,aL,G,choose,Sem.run,Question.forced,Question.cut]
      have hB:fZ P E { wl with drawn:=wl.drawn+1 } { w with drawn:=w.drawn+1 }:=⟨⟨hb.wr.own,hb.wr.shared,hb.wr.inj,hb.wr.low⟩,fun i q'=>by
       have:=hb.ta (1+i) q';show wl.tape (wl.drawn+1+i) q'=w.tape (w.drawn+1+i) q';rw[XS,XS];exact this,hb.gF⟩
      exact .inl ⟨_,_,_,E,_,_,_,s1,s2,.mk' hf hx (aR (mK m _) n) (.inl rfl) f,hB,fun e he=>by simp at he,lQ _,⟨E.le_refl,rfl,rfl,rfl,R3 _,fun _ _ _=>rfl,fun _ _ _ _ h=>.inl h⟩,Nat.le_succ _,rfl,fun τ hτ=>⟨#[],by
       have h0:τ wl.drawn (.order fn id)=wl.tape wl.drawn (.order fn id):=hτ _ _ (R3 _) (Xj _);rw[←z,←h0];simp[Xe,XH,aL,G,choose,Sem.run,Question.forced,Question.cut,World.tp]⟩⟩
    |rangeFunc a b d e=>cases m
    |refuse s=>cases m
   |_=>cases o
 ·cases f with
  |base=>exact absurd ⟨rfl,rfl⟩ hns
  |cons hf2 hx2 ht2 h=>exact zL hf hx hf2 hx2 ht2 h hb
end
end Cs
end Go.Proofs.YtpcnpkhgjanamaaGreatDoor
