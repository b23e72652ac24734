import Derived.Conc.Listed
import Derived.Test.YtpdemelchhkfaaaJn4
namespace Go.Proofs.Ytpdemelchhkfaaa
namespace Cs
variable [Fns]
inductive NR (E:Env):Next→Next→Prop
 | value {u v:Value} (h:VR E u v):NR E (.value u) (.value v)
 | skip:NR E .skip .skip
 | enter (f:FuncId) (hf:Fns.ok f=true) {x y:Array Value} (h:LR E x y):NR E (.enter f x) (.enter f y)
def lq (P : Program) : Prop := ∀ f, Fns.ok f = true → ∃ fn, P.funcs[f]? = some fn ∧ (fn.name == "runtime.NumGoroutine") = false ∧ fn.body.isNone = false
def aP:Operand→Bool
 | .tmp _=>true
 | .const v=>oR v
 | .global _=>false
 | .func f=>Fns.ok f
def lI (P:Program) (c:Call):Bool:=match c.callee with
 | .value f=>aP f
 | .builtin .len=>tB P c.argTypes
 | .builtin .append=>yw P c.argTypes
 | .builtin .min | .builtin .max=>true
 | _=>false
def rP (P:Program) (src dst:TypeId):Bool:=match P.underlying src,P.underlying dst with
 | some (.int _),some (.int _)=>true
 | some .string,some (.slice e)=>match P.underlying e with
  | some (.int .u8)=>true
  | _=>false
 | some (.slice e),some .string=>match P.underlying e with
  | some (.int .u8)=>true
  | _=>false
 | _,_=>false
def xA (P:Program) (t:TypeId):Bool:=match P.underlying t with
 | some (.pointer _)=>false
 | _=>true
def fH (P:Program):Op→Bool
 | .move x | .assign x | .unOp _ _ x | .nilCheck x | .load _ x | .box _ x | .extract x _ | .range _ x=>aP x
 | .next x s=>s && aP x
 | .pick c a b=>aP c && aP a && aP b
 | .alloc t=>eM P t
 | .build t ps=>eM P t && ps.all fun p=>aP p.2
 | .buildSlice t _ ps=>jf P t && ps.all fun p=>aP p.2
 | .store _ a x=>aP a && aP x
 | .binOp op t x y _=>(cA P t || qE P op t) && aP x && aP y
 | .convert s d x=>rP P s d && aP x
 | .makeFunc (.func f) a b=>Fns.ok f && a.all aP && b.all aP
 | .makeSlice t l c=>jf P t && aP l && aP c
 | .slice t x lo hi mx=>xA P t && aP x && lo.all aP && hi.all aP && mx.all aP
 | .fieldAddr s x f=>oP P s f && aP x
 | .indexAddr _ x i | .index _ x i=>aP x && aP i
 | .call c=>lI P c && c.args.all aP
 | _=>false
def ER (E:Env) (r r':Operand→Value):Prop:=∀x,aP x=true→VR E (r x) (r' x)
section
variable {P:Program} {E:Env}
omit [Fns] in
theorem ua (op:BinOp) (t:TypeId) (a b:Operand) {w u:Value} (h:A2 w=true):eqGuard op t a b w u=Pure.pure ():=by
 unfold eqGuard
 cases op <;> first | rfl | (cases w <;> first | rfl | cases h)
omit [Fns] in
theorem tg (op:BinOp) (t:TypeId) (a b:Operand) {w u:Value} (h:A2 w=true):eqGuard op t a b u w=Pure.pure ():=by
 unfold eqGuard
 cases op <;> first | rfl | (cases w <;> first | (cases u <;> rfl) | cases h)
theorem rW (op : BinOp) (t : TypeId) (ht : cA P t = true) (a b : Operand) {x y u v : Value} (hx : VR E x y) (hu : VR E u v) : SR P (fun _ _ _ => True) E (eqGuard op t a b x u) (eqGuard op t a b y v) := by
  have guard : ∀ (d : Nat) (x y : Value) (E : Env), (∀ c, x ≠ .agg c) → SR P (fun _ a b => a = false ∧ b = false) E (Op.eqGuardIn (d + 1) t x y) (Op.eqGuardIn (d + 1) t x y) := fun d x y E hx => by
    rw [Op.eqGuardIn]
    refine SR.bind (aB t) ?_
    rintro E1 ds _ hl ⟨rfl, hd⟩
    unfold cA at ht
    rw [hd] at ht
    cases ds <;> first | exact .ret ⟨rfl, rfl⟩ | cases ht
  have gt : ∀ n, P.eqGuardType (n + 1) t = false := fun n => by
    rw [Program.eqGuardType]
    unfold cA at ht
    cases hd : P.underlying t with
    | none => rfl
    | some ds =>
      rw [hd] at ht
      cases ds <;> first | rfl | cases ht
  cases hx with
  | any w h =>
    rw [ua op t a b (w := .pointer none) rfl, ua op t a b h]
    exact .ret trivial
  | _ =>
    cases hu with
    | any w h =>
      rw [tg op t a b (w := .pointer none) rfl, tg op t a b h]
      exact .ret trivial
    | _ =>
      unfold eqGuard
      cases op
      all_goals (first
        | exact .ret trivial
        | (first
            | exact .ret trivial
            | (simp only [Bool.not_true, Bool.false_eq_true, if_false]
               refine SR.bind cn ?_
               rintro E1 p p' hl ⟨rfl, rfl⟩
               refine SR.bind cn ?_
               rintro E2 q q' hl2 ⟨h1, h2⟩
               rw [h1, h2]
               have hg := gt (2 * (p'.types.size + Made.depth) + 1)
               have hg' : p'.eqGuardType p'.depth t = false := hg
               simp only [hg', Bool.not_false, if_true]
               exact .ret trivial)
            | (simp only [Bool.not_true, Bool.false_eq_true, if_false]
               refine SR.ite (.ret trivial) (SR.bind (guard 9999 _ _ E (fun c e => by cases e)) ?_)
               rintro E1 _ _ _ ⟨rfl, rfl⟩
               exact .ret trivial)))
theorem qy (op : BinOp) (t : TypeId) (ht : qE P op t = true) (a b : Operand) {x y u v : Value} (hx : VR E x y) (hu : VR E u v) : SR P (fun _ _ _ => True) E (eqGuard op t a b x u) (eqGuard op t a b y v) := by
  simp only [qE, Bool.and_eq_true] at ht
  obtain ⟨⟨⟨_, hm⟩, _⟩, hgt⟩ := ht
  have gt : P.eqGuardType P.depth t = false := by simpa using hgt
  have guard : ∀ (d : Nat) (x y : Value) (E : Env), (∀ c, x ≠ .agg c) → SR P (fun _ a b => a = false ∧ b = false) E (Op.eqGuardIn (d + 1) t x y) (Op.eqGuardIn (d + 1) t x y) := fun d x y E hx => by
    rw [Op.eqGuardIn]
    refine SR.bind (aB t) ?_
    rintro E1 ds _ hl ⟨rfl, hd⟩
    rw [hd] at hm
    cases ds with
    | struct fs => cases x <;> first | exact .ret ⟨rfl, rfl⟩ | exact absurd rfl (hx _)
    | array n e => cases x <;> first | exact .ret ⟨rfl, rfl⟩ | exact absurd rfl (hx _)
    | _ => cases hm
  cases hx with
  | any w h =>
    rw [ua op t a b (w := .pointer none) rfl, ua op t a b h]
    exact .ret trivial
  | _ =>
    cases hu with
    | any w h =>
      rw [tg op t a b (w := .pointer none) rfl, tg op t a b h]
      exact .ret trivial
    | _ =>
      unfold eqGuard
      cases op
      all_goals (first
        | exact .ret trivial
        | (first
            | exact .ret trivial
            | (simp only [Bool.not_true, Bool.false_eq_true, if_false]
               refine SR.bind cn ?_
               rintro E1 p p' hl ⟨rfl, rfl⟩
               refine SR.bind cn ?_
               rintro E2 q q' hl2 ⟨h1, h2⟩
               rw [h1, h2]
               simp only [gt, Bool.not_false, if_true]
               exact .ret trivial)
            | (simp only [Bool.not_true, Bool.false_eq_true, if_false]
               refine SR.ite (.ret trivial) (SR.bind (guard 9999 _ _ E (fun c e => by cases e)) ?_)
               rintro E1 _ _ _ ⟨rfl, rfl⟩
               exact .ret trivial)))
theorem sK (src dst:TypeId) (h:rP P src dst=true) {x y:Value} (hx:VR E x y):SR P (fun E' a b=>VR E' a b) E (convert src dst x) (convert src dst y):=by
 unfold convert
 refine SR.bind (aB src) ?_
 rintro E1 d _ hl ⟨rfl,hd⟩
 refine SR.bind (aB dst) ?_
 rintro E2 d' _ hl2 ⟨rfl,hd'⟩
 have hv:=hx.mono (Env.le_trans hl hl2)
 unfold rP at h
 rw[hd,hd'] at h
 cases d with
 | int k =>
  cases d' with
  | int k'=>cases hv <;> first | exact .ret (.int _ _) | exact .die (au _)
  | _=>cases h
 | string =>
  cases d' with
  | slice e =>
   dsimp only at h
   cases he:P.underlying e with
   | none=>rw[he] at h;cases h
   | some ed =>
    rw[he] at h
    cases hv with
    | string s =>
     dsimp only
     refine SR.bind (aB e) ?_
     rintro E3 d3 _ hl3 ⟨rfl,hd3⟩
     rw[he] at hd3
     cases hd3
     cases ed with
     | int k=>cases k <;> first | exact j6 e s | cases h
     | _=>cases h
    | _=>exact .die (au _)
  | _=>cases h
 | slice e =>
  cases d' with
  | string =>
   dsimp only at h
   cases he:P.underlying e with
   | none=>rw[he] at h;cases h
   | some ed =>
    rw[he] at h
    have main:∀{u v:Value},VR E2 u v→SR P (fun E' a b=>VR E' a b) E2 (do
      match ←underlying e with
      | .int .u8=>Conv.bytesToString u
      | .int .i32=>Conv.runesToString u
      | _ => stuck "Convert: a slice of what to string?") (do
      match ←underlying e with
      | .int .u8=>Conv.bytesToString v
      | .int .i32=>Conv.runesToString v
      | _ => stuck "Convert: a slice of what to string?") := fun {u v} huv => by
     refine SR.bind (aB e) ?_
     rintro E3 d3 _ hl3 ⟨rfl,hd3⟩
     rw[he] at hd3
     cases hd3
     cases ed with
     | int k=>cases k <;> first | exact kF (huv.mono hl3) | cases h
     | _=>cases h
    have hv2:=hv
    cases hv with
    | any v hr =>
     refine .die (dQ fun d3 hd3=>?_)
     rw[he] at hd3
     cases hd3
     cases ed with
     | int k=>cases k <;> first | exact ag _ | cases h
     | _=>cases h
    | _=>first | exact .ret (.string _) | exact main hv2
  | _=>cases h
 | _=>cases h
theorem pY (hF:lq P) (f:FuncId) (hf:Fns.ok f=true) {x y:Array Value} (h:LR E x y):SR P (fun E' a b=>NR E' a b) E (callFunc f x) (callFunc f y):=by
 unfold callFunc
 refine SR.bind cn ?_
 rintro E1 p p' hl ⟨h1,h2⟩
 rw[h1,h2]
 obtain ⟨fn,e1,e2,e3⟩:=hF f hf
 simp only[e1,e2,e3,Bool.false_eq_true,if_false]
 exact .ret (.enter f hf (h.mono hl))
end
end Cs
namespace Cs
variable [Fns]
section
variable {P:Program} {E:Env}
theorem fh {s s':Sem Value} (h:SR P (fun E' a b=>VR E' a b) E s s'):SR P (fun E' a b=>NR E' a b) E (do pure (.value (←s)):Sem Next) (do pure (.value (←s')):Sem Next):=SR.bind h fun _ _ _ _ hv=>.ret (.value hv)
theorem D5 {s s':Sem Unit} (h:SR P (fun _ _ _=>True) E s s'):SR P (fun E' a b=>NR E' a b) E (do s;pure .skip:Sem Next) (do s';pure .skip:Sem Next):=SR.bind h fun _ _ _ _ _=>.ret .skip
theorem lA {r r':Operand→Value} (h:ER E r r') {l:Array Operand} (hl:l.all aP=true):LR E (l.map r) (l.map r'):=⟨by simp,fun i u v hu hv=>by
 simp only[Array.getElem?_map,Option.map_eq_some_iff] at hu hv
 obtain ⟨a,h1,rfl⟩:=hu
 obtain ⟨b,h2,rfl⟩:=hv
 rw[h1] at h2
 cases h2
 rw[Array.all_eq_true_iff_forall_mem] at hl
 exact h a (hl a (Array.mem_of_getElem? h1))⟩
theorem mE {r r':Operand→Value} (h:ER E r r'):∀{l:List (Nat × Operand)},(∀p ∈ l,aP p.2=true)→PR E (l.map fun (i,x)=>(i,r x)) (l.map fun (i,x)=>(i,r' x))
 | [],_=>.nil
 | (i,x) :: l,hl=>.cons i (h x (hl (i,x) (by simp))) (mE h fun p hp=>hl p (by simp[hp]))
theorem rB {r r':Operand→Value} (h:ER E r r') {o:Option Operand} (ho:o.all aP=true):MR E (o.map r) (o.map r'):=by
 cases o with
 | none=>exact .none
 | some x=>exact .some (h x ho)
theorem zP {x y u v:Value} (hx:VR E x y) (hu:VR E u v):SR P (fun E' a b=>VR E' a b) E (Builtin.min2 x u) (Builtin.min2 y v):=by
 cases hx <;> cases hu <;> first
  | exact .ret (.int _ _)
  | exact .ret (.string _)
  | exact .die (ag _)
  | exact .die (au _)
theorem Ag {x y u v:Value} (hx:VR E x y) (hu:VR E u v):SR P (fun E' a b=>VR E' a b) E (Builtin.max2 x u) (Builtin.max2 y v):=by
 cases hx <;> cases hu <;> first
  | exact .ret (.int _ _)
  | exact .ret (.string _)
  | exact .die (ag _)
  | exact .die (au _)
theorem j9 {f:Value→Value→Sem Value} (hf:∀(E:Env) x y u v,VR E x y→VR E u v→SR P (fun E' a b=>VR E' a b) E (f x u) (f y v)):∀(l l':List Value) (E:Env) (x y:Value),l.length=l'.length→(∀(i:Nat) u v,l[i]? = some u→l'[i]? = some v→VR E u v)→VR E x y→SR P (fun E' a b=>VR E' a b) E (l.foldlM f x) (l'.foldlM f y)
 | [],[],_,_,_,_,_,h=>.ret h
 | [],_ :: _,_,_,_,hl,_,_=>by cases hl
 | _ :: _,[],_,_,_,hl,_,_=>by cases hl
 | u :: l,v :: l',E,x,y,hl,hi,h=>by
  rw[List.foldlM_cons,List.foldlM_cons]
  refine SR.bind (hf E x y u v h (hi 0 u v rfl rfl)) ?_
  intro E1 a b hle hab
  exact j9 hf l l' E1 a b (by simpa using hl) (fun i u v hu hv=>(hi (i+1) u v (by simpa using hu) (by simpa using hv)).mono hle) hab
theorem B6 (tys:Array TypeId) (ty:TypeId) {x y:Array Value} (h:LR E x y):SR P (fun E' a b=>VR E' a b) E (Builtin.min_ tys ty x) (Builtin.min_ tys ty y):=by
 obtain ⟨x⟩:=x
 obtain ⟨y⟩:=y
 have hs:x.length=y.length:=h.size
 have hi:∀(i:Nat) u v,x[i]? = some u→y[i]? = some v→VR E u v:=fun i u v hu hv=>h.at_ i u v (by simpa using hu) (by simpa using hv)
 unfold Builtin.min_
 match x,y,hs,hi with
 | [],[],_,_=>exact .die (ag _)
 | u :: x,v :: y,hs,hi=>exact j9 (fun _ _ _ _ _=>zP) x y E u v (by simpa using hs) (fun i a b ha hb=>hi (i+1) a b (by simpa using ha) (by simpa using hb)) (hi 0 u v rfl rfl)
theorem A9 (tys:Array TypeId) (ty:TypeId) {x y:Array Value} (h:LR E x y):SR P (fun E' a b=>VR E' a b) E (Builtin.max_ tys ty x) (Builtin.max_ tys ty y):=by
 obtain ⟨x⟩:=x
 obtain ⟨y⟩:=y
 have hs:x.length=y.length:=h.size
 have hi:∀(i:Nat) u v,x[i]? = some u→y[i]? = some v→VR E u v:=fun i u v hu hv=>h.at_ i u v (by simpa using hu) (by simpa using hv)
 unfold Builtin.max_
 match x,y,hs,hi with
 | [],[],_,_=>exact .die (ag _)
 | u :: x,v :: y,hs,hi=>exact j9 (fun _ _ _ _ _=>Ag) x y E u v (by simpa using hs) (fun i a b ha hb=>hi (i+1) a b (by simpa using ha) (by simpa using hb)) (hi 0 u v rfl rfl)
theorem zG (hF:lq P) {r r':Operand→Value} (h:ER E r r') (c:Call) (ty:TypeId) (hc:lI P c=true) (ha:c.args.all aP=true):SR P (fun E' a b=>NR E' a b) E (do let d ←resolve r c ty;invoke d.target d.args) (do let d ←resolve r' c ty;invoke d.target d.args):=by
 unfold resolve
 unfold lI at hc
 cases hcal:c.callee with
 | value f =>
  rw[hcal] at hc
  dsimp only at hc ⊢
  unfold Deferred.ofValue
  have hl:=lA h ha
  have hv:=h f hc
  generalize r f=u at hv ⊢
  generalize r' f=v at hv ⊢
  cases hv with
  | @func g x y x' y' hg h1 h2 h3 h4 =>
   show SR P _ E (invoke (.fn (.func g) y) (x++c.args.map r)) (invoke (.fn (.func g) y') (x'++c.args.map r'))
   unfold invoke
   exact pY hF g hg (((LR.mk h1 h2).app hl).app (LR.mk h3 h4))
  | nilFunc =>
   refine .die ?_
   show cZ P (invoke .nil (c.args.map r))
   unfold invoke
   exact cF _
  | _=>exact .die (aN (ag _))
 | invoke a b=>rw[hcal] at hc;cases hc
 | builtin b =>
  rw[hcal] at hc
  have hl:=lA h ha
  cases b with
  | len=>exact fh (Bi _ _ hl hc)
  | append=>exact fh (ve _ hc _ hl)
  | min=>exact fh (B6 _ _ hl)
  | max=>exact fh (A9 _ _ hl)
  | _=>cases hc
set_option maxHeartbeats 2000000 in
theorem iL (hG:P.globals.size≤Fns.G) (hF:lq P) {r r':Operand→Value} (h:ER E r r') (o:Oper) (ho:fH P o.op=true):SR P (fun E' a b=>NR E' a b) E (execOp r o) (execOp r' o):=by
 obtain ⟨dst,op,type,pos,after,guard⟩:=o
 dsimp only at ho
 cases op with
 | move x=>exact .ret (.value (h x ho))
 | assign x=>exact .ret (.value (h x ho))
 | pick c a b =>
  simp only[fH,Bool.and_eq_true] at ho
  refine SR.bind (uP (h c ho.1.1)) ?_
  rintro E1 t _ hl rfl
  cases t
  ·exact .ret (.value ((h b ho.2).mono hl))
  ·exact .ret (.value ((h a ho.1.2).mono hl))
 | alloc e=>exact fh (yO e ho)
 | box e x=>exact fh (AM e (h x ho))
 | build t ps =>
  simp only[fH,Bool.and_eq_true] at ho
  refine fh (yM t ho.1 ?_)
  rw[Array.toList_map,Array.toList_map]
  exact mE h fun p hp=>by
   have:=ho.2
   simp only[Array.all_eq_true_iff_forall_mem] at this
   exact this p (by simpa using hp)
 | buildSlice t n ps =>
  simp only[fH,Bool.and_eq_true] at ho
  refine fh (nh t ho.1 n ?_)
  rw[Array.toList_map,Array.toList_map]
  exact mE h fun p hp=>by
   have:=ho.2
   simp only[Array.all_eq_true_iff_forall_mem] at this
   exact this p (by simpa using hp)
 | load t a=>exact fh (uJ t (h a ho))
 | store t a x =>
  simp only[fH,Bool.and_eq_true] at ho
  exact D5 (sA t (h a ho.1) (h x ho.2))
 | nilCheck x =>
  have hv:=h x ho
  unfold execOp
  dsimp only
  generalize r x=u at hv ⊢
  generalize r' x=v at hv ⊢
  have hv':=hv
  cases hv <;> first | exact .die (cF _) | exact .ret (.value hv')
 | binOp op t x y ty =>
  simp only[fH,Bool.and_eq_true] at ho
  rcases Bool.or_eq_true_iff.1 ho.1.1 with hc | hc
  ·refine fh (SR.bind (rW op t hc x y (h x ho.1.2) (h y ho.2)) ?_)
   intro E1 _ _ hl _
   exact yS hG op t hc ((h x ho.1.2).mono hl) ((h y ho.2).mono hl)
  ·refine fh (SR.bind (qy op t hc x y (h x ho.1.2) (h y ho.2)) ?_)
   intro E1 _ _ hl _
   exact uA hG op t hc ((h x ho.1.2).mono hl) ((h y ho.2).mono hl)
 | unOp op t x=>exact fh (we op (h x ho))
 | convert s d x =>
  simp only[fH,Bool.and_eq_true] at ho
  exact fh (sK s d ho.1 (h x ho.2))
 | makeFunc fn a b =>
  cases fn with
  | func f =>
   simp only[fH,Bool.and_eq_true] at ho
   exact fh (qu f ho.1.1 (lA h ho.1.2) (lA h ho.2))
  | _=>cases ho
 | makeSlice t l c =>
  simp only[fH,Bool.and_eq_true] at ho
  exact fh (pz t ho.1.1 (h l ho.1.2) (h c ho.2))
 | slice t x lo hi mx =>
  simp only[fH,Bool.and_eq_true] at ho
  refine fh (sI t (h x ho.1.1.1.2) (rB h ho.1.1.2) (rB h ho.1.2) (rB h ho.2) (fun a e=>?_))
  have:=ho.1.1.1.1
  unfold xA at this
  rw[e] at this
  cases this
 | fieldAddr s x f =>
  simp only[fH,Bool.and_eq_true] at ho
  exact fh (sM s f ho.1 (h x ho.2))
 | indexAddr t x i =>
  simp only[fH,Bool.and_eq_true] at ho
  exact fh (rL t (h x ho.1) (h i ho.2))
 | index t x i =>
  simp only[fH,Bool.and_eq_true] at ho
  exact fh (xF t (h x ho.1) (h i ho.2))
 | range t x=>exact fh (vY t (h x ho))
 | next x s =>
  simp only[fH,Bool.and_eq_true] at ho
  obtain ⟨rfl,h2⟩:=ho
  exact fh (zE _ (h x h2))
 | extract x i=>exact fh (sV i (h x ho))
 | call c =>
  simp only[fH,Bool.and_eq_true] at ho
  exact zG hF h c type ho.1 ho.2
 | _=>cases ho
end
end Cs
namespace Cs
open Go.Conc
variable [Fns]
def codeOk (P:Program):Code→Bool
 | .skip | .label _ | .exit _ | .goto _ | .ret=>true
 | .region _ ops _=>ops.all fun o=>fH P o.op
 | .seq a b=>codeOk P a && codeOk P b
 | .cond c a b=>aP c && codeOk P a && codeOk P b
 | .block _ c | .loop c | .scope c=>codeOk P c
 | _=>false
def aK (P:Program):Item→Bool
 | .code c | .inLoop c | .inScope c=>codeOk P c
 | .inBlock _=>true
 | .inRegion ops l=>l.all fun i=>match ops[i]? with
  | some o=>fH P o.op
  | none=>true
 | _=>false
theorem eJ {P:Program} {ops:Array Oper} (h:ops.all (fun o=>fH P o.op)=true) (l:List Nat):aK P (.inRegion ops l)=true:=by
 rw[Array.all_eq_true_iff_forall_mem] at h
 show l.all _=true
 rw[List.all_eq_true]
 intro i _
 cases hi:ops[i]? with
 | none=>rfl
 | some o=>exact h o (Array.mem_of_getElem? hi)
def dK (P:Program) (fn:FuncId):Prop:=∃f,P.funcs[fn]? = some f
def bu (P : Program) : Prop := ∀ f, Fns.ok f = true → ∃ fn body, P.funcs[f]? = some fn ∧ fn.body = some body ∧ codeOk P body = true ∧ (fn.name == "runtime.NumGoroutine") = false
theorem bu.zD {P:Program} (h:bu P) {f:FuncId} (hf:Fns.ok f=true):dK P f:=by
 obtain ⟨fn,_,h1,_⟩:=h f hf
 exact ⟨fn,h1⟩
theorem bu.nW {P:Program} (h:bu P):lq P:=fun f hf=>by
 obtain ⟨fn,body,h1,h2,_,h4⟩:=h f hf
 exact ⟨fn,h1,h4,by rw[h2];rfl⟩
def mkF (fn:FuncId) (x:Array Value) (todo:List Item) (mode:FrameMode):Frame:={ fn,tmps:=x,todo,defers:=[],mode,kind:=.normal }
def pend:List Item→List Item
 | .inRegion ops (_ :: rest) :: k=>.inRegion ops rest :: k
 | k=>k
theorem dx {P:Program} {k:List Item} (h:k.all (aK P)=true):(pend k).all (aK P)=true:=by
 cases k with
 | nil=>exact h
 | cons i k =>
  cases i with
  | inRegion ops t =>
   cases t with
   | nil=>exact h
   | cons j rest =>
    simp only[pend,List.all_cons,Bool.and_eq_true,aK] at h ⊢
    exact ⟨h.1.2,h.2⟩
  | _=>exact h
inductive CR (P:Program) (E:Env) (cl c:List Frame):List Frame→List Frame→Prop
 | base:CR P E cl c cl c
 | cons {fn:FuncId} {x y:Array Value} {todo:List Item} {l l':List Frame} (hf:dK P fn) (hx:LR E x y) (ht:(pend todo).all (aK P)=true) (h:CR P E cl c l l'):CR P E cl c (mkF fn x todo .run :: l) (mkF fn y todo .run :: l')
theorem CR.mono {P:Program} {E E':Env} (hl:E.le E') {cl c l l':List Frame} (h:CR P E cl c l l'):CR P E' cl c l l':=by
 induction h with
 | base=>exact .base
 | cons hf hx ht _ ih=>exact .cons hf (hx.mono hl) ht ih
structure GR (P:Program) (E:Env) (cl c:List Frame) (gl g:Goroutine):Prop where
 ex:∃(fn:FuncId) (x y:Array Value) (todo:List Item) (mode:FrameMode) (l l':List Frame),gl=G (mkF fn x todo mode) l∧g=G (mkF fn y todo mode) l'∧dK P fn∧LR E x y∧todo.all (aK P)=true∧(mode=.run∨mode=.returning)∧CR P E cl c l l'
theorem GR.mk' {P:Program} {E:Env} {cl c l l':List Frame} {fn:FuncId} {x y:Array Value} {todo:List Item} {mode:FrameMode} (hf:dK P fn) (hx:LR E x y) (ht:todo.all (aK P)=true) (hm:mode=.run∨mode=.returning) (h:CR P E cl c l l'):GR P E cl c (G (mkF fn x todo mode) l) (G (mkF fn y todo mode) l'):=⟨fn,x,y,todo,mode,l,l',rfl,rfl,hf,hx,ht,hm,h⟩
theorem fK {P:Program} (id:Nat):∀{k k':List Item},k.all (aK P)=true→exitTo id k=some k'→k'.all (aK P)=true
 | [],_,_,h=>by cases h
 | i :: k,k',hk,h=>by
  simp only[List.all_cons,Bool.and_eq_true] at hk
  cases i with
  | inBlock id' =>
   simp only[exitTo] at h
   split at h
   ·cases h;exact hk.2
   ·exact fK id hk.2 h
  | _=>exact fK id hk.2 h
theorem gu {P:Program}:∀{c c':Code} {l:Nat},codeOk P c=true→findLabel c l=some c'→codeOk P c'=true
 | .seq a b,c',l,hc,h=>by
  simp only[codeOk,Bool.and_eq_true] at hc
  simp only[findLabel] at h
  split at h
  ·rename_i rest hr
   cases h
   simp only[codeOk,Bool.and_eq_true]
   exact ⟨gu hc.1 hr,hc.2⟩
  ·exact gu hc.2 h
 | .label l',c',l,_,h=>by
  simp only[findLabel] at h
  split at h
  ·cases h;rfl
  ·cases h
 | .skip,_,_,_,h | .ret,_,_,_,h=>by cases h
 | .region _ _ _,_,_,_,h | .cond _ _ _,_,_,_,h | .block _ _,_,_,_,h | .loop _,_,_,_,h | .scope _,_,_,_,h | .exit _,_,_,_,h | .goto _,_,_,_,h=>by cases h
 | .rangeFunc _ _ _ _,_,_,hc,_=>by cases hc
 | .refuse _,_,_,hc,_=>by cases hc
theorem fS {P:Program} (l:Nat):∀{k k':List Item},k.all (aK P)=true→gotoIn l k=some k'→k'.all (aK P)=true
 | [],_,_,h=>by cases h
 | i :: k,k',hk,h=>by
  simp only[List.all_cons,Bool.and_eq_true] at hk
  cases i with
  | inScope body =>
   simp only[gotoIn] at h
   split at h
   ·rename_i rest hr
    cases h
    simp only[List.all_cons,Bool.and_eq_true]
    exact ⟨gu hk.1 hr,hk.1,hk.2⟩
   ·exact fS l hk.2 h
  | _=>exact fS l hk.2 h
theorem jG {E:Env} {x y:Array Value} (h:LR E x y) (t:Nat):VR E (x.getD t undef) (y.getD t undef):=by
 simp only[Array.getD_eq_getD_getElem?]
 cases hx:x[t]? with
 | none =>
  rw[h.none hx]
  exact .mkTuple (LR.nil _)
 | some u =>
  obtain ⟨v,h1,h2⟩:=h.get hx
  rw[h1]
  exact h2
theorem eu {E:Env} {fn:FuncId} {x y:Array Value} {todo:List Item} {mode:FrameMode} (h:LR E x y):ER E (mkF fn x todo mode).eval (mkF fn y todo mode).eval:=fun o ho=>by
 cases o with
 | tmp t=>exact jG h t
 | const v=>exact nJ ho
 | global g=>cases ho
 | func f=>exact .func f ho rfl (fun i u v hu=>by simp at hu) rfl (fun i u v hu=>by simp at hu)
theorem dN {E:Env} {x y:Array Value} (h:LR E x y) (ops:Array Oper):yielded ops x=yielded ops y:=by
 funext j
 unfold yielded
 cases hd:(ops[j]?).bind (·.dst) with
 | none=>rfl
 | some d =>
  simp only[Option.bind_some]
  cases hx:x[d]? with
  | none=>rw[h.none hx]
  | some u =>
   obtain ⟨v,h1,h2⟩:=h.get hx
   rw[h1]
   cases h2 with
   | any v hv=>cases v <;> first | rfl | cases hv
   | _=>rfl
omit [Fns] in
theorem eG (fn:FuncId) (x:Array Value) (ops:Array Oper) (i:Nat) (rest:List Nat) (k:List Item) (mode:FrameMode) (v:Value):(mkF fn x (.inRegion ops (i :: rest) :: k) mode).finish v=mkF fn (match (ops[i]?).bind (·.dst) with | some d=>x.setIfInBounds d v | none=>x) (.inRegion ops rest :: k) mode:=rfl
theorem rM {E:Env} {x y:Array Value} (h:LR E x y) {u v:Value} (hv:VR E u v) (d:Option Tmp):LR E (match d with | some d=>x.setIfInBounds d u | none=>x) (match d with | some d=>y.setIfInBounds d v | none=>y):=by
 cases d with
 | none=>exact h
 | some d=>exact h.set d hv
end Cs
namespace Cs
open Go.Conc
variable [Fns]
section
variable {P:Program} {E:Env} {cl c l l':List Frame} {wl w:World} {main:Bool}
def fN (P:Program) (gl:Goroutine) (wl:World) (gl':Goroutine) (wl':World):Prop :=
 wl.drawn≤wl'.drawn∧wl'.tape=wl.tape∧∀τ,(∀i q,wl.drawn≤i→i<wl'.drawn→τ i q=wl.tape i q)→∃es,stepG P true gl (wl.tp τ)=.go gl' (wl'.tp τ) es
def oQ:Frame→List Frame→FuncId
 | f,[]=>f.fn
 | _,g :: l=>oQ g l
omit [Fns] in
theorem iw {f f':Frame} (h:f.fn=f'.fn):∀l:List Frame,oQ f l=oQ f' l
 | []=>h
 | _ :: _=>rfl
def dL (g:Goroutine):FuncId:=oQ g.frame g.callers
omit [Fns] in
theorem gK {fn:FuncId} {x y:Array Value} {k k':List Item} {m m':FrameMode} (l:List Frame):dL (G (mkF fn x k m) l)=dL (G (mkF fn y k' m') l):=iw (f:=mkF fn x k m) (f':=mkF fn y k' m') rfl l
omit [Fns] in
theorem wZ {fn:FuncId} {x y:Array Value} {k k':List Item} {m m':FrameMode} {fr:Frame} (l:List Frame):dL (G fr (mkF fn x k m :: l))=dL (G (mkF fn y k' m') l):=iw (f:=mkF fn x k m) (f':=mkF fn y k' m') rfl l
omit [Fns] in
theorem uY {fn:FuncId} {x y:Array Value} {k k':List Item} {m m':FrameMode} {fr:Frame} (l:List Frame):dL (G (mkF fn y k' m') l)=dL (G fr (mkF fn x k m :: l)):=iw (f:=mkF fn y k' m') (f':=mkF fn x k m) rfl l
def tQ (P:Program) (E:Env) (cl c:List Frame) (main:Bool) (gl g:Goroutine) (wl w:World):Prop :=
 ∃gl' wl' esl E' g' w' es,stepG P true gl wl=.go gl' wl' esl∧stepG P main g w=.go g' w' es∧GR P E' cl c gl' g'∧cT P E' wl' w'∧(∀e ∈ es,ef E' e)∧dL g'=dL g∧FC E E' w w'∧fN P gl wl gl' wl'
def kW (P:Program) (gl:Goroutine) (wl:World):Prop :=
 (∃o w' es,stepG P true gl wl=.ended o w' es)∨∃fn x todo chain w' es,stepG P true gl wl=.go (G (mkF fn x todo (.panicking chain)) gl.callers) w' es∧∃f,P.funcs[fn]? = some f
theorem aZ {fn:FuncId} {x y:Array Value} {todo todo':List Item} {mode mode':FrameMode} (hf:dK P fn) (hx:LR E x y) (ht:todo'.all (aK P)=true) (hm:mode'=.run∨mode'=.returning) (hcr:CR P E cl c l l') (hb:cT P E wl w)
  (h1:∀wl,stepG P true (G (mkF fn x todo mode) l) wl=.go (G (mkF fn x todo' mode') l) wl) (h2:stepG P main (G (mkF fn y todo mode) l') w=.go (G (mkF fn y todo' mode') l') w):tQ P E cl c main (G (mkF fn x todo mode) l) (G (mkF fn y todo mode) l') wl w :=
 ⟨_,_,_,E,_,_,_,h1 _,h2,.mk' hf hx ht hm hcr,hb,fun e he=>by simp at he,gK _,FC.refl _ _,Nat.le_refl _,rfl,fun _ _=>⟨_,h1 _⟩⟩
omit [Fns] in
theorem dz (fn:FuncId) (x:Array Value) (cnd:Operand) (a b:Code) (k:List Item) (l:List Frame) (w:World):stepG P main (G (mkF fn x (.code (.cond cnd a b) :: k) .run) l) w=match (mkF fn x (.code (.cond cnd a b) :: k) .run).eval cnd with
  | .bool t=>.go (G (mkF fn x (.code (if t then a else b) :: k) .run) l) w
  | _ => .ended (.stuck "cond: bool expected" ((mkF fn x (.code (.cond cnd a b) :: k) .run).pos P)) w := rfl
def upon (P:Program) (fr:Frame) (cs:List Frame) (es:Array Event):Next→World→GStep
 | .value v,w=>.go (G (fr.finish v) cs) w es
 | .skip,w=>.go (G (fr.finish undef) cs) w es
 | .enter f args,w=>.go (G (Frame.enter P f args .normal) (fr :: cs)) w es
 | _, w => .ended (.stuck "" "") w
omit [Fns] in
theorem aW {fn:FuncId} {x:Array Value} {ops:Array Oper} {i:Nat} {rest:List Nat} {k cs} {s:Sem Next} {nx:Next} {w w':World} {es:Array Event} (h:s.runT P w #[]=(.ok nx w',es)) (hn:(∃v,nx=.value v)∨nx=.skip∨∃f a,nx=.enter f a) :
  stepG.apply P true (mkF fn x (.inRegion ops (i :: rest) :: k) .run) cs none s w=upon P (mkF fn x (.inRegion ops (i :: rest) :: k) .run) cs (seen P fn es) nx w':=by
 unfold stepG.apply
 simp only[h,if_true]
 rcases hn with ⟨v,rfl⟩ | rfl | ⟨f,a,rfl⟩
 ·simp[GStep.after,upon,mkF,G]
 ·simp[GStep.after,upon,mkF,G]
 ·simp[GStep.after,upon,mkF,G]
end
end Cs
end Go.Proofs.Ytpdemelchhkfaaa
