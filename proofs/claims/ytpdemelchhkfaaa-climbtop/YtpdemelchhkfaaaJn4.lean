import Derived.Test.YtpdemelchhkfaaaJn3
namespace Go.Proofs.Ytpdemelchhkfaaa
namespace Cs
variable [Fns]
section
variable {P:Program} {E:Env}
omit [Fns] in
theorem iB {α:Type} {f:Program→Sem α} (h:cZ P (f P)):cZ P (program >>= f):=fun w=>h w
omit [Fns] in
theorem iY {T:TypeId} (h:P.info? T=none):cZ P (typeInfo T):=by
 unfold typeInfo
 refine iB ?_
 rw[h]
 exact ag _
theorem qH {bl b s:Nat} {o:Bool} (h:E bl=some (b,s,o)):SR P (fun E' x y=>(x=none∧y=none)∨∃p q l,x=some (p,l)∧y=some (q,l)∧AR E' p q) E (numberAt bl) (numberAt b):=by
 unfold numberAt
 refine SR.bind (R1:=fun E' x y=>x.isSome=y.isSome∧(x.isSome=false→o=true)∧E' bl=some (b,s,o)) (.shape h fun x y hxy=>.pure ⟨?_,?_,h⟩) ?_
 ·rcases hxy with ⟨_,rfl⟩ | ⟨_,T,n,T',n',rfl,rfl,_⟩ <;> rfl
 ·rcases hxy with ⟨e,_⟩ | ⟨_,T,n,T',n',rfl,rfl,_⟩
  ·exact fun _=>e
  ·exact fun e=>by cases e
 ·rintro E1 x y _ ⟨h1,h2,h3⟩
  cases hx:x.isSome
  ·rw[hx] at h1 h2
   obtain rfl:=h2 rfl
   simp only[←h1,Bool.false_eq_true,if_false]
   refine SR.bind (R1:=fun E' x y=>OR E' x y) (.getObj h3 fun x y h=>.pure h) ?_
   intro E2 x y _ hxy
   cases hxy with
   | number l hn=>exact .ret (.inr ⟨_,_,_,rfl,rfl,hn⟩)
   | _=>exact .ret (.inl ⟨rfl,rfl⟩)
  ·rw[hx] at h1
   simp only[←h1,if_true]
   exact .ret (.inl ⟨rfl,rfl⟩)
theorem nD {bl b s:Nat} {o:Bool} (h:E bl=some (b,s,o)):SR P (fun _ x y=>x=none∧y=none) E (viewAt bl) (viewAt b):=by
 unfold viewAt
 refine SR.bind (R1:=fun E' x y=>x.isSome=y.isSome∧(x.isSome=false→o=true)∧E' bl=some (b,s,o)) (.shape h fun x y hxy=>.pure ⟨?_,?_,h⟩) ?_
 ·rcases hxy with ⟨_,rfl⟩ | ⟨_,T,n,T',n',rfl,rfl,_⟩ <;> rfl
 ·rcases hxy with ⟨e,_⟩ | ⟨_,T,n,T',n',rfl,rfl,_⟩
  ·exact fun _=>e
  ·exact fun e=>by cases e
 ·rintro E1 x y _ ⟨h1,h2,h3⟩
  cases hx:x.isSome
  ·rw[hx] at h1 h2
   obtain rfl:=h2 rfl
   simp only[←h1,Bool.false_eq_true,if_false]
   refine SR.bind (R1:=fun E' x y=>OR E' x y) (.getObj h3 fun x y h=>.pure h) ?_
   intro E2 x y _ hxy
   cases hxy <;> exact .ret ⟨rfl,rfl⟩
  ·rw[hx] at h1
   simp only[←h1,if_true]
   exact .ret ⟨rfl,rfl⟩
theorem eF {a b:Addr} (h:AR E a b):SR P (fun E' x y=>AR E' x.1 y.1∧x.2=y.2) E (behindNumber a) (behindNumber b):=by
 unfold behindNumber
 have h':=h
 obtain ⟨s,o,e1,_⟩:=h
 refine SR.bind (qH e1) ?_
 intro E1 x y hl hxy
 rcases hxy with ⟨rfl,rfl⟩ | ⟨p,q,l,rfl,rfl,hpq⟩
 ·exact .ret ⟨h'.mono hl,rfl⟩
 ·exact .ret ⟨hpq,rfl⟩
theorem uy {a b:Addr} (e1:E a.block=some (b.block,0,true)) (e2:b.off=a.off) (e3:b.spot=a.spot):SR P (fun _ x y=>x=y) E (byteOf a) (byteOf b):=by
 unfold byteOf
 rw[e3,e2]
 cases a.spot with
 | some s=>exact .ret rfl
 | none =>
  dsimp only
  refine SR.bind cn ?_
  rintro E1 p p' hl ⟨rfl,rfl⟩
  unfold noView
  refine SR.bind (R1:=fun E' _ _=>E' a.block=some (b.block,0,true)) ?_ ?_
  ·refine SR.bind (R1:=fun E' x y=>(x=none∧y=none)∧E' a.block=some (b.block,0,true)) ((nD (hl _ _ e1)).mono fun E' x y hle h=>⟨h,hle _ _ (hl _ _ e1)⟩) ?_
   rintro E2 x y _ ⟨⟨rfl,rfl⟩,h⟩
   exact .ret h
  ·intro E2 _ _ hl2 h3
   refine SR.bind (R1:=fun _ x y=>x=y) (.shape h3 fun x y hxy=>.pure ?_) ?_
   ·rcases hxy with ⟨_,e⟩ | ⟨e,_⟩
    ·exact e
    ·cases e
   ·rintro E3 x _ _ rfl
    cases x with
    | none=>exact .die (ag _)
    | some q =>
     obtain ⟨e,n⟩:=q
     dsimp only
     split
     ·exact .ret rfl
     ·split
      ·exact .ret rfl
      ·exact .die (ag _)
theorem sQ (k:IntKind) {a b:Addr} (n:Int) (h:AR E a b):SR P (fun E' x y=>VR E' x y) E (Op.addrMod k a n) (Op.addrMod k b n):=by
 unfold Op.addrMod
 obtain ⟨s,o,e1,e2,e3,e4,e5⟩:=h
 cases o
 ·refine SR.bind (R1:=fun _ (x y:Option (TypeId × Nat))=>∃T n,x=some (T,n)∧P.info? T=none) (.shape e1 fun x y hxy=>.pure ?_) ?_
  ·rcases hxy with ⟨e,_⟩ | ⟨_,T,n,T',n',h1,_,h2⟩
   ·cases e
   ·exact ⟨T,n,h1,h2⟩
  ·rintro E1 x y _ ⟨T,m,rfl,hT⟩
   exact .die (aN (iY hT))
 ·obtain rfl:=e5 rfl
  refine SR.bind (R1:=fun E' x y=>x=y∧E' a.block=some (b.block,0,true)) (.shape e1 fun x y hxy=>.pure ⟨?_,e1⟩) ?_
  ·rcases hxy with ⟨_,e⟩ | ⟨e,_⟩
   ·exact e
   ·cases e
  ·rintro E1 x _ _ ⟨rfl,h3⟩
   cases x with
   | none=>exact .die (au _)
   | some q =>
    obtain ⟨e,m⟩:=q
    dsimp only
    refine SR.bind (cB e) ?_
    rintro E2 ti _ hl2 ⟨rfl,_⟩
    split
    ·exact .die (aN (au _))
    ·refine SR.bind (uy (hl2 _ _ h3) (by rw[e2];rfl) e3) ?_
     rintro E3 z _ _ rfl
     exact .ret (.int _ _)
omit [Fns] in
theorem oM {T:TypeId} (h:P.info? T=none):P.cellsOf T=0:=by
 unfold Program.cellsOf
 rw[h]
 rfl
theorem oT (t:TypeId) {a b:Addr} {u v:Value} (h:AR E a b) (hu:VR E u v):SR P (fun E' x y=>∃a' b',x=.pointer (some a')∧y=.pointer (some b')∧AR E' a' b') E (Builtin.unsafeAdd_ #[] t #[.pointer (some a),u]) (Builtin.unsafeAdd_ #[] t #[.pointer (some b),v]):=by
 unfold Builtin.unsafeAdd_
 dsimp only
 refine SR.bind (jJ hu) ?_
 rintro E1 n _ hl rfl
 have h':=h.mono hl
 obtain ⟨s,o,e1,e2,e3,e4,e5⟩:=h'
 by_cases hn:n=0
 ·rw[if_pos hn,if_pos hn]
  refine SR.bind (nD e1) ?_
  rintro E2 x y hl2 ⟨rfl,rfl⟩
  exact .pure ⟨_,_,rfl,rfl,h.mono (Env.le_trans hl hl2)⟩
 ·rw[if_neg hn,if_neg hn]
  by_cases hn2:n<0
  ·rw[if_pos hn2]
   exact .die (aN (au _))
  ·rw[if_neg hn2,if_neg hn2]
   cases o
   ·refine SR.bind (R1:=fun _ (x y:Option (TypeId × Nat))=>∃T n,x=some (T,n)∧P.info? T=none) (.shape e1 fun x y hxy=>.pure ?_) ?_
    ·rcases hxy with ⟨e,_⟩ | ⟨_,T,n,T',n',h1,_,h2⟩
     ·cases e
     ·exact ⟨T,n,h1,h2⟩
    ·rintro E2 x y _ ⟨T,m,rfl,hT⟩
     refine .die (iB ?_)
     have hc:cellAtBytes P P.depth T (m / P.cellsOf T) a.off n=none:=by
      unfold cellAtBytes
      rw[oM hT]
      rfl
     rw[hc]
     exact au _
   ·obtain rfl:=e5 rfl
    refine SR.bind (R1:=fun E' x y=>x=y∧E' a.block=some (b.block,0,true)) (.shape e1 fun x y hxy=>.pure ⟨?_,e1⟩) ?_
    ·rcases hxy with ⟨_,e⟩ | ⟨e,_⟩
     ·exact e
     ·cases e
    ·rintro E2 x _ _ ⟨rfl,h3⟩
     cases x with
     | none=>exact .die (au _)
     | some q =>
      obtain ⟨e,m⟩:=q
      dsimp only
      refine SR.bind cn ?_
      rintro E3 p p' hl3 ⟨rfl,rfl⟩
      have ho:b.off=a.off:=by rw[e2];rfl
      rw[ho]
      split
      ·exact .pure ⟨_,_,rfl,rfl,0,true,hl3 _ _ h3,rfl,e3,e4,fun _=>rfl⟩
      ·exact .die (au _)
end
end Cs
namespace Cs
variable [Fns]
section
variable {P:Program} {E:Env}
def cA (P:Program) (t:TypeId):Bool:=match P.underlying t with
 | some (.int _)=>match P.info? t with
  | some i=>match i.desc with
   | .named s _ => s != "sync.copyChecker"
   | _=>true
  | none=>true
 | some .string | some (.slice _) | some (.func _ _ _) | some .bool=>true
 | _=>false
theorem dH (t:TypeId) (ht:cA P t=true) {x y u v:Value} (hx:VR E x y) (hu:VR E u v) (hp:∃o,x=.pointer o):SR P (fun E' a b=>VR E' a b) E (movedNumber t x u) (movedNumber t y v):=by
 unfold movedNumber
 refine SR.bind (aB t) ?_
 rintro E1 d _ hl ⟨rfl,hd⟩
 obtain ⟨o,rfl⟩:=hp
 dsimp only
 split
 ·unfold cA at ht
  rw[hd] at ht
  cases ht
 ·simp only[Bool.false_eq_true,if_false]
  cases hx.mono hl with
  | fF =>
   refine .die ?_
   unfold Builtin.unsafeAdd_
   dsimp only
   exact bQ (mG _) fun n=>cN (au _) (cN (aN (au _)) (au _))
  | any v h =>
   refine .die ?_
   unfold Builtin.unsafeAdd_
   dsimp only
   exact bQ (mG _) fun n=>cN (au _) (cN (aN (au _)) (au _))
  | ptr h =>
   dsimp only
   refine SR.bind (eF h) ?_
   rintro E2 ⟨a,la⟩ ⟨b,lb⟩ hl2 ⟨hab,rfl⟩
   dsimp only at hab ⊢
   refine SR.bind (oT t hab (hu.mono (Env.le_trans hl hl2))) ?_
   rintro E3 _ _ _ ⟨c,d,rfl,rfl,h3⟩
   dsimp only
   unfold asNumber newObj
   refine SR.bind (R1:=fun E' bl b=>E' bl=some (b,0,true)∧Fns.G≤bl) (.new (.number _ h3) fun E' bl b _ he hg=>.pure ⟨he,hg⟩) ?_
   rintro E4 _ _ _ ⟨he,hg⟩
   exact .ret (.ptr ⟨0,true,he,rfl,rfl,hg,fun _=>rfl⟩)
theorem wm (hG:P.globals.size≤Fns.G) {a b:Addr} (h:Fns.G≤a.block):cZ P (Op.twoPlaces a b):=by
 unfold Op.twoPlaces
 refine iB ?_
 have hc:(a.block != b.block || decide (a.block ≥ P.globals.size))=true:=by
  have:a.block ≥ P.globals.size:=by omega
  simp[this]
 rw[if_pos hc]
 exact aN (au _)
theorem yQ {a b:Addr} (h:AR E a b):Fns.G≤a.block:=by
 obtain ⟨s,o,e1,e2,e3,e4,e5⟩:=h
 exact e4
omit [Fns] in
theorem uE {α:Type} {t:TypeId} {f:TypeInfo→Sem α} (h:∀i,P.info? t=some i→cZ P (f i)):cZ P (typeInfo t >>= f):=by
 cases hi:P.info? t with
 | none=>exact aN (iY hi)
 | some i =>
  intro w
  obtain ⟨x,w',h1,h2⟩:=h i hi w
  refine ⟨x,w',?_,h2⟩
  rw[←h1]
  refine fC ?_
  unfold typeInfo program
  change Sem.run P (Sem.bind (.program .pure) _) w=_
  simp[Sem.bind,Sem.run,hi,pure]
theorem gf (hG:P.globals.size≤Fns.G) (d:Nat) (t:TypeId) (ht:cA P t=true) {x y u v:Value} (hx:VR E x y) (hu:VR E u v):SR P (fun _ a b=>a=b) E (Op.equalIn (d+1) t x u) (Op.equalIn (d+1) t y v):=by
 rw[Op.equalIn,Op.equalIn]
 refine SR.bind (aB t) ?_
 rintro E1 ds _ hl ⟨rfl,hd⟩
 unfold cA at ht
 rw[hd] at ht
 cases ds with
 | int k =>
  dsimp only at ht
  cases hx.mono hl with
  | int k1 n1 =>
   cases hu.mono hl with
   | int k2 n2 =>
    dsimp only
    split
    ·exact .ret rfl
    ·exact .die (ag _)
   | ptr h =>
    cases n1 with
    | ofNat m =>
     cases m with
     | zero=>exact .ret rfl
     | succ m=>exact .die (au _)
    | negSucc m=>exact .die (au _)
   | fF=>exact .die (au _)
   | any v h=>exact .die (au _)
   | _=>exact .die (ag _)
  | ptr h =>
   cases hu.mono hl with
   | int k2 n2 =>
    cases n2 with
    | ofNat m =>
     cases m with
     | zero=>exact .ret rfl
     | succ m=>exact .die (au _)
    | negSucc m=>exact .die (au _)
   | ptr h2 =>
    dsimp only
    refine SR.bind (eF h) ?_
    rintro E2 ⟨a,la⟩ ⟨b,lb⟩ hl2 ⟨hab,_⟩
    refine SR.bind (eF (h2.mono hl2)) ?_
    rintro E3 ⟨a2,la2⟩ ⟨b2,lb2⟩ hl3 ⟨hab2,_⟩
    dsimp only at hab hab2 ⊢
    have hlow:=yQ hab
    refine .die (iB ?_)
    have hc:(a.block==a2.block && decide (a.block<P.globals.size))=false:=by
     have:¬a.block<P.globals.size:=by omega
     simp[this]
    simp only[hc,Bool.false_eq_true,if_false]
    refine uE fun i hi=>?_
    rw[hi] at ht
    dsimp only at ht
    split
    ·rename_i hdd
     rw[hdd] at ht
     simp at ht
    ·exact au _
   | _=>exact .die (au _)
  | fF=>cases hu.mono hl <;> exact .die (au _)
  | _=>cases hu.mono hl <;> first | exact .die (ag _) | exact .die (au _)
 | string=>cases hx.mono hl <;> cases hu.mono hl <;> first | exact .ret rfl | exact .die (ag _)
 | slice e=>cases hx.mono hl <;> cases hu.mono hl <;> first | exact .ret rfl | exact .die (ag _)
 | func a b c=>cases hx.mono hl <;> cases hu.mono hl <;> first | exact .ret rfl | exact .die (ag _)
 | bool=>cases hx.mono hl <;> cases hu.mono hl <;> first | exact .ret rfl | exact .die (ag _)
 | _=>cases ht
omit [Fns] in
theorem dQ {α:Type} {t:TypeId} {f:TypeDesc→Sem α} (h:∀d,P.underlying t=some d→cZ P (f d)):cZ P (underlying t >>= f):=by
 cases hi:P.underlying t with
 | none =>
  refine aN fun w=>?_
  unfold underlying program
  change ∃h w',Sem.run P (Sem.bind (.program .pure) _) w=_∧_
  simp only[Sem.bind,Sem.run,hi]
  exact ag _ w
 | some d =>
  intro w
  obtain ⟨x,w',h1,h2⟩:=h d hi w
  refine ⟨x,w',?_,h2⟩
  rw[←h1]
  refine fC ?_
  unfold underlying program
  change Sem.run P (Sem.bind (.program .pure) _) w=_
  simp[Sem.bind,Sem.run,hi,pure]
omit [Fns] in
theorem vv (d:Nat) (t:TypeId) (ht:cA P t=true) (u:Value):cZ P (Op.equalIn (d+1) t (.pointer none) u):=by
 rw[Op.equalIn]
 refine dQ fun d hd=>?_
 unfold cA at ht
 rw[hd] at ht
 cases d with
 | int k=>cases u <;> first | exact ag _ | exact au _
 | string=>cases u <;> first | exact ag _ | exact au _
 | slice e=>cases u <;> first | exact ag _ | exact au _
 | func a b c=>cases u <;> first | exact ag _ | exact au _
 | bool=>cases u <;> first | exact ag _ | exact au _
 | _=>cases ht
theorem uC (d:Nat) (t:TypeId) (ht:cA P t=true) {u v:Value} (hu:VR E u v):cZ P (Op.equalIn (d+1) t u (.pointer none)):=by
 rw[Op.equalIn]
 refine dQ fun d hd=>?_
 unfold cA at ht
 rw[hd] at ht
 cases d with
 | int k=>cases hu <;> first | exact ag _ | exact au _
 | string=>cases hu <;> first | exact ag _ | exact au _
 | slice e=>cases hu <;> first | exact ag _ | exact au _
 | func a b c=>cases hu <;> first | exact ag _ | exact au _
 | bool=>cases hu <;> first | exact ag _ | exact au _
 | _=>cases ht
omit [Fns] in
theorem xO (t:TypeId) (ht:cA P t=true) (u:Value):cZ P (Op.equal t (.pointer none) u):=vv 9999 t ht u
theorem wM (t:TypeId) (ht:cA P t=true) {u v:Value} (hu:VR E u v):cZ P (Op.equal t u (.pointer none)):=uC 9999 t ht hu
omit [Fns] in
theorem qY (t:TypeId) (ht:cA P t=true) (u:Value):cZ P (movedNumber t (.pointer none) u):=by
 unfold movedNumber
 refine dQ fun d hd=>?_
 dsimp only
 split
 ·unfold cA at ht
  rw[hd] at ht
  cases ht
 ·simp only[Bool.false_eq_true,if_false]
  unfold Builtin.unsafeAdd_
  dsimp only
  exact bQ (mG _) fun n=>cN (au _) (cN (aN (au _)) (au _))
omit [Fns] in
theorem vn (t:TypeId) (ht:cA P t=true) (u:Value):cZ P (do if (←underlying t) matches .unsafePointer then movedPointer t (.pointer none) u else movedNumber t (.pointer none) u):=by
 refine dQ fun d hd=>?_
 have main:=qY t ht u
 unfold cA at ht
 rw[hd] at ht
 cases d <;> first | exact main | cases ht
end
end Cs
namespace Cs
variable [Fns]
section
variable {P:Program} {E:Env}
theorem mA (op : BinOp) (t : TypeId) (k k' : IntKind) (a b : Int) : SR P (fun E' x y => VR E' x y) E (binOp op t (.int k a) (.int k' b)) (binOp op t (.int k a) (.int k' b)) := by
  by_cases hk : k = k'
  · subst hk
    cases op <;> simp only [binOp, ne_eq, not_true_eq_false, if_false, Op.intArith, Op.intDiv, Op.intBits, Op.intCmp, Op.shift] <;>
      first
      | exact .ret (.int _ _)
      | exact .ret (.bool _)
      | (split
         · exact .die (cF _)
         · exact .ret (.int _ _))
  · cases op <;> simp only [binOp, ne_eq, hk, not_false_eq_true, if_true, Op.shift] <;>
      first
      | exact .die (ag _)
      | (split
         · exact .die (cF _)
         · exact .ret (.int _ _))
theorem l6 (op : BinOp) (t : TypeId) (a b : ByteArray) : SR P (fun E' x y => VR E' x y) E (binOp op t (.string a) (.string b)) (binOp op t (.string a) (.string b)) := by
  cases op <;> simp only [binOp, Op.stringOp] <;>
    first
    | exact .ret (.bool _)
    | exact .die (ag _)
    | (split
       · exact .die (au _)
       · exact .ret (.string _))
theorem Ci (hG:P.globals.size≤Fns.G) (t:TypeId) (ht:cA P t=true) {x y u v:Value} (hx:VR E x y) (hu:VR E u v):SR P (fun E' a b=>VR E' a b) E (do pure (.bool (←Op.equal t x u)):Sem Value) (do pure (.bool (←Op.equal t y v)):Sem Value):=by
 refine SR.bind (gf hG 9999 t ht hx hu) ?_
 rintro E1 b _ _ rfl
 exact .ret (.bool _)
theorem B2 (hG:P.globals.size≤Fns.G) (t:TypeId) (ht:cA P t=true) {x y u v:Value} (hx:VR E x y) (hu:VR E u v):SR P (fun E' a b=>VR E' a b) E (do pure (.bool (!(←Op.equal t x u))):Sem Value) (do pure (.bool (!(←Op.equal t y v))):Sem Value):=by
 refine SR.bind (gf hG 9999 t ht hx hu) ?_
 rintro E1 b _ _ rfl
 exact .ret (.bool _)
theorem uW (t:TypeId) (ht:cA P t=true) {x y u v:Value} (hx:VR E x y) (hu:VR E u v) (hp:∃o,x=.pointer o):SR P (fun E' a b=>VR E' a b) E (do if (←underlying t) matches .unsafePointer then movedPointer t x u else movedNumber t x u) (do if (←underlying t) matches .unsafePointer then movedPointer t y v else movedNumber t y v):=by
 refine SR.bind (aB t) ?_
 rintro E1 d _ hl ⟨rfl,hd⟩
 have main:=dH (E:=E1) t ht (hx.mono hl) (hu.mono hl) hp
 unfold cA at ht
 rw[hd] at ht
 cases d <;> first | exact main | cases ht
theorem Bs (hG:P.globals.size≤Fns.G) {a b a2 b2:Addr} (h:AR E a b) (h2:AR E a2 b2) {f g:Addr→Addr→Sem Value} (hf:∀x y,cZ P (Op.twoPlaces x y)→cZ P (f x y)):SR P (fun E' a b=>VR E' a b) E (do f (←behindNumber a).1 (←behindNumber a2).1) (do g (←behindNumber b).1 (←behindNumber b2).1):=by
 refine SR.bind (eF h) ?_
 rintro E2 ⟨x,lx⟩ ⟨y,ly⟩ hl2 ⟨hab,_⟩
 refine SR.bind (eF (h2.mono hl2)) ?_
 rintro E3 ⟨x2,lx2⟩ ⟨y2,ly2⟩ hl3 ⟨hab2,_⟩
 exact .die (hf _ _ (wm hG (yQ hab)))
theorem A4 (k:IntKind) (n:Int) {a b:Addr} (h:AR E a b):SR P (fun E' x y=>VR E' x y) E (do Op.addrMod k (←behindNumber a).1 n) (do Op.addrMod k (←behindNumber b).1 n):=by
 refine SR.bind (eF h) ?_
 rintro E2 ⟨x,lx⟩ ⟨y,ly⟩ hl2 ⟨hab,_⟩
 exact sQ k n hab
set_option maxHeartbeats 2000000 in
theorem yS (hG:P.globals.size≤Fns.G) (op:BinOp) (t:TypeId) (ht:cA P t=true) {x y u v:Value} (hx:VR E x y) (hu:VR E u v):SR P (fun E' a b=>VR E' a b) E (binOp op t x u) (binOp op t y v):=by
 have heq:=Ci hG t ht hx hu
 have hne:=B2 hG t ht hx hu
 have hmv:(∃o,x=.pointer o)→SR P (fun E' a b=>VR E' a b) E (do if (←underlying t) matches .unsafePointer then movedPointer t x u else movedNumber t x u) (do if (←underlying t) matches .unsafePointer then movedPointer t y v else movedNumber t y v):=fun h=>uW t ht hx hu h
 have hmv2:(∃o,u=.pointer o)→SR P (fun E' a b=>VR E' a b) E (movedNumber t u x) (movedNumber t v y):=fun h=>dH t ht hu hx h
 have hx':=hx
 cases hx <;> cases hu <;> first
  | exact mA op t _ _ _ _
  | exact l6 op t _ _
  | (cases op <;> first
    | exact .die (ag _)
    | exact .die (au _)
    | exact .die (aN (xO t ht _))
    | exact .die (aN (wM t ht hx'))
    | exact .die (vn t ht _)
    | exact .die (qY t ht _)
    | exact heq
    | exact hne
    | exact hmv ⟨_,rfl⟩
    | exact hmv2 ⟨_,rfl⟩
    | exact dH t ht (.ptr (by assumption)) (.int _ _) ⟨_,rfl⟩
    | exact dH t ht .fF (.int _ _) ⟨_,rfl⟩
    | exact A4 _ _ (by assumption)
    | exact Bs hG (by assumption) (by assumption) (fun x y h=>aN h))
end
end Cs
namespace Cs
variable [Fns]
def nU (P:Program):Nat→TypeId→Bool
 | 0,t=>cA P t
 | d+1,t=>cA P t || match P.underlying t with
  | some (.struct fs)=>!(P.stoodInHeld t) && fs.all fun f=>nU P d f.type
  | some (.array _ e)=>nU P d e
  | _=>false
section
variable {P:Program} {E:Env}
theorem kG {α σ:Type} {f g:α→σ→Sem (ForInStep σ)}:∀(l:List α) (E:Env) (b:σ),(∀a ∈ l,∀(E':Env) b,E.le E'→SR P (fun _ x y=>x=y) E' (f a b) (g a b))→SR P (fun _ x y=>x=y) E (forIn l b f) (forIn l b g)
 | [],_,_,_=>.ret rfl
 | a :: l,E,b,hf=>by
  rw[List.forIn_cons,List.forIn_cons]
  refine SR.bind (hf a (List.mem_cons_self ..) E b E.le_refl) ?_
  rintro E1 st _ hl rfl
  cases st with
  | done b=>exact .ret rfl
  | yield b=>exact kG l E1 b fun a ha E' b hl'=>hf a (List.mem_cons_of_mem _ ha) E' b (Env.le_trans hl hl')
theorem kP (hG:P.globals.size≤Fns.G):∀(k n:Nat) (t:TypeId),nU P k t=true→∀{E:Env} {x y u v:Value},VR E x y→VR E u v→SR P (fun _ a b=>a=b) E (Op.equalIn (k+n+1) t x u) (Op.equalIn (k+n+1) t y v)
 | 0,n,t,ht,E,x,y,u,v,hx,hu=>gf hG (0+n) t ht hx hu
 | k+1,n,t,ht,E,x,y,u,v,hx,hu=>by
  by_cases hc:cA P t=true
  ·exact gf hG (k+1+n) t hc hx hu
  ·rw[nU] at ht
   simp only[hc,Bool.false_or] at ht
   rw[show k+1+n+1=(k+n+1)+1 by omega,Op.equalIn,Op.equalIn]
   refine SR.bind (aB t) ?_
   rintro E1 ds _ hl ⟨rfl,hd⟩
   rw[hd] at ht
   have ih:=fun t ht {E:Env} {x y u v:Value} (hx:VR E x y) (hu:VR E u v)=>kP hG k n t ht hx hu
   cases ds with
   | struct fs =>
    dsimp only at ht
    cases hx.mono hl with
    | agg h1 h2 =>
     cases hu.mono hl with
     | agg h3 h4 =>
      dsimp only
      refine SR.bind cn ?_
      rintro E2 p p' hl2 ⟨rfl,rfl⟩
      have hs:p'.stoodInHeld t=false:=by
       rw[Bool.and_eq_true] at ht
       simpa using ht.1
      have ha:∀f ∈ fs.toList,nU p' k f.type=true:=fun f hf=>by
       rw[Bool.and_eq_true] at ht
       exact (Array.all_eq_true_iff_forall_mem.1 ht.2) f (by simpa using hf)
      simp only[hs,Bool.false_eq_true,if_false]
      refine SR.bind (R1:=fun _ a b=>a=b) ?_ ?_
      ·rw[←Array.forIn_toList,←Array.forIn_toList]
       refine kG _ _ _ fun f hf E3 b hl3=>?_
       refine SR.ite ?_ (.ret rfl)
       refine SR.bind (jo f.type f.offset (LR.mono (Env.le_trans hl2 hl3) ⟨h1,h2⟩)) ?_
       intro E4 a1 b1 hl4 hab
       refine SR.bind (jo f.type f.offset (LR.mono (Env.le_trans (Env.le_trans hl2 hl3) hl4) ⟨h3,h4⟩)) ?_
       intro E5 a2 b2 hl5 hab2
       refine SR.bind (ih _ (ha f hf) (hab.mono hl5) hab2) ?_
       rintro E6 r _ _ rfl
       cases r <;> exact .ret rfl
      ·rintro E3 ⟨r,_⟩ _ _ rfl
       cases r <;> exact .ret rfl
     | _=>exact .die (ag _)
    | _=>cases hu.mono hl <;> exact .die (ag _)
   | array len e =>
    dsimp only at ht
    cases hx.mono hl with
    | agg h1 h2 =>
     cases hu.mono hl with
     | agg h3 h4 =>
      dsimp only
      refine SR.bind (bF e) ?_
      rintro E2 sz _ hl2 ⟨rfl,_⟩
      refine SR.bind (R1:=fun _ a b=>a=b) ?_ ?_
      ·simp only[Std.Legacy.Range.forIn_eq_forIn_range']
       refine kG _ _ _ fun i _ E3 b hl3=>?_
       refine SR.bind (jo e (i*sz) (LR.mono (Env.le_trans hl2 hl3) ⟨h1,h2⟩)) ?_
       intro E4 a1 b1 hl4 hab
       refine SR.bind (jo e (i*sz) (LR.mono (Env.le_trans (Env.le_trans hl2 hl3) hl4) ⟨h3,h4⟩)) ?_
       intro E5 a2 b2 hl5 hab2
       refine SR.bind (ih _ ht (hab.mono hl5) hab2) ?_
       rintro E6 r _ _ rfl
       cases r <;> exact .ret rfl
      ·rintro E3 ⟨r,_⟩ _ _ rfl
       cases r <;> exact .ret rfl
     | _=>exact .die (ag _)
    | _=>cases hu.mono hl <;> exact .die (ag _)
   | _=>cases ht
omit [Fns] in
theorem uQ (d:Nat) (t:TypeId) (ht:(match P.underlying t with | some (.struct _) | some (.array _ _)=>true | _=>false)=true) {x u:Value} (h:∀c e,¬(x=.agg c∧u=.agg e)):cZ P (Op.equalIn (d+1) t x u):=by
 rw[Op.equalIn]
 refine dQ fun ds hd=>?_
 rw[hd] at ht
 cases ds with
 | struct fs=>cases x <;> first | exact ag _ | (cases u <;> first | exact ag _ | exact absurd ⟨rfl,rfl⟩ (h _ _))
 | array n e=>cases x <;> first | exact ag _ | (cases u <;> first | exact ag _ | exact absurd ⟨rfl,rfl⟩ (h _ _))
 | _=>cases ht
def qE (P:Program) (op:BinOp) (t:TypeId):Bool:=(match op with | .eql | .neq=>true | _=>false) && (match P.underlying t with | some (.struct _) | some (.array _ _)=>true | _=>false) && nU P 8 t && !(P.eqGuardType P.depth t)
set_option maxHeartbeats 2000000 in
theorem uA (hG:P.globals.size≤Fns.G) (op:BinOp) (t:TypeId) (ht:qE P op t=true) {x y u v:Value} (hx:VR E x y) (hu:VR E u v):SR P (fun E' a b=>VR E' a b) E (binOp op t x u) (binOp op t y v):=by
 simp only[qE,Bool.and_eq_true] at ht
 obtain ⟨⟨⟨ho,hm⟩,ha⟩,_⟩:=ht
 have he:SR P (fun _ a b=>a=b) E (Op.equal t x u) (Op.equal t y v):=kP hG 8 9991 t ha hx hu
 have heq:SR P (fun E' a b=>VR E' a b) E (do pure (.bool (←Op.equal t x u)):Sem Value) (do pure (.bool (←Op.equal t y v)):Sem Value):=by
  refine SR.bind he ?_
  rintro E1 b _ _ rfl
  exact .ret (.bool _)
 have hne:SR P (fun E' a b=>VR E' a b) E (do pure (.bool (!(←Op.equal t x u))):Sem Value) (do pure (.bool (!(←Op.equal t y v))):Sem Value):=by
  refine SR.bind he ?_
  rintro E1 b _ _ rfl
  exact .ret (.bool _)
 have hd:(∀c e,¬(x=.agg c∧u=.agg e))→cZ P (Op.equal t x u):=fun h=>uQ 9999 t hm h
 cases op with
 | eql=>cases hx <;> cases hu <;> first
  | exact mA .eql t _ _ _ _
  | exact l6 .eql t _ _
  | exact heq
  | exact .die (aN (hd fun c e h=>by first | (have h1:=h.1;cases h1;done) | (have h2:=h.2;cases h2;done)))
 | neq=>cases hx <;> cases hu <;> first
  | exact mA .neq t _ _ _ _
  | exact l6 .neq t _ _
  | exact hne
  | exact .die (aN (hd fun c e h=>by first | (have h1:=h.1;cases h1;done) | (have h2:=h.2;cases h2;done)))
 | _=>cases ho
end
end Cs
end Go.Proofs.Ytpdemelchhkfaaa
