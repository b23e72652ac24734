import Derived.Test.YtpcnpkhgjanamaaGreatDoorPz
import Derived.Test.YtpcnpkhgjanamaaGreatDoorJn2
namespace Go.Proofs.YtpcnpkhgjanamaaGreatDoor
open Go renaming Value→R2,TypeId→Wj,Program→Wr
open Go.Builtin renaming firstCells→Xn,zeroCells→XD,lenOf→YS,mayShare→Zk,nextslicecap→Zs
open Go.Instr renaming buildSlice→X5,fill→Yk
open _root_.Array renaming replicate→Ye,range→ZV
namespace Cs
variable[aT]
theorem EW{E:Env}(off:Nat):∀(l l':List R2) (j:Nat) {x y:Array R2},l.length=l'.length→(∀(i:Nat) u v,l[i]?=some u→l'[i]?=some v→VR E u v)→LR E x y→
  LR E ((l.zipIdx j).foldl (fun cs (p:R2×Nat)=>cs.setIfInBounds (off+p.2) p.1) x) ((l'.zipIdx j).foldl (fun cs (p:R2×Nat)=>cs.setIfInBounds (off+p.2) p.1) y)
 |[],[],_,_,_,_,_,h=>h
 |[],_ :: _,_,_,_,h,_,_=>by cases h
 |_ :: _,[],_,_,_,h,_,_=>by cases h
 |u :: l,v :: l',j,x,y,hl,hv,h=>by
  simp only[List.zipIdx_cons,List.foldl_cons];exact EW off l l' (j+1) (by simpa using hl) (fun i a b ha hb=>hv (i+1) a b (by simpa using ha) (by simpa using hb)) (h.set _ (hv 0 u v rfl rfl))
theorem MH{E:Env}(off:Nat){a b x y:Array R2}(hab:LR E a b)(h:LR E x y):LR E (a.zipIdx.foldl (fun cs (p:R2×Nat)=>cs.setIfInBounds (off+p.2) p.1) x) (b.zipIdx.foldl (fun cs (p:R2×Nat)=>cs.setIfInBounds (off+p.2) p.1) y):=by
 rw[←Array.foldl_toList,←Array.foldl_toList,Array.toList_zipIdx,Array.toList_zipIdx];exact EW off a.toList b.toList 0 (by simp[hab.size]) (fun i u v hu hv=>hab.at_ i u v (by simpa using hu) (by simpa using hv)) h
inductive PR(E:Env):List (Nat×R2)→List (Nat×R2)→Prop
 |nil:PR E [] []
 |cons (i:Nat) {u v:R2} {l l':List (Nat×R2)} (h:VR E u v) (t:PR E l l'):PR E ((i,u) :: l) ((i,v) :: l')
theorem PR.mono{E E':Env}(hl:E.le E'){l l':List (Nat×R2)}(h:PR E l l'):PR E' l l':=by
 induction h with
 |nil=>exact .nil
 |cons i h _ ih=>exact .cons i (h.mono hl) ih
theorem zI{E:Env}(place:Nat→Option (Nat×Nat)){l l':List (Nat×R2)}(hp:PR E l l'):∀{x y:Array R2},LR E x y→(Yk place x l=none∧Yk place y l'=none)∨∃a b,Yk place x l=some a∧Yk place y l'=some b∧LR E a b:=by
 induction hp with
 |nil=>intro x y h;exact .inr ⟨x,y,rfl,rfl,h⟩
 |@cons i u v l l' hv t ih=>
  intro x y h;unfold Yk;cases hpl:place i with
  |none=>exact .inl ⟨rfl,rfl⟩
  |some q=>
   obtain⟨off,size⟩:=q;dsimp only;have hc:=hv.cells;rw[←hc.size,←h.size];by_cases c:(u.cells.size≠size||decide (off+u.cells.size > x.size))=true
   ·rw[Wc c,Wc c];exact .inl ⟨rfl,rfl⟩
   ·rw[V9 c,V9 c]
    exact ih (MH off hc h)
section
variable{P:Wr}{E:Env}
theorem F2{α β:Type}{f:α→Sem β}(h:∀a (E:Env),SR P (fun _ x y=>x=y) E (f a) (f a)):∀(l:List α) (E:Env),SR P (fun _ x y=>x=y) E (l.mapM f) (l.mapM f)
 |[],_=>.ret rfl
 |a :: l,E=>by
  rw[List.mapM_cons];refine SR.bind (h a E) ?_;rintro E1 x _ _ rfl;refine SR.bind (F2 h l E1) ?_;rintro E2 y _ _ rfl;exact .ret rfl
theorem K7{α β:Type}{f:α→Sem β}(h:∀a (E:Env),SR P (fun _ x y=>x=y) E (f a) (f a))(l:Array α):SR P (fun _ x y=>x=y) E (l.mapM f) (l.mapM f):=by
 rw[Array.mapM_eq_mapM_toList];refine SR.bind (F2 h l.toList E) ?_;rintro E1 x _ _ rfl;exact .ret rfl
theorem Ju(t:Wj)(hZ:iH P t=true){p q:Array (Nat×R2)}(h:PR E p.toList q.toList):SR P (fun E' a b=>VR E' a b) E (Instr.build t p) (Instr.build t q):=by
 unfold Instr.build;refine SR.bind (eT t hZ) ?_;rintro E1 u v hl ⟨hz,_⟩;refine SR.bind (aH t) ?_;rintro E2 d _ j ⟨rfl,hd⟩;have g:=(hz.mono j).cells;have e:=h.mono (Env.le_trans hl j);cases d with
 |struct fs=>
  dsimp only;refine SR.bind (K7 (fun f E=>?_) fs) ?_
  ·refine SR.bind (cB f.type) ?_
   rintro E3 n _ _ ⟨rfl,_⟩;exact .ret rfl
  ·rintro E3 places _ c rfl
   rcases zI (fun i=>places[i]?) (e.mono c) (g.mono c)with⟨e1,e2⟩|⟨a,b,e1,e2,e3⟩
   ·rw[e1,e2];exact .die (ai _)
   ·rw[e1,e2];exact .ret (.lK e3)
 |array n elem=>
  dsimp only;refine SR.bind (cB elem) ?_;rintro E3 n _ c ⟨rfl,_⟩;rcases zI (fun i=>some (i*n,n)) (e.mono c) (g.mono c)with⟨e1,e2⟩|⟨a,b,e1,e2,e3⟩
  ·rw[e1,e2];exact .die (ai _)
  ·rw[e1,e2];exact .ret (.lK e3)
 |_=>exact .die (ai _)
theorem zA{x:Array R2}(h:LR E x x)(i:Nat):VR E x[i]! x[i]!:=by
 by_cases hi:i<x.size
 ·rw[getElem!_pos x i hi]
  exact h.at_ i _ _ (Wl hi) (Wl hi)
 ·rw[getElem!_neg x i hi]
  exact .bool _
theorem tN{u v:R2}(h:VR E u v∧u=v):LR E u.cells u.cells:=by
 have:=h.1.cells;rw[←h.2]at this;exact this
theorem xh(t : Wj)(hZ : oI P t = true)(len : Nat){p q : Array (Nat×R2)}(h : PR E p.toList q.toList): SR P (fun E' a b=>VR E' a b) E (X5 t len p) (X5 t len q):=by
  unfold X5;refine SR.bind (aH t) ?_;rintro E1 d _ hl ⟨rfl,hd⟩;cases d with
  |slice elem=>
    dsimp only;refine SR.bind (cB elem) ?_;rintro E2 n _ hl2 ⟨rfl,_⟩;split
    · exact .die (aQ (ax _))
    · have rest : ∀ (E3 : Env) (z z' : Array R2), E2.le E3 → z = z' ∧ LR E3 z z → SR P (fun E' a b => VR E' a b) E3 (do
          let some cells:=Yk (fun i=>some (i * n,n)) ((ZV (len * n)).map (z[· % z.size]!)) p.toList
            | stuck "buildSlice: a part of the wrong size"
          pure (.slice (some (← newRow elem cells)) len len)) (do
          let some cells:=Yk (fun i=>some (i * n,n)) ((ZV (len * n)).map (z'[· % z'.size]!)) q.toList
            | stuck "buildSlice: a part of the wrong size"
          pure (.slice (some (← newRow elem cells)) len len)):=by
        rintro E3 z _ hl3 ⟨rfl,hz⟩;rcases zI (fun i=>some (i * n,n)) (h.mono (Env.le_trans hl (Env.le_trans hl2 hl3))) (LR.map (ZV (len * n)) (fun i=>zA hz (i % z.size)))with⟨e1,e2⟩|⟨a,b,e1,e2,e3⟩
        · rw[e1,e2];exact .die (ai _)
        · rw[e1,e2]
          refine SR.bind (mN elem e3) ?_;intro E4 x y _ hxy;exact .ret (.slice _ _ hxy)
      split
      · exact rest E2 #[] #[] (Env.le_refl _) ⟨rfl,LR.nil _⟩
      · refine SR.bind (eT elem (ki hZ hd)) ?_
        intro E3 u v hl3 hz;exact rest E3 _ _ hl3 ⟨by rw[hz.2],tN hz⟩
  |_=>exact .die (ai _)
theorem AL(f:FuncId)(hf:aT.ok f=true){x y x' y':Array R2}(h:LR E x x')(h':LR E y y'):SR P (fun E' a b=>VR E' a b) E (Instr.makeFunc (.func f) x y) (Instr.makeFunc (.func f) x' y'):=
 .ret (.func f hf h.size h.at_ h'.size h'.at_)
theorem uM(n:Nat):SR P (fun _ _ _=>True) E (askRoom n) (askRoom n):=by
 unfold askRoom;split
 ·exact .noRoom (.pure trivial)
 ·exact .ret trivial
theorem JU(t:Wj){u v:R2}(h:VR E u v):SR P (fun E' a b=>VR E' a b) E (Instr.range t u) (Instr.range t v):=by
 unfold Instr.range;refine SR.bind (aH t) ?_;rintro E1 d _ hl ⟨rfl,hd⟩;cases d with
 |string=>
  cases h with
  |string s=>
   refine SR.bind (R1:=fun E' a b=>OR E' a b) (.ret (.iter s 0)) ?_;intro E2 a b hl2 ho;refine SR.bind (R1:=fun E' bl b=>E' bl=some (b,0,true)∧aT.G≤bl) (.new ho fun E' bl b _ he hg=>.pure ⟨he,hg⟩) ?_;rintro E3 a b _ ⟨he,hg⟩;exact .ret (.ptr ⟨0,true,he,rfl,rfl,hg,fun _=>rfl⟩)
  |_=>exact .die (aQ (ai _))
 |map a b=>
  cases h with
  |_=>exact .die (aQ (ai _))
 |_=>exact .die (aQ (ai _))
theorem Nc(ty:Wj){u v:R2}(h:VR E u v):SR P (fun E' a b=>VR E' a b) E (Instr.next u true ty) (Instr.next v true ty):=by
 unfold Instr.next
 cases h with
 |@ptr a b h=>
  obtain⟨ab,ao,asp⟩:=a;obtain⟨bb,bo,bs⟩:=b;obtain⟨s,o,e1,e2,e3,e4,e5⟩:=h;dsimp only at e1 e2 e3 e4;cases ao with
  |succ n=>exact .die (ai _)
  |zero=>
   dsimp only;cases o
   ·exact .gq e1
   ·obtain rfl:=e5 rfl
    obtain rfl:bo=0:=e2;refine SR.bind (R1:=fun E' x y=>OR E' x y∧E' ab=some (bb,0,true)) (.getObj e1 fun x y h=>.pure ⟨h,e1⟩) ?_;rintro E1 x y _ ⟨c,he⟩;cases c with
    |iter str pos=>
     dsimp only;split
     ·refine SR.bind (R1:=fun _ _ _=>True) (.setObj he (.iter _ _) (.pure trivial)) ?_
      intro E2 _ _ _ _;exact .ret (.mkTuple (((LR.one (.bool true)).push (.int _ _)).push (.int _ _)))
     ·exact .ret (.mkTuple (LR.one (.bool false)))
    |_=>exact .die (ai _)
 |_=>exact .die (ai _)
theorem yK(t:Wj)(hZ:oI P t=true){u v x y:R2}(h:VR E u v)(hx:VR E x y):SR P (fun E' a b=>VR E' a b) E (Instr.makeSlice t u x) (Instr.makeSlice t v y):=by
 unfold Instr.makeSlice;refine SR.bind (aH t) ?_;rintro E1 d _ hl ⟨rfl,hd⟩;cases d with
 |slice elem=>
  dsimp only;refine SR.bind (p6 (h.mono hl)) ?_;rintro E2 len _ e rfl;refine SR.bind (p6 (hx.mono (Env.le_trans hl e))) ?_;rintro E3 cap _ g rfl;refine SR.bind (dS elem) ?_;rintro E4 ti _ f ⟨rfl,_⟩;split
  ·split
   ·exact .die (aQ (ec _))
   ·split
    ·exact .die (aQ (ec _))
    ·exact .die (cY (rq _) fun _=>aQ (ec _))
  ·refine SR.bind (uM _) ?_
   intro E5 _ _ hl5 _;refine SR.bind (cB elem) ?_;rintro E6 n _ j ⟨rfl,_⟩
   have rest:∀(E7:Env) (z z':Array R2) (m l c:Nat),z=z'∧LR E7 z z→SR P (fun E' a b=>VR E' a b) E7 (do
     let a ←newRow elem ((ZV m).map (z[· % z.size]!))
     pure (.slice (some a) l c)) (do
     let a ←newRow elem ((ZV m).map (z'[· % z'.size]!))
     pure (.slice (some a) l c)):=by
    rintro E7 z _ m l c ⟨rfl,hz⟩;refine SR.bind (mN elem (LR.map (ZV m) (fun i=>zA hz (i % z.size)))) ?_;intro E8 a b _ hab;exact .ret (.slice _ _ hab)
   split
   ·exact rest E6 #[] #[] _ _ _ ⟨rfl,LR.nil _⟩
   ·refine SR.bind (eT elem (ki hZ hd)) ?_
    intro E7 u v hl7 hz;exact rest E7 _ _ _ _ _ ⟨by rw[hz.2],tN hz⟩
 |_=>exact .die (ai _)
theorem LZ(op:UnOp){u v:R2}(h:VR E u v):SR P (fun E' a b=>VR E' a b) E (Op.unary op u) (Op.unary op v):=by
 unfold Op.unary
 cases op<;>cases h<;>first
  |exact .ret (.bool _)
  |exact .ret (.int _ _)
  |exact .die (ax _)
  |exact .die (ai _)
def F3(P:Wr)(tys:Array Wj):Bool:=match tys[0]? with
 |some t=>match P.underlying t with
  |some (.map _ _)|some (.chan _ _)=>false
  |_=>true
 |none=>true
theorem QM(tys:Array Wj)(ty:Wj){x y:Array R2}(h:LR E x y)(hok:F3 P tys=true):SR P (fun E' a b=>VR E' a b) E (Builtin.len_ tys ty x) (Builtin.len_ tys ty y):=by
 unfold Builtin.len_;cases ht:tys[0]? with
 |none=>exact .die (ai _)
 |some t=>
  cases hx:x[0]? with
  |none=>exact .die (ai _)
  |some u=>
   obtain⟨v,hv,c⟩:=h.get hx;rw[hv];dsimp only;refine SR.bind (aH t) ?_;rintro E1 d _ hl ⟨rfl,hd⟩;cases d with
   |string=>cases c<;>first|exact .ret (.int _ _)|exact .die (ai _)
   |array n e=>exact .ret (.int _ _)
   |pointer arr=>
    dsimp only;refine SR.bind (aH arr) ?_;rintro E2 d' _ f ⟨rfl,_⟩;cases d'<;>first|exact .ret (.int _ _)|exact .die (ai _)
   |slice e=>cases c<;>first|exact .ret (.int _ _)|exact .die (ai _)
   |map a b=>unfold F3 at hok;rw[ht]at hok;dsimp only at hok;rw[hd]at hok;cases hok
   |chan a b=>unfold F3 at hok;rw[ht]at hok;dsimp only at hok;rw[hd]at hok;cases hok
   |_=>exact .die (ai _)
def xX(u:R2)(n:Nat):Prop:=∀a,u=.slice (some a) 0 0→n=0
theorem MM{u v:R2}(h:VR E u v):SR P (fun _ a b=>a=b∧xX u a) E (YS u) (YS v):=by
 cases h with
 |slice l c h=>exact .ret ⟨rfl,fun a e=>by injection e⟩
 |cx a b=>exact .ret ⟨rfl,fun _ _=>rfl⟩
 |bW l c=>exact .ret ⟨rfl,fun a e=>by cases e⟩
 |_=>first|exact .ret ⟨rfl,fun a e=>by cases e⟩|exact .die (ai _)
theorem nV(size n:Nat){u v:R2}(h:VR E u v)(hn:xX u n):SR P (fun E' a b=>LR E' a b) E (Xn size n u) (Xn size n v):=by
 cases h with
 |bW l c=>exact .ret (LR.nil _)
 |slice l c h=>exact j7 _ h
 |cx a b=>
  obtain rfl:=hn a rfl;unfold Xn;dsimp only;rw[Nat.zero_mul];exact .ret (LR.nil _)
 |string s=>exact .ret (LR.map _ fun b=>.int _ _)
 |_=>exact .die (ai _)
theorem oS{z:Array R2}(h:LR E z z)(n:Nat):LR E (XD z n) (XD z n):=LR.map _ fun i=>zA h (i % z.size)
theorem Be{σ:Type}{f:R2→σ→Sem (ForInStep σ)}(hf:∀(E:Env) u v b,VR E u v→SR P (fun _ x y=>x=y) E (f u b) (f v b)):∀(l l':List R2) (E:Env) (b:σ),l.length=l'.length→(∀(i:Nat) u v,l[i]?=some u→l'[i]?=some v→VR E u v)→SR P (fun _ x y=>x=y) E (forIn l b f) (forIn l' b f)
 |[],[],_,_,_,_=>.ret rfl
 |[],_ :: _,_,_,h,_=>by cases h
 |_ :: _,[],_,_,h,_=>by cases h
 |u :: l,v :: l',E,b,h,hv=>by
  rw[List.forIn_cons,List.forIn_cons];refine SR.bind (hf E u v b (hv 0 u v rfl rfl)) ?_;rintro E1 st _ hl rfl;cases st with
  |done b=>exact .ret rfl
  |yield b=>exact Be hf l l' E1 b (by simpa using h) (fun i x y hx hy=>(hv (i+1) x y (by simpa using hx) (by simpa using hy)).mono hl)
theorem qP{u v:R2}(h:VR E u v):SR P (fun E' a b=>VR E' a b) E (Conv.bytesToString u) (Conv.bytesToString v):=by
 unfold Conv.bytesToString;cases h with
 |bW l c=>exact .ret (.string _)
 |cx a b=>exact .ret (.string _)
 |slice l c ha=>
  dsimp only;refine SR.bind (j7 l ha) ?_;intro E1 x y hl hxy;rw[←Array.forIn_toList,←Array.forIn_toList];refine SR.bind (Be (fun E2 u v b huv=>?_) x.toList y.toList E1 _ (by simp[hxy.size]) (fun i u v hu hv=>hxy.at_ i u v (by simpa using hu) (by simpa using hv))) ?_
  ·cases huv with
   |int k n=>cases k<;>first|exact .ret rfl|exact .die (aQ (ai _))|exact .die (ai _)
   |_=>first|exact .die (aQ (ai _))|exact .die (ai _)
  ·rintro E2 s _ _ rfl
   exact .ret (.string _)
 |_=>exact .die (ai _)
theorem qZ(elem:Wj)(s:ByteArray):SR P (fun E' a b=>VR E' a b) E (Conv.stringToBytes elem s) (Conv.stringToBytes elem s):=by
 unfold Conv.stringToBytes;refine SR.bind (R1:=fun _ a b=>a=b) (.choose _ fun n=>.pure rfl) ?_;rintro E1 c _ hl rfl;dsimp only
 have f:LR E1 ((s.data.map fun b=>Value.int .u8 b.toNat)++Ye (c-s.size) (.int .u8 0)) ((s.data.map fun b=>Value.int .u8 b.toNat)++Ye (c-s.size) (.int .u8 0)):=
  (LR.map _ fun b=>.int _ _).app ⟨rfl,fun i u v hu hv=>by
   rw[hu]at hv;cases hv;rw[Array.getElem?_replicate]at hu;split at hu
   ·cases hu;exact .int _ _
   ·cases hu⟩
 refine SR.bind (R1:=fun E' (a b:Addr)=>a.off=b.off∧a.spot=b.spot∧E' a.block=some (b.block,0,true)∧aT.G≤a.block) ?_ ?_
 ·unfold newRow newObj
  refine SR.bind (R1:=fun E' bl b=>E' bl=some (b,0,true)∧aT.G≤bl) (.new (.cells _ _ f) fun E' bl b _ he hg=>.pure ⟨he,hg⟩) ?_;rintro E' a b _ ⟨he,hg⟩;exact .ret ⟨rfl,rfl,he,hg⟩
 ·rintro E2 a b g ⟨h1,h2,h3,h4⟩
  refine SR.bind (R1:=fun _ _ _=>True) ?_ ?_
  ·unfold markStringish
   refine SR.bind (R1:=fun E' x y=>x=y∧E' a.block=some (b.block,0,true)) (.shape h3 fun x y hxy=>.pure ⟨?_,h3⟩) ?_
   ·rcases hxy with⟨_,e⟩|⟨e,_⟩
    ·exact e
    ·cases e
   ·rintro E3 x _ d ⟨rfl,h5⟩
    cases x with
    |none=>exact .ret trivial
    |some q=>exact .freeze h5 rfl (.pure trivial)
  ·intro E3 _ _ d _
   exact .ret (.slice _ _ ⟨0,true,d _ _ h3,by rw[h1];rfl,h2.symm,h4,fun _=>rfl⟩)
omit [aT] in
theorem tm_holdsCells(a:Addr)(n:Nat):Tm P (Builtin.holdsCells a n):=fQ (Ku _) fun x=>by
 cases x<;>exact eH _
omit [aT] in
theorem AG(size l n:Nat)(b:Option Addr)(x:R2):Tm P (Zk size l n b x):=by
 have rest:∀t:Bool,Tm P (if !t then return true else match x with
   |.slice (some b') _ _=>do pure (!(←Builtin.holdsCells b' (n*size))||b.any (·.block==b'.block))
   |_=>pure false):=fun t=>by
  refine RX (eH _) ?_;cases x with
  |slice a _ _=>cases a with
   |none=>exact eH _
   |some a=>exact fQ (tm_holdsCells _ _) fun _=>eH _
  |_=>exact eH _
 unfold Zk;cases b with
 |none=>exact fQ (eH _) rest
 |some a=>exact fQ (tm_holdsCells _ _) fun _=>fQ (IW _) fun _=>fQ (eH _) rest
def gv(elem:Wj)(size:Nat)(base:Option Addr)(sLen sCap:Nat)(s x:R2)(zeros:Bool)(n:Nat):Sem R2:=do
 let appended:Sem (Array R2):=
  if !zeros then Xn size n x
  else if n*size=0 then pure #[]
  else do pure (XD (←zeroValue elem).cells n)
 let need:=sLen+n
 if need≤sCap then
  let new ←appended
  if let some a:=base then storeCells (a.add (sLen*size)) new.toList
  pure (.slice base need sCap)
 else
  if (need : Int) > IntKind.i64.max ∧ (zeros ∨ (← typeInfo elem).bytes = 0) then runtimePanic (.error "growslice: len out of range")
  if Zs need sCap * (← typeInfo elem).bytes > 2 ^ 48 then (if zeros then runtimePanic (.error "growslice: len out of range") else do
   if !(←Zk size sLen n base x)then mark .noRoom
   unsupported (.resourceLimit "append: a slice or a string whose bytes no memory bears"))
  let newCap ←choose (.appendCap need sCap elem)
  askRoom (newCap*(←typeInfo elem).bytes)
  let old ←Xn size sLen s
  let new ←appended
  let rest:=XD (←zeroValue elem).cells (newCap-need)
  pure (.slice (some (←newRow elem (old++new++rest))) need newCap)
def BR(E:Env)(a b:Option Addr):Prop:=(a=none∧b=none)∨∃p q,a=some p∧b=some q∧AR E p q
theorem BR.mono{E E':Env}(hl:E.le E'){a b:Option Addr}(h:BR E a b):BR E' a b:=by
 rcases h with h|⟨p,q,h1,h2,h3⟩
 ·exact .inl h
 ·exact .inr ⟨p,q,h1,h2,h3.mono hl⟩
theorem sL(elem:Wj)(hZ:iH P elem=true)(size n:Nat)(zeros:Bool){x y:R2}(h:VR E x y)(hn:zeros=false→xX x n):SR P (fun E' a b=>LR E' a b) E
  (if !zeros then Xn size n x else if n*size=0 then pure #[]else do pure (XD (←zeroValue elem).cells n))
  (if !zeros then Xn size n y else if n*size=0 then pure #[]else do pure (XD (←zeroValue elem).cells n)):=by
 split
 ·rename_i hz
  exact nV size n h (hn (by simpa using hz))
 ·split
  ·exact .ret (LR.nil _)
  ·refine SR.bind (eT elem hZ) ?_
   intro E1 u v _ hz;have:=oS (tN hz) n;rw[←hz.2];exact .ret this
theorem zu(elem:Wj)(size:Nat)(zeros:Bool){x y:R2}(h:VR E x y):SR P (fun _ a b=>a=#[]∧b=#[]) E
  (if !zeros then Xn size 0 x else if 0*size=0 then pure #[]else do pure (XD (←zeroValue elem).cells 0))
  (if !zeros then Xn size 0 y else if 0*size=0 then pure #[]else do pure (XD (←zeroValue elem).cells 0)):=by
 split
 ·unfold Xn
  cases h with
  |bW l c=>exact .ret ⟨rfl,rfl⟩
  |slice l c h=>dsimp only;rw[Nat.zero_mul];exact .ret ⟨rfl,rfl⟩
  |cx a b=>dsimp only;rw[Nat.zero_mul];exact .ret ⟨rfl,rfl⟩
  |string s=>exact .ret ⟨vsi,vsi⟩
  |_=>exact .die (ai _)
 ·rw[Wc (Nat.zero_mul _)]
  exact .ret ⟨rfl,rfl⟩
def BS(E:Env)(a b:Option Addr)(l c:Nat):Prop:=BR E a b∨(l=0∧c=0∧∃p q,a=some p∧b=some q)
theorem BS.mono{E E':Env}(hl:E.le E'){a b:Option Addr}{l c:Nat}(h:BS E a b l c):BS E' a b l c:=h.imp (BR.mono hl) id
theorem Ex (elem : Wj) (hZ : iH P elem = true) (size : Nat) {a b : Option Addr} (sLen sCap : Nat) {s s' x y : R2} (zeros : Bool) (n : Nat) (hb : BS E a b sLen sCap) (hs : VR E s s') (hx : VR E x y) (hs0 : xX s sLen) (hx0 : zeros = false → xX x n) :
    SR P (fun E' a b=>VR E' a b) E (gv elem size a sLen sCap s x zeros n) (gv elem size b sLen sCap s' y zeros n):=by
  unfold gv;dsimp only;split
  · rename_i hneed
    rcases hb with hb|⟨rfl,rfl,p,q,rfl,rfl⟩
    case inr=>
      obtain rfl : n = 0:=by omega
      refine SR.bind (zu elem size zeros hx) ?_;rintro E1 u v hl ⟨rfl,rfl⟩;dsimp only;refine SR.bind (R1:=fun _ _ _=>True) (.ret trivial) ?_;intro E2 _ _ hl2 _;exact .ret (.cx p q)
    refine SR.bind (sL elem hZ size n zeros hx hx0) ?_;intro E1 u v hl huv;rcases hb with⟨rfl,rfl⟩|⟨p,q,rfl,rfl,hpq⟩
    · exact .ret (.bW _ _)
    · dsimp only
      refine SR.bind (sW ((hpq.mono hl).add _) huv) ?_;intro E2 _ _ hl2 _;exact .ret (.slice _ _ (hpq.mono (Env.le_trans hl hl2)))
  · have tail : ∀ E1 : Env, E.le E1 → SR P (fun E' a b => VR E' a b) E1 (do
        if Zs (sLen + n) sCap * (← typeInfo elem).bytes > 2 ^ 48 then (if zeros then runtimePanic (.error "growslice: len out of range") else do
          if !(← Zk size sLen n a x)then mark .noRoom
          unsupported (.resourceLimit "append: a slice or a string whose bytes no memory bears"))
        let newCap ← choose (.appendCap (sLen + n) sCap elem)
        askRoom (newCap * (← typeInfo elem).bytes)
        let old ← Xn size sLen s
        let new ← (if !zeros then Xn size n x else if n * size = 0 then pure #[]else do pure (XD (← zeroValue elem).cells n))
        let rest:=XD (← zeroValue elem).cells (newCap - (sLen + n))
        pure (.slice (some (← newRow elem (old++new++rest))) (sLen + n) newCap)) (do
        if Zs (sLen + n) sCap * (← typeInfo elem).bytes > 2 ^ 48 then (if zeros then runtimePanic (.error "growslice: len out of range") else do
          if !(← Zk size sLen n b y)then mark .noRoom
          unsupported (.resourceLimit "append: a slice or a string whose bytes no memory bears"))
        let newCap ← choose (.appendCap (sLen + n) sCap elem)
        askRoom (newCap * (← typeInfo elem).bytes)
        let old ← Xn size sLen s'
        let new ← (if !zeros then Xn size n y else if n * size = 0 then pure #[]else do pure (XD (← zeroValue elem).cells n))
        let rest:=XD (← zeroValue elem).cells (newCap - (sLen + n))
        pure (.slice (some (← newRow elem (old++new++rest))) (sLen + n) newCap)):=fun E1 hl=>by
      refine SR.bind (dS elem) ?_;rintro E2 ti _ hl2 ⟨rfl,_⟩;dsimp only;by_cases hcap : Zs (sLen + n) sCap * ti.bytes > 2 ^ 48
      · rw[Wc hcap]
        exact .die (aQ (ew (ec _) (cY (AG _ _ _ _ _) fun _=>ew (cY Gi fun _=>ax _) (ax _))))
      · rw[V9 hcap,V9 hcap]
        refine SR.bind (R1:=fun _ a b=>a = b) (.choose _ fun n=>.pure rfl) ?_;rintro E3 cp _ hl3 rfl;refine SR.bind (dS elem) ?_;rintro E4 ti' _ hl4 ⟨rfl,_⟩;refine SR.bind (uM _) ?_;intro E5 _ _ hl5 _;have hL:=Env.le_trans hl (Env.le_trans hl2 (Env.le_trans hl3 (Env.le_trans hl4 hl5)));refine SR.bind (nV size sLen (hs.mono hL) hs0) ?_;intro E6 o o' hl6 ho;refine SR.bind (sL elem hZ size n zeros (hx.mono (Env.le_trans hL hl6)) hx0) ?_;intro E7 w w' hl7 hw;refine SR.bind (eT elem hZ) ?_;intro E8 z z' hl8 hz;have hzz:=oS (tN hz) (cp - (sLen + n));rw[← hz.2];refine SR.bind (mN elem (((ho.mono (Env.le_trans hl7 hl8)).app (hw.mono hl8)).app hzz)) ?_;intro E9 p q _ hpq;exact .ret (.slice _ _ hpq)
    refine SR.bind (dS elem) ?_;rintro E1 ti _ hl ⟨rfl,_⟩;by_cases hc : (((sLen + n : Nat) : Int) > IntKind.i64.max∧(zeros = true∨ti.bytes = 0))
    · rw[Wc hc]
      exact .die (aQ (ec _))
    · rw[V9 hc,V9 hc]
      exact tail E1 hl
omit [aT] in
theorem append_eq(tys:Array Wj)(ty:Wj)(args:Array R2):Builtin.append_ tys ty args=(do
  let (some sType, some s, some x) := (tys[0]?, args[0]?, args[1]?) | stuck "append: two arguments expected"
  let .slice elem ← underlying sType | stuck "append: slice type expected"
  let .slice base sLen sCap := s | stuck "append: slice expected"
  let size ←sizeOf elem
  let zeros ←match tys[1]? with
   |some xType=>do pure ((←underlying xType) matches .int _)
   |none=>pure false
  let n ←if zeros then do
    let l:=IntKind.i64.wrap (←asInt x)
    if l < 0 then runtimePanic (.error "makeslice: len out of range")
    if l*(←typeInfo elem).bytes > 2 ^ 48 then
     let made ← choose (.extern "append.ofMake.carriedOut" 2)
     runtimePanic (.error (if made == 1 then "makeslice: len out of range" else "growslice: len out of range"))
    pure l.toNat
   else YS x
  gv elem size base sLen sCap s x zeros n):=rfl
def KI(P:Wr)(tys:Array Wj):Bool:=match tys[0]? with
 |some t=>oI P t
 |none=>true
theorem IA(tys:Array Wj)(hA:KI P tys=true)(ty:Wj){x y:Array R2}(h:LR E x y):SR P (fun E' a b=>VR E' a b) E (Builtin.append_ tys ty x) (Builtin.append_ tys ty y):=by
 rw[append_eq,append_eq];cases ht:tys[0]? with
 |none=>exact .die (ai _)
 |some t=>
  cases hx:x[0]? with
  |none=>exact .die (ai _)
  |some s=>
   obtain⟨s',hs',hss⟩:=h.get hx;cases hx1:x[1]? with
   |none=>exact .die (ai _)
   |some e=>
    obtain⟨e',he',hee⟩:=h.get hx1;rw[hs',he'];dsimp only;refine SR.bind (aH t) ?_;rintro E1 d _ hl ⟨rfl,hd⟩;cases d with
    |slice elem=>
     dsimp only
     have hZ:iH P elem=true:=by
      unfold KI at hA;rw[ht]at hA;exact ki hA hd
     have main:∀(a b:Option Addr) (l c:Nat),s=.slice a l c→s'=.slice b l c→BS E1 a b l c→SR P (fun E' a b=>VR E' a b) E1 (do
       let size ←sizeOf elem
       let zeros ←match tys[1]? with
        |some xType=>do pure ((←underlying xType) matches .int _)
        |none=>pure false
       let n ←if zeros then do
         let l:=IntKind.i64.wrap (←asInt e)
         if l < 0 then runtimePanic (.error "makeslice: len out of range")
         if l*(←typeInfo elem).bytes > 2 ^ 48 then
          let made ← choose (.extern "append.ofMake.carriedOut" 2)
          runtimePanic (.error (if made == 1 then "makeslice: len out of range" else "growslice: len out of range"))
         pure l.toNat
        else YS e
       gv elem size a l c s e zeros n) (do
       let size ←sizeOf elem
       let zeros ←match tys[1]? with
        |some xType=>do pure ((←underlying xType) matches .int _)
        |none=>pure false
       let n ←if zeros then do
         let l:=IntKind.i64.wrap (←asInt e')
         if l < 0 then runtimePanic (.error "makeslice: len out of range")
         if l*(←typeInfo elem).bytes > 2 ^ 48 then
          let made ← choose (.extern "append.ofMake.carriedOut" 2)
          runtimePanic (.error (if made == 1 then "makeslice: len out of range" else "growslice: len out of range"))
         pure l.toNat
        else YS e'
       gv elem size b l c s' e' zeros n):=by
      intro a b l c hsa hsb hab;refine SR.bind (cB elem) ?_;rintro E2 n _ hl2 ⟨rfl,_⟩
      have len:∀(E3:Env) (zeros:Bool),E2.le E3→SR P (fun E' a b=>VR E' a b) E3 (do
        let n' ←if zeros then do
          let l:=IntKind.i64.wrap (←asInt e)
          if l < 0 then runtimePanic (.error "makeslice: len out of range")
          if l*(←typeInfo elem).bytes > 2 ^ 48 then
           let made ← choose (.extern "append.ofMake.carriedOut" 2)
           runtimePanic (.error (if made == 1 then "makeslice: len out of range" else "growslice: len out of range"))
          pure l.toNat
         else YS e
        gv elem n a l c s e zeros n') (do
        let n' ←if zeros then do
          let l:=IntKind.i64.wrap (←asInt e')
          if l < 0 then runtimePanic (.error "makeslice: len out of range")
          if l*(←typeInfo elem).bytes > 2 ^ 48 then
           let made ← choose (.extern "append.ofMake.carriedOut" 2)
           runtimePanic (.error (if made == 1 then "makeslice: len out of range" else "growslice: len out of range"))
          pure l.toNat
         else YS e'
        gv elem n b l c s' e' zeros n'):=by
       intro E3 zeros hl3;have hL:=Env.le_trans hl (Env.le_trans hl2 hl3);have fin:∀(E4:Env) (k:Nat),E3.le E4→(zeros=false→xX e k)→SR P (fun E' a b=>VR E' a b) E4 (gv elem n a l c s e zeros k) (gv elem n b l c s' e' zeros k):=fun E4 k hl4 hk=>Ex elem hZ n l c zeros k (hab.mono (Env.le_trans hl2 (Env.le_trans hl3 hl4))) (hss.mono (Env.le_trans hL hl4)) (hee.mono (Env.le_trans hL hl4)) (fun p e=>by rw[hsa]at e;injection e) hk;cases zeros
       ·refine SR.bind (MM (hee.mono hL)) ?_
        rintro E4 k _ hl4 ⟨rfl,hk⟩;exact fin E4 k hl4 fun _=>hk
       ·rw[Wc rfl,Wc rfl]
        refine SR.bind (p6 (hee.mono hL)) ?_;rintro E4 k _ hl4 rfl;dsimp only;by_cases hneg:IntKind.i64.wrap k<0
        ·rw[Wc hneg]
         exact .die (aQ (ec _))
        ·rw[V9 hneg,V9 hneg]
         refine SR.bind (dS elem) ?_;rintro E5 ti _ hl5 ⟨rfl,_⟩;by_cases hbig:IntKind.i64.wrap k*ti.bytes > 2 ^ 48
         ·rw[Wc hbig]
          exact .die (cY (rq _) fun _=>aQ (ec _))
         ·rw[V9 hbig,V9 hbig]
          exact fin E5 _ (Env.le_trans hl4 hl5) (fun e=>by cases e)
      cases tys[1]? with
      |none=>exact len E2 false (Env.le_refl _)
      |some xt=>
       refine SR.bind (aH xt) ?_;rintro E3 d' _ hl3 ⟨rfl,_⟩;exact len E3 _ hl3
     cases hss.mono hl with
     |bW l c=>exact main none none l c rfl rfl (.inl (.inl ⟨rfl,rfl⟩))
     |slice l c ha=>exact main _ _ l c rfl rfl (.inl (.inr ⟨_,_,rfl,rfl,ha⟩))
     |cx p q=>exact main _ _ 0 0 rfl rfl (.inr ⟨rfl,rfl,p,q,rfl,rfl⟩)
     |_=>exact .die (ai _)
    |_=>exact .die (ai _)
end
end Cs
end Go.Proofs.YtpcnpkhgjanamaaGreatDoor
