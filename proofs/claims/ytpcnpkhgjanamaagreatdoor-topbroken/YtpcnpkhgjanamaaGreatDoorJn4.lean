import Derived.Test.YtpcnpkhgjanamaaGreatDoorPz
import Derived.Test.YtpcnpkhgjanamaaGreatDoorJn3
namespace Go.Proofs.YtpcnpkhgjanamaaGreatDoor
open Go renaming Value→R2,TypeId→Wj,Program→Wr,IntKind→ZQ
open Go.Op renaming equalIn→XJ,equal→YO
open Go.Builtin renaming unsafeAdd_→Ya
set_option maxHeartbeats 2000000
namespace Cs
variable[aT]
section
variable{P:Wr}{E:Env}
omit [aT] in
theorem mG{α:Type}{f:Wr→Sem α}(h:eO P (f P)):eO P (program >>= f):=fun w=>h w
omit [aT] in
theorem n5{T:Wj}(h:P.info? T=none):eO P (typeInfo T):=by
 unfold typeInfo;refine mG ?_;rw[h];exact ai _
theorem Ao{bl b s:Nat}{o:Bool}(h:E bl=some (b,s,o)):SR P (fun E' x y=>(x=none∧y=none)∨∃p q l,x=some (p,l)∧y=some (q,l)∧AR E' p q) E (numberAt bl) (numberAt b):=by
 unfold numberAt;refine SR.bind (R1:=fun E' x y=>x.isSome=y.isSome∧(x.isSome=false→o=true)∧E' bl=some (b,s,o)) (.shape h fun x y hxy=>.pure ⟨?_,?_,h⟩) ?_
 ·rcases hxy with⟨_,rfl⟩|⟨_,T,n,T',n',rfl,rfl,_⟩<;>rfl
 ·rcases hxy with⟨e,_⟩|⟨_,T,n,T',n',rfl,rfl,_⟩
  ·exact fun _=>e
  ·exact fun e=>by cases e
 ·rintro E1 x y _ ⟨h1,h2,h3⟩
  cases hx:x.isSome
  ·rw[hx]at h1 h2
   obtain rfl:=h2 rfl;simp only[←h1,WV,X9];refine SR.bind (R1:=fun E' x y=>OR E' x y) (.getObj h3 fun x y h=>.pure h) ?_;intro E2 x y _ hxy;cases hxy with
   |number l hn=>exact .ret (.inr ⟨_,_,_,rfl,rfl,hn⟩)
   |_=>exact .ret (.inl ⟨rfl,rfl⟩)
  ·rw[hx]at h1
   simp only[←h1,YI];exact .ret (.inl ⟨rfl,rfl⟩)
theorem yz{bl b s:Nat}{o:Bool}(h:E bl=some (b,s,o)):SR P (fun _ x y=>x=none∧y=none) E (viewAt bl) (viewAt b):=by
 unfold viewAt;refine SR.bind (R1:=fun E' x y=>x.isSome=y.isSome∧(x.isSome=false→o=true)∧E' bl=some (b,s,o)) (.shape h fun x y hxy=>.pure ⟨?_,?_,h⟩) ?_
 ·rcases hxy with⟨_,rfl⟩|⟨_,T,n,T',n',rfl,rfl,_⟩<;>rfl
 ·rcases hxy with⟨e,_⟩|⟨_,T,n,T',n',rfl,rfl,_⟩
  ·exact fun _=>e
  ·exact fun e=>by cases e
 ·rintro E1 x y _ ⟨h1,h2,h3⟩
  cases hx:x.isSome
  ·rw[hx]at h1 h2
   obtain rfl:=h2 rfl;simp only[←h1,WV,X9];refine SR.bind (R1:=fun E' x y=>OR E' x y) (.getObj h3 fun x y h=>.pure h) ?_;intro E2 x y _ hxy;cases hxy<;>exact .ret ⟨rfl,rfl⟩
  ·rw[hx]at h1
   simp only[←h1,YI];exact .ret ⟨rfl,rfl⟩
theorem iu{a b:Addr}(h:AR E a b):SR P (fun E' x y=>AR E' x.1 y.1∧x.2=y.2) E (behindNumber a) (behindNumber b):=by
 unfold behindNumber;have h':=h;obtain⟨s,o,e1,_⟩:=h;refine SR.bind (Ao e1) ?_;intro E1 x y hl hxy;rcases hxy with⟨rfl,rfl⟩|⟨p,q,l,rfl,rfl,c⟩
 ·exact .ret ⟨h'.mono hl,rfl⟩
 ·exact .ret ⟨c,rfl⟩
theorem Gg{a b:Addr}(e1:E a.block=some (b.block,0,true))(e2:b.off=a.off)(e3:b.spot=a.spot):SR P (fun _ x y=>x=y) E (byteOf a) (byteOf b):=by
 unfold byteOf;rw[e3,e2];cases a.spot with
 |some s=>exact .ret rfl
 |none=>
  dsimp only;refine SR.bind dI ?_;rintro E1 p p' hl ⟨rfl,rfl⟩;unfold noView;refine SR.bind (R1:=fun E' _ _=>E' a.block=some (b.block,0,true)) ?_ ?_
  ·refine SR.bind (R1:=fun E' x y=>(x=none∧y=none)∧E' a.block=some (b.block,0,true)) ((yz (hl _ _ e1)).mono fun E' x y hle h=>⟨h,hle _ _ (hl _ _ e1)⟩) ?_
   rintro E2 x y _ ⟨⟨rfl,rfl⟩,h⟩;exact .ret h
  ·intro E2 _ _ hl2 h3
   refine SR.bind (R1:=fun _ x y=>x=y) (.shape h3 fun x y hxy=>.pure ?_) ?_
   ·rcases hxy with⟨_,e⟩|⟨e,_⟩
    ·exact e
    ·cases e
   ·rintro E3 x _ _ rfl
    cases x with
    |none=>exact .die (ai _)
    |some q=>
     obtain⟨e,n⟩:=q;dsimp only;split
     ·exact .ret rfl
     ·split
      ·exact .ret rfl
      ·exact .die (ai _)
theorem Dp(k:ZQ){a b:Addr}(n:Int)(h:AR E a b):SR P (fun E' x y=>VR E' x y) E (Op.addrMod k a n) (Op.addrMod k b n):=by
 unfold Op.addrMod;obtain⟨s,o,e1,e2,e3,e4,e5⟩:=h;cases o
 ·refine SR.bind (R1:=fun _ (x y:Option (Wj×Nat))=>∃T n,x=some (T,n)∧P.info? T=none) (.shape e1 fun x y hxy=>.pure ?_) ?_
  ·rcases hxy with⟨e,_⟩|⟨_,T,n,T',n',h1,_,h2⟩
   ·cases e
   ·exact⟨T,n,h1,h2⟩
  ·rintro E1 x y _ ⟨T,m,rfl,hT⟩
   exact .die (aQ (n5 hT))
 ·obtain rfl:=e5 rfl
  refine SR.bind (R1:=fun E' x y=>x=y∧E' a.block=some (b.block,0,true)) (.shape e1 fun x y hxy=>.pure ⟨?_,e1⟩) ?_
  ·rcases hxy with⟨_,e⟩|⟨e,_⟩
   ·exact e
   ·cases e
  ·rintro E1 x _ _ ⟨rfl,h3⟩
   cases x with
   |none=>exact .die (ax _)
   |some q=>
    obtain⟨e,m⟩:=q;dsimp only;refine SR.bind (dS e) ?_;rintro E2 ti _ c ⟨rfl,_⟩;split
    ·exact .die (aQ (ax _))
    ·refine SR.bind (Gg (c _ _ h3) (by rw[e2];rfl) e3) ?_
     rintro E3 z _ _ rfl;exact .ret (.int _ _)
omit [aT] in
theorem zq{T:Wj}(h:P.info? T=none):P.cellsOf T=0:=by
 unfold Program.cellsOf;rw[h]
 rfl
theorem yS(t:Wj){a b:Addr}{u v:R2}(h:AR E a b)(hu:VR E u v):SR P (fun E' x y=>∃a' b',x=.pointer (some a')∧y=.pointer (some b')∧AR E' a' b') E (Ya #[] t #[.pointer (some a),u]) (Ya #[] t #[.pointer (some b),v]):=by
 unfold Ya;dsimp only;refine SR.bind (p6 hu) ?_;rintro E1 n _ hl rfl;have h':=h.mono hl;obtain⟨s,o,e1,e2,e3,e4,e5⟩:=h';by_cases hn:n=0
 ·rw[Wc hn,Wc hn]
  refine SR.bind (yz e1) ?_;rintro E2 x y d ⟨rfl,rfl⟩;exact .pure ⟨_,_,rfl,rfl,h.mono (Env.le_trans hl d)⟩
 ·rw[V9 hn,V9 hn]
  by_cases hn2:n<0
  ·rw[Wc hn2]
   exact .die (aQ (ax _))
  ·rw[V9 hn2,V9 hn2]
   cases o
   ·refine SR.bind (R1:=fun _ (x y:Option (Wj×Nat))=>∃T n,x=some (T,n)∧P.info? T=none) (.shape e1 fun x y hxy=>.pure ?_) ?_
    ·rcases hxy with⟨e,_⟩|⟨_,T,n,T',n',h1,_,h2⟩
     ·cases e
     ·exact⟨T,n,h1,h2⟩
    ·rintro E2 x y _ ⟨T,m,rfl,hT⟩
     refine .die (mG ?_)
     have hc:cellAtBytes P P.depth T (m / P.cellsOf T) a.off n=none:=by
      unfold cellAtBytes;rw[zq hT]
      rfl
     rw[hc];exact ax _
   ·obtain rfl:=e5 rfl
    refine SR.bind (R1:=fun E' x y=>x=y∧E' a.block=some (b.block,0,true)) (.shape e1 fun x y hxy=>.pure ⟨?_,e1⟩) ?_
    ·rcases hxy with⟨_,e⟩|⟨e,_⟩
     ·exact e
     ·cases e
    ·rintro E2 x _ _ ⟨rfl,h3⟩
     cases x with
     |none=>exact .die (ax _)
     |some q=>
      obtain⟨e,m⟩:=q;dsimp only;refine SR.bind dI ?_;rintro E3 p p' c ⟨rfl,rfl⟩;have ho:b.off=a.off:=by rw[e2];rfl
      rw[ho];split
      ·exact .pure ⟨_,_,rfl,rfl,0,true,c _ _ h3,rfl,e3,e4,fun _=>rfl⟩
      ·exact .die (ax _)
def dW(P:Wr)(t:Wj):Bool:=match P.underlying t with
 |some (.int _)=>match P.info? t with
  |some i=>match i.desc with
   | .named s _ => s != "sync.copyChecker"
   |_=>true
  |none=>true
 |some .string|some (.slice _)|some (.func _ _ _)|some .bool=>true
 |_=>false
theorem fR(t:Wj)(ht:dW P t=true){x y u v:R2}(hx:VR E x y)(hu:VR E u v)(hp:∃o,x=.pointer o):SR P (fun E' a b=>VR E' a b) E (movedNumber t x u) (movedNumber t y v):=by
 unfold movedNumber;refine SR.bind (aH t) ?_;rintro E1 d _ hl ⟨rfl,hd⟩;obtain⟨o,rfl⟩:=hp;dsimp only;split
 ·unfold dW at ht
  rw[hd]at ht;cases ht
 ·simp only[WV,X9]
  cases hx.mono hl with
  |jm=>
   refine .die ?_;unfold Ya;dsimp only;exact cY (uo _) fun n=>ew (ax _) (ew (aQ (ax _)) (ax _))
  |any v h=>
   refine .die ?_;unfold Ya;dsimp only;exact cY (uo _) fun n=>ew (ax _) (ew (aQ (ax _)) (ax _))
  |ptr h=>
   dsimp only;refine SR.bind (iu h) ?_;rintro E2 ⟨a,la⟩ ⟨b,lb⟩ f ⟨e,rfl⟩;dsimp only at e⊢;refine SR.bind (yS t e (hu.mono (Env.le_trans hl f))) ?_;rintro E3 _ _ _ ⟨c,d,rfl,rfl,h3⟩;dsimp only;unfold asNumber newObj;refine SR.bind (R1:=fun E' bl b=>E' bl=some (b,0,true)∧aT.G≤bl) (.new (.number _ h3) fun E' bl b _ he hg=>.pure ⟨he,hg⟩) ?_;rintro E4 _ _ _ ⟨he,hg⟩;exact .ret (.ptr ⟨0,true,he,rfl,rfl,hg,fun _=>rfl⟩)
theorem Mg(hG:P.globals.size≤aT.G){a b:Addr}(h:aT.G≤a.block):eO P (Op.twoPlaces a b):=by
 unfold Op.twoPlaces;refine mG ?_
 have hc:(a.block != b.block||decide (a.block≥P.globals.size))=true:=by
  have:a.block≥P.globals.size:=vom;simp[this]
 rw[Wc hc];exact aQ (ax _)
theorem KG{a b:Addr}(h:AR E a b):aT.G≤a.block:=by
 obtain⟨s,o,e1,e2,e3,e4,e5⟩:=h;exact e4
omit [aT] in
theorem Ig{α:Type}{t:Wj}{f:TypeInfo→Sem α}(h:∀i,P.info? t=some i→eO P (f i)):eO P (typeInfo t >>= f):=by
 cases hi:P.info? t with
 |none=>exact aQ (n5 hi)
 |some i=>
  intro w;obtain⟨x,w',h1,h2⟩:=h i hi w;refine⟨x,w',?_,h2⟩;rw[←h1];refine iU ?_;unfold typeInfo program
  change Sem.run P (Sem.bind (.program .pure) _) w=_
  simp[Sem.bind,Sem.run,hi,pure]
theorem ku(hG:P.globals.size≤aT.G)(d:Nat)(t:Wj)(ht:dW P t=true){x y u v:R2}(hx:VR E x y)(hu:VR E u v):SR P (fun _ a b=>a=b) E (XJ (d+1) t x u) (XJ (d+1) t y v):=by
 rw[XJ,XJ];refine SR.bind (aH t) ?_;rintro E1 ds _ hl ⟨rfl,hd⟩;unfold dW at ht;rw[hd]at ht;cases ds with
 |int k=>
  dsimp only at ht;cases hx.mono hl with
  |int k1 n1=>
   cases hu.mono hl with
   |int k2 n2=>
    dsimp only;split
    ·exact .ret rfl
    ·exact .die (ai _)
   |ptr h=>
    cases n1 with
    |ofNat m=>
     cases m with
     |zero=>exact .ret rfl
     |succ m=>exact .die (ax _)
    |negSucc m=>exact .die (ax _)
   |jm=>exact .die (ax _)
   |any v h=>exact .die (ax _)
   |_=>exact .die (ai _)
  |ptr h=>
   cases hu.mono hl with
   |int k2 n2=>
    cases n2 with
    |ofNat m=>
     cases m with
     |zero=>exact .ret rfl
     |succ m=>exact .die (ax _)
    |negSucc m=>exact .die (ax _)
   |ptr h2=>
    dsimp only;refine SR.bind (iu h) ?_;rintro E2 ⟨a,la⟩ ⟨b,lb⟩ j ⟨f,_⟩;refine SR.bind (iu (h2.mono j)) ?_;rintro E3 ⟨a2,la2⟩ ⟨b2,lb2⟩ n ⟨g,_⟩;dsimp only at f g⊢;have l:=KG f;refine .die (mG ?_)
    have hc:(a.block==a2.block&&decide (a.block<P.globals.size))=false:=by
     have:¬a.block<P.globals.size:=vom;simp[this]
    simp only[hc,Bool.false_eq_true,if_false];refine Ig fun i hi=>?_;rw[hi]at ht;dsimp only at ht;split
    ·rename_i hdd
     rw[hdd]at ht;simp at ht
    ·exact ax _
   |_=>exact .die (ax _)
  |jm=>cases hu.mono hl<;>exact .die (ax _)
  |_=>cases hu.mono hl<;>first|exact .die (ai _)|exact .die (ax _)
 |string=>cases hx.mono hl<;>cases hu.mono hl<;>first|exact .ret rfl|exact .die (ai _)
 |slice e=>cases hx.mono hl<;>cases hu.mono hl<;>first|exact .ret rfl|exact .die (ai _)
 |func a b c=>cases hx.mono hl<;>cases hu.mono hl<;>first|exact .ret rfl|exact .die (ai _)
 |bool=>cases hx.mono hl<;>cases hu.mono hl<;>first|exact .ret rfl|exact .die (ai _)
 |_=>cases ht
omit [aT] in
theorem gm{α:Type}{t:Wj}{f:TypeDesc→Sem α}(h:∀d,P.underlying t=some d→eO P (f d)):eO P (underlying t >>= f):=by
 cases hi:P.underlying t with
 |none=>
  refine aQ fun w=>?_;unfold underlying program
  change ∃h w',Sem.run P (Sem.bind (.program .pure) _) w=_∧_
  simp only[Sem.bind,Sem.run,hi];exact ai _ w
 |some d=>
  intro w;obtain⟨x,w',h1,h2⟩:=h d hi w;refine⟨x,w',?_,h2⟩;rw[←h1];refine iU ?_;unfold underlying program
  change Sem.run P (Sem.bind (.program .pure) _) w=_
  simp[Sem.bind,Sem.run,hi,pure]
omit [aT] in
theorem IM(d:Nat)(t:Wj)(ht:dW P t=true)(u:R2):eO P (XJ (d+1) t (.pointer none) u):=by
 rw[XJ];refine gm fun d hd=>?_;unfold dW at ht;rw[hd]at ht;cases d with
 |int k=>cases u<;>first|exact ai _|exact ax _
 |string=>cases u<;>first|exact ai _|exact ax _
 |slice e=>cases u<;>first|exact ai _|exact ax _
 |func a b c=>cases u<;>first|exact ai _|exact ax _
 |bool=>cases u<;>first|exact ai _|exact ax _
 |_=>cases ht
theorem Gz(d:Nat)(t:Wj)(ht:dW P t=true){u v:R2}(hu:VR E u v):eO P (XJ (d+1) t u (.pointer none)):=by
 rw[XJ];refine gm fun d hd=>?_;unfold dW at ht;rw[hd]at ht;cases d with
 |int k=>cases hu<;>first|exact ai _|exact ax _
 |string=>cases hu<;>first|exact ai _|exact ax _
 |slice e=>cases hu<;>first|exact ai _|exact ax _
 |func a b c=>cases hu<;>first|exact ai _|exact ax _
 |bool=>cases hu<;>first|exact ai _|exact ax _
 |_=>cases ht
omit [aT] in
theorem MG(t:Wj)(ht:dW P t=true)(u:R2):eO P (YO t (.pointer none) u):=IM 9999 t ht u
theorem MD(t:Wj)(ht:dW P t=true){u v:R2}(hu:VR E u v):eO P (YO t u (.pointer none)):=Gz 9999 t ht hu
omit [aT] in
theorem Cb(t:Wj)(ht:dW P t=true)(u:R2):eO P (movedNumber t (.pointer none) u):=by
 unfold movedNumber;refine gm fun d hd=>?_;dsimp only;split
 ·unfold dW at ht
  rw[hd]at ht;cases ht
 ·simp only[WV,X9]
  unfold Ya;dsimp only;exact cY (uo _) fun n=>ew (ax _) (ew (aQ (ax _)) (ax _))
omit [aT] in
theorem Jj(t:Wj)(ht:dW P t=true)(u:R2):eO P (do if(←underlying t) matches .unsafePointer then movedPointer t (.pointer none) u else movedNumber t (.pointer none) u):=by
 refine gm fun d hd=>?_;have main:=Cb t ht u;unfold dW at ht;rw[hd]at ht;cases d<;>first|exact main|cases ht
theorem uz(op : BinOp)(t : Wj)(k k' : ZQ)(a b : Int): SR P (fun E' x y=>VR E' x y) E (binOp op t (.int k a) (.int k' b)) (binOp op t (.int k a) (.int k' b)):=by
  by_cases hk : k = k'
  · subst hk
    cases op<;>simp only[binOp,ne_eq,not_true_eq_false,X9,Op.intArith,Op.intDiv,Op.intBits,Op.intCmp,Op.shift]<;>
      first
      |exact .ret (.int _ _)
      |exact .ret (.bool _)
      | (split
         · exact .die (ec _)
         · exact .ret (.int _ _))
  · cases op <;> simp only [binOp, ne_eq, hk, not_false_eq_true, YI, Op.shift] <;>
      first
      |exact .die (ai _)
      | (split
         · exact .die (ec _)
         · exact .ret (.int _ _))
theorem vW(op : BinOp)(t : Wj)(a b : ByteArray): SR P (fun E' x y=>VR E' x y) E (binOp op t (.string a) (.string b)) (binOp op t (.string a) (.string b)):=by
  cases op<;>simp only[binOp,Op.stringOp]<;>
    first
    |exact .ret (.bool _)
    |exact .die (ai _)
    | (split
       · exact .die (ax _)
       · exact .ret (.string _))
theorem QC(hG:P.globals.size≤aT.G)(t:Wj)(ht:dW P t=true){x y u v:R2}(hx:VR E x y)(hu:VR E u v):SR P (fun E' a b=>VR E' a b) E (do pure (.bool (←YO t x u)):Sem R2) (do pure (.bool (←YO t y v)):Sem R2):=by
 refine SR.bind (ku hG 9999 t ht hx hu) ?_;rintro E1 b _ _ rfl;exact .ret (.bool _)
theorem Qn(hG:P.globals.size≤aT.G)(t:Wj)(ht:dW P t=true){x y u v:R2}(hx:VR E x y)(hu:VR E u v):SR P (fun E' a b=>VR E' a b) E (do pure (.bool (!(←YO t x u))):Sem R2) (do pure (.bool (!(←YO t y v))):Sem R2):=by
 refine SR.bind (ku hG 9999 t ht hx hu) ?_;rintro E1 b _ _ rfl;exact .ret (.bool _)
theorem It(t:Wj)(ht:dW P t=true){x y u v:R2}(hx:VR E x y)(hu:VR E u v)(hp:∃o,x=.pointer o):SR P (fun E' a b=>VR E' a b) E (do if(←underlying t) matches .unsafePointer then movedPointer t x u else movedNumber t x u) (do if(←underlying t) matches .unsafePointer then movedPointer t y v else movedNumber t y v):=by
 refine SR.bind (aH t) ?_;rintro E1 d _ hl ⟨rfl,hd⟩;have main:=fR (E:=E1) t ht (hx.mono hl) (hu.mono hl) hp;unfold dW at ht;rw[hd]at ht;cases d<;>first|exact main|cases ht
theorem QH(hG:P.globals.size≤aT.G){a b a2 b2:Addr}(h:AR E a b)(h2:AR E a2 b2){f g:Addr→Addr→Sem R2}(hf:∀x y,eO P (Op.twoPlaces x y)→eO P (f x y)):SR P (fun E' a b=>VR E' a b) E (do f (←behindNumber a).1 (←behindNumber a2).1) (do g (←behindNumber b).1 (←behindNumber b2).1):=by
 refine SR.bind (iu h) ?_;rintro E2 ⟨x,lx⟩ ⟨y,ly⟩ c ⟨d,_⟩;refine SR.bind (iu (h2.mono c)) ?_;rintro E3 ⟨x2,lx2⟩ ⟨y2,ly2⟩ i ⟨e,_⟩;exact .die (hf _ _ (Mg hG (KG d)))
theorem QL(k:ZQ)(n:Int){a b:Addr}(h:AR E a b):SR P (fun E' x y=>VR E' x y) E (do Op.addrMod k (←behindNumber a).1 n) (do Op.addrMod k (←behindNumber b).1 n):=by
 refine SR.bind (iu h) ?_;rintro E2 ⟨x,lx⟩ ⟨y,ly⟩ d ⟨c,_⟩;exact Dp k n c
theorem JN(hG:P.globals.size≤aT.G)(op:BinOp)(t:Wj)(ht:dW P t=true){x y u v:R2}(hx:VR E x y)(hu:VR E u v):SR P (fun E' a b=>VR E' a b) E (binOp op t x u) (binOp op t y v):=by
 have d:=QC hG t ht hx hu;have e:=Qn hG t ht hx hu;have g:(∃o,x=.pointer o)→SR P (fun E' a b=>VR E' a b) E (do if(←underlying t) matches .unsafePointer then movedPointer t x u else movedNumber t x u) (do if(←underlying t) matches .unsafePointer then movedPointer t y v else movedNumber t y v):=fun h=>It t ht hx hu h;have c:(∃o,u=.pointer o)→SR P (fun E' a b=>VR E' a b) E (movedNumber t u x) (movedNumber t v y):=fun h=>fR t ht hu hx h;have f:=hx
 cases hx<;>cases hu<;>first
  |exact uz op t _ _ _ _
  |exact vW op t _ _
  |(cases op<;>first
    |exact .die (ai _)
    |exact .die (ax _)
    |exact .die (aQ (MG t ht _))
    |exact .die (aQ (MD t ht f))
    |exact .die (Jj t ht _)
    |exact .die (Cb t ht _)
    |exact d
    |exact e
    |exact g ⟨_,rfl⟩
    |exact c ⟨_,rfl⟩
    |exact fR t ht (.ptr (by assumption)) (.int _ _) ⟨_,rfl⟩
    |exact fR t ht .jm (.int _ _) ⟨_,rfl⟩
    |exact QL _ _ (by assumption)
    |exact QH hG (by assumption) (by assumption) (fun x y h=>aQ h))
end
def yD(P:Wr):Nat→Wj→Bool
 |0,t=>dW P t
 |d+1,t=>dW P t||match P.underlying t with
  |some (.struct fs)=>!(P.stoodInHeld t)&&fs.all fun f=>yD P d f.type
  |some (.array _ e)=>yD P d e
  |_=>false
section
variable{P:Wr}{E:Env}
theorem qN{α σ:Type}{f g:α→σ→Sem (ForInStep σ)}:∀(l:List α) (E:Env) (b:σ),(∀a∈l,∀(E':Env) b,E.le E'→SR P (fun _ x y=>x=y) E' (f a b) (g a b))→SR P (fun _ x y=>x=y) E (forIn l b f) (forIn l b g)
 |[],_,_,_=>.ret rfl
 |a :: l,E,b,hf=>by
  rw[List.forIn_cons,List.forIn_cons];refine SR.bind (hf a (List.mem_cons_self ..) E b E.le_refl) ?_;rintro E1 st _ hl rfl;cases st with
  |done b=>exact .ret rfl
  |yield b=>exact qN l E1 b fun a ha E' b hl'=>hf a (List.mem_cons_of_mem _ ha) E' b (Env.le_trans hl hl')
theorem rZ(hG:P.globals.size≤aT.G):∀(k n:Nat) (t:Wj),yD P k t=true→∀{E:Env} {x y u v:R2},VR E x y→VR E u v→SR P (fun _ a b=>a=b) E (XJ (k+n+1) t x u) (XJ (k+n+1) t y v)
 |0,n,t,ht,E,x,y,u,v,hx,hu=>ku hG (0+n) t ht hx hu
 |k+1,n,t,ht,E,x,y,u,v,hx,hu=>by
  by_cases hc:dW P t=true
  ·exact ku hG (k+1+n) t hc hx hu
  ·rw[yD]at ht
   simp only[hc,Bool.false_or]at ht;rw[show k+1+n+1=(k+n+1)+1 by omega,XJ,XJ];refine SR.bind (aH t) ?_;rintro E1 ds _ hl ⟨rfl,hd⟩;rw[hd]at ht;have ih:=fun t ht {E:Env} {x y u v:R2} (hx:VR E x y) (hu:VR E u v)=>rZ hG k n t ht hx hu;cases ds with
   |struct fs=>
    dsimp only at ht;cases hx.mono hl with
    |agg h1 h2=>
     cases hu.mono hl with
     |agg h3 h4=>
      dsimp only;refine SR.bind dI ?_;rintro E2 p p' c ⟨rfl,rfl⟩
      have hs:p'.stoodInHeld t=false:=by
       rw[Wy]at ht;simpa using ht.1
      have ha:∀f∈fs.toList,yD p' k f.type=true:=fun f hf=>by
       rw[Wy]at ht;exact(WJ.1 ht.2) f (by simpa using hf)
      simp only[hs,WV,X9];refine SR.bind (R1:=fun _ a b=>a=b) ?_ ?_
      ·rw[←Array.forIn_toList,←Array.forIn_toList]
       refine qN _ _ _ fun f hf E3 b hl3=>?_;refine SR.ite ?_ (.ret rfl);refine SR.bind (p8 f.type f.offset (LR.mono (Env.le_trans c hl3) ⟨h1,h2⟩)) ?_;intro E4 a1 b1 hl4 hab;refine SR.bind (p8 f.type f.offset (LR.mono (Env.le_trans (Env.le_trans c hl3) hl4) ⟨h3,h4⟩)) ?_;intro E5 a2 b2 hl5 hab2;refine SR.bind (ih _ (ha f hf) (hab.mono hl5) hab2) ?_;rintro E6 r _ _ rfl;cases r<;>exact .ret rfl
      ·rintro E3 ⟨r,_⟩ _ _ rfl
       cases r<;>exact .ret rfl
     |_=>exact .die (ai _)
    |_=>cases hu.mono hl<;>exact .die (ai _)
   |array len e=>
    dsimp only at ht;cases hx.mono hl with
    |agg h1 h2=>
     cases hu.mono hl with
     |agg h3 h4=>
      dsimp only;refine SR.bind (cB e) ?_;rintro E2 sz _ c ⟨rfl,_⟩;refine SR.bind (R1:=fun _ a b=>a=b) ?_ ?_
      ·simp only[Std.Legacy.Range.forIn_eq_forIn_range']
       refine qN _ _ _ fun i _ E3 b hl3=>?_;refine SR.bind (p8 e (i*sz) (LR.mono (Env.le_trans c hl3) ⟨h1,h2⟩)) ?_;intro E4 a1 b1 hl4 hab;refine SR.bind (p8 e (i*sz) (LR.mono (Env.le_trans (Env.le_trans c hl3) hl4) ⟨h3,h4⟩)) ?_;intro E5 a2 b2 hl5 hab2;refine SR.bind (ih _ ht (hab.mono hl5) hab2) ?_;rintro E6 r _ _ rfl;cases r<;>exact .ret rfl
      ·rintro E3 ⟨r,_⟩ _ _ rfl
       cases r<;>exact .ret rfl
     |_=>exact .die (ai _)
    |_=>cases hu.mono hl<;>exact .die (ai _)
   |_=>cases ht
omit [aT] in
theorem IJ(d:Nat)(t:Wj)(ht:(match P.underlying t with|some (.struct _)|some (.array _ _)=>true|_=>false)=true){x u:R2}(h:∀c e,¬(x=.agg c∧u=.agg e)):eO P (XJ (d+1) t x u):=by
 rw[XJ];refine gm fun ds hd=>?_;rw[hd]at ht;cases ds with
 |struct fs=>cases x<;>first|exact ai _|(cases u<;>first|exact ai _|exact absurd ⟨rfl,rfl⟩ (h _ _))
 |array n e=>cases x<;>first|exact ai _|(cases u<;>first|exact ai _|exact absurd ⟨rfl,rfl⟩ (h _ _))
 |_=>cases ht
def Bj(P:Wr)(op:BinOp)(t:Wj):Bool:=(match op with|.eql|.neq=>true|_=>false)&&(match P.underlying t with|some (.struct _)|some (.array _ _)=>true|_=>false)&&yD P 8 t&& !(P.eqGuardType P.depth t)
theorem Hs(hG:P.globals.size≤aT.G)(op:BinOp)(t:Wj)(ht:Bj P op t=true){x y u v:R2}(hx:VR E x y)(hu:VR E u v):SR P (fun E' a b=>VR E' a b) E (binOp op t x u) (binOp op t y v):=by
 simp only[Bj,Wy]at ht;obtain⟨⟨⟨ho,hm⟩,ha⟩,_⟩:=ht;have he:SR P (fun _ a b=>a=b) E (YO t x u) (YO t y v):=rZ hG 8 9991 t ha hx hu
 have d:SR P (fun E' a b=>VR E' a b) E (do pure (.bool (←YO t x u)):Sem R2) (do pure (.bool (←YO t y v)):Sem R2):=by
  refine SR.bind he ?_;rintro E1 b _ _ rfl;exact .ret (.bool _)
 have f:SR P (fun E' a b=>VR E' a b) E (do pure (.bool (!(←YO t x u))):Sem R2) (do pure (.bool (!(←YO t y v))):Sem R2):=by
  refine SR.bind he ?_;rintro E1 b _ _ rfl;exact .ret (.bool _)
 have hd:(∀c e,¬(x=.agg c∧u=.agg e))→eO P (YO t x u):=fun h=>IJ 9999 t hm h;cases op with
 |eql=>cases hx<;>cases hu<;>first
  |exact uz .eql t _ _ _ _
  |exact vW .eql t _ _
  |exact d
  |exact .die (aQ (hd fun c e h=>by first|(have h1:=h.1;cases h1;done)|(have h2:=h.2;cases h2;done)))
 |neq=>cases hx<;>cases hu<;>first
  |exact uz .neq t _ _ _ _
  |exact vW .neq t _ _
  |exact f
  |exact .die (aQ (hd fun c e h=>by first|(have h1:=h.1;cases h1;done)|(have h2:=h.2;cases h2;done)))
 |_=>cases ho
end
end Cs
end Go.Proofs.YtpcnpkhgjanamaaGreatDoor
