import Derived.Conc.WgGenN3
import Derived.Conc.CompanyDraw
import Derived.Test.YtpdemelchhkfaaaCzC
import Derived.Test.YtpdemelchhkfaaaJn13
namespace Go.Proofs.Ytpdemelchhkfaaa
namespace Cs
open Go.Conc Go.RowKit
def so:List FuncId:=[28,29,30,31,32,33,34,36,37,38,39,40,41,51,52,55,56,57,58,78,11,12,14,15]
noncomputable instance tfFns:Fns where
 ok:=fun f=>so.contains f
 G:=Try.prog.globals.size
noncomputable def yl:List FuncId:=so.filter fun f=>match Try.prog.funcs[f]? with
 | some fn => (match fn.body with | some b => !(codeOk Try.prog b) | none => true) || (fn.name == "runtime.NumGoroutine")
 | none=>true
theorem Am:yl=[]:=by kernel_rfl
theorem cV:bu Try.prog:=fun f hf=>by
 have hm:f ∈ so:=List.contains_iff_mem.1 hf
 have hb:f ∉ yl:=by rw[Am];simp
 unfold yl at hb
 rw[List.mem_filter] at hb
 have hb':=fun e=>hb ⟨hm,e⟩
 cases h1:Try.prog.funcs[f]? with
 | none=>exact absurd (by simp only[h1]) hb'
 | some fn =>
  cases h2:fn.body with
  | none=>exact absurd (by simp only[h1,h2,Bool.true_or]) hb'
  | some b =>
   cases h3:codeOk Try.prog b with
   | false=>exact absurd (by simp only[h1,h2,h3,Bool.not_false,Bool.true_or]) hb'
   | true =>
    cases h4 : (fn.name == "runtime.NumGoroutine") with
    | true=>exact absurd (by simp only[h1,h2,h3,h4,Bool.or_true]) hb'
    | false=>exact ⟨fn,b,rfl,h2,h3,h4⟩
theorem dG:Try.prog.info? 1000000000=none:=by kernel_rfl
theorem iH {P:Program} [Fns] {E:Env} {wl w w2:World} (h:WR P E wl w) (hw:∀b x,E b=some x→w2.heap[x.1]? = w.heap[x.1]?):WR P E wl w2:=by
 refine ⟨fun b q s e=>?_,fun b q s e=>?_,h.inj,h.low⟩
 ·obtain ⟨h1,ol,o,h2,h3,h4⟩:=h.own b q s e
  exact ⟨h1,ol,o,h2,(hw b _ e).trans h3,h4⟩
 ·obtain ⟨x,T,y,T',fr,h1,h2,h3,h4⟩:=h.shared b q s e
  exact ⟨x,T,y,T',fr,h1,h2,(hw b _ e).trans h3,h4⟩
def Rt (w:World) (v:Value):Prop:=∀a l c,v=.slice (some a) l c→0<c→a.spot=none∧∃y T fr,w.heap[a.block]? = some (.cells y T fr)
theorem ji {w:World} {a:Addr} {v:Value} (h:w.cell? a=some v):∃y T fr,w.heap[a.block]? = some (.cells y T fr):=by
 unfold World.cell? at h
 split at h
 ·rename_i e
  exact ⟨_,_,_,e⟩
 ·cases h
section
variable [Fns]
structure Cq (P:Program) (E:Env) (wl w:World):Prop where
 wr:WR P E wl w
 big:Fns.G≤wl.heap.size
 top:∀b,wl.heap.size≤b→E b=none
theorem Cp.cq {P:Program} {E:Env} {wl w:World} (h:Cp P E wl w):Cq P E wl w:=⟨h.wr,h.big,h.top⟩
variable {P:Program} {w:World}
theorem Cq.row {E:Env} {wl:World} (h:Cq P E wl w) {TJ:TypeId} (hJ:P.info? TJ=none) {q s:Nat} {y:Array Value} {T':TypeId} {fr:Nat × Nat} (hq:w.heap[q]? = some (.cells y T' fr)) (hno:∀b s',E b≠some (q,s',true)) (x:Array Value) (hx:∀(i:Nat) u,x[i]? = some u→∃v,y[i+s]? = some v∧VR E u v) :
  ∃E',Cq P E' (wl.alloc (.cells x TJ (0,x.size))) w∧jj E E' wl (wl.alloc (.cells x TJ (0,x.size)))∧(∀o,AR E' ⟨wl.heap.size,o,none⟩ ⟨q,o+s,none⟩)∧(∀i u,x[i]? = some u→(wl.alloc (.cells x TJ (0,x.size))).cell? ⟨wl.heap.size,i,none⟩=some u)∧∀b q' s' o,E' b=some (q',s',o)→(b=wl.heap.size∧q'=q∧s'=s∧o=false)∨E b=some (q',s',o):=by
 let E':Env:=fun b=>if b=wl.heap.size then some (q,s,false) else E b
 have hn:E wl.heap.size=none:=h.top _ (Nat.le_refl _)
 have hle:E.le E':=fun b x e=>by
  show (if b=wl.heap.size then some (q,s,false) else E b)=some x
  rw[if_neg (fun e'=>by rw[e',hn] at e;cases e)]
  exact e
 have hsz:(wl.alloc (.cells x TJ (0,x.size))).heap.size=wl.heap.size+1:=by simp
 have hold:∀b,b<wl.heap.size→(wl.alloc (.cells x TJ (0,x.size))).heap[b]? = wl.heap[b]?:=fun b hb=>Below.heap_alloc wl _ b hb
 have hnew:(wl.alloc (.cells x TJ (0,x.size))).heap[wl.heap.size]? = some (.cells x TJ (0,x.size)):=heap_alloc_new wl _
 have hE:∀b q' s' o,E' b=some (q',s',o)→(b=wl.heap.size∧q'=q∧s'=s∧o=false)∨E b=some (q',s',o):=fun b q' s' o e=>by
  have e':(if b=wl.heap.size then some (q,s,false) else E b)=some (q',s',o):=e
  by_cases hb:b=wl.heap.size
  ·rw[if_pos hb] at e'
   cases e'
   exact .inl ⟨hb,rfl,rfl,rfl⟩
  ·rw[if_neg hb] at e'
   exact .inr e'
 refine ⟨E',⟨⟨fun b c s' e=>?_,fun b c s' e=>?_,fun b b' c s' s'' o e e2=>?_,fun b x' e=>?_⟩,by rw[hsz];exact Nat.le_succ_of_le h.big,fun b hb=>?_⟩,⟨hle,by rw[hsz];exact Nat.le_succ _,hold,rfl,rfl,rfl⟩,fun o=>⟨s,false,by show (if wl.heap.size=wl.heap.size then _ else _)=_;rw[if_pos rfl],rfl,rfl,h.big,fun e=>by cases e⟩,fun i u hu=>?_,hE⟩
 ·rcases hE b c s' true e with ⟨_,_,_,e'⟩ | e'
  ·cases e'
  ·obtain ⟨k1,ol,o,k2,k3,k4⟩:=h.wr.own b c s' e'
   exact ⟨k1,ol,o,(hold b (h.wr.lt e').1).trans k2,k3,k4.mono hle⟩
 ·rcases hE b c s' false e with ⟨rfl,rfl,rfl,_⟩ | e'
  ·exact ⟨x,TJ,y,T',fr,hnew,hJ,hq,fun i u hu=>by
    obtain ⟨v,h1,h2⟩:=hx i u hu
    exact ⟨v,h1,h2.mono hle⟩⟩
  ·obtain ⟨x',T,y',T2,fr',h1,h2,h3,h4⟩:=h.wr.shared b c s' e'
   exact ⟨x',T,y',T2,fr',(hold b (h.wr.lt e').1).trans h1,h2,h3,fun i u hu=>by
    obtain ⟨v,k1,k2⟩:=h4 i u hu
    exact ⟨v,k1,k2.mono hle⟩⟩
 ·rcases hE b c s' true e with ⟨_,_,_,e'⟩ | e'
  ·cases e'
  ·rcases hE b' c s'' o e2 with ⟨_,rfl,_,_⟩ | e2'
   ·exact absurd e' (hno b s')
   ·exact h.wr.inj b b' c s' s'' o e' e2'
 ·obtain ⟨q',s',o⟩:=x'
  rcases hE b q' s' o e with ⟨rfl,_⟩ | e'
  ·exact h.big
  ·exact h.wr.low b _ e'
 ·rw[hsz] at hb
  show (if b=wl.heap.size then some (q,s,false) else E b)=none
  rw[if_neg (by omega)]
  exact h.top b (by omega)
 ·rw[cell_of_row _ _ _ _ _ _ hnew]
  exact hu
theorem fR {E:Env} {wl:World} (h:Cq P E wl w) (hsh:∀b q s,E b≠some (q,s,true)) {TJ:TypeId} (hJ:P.info? TJ=none) {a:Option Addr} {n cap:Nat} {f:Nat→Value} (hf:∀i E',VR E' (f i) (f i)) (hc:∀c,c<n→∃b o,a=some ⟨b,o,none⟩∧w.cell? ⟨b,o+c,none⟩=some (f c)) (hr:Rt w (.slice a n cap)) :
  ∃E' wl' a',Cq P E' wl' w∧(∀b q s,E' b≠some (q,s,true))∧(∀b q s o,E' b=some (q,s,o)→E b=some (q,s,o)∨q<w.heap.size)∧jj E E' wl wl'∧VR E' (.slice a' n cap) (.slice a n cap)∧∀c,c<n→∃b o,a'=some ⟨b,o,none⟩∧wl'.cell? ⟨b,o+c,none⟩=some (f c):=by
 cases a with
 | none =>
  refine ⟨E,wl,none,h,hsh,fun _ _ _ _ e=>.inl e,jj.refl _ _,.bY n cap,fun c hc'=>?_⟩
  obtain ⟨b,o,e,_⟩:=hc c hc'
  cases e
 | some ad =>
  by_cases hz:n=0∧cap=0
  ·obtain ⟨rfl,rfl⟩:=hz
   exact ⟨E,wl,some ad,h,hsh,fun _ _ _ _ e=>.inl e,jj.refl _ _,.bP ad ad,fun c hc'=>absurd hc' (Nat.not_lt_zero _)⟩
  ·have hrow:ad.spot=none∧∃y T fr,w.heap[ad.block]? = some (.cells y T fr):=by
    by_cases h0:0<n
    ·obtain ⟨b,o,e,k⟩:=hc 0 h0
     cases e
     obtain ⟨y,T,fr,k1⟩:=ji k
     exact ⟨rfl,y,T,fr,k1⟩
    ·exact hr ad n cap rfl (by omega)
   obtain ⟨b,o,sp⟩:=ad
   obtain ⟨hsp,y,T,fr,hq⟩:=hrow
   dsimp only at hsp hq
   subst hsp
   obtain ⟨E',c1,c2,c3,c4,c5⟩:=h.row hJ (s:=o) hq (fun b s'=>hsh b _ s') (Array.ofFn fun i:Fin n=>f i) (fun i u hu=>by
    obtain ⟨hi,rfl⟩:=Array.getElem?_eq_some_iff.1 hu
    simp only[Array.size_ofFn] at hi
    obtain ⟨b',o',e,k⟩:=hc i hi
    cases e
    refine ⟨f i,?_,by rw[Array.getElem_ofFn];exact hf _ _⟩
    rw[cell_of_row _ _ _ _ _ _ hq] at k
    rw[Nat.add_comm]
    exact k)
   refine ⟨E',_,some ⟨wl.heap.size,0,none⟩,c1,fun b' q' s' e=>?_,fun b' q' s' o' e=>?_,c2,.slice n cap ?_,fun c hc'=>⟨wl.heap.size,0,rfl,?_⟩⟩
   ·rcases c5 b' q' s' true e with ⟨_,_,_,e'⟩ | e'
    ·cases e'
    ·exact hsh _ _ _ e'
   ·rcases c5 b' q' s' o' e with ⟨_,rfl,_,_⟩ | e'
    ·exact .inr (Array.getElem?_eq_some_iff.1 hq).1
    ·exact .inl e'
   ·have:=c3 0
    rw[Nat.zero_add] at this
    exact this
   ·rw[Nat.zero_add]
    exact c4 c _ (by rw[Array.getElem?_eq_getElem (by simpa using hc'),Array.getElem_ofFn])
theorem pH {E:Env}:LR E ([]:List Value).toArray ([]:List Value).toArray:=⟨rfl,fun i u v hu=>by simp at hu⟩
theorem ak {E:Env} {u v:Value} {l l':List Value} (h:VR E u v) (t:LR E l.toArray l'.toArray):LR E (u :: l).toArray (v :: l').toArray:=by
 refine ⟨by have:=t.size;simpa using this,fun i a b ha hb=>?_⟩
 cases i with
 | zero=>simp at ha hb;subst ha hb;exact h
 | succ i=>exact t.at_ i a b (by simpa using ha) (by simpa using hb)
end
end Cs
section
open Go.RowKit PK
namespace Cs
def cutAt:Nat→Code→Code
 | 0,_=>.skip
 | k+1,.seq a b=>.seq a (cutAt k b)
 | _+1,c=>c
def m9:Nat→Code→Code
 | 0,_=>.exit 1000000
 | k+1,.seq a b=>.seq a (m9 k b)
 | _+1,c=>c
def az:Nat→Code→Code
 | 0,c=>c
 | k+1,.seq _ b=>az k b
 | _+1,c=>c
def kI:Nat→Code→Bool
 | 0,_=>true
 | k+1,.seq _ b=>kI k b
 | _+1,_=>false
noncomputable def dr:Code:=Try.f13.body.getD .skip
end Cs
theorem gh {P:Program} {t:TypeId} {z:Value} (h:(P.info? t).map (·.zero)=some (some z)) (w:World):(zeroValue t).run P w=.ok z w:=by
 cases hi:P.info? t with
 | none=>rw[hi] at h;cases h
 | some i =>
  rw[hi] at h
  simp only[Option.map_some,Option.some.injEq] at h
  simp[zeroValue,typeInfo,hi,h,go_sem]
theorem m5:(Try.prog.info? 66).map (·.zero)=some (some (.agg #[.slice none 0 0,.slice none 0 0])):=by kernel_rfl
theorem nA:(Try.prog.info? 66).map (·.size)=some 2:=by kernel_rfl
def CfP (s:ByteArray) (ta:Option Addr) (tn tc seed tries ah:Nat) (T:Array Value) (W:World):Prop :=
 ∃(v:Nat→Value) (b7 b10 b13:Nat) (pv:Value),T=#[.string s,.slice ta tn tc,.int .u64 (seed:Nat),.int .i64 (tries:Nat),.int .i64 (ah:Nat),v 5,v 6,.pointer (some ⟨b7,0,none⟩),v 8,v 9,.pointer (some ⟨b10,0,none⟩),.int .i64 0,v 12,.pointer (some ⟨b13,0,none⟩),v 14,v 15,v 16,v 17,v 18,v 19,v 20,v 21,v 22,v 23,v 24,v 25,v 26,v 27,v 28,v 29,v 30,v 31,v 32,v 33,v 34,v 35,v 36,v 37,v 38,v 39,v 40,v 41,v 42]∧ai W b7 39 #[.int .u64 (seed:Nat)]∧ai W b10 43 (ints 28 fun _=>0)∧ai W b13 66 #[pv,.slice ta tn tc]∧W.ownsRow 0 79 2 pv (s.size-1) (ints ((s.size-1)*2) (prF s)).toList
def CfE (s:ByteArray) (ta:Option Addr) (tn tc seed tries ah:Nat) (e:Exit) (a:Act) (w':World):Prop:=e=.normal∧a.defers=[]∧CfP s ta tn tc seed tries ah a.tmps w'
theorem vA {W W':World} {N:Nat} {e:TypeId} {sz:Nat} {v:Value} {n:Nat} {xs:List Value} (h:W.ownsRow N e sz v n xs) (hk:∀b,b<W.heap.size→W'.heap[b]? = W.heap[b]?):W'.ownsRow 0 e sz v n xs:=⟨h.1,h.2.elim .inl fun ⟨g,cap,cur,h1,_,h2,h3⟩=>.inr ⟨g,cap,cur,h1,Nat.zero_le _,(hk g (Array.getElem?_eq_some_iff.1 h2).1).trans h2,h3⟩⟩
theorem Bp {pv:Value} {ta:Option Addr} {tn tc:Nat} (h:pv.oneCell'=true):(#[pv,.slice ta tn tc]:Array Value).all (·.oneCell')=true:=by
 rw[Array.all_eq_true_iff_forall_mem]
 intro v hv
 rw[show (#[pv,.slice ta tn tc]:Array Value)=[pv,.slice ta tn tc].toArray from rfl,List.mem_toArray] at hv
 rcases List.mem_cons.1 hv with rfl | hv
 ·exact h
 ·rcases List.mem_cons.1 hv with rfl | hv
  ·rfl
  ·cases hv
set_option maxRecDepth 100000 in
set_option maxHeartbeats 8000000 in
theorem qP (s:ByteArray) (ta:Option Addr) (tn tc seed tries ah:Nat) (f:Nat→Int) (hcw:cwE s.data.toList tn f=0) (ht:1≤tries∧tries≤16) (hh:1≤ah∧ah≤16) (w:World) (hv:aY w (.slice ta tn tc) tn f) :
  (Cs.cutAt 4 Cs.dr).wp Try.prog (CfE s ta tn tc seed tries ah) ⟨#[.string s,.slice ta tn tc,.int .u64 (seed:Nat),.int .i64 (tries:Nat),.int .i64 (ah:Nat),undef,undef,undef,undef,undef,undef,undef,undef,undef,undef,undef,undef,undef,undef,undef,undef,undef,undef,undef,undef,undef,undef,undef,undef,undef,undef,undef,undef,undef,undef,undef,undef,undef,undef,undef,undef,undef,undef],[]⟩ w:=by
 obtain ⟨hc0,hl,-,-⟩:=eY hcw
 have hs:=(mz hc0).1
 have hl2:s.size≤256:=by have:=Pl.c6 s;omega
 have HC:Hid (∀W,Below w.heap.size w W→Calls Try.prog 28 #[.string s,.slice ta tn tc] W fun e w'=>e=.returned (.int .i64 0)∧Below W.heap.size W w'):=fun W hW=>by
  have:=rY s (.slice ta tn tc) tn f W (hv.below hW)
  rw[hcw] at this
  exact this
 have HS:Hid (∀W,Calls Try.prog 30 #[.string s,.slice ta tn tc] W fun e w'=>∃pv,e=.returned (.agg #[pv,.slice ta tn tc])∧w'.ownsRow W.heap.size 79 2 pv (s.size-1) (ints ((s.size-1)*2) (prF s)).toList∧Below W.heap.size W w'):=fun W=>nC s hs hl2 ta tn tc W
 clear hcw hc0 hs hl hl2 hv
 have hz:=gh (P:=Try.prog) m5
 have hx1:=ai.new w 39 #[.int .u64 (seed:Nat)]
 have hx2:=hx1.alloc (.cells (ints 28 fun _=>0) 43)
 have hx3:=ai.new (w.alloc (.cells #[.int .u64 (seed:Nat)] 39)) 43 (ints 28 fun _=>0)
 have hbl:=((Below.refl w.heap.size w).alloc (Nat.le_refl _) (.cells #[.int .u64 (seed:Nat)] 39)).alloc (by simp) (.cells (ints 28 fun _=>0) 43)
 rw[show (w.alloc (.cells #[.int .u64 (seed:Nat)] 39)).heap.size=w.heap.size+1 by simp] at hx3
 simp only[Cs.cutAt,Cs.dr,Try.f13,Option.getD_some]
 go_upto_region 1 with fail
 rw[su]
 generalize (w.alloc (.cells #[.int .u64 (seed:Nat)] 39)).alloc (.cells (ints 28 fun _=>0) 43)=W1 at *
 clear hx1
 go_wp2_with fail
 refine Calls.mono (HC.out _ hbl) ?_
 rintro e Y ⟨rfl,hY⟩
 clear HC
 have hx4:=hx2.below hY hx2.lt
 have hx5:=hx3.below hY hx3.lt
 clear hx2 hx3 hbl hY
 have u1:decide ((tries:Int)<1)=false:=decide_eq_false (by omega)
 have u2:decide (16<(tries:Int))=false:=decide_eq_false (by omega)
 have u3:decide ((ah:Int)<1)=false:=decide_eq_false (by omega)
 have u4:decide (16<(ah:Int))=false:=decide_eq_false (by omega)
 have u5:decide (tries<1)=false:=decide_eq_false (by omega)
 have u6:decide (16<tries)=false:=decide_eq_false (by omega)
 have u7:decide (ah<1)=false:=decide_eq_false (by omega)
 have u8:decide (16<ah)=false:=decide_eq_false (by omega)
 have u9:¬tries=0:=by omega
 have u10:¬ah=0:=by omega
 have HX4:=(show Hid (ai Y w.heap.size 39 #[.int .u64 (seed:Nat)]) from hx4)
 have HX5:=(show Hid (ai Y (w.heap.size+1) 43 (ints 28 fun _=>0)) from hx5)
 clear hx4 hx5 ht hh
 go_wp2_with fail
 refine Calls.mono (HS.out _) ?_
 rintro e Z ⟨pv,rfl,ho,hZ⟩
 have HF4:=(show Hid (ai Z w.heap.size 39 #[.int .u64 (seed:Nat)]) from HX4.out.below hZ HX4.out.lt)
 have HF5:=(show Hid (ai Z (w.heap.size+1) 43 (ints 28 fun _=>0)) from HX5.out.below hZ HX5.out.lt)
 clear HX4 HX5 HS hZ
 have hr:=ai.new Z 66 #[.slice none 0 0,.slice none 0 0]
 have HG4:=(show Hid (ai (Z.alloc (.cells #[.slice none 0 0,.slice none 0 0] 66)) w.heap.size 39 #[.int .u64 (seed:Nat)]) from HF4.out.alloc (.cells #[.slice none 0 0,.slice none 0 0] 66))
 have HG5:=(show Hid (ai (Z.alloc (.cells #[.slice none 0 0,.slice none 0 0] 66)) (w.heap.size+1) 43 (ints 28 fun _=>0)) from HF5.out.alloc (.cells #[.slice none 0 0,.slice none 0 0] 66))
 have HO:=(show Hid (World.ownsRow _ 0 79 2 pv (s.size-1) (ints ((s.size-1)*2) (prF s)).toList) from vA (W':=(Z.alloc (.cells #[.slice none 0 0,.slice none 0 0] 66)).setRow Z.heap.size #[pv,.slice ta tn tc]) ho (fun b hb=>by rw[setRow_other _ _ _ _ (by omega)];exact Below.heap_alloc Z _ b hb))
 have h1c:pv.oneCell'=true:=by rcases ho.2 with ⟨rfl,_⟩ | ⟨_,_,_,rfl,_⟩ <;> rfl
 have lt4:=HF4.out.lt
 have lt5:=HF5.out.lt
 clear HF4 HF5 ho
 go_wp2_with (first | refine wpList_store_row rfl 66 _ _ rfl Z.heap.size #[pv,.slice ta tn tc] rfl rfl 66 _ hr nA rfl (Bp h1c) ?_)
 exact ⟨rfl,rfl,fun i=>([undef,undef,undef,undef,undef,_,_,undef,_,_,undef,undef,_,undef,_,_,_,_,_,_,_,_,_,_,_,_,_,_,_,_,_,_,_,_,_,_,_,_,_,_,_,_,_]:List Value).getD i undef,_,_,_,pv,rfl,HG4.out.ck _ _ (by omega),HG5.out.ck _ _ (by omega),hr.row _,HO.out⟩
end
section
open Go.RowKit PK
def ceE (l:List UInt8) (n:Nat) (f:Nat→Int) (tries ah:Int):Int:=if cwE l n f≠0 then cwE l n f else if tries<1∨16<tries∨ah<1∨16<ah then 3 else 0
theorem eP:Try.prog.built 43 []=some (ints 28 fun _=>0):=by kernel_rfl
theorem bz:(Try.prog.info? 43).map (·.size)=some 28:=by kernel_rfl
namespace Cs
theorem rS:∀{k:Nat} {c:Code},kI k c=true→UC (az k c) (m9 k c) c
 | 0,_,_=>.out
 | k+1,.seq a b,h=>.seq a (rS (k:=k) (c:=b) h)
 | _+1,.skip,h | _+1,.region _ _ _,h | _+1,.cond _ _ _,h | _+1,.block _ _,h | _+1,.loop _,h | _+1,.scope _,h | _+1,.label _,h | _+1,.exit _,h | _+1,.goto _,h | _+1,.ret,h | _+1,.rangeFunc _ _ _ _,h | _+1,.refuse _,h=>by cases h
theorem oF:∀{k:Nat} {c:Code},kI k c=true→TC (az k c) (cutAt k c) c
 | 0,_,_=>.skip
 | k+1,.seq a b,h=>.seq a (oF (k:=k) (c:=b) h)
 | _+1,.skip,h | _+1,.region _ _ _,h | _+1,.cond _ _ _,h | _+1,.block _ _,h | _+1,.loop _,h | _+1,.scope _,h | _+1,.label _,h | _+1,.exit _,h | _+1,.goto _,h | _+1,.ret,h | _+1,.rangeFunc _ _ _ _,h | _+1,.refuse _,h=>by cases h
theorem x7:kI 4 dr=true:=by kernel_rfl
theorem Ec:codeOk Try.prog (cutAt 4 dr)=true:=by kernel_rfl
theorem CG:codeOk Try.prog (m9 4 dr)=true:=by kernel_rfl
end Cs
set_option maxRecDepth 100000 in
set_option maxHeartbeats 8000000 in
theorem si (s:ByteArray) (ta:Option Addr) (tn tc seed:Nat) (tries ah:Int) (f:Nat→Int) (hE:ceE s.data.toList tn f tries ah≠0) (w:World) (hv:aY w (.slice ta tn tc) tn f) :
  (Cs.m9 4 Cs.dr).wp Try.prog (bodyPost Try.prog Try.f13 (Cs.fE fun u w'=>u=.tuple #[.agg (ints 28 fun _=>0),.int .i64 (ceE s.data.toList tn f tries ah)]∧Below w.heap.size w w')) ⟨#[.string s,.slice ta tn tc,.int .u64 (seed:Nat),.int .i64 tries,.int .i64 ah,undef,undef,undef,undef,undef,undef,undef,undef,undef,undef,undef,undef,undef,undef,undef,undef,undef,undef,undef,undef,undef,undef,undef,undef,undef,undef,undef,undef,undef,undef,undef,undef,undef,undef,undef,undef,undef,undef],[]⟩ w:=by
 have HC:Hid (∀W,Below w.heap.size w W→Calls Try.prog 28 #[.string s,.slice ta tn tc] W fun e w'=>e=.returned (.int .i64 (cwE s.data.toList tn f))∧Below W.heap.size W w'):=fun W hW=>rY s (.slice ta tn tc) tn f W (hv.below hW)
 have HEE:Hid (ceE s.data.toList tn f tries ah=if cwE s.data.toList tn f≠0 then cwE s.data.toList tn f else if tries<1∨16<tries∨ah<1∨16<ah then 3 else 0):=rfl
 generalize ceE s.data.toList tn f tries ah=CE at *
 generalize cwE s.data.toList tn f=FE at *
 clear hv
 have hx1:=ai.new w 39 #[.int .u64 (seed:Nat)]
 have hx3:=ai.new (w.alloc (.cells #[.int .u64 (seed:Nat)] 39)) 43 (ints 28 fun _=>0)
 have hbl:=((Below.refl w.heap.size w).alloc (Nat.le_refl _) (.cells #[.int .u64 (seed:Nat)] 39)).alloc (by simp) (.cells (ints 28 fun _=>0) 43)
 rw[show (w.alloc (.cells #[.int .u64 (seed:Nat)] 39)).heap.size=w.heap.size+1 by simp] at hx3
 simp only[Cs.m9,Cs.dr,Try.f13,Option.getD_some]
 go_upto_region 1 with fail
 rw[su]
 generalize (w.alloc (.cells #[.int .u64 (seed:Nat)] 39)).alloc (.cells (ints 28 fun _=>0) 43)=W1 at *
 clear hx1
 go_wp2_with fail
 refine Calls.mono (HC.out _ hbl) ?_
 rintro e Y ⟨rfl,hY⟩
 clear HC
 have HX5:=(show Hid (ai Y (w.heap.size+1) 43 (ints 28 fun _=>0)) from hx3.below hY hx3.lt)
 have HY:Hid (Below w.heap.size w Y):=hbl.trans (hY.mono hbl.size)
 clear hx3 hbl hY
 by_cases h0:FE=0
 ·subst h0
  have hor:tries<1∨16<tries∨ah<1∨16<ah:=by
   refine Classical.byContradiction fun hn=>hE ?_
   rw[HEE.out,if_neg (by simp),if_neg hn]
  have HX:Hid (CE=3):=HEE.out.trans ((if_neg (by simp)).trans (if_pos hor))
  clear HEE hE
  by_cases a1:tries<1
  ·have da1:decide (tries<1)=true:=decide_eq_true a1
   clear hor
   go_wp2_with (first | refine dn rfl 43 rfl (ints 28 fun _=>0) eP ?_ | refine wpList_store_row rfl 43 _ _ rfl (w.heap.size+1) (ints 28 fun _=>0) rfl rfl 43 _ HX5.out (by rw[af];exact bz) (by simp only[af]) (aS _ _) ?_)
   exact bodyPost_ret (v:=.tuple #[.agg (ints 28 fun _=>0),.int .i64 3]) (bw rfl _ _ (w.heap.size+1) 43 _ (0,0) _ _ rfl rfl (HX5.out.row _) Try.underlying43 rfl (by rw[af];exact bz)) rfl ⟨_,rfl,by rw[HX.out],Below.setRow HY.out _ (Nat.le_succ _) _⟩
  ·by_cases a2:16<tries
   ·have da1:decide (tries<1)=false:=decide_eq_false a1
    have da2:decide (16<tries)=true:=decide_eq_true a2
    clear hor
    go_wp2_with (first | refine dn rfl 43 rfl (ints 28 fun _=>0) eP ?_ | refine wpList_store_row rfl 43 _ _ rfl (w.heap.size+1) (ints 28 fun _=>0) rfl rfl 43 _ HX5.out (by rw[af];exact bz) (by simp only[af]) (aS _ _) ?_)
    exact bodyPost_ret (v:=.tuple #[.agg (ints 28 fun _=>0),.int .i64 3]) (bw rfl _ _ (w.heap.size+1) 43 _ (0,0) _ _ rfl rfl (HX5.out.row _) Try.underlying43 rfl (by rw[af];exact bz)) rfl ⟨_,rfl,by rw[HX.out],Below.setRow HY.out _ (Nat.le_succ _) _⟩
   ·by_cases a3:ah<1
    ·have da1:decide (tries<1)=false:=decide_eq_false a1
     have da2:decide (16<tries)=false:=decide_eq_false a2
     have da3:decide (ah<1)=true:=decide_eq_true a3
     clear hor
     go_wp2_with (first | refine dn rfl 43 rfl (ints 28 fun _=>0) eP ?_ | refine wpList_store_row rfl 43 _ _ rfl (w.heap.size+1) (ints 28 fun _=>0) rfl rfl 43 _ HX5.out (by rw[af];exact bz) (by simp only[af]) (aS _ _) ?_)
     exact bodyPost_ret (v:=.tuple #[.agg (ints 28 fun _=>0),.int .i64 3]) (bw rfl _ _ (w.heap.size+1) 43 _ (0,0) _ _ rfl rfl (HX5.out.row _) Try.underlying43 rfl (by rw[af];exact bz)) rfl ⟨_,rfl,by rw[HX.out],Below.setRow HY.out _ (Nat.le_succ _) _⟩
    ·have a4:16<ah:=by omega
     have da1:decide (tries<1)=false:=decide_eq_false a1
     have da2:decide (16<tries)=false:=decide_eq_false a2
     have da3:decide (ah<1)=false:=decide_eq_false a3
     have da4:decide (16<ah)=true:=decide_eq_true a4
     clear hor
     go_wp2_with (first | refine dn rfl 43 rfl (ints 28 fun _=>0) eP ?_ | refine wpList_store_row rfl 43 _ _ rfl (w.heap.size+1) (ints 28 fun _=>0) rfl rfl 43 _ HX5.out (by rw[af];exact bz) (by simp only[af]) (aS _ _) ?_)
     exact bodyPost_ret (v:=.tuple #[.agg (ints 28 fun _=>0),.int .i64 3]) (bw rfl _ _ (w.heap.size+1) 43 _ (0,0) _ _ rfl rfl (HX5.out.row _) Try.underlying43 rfl (by rw[af];exact bz)) rfl ⟨_,rfl,by rw[HX.out],Below.setRow HY.out _ (Nat.le_succ _) _⟩
 ·have HX:Hid (CE=FE):=HEE.out.trans (if_pos h0)
  have hb0:(FE != 0)=true:=by simpa using h0
  clear HEE hE
  go_wp2_with (first | refine dn rfl 43 rfl (ints 28 fun _=>0) eP ?_ | refine wpList_store_row rfl 43 _ _ rfl (w.heap.size+1) (ints 28 fun _=>0) rfl rfl 43 _ HX5.out (by rw[af];exact bz) (by simp only[af]) (aS _ _) ?_)
  exact bodyPost_ret (v:=.tuple #[.agg (ints 28 fun _=>0),.int .i64 FE]) (bw rfl _ _ (w.heap.size+1) 43 _ (0,0) _ _ rfl rfl (HX5.out.row _) Try.underlying43 rfl (by rw[af];exact bz)) rfl ⟨_,rfl,by rw[HX.out],Below.setRow HY.out _ (Nat.le_succ _) _⟩
end
namespace Cs
open Go.Conc
abbrev wgL:Go.Conc.Lib.WgLink:={ add:=45,done:=47,wait:=49,relMerge:=59,disable:=60,enable:=61,inBubble:=62,associate:=63,fatal:=64,uOr:=65,uAdd:=66,raceRead:=67,uLoad:=68,uStore:=69,disassociate:=70,semrelease:=71,acquire:=73,isAssociated:=74,uCas:=75,raceWrite:=76,semacquire:=77,orU64:=81,addU64:=82,loadU64:=83,storeU64:=84,casU64:=85,tWgP:=108,tUP:=110,tAssoc:=111,tWg:=91,tAU:=88,tU64:=39,tUint:=32,tU32:=89,tPU32:=115,tPAU:=130,tPU64:=132,tNoCopy:=86,tANoCopy:=82,tAlign64:=83 }
theorem eg:Go.Conc.Lib.WgLib Try.prog wgL :=
 ⟨Try.func45,Try.func47,Try.func49,Try.func59,Try.func60,Try.func61,Try.func62,Try.func63,Try.func64,Try.func65,Try.func66,Try.func67,Try.func68,Try.func69,Try.func70,Try.func71,Try.func73,Try.func74,Try.func75,Try.func76,Try.func77,Try.func81,Try.func82,Try.func83,Try.func84,Try.func85,Try.underlying108,Try.runUnderlying108,Try.sizeOf108,Try.isAgg108,Try.zeroValue108,Try.underlying110,Try.runUnderlying110,Try.sizeOf110,Try.isAgg110,Try.zeroValue110,Try.underlying111,Try.runUnderlying111,Try.sizeOf111,Try.isAgg111,Try.zeroValue111,Try.underlying91,Try.runUnderlying91,Try.sizeOf91,Try.isAgg91,Try.zeroValue91,Try.underlying88,Try.runUnderlying88,Try.sizeOf88,Try.isAgg88,Try.zeroValue88,Try.underlying39,Try.runUnderlying39,Try.sizeOf39,Try.isAgg39,Try.zeroValue39,Try.underlying32,Try.runUnderlying32,Try.sizeOf32,Try.isAgg32,Try.zeroValue32,Try.underlying89,Try.runUnderlying89,Try.sizeOf89,Try.isAgg89,Try.zeroValue89,Try.underlying115,Try.runUnderlying115,Try.sizeOf115,Try.isAgg115,Try.zeroValue115,Try.underlying130,Try.runUnderlying130,Try.sizeOf130,Try.isAgg130,Try.zeroValue130,Try.underlying132,Try.runUnderlying132,Try.sizeOf132,Try.isAgg132,Try.zeroValue132,Try.underlying0,Try.runUnderlying0,Try.sizeOf0,Try.isAgg0,Try.zeroValue0,Try.underlying3,Try.runUnderlying3,Try.sizeOf3,Try.isAgg3,Try.zeroValue3,Try.underlying4,Try.runUnderlying4,Try.sizeOf4,Try.isAgg4,Try.zeroValue4,Try.underlying9,Try.runUnderlying9,Try.sizeOf9,Try.isAgg9,Try.zeroValue9,Try.underlying20,Try.runUnderlying20,Try.sizeOf20,Try.isAgg20,Try.zeroValue20,Try.underlying21,Try.runUnderlying21,Try.sizeOf21,Try.isAgg21,Try.zeroValue21,by kernel_rfl,by kernel_rfl⟩
end Cs
namespace Cs
open Go.Conc
inductive qI (md:Region.Mode) (ops:Array Oper):Array Bool→List Nat→Prop
 | nil {l:Array Bool} (h:l.toList.count false=0):qI md ops l []
 | cons {l:Array Bool} {i:Nat} {r:List Nat} (h:i ∈ Region.ready md ops l) (hs:i<l.size) (t:qI md ops (l.setIfInBounds i true) r):qI md ops l (i :: r)
def fX (ops:Array Oper):Bool:=(List.range ops.size).all fun i=>((ops[i]?).map (·.after.all fun e=>decide (e.on<i))).getD true
theorem uz {ops:Array Oper} (h:fX ops=true) {i:Nat} {o:Oper} (ho:ops[i]? = some o):∀e ∈ o.after,e.on<i:=by
 intro e he
 unfold fX at h
 rw[List.all_eq_true] at h
 have h1:=h i (by rw[List.mem_range];exact (Array.getElem?_eq_some_iff.1 ho).1)
 rw[ho] at h1
 simp only[Option.map_some,Option.getD_some,Array.all_eq_true'] at h1
 exact of_decide_eq_true (h1 e he)
theorem kT:∀(l:List Bool),l.count false≠0→∃i:Nat,l[i]? = some false∧∀j,j<i→l[j]? = some true
 | [],h=>absurd rfl h
 | false :: l,_=>⟨0,rfl,fun j hj=>absurd hj (by omega)⟩
 | true :: l,h=>by
  obtain ⟨i,hi,hj⟩:=kT l (by simpa using h)
  refine ⟨i+1,by simpa using hi,fun j h'=>?_⟩
  cases j with
  | zero=>rfl
  | succ j=>simpa using hj j (by omega)
theorem sS {md:Region.Mode} {ops:Array Oper} (hl:fX ops=true) {l:Array Bool} (hs:l.size=ops.size) (h:l.toList.count false≠0):Region.ready md ops l≠[]:=by
 obtain ⟨i,hi,hj⟩:=kT l.toList h
 have hi':l[i]? = some false:=by rw[←hi];simp
 have hlt:i<ops.size:=by rw[←hs];exact (Array.getElem?_eq_some_iff.1 hi').1
 have:i ∈ Region.ready md ops l:=mem_ready.2 ⟨by simp[Array.getD_eq_getD_getElem?,hi'],ops[i],by simp[hlt],fun e he _=>by
  have hb:=uz hl (show ops[i]? = some ops[i] by simp[hlt]) e he
  have h1:=hj e.on hb
  have h2:l[e.on]? = some true:=by rw[←h1];simp
  simp[Array.getD_eq_getD_getElem?,h2]⟩
 intro hn
 rw[hn] at this
 simp at this
theorem tP {md:Region.Mode} {ops:Array Oper} (hl:fX ops=true):∀(fuel t:Nat) (l:Array Bool),l.size=ops.size→l.toList.count false=fuel→qI md ops l (Region.linearise.go md ops fuel t l []):=by
 intro fuel
 induction fuel with
 | zero=>intro t l _ h;exact .nil h
 | succ fuel ih =>
  intro t l hs h
  have hne:=sS (md:=md) hl hs (by omega)
  simp only[Region.linearise.go]
  change qI md ops l (match (Region.ready md ops l)[t % (Region.ready md ops l).length]? with
   | some i=>Region.linearise.go md ops fuel (t / (Region.ready md ops l).length) (l.setIfInBounds i true) [i]
   | none=>[].reverse)
  have hlen:0<(Region.ready md ops l).length:=List.length_pos_iff.2 hne
  cases hi:(Region.ready md ops l)[t % (Region.ready md ops l).length]? with
  | none =>
   have:=List.getElem?_eq_none_iff.1 hi
   have:=Nat.mod_lt t hlen
   omega
  | some i =>
   simp only[]
   rw[linearise_go_acc,List.reverse_singleton,List.singleton_append]
   have hm:=List.mem_of_getElem? hi
   obtain ⟨h1,o,ho,_⟩:=mem_ready.1 hm
   have hlt:i<l.size:=by rw[hs];exact (Array.getElem?_eq_some_iff.1 ho).1
   have hf:l.toList[i]? = some false:=by
    have:l[i]? = some l[i]:=by simp[hlt]
    rw[Array.getD_eq_getD_getElem?,this] at h1
    have h2:l[i]=false:=by simpa using h1
    rw[h2] at this
    rw[←this]
    simp
   refine .cons hm hlt (ih _ _ (by simp[hs]) ?_)
   rw[Array.toList_setIfInBounds]
   have hlt':i<l.toList.length:=by simpa using hlt
   rw[List.count_set hlt']
   have e1:l.toList[i]=false:=(List.getElem?_eq_some_iff.1 hf).2
   simp only[e1,beq_self_eq_true,↓reduceIte]
   simp
   simp at h
   omega
theorem nq {mixed:Bool} {ops:Array Oper} (hl:fX ops=true) (t:Nat):∃md,qI md ops (Array.replicate ops.size false) (Region.schedule mixed ops t):=by
 have h0:(Array.replicate ops.size false).toList.count false=ops.size:=by simp
 unfold Region.schedule Region.linearise
 split
 ·exact ⟨_,tP hl _ _ _ (by simp) h0⟩
 ·exact ⟨_,tP hl _ _ _ (by simp) h0⟩
end Cs
end Go.Proofs.Ytpdemelchhkfaaa
