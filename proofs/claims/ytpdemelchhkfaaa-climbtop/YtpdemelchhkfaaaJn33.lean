import Derived.Test.YtpdemelchhkfaaaJn32
namespace Go.Proofs.Ytpdemelchhkfaaa
section
open Go.Conc Go.RowKit PK Cs
noncomputable def Cs.pB:Code:=Try.f6.body.getD .skip
noncomputable def Cs.pO3:Array Oper:=match Cs.az 2 Cs.pB with | .seq (.region _ o _) _=>o | _=>#[]
def Cs.PtA (s:ByteArray) (v:Value) (seed:Nat) (tries ah others:Int) (T:Array Value):Prop:=T.size=157∧T[0]? = some (.string s)∧T[1]? = some v∧T[2]? = some (.int .u64 (seed:Nat))∧T[3]? = some (.int .i64 tries)∧T[4]? = some (.int .i64 ah)∧T[5]? = some (.int .i64 others)
theorem Cs.PtA.lit {s:ByteArray} {u:Value} {seed:Nat} {tries ah others:Int} {T:Array Value} (h:PtA s u seed tries ah others T):∃x:Nat→Value,T=#[Value.string s,u,Value.int IntKind.u64 (seed:Nat),Value.int IntKind.i64 tries,Value.int IntKind.i64 ah,Value.int IntKind.i64 others,x 6,x 7,x 8,x 9,x 10,x 11,x 12,x 13,x 14,x 15,x 16,x 17,x 18,x 19,x 20,x 21,x 22,x 23,x 24,x 25,x 26,x 27,x 28,x 29,x 30,x 31,x 32,x 33,x 34,x 35,x 36,x 37,x 38,x 39,x 40,x 41,x 42,x 43,x 44,x 45,x 46,x 47,x 48,x 49,x 50,x 51,x 52,x 53,x 54,x 55,x 56,x 57,x 58,x 59,x 60,x 61,x 62,x 63,x 64,x 65,x 66,x 67,x 68,x 69,x 70,x 71,x 72,x 73,x 74,x 75,x 76,x 77,x 78,x 79,x 80,x 81,x 82,x 83,x 84,x 85,x 86,x 87,x 88,x 89,x 90,x 91,x 92,x 93,x 94,x 95,x 96,x 97,x 98,x 99,x 100,x 101,x 102,x 103,x 104,x 105,x 106,x 107,x 108,x 109,x 110,x 111,x 112,x 113,x 114,x 115,x 116,x 117,x 118,x 119,x 120,x 121,x 122,x 123,x 124,x 125,x 126,x 127,x 128,x 129,x 130,x 131,x 132,x 133,x 134,x 135,x 136,x 137,x 138,x 139,x 140,x 141,x 142,x 143,x 144,x 145,x 146,x 147,x 148,x 149,x 150,x 151,x 152,x 153,x 154,x 155,x 156]:=by
 obtain ⟨h0,h1,h2,h3,h4,h5,h6⟩:=h
 have e:=bU T 157 h0
 generalize hx:(fun i=>T.getD i undef)=x at e
 have fv:∀i y,T[i]? = some y→x i=y:=fun i y hy=>by rw[←hx];simp[Array.getD_eq_getD_getElem?,hy]
 have q:T=#[x 0,x 1,x 2,x 3,x 4,x 5,x 6,x 7,x 8,x 9,x 10,x 11,x 12,x 13,x 14,x 15,x 16,x 17,x 18,x 19,x 20,x 21,x 22,x 23,x 24,x 25,x 26,x 27,x 28,x 29,x 30,x 31,x 32,x 33,x 34,x 35,x 36,x 37,x 38,x 39,x 40,x 41,x 42,x 43,x 44,x 45,x 46,x 47,x 48,x 49,x 50,x 51,x 52,x 53,x 54,x 55,x 56,x 57,x 58,x 59,x 60,x 61,x 62,x 63,x 64,x 65,x 66,x 67,x 68,x 69,x 70,x 71,x 72,x 73,x 74,x 75,x 76,x 77,x 78,x 79,x 80,x 81,x 82,x 83,x 84,x 85,x 86,x 87,x 88,x 89,x 90,x 91,x 92,x 93,x 94,x 95,x 96,x 97,x 98,x 99,x 100,x 101,x 102,x 103,x 104,x 105,x 106,x 107,x 108,x 109,x 110,x 111,x 112,x 113,x 114,x 115,x 116,x 117,x 118,x 119,x 120,x 121,x 122,x 123,x 124,x 125,x 126,x 127,x 128,x 129,x 130,x 131,x 132,x 133,x 134,x 135,x 136,x 137,x 138,x 139,x 140,x 141,x 142,x 143,x 144,x 145,x 146,x 147,x 148,x 149,x 150,x 151,x 152,x 153,x 154,x 155,x 156]:=e.trans rfl
 rw[fv 0 _ h1,fv 1 _ h2,fv 2 _ h3,fv 3 _ h4,fv 4 _ h5,fv 5 _ h6] at q
 exact ⟨x,q⟩
set_option maxRecDepth 100000 in
set_option maxHeartbeats 4000000 in
theorem uF (T:Array Value) (s:ByteArray) (v:Value) (seed:Nat) (tries ah others:Int) (hT:Cs.PtA s v seed tries ah others T) (w:World) :
  (Cs.cutAt 2 Cs.pB).wp Try.prog (Cs.gK fun T _=>Cs.PtA s v seed tries ah others T) ⟨T,[]⟩ w:=by
 have HA:=(show Hid (∀W,Calls Try.prog 15 #[] W fun e w'=>e=.returned (.bool true)∧Below W.heap.size W w') from pU)
 obtain ⟨x,rfl⟩:=hT.lit
 clear hT
 simp only[Cs.cutAt,Cs.pB,Try.f6,Option.getD_some]
 go_wp2_with fail
 refine Calls.mono (HA.out _) ?_
 rintro e W1 ⟨rfl,hb⟩
 go_wp2_with fail
 exact ⟨rfl,rfl,rfl,rfl,rfl,rfl,rfl,rfl,rfl⟩
namespace Cs
theorem BE:kJ 2 pB=true:=by kernel_rfl
theorem DZ:codeOk Try.prog (cutAt 2 pB)=true:=by kernel_rfl
theorem uS (s:ByteArray) (v:Value) (seed:Nat) (tries ah others:Int):∃T,PtA s v seed tries ah others T∧Frame.enter Try.prog 6 #[.string s,v,.int .u64 (seed:Nat),.int .i64 tries,.int .i64 ah,.int .i64 others] .normal=(base 6).at ⟨T,[]⟩ [.code pB]:=by
 refine ⟨#[.string s,v,.int .u64 (seed:Nat),.int .i64 tries,.int .i64 ah,.int .i64 others]++Array.replicate 151 undef,⟨by simp,by simp,by simp,by simp,by simp,by simp,by simp⟩,?_⟩
 simp[Frame.enter,Try.func6,Try.f6,pB,base,Frame.at]
theorem PtA.set {s:ByteArray} {u:Value} {seed:Nat} {tries ah others:Int} {T:Array Value} (h:PtA s u seed tries ah others T) {k:Nat} (hk:6≤k) (v:Value):PtA s u seed tries ah others (T.setIfInBounds k v):=by
 obtain ⟨h0,h1,h2,h3,h4,h5,h6⟩:=h
 refine ⟨by simp[h0],?_,?_,?_,?_,?_,?_⟩ <;> (rw[Array.getElem?_setIfInBounds_ne (by omega)];assumption)
theorem fR {E:Env} {s:ByteArray} {u u':Value} {seed:Nat} {tries ah others:Int} {T':Array Value} (pt:PtA s u' seed tries ah others T') (hu:VR E u u') (O:Nat→Option Value) (hO:∀i v,O i=some v→6≤i∧∃y,T'[i]? = some y∧VR E v y):∃T,LR E T T'∧PtA s u seed tries ah others T∧∀i v,O i=some v→T[i]? = some v:=by
 obtain ⟨j,hj⟩:=Du E (fun i=>T'.getD i undef)
 obtain ⟨h0,h1,h2,h3,h4,h5,h6⟩:=pt
 have key:∀i,i<157→∃v,(∀y,T'[i]? = some y→VR E v y)∧(∀z,O i=some z→v=z)∧(i=0→v=.string s)∧(i=1→v=u)∧(i=2→v=.int .u64 (seed:Nat))∧(i=3→v=.int .i64 tries)∧(i=4→v=.int .i64 ah)∧(i=5→v=.int .i64 others):=fun i hi=>by
  by_cases h:6≤i
  ·cases ho:O i with
   | none=>exact ⟨j i,fun y hy=>(by have:=hj i;rwa [show T'.getD i undef=y by simp[Array.getD_eq_getD_getElem?,hy]] at this),fun z e=>(by cases e),by omega,by omega,by omega,by omega,by omega,by omega⟩
   | some z =>
    obtain ⟨_,y,e1,e2⟩:=hO i z ho
    exact ⟨z,fun y' hy=>(by rw[e1] at hy;cases hy;exact e2),fun z' e=>(by cases e;rfl),by omega,by omega,by omega,by omega,by omega,by omega⟩
  ·have hn:∀z,O i≠some z:=fun z e=>h (hO i z e).1
   have:i=0∨i=1∨i=2∨i=3∨i=4∨i=5:=by omega
   rcases this with rfl | rfl | rfl | rfl | rfl | rfl
   ·exact ⟨_,fun y hy=>(by rw[h1] at hy;cases hy;exact .string _),fun z e=>absurd e (hn z),fun _=>rfl,by omega,by omega,by omega,by omega,by omega⟩
   ·exact ⟨_,fun y hy=>(by rw[h2] at hy;cases hy;exact hu),fun z e=>absurd e (hn z),by omega,fun _=>rfl,by omega,by omega,by omega,by omega⟩
   ·exact ⟨_,fun y hy=>(by rw[h3] at hy;cases hy;exact .int _ _),fun z e=>absurd e (hn z),by omega,by omega,fun _=>rfl,by omega,by omega,by omega⟩
   ·exact ⟨_,fun y hy=>(by rw[h4] at hy;cases hy;exact .int _ _),fun z e=>absurd e (hn z),by omega,by omega,by omega,fun _=>rfl,by omega,by omega⟩
   ·exact ⟨_,fun y hy=>(by rw[h5] at hy;cases hy;exact .int _ _),fun z e=>absurd e (hn z),by omega,by omega,by omega,by omega,fun _=>rfl,by omega⟩
   ·exact ⟨_,fun y hy=>(by rw[h6] at hy;cases hy;exact .int _ _),fun z e=>absurd e (hn z),by omega,by omega,by omega,by omega,by omega,fun _=>rfl⟩
 have hg:∃g:Nat→Value,∀i (hi:i<157),(∀y,T'[i]? = some y→VR E (g i) y)∧(∀z,O i=some z→g i=z)∧(i=0→g i=.string s)∧(i=1→g i=u)∧(i=2→g i=.int .u64 (seed:Nat))∧(i=3→g i=.int .i64 tries)∧(i=4→g i=.int .i64 ah)∧(i=5→g i=.int .i64 others):=⟨fun i=>if hi:i<157 then (key i hi).choose else undef,fun i hi=>by
  dsimp only
  rw[dif_pos hi]
  exact (key i hi).choose_spec⟩
 obtain ⟨g,hg⟩:=hg
 have hT:∀i,i<157→(Array.ofFn (n:=157) fun i=>g i)[i]? = some (g i):=fun i hi=>by
  rw[Array.getElem?_ofFn,dif_pos hi]
 refine ⟨Array.ofFn (n:=157) fun i=>g i,⟨by simp[h0],fun i a b ha hb=>?_⟩,⟨by simp,?_,?_,?_,?_,?_,?_⟩,fun i v hv=>?_⟩
 ·have hi:i<157:=by rw[←h0];exact (Array.getElem?_eq_some_iff.1 hb).1
  rw[hT i hi] at ha
  cases ha
  exact (hg i hi).1 _ hb
 ·rw[hT 0 (by omega),(hg 0 (by omega)).2.2.1 rfl]
 ·rw[hT 1 (by omega),(hg 1 (by omega)).2.2.2.1 rfl]
 ·rw[hT 2 (by omega),(hg 2 (by omega)).2.2.2.2.1 rfl]
 ·rw[hT 3 (by omega),(hg 3 (by omega)).2.2.2.2.2.1 rfl]
 ·rw[hT 4 (by omega),(hg 4 (by omega)).2.2.2.2.2.2.1 rfl]
 ·rw[hT 5 (by omega),(hg 5 (by omega)).2.2.2.2.2.2.2 rfl]
 ·obtain ⟨_,y,e1,_⟩:=hO i v hv
  have hi:i<157:=by rw[←h0];exact (Array.getElem?_eq_some_iff.1 e1).1
  rw[hT i hi,(hg i hi).2.1 v hv]
theorem PtA.back {E:Env} {s:ByteArray} {a:Option Addr} {n c:Nat} {v:Value} {seed:Nat} {tries ah others:Int} {T T':Array Value} {W:World} {f:Nat→Int} (h:PtA s (.slice a n c) seed tries ah others T) (lr:LR E T T') (hv:VR E (.slice a n c) v) (m:aU W v n f) (r:Rt W v):∃u,PtA s u seed tries ah others T'∧VR E (.slice a n c) u∧aU W u n f∧Rt W u:=by
 obtain ⟨h0,h1,h2,h3,h4,h5,h6⟩:=h
 have ge:∀i y,T[i]? = some y→∃z,T'[i]? = some z∧VR E y z:=fun i y hy=>lr.get hy
 obtain ⟨z0,a0,b0⟩:=ge _ _ h1
 obtain ⟨u,a1,b1⟩:=ge _ _ h2
 obtain ⟨z2,a2,b2⟩:=ge _ _ h3
 obtain ⟨z3,a3,b3⟩:=ge _ _ h4
 obtain ⟨z4,a4,b4⟩:=ge _ _ h5
 obtain ⟨z5,a5,b5⟩:=ge _ _ h6
 obtain rfl:z0=.string s:=by cases h:z0 <;> rw[h] at b0 <;> cases b0 <;> rfl
 obtain rfl:z2=.int .u64 (seed:Nat):=by cases h:z2 <;> rw[h] at b2 <;> cases b2 <;> rfl
 obtain rfl:z3=.int .i64 tries:=by cases h:z3 <;> rw[h] at b3 <;> cases b3 <;> rfl
 obtain rfl:z4=.int .i64 ah:=by cases h:z4 <;> rw[h] at b4 <;> cases b4 <;> rfl
 obtain rfl:z5=.int .i64 others:=by cases h:z5 <;> rw[h] at b5 <;> cases b5 <;> rfl
 obtain ⟨m1,m2⟩:=zU hv b1 m r
 exact ⟨u,⟨by rw[←lr.size];exact h0,a0,a1,a2,a3,a4,a5⟩,b1,m1,m2⟩
theorem zZ (T0:Array Value) (s:ByteArray) (v:Value) (n seed:Nat) (tries ah others:Int) (hT:PtA s v seed tries ah others T0) (f:Nat→Int) (W:World) (hv:aU W v n f) (rv:Rt W v) :
  ∃N gs' w' sl' t' q',∃(T:Array Value) (u:Value),runNT Try.prog N (crowd #[G (mkF 6 T0 [.code pB] .run) []] W none) #[]=(.next (crowd gs' w' sl'),t')∧gs'.size=1∧gs'[0]? = some (G (mkF 6 T [.code (az 2 pB)] .run) [])∧PtA s u seed tries ah others T∧aU W u n f∧Rt W u∧(∀b,b<W.heap.size→w'.heap[b]? = W.heap[b]?)∧w'.os=W.os∧w'.output=W.output∧W.heap.size≤w'.heap.size∧Qs Try.prog (fun _=>False) gs' t' q' 0 w'.heap.size:=by
 have m0:=hv
 obtain ⟨av,cv,rfl,nv,kv⟩:=hv
 obtain ⟨E1,wl1,av',c1,s1,b1,e1,r1,k1⟩:=fT (P:=Try.prog) (w:=W) (Cp.nil W).cq (fun b q s e=>by cases e) dI (f:=fun i=>.int .i64 (f i)) (fun i E=>.int _ _) kv rv
 have low:∀b q s o,E1 b=some (q,s,o)→o=false∧q<W.heap.size:=fun b q s o e=>by
  refine ⟨?_,?_⟩
  ·cases o with
   | false=>rfl
   | true=>exact absurd e (s1 b q s)
  ·rcases b1 b q s o e with e | e
   ·cases e
   ·exact e
 obtain ⟨Tl,lL,pl,_⟩:=fR (E:=E1) hT r1 (fun _=>none) (fun i v e=>by cases e)
 have hin:=dB.start (c:=[]) (Post:=fun x w'=>PtA s (.slice av' n cv) seed tries ah others x) (P:=Try.prog) (E:=E1) (wl:=wl1) (w:=W) ⟨_,Try.func6⟩ lL c1.wr c1.big DZ (pI BE) (fun τ=>kS (uF _ s _ seed tries ah others pl (wl1.tp τ)))
 obtain ⟨N,gs',w',sl',t',q',E',X,y,wl2',r,z,i,po,lr,wr,big,fc,Q⟩:=gB (Sn:=fun _=>False) (q:=fun _=>0) (d:=0) (gs:=#[G (mkF 6 T0 [.code pB] .run) []]) (t:=#[]) (sl:=none) (Nat.le_refl _) c6 (fun b x e hs=>hs) (fun b hb=>hb.elim) rfl hin (BD _ _ _ _)
 obtain ⟨u,pt,_,m1,m2⟩:=PtA.back po lr (r1.mono fc.le) m0 rv
 exact ⟨N,gs',w',sl',t',q',y,u,r,by rw[z];rfl,i,pt,m1,m2,fun b hb=>fc.keep b hb fun b' s e=>(by have:=(low _ _ _ _ e).1;cases this),fc.os,fc.output,fc.size,Q⟩
end Cs
end
namespace Cs
open Go.Conc Go.RowKit PK
set_option maxRecDepth 100000 in
set_option maxHeartbeats 4000000 in
theorem vZ (T:Array Value) (s:ByteArray) (u:Value) (seed:Nat) (tries ah others:Int) (hT:PtA s u seed tries ah others T) (Fd:Nat) (H:Array Obj) (o:Os) (out:Array (Nat × ByteArray)) (w:World) (hI:HI H o out w) :
  ∃mu:Nat,Goes Try.prog true AtRel (DG (fun _=>False) Fd) (fun g' w'=>(∃T',PtA s u seed tries ah others T'∧g'=G (mkF 13 #[.string s,u,.int .u64 (seed:Nat),.int .i64 tries,.int .i64 ah,undef,undef,undef,undef,undef,undef,undef,undef,undef,undef,undef,undef,undef,undef,undef,undef,undef,undef,undef,undef,undef,undef,undef,undef,undef,undef,undef,undef,undef,undef,undef,undef,undef,undef,undef,undef,undef,undef] [.code dw] .run) [mkF 6 T' [.inRegion pO3 (List.range' 5 7),.code (az 3 pB)] .run])∧HI H o out w') mu (G (mkF 6 T [.code (az 2 pB)] .run) []) w:=by
 obtain ⟨x,rfl⟩:=hT.lit
 clear hT
 refine ⟨60,?_⟩
 simp only[az,pB,Try.f6,Option.getD_some,pO3]
 show Goes _ _ _ _ _ _ (G ((base 6).at ⟨_,[]⟩ _) []) w
 repeat (refine aE hI rfl (fun w₁ h₁=>?_);walk_rw;refine ⟨aQ _,?_⟩;clear hI;have hI:=h₁;clear h₁)
 iterate 5
  refine aE hI rfl (fun w₁ h₁=>?_)
  refine goes_oper_k rfl rfl (by decide) (fun K hK=>?_)
  go_simp
  refine hK _ _ ⟨bY (by simp) (fun e he=>?_),?_⟩
  ·have hm:=mem_listed he
   simp[go_sem, *] at hm
  clear hK K hI
  have hI:=h₁
  clear h₁
 refine aE hI rfl (fun w₁ h₁=>?_)
 refine goes_call rfl rfl (by decide) rfl Try.func13 (by kernel_rfl) rfl ?_
 refine ⟨aQ _,?_⟩
 exact Goes.stop fun w₂ h₂=>by
  obtain ⟨d,rfl⟩:=h₂
  refine ⟨?_,h₁⟩
  have e1:∀(a:Act),a.eval (.tmp 28)=.string s→a.eval (.tmp 29)=u→a.eval (.tmp 30)=.int .u64 (seed:Nat)→a.eval (.tmp 31)=.int .i64 tries→a.eval (.tmp 32)=.int .i64 ah→(#[Operand.tmp 28,.tmp 29,.tmp 30,.tmp 31,.tmp 32].map a.eval++Array.replicate (Try.f13.ntmps-(#[Operand.tmp 28,.tmp 29,.tmp 30,.tmp 31,.tmp 32].map a.eval).size) undef)=#[.string s,u,.int .u64 (seed:Nat),.int .i64 tries,.int .i64 ah,undef,undef,undef,undef,undef,undef,undef,undef,undef,undef,undef,undef,undef,undef,undef,undef,undef,undef,undef,undef,undef,undef,undef,undef,undef,undef,undef,undef,undef,undef,undef,undef,undef,undef,undef,undef,undef,undef]:=fun a k1 k2 k3 k4 k5=>by
   simp[k1,k2,k3,k4,k5,Array.replicate,List.replicate]
  rw[e1 _ rfl rfl rfl rfl rfl]
  apply Exists.intro
  apply And.intro
  rotate_left
  ·rfl
  ·exact ⟨rfl,rfl,rfl,rfl,rfl,rfl,rfl⟩
end Cs
section
open Go.RowKit PK
theorem dm {P:Program} {ops:Array Oper} {rest:List Oper} {o:Oper} {a:Act} {w:World} {Q:Exit→Act→World→Prop} (hw:Region.wanted o (yielded ops a.tmps)=true) (ty:TypeId) (x:Operand) (ho:o.op=.load ty x)
  (g:Nat) (hx:a.eval x=.pointer (some ⟨g,0,none⟩)) (t:TypeId) (cs:Array Value) (fr:Nat × Nat) (d:TypeDesc) (hg:w.heap[g]? = some (.cells cs t fr))
  (hu:P.underlying ty=some d) (hd:(match d with | .struct _ | .array _ _=>true | _=>false)=true) (hi:(P.info? ty).map (·.size)=some cs.size)
  (h:wpList P ops Q rest (a.put o.dst (.agg cs)) w):wpList P ops Q (o :: rest) a w :=
 wpList_step fun K hK=>by rw[if_pos hw];exact wp_load_row ty x ho g hx t cs fr d hg hu hd hi (hK _ _ h)
noncomputable def Cs.nB:Array Oper:=match Cs.az 7 Cs.pB with | .seq (.seq _ (.cond _ (.seq (.region _ o _) _) _)) _=>o | _=>#[]
noncomputable def Cs.mH:Code:=match Cs.az 7 Cs.pB with | .seq (.seq _ (.cond _ (.seq _ c) _)) _=>c | _=>.skip
noncomputable def Cs.qL:Array Oper:=match Cs.az 8 Cs.pB with | .seq (.seq _ (.cond _ (.seq (.region _ o _) _) _)) _=>o | _=>#[]
noncomputable def Cs.oz:Code:=match Cs.az 8 Cs.pB with | .seq (.seq _ (.cond _ (.seq _ c) _)) _=>c | _=>.skip
set_option maxRecDepth 100000 in
set_option maxHeartbeats 4000000 in
theorem zW (T:Array Value) (s:ByteArray) (v:Value) (seed:Nat) (tries ah others:Int) (q:Nat) (F:Nat→Int) (w:World) (TB:TypeId) (fr:Nat × Nat) (hq:w.heap[q]? = some (.cells (ints 28 F) TB fr)) (hT:Cs.PtA s v seed tries ah others T) (h13:T[13]? = some (.pointer (some ⟨q,0,none⟩))) (h114:T[114]? = some (.tuple #[.agg (ints 28 F),.int .i64 0])) :
  wpOps Try.prog Cs.nB (Exit.then (Cs.mH.wp Try.prog (Exit.then (Code.skip.wp Try.prog (Cs.gK fun T _=>Cs.PtA s v seed tries ah others T∧T[13]? = some (.pointer (some ⟨q,0,none⟩)))) (Cs.gK fun T _=>Cs.PtA s v seed tries ah others T∧T[13]? = some (.pointer (some ⟨q,0,none⟩))))) (Cs.gK fun T _=>Cs.PtA s v seed tries ah others T∧T[13]? = some (.pointer (some ⟨q,0,none⟩)))) (List.range' 6 6) ⟨T,[]⟩ w:=by
 obtain ⟨j,rfl⟩:=hT.lit
 clear hT
 have e13:j 13=.pointer (some ⟨q,0,none⟩):=Option.some.inj (show some (j 13)=some _ from h13)
 rw[e13]
 clear h13 e13
 have e114:j 114=.tuple #[.agg (ints 28 F),.int .i64 0]:=Option.some.inj (show some (j 114)=some _ from h114)
 rw[e114]
 clear h114 e114
 refine jU 6 6 rfl ?_
 have he:=gP F
 have hz:=gw (P:=Try.prog) (t:=43) (z:=.agg (ints 28 fun _=>0)) (by kernel_rfl)
 simp only[Cs.nB,Cs.mH,Cs.pB,Cs.az,Try.f6,Option.getD_some,List.drop]
 have hx0:=ai.new w 43 (ints 28 fun _=>0)
 have hlt:=(Array.getElem?_eq_some_iff.1 hq).1
 have hq0:=(Below.heap_alloc w (.cells (ints 28 fun _=>0) 43) q hlt).trans hq
 go_upto_region 23 with (first | refine wpList_store_row rfl 43 _ _ rfl w.heap.size (ints 28 F) rfl rfl 43 _ hx0 (by rw[af];exact bz) (by simp only[af]) (aS _ _) ?_)
 have hx1:=hx0.row (ints 28 F)
 have hq1:=(setRow_other (w.alloc (.cells (ints 28 fun _=>0) 43)) w.heap.size q (ints 28 F) (by omega)).trans hq0
 clear hx0 hq0 hlt hq
 generalize (w.alloc (.cells (ints 28 fun _=>0) 43)).setRow w.heap.size (ints 28 F)=W1 at *
 generalize w.heap.size=q1 at *
 go_wp2_with (first | refine dm (by rfl) 43 _ rfl (q1) rfl 43 (ints 28 F) (0,0) _ hx1 Try.underlying43 rfl (by rw[af];exact bz) ?_ | refine dm (by rfl) 43 _ rfl (q) rfl TB (ints 28 F) fr _ hq1 Try.underlying43 rfl (by rw[af];exact bz) ?_)
 exact ⟨rfl,rfl,⟨rfl,rfl,rfl,rfl,rfl,rfl,rfl⟩,rfl⟩
set_option maxRecDepth 100000 in
set_option maxHeartbeats 4000000 in
theorem zO (T:Array Value) (s:ByteArray) (v:Value) (seed:Nat) (tries ah others:Int) (q:Nat) (F F2:Nat→Int) (hF:F2 26<F 26∨F2=F) (w:World) (TB:TypeId) (fr:Nat × Nat) (hq:w.heap[q]? = some (.cells (ints 28 F) TB fr)) (hT:Cs.PtA s v seed tries ah others T) (h13:T[13]? = some (.pointer (some ⟨q,0,none⟩))) (h133:T[133]? = some (.tuple #[.agg (ints 28 F2),.int .i64 0])) :
  wpOps Try.prog Cs.qL (Exit.then (Cs.oz.wp Try.prog (Exit.then ((Cs.az 9 Cs.pB).wp Try.prog (bodyPost Try.prog Try.f6 (Cs.fu fun u _=>u=.bool true))) (bodyPost Try.prog Try.f6 (Cs.fu fun u _=>u=.bool true)))) (bodyPost Try.prog Try.f6 (Cs.fu fun u _=>u=.bool true))) (List.range' 7 6) ⟨T,[]⟩ w:=by
 obtain ⟨j,rfl⟩:=hT.lit
 clear hT
 have e13:j 13=.pointer (some ⟨q,0,none⟩):=Option.some.inj (show some (j 13)=some _ from h13)
 rw[e13]
 clear h13 e13
 have e133:j 133=.tuple #[.agg (ints 28 F2),.int .i64 0]:=Option.some.inj (show some (j 133)=some _ from h133)
 rw[e133]
 clear h133 e133
 refine jU 7 6 rfl ?_
 have hz:=gw (P:=Try.prog) (t:=43) (z:=.agg (ints 28 fun _=>0)) (by kernel_rfl)
 simp only[Cs.qL,Cs.oz,Cs.pB,Cs.az,Try.f6,Option.getD_some,List.drop]
 have hx0:=ai.new w 43 (ints 28 fun _=>0)
 have hlt:=(Array.getElem?_eq_some_iff.1 hq).1
 have hq0:=(Below.heap_alloc w (.cells (ints 28 fun _=>0) 43) q hlt).trans hq
 go_upto_region 27 with (first | refine wpList_store_row rfl 43 _ _ rfl w.heap.size (ints 28 F2) rfl rfl 43 _ hx0 (by rw[af];exact bz) (by simp only[af]) (aS _ _) ?_)
 have hx1:=hx0.row (ints 28 F2)
 have hq1:=(setRow_other (w.alloc (.cells (ints 28 fun _=>0) 43)) w.heap.size q (ints 28 F2) (by omega)).trans hq0
 clear hx0 hq0 hlt hq
 generalize (w.alloc (.cells (ints 28 fun _=>0) 43)).setRow w.heap.size (ints 28 F2)=W1 at *
 generalize w.heap.size=q1 at *
 have c1:=hx1.cell (aI F2 (show 26<28 by decide))
 have c2:W1.cell? ⟨q,26,none⟩=some (.int .i64 (F 26)):=by rw[cell_of_row _ _ _ _ _ _ hq1];exact aI F (show 26<28 by decide)
 rcases hF with hlt | rfl
 ·have d1:decide (F 26<F2 26)=false:=decide_eq_false (by omega)
  have d2:decide (F2 26=F 26)=false:=decide_eq_false (by omega)
  have d3:¬F 26<F2 26:=by omega
  have d4:¬F2 26=F 26:=by omega
  clear hlt
  go_wp2_with fail
  refine ⟨rfl,.bool true,?_,_,rfl,rfl⟩
  simp[results,Array.mapM_eq_mapM_toList,List.mapM_cons]
 ·have he:=gP F2
  have d1:decide (F2 26<F2 26)=false:=decide_eq_false (by omega)
  go_wp2_with (first | refine dm (by rfl) 43 _ rfl (q1) rfl 43 (ints 28 F2) (0,0) _ hx1 Try.underlying43 rfl (by rw[af];exact bz) ?_ | refine dm (by rfl) 43 _ rfl (q) rfl TB (ints 28 F2) fr _ hq1 Try.underlying43 rfl (by rw[af];exact bz) ?_)
  refine ⟨rfl,.bool true,?_,_,rfl,rfl⟩
  simp[results,Array.mapM_eq_mapM_toList,List.mapM_cons]
end
section
open Go.RowKit PK Cs
theorem ki {P:Program} (w:World) (g:Nat) (t ty:TypeId) (cs:Array Value) (l:List Value) (d:TypeDesc) (hg:ai w g t cs) (hl:∀(j:Nat) (v:Value),l[j]? = some v→cs[j]? = some v)
  (hu:P.underlying ty=some d) (hd:(match d with | .struct _ | .array _ _=>true | _=>false)=true) (hi:(P.info? ty).map (·.size)=some l.length) :
  (loadVar ty ⟨g,0,none⟩).run P w=.ok (.agg l.toArray) w:=by
 have hc:(loadCells ⟨g,0,none⟩ l.length).run P w=.ok l.toArray w :=
  run_loadCells_list (P:=P) w ⟨g,0,none⟩ l (fun j v hv=>by rw[Addr.add_lit,Nat.zero_add];exact hg.cell (hl j v hv))
 cases hq:P.info? ty with
 | none=>simp[hq] at hi
 | some i =>
  have hs:i.size=l.length:=by simpa [hq] using hi
  have hagg:(isAgg ty).run P w=.ok true w:=by
   unfold isAgg
   rw[Sem.run_bind,run_underlying hu w]
   cases d <;> simp_all
  simp[loadVar,Sem.run_bind,hagg,sizeOf,typeInfo,hq,hs,hc]
theorem fY {P:Program} {ops:Array Oper} {rest:List Oper} {o:Oper} {a:Act} {w:World} {Q:Exit→Act→World→Prop} (hgd:o.guard=none) (ty:TypeId) (x:Operand) (ho:o.op=.load ty x) (g:Nat) (hx:a.eval x=.pointer (some ⟨g,0,none⟩)) (t:TypeId) (cs:Array Value) (l:List Value) (d:TypeDesc) (hg:ai w g t cs) (hl:∀(j:Nat) (v:Value),l[j]? = some v→cs[j]? = some v)
  (hu:P.underlying ty=some d) (hd:(match d with | .struct _ | .array _ _=>true | _=>false)=true) (hi:(P.info? ty).map (·.size)=some l.length) (h:wpList P ops Q rest (a.put o.dst (.agg l.toArray)) w):wpList P ops Q (o :: rest) a w :=
 wpList_plain hgd fun _ hK=>by
  unfold Oper.wp execOp
  simp only[ho,hx,Instr.loadAt,Instr.sureAddr,Sem.run_bind,Sem.run_pure,Result.andThen_ok,ki w g t ty cs l d hg hl hu hd hi]
  exact hK _ _ h
set_option maxRecDepth 100000 in
set_option maxHeartbeats 4000000 in
theorem Am (T:Array Value) (s:ByteArray) (v:Value) (seed t:Nat) (tries ah others:Int) (k:Nat→Nat) (z:Int) (hk:Pm.cR k) (ht:(t:Int)<tries) (w:World) (sco:(Nat→Nat)→Int) (hz:sco k=z) (htop:∀a b,b<a→a<26→sco (Jm.sw k a b)≤z) (HS:∀W,Below w.heap.size w W→∀k',Pm.cR k'→Calls Try.prog 11 #[.string s,v,.agg (ints 26 (Pm.up k'))] W fun e w'=>e=.returned (.tuple #[.int .i64 (sco k'),.int .i64 0])∧Below W.heap.size W w') (hT:Cs.PtA s v seed tries ah others T) (h33:T[33]? = some (.tuple #[.agg (ints 28 (bdF ⟨Pm.up k,z,(t:Nat)⟩)),.int .i64 0])) :
  wpOps Try.prog Cs.pO3 (Exit.then ((Cs.cutAt 4 (Cs.az 3 Cs.pB)).wp Try.prog (Cs.gK fun T W=>Cs.PtA s v seed tries ah others T∧∃q,T[13]? = some (.pointer (some ⟨q,0,none⟩))∧ai W q 43 (ints 28 (bdF ⟨Pm.up k,z,(t:Nat)⟩)))) (Cs.gK fun T W=>Cs.PtA s v seed tries ah others T∧∃q,T[13]? = some (.pointer (some ⟨q,0,none⟩))∧ai W q 43 (ints 28 (bdF ⟨Pm.up k,z,(t:Nat)⟩)))) (List.range' 6 6) ⟨T,[]⟩ w:=by
 obtain ⟨j,rfl⟩:=hT.lit
 clear hT
 have e33:j 33=.tuple #[.agg (ints 28 (bdF ⟨Pm.up k,z,(t:Nat)⟩)),.int .i64 0]:=Option.some.inj (show some (j 33)=some _ from h33)
 rw[e33]
 clear h33 e33
 refine jU 6 6 rfl ?_
 have hz0:=gw (P:=Try.prog) (t:=43) (z:=.agg (ints 28 fun _=>0)) (by kernel_rfl)
 obtain ⟨F,hF⟩:∃F,F=bdF ⟨Pm.up k,z,(t:Nat)⟩:=⟨_,rfl⟩
 have HFK:=(show Hid (∀i,i<26→F i=Pm.up k i) from fun i hi=>by rw[hF];show (if i<26 then Pm.up k i else _)=_;rw[if_pos hi])
 have hF26:F 26=z:=by rw[hF];rfl
 have hF27:F 27=(t:Nat):=by rw[hF];rfl
 rw[←hF]
 have HPart:=(show Hid (∀(i:Nat) (u:Value),(ints 26 (Pm.up k)).toList[i]? = some u→(ints 28 F)[i]? = some u) from fun i u hu=>by
  rw[Array.getElem?_toList] at hu
  have hi:i<26:=by
   have:=(Array.getElem?_eq_some_iff.1 hu).1
   rwa [af] at this
  rw[aI _ hi] at hu
  rw[aI _ (by omega),HFK.out i hi]
  exact hu)
 have HS':=(show Hid _ from HS)
 have HTOP:=(show Hid _ from htop)
 clear HS htop hF
 simp only[Cs.pO3,Cs.cutAt,Cs.pB,Cs.az,Try.f6,Option.getD_some,List.drop]
 have hx0:=ai.new w 43 (ints 28 fun _=>0)
 have hb0:=(Below.refl w.heap.size w).alloc (Nat.le_refl _) (.cells (ints 28 fun _=>0) 43)
 go_upto_region 4 with (first | refine wpList_store_row rfl 43 _ _ rfl w.heap.size (ints 28 F) rfl rfl 43 _ hx0 (by rw[af];exact bz) (by simp only[af]) (aS _ _) ?_)
 have hx1:=hx0.row (ints 28 F)
 have hb1:=Below.setRow hb0 _ (Nat.le_refl _) (ints 28 F)
 clear hx0 hb0
 generalize (w.alloc (.cells (ints 28 fun _=>0) 43)).setRow w.heap.size (ints 28 F)=W1 at *
 obtain ⟨q,hq⟩:∃q,q=w.heap.size:=⟨_,rfl⟩
 have HQ:=(show Hid (q=w.heap.size) from hq)
 rw[←hq] at hx1 ⊢
 clear hq
 go_wp2_with (first | refine fY rfl 38 _ rfl q rfl 43 (ints 28 F) (ints 26 (Pm.up k)).toList _ hx1 HPart.out Try.underlying38 rfl (by rw[Array.length_toList,af];exact aC) ?_)
 refine Calls.mono (HS'.out W1 hb1 k hk) ?_
 rintro e W2 ⟨rfl,hb2⟩
 rw[hz]
 have hx2:=hx1.below hb2 hx1.lt
 have hb3:=hb1.trans (hb2.mono hb1.size)
 have c26:=hx2.cell (aI F (show 26<28 by decide))
 have c27:=hx2.cell (aI F (show 27<28 by decide))
 rw[hF26] at c26
 rw[hF27] at c27
 have u1:decide ((t:Int)<0)=false:=decide_eq_false (by omega)
 have u2:decide (tries≤(t:Int))=false:=decide_eq_false (by omega)
 clear hx1 hb1 hb2
 go_wp2_with fail
 go_loopw [65] (fun x W=>∃i:Nat,i≤26∧x=.int .i64 (i:Nat)∧ai W q 43 (ints 28 F)∧Below w.heap.size w W) (fun x _=>((26:Int)-intOf x).toNat)
 case atStart=>exact ⟨0,by omega,rfl,hx2,hb3⟩
 case round =>
  clear hx2 hb3 c26 c27
  obtain ⟨i,hi,rfl,hx,hb⟩:=hrel
  by_cases hlt:i<26
  case neg =>
   obtain rfl:i=26:=by omega
   have HX:=(show Hid (ai wr q 43 (ints 28 F)) from hx)
   clear hx hb hlt hi
   go_wp2_with fail
   exact ⟨rfl,rfl,⟨rfl,rfl,rfl,rfl,rfl,rfl,rfl⟩,q,rfl,HX.out⟩
  have HX0:=(show Hid (ai wr q 43 (ints 28 F)) from hx)
  have HB0:=(show Hid (Below w.heap.size w wr) from hb)
  have HI:=(show Hid (i<26) from hlt)
  have hlt3:(i:Int)<26:=by omega
  clear hx hb hi
  go_wp2_with fail
  go_loopw [17] (fun x W=>∃m:Nat,m≤i∧x=.int .i64 (m:Nat)∧ai W q 43 (ints 28 F)∧Below w.heap.size w W) (fun x _=>((i:Int)-intOf x).toNat)
  case atStart=>exact ⟨0,by omega,rfl,HX0.out,HB0.out⟩
  case round =>
   clear HX0 HB0
   obtain ⟨m,hm,rfl,hx,hb⟩:=hrel
   by_cases hlt2:m<i
   case neg =>
    obtain rfl:m=i:=by omega
    have HX:=(show Hid (ai wr q 43 (ints 28 F)) from hx)
    have HBX:=(show Hid (Below w.heap.size w wr) from hb)
    clear hx hb hlt2 hm
    go_wp2_with fail
    go_roundw
    case rel=>exact ⟨m+1,by have:=HI.out;omega,by go_num,HX.out,HBX.out⟩
    case measure=>have:=HI.out;simp[intOf];omega
   have HM:=(show Hid (m<i) from hlt2)
   have hlt4:(m:Int)<(i:Int):=by omega
   have HBX:=(show Hid (Below w.heap.size w wr) from hb)
   have hn0:=ai.new wr 38 (ints 26 fun _=>0)
   clear hb hm
   go_upto_region 16 with (first | refine fY rfl 38 _ rfl q rfl 43 (ints 28 F) (ints 26 (Pm.up k)).toList _ hx HPart.out Try.underlying38 rfl (by rw[Array.length_toList,af];exact aC) ?_ | refine wpList_store_row rfl 38 _ _ rfl wr.heap.size (ints 26 (Pm.up k)) rfl rfl 38 _ hn0 (by rw[af];exact aC) (by simp only[af]) (aS _ _) ?_)
   try rw[ep]
   have hbq:Below wr.heap.size wr ((wr.alloc (.cells (ints 26 fun _=>0) 38)).setRow wr.heap.size (ints 26 (Pm.up k))):=Below.setRow ((Below.refl _ wr).alloc (Nat.le_refl _) _) _ (Nat.le_refl _) _
   have hn:=hn0.row (ints 26 (Pm.up k))
   have hx2:=hx.below hbq hx.lt
   obtain ⟨W3,hW3⟩:∃V,V=(wr.alloc (.cells (ints 26 fun _=>0) 38)).setRow wr.heap.size (ints 26 (Pm.up k)):=⟨_,rfl⟩
   rw[←hW3] at hbq hn hx2 ⊢
   obtain ⟨p,hp⟩:∃p,p=wr.heap.size:=⟨_,rfl⟩
   have HBQ:=(show Hid (Below p wr W3) from by rw[hp];exact hbq)
   have HPW:=(show Hid (p=wr.heap.size) from hp)
   have hqp:q≠p:=by have:=hx.lt;omega
   rw[←hp] at hn ⊢
   have HN:=(show Hid (ai W3 p 38 (ints 26 (Pm.up k))) from hn)
   have HX3:=(show Hid (ai W3 q 43 (ints 28 F)) from hx2)
   have hi26:=HI.out
   have hm26:m<26:=by omega
   have im:(m:Int)<26:=by omega
   have ca:=hx2.cell (aI F (show m<28 by omega))
   have cb:=hx2.cell (aI F (show i<28 by omega))
   rw[HFK.out m hm26] at ca
   rw[HFK.out i hi26] at cb
   have fa:=hn.frozen m
   have fb:=hn.frozen i
   have oa:=hn.cell (aI (Pm.up k) hm26)
   have ob:=hn.cell (aI (Pm.up k) hi26)
   have hne:i≠m:=by omega
   obtain ⟨va,hva⟩:∃v,v=Pm.up k m:=⟨_,rfl⟩
   obtain ⟨vb,hvb⟩:∃v,v=Pm.up k i:=⟨_,rfl⟩
   rw[←hva] at ca oa
   rw[←hvb] at cb ob
   have HVA:=(show Hid (va=Pm.up k m) from hva)
   have HVB:=(show Hid (vb=Pm.up k i) from hvb)
   clear hn0 hbq hn hW3 hp hx hx2 hva hvb
   refine wp_region_noPanic ?_
   go_region
   all_goals
    have hqS:ai (((W3.setCell ⟨p,i,none⟩ (.int .i64 va)).setCell ⟨p,m,none⟩ (.int .i64 vb)).drew) p 38 (ints 26 (Pm.up (Jm.sw k i m))):=by
     have:=(HN.out.set i (.int .i64 va)).set m (.int .i64 vb)
     rw[HVA.out,HVB.out] at this ⊢
     rw[show ((ints 26 (Pm.up k)).setIfInBounds i (.int .i64 (Pm.up k m))).setIfInBounds m (.int .i64 (Pm.up k i))=ints 26 (Pm.up (Jm.sw k i m)) from rT k i m hne] at this
     exact this.drew
    have hbS:Below p wr (((W3.setCell ⟨p,i,none⟩ (.int .i64 va)).setCell ⟨p,m,none⟩ (.int .i64 vb)).drew):=((HBQ.out.setCell (p:=⟨p,i,none⟩) (Nat.le_refl _) _).setCell (p:=⟨p,m,none⟩) (Nat.le_refl _) _).drew
    have hx4:ai (((W3.setCell ⟨p,i,none⟩ (.int .i64 va)).setCell ⟨p,m,none⟩ (.int .i64 vb)).drew) q 43 (ints 28 F):=(heap_setCell_other _ ⟨p,m,none⟩ q _ hqp).trans ((heap_setCell_other _ ⟨p,i,none⟩ q _ hqp).trans HX3.out)
    have hb4:Below w.heap.size w (((W3.setCell ⟨p,i,none⟩ (.int .i64 va)).setCell ⟨p,m,none⟩ (.int .i64 vb)).drew):=HBX.out.trans ((by rw[←HPW.out];exact hbS:Below wr.heap.size wr _).mono HBX.out.size)
    obtain ⟨W4,hW4⟩:∃V,V=((W3.setCell ⟨p,i,none⟩ (.int .i64 va)).setCell ⟨p,m,none⟩ (.int .i64 vb)).drew:=⟨_,rfl⟩
    rw[←hW4] at hqS hx4 hb4 ⊢
    clear hW4 hbS ca cb fa fb oa ob HN HBQ HX3 HVA HVB
    refine NoPanic.normal ?_
    go_wp2_with (first | refine wpList_load_row rfl 38 _ rfl p rfl 38 (ints 26 (Pm.up (Jm.sw k i m))) (0,0) _ hqS Try.underlying38 rfl (by rw[af];exact aC) ?_)
    refine (HS'.out W4 hb4 (Jm.sw k i m) (Jm.oE hk hi26 hm26)).mono ?_
    rintro e W5 ⟨rfl,hb5⟩
    have HX5:=(show Hid (ai W5 q 43 (ints 28 F)) from hx4.below hb5 hx4.lt)
    have HB5:=(show Hid (Below w.heap.size w W5) from hb4.trans (hb5.mono hb4.size))
    have hle:decide (z<sco (Jm.sw k i m))=false:=decide_eq_false (by have:=HTOP.out i m HM.out hi26;omega)
    clear hb5 hb4 hx4 hqS
    go_wp2_with fail
    go_roundw
    case rel=>exact ⟨m+1,HM.out,by go_num,HX5.out,HB5.out⟩
    case measure=>have:=HM.out;simp[intOf];omega
end
end Go.Proofs.Ytpdemelchhkfaaa
