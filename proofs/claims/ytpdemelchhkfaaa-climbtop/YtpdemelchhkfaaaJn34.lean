import Derived.Test.YtpdemelchhkfaaaJn33
namespace Go.Proofs.Ytpdemelchhkfaaa
namespace Cs
open Go.Conc Go.RowKit PK
theorem yY (k:Nat→Nat) (a b:Nat):Jm.sw k a b=Jm.sw k b a:=by
 funext i
 unfold Jm.sw
 by_cases h1:i=a <;> by_cases h2:i=b
 ·subst h1;subst h2;rfl
 ·rw[if_pos h1,if_neg h2,if_pos h1]
 ·rw[if_neg h1,if_pos h2,if_pos h2]
 ·rw[if_neg h1,if_neg h2,if_neg h2,if_neg h1]
theorem BG:[Item.inRegion pO3 (List.range' 6 6),.code (cutAt 4 (az 3 pB))].all (aK Try.prog)=true:=by kernel_rfl
theorem wS:kI 4 (az 3 pB)=true:=by kernel_rfl
theorem Ba:az 4 (az 3 pB)=az 7 pB:=by kernel_rfl
theorem lK {E:Env} {T':Array Value} {k:Nat} {a a':Value} (hk:6≤k) (h:T'[k]? = some a') (v:VR E a a'):∀i z,(if i=k then some a else none)=some z→6≤i∧∃y,T'[i]? = some y∧VR E z y:=fun i z e=>by
 by_cases hi:i=k
 ·rw[if_pos hi] at e
  cases e
  subst hi
  exact ⟨hk,_,h,v⟩
 ·rw[if_neg hi] at e
  cases e
theorem nQ {E:Env} {T':Array Value} {k l:Nat} {a a' b b':Value} (hk:6≤k) (h:T'[k]? = some a') (v:VR E a a') (hl:6≤l) (h2:T'[l]? = some b') (v2:VR E b b'):∀i z,(if i=k then some a else if i=l then some b else none)=some z→6≤i∧∃y,T'[i]? = some y∧VR E z y:=fun i z e=>by
 by_cases hi:i=k
 ·rw[if_pos hi] at e
  cases e
  subst hi
  exact ⟨hk,_,h,v⟩
 ·rw[if_neg hi] at e
  exact lK hl h2 v2 i z e
theorem tN {E:Env} {F:Nat→Int} {e:Int}:VR E (.tuple #[.agg (ints 28 F),.int .i64 e]) (.tuple #[.agg (ints 28 F),.int .i64 e]):=.mkTuple (ak (.mP xh) (ak (.int _ _) pH))
set_option maxHeartbeats 4000000 in
theorem Cm (T:Array Value) (s:ByteArray) (u:Value) (n seed:Nat) (tries ah others:Int) (hT:PtA s u seed tries ah others T) (f:Nat→Int) (h33:T[33]? = some (.tuple #[.agg (ints 28 (bdF (bdE s f seed tries.toNat))),.int .i64 0])) (hE:ceE s.data.toList n f tries ah=0) (W0 W:World) (m:aY W0 u n f) (rt:Rt W0 u) (hag:∀b,b<W0.heap.size→W.heap[b]? = W0.heap[b]?) {Sn:Nat→Prop} (hS:∀b,Sn b→W0.heap.size≤b∧b<W.heap.size) {gs:Array Goroutine} {t:Trace} {qq:Nat→Nat} (i0:gs[0]? = some (G (mkF 6 T [.inRegion pO3 (List.range' 6 6),.code (az 3 pB)] .run) [])) (hq:Qs Try.prog Sn gs t qq 0 W.heap.size) (sl:Option (Nat × Nat)) :
  ∃N gs' w' sl' t' q',∃(T:Array Value) (u':Value) (q:Nat),runNT Try.prog N (crowd gs W sl) t=(.next (crowd gs' w' sl'),t')∧gs'.size=gs.size∧gs'[0]? = some (G (mkF 6 T [.code (az 7 pB)] .run) [])∧PtA s u' seed tries ah others T∧T[13]? = some (.pointer (some ⟨q,0,none⟩))∧w'.heap[q]? = some (.cells (ints 28 (bdF (bdE s f seed tries.toNat))) 43 (0,0))∧W.heap.size≤q∧aY W0 u' n f∧Rt W0 u'∧(∀b,b<W.heap.size→w'.heap[b]? = W.heap[b]?)∧w'.os=W.os∧w'.output=W.output∧W.heap.size≤w'.heap.size∧Qs Try.prog Sn gs' t' q' 0 w'.heap.size:=by
 obtain ⟨hcw,ht,hh⟩:=gJ hE
 obtain ⟨hc0,hl,hn676,hf⟩:=eY hcw
 have hs:=(mz hc0).1
 have hl2:s.size≤256:=by have:=Pl.c6 s;omega
 obtain ⟨mt,hmt⟩:∃mt:Nat,tries.toNat=mt+1:=⟨tries.toNat-1,by omega⟩
 obtain ⟨tt,htt,hb⟩:=wQ hs hl2 hf seed mt
 have m0:=m
 obtain ⟨av,cv,rfl,nv,kv⟩:=m
 obtain ⟨E1,wl1,av',c1,s1,b1,e1,r1,k1⟩:=fR (P:=Try.prog) (w:=W0) (Cp.nil W0).cq (fun b q s e=>by cases e) dG (f:=fun i=>.int .i64 (f i)) (fun i E=>.int _ _) kv rt
 have low:∀b q s o,E1 b=some (q,s,o)→o=false∧q<W0.heap.size:=fun b q s o e=>by
  refine ⟨?_,?_⟩
  ·cases o with
   | false=>rfl
   | true=>exact absurd e (s1 b q s)
  ·rcases b1 b q s o e with e | e
   ·cases e
   ·exact e
 have hwr:WR Try.prog E1 wl1 W:=iH c1.wr fun b x e=>by
  obtain ⟨q,s,o⟩:=x
  exact hag q (low b q s o e).2
 obtain ⟨Tl,lL,pl,ol⟩:=fQ (E:=E1) hT r1 _ (lK (by decide) h33 tN)
 have hin:=dA.mid (c:=[]) (ct:=az 4 (az 3 pB)) (Post:=fun T W=>PtA s (.slice av' n cv) seed tries ah others T∧∃q,T[13]? = some (.pointer (some ⟨q,0,none⟩))∧ai W q 43 (ints 28 (bdF (bdE s f seed tries.toNat)))) (P:=Try.prog) (fB:=6) (todo:=[.inRegion pO3 (List.range' 6 6),.code (cutAt 4 (az 3 pB))]) (todo':=[.inRegion pO3 (List.range' 6 6),.code (az 3 pB)]) ⟨_,Try.func6⟩ lL hwr c1.big BG (.cons _ (.cut (oF wS))) (fun τ=>m8 (by
  have hv:aY (wl1.tp τ) (.slice av' n cv) n f:=⟨_,_,rfl,nv,k1⟩
  have h:=zb Tl s (.slice av' n cv) seed tt tries ah others (kE s f seed tt) (kZ s f seed tt) (zm hs hl2 hf seed tt) (by omega) (wl1.tp τ) (sc s f) rfl (fun a b h1 h2=>by rw[yY];exact Co hs hl2 hf seed tt h1 h2) (fun W' hW' k' hk'=>by
   obtain ⟨g1,g2⟩:=Bq hs hcw hk'
   have:=ri s (.slice av' n cv) n f (Pm.up k') W' (hv.below hW')
   rw[g1,g2] at this
   exact this) pl (by rw[ol 33 _ (if_pos rfl),hmt,hb];rfl)
  rw[hmt,hb]
  exact h))
 obtain ⟨N,gs',w',sl',t',q',E',X,y,wl2',r,z,i,po,lr,wr,big,fc,Q⟩:=gz (sl:=sl) (Nat.le_refl _) cV (fun b x e hs=>by
  obtain ⟨q,s,o⟩:=x
  have:=(low b q s o e).2
  have:=(hS _ hs).1
  omega) (fun b hb=>(hS b hb).2) i0 hin hq
 obtain ⟨pt,qv,h13,hrow⟩:=po
 obtain ⟨u',pt',_,n1,n2⟩:=PtA.back pt lr (r1.mono fc.le) m0 rt
 obtain ⟨z13,g13,v13⟩:=lr.get h13
 obtain ⟨b13,y13,rfl,o13,c13,l13⟩:=jA wr hrow (by kernel_rfl) v13
 have e13:=tY l13
 subst e13
 refine ⟨N,gs',w',sl',t',q',y,u',b13,r,z,by rw[←Ba];exact i,pt',g13,c13,?_,n1,n2,fun b hb=>fc.keep b hb fun b' s e=>(by have:=(low _ _ _ _ e).1;cases this),fc.os,fc.output,fc.size,Q⟩
 rcases fc.fresh qv b13 0 true o13 with e | e
 ·have:=(low _ _ _ _ e).1
  cases this
 ·exact e.1
end Cs
namespace Cs
open Go.Conc Go.RowKit PK
set_option maxRecDepth 100000 in
set_option maxHeartbeats 4000000 in
theorem Ae (T:Array Value) (s:ByteArray) (u:Value) (seed:Nat) (tries ah others:Int) (hT:PtA s u seed tries ah others T) (q:Nat) (h13:T[13]? = some (.pointer (some ⟨q,0,none⟩))) (Sn:Nat→Prop) (Fd:Nat) (H:Array Obj) (o:Os) (out:Array (Nat × ByteArray)) (w:World) (hI:HI H o out w) (h1:1≤others) (h2:others≤16) :
  ∃mu:Nat,Goes Try.prog true AtRel (DG Sn Fd) (fun g' w'=>(∃T',PtA s u seed tries ah others T'∧T'[13]? = some (.pointer (some ⟨q,0,none⟩))∧g'=G (mkF 13 #[.string s,u,.int .u64 (seed:Nat),.int .i64 tries,.int .i64 others,undef,undef,undef,undef,undef,undef,undef,undef,undef,undef,undef,undef,undef,undef,undef,undef,undef,undef,undef,undef,undef,undef,undef,undef,undef,undef,undef,undef,undef,undef,undef,undef,undef,undef,undef,undef,undef,undef] [.code dr] .run) [mkF 6 T' [.inRegion m6 (List.range' 5 7),.code l5,.code (az 8 pB)] .run])∧HI H o out w') mu (G (mkF 6 T [.code (az 7 pB)] .run) []) w:=by
 obtain ⟨x,rfl⟩:=hT.lit
 clear hT
 have e13:x 13=.pointer (some ⟨q,0,none⟩):=Option.some.inj (show some (x 13)=some _ from h13)
 clear h13
 rw[e13]
 clear e13
 have q1:decide (1≤others)=true:=decide_eq_true h1
 have q2:decide (others≤16)=true:=decide_eq_true h2
 clear h1 h2
 refine ⟨80,?_⟩
 simp only[az,pB,Try.f6,Option.getD_some,m6,l5]
 show Goes _ _ _ _ _ _ (G ((base 6).at ⟨_,[]⟩ _) []) w
 repeat (refine aE hI rfl (fun w₁ h₁=>?_);walk_rw;refine ⟨aQ _,?_⟩;clear hI;have hI:=h₁;clear h₁)
 iterate 6
  refine aE hI rfl (fun w₁ h₁=>?_)
  refine goes_oper_k rfl rfl (by decide) (fun K hK=>?_)
  go_simp
  refine hK _ _ ⟨bW (by simp) (fun e he=>?_),?_⟩
  ·have hm:=mem_listed he
   simp[go_sem, *] at hm
  clear hK K hI
  have hI:=h₁
  clear h₁
 repeat (refine aE hI rfl (fun w₁ h₁=>?_);walk_rw;refine ⟨aQ _,?_⟩;clear hI;have hI:=h₁;clear h₁)
 refine aE hI rfl (fun w₁ h₁=>?_)
 rw[stepG_cond (t:=true) rfl]
 simp only[goes_go,↓reduceIte]
 refine ⟨aQ _,?_⟩
 clear hI
 have hI:=h₁
 clear h₁
 repeat (refine aE hI rfl (fun w₁ h₁=>?_);walk_rw;refine ⟨aQ _,?_⟩;clear hI;have hI:=h₁;clear h₁)
 iterate 5
  refine aE hI rfl (fun w₁ h₁=>?_)
  refine goes_oper_k rfl rfl (by decide) (fun K hK=>?_)
  go_simp
  refine hK _ _ ⟨bW (by simp) (fun e he=>?_),?_⟩
  ·have hm:=mem_listed he
   simp[go_sem, *] at hm
  clear hK K hI
  have hI:=h₁
  clear h₁
 refine aE hI rfl (fun w₁ h₁=>?_)
 refine goes_call rfl rfl (by decide) rfl Try.func13 (by kernel_rfl) rfl ?_
 refine ⟨aQ _,?_⟩
 exact Goes.stop fun w₂ h₂=>by
  obtain ⟨d,rfl⟩:=h₂
  refine ⟨?_,h₁⟩
  have e1:∀(a:Act),a.eval (.tmp 109)=.string s→a.eval (.tmp 110)=u→a.eval (.tmp 111)=.int .u64 (seed:Nat)→a.eval (.tmp 112)=.int .i64 tries→a.eval (.tmp 113)=.int .i64 others→(#[Operand.tmp 109,.tmp 110,.tmp 111,.tmp 112,.tmp 113].map a.eval++Array.replicate (Try.f13.ntmps-(#[Operand.tmp 109,.tmp 110,.tmp 111,.tmp 112,.tmp 113].map a.eval).size) undef)=#[.string s,u,.int .u64 (seed:Nat),.int .i64 tries,.int .i64 others,undef,undef,undef,undef,undef,undef,undef,undef,undef,undef,undef,undef,undef,undef,undef,undef,undef,undef,undef,undef,undef,undef,undef,undef,undef,undef,undef,undef,undef,undef,undef,undef,undef,undef,undef,undef,undef,undef]:=fun a k1 k2 k3 k4 k5=>by
   simp[k1,k2,k3,k4,k5,Array.replicate,List.replicate]
  rw[e1 _ rfl rfl rfl rfl rfl]
  apply Exists.intro
  apply And.intro
  rotate_left
  ·apply And.intro
   rotate_left
   ·rfl
   ·rfl
  ·exact ⟨rfl,rfl,rfl,rfl,rfl,rfl,rfl⟩
set_option maxRecDepth 100000 in
set_option maxHeartbeats 4000000 in
theorem xG (T:Array Value) (s:ByteArray) (u:Value) (seed:Nat) (tries ah others:Int) (hT:PtA s u seed tries ah others T) (q:Nat) (h13:T[13]? = some (.pointer (some ⟨q,0,none⟩))) (Sn:Nat→Prop) (Fd:Nat) (H:Array Obj) (o:Os) (out:Array (Nat × ByteArray)) (w:World) (hI:HI H o out w) (h1:others<1) :
  ∃mu:Nat,Goes Try.prog true AtRel (DG Sn Fd) (fun g' w'=>(∃T',PtA s u seed tries ah others T'∧T'[13]? = some (.pointer (some ⟨q,0,none⟩))∧g'=G (mkF 6 T' [.code (az 8 pB)] .run) [])∧HI H o out w') mu (G (mkF 6 T [.code (az 7 pB)] .run) []) w:=by
 obtain ⟨x,rfl⟩:=hT.lit
 clear hT
 have e13:x 13=.pointer (some ⟨q,0,none⟩):=Option.some.inj (show some (x 13)=some _ from h13)
 clear h13
 rw[e13]
 clear e13
 have q1:decide (1≤others)=false:=decide_eq_false (by omega)
 clear h1
 refine ⟨80,?_⟩
 simp only[az,pB,Try.f6,Option.getD_some]
 show Goes _ _ _ _ _ _ (G ((base 6).at ⟨_,[]⟩ _) []) w
 repeat (refine aE hI rfl (fun w₁ h₁=>?_);walk_rw;refine ⟨aQ _,?_⟩;clear hI;have hI:=h₁;clear h₁)
 iterate 3
  refine aE hI rfl (fun w₁ h₁=>?_)
  refine goes_oper_k rfl rfl (by decide) (fun K hK=>?_)
  go_simp
  refine hK _ _ ⟨bW (by simp) (fun e he=>?_),?_⟩
  ·have hm:=mem_listed he
   simp[go_sem, *] at hm
  clear hK K hI
  have hI:=h₁
  clear h₁
 iterate 2
  refine aE hI rfl (fun w₁ h₁=>?_)
  rw[stepG_unwanted rfl rfl,goes_go]
  refine ⟨aQ _,?_⟩
  walk_nrm
  clear hI
  have hI:=h₁
  clear h₁
 iterate 1
  refine aE hI rfl (fun w₁ h₁=>?_)
  refine goes_oper_k rfl rfl (by decide) (fun K hK=>?_)
  go_simp
  refine hK _ _ ⟨bW (by simp) (fun e he=>?_),?_⟩
  ·have hm:=mem_listed he
   simp[go_sem, *] at hm
  clear hK K hI
  have hI:=h₁
  clear h₁
 iterate 1 (refine aE hI rfl (fun w₁ h₁=>?_);walk_rw;refine ⟨aQ _,?_⟩;clear hI;have hI:=h₁;clear h₁)
 refine aE hI rfl (fun w₁ h₁=>?_)
 rw[stepG_cond (t:=false) rfl]
 simp only[goes_go,Bool.false_eq_true,↓reduceIte]
 refine ⟨aQ _,?_⟩
 clear hI
 have hI:=h₁
 clear h₁
 refine aE hI rfl (fun w₁ h₁=>?_)
 rw[stepG_skip,goes_go]
 refine ⟨aQ _,?_⟩
 clear hI
 have hI:=h₁
 clear h₁
 refine Goes.stop fun w₂ h₂=>?_
 obtain ⟨d,rfl⟩:=h₂
 exact ⟨⟨_,⟨rfl,rfl,rfl,rfl,rfl,rfl,rfl⟩,rfl,rfl⟩,hI⟩
set_option maxRecDepth 100000 in
set_option maxHeartbeats 4000000 in
theorem ym (T:Array Value) (s:ByteArray) (u:Value) (seed:Nat) (tries ah others:Int) (hT:PtA s u seed tries ah others T) (q:Nat) (h13:T[13]? = some (.pointer (some ⟨q,0,none⟩))) (Sn:Nat→Prop) (Fd:Nat) (H:Array Obj) (o:Os) (out:Array (Nat × ByteArray)) (w:World) (hI:HI H o out w) (h1:16<others) :
  ∃mu:Nat,Goes Try.prog true AtRel (DG Sn Fd) (fun g' w'=>(∃T',PtA s u seed tries ah others T'∧T'[13]? = some (.pointer (some ⟨q,0,none⟩))∧g'=G (mkF 6 T' [.code (az 8 pB)] .run) [])∧HI H o out w') mu (G (mkF 6 T [.code (az 7 pB)] .run) []) w:=by
 obtain ⟨x,rfl⟩:=hT.lit
 clear hT
 have e13:x 13=.pointer (some ⟨q,0,none⟩):=Option.some.inj (show some (x 13)=some _ from h13)
 clear h13
 rw[e13]
 clear e13
 have q1:decide (1≤others)=true:=decide_eq_true (by omega)
 have q2:decide (others≤16)=false:=decide_eq_false (by omega)
 clear h1
 refine ⟨80,?_⟩
 simp only[az,pB,Try.f6,Option.getD_some]
 show Goes _ _ _ _ _ _ (G ((base 6).at ⟨_,[]⟩ _) []) w
 repeat (refine aE hI rfl (fun w₁ h₁=>?_);walk_rw;refine ⟨aQ _,?_⟩;clear hI;have hI:=h₁;clear h₁)
 iterate 6
  refine aE hI rfl (fun w₁ h₁=>?_)
  refine goes_oper_k rfl rfl (by decide) (fun K hK=>?_)
  go_simp
  refine hK _ _ ⟨bW (by simp) (fun e he=>?_),?_⟩
  ·have hm:=mem_listed he
   simp[go_sem, *] at hm
  clear hK K hI
  have hI:=h₁
  clear h₁
 iterate 1 (refine aE hI rfl (fun w₁ h₁=>?_);walk_rw;refine ⟨aQ _,?_⟩;clear hI;have hI:=h₁;clear h₁)
 refine aE hI rfl (fun w₁ h₁=>?_)
 rw[stepG_cond (t:=false) rfl]
 simp only[goes_go,Bool.false_eq_true,↓reduceIte]
 refine ⟨aQ _,?_⟩
 clear hI
 have hI:=h₁
 clear h₁
 refine aE hI rfl (fun w₁ h₁=>?_)
 rw[stepG_skip,goes_go]
 refine ⟨aQ _,?_⟩
 clear hI
 have hI:=h₁
 clear h₁
 refine Goes.stop fun w₂ h₂=>?_
 obtain ⟨d,rfl⟩:=h₂
 exact ⟨⟨_,⟨rfl,rfl,rfl,rfl,rfl,rfl,rfl⟩,rfl,rfl⟩,hI⟩
end Cs
namespace Cs
open Go.Conc Go.RowKit PK
set_option maxRecDepth 100000 in
set_option maxHeartbeats 4000000 in
theorem y5 (T:Array Value) (s:ByteArray) (u:Value) (seed:Nat) (tries ah others:Int) (hT:PtA s u seed tries ah others T) (q:Nat) (h13:T[13]? = some (.pointer (some ⟨q,0,none⟩))) (Sn:Nat→Prop) (Fd:Nat) (H:Array Obj) (o:Os) (out:Array (Nat × ByteArray)) (w:World) (hI:HI H o out w) (h1:1<tries) (h2:tries≤16) :
  ∃mu:Nat,Goes Try.prog true AtRel (DG Sn Fd) (fun g' w'=>(∃T',PtA s u seed tries ah others T'∧T'[13]? = some (.pointer (some ⟨q,0,none⟩))∧g'=G (mkF 13 #[.string s,u,.int .u64 (seed:Nat),.int .i64 (tries-1),.int .i64 ah,undef,undef,undef,undef,undef,undef,undef,undef,undef,undef,undef,undef,undef,undef,undef,undef,undef,undef,undef,undef,undef,undef,undef,undef,undef,undef,undef,undef,undef,undef,undef,undef,undef,undef,undef,undef,undef,undef] [.code dr] .run) [mkF 6 T' [.inRegion qh (List.range' 6 7),.code oI,.code (az 9 pB)] .run])∧HI H o out w') mu (G (mkF 6 T [.code (az 8 pB)] .run) []) w:=by
 obtain ⟨x,rfl⟩:=hT.lit
 clear hT
 have e13:x 13=.pointer (some ⟨q,0,none⟩):=Option.some.inj (show some (x 13)=some _ from h13)
 clear h13
 rw[e13]
 clear e13
 have q1:decide (1<tries)=true:=decide_eq_true h1
 have qw:IntKind.i64.wrap (tries-1)=tries-1:=by rw[IntKind.wrap_i64];omega
 clear h1 h2
 refine ⟨80,?_⟩
 simp only[az,pB,Try.f6,Option.getD_some,qh,oI]
 show Goes _ _ _ _ _ _ (G ((base 6).at ⟨_,[]⟩ _) []) w
 repeat (refine aE hI rfl (fun w₁ h₁=>?_);walk_rw;refine ⟨aQ _,?_⟩;clear hI;have hI:=h₁;clear h₁)
 iterate 2
  refine aE hI rfl (fun w₁ h₁=>?_)
  refine goes_oper_k rfl rfl (by decide) (fun K hK=>?_)
  go_simp
  refine hK _ _ ⟨bW (by simp) (fun e he=>?_),?_⟩
  ·have hm:=mem_listed he
   simp[go_sem, *] at hm
  clear hK K hI
  have hI:=h₁
  clear h₁
 repeat (refine aE hI rfl (fun w₁ h₁=>?_);walk_rw;refine ⟨aQ _,?_⟩;clear hI;have hI:=h₁;clear h₁)
 refine aE hI rfl (fun w₁ h₁=>?_)
 rw[stepG_cond (t:=true) rfl]
 simp only[goes_go,↓reduceIte]
 refine ⟨aQ _,?_⟩
 clear hI
 have hI:=h₁
 clear h₁
 repeat (refine aE hI rfl (fun w₁ h₁=>?_);walk_rw;refine ⟨aQ _,?_⟩;clear hI;have hI:=h₁;clear h₁)
 iterate 6
  refine aE hI rfl (fun w₁ h₁=>?_)
  refine goes_oper_k rfl rfl (by decide) (fun K hK=>?_)
  go_simp
  refine hK _ _ ⟨bW (by simp) (fun e he=>?_),?_⟩
  ·have hm:=mem_listed he
   simp[go_sem, *] at hm
  clear hK K hI
  have hI:=h₁
  clear h₁
 refine aE hI rfl (fun w₁ h₁=>?_)
 refine goes_call rfl rfl (by decide) rfl Try.func13 (by kernel_rfl) rfl ?_
 refine ⟨aQ _,?_⟩
 exact Goes.stop fun w₂ h₂=>by
  obtain ⟨d,rfl⟩:=h₂
  refine ⟨?_,h₁⟩
  have e1:∀(a:Act),a.eval (.tmp 127)=.string s→a.eval (.tmp 128)=u→a.eval (.tmp 129)=.int .u64 (seed:Nat)→a.eval (.tmp 131)=.int .i64 (tries-1)→a.eval (.tmp 132)=.int .i64 ah→(#[Operand.tmp 127,.tmp 128,.tmp 129,.tmp 131,.tmp 132].map a.eval++Array.replicate (Try.f13.ntmps-(#[Operand.tmp 127,.tmp 128,.tmp 129,.tmp 131,.tmp 132].map a.eval).size) undef)=#[.string s,u,.int .u64 (seed:Nat),.int .i64 (tries-1),.int .i64 ah,undef,undef,undef,undef,undef,undef,undef,undef,undef,undef,undef,undef,undef,undef,undef,undef,undef,undef,undef,undef,undef,undef,undef,undef,undef,undef,undef,undef,undef,undef,undef,undef,undef,undef,undef,undef,undef,undef]:=fun a k1 k2 k3 k4 k5=>by
   simp[k1,k2,k3,k4,k5,Array.replicate,List.replicate]
  rw[e1 _ rfl rfl rfl rfl rfl]
  apply Exists.intro
  apply And.intro
  rotate_left
  ·apply And.intro
   rotate_left
   ·rfl
   ·rfl
  ·exact ⟨rfl,rfl,rfl,rfl,rfl,rfl,rfl⟩
set_option maxRecDepth 100000 in
set_option maxHeartbeats 4000000 in
theorem za (T:Array Value) (s:ByteArray) (u:Value) (seed:Nat) (tries ah others:Int) (hT:PtA s u seed tries ah others T) (q:Nat) (h13:T[13]? = some (.pointer (some ⟨q,0,none⟩))) (Sn:Nat→Prop) (Fd:Nat) (H:Array Obj) (o:Os) (out:Array (Nat × ByteArray)) (w:World) (hI:HI H o out w) (h1:¬1<tries) :
  ∃mu:Nat,Goes Try.prog true AtRel (DG Sn Fd) (fun g' w'=>(∃T',PtA s u seed tries ah others T'∧T'[13]? = some (.pointer (some ⟨q,0,none⟩))∧g'=G (mkF 6 T' [.code (az 9 pB)] .run) [])∧HI H o out w') mu (G (mkF 6 T [.code (az 8 pB)] .run) []) w:=by
 obtain ⟨x,rfl⟩:=hT.lit
 clear hT
 have e13:x 13=.pointer (some ⟨q,0,none⟩):=Option.some.inj (show some (x 13)=some _ from h13)
 clear h13
 rw[e13]
 clear e13
 have q1:decide (1<tries)=false:=decide_eq_false h1
 clear h1
 refine ⟨80,?_⟩
 simp only[az,pB,Try.f6,Option.getD_some]
 show Goes _ _ _ _ _ _ (G ((base 6).at ⟨_,[]⟩ _) []) w
 repeat (refine aE hI rfl (fun w₁ h₁=>?_);walk_rw;refine ⟨aQ _,?_⟩;clear hI;have hI:=h₁;clear h₁)
 iterate 2
  refine aE hI rfl (fun w₁ h₁=>?_)
  refine goes_oper_k rfl rfl (by decide) (fun K hK=>?_)
  go_simp
  refine hK _ _ ⟨bW (by simp) (fun e he=>?_),?_⟩
  ·have hm:=mem_listed he
   simp[go_sem, *] at hm
  clear hK K hI
  have hI:=h₁
  clear h₁
 iterate 1 (refine aE hI rfl (fun w₁ h₁=>?_);walk_rw;refine ⟨aQ _,?_⟩;clear hI;have hI:=h₁;clear h₁)
 refine aE hI rfl (fun w₁ h₁=>?_)
 rw[stepG_cond (t:=false) rfl]
 simp only[goes_go,Bool.false_eq_true,↓reduceIte]
 refine ⟨aQ _,?_⟩
 clear hI
 have hI:=h₁
 clear h₁
 refine aE hI rfl (fun w₁ h₁=>?_)
 rw[stepG_skip,goes_go]
 refine ⟨aQ _,?_⟩
 clear hI
 have hI:=h₁
 clear h₁
 refine Goes.stop fun w₂ h₂=>?_
 obtain ⟨d,rfl⟩:=h₂
 exact ⟨⟨_,⟨rfl,rfl,rfl,rfl,rfl,rfl,rfl⟩,rfl,rfl⟩,hI⟩
set_option maxRecDepth 100000 in
set_option maxHeartbeats 4000000 in
theorem yJ (T:Array Value) (s:ByteArray) (u:Value) (seed:Nat) (tries ah others:Int) (hT:PtA s u seed tries ah others T) (w:World):(az 9 pB).wp Try.prog (bodyPost Try.prog Try.f6 (fE fun u _=>u=.bool true)) ⟨T,[]⟩ w:=by
 obtain ⟨x,rfl⟩:=hT.lit
 simp only[az,pB,Try.f6,Option.getD_some]
 go_wp2_with fail
 refine ⟨rfl,.bool true,?_,_,rfl,rfl⟩
 simp[results,Array.mapM_eq_mapM_toList,List.mapM_cons]
end Cs
namespace Cs
open Go.Conc Go.RowKit PK
theorem B5 {E:Env} {a:Addr} {u u':Value} (h:VR E (.pointer (some a)) u) (h':VR E (.pointer (some a)) u') (hu:∃b,u'=.pointer (some b)∧AR E a b) (hw:∃b,u=.pointer (some b)∧AR E a b):u=u':=by
 obtain ⟨b,rfl,hb⟩:=hw
 obtain ⟨b',rfl,hb'⟩:=hu
 obtain ⟨b1,b2,b3⟩:=b
 obtain ⟨d1,d2,d3⟩:=b'
 obtain ⟨s,o,e1,e2,e3,_⟩:=hb
 obtain ⟨s',o',f1,f2,f3,_⟩:=hb'
 dsimp only at e1 e2 e3 f1 f2 f3
 rw[e1] at f1
 cases f1
 subst e2 e3 f2 f3
 rfl
theorem tT {W0 W:World} {Sn:Nat→Prop} {u:Value} {n:Nat} {f:Nat→Int} (m:aY W0 u n f) (rt:Rt W0 u) (hag:∀b,b<W0.heap.size→W.heap[b]? = W0.heap[b]?) (hS:∀b,Sn b→W0.heap.size≤b) {q:Nat} {F:Nat→Int} {T':TypeId} {fr:Nat × Nat} (hq:W.heap[q]? = some (.cells (ints 28 F) T' fr)) (hnq:¬Sn q) :
  ∃E wl av' av cv p,u=.slice av n cv∧WR Try.prog E wl W∧Fns.G≤wl.heap.size∧VR E (.slice av' n cv) (.slice av n cv)∧AR E ⟨p,0,none⟩ ⟨q,0,none⟩∧(∃TB fr,wl.heap[p]? = some (.cells (ints 28 F) TB fr))∧∀b q' s o,E b=some (q',s,o)→o=false∧¬Sn q':=by
 obtain ⟨av,cv,rfl,nv,kv⟩:=m
 have hn0:∀b q s,(fun _=>none:Env) b≠some (q,s,true):=fun b q s e=>by cases e
 obtain ⟨E1,wl1,av',c1,s1,b1,e1,r1,k1⟩:=fR (P:=Try.prog) (w:=W0) (Cp.nil W0).cq hn0 dG (f:=fun i=>.int .i64 (f i)) (fun i E=>.int _ _) kv rt
 have low:∀b q s o,E1 b=some (q,s,o)→o=false∧q<W0.heap.size:=fun b q s o e=>by
  refine ⟨?_,?_⟩
  ·cases o with
   | false=>rfl
   | true=>exact absurd e (s1 b q s)
  ·rcases b1 b q s o e with e | e
   ·cases e
   ·exact e
 have hwr:WR Try.prog E1 wl1 W:=iH c1.wr fun b x e=>by
  obtain ⟨q,s,o⟩:=x
  exact hag q (low b q s o e).2
 obtain ⟨E2,c2,e2,a2,k2,x2⟩:=Cq.row (w:=W) ⟨hwr,c1.big,c1.top⟩ dG (s:=0) hq (fun b s'=>s1 b _ s') (ints 28 F) (fun i v hv=>⟨v,hv,by
  have hi:i<28:=by
   have:=(Array.getElem?_eq_some_iff.1 hv).1
   rwa [af] at this
  rw[aI F hi] at hv
  cases hv
  exact .int _ _⟩)
 refine ⟨E2,_,av',av,cv,wl1.heap.size,rfl,c2.wr,c2.big,r1.mono e2.le,a2 0,⟨_,_,heap_alloc_new wl1 _⟩,fun b q' s o e=>?_⟩
 rcases x2 b q' s o e with ⟨_,rfl,_,rfl⟩ | e
 ·exact ⟨rfl,hnq⟩
 ·have:=low b q' s o e
  exact ⟨this.1,fun h=>by have:=hS _ h;omega⟩
theorem AQ:[Item.inRegion m6 (List.range' 6 6),.code l5,.code .skip].all (aK Try.prog)=true:=by kernel_rfl
set_option maxRecDepth 100000 in
set_option maxHeartbeats 4000000 in
theorem zg (T:Array Value) (s:ByteArray) (u:Value) (n seed:Nat) (tries ah others:Int) (hT:PtA s u seed tries ah others T) (f F:Nat→Int) (q:Nat) (h13:T[13]? = some (.pointer (some ⟨q,0,none⟩))) (h114:T[114]? = some (.tuple #[.agg (ints 28 F),.int .i64 0])) (W0 W:World) {Sn:Nat→Prop} (m:aY W0 u n f) (rt:Rt W0 u) (hag:∀b,b<W0.heap.size→W.heap[b]? = W0.heap[b]?) (hq13:W.heap[q]? = some (.cells (ints 28 F) 43 (0,0))) (hnq:¬Sn q) (hS:∀b,Sn b→W0.heap.size≤b∧b<W.heap.size) {gs:Array Goroutine} {t:Trace} {qq:Nat→Nat} (i0:gs[0]? = some (G (mkF 6 T [.inRegion m6 (List.range' 6 6),.code l5,.code (az 8 pB)] .run) [])) (hq:Qs Try.prog Sn gs t qq 0 W.heap.size) (sl:Option (Nat × Nat)) :
  ∃N gs' w' sl' t' q',∃(T:Array Value) (u':Value),runNT Try.prog N (crowd gs W sl) t=(.next (crowd gs' w' sl'),t')∧gs'.size=gs.size∧gs'[0]? = some (G (mkF 6 T [.code (az 8 pB)] .run) [])∧PtA s u' seed tries ah others T∧T[13]? = some (.pointer (some ⟨q,0,none⟩))∧aY W0 u' n f∧Rt W0 u'∧(∀b,b<W.heap.size→w'.heap[b]? = W.heap[b]?)∧w'.os=W.os∧w'.output=W.output∧W.heap.size≤w'.heap.size∧Qs Try.prog Sn gs' t' q' 0 w'.heap.size:=by
 obtain ⟨E2,wl2,av',av,cv,p,rfl,c2w,c2b,r1,a2,⟨TB,fr,hp⟩,low⟩:=tT m rt hag (fun b hb=>(hS b hb).1) hq13 hnq
 obtain ⟨Tl,lL,pl,ol⟩:=fQ (E:=E2) hT r1 _ (nQ (by decide) h13 (.ptr a2) (by decide) h114 tN)
 have k13:Tl[13]? = some (.pointer (some ⟨p,0,none⟩)):=ol 13 _ (if_pos rfl)
 have k114:Tl[114]? = some (.tuple #[.agg (ints 28 F),.int .i64 0]):=ol 114 _ ((if_neg (by decide)).trans (if_pos rfl))
 clear ol
 have key0:=fun τ=>yZ Tl s (.slice av' n cv) seed tries ah others p F (wl2.tp τ) TB fr hp pl k13 k114
 have hin:=dA.mid (c:=[]) (ct:=az 8 pB) (Post:=fun T _=>PtA s (.slice av' n cv) seed tries ah others T∧T[13]? = some (.pointer (some ⟨p,0,none⟩))) (P:=Try.prog) (fB:=6) (todo:=[.inRegion m6 (List.range' 6 6),.code l5,.code .skip]) (todo':=[.inRegion m6 (List.range' 6 6),.code l5,.code (az 8 pB)]) ⟨_,Try.func6⟩ lL c2w c2b AQ (.cons _ (.cons _ (.cut .skip))) (fun τ=>by
  refine lH ?_
  have k:=key0 τ
  generalize Code.wp Try.prog l5=cc at k ⊢
  with_reducible exact k)
 obtain ⟨N,gs',w',sl',t',q',E',X,y,wl2',r,z,i,po,lr,wr,big,fc,Q⟩:=gz (sl:=sl) (Nat.le_refl _) cV (fun b x e hs=>by
  obtain ⟨q,s,o⟩:=x
  exact (low b q s o e).2 hs) (fun b hb=>(hS b hb).2) i0 hin hq
 obtain ⟨pt,k13⟩:=po
 obtain ⟨u',pt',_,n1,n2⟩:=PtA.back pt lr (r1.mono fc.le) m rt
 obtain ⟨z13,g13,v13⟩:=lr.get k13
 have e13:z13=.pointer (some ⟨q,0,none⟩):=by
  have a3:=a2.mono fc.le
  cases hz:z13 with
  | pointer o =>
   rw[hz] at v13
   cases v13 with
   | ptr ha=>exact B5 (.ptr ha) (.ptr a3) ⟨_,rfl,a3⟩ ⟨_,rfl,ha⟩
  | _ =>
   rw[hz] at v13
   cases v13
 rw[e13] at g13
 exact ⟨N,gs',w',sl',t',q',y,u',r,z,i,pt',g13,n1,n2,fun b hb=>fc.keep b hb fun b' s e=>(by have:=(low _ _ _ _ e).1;cases this),fc.os,fc.output,fc.size,Q⟩
end Cs
end Go.Proofs.Ytpdemelchhkfaaa
