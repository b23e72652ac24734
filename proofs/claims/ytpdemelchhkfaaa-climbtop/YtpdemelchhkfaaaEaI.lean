import Derived.Test.YtpdemelchhkfaaaJn30
namespace Go.Proofs.Ytpdemelchhkfaaa
namespace Cs
open Go.Conc Go.RowKit PK
open Go.ConcR (KK WgAt wgBlock)
open Go.ConcM (OsLater)
theorem CV (H:Array Obj) (a b c d e f:Obj):((((((H.push a).push b).push c).push d).push e).push f).size=H.size+6∧((((((H.push a).push b).push c).push d).push e).push f)[H.size]? = some a∧((((((H.push a).push b).push c).push d).push e).push f)[H.size+1]? = some b∧((((((H.push a).push b).push c).push d).push e).push f)[H.size+2]? = some c∧((((((H.push a).push b).push c).push d).push e).push f)[H.size+3]? = some d∧((((((H.push a).push b).push c).push d).push e).push f)[H.size+4]? = some e∧((((((H.push a).push b).push c).push d).push e).push f)[H.size+5]? = some f∧∀i,i<H.size→((((((H.push a).push b).push c).push d).push e).push f)[i]? = H[i]?:=by
 refine ⟨by simp,?_,?_,?_,?_,?_,?_,fun i hi=>?_⟩
 ·simp only[Array.getElem?_push,Array.size_push]
  rw[if_neg (by omega),if_neg (by omega),if_neg (by omega),if_neg (by omega),if_neg (by omega),if_pos trivial]
 ·simp only[Array.getElem?_push,Array.size_push]
  rw[if_neg (by omega),if_neg (by omega),if_neg (by omega),if_neg (by omega),if_pos trivial]
 ·simp only[Array.getElem?_push,Array.size_push]
  rw[if_neg (by omega),if_neg (by omega),if_neg (by omega),if_pos trivial]
 ·simp only[Array.getElem?_push,Array.size_push]
  rw[if_neg (by omega),if_neg (by omega),if_pos trivial]
 ·simp only[Array.getElem?_push,Array.size_push]
  rw[if_neg (by omega),if_pos trivial]
 ·simp only[Array.getElem?_push,Array.size_push]
  rw[if_pos trivial]
 ·simp only[Array.getElem?_push,Array.size_push]
  rw[if_neg (by omega),if_neg (by omega),if_neg (by omega),if_neg (by omega),if_neg (by omega),if_neg (by omega)]
section
variable {c:Cst} {tW:TypeId}
theorem gL {w w':World} (e1:w'.heap=w.heap) (e2:w'.os=w.os) (e3:w'.output=w.output) (h:Ok3 c tW w):Ok3 c tW w':=by
 obtain ⟨⟨f1,f2,f3,f4,f5⟩,⟨st,sm,hw⟩,X,m,h1,h2⟩:=h
 have hc:∀a,w'.cell? a=w.cell? a:=fun a=>by unfold World.cell?;rw[e1]
 refine ⟨⟨fun q hq=>by rw[e1];exact f1 q hq,by rw[e1];exact f2,by rw[e1];exact f3,by rw[e2];exact f4,by rw[e3];exact f5⟩,⟨st,sm,?_⟩,X,m,by rw[hc];exact h1,by rw[hc];exact h2⟩
 show w'.heap[c.C2]? = _
 rw[e1]
 exact hw
theorem qj {A:Goroutine→World→Prop} {n:Nat}:∀{m:Nat} {g:Goroutine} {w:World},n≤w.heap.size→Goes Try.prog true AtRel (DQ c) A m g w→Goes Try.prog true AtRel (fun w w' es=>DQ c w w' es∧n≤w.heap.size) A m g w
 | 0,_,_,_,h=>h
 | m+1,g,w,hn,h=>by
  rcases h with h | ⟨hs,h⟩
  ·exact .inl h
  ·refine .inr ⟨hs,fun w₁ h₁=>?_⟩
   have:=h w₁ h₁
   obtain ⟨d,rfl⟩:=h₁
   revert this
   cases stepG Try.prog true g (w.at d) <;> simp only[GStep.goes,imp_self]
   rintro ⟨hd,h3⟩
   exact ⟨⟨hd,hn⟩,qj (by rw[hd.heap];exact hn) h3⟩
end
section
variable {c:Cst} {tW:TypeId} {Sn:Nat→Prop} {gs:Array Goroutine} {t:Trace} {q:Nat→Nat} {d:Nat} {g:Goroutine} {w:World}
theorem qZ {A:Goroutine→World→Prop} {I:World→Prop} (hI:∀w w',w'.heap=w.heap→w'.os=w.os→w'.output=w.output→I w→I w'):∀{m:Nat} {g:Goroutine} {w:World},Ok3 c tW w→I w→Goes Try.prog true (fun _ w=>Ok3 c tW w) (DQ c) A m g w→Goes Try.prog true AtRel (DQ c) (fun g w=>A g w∧I w) m g w
 | 0,_,w,hk,hi,h=>fun w₁ h₁=>by
  obtain ⟨d,rfl⟩:=h₁
  exact ⟨h (w.at d) (gL (w:=w) (w':=w.at d) rfl rfl rfl hk),hI w (w.at d) rfl rfl rfl hi⟩
 | m+1,g,w,hk,hi,h=>by
  rcases h with h | ⟨hs,h⟩
  ·exact .inl fun w₁ h₁=>by
    obtain ⟨d,rfl⟩:=h₁
    exact ⟨h (w.at d) (gL (w:=w) (w':=w.at d) rfl rfl rfl hk),hI w (w.at d) rfl rfl rfl hi⟩
  ·refine .inr ⟨hs,fun w₁ h₁=>?_⟩
   obtain ⟨d,rfl⟩:=h₁
   have:=h (w.at d) (gL (w:=w) (w':=w.at d) rfl rfl rfl hk)
   revert this
   cases stepG Try.prog true g (w.at d) <;> simp only[GStep.goes,imp_self]
   rintro ⟨hd,h3⟩
   exact ⟨hd,qZ hI (gL (w:=w) hd.heap hd.os hd.output hk) (hI w _ hd.heap hd.os hd.output hi) h3⟩
theorem sN (hsn:∀b,Sn b→¬c.Fix b) {Stp:Goroutine→Prop} (h0:gs[0]? = some g) (hg:OnA Try.prog c tW true Stp g) (hk:Ok3 c tW w) (hq:Qs Try.prog Sn gs t q d w.heap.size) (sl:Option (Nat × Nat)) :
  ∃N gs' w' sl' t' q' g',runNT Try.prog N (crowd gs w sl) t=(.next (crowd gs' w' sl'),t')∧gs'.size=gs.size∧gs'[0]? = some g'∧g'.status=.running∧Stp g'∧w'.heap=w.heap∧w'.os=w.os∧w'.output=w.output∧Qs Try.prog Sn gs' t' q' d w'.heap.size:=by
 obtain ⟨m,hm⟩:=hg.2 w hk
 have h1:=qZ (I:=fun w'=>(c.N1≤w'.heap.size)∧w'.heap=w.heap∧w'.os=w.os∧w'.output=w.output) (fun w1 w2 e1 e2 e3 h=>⟨by rw[e1];exact h.1,e1.trans h.2.1,e2.trans h.2.2.1,e3.trans h.2.2.2⟩) hk ⟨hk.ok.big,rfl,rfl,rfl⟩ hm
 have h2:=qj (n:=c.N1) hk.ok.big h1
 obtain ⟨N,gs',w',sl',t',q',g',r,z,i,⟨⟨s1,s2⟩,s3⟩,Q⟩:=cL (Sn:=Sn) (D:=fun w w' es=>DQ c w w' es∧c.N1≤w.heap.size) (sl:=sl) (fun w w' es h=>⟨by rw[h.1.heap];exact Nat.le_refl _,fun e he=>by
  obtain ⟨a,rfl,ha⟩:=h.1.evs e he
  have hl:a.block<w'.heap.size:=by rw[h.1.heap];exact Nat.lt_of_lt_of_le ha.1 h.2
  exact (ew (Sn:=Sn) (Fd:=a.block+1) hl (fun k=>hsn _ k ha) (by omega)).1⟩) (fun g w h=>h.1.1) h0 h2 hq
 exact ⟨N,gs',w',sl',t',q',g',r,z,i,s1,s2,s3.2.1,s3.2.2.1,s3.2.2.2,Q⟩
end
def DY (ex:Nat→Prop) (h S0 hs b13 b7:Nat) (w:World):Cst:={ ex:=ex,n:=h,K:=30,S0:=S0,N1:=w.heap.size,H0:=fun q=>w.heap[q]?,C1:=hs+4,C2:=hs+5,Fd:=hs+4,TF:=103,z1:=undef,z2:=undef,zs1:=undef,zs2:=undef,fB:=36,ar:=fun k=>#[.int .i64 (k:Nat),.pointer (some ⟨b13,0,none⟩),.pointer (some ⟨b7,0,none⟩)],os0:=w.os,yX:=w.output }
noncomputable def cFr (s:ByteArray) (v:Value) (seed tries ah b7 b10 b13:Nat) (g:Nat→Value):Frame:=mkF 13 #[.string s,v,.int .u64 (seed:Nat),.int .i64 (tries:Nat),.int .i64 (ah:Nat),g 5,g 6,.pointer (some ⟨b7,0,none⟩),g 8,g 9,.pointer (some ⟨b10,0,none⟩),.int .i64 0,g 12,.pointer (some ⟨b13,0,none⟩),g 14,g 15,g 16,g 17,g 18,g 19,g 20,g 21,g 22,g 23,g 24,g 25,g 26,g 27,g 28,g 29,g 30,g 31,g 32,g 33,g 34,g 35,g 36,g 37,g 38,.int .i64 (ah:Nat),.int .i64 (tries:Nat),.func (.func 36) #[] #[.pointer (some ⟨b13,0,none⟩),.pointer (some ⟨b7,0,none⟩)],g 42] [.inRegion cO7 [3,4,5],.code cR8] .run
def bd0:Bd:=⟨fun _=>0,-9223372036854775808,0⟩
noncomputable def bdE (s:ByteArray) (f:Nat→Int) (seed tries:Nat):Bd:=(List.range tries).foldl (upB (kK s f seed) (kZ s f seed)) bd0
theorem Ct (i:Nat) (h:2≤i∧i<30):bdZ[i]? = some (eBd bd0 i):=by
 have h2:bdZ[i]? = (ints 28 fZ)[i-2]?:=by
  unfold bdZ
  rw[Array.getElem?_append_right (show (#[Value.int IntKind.i32 0,Value.int IntKind.u32 0]:Array Value).size≤i from h.1)]
  rfl
 rw[h2,aI _ (by omega)]
 unfold eBd fZ bdF bd0
 congr 2
 repeat' split
 all_goals first | rfl | omega
theorem uU {W0 w:World} {v:Value} {n:Nat} {f:Nat→Int} (h:aY W0 v n f) (hag:∀b,b<W0.heap.size→w.heap[b]? = W0.heap[b]?):aY w v n f:=by
 obtain ⟨a,cap,h1,h2,h3⟩:=h
 refine ⟨a,cap,h1,h2,fun c hc=>?_⟩
 obtain ⟨b,o,e,k⟩:=h3 c hc
 refine ⟨b,o,e,?_⟩
 rw[←k]
 have:=hag b (cD k)
 unfold World.cell?
 rw[this]
theorem zZ {W0 w:World} {v:Value} (h:Rt W0 v) (hag:∀b,b<W0.heap.size→w.heap[b]? = W0.heap[b]?):Rt w v:=fun a l c e hp=>by
 obtain ⟨h1,y,T,fr,h2⟩:=h a l c e hp
 exact ⟨h1,y,T,fr,(hag _ (Array.getElem?_eq_some_iff.1 h2).1).trans h2⟩
structure CjR (Sn0:Nat→Prop) (s:ByteArray) (f:Nat→Int) (seed tries:Nat) (W w:World) (hs b10:Nat):Prop where
 keep:∀b,b<W.heap.size→¬Sn0 b→w.heap[b]? = W.heap[b]?
 c10:w.heap[b10]? = some (.cells (ints 28 fun _=>0) 43 (0,0))
 o10:W.heap.size≤b10∧b10<hs
 res:w.heap[hs+3]? = some (.cells (ints 28 fun _=>0) 43 (0,0))
 brd:∃cs,w.heap[hs+4]? = some (.cells cs 103 (0,0))∧cs.size=30∧∀i,2≤i→i<30→cs[i]? = some (eBd (bdE s f seed tries) i)
 os:OsLater W.os w.os
 out:w.output=W.output
 size:W.heap.size≤hs∧hs+6≤w.heap.size
set_option maxRecDepth 100000 in
set_option maxHeartbeats 8000000 in
theorem sJ (s:ByteArray) (v:Value) (n seed tries ah:Nat) (f:Nat→Int) (hcw:cwE s.data.toList n f=0) (ht:1≤tries∧tries≤16) (hh:1≤ah∧ah≤16) (W0 W:World) (hv:aY W0 v n f) (rv:Rt W0 v) (hag:∀b,b<W0.heap.size→W.heap[b]? = W0.heap[b]?) {Sn0:Nat→Prop} (hS:∀b,Sn0 b→W0.heap.size≤b∧b<W.heap.size) (c0:List Frame) {gs:Array Goroutine} {t:Trace} {qq:Nat→Nat} (hgs:gs.size≤900) (i0:gs[0]? = some (G (mkF 13 #[.string s,v,.int .u64 (seed:Nat),.int .i64 (tries:Nat),.int .i64 (ah:Nat),undef,undef,undef,undef,undef,undef,undef,undef,undef,undef,undef,undef,undef,undef,undef,undef,undef,undef,undef,undef,undef,undef,undef,undef,undef,undef,undef,undef,undef,undef,undef,undef,undef,undef,undef,undef,undef,undef] [.code dr] .run) c0)) (hq:Qs Try.prog Sn0 gs t qq 0 W.heap.size) (sl:Option (Nat × Nat)) :
  ∃N gs' w' sl' t' q',∃(g:Nat→Value) (b7 b10 b13 hs:Nat) (T:Array Value),runNT Try.prog N (crowd gs W sl) t=(.next (crowd gs' w' sl'),t')∧gs'.size=gs.size+ah∧T.size=23∧T[6]? = some (.pointer (some ⟨hs+3,0,none⟩))∧T[7]? = some (.pointer (some ⟨hs+4,0,none⟩))∧gs'[0]? = some (G ((base 35).at ⟨T,[]⟩ [.inRegion oO [],.code kR]) (cFr s v seed tries ah b7 b10 b13 g :: c0))∧CjR Sn0 s f seed tries W w' hs b10∧Qs Try.prog (fun b=>Sn0 b∨b=hs+5) gs' t' q' 0 w'.heap.size:=by
 have hG:Try.prog.globals.size≤Fns.G:=Nat.le_refl _
 obtain ⟨N1,gs1,w1,sl1,t1,q1,g,b7,b10,b13,pv,r1,z1,i1,cf,keep1,os1,ou1,size1,Q1⟩:=xU s v n seed tries ah f hcw ht hh W0 W hv rv hag hS c0 i0 hq sl
 obtain ⟨hs,hhs⟩:∃hs,hs=w1.heap.size:=⟨_,rfl⟩
 have l7:b7<hs:=by rw[hhs];exact (Array.getElem?_eq_some_iff.1 cf.c7).1
 have l10:b10<hs:=by rw[hhs];exact (Array.getElem?_eq_some_iff.1 cf.c10).1
 have l13:b13<hs:=by rw[hhs];exact (Array.getElem?_eq_some_iff.1 cf.c13).1
 have hSlt:∀b,Sn0 b→b<hs:=fun b hb=>by have:=(hS b hb).2;omega
 have hSw:∀b,W.heap.size≤b→¬Sn0 b:=fun b hb hc=>by have:=(hS b hc).2;omega
 have Q1':Qs Try.prog (fun b=>Sn0 b∨b=hs+5) gs1 t1 q1 0 w1.heap.size:=Q1.D4 (fun _ e=>.inl e) (fun j y a hy hya hl=>by
  have hlow:=Q1.low j a (by simp[touchAt,Trace.act?,hy,hya])
  cases hl2:a.loc with
  | cell b =>
   rw[hl2] at hlow hl
   have h3:b.block<w1.heap.size:=hlow
   rcases (show Sn0 b.block∨b.block=hs+5 from hl) with e | e
   ·exact e
   ·omega
  | obj b =>
   rw[hl2] at hlow hl
   have h3:b<w1.heap.size:=hlow
   rcases (show Sn0 b∨b=hs+5 from hl) with e | e
   ·exact e
   ·omega
  | output=>rw[hl2] at hl;exact hl.elim
  | goroutines=>rw[hl2] at hl;exact hl.elim
  | mark m=>rw[hl2] at hl;exact hl.elim)
 have P1:∀j a,touchAt t1 j=some a→PlF (hs+40) a:=fun j a hy ad e=>by
  have hlow:=Q1.low j a hy
  rw[e] at hlow
  have h3:ad.block<w1.heap.size:=hlow
  omega
 have I1:HI w1.heap w1.os w1.output w1:=⟨rfl,rfl,rfl⟩
 obtain ⟨mu,G2⟩:=A1 g s v seed tries ah b7 b10 b13 c0 (fun b=>Sn0 b∨b=hs+5) w1.heap w1.os w1.output (by rw[←hhs];rintro i hi (e | e);have:=hSlt _ e;omega;omega) w1 I1
 rw[←hhs] at G2
 obtain ⟨N2,gs2,w2,sl2,t2,q2,g2,r2,z2,i2,⟨u,rfl,I2⟩,Q2,P2⟩:=ez (Pl:=PlF (hs+40)) (sl:=sl1) (fun w w' es h=>h) (fun g w h=>by obtain ⟨u,e,_⟩:=h;rw[e];rfl) i1 G2 Q1' P1
 obtain ⟨X,hX⟩:∃X,X=((((((w1.heap.push (.cells #[.int .i64 (ah:Nat)] 3)).push (.cells #[.int .i64 (tries:Nat)] 3)).push (.cells #[.func (.func 36) #[] #[.pointer (some ⟨b13,0,none⟩),.pointer (some ⟨b7,0,none⟩)]] 74)).push (.cells (ints 28 fun _=>0) 43)).push (.cells bdZ 103)).push (.cells #[.int .u64 0,.int .u32 0] 91)):=⟨_,rfl⟩
 have I2':HI X w1.os w1.output w2:=by rw[hX];exact I2
 have p6:=CV w1.heap (.cells #[.int .i64 (ah:Nat)] 3) (.cells #[.int .i64 (tries:Nat)] 3) (.cells #[.func (.func 36) #[] #[.pointer (some ⟨b13,0,none⟩),.pointer (some ⟨b7,0,none⟩)]] 74) (.cells (ints 28 fun _=>0) 43) (.cells bdZ 103) (.cells #[.int .u64 0,.int .u32 0] 91)
 rw[←hX,←hhs] at p6
 obtain ⟨s6,x0,x1,x2,x3,x4,x5,xo⟩:=p6
 clear hX I2 G2
 obtain ⟨N3,gs3,w3,sl3,t3,q3,g3,r3,z3,i3,s3,ld3,hp3,sz3,os3,ou3,wg3,Q3,P3⟩:=Aj u ah tries hs b13 b7 hh (cFr s v seed tries ah b7 b10 b13 g :: c0) (Fd:=hs+40) (by omega) i2 I2' x5 Q2 P2 sl2
 obtain ⟨N4,gs4,w4,sl4,t4,q4,g4,r4,z4,i4,⟨⟨s4,go4⟩,I4⟩,Q4,P4⟩:=ez (Pl:=PlF (hs+40)) (sl:=sl3) (fun w w' es h=>h) (fun g w h=>h.1.1) i3 (zq u ah tries hs b13 b7 hh (cFr s v seed tries ah b7 b10 b13 g :: c0) (H:=w3.heap) (o:=w3.os) (out:=w3.output) ((hp3 hs (by omega)).trans x0) (by rintro (e | e);have:=hSlt _ e;omega;omega) (by omega) ld3 w3 ⟨rfl,rfl,rfl⟩) Q3 P3
 have hold:∀b,b<hs→w4.heap[b]? = w1.heap[b]?:=fun b hb=>by rw[I4.1];exact (hp3 b (by omega)).trans (xo b hb)
 have size4:w4.heap.size=hs+6:=by rw[I4.1];exact sz3.trans s6
 have hx4:∀b o,b≠hs+5→X[b]? = some o→w4.heap[b]? = some o:=fun b o hb h=>by rw[I4.1];exact (hp3 b hb).trans h
 have wg4:WgAt wgL.tWg (hs+5) w4 ((ah:Int)*KK) 0:=by show w4.heap[hs+5]? = _;rw[I4.1];exact wg3
 clear wg3
 obtain ⟨cst,hcst⟩:∃cst,cst=DY Sn0 ah gs4.size hs b13 b7 w4:=⟨_,rfl⟩
 have fixOld:∀b,b<hs→¬Sn0 b→cst.Fix b:=fun b hb hne=>by
  rw[hcst]
  exact ⟨by show b<w4.heap.size;omega,by show b≠hs+4;omega,by show b≠hs+4;omega,by show b≠hs+5;omega,hne⟩
 have fix3:∀b,b=hs∨b=hs+1∨b=hs+2∨b=hs+3→cst.Fix b:=fun b hb=>by
  rw[hcst]
  exact ⟨by show b<w4.heap.size;omega,by show b≠hs+4;omega,by show b≠hs+4;omega,by show b≠hs+5;omega,fun hc=>by have:=hSlt b hc;omega⟩
 have h0:∀w,OkT cst w→∀b,cst.Fix b→w.heap[b]? = w4.heap[b]?:=fun w hw b hb=>by
  have:=hw.fix b hb
  rw[hcst] at this
  exact this
 have c0':=hx4 hs _ (by omega) x0
 have c1:=hx4 (hs+1) _ (by omega) x1
 have c2:=hx4 (hs+2) _ (by omega) x2
 have c3:=hx4 (hs+3) _ (by omega) x3
 have c4:=hx4 (hs+4) _ (by omega) x4
 have okw:OkT cst w4:=by
  rw[hcst]
  exact ⟨fun _ _=>rfl,⟨_,c4,jD⟩,Nat.le_refl _,OsLater.refl _,rfl⟩
 have e1:cst.n=ah:=by rw[hcst];rfl
 have e2:cst.K=30:=by rw[hcst];rfl
 have e3:cst.C1=hs+4:=by rw[hcst];rfl
 have e4:cst.C2=hs+5:=by rw[hcst];rfl
 have e5:cst.Fd=hs+4:=by rw[hcst];rfl
 have e6:cst.S0=gs4.size:=by rw[hcst];rfl
 have e7:cst.N1=w4.heap.size:=by rw[hcst];rfl
 have e8:cst.TF=103:=by rw[hcst];rfl
 have e9:cst.os0=w4.os∧cst.yX=w4.output:=by rw[hcst];exact ⟨rfl,rfl⟩
 have eX:cst.ex=Sn0:=by rw[hcst];rfl
 have eB:cst.fB=36:=by rw[hcst];rfl
 have eA:∀k,cst.ar k=#[.int .i64 (k:Nat),.pointer (some ⟨b13,0,none⟩),.pointer (some ⟨b7,0,none⟩)]:=fun k=>by rw[hcst];rfl
 clear hcst
 have clp:ClP cst tries (hs+1) hs (hs+2) b13 b7:=by
  refine ⟨⟨fix3 _ (.inr (.inl rfl)),fix3 _ (.inl rfl),fix3 _ (.inr (.inr (.inl rfl)))⟩,fun w hw=>?_,fun w hw=>?_,fun w hw=>?_,by omega,by omega,e2,by omega,eB,eA⟩
  ·exact fJ ((h0 w hw _ (fix3 _ (.inr (.inl rfl)))).trans c1)
  ·rw[e1]
   exact fJ ((h0 w hw _ (fix3 _ (.inl rfl))).trans c0')
  ·exact fJ ((h0 w hw _ (fix3 _ (.inr (.inr (.inl rfl))))).trans c2)
 have d1:cst.C2<cst.N1∧cst.Fd<cst.N1∧cst.C2≠cst.Fd∧cst.C1=cst.Fd:=by
  rw[e3,e4,e5,e7]
  omega
 have zz:gs4.size=gs.size:=by rw[z4,z3,z2,z1]
 have s0:1≤cst.S0∧cst.S0≤1000:=by
  rw[e6]
  have:=(Array.getElem?_eq_some_iff.1 i4).1
  omega
 have hag1:∀b,b<W0.heap.size→w1.heap[b]? = W0.heap[b]?:=fun b hb=>by
  by_cases hb2:b<W.heap.size
  ·exact (keep1 b hb2).trans (hag b hb)
  ·have:=hag b hb
   rw[Array.getElem?_eq_none (by omega),Array.getElem?_eq_getElem hb] at this
   cases this
 let SC:=yg (K:=kK s f seed) (Z:=kZ s f seed) clp (hs+3) (cFr s v seed tries ah b7 b10 b13 g :: c0) (by omega) s0 d1 (by rw[eB];kernel_rfl) (fun k hk w hw=>by
  obtain ⟨E',wl',x,k1,k2,k3,k4,k5⟩:=qo s pv v n seed k b7 b13 f hcw (by omega) w1 cf.prs cf.rt cf.cp (uU hv hag1) (zZ rv hag1) cf.c13 cf.c7
  have hQn:∀b q s o,E' b=some (q,s,o)→¬Sn0 q:=fun b q s o e=>by
   rcases (k1 b q s o e).2.2 with ⟨ad,l,c,f1,f2,f3⟩ | ⟨ad,l,c,f1,f2⟩ | f2 | f2
   ·rw[f2];exact hSw _ (cf.pb ad l c f1 f3)
   ·intro hc
    have:=(hS _ hc).1
    obtain ⟨av,cv,rfl,nv,kv⟩:=hv
    cases f1
    obtain ⟨b',o',e',k'⟩:=kv 0 (by have:=(eY hcw).2.2.1;omega)
    cases e'
    have:=cD k'
    dsimp only at f2 this
    omega
   ·rw[f2];exact hSw _ cf.o7.2.2.1
   ·rw[f2];exact hSw _ cf.o7.1
  refine ⟨E',wl',x,fun b q s o e=>⟨(k1 b q s o e).1,fixOld q (by rw[hhs];exact (k1 b q s o e).2.1) (hQn b q s o e)⟩,by rw[eA];exact k2,iH k3 fun b y e=>?_,k4,fun τ=>?_⟩
  ·obtain ⟨q',s',o'⟩:=y
   have hq':=(k1 b q' s' o' e).2.1
   rw[←hhs] at hq'
   exact (h0 w hw q' (fixOld q' hq' (hQn b q' s' o' e))).trans (hold q' hq')
  ·rw[eB]
   exact k5 τ)
 have hsn:dg cst (fun b=>Sn0 b∨b=hs+5):=⟨fun b hb=>by
  rw[e7,e5]
  rcases hb with hb | hb
  ·have:=hSlt b hb;omega
  ·omega,fun b hb h3=>by
  have h3:b<cst.N1∧b≠cst.Fd∧b≠cst.C1∧b≠cst.C2∧¬cst.ex b:=h3
  rw[e4,eX] at h3
  rcases hb with hb | hb
  ·exact h3.2.2.2.2 hb
  ·exact h3.2.2.2.1 hb,by rw[e4];exact .inr rfl⟩
 have hcb:∀i,w4.cell? ⟨hs+4,i,none⟩=bdZ[i]?:=fun i=>cell_of_row _ _ _ _ _ _ c4
 have hW:WalkA Try.prog cst wgL.tWg true (SC.GoA 0) 0 g4 w4:=Goes.stop fun _ _=>⟨s4,go4 cst e1 e5 e4⟩
 obtain ⟨N5,gs5,w5,sl5,t5,q5,g5,r5,z5,i5,on5,Q5,ok5,wg5,bd5⟩:=sR (b0:=bd0) hG cV SC hsn e6 i4 Q4 hW okw (by rw[e4,e1];exact wg4) (by
  refine ⟨?_,?_⟩
  ·rw[e5,hcb];rfl
  ·rw[e5,hcb];rfl) (fun i h1 h2=>by
  rw[e5,hcb]
  exact Ct i ⟨h1,by omega⟩) sl4
 obtain ⟨N6,gs6,w6,sl6,t6,q6,g6,r6,z6,i6,s6',jn6,hp6,os6,ou6,Q6⟩:=sN (fun b hb=>hsn.fix b hb) i5 on5 ok5 Q5 sl5
 obtain ⟨T,hT1,hT2,hT3,rfl⟩:=jn6
 rw[e5] at hT3
 have ok6:=gL hp6 os6 ou6 ok5
 refine ⟨N1+(N2+(N3+(N4+(N5+N6)))),gs6,w6,sl6,t6,q6,g,b7,b10,b13,hs,T,?_,by rw[z6,z5,e6,e1,zz],hT1,hT2,hT3,i6,⟨fun b hb hne=>?_,?_,⟨cf.o7.2.1,l10⟩,?_,?_,?_,?_,⟨by omega,?_⟩⟩,Q6⟩
 ·rw[runNT_add,r1]
  show runNT Try.prog (N2+(N3+(N4+(N5+N6)))) (crowd gs1 w1 sl1) t1=_
  rw[runNT_add,r2]
  show runNT Try.prog (N3+(N4+(N5+N6))) (crowd gs2 w2 sl2) t2=_
  rw[runNT_add,r3]
  show runNT Try.prog (N4+(N5+N6)) (crowd gs3 w3 sl3) t3=_
  rw[runNT_add,r4]
  show runNT Try.prog (N5+N6) (crowd gs4 w4 sl4) t4=_
  rw[runNT_add,r5]
  exact r6
 ·exact ((h0 w6 ok6.ok b (fixOld b (by omega) hne)).trans (hold b (by omega))).trans (keep1 b hb)
 ·exact ((h0 w6 ok6.ok b10 (fixOld b10 l10 (hSw _ cf.o7.2.1))).trans (hold b10 l10)).trans cf.c10
 ·exact (h0 w6 ok6.ok _ (fix3 _ (.inr (.inr (.inr rfl))))).trans c3
 ·obtain ⟨cs,k1,k2⟩:=ok5.ok.fd
  rw[e5,e8] at k1
  rw[e2] at k2
  refine ⟨cs,by rw[hp6];exact k1,k2,fun i h1 h2=>?_⟩
  have:=bd5 i h1 (by rw[e2];exact h2)
  rw[e5,cell_of_row _ _ _ _ _ _ k1] at this
  exact this
 ·have:=ok6.ok.os
  rw[e9.1,I4.2.1,os3,os1] at this
  exact this
 ·have:=ok6.ok.out
  rw[e9.2,I4.2.2,ou3,ou1] at this
  exact this
 ·have:=ok6.ok.big
  rw[e7,size4] at this
  exact this
end Cs
end Go.Proofs.Ytpdemelchhkfaaa
