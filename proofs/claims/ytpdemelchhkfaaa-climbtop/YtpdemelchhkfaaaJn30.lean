import Derived.Test.YtpdemelchhkfaaaJn29
namespace Go.Proofs.Ytpdemelchhkfaaa
namespace Cs
open Go.Conc Go.RowKit Go.Conc.Lib Go.ConcR.Gen Go.ConcN.Gen
open Go.ConcR (KK WgAt wgBlock stA smA rd wr mk DC0)
section
variable {P:Program}
theorem s8 {Kw I:World→Prop} {A:Goroutine→World→Prop} (hK:∀w k,Kw w→Kw (w.at k)) (hI:∀w k,I w→I (w.at k)):∀{m:Nat} {g:Goroutine} {w:World},Kw w→I w→Goes P true (fun _ w=>Kw w) DC0 A m g w→Goes P true AtRel DC0 (fun g w=>A g w∧I w) m g w
 | 0,_,_,hk,hi,h=>fun w₁ h₁=>by
  obtain ⟨d,rfl⟩:=h₁
  exact ⟨h _ (hK _ d hk),hI _ d hi⟩
 | m+1,g,w,hk,hi,h=>by
  rcases h with h | ⟨hs,h⟩
  ·exact .inl fun w₁ h₁=>by
    obtain ⟨d,rfl⟩:=h₁
    exact ⟨h _ (hK _ d hk),hI _ d hi⟩
  ·refine .inr ⟨hs,fun w₁ h₁=>?_⟩
   obtain ⟨d,rfl⟩:=h₁
   have:=h _ (hK _ d hk)
   revert this
   cases stepG P true g (w.at d) <;> simp only[GStep.goes,imp_self]
   rintro ⟨⟨e1,e2⟩,h3⟩
   have e1':=e1
   subst e1
   exact ⟨⟨e1',e2⟩,s8 hK hI (hK _ d hk) (hI _ d hi) h3⟩
end
section
variable {Sn:Nat→Prop} {Fd:Nat} {gs:Array Goroutine} {t:Trace} {q:Nat→Nat} {d:Nat} {g:Goroutine} {w:World} {H:Array Obj} {o:Os} {out:Array (Nat × ByteArray)}
abbrev PlF (Fd:Nat) (x:Touch):Prop:=∀ad,x.loc=.cell ad→ad.block≠Fd
theorem fe {Kw:World→Prop} {Stp:Goroutine→Prop} (hK:∀w k,Kw w→Kw (w.at k)) (h0:gs[0]? = some g) (hg:OnK Try.prog Kw Stp g) (hk:Kw w) (hI:HI H o out w) (hq:Qs Try.prog Sn gs t q d w.heap.size) (hp:∀j a,touchAt t j=some a→PlF Fd a) (sl:Option (Nat × Nat)) :
  ∃N gs' w' sl' t' q' g',runNT Try.prog N (crowd gs w sl) t=(.next (crowd gs' w' sl'),t')∧gs'.size=gs.size∧gs'[0]? = some g'∧g'.status=.running∧Stp g'∧HI H o out w'∧Kw w'∧Qs Try.prog Sn gs' t' q' d w'.heap.size∧∀j a,touchAt t' j=some a→PlF Fd a:=by
 obtain ⟨m,hm⟩:=hg.2 w hk
 have h1:=s8 (I:=fun w=>HI H o out w∧Kw w) hK (fun w k h=>⟨h.1,hK w k h.2⟩) hk ⟨hI,hk⟩ hm
 obtain ⟨N,gs',w',sl',t',q',g',r,z,i,⟨⟨s1,s2⟩,s3,s4⟩,Q,p⟩:=ez (Pl:=PlF Fd) (Sn:=Sn) (sl:=sl) (fun w w' es h=>by
  obtain ⟨e1,e2⟩:=h
  subst e1 e2
  exact ⟨⟨Nat.le_refl _,fun e he=>by simp at he⟩,fun e he=>by simp at he⟩) (fun g w h=>h.1.1) h0 h1 hq hp
 exact ⟨N,gs',w',sl',t',q',g',r,z,i,s1,s2,s3,s4,Q,p⟩
theorem iy {es:Array Event} {g':Goroutine} {F:World→World} (h0:gs[0]? = some g) (hr:g.status=.running) (hr':g'.status=.running) (hI:HI H o out w) (hF:∀w k,(F (w.at k)).heap=(F w).heap∧(F (w.at k)).os=w.os∧(F (w.at k)).output=w.output) (hsz:∀w,(F w).heap.size=w.heap.size) (hs:∀k,stepG Try.prog true g (w.at k)=.go g' (F (w.at k)) es) (he:∀e ∈ es,EvS Sn w.heap.size e∧∀x,(MemAct.ofEvent e).touch? = some x→PlF Fd x) (hq:Qs Try.prog Sn gs t q d w.heap.size) (hp:∀j a,touchAt t j=some a→PlF Fd a) (sl:Option (Nat × Nat)) :
  ∃N gs' w' sl' t' q',runNT Try.prog N (crowd gs w sl) t=(.next (crowd gs' w' sl'),t')∧gs'.size=gs.size∧gs'[0]? = some g'∧HI (F w).heap o out w'∧Qs Try.prog Sn gs' t' q' (deafBehind d es) w'.heap.size∧∀j a,touchAt t' j=some a→PlF Fd a:=by
 obtain ⟨N,gs',w',sl',t',q',g2,k,es2,r,z,i,⟨rfl,rfl,hw'⟩,_,Q,p⟩:=qg (Pl:=PlF Fd) (Sn:=Sn) (sl:=sl) (R:=fun _ g2 w' es2=>g2=g'∧es2=es∧HI (F w).heap o out w') h0 hr (fun k=>⟨g',F (w.at k),es,hs k,hr',by rw[hsz];exact Nat.le_refl _,fun e hee=>by
  rw[hsz]
  exact he e hee,rfl,rfl,(hF w k).1,(hF w k).2.1.trans hI.2.1,(hF w k).2.2.trans hI.2.2⟩) (fun w1 g' w' es k h=>h) hq hp
 exact ⟨N,gs',w',sl',t',q',r,z,i,hw',Q,p⟩
theorem tL {m:Mark} {s:Nat} (h1:(MemAct.ofEvent (mk m)).touch? = none) (h2:eL (MemAct.ofEvent (mk m))≠true):EvS Sn s (mk m)∧∀x,(MemAct.ofEvent (mk m)).touch? = some x→PlF Fd x:=⟨⟨h2,fun x hx=>by rw[h1] at hx;cases hx⟩,fun x hx=>by rw[h1] at hx;cases hx⟩
end
noncomputable def uO4:Array Oper:=match gcB with | .seq (.seq (.region _ o _) _) _=>o | _=>#[]
noncomputable def uBk:Code:=match gcB with | .seq (.seq _ c) _=>c | _=>.skip
def gLd (u:Nat→Value) (h R hs bs bb:Nat) (cs:List Frame) (g:Goroutine):Prop:=g=G ((base 35).at ⟨#[.int .i64 (h:Nat),.int .i64 (R:Nat),.func (.func 36) #[] #[.pointer (some ⟨bs,0,none⟩),.pointer (some ⟨bb,0,none⟩)],.pointer (some ⟨hs,0,none⟩),.pointer (some ⟨hs+1,0,none⟩),.pointer (some ⟨hs+2,0,none⟩),.pointer (some ⟨hs+3,0,none⟩),.pointer (some ⟨hs+4,0,none⟩),.pointer (some ⟨hs+5,0,none⟩),undef,u 10,u 11,.int .i64 (h:Nat),.tuple #[],undef,undef,undef,undef,undef,undef,undef,undef,undef],[]⟩ [.inRegion uO4 [0,1],.code uBk,.code gF]) cs
set_option maxRecDepth 100000 in
set_option maxHeartbeats 8000000 in
theorem uR (u:Nat→Value) (h R hs bs bb st:Nat) (S:Int) (hh:1≤h∧h≤16) (cs:List Frame):∀w,Wk wgL.tWg st S w→Goes Try.prog true (fun _ w=>Wk wgL.tWg st S w) DC0 (fun g _=>g.status=.running∧gLd u h R hs bs bb cs g) 40 (G ((base 35).at ((⟨#[.int .i64 (h:Nat),.int .i64 (R:Nat),.func (.func 36) #[] #[.pointer (some ⟨bs,0,none⟩),.pointer (some ⟨bb,0,none⟩)],.pointer (some ⟨hs,0,none⟩),.pointer (some ⟨hs+1,0,none⟩),.pointer (some ⟨hs+2,0,none⟩),.pointer (some ⟨hs+3,0,none⟩),.pointer (some ⟨hs+4,0,none⟩),.pointer (some ⟨hs+5,0,none⟩),undef,u 10,u 11,.int .i64 (h:Nat),undef,undef,undef,undef,undef,undef,undef,undef,undef,undef],[]⟩:Act).put ((uO3[1]?).bind (·.dst)) (.tuple #[])) (.inRegion uO3 [] :: [.code gcB])) cs) w:=by
 intro w hK
 have q1:decide ((0:Int)<(h:Int))=true:=decide_eq_true (by omega)
 have q2:decide (0<h)=true:=decide_eq_true (by omega)
 have e9:(uO3[1]?).bind (·.dst)=some 13:=by kernel_rfl
 rw[e9]
 simp only[gcB,uO3,az,Try.f35,Option.getD_some,Act.put]
 walk_nrm
 repeat (first
  | u_c stepG_seq aj hK
  | u_c stepG_region_end aj hK
  | u_reg aj hK
  | u_cond true aj hK
  | u_cond false aj hK
  | u_c stepG_skip aj hK
  | u_c stepG_block aj hK
  | u_c stepG_loop aj hK
  | u_c stepG_inBlock aj hK
  | u_c stepG_inLoop aj hK
  | (rw[aG];u_skip aj hK)
  | (rw[aG];u_op aj hK))
 exact Goes.stop fun w₁ _=>⟨rfl,rfl⟩
set_option maxRecDepth 100000 in
theorem xj (u:Nat→Value) (h R hs bs bb:Nat) (hh:1≤h∧h≤16) (cs:List Frame):OnK Try.prog (Wk wgL.tWg (hs+5) 0) (aDi Try.prog wgL.tWg (hs+5) ((h:Int)*KK) (gLd u h R hs bs bb cs)) (G ((base 35).at ⟨#[.int .i64 (h:Nat),.int .i64 (R:Nat),.func (.func 36) #[] #[.pointer (some ⟨bs,0,none⟩),.pointer (some ⟨bb,0,none⟩)],.pointer (some ⟨hs,0,none⟩),.pointer (some ⟨hs+1,0,none⟩),.pointer (some ⟨hs+2,0,none⟩),.pointer (some ⟨hs+3,0,none⟩),.pointer (some ⟨hs+4,0,none⟩),.pointer (some ⟨hs+5,0,none⟩),undef,u 10,u 11,.int .i64 (h:Nat),undef,undef,undef,undef,undef,undef,undef,undef,undef,undef],[]⟩ [.inRegion uO3 [1],.code gcB]) cs):=by
 refine mo 21 rfl fun w hK=>?_
 refine Goes.step rfl (fun w₁ h₁=>?_)
 refine goes_call (f:=45) (fn:=addFn wgL) (c:=body_add wgL) rfl rfl (by k_ne) rfl Try.func45 (by kernel_rfl) rfl ⟨⟨rfl,rfl⟩,?_⟩
 have hw:=vV (P:=Try.prog) (Wg:=hs+5) (n:=h) (S:=(h:Int)*KK) eg hh rfl (uR u h R hs bs bb (hs+5) ((h:Int)*KK) hh cs) w₁ h₁
 refine Eq.mp ?_ hw
 kernel_rfl
set_option maxHeartbeats 1000000 in
theorem Aj (u:Nat→Value) (h R hs bs bb:Nat) (hh:1≤h∧h≤16) (cs:List Frame) {Sn:Nat→Prop} {Fd:Nat} (hF:Fd≠hs+5) {gs:Array Goroutine} {t:Trace} {q:Nat→Nat} {w:World} {H:Array Obj} {o:Os} {out:Array (Nat × ByteArray)} (h0:gs[0]? = some (G ((base 35).at ⟨#[.int .i64 (h:Nat),.int .i64 (R:Nat),.func (.func 36) #[] #[.pointer (some ⟨bs,0,none⟩),.pointer (some ⟨bb,0,none⟩)],.pointer (some ⟨hs,0,none⟩),.pointer (some ⟨hs+1,0,none⟩),.pointer (some ⟨hs+2,0,none⟩),.pointer (some ⟨hs+3,0,none⟩),.pointer (some ⟨hs+4,0,none⟩),.pointer (some ⟨hs+5,0,none⟩),undef,u 10,u 11,.int .i64 (h:Nat),undef,undef,undef,undef,undef,undef,undef,undef,undef,undef],[]⟩ [.inRegion uO3 [1],.code gcB]) cs)) (hI:HI H o out w) (hw:H[hs+5]? = some (wgBlock wgL.tWg 0 0)) (hq:Qs Try.prog Sn gs t q 0 w.heap.size) (hp:∀j a,touchAt t j=some a→PlF Fd a) (sl:Option (Nat × Nat)) :
  ∃N gs' w' sl' t' q' g',runNT Try.prog N (crowd gs w sl) t=(.next (crowd gs' w' sl'),t')∧gs'.size=gs.size∧gs'[0]? = some g'∧g'.status=.running∧gLd u h R hs bs bb cs g' ∧(∀b,b≠hs+5→w'.heap[b]? = H[b]?)∧w'.heap.size=H.size∧w'.os=o∧w'.output=out∧WgAt wgL.tWg (hs+5) w' ((h:Int)*KK) 0∧Qs Try.prog Sn gs' t' q' 0 w'.heap.size∧∀j a,touchAt t' j=some a→PlF Fd a:=by
 have kat:∀(st:Int) (w:World) (k:Nat),Wk wgL.tWg (hs+5) st w→Wk wgL.tWg (hs+5) st (w.at k):=fun _ _ _ h=>h
 have idF:∀(w:World) (k:Nat),(w.at k).heap=w.heap∧(w.at k).os=w.os∧(w.at k).output=w.output:=fun _ _=>⟨rfl,rfl,rfl⟩
 have hW0:Wk wgL.tWg (hs+5) 0 w:=by
  show w.heap[hs+5]? = _
  rw[hI.1]
  exact hw
 have hlt:hs+5<H.size:=(Array.getElem?_eq_some_iff.1 hw).1
 obtain ⟨N1,gs1,w1,sl1,t1,q1,g1,r1,z1,i1,s1,⟨⟨fr1,cs1,e1⟩,g1',st1,on1⟩,I1,K1,Q1,p1⟩:=fe (kat 0) h0 (xj u h R hs bs bb hh cs) hW0 hI hq hp sl
 obtain ⟨N2,gs2,w2,sl2,t2,q2,r2,z2,i2,I2,Q2,p2⟩:=iy (F:=id) i1 s1 on1.1 I1 idF (fun _=>rfl) (fun k=>st1 _) (fun e he=>by
  rw[Array.mem_singleton] at he
  subst he
  exact tL rfl (by decide)) Q1 p1 sl1
 have I2':HI H o out w2:=by rw[show (id w1).heap=H from I1.1] at I2;exact I2
 have W2:Wk wgL.tWg (hs+5) 0 w2:=by show w2.heap[hs+5]? = _;rw[I2'.1];exact hw
 have Q2':Qs Try.prog Sn gs2 t2 q2 1 w2.heap.size:=Q2
 obtain ⟨N3,gs3,w3,sl3,t3,q3,g3,r3,z3,i3,s3,⟨⟨fr3,cs3,e3⟩,g3',st3,on3⟩,I3,K3,Q3,p3⟩:=fe (kat 0) i2 on1 W2 I2' Q2' p2 sl2
 obtain ⟨N4,gs4,w4,sl4,t4,q4,r4,z4,i4,I4,Q4,p4⟩:=iy (F:=fun w=>w.setCell (stA (hs+5)) (.int .u64 ((h:Int)*KK))) i3 s3 on3.1 I3 (fun _ _=>⟨rfl,rfl,rfl⟩) (fun w=>by simp) (fun k=>st3 _ K3) (fun e he=>by
  simp at he
  have hl:(stA (hs+5)).block<w3.heap.size:=by rw[I3.1];exact hlt
  rcases he with rfl | rfl
  ·exact ⟨⟨fun e=>(by cases e),fun x hx=>by cases hx;exact ⟨hl,fun _ e=>by cases e⟩⟩,fun x hx ad e=>by cases hx;cases e;exact fun e=>hF e.symm⟩
  ·exact ⟨⟨fun e=>(by cases e),fun x hx=>by cases hx;exact ⟨hl,fun _ e=>by cases e⟩⟩,fun x hx ad e=>by cases hx;cases e;exact fun e=>hF e.symm⟩) Q3 p3 sl3
 have W4:Wk wgL.tWg (hs+5) ((h:Int)*KK) w4:=by
  show w4.heap[hs+5]? = _
  rw[I4.1]
  exact WgAt.setSt K3 _
 have Q4':Qs Try.prog Sn gs4 t4 q4 1 w4.heap.size:=Q4
 obtain ⟨N5,gs5,w5,sl5,t5,q5,g5,r5,z5,i5,s5,⟨⟨fr5,cs5,e5⟩,g5',st5,on5⟩,I5,K5,Q5,p5⟩:=fe (kat _) i4 on3 W4 I4 Q4' p4 sl4
 have hsz4:w4.heap.size=H.size:=by rw[I4.1];simp[I3.1]
 obtain ⟨N6,gs6,w6,sl6,t6,q6,r6,z6,i6,I6,Q6,p6⟩:=iy (F:=id) i5 s5 on5.1 I5 idF (fun _=>rfl) (fun k=>st5 _ K5) (fun e he=>by
  rw[Array.mem_singleton] at he
  subst he
  have hl:(smA (hs+5)).block<w5.heap.size:=by rw[I5.1,←I4.1,hsz4];exact hlt
  exact ⟨⟨fun e=>(by cases e),fun x hx=>by cases hx;exact ⟨hl,fun _ e=>by cases e⟩⟩,fun x hx ad e=>by cases hx;cases e;exact fun e=>hF e.symm⟩) Q5 p5 sl5
 have Q6':Qs Try.prog Sn gs6 t6 q6 1 w6.heap.size:=Q6
 have W6:Wk wgL.tWg (hs+5) ((h:Int)*KK) w6:=by show w6.heap[hs+5]? = _;rw[I6.1];exact K5
 obtain ⟨N7,gs7,w7,sl7,t7,q7,g7,r7,z7,i7,s7,⟨⟨fr7,cs7,e7⟩,g7',st7,on7⟩,I7,K7,Q7,p7⟩:=fe (kat _) i6 on5 W6 I6 Q6' p6 sl6
 obtain ⟨N8,gs8,w8,sl8,t8,q8,r8,z8,i8,I8,Q8,p8⟩:=iy (F:=id) i7 s7 on7.1 I7 idF (fun _=>rfl) (fun k=>st7 _) (fun e he=>by
  rw[Array.mem_singleton] at he
  subst he
  exact tL rfl (by decide)) Q7 p7 sl7
 have Q8':Qs Try.prog Sn gs8 t8 q8 0 w8.heap.size:=Q8
 have W8:Wk wgL.tWg (hs+5) ((h:Int)*KK) w8:=by show w8.heap[hs+5]? = _;rw[I8.1];exact K7
 obtain ⟨N9,gs9,w9,sl9,t9,q9,g9,r9,z9,i9,s9,jn9,I9,K9,Q9,p9⟩:=fe (kat _) i8 on7 W8 I8 Q8' p8 sl8
 have hh9:w9.heap=w4.heap:=by
  rw[I9.1]
  show w7.heap=w4.heap
  rw[I7.1]
  show w5.heap=w4.heap
  rw[I5.1,I4.1]
 refine ⟨N1+(N2+(N3+(N4+(N5+(N6+(N7+(N8+N9))))))),gs9,w9,sl9,t9,q9,g9,?_,by rw[z9,z8,z7,z6,z5,z4,z3,z2,z1],i9,s9,jn9,fun b hb=>?_,by rw[hh9];exact hsz4,I9.2.1,I9.2.2,K9,Q9,p9⟩
 ·rw[runNT_add,r1]
  show runNT Try.prog (N2+(N3+(N4+(N5+(N6+(N7+(N8+N9))))))) (crowd gs1 w1 sl1) t1=_
  rw[runNT_add,r2]
  show runNT Try.prog (N3+(N4+(N5+(N6+(N7+(N8+N9)))))) (crowd gs2 w2 sl2) t2=_
  rw[runNT_add,r3]
  show runNT Try.prog (N4+(N5+(N6+(N7+(N8+N9))))) (crowd gs3 w3 sl3) t3=_
  rw[runNT_add,r4]
  show runNT Try.prog (N5+(N6+(N7+(N8+N9)))) (crowd gs4 w4 sl4) t4=_
  rw[runNT_add,r5]
  show runNT Try.prog (N6+(N7+(N8+N9))) (crowd gs5 w5 sl5) t5=_
  rw[runNT_add,r6]
  show runNT Try.prog (N7+(N8+N9)) (crowd gs6 w6 sl6) t6=_
  rw[runNT_add,r7]
  show runNT Try.prog (N8+N9) (crowd gs7 w7 sl7) t7=_
  rw[runNT_add,r8]
  exact r9
 ·rw[hh9,I4.1]
  rw[Below.heap_setCell _ _ _ _ (show b≠(stA (hs+5)).block from hb),I3.1]
set_option maxRecDepth 100000 in
set_option maxHeartbeats 8000000 in
theorem zq (u:Nat→Value) (h R hs bs bb:Nat) (hh:1≤h∧h≤16) (cs:List Frame) {Sn:Nat→Prop} {Fd:Nat} {H:Array Obj} {o:Os} {out:Array (Nat × ByteArray)} (hr:H[hs]? = some (.cells #[.int .i64 (h:Nat)] 3 (0,0))) (hSn:¬Sn hs) (hF:hs≠Fd) {g:Goroutine} (hg:gLd u h R hs bs bb cs g) (w:World) (hI:HI H o out w) :
  Goes Try.prog true AtRel (DG Sn Fd) (fun g' w'=>(g'.status=.running∧∀c:Cst,c.n=h→c.Fd=hs+4→c.C2=hs+5→gcA c (hs+1) hs (hs+2) (hs+3) cs 0 g')∧HI H o out w') 40 g w:=by
 have q1:decide ((0:Int)<(h:Int))=true:=decide_eq_true (by omega)
 have q2:decide (0<h)=true:=decide_eq_true (by omega)
 unfold gLd at hg
 subst hg
 simp only[uO4,uBk,gF,gcB,Try.f35,Option.getD_some]
 refine aE hI rfl (fun w₁ h₁=>?_)
 refine goes_oper_k rfl rfl (by decide) (fun K hK=>?_)
 have hC:w₁.cell? ⟨hs,0,none⟩=some (.int .i64 (h:Nat)):=fJ (T:=3) (by rw[h₁.1];exact hr)
 have hbl:hs<w₁.heap.size:=by rw[h₁.1];exact (Array.getElem?_eq_some_iff.1 hr).1
 go_simp
 refine hK _ _ ⟨bW (by simp) (fun e he=>?_),?_⟩
 ·have hm:=mem_listed he
  simp[go_sem,hC] at hm
  subst hm
  exact ew hbl hSn hF
 clear hK K hI hC hbl
 have hI:=h₁
 clear h₁
 refine aE hI rfl (fun w₁ h₁=>?_)
 refine goes_oper_k rfl rfl (by decide) (fun K hK=>?_)
 go_simp
 refine hK _ _ ⟨bW (by simp) (fun e he=>?_),?_⟩
 ·have hm:=mem_listed he
  simp[go_sem, *] at hm
 clear hK K hI
 have hI:=h₁
 clear h₁
 repeat (refine aE hI rfl (fun w₁ h₁=>?_);walk_rw;refine ⟨aQ _,?_⟩;clear hI;have hI:=h₁;clear h₁)
 refine aE hI rfl (fun w₁ h₁=>?_)
 refine goes_oper_k rfl rfl (by decide) (fun K hK=>?_)
 go_simp
 refine hK _ _ ⟨bW (by simp) (fun e he=>?_),?_⟩
 ·have hm:=mem_listed he
  simp[go_sem, *] at hm
 clear hK K hI
 have hI:=h₁
 clear h₁
 repeat (refine aE hI rfl (fun w₁ h₁=>?_);walk_rw;refine ⟨aQ _,?_⟩;clear hI;have hI:=h₁;clear h₁)
 refine aE hI rfl (fun w₁ h₁=>?_)
 rw[stepG_cond (t:=true) rfl]
 simp only[goes_go,if_true]
 refine ⟨aQ _,?_⟩
 clear hI
 have hI:=h₁
 clear h₁
 repeat (refine aE hI rfl (fun w₁ h₁=>?_);walk_rw;refine ⟨aQ _,?_⟩;clear hI;have hI:=h₁;clear h₁)
 refine aE hI rfl (fun w₁ h₁=>?_)
 refine goes_oper_k rfl rfl (by decide) (fun K hK=>?_)
 go_simp
 refine hK _ _ ⟨bW (by simp) (fun e he=>?_),?_⟩
 ·have hm:=mem_listed he
  simp[go_sem, *] at hm
 clear hK K hI
 have hI:=h₁
 clear h₁
 refine Goes.stop fun w₂ h₂=>?_
 obtain ⟨d,rfl⟩:=h₂
 refine ⟨⟨rfl,fun c e1 e2 e3=>?_⟩,hI⟩
 refine Eq.mp ?_ (yt (c:=c) (bT:=hs+1) (bH:=hs) (bL:=hs+2) (bR:=hs+3) (cs:=cs) (j:=0) #[.int .i64 (h:Nat),.int .i64 (R:Nat),.func (.func 36) #[] #[.pointer (some ⟨bs,0,none⟩),.pointer (some ⟨bb,0,none⟩)],.pointer (some ⟨hs,0,none⟩),.pointer (some ⟨hs+1,0,none⟩),.pointer (some ⟨hs+2,0,none⟩),.pointer (some ⟨hs+3,0,none⟩),.pointer (some ⟨hs+4,0,none⟩),.pointer (some ⟨hs+5,0,none⟩),undef,u 10,u 11,.int .i64 (h:Nat),.tuple #[],.int .i64 (h:Nat),.int .i64 0,.bool true,.int .i64 0,undef,undef,undef,undef,undef] rfl rfl rfl rfl rfl (by rw[e2];rfl) (by rw[e3];rfl) (by rw[e1];rfl) rfl rfl)
 rfl
end Cs
namespace Cs
open Go.Conc Go.RowKit PK
open Go.ConcR (KK WgAt wgBlock)
variable [Fns] in
theorem qb {P:Program} {w:World} {E:Env} {wl:World} (h:Cq P E wl w) (hsh:∀b q s,E b≠some (q,s,true)) {TJ:TypeId} (hJ:P.info? TJ=none) {a:Option Addr} {m n cap:Nat} (hmn:n≤m) {f:Nat→Value} (hf:∀i E',VR E' (f i) (f i)) (hc:∀c,c<m→∃b o,a=some ⟨b,o,none⟩∧w.cell? ⟨b,o+c,none⟩=some (f c)) (hr:Rt w (.slice a n cap)) :
  ∃E' wl' a',Cq P E' wl' w∧(∀b q s,E' b≠some (q,s,true))∧(∀b q s o,E' b=some (q,s,o)→E b=some (q,s,o)∨(q<w.heap.size∧∃ad,a=some ad∧q=ad.block∧¬(m=0∧cap=0)))∧jj E E' wl wl'∧VR E' (.slice a' n cap) (.slice a n cap)∧∀c,c<m→∃b o,a'=some ⟨b,o,none⟩∧wl'.cell? ⟨b,o+c,none⟩=some (f c):=by
 cases a with
 | none =>
  refine ⟨E,wl,none,h,hsh,fun _ _ _ _ e=>.inl e,jj.refl _ _,.bY n cap,fun c hc'=>?_⟩
  obtain ⟨b,o,e,_⟩:=hc c hc'
  cases e
 | some ad =>
  by_cases hz:m=0∧cap=0
  ·obtain ⟨rfl,rfl⟩:=hz
   obtain rfl:n=0:=by omega
   exact ⟨E,wl,some ad,h,hsh,fun _ _ _ _ e=>.inl e,jj.refl _ _,.bP ad ad,fun c hc'=>absurd hc' (Nat.not_lt_zero _)⟩
  ·have hrow:ad.spot=none∧∃y T fr,w.heap[ad.block]? = some (.cells y T fr):=by
    by_cases h0:0<m
    ·obtain ⟨b,o,e,k⟩:=hc 0 h0
     cases e
     obtain ⟨y,T,fr,k1⟩:=ji k
     exact ⟨rfl,y,T,fr,k1⟩
    ·exact hr ad n cap rfl (by omega)
   obtain ⟨b,o,sp⟩:=ad
   obtain ⟨hsp,y,T,fr,hq⟩:=hrow
   dsimp only at hsp hq
   subst hsp
   obtain ⟨E',c1,c2,c3,c4,c5⟩:=h.row hJ (s:=o) hq (fun b s'=>hsh b _ s') (Array.ofFn fun i:Fin m=>f i) (fun i u hu=>by
    obtain ⟨hi,rfl⟩:=Array.getElem?_eq_some_iff.1 hu
    simp only[Array.size_ofFn] at hi
    obtain ⟨b',o',e,k⟩:=hc i hi
    cases e
    refine ⟨f i,?_,by rw[Array.getElem_ofFn];exact hf _ _⟩
    rw[cell_of_row _ _ _ _ _ _ hq] at k
    rw[Nat.add_comm]
    exact k)
   refine ⟨E',_,some ⟨wl.heap.size,0,none⟩,c1,fun b' q' s' e=>?_,fun b' q' s' o' e=>?_,c2,.slice n cap ?_,fun c hc'=>⟨wl.heap.size,0,rfl,?_⟩⟩
   ·rcases c5 b' q' s' true e with ⟨_,_,_,e'⟩ | e'
    ·cases e'
    ·exact hsh _ _ _ e'
   ·rcases c5 b' q' s' o' e with ⟨_,rfl,_,_⟩ | e'
    ·exact .inr ⟨(Array.getElem?_eq_some_iff.1 hq).1,_,rfl,rfl,hz⟩
    ·exact .inl e'
   ·have:=c3 0
    rw[Nat.zero_add] at this
    exact this
   ·rw[Nat.zero_add]
    exact c4 c _ (by rw[Array.getElem?_eq_getElem (by simpa using hc'),Array.getElem_ofFn])
noncomputable def kE (s:ByteArray) (f:Nat→Int) (seed t:Nat):Nat→Nat:=Jm.up (sc s f) (Jm.bgK ((seed+t) % 18446744073709551616) 25)
noncomputable def kK (s:ByteArray) (f:Nat→Int) (seed t:Nat):Nat→Int:=Pm.up (kE s f seed t)
noncomputable def kZ (s:ByteArray) (f:Nat→Int) (seed t:Nat):Int:=sc s f (kE s f seed t)
theorem Dr (s:ByteArray) (f:Nat→Int) (seed t:Nat):tlV (kK s f seed) (kZ s f seed) t=.agg (ints 28 (clF (Pm.up (kE s f seed t)) (sc s f (kE s f seed t)) t)):=rfl
theorem zv {s:ByteArray} (hs:Vg.Ls s.data.toList) (hl:s.size≤256) {pa:Option Addr} {pc:Nat} {ta:Option Addr} {tc:Nat} {f:Nat→Int} (hf:∀i,i<676→-1000≤f i∧f i≤1000) {w:World} (hp:gC w (.slice pa (s.size-1) pc) s) (hv:aY w (.slice ta 676 tc) 676 f):sF w pa (s.size-1) pc ta 676 tc (sc s f) :=
 ⟨fun _ hk=>xx hs hl hf hk,fun W k hW hk=>lY s hs hl _ _ f hf k hk W (hp.below hW) (hv.below hW)⟩
theorem vS {w:World} {a:Option Addr} {s:ByteArray} {cap:Nat} (h:∀c,c<(s.size-1)*2→∃b o,a=some ⟨b,o,none⟩∧w.cell? ⟨b,o+c,none⟩=some (.int .i64 (prF s c))):gC w (.slice a (s.size-1) cap) s:=by
 refine ⟨a,cap,rfl,fun k hk=>?_⟩
 obtain ⟨b,o,e,k0⟩:=h (k*2+0) (by omega)
 obtain ⟨b',o',e',k1⟩:=h (k*2+1) (by omega)
 rw[e] at e'
 cases e'
 refine ⟨b,o,e,fun j u hu=>?_⟩
 have hj:j<2:=by
  have:=(List.getElem?_eq_some_iff.1 hu).1
  simpa using this
 rcases (by omega:j=0∨j=1) with rfl | rfl
 ·cases hu
  unfold prF at k0
  rw[if_pos (by omega),show (k*2+0) / 2=k by omega] at k0
  exact k0
 ·cases hu
  unfold prF at k1
  rw[if_neg (by omega),show (k*2+1) / 2=k by omega] at k1
  exact k1
theorem uO {w:World} {a:Option Addr} {s:ByteArray} {n cap:Nat} (h:gC w (.slice a n cap) s):n=s.size-1∧∀c,c<(s.size-1)*2→∃b o,a=some ⟨b,o,none⟩∧w.cell? ⟨b,o+c,none⟩=some (.int .i64 (prF s c)):=by
 obtain ⟨pa,pc,e,h1⟩:=h
 cases e
 refine ⟨rfl,fun c hc=>?_⟩
 obtain ⟨b,o,e,k⟩:=h1 (c / 2) (by omega)
 refine ⟨b,o,e,?_⟩
 by_cases h0:c % 2=0
 ·have:=k 0 _ rfl
  rw[show o+c / 2*2+0=o+c by omega] at this
  unfold prF
  rw[if_pos h0]
  exact this
 ·have:=k 1 _ rfl
  rw[show o+c / 2*2+1=o+c by omega] at this
  unfold prF
  rw[if_neg h0]
  exact this
set_option maxHeartbeats 1000000 in
theorem qo (s:ByteArray) (pv v:Value) (n seed t b7 b13:Nat) (f:Nat→Int) (hcw:cwE s.data.toList n f=0) (ht:t≤16) (w:World) (hp:gC w pv s) (rp:Rt w pv) (cp:∀a l c,pv=.slice a l c→l≤c) (hv:aY w v n f) (rv:Rt w v) (h13:w.heap[b13]? = some (.cells #[pv,v] 66 (0,0))) (h7:w.heap[b7]? = some (.cells #[.int .u64 (seed:Nat)] 39 (0,0))) :
  ∃(E:Env) (wl:World) (u:Array Value),(∀b q s' o,E b=some (q,s',o)→o=false∧q<w.heap.size∧((∃ad l c,pv=.slice (some ad) l c∧q=ad.block∧0<c)∨(∃ad l c,v=.slice (some ad) l c∧q=ad.block)∨q=b13∨q=b7))∧LR E u #[.int .i64 (t:Nat),.pointer (some ⟨b13,0,none⟩),.pointer (some ⟨b7,0,none⟩)]∧WR Try.prog E wl w∧Fns.G≤wl.heap.size∧∀τ,Calls Try.prog 36 u (wl.tp τ) fun e _=>∃v,e=.returned v∧v=tlV (kK s f seed) (kZ s f seed) t:=by
 obtain ⟨hc0,hl,rfl,hf⟩:=eY hcw
 have hs:=(mz hc0).1
 have hl2:s.size≤256:=by have:=Pl.c6 s;omega
 obtain ⟨pa,pc,rfl,_⟩:=id hp
 obtain ⟨_,hpc⟩:=uO hp
 have hcap:=cp _ _ _ rfl
 obtain ⟨av,cv,rfl,nv,kv⟩:=hv
 have hn0:∀b q s,(fun _=>none:Env) b≠some (q,s,true):=fun b q s e=>by cases e
 obtain ⟨E1,wl1,ap',c1,s1,x1,e1,r1,k1⟩:=qb (P:=Try.prog) (w:=w) (Cp.nil w).cq hn0 dG (m:=(s.size-1)*2) (n:=s.size-1) (cap:=pc) (by omega) (f:=fun i=>.int .i64 (prF s i)) (fun i E=>.int _ _) hpc rp
 obtain ⟨E2,wl2,av',c2,s2,x2,e2,r2,k2⟩:=qb c1 s1 dG (m:=676) (n:=676) (cap:=cv) (Nat.le_refl _) (f:=fun i=>.int .i64 (f i)) (fun i E=>.int _ _) kv rv
 obtain ⟨E3,c3,e3,a3,k3,x3⟩:=c2.row dG (s:=0) h13 (fun b s'=>s2 b _ s') #[.slice ap' (s.size-1) pc,.slice av' 676 cv] (fun i u hu=>by
  have hi:i=0∨i=1:=by
   have:=(Array.getElem?_eq_some_iff.1 hu).1
   simp at this
   omega
  rcases hi with rfl | rfl
  ·cases hu
   exact ⟨_,rfl,r1.mono e2.le⟩
  ·cases hu
   exact ⟨_,rfl,r2⟩)
 have s3:∀b q s',E3 b≠some (q,s',true):=fun b q s' e=>by
  rcases x3 b q s' true e with ⟨_,_,_,e'⟩ | e'
  ·cases e'
  ·exact s2 _ _ _ e'
 obtain ⟨E4,c4,e4,a4,k4,x4⟩:=c3.row dG (s:=0) h7 (fun b s'=>s3 b _ s') #[.int .u64 (seed:Nat)] (fun i u hu=>by
  have hi:i=0:=by
   have:=(Array.getElem?_eq_some_iff.1 hu).1
   simp at this
   omega
  subst hi
  cases hu
  exact ⟨_,rfl,.int _ _⟩)
 have lt13:=(Array.getElem?_eq_some_iff.1 h13).1
 have lt7:=(Array.getElem?_eq_some_iff.1 h7).1
 refine ⟨E4,_,#[.int .i64 (t:Nat),.pointer (some ⟨wl2.heap.size,0,none⟩),.pointer (some ⟨(wl2.alloc (.cells #[.slice ap' (s.size-1) pc,.slice av' 676 cv] _ (0,2))).heap.size,0,none⟩)],fun b q s' o e=>?_,ak (.int _ _) (ak (.ptr ((a3 0).mono e4.le)) (ak (.ptr (a4 0)) pH)),c4.wr,c4.big,fun τ=>?_⟩
 ·rcases x4 b q s' o e with ⟨_,rfl,_,rfl⟩ | e
  ·exact ⟨rfl,lt7,.inr (.inr (.inr rfl))⟩
  ·rcases x3 b q s' o e with ⟨_,rfl,_,rfl⟩ | e
   ·exact ⟨rfl,lt13,.inr (.inr (.inl rfl))⟩
   ·refine ⟨?_,?_⟩
    ·cases o with
     | false=>rfl
     | true=>exact absurd e (s2 b q s')
    ·rcases x2 b q s' o e with e | ⟨e,ad,f1,f2,_⟩
     ·rcases x1 b q s' o e with e | ⟨e,ad,f1,f2,f3⟩
      ·cases e
      ·exact ⟨e,.inl ⟨ad,_,_,by rw[f1],f2,by omega⟩⟩
     ·exact ⟨e,.inr (.inl ⟨ad,_,_,by rw[f1],f2⟩)⟩
 ·have hP:gC (World.tp ((wl2.alloc (.cells #[.slice ap' (s.size-1) pc,.slice av' 676 cv] 1000000000 (0,2))).alloc (.cells #[.int .u64 (seed:Nat)] 1000000000 (0,1))) τ) (.slice ap' (s.size-1) pc) s:=vS fun c hc=>by
   obtain ⟨b,o,e,k⟩:=k1 c hc
   exact ⟨b,o,e,((e2.trans e3).trans e4).cell k⟩
  have hV:aY (World.tp ((wl2.alloc (.cells #[.slice ap' (s.size-1) pc,.slice av' 676 cv] 1000000000 (0,2))).alloc (.cells #[.int .u64 (seed:Nat)] 1000000000 (0,1))) τ) (.slice av' 676 cv) 676 f:=⟨av',cv,rfl,nv,fun c hc=>by
   obtain ⟨b,o,e,k⟩:=k2 c hc
   exact ⟨b,o,e,(e3.trans e4).cell k⟩⟩
  refine (wU ap' (s.size-1) pc av' 676 cv (sc s f) wl2.heap.size _ seed t ht _ (zv hs hl2 hf hP hV) (fun j u hu=>?_) (k4 0 _ rfl)).mono ?_
  ·rw[Nat.zero_add]
   exact e4.cell (k3 j u (by rw[←Array.getElem?_toList];exact hu))
  ·rintro e w' ⟨k,hk,rfl,_⟩
   refine ⟨_,rfl,?_⟩
   rw[Dr,kE,hk.up]
end Cs
end Go.Proofs.Ytpdemelchhkfaaa
