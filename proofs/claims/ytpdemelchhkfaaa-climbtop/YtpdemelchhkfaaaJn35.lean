import Derived.Deep.Matrix
import Derived.Test.YtpdemelchhkfaaaJn34
namespace Go.Proofs.Ytpdemelchhkfaaa
section
open Go.RowKit PK Cs
set_option maxRecDepth 100000 in
set_option maxHeartbeats 4000000 in
theorem yp (T:Array Value) (s:ByteArray) (v:Value) (seed:Nat) (tries ah others:Int) (F:Nat→Int) (e:Int) (he:e≠0) (w:World) (hT:Cs.PtA s v seed tries ah others T) (h33:T[33]? = some (.tuple #[.agg (ints 28 F),.int .i64 e])) :
  wpOps Try.prog Cs.pO3 (Exit.then ((Cs.m9 4 (Cs.az 3 Cs.pB)).wp Try.prog (bodyPost Try.prog Try.f6 (Cs.fE fun u _=>u=.bool true))) (bodyPost Try.prog Try.f6 (Cs.fE fun u _=>u=.bool true))) (List.range' 6 6) ⟨T,[]⟩ w:=by
 obtain ⟨j,rfl⟩:=hT.lit
 clear hT
 have e33:j 33=.tuple #[.agg (ints 28 F),.int .i64 e]:=Option.some.inj (show some (j 33)=some _ from h33)
 rw[e33]
 clear h33 e33
 refine jP 6 6 rfl ?_
 have hb:(e != 0)=true:=by simpa using he
 have hz:=gh (P:=Try.prog) (t:=43) (z:=.agg (ints 28 fun _=>0)) (by kernel_rfl)
 simp only[Cs.pO3,Cs.m9,Cs.pB,Cs.az,Try.f6,Option.getD_some,List.drop]
 have hx0:=ai.new w 43 (ints 28 fun _=>0)
 go_wp2_with (first | refine wpList_store_row rfl 43 _ _ rfl w.heap.size (ints 28 F) rfl rfl 43 _ hx0 (by rw[af];exact bz) (by simp only[af]) (aS _ _) ?_)
 refine ⟨rfl,.bool true,?_,_,rfl,rfl⟩
 simp[results,Array.mapM_eq_mapM_toList,List.mapM_cons]
namespace Cs
open Go.Conc
open Go.ConcM (OsLater)
section
variable [Fns]
variable {P:Program} {Post:Value→World→Prop} {fB:FuncId} {c:List Frame} {ct:Code} {E:Env} {gl g:Goroutine} {wl w:World}
theorem cw.mid (hf:dK P fB) {x y:Array Value} (hx:LR E x y) (hw:WR P E wl w) (hb:Fns.G≤wl.heap.size) {todo todo':List Item} (ht:todo.all (aK P)=true) (hr:RU ct todo todo') (h:∀τ,Reach P [ay P] Post (G (mkF fB x todo .run) [ay P]) (wl.tp τ)) :
  cw P Post fB c ct E (G (mkF fB x todo .run) [ay P]) wl (G (mkF fB y todo' .run) c) w:=⟨.top hf hx ht hr,hw,hb,fun τ _=>h τ⟩
theorem pL {Sn:Nat→Prop} (hG:P.globals.size≤Fns.G) (hC:bu P) {gs:Array Goroutine} {t:Trace} {q:Nat→Nat} {d:Nat} {sl:Option (Nat × Nat)} (hn:∀b x,E b=some x→¬Sn x.1) (hsn:∀b,Sn b→b<w.heap.size) (h0:gs[0]? = some g) (hin:cw P Post fB c ct E gl wl g w) (hq:Qs P Sn gs t q d w.heap.size) :
  ∃N gs' w' sl' t' q' E' gl' wl' g',runNT P N (crowd gs w sl) t=(.next (crowd gs' w' sl'),t')∧gs'.size=gs.size∧gs'[0]? = some g'∧cw P Post fB c ct E' gl' wl' g' w'∧Stop [ay P] gl'∧FC E E' w w'∧Qs P Sn gs' t' q' d w'.heap.size:=by
 have hnn:∀{E':Env} {w':World},FC E E' w w'→∀b x,E' b=some x→¬Sn x.1:=fun {E' w'} hf b x hx hs=>by
  obtain ⟨c,s,o⟩:=x
  rcases hf.fresh b c s o hx with h1 | ⟨h1,_⟩
  ·exact hn b _ h1 hs
  ·exact absurd (hsn c hs) (by omega)
 let Q:Nat→Goroutine→World→Prop:=fun d' g' w'=>d'=d∧∃E' gl' wl',cw P Post fB c ct E' gl' wl' g' w'∧Stop [ay P] gl'∧FC E E' w w'
 let I:Option { s:Gh // Acc (After P [ay P]) s }→Nat→Goroutine→World→Prop:=fun μ d' g' w'=>match μ with
  | some s=>d'=d∧∃E',cw P Post fB c ct E' s.1.1 s.1.2 g' w'∧FC E E' w w'
  | none=>False
 have fcAt:∀{E':Env} {w':World} (k:Nat),FC E E' w w'→FC E E' w (w'.at k):=fun k h=>⟨h.le,h.os,h.tape,h.output,h.size,h.keep,h.fresh⟩
 have fcAt':∀{E':Env} {w':World} (k:Nat),FC E E' w (w'.at k)→FC E E' w w':=fun k h=>⟨h.le,h.os,h.tape,h.output,h.size,h.keep,h.fresh⟩
 have a1:∀μ d' g' w' k,I μ d' g' w'→I μ d' g' (w'.at k):=fun μ d' g' w' k h=>by
  cases μ with
  | none=>exact h.elim
  | some s =>
   obtain ⟨h0,E',h1,h2⟩:=h
   exact ⟨h0,E',h1.other fun _ _ _=>rfl,fcAt k h2⟩
 have a2:∀d' g' w' k,Q d' g' (w'.at k)→Q d' g' w':=fun d' g' w' k h=>by
  obtain ⟨h1,E',gl',wl',k1,k2,k4⟩:=h
  exact ⟨h1,E',gl',wl',k1.other fun _ _ _=>rfl,k2,fcAt' k k4⟩
 have a3:∀μ d' g' w',I μ d' g' w'→g'.status=.running:=fun μ d' g' w' h=>by
  cases μ with
  | none=>exact h.elim
  | some s =>
   obtain ⟨_,E',h1,h2⟩:=h
   exact h1.running
 have a4:∀μ d' g' w',I μ d' g' w'→Q d' g' w'∨∃g2 w2 es μ',stepG P true g' w'=.go g2 w2 es∧lM P μ' μ∧I μ' (deafBehind d' es) g2 w2∧w'.heap.size≤w2.heap.size∧∀e ∈ es,EvS Sn w2.heap.size e:=fun μ d' g' w' h=>by
  cases μ with
  | none=>exact h.elim
  | some s =>
   obtain ⟨rfl,E1,hin1,hf1⟩:=h
   by_cases hs:Stop [ay P] s.1.1
   ·exact .inl ⟨rfl,E1,_,_,hin1,hs,hf1⟩
   ·obtain ⟨E',gl',wl',g2,w2,es,hst,hin',haft,hev,hfc⟩:=hin1.step hG hC true hs
    have hok:=fun e he=>mV (Sn:=Sn) hin'.wr (hnn (hf1.trans hfc)) (hev e he)
    exact .inr ⟨g2,w2,es,some ⟨(gl',wl'),dY hin'.live⟩,hst,.on haft,⟨deafBehind_still (fun e he=>(hok e he).2) _,E',hin',hf1.trans hfc⟩,hfc.size,fun e he=>(hok e he).1⟩
 obtain ⟨N,gs',w',sl',t',q',d',g',h1,h2,h3,⟨rfl,E',gl',wl',k1,k2,k4⟩,h5⟩:=iD (P:=P) (mg P) I Q a1 a2 a3 a4 (μ:=some ⟨(gl,wl),dY hin.live⟩) (sl:=sl) h0 ⟨rfl,E,hin,FC.refl E w⟩ hq
 exact ⟨N,gs',w',sl',t',q',E',gl',wl',g',h1,h2,h3,k1,k2,k4,h5⟩
theorem cw.atEnd (hin:cw P Post fB [] ct E gl wl g w) (hs:Stop [ay P] gl) {f:Func} {t:Nat} (hf:P.funcs[fB]? = some f) (hr:f.results=#[.tmp t]) (hn:P.inits.idxOf? fB=none) :
  ∃v v' wl2,Post v wl2∧VR E v v'∧g.status=.running∧∀w,stepG P true g w=.ended (.done v') w #[]:=by
 have hl0:=hin.live (aL wl w) (fun i q hi=>bK q hi)
 cases hin.gt with
 | top=>cases hs.1
 | sub _ _ _ _ h3 =>
  exfalso
  obtain ⟨fn,x,y,todo,mode,l,l',rfl,rfl,_,_,_,_,hcr⟩:=h3.ex
  have:=hcr.len.1
  have q3:l=[ay P]:=hs.2
  rw[q3] at this
  simp at this
 | @back x y todo todo' hf' hx ht =>
  obtain ⟨v,hlv,hp⟩:=iM (GR.mk' hf' hx ht (.inr rfl) (.base (c:=[]))) hs hl0
  obtain ⟨_,_,_,f2,hfn2,hr2⟩:=hlv
  have e2:f2=f:=by
   have h1:P.funcs[fB]? = some f2:=hfn2
   rw[hf] at h1
   injection h1 with h1
   exact h1.symm
  subst e2
  have hr3:(results f2 x).run P (wl.tp (aL wl w))=.ok v (wl.tp (aL wl w)):=hr2
  rw[(resultsC_tmp (P:=P) hr x (wl.tp (aL wl w))).1] at hr3
  injection hr3 with hv _
  subst hv
  refine ⟨_,_,_,hp,jG hx t,rfl,fun w=>?_⟩
  have h1:=(resultsC_tmp (P:=P) hr y w).1
  have h2:=(resultsC_tmp (P:=P) hr y w).2
  have h3:(results f2 y).runT P w #[]=(.ok (y.getD t undef) w,#[]):=by
   refine Prod.ext ?_ ?_
   ·rw[Sem.runT_fst];exact h1
   ·exact h2
  simp only[G,stepG,unwind,mkF,hf,doReturn,h3,hn]
  rfl
end
def Ends (W:World) (gs:Array Goroutine) (w:World) (sl:Option (Nat × Nat)) (t:Trace):Prop:=∃N last o w' t',runNT Try.prog (N+1) (crowd gs w sl) t=(.ended o w',t')∧runN Try.prog N (crowd gs w sl)=.next last∧step Try.prog last=.ended o w'∧Conc.Good Try.prog (fun u W'=>u=.bool true∧Kept W W') last o w' t'
theorem Ends.then {W:World} {gs gs':Array Goroutine} {w w':World} {sl sl':Option (Nat × Nat)} {t t':Trace} {N:Nat} (h:runNT Try.prog N (crowd gs w sl) t=(.next (crowd gs' w' sl'),t')) (k:Ends W gs' w' sl' t'):Ends W gs w sl t:=by
 obtain ⟨M,last,o,w2,t2,x1,x2,x3,x4⟩:=k
 refine ⟨N+M,last,o,w2,t2,?_,?_,x3,x4⟩
 ·rw[Nat.add_assoc N M 1,runNT_add,h]
  exact x1
 ·rw[←runNT_fst _ _ _ t,runNT_add,h]
  show (runNT Try.prog M (crowd gs' w' sl') t').1=_
  rw[runNT_fst]
  exact x2
structure HK (W:World) (Sn:Nat→Prop) (gs:Array Goroutine) (t:Trace) (q:Nat→Nat) (w:World):Prop where
 qs:Qs Try.prog Sn gs t q 0 w.heap.size
 sn:∀b,Sn b→W.heap.size≤b∧b<w.heap.size
 keep:∀b,b<W.heap.size→w.heap[b]? = W.heap[b]?
 os:OsLater W.os w.os
 out:w.output=W.output
 size:W.heap.size≤w.heap.size
theorem uu {W:World} {Sn:Nat→Prop} {gs:Array Goroutine} {t:Trace} {q:Nat→Nat} {w:World} {sl:Option (Nat × Nat)} {g:Goroutine} (h:HK W Sn gs t q w) (i0:gs[0]? = some g) (hr:g.status=.running) (he:∀w,stepG Try.prog true g w=.ended (.done (.bool true)) w #[]):Ends W gs w sl t:=by
 obtain ⟨B0,hP⟩:=h.qs.AX
 obtain ⟨N5,last,o,w',t',x1,x2,x3,x4⟩:=beside_ends (P:=Try.prog) (Shun:=snL Sn) (B:=B0) (D:=fun _ _ _=>False) (Post:=fun u W'=>u=.bool true∧Kept W W') (sl:=sl) (n:=0) (fun _ _ _ h=>h.elim) i0 h.qs.lv (hP B0 (Nat.le_refl _)) (Goes.stop fun w₂ h₂=>by
  obtain ⟨d,rfl⟩:=h₂
  exact ⟨hr,.bool true,#[],he _,fun e he=>by simp at he,rfl,h.keep,h.os,h.out⟩)
 exact ⟨N5,last,o,w',t',x1,x2,x3,x4⟩
theorem tE {W:World} {Sn:Nat→Prop} {gs:Array Goroutine} {t:Trace} {q:Nat→Nat} {w:World} {sl:Option (Nat × Nat)} {E:Env} {gl g:Goroutine} {wl:World} (h:HK W Sn gs t q w) (i0:gs[0]? = some g) (hE:∀b q s o,E b=some (q,s,o)→o=false∧¬Sn q) (hg:dL g=6) (hin:bB Try.prog (fun u _=>u=.bool true) [] E gl wl g w):Ends W gs w sl t:=by
 obtain ⟨N4,gs4,w4,sl4,t4,q4,E4,gl4,wl4,g4,r4,z4,i4,in4,st4,la4,fc4,Q4⟩:=pe (sl:=sl) (Nat.le_refl _) cV (fun b y e hs'=>by
  obtain ⟨q',s',o'⟩:=y
  exact (hE b q' s' o' e).2 hs') (fun b hb=>(h.sn b hb).2) i0 hin h.qs
 obtain ⟨u2,u',wlu,hu,vu,run4,end4⟩:=in4.atEnd st4 (fn0:=6) (f:=Try.f6) (t:=12) (la4.trans hg) Try.func6 rfl (by kernel_rfl)
 obtain rfl:u'=.bool true:=by rw[hu] at vu;cases vu;rfl
 have hz:=fc4.size
 refine Ends.then r4 (uu (q:=q4) ⟨Q4,fun b hb=>⟨(h.sn b hb).1,by have:=(h.sn b hb).2;omega⟩,fun b hb=>?_,by rw[fc4.os];exact h.os,fc4.output.trans h.out,by have:=h.size;omega⟩ i4 run4 end4)
 have hs:=h.size
 rw[fc4.keep b (by omega) (fun b' s e=>by have:=(hE _ _ _ _ e).1;cases this),h.keep b hb]
theorem wL {W:World} {Sn:Nat→Prop} {gs:Array Goroutine} {t:Trace} {q:Nat→Nat} {w:World} {sl:Option (Nat × Nat)} {E:Env} {gl g:Goroutine} {wl:World} {ct:Code} (h:HK W Sn gs t q w) (i0:gs[0]? = some g) (hE:∀b q s o,E b=some (q,s,o)→o=false∧¬Sn q) (hin:cw Try.prog (fun u _=>u=.bool true) 6 [] ct E gl wl g w):Ends W gs w sl t:=by
 obtain ⟨N4,gs4,w4,sl4,t4,q4,E4,gl4,wl4,g4,r4,z4,i4,in4,st4,fc4,Q4⟩:=pL (sl:=sl) (Nat.le_refl _) cV (fun b y e hs'=>by
  obtain ⟨q',s',o'⟩:=y
  exact (hE b q' s' o' e).2 hs') (fun b hb=>(h.sn b hb).2) i0 hin h.qs
 obtain ⟨u2,u',wlu,hu,vu,run4,end4⟩:=in4.atEnd st4 (f:=Try.f6) (t:=12) Try.func6 rfl (by kernel_rfl)
 obtain rfl:u'=.bool true:=by rw[hu] at vu;cases vu;rfl
 have hz:=fc4.size
 refine Ends.then r4 (uu (q:=q4) ⟨Q4,fun b hb=>⟨(h.sn b hb).1,by have:=(h.sn b hb).2;omega⟩,fun b hb=>?_,by rw[fc4.os];exact h.os,fc4.output.trans h.out,by have:=h.size;omega⟩ i4 run4 end4)
 have hs:=h.size
 rw[fc4.keep b (by omega) (fun b' s e=>by have:=(hE _ _ _ _ e).1;cases this),h.keep b hb]
end Cs
end
namespace Cs
open Go.Conc Go.RowKit PK
open Go.ConcR (KK WgAt wgBlock)
open Go.ConcM (OsLater)
theorem nc {P:Program} {Post:Value→World→Prop} {fn:FuncId} {f:Func} {x:Array Value} {cs:List Frame} {w:World} (hf:P.funcs[fn]? = some f) {ops:Array Oper} {l:List Nat} {c c2:Code} (h:wpOps P ops (Exit.then (c.wp P (Exit.then (c2.wp P (bodyPost P f (fE Post))) (bodyPost P f (fE Post)))) (bodyPost P f (fE Post))) l ⟨x,[]⟩ w):Reach P cs Post (G (mkF fn x [.inRegion ops l,.code c,.code c2] .run) cs) w:=by
 obtain ⟨e,a1,w1,hq,harr⟩:=wp_ops l ⟨x,[]⟩ w h (mkF fn #[] [] .run) [.code c,.code c2] cs
 cases e with
 | normal =>
  obtain ⟨e2,a2,w2,hq2,harr2⟩:=hq (mkF fn #[] [] .run) [.code c2] cs
  cases e2 with
  | normal =>
   obtain ⟨e3,a3,w3,hq3,harr3⟩:=hq2 (mkF fn #[] [] .run) [] cs
   exact aT hf rfl hq3 (.of_steps harr (.of_steps harr2 harr3))
  | exit id=>exact hq2.elim
  | goto l=>exact hq2.elim
  | ret=>exact aT (e:=.ret) hf rfl hq2 (.pass (x:=.code c2) rfl (fun _ _=>.inl (by simp)) (.of_steps harr harr2))
  | panic ch=>exact aT (e:=.panic ch) hf rfl hq2 (.pass (x:=.code c2) rfl (fun _ _=>.inl (by simp)) (.of_steps harr harr2))
  | outgrown=>exact aT (e:=.outgrown) hf rfl hq2 (.pass (x:=.code c2) rfl (fun _ _=>.inl (by simp)) (.of_steps harr harr2))
 | exit id=>exact hq.elim
 | goto l=>exact hq.elim
 | ret=>exact aT (e:=.ret) hf rfl hq (.pass (x:=.code c2) rfl (fun _ _=>.inl (by simp)) (.pass (x:=.code c) rfl (fun _ _=>.inl (by simp)) harr))
 | panic ch=>exact aT (e:=.panic ch) hf rfl hq (.pass (x:=.code c2) rfl (fun _ _=>.inl (by simp)) (.pass (x:=.code c) rfl (fun _ _=>.inl (by simp)) harr))
 | outgrown=>exact aT (e:=.outgrown) hf rfl hq (.pass (x:=.code c2) rfl (fun _ _=>.inl (by simp)) (.pass (x:=.code c) rfl (fun _ _=>.inl (by simp)) harr))
theorem A8:[Item.inRegion qh (List.range' 7 6),.code oI,.code (az 9 pB)].all (aK Try.prog)=true:=by kernel_rfl
theorem AO:[Item.code (az 9 pB)].all (aK Try.prog)=true:=by kernel_rfl
theorem AT:[Item.inRegion pO3 (List.range' 6 6),.code (m9 4 (az 3 pB))].all (aK Try.prog)=true:=by kernel_rfl
section
variable {W:World} {Sn:Nat→Prop} {gs:Array Goroutine} {t:Trace} {qq:Nat→Nat} {w:World} {sl:Option (Nat × Nat)}
theorem HK.call {Sn':Nat→Prop} {ah:Int} {gs3:Array Goroutine} {t3:Trace} {q3:Nat→Nat} {w2 w3:World} {n0 n1:Nat} (h:HK W Sn gs t qq w) (hi:HI w.heap w.os w.output w2) (cr:Dq Sn Sn' ah n0 n1 w2 w3) (Q3:Qs Try.prog Sn' gs3 t3 q3 0 w3.heap.size):HK W Sn' gs3 t3 q3 w3:=by
 obtain ⟨h1,h2,h3⟩:=hi
 have hs:=h.size
 have hz:=cr.size
 rw[h1] at hz
 refine ⟨Q3,fun b hb=>?_,fun b hb=>?_,?_,?_,by omega⟩
 ·rcases cr.sn b hb with e | e
  ·have:=h.sn b e
   omega
  ·rw[h1] at e
   omega
 ·rw[cr.keep b (by rw[h1];omega) (fun e=>by have:=(h.sn b e).1;omega),h1,h.keep b hb]
 ·have:=cr.os
  rw[h2] at this
  exact h.os.trans this
 ·rw[cr.out,h3,h.out]
theorem HK.free {b:Nat} (h:HK W Sn gs t qq w) (hb:b<W.heap.size):¬Sn b:=fun e=>by have:=(h.sn b e).1;omega
theorem zM {T:Array Value} {s:ByteArray} {u:Value} {seed:Nat} {tries ah others:Int} (h:HK W Sn gs t qq w) (hT:PtA s u seed tries ah others T) (i0:gs[0]? = some (G (mkF 6 T [.code (az 9 pB)] .run) [])):Ends W gs w sl t:=by
 obtain ⟨u0,hu⟩:=Cv (fun _=>none) u
 obtain ⟨Tl,lL,pl,_⟩:=fQ (E:=fun _=>none) hT hu (fun _=>none) (fun i v e=>by cases e)
 exact tE h i0 (fun b q s o e=>by cases e) rfl (bB.mid (P:=Try.prog) (Post:=fun u _=>u=.bool true) (c:=[]) ⟨_,Try.func6⟩ lL (Cp.nil (P:=Try.prog) w).wr (Cp.nil (P:=Try.prog) w).big AO (fun τ=>mq Try.func6 (yJ _ s u0 seed tries ah others pl _)))
set_option maxHeartbeats 4000000 in
theorem wY (T:Array Value) (s:ByteArray) (u:Value) (n seed:Nat) (tries ah others:Int) (hT:PtA s u seed tries ah others T) (f F F2:Nat→Int) (hF:F2 26<F 26∨F2=F) (q:Nat) (h13:T[13]? = some (.pointer (some ⟨q,0,none⟩))) (h133:T[133]? = some (.tuple #[.agg (ints 28 F2),.int .i64 0])) (h:HK W Sn gs t qq w) (m:aY W u n f) (rt:Rt W u) (hq13:w.heap[q]? = some (.cells (ints 28 F) 43 (0,0))) (hnq:¬Sn q) (i0:gs[0]? = some (G (mkF 6 T [.inRegion qh (List.range' 7 6),.code oI,.code (az 9 pB)] .run) [])):Ends W gs w sl t:=by
 obtain ⟨E2,wl2,av',av,cv,p,rfl,c2w,c2b,r1,a2,⟨TB,fr,hp⟩,low⟩:=tT m rt h.keep (fun b hb=>(h.sn b hb).1) hq13 hnq
 obtain ⟨Tl,lL,pl,ol⟩:=fQ (E:=E2) hT r1 _ (nQ (by decide) h13 (.ptr a2) (by decide) h133 tN)
 have k13:Tl[13]? = some (.pointer (some ⟨p,0,none⟩)):=ol 13 _ (if_pos rfl)
 have k133:Tl[133]? = some (.tuple #[.agg (ints 28 F2),.int .i64 0]):=ol 133 _ ((if_neg (by decide)).trans (if_pos rfl))
 have key0:=fun τ=>zW Tl s (.slice av' n cv) seed tries ah others p F F2 hF (wl2.tp τ) TB fr hp pl k13 k133
 exact tE h i0 low rfl (bB.mid (P:=Try.prog) (Post:=fun u _=>u=.bool true) (c:=[]) ⟨_,Try.func6⟩ lL c2w c2b A8 (fun τ=>by
  refine nc Try.func6 ?_
  have k:=key0 τ
  generalize Code.wp Try.prog oI=c1 at k ⊢
  generalize Code.wp Try.prog (az 9 pB)=c2 at k ⊢
  with_reducible exact k))
set_option maxHeartbeats 4000000 in
theorem yR (T:Array Value) (s:ByteArray) (u:Value) (n seed:Nat) (tries ah others:Int) (hT:PtA s u seed tries ah others T) (f F:Nat→Int) (e:Int) (he:e≠0) (h33:T[33]? = some (.tuple #[.agg (ints 28 F),.int .i64 e])) (h:HK W Sn gs t qq w) (hv:aY W u n f) (rv:Rt W u) (i0:gs[0]? = some (G (mkF 6 T [.inRegion pO3 (List.range' 6 6),.code (az 3 pB)] .run) [])):Ends W gs w sl t:=by
 obtain ⟨av,cv,rfl,nv,kv⟩:=hv
 obtain ⟨E1,wl1,av',c1,s1,b1,e1,r1,k1⟩:=fR (P:=Try.prog) (w:=W) (Cp.nil W).cq (fun b q s e=>by cases e) dG (f:=fun i=>.int .i64 (f i)) (fun i E=>.int _ _) kv rv
 have low:∀b q s o,E1 b=some (q,s,o)→o=false∧q<W.heap.size:=fun b q s o e=>by
  refine ⟨?_,?_⟩
  ·cases o with
   | false=>rfl
   | true=>exact absurd e (s1 b q s)
  ·rcases b1 b q s o e with e | e
   ·cases e
   ·exact e
 have hwr:WR Try.prog E1 wl1 w:=iH c1.wr fun b x e=>by
  obtain ⟨q,s,o⟩:=x
  exact h.keep q (low b q s o e).2
 obtain ⟨Tl,lL,pl,ol⟩:=fQ (E:=E1) hT r1 _ (lK (by decide) h33 tN)
 exact wL h i0 (fun b q s o e=>⟨(low b q s o e).1,h.free (low b q s o e).2⟩) (cw.mid (P:=Try.prog) (Post:=fun u _=>u=.bool true) (c:=[]) (ct:=az 4 (az 3 pB)) (todo:=[.inRegion pO3 (List.range' 6 6),.code (m9 4 (az 3 pB))]) (todo':=[.inRegion pO3 (List.range' 6 6),.code (az 3 pB)]) ⟨_,Try.func6⟩ lL hwr c1.big AT (.cons _ (.cut (rS wS))) (fun τ=>by
  refine oH Try.func6 ?_
  have k:=yp Tl s _ seed tries ah others F e he (wl1.tp τ) pl (ol 33 _ (if_pos rfl))
  generalize Code.wp Try.prog (m9 4 (az 3 pB))=c1 at k ⊢
  with_reducible exact k))
end
end Cs
namespace Cs
open Go.Conc Go.RowKit PK
open Go.ConcR (KK WgAt wgBlock)
open Go.ConcM (OsLater)
theorem HK.walk {W:World} {Sn:Nat→Prop} {gs gs2:Array Goroutine} {t t2:Trace} {qq q2:Nat→Nat} {w w2:World} (h:HK W Sn gs t qq w) (hi:HI w.heap w.os w.output w2) (Q:Qs Try.prog Sn gs2 t2 q2 0 w2.heap.size):HK W Sn gs2 t2 q2 w2:=by
 obtain ⟨h1,h2,h3⟩:=hi
 exact ⟨Q,fun b hb=>by rw[h1];exact h.sn b hb,fun b hb=>by rw[h1];exact h.keep b hb,by rw[h2];exact h.os,by rw[h3];exact h.out,by rw[h1];exact h.size⟩
theorem HK.piece {W:World} {Sn:Nat→Prop} {gs gs2:Array Goroutine} {t t2:Trace} {qq q2:Nat→Nat} {w w2:World} (h:HK W Sn gs t qq w) (hk:∀b,b<w.heap.size→w2.heap[b]? = w.heap[b]?) (ho:w2.os=w.os) (hu:w2.output=w.output) (hz:w.heap.size≤w2.heap.size) (Q:Qs Try.prog Sn gs2 t2 q2 0 w2.heap.size):HK W Sn gs2 t2 q2 w2:=by
 have hs:=h.size
 exact ⟨Q,fun b hb=>by have:=h.sn b hb;omega,fun b hb=>by rw[hk b (by omega)];exact h.keep b hb,by rw[ho];exact h.os,by rw[hu];exact h.out,by omega⟩
theorem C3 (T:Array Value) (v:Value):(mkF 6 T [.inRegion pO3 (List.range' 5 7),.code (az 3 pB)] .run).finish v=mkF 6 (T.setIfInBounds 33 v) [.inRegion pO3 (List.range' 6 6),.code (az 3 pB)] .run:=by kernel_rfl
theorem DR (T:Array Value) (v:Value):(mkF 6 T [.inRegion m6 (List.range' 5 7),.code l5,.code (az 8 pB)] .run).finish v=mkF 6 (T.setIfInBounds 114 v) [.inRegion m6 (List.range' 6 6),.code l5,.code (az 8 pB)] .run:=by kernel_rfl
theorem Ea (T:Array Value) (v:Value):(mkF 6 T [.inRegion qh (List.range' 6 7),.code oI,.code (az 9 pB)] .run).finish v=mkF 6 (T.setIfInBounds 133 v) [.inRegion qh (List.range' 7 6),.code oI,.code (az 9 pB)] .run:=by kernel_rfl
theorem PtA.put {s:ByteArray} {u:Value} {seed:Nat} {tries ah others:Int} {T:Array Value} (h:PtA s u seed tries ah others T) {k:Nat} (hk:6≤k∧k<157) (v:Value):PtA s u seed tries ah others (T.setIfInBounds k v)∧(T.setIfInBounds k v)[k]? = some v∧∀i,i≠k→(T.setIfInBounds k v)[i]? = T[i]? :=
 ⟨h.set hk.1 v,by rw[Array.getElem?_setIfInBounds_self_of_lt (by rw[h.1];exact hk.2)],fun i hi=>Array.getElem?_setIfInBounds_ne (Ne.symm hi)⟩
structure TP (W:World) (Sn:Nat→Prop) (s:ByteArray) (n seed:Nat) (tries ah others:Int) (f:Nat→Int) (T:Array Value) (w:World) (u:Value) (q:Nat):Prop where
 ok:ceE s.data.toList n f tries ah=0
 pt:PtA s u seed tries ah others T
 xT:T[13]? = some (.pointer (some ⟨q,0,none⟩))
 row:w.heap[q]? = some (.cells (ints 28 (bdF (bdE s f seed tries.toNat))) 43 (0,0))
 fr:¬Sn q
 vh:aY W u n f
 rt:Rt W u
section
variable {W:World} {Sn:Nat→Prop} {gs:Array Goroutine} {t:Trace} {qq:Nat→Nat} {w:World} {sl:Option (Nat × Nat)} {s:ByteArray} {n seed:Nat} {tries ah others:Int} {f:Nat→Int} {T:Array Value} {u:Value} {q:Nat}
theorem ye {l:List UInt8} {n:Nat} {f:Nat→Int} {tries ah tries' hands':Int} (h:ceE l n f tries ah=0) (ht:1≤tries'∧tries'≤16) (hh:1≤hands'∧hands'≤16):ceE l n f tries' hands'=0:=by
 obtain ⟨h1,_,_⟩:=gJ h
 unfold ceE
 rw[if_neg (by simp[h1]),if_neg (by omega)]
theorem TP.lt (h:TP W Sn s n seed tries ah others f T w u q):q<w.heap.size:=(Array.getElem?_eq_some_iff.1 h.row).1
set_option maxRecDepth 100000 in
set_option maxHeartbeats 4000000 in
theorem ot (h:HK W Sn gs t qq w) (tp:TP W Sn s n seed tries ah others f T w u q) (hg:gs.size≤900) (i0:gs[0]? = some (G (mkF 6 T [.code (az 8 pB)] .run) [])):Ends W gs w sl t:=by
 obtain ⟨hcw,ht,hh⟩:=gJ tp.ok
 obtain ⟨hc0,hl,hn676,hf⟩:=eY hcw
 have hs:=(mz hc0).1
 have hl2:s.size≤256:=by have:=Pl.c6 s;omega
 by_cases h1:1<tries
 ·obtain ⟨mu,G2⟩:=y5 T s u seed tries ah others tp.pt q tp.xT Sn w.heap.size w.heap w.os w.output w ⟨rfl,rfl,rfl⟩ h1 ht.2
  obtain ⟨N2,gs2,w2,sl2,t2,q2,g2,r2,z2,i2,⟨⟨T2,pt2,h213,rfl⟩,I2⟩,Q2⟩:=cL (sl:=sl) (fun w w' es h=>h.1) (fun g w h=>by obtain ⟨⟨_,_,_,rfl⟩,_⟩:=h;rfl) i0 G2 h.qs
  have ag2:∀b,b<W.heap.size→w2.heap[b]? = W.heap[b]?:=fun b hb=>by rw[I2.1];exact h.keep b hb
  have hk2:=h.walk I2 Q2
  obtain ⟨N3,gs3,w3,sl3,t3,q3,Sn',r3,i3,cr,Q3⟩:=jg s u n seed (tries-1) ah f W w2 tp.vh tp.rt ag2 (Sn0:=Sn) hk2.sn _ [] (by omega) i2 Q2 sl2
  have hk3:=h.call I2 cr Q3
  obtain ⟨m,hm⟩:∃m:Nat,tries.toNat=m+2:=⟨tries.toNat-2,by omega⟩
  have hm1:(tries-1).toNat=m+1:=by omega
  have hV:ceV s n f seed (tries-1) ah=.tuple #[.agg (ints 28 (bdF (bdE s f seed (m+1)))),.int .i64 0]:=by
   rw[ceV,if_pos (ye tp.ok (by omega) hh),hm1]
  rw[hV,Ea] at i3
  have hrow:=tp.row
  rw[hm] at hrow
  have hlt:=tp.lt
  obtain ⟨pt3,h3a,h3b⟩:=pt2.put (k:=133) (by decide) (.tuple #[.agg (ints 28 (bdF (bdE s f seed (m+1)))),.int .i64 0])
  refine Ends.then r2 (Ends.then r3 (wY _ s u n seed tries ah others pt3 f (bdF (bdE s f seed (m+2))) (bdF (bdE s f seed (m+1))) ?_ q ((h3b 13 (by decide)).trans h213) h3a hk3 tp.vh tp.rt ?_ ?_ i3))
  ·rcases yu hs hl2 hf seed m with e | e
   ·exact .inl e
   ·exact .inr (by rw[e])
  ·rw[cr.keep q (by rw[I2.1];exact hlt) tp.fr,I2.1]
   exact hrow
  ·intro e
   rcases cr.sn q e with e | e
   ·exact tp.fr e
   ·rw[I2.1] at e
    omega
 ·obtain ⟨mu,G2⟩:=za T s u seed tries ah others tp.pt q tp.xT Sn w.heap.size w.heap w.os w.output w ⟨rfl,rfl,rfl⟩ h1
  obtain ⟨N2,gs2,w2,sl2,t2,q2,g2,r2,z2,i2,⟨⟨T',pt',h13',rfl⟩,I2⟩,Q2⟩:=cL (sl:=sl) (fun w w' es h=>h.1) (fun g w h=>by obtain ⟨⟨_,_,_,rfl⟩,_⟩:=h;rfl) i0 G2 h.qs
  exact Ends.then r2 (zM (h.walk I2 Q2) pt' i2)
set_option maxRecDepth 100000 in
set_option maxHeartbeats 4000000 in
theorem Ai (h:HK W Sn gs t qq w) (tp:TP W Sn s n seed tries ah others f T w u q) (hg:gs.size≤800) (i0:gs[0]? = some (G (mkF 6 T [.code (az 7 pB)] .run) [])):Ends W gs w sl t:=by
 obtain ⟨hcw,ht,hh⟩:=gJ tp.ok
 by_cases h1:1≤others
 ·by_cases h2:others≤16
  ·obtain ⟨mu,G2⟩:=Ae T s u seed tries ah others tp.pt q tp.xT Sn w.heap.size w.heap w.os w.output w ⟨rfl,rfl,rfl⟩ h1 h2
   obtain ⟨N2,gs2,w2,sl2,t2,q2,g2,r2,z2,i2,⟨⟨T2,pt2,h213,rfl⟩,I2⟩,Q2⟩:=cL (sl:=sl) (fun w w' es h=>h.1) (fun g w h=>by obtain ⟨⟨_,_,_,rfl⟩,_⟩:=h;rfl) i0 G2 h.qs
   have ag2:∀b,b<W.heap.size→w2.heap[b]? = W.heap[b]?:=fun b hb=>by rw[I2.1];exact h.keep b hb
   have hk2:=h.walk I2 Q2
   obtain ⟨N3,gs3,w3,sl3,t3,q3,Sn',r3,i3,cr,Q3⟩:=jg s u n seed tries others f W w2 tp.vh tp.rt ag2 (Sn0:=Sn) hk2.sn _ [] (by omega) i2 Q2 sl2
   have hk3:=h.call I2 cr Q3
   have hV:ceV s n f seed tries others=.tuple #[.agg (ints 28 (bdF (bdE s f seed tries.toNat))),.int .i64 0]:=by
    rw[ceV,if_pos (ye tp.ok ht ⟨h1,h2⟩)]
   rw[hV,DR] at i3
   obtain ⟨pt3,h3a,h3b⟩:=pt2.put (k:=114) (by decide) (.tuple #[.agg (ints 28 (bdF (bdE s f seed tries.toNat))),.int .i64 0])
   have hlt:=tp.lt
   have hrow:w3.heap[q]? = some (.cells (ints 28 (bdF (bdE s f seed tries.toNat))) 43 (0,0)):=by
    rw[cr.keep q (by rw[I2.1];exact hlt) tp.fr,I2.1]
    exact tp.row
   have hnq:¬Sn' q:=fun e=>by
    rcases cr.sn q e with e | e
    ·exact tp.fr e
    ·rw[I2.1] at e
     omega
   obtain ⟨N4,gs4,w4,sl4,t4,q4,T',u',r4,z4,i4,pt4,h13,n4,rt4,kp4,os4,ou4,sz4,Q4⟩:=zg _ s u n seed tries ah others pt3 f _ q ((h3b 13 (by decide)).trans h213) h3a W w3 tp.vh tp.rt hk3.keep hrow hnq hk3.sn i3 Q3 sl3
   have hg3:=cr.gs
   refine Ends.then r2 (Ends.then r3 (Ends.then r4 (ot (hk3.piece kp4 os4 ou4 sz4 Q4) ⟨tp.ok,pt4,h13,?_,hnq,n4,rt4⟩ (by omega) i4)))
   rw[kp4 q (Array.getElem?_eq_some_iff.1 hrow).1]
   exact hrow
  ·obtain ⟨mu,G2⟩:=ym T s u seed tries ah others tp.pt q tp.xT Sn w.heap.size w.heap w.os w.output w ⟨rfl,rfl,rfl⟩ (by omega)
   obtain ⟨N2,gs2,w2,sl2,t2,q2,g2,r2,z2,i2,⟨⟨T',pt',h13',rfl⟩,I2⟩,Q2⟩:=cL (sl:=sl) (fun w w' es h=>h.1) (fun g w h=>by obtain ⟨⟨_,_,_,rfl⟩,_⟩:=h;rfl) i0 G2 h.qs
   exact Ends.then r2 (ot (h.walk I2 Q2) ⟨tp.ok,pt',h13',by rw[I2.1];exact tp.row,tp.fr,tp.vh,tp.rt⟩ (by omega) i2)
 ·obtain ⟨mu,G2⟩:=xG T s u seed tries ah others tp.pt q tp.xT Sn w.heap.size w.heap w.os w.output w ⟨rfl,rfl,rfl⟩ (by omega)
  obtain ⟨N2,gs2,w2,sl2,t2,q2,g2,r2,z2,i2,⟨⟨T',pt',h13',rfl⟩,I2⟩,Q2⟩:=cL (sl:=sl) (fun w w' es h=>h.1) (fun g w h=>by obtain ⟨⟨_,_,_,rfl⟩,_⟩:=h;rfl) i0 G2 h.qs
  exact Ends.then r2 (ot (h.walk I2 Q2) ⟨tp.ok,pt',h13',by rw[I2.1];exact tp.row,tp.fr,tp.vh,tp.rt⟩ (by omega) i2)
end
set_option maxRecDepth 100000 in
set_option maxHeartbeats 8000000 in
theorem zO (s:ByteArray) (v:Value) (n seed:Nat) (tries ah others:Int) (f:Nat→Int) (W:World) (hv:aY W v n f) (rv:Rt W v) :
  ∃N last o w' t',runNT Try.prog (N+1) (solo (G (Frame.enter Try.prog 6 #[.string s,v,.int .u64 (seed:Nat),.int .i64 tries,.int .i64 ah,.int .i64 others] .normal) []) W) #[]=(.ended o w',t')∧runN Try.prog N (solo (G (Frame.enter Try.prog 6 #[.string s,v,.int .u64 (seed:Nat),.int .i64 tries,.int .i64 ah,.int .i64 others] .normal) []) W)=.next last∧step Try.prog last=.ended o w'∧Conc.Good Try.prog (fun u W'=>u=.bool true∧Kept W W') last o w' t':=by
 obtain ⟨T0,pt0,he⟩:=uN s v seed tries ah others
 rw[he,solo_eq_crowd]
 obtain ⟨N1,gs1,w1,sl1,t1,q1,T,u,r1,z1,i1,pt1,m1,rt1,kp1,os1,ou1,sz1,Q1⟩:=Ao T0 s v n seed tries ah others pt0 f W hv rv
 refine Ends.then (N:=N1) r1 ?_
 have h1:HK W (fun _=>False) gs1 t1 q1 w1:=⟨Q1,fun b e=>e.elim,kp1,by rw[os1];exact OsLater.refl _,ou1,sz1⟩
 obtain ⟨mu,G2⟩:=xH T s u seed tries ah others pt1 w1.heap.size w1.heap w1.os w1.output w1 ⟨rfl,rfl,rfl⟩
 obtain ⟨N2,gs2,w2,sl2,t2,q2,g2,r2,z2,i2,⟨⟨T2,pt2,rfl⟩,I2⟩,Q2⟩:=cL (sl:=sl1) (fun w w' es h=>h.1) (fun g w h=>by obtain ⟨⟨_,_,rfl⟩,_⟩:=h;rfl) i1 G2 h1.qs
 have ag2:∀b,b<W.heap.size→w2.heap[b]? = W.heap[b]?:=fun b hb=>by rw[I2.1];exact h1.keep b hb
 have hk2:=h1.walk I2 Q2
 obtain ⟨N3,gs3,w3,sl3,t3,q3,Sn',r3,i3,cr,Q3⟩:=jg s u n seed tries ah f W w2 m1 rt1 ag2 (Sn0:=fun _=>False) hk2.sn _ [] (by omega) i2 Q2 sl2
 have hk3:=h1.call I2 cr Q3
 refine Ends.then r2 (Ends.then r3 ?_)
 by_cases hE:ceE s.data.toList n f tries ah=0
 ·have hV:ceV s n f seed tries ah=.tuple #[.agg (ints 28 (bdF (bdE s f seed tries.toNat))),.int .i64 0]:=by
   rw[ceV,if_pos hE]
  rw[hV,C3] at i3
  obtain ⟨pt3,h3a,_⟩:=pt2.put (k:=33) (by decide) (.tuple #[.agg (ints 28 (bdF (bdE s f seed tries.toNat))),.int .i64 0])
  obtain ⟨N4,gs4,w4,sl4,t4,q4,T4,u4,qr,r4,z4,i4,pt4,h13,hrow,hqr,n4,rt4,kp4,os4,ou4,sz4,Q4⟩:=Cm _ s u n seed tries ah others pt3 f h3a hE W w3 m1 rt1 hk3.keep hk3.sn i3 Q3 sl3
  have hg3:=cr.gs
  exact Ends.then r4 (Ai (hk3.piece kp4 os4 ou4 sz4 Q4) ⟨hE,pt4,h13,hrow,fun e=>by have:=(hk3.sn _ e).2;omega,n4,rt4⟩ (by omega) i4)
 ·have hV:ceV s n f seed tries ah=.tuple #[.agg (ints 28 fun _=>0),.int .i64 (ceE s.data.toList n f tries ah)]:=by
   rw[ceV,if_neg hE]
  rw[hV,C3] at i3
  obtain ⟨pt3,h3a,_⟩:=pt2.put (k:=33) (by decide) (.tuple #[.agg (ints 28 fun _=>0),.int .i64 (ceE s.data.toList n f tries ah)])
  exact yR _ s u n seed tries ah others pt3 f _ _ hE h3a hk3 m1 rt1 i3
end Cs
section
open Go.RowKit PK Go.ChangeShapes Go.WideShapes Go.ChangeAt
theorem Dd:ownKnob Try.prog.godebug=none:=by kernel_rfl
theorem vN:laidOutB Try.prog=true:=by kernel_rfl
theorem qA:Try.prog.cellsOf 3=1:=by kernel_rfl
end
end Go.Proofs.Ytpdemelchhkfaaa
