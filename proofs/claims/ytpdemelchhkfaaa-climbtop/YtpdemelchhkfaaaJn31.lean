import Derived.Test.YtpdemelchhkfaaaEaI
namespace Go.Proofs.Ytpdemelchhkfaaa
namespace Cs
open Go.Conc Go.RowKit PK
open Go.ConcR (KK WgAt wgBlock)
open Go.ConcM (OsLater)
theorem sP {P:Program} {q o2:Nat} {A:Array Value} {ty:TypeId} {fr:Nat × Nat}:∀(n i:Nat) (acc:Array Value) (w:World) (es:Array Event),w.heap[q]? = some (.cells A ty fr)→o2+i+n≤A.size→∀ev ∈ (loadCellsFrom ⟨q,o2,none⟩ i n acc).events P w es,ev ∈ es∨∃j,ev=⟨.cell ⟨q,j,none⟩,false,false⟩
 | 0,_,_,_,_,_,_=>fun ev h=>.inl (by simpa [loadCellsFrom] using h)
 | n+1,i,acc,w,es,hg,hl=>fun ev h=>by
  have hc:w.cell? ⟨q,o2+i,none⟩=some A[o2+i]:=by simp[World.cell?,hg,show o2+i<A.size by omega]
  simp only[loadCellsFrom,Sem.events_bind,Addr.add_lit] at h
  have hr:(load (⟨q,o2+i,none⟩:Addr)).run P w=.ok A[o2+i] w:=by simp[hc]
  rw[hr] at h
  rcases sP n (i+1) (acc.push A[o2+i]) w _ hg (by omega) ev h with h | h
  ·rw[events_load,hc] at h
   rcases Array.mem_push.1 h with h | rfl
   ·exact .inl h
   ·exact .inr ⟨_,rfl⟩
  ·exact .inr h
theorem nB {q o2:Nat} {A C:Array Value} {fr:Nat × Nat} {ty tb:TypeId} {d:TypeDesc} {b:Frame} {a:Act} {ops:Array Oper} {i:Nat} {rest:List Nat} {o:Oper} {x:Operand} {kk:List Item} {cs:List Frame} {w:World} {main:Bool} {Kx:Goroutine→World→Array Event→Prop} (ho:ops[i]? = some o) (hg:Region.wanted o (yielded ops a.tmps)=true) (hb:b.kind≠.early) (hop:o.op=.load ty x) (hx:a.eval x=.pointer (some ⟨q,o2,none⟩)) (hu:Try.prog.underlying ty=some d) (hd:d.isRow=true) (hi:(Try.prog.info? ty).map (·.size)=some A.size) (hw:w.heap[q]? = some (.cells C tb fr)) (hl:o2+A.size≤C.size) (hA:∀j,j<A.size→C[o2+j]? = A[j]?)
  (h:∀es,(∀e ∈ es,∃j,e=⟨.cell ⟨q,j,none⟩,false,false⟩)→Kx (G (b.at (a.put o.dst (.agg A)) (.inRegion ops rest :: kk)) cs) w es):(stepG Try.prog main (G (b.at a (.inRegion ops (i :: rest) :: kk)) cs) w).goes Kx:=by
 have hld:(Instr.loadAt ty (.pointer (some ⟨q,o2,none⟩))).run Try.prog w=.ok (.agg A) w:=by
  have h:=run_loadAt_mid (P:=Try.prog) w q o2 ty A.toList d (fun j v hj=>by
   have hj2:j<A.size:=by
    have:=(List.getElem?_eq_some_iff.1 hj).1
    simpa using this
   rw[cell_of_row _ _ _ _ _ _ hw,hA j hj2,←Array.getElem?_toList]
   exact hj) hu hd (by rw[hi];simp)
  simpa using h
 have hr:(execOp a.eval o).run Try.prog w=.ok (.value (.agg A)) w:=by
  unfold execOp
  simp only[hop,hx]
  generalize Instr.loadAt ty _=s at hld ⊢
  simp[go_sem,hld]
 have he:(execOp a.eval o).events Try.prog w #[]=(Instr.loadAt ty (.pointer (some ⟨q,o2,none⟩))).events Try.prog w #[]:=by
  unfold execOp
  simp only[hop,hx]
  generalize Instr.loadAt ty _=s
  simp[go_sem]
 rw[stepG_value ho hg hb hr,goes_go]
 refine h _ (fun e hm=>?_)
 have hm':=mem_listed hm
 rw[he] at hm'
 obtain ⟨inf,hi1,hi2⟩:=Option.map_eq_some_iff.1 hi
 have hc:=sP (P:=Try.prog) A.size 0 #[] w #[] hw (by omega)
 have key:e ∈ (loadCellsFrom ⟨q,o2,none⟩ 0 A.size #[]).events Try.prog w #[]→∃j,e=⟨.cell ⟨q,j,none⟩,false,false⟩:=fun h=>by
  rcases hc e h with h | h
  ·simp at h
  ·exact h
 cases d with
 | struct fs =>
  simp[Instr.loadAt,Instr.sureAddr,loadVar,isAgg,go_sem,underlying,sizeOf,typeInfo,loadCells,hu,hi1,hi2] at hm'
  exact key hm'
 | array n el =>
  simp[Instr.loadAt,Instr.sureAddr,loadVar,isAgg,go_sem,underlying,sizeOf,typeInfo,loadCells,hu,hi1,hi2] at hm'
  exact key hm'
 | _=>cases hd
theorem yF {q:Nat} {A:Array Value} {fr:Nat × Nat} {ty tb:TypeId} {d:TypeDesc} {w:World} (hu:Try.prog.underlying ty=some d) (hd:d.isRow=true) (hi:(Try.prog.info? ty).map (·.size)=some A.size) (hw:w.heap[q]? = some (.cells A tb fr)):∀e ∈ (loadVar ty ⟨q,0,none⟩).events Try.prog w #[],∃j,e=⟨.cell ⟨q,j,none⟩,false,false⟩:=fun e he=>by
 obtain ⟨inf,hi1,hi2⟩:=Option.map_eq_some_iff.1 hi
 have hc:=sP (P:=Try.prog) (o2:=0) A.size 0 #[] w #[] hw (by omega)
 have key:e ∈ (loadCellsFrom ⟨q,0,none⟩ 0 A.size #[]).events Try.prog w #[]→∃j,e=⟨.cell ⟨q,j,none⟩,false,false⟩:=fun h=>by
  rcases hc e h with h | h
  ·simp at h
  ·exact h
 cases d with
 | struct fs =>
  simp[loadVar,isAgg,go_sem,underlying,sizeOf,typeInfo,loadCells,hu,hi1,hi2] at he
  exact key he
 | array n el =>
  simp[loadVar,isAgg,go_sem,underlying,sizeOf,typeInfo,loadCells,hu,hi1,hi2] at he
  exact key he
 | _=>cases hd
theorem ju {P:Program} {main:Bool} {b:Frame} {a:Act} {cs:List Frame} {w:World} {fn:Func} {todo:List Item} {c:Frame} {v:Value} (hn:b.kind=.normal) (hd:a.defers=[]) (hf:P.funcs[b.fn]? = some fn) (hr:(results fn a.tmps).run P w=.ok v w) :
  stepG P main (G { b.at a todo with mode:=.returning } (c :: cs)) w=.go (G (c.finish v) cs) w (seen P b.fn ((results fn a.tmps).events P w #[])):=by
 simp[G,stepG,unwind,doReturn,Frame.at,hn,hd,hf,hr,GStep.after]
theorem qJ {main:Bool} {b:Frame} {a:Act} {cs:List Frame} {w:World} {fn:Func} {todo:List Item} {c:Frame} {q:Nat} {p:Tmp} {A:Array Value} {fr:Nat × Nat} {ty tb:TypeId} {d:TypeDesc} {Kx:Goroutine→World→Array Event→Prop} (hn:b.kind=.normal) (hd:a.defers=[]) (hf:Try.prog.funcs[b.fn]? = some fn) (hr:fn.results=#[.cell p ty]) (hp:a.tmps.getD p undef=.pointer (some ⟨q,0,none⟩)) (hu:Try.prog.underlying ty=some d) (hd2:d.isRow=true) (hi:(Try.prog.info? ty).map (·.size)=some A.size) (hw:w.heap[q]? = some (.cells A tb fr))
  (h:∀es,(∀e ∈ es,∃j,e=⟨.cell ⟨q,j,none⟩,false,false⟩)→Kx (G (c.finish (.agg A)) cs) w es):(stepG Try.prog main (G { b.at a todo with mode:=.returning } (c :: cs)) w).goes Kx:=by
 rw[ju hn hd hf (iZ hr _ w q tb A fr d hp hw hu (by cases d <;> first | rfl | cases hd2) hi),goes_go]
 refine h _ (fun e he=>?_)
 have he':=mem_seen he
 have e2:(results fn a.tmps).events Try.prog w #[]=(loadVar ty ⟨q,0,none⟩).events Try.prog w #[]:=by
  have hp':a.tmps[p]?.getD undef=.pointer (some ⟨q,0,none⟩):=by simpa using hp
  simp[results,hr,hp',asAddr,go_sem]
 rw[e2] at he'
 exact yF hu hd2 hi hw e he'
theorem oE {main:Bool} {b:Frame} {a:Act} {cs:List Frame} {w:World} {fn:Func} {todo:List Item} {c:Frame} {q:Nat} {p r:Tmp} {u:Value} {A:Array Value} {fr:Nat × Nat} {ty tb:TypeId} {d:TypeDesc} {Kx:Goroutine→World→Array Event→Prop} (hn:b.kind=.normal) (hd:a.defers=[]) (hf:Try.prog.funcs[b.fn]? = some fn) (hr:fn.results=#[.cell p ty,.tmp r]) (hp:a.tmps.getD p undef=.pointer (some ⟨q,0,none⟩)) (hv:a.tmps.getD r undef=u) (hu:Try.prog.underlying ty=some d) (hd2:d.isRow=true) (hi:(Try.prog.info? ty).map (·.size)=some A.size) (hw:w.heap[q]? = some (.cells A tb fr))
  (h:∀es,(∀e ∈ es,∃j,e=⟨.cell ⟨q,j,none⟩,false,false⟩)→Kx (G (c.finish (.tuple #[.agg A,u])) cs) w es):(stepG Try.prog main (G { b.at a todo with mode:=.returning } (c :: cs)) w).goes Kx:=by
 have hrun:=bw hr a.tmps w q tb A fr d u hp hv hw hu (by cases d <;> first | rfl | cases hd2) hi
 rw[ju hn hd hf hrun,goes_go]
 refine h _ (fun e he=>?_)
 have he':=mem_seen he
 have e2:(results fn a.tmps).events Try.prog w #[]=(loadVar ty ⟨q,0,none⟩).events Try.prog w #[]:=by
  have hp':a.tmps[p]?.getD undef=.pointer (some ⟨q,0,none⟩):=by simpa using hp
  simp[results,hr,hp',asAddr,go_sem]
 rw[e2] at he'
 exact yF hu hd2 hi hw e he'
theorem nV {A cur:Array Value} (h:cur.size=A.size):(cur.toList.take 0++A.toList++cur.toList.drop (0+A.size)).toArray=A:=by
 have e:cur.toList.drop (0+A.size)=[]:=List.drop_eq_nil_of_le (by simp[h])
 rw[e]
 simp
theorem nX {H:Array Obj} {o:Os} {out:Array (Nat × ByteArray)} {W:World} {q:Nat} {A B:Array Value} {T:TypeId} (h:HI H o out W) (hr:H[q]? = some (.cells A T (0,0))):∃H2,HI H2 o out (W.setRow q B)∧(∀b,b≠q→H2[b]? = H[b]?)∧H2[q]? = some (.cells B T (0,0))∧H2.size=H.size:=by
 have hr':ai W q T A:=by
  show W.heap[q]? = _
  rw[h.1]
  exact hr
 refine ⟨_,⟨rfl,h.2.1,h.2.2⟩,fun b hb=>?_,hr'.row B,?_⟩
 ·rw[setRow_other _ _ _ _ hb,h.1]
 ·rw[←h.1]
  simp
theorem aS {n:Nat} {f:Nat→Int}:∀v ∈ (ints n f).toList,v.oneCell'=true:=fun v hv=>by
 simp[ints,tab] at hv
 obtain ⟨_,_,rfl⟩:=hv
 rfl
def DO (H:Array Obj) (o:Os) (out:Array (Nat × ByteArray)) (hs b10:Nat) (w:World):Prop:=(∀b,b≠hs+3→b≠b10→w.heap[b]? = H[b]?)∧w.heap.size=H.size∧w.os=o∧w.output=out
set_option maxRecDepth 100000 in
set_option maxHeartbeats 8000000 in
theorem sW (g:Nat→Value) (s:ByteArray) (v:Value) (seed tries ah b7 b10 b13 hs:Nat) (B:Bd) (cal:Frame) (cs:List Frame) (T:Array Value) (hT:T.size=23) (hT6:T[6]? = some (.pointer (some ⟨hs+3,0,none⟩))) (hT7:T[7]? = some (.pointer (some ⟨hs+4,0,none⟩))) (Sn:Nat→Prop) (Fd:Nat) (H:Array Obj) (o:Os) (out:Array (Nat × ByteArray)) (C:Array Value) (hC:H[hs+4]? = some (.cells C 103 (0,0))) (hCs:C.size=30) (hCi:∀i,2≤i→i<30→C[i]? = some (eBd B i)) (h3:H[hs+3]? = some (.cells (ints 28 fun _=>0) 43 (0,0))) (h10:H[b10]? = some (.cells (ints 28 fun _=>0) 43 (0,0))) (hb:b10<hs) (n3:¬Sn (hs+3)∧¬Sn (hs+4)∧¬Sn b10) (hF:H.size≤Fd) (w:World) (hI:HI H o out w) :
  ∃mu,Goes Try.prog true AtRel (DG Sn Fd) (fun g' w'=>g'=G (cal.finish (.tuple #[.agg (ints 28 (bdF B)),.int .i64 0])) cs∧DO H o out hs b10 w') mu (G ((base 35).at ⟨T,[]⟩ [.inRegion oO [],.code kR]) (cFr s v seed tries ah b7 b10 b13 g :: cal :: cs)) w:=by
 have lt3:=(Array.getElem?_eq_some_iff.1 h3).1
 have lt4:=(Array.getElem?_eq_some_iff.1 hC).1
 have e:=bU T 23 hT
 generalize hx:(fun i=>T.getD i undef)=x at e
 have fv:∀i y,T[i]? = some y→x i=y:=fun i y hy=>by rw[←hx];simp[Array.getD_eq_getD_getElem?,hy]
 have q:T=#[x 0,x 1,x 2,x 3,x 4,x 5,x 6,x 7,x 8,x 9,x 10,x 11,x 12,x 13,x 14,x 15,x 16,x 17,x 18,x 19,x 20,x 21,x 22]:=e.trans rfl
 rw[fv 6 _ hT6,fv 7 _ hT7] at q
 subst q
 clear e fv hx hT hT6 hT7
 refine ⟨60,?_⟩
 simp only[oO,kR,gF,gcB,cFr,cO7,cR8,az,dr,Try.f35,Try.f13,Option.getD_some]
 repeat (refine aE hI rfl (fun w₁ h₁=>?_);walk_rw;refine ⟨aQ _,?_⟩;clear hI;have hI:=h₁;clear h₁)
 refine aE hI rfl (fun w₁ h₁=>?_)
 refine goes_oper_k rfl rfl (by decide) (fun K hK=>?_)
 go_simp
 refine hK _ _ ⟨bW (by simp) (fun e he=>?_),?_⟩
 ·have hm:=mem_listed he
  simp[go_sem, *] at hm
 clear hK K hI
 have hI:=h₁
 clear h₁
 refine aE hI rfl (fun w₁ h₁=>?_)
 refine nB (q:=hs+4) (o2:=2) (A:=ints 28 (bdF B)) (C:=C) rfl rfl (by k_ne) rfl rfl Try.underlying43 rfl (by rw[af];exact cJ) (by rw[h₁.1];exact hC) (by rw[af];omega) (fun j hj=>by
  rw[af] at hj
  rw[hCi _ (by omega) (by omega),aI _ hj]
  unfold eBd
  rw[show 2+j-2=j by omega]) (fun es hes=>⟨bW (by simp) (fun e he=>?_),?_⟩)
 ·obtain ⟨j,rfl⟩:=hes e he
  exact ew (show hs+4<w₁.heap.size by rw[h₁.1];exact lt4) n3.2.1 (show hs+4≠Fd by omega)
 clear hI
 have hI:=h₁
 clear h₁
 walk_nrm
 refine aE hI rfl (fun w₁ h₁=>?_)
 refine dF (fd:=hs+3) (o2:=0) (A:=ints 28 (bdF B)) rfl rfl (by k_ne) rfl rfl rfl rfl (by rw[af];exact cJ) aS (by rw[h₁.1];exact h3) (by rw[af,af];decide) (fun es hes=>⟨bW (by simp) (fun e he=>?_),?_⟩)
 ·obtain ⟨j,_,rfl⟩:=hes e he
  exact ew (show hs+3<_ by simp[h₁.1];exact lt3) n3.1 (show hs+3≠Fd by omega)
 rw[nV (by rw[af,af])]
 obtain ⟨H2,I2,f2,r2,z2⟩:=nX (B:=ints 28 (bdF B)) h₁ h3
 clear hI
 have hI:=I2
 clear h₁ I2
 refine aE hI rfl (fun w₁ h₁=>?_)
 walk_rw
 refine ⟨aQ _,?_⟩
 clear hI
 have hI:=h₁
 clear h₁
 refine aE hI rfl (fun w₁ h₁=>?_)
 rw[stepG_ret',goes_go]
 refine ⟨aQ _,?_⟩
 clear hI
 have hI:=h₁
 clear h₁
 refine aE hI rfl (fun w₁ h₁=>?_)
 refine qJ (q:=hs+3) (A:=ints 28 (bdF B)) rfl rfl Try.func35 rfl rfl Try.underlying43 rfl (by rw[af];exact cJ) (by rw[h₁.1];exact r2) (fun es hes=>⟨bW (by simp) (fun e he=>?_),?_⟩)
 ·obtain ⟨j,rfl⟩:=hes e he
  exact ew (show hs+3<w₁.heap.size by rw[h₁.1,z2];exact lt3) n3.1 (show hs+3≠Fd by omega)
 clear hI
 have hI:=h₁
 clear h₁
 show Goes _ _ _ _ _ _ (G ((base 13).at ⟨#[.string s,v,.int .u64 (seed:Nat),.int .i64 (tries:Nat),.int .i64 (ah:Nat),g 5,g 6,.pointer (some ⟨b7,0,none⟩),g 8,g 9,.pointer (some ⟨b10,0,none⟩),.int .i64 0,g 12,.pointer (some ⟨b13,0,none⟩),g 14,g 15,g 16,g 17,g 18,g 19,g 20,g 21,g 22,g 23,g 24,g 25,g 26,g 27,g 28,g 29,g 30,g 31,g 32,g 33,g 34,g 35,g 36,g 37,g 38,.int .i64 (ah:Nat),.int .i64 (tries:Nat),.func (.func 36) #[] #[.pointer (some ⟨b13,0,none⟩),.pointer (some ⟨b7,0,none⟩)],.agg (ints 28 (bdF B))],[]⟩ [.inRegion cO7 [4,5],.code cR8]) (cal :: cs)) _
 simp only[cO7,cR8,az,dr,Try.f13,Option.getD_some]
 have n10:b10≠hs+3:=by omega
 have h10':=(f2 b10 n10).trans h10
 have lt10:=(Array.getElem?_eq_some_iff.1 h10).1
 refine aE hI rfl (fun w₁ h₁=>?_)
 refine dF (fd:=b10) (o2:=0) (A:=ints 28 (bdF B)) rfl rfl (by k_ne) rfl rfl rfl rfl (by rw[af];exact cJ) aS (by rw[h₁.1];exact h10') (by rw[af,af];decide) (fun es hes=>⟨bW (by simp) (fun e he=>?_),?_⟩)
 ·obtain ⟨j,_,rfl⟩:=hes e he
  exact ew (show b10<_ by simp[h₁.1,z2];exact lt10) n3.2.2 (show b10≠Fd by omega)
 rw[nV (by rw[af,af])]
 obtain ⟨H3,I3,f3,r3,z3⟩:=nX (B:=ints 28 (bdF B)) h₁ h10'
 clear hI
 have hI:=I3
 clear h₁ I3
 refine aE hI rfl (fun w₁ h₁=>?_)
 refine goes_oper_k rfl rfl (by decide) (fun K hK=>?_)
 go_simp
 refine hK _ _ ⟨bW (by simp) (fun e he=>?_),?_⟩
 ·have hm:=mem_listed he
  simp[go_sem, *] at hm
 clear hK K hI
 have hI:=h₁
 clear h₁
 refine aE hI rfl (fun w₁ h₁=>?_)
 walk_rw
 refine ⟨aQ _,?_⟩
 clear hI
 have hI:=h₁
 clear h₁
 refine aE hI rfl (fun w₁ h₁=>?_)
 rw[stepG_ret',goes_go]
 refine ⟨aQ _,?_⟩
 clear hI
 have hI:=h₁
 clear h₁
 refine aE hI rfl (fun w₁ h₁=>?_)
 refine oE (q:=b10) (A:=ints 28 (bdF B)) rfl rfl Try.func13 rfl rfl rfl Try.underlying43 rfl (by rw[af];exact cJ) (by rw[h₁.1];exact r3) (fun es hes=>⟨bW (by simp) (fun e he=>?_),?_⟩)
 ·obtain ⟨j,rfl⟩:=hes e he
  exact ew (show b10<w₁.heap.size by rw[h₁.1,z3,z2];exact lt10) n3.2.2 (show b10≠Fd by omega)
 clear hI
 have hI:=h₁
 clear h₁
 refine Goes.stop fun w₂ h₂=>?_
 obtain ⟨d,rfl⟩:=h₂
 refine ⟨rfl,fun b hb1 hb2=>?_,?_,hI.2.1,hI.2.2⟩
 ·show w₁.heap[b]? = _
  rw[hI.1,f3 b hb2,f2 b hb1]
 ·show w₁.heap.size=_
  rw[hI.1,z3,z2]
end Cs
namespace Cs
open Go.Conc Go.RowKit PK
open Go.ConcR (KK WgAt wgBlock)
open Go.ConcM (OsLater)
noncomputable def ceV (s:ByteArray) (n:Nat) (f:Nat→Int) (seed:Nat) (tries ah:Int):Value:=if ceE s.data.toList n f tries ah=0 then .tuple #[.agg (ints 28 (bdF (bdE s f seed tries.toNat))),.int .i64 0] else .tuple #[.agg (ints 28 fun _=>0),.int .i64 (ceE s.data.toList n f tries ah)]
theorem gJ {l:List UInt8} {n:Nat} {f:Nat→Int} {tries ah:Int} (h:ceE l n f tries ah=0):cwE l n f=0∧(1≤tries∧tries≤16)∧1≤ah∧ah≤16:=by
 unfold ceE at h
 by_cases h1:cwE l n f=0
 ·refine ⟨h1,?_⟩
  rw[if_neg (by simp[h1])] at h
  by_cases h2:tries<1∨16<tries∨ah<1∨16<ah
  ·rw[if_pos h2] at h
   cases h
  ·omega
 ·rw[if_pos (by simpa using h1)] at h
  exact absurd h h1
structure Dq (Sn0 Sn':Nat→Prop) (ah:Int) (n0 n':Nat) (W w:World):Prop where
 keep:∀b,b<W.heap.size→¬Sn0 b→w.heap[b]? = W.heap[b]?
 os:OsLater W.os w.os
 out:w.output=W.output
 size:W.heap.size≤w.heap.size
 sn:∀b,Sn' b→Sn0 b∨(W.heap.size≤b∧b<w.heap.size)
 gs:n'≤n0+16
set_option maxHeartbeats 1000000 in
theorem jg (s:ByteArray) (v:Value) (n seed:Nat) (tries ah:Int) (f:Nat→Int) (W0 W:World) (hv:aY W0 v n f) (rv:Rt W0 v) (hag:∀b,b<W0.heap.size→W.heap[b]? = W0.heap[b]?) {Sn0:Nat→Prop} (hS:∀b,Sn0 b→W0.heap.size≤b∧b<W.heap.size) (cal:Frame) (rest:List Frame) {gs:Array Goroutine} {t:Trace} {qq:Nat→Nat} (hgs:gs.size≤900) (i0:gs[0]? = some (G (mkF 13 #[.string s,v,.int .u64 (seed:Nat),.int .i64 tries,.int .i64 ah,undef,undef,undef,undef,undef,undef,undef,undef,undef,undef,undef,undef,undef,undef,undef,undef,undef,undef,undef,undef,undef,undef,undef,undef,undef,undef,undef,undef,undef,undef,undef,undef,undef,undef,undef,undef,undef,undef] [.code dr] .run) (cal :: rest))) (hq:Qs Try.prog Sn0 gs t qq 0 W.heap.size) (sl:Option (Nat × Nat)) :
  ∃N gs' w' sl' t' q',∃Sn':Nat→Prop,runNT Try.prog N (crowd gs W sl) t=(.next (crowd gs' w' sl'),t')∧gs'[0]? = some (G (cal.finish (ceV s n f seed tries ah)) rest)∧Dq Sn0 Sn' ah gs.size gs'.size W w'∧Qs Try.prog Sn' gs' t' q' 0 w'.heap.size:=by
 by_cases hE:ceE s.data.toList n f tries ah=0
 ·obtain ⟨hcw,ht,hh⟩:=gJ hE
  obtain ⟨tr,rfl⟩:∃tr:Nat,tries=(tr:Nat):=⟨tries.toNat,by omega⟩
  obtain ⟨hd,rfl⟩:∃hd:Nat,ah=(hd:Nat):=⟨ah.toNat,by omega⟩
  obtain ⟨N1,gs1,w1,sl1,t1,q1,g,b7,b10,b13,hs,T,r1,z1,hT,hT6,hT7,i1,cj,Q1⟩:=sJ s v n seed tr hd f hcw (by omega) (by omega) W0 W hv rv hag hS (cal :: rest) hgs i0 hq sl
  obtain ⟨C,hC,hCs,hCi⟩:=cj.brd
  have hSw:∀b,W.heap.size≤b→b≠hs+5→¬(Sn0 b∨b=hs+5):=fun b hb h5 hc=>by
   rcases hc with hc | hc
   ·have:=(hS b hc).2
    omega
   ·exact h5 hc
  have hsz:=cj.size
  have ho10:=cj.o10
  obtain ⟨mu,G2⟩:=sW g s v seed tr hd b7 b10 b13 hs (bdE s f seed tr) cal rest T hT hT6 hT7 (fun b=>Sn0 b∨b=hs+5) w1.heap.size w1.heap w1.os w1.output C hC hCs hCi cj.res cj.c10 ho10.2 ⟨hSw _ (by omega) (by omega),hSw _ (by omega) (by omega),hSw _ (by omega) (by omega)⟩ (Nat.le_refl _) w1 ⟨rfl,rfl,rfl⟩
  obtain ⟨N2,gs2,w2,sl2,t2,q2,g2,r2,z2,i2,⟨rfl,f2,s2,o2,u2⟩,Q2,_⟩:=ez (Pl:=PlF w1.heap.size) (sl:=sl1) (fun w w' es h=>h) (fun g w h=>by rw[h.1];rfl) i1 G2 Q1 (fun j a hy ad e=>by
   have hlow:=Q1.low j a hy
   rw[e] at hlow
   have h3:ad.block<w1.heap.size:=hlow
   omega)
  refine ⟨N1+N2,gs2,w2,sl2,t2,q2,_,?_,?_,⟨fun b hb hne=>?_,?_,?_,?_,fun b hb=>?_,?_⟩,Q2⟩
  ·rw[runNT_add,r1]
   exact r2
  ·rw[i2,ceV,if_pos hE,Int.toNat_natCast]
  ·rw[f2 b (by omega) (by omega)]
   exact cj.keep b hb hne
  ·rw[o2]
   exact cj.os
  ·rw[u2]
   exact cj.out
  ·rw[s2]
   omega
  ·rcases hb with hb | hb
   ·exact .inl hb
   ·refine .inr ⟨by omega,?_⟩
    rw[s2]
    omega
  ·rw[z2,z1]
   omega
 ·obtain ⟨N,gs',w',sl',t',q',r,z,i,k,o1,o2,s1,Q⟩:=qi s v n seed tries ah f hE W0 W hv rv hag hS cal rest i0 hq sl
  exact ⟨N,gs',w',sl',t',q',Sn0,r,by rw[i,ceV,if_neg hE],⟨fun b hb _=>k b hb,by rw[o1];exact OsLater.refl _,o2,s1,fun b hb=>.inl hb,by rw[z];omega⟩,Q⟩
end Cs
section
open Go.RowKit PK
def lQ (s:ByteArray) (n:Nat) (f g:Nat→Int):Int:=if cwE s.data.toList n f≠0 then cwE s.data.toList n f else Pm.fU g
noncomputable def nt (s:ByteArray) (n:Nat) (f g:Nat→Int):Int:=if lQ s n f g≠0 then 0 else sc s f fun i=>(g i).toNat
set_option maxRecDepth 100000 in
set_option maxHeartbeats 8000000 in
theorem ri (s:ByteArray) (v:Value) (n:Nat) (f g:Nat→Int) (w:World) (hv:aY w v n f):Calls Try.prog 11 #[.string s,v,.agg (ints 26 g)] w fun e w'=>e=.returned (.tuple #[.int .i64 (nt s n f g),.int .i64 (lQ s n f g)])∧Below w.heap.size w w':=by
 have hr0:=ai.new w 38 (ints 26 g)
 have hb0:Below w.heap.size w (w.alloc (.cells (ints 26 g) 38)):=(Below.refl _ w).alloc (Nat.le_refl _) _
 have hv1:=hv.below hb0
 have HCW:Hid (∀W,aY W v n f→Calls Try.prog 28 #[.string s,v] W fun e w'=>e=.returned (.int .i64 (cwE s.data.toList n f))∧Below W.heap.size W w'):=fun W h=>rY s v n f W h
 have HV:=(show Hid (aY w v n f) from hv)
 clear hv
 obtain ⟨E,hE⟩:∃E,E=cwE s.data.toList n f:=⟨_,rfl⟩
 have HE:=(show Hid (E=cwE s.data.toList n f) from hE)
 rw[←hE] at HCW
 go_enter Try.func11,Try.ntmps11
 go_upto_region 1 with fail
 obtain ⟨W0,hW0⟩:∃W0,W0=w.alloc (.cells (ints 26 g) 38):=⟨_,rfl⟩
 rw[←hW0] at hr0 hb0 hv1 ⊢
 clear hW0 hE
 go_wp2_with fail
 refine (HCW.out W0 hv1).mono ?_
 rintro e W1 ⟨rfl,hb1⟩
 have hr1:=hr0.below hb1 hr0.lt
 have hb2:=hb0.trans (hb1.mono hb0.size)
 clear hb0 hb1 hr0 hv1 HCW
 by_cases h0:E=0
 case neg =>
  have HA:Hid (nt s n f g=0∧lQ s n f g=E):=by
   have h1:lQ s n f g=E:=by unfold lQ;rw[if_pos (by rw[←HE.out];exact h0),HE.out]
   exact ⟨by unfold nt;rw[if_pos (by rw[h1];exact h0)],h1⟩
  have h0b:(E != 0)=true:=by simpa using h0
  have HB:=(show Hid _ from hb2)
  clear hb2 hr1 HE HV
  go_wp2_with fail
  go_ret2
  exact ⟨by rw[HA.out.1,HA.out.2];rfl,HB.out⟩
 have HZ:=(show Hid _ from eY (HE.out.symm.trans h0))
 have HE1:Hid (lQ s n f g=Pm.fU g):=by rw[Hid,lQ,if_neg (by rw[←HE.out];simp[h0])]
 subst h0
 go_wp2_with (first | refine wpList_load_row rfl 38 _ rfl (w.heap.size) rfl 38 (ints 26 (g)) (0,0) _ hr1 Try.underlying38 rfl (by rw[af];exact aC) ?_)
 refine (uS g W1).mono ?_
 rintro e W2 ⟨rfl,hb3⟩
 have hr2:=hr1.below hb3 hr1.lt
 have hb4:=hb2.trans (hb3.mono hb2.size)
 have HWZ:=(show Hid (Pm.fU g=0→∀i,i<26→0≤g i∧g i<26) from fun h=>by obtain ⟨p,hp,he⟩:=(Pm.mQ g).1 h;intro i hi;rw[he i hi];have:=hp.lt i hi;omega)
 clear hb2 hb3 hr1 HE
 obtain ⟨D,hD⟩:∃D,D=Pm.fU g:=⟨_,rfl⟩
 rw[←hD] at HE1 HWZ ⊢
 clear hD
 by_cases h0:D=0
 case neg =>
  have HA:Hid (nt s n f g=0):=by unfold Hid nt;rw[if_pos (by rw[HE1.out];exact h0)]
  have h0b:(D != 0)=true:=by simpa using h0
  have HB:=(show Hid _ from hb4)
  clear hb4 hr2 HV HWZ HZ
  go_wp2_with fail
  go_ret2
  exact ⟨by rw[HA.out,HE1.out];rfl,HB.out⟩
 subst h0
 have HKL:=(show Hid _ from HWZ.out rfl)
 have HGK:=(show Hid (ints 26 g=ints 26 fun i=>(((g i).toNat:Nat):Int)) from gR fun i hi=>by have:=HKL.out i hi;omega)
 have HA:Hid (nt s n f g=sc s f fun i=>(g i).toNat):=by unfold Hid nt;rw[if_neg (by rw[HE1.out];simp)]
 obtain ⟨hz1,hz2,hz3,hz4⟩:=HZ.out
 subst hz3
 have hls:=(mz hz1).1
 have hsl:s.size≤256:=by have:=Pl.c6 s;omega
 have HV2:=(show Hid (aY W2 v 676 f) from HV.out.below hb4)
 obtain ⟨ta,tc,hvv,_⟩:=HV2.out
 subst hvv
 have HSC:=(show Hid (∀W pv,aY W (.slice ta 676 tc) 676 f→gC W pv s→Calls Try.prog 31 #[.agg #[pv,.slice ta 676 tc],.agg (ints 26 g)] W fun e w'=>e=.returned (.int .i64 (sc s f fun i=>(g i).toNat))∧Below W.heap.size W w') from fun W pv h1 h2=>by
  rw[HGK.out]
  exact lY s hls hsl pv _ f hz4 (fun i=>(g i).toNat) (fun i hi=>by have:=HKL.out i hi;omega) W h2 h1)
 have HSH:=(show Hid _ from nC s hls hsl ta 676 tc)
 clear hz1 hz2 hz4 HZ HWZ HGK HKL hls hsl HV
 obtain ⟨z,hz⟩:∃z,z=sc s f fun i=>(g i).toNat:=⟨_,rfl⟩
 rw[←hz] at HA HSC
 clear hz
 go_upto_region 7 with fail
 refine wp_region_noPanic ?_
 refine wp_region_held_drew (S:=fun W=>ai W w.heap.size 38 (ints 26 g)∧aY W (.slice ta 676 tc) 676 f∧Below w.heap.size w W) (by kernel_rfl) ⟨hr2,HV2.out.below (Below.refl _ _).drew,hb4.drew⟩ (fun hS=>?_)
 obtain ⟨Z,hZ⟩:∃x,x=W2.drew:=⟨_,rfl⟩
 rw[←hZ] at hS ⊢
 clear hZ hr2 HV2 hb4
 refine vtk 0 21 (.string s) rfl (fun W hW=>by clear hS hW;go_simp) hS ?_
 simp only[zsA,zsB,zsC]
 refine vtk 1 22 (.slice ta 676 tc) rfl (fun W hW=>by clear hS hW;go_simp) hS ?_
 simp only[zsA,zsB,zsC]
 refine vtk 3 24 (.agg (ints 26 g)) rfl (fun W hW=>by have u:=run_loadAt_mid (P:=Try.prog) W w.heap.size 0 38 (ints 26 g).toList _ (ai.range hW.1) Try.underlying38 rfl (by rw[Array.length_toList,af];exact aC);clear hS hW;simp[execOp,Act.eval,u]) hS ?_
 simp only[zsA,zsB,zsC]
 refine rd1 2 rfl (fun K hK=>?_)
 go_simp
 refine Calls.mono (HSH.out Z) ?_
 rintro e Y ⟨pv,rfl,hown,hbY⟩
 have hprs:=Cf hown
 refine hK.out _ _ ⟨ai.below hS.1 hbY (ai.lt hS.1),hS.2.1.below hbY,hS.2.2.trans (hbY.mono hS.2.2.size)⟩ (fun hS1=>?_)
 clear hK hS K hbY hown
 have hS:=hS1
 clear hS1
 refine rd1 4 rfl (fun K hK=>?_)
 go_simp
 refine Calls.mono (HSC.out Y pv hS.2.1 hprs) ?_
 rintro e Y2 ⟨rfl,hbY⟩
 refine hK.out _ _ ⟨ai.below hS.1 hbY (ai.lt hS.1),hS.2.1.below hbY,hS.2.2.trans (hbY.mono hS.2.2.size)⟩ (fun hS1=>?_)
 clear hK hS K hbY hprs
 have hS:=hS1
 clear hS1
 refine vtk 5 6 (.int .i64 z) rfl (fun W hW=>by clear hS hW;go_simp) hS ?_
 simp only[zsA,zsB,zsC]
 refine vtk 6 7 (.int .i64 0) rfl (fun W hW=>by clear hS hW;go_simp) hS ?_
 simp only[zsA,zsB,zsC]
 refine wpAnyH_done (by kernel_rfl) ?_ _
 refine NoPanic.normal ?_
 have HB:=(show Hid _ from hS.2.2)
 clear hS
 go_wp2_with fail
 go_ret2
 exact ⟨by rw[HA.out,HE1.out];rfl,HB.out⟩
end
section
open Go.RowKit PK
namespace Jm
noncomputable def vq (F:K→Int) (seed t:Nat):K:=up F (bgK ((seed+t) % 18446744073709551616) 25)
noncomputable def best (F:K→Int) (seed:Nat):Nat→Nat→Int
 | 0=>fun _=>0
 | m+1=>if m=0∨F (vq F seed m) > best F seed m 26 then clF (Pm.up (vq F seed m)) (F (vq F seed m)) m else best F seed m
theorem nO (F:K→Int) (seed m:Nat):best F seed (m+1)=if m=0∨F (vq F seed m) > best F seed m 26 then clF (Pm.up (vq F seed m)) (F (vq F seed m)) m else best F seed m:=rfl
end Jm
end
section
open Go.RowKit PK
namespace Jm
theorem Dh {F:(Nat→Nat)→Int} {key:Nat→Nat} (hk:∀i,i<26→key i<26):∀i,i<26→up F key i<26:=by
 unfold up
 split
 ·rename_i h
  exact h.choose_spec.ind (Q:=fun k=>∀i,i<26→k i<26) hk fun key a b h hab hb=>qU h (by omega) hb
 ·exact hk
end Jm
namespace Cs
theorem CU (s:ByteArray) (f:Nat→Int) (seed t:Nat):∀i,i<26→kE s f seed t i<26:=Jm.Dh (Jm.ko _ 25 (Nat.le_refl _))
theorem kB {s:ByteArray} (hs:Vg.Ls s.data.toList) (hl:s.size≤256) {f:Nat→Int} (hf:∀i,i<676→-1000≤f i∧f i≤1000) (seed:Nat):∀m,bdF (bdE s f seed (m+1))=Jm.best (sc s f) seed (m+1)∧(bdE s f seed (m+1)).tr<((m+1:Nat):Int)∧0≤(bdE s f seed (m+1)).tr∧(bdE s f seed (m+1))=⟨kK s f seed (bdE s f seed (m+1)).tr.toNat,kZ s f seed (bdE s f seed (m+1)).tr.toNat,(bdE s f seed (m+1)).tr⟩
 | 0=>by
  have hz:(-9223372036854775808:Int)<kZ s f seed 0:=by
   have:=(xx hs hl hf (CU s f seed 0)).1
   unfold kZ
   omega
  have e:bdE s f seed (0+1)=⟨kK s f seed 0,kZ s f seed 0,(0:Nat)⟩:=by
   show upB (kK s f seed) (kZ s f seed) bd0 0=_
   unfold upB
   rw[if_pos (.inl hz)]
  rw[e]
  exact ⟨by rw[Jm.nO,if_pos (.inl rfl)];rfl,by simp,by simp,rfl⟩
 | m+1=>by
  obtain ⟨i1,i2,i3,i4⟩:=kB hs hl hf seed m
  have e:bdE s f seed (m+1+1)=upB (kK s f seed) (kZ s f seed) (bdE s f seed (m+1)) (m+1):=by
   unfold bdE
   rw[List.range_succ,List.foldl_append]
   rfl
  have e26:Jm.best (sc s f) seed (m+1) 26=(bdE s f seed (m+1)).sc:=by rw[←i1];rfl
  generalize bdE s f seed (m+1)=b at *
  rw[e]
  unfold upB
  rw[Jm.nO,e26]
  by_cases h:b.sc<kZ s f seed (m+1)
  ·rw[if_pos (.inl h),if_pos (.inr h)]
   refine ⟨rfl,?_,?_,?_⟩
   ·show ((m+1:Nat):Int)<((m+1+1:Nat):Int)
    omega
   ·show (0:Int)≤((m+1:Nat):Int)
    omega
   ·show _=(⟨kK s f seed ((m+1:Nat):Int).toNat,kZ s f seed ((m+1:Nat):Int).toNat,_⟩:Bd)
    rw[Int.toNat_natCast]
  ·rw[if_neg (by omega),if_neg (by rintro (h2 | h2);omega;exact h h2)]
   exact ⟨i1,by omega,i3,i4⟩
end Cs
end
section
open Go.RowKit PK
theorem jP {P:Program} {ops:Array Oper} {Q:Exit→Act→World→Prop} {a:Act} {w:World} (k n:Nat) (hn:n=ops.size-k) (h:wpList P ops Q (ops.toList.drop k) a w):wpOps P ops Q (List.range' k n) a w:=by
 have e:=wpOps_eq_wpList (P:=P) (ops:=ops) (Q:=Q) (ops.toList.drop k) k (fun j=>by simp[List.getElem?_drop])
 rw[show (ops.toList.drop k).length=n by simp[hn]] at e
 rw[e]
 exact h
theorem oN:(Try.prog).stoodInHeld 43=false:=by kernel_rfl
theorem zc (F:Nat→Int) (w:World) (d:Nat):(Op.equalIn (d+3) 43 (.agg (ints 28 F)) (.agg (ints 28 F))).run Try.prog w=.ok true w:=by
 have hs:(sizeOf 38).run Try.prog w=.ok 26 w:=by
  obtain ⟨i,hi,hz⟩:=Option.map_eq_some_iff.1 aC
  simp[sizeOf,typeInfo,hi,hz]
 have e0:∀z:Int,(Op.equalIn (d+2) 3 (.int .i64 z) (.int .i64 z)).run Try.prog w=.ok true w:=fun z=>by
  rw[Op.equalIn]
  simp[Sem.run_bind,run_underlying Try.underlying3]
 have e2:(Op.equalIn (d+2) 38 (.agg (ints 26 F)) (.agg (ints 26 F))).run Try.prog w=.ok true w:=by
  have:=j8 (P:=Try.prog) w d 38 3 26 Try.underlying38 Try.underlying3 qQ F F
  rw[xu] at this
  exact this
 have c0:(ints 28 F)[26]? = some (.int .i64 (F 26)):=aI F (by decide)
 have c1:(ints 28 F)[27]? = some (.int .i64 (F 27)):=aI F (by decide)
 have c2':((ints 28 F).extract 0 26)=ints 26 F:=by
  apply Array.ext_getElem?
  intro j
  by_cases hj:j<26
  ·rw[aI _ hj,Array.getElem?_extract,if_pos (by rw[af];omega),aI _ (by omega)]
   rw[show 0+j=j by omega]
  ·rw[Array.getElem?_eq_none (by simp[af];omega),Array.getElem?_eq_none (by simp[af];omega)]
 have hh:=oN
 generalize ints 28 F=cs at *
 generalize ints 26 F=c2 at *
 have hS:Try.prog.underlying 43=some (.struct (Try.prog.fieldsOf 43)):=by kernel_rfl
 rw[run_equalIn_struct w (d+2) 43 _ _ hS hh]
 simp only[Program.fieldsOf,Try.underlying43]
 clear hS hh
 go_simp
theorem gM (F:Nat→Int) (w:World):(Op.equalIn 10000 43 (.agg (ints 28 F)) (.agg (ints 28 F))).run Try.prog w=.ok true w:=zc F w 9997
end
section
open Go.RowKit PK
theorem rH (z:Value) (n:Nat):madeCells #[z] n=tab n fun _=>z:=by
 unfold madeCells tab
 apply Array.ext
 ·simp
 ·intro i h1 h2
  simp[Nat.mod_one]
def alF (i:Nat):Int:=if i=1 then 5 else 0
def alS:ByteArray:=⟨#[65,66]⟩
theorem D2:lQ alS 676 alF (Pm.up fun i=>i)=0:=by kernel_rfl
theorem DZ:nt alS 676 alF (Pm.up fun i=>i)=5:=by kernel_rfl
theorem Bz:(ints 676 fun _=>0).setIfInBounds 1 (.int .i64 5)=ints 676 alF:=by
 rw[ints_set]
 exact gR fun i _=>rfl
set_option maxRecDepth 100000 in
set_option maxHeartbeats 1000000 in
theorem qx (w:World):Calls Try.prog 15 #[] w fun e w'=>e=.returned (.bool true)∧Below w.heap.size w w':=by
 have hmk:=run_make_row' (P:=Try.prog) 22 3 (.int .i64 0) 8 Try.underlying22 sB rfl .i64 .i64 676 (by omega) (by omega) w
 rw[rH,show (tab 676 fun _=>.int .i64 0)=ints 676 fun _=>0 from rfl] at hmk
 have hmk:(Instr.makeSlice 22 (.int .i64 676) (.int .i64 676)).run Try.prog w=.ok (.slice (some ⟨w.heap.size,0,none⟩) 676 676) (w.alloc (.cells (ints 676 fun _=>0) 3)):=hmk
 have hx0:=ai.new w 3 (ints 676 fun _=>0)
 have hb0:=(Below.refl w.heap.size w).alloc (Nat.le_refl _) (.cells (ints 676 fun _=>0) 3)
 have c1:=hx0.cell (i:=1) (aI _ (by decide))
 have z1:=hx0.frozen 1
 go_enter Try.func15,Try.ntmps15
 go_upto_region 3 with fail
 rw[Bz]
 clear c1 z1 hx0 hb0 hmk
 have hx1:=ai.new w 3 (ints 676 alF)
 have hb1:=(Below.refl w.heap.size w).alloc (Nat.le_refl _) (.cells (ints 676 alF) 3)
 generalize w.alloc (.cells (ints 676 alF) 3)=W1 at *
 go_wp2_with fail
 refine (qL _).mono ?_
 rintro e W2 ⟨rfl,hb2⟩
 have hx2:=hx1.below hb2 hx1.lt
 have hv:aY W2 (.slice (some ⟨w.heap.size,0,none⟩) 676 676) 676 alF:=⟨_,_,rfl,by decide,fun c hc=>⟨_,0,rfl,by rw[Nat.zero_add];exact hx2.cell (aI _ hc)⟩⟩
 have hs:=ri alS _ 676 alF (Pm.up fun i=>i) W2 hv
 rw[D2,DZ] at hs
 go_wp2_with fail
 refine Calls.mono hs ?_
 rintro e W3 ⟨rfl,hb3⟩
 have HB:=(show Hid (Below w.heap.size w W3) from (hb1.trans (hb2.mono hb1.size)).trans (hb3.mono (hb1.trans (hb2.mono hb1.size)).size))
 clear hs hv hx2 hb3 hb2 hb1 hx1
 go_wp2_with fail
 go_ret
 exact ⟨rfl,HB.out⟩
end
end Go.Proofs.Ytpdemelchhkfaaa
