import Derived.Test.YtpdemelchhkfaaaJn25
namespace Go.Proofs.Ytpdemelchhkfaaa
namespace Cs
open Go.Conc PK Go.RowKit Go.Conc.Lib Go.ConcR.Gen Go.ConcN.Gen
open Go.ConcM (OsLater goes_pad goes_le)
open Go.ConcR (WgAt)
theorem xq {fd q:Nat} {A:Array Value} {fr:Nat × Nat} {ty tb:TypeId} {d:TypeDesc} {b:Frame} {a:Act} {ops:Array Oper} {i:Nat} {rest:List Nat} {o:Oper} {x:Operand} {kk:List Item} {cs:List Frame} {w:World} {main:Bool} (ho:ops[i]? = some o) (hg:Region.wanted o (yielded ops a.tmps)=true) (hb:b.kind≠.early) (hop:o.op=.load ty x) (hx:a.eval x=.pointer (some ⟨q,0,none⟩)) (hu:Try.prog.underlying ty=some d) (hd:d.isRow=true) (hi:(Try.prog.info? ty).map (·.size)=some A.size) (hw:w.heap[q]? = some (.cells A tb fr)) :
  ∃es,stepG Try.prog main (G (b.at a (.inRegion ops (i :: rest) :: kk)) cs) w=.go (G (b.at (a.put o.dst (.agg A)) (.inRegion ops rest :: kk)) cs) w es∧∀e ∈ es,EvT fd q e:=by
 have hl:(Instr.loadAt ty (.pointer (some ⟨q,0,none⟩))).run Try.prog w=.ok (.agg A) w:=by
  have h:=run_loadAt_mid (P:=Try.prog) w q 0 ty A.toList d (fun j v hj=>by rw[Nat.zero_add,cell_of_row _ _ _ _ _ _ hw,←Array.getElem?_toList];exact hj) hu hd (by rw[hi];simp)
  simpa using h
 have hr:(execOp a.eval o).run Try.prog w=.ok (.value (.agg A)) w:=by
  unfold execOp
  simp only[hop,hx]
  generalize Instr.loadAt ty _=s at hl ⊢
  simp[go_sem,hl]
 have he:(execOp a.eval o).events Try.prog w #[]=(Instr.loadAt ty (.pointer (some ⟨q,0,none⟩))).events Try.prog w #[]:=by
  unfold execOp
  simp only[hop,hx]
  generalize Instr.loadAt ty _=s
  simp[go_sem]
 refine ⟨_,stepG_value ho hg hb hr,fun e hm=>?_⟩
 have hm':=mem_listed hm
 rw[he] at hm'
 obtain ⟨inf,hi1,hi2⟩:=Option.map_eq_some_iff.1 hi
 have hc:=Ar (P:=Try.prog) A.size 0 #[] w #[] hw (by omega)
 have key:e ∈ (loadCellsFrom ⟨q,0,none⟩ 0 A.size #[]).events Try.prog w #[]→EvT fd q e:=fun h=>by
  rcases hc e h with h | ⟨j,rfl⟩
  ·simp at h
  ·exact .inl ⟨_,rfl,rfl⟩
 cases d with
 | struct fs =>
  simp[Instr.loadAt,Instr.sureAddr,loadVar,isAgg,go_sem,underlying,sizeOf,typeInfo,loadCells,hu,hi1,hi2] at hm'
  exact key hm'
 | array n el =>
  simp[Instr.loadAt,Instr.sureAddr,loadVar,isAgg,go_sem,underlying,sizeOf,typeInfo,loadCells,hu,hi1,hi2] at hm'
  exact key hm'
 | _=>cases hd
theorem vQ {fd o2:Nat} {A cur:Array Value} {ty tb:TypeId} {b:Frame} {a:Act} {ops:Array Oper} {i:Nat} {rest:List Nat} {o:Oper} {x y:Operand} {kk:List Item} {cs:List Frame} {w:World} {main:Bool} (ho:ops[i]? = some o) (hg:Region.wanted o (yielded ops a.tmps)=true) (hb:b.kind≠.early) (hop:o.op=.store ty x y) (hdst:o.dst=none) (hx:a.eval x=.pointer (some ⟨fd,o2,none⟩)) (hy:a.eval y=.agg A) (hi:(Try.prog.info? ty).map (·.size)=some A.size) (h1:∀v ∈ A.toList,v.oneCell'=true) (hw:w.heap[fd]? = some (.cells cur tb (0,0))) (hl:o2+A.size≤cur.size) :
  ∃es,stepG Try.prog main (G (b.at a (.inRegion ops (i :: rest) :: kk)) cs) w=.go (G (b.at a (.inRegion ops rest :: kk)) cs) (w.setRow fd (cur.toList.take o2++A.toList++cur.toList.drop (o2+A.size)).toArray) es∧∀e ∈ es,∃j,o2≤j∧e=⟨.cell ⟨fd,j,none⟩,true,false⟩:=by
 obtain ⟨inf,hi1,hi2⟩:=Option.map_eq_some_iff.1 hi
 have hs:=run_storeCells_at (P:=Try.prog) fd o2 tb A.toList 0 cur w hw (by simpa using hl) h1
 rw[Nat.add_zero,Array.length_toList] at hs
 have hst:(Instr.storeAt ty (.pointer (some ⟨fd,o2,none⟩)) (.agg A)).run Try.prog w=.ok () (w.setRow fd (cur.toList.take o2++A.toList++cur.toList.drop (o2+A.size)).toArray):=by
  simp[Instr.storeAt,Instr.sureAddr,storeVar,go_sem,sizeOf,typeInfo,hi1,hi2,Value.cells,hs]
 have hev:(Instr.storeAt ty (.pointer (some ⟨fd,o2,none⟩)) (.agg A)).events Try.prog w #[]=(storeCells ⟨fd,o2,none⟩ A.toList).events Try.prog w #[]:=by
  simp[Instr.storeAt,Instr.sureAddr,storeVar,go_sem,sizeOf,typeInfo,hi1,hi2,Value.cells]
 have hr:(execOp a.eval o).run Try.prog w=.ok .skip (w.setRow fd (cur.toList.take o2++A.toList++cur.toList.drop (o2+A.size)).toArray):=by
  unfold execOp
  simp only[hop,hx,hy]
  generalize Instr.storeAt ty _ _=s at hst ⊢
  simp[go_sem,hst]
 have he:(execOp a.eval o).events Try.prog w #[]=(Instr.storeAt ty (.pointer (some ⟨fd,o2,none⟩)) (.agg A)).events Try.prog w #[]:=by
  unfold execOp
  simp only[hop,hx,hy]
  generalize Instr.storeAt ty _ _=s
  simp[go_sem]
 refine ⟨_,by rw[stepG_none ho hg hb hr,hdst];rfl,fun e hm=>?_⟩
 have hm':=mem_listed hm
 rw[he,hev] at hm'
 rcases AD (P:=Try.prog) fd o2 tb A.toList 0 cur w #[] hw (by simpa using hl) h1 e hm' with h | h
 ·simp at h
 ·exact h
theorem nj {fd q:Nat} {A:Array Value} {fr:Nat × Nat} {ty tb:TypeId} {d:TypeDesc} {b:Frame} {a:Act} {ops:Array Oper} {i:Nat} {rest:List Nat} {o:Oper} {x:Operand} {kk:List Item} {cs:List Frame} {w:World} {main:Bool} {Kx:Goroutine→World→Array Event→Prop} (ho:ops[i]? = some o) (hg:Region.wanted o (yielded ops a.tmps)=true) (hb:b.kind≠.early) (hop:o.op=.load ty x) (hx:a.eval x=.pointer (some ⟨q,0,none⟩)) (hu:Try.prog.underlying ty=some d) (hd:d.isRow=true) (hi:(Try.prog.info? ty).map (·.size)=some A.size) (hw:w.heap[q]? = some (.cells A tb fr))
  (h:∀es,(∀e ∈ es,EvT fd q e)→Kx (G (b.at (a.put o.dst (.agg A)) (.inRegion ops rest :: kk)) cs) w es):(stepG Try.prog main (G (b.at a (.inRegion ops (i :: rest) :: kk)) cs) w).goes Kx:=by
 obtain ⟨es,hst,hes⟩:=xq (fd:=fd) (kk:=kk) (cs:=cs) (main:=main) (rest:=rest) ho hg hb hop hx hu hd hi hw
 rw[hst,goes_go]
 exact h es hes
theorem dF {fd o2:Nat} {A cur:Array Value} {ty tb:TypeId} {b:Frame} {a:Act} {ops:Array Oper} {i:Nat} {rest:List Nat} {o:Oper} {x y:Operand} {kk:List Item} {cs:List Frame} {w:World} {main:Bool} {Kx:Goroutine→World→Array Event→Prop} (ho:ops[i]? = some o) (hg:Region.wanted o (yielded ops a.tmps)=true) (hb:b.kind≠.early) (hop:o.op=.store ty x y) (hdst:o.dst=none) (hx:a.eval x=.pointer (some ⟨fd,o2,none⟩)) (hy:a.eval y=.agg A) (hi:(Try.prog.info? ty).map (·.size)=some A.size) (h1:∀v ∈ A.toList,v.oneCell'=true) (hw:w.heap[fd]? = some (.cells cur tb (0,0))) (hl:o2+A.size≤cur.size)
  (h:∀es,(∀e ∈ es,∃j,o2≤j∧e=⟨.cell ⟨fd,j,none⟩,true,false⟩)→Kx (G (b.at a (.inRegion ops rest :: kk)) cs) (w.setRow fd (cur.toList.take o2++A.toList++cur.toList.drop (o2+A.size)).toArray) es):(stepG Try.prog main (G (b.at a (.inRegion ops (i :: rest) :: kk)) cs) w).goes Kx:=by
 obtain ⟨es,hst,hes⟩:=vQ (kk:=kk) (cs:=cs) (main:=main) (rest:=rest) ho hg hb hop hdst hx hy hi h1 hw hl
 rw[hst,goes_go]
 exact h es hes
noncomputable def tlB:Code:=Try.f54.body.getD .skip
noncomputable def xJ:Array Oper:=match tlB with | .seq (.region _ o _) _=>o | _=>#[]
noncomputable def sj:Code:=match tlB with | .seq _ c=>c | _=>.skip
noncomputable def Af:Array Oper:=match sj with | .seq (.region _ o _) _=>o | _=>#[]
noncomputable def rf:Code:=match sj with | .seq _ c=>c | _=>.skip
noncomputable def CI:Array Oper:=match rf with | .seq (.region _ o _) _=>o | _=>#[]
noncomputable def Dn:Code:=match rf with | .seq _ (.seq _ c)=>c | _=>.skip
theorem Ah:rf=.seq (.region 2 CI false) (.seq (.region 3 tO true) Dn):=rfl
theorem qK:∃d,Try.prog.underlying 43=some d∧d.isRow=true:=⟨_,Try.underlying43,rfl⟩
theorem cJ:(Try.prog.info? 43).map (·.size)=some 28:=by kernel_rfl
section
variable {K:Nat→Nat→Int} {Z:Nat→Int} {c:Cst} {tW:TypeId} {k q:Nat} {b0:Bd} {St:Goroutine→Prop} {cs:List Frame} {b₀:Frame} {a₀:Act} {ops₀:Array Oper} {i₀:Nat} {rest₀:List Nat} {k₀:List Item}
def B9 (c:Cst) (tW:TypeId) (St:Goroutine→Prop) (cs:List Frame) (g:Goroutine):Prop:=∃f:Frame,f.mode=.returning∧OnA Try.prog c tW false St (G f cs)∧kUr c f cs g
theorem vR (hK:c.K=30) {w:World} {cur:Array Value} (hcur:w.heap[c.Fd]? = some (.cells cur c.TF (0,0))) (hsz:cur.size=30) (F:Nat→Int) :
  bdC c (w.setRow c.Fd (cur.toList.take 2++(ints 28 F).toList++cur.toList.drop (2+(ints 28 F).size)).toArray) (fun i=>.int .i64 (F (i-2))):=by
 intro i h2 hi
 rw[hK] at hi
 rw[cell_setRow_same w c.Fd i cur _ _ _ hcur]
 have hl:(cur.toList.take 2).length=2:=by simp[hsz]
 rw[List.getElem?_toArray,List.append_assoc,List.getElem?_append_right (by omega),hl,List.getElem?_append_left (by simp[af];omega),Array.getElem?_toList,aI F (by omega)]
theorem pM {w:World} {cur:Array Value} (hcur:w.heap[c.Fd]? = some (.cells cur c.TF (0,0))) (hsz:cur.size=30) (F:Nat→Int) {es:Array Event} (hes:∀e ∈ es,∃j,2≤j∧e=⟨.cell ⟨c.Fd,j,none⟩,true,false⟩) :
  DB c q w (w.setRow c.Fd (cur.toList.take 2++(ints 28 F).toList++cur.toList.drop (2+(ints 28 F).size)).toArray) es:=by
 refine ⟨fun b hb=>setRow_other w c.Fd b _ hb,setRow_size _ _ _,fun cs e=>?_,rfl,rfl,fun e he=>?_⟩
 ·rw[hcur] at e
  cases e
  refine ⟨_,setRow_heap w c.Fd cur _ _ _ hcur,?_,?_,?_⟩
  ·simp[af,hsz]
  ·rw[List.getElem?_toArray,List.append_assoc,List.getElem?_append_left (by simp[hsz])]
   simp
  ·rw[List.getElem?_toArray,List.append_assoc,List.getElem?_append_left (by simp[hsz])]
   simp
 ·obtain ⟨j,h2,rfl⟩:=hes e he
  exact .inr (.inl ⟨j,true,h2,rfl⟩)
theorem OwW.stored {tX:TypeId} {w w':World} {es:Array Event} {b':Bd} (h:OwW K Z c tW tX k q b0 w) (hqF:q≠c.Fd∧c.C2≠c.Fd) (hd:DB c q w w' es) (hb:bdC c w' (eBd b')):OwW K Z c tW tX k q b' w':=by
 obtain ⟨h1,h2,h3⟩:=h
 obtain ⟨cs,hcs,hcz⟩:=h1.ok.fd
 obtain ⟨cs',k1,k2,k3,k4⟩:=hd.fd cs hcs
 refine ⟨⟨⟨fun b hb=>(hd.heap b hb.2.1).trans (h1.ok.fix b hb),⟨cs',k1,by omega⟩,by rw[hd.size];exact h1.ok.big,by rw[hd.os];exact h1.ok.os,hd.output.trans h1.ok.out⟩,?_,?_⟩,(hd.heap q hqF.1).trans h2,hb⟩
 ·obtain ⟨a,b,e⟩:=h1.wg
  exact ⟨a,b,by unfold WgAt at e ⊢;rw[hd.heap _ hqF.2];exact e⟩
 ·obtain ⟨W,m,e⟩:=h1.mu
  refine ⟨W,m,?_⟩
  unfold muC at e ⊢
  rw[cell_of_row _ _ _ _ _ _ k1,cell_of_row _ _ _ _ _ _ k1,k3,k4]
  rwa [cell_of_row _ _ _ _ _ _ hcs,cell_of_row _ _ _ _ _ _ hcs] at e
set_option maxRecDepth 100000 in
set_option maxHeartbeats 8000000 in
theorem xZ (hK:c.K=30) (hC:c.C2≠c.Fd) (hL:OnA Try.prog c tW false St (G (b₀.at (a₀.put ((ops₀[i₀]?).bind (·.dst)) (.tuple #[])) (.inRegion ops₀ rest₀ :: k₀)) cs)) :
  dh Try.prog c tW 43 (fun k=>ints 28 (ek K Z k)) eBd (upB K Z) k q (B9 c tW St (b₀.at a₀ (.inRegion ops₀ (i₀ :: rest₀) :: k₀) :: cs)) (G ((base 54).at ⟨#[.pointer (some ⟨c.Fd,0,none⟩),.agg (ints 28 (ek K Z k)),undef,.pointer (some ⟨q,0,none⟩),.pointer (some ⟨c.Fd,0,none⟩),.pointer (some ⟨c.Fd,0,none⟩),.pointer (some ⟨c.Fd,0,none⟩),.tuple #[],undef,undef,undef,undef,undef,undef,undef,undef,undef,undef,undef,undef,undef,undef,undef,undef,undef,undef,undef,undef,undef,undef,undef,undef,undef,undef,undef,undef,undef,undef,undef,undef,undef,undef,undef],[]⟩ [.inRegion Af [],.code rf]) (b₀.at a₀ (.inRegion ops₀ (i₀ :: rest₀) :: k₀) :: cs)):=by
 refine ⟨400,fun b0 w h1 h2 h3=>?_⟩
 have hF:OwW K Z c tW 43 k q b0 w:=⟨h1,h2,h3⟩
 clear h1 h2 h3
 have ret:∀(T:Array Value) (td:List Item),OnA Try.prog c tW false St (G { (base 54).at ⟨T,[]⟩ td with mode:=.returning } (b₀.at a₀ (.inRegion ops₀ (i₀ :: rest₀) :: k₀) :: cs)):=fun T td=>o6 20 rfl hL fun w hF=>by
  u_leave0 Try.func54 aa hF
  exact Goes.stop fun _ _=>rfl
 unfold fu
 rw[Ah]
 simp only[CI,rf,sj,tlB,Try.f54,Option.getD_some]
 refine goes_le (n:=50+340) (by omega) (fD ⟨hF.1,hF.2.1,fun _ _=>rfl⟩ ?_)
 u_c stepG_region_end OwW.rely hF
 u_c stepG_seq OwW.rely hF
 u_reg OwW.rely hF
 repeat w_go OwW.rely
 u_defer OwW.rely hF
 repeat w_but "code.region" OwW.rely
 refine Goes.stop fun w₁ h₁=>?_
 have hF:=OwW.rely hF h₁
 clear h₁
 refine goes_le (n:=300+29) (by omega) (Bn (b:=base 54) hK (by k_ne) (fun T hT0 t0 t3 t38 w hF=>?_) rfl rfl rfl _ hF)
 have e:=bU T 43 hT0
 generalize hv:(fun i=>T.getD i undef)=v at e
 have fv:∀i x,T[i]? = some x→v i=x:=fun i x hx=>by rw[←hv];simp[Array.getD_eq_getD_getElem?,hx]
 have q1:T=#[v 0,v 1,v 2,v 3,v 4,v 5,v 6,v 7,v 8,v 9,v 10,v 11,v 12,v 13,v 14,v 15,v 16,v 17,v 18,v 19,v 20,v 21,v 22,v 23,v 24,v 25,v 26,v 27,v 28,v 29,v 30,v 31,v 32,v 33,v 34,v 35,v 36,v 37,v 38,v 39,v 40,v 41,v 42]:=e.trans rfl
 rw[fv 0 _ t0,fv 3 _ t3,fv 38 _ t38] at q1
 subst q1
 clear fv hv e hT0 t0 t3 t38
 simp only[Dn,rf,sj,tlB,Try.f54,Option.getD_some]
 refine goes_le (n:=60+240) (by omega) (fD ⟨hF.1,hF.2.1,fun _ _=>rfl⟩ ?_)
 u_c stepG_region_end OwW.rely hF
 cases hG:tG Z b0 k with
 | false =>
  have hup:upB K Z b0 k=b0:=by
   unfold tG at hG
   simp at hG
   unfold upB
   rw[if_neg (by omega)]
  rw[hup]
  clear hup hG
  repeat w_go OwW.rely
  u_in OwW.rely hF
  rw[stepG_unwind_enter rfl Try.func80 (by kernel_rfl) rfl]
  simp only[goes_go]
  refine ⟨by u_nil,?_⟩
  refine Goes.stop fun w₁ h₁=>?_
  have hF:=OwW.rely hF h₁
  clear h₁
  refine goes_le (n:=60) (by omega) (aR (fun _ _ _ h=>h) (fun g w h=>⟨h.1,h.2.1,_,rfl,ret _ _,h.2.2⟩) (nL (R:=fun k=>ints 28 (ek K Z k)) _ hF.1 hF.2.1 hF.2.2))
 | true =>
  have hup:upB K Z b0 k=⟨K k,Z k,(k:Nat)⟩:=by
   unfold tG at hG
   simp at hG
   unfold upB
   rw[if_pos (by omega)]
  rw[hup]
  clear hup hG
  repeat w_go OwW.rely
  refine Goes.stop fun w₁ h₁=>?_
  have hF:=OwW.rely hF h₁
  clear h₁
  u_in OwW.rely hF
  obtain ⟨d,hu,hd⟩:=qK
  refine nj (fd:=c.Fd) (A:=ints 28 (ek K Z k)) rfl rfl (by k_ne) rfl rfl hu hd (by rw[af];exact cJ) hF.2.1 (fun es hes=>⟨ru hes,?_⟩)
  clear hes es hu hd d
  refine goes_le (n:=50+150) (by omega) (fD ⟨hF.1,hF.2.1,fun _ _=>rfl⟩ ?_)
  walk_nrm
  repeat w_go OwW.rely
  refine Goes.stop fun w₁ h₁=>?_
  have hF:=OwW.rely hF h₁
  clear h₁
  u_in OwW.rely hF
  obtain ⟨cur,hcur,hcs⟩:=hF.1.ok.fd
  rw[hK] at hcs
  have hqF:q≠c.Fd∧c.C2≠c.Fd:=by
   refine ⟨?_,hC⟩
   rintro rfl
   have h1:=hF.2.1
   unfold BxR at h1
   rw[hcur] at h1
   injection h1 with h1
   injection h1 with h1
   rw[h1,af] at hcs
   omega
  refine dF (fd:=c.Fd) (o2:=2) (A:=ints 28 (ek K Z k)) rfl rfl (by k_ne) rfl rfl rfl rfl (by rw[af];exact cJ) (fun v hv=>by simp[ints,tab] at hv;obtain ⟨_,_,rfl⟩:=hv;rfl) hcur (by rw[af];omega) (fun es hes=>⟨pM (q:=q) hcur hcs (ek K Z k) hes,?_⟩)
  have hdb:=pM (q:=q) hcur hcs (ek K Z k) hes
  have hbd:=vR hK hcur hcs (ek K Z k)
  have hF:=hF.stored (b':=⟨K k,Z k,(k:Nat)⟩) hqF hdb hbd
  clear hdb hbd hes es
  generalize World.setRow _ c.Fd _=w2 at hF ⊢
  refine goes_le (n:=40+100) (by omega) (fD ⟨hF.1,hF.2.1,fun _ _=>rfl⟩ ?_)
  repeat w_go OwW.rely
  u_in OwW.rely hF
  rw[stepG_unwind_enter rfl Try.func80 (by kernel_rfl) rfl]
  simp only[goes_go]
  refine ⟨by u_nil,?_⟩
  refine Goes.stop fun w₁ h₁=>?_
  have hF:=OwW.rely hF h₁
  clear h₁
  refine goes_le (n:=60) (by omega) (aR (fun _ _ _ h=>h) (fun g w h=>⟨h.1,h.2.1,_,rfl,ret _ _,h.2.2⟩) (nL (R:=fun k=>ints 28 (ek K Z k)) _ hF.1 hF.2.1 hF.2.2))
end
end Cs
namespace Cs
open Go.Conc PK Go.RowKit Go.Conc.Lib Go.ConcR.Gen Go.ConcN.Gen
open Go.ConcM (OsLater goes_pad goes_le)
open Go.ConcR (WgAt mk DC0)
theorem OnL.mono {P:Program} {c:Cst} {tW:TypeId} {A B:Goroutine→Prop} {g:Goroutine} (h:OnL P c tW A g) (hAB:∀g,A g→B g):OnL P c tW B g :=
 ⟨h.1,fun w hw=>let ⟨m,hm⟩:=h.2 w hw;⟨m,aR (fun _ _ _ x=>x) (fun g _ x=>⟨x.1,hAB g x.2⟩) hm⟩⟩
structure ClD where
 b:Frame
 a:Act
 ops:Array Oper
 i:Nat
 rest:List Nat
 k:List Item
 cs:List Frame
def ClD.cal (D:ClD):List Frame:=D.b.at D.a (.inRegion D.ops (D.i :: D.rest) :: D.k) :: D.cs
def ClD.ret (D:ClD):Goroutine:=G (D.b.at (D.a.put ((D.ops[D.i]?).bind (·.dst)) (.tuple #[])) (.inRegion D.ops D.rest :: D.k)) D.cs
section
variable (K:Nat→Nat→Int) (Z:Nat→Int) (c:Cst) (tW:TypeId) (St:Nat→Goroutine→Prop)
noncomputable def tlA (k q:Nat):Act:=⟨#[.pointer (some ⟨c.Fd,0,none⟩),.agg (ints 28 (ek K Z k)),undef,.pointer (some ⟨q,0,none⟩),.pointer (some ⟨c.Fd,0,none⟩),.pointer (some ⟨c.Fd,0,none⟩),.pointer (some ⟨c.Fd,0,none⟩),undef,undef,undef,undef,undef,undef,undef,undef,undef,undef,undef,undef,undef,undef,undef,undef,undef,undef,undef,undef,undef,undef,undef,undef,undef,undef,undef,undef,undef,undef,undef,undef,undef,undef,undef,undef],[]⟩
noncomputable def tlF (k q:Nat) (D:ClD):List Frame:=kCs c (base 54) (tlA K Z c k q) Af 3 [] [.code rf] D.cal
def Cr (k q:Nat) (D:ClD):Goroutine→Prop:=dh Try.prog c tW 43 (fun k=>ints 28 (ek K Z k)) eBd (upB K Z) k q (B9 c tW (St k) D.cal)
def lG (k q:Nat) (D:ClD):Goroutine→Prop:=yLa Try.prog c tW (Cr K Z c tW St k q D)
def jb (k q:Nat) (D:ClD):Wd→Bool→Bool→Nat→Goroutine→Prop:=kHd c (base 86) (kA4 c) kO4 1 [] [] (tlF K Z c k q D)
def uF (k:Nat) (fs:List Frame):Wd→Goroutine→Prop:=kHv c (base 87) uH 2 [] [.code vj] fs tW (OnA Try.prog c tW false (St k))
def mL (k q:Nat) (D:ClD):Mx→Goroutine→Prop
 | .ld=>yLd Try.prog c tW (lG K Z c tW St k q D) (jb K Z c k q D)
 | .l0=>yL0 Try.prog c tW (lG K Z c tW St k q D) (jb K Z c k q D)
 | .r0=>yR0 Try.prog c tW (jb K Z c k q D)
 | .sq o a s it=>ySq Try.prog c tW (lG K Z c tW St k q D) (jb K Z c k q D) o a s it
 | .c1 o it=>yC1 Try.prog c tW (jb K Z c k q D) o it
 | .r1 a s it=>yR1 Try.prog c tW (jb K Z c k q D) a s it
 | .c2 o a s it=>yC2 Try.prog c tW (lG K Z c tW St k q D) (jb K Z c k q D) o a s it
 | .r3 a s it=>yR3 Try.prog c tW (jb K Z c k q D) a s it
 | .t1 s=>yT1 Try.prog c tW (lG K Z c tW St k q D) (jb K Z c k q D) s
 | .s1 s=>yS1 Try.prog c tW (lG K Z c tW St k q D) (jb K Z c k q D) s
 | .t2 s=>yT2 Try.prog c tW (lG K Z c tW St k q D) (jb K Z c k q D) s
 | .r2 s=>yR2 Try.prog c tW (lG K Z c tW St k q D) (jb K Z c k q D) s
 | .a1 o s=>yA1 Try.prog c tW (lG K Z c tW St k q D) o s
 | .le=>yLe Try.prog c tW (lG K Z c tW St k q D)
 | .la=>lG K Z c tW St k q D
 | _=>fun _=>False
def mU (k:Nat) (fs:List Frame):Mx→Goroutine→Prop
 | .ud=>yUd Try.prog c tW (OnA Try.prog c tW false (St k)) (uF c tW St k fs)
 | .u0=>yU0 Try.prog c tW (OnA Try.prog c tW false (St k)) (uF c tW St k fs)
 | .uc o=>yUc Try.prog c tW (OnA Try.prog c tW false (St k)) (uF c tW St k fs) o
 | .u2=>yU2 Try.prog c tW (uF c tW St k fs)
 | .us=>yUs Try.prog c tW (OnA Try.prog c tW false (St k))
 | .ux=>yUx Try.prog c tW (OnA Try.prog c tW false (St k))
 | .ue=>yUe Try.prog c tW (OnA Try.prog c tW false (St k))
 | _=>fun _=>False
def qX (k q:Nat) (x:Mx) (g:Goroutine):Prop:=(∃D:ClD,OnA Try.prog c tW false (St k) D.ret∧mL K Z c tW St k q D x g)∨∃f:Frame,∃cs,f.mode=.returning∧OnA Try.prog c tW false (St k) (G f cs)∧mU c tW St k (uwF c :: f :: cs) x g
def Ce (k _q:Nat) (g:Goroutine):Prop:=∃D:ClD,B9 c tW (St k) D.cal g
def BC (k:Nat) (g:Goroutine):Prop:=∃D:ClD,OnA Try.prog c tW false (St k) D.ret∧g=G ((base 54).at ⟨#[.pointer (some ⟨c.Fd,0,none⟩),.agg (ints 28 (ek K Z k)),undef,undef,undef,undef,undef,undef,undef,undef,undef,undef,undef,undef,undef,undef,undef,undef,undef,undef,undef,undef,undef,undef,undef,undef,undef,undef,undef,undef,undef,undef,undef,undef,undef,undef,undef,undef,undef,undef,undef,undef,undef],[]⟩ [.inRegion xJ [0],.code sj]) D.cal
end
section
variable {K:Nat→Nat→Int} {Z:Nat→Int} {c:Cst} {tW:TypeId} {St:Nat→Goroutine→Prop} {k q:Nat} {D:ClD} {g:Goroutine}
theorem yN (hK:c.K=30) (hC:c.C2≠c.Fd) (hD:OnA Try.prog c tW false (St k) D.ret):Cr K Z c tW St k q D (G ((base 54).at ((tlA K Z c k q).put ((Af[3]?).bind (·.dst)) (.tuple #[])) (.inRegion Af [] :: [.code rf])) D.cal) :=
 xZ (K:=K) (Z:=Z) (k:=k) (q:=q) (St:=St k) hK hC hD
theorem zC (hK:c.K=30) (hC:c.C2≠c.Fd) (hD:OnA Try.prog c tW false (St k) D.ret):Cr K Z c tW St k q D (G ((base 86).at ((kA4 c).put ((kO4[1]?).bind (·.dst)) (.tuple #[])) [.inRegion kO4 []]) (tlF K Z c k q D)) :=
 wA (yN hK hC hD)
theorem zi (hK:c.K=30) (hC:c.C2≠c.Fd) (hD:OnA Try.prog c tW false (St k) D.ret) {o:Wd} {a s:Bool} {it:Nat} (h:OnL Try.prog c tW (jb K Z c k q D o a s it) g):OnL Try.prog c tW (mL K Z c tW St k q D (.head o a s it)) g:=by
 have hK2:2≤c.K:=by omega
 have hT:=zC (K:=K) (Z:=Z) (q:=q) hK hC hD
 refine kC 200 h fun g hg w hw=>?_
 obtain ⟨h1,h2,h3⟩:=hg.1.1
 by_cases hh:o.l=1∧o.s=0
 ·rw[show Mx.head o a s it=.sq o a s it from if_pos hh]
  refine goes_le (n:=40) (by omega) (aR (fun _ _ _ h=>h) (fun g w x=>⟨x.1,?_⟩) (zk hh.1 hh.2 hg w hw))
  have hs:=x.2
  by_cases hi:it<4
  ·exact AN hK2 hT hi hs
  ·exact Cz hK2 hT (by omega) hs
 ·rw[show Mx.head o a s it=.c2 o a s it from if_neg hh]
  have fin:∀g w,g.status=.running∧kMd c (base 86) (kA4 c) kO4 1 [] [] (tlF K Z c k q D) o a s it g→Ok3 c tW w→Goes Try.prog false (fun _ w=>Ok3 c tW w) DC0 (fun g _=>g.status=.running∧mL K Z c tW St k q D (.c2 o a s it) g) 80 g w:=fun g w x hw=>wX hK2 hT x.2 w hw
  obtain hl | hl:o.l=0∨o.l=1:=by omega
  ·obtain hs | hs:o.s=0∨o.s=1:=by omega
   ·exact goes_le (n:=40+80) (by omega) (dO (fun g w x hw=>fin g w x hw) (yG hl hs hg w hw))
   ·exact goes_le (n:=40+80) (by omega) (dO (fun g w x hw=>fin g w x hw) (xW hl hs hg w hw))
  ·have hs:o.s=1:=by omega
   exact goes_le (n:=40+80) (by omega) (dO (fun g w x hw=>fin g w x hw) (wR hl hs hg w hw))
theorem Ax {f:Frame} {cs:List Frame} (hK:c.K=30) {x':Mx} (h:zA Try.prog c tW (uF c tW St k (uwF c :: f :: cs)) x' g):x'≠.no∧OnL Try.prog c tW (mU c tW St k (uwF c :: f :: cs) x') g:=by
 obtain ⟨o,h1,h2,h3,h4⟩:=h
 rcases h3 with ⟨rfl,hx⟩ | ⟨rfl,hq,hl,hw,hs⟩
 ·refine ⟨(fun e=>by cases e),kC 80 h4 fun g hg w hw=>?_⟩
  obtain ⟨a₁,hU,hg⟩:=hg
  exact Di hU h1 h2 hx hg w hw
 ·refine ⟨(fun e=>by cases e),kC 80 h4 fun g hg w hw'=>?_⟩
  obtain ⟨a₁,hU,hg⟩:=hg
  exact aR (fun _ _ _ h=>h) (fun g w x=>⟨x.1,zu (by omega) hU h1 hq x.2⟩) (CC h1 h2 hq hl hw hs hg w hw')
def pN (K:Nat→Nat→Int) (Z:Nat→Int) (c:Cst) (tW:TypeId) (St:Nat→Goroutine→Prop) (k q:Nat) (x':Mx) (g':Goroutine):Prop:=(x'≠.no→OnL Try.prog c tW (qX K Z c tW St k q x') g')∧(x'=.no→OnA Try.prog c tW false (St k) g')
theorem Cy (hD:OnA Try.prog c tW false (St k) D.ret) {x':Mx} (hx:x'≠.no) (h:OnL Try.prog c tW (mL K Z c tW St k q D x') g):pN K Z c tW St k q x' g:=⟨fun _=>h.mono fun _ y=>.inl ⟨D,hD,y⟩,fun e=>absurd e hx⟩
theorem CQ {f:Frame} {cs:List Frame} (hcm:f.mode=.returning) (hT:OnA Try.prog c tW false (St k) (G f cs)) {x':Mx} (hx:x'≠.no) (h:OnL Try.prog c tW (mU c tW St k (uwF c :: f :: cs) x') g):pN K Z c tW St k q x' g:=⟨fun _=>h.mono fun _ y=>.inr ⟨f,cs,hcm,hT,y⟩,fun e=>absurd e hx⟩
theorem zJ (hK:c.K=30) (hC:c.C2≠c.Fd) (hD:OnA Try.prog c tW false (St k) D.ret) {x':Mx} (h:vP Try.prog c tW (jb K Z c k q D) x' g):pN K Z c tW St k q x' g:=by
 obtain ⟨o,a,s,it,rfl,h⟩:=h
 exact Cy hD (by unfold Mx.head;split <;> exact fun e=>by cases e) (zi hK hC hD h)
theorem Be (hK:c.K=30) (hC:c.C2≠c.Fd) {x:Mx} (h:qX K Z c tW St k q x g) (hx:gy x):xCl Try.prog c tW x (pN K Z c tW St k q) g:=by
 rcases h with ⟨D,hD,h⟩ | ⟨f,cs,hcm,hT,h⟩
 ·have hd:∀{x' g'},vP Try.prog c tW (jb K Z c k q D) x' g'→pN K Z c tW St k q x' g':=fun h=>zJ hK hC hD h
  have hn:∀{x' g'},x'≠.no→OnL Try.prog c tW (mL K Z c tW St k q D x') g'→pN K Z c tW St k q x' g':=fun h1 h2=>Cy hD h1 h2
  cases x with
  | ld=>exact xCl.mono h fun x' g' e=>by obtain ⟨rfl,e⟩:=e;exact hn (fun e=>by cases e) e
  | l0=>exact xCl.mono h fun x' g' e=>by rcases e with ⟨rfl,e⟩ | ⟨rfl,e⟩ <;> exact hn (fun e=>by cases e) e
  | r0=>exact xCl.mono h fun x' g' e=>hd e
  | sq o a s it=>exact xCl.mono h fun x' g' e=>by rcases e with ⟨rfl,e⟩ | ⟨rfl,e⟩ | ⟨rfl,e⟩ <;> exact hn (fun e=>by cases e) e
  | c1 o it=>exact xCl.mono h fun x' g' e=>by obtain ⟨a,rfl,e⟩:=e;exact hn (fun e=>by cases e) e
  | r1 a s it=>exact xCl.mono h fun x' g' e=>hd e
  | c2 o a s it=>exact xCl.mono h fun x' g' e=>by rcases e with ⟨rfl,e⟩ | ⟨rfl,e⟩ | ⟨rfl,e⟩ | ⟨rfl,e⟩ <;> exact hn (fun e=>by cases e) e
  | r3 a s it=>exact xCl.mono h fun x' g' e=>hd e
  | t1 s=>exact xCl.mono h fun x' g' e=>by obtain ⟨rfl,e⟩:=e;exact hn (fun e=>by cases e) e
  | s1 s=>exact xCl.mono h.1 fun x' g' e=>by rcases e with ⟨s',rfl,e⟩ | ⟨s',rfl,e⟩ <;> exact hn (fun e=>by cases e) e
  | t2 s=>exact xCl.mono h fun x' g' e=>by obtain ⟨s',rfl,e⟩:=e;exact hn (fun e=>by cases e) e
  | r2 s =>
   exact xCl.mono h fun x' g' e=>by
    rcases e with ⟨o,s',rfl,e⟩ | e
    ·exact hn (fun e=>by cases e) e
    ·exact hd e
  | a1 o s=>exact xCl.mono h fun x' g' e=>by obtain ⟨rfl,e⟩:=e;exact hn (fun e=>by cases e) e
  | le=>exact xCl.mono h fun x' g' e=>by obtain ⟨rfl,e⟩:=e;exact hn (fun e=>by cases e) e
  | la=>exact hx.elim
  | _=>exact h.elim
 ·have hu:∀{x' g'},zA Try.prog c tW (uF c tW St k (uwF c :: f :: cs)) x' g'→pN K Z c tW St k q x' g':=fun h=>CQ hcm hT (Ax hK h).1 (Ax hK h).2
  have hn:∀{x' g'},x'≠.no→OnL Try.prog c tW (mU c tW St k (uwF c :: f :: cs) x') g'→pN K Z c tW St k q x' g':=fun h1 h2=>CQ hcm hT h1 h2
  cases x with
  | ud=>exact xCl.mono h fun x' g' e=>by obtain ⟨rfl,e⟩:=e;exact hn (fun e=>by cases e) e
  | u0 =>
   exact xCl.mono h fun x' g' e=>by
    rcases e with ⟨rfl,e⟩ | ⟨rfl,e⟩ | e
    ·exact hn (fun e=>by cases e) e
    ·exact hn (fun e=>by cases e) e
    ·exact hu e
  | uc o=>exact xCl.mono h fun x' g' e=>by rcases e with ⟨rfl,e⟩ | ⟨rfl,e⟩ <;> exact hn (fun e=>by cases e) e
  | u2=>exact xCl.mono h fun x' g' e=>hu e
  | us=>exact xCl.mono h.2 fun x' g' e=>by obtain ⟨rfl,e⟩:=e;exact hn (fun e=>by cases e) e
  | ux=>exact xCl.mono h.2 fun x' g' e=>by obtain ⟨rfl,e⟩:=e;exact hn (fun e=>by cases e) e
  | ue=>exact xCl.mono h fun x' g' e=>by obtain ⟨rfl,e⟩:=e;exact ⟨fun e=>absurd rfl e,fun _=>e⟩
  | la=>exact hx.elim
  | _=>exact h.elim
theorem Cg {s:Bool} (h:qX K Z c tW St k q (.s1 s) g):g.offers=none∧∀w W,Ok3 c tW w→muC c w W 0→stepG Try.prog false g w=.go { g with status:=.blocked } w #[]:=by
 rcases h with ⟨D,hD,h⟩ | ⟨f,cs,hcm,hT,h⟩
 ·exact h.2
 ·exact h.elim
theorem Cd {x:Mx} (h:qX K Z c tW St k q x g) (hx:x=.us∨x=.ux):mayWake Try.prog g=true:=by
 rcases h with ⟨D,hD,h⟩ | ⟨f,cs,hcm,hT,h⟩
 ·rcases hx with rfl | rfl <;> exact h.elim
 ·rcases hx with rfl | rfl <;> exact h.1
theorem B8 (h:qX K Z c tW St k q .la g):isG g∧∃g',(∀w,Ok3 c tW w→stepG Try.prog false g w=.go g' w #[mk (.acquire (gZ c))])∧∀b w,Ok3 c tW w→BxR (fun k=>ints 28 (ek K Z k)) 43 k q w→bdC c w (eBd b)→∃m,fu Try.prog c tW 43 (fun k=>ints 28 (ek K Z k)) k q (eBd (upB K Z b k)) (Ce c tW St k q) m g' w:=by
 rcases h with ⟨D,hD,h⟩ | ⟨f,cs,hcm,hT,h⟩
 ·obtain ⟨h1,g',h2,m,h3⟩:=h
  exact ⟨h1,g',h2,fun b w a1 a2 a3=>⟨m,aR (fun _ _ _ h=>h) (fun g w h=>⟨h.1,h.2.1,D,h.2.2⟩) (h3 b w a1 a2 a3)⟩⟩
 ·exact h.elim
theorem Bt (hK:c.K=30) (h:Ce c tW St k q g):isG g∧∃g',(∀w,Ok3 c tW w→stepG Try.prog false g w=.go g' w #[mk (.releaseMerge (gZ c))])∧OnL Try.prog c tW (qX K Z c tW St k q .ud) g':=by
 obtain ⟨D,f,hcm,hT,hg⟩:=h
 obtain ⟨h1,g',h2,h3⟩:=xC (by omega) hcm hT hg
 exact ⟨h1,g',h2,h3.mono fun _ y=>.inr ⟨f,D.cal,hcm,hT,y⟩⟩
set_option maxRecDepth 100000 in
set_option maxHeartbeats 8000000 in
theorem Bx (hK:c.K=30) (hC:c.C2≠c.Fd) (h:BC K Z c tW St k g):isG g∧∃g':Nat→Goroutine,(∀w,stepG Try.prog false g w=.go (g' w.heap.size) (w.alloc (.cells (ints 28 (ek K Z k)) 43 (0,0))) #[])∧∀q,OnL Try.prog c tW (qX K Z c tW St k q .ld) (g' q):=by
 obtain ⟨D,hD,rfl⟩:=h
 refine ⟨⟨_,_,rfl⟩,fun q=>G ((base 54).at ⟨#[.pointer (some ⟨c.Fd,0,none⟩),.agg (ints 28 (ek K Z k)),undef,.pointer (some ⟨q,0,none⟩),undef,undef,undef,undef,undef,undef,undef,undef,undef,undef,undef,undef,undef,undef,undef,undef,undef,undef,undef,undef,undef,undef,undef,undef,undef,undef,undef,undef,undef,undef,undef,undef,undef,undef,undef,undef,undef,undef,undef],[]⟩ [.inRegion xJ [],.code sj]) D.cal,fun w=>?_,fun q=>aO 200 rfl fun w hF=>?_⟩
 ·rw[stepG_value (o:=xJ.getD 0 default) (v:=.pointer (some ⟨w.heap.size,0,none⟩)) (w':=w.alloc (.cells (ints 28 (ek K Z k)) 43 (0,0))) rfl rfl (by k_ne) (by simp[execOp,go_sem,xJ,tlB,Try.f54,Act.eval])]
  rw[listed_nil (by simp[execOp,go_sem,xJ,tlB,Try.f54,Act.eval])]
  rfl
 ·have hT:=yN (K:=K) (Z:=Z) (q:=q) hK hC hD
  simp only[sj,tlB,Try.f54,Option.getD_some]
  u_c stepG_region_end aa hF
  repeat w_go aa
  u_call Try.func79 Cx Try.f79 aa hF
  exact goes_le (n:=40) (by omega) (aR (fun _ _ _ h=>h) (fun g w h=>⟨h.1,.inl ⟨D,hD,h.2⟩⟩) (y8 (k:=k) (q:=q) (by omega) hT _ hF))
end
end Cs
end Go.Proofs.Ytpdemelchhkfaaa
