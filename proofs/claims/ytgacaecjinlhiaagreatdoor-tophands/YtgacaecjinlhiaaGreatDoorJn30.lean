import Derived.Test.YtgacaecjinlhiaaGreatDoorJn29
namespace Go.Proofs.YtgacaecjinlhiaaGreatDoor
section
open Go.RowKit PK Vg Go.Conc Cs
structure BmS (g:Gm) (h:Hl) (cr te:ByteArray):Prop where
 n:h.n=g.n
 t:∀N,∃A ok pr,Tst (gmN g N) cr te A ok pr∧h.gs N=(fun b=>gsF A b (pr b))∧h.lg N=eR ok 26
theorem Hw {g:Gm} {cr te:ByteArray} (h:bwE g cr.data.toList te.data.toList=0) (N:Nat):bwE (gmN g N) cr.data.toList te.data.toList=0:=by
 have h1:=IJ (gT h).1 N
 have h0:=(gT h).1
 unfold bwE at h ⊢
 rw[h1]
 rw[h0] at h
 exact h
theorem yW {g:Gm} {cr te:ByteArray} (h:bwE g cr.data.toList te.data.toList=0):∃hl,BmS g hl cr te:=by
 have key:∀N,∃x:Nat × (Nat→Bool) × (Nat→Nat→Int),Tst (gmN g N) cr te x.1 x.2.1 x.2.2:=fun N=>by
  obtain ⟨A,ok,pr,ht⟩:=yT (Hw h N)
  exact ⟨(A,ok,pr),ht⟩
 exact ⟨⟨g.n,fun N b=>gsF (key N).choose.1 b ((key N).choose.2.2 b),fun N=>eR (key N).choose.2.1 26⟩,rfl,fun N=>⟨_,_,_,(key N).choose_spec,rfl,rfl⟩⟩
theorem CO (g:Gm) (cr te:ByteArray) (N c:Nat):∀k,Bo.ml (mnu (gmN g N) cr te) c k=Bo.ml (mnu g cr te) c k
 | 0=>rfl
 | k+1=>by rw[Bo.ml,Bo.ml,CO g cr te N c k];rfl
theorem ze {g:Gm} {h:Int} (hE:swE g h=0):1≤g.n∧g.n≤3∧gE g=0:=by
 obtain ⟨hgE,hn3,_,_⟩:=oZ hE
 refine ⟨?_,hn3,hgE⟩
 refine Nat.lt_of_not_le fun hc=>?_
 unfold gE at hgE
 rw[if_pos (.inl (by omega))] at hgE
 cases hgE
section
variable {w w':World} (hag:∀b,b<w.heap.size→w'.heap[b]? = w.heap[b]?)
include hag
theorem zU {v:Value} {s n:Nat} {f:Nat→Int} (h:iO w v s n f):iO w' v s n f:=by
 obtain ⟨a,cap,h1,h3⟩:=h
 refine ⟨a,cap,h1,fun c hc=>?_⟩
 obtain ⟨b,o,e,k⟩:=h3 c hc
 exact ⟨b,o,e,mz hag k⟩
theorem FF {q s:Nat} {L:Nat→List (Nat × Nat)} (h:MnC w q s L):MnC w' q s L:=by
 obtain ⟨y,T,fr,h1,h2⟩:=h
 refine ⟨y,T,fr,Em hag h1,fun c hc=>?_⟩
 obtain ⟨v,e,k1,k2⟩:=h2 c hc
 exact ⟨v,e,zU hag k1,dI hag k2⟩
theorem Ff {v:Value} {L:List Nat} {h:Hl} (k:HsC w v L h):HsC w' v L h:=by
 obtain ⟨a,cap,h1,h2,h3,h4⟩:=k
 refine ⟨a,cap,h1,h2,dI hag h3,fun j N hj=>?_⟩
 obtain ⟨b,o,us,ug,e,k1,k2,⟨k3,k4⟩,k5,k6⟩:=h4 j N hj
 exact ⟨b,o,us,ug,e,mz hag k1,mz hag k2,⟨dD hag k3,dI hag k4⟩,zU hag k5,dI hag k6⟩
end
set_option maxHeartbeats 2000000 in
theorem yA (k:Nat) (hk:k<26) (bN bC q s:Nat) (a b c:Value) (g:Gm) (cr te:ByteArray) (h:Hl) (hB:BmS g h cr te) (hd:Int) (hE:swE g hd=0) (hfit:∀r,r<g.n→g.nl r*8≤140737488355328) (hrl:g.rl*8≤140737488355328) (TN TC:TypeId) (fN fC:Nat × Nat) (w:World) (hN:w.heap[bN]? = some (.cells #[.pointer (some ⟨q,s,none⟩)] TN fN)) (hC:w.heap[bC]? = some (.cells #[.string cr] TC fC)) (hmn:MnC w q s (fun c=>Bo.ml (mnu g cr te) c (mnu g cr te).k)) (ha:WhR w a g.n g.wi g.nl g.no) (hb:aq w b g.rl g.ri) (hc:aq w c g.sl g.st) (ra:Rt w a) (rb:Rt w b) (rc:Rt w c) :
  ∃(E:Env) (wl:World) (x:Array Value),(∀b q s o,E b=some (q,s,o)→o=false∧q<w.heap.size)∧LR E x #[.agg (mac a b c g.rf g.pl),.int .i64 (k:Nat),.func (.func 12) #[] #[.pointer (some ⟨bN,0,none⟩),.pointer (some ⟨bC,0,none⟩)]]∧WR Tryz.prog E wl w∧Fns.G≤wl.heap.size∧∀τ,Calls Tryz.prog 33 x (wl.tp τ) fun e w'=>∃v,e=.returned v∧HsO w' wl.heap.size v (h.eG k (26 ^ (g.n-1))) h:=by
 obtain ⟨hn1,hn3,hgE⟩:=ze hE
 obtain ⟨E1,wl1,a',b',c',p1,q1,ra',rb',rc',hm1⟩:=y6 (Cp.nil (P:=Tryz.prog) w) eZ ha hb hc ra rb rc
 obtain ⟨E2,wl2,d,p2,q2,rd,hd2⟩:=Gk p1 eZ hmn
 obtain ⟨E3,wl3,dN,p3,q3,rN,kN⟩:=qu p2 eZ hN #[.pointer (some ⟨d,0,none⟩)] (fun i u hu=>by
  have hi:i=0:=by have:=(Array.getElem?_eq_some_iff.1 hu).1;simp at this;exact this
  subst hi
  cases hu
  exact ⟨_,rfl,rd⟩)
 obtain ⟨E4,wl4,dC,p4,q4,rC,kC⟩:=qu p3 eZ hC #[.string cr] (fun i u hu=>by
  have hi:i=0:=by have:=(Array.getElem?_eq_some_iff.1 hu).1;simp at this;exact this
  subst hi
  cases hu
  exact ⟨_,rfl,.string _⟩)
 have hm4:=p6 q4 (p6 q3 (p6 q2 hm1))
 have hlm:LR E4 (mac a' b' c' g.rf g.pl) (mac a b c g.rf g.pl):=xB (((ra'.mono q2.le).mono q3.le).mono q4.le) (((rb'.mono q2.le).mono q3.le).mono q4.le) (((rc'.mono q2.le).mono q3.le).mono q4.le)
 have hcN:wl4.cell? ⟨dN,0,none⟩=some (.pointer (some ⟨d,0,none⟩)):=q4.cell (by rw[cell_of_row _ _ _ _ _ _ kN];rfl)
 have hcC:wl4.cell? ⟨dC,0,none⟩=some (.string cr):=by rw[cell_of_row _ _ _ _ _ _ kC];rfl
 have hmn4:pQ wl4 d (fun c=>Bo.ml (mnu g cr te) c (mnu g cr te).k):=by
  obtain ⟨vals,h1,h2⟩:=hd2
  refine ⟨vals,fun c hc=>q4.cell (q3.cell (h1 c hc)),fun c hc=>?_⟩
  obtain ⟨x,y,e,k⟩:=h2 c hc
  refine ⟨x,y,e,fun c hc=>?_⟩
  obtain ⟨b,e1,e2,e3⟩:=k c hc
  exact ⟨b,e1,q4.cell (q3.cell e2),q4.cell (q3.cell e3)⟩
 have hfn:VR E4 (.func (.func 12) #[] #[.pointer (some ⟨dN,0,none⟩),.pointer (some ⟨dC,0,none⟩)]) (.func (.func 12) #[] #[.pointer (some ⟨bN,0,none⟩),.pointer (some ⟨bC,0,none⟩)]):=by
  have l1:LR E4 #[.pointer (some ⟨dN,0,none⟩),.pointer (some ⟨dC,0,none⟩)] #[.pointer (some ⟨bN,0,none⟩),.pointer (some ⟨bC,0,none⟩)]:=ai (rN.mono q4.le) (ai rC jd)
  exact .func _ (by kernel_rfl) rfl (fun i u v hu=>by simp at hu) l1.size l1.at_
 refine ⟨E4,wl4,#[.agg (mac a' b' c' g.rf g.pl),.int .i64 (k:Nat),.func (.func 12) #[] #[.pointer (some ⟨dN,0,none⟩),.pointer (some ⟨dC,0,none⟩)]],fun b q s o e=>⟨p4.sh _ _ _ _ e,(p4.wr.lt e).2⟩,ai (.lu hlm) (ai (.int _ _) (ai hfn jd)),p4.wr,p4.big,fun τ=>?_⟩
 obtain ⟨hn,ht⟩:=hB
 obtain ⟨hh,gs,lg⟩:=h
 dsimp only at hn
 subst hn
 refine (KC _ g hn1 (by omega) hfit hrl k hk dN dC gs lg (wl4.tp τ) hm4 (fun N a2 b2 c2 W hb2 hm2=>?_)).mono ?_
 ·obtain ⟨A,ok,pr,htN,e1,e2⟩:=ht N
  dsimp only at e1 e2
  have hmW:pQ W d (fun c=>Bo.ml (mnu (gmN g N) cr te) c (mnu (gmN g N) cr te).k):=by
   have e3:(fun c=>Bo.ml (mnu (gmN g N) cr te) c (mnu (gmN g N) cr te).k)=(fun c=>Bo.ml (mnu g cr te) c (mnu g cr te).k):=funext fun c=>CO g cr te N c _
   rw[e3]
   exact pQ.below (W:=wl4.tp τ) hmn4 hb2
  have hcN':(wl4.tp τ).cell? ⟨dN,0,none⟩=some (.pointer (some ⟨d,0,none⟩)):=hcN
  have hcC':(wl4.tp τ).cell? ⟨dC,0,none⟩=some (.string cr):=hcC
  refine (JV a2 b2 c2 (gmN g N) cr te A ok pr htN (by show g.n*8≤_;omega) dN dC d W hm2 ((hb2.cell (aA hcN')).trans hcN') ((hb2.cell (aA hcC')).trans hcC') hmW).mono ?_
  rintro e w' ⟨us,ug,rfl,k1,⟨B,k2⟩,k3⟩
  refine ⟨us,ug,?_,⟨k1,B,?_⟩,k3⟩
  ·show Ending.returned (.tuple #[.agg #[us,ug],.bool (decide (0<(eR ok 26).length))])=.returned (.tuple #[.agg #[us,ug],.bool (decide (0<(lg N).length))])
   rw[e2]
  ·show fS w' B ug (gs N) (lg N)
   rw[e1,e2]
   exact k2
 ·rintro e w' ⟨v,rfl,h1,_⟩
  exact ⟨v,rfl,h1⟩
set_option maxRecDepth 100000 in
set_option maxHeartbeats 4000000 in
theorem xg (cst:Cst) (bF bM bL bD bN bC q s:Nat) (a b c:Value) (g:Gm) (cr te:ByteArray) (hl:Hl) (hBm:BmS g hl cr te) (h:Int) (hE:swE g h=0) (hfit:∀r,r<g.n→g.nl r*8≤140737488355328) (hrl:g.rl*8≤140737488355328) (TN TC:TypeId) (fN fC:Nat × Nat) (wp:World)
  (hpre:∀w,cst.Ok w→∀b,b<wp.heap.size→w.heap[b]? = wp.heap[b]?) (hfix:∀q,q<wp.heap.size→cst.Fix q)
  (hN:wp.heap[bN]? = some (.cells #[.pointer (some ⟨q,s,none⟩)] TN fN)) (hC:wp.heap[bC]? = some (.cells #[.string cr] TC fC)) (hmn:MnC wp q s (fun c=>Bo.ml (mnu g cr te) c (mnu g cr te).k)) (ha:WhR wp a g.n g.wi g.nl g.no) (hb:aq wp b g.rl g.ri) (hc:aq wp c g.sl g.st) (ra:Rt wp a) (rb:Rt wp b) (rc:Rt wp c)
  (wk:Hb.WkP cst bF bM bL bD (.agg (mac a b c g.rf g.pl)) (.func (.func 12) #[] #[.pointer (some ⟨bN,0,none⟩),.pointer (some ⟨bC,0,none⟩)])) (hn:1≤cst.n∧cst.n≤1000) (hK:cst.K=26) (hz:cst.z1=.int .i64 0∧cst.z2=.bool false∧cst.zs1=.tuple #[]∧cst.zs2=.tuple #[]) (hB:cst.fB=33) (har:cst.ar=fun k=>#[.agg (mac a b c g.rf g.pl),.int .i64 (k:Nat),.func (.func 12) #[] #[.pointer (some ⟨bN,0,none⟩),.pointer (some ⟨bC,0,none⟩)]]) (s1:1≤cst.S0) (d1:cst.C1<cst.N1∧cst.C2<cst.N1∧cst.Fd<cst.N1∧cst.C1≠cst.C2∧cst.C1≠cst.Fd∧cst.C2≠cst.Fd)
  (cs:List Frame) {gs:Array Goroutine} {t:Trace} {qq:Nat→Nat} {g0:Goroutine} {w:World} (hS:cst.S0=gs.size) (h0:gs[0]? = some g0) (hq:Qt Tryz.prog gs t qq w.heap.size) {μ:Nat} (hw:Walk Tryz.prog cst true (Hb.xp cst bF bM bL bD cst.n cs 0) μ g0 w) (ok:cst.Ok w) (c1:w.heap[cst.C1]? = some (.chan 0 #[] false 0 0 false)) (c2:w.heap[cst.C2]? = some (.chan 0 #[] false 0 0 false)) (fd:∀j a ad,touchAt t j=some a→a.loc=.cell ad→ad.block≠cst.Fd) (sl:Option (Nat × Nat)) :
  ∃N gs' w' sl' t' q' V,∃v0 v2 v4 v6 v7 v8 v12 v13 v14 v15 v16 v17 v18 v19 v20 v21 v22 v23 v24 v25 v26 v27 v28 v29 v30 v31 v32 v33 v34 v35 v36 v37 v38 v39 v40 v41 v42 v43 v44 v45 v46 v47 v48 v49 v50 v51 v52:Value,runNT Tryz.prog N (crowd gs w sl) t=(.next (crowd gs' w' sl'),t')∧gs'[0]? = some (G (mkF 11 #[v0,.int .i64 (cst.n:Nat),v2,.pointer (some ⟨bM,0,none⟩),v4,.pointer (some ⟨bL,0,none⟩),v6,v7,v8,.pointer (some ⟨cst.Fd,0,none⟩),.pointer (some ⟨bF,0,none⟩),.pointer (some ⟨bD,0,none⟩),v12,v13,v14,v15,v16,v17,v18,v19,v20,v21,v22,v23,v24,v25,v26,v27,v28,v29,v30,v31,v32,v33,v34,v35,v36,v37,v38,v39,v40,v41,v42,v43,v44,v45,v46,v47,v48,v49,v50,v51,v52] [.code Hb.eT5] .run) cs)∧w'.heap[cst.Fd]? = some (.cells (tab 26 V) cst.TF (0,0))∧(∀k,k<26→HsC w' (V k) (hl.eG k (26 ^ (g.n-1))) hl)∧cst.Ok w'∧Qt Tryz.prog gs' t' q' w'.heap.size:=by
 have hG:Tryz.prog.globals.size≤Fns.G:=Nat.le_refl _
 obtain ⟨hn1,hn3,hgE⟩:=ze hE
 have hln:=hBm.n
 let S:=Hb.CI (Post:=fun k v wl=>∃B,HsO wl B v (hl.eG k (26 ^ (g.n-1))) hl) cst bF bM bL bD _ _ cs wk hn hK hz hB har s1 d1 (by rw[hB];kernel_rfl) (fun k hk w hw=>by
   obtain ⟨E,wl,x,k1,k2,k3,k4,k5⟩:=yA k (by omega) bN bC q s a b c g cr te hl hBm h hE hfit hrl TN TC fN fC wp hN hC hmn ha hb hc ra rb rc
   refine ⟨E,wl,x,fun b q s o e=>⟨(k1 b q s o e).1,hfix q (k1 b q s o e).2⟩,by rw[har];exact k2,Fw k3 fun b x e=>?_,k4,fun τ=>?_⟩
   ·obtain ⟨q,s,o⟩:=x
    exact hpre w hw q (k1 b q s o e).2
   ·rw[hB]
    refine (k5 τ).mono ?_
    rintro e w' ⟨v,rfl,hv⟩
    exact ⟨v,rfl,_,hv⟩) (fun k v wl E v' hp hr=>by
   obtain ⟨B,hp⟩:=hp
   obtain ⟨vs,⟨_,h2⟩,_⟩:=hp
   generalize (hl.eG k (26 ^ (g.n-1))).length=nn at h2
   rcases h2 with ⟨rfl,_⟩ | ⟨_,_,_,rfl,_⟩ <;> cases hr <;> exact ⟨_,_,_,rfl⟩)
 obtain ⟨N1,gs1,w1,sl1,t1,q1,g1,r1,i1,jn,run1,Q1,ok1,RS,hRS,hres⟩:=Bz (S:=S) hG dc hS h0 hq hw ok c1 c2 fd sl
 obtain ⟨v0,v2,v4,v6,v7,v8,v12,v13,v14,v15,v16,v17,v18,v19,v20,v21,v22,v23,v24,v25,v26,v27,v28,v29,v30,v31,v32,v33,v34,v35,v36,v37,v38,v39,v40,v41,v42,v43,v44,v45,v46,v47,v48,v49,v50,v51,v52,rfl⟩:=jn
 obtain ⟨cs,hcs,hcsz⟩:=ok1.fd
 rw[hK] at hcsz hres
 have hVk:∀k,∃v,k<26→cs[k]? = some v∧HsC w1 v (hl.eG k (26 ^ (g.n-1))) hl:=fun k=>by
  by_cases hk:k<26
  ·obtain ⟨v,e1,E,vl,wl,⟨B,p1⟩,p2,p3,_⟩:=hres k hk
   rw[cell_of_row _ _ _ _ _ _ hcs] at e1
   exact ⟨v,fun _=>⟨e1,xN p3 (by rw[hln];unfold maxLen;omega) p1 p2⟩⟩
  ·exact ⟨.bool false,fun e=>absurd e hk⟩
 have htab:cs=tab 26 fun k=>(hVk k).choose:=by
  apply Array.ext_getElem?
  intro i
  by_cases hi:i<26
  ·rw[aR _ hi]
   exact ((hVk i).choose_spec hi).1
  ·rw[Array.getElem?_eq_none (by omega),Array.getElem?_eq_none (by rw[bG];omega)]
 rw[htab] at hcs
 exact ⟨N1,gs1,w1,sl1,t1,q1,fun k=>(hVk k).choose,v0,v2,v4,v6,v7,v8,v12,v13,v14,v15,v16,v17,v18,v19,v20,v21,v22,v23,v24,v25,v26,v27,v28,v29,v30,v31,v32,v33,v34,v35,v36,v37,v38,v39,v40,v41,v42,v43,v44,v45,v46,v47,v48,v49,v50,v51,v52,r1,i1,hcs,fun k hk=>((hVk k).choose_spec hk).2,ok1,Q1⟩
end
section
open Go.RowKit PK Vg Go.Conc Cs
end
section
open Go.RowKit PK Vg Go.Conc Cs
end
section
open Go.RowKit PK Vg Go.Conc Cs
section
variable {A B:Array Value} {n S0:Nat} {W w4 w8:World} {h2 Fd C1 C2 bF bD:Nat}
end
end
section
open Go.RowKit PK Vg Go.Conc Cs
set_option maxRecDepth 100000 in
set_option maxHeartbeats 4000000 in
theorem uz (x0 x1 x2 x3 x4 x5 x6 x7 x8 x9 x10 x11 x12 x13 x14 x15 x16 x17 x18 x19 x20 x21 x22 x23 x24 x26 x27 u:Value) (w:World) :
  wpOps Tryz.prog bO5 (Exit.then (Code.ret.wp Tryz.prog (bodyPost Tryz.prog Tryz.f5 (Cs.kY fun v w'=>v=.tuple #[u,.int .i64 0]∧w'=w))) (bodyPost Tryz.prog Tryz.f5 (Cs.kY fun v w'=>v=.tuple #[u,.int .i64 0]∧w'=w))) (List.range' 4 4) ⟨#[x0,x1,x2,x3,x4,x5,x6,x7,x8,x9,x10,x11,x12,x13,x14,x15,x16,x17,x18,x19,x20,x21,x22,x23,x24,.tuple #[u,.int .i64 0],x26,x27],[]⟩ w:=by
 refine wm 4 4 rfl ?_
 simp only[bO5,bT5,bT4,bT1,bB,Tryz.f5,Option.getD_some,List.drop]
 go_wp2_with fail
 refine ⟨rfl,.tuple #[u,.int .i64 0],?_,_,rfl,rfl,rfl⟩
 simp[results,Array.mapM_eq_mapM_toList,List.mapM_cons]
theorem wD:[Item.code Hb.eT5].all (bH Tryz.prog)=true:=by kernel_rfl
theorem wN:(uv [Item.inRegion bO5 (3 :: List.range' 4 4),.code .ret]).all (bH Tryz.prog)=true:=by kernel_rfl
theorem Br {TJ:TypeId} {w:World} (hJ:Tryz.prog.info? TJ=none) (V:Nat→Value) (L:Nat→List Nat) (hl:Hl) (hV:∀r,r<26→HsC w (V r) (L r) hl):∃(E':Env) (wl':World) (Ul:Nat→Value),Cp Tryz.prog E' wl' w∧∀r,r<26→VR E' (Ul r) (V r)∧HsA wl' (Ul r) (L r) hl:=by
 obtain ⟨E',wl',Ul,h1,_,h3⟩:=oR (P:=Tryz.prog) (w:=w) (R:=V) (F:=fun i wl v=>HsA wl v (L i) hl) (m:=26) (fun i E E' wl wl' v hle hf=>pE hle hf) (fun i hi E wl hcp=>pG hcp hJ (hV i hi)) 26 (Nat.le_refl _) (Cp.nil (P:=Tryz.prog) w)
 exact ⟨E',wl',Ul,h1,h3⟩
set_option maxRecDepth 100000 in
set_option maxHeartbeats 4000000 in
theorem qZ (v0 v1 v2 v3 v4 v5 v6 v7 v8 v10 v11 v12 v13 v14 v15 v16 v17 v18 v19 v20 v21 v22 v23 v24 v25 v26 v27 v28 v29 v30 v31 v32 v33 v34 v35 v36 v37 v38 v39 v40 v41 v42 v43 v44 v45 v46 v47 v48 v49 v50 v51 v52 x0 x1 x2 x3 x4 x5 x6 x7 x8 x9 x10 x11 x12 x13 x14 x15 x16 x17 x18 x19 x20 x21 x22 x23 x24 x25 x26 x27:Value) (bF:Nat) (V:Nat→Value) (g:Gm) (hl:Hl) (hln:hl.n=g.n) (h:Int) (hE:swE g h=0) (TJ TF:TypeId) (fF:Nat × Nat) (w:World) (hJ:Tryz.prog.info? TJ=none) (hF:w.heap[bF]? = some (.cells (tab 26 V) TF fF)) (hV:∀k,k<26→HsC w (V k) (hl.eG k (26 ^ (g.n-1))) hl) (cs:List Frame) :
  ∃E gl wl,bh Tryz.prog (fun v w'=>∃u B,v=.tuple #[u,.int .i64 0]∧HsN w' B u (hl.fnd (26 ^ g.n)) hl) cs E gl wl (G (mkF 11 #[v0,v1,v2,v3,v4,v5,v6,v7,v8,.pointer (some ⟨bF,0,none⟩),v10,v11,v12,v13,v14,v15,v16,v17,v18,v19,v20,v21,v22,v23,v24,v25,v26,v27,v28,v29,v30,v31,v32,v33,v34,v35,v36,v37,v38,v39,v40,v41,v42,v43,v44,v45,v46,v47,v48,v49,v50,v51,v52] [.code Hb.eT5] .run) (mkF 5 #[x0,x1,x2,x3,x4,x5,x6,x7,x8,x9,x10,x11,x12,x13,x14,x15,x16,x17,x18,x19,x20,x21,x22,x23,x24,x25,x26,x27] [.inRegion bO5 (3 :: List.range' 4 4),.code .ret] .run :: cs)) w∧∀b q s o,E b=some (q,s,o)→o=false:=by
 obtain ⟨hn1,hn3,_⟩:=ze hE
 have hL:∀k,(hl.eG k (26 ^ (g.n-1))).length≤676:=fun k=>by
  refine Nat.le_trans (hl.vQ _ _) ?_
  rcases (by omega:g.n=1∨g.n=2∨g.n=3) with h | h | h <;> rw[h] <;> decide
 obtain ⟨E3,wl3,V',p3,hV3⟩:=Br hJ V (fun k=>hl.eG k (26 ^ (g.n-1))) hl hV
 have htab:∀(n:Nat) (A B:Nat→Value) (E:Env),(∀i,i<n→VR E (A i) (B i))→∀(i:Nat) u,(tab n A)[i]? = some u→∃v,(tab n B)[i]? = some v∧VR E u v:=fun n A B E hh i u hu=>by
  have hi:i<n:=by have:=(Array.getElem?_eq_some_iff.1 hu).1;rwa [bG] at this
  rw[aR _ hi] at hu
  cases hu
  exact ⟨_,aR _ hi,hh i hi⟩
 obtain ⟨E9,wl9,dF,p9,q9,rF,kF⟩:=qu p3 hJ hF (tab 26 V') (htab 26 V' V E3 fun i hi=>(hV3 i hi).1)
 have hV9:=fun k (hk:k<26)=>pE q9 (hV3 k hk).2
 obtain ⟨jv0,hv0⟩:=bg E9 v0
 obtain ⟨jv1,hv1⟩:=bg E9 v1
 obtain ⟨jv2,hv2⟩:=bg E9 v2
 obtain ⟨jv3,hv3⟩:=bg E9 v3
 obtain ⟨jv4,hv4⟩:=bg E9 v4
 obtain ⟨jv5,hv5⟩:=bg E9 v5
 obtain ⟨jv6,hv6⟩:=bg E9 v6
 obtain ⟨jv7,hv7⟩:=bg E9 v7
 obtain ⟨jv8,hv8⟩:=bg E9 v8
 obtain ⟨jv10,hv10⟩:=bg E9 v10
 obtain ⟨jv11,hv11⟩:=bg E9 v11
 obtain ⟨jv12,hv12⟩:=bg E9 v12
 obtain ⟨jv13,hv13⟩:=bg E9 v13
 obtain ⟨jv14,hv14⟩:=bg E9 v14
 obtain ⟨jv15,hv15⟩:=bg E9 v15
 obtain ⟨jv16,hv16⟩:=bg E9 v16
 obtain ⟨jv17,hv17⟩:=bg E9 v17
 obtain ⟨jv18,hv18⟩:=bg E9 v18
 obtain ⟨jv19,hv19⟩:=bg E9 v19
 obtain ⟨jv20,hv20⟩:=bg E9 v20
 obtain ⟨jv21,hv21⟩:=bg E9 v21
 obtain ⟨jv22,hv22⟩:=bg E9 v22
 obtain ⟨jv23,hv23⟩:=bg E9 v23
 obtain ⟨jv24,hv24⟩:=bg E9 v24
 obtain ⟨jv25,hv25⟩:=bg E9 v25
 obtain ⟨jv26,hv26⟩:=bg E9 v26
 obtain ⟨jv27,hv27⟩:=bg E9 v27
 obtain ⟨jv28,hv28⟩:=bg E9 v28
 obtain ⟨jv29,hv29⟩:=bg E9 v29
 obtain ⟨jv30,hv30⟩:=bg E9 v30
 obtain ⟨jv31,hv31⟩:=bg E9 v31
 obtain ⟨jv32,hv32⟩:=bg E9 v32
 obtain ⟨jv33,hv33⟩:=bg E9 v33
 obtain ⟨jv34,hv34⟩:=bg E9 v34
 obtain ⟨jv35,hv35⟩:=bg E9 v35
 obtain ⟨jv36,hv36⟩:=bg E9 v36
 obtain ⟨jv37,hv37⟩:=bg E9 v37
 obtain ⟨jv38,hv38⟩:=bg E9 v38
 obtain ⟨jv39,hv39⟩:=bg E9 v39
 obtain ⟨jv40,hv40⟩:=bg E9 v40
 obtain ⟨jv41,hv41⟩:=bg E9 v41
 obtain ⟨jv42,hv42⟩:=bg E9 v42
 obtain ⟨jv43,hv43⟩:=bg E9 v43
 obtain ⟨jv44,hv44⟩:=bg E9 v44
 obtain ⟨jv45,hv45⟩:=bg E9 v45
 obtain ⟨jv46,hv46⟩:=bg E9 v46
 obtain ⟨jv47,hv47⟩:=bg E9 v47
 obtain ⟨jv48,hv48⟩:=bg E9 v48
 obtain ⟨jv49,hv49⟩:=bg E9 v49
 obtain ⟨jv50,hv50⟩:=bg E9 v50
 obtain ⟨jv51,hv51⟩:=bg E9 v51
 obtain ⟨jv52,hv52⟩:=bg E9 v52
 obtain ⟨jx0,hx0⟩:=bg E9 x0
 obtain ⟨jx1,hx1⟩:=bg E9 x1
 obtain ⟨jx2,hx2⟩:=bg E9 x2
 obtain ⟨jx3,hx3⟩:=bg E9 x3
 obtain ⟨jx4,hx4⟩:=bg E9 x4
 obtain ⟨jx5,hx5⟩:=bg E9 x5
 obtain ⟨jx6,hx6⟩:=bg E9 x6
 obtain ⟨jx7,hx7⟩:=bg E9 x7
 obtain ⟨jx8,hx8⟩:=bg E9 x8
 obtain ⟨jx9,hx9⟩:=bg E9 x9
 obtain ⟨jx10,hx10⟩:=bg E9 x10
 obtain ⟨jx11,hx11⟩:=bg E9 x11
 obtain ⟨jx12,hx12⟩:=bg E9 x12
 obtain ⟨jx13,hx13⟩:=bg E9 x13
 obtain ⟨jx14,hx14⟩:=bg E9 x14
 obtain ⟨jx15,hx15⟩:=bg E9 x15
 obtain ⟨jx16,hx16⟩:=bg E9 x16
 obtain ⟨jx17,hx17⟩:=bg E9 x17
 obtain ⟨jx18,hx18⟩:=bg E9 x18
 obtain ⟨jx19,hx19⟩:=bg E9 x19
 obtain ⟨jx20,hx20⟩:=bg E9 x20
 obtain ⟨jx21,hx21⟩:=bg E9 x21
 obtain ⟨jx22,hx22⟩:=bg E9 x22
 obtain ⟨jx23,hx23⟩:=bg E9 x23
 obtain ⟨jx24,hx24⟩:=bg E9 x24
 obtain ⟨jx25,hx25⟩:=bg E9 x25
 obtain ⟨jx26,hx26⟩:=bg E9 x26
 obtain ⟨jx27,hx27⟩:=bg E9 x27
 have lE:=(ai hv0 (ai hv1 (ai hv2 (ai hv3 (ai hv4 (ai hv5 (ai hv6 (ai hv7 (ai hv8 (ai rF (ai hv10 (ai hv11 (ai hv12 (ai hv13 (ai hv14 (ai hv15 (ai hv16 (ai hv17 (ai hv18 (ai hv19 (ai hv20 (ai hv21 (ai hv22 (ai hv23 (ai hv24 (ai hv25 (ai hv26 (ai hv27 (ai hv28 (ai hv29 (ai hv30 (ai hv31 (ai hv32 (ai hv33 (ai hv34 (ai hv35 (ai hv36 (ai hv37 (ai hv38 (ai hv39 (ai hv40 (ai hv41 (ai hv42 (ai hv43 (ai hv44 (ai hv45 (ai hv46 (ai hv47 (ai hv48 (ai hv49 (ai hv50 (ai hv51 (ai hv52 jd)))))))))))))))))))))))))))))))))))))))))))))))))))))
 have lF:=(ai hx0 (ai hx1 (ai hx2 (ai hx3 (ai hx4 (ai hx5 (ai hx6 (ai hx7 (ai hx8 (ai hx9 (ai hx10 (ai hx11 (ai hx12 (ai hx13 (ai hx14 (ai hx15 (ai hx16 (ai hx17 (ai hx18 (ai hx19 (ai hx20 (ai hx21 (ai hx22 (ai hx23 (ai hx24 (ai hx25 (ai hx26 (ai hx27 jd))))))))))))))))))))))))))))
 refine ⟨E9,_,wl9,bh.LJ ⟨_,Tryz.func11⟩ lE p9.wr p9.big wD (.cons ⟨_,Tryz.func5⟩ lF wN .base) (fun τ=>?_),p9.sh⟩
 refine Cs.xW (Cs.xD Tryz.func11 (D6 jv0 jv1 jv2 jv3 jv4 jv5 jv6 jv7 jv8 jv10 jv11 jv12 jv13 jv14 jv15 jv16 jv17 jv18 jv19 jv20 jv21 jv22 jv23 jv24 jv25 jv26 jv27 jv28 jv29 jv30 jv31 jv32 jv33 jv34 jv35 jv36 jv37 jv38 jv39 jv40 jv41 jv42 jv43 jv44 jv45 jv46 jv47 jv48 jv49 jv50 jv51 jv52 dF V' TJ _ hl _ hL (wl9.tp τ) kF hV9)) ?_
 rintro v w1 ⟨u,rfl,hN,hb⟩
 rw[Cs.mF]
 have hcat:hl.eF (fun k=>hl.eG k (26 ^ (g.n-1))) 26=hl.fnd (26 ^ g.n):=by
  have:=hl.BU (by rw[hln];exact hn1)
  rw[hln] at this
  exact this
 rw[hcat] at hN
 obtain ⟨n',fr',w',v',k1,k2,k3⟩:=Cs.kW (cs:=[aV Tryz.prog]) Tryz.func5 (uz jx0 jx1 jx2 jx3 jx4 jx5 jx6 jx7 jx8 jx9 jx10 jx11 jx12 jx13 jx14 jx15 jx16 jx17 jx18 jx19 jx20 jx21 jx22 jx23 jx24 jx26 jx27 u w1)
 refine ⟨n',fr',w',v',k1,k2,?_⟩
 obtain ⟨rfl,rfl⟩:=k3
 exact ⟨u,_,rfl,hN⟩
noncomputable def rB (A:Array Value) (vl:Value) (n S0:Nat) (W w8:World) (Fd C1 C2:Nat):Cst:={ n:=n,K:=26,S0:=S0,N1:=w8.heap.size,H0:=fun q=>w8.heap[q]?,C1:=C1,C2:=C2,Fd:=Fd,TF:=77,z1:=.int .i64 0,z2:=.bool false,zs1:=.tuple #[],zs2:=.tuple #[],fB:=33,ar:=fun k=>#[.agg A,.int .i64 (k:Nat),vl],os0:=W.os,JU:=W.output }
section
variable {A:Array Value} {vl:Value} {n S0:Nat} {W w4 w8:World} {Fd C1 C2 bF bD:Nat}
theorem AtH.ok (k:AtH A vl W w4 w8 Fd C1 C2 bF bD):(rB A vl n S0 W w8 Fd C1 C2).Ok w8:=⟨fun _ _=>rfl,⟨_,k.row,bG _ _⟩,Nat.le_refl _,k.env⟩
theorem AtH.low (k:AtH A vl W w4 w8 Fd C1 C2 bF bD) (q:Nat) (hq:q<w4.heap.size):(rB A vl n S0 W w8 Fd C1 C2).Fix q:=by
 have h0:=k.fd
 have h3:=cA k.row
 have h4:=k.c1.1
 have h5:=k.c2.1
 exact ⟨by show q<w8.heap.size;omega,by show q≠Fd;omega,by show q≠C1;omega,by show q≠C2;omega,fun e=>e⟩
theorem AtH.cells (k:AtH A vl W w4 w8 Fd C1 C2 bF bD) {q:Nat} {x:Array Value} {T:TypeId} (hq:w8.heap[q]? = some (.cells x T (0,0))) (hlt:Fd<q):(rB A vl n S0 W w8 Fd C1 C2).Fix q:=by
 refine ⟨cA hq,by show q≠Fd;omega,fun e=>?_,fun e=>?_,fun e=>e⟩
 ·have e':q=C1:=e
  rw[e',k.c1.2] at hq
  cases hq
 ·have e':q=C2:=e
  rw[e',k.c2.2] at hq
  cases hq
theorem AtH.wk (k:AtH A vl W w4 w8 Fd C1 C2 bF bD) (hA:A.size=55):Hb.WkP (rB A vl n S0 W w8 Fd C1 C2) bF W.heap.size (W.heap.size+1) bD (.agg A) vl:=by
 have hiA:(Tryz.prog.info? 27).map (·.size)=some A.size:=by rw[hA];exact aF
 have fixF:=k.cells (n:=n) (S0:=S0) k.bf.2 k.bf.1
 have fixD:=k.cells (n:=n) (S0:=S0) k.bd.2 k.bd.1
 have fixM:=k.low (n:=n) (S0:=S0) _ (cA k.lM)
 have fixL:=k.low (n:=n) (S0:=S0) _ (cA k.lL)
 have lM:=(k.h84 _ (cA k.lM)).trans k.lM
 have lL:=(k.h84 _ (cA k.lL)).trans k.lL
 refine ⟨⟨fixF,fixM,fixL,fixD⟩,fun w hw=>pF ((hw.fix _ fixF).trans k.bf.2),fun w hw=>pF ((hw.fix _ fixD).trans k.bd.2),fun w hw=>pF ((hw.fix _ fixL).trans lL),fun w hw=>mB ((hw.fix _ fixM).trans lM) Tryz.underlying27 rfl hiA,fun w hw e he=>?_⟩
 obtain ⟨ad,e1,e2⟩:=GH ((hw.fix _ fixM).trans lM) Tryz.underlying27 rfl hiA e he
 exact ⟨ad,e1,by rw[e2];exact fixM⟩
end
set_option maxRecDepth 100000 in
set_option maxHeartbeats 8000000 in
theorem kZ (a b c:Value) (g:Gm) (cr te:ByteArray) (hl:Hl) (hBm:BmS g hl cr te) (hW0:bwE g cr.data.toList te.data.toList=0) (n:Nat) (hE:swE g (n:Int)=0) (hfit:∀r,r<g.n→g.nl r*8≤140737488355328) (hrl:g.rl*8≤140737488355328) (A:Array Value) (hA0:A=mac a b c g.rf g.pl) (W:World) (ha:WhR W a g.n g.wi g.nl g.no) (hb:aq W b g.rl g.ri) (hc:aq W c g.sl g.st) (ra:Rt W a) (rb:Rt W b) (rc:Rt W c) (cal:Frame) (rest:List Frame) {gs:Array Goroutine} {t:Trace} {q:Nat→Nat} (i1:gs[0]? = some (G ((base 5).at ⟨#[.agg A,.string cr,.string te,.int .i64 (n:Nat),undef,undef,undef,undef,undef,undef,undef,undef,undef,undef,undef,undef,undef,undef,undef,undef,undef,undef,undef,undef,undef,undef,undef,undef],[]⟩ [.code bB]) (cal :: rest))) (Q1:Qt Tryz.prog gs t q W.heap.size) (sl:Option (Nat × Nat)) :
  ∃N gs' w' sl' t' q' u,runNT Tryz.prog N (crowd gs W sl) t=(.next (crowd gs' w' sl'),t')∧gs'[0]? = some (G (cal.finish (.tuple #[u,.int .i64 0])) rest)∧HsC w' u (hl.fnd (26 ^ g.n)) hl∧Kept W w'∧Qt Tryz.prog gs' t' q' w'.heap.size:=by
 have hG:Tryz.prog.globals.size≤Fns.G:=Nat.le_refl _
 obtain ⟨hn1,hn3,hgE⟩:=ze hE
 obtain ⟨_,_,hh1,hh2⟩:=oZ hE
 have hA:A.size=55:=by rw[hA0];exact aE ..
 have I0:HI W.heap W.os W.output W:=⟨rfl,rfl,rfl⟩
 -- to the call of wrong
 obtain ⟨mu1,G1⟩:=Lf A hA cr te (n:Int) (cal :: rest) W.heap W.os W.output W I0
 obtain ⟨N1,gs1,w1,sl1,t1,q1,g1,r1,z1,i2,⟨rfl,I1⟩,Q2⟩:=dH (sl:=sl) (fun _ _ _ h=>h) (fun g w h=>by rw[h.1];rfl) i1 G1 Q1
 obtain ⟨H1,hH1⟩:∃H1,H1=(W.heap.push (.cells A 27)).push (.cells #[.string cr] 9):=⟨_,rfl⟩
 rw[←hH1] at I1
 have o1:∀b,b<W.heap.size→H1[b]? = W.heap[b]?:=fun b hb=>by rw[hH1];exact oX hb
 have d1:H1[W.heap.size]? = some (.cells A 27):=by rw[hH1];exact qH
 have e1:H1[W.heap.size+1]? = some (.cells #[.string cr] 9):=by rw[hH1];exact pP
 have s1:H1.size=W.heap.size+2:=by rw[hH1];exact nS
 clear hH1 G1
 have hag1:∀b,b<W.heap.size→w1.heap[b]? = W.heap[b]?:=fun b hb=>by rw[I1.1,o1 b hb]
 -- wrong
 obtain ⟨E1,wl1,a',b',c',p1,cc1,ra',rb',rc',hm1⟩:=y6 (Cp.nil (P:=Tryz.prog) w1) eZ (mN hag1 ha) (dD hag1 hb) (dD hag1 hc) (dI hag1 ra) (dI hag1 rb) (dI hag1 rc)
 have hin:∀cs,bh Tryz.prog (fun v _=>v=.int .i64 0) cs E1 (G (Frame.enter Tryz.prog 9 #[.agg (mac a' b' c' g.rf g.pl),.string cr,.string te] .normal) [aV Tryz.prog]) wl1 (G (Frame.enter Tryz.prog 9 #[.agg A,.string cr,.string te] .normal) cs) w1:=fun cs=>bh.start (c:=cs) dc (f:=9) (by kernel_rfl) (x:=#[.agg (mac a' b' c' g.rf g.pl),.string cr,.string te]) (y:=#[.agg A,.string cr,.string te]) (ai (.lu (by rw[hA0];exact xB ra' rb' rc')) (ai (.string _) (ai (.string _) jd))) p1.wr p1.big (fun τ=>by
  refine (pY _ g cr te (wl1.tp τ) hm1).mono ?_
  rintro e w' ⟨rfl,_⟩
  exact ⟨_,rfl,by rw[hW0]⟩)
 obtain ⟨N2,gs2,w2,sl2,t2,q2,E2,v,v',wl2,r2,z2,i3,p2,vr,_,fc2,Q3⟩:=gb (sl:=sl1) hG dc i2 (hin _) Q2
 subst p2
 cases vr
 have k2:∀b,b<H1.size→w2.heap[b]? = H1[b]?:=fun b hb=>by
  rw[←I1.1]
  exact fc2.keep b (by rw[I1.1];exact hb) (fun b' s e=>by have:=p1.sh _ _ _ _ e;cases this)
 have s2:H1.size≤w2.heap.size:=by have:=fc2.size;rw[I1.1] at this;exact this
 have I2:HI w2.heap W.os W.output w2:=⟨rfl,fc2.os.trans I1.2.1,fc2.output.trans I1.2.2⟩
 clear hin
 -- to the call of menuOf
 obtain ⟨mu3,G3⟩:=LM A cr te (n:Int) W.heap.size (W.heap.size+1) (cal :: rest) w2.heap W.os W.output w2 I2 (by rw[k2 _ (by omega)];exact e1)
 obtain ⟨N3,gs3,w3,sl3,t3,q3,g3,r3,z3,i4,⟨rfl,I3⟩,Q4⟩:=dH (sl:=sl2) (fun _ _ _ h=>h) (fun g w h=>by rw[h.1];rfl) i3 G3 Q3
 clear G3
 -- menuOf
 have p3:=Cp.nil (P:=Tryz.prog) w3
 have hin:∀cs,bh Tryz.prog (fun v wl=>∃G vals,v=.pointer (some ⟨G,0,none⟩)∧OnM wl G vals (fun c=>Bo.ml (mnu g cr te) c (mnu g cr te).k)) cs _ (G (Frame.enter Tryz.prog 10 #[.string cr,.string te] .normal) [aV Tryz.prog]) _ (G (Frame.enter Tryz.prog 10 #[.string cr,.string te] .normal) cs) w3:=fun cs=>bh.start (c:=cs) dc (f:=10) (by kernel_rfl) (x:=#[.string cr,.string te]) (y:=#[.string cr,.string te]) (ai (.string _) (ai (.string _) jd)) p3.wr p3.big (fun τ=>by
  refine (yJ (mnu g cr te) cr te (zV hW0) _).mono ?_
  rintro e w' ⟨vals,rfl,h1,_⟩
  exact ⟨_,rfl,_,vals,rfl,h1⟩)
 obtain ⟨N4,gs4,w4,sl4,t4,q4,E4,v,v',wl4,r4,z4,i5,⟨G4,vals,rfl,hom⟩,vr,wr4,fc4,Q5⟩:=gb (sl:=sl3) hG dc i4 (hin _) Q4
 obtain ⟨qm,sm,rfl,hmn⟩:=A7 wr4 hom vr
 have k4:∀b,b<w2.heap.size→w4.heap[b]? = w2.heap[b]?:=fun b hb=>by
  rw[←I3.1]
  exact fc4.keep b (by rw[I3.1];exact hb) (fun b' s e=>by cases e)
 have s4:w2.heap.size≤w4.heap.size:=by have:=fc4.size;rw[I3.1] at this;exact this
 have I4:HI w4.heap W.os W.output w4:=⟨rfl,fc4.os.trans I3.2.1,fc4.output.trans I3.2.2⟩
 clear hin
 -- to the call of Every
 have hM4:w4.heap[W.heap.size]? = some (.cells A 27 (0,0)):=by rw[k4 _ (by omega),k2 _ (by omega)];exact d1
 have hC4:w4.heap[W.heap.size+1]? = some (.cells #[.string cr] 9 (0,0)):=by rw[k4 _ (by omega),k2 _ (by omega)];exact e1
 obtain ⟨mu5,G5⟩:=L2 A hA cr te (n:Int) W.heap.size (W.heap.size+1) ⟨qm,sm,none⟩ (cal :: rest) w4.heap W.os W.output w4 I4 hM4
 obtain ⟨N5,gs5,w5,sl5,t5,q5,g5,r5,z5,i6,⟨rfl,I5⟩,Q6⟩:=dH (sl:=sl4) (fun _ _ _ h=>h) (fun g w h=>by rw[h.1];rfl) i5 G5 Q5
 clear G5
 have s5:w5.heap.size=w4.heap.size+1:=by rw[I5.1,Array.size_push]
 have k5:∀b,b<w4.heap.size→w5.heap[b]? = w4.heap[b]?:=fun b hb=>by rw[I5.1,Array.getElem?_push,if_neg (by omega)]
 have hN5:w5.heap[w4.heap.size]? = some (.cells #[.pointer (some ⟨qm,sm,none⟩)] 43 (0,0)):=by rw[I5.1,Array.getElem?_push,if_pos rfl]
 have hC5:=(k5 _ (cA hC4)).trans hC4
 have hag5:∀b,b<W.heap.size→w5.heap[b]? = W.heap[b]?:=fun b hb=>by
  rw[k5 b (by omega),k4 b (by omega),k2 b (by omega),o1 b hb]
 -- to the first 'go'
 obtain ⟨N6,gs6,w6,w8,sl6,t6,q6,g8,Fd,C1,C2,bF,bD,r6,hgs,i8,hrun,hgo,F8,k⟩:=uk a b c g n hE 12 #[] #[.pointer (some ⟨w4.heap.size,0,none⟩),.pointer (some ⟨W.heap.size+1,0,none⟩)] w5 (mN hag5 ha) (dD hag5 hb) (dD hag5 hc) (dI hag5 ra) (dI hag5 rb) (dI hag5 rc) A hA0 _ i6 Q6 sl5
 obtain ⟨vl,hvl⟩:∃vl,vl=Value.func (.func 12) #[] #[.pointer (some ⟨w4.heap.size,0,none⟩),.pointer (some ⟨W.heap.size+1,0,none⟩)]:=⟨_,rfl⟩
 rw[←hvl] at k
 have wk:=k.wk (n:=n) (S0:=gs6.size) hA
 have hag:=k.Lq
 have ok:=k.ok (n:=n) (S0:=gs6.size)
 have low:=k.low (n:=n) (S0:=gs6.size)
 have h84:=k.h84
 have hpre:∀w,(rB A vl n gs6.size w5 w8 Fd C1 C2).Ok w→∀b,b<w6.heap.size→w.heap[b]? = w6.heap[b]?:=fun w hw b hb=>(hw.fix b (low b hb)).trans (h84 b hb)
 have hs6:w5.heap.size≤w6.heap.size:=by
  have:=cA k.lM
  omega
 have dd1:C1<w8.heap.size∧C2<w8.heap.size∧Fd<w8.heap.size∧C1≠C2∧C1≠Fd∧C2≠Fd:=⟨cA k.c1.2,cA k.c2.2,cA k.row,k.ne,by have:=k.c1.1;omega,by have:=k.c2.1;omega⟩
 have hWk:Walk Tryz.prog (rB A vl n gs6.size w5 w8 Fd C1 C2) true (Hb.xp (rB A vl n gs6.size w5 w8 Fd C1 C2) bF w5.heap.size (w5.heap.size+1) bD n _ 0) 0 g8 w8:=Goes.stop fun _ _=>⟨hrun,hgo _ rfl⟩
 have hc1:=k.c1.2
 have hc2:=k.c2.2
 have hfd:∀j x ad,touchAt t6 j=some x→x.loc=.cell ad→ad.block≠Fd:=fun j x ad e1 e2=>F8.pl j x e1 ad e2
 have hq:=F8.qt
 have wk':Hb.WkP (rB A vl n gs6.size w5 w8 Fd C1 C2) bF w5.heap.size (w5.heap.size+1) bD (.agg (mac a b c g.rf g.pl)) (.func (.func 12) #[] #[.pointer (some ⟨w4.heap.size,0,none⟩),.pointer (some ⟨W.heap.size+1,0,none⟩)]):=by rw[←hA0,←hvl];exact wk
 have har:(rB A vl n gs6.size w5 w8 Fd C1 C2).ar=fun k=>#[.agg (mac a b c g.rf g.pl),.int .i64 (k:Nat),.func (.func 12) #[] #[.pointer (some ⟨w4.heap.size,0,none⟩),.pointer (some ⟨W.heap.size+1,0,none⟩)]]:=by rw[←hA0,←hvl];rfl
 have h0s:1≤gs6.size:=by have:=bX i8;omega
 have hagm:∀b,b<w4.heap.size→w6.heap[b]? = w4.heap[b]?:=fun b hb=>(hag b (by omega)).trans (k5 b hb)
 have hagW:∀b,b<W.heap.size→w6.heap[b]? = W.heap[b]?:=fun b hb=>(hag b (by omega)).trans (hag5 b hb)
 have hN6:=(hag _ (cA hN5)).trans hN5
 have hC6:=(hag _ (cA hC5)).trans hC5
 clear k wk F8 hgo
 generalize hcst:rB A vl n gs6.size w5 w8 Fd C1 C2=cst at *
 have e1:cst.n=n:=by rw[←hcst];rfl
 have e2:cst.K=26:=by rw[←hcst];rfl
 have e3:cst.z1=.int .i64 0∧cst.z2=.bool false∧cst.zs1=.tuple #[]∧cst.zs2=.tuple #[]:=by rw[←hcst];exact ⟨rfl,rfl,rfl,rfl⟩
 have e4:cst.fB=33:=by rw[←hcst];rfl
 have e5:cst.S0=gs6.size:=by rw[←hcst];rfl
 have e6:cst.C1=C1:=by rw[←hcst];rfl
 have e7:cst.C2=C2:=by rw[←hcst];rfl
 have e8:cst.Fd=Fd:=by rw[←hcst];rfl
 have e9:cst.N1=w8.heap.size:=by rw[←hcst];rfl
 have e10:cst.os0=w5.os:=by rw[←hcst];rfl
 have e11:cst.JU=w5.output:=by rw[←hcst];rfl
 clear hcst
 rw[←e1] at hWk
 obtain ⟨N7,gs7,w7,sl7,t7,q7,V,v0,v2,v4,v6,v7,v8,v12,v13,v14,v15,v16,v17,v18,v19,v20,v21,v22,v23,v24,v25,v26,v27,v28,v29,v30,v31,v32,v33,v34,v35,v36,v37,v38,v39,v40,v41,v42,v43,v44,v45,v46,v47,v48,v49,v50,v51,v52,r7,i7,hF,hV,ok7,Q7⟩:=xg cst bF w5.heap.size (w5.heap.size+1) bD w4.heap.size (W.heap.size+1) qm sm a b c g cr te hl hBm (cst.n:Int) (by rw[e1];exact hE) hfit hrl _ _ _ _ w6 hpre low hN6 hC6 (FF hagm hmn) (mN hagW ha) (dD hagW hb) (dD hagW hc) (dI hagW ra) (dI hagW rb) (dI hagW rc) wk' ⟨by omega,by omega⟩ e2 e3 e4 har (by omega) (by rw[e6,e7,e8,e9];exact dd1) _ (by rw[e5]) i8 hq hWk ok (by rw[e6];exact hc1) (by rw[e7];exact hc2) (by rw[e8];exact hfd) sl6
 obtain ⟨E,gl,wl,hin,hsh⟩:=qZ v0 (.int .i64 (cst.n:Nat)) v2 (.pointer (some ⟨w5.heap.size,0,none⟩)) v4 (.pointer (some ⟨w5.heap.size+1,0,none⟩)) v6 v7 v8 (.pointer (some ⟨bF,0,none⟩)) (.pointer (some ⟨bD,0,none⟩)) v12 v13 v14 v15 v16 v17 v18 v19 v20 v21 v22 v23 v24 v25 v26 v27 v28 v29 v30 v31 v32 v33 v34 v35 v36 v37 v38 v39 v40 v41 v42 v43 v44 v45 v46 v47 v48 v49 v50 v51 v52 _ _ _ _ _ _ _ _ _ _ _ _ _ _ _ _ _ _ _ _ _ _ _ _ _ _ _ _ cst.Fd V g hl hBm.n (n:Int) hE 1000000000 _ _ w7 eZ hF hV (cal :: rest)
 obtain ⟨N9,gs9,w9,sl9,t9,q9,E9,v,v',wl9,r9,z9,i9,⟨u,B9,rfl,hNN⟩,vr,wr9,fc9,Q9⟩:=gb (sl:=sl7) hG dc i7 hin Q7
 obtain ⟨u',rfl,hu'⟩:∃u',v'=.tuple #[u',.int .i64 0]∧VR E9 u u':=by
  cases vr with
  | tuple hs hv =>
   rename_i y
   have h0:0<y.size:=by rw[←hs];exact Nat.zero_lt_two
   have h1:1<y.size:=by rw[←hs];exact Nat.one_lt_two
   have k0:=hv 0 u _ rfl (Array.getElem?_eq_getElem h0)
   have k1:=hv 1 (.int .i64 0) _ rfl (Array.getElem?_eq_getElem h1)
   have e1:y[1]=.int .i64 0:=by
    revert k1
    generalize y[1]=z
    intro k1
    cases k1
    rfl
   refine ⟨y[0],?_,k0⟩
   congr 1
   refine Array.ext (by rw[←hs];rfl) fun i hi1 hi2=>?_
   rcases (by simp at hi2;omega:i=0∨i=1) with rfl | rfl
   ·rfl
   ·exact e1
 have hln:=hBm.n
 refine ⟨N1+(N2+(N3+(N4+(N5+(N6+(N7+N9)))))),gs9,w9,sl9,t9,q9,u',?_,i9,wU wr9 (by rw[hln];unfold maxLen;omega) (by omega) (fun N hN=>?_) hNN hu',?_,Q9⟩
 ·rw[runNT_add,r1]
  show runNT Tryz.prog (N2+(N3+(N4+(N5+(N6+(N7+N9)))))) (crowd gs1 w1 sl1) t1=_
  rw[runNT_add,r2]
  show runNT Tryz.prog (N3+(N4+(N5+(N6+(N7+N9))))) (crowd gs2 w2 sl2) t2=_
  rw[runNT_add,r3]
  show runNT Tryz.prog (N4+(N5+(N6+(N7+N9)))) (crowd gs3 w3 sl3) t3=_
  rw[runNT_add,r4]
  show runNT Tryz.prog (N5+(N6+(N7+N9))) (crowd gs4 w4 sl4) t4=_
  rw[runNT_add,r5]
  show runNT Tryz.prog (N6+(N7+N9)) (crowd gs5 w5 sl5) t5=_
  rw[runNT_add,r6]
  show runNT Tryz.prog (N7+N9) (crowd gs6 w8 sl6) t6=_
  rw[runNT_add,r7]
  exact r9
 ·obtain ⟨k,hk⟩:=List.mem_iff_getElem?.1 hN
  exact (hl.Dd hk).1
 ·refine ⟨fun b hb=>?_,fc9.os.trans (ok7.env.1.trans (e10.trans I5.2.1)),fc9.output.trans (ok7.env.2.trans (e11.trans I5.2.2))⟩
  have h1:=(hpre w7 ok7 b (by omega)).trans (hagW b hb)
  have h2:b<w7.heap.size:=by
   have h3:(w7.heap[b]?).isSome=true:=by rw[h1];simp[hb]
   simpa using h3
  exact (fc9.keep b h2 (fun b' s e=>by have:=hsh _ _ _ _ e;cases this)).trans h1
end
end Go.Proofs.YtgacaecjinlhiaaGreatDoor
