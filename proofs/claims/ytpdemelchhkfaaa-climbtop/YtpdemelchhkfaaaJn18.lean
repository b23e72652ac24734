import Derived.Test.YtpdemelchhkfaaaDwI
namespace Go.Proofs.Ytpdemelchhkfaaa
namespace Cs
open Go.Conc
open Go.ConcN (sumTo sumTo_congr)
open Go.ConcR (KK WgAt wgBlock stA smA rd wr)
section
variable {P:Program} {c:Cst} {z0:Y0} {zs:Nat→YW P} {z':YW P} {n i:Nat} {w:World} {tW:TypeId} {Wg:Nat}
theorem oq (hi:i<n) (hs:c.S0≤i) (h1:bef (zs i)=1) (h0:bef z'=0):lft c z0 (aJ zs i z') n+1=lft c z0 zs n:=by
 have:=fo (cG c) zs z' hi
 have e:cG c i z'=0:=by unfold cG;rw[if_neg (by omega),h0]
 have e':cG c i (zs i)=1:=by unfold cG;rw[if_neg (by omega),h1]
 unfold lft
 omega
theorem zQ (hi:i<n) (hs:c.S0≤i) (h1:bef (zs i)=1):0<lft c z0 zs n:=by
 have:=oq (c:=c) (z0:=z0) (zs:=zs) (z':=.lv 0) hi hs h1 rfl
 omega
theorem yI {st sm st':Int} (h:WgAt tW Wg w st sm):WgAt tW Wg (w.setCell (stA Wg) (.int .u64 st')) st' sm:=by
 unfold WgAt at h ⊢
 unfold World.setCell
 simp only[stA,Array.getElem?_modify,h]
 simp[wgBlock]
theorem Aq {st sm sm':Int} (h:WgAt tW Wg w st sm):WgAt tW Wg (w.setCell (smA Wg) (.int .u32 sm')) st sm':=by
 unfold WgAt at h ⊢
 unfold World.setCell
 simp only[smA,Array.getElem?_modify,h]
 simp[wgBlock]
theorem jI {z0':Y0} (h:z0'=z0∨(z0=.w3b∧z0'=.w3 0)):lft c z0' zs n=lft c z0 zs n:=by
 unfold lft
 rw[(dP (P:=P) (c:=c) h).1]
end
variable [Fns]
section
variable {P:Program} {c:Cst} {tW tX:TypeId} {J:Nat} {F:Nat→Value} {R:Nat→Array Value} {β:Type} {eB:β→Nat→Value} {up:β→Nat→β} {b0:β} {Sn:Nat→Prop} {S:ff P c tW tX J F R β eB up}
variable {gs gs':Array Goroutine} {w w':World} {t t':Trace} {z0 z0':Y0} {zs:Nat→YW P} {L L':List Nat} {ow ow':Option Nat} {blk blk':Nat→Option Nat} {W W':Wd} {mm mm' i:Nat} {g g':Goroutine} {z':YW P} {es:Array Event}
omit [Fns] in
theorem dV (w:World) (a:Addr) (v:Value) (ha:a.block=c.C2):∀q,q≠c.C2→(w.setCell a v).heap[q]? = w.heap[q]?:=fun q hq=>heap_setCell_other w a q v (by rw[ha];exact hq)
omit [Fns] in
theorem jL (w:World) (a:Addr) (v:Value) (ha:a.block=c.C2) (hF:c.Fd≠c.C2):Still c w (w.setCell a v):=⟨fun q h1 _=>dV w a v ha q h1,fun cs e=>⟨cs,(dV w a v ha _ hF).trans e,rfl,fun _ _=>rfl⟩,cI w a v,.refl _,rfl⟩
theorem ff.fc (S:ff P c tW tX J F R β eB up):c.Fd≠c.C2:=fun e=>S.d1.2.2.1 e.symm
theorem aD.yx (h:aD S b0 Sn gs w t z0 zs L ow blk W mm) {a:Addr} {v:Value} (ha:a.block=c.C2) {st sm:Int} (hw:WgAt tW c.C2 (w.setCell a v) st sm):Ok3 c tW (w.setCell a v) :=
 ⟨(jL w a v ha S.fc).okT h.mem.ok,⟨_,_,hw⟩,⟨_,_,b9 h.mu (dV w a v ha _ S.fc)⟩⟩
theorem aD.C8 (h:aD S b0 Sn gs w t z0 zs L ow blk W mm) (hi:c.S0≤i) (hg:gs[i]? = some g) {m:Nat} (hz:zs i=.re m) (hT:S.Rel g):bp S b0 Sn gs w t z0 zs W mm i:=by
 have hs1:=S.s1
 have his:=bf hg
 obtain ⟨_,g',hst,hon⟩:=S.rel g hT
 obtain ⟨m',hw'⟩:=hon.go h.ok3
 have hdz:Deaf t i=0:=by have:=h.dfW i hi his;rw[hz] at this;exact this
 refine h.dw (z':=.di m') (L':=L) (ow':=ow) (blk':=blk) (W':=W) (mm':=mm) (by omega) hg (hst w h.ok3) h.ok3 hw' (fun e=>by omega) (fun _=>by rw[hdz];rfl) (fun _ _ _ _ _ _=>rfl) (fun _ _ _ _ _=>⟨rfl,fun _ _=>rfl⟩) (fun z0' k1 _=>h.wg.ee k1 his (by rw[hz];rfl) (by rw[hz];exact Iff.rfl) (by rw[hz];exact Iff.rfl) rfl) (fun k E s e=>by cases e) (h.mem.one S.cf (.refl _ _) hi (fun k _ _=>by rw[hz];exact Iff.rfl) (by rw[hz];exact Iff.rfl) (fun k e=>by cases e) (fun k q e=>e.elim) (fun q e=>e.elim)) ?_ (h.cK (by rw[hz];rfl)) h.mu (fun k q s e=>by cases e) (fun _ e=>e) (.inl (ic his (by rw[hz];exact Nat.le_refl _) (by rw[hz];show 5<6;omega) (by rw[hz];rfl)))
 have hx:=h.tr.rel (zs':=aJ zs i (.di m')) (y:={ g:=i,fn:=g.frame.fn,pos:=g.frame.place,act:=.mark (.releaseMerge (stA c.C2)) }) ⟨rfl,rfl⟩ hdz (fun j hj e=>by
  have hj2:j≠i:=hj
  rw[aF _ _ hj2] at e
  exact e)
 have he:MemOp.ofEvents i g.frame.fn g.frame.place #[ConcR.mk (.releaseMerge (stA c.C2))]=#[{ g:=i,fn:=g.frame.fn,pos:=g.frame.place,act:=.mark (.releaseMerge (stA c.C2)) }]:=by simp[MemOp.ofEvents,ConcR.mk,MemAct.ofEvent]
 rw[he]
 exact hx
theorem aD.Cb (h:aD S b0 Sn gs w t z0 zs L ow blk W mm) (hn:dg c Sn) (hi:c.S0≤i) (hg:gs[i]? = some g) {m:Nat} (hz:zs i=.di m) (hT:S.Dis g):bp S b0 Sn gs w t z0 zs W mm i:=by
 have hs1:=S.s1
 have his:=bf hg
 obtain ⟨_,g',hst,hon⟩:=S.dis g hT
 obtain ⟨m',hw'⟩:=hon.go h.ok3
 have hdz:Deaf t i=0:=by have:=h.dfW i hi his;rw[hz] at this;exact this
 refine h.dw (z':=.de m') (L':=L) (ow':=ow) (blk':=blk) (W':=W) (mm':=mm) (by omega) hg (hst w h.ok3) h.ok3 hw' (fun e=>by omega) (fun _=>by rw[hdz];rfl) (fun _ _ _ _ _ _=>rfl) (fun _ _ _ _ _=>⟨rfl,fun _ _=>rfl⟩) (fun z0' k1 _=>h.wg.ee k1 his (by rw[hz];rfl) (by rw[hz];exact Iff.rfl) (by rw[hz];exact Iff.rfl) rfl) (fun k E s e=>by cases e) (h.mem.one S.cf (.refl _ _) hi (fun k _ _=>by rw[hz];exact Iff.rfl) (by rw[hz];exact Iff.rfl) (fun k e=>by cases e) (fun k q e=>e.elim) (fun q e=>e.elim)) ?_ (h.cK (by rw[hz];rfl)) h.mu (fun k q s e=>by cases e) (fun _ e=>e) (.inl (ic his (by rw[hz];exact Nat.le_refl _) (by rw[hz];show 4<5;omega) (by rw[hz];rfl)))
 exact h.tr.atom hn (.inr ⟨hi,his⟩) (fun e he=>by simp at he;exact .inr (.inl he)) h.mem.ok.big (bX (fun _=>by rw[hz];trivial)) (.inr (.inr fun k e he ⟨a,wr,ea⟩=>by have:=Array.mem_of_getElem? he;simp at this;rw[this] at ea;cases ea))
theorem aD.counts (h:aD S b0 Sn gs w t z0 zs L ow blk W mm) (hn:dg c Sn) (hi:c.S0≤i) (hg:gs[i]? = some g) {m:Nat} (hz:zs i=.de m) (hT:S.Dec g) (hlb:lft c z0 zs gs.size≤2147483647):bp S b0 Sn gs w t z0 zs W mm i:=by
 have hs1:=S.s1
 have his:=bf hg
 have hp:0<lft c z0 zs gs.size:=zQ his hi (by rw[hz];rfl)
 obtain ⟨v,hv⟩:∃v,lft c z0 zs gs.size=v+1:=⟨lft c z0 zs gs.size-1,by omega⟩
 have hrg:reg z0≤1:=by cases z0 <;> simp[reg]
 obtain ⟨_,hk⟩:=S.dec g hT
 obtain ⟨g',hst,hlast,hmore⟩:=hk v (reg z0) hrg (by omega)
 have hdz:Deaf t i=1:=by have:=h.dfW i hi his;rw[hz] at this;exact this
 have hd1:deafBehind (Deaf t i) #[rd (stA c.C2),wr (stA c.C2)]=1:=by rw[hdz];rfl
 cases hwg:h.wg with
 | cls j _ _ _ _ _ hl _=>omega
 | rls _ hl _ _ _=>omega
 | pst _ hl _ _=>omega
 | run hnc hps hr hw =>
  have hw1:WgAt tW c.C2 w (((v:Int)+1)*KK+(reg z0:Int)) 0:=by
   rw[hv] at hw
   exact_mod_cast hw
  have hst':=hst w hw1
  have hw2:WgAt tW c.C2 (w.setCell (stA c.C2) (.int .u64 ((v:Int)*KK+(reg z0:Int)))) ((v:Int)*KK+(reg z0:Int)) 0:=yI hw1
  have hok:=h.yx (a:=stA c.C2) rfl hw2
  have hoth:=dV (c:=c) w (stA c.C2) (.int .u64 ((v:Int)*KK+(reg z0:Int))) rfl
  have hsz:=cI w (stA c.C2) (.int .u64 ((v:Int)*KK+(reg z0:Int)))
  have htr:∀z':YW P,told z'→Tr3 c Sn (aJ zs i z') gs.size ow blk (w.setCell (stA c.C2) (.int .u64 ((v:Int)*KK+(reg z0:Int)))).heap.size (t++MemOp.ofEvents i g.frame.fn g.frame.place #[rd (stA c.C2),wr (stA c.C2)]):=fun z' _=>by
   rw[hsz]
   exact h.tr.atom hn (.inr ⟨hi,his⟩) (fun e he=>by simp at he;rcases he with rfl | rfl;exact .inl ⟨_,_,rfl,hn.c2⟩;exact .inl ⟨_,_,rfl,hn.c2⟩) h.mem.ok.big (bX (fun _=>by rw[hz];trivial)) (.inr (.inr fun k e he _=>by have hd:Deaf t i=1:=(by have:=h.dfW i hi his;rw[hz] at this;exact this);rw[hd];exact mH (fun e he=>by simp at he;first | (rcases he with rfl | rfl <;> exact ⟨_,_,rfl⟩) | (subst he;exact ⟨_,_,rfl⟩)) k))
  have hmem:∀z':YW P,gE z'=none→(∀q,¬bI z' q)→(∀k,k<J→k<cW J z')→¬gv z'→cU P c tX J R eB up b0 (aJ zs i z') gs.size L ow blk (w.setCell (stA c.C2) (.int .u64 ((v:Int)*KK+(reg z0:Int)))):=fun z' h1 h2 h3 h4=>h.mem.one S.cf (jL w _ _ rfl S.fc) hi (fun k hk _=>by rw[hz];exact ⟨fun _=>hk,fun _=>h3 k hk⟩) ⟨fun e=>(h4 e).elim,fun e=>by rw[hz] at e;exact e.elim⟩ (fun k e=>by rw[h1] at e;cases e) (fun k q e=>(h2 q (gx e)).elim) (fun q e=>(h2 q e).elim)
  by_cases hvl:v=0∧reg z0=1
  ·obtain ⟨m',hw'⟩:=(hlast hvl).go hok
   refine h.dw (z':=.lo m') (L':=L) (ow':=ow) (blk':=blk) (W':=W) (mm':=mm) (by omega) hg hst' hok hw' (fun e=>by omega) (fun _=>hd1) (fun j q _ a3 _ _=>hoth q (by have:=S.cf;omega)) (fun _ _ _ _ _=>⟨rfl,fun _ _=>by unfold World.cell?;rw[hoth _ S.fc]⟩) (fun z0' k1 _=>?_) (fun k E s e=>by cases e) (hmem _ rfl (fun q e=>e) (fun k hk=>hk) (fun e=>e)) (htr _ trivial) (h.cK (by rw[hz];rfl)) (b9 h.mu (hoth _ S.fc)) (fun k q s e=>by cases e) (fun _ e=>e) (.inl (ic his (by rw[hz];exact Nat.zero_le _) (by rw[hz];show 3<4;omega) (by rw[hz];rfl)))
   have hld:=oq (c:=c) (z0:=z0) (zs:=zs) (z':=(.lo m':YW P)) his hi (by rw[hz];rfl) rfl
   refine .cls i hi his (by rw[an];trivial) (fun j j1 j2 j3=>by rw[aF _ _ j3];exact hnc j j1 j2) (by rw[(dP (P:=P) (c:=c) k1).2.1];exact hvl.2) (by rw[jI k1];omega) ⟨fun e=>?_,fun _=>?_⟩
   ·rw[an] at e;exact e.elim
   ·have e:((v:Int)*KK+(reg z0:Int))=1:=by rw[hvl.1,hvl.2];simp
    rw[e] at hw2 ⊢
    exact hw2
  ·obtain ⟨q,hq⟩:=hmore hvl
   refine h.dw (z':=.lv q) (L':=L) (ow':=ow) (blk':=blk) (W':=W) (mm':=mm) (by omega) hg hst' hok (by rw[hd1];exact hq) (fun e=>by omega) (fun _=>trivial) (fun j q _ a3 _ _=>hoth q (by have:=S.cf;omega)) (fun _ _ _ _ _=>⟨rfl,fun _ _=>by unfold World.cell?;rw[hoth _ S.fc]⟩) (fun z0' k1 _=>?_) (fun k E s e=>by cases e) (hmem _ rfl (fun q e=>e) (fun k hk=>hk) (fun e=>e)) (htr _ trivial) (h.cK (by rw[hz];rfl)) (b9 h.mu (hoth _ S.fc)) (fun k q s e=>by cases e) (fun _ e=>e) (.inl (ic his (by rw[hz];exact Nat.zero_le _) (by rw[hz];show 0<4;omega) (by rw[hz];rfl)))
   have hld:=oq (c:=c) (z0:=z0) (zs:=zs) (z':=(.lv q:YW P)) his hi (by rw[hz];rfl) rfl
   obtain ⟨_,e2,_,e4,_,_⟩:=dP (P:=P) (c:=c) k1
   have hlv:lft c z0' (aJ zs i (.lv q)) gs.size=v:=by rw[jI k1];omega
   refine .run (iJ hnc (fun e=>e.elim)) (fun e=>hps (e4.1 e)) ⟨fun e=>?_,fun u m e=>?_⟩ (by rw[hlv,e2];exact hw2)
   ·rw[hlv]
    rw[e2] at e
    omega
   ·rw[hlv]
    rcases k1 with e' | ⟨_,e'⟩
    ·have:=hr.2 u m (e' ▸ e)
     omega
    ·rw[e'] at e;cases e
omit [Fns] in
theorem WgS.closes {n:Nat} (h:WgS c tW z0 zs n w) (hi:c.S0≤i) (his:i<n) (hc:closing (zs i)):(∀j,c.S0≤j→j<n→j≠i→¬closing (zs j))∧reg z0=1∧lft c z0 zs n=0∧(gG (zs i)→WgAt tW c.C2 w 0 0)∧(¬gG (zs i)→WgAt tW c.C2 w 1 0):=by
 cases h with
 | run hn _ _ _=>exact absurd hc (hn i hi his)
 | rls hn _ _ _ _=>exact absurd hc (hn i hi his)
 | pst hn _ _ _=>exact absurd hc (hn i hi his)
 | cls j hj hs hcj hu hr hl hw =>
  have e:i=j:=Classical.byContradiction fun e=>hu i hi his e hc
  subst e
  exact ⟨hu,hr,hl,hw.1,hw.2⟩
theorem aD.looks (h:aD S b0 Sn gs w t z0 zs L ow blk W mm) (hn:dg c Sn) (hi:c.S0≤i) (hg:gs[i]? = some g) {m:Nat} (hz:zs i=.lo m) (hT:S.Lod g):bp S b0 Sn gs w t z0 zs W mm i:=by
 have hs1:=S.s1
 have his:=bf hg
 obtain ⟨_,g',hst,hon⟩:=S.lod g hT
 obtain ⟨_,_,_,_,hw1⟩:=h.wg.closes hi his (by rw[hz];trivial)
 have hst':=hst w (hw1 (by rw[hz];exact fun e=>e))
 obtain ⟨m',hw'⟩:=hon.go h.ok3
 have hdz:Deaf t i=1:=by have:=h.dfW i hi his;rw[hz] at this;exact this
 refine h.dw (z':=.ze m') (L':=L) (ow':=ow) (blk':=blk) (W':=W) (mm':=mm) (by omega) hg hst' h.ok3 hw' (fun e=>by omega) (fun _=>by rw[hdz];rfl) (fun _ _ _ _ _ _=>rfl) (fun _ _ _ _ _=>⟨rfl,fun _ _=>rfl⟩) (fun z0' k1 _=>h.wg.ee k1 his (by rw[hz];rfl) (by rw[hz];exact Iff.rfl) (by rw[hz];exact Iff.rfl) rfl) (fun k E s e=>by cases e) (h.mem.one S.cf (.refl _ _) hi (fun k _ _=>by rw[hz];exact Iff.rfl) (by rw[hz];exact Iff.rfl) (fun k e=>by cases e) (fun k q e=>e.elim) (fun q e=>e.elim)) ?_ (h.cK (by rw[hz];rfl)) h.mu (fun k q s e=>by cases e) (fun _ e=>e) (.inl (ic his (by rw[hz];exact Nat.le_refl _) (by rw[hz];show 2<3;omega) (by rw[hz];rfl)))
 exact h.tr.atom hn (.inr ⟨hi,his⟩) (fun e he=>by simp at he;subst he;exact .inl ⟨_,_,rfl,hn.c2⟩) h.mem.ok.big (bX (fun _=>by rw[hz];trivial)) (.inr (.inr fun k e he _=>by have hd:Deaf t i=1:=(by have:=h.dfW i hi his;rw[hz] at this;exact this);rw[hd];exact mH (fun e he=>by simp at he;first | (rcases he with rfl | rfl <;> exact ⟨_,_,rfl⟩) | (subst he;exact ⟨_,_,rfl⟩)) k))
theorem aD.clears (h:aD S b0 Sn gs w t z0 zs L ow blk W mm) (hn:dg c Sn) (hi:c.S0≤i) (hg:gs[i]? = some g) {m:Nat} (hz:zs i=.ze m) (hT:S.Zer g):bp S b0 Sn gs w t z0 zs W mm i:=by
 have hs1:=S.s1
 have his:=bf hg
 obtain ⟨_,g',hst,hon⟩:=S.zer g hT
 obtain ⟨hu,hr,hl,_,hw1⟩:=h.wg.closes hi his (by rw[hz];trivial)
 have hw0:=hw1 (by rw[hz];exact fun e=>e)
 have hst':=hst w hw0
 have hw2:WgAt tW c.C2 (w.setCell (stA c.C2) (.int .u64 0)) 0 0:=yI hw0
 have hok:=h.yx (a:=stA c.C2) rfl hw2
 have hoth:=dV (c:=c) w (stA c.C2) (.int .u64 0) rfl
 have hsz:=cI w (stA c.C2) (.int .u64 0)
 obtain ⟨m',hw'⟩:=hon.go hok
 have hdz:Deaf t i=1:=by have:=h.dfW i hi his;rw[hz] at this;exact this
 refine h.dw (z':=.se m') (L':=L) (ow':=ow) (blk':=blk) (W':=W) (mm':=mm) (by omega) hg hst' hok hw' (fun e=>by omega) (fun _=>by rw[hdz];rfl) (fun j q _ a3 _ _=>hoth q (by have:=S.cf;omega)) (fun _ _ _ _ _=>⟨rfl,fun _ _=>by unfold World.cell?;rw[hoth _ S.fc]⟩) (fun z0' k1 _=>?_) (fun k E s e=>by cases e) ?_ ?_ (h.cK (by rw[hz];rfl)) (b9 h.mu (hoth _ S.fc)) (fun k q s e=>by cases e) (fun _ e=>e) (.inl (ic his (by rw[hz];exact Nat.le_refl _) (by rw[hz];show 1<2;omega) (by rw[hz];rfl)))
 ·refine .cls i hi his (by rw[an];trivial) (fun j j1 j2 j3=>by rw[aF _ _ j3];exact hu j j1 j2 j3) (by rw[(dP (P:=P) (c:=c) k1).2.1];exact hr) (by rw[jI k1,pq his (by rw[hz];rfl)];exact hl) ⟨fun _=>hw2,fun e=>?_⟩
  rw[an] at e
  exact absurd trivial e
 ·exact h.mem.one S.cf (jL w _ _ rfl S.fc) hi (fun k _ _=>by rw[hz];exact Iff.rfl) (by rw[hz];exact Iff.rfl) (fun k e=>by cases e) (fun k q e=>e.elim) (fun q e=>e.elim)
 ·rw[hsz]
  exact h.tr.atom hn (.inr ⟨hi,his⟩) (fun e he=>by simp at he;subst he;exact .inl ⟨_,_,rfl,hn.c2⟩) h.mem.ok.big (bX (fun _=>by rw[hz];trivial)) (.inr (.inr fun k e he _=>by have hd:Deaf t i=1:=(by have:=h.dfW i hi his;rw[hz] at this;exact this);rw[hd];exact mH (fun e he=>by simp at he;first | (rcases he with rfl | rfl <;> exact ⟨_,_,rfl⟩) | (subst he;exact ⟨_,_,rfl⟩)) k))
omit [Fns] in
theorem qN (d:Nat) (a:Addr):deafBehind d (semEvents a)=d:=by simp[deafBehind,semEvents]
omit [Fns] in
theorem tf {e:Event} (he:e ∈ semEvents (smA c.C2)) (hn:dg c Sn):(∃a wr,e=⟨.cell a,wr,true⟩∧Sn a.block)∨e=Go.ConcR.mk .disable∨e=Go.ConcR.mk .enable:=by
 simp[semEvents] at he
 rcases he with rfl | rfl | rfl | rfl
 ·exact .inr (.inl rfl)
 ·exact .inl ⟨_,_,rfl,hn.c2⟩
 ·exact .inl ⟨_,_,rfl,hn.c2⟩
 ·exact .inr (.inr rfl)
omit [Fns] in
theorem vg {c:Cst} (k:Nat) (e:Event) (he:(semEvents (smA c.C2))[k]? = some e) (_:∃a wr,e=(⟨.cell a,wr,true⟩:Event)):0<deafBehind 1 ((semEvents (smA c.C2)).extract 0 k):=by
 have hk:k<4:=(Array.getElem?_eq_some_iff.1 he).1
 match k,hk with
 | 0,_=>exact Nat.zero_lt_one
 | 1,_=>exact Nat.zero_lt_succ _
 | 2,_=>exact Nat.zero_lt_succ _
 | 3,_=>exact Nat.zero_lt_succ _
theorem aD.CH (h:aD S b0 Sn gs w t z0 zs L ow blk W mm) (hn:dg c Sn) (hi:c.S0≤i) (hg:gs[i]? = some g) {m:Nat} (hz:zs i=.se m) (hT:S.Sem g):bp S b0 Sn gs w t z0 zs W mm i:=by
 have hs1:=S.s1
 have his:=bf hg
 obtain ⟨_,hmw,g',hst,q,hq⟩:=S.sem g hT
 obtain ⟨hu,hr,hl,hw1,_⟩:=h.wg.closes hi his (by rw[hz];trivial)
 have hw0:=hw1 (by rw[hz];trivial)
 have hst':=hst w hw0
 have hw2:WgAt tW c.C2 (w.setCell (smA c.C2) (.int .u32 1)) 0 1:=Aq hw0
 have hok:=h.yx (a:=smA c.C2) rfl hw2
 have hoth:=dV (c:=c) w (smA c.C2) (.int .u32 1) rfl
 have hsz:=cI w (smA c.C2) (.int .u32 1)
 have hdz:Deaf t i=1:=by have:=h.dfW i hi his;rw[hz] at this;exact this
 refine h.dw (z':=.lv q) (L':=L) (ow':=ow) (blk':=blk) (W':=W) (mm':=mm) (by omega) hg hst' hok (by rw[qN,hdz];exact hq) (fun e=>by omega) (fun _=>trivial) (fun j q _ a3 _ _=>hoth q (by have:=S.cf;omega)) (fun _ _ _ _ _=>⟨rfl,fun _ _=>by unfold World.cell?;rw[hoth _ S.fc]⟩) (fun z0' k1 k2=>?_) (fun k E s e=>by cases e) ?_ ?_ (h.cK (by rw[hz];rfl)) (b9 h.mu (hoth _ S.fc)) (fun k q s e=>by cases e) (fun _ e=>e) (.inl (ic his (by rw[hz];exact Nat.le_refl _) (by rw[hz];show 0<1;omega) (by rw[hz];rfl)))
 ·refine .rls (fun j j1 j2=>?_) (by rw[jI k1,pq his (by rw[hz];rfl)];exact hl) (by rw[(dP (P:=P) (c:=c) k1).2.1];exact hr) (fun e=>?_) hw2
  ·by_cases e:j=i
   ·subst e;rw[an];exact fun e=>e
   ·rw[aF _ _ e];exact hu j j1 j2 e
  ·have:=k2 e
   unfold br at this
   rw[hmw] at this
   rcases hq.status with e1 | e1
   ·rw[e1] at this;exact absurd this (by decide)
   ·rw[e1] at this;exact absurd this (by decide)
 ·exact h.mem.one S.cf (jL w _ _ rfl S.fc) hi (fun k _ _=>by rw[hz];exact Iff.rfl) (by rw[hz];exact Iff.rfl) (fun k e=>by cases e) (fun k q e=>e.elim) (fun q e=>e.elim)
 ·rw[hsz]
  exact h.tr.atom hn (.inr ⟨hi,his⟩) (fun e he=>tf he hn) h.mem.ok.big (bX (fun _=>by rw[hz];trivial)) (.inr (.inr fun k e he _=>by have hd:Deaf t i=1:=(by have:=h.dfW i hi his;rw[hz] at this;exact this);rw[hd];exact vg k e he ‹_›))
end
end Cs
namespace Cs
open Go.Conc
open Go.ConcN (sumTo sumTo_congr)
open Go.ConcR (KK WgAt wgBlock stA smA rd wr)
variable [Fns]
section
variable {P:Program} {c:Cst} {tW tX:TypeId} {J:Nat} {F:Nat→Value} {R:Nat→Array Value} {β:Type} {eB:β→Nat→Value} {up:β→Nat→β} {b0:β} {Sn:Nat→Prop} {S:ff P c tW tX J F R β eB up}
variable {gs gs':Array Goroutine} {w w':World} {t t':Trace} {z0 z0':Y0} {zs:Nat→YW P} {L L':List Nat} {ow ow':Option Nat} {blk blk':Nat→Option Nat} {W W':Wd} {mm mm' i:Nat} {g g':Goroutine} {z':YW P} {es:Array Event}
omit [Fns] in
theorem mh {E:Env} (hes:∀e ∈ es,ef E e) (d:Nat):deafBehind d es=d:=deafBehind_still (fun e he=>by
 cases hes e he with
 | read _=>exact ⟨(fun e=>by cases e),(fun e=>by cases e)⟩
 | write _=>exact ⟨(fun e=>by cases e),(fun e=>by cases e)⟩
 | obj _ _=>exact ⟨(fun e=>by cases e),(fun e=>by cases e)⟩
 | noRoom=>exact ⟨(fun e=>by cases e),(fun e=>by cases e)⟩) d
omit [Fns] in
theorem Tr3.rm {zs':Nat→YW P} {top size size':Nat} {fn:FuncId} {pos:String} {E':Env} (h:Tr3 c Sn zs top ow blk size t) (hn:dg c Sn) (hi:c.S0≤i∧i<top) (hb:∀q,blk' q=blk q∨(size≤q∧blk' q=some i)) (hown:∀b q s,E' b=some (q,s,true)→blk' q=some i) (hshr:∀b q s,E' b=some (q,s,false)→c.Fix q)
  (hlo:∀q i,blk' q=some i→c.N1≤q∧q<size') (hFd:c.Fd<c.N1) (hes:∀e ∈ es,ef E' e) (hN:c.N1≤size') (hs:size≤size') (hz:∀j,told (zs' j)→told (zs j)) (hzi:¬told (zs' i)):Tr3 c Sn zs' top ow blk' size' (t++MemOp.ofEvents i fn pos es):=by
 have key:∀op ∈ MemOp.ofEvents i fn pos es,op.g=i∧eL op.act≠true∧(op.act.touch? = none∨(∃b,op.act.touch? = some b∧eW size' b.loc∧(∀ad,b.loc=.cell ad→ad.block≠c.Fd)∧¬shL Sn c b.loc∧(bV c ow blk' b.loc=some i∨(bV c ow blk' b.loc=none∧¬gdL c b.loc∧b.write=false)))):=fun op hop=>by
  obtain ⟨e,he,rfl⟩:=Conc.mem_ofEvents hop
  refine ⟨rfl,?_⟩
  have own:∀b q s,E' b=some (q,s,true)→q<size'∧q≠c.Fd∧¬q<c.N1∧blk' q=some i∧¬Sn q:=fun b q s e=>by
   have h1:=hown b q s e
   have h2:=hlo q i h1
   exact ⟨h2.2,by omega,by omega,h1,fun e=>by have:=(hn.lt q e).1;omega⟩
  have cell:∀(a:Addr) (wr:Bool) b s o,E' b=some (a.block,s,o)→(wr=true→o=true)→eL (MemAct.ofEvent ⟨.cell a,wr,false⟩)≠true∧(∃x,(MemAct.ofEvent ⟨.cell a,wr,false⟩).touch? = some x∧eW size' x.loc∧(∀ad,x.loc=.cell ad→ad.block≠c.Fd)∧¬shL Sn c x.loc∧(bV c ow blk' x.loc=some i∨(bV c ow blk' x.loc=none∧¬gdL c x.loc∧x.write=false))):=fun a wr b s o hE ho=>by
   refine ⟨(fun e=>by cases e),_,rfl,?_⟩
   cases o with
   | true =>
    obtain ⟨k1,k2,k3,k4,k5⟩:=own b _ s hE
    exact ⟨k1,(fun ad e=>by cases e;exact k2),(fun e=>e.elim k5 fun e=>k2 e.1),.inl (by simp only[bV,if_neg k2,if_neg k3,k4])⟩
   | false =>
    have hf:=hshr b _ s hE
    refine ⟨Nat.lt_of_lt_of_le hf.1 hN,(fun ad e=>by cases e;exact hf.2.1),(fun e=>e.elim (fun e=>hn.fix _ e hf) fun e=>hf.2.1 e.1),.inr ⟨by simp only[bV,if_neg hf.2.1,if_pos hf.1],fun e=>hf.2.1 e.1,?_⟩⟩
    cases wr with
    | false=>rfl
    | true=>cases ho rfl
  cases hes e he with
  | read hE=>obtain ⟨k1,k2⟩:=cell _ false _ _ _ hE (fun e=>by cases e);exact ⟨k1,.inr k2⟩
  | write hE=>obtain ⟨k1,k2⟩:=cell _ true _ _ _ hE (fun _=>rfl);exact ⟨k1,.inr k2⟩
  | @obj r b s wr hE =>
   obtain ⟨k1,k2,k3,k4,k5⟩:=own b r s hE
   have e1:MemAct.ofEvent ⟨.obj r,wr,false⟩=.access ⟨.obj r,wr,false⟩:=by cases wr <;> rfl
   refine ⟨(fun e=>by rw[e1] at e;cases e),.inr ⟨⟨.obj r,wr,.plain⟩,by rw[e1];rfl,k1,(fun ad e=>by cases e),k5,.inl (by simp only[bV,if_neg k3,k4])⟩⟩
  | noRoom=>exact ⟨(fun e=>by cases e),.inl rfl⟩
 refine (h.sX hb).own hn.lt (.inr hi) (fun op hop=>?_) hs (fun op hop b hb=>?_) (fun op hop=>(key op hop).2.1) hz (.inr (.inr hzi))
 ·obtain ⟨h1,_,h2⟩:=key op hop
  refine ⟨h1,fun b hb=>?_⟩
  rcases h2 with h2 | ⟨b',h2,_,_,h3,h4⟩
  ·rw[h2] at hb;cases hb
  ·rw[h2] at hb;cases hb;exact .inr ⟨h3,h4⟩
 ·rcases (key op hop).2.2 with h2 | ⟨b',h2,h3,_⟩
  ·rw[h2] at hb;cases hb
  ·rw[h2] at hb;cases hb;exact h3
theorem aD.rm (hG:P.globals.size≤Fns.G) (hC:bu P) (h:aD S b0 Sn gs w t z0 zs L ow blk W mm) (hn:dg c Sn) (hi:c.S0≤i) (hg:gs[i]? = some g) {k:Nat} (hk:k<J) {E:Env} {gl:Goroutine} {wl:World} {cal:Frame} {rest:List Frame} (hin:bB P (fun v _=>v=F k) (cal :: rest) E gl wl g w)
  (hcont:OnA P c tW false (S.Bxs k) (G (cal.finish (F k)) rest)) (hz1:∀q,(∃b s,E b=some (q,s,true))→bI (zs i) q) (hsh:∀b q s,E b=some (q,s,false)→c.Fix q) (hp:(∃m,zs i=.pr k m)∨∃s,zs i=.ca k E s∧s.1=(gl,wl)):bp S b0 Sn gs w t z0 zs W mm i:=by
 have hs1:=S.s1
 have hd:=S.d1
 have his:=bf hg
 have hph:bef (zs i)=1∧¬closing (zs i)∧¬gG (zs i)∧aV (zs i)=.no∧(cW J (zs i)=k∧¬gv (zs i)∧gE (zs i)=some k)∧Deaf t i=0∧¬told (zs i):=by
  have h9:=h.dfW i hi his
  rcases hp with ⟨m,e⟩ | ⟨s,e,_⟩
  ·rw[e] at h9 ⊢
   exact ⟨rfl,(fun e=>e),(fun e=>e),rfl,⟨rfl,(fun e=>e),rfl⟩,h9,fun e=>e⟩
  ·rw[e] at h9 ⊢
   exact ⟨rfl,(fun e=>e),(fun e=>e),rfl,⟨rfl,(fun e=>e),rfl⟩,h9,fun e=>e⟩
 obtain ⟨p1,p2,p3,p4,p5,p6,p7⟩:=hph
 have hown:∀b q s,E b=some (q,s,true)→c.N1≤q∧q<w.heap.size∧blk q=some i:=fun b q s e=>h.mem.us1 i q hi his (hz1 q ⟨b,s,e⟩)
 have low:∀{E':Env} {w':World},FC E E' w w'→∀q,q<c.N1→w'.heap[q]? = w.heap[q]?:=fun hf q hq=>hf.keep q (Nat.lt_of_lt_of_le hq h.mem.ok.big) fun b s e=>by have:=(hown b q s e).1;omega
 have oth:∀{E':Env} {w':World},FC E E' w w'→∀j q,j≠i→c.N1≤q→q<w.heap.size→blk q=some j→w'.heap[q]? = w.heap[q]?:=fun hf j q a3 b1 b2 b3=>by
  refine hf.keep q b2 fun b s e=>?_
  have:=(hown b q s e).2.2
  rw[b3] at this
  cases this
  exact a3 rfl
 have hFd:∀{E':Env} {w':World},FC E E' w w'→w'.heap[c.Fd]? = w.heap[c.Fd]?:=fun hf=>low hf _ S.cf.2
 have hki:k % c.n=i-c.S0:=h.mem.nm i k hi his p5.2.2
 have ok3:∀{E':Env} {w':World},FC E E' w w'→Ok3 c tW w':=fun hf=>by
  refine ⟨h.mem.ok.keep (fun q hq=>low hf q hq.1) (fun cs e=>⟨cs,(hFd hf).trans e,rfl⟩) hf.size (by rw[hf.os];exact .refl _) hf.output,?_,⟨_,_,b9 h.mu (hFd hf)⟩⟩
  obtain ⟨a,b,hk⟩:=h.wg.live
  exact ⟨a,b,by unfold WgAt at hk ⊢;rw[low hf _ S.cf.1];exact hk⟩
 by_cases hs:Stop [ay P] gl
 ·obtain ⟨v,wl2,E',v',w',es,hpost,hvr,hwr,hst,hev,hfc⟩:=hin.ret false hs
  have hpost':v=F k:=hpost
  subst hpost'
  have ev:=S.vr k E' v' hvr
  subst ev
  have hok:=ok3 hfc
  obtain ⟨m,hw⟩:=hcont.go hok
  obtain ⟨blk',mem1,hb,hown',hshr'⟩:=h.mem.call (z':=.bx k m) S.cf.2 hi his hz1 (fun j _ _=>by rw[p5.1];exact Iff.rfl) ⟨fun e=>e.elim,fun e=>absurd e p5.2.1⟩ (fun j e=>by cases e;exact hki) (fun _ _ e=>e) (fun q e=>e.elim) hfc hsh
  refine h.dw (z':=.bx k m) (L':=L) (ow':=ow) (blk':=blk') (W':=W) (mm':=mm) (by omega) hg hst hok ⟨hk,hw⟩ (fun e=>by omega) (fun _=>by rw[mh hev];exact p6) (oth hfc) (fun _ _ _ _ _=>⟨rfl,fun _ _=>by unfold World.cell?;rw[hFd hfc]⟩) (fun z0' k1 _=>h.wg.ee k1 his (by rw[p1];rfl) ⟨fun e=>e.elim,fun e=>absurd e p2⟩ ⟨fun e=>e.elim,fun e=>absurd e p3⟩ (low hfc _ S.cf.1)) (fun k E s e=>by cases e) mem1 ?_ (h.cK (by rw[p4];rfl)) (b9 h.mu (hFd hfc)) (fun k q s e=>by cases e) (fun _ e=>e) (.inl (ic his (by rw[p1];exact Nat.le_refl _) ?_ (by rw[p4];rfl))) (fun q a3 e=>(hb q).elim (fun x=>x.trans e) (fun x=>by omega))
  ·exact h.tr.rm hn ⟨hi,his⟩ hb hown' hshr' mem1.us4 S.cf.2 hev mem1.ok.big hfc.size (bX (fun e=>e.elim)) (by rw[an];exact fun e=>e)
  ·rcases hp with ⟨m,e⟩ | ⟨s,e,_⟩
   ·rw[e];show _+8<_+10;omega
   ·rw[e];show _+8<_+9;omega
 ·obtain ⟨E',gl',wl',g',w',es,hst,hin',haft,hev,hfc⟩:=hin.step hG hC false hs
  have hok:=ok3 hfc
  obtain ⟨blk',mem1,hb,hown',hshr'⟩:=h.mem.call (z':=.ca k E' ⟨(gl',wl'),dY hin'.live⟩) S.cf.2 hi his hz1 (fun j _ _=>by rw[p5.1];exact Iff.rfl) ⟨fun e=>e.elim,fun e=>absurd e p5.2.1⟩ (fun j e=>by cases e;exact hki) (fun _ _ e=>e) (fun q e=>e) hfc hsh
  refine h.dw (z':=.ca k E' ⟨(gl',wl'),dY hin'.live⟩) (L':=L) (ow':=ow) (blk':=blk') (W':=W) (mm':=mm) (by omega) hg hst hok ⟨hk,cal,rest,hin',hcont⟩ (fun e=>by omega) (fun _=>by rw[mh hev];exact p6) (oth hfc) (fun _ _ _ _ _=>⟨rfl,fun _ _=>by unfold World.cell?;rw[hFd hfc]⟩) (fun z0' k1 _=>h.wg.ee k1 his (by rw[p1];rfl) ⟨fun e=>e.elim,fun e=>absurd e p2⟩ ⟨fun e=>e.elim,fun e=>absurd e p3⟩ (low hfc _ S.cf.1)) (fun k E s e=>by cases e;exact hshr') mem1 ?_ (h.cK (by rw[p4];rfl)) (b9 h.mu (hFd hfc)) (fun k q s e=>by cases e) (fun _ e=>e) ?_ (fun q a3 e=>(hb q).elim (fun x=>x.trans e) (fun x=>by omega))
  ·exact h.tr.rm hn ⟨hi,his⟩ hb hown' hshr' mem1.us4 S.cf.2 hev mem1.ok.big hfc.size (bX (fun e=>e.elim)) (by rw[an];exact fun e=>e)
  ·rcases hp with ⟨m,e⟩ | ⟨s,e,hse⟩
   ·exact .inl (ic his (by rw[e];exact Nat.le_refl _) (by rw[e];show _+9<_+10;omega) (by rw[e];rfl))
   ·exact .inr ⟨mN his (by rw[e];rfl) (by rw[e];rfl) (by rw[e];rfl),.inl (by rw[e];exact .call (by rw[hse];exact haft))⟩
theorem aD.calls (hG:P.globals.size≤Fns.G) (hC:bu P) (h:aD S b0 Sn gs w t z0 zs L ow blk W mm) (hn:dg c Sn) (hi:c.S0≤i) (hg:gs[i]? = some g) {k m:Nat} (hk:k<J) (hz:zs i=.pr k m) (hT:S.Cal k g):bp S b0 Sn gs w t z0 zs W mm i:=by
 obtain ⟨cal,rest,rfl,hcont⟩:=S.cal k g hT hk
 obtain ⟨E,wl,x,hE,hx,hw,hb,hc⟩:=S.job k hk w h.mem.ok
 have hin:bB P (fun v _=>v=F k) (cal :: rest) E (G (Frame.enter P c.fB x .normal) [ay P]) wl (G (Frame.enter P c.fB (c.ar k) .normal) (cal :: rest)) w:=bB.start hC S.fok hx hw hb hc
 exact h.rm hG hC hn hi hg hk hin hcont (fun q ⟨b,s,e⟩=>by have:=(hE b q s true e).1;cases this) (fun b q s e=>(hE b q s false e).2) (.inl ⟨m,hz⟩)
end
end Cs
end Go.Proofs.Ytpdemelchhkfaaa
