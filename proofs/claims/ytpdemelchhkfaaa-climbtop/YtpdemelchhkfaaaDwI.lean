import Derived.Test.YtpdemelchhkfaaaDwH
namespace Go.Proofs.Ytpdemelchhkfaaa
namespace Cs
open Go.Conc
open Go.ConcN (sumTo sumTo_congr)
open Go.ConcR (KK WgAt wgBlock stA smA rd wr mk)
open Go.ConcM (OsLater)
section
variable {x x':Mx} {W W':Wd} {m m':Nat}
theorem nM (o:Wd) (a s:Bool) (it:Nat):gy (.head o a s it)∧nZ (.head o a s it)=false:=by unfold Mx.head;split <;> exact ⟨trivial,rfl⟩
theorem Mv.next (h:Mv x W m x' W' m') (hx:gy x):gy x'∨x'=.la∨(x'=.no∧x=.ue):=by
 cases h <;> first | exact .inl trivial | exact .inl (nM _ _ _ _).1 | exact .inr (.inl rfl) | exact .inr (.inr ⟨rfl,rfl⟩) | exact hx.elim
theorem Mv.AX (h:Mv x W m x' W' m') (hx:gy x∨x=.la) (hn:x'≠.no):nZ x'=nZ x:=by
 cases h <;> first | rfl | exact (nM _ _ _ _).2 | exact absurd rfl hn | (rcases hx with hx | hx <;> first | exact hx.elim | cases hx)
theorem Mv.sem (h:Mv x W m x' W' m') (h1:x≠.us) (h2:x≠.ux) (hm:m=0):m'=0:=by
 cases h <;> first | exact hm | exact absurd rfl h1 | exact absurd rfl h2 | cases hm
theorem bC.still {c:Cst} {w w':World} (h:bC c w w' W' m'):Still c w w':=⟨fun q _ h2=>h.heap q h2,h.fd,h.size,h.os,h.output⟩
end
variable [Fns]
section
variable {P:Program} {c:Cst} {tW tX:TypeId} {J:Nat} {F:Nat→Value} {R:Nat→Array Value} {β:Type} {eB:β→Nat→Value} {up:β→Nat→β} {b0:β} {Sn:Nat→Prop} {S:ff P c tW tX J F R β eB up}
variable {gs gs':Array Goroutine} {w w':World} {t t':Trace} {z0 z0':Y0} {zs:Nat→YW P} {L L':List Nat} {ow ow':Option Nat} {blk blk':Nat→Option Nat} {W W':Wd} {mm mm' i:Nat} {g g':Goroutine} {z':YW P} {es:Array Event}
omit [Fns] in
theorem Still.ok3 (h:Still c w w') (ok:Ok3 c tW w) (hC:w'.heap[c.C2]? = w.heap[c.C2]?) (mu:muC c w' W' mm'):Ok3 c tW w' :=
 ⟨h.okT ok.ok,by obtain ⟨a,b,hk⟩:=ok.wg;exact ⟨a,b,by unfold WgAt at hk ⊢;rw[hC];exact hk⟩,⟨_,_,mu⟩⟩
theorem aD.szn (h:aD S b0 Sn gs w t z0 zs L ow blk W mm):gs.size≤c.S0+c.n:=by
 have h1:=h.sz
 obtain ⟨a,_,h2⟩:=h.a0
 have:bg c z0≤c.n:=by
  cases z0 with
  | al j m=>exact Nat.le_of_lt h2.1
  | st j q m=>exact Nat.le_of_lt h2.1
  | sp j q m=>exact Nat.le_of_lt h2.1
  | _=>exact Nat.le_refl _
 omega
theorem aD.boxes (h:aD S b0 Sn gs w t z0 zs L ow blk W mm) (hn:dg c Sn) (hi:c.S0≤i) (hg:gs[i]? = some g) {k m:Nat} (hz:zs i=.bx k m) (hk:k<J) (hT:S.Bxs k g):bp S b0 Sn gs w t z0 zs W mm i:=by
 have hs1:=S.s1
 have his:=bf hg
 have hcf:=S.cf
 have hd1:=S.d1
 obtain ⟨_,g',hst,hon⟩:=S.bxs k g hT hk
 have hst':=hst w h.ok3
 have hold:∀q,q<w.heap.size→(w.alloc (.cells (R k) tX (0,0))).heap[q]? = w.heap[q]?:=fun q hq=>by show (w.heap.push _)[q]? = _;rw[Array.getElem?_push,if_neg (by omega)]
 have hsz:(w.alloc (.cells (R k) tX (0,0))).heap.size=w.heap.size+1:=by simp
 have hbig:=h.mem.ok.big
 have hFd:=hold c.Fd (by omega)
 have hC2:=hold c.C2 (by omega)
 have mem0:=h.mem.box (m':=0) hcf.2 hi his hz rfl
 have hok:Ok3 c tW (w.alloc (.cells (R k) tX (0,0))):=⟨mem0.ok,by obtain ⟨a,b,hk⟩:=h.wg.live;exact ⟨a,b,by unfold WgAt at hk ⊢;rw[hC2];exact hk⟩,⟨_,_,b9 h.mu hFd⟩⟩
 obtain ⟨m',hw'⟩:=(hon w.heap.size).go hok
 have mem:=h.mem.box (m':=m') hcf.2 hi his hz rfl
 have hdz:Deaf t i=0:=by have:=h.dfW i hi his;rw[hz] at this;exact this
 refine h.dw (z':=.ml k w.heap.size .ld m') (by omega) hg hst' hok ⟨hk,.inl trivial,hw'⟩ (fun e=>by omega) (fun _=>by rw[hdz];rfl) (fun j q _ _ a3 _=>hold q a3) (fun _ _ _ _ _=>⟨rfl,fun _ _=>by unfold World.cell?;rw[hFd]⟩) (fun z0' k1 _=>h.wg.ee k1 his (by rw[hz];rfl) (by rw[hz];exact Iff.rfl) (by rw[hz];exact Iff.rfl) hC2) (fun k E s e=>by cases e) mem ?_ ?_ (b9 h.mu hFd) (fun k q s e=>by cases e) (fun _ e=>e) (.inl (Ds his (by rw[hz];exact Nat.le_refl _) (by rw[hz];show _+7<_+8;omega) (by rw[hz];rfl) rfl)) (fun q a3 e=>by show (if _ then _ else _)=_;rw[if_neg (by omega)];exact e)
 ·refine (h.tr.sX (blk':=fun q=>if q=w.heap.size then some i else blk q) (i:=i) fun q=>?_).reads hn (.inr ⟨hi,his⟩) (fun e he=>by simp at he) (by rw[hsz];omega) (by rw[hsz];omega) (bX (fun e=>e.elim)) (.inl rfl)
  by_cases e:q=w.heap.size
  ·exact .inr ⟨by omega,if_pos e⟩
  ·exact .inl (if_neg e)
 ·rw[lT]
  exact h.mi.step his (by rw[hz];rfl) .ent
theorem aD.ah (h:aD S b0 Sn gs w t z0 zs L ow blk W mm) (hn:dg c Sn) (hi:c.S0≤i) (hg:gs[i]? = some g) {k q m:Nat} (hz:zs i=.hd k q m) (hk:k<c.n) (hT:S.Hld k q g) (hc:w.heap[q]? = some (.cells #[S.H k] S.tH (0,0))):bp S b0 Sn gs w t z0 zs W mm i:=by
 have hs1:=S.s1
 have his:=bf hg
 have hcf:=S.cf
 obtain ⟨_,g',hst,hon⟩:=S.hld k q g hT hk
 obtain ⟨hqN,hqs,hqb⟩:=h.mem.us1 i q hi his (by rw[hz];rfl)
 have hdz:Deaf t i=0:=by have:=h.dfW i hi his;rw[hz] at this;exact this
 have hki:k=i-c.S0:=by
  have:=h.mem.nm i k hi his (by rw[hz];rfl)
  rwa [Nat.mod_eq_of_lt hk] at this
 have hev:∀z':YW P,¬told z'→Tr3 c Sn (aJ zs i z') gs.size ow blk w.heap.size (t++MemOp.ofEvents i g.frame.fn g.frame.place #[⟨.cell ⟨q,0,none⟩,false,false⟩]):=fun z' hz'=>by
  refine h.tr.own hn.lt (.inr ⟨hi,his⟩) (fun op hop=>?_) (Nat.le_refl _) (fun op hop b hb=>?_) (fun op hop=>?_) (bX (fun e=>absurd e hz')) (.inr (.inr (by rw[an];exact hz')))
  ·obtain ⟨e,he,rfl⟩:=Conc.mem_ofEvents hop
   simp at he
   subst he
   refine ⟨rfl,fun b hb=>?_⟩
   cases hb
   refine .inr ⟨fun e=>?_,.inl (by show (if q=c.Fd then _ else if q<c.N1 then _ else blk q)=_;rw[if_neg (by omega),if_neg (by omega)];exact hqb)⟩
   rcases e with e | e
   ·have:=(hn.lt _ e).1
    exact absurd this (Nat.not_lt.2 hqN)
   ·have e1:q=c.Fd:=e.1
    omega
  ·obtain ⟨e,he,rfl⟩:=Conc.mem_ofEvents hop
   simp at he
   subst he
   cases hb
   exact hqs
  ·obtain ⟨e,he,rfl⟩:=Conc.mem_ofEvents hop
   simp at he
   subst he
   exact fun e=>by cases e
 have hst0:=hst w hc
 have hmod:∀j,j<J→j % c.n=i-c.S0→¬j<k:=fun j _ h2 e=>by
  have:=Nat.mod_le j c.n
  omega
 by_cases hlt:k<J
 ·simp only[if_pos hlt] at hon
  obtain ⟨m2,hw2⟩:=hon.go h.ok3
  refine h.dw (z':=.pr k m2) (L':=L) (ow':=ow) (blk':=blk) (W':=W) (mm':=mm) (by omega) hg hst0 h.ok3 ⟨hlt,hw2⟩ (fun e=>by omega) (fun _=>by rw[hdz];rfl) (fun _ _ _ _ _ _=>rfl) (fun _ _ _ _ _=>⟨rfl,fun _ _=>rfl⟩) (fun z0' k1 _=>h.wg.ee k1 his (by rw[hz];rfl) (by rw[hz];exact Iff.rfl) (by rw[hz];exact Iff.rfl) rfl) (fun k E s e=>by cases e) ?_ (hev _ (fun e=>e)) (h.cK (by rw[hz];rfl)) h.mu (fun k q s e=>by cases e) (fun _ e=>e) (.inl (ic his (by rw[hz];exact Nat.le_refl _) (by rw[hz];show _+10<_+11;omega) (by rw[hz];rfl)))
  exact h.mem.one hcf (.refl _ _) hi (fun j _ _=>by rw[hz];exact Iff.rfl) (by rw[hz];exact Iff.rfl) (fun j e=>by cases e;rw[Nat.mod_eq_of_lt hk];exact hki) (fun j q e=>e.elim) (fun q e=>e.elim)
 ·simp only[if_neg hlt] at hon
  obtain ⟨m2,hw2⟩:=hon.go h.ok3
  refine h.dw (z':=.re m2) (L':=L) (ow':=ow) (blk':=blk) (W':=W) (mm':=mm) (by omega) hg hst0 h.ok3 hw2 (fun e=>by omega) (fun _=>by rw[hdz];rfl) (fun _ _ _ _ _ _=>rfl) (fun _ _ _ _ _=>⟨rfl,fun _ _=>rfl⟩) (fun z0' k1 _=>h.wg.ee k1 his (by rw[hz];rfl) (by rw[hz];exact Iff.rfl) (by rw[hz];exact Iff.rfl) rfl) (fun k E s e=>by cases e) ?_ (hev _ (fun e=>e)) (h.cK (by rw[hz];rfl)) h.mu (fun k q s e=>by cases e) (fun _ e=>e) (.inl (ic his (by rw[hz];exact Nat.le_refl _) (by rw[hz];show 6<_+11;omega) (by rw[hz];rfl)))
  refine h.mem.one hcf (.refl _ _) hi (fun j h1 h2=>?_) (by rw[hz];exact Iff.rfl) (fun j e=>by cases e) (fun j q e=>e.elim) (fun q e=>e.elim)
  rw[hz]
  exact ⟨fun _=>by have:=hmod j h1 h2;show j<k;have:=Nat.mod_le j c.n;omega,fun e=>absurd e (hmod j h1 h2)⟩
theorem aD.Dl (h:aD S b0 Sn gs w t z0 zs L ow blk W mm) (hn:dg c Sn) (hi:c.S0≤i) (hg:gs[i]? = some g) {k q m:Nat} {x:Mx} (hz:zs i=.ml k q x m) (hk:k<J) (hx:gy x) (hT:S.Mu k q x g):bp S b0 Sn gs w t z0 zs W mm i:=by
 have hs1:=S.s1
 have hn1:=S.n1
 have his:=bf hg
 have hcf:=S.cf
 have hd1:=S.d1
 have hszn:=h.szn
 have hxz:aV (zs i)=x:=by rw[hz];rfl
 have hlc:lcM x:=by have:=h.mi.lc i his;rwa [hxz] at this
 have hdz:Deaf t i=mM x:=by have:=h.dfW i hi his;rw[hz] at this;exact this
 obtain ⟨hq,hm1⟩:=h.mi.few
 by_cases hsl:∃s,x=.s1 s∧mm=0
 ·obtain ⟨s,rfl,hm0⟩:=hsl
  subst hm0
  obtain ⟨_,hb⟩:=S.slp k q s g hT
  have hst':=hb w W h.ok3 h.mu
  have hwk:br P g { g with status:=.blocked }=false:=by unfold br;simp
  refine h.dw (z':=.mb k q s) (L':=L) (ow':=ow) (blk':=blk) (W':=W) (mm':=0) (by omega) hg hst' h.ok3 ⟨hk,g,hT,rfl⟩ (fun e=>by omega) (fun _=>by rw[hdz];rfl) (fun _ _ _ _ _ _=>rfl) (fun _ _ _ _ _=>⟨rfl,fun _ _=>rfl⟩) (fun z0' k1 _=>h.wg.ee k1 his (by rw[hz];rfl) (by rw[hz];exact Iff.rfl) (by rw[hz];exact Iff.rfl) rfl) (fun k E s e=>by cases e) ?_ ?_ (h.cK (by rw[hz];rfl)) h.mu (fun _ _ _ _=>⟨hwk,rfl⟩) (fun _ _=>rfl) (.inr ⟨mN his (by rw[hz];rfl) (by rw[hz];rfl) (by rw[hz];rfl),?_⟩)
  ·exact h.mem.one hcf (.refl _ _) hi (fun k _ _=>by rw[hz];exact Iff.rfl) (by rw[hz];exact Iff.rfl) (fun j e=>h.mem.nm i j hi his (by rw[hz];exact e)) (fun j q e=>by rw[hz];exact e) (fun q e=>by rw[hz];exact e)
  ·exact h.tr.reads hn (.inr ⟨hi,his⟩) (fun e he=>by simp at he) h.mem.ok.big (Nat.le_refl _) (bX (fun e=>e.elim)) (.inl rfl)
  ·rw[hz]
   cases m with
   | zero=>exact .inr ⟨rfl,hwk,Nat.zero_lt_one⟩
   | succ m=>exact .inl (.walk (Nat.succ_pos _))
 ·have hsafe:xe x W:=⟨hlc,fun e1 e2=>h.mi.handed his (.inl (by show vM (aV (zs i))=1;rw[hxz];exact e1)) e2,fun e1 e2=>h.mi.DV his (by show vM (aV (zs i))=1;rw[hxz];exact e1) e2,fun e1=>by
   have e2:=h.mi.hand his (by show aM (aV (zs i))=1;rw[hxz];exact e1)
   exact ⟨e2,h.mi.handed his (.inr (by show aM (aV (zs i))=1;rw[hxz];exact e1)) e2⟩,fun e1=>h.mi.held his (by show dB (aV (zs i))=1;rw[hxz];exact e1),fun e1=>h.mi.tok his (by show jM (aV (zs i))=1;rw[hxz];exact e1)⟩
  obtain ⟨_,hk2⟩:=S.mst k q x g hT hk hx
  obtain ⟨x',W',m',g',w',es,hv,hst,hto,hev,hdf,hon,hex⟩:=hk2 w W mm h.ok3 h.mu hsafe h.mi.ok (by omega) hm1 (fun s e=>by
   rcases Nat.eq_zero_or_pos mm with e0 | e0
   ·exact absurd ⟨s,e,e0⟩ hsl
   ·omega)
  have hstl:=hto.still
  have hC2:=hto.heap c.C2 hd1.2.2.1
  have hok:Ok3 c tW w':=hstl.ok3 h.ok3 hC2 hto.mu
  have hwk:br P g g'=false→mm=0→m'=0:=fun e1 e2=>by
   have hru:g'.status=.running:=by
    by_cases e:x'=.no
    ·exact (hex e).1
    ·exact (hon e).1
   have hmw:mayWake P g=true→br P g g'=true:=fun e=>by unfold br;rw[e,hru];rfl
   refine hv.sem (fun e=>?_) (fun e=>?_) e2
   ·rw[hmw (S.wak k q x g hT (.inl e))] at e1;cases e1
   ·rw[hmw (S.wak k q x g hT (.inr e))] at e1;cases e1
  have hmi:∀z':YW P,aV z'=x'→MInv (fun j=>aV (aJ zs i z' j)) gs.size W' m':=fun z' e=>by
   rw[lT,e]
   exact h.mi.step his hxz hv
  have htr:∀z':YW P,¬told z'→Tr3 c Sn (aJ zs i z') gs.size ow blk w'.heap.size (t++MemOp.ofEvents i g.frame.fn g.frame.place es):=fun z' e=>by
   rw[hto.size]
   exact h.tr.CL hn ⟨hi,his⟩ hev hcf.2 h.mem.ok.big (bX (fun e2=>absurd e2 e)) (by rw[an];exact e)
  have hu:∀j q,j≠i→c.N1≤q→q<w.heap.size→blk q=some j→w'.heap[q]? = w.heap[q]?:=fun j q _ a3 _ _=>hto.heap q (by omega)
  have hB:∀j,c.S0≤j→j<gs.size→j≠i→gv (zs j)→L.foldl up b0=L.foldl up b0∧∀o,2≤o→w'.cell? ⟨c.Fd,o,none⟩=w.cell? ⟨c.Fd,o,none⟩:=fun _ _ _ _ _=>⟨rfl,fun o ho=>hstl.cell h.mem.ok ho⟩
  have hki:k % c.n=i-c.S0:=h.mem.nm i k hi his (by rw[hz];rfl)
  have hmv:Mv (aV (zs i)) W mm x' W' m':=by rw[hxz];exact hv
  have hlm:lcM (aV (zs i)):=by rw[hxz];exact hlc
  have hnn:aV (zs i)≠.no:=by rw[hxz];exact fun e=>by rw[e] at hx;exact hx
  by_cases hno:x'=.no
  ·subst hno
   have hue:x=.ue:=by
    rcases hv.next hx with e | e | e
    ·exact e.elim
    ·cases e
    ·exact e.2
   subst hue
   have hnx:=hex rfl
   have hold:∀j,j<J→j % c.n=i-c.S0→(j<k+1↔j<k+c.n):=fun j _ hj=>by
    constructor
    ·intro e;omega
    ·intro e
     refine Classical.byContradiction fun e2=>?_
     have h1:=Nat.div_add_mod j c.n
     have h2:=Nat.div_add_mod k c.n
     have h3:k / c.n<j / c.n:=by
      refine Classical.byContradiction fun e3=>?_
      have:=Nat.mul_le_mul_left c.n (Nat.le_of_not_lt e3)
      omega
     have h4:=Nat.mul_le_mul_left c.n (show k / c.n+1≤j / c.n from h3)
     rw[Nat.mul_add,Nat.mul_one] at h4
     omega
   by_cases hlt:k+c.n<J
   ·simp only[if_pos hlt] at hnx
    obtain ⟨m2,hw2⟩:=hnx.go hok
    refine h.dw (z':=.pr (k+c.n) m2) (L':=L) (ow':=ow) (blk':=blk) (W':=W') (mm':=m') (by omega) hg hst hok ⟨hlt,hw2⟩ (fun e=>by omega) (fun _=>by rw[hdz];exact hdf) hu hB (fun z0' k1 _=>h.wg.ee k1 his (by rw[hz];rfl) (by rw[hz];exact Iff.rfl) (by rw[hz];exact Iff.rfl) hC2) (fun k E s e=>by cases e) ?_ (htr _ (fun e=>e)) (hmi _ rfl) hto.mu (fun k q s e=>by cases e) hwk (.inl (qn his (by rw[hz];exact Nat.le_refl _) (by rw[hz];show 10*(J-(k+c.n))+10≤10*(J-k)+7;omega) hszn hmv hlm hnn))
    refine h.mem.one hcf hstl hi (fun j h1 h2=>?_) (by rw[hz];exact Iff.rfl) (fun j e=>?_) (fun j q e=>e.elim) (fun q e=>e.elim)
    ·rw[hz];exact (hold j h1 h2).symm
    ·cases e
     rw[Nat.add_mod_right]
     exact hki
   ·simp only[if_neg hlt] at hnx
    obtain ⟨m2,hw2⟩:=hnx.go hok
    refine h.dw (z':=.re m2) (L':=L) (ow':=ow) (blk':=blk) (W':=W') (mm':=m') (by omega) hg hst hok hw2 (fun e=>by omega) (fun _=>by rw[hdz];exact hdf) hu hB (fun z0' k1 _=>h.wg.ee k1 his (by rw[hz];rfl) (by rw[hz];exact Iff.rfl) (by rw[hz];exact Iff.rfl) hC2) (fun k E s e=>by cases e) ?_ (htr _ (fun e=>e)) (hmi _ rfl) hto.mu (fun k q s e=>by cases e) hwk (.inl (qn his (by rw[hz];exact Nat.le_refl _) (by rw[hz];show 6≤10*(J-k)+7;omega) hszn hmv hlm hnn))
    refine h.mem.one hcf hstl hi (fun j h1 h2=>?_) (by rw[hz];exact Iff.rfl) (fun j e=>by cases e) (fun j q e=>e.elim) (fun q e=>e.elim)
    rw[hz]
    exact ⟨fun _=>(hold j h1 h2).2 (by omega),fun _=>h1⟩
  ·obtain ⟨m2,hw2⟩:=(hon hno).go hok
   have hst2:gy x'∨x'=.la:=by
    rcases hv.next hx with e | e | e
    ·exact .inl e
    ·exact .inr e
    ·exact absurd e.1 hno
   refine h.dw (z':=.ml k q x' m2) (L':=L) (ow':=ow) (blk':=blk) (W':=W') (mm':=m') (by omega) hg hst hok ⟨hk,hst2,hw2⟩ (fun e=>by omega) (fun _=>by rw[hdz];exact hdf) hu hB (fun z0' k1 _=>h.wg.ee k1 his (by rw[hz];rfl) (by rw[hz];exact Iff.rfl) (by rw[hz];exact Iff.rfl) hC2) (fun k E s e=>by cases e) ?_ (htr _ (fun e=>e)) (hmi _ rfl) hto.mu (fun k q s e=>by cases e) hwk (.inl (qn his (by rw[hz];exact Nat.le_refl _) (by rw[hz];exact Nat.le_refl _) hszn hmv hlm hnn))
   refine h.mem.one hcf hstl hi (fun j h1 h2=>?_) (by rw[hz];exact Iff.rfl) (fun j e=>h.mem.nm i j hi his (by rw[hz];exact e)) (fun j q e=>by rw[hz];exact e) (fun q e=>by rw[hz];exact e)
   rw[hz]
   show j<(if nZ x'=true then k+1 else k)↔j<(if nZ x=true then k+1 else k)
   rw[hv.AX (.inl hx) hno]
theorem aD.alone (h:aD S b0 Sn gs w t z0 zs L ow blk W mm) (his:i<gs.size) (hx:dB (aV (zs i))=1) {j:Nat} (hj:j<gs.size) (hji:j≠i):¬gv (zs j):=fun e=>by
 refine hji (h.mi.one his hj hx ?_)
 show dB (aV (zs j))=1
 revert e
 cases zs j <;> intro e <;> first | rfl | exact e.elim
theorem aD.D8 (h:aD S b0 Sn gs w t z0 zs L ow blk W mm) (hi:c.S0≤i) (hg:gs[i]? = some g) {k q m:Nat} (hz:zs i=.ml k q .la m) (hk:k<J) (hT:S.Mu k q .la g):bp S b0 Sn gs w t z0 zs W mm i:=by
 have hs1:=S.s1
 have his:=bf hg
 have hxz:aV (zs i)=.la:=by rw[hz];rfl
 have hdz:Deaf t i=0:=by have:=h.dfW i hi his;rw[hz] at this;exact this
 have hal:=fun {j}=>h.alone his (by rw[hxz];rfl) (j:=j)
 have how:ow=none:=by
  cases e:ow with
  | none=>rfl
  | some j =>
   exfalso
   obtain ⟨k1,k2⟩:=h.mem.ow2 j e
   have k3:=(h.mem.ow1 j k1 k2).1 e
   by_cases e2:j=i
   ·subst e2;rw[hz] at k3;exact k3
   ·exact hal k2 e2 k3
 subst how
 obtain ⟨_,g',hst,hon⟩:=S.acm k q g hT hk
 obtain ⟨m',hw'⟩:=hon (L.foldl up b0) w h.ok3 (h.mem.bx i k q hi his (by rw[hz];exact ⟨rfl,rfl⟩)) (h.mem.bd rfl)
 refine h.dw (z':=.cr k q m') (L':=L) (ow':=some i) (blk':=blk) (W':=W) (mm':=mm) (by omega) hg (hst w h.ok3) h.ok3 ⟨hk,hw'⟩ (fun e=>by omega) (fun _=>by rw[hdz];rfl) (fun _ _ _ _ _ _=>rfl) (fun _ _ _ _ _=>⟨rfl,fun _ _=>rfl⟩) (fun z0' k1 _=>h.wg.ee k1 his (by rw[hz];rfl) (by rw[hz];exact Iff.rfl) (by rw[hz];exact Iff.rfl) rfl) (fun k E s e=>by cases e) (h.mem.lock hi his hz) ?_ ?_ h.mu (fun k q s e=>by cases e) (fun _ e=>e) (.inl (qn his (by rw[hz];exact Nat.le_refl _) (by rw[hz];exact Nat.le_refl _) h.szn (by rw[hxz];exact .la) (by rw[hxz];trivial) (by rw[hxz];exact fun e=>by cases e)))
 ·have he:MemOp.ofEvents i g.frame.fn g.frame.place #[ConcR.mk (.acquire (gZ c))]=#[{ g:=i,fn:=g.frame.fn,pos:=g.frame.place,act:=.mark (.acquire (gZ c)) }]:=by simp[MemOp.ofEvents,ConcR.mk,MemAct.ofEvent]
  rw[he]
  exact h.tr.lock ⟨hi,his⟩ ⟨rfl,rfl⟩ hdz (bX (fun e=>e.elim))
 ·rw[lT]
  exact h.mi.step his hxz .la
theorem aD.Cu (h:aD S b0 Sn gs w t z0 zs L ow blk W mm) (hn:dg c Sn) (hi:c.S0≤i) (hg:gs[i]? = some g) {k q m m':Nat} (hz:zs i=.cr k q m) (hk:k<J) (hm:m'<m) (hst:stepG P false g w=.go g' w' es) (hd:DB c q w w' es) (hw':fu P c tW tX R k q (eB (up (L.foldl up b0) k)) (S.Ur k q) m' g' w'):bp S b0 Sn gs w t z0 zs W mm i:=by
 have hs1:=S.s1
 have his:=bf hg
 have hcf:=S.cf
 have hd1:=S.d1
 have hxz:aV (zs i)=.cr:=by rw[hz];rfl
 have hdz:Deaf t i=0:=by have:=h.dfW i hi his;rw[hz] at this;exact this
 have how:ow=some i:=(h.mem.ow1 i hi his).2 (by rw[hz];trivial)
 obtain ⟨hqN,hqs,hqb⟩:=h.mem.us1 i q hi his (by rw[hz];rfl)
 have hstill:deafBehind (Deaf t i) es=Deaf t i:=deafBehind_still (fun e he=>by
  rcases hd.evs e he with ⟨a,rfl,_⟩ | ⟨o,wr,_,rfl⟩ | rfl
  ·exact ⟨(fun e=>by cases e),(fun e=>by cases e)⟩
  ·exact ⟨(fun e=>by cases e),(fun e=>by cases e)⟩
  ·exact ⟨(fun e=>by cases e),(fun e=>by cases e)⟩) _
 have hC2:=hd.heap c.C2 hd1.2.2.1
 obtain ⟨cs,hcs,hcz⟩:=h.mem.ok.fd
 obtain ⟨cs',hcs',hz1,hz2,hz3⟩:=hd.fd cs hcs
 have hmu:muC c w' W mm:=by
  have:=h.mu
  unfold muC at this ⊢
  rw[cell_of_row _ _ _ _ _ _ hcs',cell_of_row _ _ _ _ _ _ hcs',hz2,hz3]
  rwa [cell_of_row _ _ _ _ _ _ hcs,cell_of_row _ _ _ _ _ _ hcs] at this
 have mem:=h.mem.Ed (m':=m') hi his hz hcf.2 hd
 have hok:Ok3 c tW w':=⟨mem.ok,by obtain ⟨a,b,hk⟩:=h.wg.live;exact ⟨a,b,by unfold WgAt at hk ⊢;rw[hC2];exact hk⟩,⟨_,_,hmu⟩⟩
 refine h.dw (z':=.cr k q m') (L':=L) (ow':=ow) (blk':=blk) (W':=W) (mm':=mm) (by omega) hg hst hok ⟨hk,hw'⟩ (fun e=>by omega) (fun _=>by rw[hstill,hdz];rfl) (fun j b _ a2 _ _=>hd.heap b (by omega)) (fun j a1 a2 a3 a4=>absurd a4 (h.alone his (by rw[hxz];rfl) a2 a3)) (fun z0' k1 _=>h.wg.ee k1 his (by rw[hz];rfl) (by rw[hz];exact Iff.rfl) (by rw[hz];exact Iff.rfl) hC2) (fun k E s e=>by cases e) mem ?_ (h.cK (by rw[hz];rfl)) hmu (fun k q s e=>by cases e) (fun _ e=>e) (.inr ⟨mN his (by rw[hz];rfl) (by rw[hz];rfl) (by rw[hz];rfl),.inl (by rw[hz];exact .walk hm)⟩)
 rw[hd.size]
 have hbig:=h.mem.ok.big
 refine h.tr.own hn.lt (.inr ⟨hi,his⟩) (fun op hop=>?_) (Nat.le_refl _) (fun op hop b hb=>?_) (fun op hop=>?_) (bX (fun e=>e.elim)) (.inr (.inr (by rw[an];exact fun e=>e)))
 ·obtain ⟨e,he,rfl⟩:=Conc.mem_ofEvents hop
  refine ⟨rfl,fun b hb=>?_⟩
  rcases hd.evs e he with ⟨a,rfl,ha⟩ | ⟨o,wr,ho,rfl⟩ | rfl
  ·cases hb
   rcases ha with ha | ha
   ·refine .inr ⟨fun e=>?_,.inr ⟨by simp only[bV,if_neg ha.2.1,if_pos ha.1],fun e=>ha.2.1 e.1,rfl⟩⟩
    rcases e with e | e
    ·exact hn.fix _ e ha
    ·exact ha.2.1 e.1
   ·refine .inr ⟨fun e=>?_,.inl (by show (if a.block=c.Fd then _ else if a.block<c.N1 then _ else blk a.block)=_;rw[if_neg (by omega),if_neg (by omega),ha];exact hqb)⟩
    rcases e with e | e
    ·have:=(hn.lt _ e).1;omega
    ·omega
  ·have hb':b=⟨.cell ⟨c.Fd,o,none⟩,wr,.plain⟩:=by cases wr <;> cases hb <;> rfl
   subst hb'
   refine .inr ⟨fun e=>?_,.inl (by show (if _ then (if _ then _ else _) else _)=_;rw[if_pos rfl,if_pos ho];exact how)⟩
   rcases e with e | e
   ·exact (hn.lt _ e).2 rfl
   ·have:o<2:=e.2
    omega
  ·cases hb
   exact .inl ⟨.inr ⟨rfl,Nat.zero_lt_two⟩,(fun e=>by cases e),(fun e=>by cases e)⟩
 ·obtain ⟨e,he,rfl⟩:=Conc.mem_ofEvents hop
  rcases hd.evs e he with ⟨a,rfl,ha⟩ | ⟨o,wr,ho,rfl⟩ | rfl
  ·cases hb
   show a.block<_
   rcases ha with ha | ha
   ·have:=ha.1;omega
   ·omega
  ·have hb':b=⟨.cell ⟨c.Fd,o,none⟩,wr,.plain⟩:=by cases wr <;> cases hb <;> rfl
   subst hb'
   show c.Fd<_
   omega
  ·cases hb
   show c.Fd<_
   omega
 ·obtain ⟨e,he,rfl⟩:=Conc.mem_ofEvents hop
  rcases hd.evs e he with ⟨a,rfl,ha⟩ | ⟨o,wr,ho,rfl⟩ | rfl
  ·exact fun e=>by cases e
  ·cases wr <;> exact fun e=>by cases e
  ·exact fun e=>by cases e
theorem aD.Dk (h:aD S b0 Sn gs w t z0 zs L ow blk W mm) (hi:c.S0≤i) (hg:gs[i]? = some g) {k q m:Nat} (hz:zs i=.cr k q m) (hk:k<J) (hb:bdC c w (eB (up (L.foldl up b0) k))) (hT:S.Ur k q g):bp S b0 Sn gs w t z0 zs W mm i:=by
 have hs1:=S.s1
 have his:=bf hg
 have hxz:aV (zs i)=.cr:=by rw[hz];rfl
 have hdz:Deaf t i=0:=by have:=h.dfW i hi his;rw[hz] at this;exact this
 have how:ow=some i:=(h.mem.ow1 i hi his).2 (by rw[hz];trivial)
 subst how
 obtain ⟨_,g',hst,hon⟩:=S.rlm k q g hT
 obtain ⟨m',hw'⟩:=hon.go h.ok3
 refine h.dw (z':=.ml k q .ud m') (L':=L++[k]) (ow':=none) (blk':=blk) (W':=W) (mm':=mm) (by omega) hg (hst w h.ok3) h.ok3 ⟨hk,.inl trivial,hw'⟩ (fun e=>by omega) (fun _=>by rw[hdz];rfl) (fun _ _ _ _ _ _=>rfl) (fun j a1 a2 a3 a4=>absurd a4 (h.alone his (by rw[hxz];rfl) a2 a3)) (fun z0' k1 _=>h.wg.ee k1 his (by rw[hz];rfl) (by rw[hz];exact Iff.rfl) (by rw[hz];exact Iff.rfl) rfl) (fun k E s e=>by cases e) (h.mem.unlock hk hi his hz hb) ?_ ?_ h.mu (fun k q s e=>by cases e) (fun _ e=>e) (.inl (qn his (by rw[hz];exact Nat.le_refl _) (by rw[hz];exact Nat.le_refl _) h.szn (by rw[hxz];exact .cr) (by rw[hxz];trivial) (by rw[hxz];exact fun e=>by cases e)))
 ·have he:MemOp.ofEvents i g.frame.fn g.frame.place #[ConcR.mk (.releaseMerge (gZ c))]=#[{ g:=i,fn:=g.frame.fn,pos:=g.frame.place,act:=.mark (.releaseMerge (gZ c)) }]:=by simp[MemOp.ofEvents,ConcR.mk,MemAct.ofEvent]
  rw[he]
  exact h.tr.unlock ⟨rfl,rfl⟩ hdz (bX (fun e=>e.elim))
 ·rw[lT]
  exact h.mi.step his hxz .cr
end
end Cs
end Go.Proofs.Ytpdemelchhkfaaa
