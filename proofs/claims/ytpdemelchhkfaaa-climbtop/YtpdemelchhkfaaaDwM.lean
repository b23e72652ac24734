import Derived.Test.YtpdemelchhkfaaaDwL
namespace Go.Proofs.Ytpdemelchhkfaaa
namespace Cs
open Go.Conc
open Go.ConcN (sumTo sumTo_congr)
open Go.ConcR (KK WgAt wgBlock stA smA rd wr)
theorem mB {P:Program} {m1 m2:Machine} {t1:Trace} {ops:Array MemOp}:∀{N:Nat} {m:Machine} {t:Trace},runNT P N m t=(.next m1,t1)→stepT P m1=(.next m2,ops)→runNT P (N+1) m t=(.next m2,t1++ops)
 | 0,m,t,h,hs=>by
  cases h
  simp only[runNT,hs]
 | N+1,m,t,h,hs=>by
  unfold runNT at h ⊢
  split at h
  ·rename_i m' o e
   exact mB h hs
  ·rename_i e o hne e'
   cases h
   exact (hne m1 rfl).elim
variable [Fns]
section
variable {P:Program} {c:Cst} {tW tX:TypeId} {J:Nat} {F:Nat→Value} {R:Nat→Array Value} {β:Type} {eB:β→Nat→Value} {up:β→Nat→β} {b0:β} {Sn:Nat→Prop} {S:ff P c tW tX J F R β eB up}
variable {gs gs':Array Goroutine} {w w':World} {t t':Trace} {z0 z0':Y0} {zs:Nat→YW P} {L L':List Nat} {ow ow':Option Nat} {blk blk':Nat→Option Nat} {W W':Wd} {mm mm' i:Nat} {g g':Goroutine} {z':YW P} {es:Array Event}
variable {q:Nat→Nat}
theorem aD.DW (h:aD S b0 Sn gs w t z0 zs L ow blk W mm) (d:Nat):aD S b0 Sn gs (w.at d) t z0 zs L ow blk W mm:=by
 have ok:Ok3 c tW (w.at d):=⟨⟨h.mem.ok.fix,h.mem.ok.fd,h.mem.ok.big,h.mem.ok.os,h.mem.ok.out⟩,h.wg.live,⟨_,_,h.mu⟩⟩
 obtain ⟨g,h1,h2⟩:=h.a0
 exact ⟨h.sz,⟨g,h1,h2.keep ok fun _ _=>rfl⟩,fun j g h1 h2=>(h.wk j g h1 h2).keep ok (fun _ _=>rfl) (fun _ _ _ _ _ _ _ _=>rfl) (fun _=>⟨rfl,fun _ _=>rfl⟩) (h.hX (bf h2)),h.old,h.df0,h.dfW,h.dfA,h.wg.keep rfl,h.shr,h.mem.still S.cf ⟨fun _ _ _=>rfl,fun cs e=>⟨cs,e,rfl,fun _ _=>rfl⟩,rfl,.refl _,rfl⟩,h.tr,h.mi,h.mu,h.bl,h.hb⟩
theorem aD.alive (h:aD S b0 Sn gs w t z0 zs L ow blk W mm):∃(i:Nat) (g:Goroutine),gs[i]? = some g∧g.status=.running:=by
 obtain ⟨a,hg0,st0⟩:=h.a0
 have hs1:=S.s1
 refine Classical.byContradiction fun hno=>?_
 have hnr:∀(i:Nat) (g:Goroutine),gs[i]? = some g→g.status≠.running:=fun i g h1 h2=>hno ⟨i,g,h1,h2⟩
 have hz0:z0=.w3b:=by
  rcases st0.status h.ok3 with hr | ⟨e,_⟩
  ·exact absurd hr (hnr 0 a hg0)
  ·exact e
 subst hz0
 have hst:∀i,(hi:i<gs.size)→(∃q,zs i=.lv q)∨∃k q s,zs i=.mb k q s:=fun i hi=>by
  rcases Nat.lt_or_ge i c.S0 with h4 | h4
  ·exact .inl (h.old i h4)
  ·rcases (h.wk i _ (by omega) (Array.getElem?_eq_getElem hi)).status h.ok3 (h.hX hi) with h3 | ⟨_,q,h3⟩ | ⟨k,q,s,_,h3,_⟩
   ·exact absurd h3 (hnr i _ (Array.getElem?_eq_getElem hi))
   ·exact .inl ⟨q,h3⟩
   ·exact .inr ⟨k,q,s,h3⟩
 cases hwg:h.wg with
 | pst _ _ hp _=>exact hp.elim
 | rls _ _ _ hb _=>exact absurd rfl hb
 | cls j hj hs hc _ _ _ _ =>
  rcases hst j hs with ⟨q,e⟩ | ⟨k,q,s,e⟩
  ·rw[e] at hc;exact hc
  ·rw[e] at hc;exact hc
 | run hnc hps hr hw0 =>
  have hp:=hr.1 rfl
  have hsum:0<sumTo gs.size (fun i=>cG c i (zs i)):=by
   have e:lft c .w3b zs gs.size=(c.n-c.n)+sumTo gs.size (fun i=>cG c i (zs i)):=rfl
   omega
  have hex:∃i,i<gs.size∧cG c i (zs i)≠0:=by
   apply Classical.byContradiction
   intro hno
   have:∀n,n≤gs.size→sumTo n (fun i=>cG c i (zs i))=0:=fun n=>by
    induction n with
    | zero=>intro _;rfl
    | succ n ih =>
     intro hn
     show sumTo n _+cG c n (zs n)=0
     have e:cG c n (zs n)=0:=Classical.byContradiction fun e=>hno ⟨n,by omega,e⟩
     rw[ih (by omega),e]
   have:=this _ (Nat.le_refl _)
   omega
  obtain ⟨i,hi,hb⟩:=hex
  have hS:c.S0≤i:=by
   apply Classical.byContradiction
   intro e
   exact hb (by unfold cG;rw[if_pos (by omega)])
  rcases hst i hi with ⟨q,e⟩ | ⟨k,q,s,e⟩
  ·rw[e] at hb
   exact hb (by unfold cG;split <;> rfl)
  ·refine h.mi.free (h.bl i k q s hS hi e) hi (s:=s) (by rw[e];rfl) fun j hj=>?_
   rcases hst j hj with ⟨q,e⟩ | ⟨k,q,s,e⟩
   ·exact .inl (by rw[e];rfl)
   ·exact .inr ⟨s,by rw[e];rfl⟩
theorem aD.A0 (hG:P.globals.size≤Fns.G) (hC:bu P) (h:aD S b0 Sn gs w t z0 zs L ow blk W mm) (hn:dg c Sn) (hi:1≤i) (hg:gs[i]? = some g) (hr:g.status=.running):bp S b0 Sn gs w t z0 zs W mm i:=by
 have his:=bf hg
 have hln:=h.zB
 have hn1:=S.n1
 rcases Nat.lt_or_ge i c.S0 with hlo | hS
 ·obtain ⟨q,hq⟩:=h.old i hlo
  exact h.leaves hi hg hr hq
 ·have st0:=h.wk i g hi hg
  have hdf:=h.dfW i hS his
  cases hz:zs i with
  | lv q=>exact h.leaves hi hg hr hz
  | hd k q m =>
   rw[hz] at st0 hdf
   rcases st0.2.1.cases with hs | ⟨m',rfl,hs⟩
   ·exact h.ah hn hS hg hz st0.1 (hs w h.ok3).2 st0.2.2
   ·obtain ⟨g',w',es,h1,⟨h2,h2'⟩,h3⟩:=hs w h.ok3
    exact h.iT (z':=.hd k q m') hn hS hg h1 h2 ⟨st0.1,h3,by rw[h2.heap];exact st0.2.2⟩ (by rw[hz];rfl) (by rw[hz];exact Iff.rfl) (by rw[hz];exact Iff.rfl) (by rw[hz];rfl) (by rw[hz];rfl) (fun e=>e.elim) (.inl h2') hdf (by rw[hz];rfl) (by rw[hz];exact Iff.rfl) (by rw[hz];rfl) (by rw[hz];rfl) (by rw[hz];rfl) (fun _ _ _ e=>by cases e) (fun _ _ _ e=>by cases e) (by rw[hz];exact .walk (Nat.lt_succ_self _))
  | pr k m =>
   rw[hz] at st0 hdf
   rcases st0.2.cases with hs | ⟨m',rfl,hs⟩
   ·exact h.calls hG hC hn hS hg st0.1 hz (hs w h.ok3).2
   ·obtain ⟨g',w',es,h1,h2,h3⟩:=hs w h.ok3
    exact h.iT (z':=.pr k m') hn hS hg h1 h2 ⟨st0.1,h3⟩ (by rw[hz];rfl) (by rw[hz];exact Iff.rfl) (by rw[hz];exact Iff.rfl) (by rw[hz];rfl) (by rw[hz];rfl) (fun e=>e.elim) (.inr fun e=>e) hdf (by rw[hz];rfl) (by rw[hz];exact Iff.rfl) (by rw[hz];rfl) (by rw[hz];rfl) (by rw[hz];rfl) (fun _ _ _ e=>by cases e) (fun _ _ _ e=>by cases e) (by rw[hz];exact .walk (Nat.lt_succ_self _))
  | ca k E s =>
   rw[hz] at st0
   obtain ⟨hk,cal,rest,hin,hcont⟩:=st0
   exact h.rm hG hC hn hS hg hk hin hcont (fun q e=>by rw[hz];exact e) (h.shr i k E s hS his hz) (.inr ⟨s,hz,rfl⟩)
  | bx k m =>
   rw[hz] at st0 hdf
   rcases st0.2.cases with hs | ⟨m',rfl,hs⟩
   ·exact h.boxes hn hS hg hz st0.1 (hs w h.ok3).2
   ·obtain ⟨g',w',es,h1,h2,h3⟩:=hs w h.ok3
    exact h.iT (z':=.bx k m') hn hS hg h1 h2 ⟨st0.1,h3⟩ (by rw[hz];rfl) (by rw[hz];exact Iff.rfl) (by rw[hz];exact Iff.rfl) (by rw[hz];rfl) (by rw[hz];rfl) (fun e=>e.elim) (.inr fun e=>e) hdf (by rw[hz];rfl) (by rw[hz];exact Iff.rfl) (by rw[hz];rfl) (by rw[hz];rfl) (by rw[hz];rfl) (fun _ _ _ e=>by cases e) (fun _ _ _ e=>by cases e) (by rw[hz];exact .walk (Nat.lt_succ_self _))
  | ml k q x m =>
   rw[hz] at st0 hdf
   rcases st0.2.2.cases with hs | ⟨m',rfl,hs⟩
   ·have hT:=(hs w h.ok3).2
    rcases st0.2.1 with hx | hx
    ·exact h.Dl hn hS hg hz st0.1 hx hT
    ·subst hx
     exact h.D8 hS hg hz st0.1 hT
   ·obtain ⟨g',w',es,h1,⟨h2,h2'⟩,h3⟩:=hs w h.ok3
    exact h.iT (z':=.ml k q x m') hn hS hg h1 h2 ⟨st0.1,st0.2.1,h3⟩ (by rw[hz];rfl) (by rw[hz];exact Iff.rfl) (by rw[hz];exact Iff.rfl) (by rw[hz];rfl) (by rw[hz];rfl) (fun e=>e.elim) (.inl h2') hdf (by rw[hz];rfl) (by rw[hz];exact Iff.rfl) (by rw[hz];rfl) (by rw[hz];rfl) (by rw[hz];rfl) (fun _ _ _ e=>by cases e) (fun _ _ _ e=>by cases e) (by rw[hz];exact .walk (Nat.lt_succ_self _))
  | mb k q s =>
   rw[hz] at st0
   obtain ⟨_,g',_,h2⟩:=st0
   rw[h2] at hr
   cases hr
  | cr k q m =>
   rw[hz] at st0 hdf
   have hrb:RB c tW tX R k q w w:=⟨h.ok3,h.mem.bx i k q hS his (by rw[hz];exact ⟨rfl,rfl⟩),fun _ _=>rfl⟩
   rcases st0.2.cases with hs | ⟨m',rfl,hs⟩
   ·obtain ⟨_,h2,h3⟩:=hs w hrb
    exact h.Dk hS hg hz st0.1 h2 h3
   ·obtain ⟨g',w',es,h1,h2,h3⟩:=hs w hrb
    exact h.Cu hn hS hg hz st0.1 (Nat.lt_succ_self _) h1 h2 h3
  | re m =>
   rw[hz] at st0 hdf
   have st1:WalkA P c tW false S.Rel m g w:=st0
   rcases st1.cases with hs | ⟨m',rfl,hs⟩
   ·exact h.C8 hS hg hz (hs w h.ok3).2
   ·obtain ⟨g',w',es,h1,h2,h3⟩:=hs w h.ok3
    exact h.iT (z':=.re m') hn hS hg h1 h2 h3 (by rw[hz];rfl) (by rw[hz];exact Iff.rfl) (by rw[hz];exact Iff.rfl) (by rw[hz];rfl) (by rw[hz];rfl) (fun e=>e.elim) (.inr fun e=>e) hdf (by rw[hz];rfl) (by rw[hz];exact Iff.rfl) (by rw[hz];rfl) (by rw[hz];rfl) (by rw[hz];rfl) (fun _ _ _ e=>by cases e) (fun _ _ _ e=>by cases e) (by rw[hz];exact .walk (Nat.lt_succ_self _))
  | di m =>
   rw[hz] at st0 hdf
   have st1:cu P c tW S.Dis m g w:=st0
   rcases st1.cases with hs | ⟨m',rfl,hs⟩
   ·exact h.Cb hn hS hg hz (hs w h.ok3).2
   ·obtain ⟨g',w',es,h1,⟨h2,h2'⟩,h3⟩:=hs w h.ok3
    exact h.iT (z':=.di m') hn hS hg h1 h2 h3 (by rw[hz];rfl) (by rw[hz];exact Iff.rfl) (by rw[hz];exact Iff.rfl) (by rw[hz];rfl) (by rw[hz];rfl) (fun _=>by rw[hz];trivial) (.inl h2') hdf (by rw[hz];rfl) (by rw[hz];exact Iff.rfl) (by rw[hz];rfl) (by rw[hz];rfl) (by rw[hz];rfl) (fun _ _ _ e=>by cases e) (fun _ _ _ e=>by cases e) (by rw[hz];exact .walk (Nat.lt_succ_self _))
  | de m =>
   rw[hz] at st0 hdf
   have st1:cu P c tW S.Dec m g w:=st0
   rcases st1.cases with hs | ⟨m',rfl,hs⟩
   ·exact h.counts hn hS hg hz (hs w h.ok3).2 (by omega)
   ·obtain ⟨g',w',es,h1,⟨h2,h2'⟩,h3⟩:=hs w h.ok3
    exact h.iT (z':=.de m') hn hS hg h1 h2 h3 (by rw[hz];rfl) (by rw[hz];exact Iff.rfl) (by rw[hz];exact Iff.rfl) (by rw[hz];rfl) (by rw[hz];rfl) (fun _=>by rw[hz];trivial) (.inl h2') hdf (by rw[hz];rfl) (by rw[hz];exact Iff.rfl) (by rw[hz];rfl) (by rw[hz];rfl) (by rw[hz];rfl) (fun _ _ _ e=>by cases e) (fun _ _ _ e=>by cases e) (by rw[hz];exact .walk (Nat.lt_succ_self _))
  | lo m =>
   rw[hz] at st0 hdf
   have st1:cu P c tW S.Lod m g w:=st0
   rcases st1.cases with hs | ⟨m',rfl,hs⟩
   ·exact h.looks hn hS hg hz (hs w h.ok3).2
   ·obtain ⟨g',w',es,h1,⟨h2,h2'⟩,h3⟩:=hs w h.ok3
    exact h.iT (z':=.lo m') hn hS hg h1 h2 h3 (by rw[hz];rfl) (by rw[hz];exact Iff.rfl) (by rw[hz];exact Iff.rfl) (by rw[hz];rfl) (by rw[hz];rfl) (fun _=>by rw[hz];trivial) (.inl h2') hdf (by rw[hz];rfl) (by rw[hz];exact Iff.rfl) (by rw[hz];rfl) (by rw[hz];rfl) (by rw[hz];rfl) (fun _ _ _ e=>by cases e) (fun _ _ _ e=>by cases e) (by rw[hz];exact .walk (Nat.lt_succ_self _))
  | ze m =>
   rw[hz] at st0 hdf
   have st1:cu P c tW S.Zer m g w:=st0
   rcases st1.cases with hs | ⟨m',rfl,hs⟩
   ·exact h.clears hn hS hg hz (hs w h.ok3).2
   ·obtain ⟨g',w',es,h1,⟨h2,h2'⟩,h3⟩:=hs w h.ok3
    exact h.iT (z':=.ze m') hn hS hg h1 h2 h3 (by rw[hz];rfl) (by rw[hz];exact Iff.rfl) (by rw[hz];exact Iff.rfl) (by rw[hz];rfl) (by rw[hz];rfl) (fun _=>by rw[hz];trivial) (.inl h2') hdf (by rw[hz];rfl) (by rw[hz];exact Iff.rfl) (by rw[hz];rfl) (by rw[hz];rfl) (by rw[hz];rfl) (fun _ _ _ e=>by cases e) (fun _ _ _ e=>by cases e) (by rw[hz];exact .walk (Nat.lt_succ_self _))
  | se m =>
   rw[hz] at st0 hdf
   have st1:cu P c tW S.Sem m g w:=st0
   rcases st1.cases with hs | ⟨m',rfl,hs⟩
   ·exact h.CH hn hS hg hz (hs w h.ok3).2
   ·obtain ⟨g',w',es,h1,⟨h2,h2'⟩,h3⟩:=hs w h.ok3
    exact h.iT (z':=.se m') hn hS hg h1 h2 h3 (by rw[hz];rfl) (by rw[hz];exact Iff.rfl) (by rw[hz];exact Iff.rfl) (by rw[hz];rfl) (by rw[hz];rfl) (fun _=>by rw[hz];trivial) (.inl h2') hdf (by rw[hz];rfl) (by rw[hz];exact Iff.rfl) (by rw[hz];rfl) (by rw[hz];rfl) (by rw[hz];rfl) (fun _ _ _ e=>by cases e) (fun _ _ _ e=>by cases e) (by rw[hz];exact .walk (Nat.lt_succ_self _))
theorem aD.BA (h:aD S b0 Sn gs w t z0 zs L ow blk W mm) (hn:dg c Sn) (hg:gs[0]? = some g) (hr:g.status=.running):bp S b0 Sn gs w t z0 zs W mm 0∨(S.Acq g∧∃m,z0=.ac m):=by
 obtain ⟨a,hg0,st0⟩:=h.a0
 rw[hg] at hg0
 cases hg0
 cases z0 with
 | jn m=>exact st0.elim
 | w3b =>
  obtain ⟨g',_,rfl⟩:=st0
  cases hr
 | al j m =>
  rcases st0.2.cases with hs | ⟨m',rfl,hs⟩
  ·exact .inl (h.Eb hn hg rfl (hs w h.ok3).2)
  ·obtain ⟨g',w',es,h1,h2,h3⟩:=hs w h.ok3
   exact .inl (h.eR hn hg (.al j m') h1 h2 h3)
 | st j q m =>
  rcases st0.2.1.cases with hs | ⟨m',rfl,hs⟩
  ·exact .inl (h.DN hn hg rfl (hs w h.ok3).2)
  ·obtain ⟨g',w',es,h1,h2,h3⟩:=hs w h.ok3
   exact .inl (h.eR hn hg (.st j q m') h1 h2 h3)
 | sp j q m =>
  rcases st0.2.1.cases with hs | ⟨m',rfl,hs⟩
  ·exact .inl (h.spawns hg rfl (hs w h.ok3).2)
  ·obtain ⟨g',w',es,h1,h2,h3⟩:=hs w h.ok3
   exact .inl (h.eR hn hg (.sp j q m') h1 h2 h3)
 | wd m =>
  have st1:WalkA P c tW true S.WtD m g w:=st0
  rcases st1.cases with hs | ⟨m',rfl,hs⟩
  ·exact .inl (h.waits hn hg rfl (hs w h.ok3).2)
  ·obtain ⟨g',w',es,h1,h2,h3⟩:=hs w h.ok3
   exact .inl (h.eR hn hg (.wd m') h1 h2 h3)
 | w1 m =>
  have st1:WalkA P c tW true S.W1 m g w:=st0
  rcases st1.cases with hs | ⟨m',rfl,hs⟩
  ·exact .inl (h.BN hn hg rfl (hs w h.ok3).2)
  ·obtain ⟨g',w',es,h1,h2,h3⟩:=hs w h.ok3
   exact .inl (h.eR hn hg (.w1 m') h1 h2 h3)
 | w2 v m =>
  rcases st0.2.2.cases with hs | ⟨m',rfl,hs⟩
  ·exact .inl (h.DH hn hg rfl (hs w h.ok3).2)
  ·obtain ⟨g',w',es,h1,h2,h3⟩:=hs w h.ok3
   exact .inl (h.eR hn hg (.w2 v m') h1 h2 h3)
 | sa m =>
  have st1:WalkA P c tW true S.Sai m g w:=st0
  rcases st1.cases with hs | ⟨m',rfl,hs⟩
  ·exact .inl (h.D1 hn hg rfl (hs w h.ok3).2)
  ·obtain ⟨g',w',es,h1,h2,h3⟩:=hs w h.ok3
   exact .inl (h.eR hn hg (.sa m') h1 h2 h3)
 | w3 m =>
  have st1:WalkA P c tW true S.W3 m g w:=st0
  rcases st1.cases with hs | ⟨m',rfl,hs⟩
  ·exact .inl (h.BW hn hg rfl (hs w h.ok3).2)
  ·obtain ⟨g',w',es,h1,h2,h3⟩:=hs w h.ok3
   exact .inl (h.eR hn hg (.w3 m') h1 h2 h3)
 | w4 m =>
  have st1:WalkA P c tW true S.W4 m g w:=st0
  rcases st1.cases with hs | ⟨m',rfl,hs⟩
  ·exact .inl (h.AY hn hg rfl (hs w h.ok3).2)
  ·obtain ⟨g',w',es,h1,h2,h3⟩:=hs w h.ok3
   exact .inl (h.eR hn hg (.w4 m') h1 h2 h3)
 | ke m =>
  have st1:WalkA P c tW true S.Ke m g w:=st0
  rcases st1.cases with hs | ⟨m',rfl,hs⟩
  ·exact .inl (h.hears hn hg rfl (hs w h.ok3).2)
  ·obtain ⟨g',w',es,h1,h2,h3⟩:=hs w h.ok3
   exact .inl (h.eR hn hg (.ke m') h1 h2 h3)
 | ac m =>
  have st1:WalkA P c tW true S.Acq m g w:=st0
  rcases st1.cases with hs | ⟨m',rfl,hs⟩
  ·exact .inr ⟨(hs w h.ok3).2,m,rfl⟩
  ·obtain ⟨g',w',es,h1,h2,h3⟩:=hs w h.ok3
   exact .inl (h.eR hn hg (.ac m') h1 h2 h3)
def sL (S:ff P c tW tX J F R β eB up) (b0:β) (Sn:Nat→Prop) (m:Machine) (t:Trace):Prop :=
 ∃gs w sl q g,m=crowd gs w sl∧gs.size=c.S0+c.n∧gs[0]? = some g∧OnA P c tW true S.JnP g∧Qs P Sn gs t q 0 w.heap.size∧Ok3 c tW w∧WgAt tW c.C2 w 0 0∧bdC c w (eB ((List.range J).foldl up b0))
omit [Fns] in
theorem vt (hc:∀b j k,j≠k→up (up b j) k=up (up b k) j) (hn:L.Nodup) (hl:∀k,k ∈ L↔k<J):L.foldl up b0=(List.range J).foldl up b0:=by
 have hp:List.Perm L (List.range J):=(List.perm_ext_iff_of_nodup hn List.nodup_range).2 fun k=>by rw[hl,List.mem_range]
 exact hp.foldl_eq' (fun x _ y _ z=>by
  by_cases e:x=y
  ·rw[e]
  ·exact hc z x y e) b0
theorem aD.ends (h:aD S b0 Sn gs w t z0 zs L ow blk W mm) (hg:gs[0]? = some g) {m:Nat} (hz:z0=.ac m) (hT:S.Acq g) (sl:Option (Nat × Nat)):∃m' ops,runT P (crowd gs w sl) 0=(.next m',ops)∧sL S b0 Sn m' (t++ops):=by
 subst hz
 have hs1:=S.s1
 have hn1:=S.n1
 obtain ⟨_,g',hst,hon⟩:=S.acq g hT
 have hr:=runT_crowd_go (P:=P) (sl:=sl) (i:=0) hg (show stepG P (0==0) g w=_ from hst w h.ok3)
 have hsz:gs.size=c.S0+c.n:=h.sz
 have hend:k9 c zs gs.size∧lft c (.ac m) zs gs.size=0∧WgAt tW c.C2 w 0 0:=by
  cases hwg:h.wg with
  | run _ hp _ _=>exact absurd trivial hp
  | cls j _ _ _ _ hr _ _=>cases hr
  | rls _ _ hr _ _=>cases hr
  | pst hnc hl _ hw0=>exact ⟨hnc,hl,hw0⟩
 obtain ⟨hnc,hl,hw0⟩:=hend
 have hall:∀i,c.S0≤i→i<gs.size→∃q,zs i=.lv q:=fun i h1 h2=>BK hnc hl h1 h2
 have hlv:∀i,i<gs.size→∃q,zs i=.lv q:=fun i h2=>by
  rcases Nat.lt_or_ge i c.S0 with h3 | h3
  ·exact h.old i h3
  ·exact hall i h3 h2
 have hq:(gs.map (woken P g g' w)).setIfInBounds 0 g'=gs.setIfInBounds 0 g':=gB fun j x hj hx=>by
  rcases (h.wk j x (by omega) hx).status h.ok3 (h.hX (bf hx)) with h3 | ⟨h3,_⟩ | ⟨k,q,s,_,h3,_⟩
  ·exact woken_running h3
  ·unfold woken
   split
   ·unfold Goroutine.again
    rw[h3]
   ·rfl
  ·obtain ⟨q',e⟩:=hlv j (bf hx)
   rw[e] at h3;cases h3
 rw[hq] at hr
 have he:MemOp.ofEvents 0 g.frame.fn g.frame.place #[Go.ConcR.mk (.acquire (stA c.C2))]=#[{ g:=0,fn:=g.frame.fn,pos:=g.frame.place,act:=.mark (.acquire (stA c.C2)) }]:=by simp[MemOp.ofEvents,Go.ConcR.mk,MemAct.ofEvent]
 obtain ⟨tr,kn⟩:=h.tr.acq (y:={ g:=0,fn:=g.frame.fn,pos:=g.frame.place,act:=.mark (.acquire (stA c.C2)) }) ⟨rfl,rfl⟩ h.df0 (fun i h1 h2=>by obtain ⟨q,e⟩:=hall i h1 h2;rw[e];trivial)
 let q:Nat→Nat:=fun i=>match zs i with
  | .lv q=>q
  | _=>0
 have lv:Leavers P t gs q:=by
  refine ⟨fun i x h1 h2=>?_,h.dfA⟩
  obtain ⟨q',e⟩:=hlv i (bf h2)
  have hw:=h.wk i x h1 h2
  rw[e] at hw
  show QuitsD P (match zs i with | .lv q=>q | _=>0) (Deaf t i) x
  rw[e]
  exact hw
 have lv2:=gO lv h.pos (g':=g') g.frame.fn g.frame.place #[Go.ConcR.mk (.acquire (stA c.C2))]
 have d0:Deaf (t++MemOp.ofEvents 0 g.frame.fn g.frame.place #[Go.ConcR.mk (.acquire (stA c.C2))]) 0=0:=by rw[Deaf_own,h.df0];rfl
 have hown:ow=none:=by
  cases e:ow with
  | none=>rfl
  | some j =>
   exfalso
   obtain ⟨k1,k2⟩:=h.mem.ow2 j e
   have k3:=(h.mem.ow1 j k1 k2).1 e
   obtain ⟨q',e2⟩:=hall j k1 k2
   rw[e2] at k3
   exact k3
 have hL:∀k,k ∈ L↔k<J:=fun k=>by
  rw[h.mem.li k]
  constructor
  ·exact fun e=>e.1
  ·intro e
   have hk:=Nat.mod_lt k (show 0<c.n by omega)
   obtain ⟨q',e2⟩:=hall (c.S0+k % c.n) (by omega) (by omega)
   rw[e2]
   exact ⟨e,by omega,e⟩
 refine ⟨_,_,hr,gs.setIfInBounds 0 g',w,sl,q,g',rfl,by simpa using hsz,Array.getElem?_setIfInBounds_self_of_lt h.pos,hon,?_,h.ok3,hw0,?_⟩
 ·rw[he] at lv2 d0 ⊢
  exact ⟨lv2,tr.ti.clean,d0,kn,tr.sn,tr.low,tr.nor⟩
 ·rw[←vt S.comm h.mem.nd hL]
  exact h.mem.bd hown
theorem aD.runs (hG:P.globals.size≤Fns.G) (hC:bu P) (h:aD S b0 Sn gs w t z0 zs L ow blk W mm) (hn:dg c Sn) (sl:Option (Nat × Nat)):∃N m' t',runNT P N (crowd gs w sl) t=(.next m',t')∧sL S b0 Sn m' t':=by
 obtain ⟨N,m1,t1,h1,m2,ops,h2,h3⟩:=ga (P:=P) (BP P) (fun μ m t=>∃gs w sl z0 zs L ow blk W mm,m=crowd gs w sl∧aD S b0 Sn gs w t z0 zs L ow blk W mm∧μ=me2 c J z0 zs gs.size W mm) (fun m t=>∃m' ops,stepT P m=(.next m',ops)∧sL S b0 Sn m' (t++ops)) (fun μ m t hI=>by
  obtain ⟨gs,w,sl,z0,zs,L,ow,blk,W,mm,rfl,h,rfl⟩:=hI
  obtain ⟨i,g,d,sl',hi,hr,hst⟩:=crowd_pick (P:=P) (w:=w) (sl:=sl) h.awake h.alive
  have h':=h.DW d
  have mv:bp S b0 Sn gs (w.at d) t z0 zs W mm i∨(i=0∧S.Acq g∧∃m,z0=.ac m):=by
   rcases Nat.eq_zero_or_pos i with rfl | hp
   ·rcases h'.BA hn hi hr with h1 | h1
    ·exact .inl h1
    ·exact .inr ⟨rfl,h1⟩
   ·exact .inl (h'.A0 hG hC hn hp hi hr)
  rcases mv with hm | ⟨rfl,ha,m,hz⟩
  ·obtain ⟨gs',w',ops,z0',zs',L',ow',blk',W',mm',k1,k2,k3⟩:=hm sl'
   exact .inr ⟨_,ops,_,hst.trans k1,k3,gs',w',sl',z0',zs',L',ow',blk',W',mm',rfl,k2,rfl⟩
  ·obtain ⟨m',ops,k1,k2⟩:=h'.ends hi hz ha sl'
   exact .inl ⟨m',ops,hst.trans k1,k2⟩) (me2 c J z0 zs gs.size W mm) _ t ⟨gs,w,sl,z0,zs,L,ow,blk,W,mm,rfl,h,rfl⟩
 exact ⟨N+1,m2,t1++ops,mB h1 h2,h3⟩
theorem aD.BD (S:ff P c tW tX J F R β eB up) (hn:dg c Sn) (h1:c.S0=gs.size) (h0:gs[0]? = some g) (hq:Qs P Sn gs t q 0 w.heap.size) {m:Nat} (hw:WalkA P c tW true (S.GoA 0) m g w) (ok:OkT c w) (c2:WgAt tW c.C2 w ((c.n:Int)*KK) 0) (mu:muC c w ⟨0,0,0,0⟩ 0) (bd:bdC c w (eB b0)) :
  aD S b0 Sn gs w t (.al 0 m) (fun i=>.lv (q i)) [] none (fun _=>none) ⟨0,0,0,0⟩ 0:=by
 have hno:∀i:Nat,c.S0≤i→i<gs.size→False:=fun i a b=>by omega
 have hn1:=S.n1
 have zero:∀f:Nat→YW P→Nat,(∀i z,i<c.S0→f i z=0)→sumTo gs.size (fun i=>f i (YW.lv (q i)))=0:=fun f hf=>by
  have:∀n,n≤gs.size→sumTo n (fun i=>f i (YW.lv (q i)))=0:=fun n=>by
   induction n with
   | zero=>intro _;rfl
   | succ n ih =>
    intro hn
    show sumTo n _+f n _=0
    rw[ih (by omega),hf _ _ (by omega)]
  exact this _ (Nat.le_refl _)
 have hlf:lft c (.al 0 m) (fun i=>(YW.lv (q i):YW P)) gs.size=c.n:=by
  unfold lft
  rw[zero (cG c) (fun i z hi=>by unfold cG;rw[if_pos hi])]
  show c.n-0+0=c.n
  omega
 have hsm:∀f:Mx→Nat,f .no=0→sm gs.size f (fun i=>aV (YW.lv (q i):YW P))=0:=fun f hf=>oZ f fun _ _=>hf
 have kn0:∀(i:Nat) (a:Touch),touchAt t i=some a→¬snL Sn a.loc→∀g,(g=0∨(c.S0≤g∧g<gs.size))→Knows t g i:=fun i a ha hs g hg=>by
  rcases hg with rfl | ⟨a1,a2⟩
  ·obtain ⟨x,hx,hxa⟩:=touch_of ha
   exact hq.kn i x a hx hxa (.inl hs)
  ·exact (hno _ a1 a2).elim
 have hsn:∀l,¬snL Sn l→∀i a,touchAt t i=some a→a.loc=l→∀g,(g=0∨(c.S0≤g∧g<gs.size))→Knows t g i:=fun l hl i a ha e g hg=>kn0 i a ha (by rw[e];exact hl) g hg
 refine ⟨by rw[h1];rfl,⟨g,h0,by omega,hw⟩,fun i x a b=>hq.lv.old i x a b,fun i _=>⟨q i,rfl⟩,hq.df,fun i a b=>(hno i a b).elim,hq.lv.above,?_,fun i k E s a b=>(hno i a b).elim,?_,?_,?_,mu,fun i k q s a b=>(hno i a b).elim,fun q e=>e.elim⟩
 ·refine .run (fun i a b=>(hno i a b).elim) (fun e=>e) ⟨(fun e=>by cases e),fun u m e=>by cases e⟩ ?_
  rw[hlf]
  have e:((c.n:Int)*KK+(reg (.al 0 m):Int))=(c.n:Int)*KK:=by show _+(0:Int)=_;omega
  rw[e]
  exact c2
 ·exact ⟨ok,List.nodup_nil,fun k=>⟨(fun e=>by simp at e),fun e=>(by have:=e.2.1;omega)⟩,fun _=>bd,fun i a b=>(hno i a b).elim,(fun _ e=>by cases e),fun i _ a b=>(hno i a b).elim,fun i _ _ a b=>(hno i a b).elim,fun i _ a b=>(hno i a b).elim,(fun _ _ e=>by cases e)⟩
 ·refine ⟨⟨hq.clean,fun l g hl=>?_,fun l _ hs hgd g hg i a ha hl _=>?_,fun i x a hx ha hs=>?_,fun i a ha hga _=>?_⟩,hq.low,fun j x a hx ha hs=>.inl (hq.kn j x a hx ha hs),hq.nor,hq.sn⟩
  ·cases l <;> simp[bV] at hl
  ·exact hsn l (fun e=>hs (yB e)) i a ha hl g hg
  ·by_cases e:snL Sn a.loc
   ·exact .inl (hq.sn i x a hx ha e)
   ·exact .inr fun g hg=>kn0 i a (by rw[touchAt_of hx];exact ha) e g hg
  ·exact .inl fun g hg=>kn0 i a ha (fun e=>Ay hn.lt hga (yB e)) g hg
 ·exact ⟨⟨Nat.zero_le _,Nat.zero_le _,Nat.zero_le _⟩,fun _ _=>trivial,hsm _ rfl,fun _=>⟨hsm _ rfl,hsm _ rfl,by rw[hsm _ rfl,hsm _ rfl,hsm _ rfl],by rw[hsm _ rfl,hsm _ rfl]⟩,(fun e=>by cases e),fun _ _ _ e=>absurd e (Nat.lt_irrefl _)⟩
theorem sR (hG:P.globals.size≤Fns.G) (hC:bu P) (S:ff P c tW tX J F R β eB up) (hn:dg c Sn) (h1:c.S0=gs.size) (h0:gs[0]? = some g) (hq:Qs P Sn gs t q 0 w.heap.size) {m:Nat} (hw:WalkA P c tW true (S.GoA 0) m g w) (ok:OkT c w) (c2:WgAt tW c.C2 w ((c.n:Int)*KK) 0) (mu:muC c w ⟨0,0,0,0⟩ 0) (bd:bdC c w (eB b0)) (sl:Option (Nat × Nat)) :
  ∃N gs' w' sl' t' q' g',runNT P N (crowd gs w sl) t=(.next (crowd gs' w' sl'),t')∧gs'.size=c.S0+c.n∧gs'[0]? = some g'∧OnA P c tW true S.JnP g'∧Qs P Sn gs' t' q' 0 w'.heap.size∧Ok3 c tW w'∧WgAt tW c.C2 w' 0 0∧bdC c w' (eB ((List.range J).foldl up b0)):=by
 obtain ⟨N,m',t',k1,gs',w',sl',q',g',rfl,k2⟩:=(aD.BD S hn h1 h0 hq hw ok c2 mu bd).runs hG hC hn sl
 exact ⟨N,gs',w',sl',t',q',g',k1,k2⟩
end
end Cs
end Go.Proofs.Ytpdemelchhkfaaa
