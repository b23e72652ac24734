import Derived.Test.YtpdemelchhkfaaaJn18
namespace Go.Proofs.Ytpdemelchhkfaaa
namespace Cs
open Go.Conc
open Go.ConcN (sumTo sumTo_congr)
open Go.ConcR (KK WgAt wgBlock stA smA rd wr)
section
variable {P:Program} {c:Cst} {tW:TypeId} {J:Nat} {z0 z0':Y0} {zs:Nat→YW P} {z':YW P} {n i m mm:Nat} {W:Wd} {w w':World}
theorem WgS.mX (h:WgS c tW z0 zs n w) (e1:bg c z0'=bg c z0) (e2:reg z0'=reg z0) (e3:jS z0'↔jS z0) (hb:z0'≠.w3b) (h2:∀u m,z0'=.w2 u m→∃m',z0=.w2 u m') (hw:w'.heap[c.C2]? = w.heap[c.C2]?):WgS c tW z0' zs n w':=by
 have hl:lft c z0' zs n=lft c z0 zs n:=by unfold lft;rw[e1]
 refine WgS.keep (w:=w) ?_ hw
 cases h with
 | run hn hp hr hw =>
  refine .run hn (fun e=>hp (e3.1 e)) ⟨by rw[hl,e2];exact hr.1,fun u m e=>?_⟩ (by rw[hl,e2];exact hw)
  obtain ⟨m',e'⟩:=h2 u m e
  rw[hl]
  exact hr.2 u m' e'
 | cls j hj hs hc hu hr hlf hw=>exact .cls j hj hs hc hu (by rw[e2];exact hr) (by rw[hl];exact hlf) hw
 | rls hn hlf hr _ hw=>exact .rls hn (by rw[hl];exact hlf) (by rw[e2];exact hr) hb hw
 | pst hn hlf hp hw=>exact .pst hn (by rw[hl];exact hlf) (e3.2 hp) hw
theorem iu (e1:bg c z0'=bg c z0) (h:q0 c (lft c z0 zs n) z0'<q0 c (lft c z0 zs n) z0):tot c J z0' zs n W mm<tot c J z0 zs n W mm:=by
 have hl:lft c z0' zs n=lft c z0 zs n:=by unfold lft;rw[e1]
 unfold tot
 rw[hl,e1]
 omega
theorem yj (e1:bg c z0'=bg c z0) (h:q0 c (lft c z0 zs n) z0'=q0 c (lft c z0 zs n) z0):tot c J z0' zs n W mm=tot c J z0 zs n W mm:=by
 have hl:lft c z0' zs n=lft c z0 zs n:=by unfold lft;rw[e1]
 unfold tot
 rw[hl,e1]
 omega
theorem zY (zs:Nat→YW P):∀m,sumTo (c.S0+m) (fun i=>cG c i (zs i))≤m:=fun m=>by
 induction m with
 | zero =>
  have:∀k,k≤c.S0→sumTo k (fun j=>cG c j (zs j))=0:=fun k=>by
   induction k with
   | zero=>intro _;rfl
   | succ k ih =>
    intro hm
    show sumTo k _+cG c k _=0
    rw[ih (by omega)]
    unfold cG
    rw[if_pos (by omega)]
  rw[Nat.add_zero,this _ (Nat.le_refl _)]
  exact Nat.le_refl _
 | succ m ih =>
  show sumTo (c.S0+m) _+cG c (c.S0+m) _≤m+1
  have h9:cG c (c.S0+m) (zs (c.S0+m))≤1:=by
   unfold cG
   split
   ·omega
   ·unfold bef;split <;> omega
  exact Nat.add_le_add ih h9
theorem xX {f:Nat→Nat}:∀m,sumTo m f=0→∀i,i<m→f i=0:=fun m=>by
 induction m with
 | zero=>intro _ i hi;omega
 | succ m ih =>
  intro h i hi
  have h':sumTo m f+f m=0:=h
  by_cases e:i=m
  ·subst e;omega
  ·exact ih (by omega) i (by omega)
theorem BK (hn:k9 c zs n) (hl:lft c z0 zs n=0) (hi:c.S0≤i) (his:i<n):∃q,zs i=.lv q:=by
 have h1:sumTo n (fun i=>cG c i (zs i))=0:=by unfold lft at hl;omega
 have h2:=xX n h1 i his
 have h3:=hn i hi his
 simp only[cG,if_neg (Nat.not_lt.2 hi)] at h2
 cases hz:zs i with
 | lv q=>exact ⟨q,rfl⟩
 | hd k q m=>rw[hz] at h2;cases h2
 | bx k m=>rw[hz] at h2;cases h2
 | ml k q x m=>rw[hz] at h2;cases h2
 | mb k q s=>rw[hz] at h2;cases h2
 | cr k q m=>rw[hz] at h2;cases h2
 | pr k m=>rw[hz] at h2;cases h2
 | ca k E s=>rw[hz] at h2;cases h2
 | re m=>rw[hz] at h2;cases h2
 | di m=>rw[hz] at h2;cases h2
 | de m=>rw[hz] at h2;cases h2
 | lo m=>rw[hz] at h3;exact absurd trivial h3
 | ze m=>rw[hz] at h3;exact absurd trivial h3
 | se m=>rw[hz] at h3;exact absurd trivial h3
end
variable [Fns]
section
variable {P:Program} {c:Cst} {tW tX:TypeId} {J:Nat} {F:Nat→Value} {R:Nat→Array Value} {β:Type} {eB:β→Nat→Value} {up:β→Nat→β} {b0:β} {Sn:Nat→Prop} {S:ff P c tW tX J F R β eB up}
variable {gs gs':Array Goroutine} {w w':World} {t t':Trace} {z0 z0':Y0} {zs:Nat→YW P} {L L':List Nat} {ow ow':Option Nat} {blk blk':Nat→Option Nat} {W W':Wd} {mm mm' i:Nat} {g g':Goroutine} {z':YW P} {es:Array Event}
theorem aD.spn (h:aD S b0 Sn gs w t z0 zs L ow blk W mm):bg c z0≤c.n:=by
 obtain ⟨a,_,h2⟩:=h.a0
 cases z0 with
 | al j m=>exact Nat.le_of_lt h2.1
 | st j q m=>exact Nat.le_of_lt h2.1
 | sp j q m=>exact Nat.le_of_lt h2.1
 | _=>exact Nat.le_refl _
theorem aD.zB (h:aD S b0 Sn gs w t z0 zs L ow blk W mm):lft c z0 zs gs.size≤c.n:=by
 have h1:=zY (c:=c) zs (bg c z0)
 have h2:=h.spn
 unfold lft
 rw[h.sz]
 omega
inductive eo (S:ff P c tW tX J F R β eB up):Y0→Y0→Nat→(Goroutine→Prop)→Prop
 | al (j m:Nat):eo S (.al j (m+1)) (.al j m) m (S.GoA j)
 | st (j q m:Nat):eo S (.st j q (m+1)) (.st j q m) m (S.GoS j q)
 | sp (j q m:Nat):eo S (.sp j q (m+1)) (.sp j q m) m (S.GoP j q)
 | wd (m:Nat):eo S (.wd (m+1)) (.wd m) m S.WtD
 | w1 (m:Nat):eo S (.w1 (m+1)) (.w1 m) m S.W1
 | w2 (v m:Nat):eo S (.w2 v (m+1)) (.w2 v m) m (S.W2 v)
 | sa (m:Nat):eo S (.sa (m+1)) (.sa m) m S.Sai
 | w3 (m:Nat):eo S (.w3 (m+1)) (.w3 m) m S.W3
 | w4 (m:Nat):eo S (.w4 (m+1)) (.w4 m) m S.W4
 | ke (m:Nat):eo S (.ke (m+1)) (.ke m) m S.Ke
 | ac (m:Nat):eo S (.ac (m+1)) (.ac m) m S.Acq
theorem aD.eR (h:aD S b0 Sn gs w t z0 zs L ow blk W mm) (hn:dg c Sn) (hg:gs[0]? = some g) {m:Nat} {Stp:Goroutine→Prop} (al:eo S z0 z0' m Stp) (hst:stepG P true g w=.go g' w' es) (hd:DQ c w w' es) (hw:WalkA P c tW true Stp m g' w'):bp S b0 Sn gs w t z0 zs W mm 0:=by
 obtain ⟨a,hg1,st0⟩:=h.a0
 have hsz:w'.heap.size=w.heap.size:=by rw[hd.heap]
 have facts:T0 S z0' g' w'∧bg c z0'=bg c z0∧reg z0'=reg z0∧(jS z0'↔jS z0)∧deaf0 z0'=deaf0 z0∧z0'≠.w3b∧(∀u m,z0'=.w2 u m→∃m',z0=.w2 u m')∧(∀v,q0 c v z0'=q0 c v z0)∧kV P [ay P] (yi0 z0') (yi0 z0):=by
  cases al with
  | al j m=>exact ⟨⟨st0.1,hw⟩,rfl,rfl,Iff.rfl,rfl,(fun e=>by cases e),(fun u m e=>by cases e),fun _=>rfl,.walk (Nat.lt_succ_self _)⟩
  | st j q m=>exact ⟨⟨st0.1,hw,by rw[hd.heap];exact st0.2.2⟩,rfl,rfl,Iff.rfl,rfl,(fun e=>by cases e),(fun u m e=>by cases e),fun _=>rfl,.walk (Nat.lt_succ_self _)⟩
  | sp j q m=>exact ⟨⟨st0.1,hw,by rw[hd.heap];exact st0.2.2⟩,rfl,rfl,Iff.rfl,rfl,(fun e=>by cases e),(fun u m e=>by cases e),fun _=>rfl,.walk (Nat.lt_succ_self _)⟩
  | w2 v m=>exact ⟨⟨st0.1,st0.2.1,hw⟩,rfl,rfl,Iff.rfl,rfl,(fun e=>by cases e),(fun u m e=>by cases e;exact ⟨_,rfl⟩),fun _=>rfl,.walk (Nat.lt_succ_self _)⟩
  | wd m=>exact ⟨hw,rfl,rfl,Iff.rfl,rfl,(fun e=>by cases e),(fun u m e=>by cases e),fun _=>rfl,.walk (Nat.lt_succ_self _)⟩
  | w1 m=>exact ⟨hw,rfl,rfl,Iff.rfl,rfl,(fun e=>by cases e),(fun u m e=>by cases e),fun _=>rfl,.walk (Nat.lt_succ_self _)⟩
  | sa m=>exact ⟨hw,rfl,rfl,Iff.rfl,rfl,(fun e=>by cases e),(fun u m e=>by cases e),fun _=>rfl,.walk (Nat.lt_succ_self _)⟩
  | w3 m=>exact ⟨hw,rfl,rfl,Iff.rfl,rfl,(fun e=>by cases e),(fun u m e=>by cases e),fun _=>rfl,.walk (Nat.lt_succ_self _)⟩
  | w4 m=>exact ⟨hw,rfl,rfl,Iff.rfl,rfl,(fun e=>by cases e),(fun u m e=>by cases e),fun _=>rfl,.walk (Nat.lt_succ_self _)⟩
  | ke m=>exact ⟨hw,rfl,rfl,Iff.rfl,rfl,(fun e=>by cases e),(fun u m e=>by cases e),fun _=>rfl,.walk (Nat.lt_succ_self _)⟩
  | ac m=>exact ⟨hw,rfl,rfl,Iff.rfl,rfl,(fun e=>by cases e),(fun u m e=>by cases e),fun _=>rfl,.walk (Nat.lt_succ_self _)⟩
 obtain ⟨f1,f2,f3,f4,f5,f6,f7,f8,f9⟩:=facts
 refine h.move0 hg hst (AK hd h.ok3) f1 f2 (by rw[mF hd,f5]) (fun q _=>by rw[hd.heap]) ⟨hsz,hd.os,hd.output⟩ (h.wg.mX f2 f3 f4 f6 f7 (by rw[hd.heap])) ?_ (.inr ⟨yj f2 (f8 _),.inl f9⟩) (fun q e=>by cases al <;> exact e)
 exact h.tr.reads hn (.inl rfl) hd.evs (by rw[hsz];exact h.mem.ok.big) (by rw[hsz];exact Nat.le_refl _) (fun _ e=>e) (.inr (.inl rfl))
theorem aD.waits (h:aD S b0 Sn gs w t z0 zs L ow blk W mm) (hn:dg c Sn) (hg:gs[0]? = some g) {m:Nat} (hz:z0=.wd m) (hT:S.WtD g):bp S b0 Sn gs w t z0 zs W mm 0:=by
 subst hz
 obtain ⟨_,g',hst,hon⟩:=S.wtd g hT
 obtain ⟨m',hw⟩:=hon.go h.ok3
 have hl:=h.zB
 refine h.move0 (z0':=.w1 m') hg (hst w h.ok3) h.ok3 hw rfl rfl (fun _ _=>rfl) ⟨rfl,rfl,rfl⟩ (h.wg.mX rfl rfl Iff.rfl (fun e=>by cases e) (fun u m e=>by cases e) rfl) ?_ (.inl (iu rfl ?_))
 ·exact h.tr.atom hn (.inl rfl) (fun e he=>by simp at he;exact .inr (.inl he)) h.mem.ok.big (fun _ e=>e) (.inl rfl)
 ·show 3*_+12<3*c.n+15
  omega
theorem aD.BN (h:aD S b0 Sn gs w t z0 zs L ow blk W mm) (hn:dg c Sn) (hg:gs[0]? = some g) {m:Nat} (hz:z0=.w1 m) (hT:S.W1 g):bp S b0 Sn gs w t z0 zs W mm 0:=by
 subst hz
 have hl:=h.zB
 have hn1:=S.n1
 obtain ⟨_,hk⟩:=S.w1 g hT
 obtain ⟨g',hst,hon⟩:=hk (lft c (.w1 m) zs gs.size) (by omega)
 obtain ⟨m',hw⟩:=hon.go h.ok3
 have htr:Tr3 c Sn zs gs.size ow blk w.heap.size (t++MemOp.ofEvents 0 g.frame.fn g.frame.place #[rd (stA c.C2)]):=h.tr.atom hn (.inl rfl) (fun e he=>by simp at he;subst he;exact .inl ⟨_,_,rfl,hn.c2⟩) h.mem.ok.big (fun _ e=>e) (.inl rfl)
 cases hwg:h.wg with
 | cls j _ _ _ _ hr _ _=>cases hr
 | rls _ _ hr _ _=>cases hr
 | pst _ _ hp _=>exact hp.elim
 | run hnc hps hr hw0 =>
  have hw1:WgAt tW c.C2 w ((lft c (.w1 m) zs gs.size:Int)*KK) 0:=by
   have e:((lft c (.w1 m) zs gs.size:Int)*KK+(reg (.w1 m):Int))=(lft c (.w1 m) zs gs.size:Int)*KK:=by show _+(0:Int)=_;omega
   rw[e] at hw0
   exact hw0
  by_cases hv:lft c (.w1 m) zs gs.size=0
  ·have hw2:WalkA P c tW true S.Ke m' g' w:=by
    have e:(fun g=>if lft c (.w1 m) zs gs.size=0 then S.Ke g else S.W2 (lft c (.w1 m) zs gs.size) g)=S.Ke:=by funext g;rw[if_pos hv]
    rw[e] at hw
    exact hw
   have hw3:WgAt tW c.C2 w 0 0:=by rw[hv] at hw1;simpa using hw1
   exact h.move0 (z0':=.ke m') hg (hst w hw1) h.ok3 hw2 rfl rfl (fun _ _=>rfl) ⟨rfl,rfl,rfl⟩ (.pst hnc hv trivial hw3) htr (.inl (iu rfl (by show 5<3*_+12;omega)))
  ·have hw2:WalkA P c tW true (S.W2 (lft c (.w1 m) zs gs.size)) m' g' w:=by
    have e:(fun g=>if lft c (.w1 m) zs gs.size=0 then S.Ke g else S.W2 (lft c (.w1 m) zs gs.size) g)=S.W2 (lft c (.w1 m) zs gs.size):=by funext g;rw[if_neg hv]
    rw[e] at hw
    exact hw
   refine h.move0 (z0':=.w2 (lft c (.w1 m) zs gs.size) m') hg (hst w hw1) h.ok3 ⟨by omega,by omega,hw2⟩ rfl rfl (fun _ _=>rfl) ⟨rfl,rfl,rfl⟩ (.run hnc (fun e=>e) ⟨(fun e=>by cases e),fun u m e=>?_⟩ hw0) htr (.inl (iu rfl (by show 3*_+11<3*_+12;omega)))
   cases e
   exact Nat.le_refl _
theorem aD.DH (h:aD S b0 Sn gs w t z0 zs L ow blk W mm) (hn:dg c Sn) (hg:gs[0]? = some g) {u m:Nat} (hz:z0=.w2 u m) (hT:S.W2 u g):bp S b0 Sn gs w t z0 zs W mm 0:=by
 subst hz
 have hl:=h.zB
 have hn1:=S.n1
 obtain ⟨a,_,hu0,hu1,_⟩:=h.a0
 cases hwg:h.wg with
 | cls j _ _ _ _ hr _ _=>cases hr
 | rls _ _ hr _ _=>cases hr
 | pst _ _ hp _=>exact hp.elim
 | run hnc hps hr hw0 =>
  have hle:=hr.2 u m rfl
  have hw1:WgAt tW c.C2 w ((lft c (.w2 u m) zs gs.size:Int)*KK) 0:=by
   have e:((lft c (.w2 u m) zs gs.size:Int)*KK+(reg (.w2 u m):Int))=(lft c (.w2 u m) zs gs.size:Int)*KK:=by show _+(0:Int)=_;omega
   rw[e] at hw0
   exact hw0
  by_cases hv:lft c (.w2 u m) zs gs.size=u
  ·obtain ⟨_,g',hst,hon⟩:=S.w2h u g hT hu0 hu1
   rw[hv] at hw1
   have hst':=hst w hw1
   have hw2:WgAt tW c.C2 (w.setCell (stA c.C2) (.int .u64 ((u:Int)*KK+1))) ((u:Int)*KK+1) 0:=yI hw1
   have hok:=h.yx (a:=stA c.C2) rfl hw2
   have hsz:=cI w (stA c.C2) (.int .u64 ((u:Int)*KK+1))
   obtain ⟨m',hw⟩:=hon.go hok
   have hls:lft c (.sa m') zs gs.size=u:=hv
   refine h.move0 (z0':=.sa m') hg hst' hok hw rfl rfl (dV (c:=c) w (stA c.C2) _ rfl) ⟨hsz,rfl,rfl⟩ (.run hnc (fun e=>e) ⟨fun _=>by rw[hls];exact hu0,fun u m e=>by cases e⟩ (by rw[hls];exact hw2)) ?_ (.inl (iu rfl (by show 8<3*u+11;omega)))
   rw[hsz]
   exact h.tr.atom hn (.inl rfl) (fun e he=>by simp at he;rcases he with rfl | rfl;exact .inl ⟨_,_,rfl,hn.c2⟩;exact .inl ⟨_,_,rfl,hn.c2⟩) h.mem.ok.big (fun _ e=>e) (.inl rfl)
  ·obtain ⟨g',hst,hon⟩:=S.w2m u g hT (lft c (.w2 u m) zs gs.size) (by omega) hv
   obtain ⟨m',hw⟩:=hon.go h.ok3
   refine h.move0 (z0':=.w1 m') hg (hst w hw1) h.ok3 hw rfl rfl (fun _ _=>rfl) ⟨rfl,rfl,rfl⟩ (h.wg.mX rfl rfl Iff.rfl (fun e=>by cases e) (fun u m e=>by cases e) rfl) ?_ (.inl (iu rfl ?_))
   ·exact h.tr.atom hn (.inl rfl) (fun e he=>by simp at he;subst he;exact .inl ⟨_,_,rfl,hn.c2⟩) h.mem.ok.big (fun _ e=>e) (.inl rfl)
   ·show 3*lft c (.w2 u m) zs gs.size+12<3*u+11
    omega
omit [Fns] in
theorem vB (t:Trace) {x y:MemOp} (hx:∀m,x.act≠.mark m) (hy:∀m,y.act≠.mark m) (i:Nat):Deaf (t++#[x,y]) i=Deaf t i:=by
 have h1:∀z:MemOp,(∀m,z.act≠.mark m)→∀d,deafStep i d z=d:=fun z hz d=>by
  unfold deafStep
  split
  ·rename_i e;exact absurd e (hz _)
  ·rename_i e;exact absurd e (hz _)
  ·rfl
 have h2:=Deaf_append t i [x,y]
 show Deaf (t++[x,y].toArray) i=_
 rw[h2]
 show deafStep i (deafStep i (Deaf t i) x) y=_
 rw[h1 x hx,h1 y hy]
omit [Fns] in
theorem Tr3.said {top size:Nat} {fn:FuncId} {pos:String} (h:Tr3 c Sn zs top ow blk size t) (hn:dg c Sn) (hs:c.N1≤size):Tr3 c Sn zs top ow blk size (t++MemOp.ofEvents 0 fn pos #[Go.ConcR.mk (.write (smA c.C2))]):=by
 have key:∀op ∈ MemOp.ofEvents 0 fn pos #[Go.ConcR.mk (.write (smA c.C2))],op.g=0∧op.act=.mark (.write (smA c.C2)):=fun op hop=>by
  obtain ⟨e,he,rfl⟩:=Conc.mem_ofEvents hop
  simp at he
  subst he
  exact ⟨rfl,rfl⟩
 have hb:∀op ∈ MemOp.ofEvents 0 fn pos #[Go.ConcR.mk (.write (smA c.C2))],∀b,op.act.touch? = some b→b.loc=.cell (smA c.C2)∧b.kind=.said:=fun op hop b hb=>by
  rw[(key op hop).2] at hb
  cases hb
  exact ⟨rfl,rfl⟩
 have hsn:∀b:Touch,b.loc=.cell (smA c.C2)→shL Sn c b.loc:=fun b e=>by rw[e];exact .inl hn.c2
 refine h.own hn.lt (.inl rfl) (fun op hop=>⟨(key op hop).1,fun b hb'=>?_⟩) (Nat.le_refl _) (fun op hop b hb'=>?_) (fun op hop=>?_) (fun _ e=>e) (.inr (.inl rfl))
 ·obtain ⟨k1,k2⟩:=hb op hop b hb'
  exact .inl ⟨hsn b k1,(fun e=>by rw[k2] at e;cases e),fun _=>rfl⟩
 ·obtain ⟨k1,_⟩:=hb op hop b hb'
  rw[k1]
  exact Nat.lt_of_lt_of_le (hn.lt _ hn.c2).1 hs
 ·rw[(key op hop).2]
  exact fun e=>by cases e
theorem aD.D1 (h:aD S b0 Sn gs w t z0 zs L ow blk W mm) (hn:dg c Sn) (hg:gs[0]? = some g) {m:Nat} (hz:z0=.sa m) (hT:S.Sai g):bp S b0 Sn gs w t z0 zs W mm 0:=by
 subst hz
 obtain ⟨_,g',hst,hon⟩:=S.sai g hT
 obtain ⟨m',hw⟩:=hon.go h.ok3
 exact h.move0 (z0':=.w3 m') hg (hst w h.ok3) h.ok3 hw rfl rfl (fun _ _=>rfl) ⟨rfl,rfl,rfl⟩ (h.wg.mX rfl rfl Iff.rfl (fun e=>by cases e) (fun u m e=>by cases e) rfl) (h.tr.said hn h.mem.ok.big) (.inl (iu rfl (by show 7<8;omega)))
theorem aD.BW (h:aD S b0 Sn gs w t z0 zs L ow blk W mm) (hn:dg c Sn) (hg:gs[0]? = some g) {m:Nat} (hz:z0=.w3 m) (hT:S.W3 g):bp S b0 Sn gs w t z0 zs W mm 0:=by
 subst hz
 obtain ⟨_,_,hbl,g',hst,hon⟩:=S.w3 g hT
 have hwk:br P g { g with status:=.blocked }=false:=by unfold br;simp
 have hme:tot c J .w3b zs gs.size W mm<tot c J (.w3 m) zs gs.size W mm∨(tot c J .w3b zs gs.size W mm=tot c J (.w3 m) zs gs.size W mm∧(kV P [ay P] (yi0 .w3b) (yi0 (.w3 m))∨((yi0 .w3b:Mi P [ay P])=yi0 (.w3 m)∧br P g { g with status:=.blocked }=false∧kX .w3b<kX (.w3 m)))):=by
  refine .inr ⟨yj rfl rfl,?_⟩
  cases m with
  | zero=>exact .inr ⟨rfl,hwk,Nat.zero_lt_one⟩
  | succ m=>exact .inl (.walk (Nat.succ_pos _))
 have blk0:∀st,WgAt tW c.C2 w st 0→WgS c tW .w3b zs gs.size w→bp S b0 Sn gs w t (.w3 m) zs W mm 0:=fun st hw hwg=>by
  refine h.move0 (z0':=.w3b) hg (hbl w st hw) h.ok3 ⟨g,hT,rfl⟩ rfl rfl (fun _ _=>rfl) ⟨rfl,rfl,rfl⟩ hwg ?_ hme
  exact h.tr.mute (fun op hop=>by obtain ⟨e,he,_⟩:=Conc.mem_ofEvents hop;simp at he) (fun op hop=>by obtain ⟨e,he,_⟩:=Conc.mem_ofEvents hop;simp at he) (Nat.le_refl _) (fun _ e=>e)
 cases hwg:h.wg with
 | run hnc hps hr hw0=>exact blk0 _ hw0 (.run hnc (fun e=>e) ⟨hr.1,fun u m e=>by cases e⟩ hw0)
 | cls j hj hs hc hu hr hl hw0 =>
  have hk:WgS c tW .w3b zs gs.size w:=.cls j hj hs hc hu rfl hl hw0
  by_cases e:gG (zs j)
  ·exact blk0 _ (hw0.1 e) hk
  ·exact blk0 _ (hw0.2 e) hk
 | pst _ _ hp _=>exact hp.elim
 | rls hnc hl hr _ hw0 =>
  have hst':=hst w hw0
  have hw2:WgAt tW c.C2 (w.setCell (smA c.C2) (.int .u32 0)) 0 0:=Aq hw0
  have hok:=h.yx (a:=smA c.C2) rfl hw2
  have hsz:=cI w (smA c.C2) (.int .u32 0)
  obtain ⟨m',hw⟩:=hon.go hok
  refine h.move0 (z0':=.w4 m') hg hst' hok hw rfl (by rw[qN];rfl) (dV (c:=c) w (smA c.C2) _ rfl) ⟨hsz,rfl,rfl⟩ (.pst hnc hl trivial hw2) ?_ (.inl (iu rfl (by show 6<7;omega)))
  rw[hsz]
  exact h.tr.atom hn (.inl rfl) (fun e he=>tf he hn) h.mem.ok.big (fun _ e=>e) (.inl rfl)
theorem aD.AY (h:aD S b0 Sn gs w t z0 zs L ow blk W mm) (hn:dg c Sn) (hg:gs[0]? = some g) {m:Nat} (hz:z0=.w4 m) (hT:S.W4 g):bp S b0 Sn gs w t z0 zs W mm 0:=by
 subst hz
 obtain ⟨_,g',hst,hon⟩:=S.w4 g hT
 obtain ⟨m',hw⟩:=hon.go h.ok3
 cases hwg:h.wg with
 | run _ hp _ _=>exact absurd trivial hp
 | cls j _ _ _ _ hr _ _=>cases hr
 | rls _ _ hr _ _=>cases hr
 | pst hnc hl _ hw0 =>
  refine h.move0 (z0':=.ke m') hg (hst w hw0) h.ok3 hw rfl rfl (fun _ _=>rfl) ⟨rfl,rfl,rfl⟩ (.pst hnc hl trivial hw0) ?_ (.inl (iu rfl (by show 5<6;omega)))
  exact h.tr.atom hn (.inl rfl) (fun e he=>by simp at he;subst he;exact .inl ⟨_,_,rfl,hn.c2⟩) h.mem.ok.big (fun _ e=>e) (.inl rfl)
theorem aD.hears (h:aD S b0 Sn gs w t z0 zs L ow blk W mm) (hn:dg c Sn) (hg:gs[0]? = some g) {m:Nat} (hz:z0=.ke m) (hT:S.Ke g):bp S b0 Sn gs w t z0 zs W mm 0:=by
 subst hz
 obtain ⟨_,g',hst,hon⟩:=S.ke g hT
 obtain ⟨m',hw⟩:=hon.go h.ok3
 refine h.move0 (z0':=.ac m') hg (hst w h.ok3) h.ok3 hw rfl rfl (fun _ _=>rfl) ⟨rfl,rfl,rfl⟩ (h.wg.mX rfl rfl Iff.rfl (fun e=>by cases e) (fun u m e=>by cases e) rfl) ?_ (.inl (iu rfl (by show 4<5;omega)))
 exact h.tr.atom hn (.inl rfl) (fun e he=>by simp at he;exact .inr (.inr he)) h.mem.ok.big (fun _ e=>e) (.inl rfl)
theorem aD.Eb (h:aD S b0 Sn gs w t z0 zs L ow blk W mm) (hn:dg c Sn) (hg:gs[0]? = some g) {j m:Nat} (hz:z0=.al j m) (hT:S.GoA j g):bp S b0 Sn gs w t z0 zs W mm 0:=by
 subst hz
 obtain ⟨a,hg1,hj,_⟩:=h.a0
 have hd1:=S.d1
 obtain ⟨_,g',hst,hon⟩:=S.gal j g hT hj
 have hold:∀q,q<w.heap.size→(w.alloc (.cells #[S.zH] S.tH (0,0))).heap[q]? = w.heap[q]?:=fun q hq=>by show (w.heap.push _)[q]? = _;rw[Array.getElem?_push,if_neg (by omega)]
 have hnew:(w.alloc (.cells #[S.zH] S.tH (0,0))).heap[w.heap.size]? = some (.cells #[S.zH] S.tH (0,0)):=by show (w.heap.push _)[_]? = _;rw[Array.getElem?_push,if_pos rfl]
 have hsz:(w.alloc (.cells #[S.zH] S.tH (0,0))).heap.size=w.heap.size+1:=by simp
 have hbig:=h.mem.ok.big
 have hFd:=hold c.Fd (by omega)
 have hC2:=hold c.C2 (by omega)
 have hok:Ok3 c tW (w.alloc (.cells #[S.zH] S.tH (0,0))):=by
  refine ⟨h.mem.ok.keep (fun q hq=>hold q (Nat.lt_of_lt_of_le hq.1 hbig)) (fun cs e=>⟨cs,hFd.trans e,rfl⟩) (by omega) (.refl _) rfl,?_,⟨_,_,b9 h.mu hFd⟩⟩
  obtain ⟨a,b,hk⟩:=h.wg.live
  exact ⟨a,b,by unfold WgAt at hk ⊢;rw[hC2];exact hk⟩
 obtain ⟨m',hw'⟩:=(hon w.heap.size).go hok
 refine h.rV (z0':=.st j w.heap.size m') (blk':=fun q=>if q=w.heap.size then some 0 else blk q) hg (hst w) hok ⟨hj,hw',_,hnew⟩ rfl rfl (fun q _ h2 _=>hold q h2) ⟨by omega,rfl,rfl⟩ (fun q i _ e=>?_) (fun q i e=>?_) (fun q e=>if_pos e) (h.wg.mX rfl rfl Iff.rfl (fun e=>by cases e) (fun u m e=>by cases e) hC2) ?_ (.inl (iu rfl (by simp only[q0];omega)))
 ·have:=(h.mem.us4 q i e).2
  show (if _ then _ else _)=_
  rw[if_neg (by omega)];exact e
 ·have e':(if q=w.heap.size then some 0 else blk q)=some i:=e
  by_cases e2:q=w.heap.size
  ·omega
  ·rw[if_neg e2] at e'
   have:=h.mem.us4 q i e'
   omega
 ·refine (h.tr.sX (blk':=fun q=>if q=w.heap.size then some 0 else blk q) (i:=0) fun q=>?_).reads hn (.inl rfl) (fun e he=>by simp at he) (by rw[hsz];omega) (by rw[hsz];omega) (fun _ e=>e) (.inl rfl)
  by_cases e:q=w.heap.size
  ·exact .inr ⟨by omega,if_pos e⟩
  ·exact .inl (if_neg e)
theorem aD.DN (h:aD S b0 Sn gs w t z0 zs L ow blk W mm) (hn:dg c Sn) (hg:gs[0]? = some g) {j b m:Nat} (hz:z0=.st j b m) (hT:S.GoS j b g):bp S b0 Sn gs w t z0 zs W mm 0:=by
 subst hz
 obtain ⟨a,hg1,hj,_,v,hv⟩:=h.a0
 have hd1:=S.d1
 obtain ⟨hbN,hbs,hb0⟩:=h.use b rfl
 obtain ⟨_,g',hst,hon⟩:=S.gst j b g hT hj
 have hold:∀q,q≠b→(w.setCell ⟨b,0,none⟩ (S.H j)).heap[q]? = w.heap[q]?:=fun q hq=>heap_setCell_other w _ q _ hq
 have hnew:(w.setCell ⟨b,0,none⟩ (S.H j)).heap[b]? = some (.cells #[S.H j] S.tH (0,0)):=by
  unfold World.setCell
  simp only[Array.getElem?_modify,hv]
  rfl
 have hsz:(w.setCell ⟨b,0,none⟩ (S.H j)).heap.size=w.heap.size:=cI _ _ _
 have hbig:=h.mem.ok.big
 have hFd:=hold c.Fd (by omega)
 have hC2:=hold c.C2 (by omega)
 have hok:Ok3 c tW (w.setCell ⟨b,0,none⟩ (S.H j)):=by
  refine ⟨h.mem.ok.keep (fun q hq=>hold q (by have:=hq.1;omega)) (fun cs e=>⟨cs,hFd.trans e,rfl⟩) (by omega) (.refl _) rfl,?_,⟨_,_,b9 h.mu hFd⟩⟩
  obtain ⟨a,b,hk⟩:=h.wg.live
  exact ⟨a,b,by unfold WgAt at hk ⊢;rw[hC2];exact hk⟩
 obtain ⟨m',hw'⟩:=hon.go hok
 refine h.rV (z0':=.sp j b m') (blk':=blk) hg (hst w v hv) hok ⟨hj,hw',hnew⟩ rfl rfl (fun q _ _ h3=>hold q (by rintro rfl;exact h3 hb0)) ⟨by omega,rfl,rfl⟩ (fun q i _ e=>e) (fun q i e=>by rw[hsz];exact h.mem.us4 q i e) (fun q e=>by obtain rfl:q=b:=e;exact hb0) (h.wg.mX rfl rfl Iff.rfl (fun e=>by cases e) (fun u m e=>by cases e) hC2) ?_ (.inl (iu rfl (by simp only[q0];omega)))
 rw[hsz]
 refine h.tr.own hn.lt (.inl rfl) (fun op hop=>?_) (Nat.le_refl _) (fun op hop b' hb=>?_) (fun op hop=>?_) (fun _ e=>e) (.inr (.inl rfl))
 ·obtain ⟨e,he,rfl⟩:=Conc.mem_ofEvents hop
  simp at he
  subst he
  refine ⟨rfl,fun b' hb=>?_⟩
  cases hb
  refine .inr ⟨fun e=>?_,.inl (by show (if b=c.Fd then _ else if b<c.N1 then _ else blk b)=_;rw[if_neg (by omega),if_neg (by omega)];exact hb0)⟩
  rcases e with e | e
  ·have:=(hn.lt _ e).1
   exact absurd this (Nat.not_lt.2 hbN)
  ·have e1:b=c.Fd:=e.1
   omega
 ·obtain ⟨e,he,rfl⟩:=Conc.mem_ofEvents hop
  simp at he
  subst he
  cases hb
  exact hbs
 ·obtain ⟨e,he,rfl⟩:=Conc.mem_ofEvents hop
  simp at he
  subst he
  exact fun e=>by cases e
theorem aD.spawns (h:aD S b0 Sn gs w t z0 zs L ow blk W mm) (hg:gs[0]? = some g) {j b m:Nat} (hz:z0=.sp j b m) (hT:S.GoP j b g):bp S b0 Sn gs w t z0 zs W mm 0:=fun sl=>by
 subst hz
 obtain ⟨a,hg1,hj,_,hbc⟩:=h.a0
 obtain ⟨hbN,hbs,hb0⟩:=h.use b rfl
 obtain ⟨_,g',ch,h1,h2,h3⟩:=S.gop j b g hT hj
 obtain ⟨mc,hwc⟩:=h2.go h.ok3
 obtain ⟨m0,hw0⟩:=h3.go h.ok3
 have hr:=runT_crowd_spawn (P:=P) (sl:=sl) (i:=0) hg (show stepG P (0==0) g w=_ from h1 w)
 have hsz:gs.size=c.S0+j:=h.sz
 have hs1:=S.s1
 have hn1:=S.n1
 have hs:((gs.setIfInBounds 0 g').push ch).size=gs.size+1:=by simp
 let bl2:Nat→Option Nat:=fun q=>if q=b then some gs.size else blk q
 have hb1:bl2 b=some gs.size:=if_pos rfl
 have hb2:∀q,q≠b→bl2 q=blk q:=fun q e=>if_neg e
 have hmem:∀m,cU P c tX J R eB up b0 (aJ zs gs.size (.hd j b m)) (gs.size+1) L ow bl2 w:=fun m=>h.mem.grow hsz (fun k _ e e2=>by
   have e2':k<j:=e2
   have:=Nat.mod_le k c.n
   omega) (z:=.hd j b m) (fun e=>e) (fun k e=>by cases e;exact Nat.mod_eq_of_lt hj) (fun _ _ e=>e) (fun q e=>by obtain rfl:q=b:=e;exact ⟨hbN,hbs,hb1⟩) (fun q i h1 h22=>by
   by_cases e:q=b
   ·rw[e,hb0] at h22;cases h22;omega
   ·rw[hb2 q e];exact h22) (fun q i h2=>by
   by_cases e:q=b
   ·subst e;exact ⟨hbN,hbs⟩
   ·rw[hb2 q e] at h2;exact h.mem.us4 q i h2)
 obtain ⟨z,hzst,hzq,hzm,hzt,hzb,hzc,hzmem,hzmb,hzca,hzlv⟩:∃z:YW P,TW S (L.foldl up b0) 0 z ch w∧qW J z≤10*J+11∧aV z=.no∧¬told z∧bef z=1∧¬closing z∧cU P c tX J R eB up b0 (aJ zs gs.size z) (gs.size+1) L ow bl2 w∧(∀k q s,z≠.mb k q s)∧(∀k E s,z≠.ca k E s)∧deafW z 0 :=
  ⟨.hd j b mc,⟨hj,hwc,hbc⟩,(by show 10*(J-j)+11≤_;omega),rfl,(fun e=>e),rfl,(fun e=>e),hmem mc,(fun k q s e=>by cases e),(fun k E s e=>by cases e),rfl⟩
 have hdf:∀i,Deaf (t++((MemOp.ofEvents 0 g.frame.fn g.frame.place #[]).push { g:=0,fn:=g.frame.fn,pos:=g.frame.place,act:=.go gs.size } |>.push { g:=gs.size,fn:=ch.frame.fn,pos:=g.frame.place,act:=.start })) i=Deaf t i:=fun i=>vB t (fun m e=>by cases e) (fun m e=>by cases e) i
 have hfr:∀f:Nat→YW P→Nat,sumTo gs.size (fun i=>f i (aJ zs gs.size z i))=sumTo gs.size (fun i=>f i (zs i)):=fun f=>sumTo_congr fun i hi=>by rw[aF _ _ (by omega)]
 have hbf:sumTo (gs.size+1) (fun i=>cG c i (aJ zs gs.size z i))=sumTo gs.size (fun i=>cG c i (zs i))+1:=by
  show sumTo gs.size _+cG c gs.size (aJ zs gs.size z gs.size)=_
  rw[hfr,an]
  unfold cG
  rw[if_neg (by omega),hzb]
 have hnc':k9 c zs gs.size→k9 c (aJ zs gs.size z) (gs.size+1):=fun hn i g1 g2=>by
  by_cases e:i=gs.size
  ·subst e;rw[an];exact hzc
  ·rw[aF _ _ e];exact hn i g1 (by omega)
 have hrun:k9 c zs gs.size∧WgAt tW c.C2 w ((lft c (.sp j b m) zs gs.size:Int)*KK) 0:=by
  cases hwg:h.wg with
  | cls j _ _ _ _ hr _ _=>cases hr
  | rls _ _ hr _ _=>cases hr
  | pst _ _ hp _=>exact hp.elim
  | run hnc hps hr hw0 =>
   have e:((lft c (.sp j b m) zs gs.size:Int)*KK+(reg (.sp j b m):Int))=(lft c (.sp j b m) zs gs.size:Int)*KK:=by show _+(0:Int)=_;omega
   rw[e] at hw0
   exact ⟨hnc,hw0⟩
 have hsm:∀f:Mx→Nat,f .no=0→sm (gs.size+1) f (fun i=>aV (aJ zs gs.size z i))=sm gs.size f (fun i=>aV (zs i)):=fun f hf=>by
  show sumTo gs.size _+f (aV (aJ zs gs.size z gs.size))=_
  rw[an,hzm,hf,Nat.add_zero]
  exact hfr (fun _ y=>f (aV y))
 have hmi:MInv (fun i=>aV (aJ zs gs.size z i)) (gs.size+1) W mm:=by
  have hi:=h.mi
  refine ⟨hi.ok,fun i g1=>?_,by rw[hsm _ rfl];exact hi.hd,by rw[hsm _ rfl,hsm _ rfl,hsm _ rfl,hsm _ rfl,hsm _ rfl,hsm _ rfl];exact hi.s0,by rw[hsm _ rfl,hsm _ rfl,hsm _ rfl,hsm _ rfl,hsm _ rfl,hsm _ rfl];exact hi.s1,by rw[hsm _ rfl];exact hi.lv⟩
  by_cases e:i=gs.size
  ·subst e
   show lcM (aV (aJ zs gs.size z gs.size))
   rw[an,hzm];trivial
  ·show lcM (aV (aJ zs gs.size z i))
   rw[aF _ _ e];exact hi.lc i (by omega)
 have htr:Tr3 c Sn (aJ zs gs.size z) (gs.size+1) ow bl2 w.heap.size (t++((MemOp.ofEvents 0 g.frame.fn g.frame.place #[]).push { g:=0,fn:=g.frame.fn,pos:=g.frame.place,act:=.go gs.size } |>.push { g:=gs.size,fn:=ch.frame.fn,pos:=g.frame.place,act:=.start })):=by
  refine Tr3.Ee (h.tr.fork h.df0 (h.dfA _ (Nat.le_refl _)) ⟨rfl,rfl⟩ ⟨rfl,rfl⟩) (q:=b) hb2 hb1 (by rw[hb0];exact fun e=>by cases e) fun l g9 k1 k2 k3=>?_
  have hg0:g9=0:=by
   cases l with
   | cell ad =>
    have h1:=k3
    have h2:=k1
    simp only[bV] at h1 h2
    by_cases e1:ad.block=c.Fd
    ·rw[if_pos e1,if_pos e1] at h1;exact absurd rfl h1
    ·by_cases e2:ad.block<c.N1
     ·rw[if_neg e1,if_neg e1,if_pos e2,if_pos e2] at h1;exact absurd rfl h1
     ·by_cases e3:ad.block=b
      ·rw[if_neg e1,if_neg e2,e3,hb0] at h2;cases h2;rfl
      ·rw[if_neg e1,if_neg e1,if_neg e2,if_neg e2,hb2 _ e3] at h1;exact absurd rfl h1
   | obj p =>
    have h1:=k3
    have h2:=k1
    simp only[bV] at h1 h2
    by_cases e2:p<c.N1
    ·rw[if_pos e2,if_pos e2] at h1;exact absurd rfl h1
    ·by_cases e3:p=b
     ·rw[if_neg e2,e3,hb0] at h2;cases h2;rfl
     ·rw[if_neg e2,if_neg e2,hb2 _ e3] at h1;exact absurd rfl h1
   | _=>cases k1
  subst hg0
  have hpm:=h.tr.ti.mine l 0 k1
  intro i a ha hal
  obtain ⟨x,hx,hxa⟩:=touch_of ha
  have hx':=aX (t:=t) (u:=(MemOp.ofEvents 0 g.frame.fn g.frame.place #[]).push { g:=0,fn:=g.frame.fn,pos:=g.frame.place,act:=.go gs.size } |>.push { g:=gs.size,fn:=ch.frame.fn,pos:=g.frame.place,act:=.start }) (fun op hop=>by
   simp[MemOp.ofEvents] at hop
   rcases hop with rfl | rfl <;> rfl) hx hxa
  exact Go.ConcN.fork_knows (x:={ g:=0,fn:=g.frame.fn,pos:=g.frame.place,act:=.go gs.size }) (y:={ g:=gs.size,fn:=ch.frame.fn,pos:=g.frame.place,act:=.start }) ⟨rfl,rfl⟩ ⟨rfl,rfl⟩ h.df0 (h.dfA _ (Nat.le_refl _)) (hpm i a (by rw[touchAt_of hx'];exact hxa) hal)
 have pool:∀z0',bg c z0'=j+1→reg z0'=0→¬jS z0'→deaf0 z0'=0→(∀u m,z0'≠.w2 u m)→(∀q,¬oJ z0' q)→T0 S z0' g' w→aD S b0 Sn ((gs.setIfInBounds 0 g').push ch) w (t++((MemOp.ofEvents 0 g.frame.fn g.frame.place #[]).push { g:=0,fn:=g.frame.fn,pos:=g.frame.place,act:=.go gs.size } |>.push { g:=gs.size,fn:=ch.frame.fn,pos:=g.frame.place,act:=.start })) z0' (aJ zs gs.size z) L ow bl2 W mm:=fun z0' e1 e2 e3 e4 e5 e6 st=>by
  have hlf:lft c z0' (aJ zs gs.size z) (gs.size+1)=lft c (.sp j b m) zs gs.size:=by
   unfold lft
   rw[hbf,e1]
   show _=(c.n-j)+_
   omega
  refine ⟨by rw[hs,e1];omega,⟨g',?_,st⟩,fun i x g1 g2=>?_,fun i g1=>?_,by rw[hdf,h.df0,e4];rfl,fun i g1 g2=>?_,fun i g1=>?_,?_,fun i k E s g1 g2 g3=>?_,by rw[hs];exact hzmem,by rw[hs];exact htr,by rw[hs];exact hmi,h.mu,fun i k q s g1 g2 g3=>?_,fun q e=>absurd e (e6 q)⟩
  ·rw[Array.getElem?_push,if_neg (by simp;omega),Array.getElem?_setIfInBounds_self_of_lt h.pos]
  ·rw[hdf]
   rw[Array.getElem?_push] at g2
   by_cases e:i=(gs.setIfInBounds 0 g').size
   ·rw[if_pos e] at g2
    cases g2
    rw[show i=gs.size by rw[e];simp,an,h.dfA _ (Nat.le_refl _)]
    exact hzst
   ·rw[if_neg e,Array.getElem?_setIfInBounds_ne (by omega)] at g2
    rw[aF _ _ (by simp at e;exact e)]
    exact h.wk i x g1 g2
  ·rw[aF _ _ (by omega)];exact h.old i g1
  ·rw[hs] at g2
   rw[hdf]
   by_cases e:i=gs.size
   ·subst e;rw[an,h.dfA _ (Nat.le_refl _)];exact hzlv
   ·rw[aF _ _ e];exact h.dfW i g1 (by omega)
  ·rw[hs] at g1
   rw[hdf];exact h.dfA i (by omega)
  ·rw[hs]
   refine .run (hnc' hrun.1) e3 ⟨(fun e=>by rw[e2] at e;cases e),fun u m e=>absurd e (e5 u m)⟩ ?_
   rw[hlf,e2]
   have e:((lft c (.sp j b m) zs gs.size:Int)*KK+((0:Nat):Int))=(lft c (.sp j b m) zs gs.size:Int)*KK:=by omega
   rw[e]
   exact hrun.2
  ·rw[hs] at g2
   by_cases e':i=gs.size
   ·subst e';rw[an] at g3;exact absurd g3 (hzca k E s)
   ·rw[aF _ _ e'] at g3;exact h.shr i k E s g1 (by omega) g3
  ·rw[hs] at g2
   by_cases e':i=gs.size
   ·subst e';rw[an] at g3;exact absurd g3 (hzmb k q s)
   ·rw[aF _ _ e'] at g3;exact h.bl i k q s g1 (by omega) g3
 have sum:sumTo (gs.size+1) (fun i=>qW J (aJ zs gs.size z i))=sumTo gs.size (fun i=>qW J (zs i))+qW J z:=by
  show sumTo gs.size _+qW J (aJ zs gs.size z gs.size)=_
  rw[hfr (fun _ z=>qW J z),an]
 have hpot:m3 (wB c) (fun i=>aV (aJ zs gs.size z i)) (gs.size+1) W mm=m3 (wB c) (fun i=>aV (zs i)) gs.size W mm:=by
  unfold m3
  rw[hsm _ rfl,hsm _ rfl]
 have hless:∀z0',bg c z0'=j+1→(∀v,q0 c v z0'≤q0 c v (.sp j b m))→(∀u v,q0 c u z0'=q0 c v z0')→tot c J z0' (aJ zs gs.size z) (gs.size+1) W mm<tot c J (.sp j b m) zs gs.size W mm:=fun z0' e1 e2 e3=>by
  unfold tot
  rw[sum,hpot,e1]
  have e4:=e2 (lft c (.sp j b m) zs gs.size)
  rw[e3 _ (lft c z0' (aJ zs gs.size z) (gs.size+1))] at e4
  have e5:sumTo gs.size (fun i=>qW J (zs i))+qW J z+(10*J+12)*(c.n-(j+1))+1≤sumTo gs.size (fun i=>qW J (zs i))+(10*J+12)*(c.n-j):=by
   have:c.n-j=(c.n-(j+1))+1:=by omega
   rw[this,Nat.mul_add]
   omega
  have e6:=Nat.mul_le_mul_left (wD c) e5
  rw[Nat.mul_add,Nat.mul_one] at e6
  have:14≤wD c:=by unfold wD;omega
  show _<q0 c (lft c (.sp j b m) zs gs.size) (.sp j b m)+wD c*(_+(10*J+12)*(c.n-j))+_
  omega
 by_cases hlast:j+1<c.n
 ·simp only[if_pos hlast] at hw0
  refine ⟨_,_,_,.al (j+1) m0,_,L,ow,bl2,W,mm,hr,pool _ rfl rfl (fun e=>e) rfl (fun u m e=>by cases e) (fun _ e=>e) ⟨hlast,hw0⟩,?_⟩
  rw[hs]
  exact tI (hless _ rfl (fun v=>by simp only[q0];omega) (fun u v=>rfl))
 ·simp only[if_neg hlast] at hw0
  refine ⟨_,_,_,.wd m0,_,L,ow,bl2,W,mm,hr,pool _ (show c.n=j+1 by omega) rfl (fun e=>e) rfl (fun u m e=>by cases e) (fun _ e=>e) hw0,?_⟩
  rw[hs]
  exact tI (hless _ (show c.n=j+1 by omega) (fun v=>by simp only[q0];omega) (fun u v=>rfl))
end
end Cs
end Go.Proofs.Ytpdemelchhkfaaa
