import Derived.Test.YtgacaecjinlhiaaGreatDoorJn9
namespace Go.Proofs.YtgacaecjinlhiaaGreatDoor
namespace Cs
open Go.Conc
variable [Fns]
section
variable {P:Program} {c:Cst} {Post:Nat→Value→World→Prop} {S:Scr P c Post}
variable {z0:Z0} {zs:Nat→ZW P} {z':ZW P} {n i:Nat}
variable {gs:Array Goroutine} {w w':World} {t:Trace} {fnd:Nat→Option Nat} {RS RS':Nat→Nat→Prop} {blk blk':Nat→Option Nat} {g g' g2:Goroutine} {es:Array Event}
omit [Fns] in
theorem lN {gs:Array Goroutine} {i j:Nat} {x y:Goroutine} (hi:i<gs.size) (hj:j<gs.size) (hij:i≠j):((gs.setIfInBounds j y).setIfInBounds i x).size=gs.size∧((gs.setIfInBounds j y).setIfInBounds i x)[j]? = some y∧((gs.setIfInBounds j y).setIfInBounds i x)[i]? = some x∧∀k,k≠j→k≠i→((gs.setIfInBounds j y).setIfInBounds i x)[k]? = gs[k]?:=by
 refine ⟨by simp,?_,?_,fun k h1 h2=>?_⟩
 ·rw[Array.getElem?_setIfInBounds_ne hij,Array.getElem?_setIfInBounds_self_of_lt hj]
 ·rw[Array.getElem?_setIfInBounds_self_of_lt (by simpa using hi)]
 ·rw[Array.getElem?_setIfInBounds_ne (fun e=>h2 e.symm),Array.getElem?_setIfInBounds_ne (fun e=>h1 e.symm)]
omit [Fns] in
theorem Ii {x1 x2 x3 x4:MemOp} (h1:x1.act.touch? = none∧∀m,x1.act≠.mark m) (h2:x2.act.touch? = none∧∀m,x2.act≠.mark m) (h3:x3.act.touch? = none∧∀m,x3.act≠.mark m) (h4:x4.act.touch? = none∧∀m,x4.act≠.mark m):∀op ∈ (#[x1,x2,x3,x4]:Trace),op.act.touch? = none∧∀m,op.act≠.mark m:=fun op hop=>by
 simp at hop
 rcases hop with rfl | rfl | rfl | rfl
 ·exact h1
 ·exact h2
 ·exact h3
 ·exact h4
theorem mq {sl:Option (Nat × Nat)} {ops:Trace} {gs':Array Goroutine} (hr:runT P (crowd gs w sl) i=(.next (crowd gs' w' sl),ops)) (h:∃z0' zs' fnd' RS' blk',bI S gs' w' (t++ops) z0' zs' fnd' RS' blk'∧pI P [aV P] (me c z0' zs' gs'.size) (me c z0 zs gs.size)) :
  ∃gs' w' ops z0' zs' fnd' RS' blk',runT P (crowd gs w sl) i=(.next (crowd gs' w' sl),ops)∧bI S gs' w' (t++ops) z0' zs' fnd' RS' blk'∧pI P [aV P] (me c z0' zs' gs'.size) (me c z0 zs gs.size):=by
 obtain ⟨z0',zs',fnd',RS',blk',r1,r2⟩:=h
 exact ⟨_,_,_,z0',zs',fnd',RS',blk',hr,r1,r2⟩
theorem bI.asks (h:bI S gs w t z0 zs fnd RS blk) (hi:c.S0≤i) (hg:gs[i]? = some g) (hcm:stepG P false g w=.comm g2 #[rcase c.C1 c.z1] true (.recv true) w #[]) (hrec:S.Rec g2) (hzi:(∃m,zs i=.st m)∨zs i=.aw):gG S gs w t z0 zs i:=fun sl=>by
 have hs1:=S.s1
 have hd:=S.d1
 have his:=bX hg
 have hi0:(i==0)=false:=by simp;omega
 have hcm':stepG P (i==0) g w=.comm g2 #[rcase c.C1 c.z1] true (.recv true) w #[]:=by rw[hi0];exact hcm
 have n1:∀k,¬holds (zs i) k:=by rcases hzi with ⟨m,e⟩ | e <;> rw[e] <;> exact fun _ h=>h
 have n2:3≤pW (zs i):=by rcases hzi with ⟨m,e⟩ | e <;> rw[e] <;> simp only[pW] <;> omega
 have n3:lvN (zs i)=0:=by rcases hzi with ⟨m,e⟩ | e <;> rw[e] <;> rfl
 have hwt:∀j,1≤j→j<gs.size→j≠i→(zs j=.wt→c.C1=c.C1→true=false→False)∧(zs j=.fw→c.C1=c.C2→true=true→False):=fun j _ _ _=>⟨(fun _ _ e=>by cases e),fun _ e _=>hd.2.2.2.1 e⟩
 have hc:=h.c1
 by_cases hcl:closed z0=true
 ·rw[hcl] at hc
  have hp:partners (gs.setIfInBounds i ph) c.C1 true=[]:=h.parts hwt (fun _=>⟨(fun e _ _=>by rw[pz e] at hcl;cases hcl),fun _ e _=>hd.2.2.2.1 e⟩)
  have hr:=crowd_recv_closed (P:=P) (sl:=sl) hg hcm' hc hp
  rw[finishComm_recv] at hr
  obtain ⟨m,hw⟩:=S.zC g2 hrec w h.mem.ok
  refine ⟨_,_,_,z0,bW zs i (.fi m),fnd,RS,blk,hr,h.Gz (by omega) his hw rfl rfl (fun _ _ _ _ _ _=>rfl) (fun e=>by omega) (fun _ e=>by cases e) (fun e=>by rw[hcl] at e;cases e) (fun _ e=>by cases e) (fun _ e=>by cases e) (by rw[n3];rfl) (fun _ _ _ e=>by cases e) ?_ ?_,?_⟩
  ·exact h.mem.one S (fun _ _ _=>rfl) ⟨rfl,rfl,rfl⟩ (fun k=>⟨fun e=>e.elim,fun e=>(n1 k e).elim⟩) (fun _ e=>e.elim) (fun _ _ _ e=>by cases e)
  ·refine h.tr.mute (fun op hop=>?_) (fun op hop m hm=>?_) (Nat.le_refl _) (dP fun _ e=>e)
   ·simp[MemOp.ofEvents] at hop
    subst hop;rfl
   ·simp[MemOp.ofEvents] at hop
    subst hop;cases hm
  ·rw[Array.size_setIfInBounds]
   exact zv his (by show 2<pW (zs i);omega)
 ·have hcl:closed z0=false:=by cases e:closed z0 with
   | true=>exact absurd e hcl
   | false=>rfl
  rw[hcl] at hc
  have hst:∃m,zs i=.st m:=by
   rcases hzi with h1 | h1
   ·exact h1
   ·have:=h.ph2 hcl i hi his
    rw[h1] at this
    exact this.elim
  by_cases hsd:∃k,z0=.sdW k
  ·obtain ⟨k,rfl⟩:=hsd
   obtain ⟨a,hg0,hk,g0,hs0,rfl⟩:=h.a0
   have hp:=h.Hx (i:=i) (r:=c.C1) (send:=true) (by omega) hg0 (by rw[offersAt_parked_send,if_pos rfl]) hwt
   have hr:=crowd_recv_meets (P:=P) (sl:=sl) hg hcm' hc (show 0≠i by omega) hg0 hp
   rw[finishComm_send,finishComm_recv,ofEvents_none,Array.empty_append] at hr
   obtain ⟨q1,q2,q3,q4⟩:=lN (x:=Conc.served g2 (recvd true (.int .i64 (k:Nat)) true)) (y:=Conc.served g0 undef) his h.pos (show i≠0 by omega)
   exact mq hr (h.handed (d:=w.drawn) hi his (m:=0) hk (.inl rfl) hs0 hrec (.inl hst) (Ii ⟨rfl,(fun _ e=>by cases e)⟩ ⟨rfl,(fun _ e=>by cases e)⟩ ⟨rfl,(fun _ e=>by cases e)⟩ ⟨rfl,(fun _ e=>by cases e)⟩) q1 q2 q3 q4)
  ·have hp:partners (gs.setIfInBounds i ph) c.C1 true=[]:=h.parts hwt (fun _=>⟨fun e _ _=>hsd e,fun _ e _=>hd.2.2.2.1 e⟩)
   have hr:=crowd_waits (P:=P) (sl:=sl) hg hcm' (fun cc hcc=>by
    simp at hcc
    subst hcc
    exact ways_recv_none hc hp)
   obtain ⟨m,hst⟩:=hst
   refine ⟨_,_,_,z0,bW zs i .wt,fnd,RS,blk,hr,h.Gz (by omega) his ⟨g2,hrec,rfl⟩ rfl rfl (fun _ _ _ _ _ _=>rfl) (fun e=>by omega) (fun e=>by rw[hcl] at e;cases e) (fun _ _=>trivial) (fun e=>absurd e hsd) (fun _ e=>by cases e) (by rw[n3];rfl) (fun _ _ _ e=>by cases e) ?_ ?_,?_⟩
   ·exact h.mem.one S (fun _ _ _=>rfl) ⟨rfl,rfl,rfl⟩ (fun k=>⟨fun e=>e.elim,fun e=>(n1 k e).elim⟩) (fun _ e=>e.elim) (fun _ _ _ e=>by cases e)
   ·exact h.tr.mute (fun op hop=>by simp[MemOp.ofEvents] at hop) (fun op hop m hm=>by simp[MemOp.ofEvents] at hop) (Nat.le_refl _) (dP fun _ e=>e)
   ·rw[Array.size_setIfInBounds]
    exact zv his (by rw[hst];show 4<5;omega)
theorem bI.KW (h:bI S gs w t z0 zs fnd RS blk) (hi:c.S0≤i) (hg:gs[i]? = some g) (hsnd:S.Snd g) {m:Nat} (hzi:zs i=.fi m):gG S gs w t z0 zs i:=fun sl=>by
 have hs1:=S.s1
 have hd:=S.d1
 have his:=bX hg
 have hi0:(i==0)=false:=by simp;omega
 have hcm':stepG P (i==0) g w=.comm g #[scase c.C2 (.bool true) c.zs2] true .send w #[]:=by rw[hi0];exact (S.CZ g hsnd).2.1 w
 have hwt:∀j,1≤j→j<gs.size→j≠i→(zs j=.wt→c.C2=c.C1→false=false→False)∧(zs j=.fw→c.C2=c.C2→false=true→False):=fun j _ _ _=>⟨fun _ e _=>hd.2.2.2.1 e.symm,fun _ _ e=>by cases e⟩
 have hc:=h.c2
 have hcl:closed z0=true:=by
  cases e:closed z0 with
  | true=>rfl
  | false=>have:=h.ph2 e i hi his;rw[hzi] at this;exact this.elim
 by_cases hrc:∃r,z0=.rcW r
 ·obtain ⟨r,rfl⟩:=hrc
  obtain ⟨a,hg0,hr,g0,hs0,rfl⟩:=h.a0
  have hp:=h.Hx (i:=i) (r:=c.C2) (send:=false) (by omega) hg0 (by rw[offersAt_parked_recv,if_pos rfl]) hwt
  have hr':=crowd_send_meets (P:=P) (sl:=sl) hg hcm' hc (show 0≠i by omega) hg0 hp
  rw[finishComm_send,finishComm_recv,ofEvents_none,Array.empty_append] at hr'
  obtain ⟨q1,q2,q3,q4⟩:=lN (x:=Conc.served g undef) (y:=Conc.served g0 (recvd false (.bool true) true)) his h.pos (show i≠0 by omega)
  exact mq hr' (h.told (d:=w.drawn) hi his (m:=0) hr (.inl rfl) hs0 hsnd (.inl ⟨m,hzi⟩) ⟨rfl,rfl⟩ ⟨rfl,(fun _ e=>by cases e)⟩ ⟨rfl,(fun _ e=>by cases e)⟩ ⟨rfl,rfl⟩ q1 q2 q3 q4)
 ·have hp:partners (gs.setIfInBounds i ph) c.C2 false=[]:=h.parts hwt (fun _=>⟨(fun _ _ e=>by cases e),fun e _ _=>hrc e⟩)
  have hr:=crowd_waits (P:=P) (sl:=sl) hg hcm' (fun cc hcc=>by
   simp at hcc
   subst hcc
   exact ways_send_none hc (Nat.zero_le _) hp)
  refine ⟨_,_,_,z0,bW zs i .fw,fnd,RS,blk,hr,h.Gz (by omega) his ⟨g,hsnd,rfl⟩ rfl rfl (fun _ _ _ _ _ _=>rfl) (fun e=>by omega) (fun _ e=>by cases e) (fun e=>by rw[hcl] at e;cases e) (fun _ e=>by cases e) (fun e=>absurd e hrc) (by rw[hzi];rfl) (fun _ _ _ e=>by cases e) ?_ ?_,?_⟩
  ·exact h.mem.one S (fun _ _ _=>rfl) ⟨rfl,rfl,rfl⟩ (fun k=>by rw[hzi];exact Iff.rfl) (fun _ e=>e.elim) (fun _ _ _ e=>by cases e)
  ·exact h.tr.mute (fun op hop=>by simp[MemOp.ofEvents] at hop) (fun op hop m hm=>by simp[MemOp.ofEvents] at hop) (Nat.le_refl _) (dP fun _ e=>e)
  ·rw[Array.size_setIfInBounds]
   exact zv his (by rw[hzi];show 1<2;omega)
end
end Cs
namespace Cs
open Go.Conc
open Go.ConcN (sumTo sumTo_congr)
theorem pJ {f f':Nat→Nat} (h:∀i,f' i≤f i):∀n,sumTo n f'≤sumTo n f
 | 0=>Nat.le_refl _
 | n+1=>Nat.add_le_add (pJ h n) (h n)
theorem jB {a b:Goroutine} {cs cs':Array CommCase} {sh sh':CommShape} (h:parked a cs sh=parked b cs' sh'):cs=cs'∧sh=sh'∧∀v,Conc.served a v=Conc.served b v:=by
 have h1:=congrArg Goroutine.offers h
 simp only[parked,Option.some.injEq,Prod.mk.injEq] at h1
 refine ⟨h1.1,h1.2,fun v=>?_⟩
 have h2:Conc.served (parked a cs sh) v=Conc.served (parked b cs' sh') v:=by rw[h]
 exact h2
variable [Fns]
section
variable {P:Program} {c:Cst} {Post:Nat→Value→World→Prop} {S:Scr P c Post}
variable {z0 z0':Z0} {zs:Nat→ZW P} {n i:Nat}
variable {gs:Array Goroutine} {w w':World} {t:Trace} {fnd:Nat→Option Nat} {RS RS':Nat→Nat→Prop} {blk blk':Nat→Option Nat} {g g' g2:Goroutine} {es:Array Event}
inductive pN:Z0→Z0→Nat→(Goroutine→Prop)→Prop
 | sp (j m:Nat):pN (.sp j (m+1)) (.sp j m) m (S.GoP j)
 | sd (k m:Nat):pN (.sd k (m+1)) (.sd k m) m (S.tE k)
 | cl (m:Nat):pN (.cl (m+1)) (.cl m) m S.ClP
 | rc (r m:Nat):pN (.rc r (m+1)) (.rc r m) m (fun g=>if r<c.n then S.oW r g else S.JnP g)
theorem bI.tQ (h:bI S gs w t z0 zs fnd RS blk) (hg:gs[0]? = some g) {m:Nat} {Stp:Goroutine→Prop} (al:pN (S:=S) z0 z0' m Stp) (hst:stepG P true g w=.go g' w' es) (hd:DQ c w w' es) (hw:Walk P c true Stp m g' w'):gG S gs w t z0 zs 0:=fun sl=>by
 obtain ⟨a,hg1,st0⟩:=h.a0
 have hN:c.N1≤w'.heap.size:=by rw[hd.heap];exact h.mem.ok.big
 have facts:St0 S z0' g' w'∧eN c z0'=eN c z0∧sent c z0'=sent c z0∧closed z0'=closed z0∧rcvd z0'=rcvd z0∧(¬∃k,z0'=.sdW k)∧(¬∃k,z0'=.rcW k)∧p0 c z0'=p0 c z0∧rq P [aV P] (mi0 z0') (mi0 z0):=by
  cases al with
  | sp j m=>exact ⟨⟨st0.1,hw⟩,rfl,rfl,rfl,rfl,(fun ⟨_,e⟩=>by cases e),(fun ⟨_,e⟩=>by cases e),rfl,.walk (Nat.lt_succ_self _)⟩
  | sd j m=>exact ⟨⟨st0.1,hw⟩,rfl,rfl,rfl,rfl,(fun ⟨_,e⟩=>by cases e),(fun ⟨_,e⟩=>by cases e),rfl,.walk (Nat.lt_succ_self _)⟩
  | cl m=>exact ⟨hw,rfl,rfl,rfl,rfl,(fun ⟨_,e⟩=>by cases e),(fun ⟨_,e⟩=>by cases e),rfl,.walk (Nat.lt_succ_self _)⟩
  | rc r m=>exact ⟨⟨st0.1,hw⟩,rfl,rfl,rfl,rfl,(fun ⟨_,e⟩=>by cases e),(fun ⟨_,e⟩=>by cases e),rfl,.walk (Nat.lt_succ_self _)⟩
 obtain ⟨f1,f2,f3,f4,f5,f6,f7,f8,f9⟩:=facts
 have hr:=runT_crowd_go (P:=P) (sl:=sl) (i:=0) hg (show stepG P (0==0) g w=_ from hst)
 rw[h.quiet (by rw[hd.heap]) (by rw[hd.heap])] at hr
 refine ⟨_,_,_,z0',zs,fnd,RS,blk,hr,h.Cg f1 ⟨hd.heap,hd.os,hd.output⟩ f2 f3 f4 f5 (fun e=>absurd e f6) (fun e=>absurd e f7) ?_,?_⟩
 ·exact h.tr.reads (.inl rfl) hd.evs hN (by rw[hd.heap];exact Nat.le_refl _) (fun _ h=>h) (fun e=>absurd rfl e)
 ·rw[Array.size_setIfInBounds]
  exact KP f8 f9
theorem bI.spawns (h:bI S gs w t z0 zs fnd RS blk) (hg:gs[0]? = some g) {j m:Nat} (hz:z0=.sp j m) (hst:S.GoP j g):gG S gs w t z0 zs 0:=fun sl=>by
 subst hz
 obtain ⟨a,hg1,hj,_⟩:=h.a0
 obtain ⟨_,g',ch,h1,h2,h3⟩:=S.gop j g hst hj
 obtain ⟨mc,hwc⟩:=h2 w h.mem.ok
 obtain ⟨m0,hw0⟩:=h3 w h.mem.ok
 have hr:=runT_crowd_spawn (P:=P) (sl:=sl) (i:=0) hg (show stepG P (0==0) g w=_ from h1 w)
 have hsz:gs.size=c.S0+j:=h.sz
 have hs1:=S.s1
 have hs:((gs.setIfInBounds 0 g').push ch).size=gs.size+1:=by simp
 have mem:=h.mem.grow (m:=mc)
 have pool:∀z0',eN c z0'=j+1→sent c z0'=0→closed z0'=false→rcvd z0'=0→(¬∃k,z0'=.sdW k)→(¬∃k,z0'=.rcW k)→St0 S z0' g' w→bI S ((gs.setIfInBounds 0 g').push ch) w (t++((MemOp.ofEvents 0 g.frame.fn g.frame.place #[]).push { g:=0,fn:=g.frame.fn,pos:=g.frame.place,act:=.go gs.size } |>.push { g:=gs.size,fn:=ch.frame.fn,pos:=g.frame.place,act:=.start })) z0' (bW zs gs.size (.st mc)) fnd RS blk:=fun z0' e1 e2 e3 e4 e5 e6 st=>by
  refine ⟨by rw[hs,e1];omega,⟨g',?_,st⟩,fun i x g1 g2=>?_,fun i g1 g2=>?_,by rw[e2,e3];exact h.c1,by rw[e4];exact h.c2,(fun e=>by rw[e3] at e;cases e),fun e i g1 g2=>?_,fun e=>absurd e e5,fun e=>absurd e e6,?_,fun i k E s g1 g2 g3=>?_,by rw[hs,e2];exact mem,by rw[hs];exact h.tr.fork ⟨rfl,rfl⟩ ⟨rfl,rfl⟩⟩
  ·rw[Array.getElem?_push,if_neg (by simp;omega),Array.getElem?_setIfInBounds_self_of_lt h.pos]
  ·rw[Array.getElem?_push] at g2
   by_cases e:i=(gs.setIfInBounds 0 g').size
   ·rw[if_pos e] at g2
    cases g2
    rw[show i=gs.size by rw[e];simp,ay]
    exact hwc
   ·rw[if_neg e,Array.getElem?_setIfInBounds_ne (by omega)] at g2
    rw[aC _ _ (by simp at e;exact e)]
    exact h.wk i x g1 g2
  ·rw[aC _ _ (by omega)];exact h.old i g1 g2
  ·rw[hs] at g2
   by_cases e':i=gs.size
   ·subst e';rw[ay];trivial
   ·rw[aC _ _ e'];exact h.ph2 rfl i g1 (by omega)
  ·rw[hs,e4]
   have k1:sumTo gs.size (fun i=>lvF c i (bW zs gs.size (.st mc) i))=sumTo gs.size (fun i=>lvF c i (zs i)):=sumTo_congr fun i hi=>by rw[aC _ _ (by omega)]
   have k2:sumTo gs.size (fun i=>lvF c i (zs i))=0:=h.cnt
   show sumTo gs.size _+lvF c gs.size (bW zs gs.size (.st mc) gs.size)=0
   rw[k1,k2,ay]
   unfold lvF
   split <;> rfl
  ·rw[hs] at g2
   by_cases e':i=gs.size
   ·subst e';rw[ay] at g3;cases g3
   ·rw[aC _ _ e'] at g3;exact h.shr i k E s g1 (by omega) g3
 have sum:sumTo (gs.size+1) (fun i=>pW (bW zs gs.size (.st mc) i))=sumTo gs.size (fun i=>pW (zs i))+5:=by
  have k1:sumTo gs.size (fun i=>pW (bW zs gs.size (.st mc) i))=sumTo gs.size (fun i=>pW (zs i)):=sumTo_congr fun i hi=>by rw[aC _ _ (by omega)]
  show sumTo gs.size _+pW (bW zs gs.size (.st mc) gs.size)=_
  rw[k1,ay]
  rfl
 by_cases hlast:j+1<c.n
 ·simp only[if_pos hlast] at hw0
  refine ⟨_,_,_,.sp (j+1) m0,_,fnd,RS,blk,hr,pool _ rfl rfl rfl rfl (fun ⟨_,e⟩=>by cases e) (fun ⟨_,e⟩=>by cases e) ⟨hlast,hw0⟩,?_⟩
  rw[hs]
  refine Prod.Lex.left _ _ ?_
  rw[sum]
  simp only[p0]
  omega
 ·simp only[if_neg hlast] at hw0
  refine ⟨_,_,_,.sd 0 m0,_,fnd,RS,blk,hr,pool _ (show c.n=j+1 by omega) rfl rfl rfl (fun ⟨_,e⟩=>by cases e) (fun ⟨_,e⟩=>by cases e) ⟨S.k1,hw0⟩,?_⟩
  rw[hs]
  refine Prod.Lex.left _ _ ?_
  rw[sum]
  simp only[p0]
  omega
theorem bI.Jg (h:bI S gs w t z0 zs fnd RS blk) (hg:gs[0]? = some g) {k m:Nat} (hz:z0=.sd k m) (hst:S.tE k g):gG S gs w t z0 zs 0:=fun sl=>by
 subst hz
 have hd:=S.d1
 obtain ⟨a,hg1,hk,_⟩:=h.a0
 have hcm:stepG P (0==0) g w=.comm g #[scase c.C1 (.int .i64 (k:Nat)) c.zs1] true .send w #[]:=(S.Kl k g hst hk).2.1 w
 have hc:=h.c1
 by_cases hw:∃j,1≤j∧j<gs.size∧zs j=.wt
 ·have at_wt:∀j x,1≤j→gs[j]? = some x→zs j=.wt→∃g',S.Rec g'∧x=parked g' #[rcase c.C1 c.z1] (.recv true):=fun j x h1 h2 h3=>by
   have:=h.wk j x h1 h2
   rw[h3] at this
   exact this
  have hne:partners (gs.setIfInBounds 0 ph) c.C1 false≠[]:=fun e=>by
   obtain ⟨j,h1,h2,h3⟩:=hw
   obtain ⟨g',_,h4⟩:=at_wt j gs[j] h1 (Array.getElem?_eq_getElem h2) h3
   have:(j,0) ∈ partners (gs.setIfInBounds 0 ph) c.C1 false:=mem_partners.2 ⟨gs[j],by rw[Array.getElem?_setIfInBounds_ne (by omega)];exact Array.getElem?_eq_getElem h2,by rw[h4,offersAt_parked_recv,if_pos rfl];simp⟩
   rw[e] at this
   cases this
  have hall:∀j k,(j,k) ∈ partners (gs.setIfInBounds 0 ph) c.C1 false→k=0∧j≠0∧∃gj zj shj,gs[j]? = some (parked gj #[rcase c.C1 zj] shj):=fun j k' hjk=>by
   obtain ⟨x,h1,h2⟩:=mem_partners.1 hjk
   rcases getElem?_stand gs 0 j x h1 with ⟨_,rfl⟩ | ⟨hj,hx⟩
   ·rw[offersAt_ph] at h2;cases h2
   ·rcases (h.wk j x (by omega) hx).off h.mem.ok c.C1 false with h3 | ⟨h3,_⟩ | ⟨_,h3,_⟩
    ·rw[h3] at h2;cases h2
    ·obtain ⟨g',_,rfl⟩:=at_wt j x (by omega) hx h3
     rw[offersAt_parked_recv,if_pos rfl] at h2
     simp at h2
     exact ⟨h2,hj,g',_,_,hx⟩
    ·exact (hd.2.2.2.1 h3).elim
  obtain ⟨j,gj,zj,shj,d,hj0,hgj,hr⟩:=crowd_send_meets_some (P:=P) (sl:=sl) hg hcm hc hne hall
  have hz:zs j=.wt:=by
   rcases (h.wk j _ (by omega) hgj).status h.mem.ok with h3 | ⟨_,h3 | h3⟩ | ⟨h3,_⟩
   ·cases h3
   ·exact h3
   ·have:=h.wk j _ (by omega) hgj
    rw[h3] at this
    obtain ⟨g',_,e⟩:=this
    have:=(jB e).1
    simp[rcase,scase] at this
   ·cases h3
  obtain ⟨g',hrec,e⟩:=at_wt j _ (by omega) hgj hz
  obtain ⟨_,e2,e3⟩:=jB e
  subst e2
  rw[finishComm_send,finishComm_recv,ofEvents_none,Array.empty_append,e3] at hr
  have hjS:c.S0≤j:=by
   rcases Nat.lt_or_ge j c.S0 with h4 | h4
   ·obtain ⟨q,h5⟩:=h.old j (by omega) h4
    rw[h5] at hz;cases hz
   ·exact h4
  obtain ⟨q1,q2,q3,q4⟩:=lN (x:=Conc.served g undef) (y:=Conc.served g' (recvd true (.int .i64 (k:Nat)) true)) h.pos (bX hgj) (show 0≠j by omega)
  exact mq hr (h.handed (d:=d) hjS (bX hgj) hk (.inr rfl) hst hrec (.inr hz) (Ii ⟨rfl,(fun _ e=>by cases e)⟩ ⟨rfl,(fun _ e=>by cases e)⟩ ⟨rfl,(fun _ e=>by cases e)⟩ ⟨rfl,(fun _ e=>by cases e)⟩) q1 q3 q2 (fun k h1 h2=>q4 k h2 h1))
 ·have hno:∀j,1≤j→j<gs.size→zs j≠.wt:=fun j h1 h2 h3=>hw ⟨j,h1,h2,h3⟩
  have hp:partners (gs.setIfInBounds 0 ph) c.C1 false=[]:=h.parts (fun j h1 h2 _=>⟨(fun e _ _=>hno j h1 h2 e),(fun _ _ e=>by cases e)⟩) (fun e=>absurd rfl e)
  have hr:=crowd_waits (P:=P) (sl:=sl) hg hcm (fun cc hcc=>by
   simp at hcc
   subst hcc
   exact ways_send_none hc (Nat.zero_le _) hp)
  refine ⟨_,_,_,.sdW k,zs,fnd,RS,blk,hr,h.Cg (z0':=.sdW k) ⟨hk,g,hst,rfl⟩ ⟨rfl,rfl,rfl⟩ rfl rfl rfl rfl (fun _=>hno) (fun ⟨_,e⟩=>by cases e) ?_,?_⟩
  ·exact h.tr.mute (fun op hop=>by simp[MemOp.ofEvents] at hop) (fun op hop m hm=>by simp[MemOp.ofEvents] at hop) (Nat.le_refl _) (fun _ h=>h)
  ·rw[Array.size_setIfInBounds]
   exact Io (by simp only[p0];omega)
theorem bI.IP (h:bI S gs w t z0 zs fnd RS blk) (hg:gs[0]? = some g) {r m:Nat} (hz:z0=.rc r m) (hrn:r<c.n) (hst:S.oW r g):gG S gs w t z0 zs 0:=fun sl=>by
 subst hz
 have hd:=S.d1
 have hcm:stepG P (0==0) g w=.comm g #[rcase c.C2 c.z2] true (.recv false) w #[]:=(S.JA r g hst hrn).2.1 w
 have hc:=h.c2
 by_cases hw:∃j,1≤j∧j<gs.size∧zs j=.fw
 ·have at_fw:∀j x,1≤j→gs[j]? = some x→zs j=.fw→∃g',S.Snd g'∧x=parked g' #[scase c.C2 (.bool true) c.zs2] .send:=fun j x h1 h2 h3=>by
   have:=h.wk j x h1 h2
   rw[h3] at this
   exact this
  have hne:partners (gs.setIfInBounds 0 ph) c.C2 true≠[]:=fun e=>by
   obtain ⟨j,h1,h2,h3⟩:=hw
   obtain ⟨g',_,h4⟩:=at_fw j gs[j] h1 (Array.getElem?_eq_getElem h2) h3
   have:(j,0) ∈ partners (gs.setIfInBounds 0 ph) c.C2 true:=mem_partners.2 ⟨gs[j],by rw[Array.getElem?_setIfInBounds_ne (by omega)];exact Array.getElem?_eq_getElem h2,by rw[h4,offersAt_parked_send,if_pos rfl];simp⟩
   rw[e] at this
   cases this
  have hall:∀j k,(j,k) ∈ partners (gs.setIfInBounds 0 ph) c.C2 true→k=0∧j≠0∧∃gj vj zj shj,gs[j]? = some (parked gj #[scase c.C2 vj zj] shj):=fun j k' hjk=>by
   obtain ⟨x,h1,h2⟩:=mem_partners.1 hjk
   rcases getElem?_stand gs 0 j x h1 with ⟨_,rfl⟩ | ⟨hj,hx⟩
   ·rw[offersAt_ph] at h2;cases h2
   ·rcases (h.wk j x (by omega) hx).off h.mem.ok c.C2 true with h3 | ⟨_,h3,_⟩ | ⟨h3,_⟩
    ·rw[h3] at h2;cases h2
    ·exact (hd.2.2.2.1 h3.symm).elim
    ·obtain ⟨g',_,rfl⟩:=at_fw j x (by omega) hx h3
     rw[offersAt_parked_send,if_pos rfl] at h2
     simp at h2
     exact ⟨h2,hj,g',_,_,_,hx⟩
  obtain ⟨j,gj,vj,zj,shj,d,hj0,hgj,hr⟩:=crowd_recv_meets_some (P:=P) (sl:=sl) hg hcm hc hne hall
  have hz:zs j=.fw:=by
   rcases (h.wk j _ (by omega) hgj).status h.mem.ok with h3 | ⟨_,h3 | h3⟩ | ⟨h3,_⟩
   ·cases h3
   ·have:=h.wk j _ (by omega) hgj
    rw[h3] at this
    obtain ⟨g',_,e⟩:=this
    have:=(jB e).1
    simp[rcase,scase] at this
   ·exact h3
   ·cases h3
  obtain ⟨g',hsnd,e⟩:=at_fw j _ (by omega) hgj hz
  obtain ⟨e1,e2,e3⟩:=jB e
  subst e2
  have hv:vj=.bool true:=by simp[scase] at e1;exact e1.1
  subst hv
  rw[finishComm_send,finishComm_recv,ofEvents_none,Array.empty_append,e3] at hr
  have hjS:c.S0≤j:=by
   rcases Nat.lt_or_ge j c.S0 with h4 | h4
   ·obtain ⟨q,h5⟩:=h.old j (by omega) h4
    rw[h5] at hz;cases hz
   ·exact h4
  obtain ⟨q1,q2,q3,q4⟩:=lN (x:=Conc.served g (recvd false (.bool true) true)) (y:=Conc.served g' undef) h.pos (bX hgj) (show 0≠j by omega)
  exact mq hr (h.told (d:=d) hjS (bX hgj) hrn (.inr rfl) hst hsnd (.inr hz) ⟨rfl,rfl⟩ ⟨rfl,(fun _ e=>by cases e)⟩ ⟨rfl,(fun _ e=>by cases e)⟩ ⟨rfl,rfl⟩ q1 q3 q2 (fun k h1 h2=>q4 k h2 h1))
 ·have hno:∀j,1≤j→j<gs.size→zs j≠.fw:=fun j h1 h2 h3=>hw ⟨j,h1,h2,h3⟩
  have hp:partners (gs.setIfInBounds 0 ph) c.C2 true=[]:=h.parts (fun j h1 h2 _=>⟨(fun _ e _=>hd.2.2.2.1 e.symm),(fun e _ _=>hno j h1 h2 e)⟩) (fun e=>absurd rfl e)
  have hr:=crowd_waits (P:=P) (sl:=sl) hg hcm (fun cc hcc=>by
   simp at hcc
   subst hcc
   exact ways_recv_none hc hp)
  refine ⟨_,_,_,.rcW r,zs,fnd,RS,blk,hr,h.Cg (z0':=.rcW r) ⟨hrn,g,hst,rfl⟩ ⟨rfl,rfl,rfl⟩ rfl rfl rfl rfl (fun ⟨_,e⟩=>by cases e) (fun _=>hno) ?_,?_⟩
  ·exact h.tr.mute (fun op hop=>by simp[MemOp.ofEvents] at hop) (fun op hop m hm=>by simp[MemOp.ofEvents] at hop) (Nat.le_refl _) (fun _ h=>h)
  ·rw[Array.size_setIfInBounds]
   exact Io (by simp only[p0];omega)
end
end Cs
end Go.Proofs.YtgacaecjinlhiaaGreatDoor
