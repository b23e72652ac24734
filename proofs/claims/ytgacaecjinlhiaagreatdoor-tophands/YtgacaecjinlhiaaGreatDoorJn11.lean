import Derived.Test.YtgacaecjinlhiaaGreatDoorJn10
namespace Go.Proofs.YtgacaecjinlhiaaGreatDoor
namespace Cs
open Go.Conc
open Go.ConcN (sumTo sumTo_congr)
variable [Fns]
section
variable {P:Program} {c:Cst} {Post:Nat→Value→World→Prop} {S:Scr P c Post}
variable {z0 z0':Z0} {zs:Nat→ZW P} {n i:Nat}
variable {gs:Array Goroutine} {w w':World} {t:Trace} {fnd:Nat→Option Nat} {RS RS':Nat→Nat→Prop} {blk blk':Nat→Option Nat} {g g' g2:Goroutine} {es:Array Event}
def awk:ZW P→ZW P
 | .wt=>.aw
 | z=>z
theorem bI.closes (h:bI S gs w t z0 zs fnd RS blk) (hg:gs[0]? = some g) {m:Nat} (hz:z0=.cl m) (hst:S.ClP g):gG S gs w t z0 zs 0:=fun sl=>by
 subst hz
 have hd:=S.d1
 obtain ⟨_,hmw,g',h1,h2,h3⟩:=S.clp g hst
 have hstep:=h1 w _ _ h.c1
 have hr:=runT_crowd_go (P:=P) (sl:=sl) (i:=0) hg (show stepG P (0==0) g w=_ from hstep)
 generalize hw':({ w with heap:=w.heap.setIfInBounds c.C1 (.chan 0 #[] true (sent c (.cl m)) (sent c (.cl m)) false) }:World)=w' at hr
 have hat:w'.heap[c.C1]? = some (.chan 0 #[] true c.K c.K false):=by rw[←hw'];exact setChan_at (w:=w) h.c1
 have hne:∀q,q≠c.C1→w'.heap[q]? = w.heap[q]?:=fun q hq=>by rw[←hw'];exact fM (w:=w) hq
 have hsize:w'.heap.size=w.heap.size:=by rw[←hw'];exact eu (w:=w)
 have hc2:w'.heap[c.C2]? = some (.chan 0 #[] false 0 0 false):=(hne _ (fun e=>hd.2.2.2.1 e.symm)).trans h.c2
 have hh:∀z:ZW P,(∀k,holds (awk z) k↔holds z k)∧(∀q,eY (awk z) q→eY z q)∧(∀k v m,awk z=.po k v m→z=.po k v m)∧awk z≠.wt∧lvN (awk z)=lvN z∧pW (awk z)≤pW z∧(¬gA z→¬gA (awk z))∧(∀k E s,awk z=.ca k E s→z=.ca k E s)∧(z≠.wt→awk z=z)∧((∃q,z=.lv q)→∃q,awk z=.lv q):=fun z=>by
  cases z with
  | wt=>exact ⟨(fun _=>Iff.rfl),(fun _ e=>e),(fun _ _ _ e=>by cases e),(fun e=>by cases e),rfl,(show 3≤4 by omega),(fun e=>e),(fun _ _ _ e=>by cases e),(fun e=>absurd rfl e),(fun ⟨_,e⟩=>by cases e)⟩
  | _=>exact ⟨(fun _=>Iff.rfl),(fun _ e=>e),(fun _ _ _ e=>e),(fun e=>by cases e),rfl,(Nat.le_refl _),(fun e=>e),(fun _ _ _ e=>e),(fun _=>rfl),(fun e=>e)⟩
 have mem:Mem P c Post (fun i=>awk (zs i)) gs.size c.K fnd RS blk w':=h.mem.fK (fun q hq _=>hne q hq) ⟨hsize,by rw[←hw'],by rw[←hw']⟩ S.chans (fun i k _ _=>(hh (zs i)).1 k) (fun i q _ _=>(hh (zs i)).2.1 q) (fun i k v m _ _ e=>⟨m,(hh (zs i)).2.2.1 k v m e⟩)
 obtain ⟨m0,hw0⟩:=h3 w' mem.ok
 have e0:(fun g=>if 0<c.n then S.oW 0 g else S.JnP g)=S.oW 0:=funext fun g=>if_pos S.n1
 have hsz:((gs.map (woken P g g' w')).setIfInBounds 0 g').size=gs.size:=by simp
 refine ⟨_,_,_,.rc 0 m0,fun i=>awk (zs i),fnd,RS,blk,hr,⟨by rw[hsz];exact h.sz,⟨g',Array.getElem?_setIfInBounds_self_of_lt (by simpa using h.pos),Nat.zero_le _,by rw[e0];exact hw0⟩,fun j x g1 g2=>?_,fun j g1 g2=>(hh (zs j)).2.2.2.2.2.2.2.2.2 (h.old j g1 g2),hat,hc2,fun _ j _ _=>(hh (zs j)).2.2.2.1,(fun e=>by cases e),(fun ⟨_,e⟩=>by cases e),(fun ⟨_,e⟩=>by cases e),?_,fun j k E s g1 g2 g3=>h.shr j k E s g1 (hsz ▸ g2) ((hh (zs j)).2.2.2.2.2.2.2.1 k E s g3),by rw[hsz];exact mem,?_⟩,?_⟩
 ·rw[Array.getElem?_setIfInBounds_ne (by omega),Array.getElem?_map] at g2
  obtain ⟨y,hy,rfl⟩:=Option.map_eq_some_iff.1 g2
  by_cases e:zs j=.wt
  ·have hs:=h.wk j y g1 hy
   rw[e] at hs
   obtain ⟨g1',hrec,rfl⟩:=hs
   show StW S (awk (zs j)) _ w'
   rw[e]
   refine ⟨g1',hrec,?_⟩
   unfold woken
   rw[if_pos (by rw[hmw,h2];rfl)]
   exact again_recv_closed hat
  ·show StW S (awk (zs j)) _ w'
   rw[(hh (zs j)).2.2.2.2.2.2.2.2.1 e,(h.wk j y g1 hy).woken h.mem.ok (fun e'=>absurd e' e) ⟨_,_,hc2⟩]
   exact h.keep mem.ok (i:=0) (fun j q a1 a2 _ a3=>hne q (by have:=(h.mem.us1 j q a1 a2 a3).1;omega)) j y g1 (by omega) hy
 ·rw[hsz]
  have k1:sumTo gs.size (fun i=>lvF c i (awk (zs i)))=sumTo gs.size (fun i=>lvF c i (zs i)):=sumTo_congr fun i _=>by unfold lvF;rw[(hh (zs i)).2.2.2.2.1]
  rw[k1]
  exact h.cnt
 ·rw[hsz,hsize]
  have key:∀op ∈ MemOp.ofEvents 0 g.frame.fn g.frame.place #[⟨.obj c.C1,false,true⟩,⟨.obj c.C1,true,true⟩],op.g=0∧(op.act=.access ⟨.obj c.C1,false,true⟩∨op.act=.close c.C1):=fun op hop=>by
   obtain ⟨e,he,rfl⟩:=Conc.mem_ofEvents hop
   simp at he
   rcases he with rfl | rfl
   ·exact ⟨rfl,.inl rfl⟩
   ·exact ⟨rfl,.inr rfl⟩
  refine h.tr.own (.inl rfl) (fun op hop=>⟨(key op hop).1,fun b hb=>?_⟩) (fun op hop m hm=>?_) (Nat.le_refl _) (fun op hop b hb=>?_) (fun op hop b ad hb hl _=>?_) (fun j=>(hh (zs j)).2.2.2.2.2.2.1) (fun e=>absurd rfl e)
  ·rcases (key op hop).2 with e | e <;> rw[e] at hb <;> cases hb
   exact .inr ⟨by simp only[dB,if_pos hd.1],rfl⟩
  ·rcases (key op hop).2 with e | e <;> rw[e] at hm <;> cases hm
  ·rcases (key op hop).2 with e | e <;> rw[e] at hb <;> cases hb
   exact Nat.lt_of_lt_of_le hd.1 h.mem.ok.big
  ·rcases (key op hop).2 with e | e <;> rw[e] at hb <;> cases hb
   cases hl
 ·rw[hsz]
  refine Prod.Lex.left _ _ ?_
  have:=pJ (fun i=>(hh (zs i)).2.2.2.2.2.1) gs.size
  simp only[p0]
  omega
omit [Fns] in
theorem Dc {zs:Nat→ZW P} {S0:Nat}:∀n,(∀j,j<n→lvN (zs (S0+j))=1)→sumTo (S0+n) (fun i=>if i<S0 then 0 else lvN (zs i))=n
 | 0,_=>by
  have:∀k,k≤S0→sumTo k (fun i=>if i<S0 then 0 else lvN (zs i))=0:=fun k=>by
   induction k with
   | zero=>intro _;rfl
   | succ k ih =>
    intro hk
    show sumTo k _+(if k<S0 then 0 else _)=0
    rw[ih (by omega),if_pos (by omega)]
  exact this S0 (Nat.le_refl _)
 | n+1,h=>by
  show sumTo (S0+n) _+(if S0+n<S0 then 0 else lvN (zs (S0+n)))=n+1
  rw[Dc n (fun j hj=>h j (by omega)),if_neg (by omega),h n (by omega)]
omit [Fns] in
theorem Iz {zs:Nat→ZW P} {S0:Nat}:∀n,sumTo (S0+n) (fun i=>if i<S0 then 0 else lvN (zs i))≤n
 | 0=>by
  have:∀k,k≤S0→sumTo k (fun i=>if i<S0 then 0 else lvN (zs i))=0:=fun k=>by
   induction k with
   | zero=>intro _;rfl
   | succ k ih =>
    intro hk
    show sumTo k _+(if k<S0 then 0 else _)=0
    rw[ih (by omega),if_pos (by omega)]
  exact Nat.le_of_eq (this S0 (Nat.le_refl _))
 | n+1=>by
  show sumTo (S0+n) _+(if S0+n<S0 then 0 else lvN (zs (S0+n)))≤n+1
  have:=Iz (zs:=zs) (S0:=S0) n
  rw[if_neg (by omega)]
  have:lvN (zs (S0+n))≤1:=by cases zs (S0+n) <;> first | exact Nat.zero_le _ | exact Nat.le_refl _
  omega
omit [Fns] in
theorem zQ {zs:Nat→ZW P} {S0:Nat}:∀n,sumTo (S0+n) (fun i=>if i<S0 then 0 else lvN (zs i))=n→∀j,j<n→lvN (zs (S0+j))=1
 | 0,_=>fun j hj=>by omega
 | n+1,h=>fun j hj=>by
  have h1:sumTo (S0+n) (fun i=>if i<S0 then 0 else lvN (zs i))+(if S0+n<S0 then 0 else lvN (zs (S0+n)))=n+1:=h
  rw[if_neg (by omega)] at h1
  have h2:=Iz (zs:=zs) (S0:=S0) n
  have h3:lvN (zs (S0+n))≤1:=by cases zs (S0+n) <;> first | exact Nat.zero_le _ | exact Nat.le_refl _
  rcases Nat.lt_or_ge j n with h4 | h4
  ·exact zQ n (by omega) j h4
  ·obtain rfl:j=n:=by omega
   omega
theorem bI.alive (h:bI S gs w t z0 zs fnd RS blk):∃(i:Nat) (g:Goroutine),gs[i]? = some g∧g.status=.running:=by
 obtain ⟨a,hg0,st0⟩:=h.a0
 have hn1:=S.n1
 have hs1:=S.s1
 rcases st0.status h.mem.ok with hr | ⟨_,⟨k,rfl⟩ | ⟨r,rfl⟩⟩
 ·exact ⟨0,a,hg0,hr⟩
 ·have hsz:gs.size=c.S0+c.n:=h.sz
  have hlt:c.S0<gs.size:=by omega
  refine ⟨c.S0,gs[c.S0],Array.getElem?_eq_getElem hlt,?_⟩
  have he:=h.ph2 rfl c.S0 (Nat.le_refl _) hlt
  rcases (h.wk c.S0 _ (by omega) (Array.getElem?_eq_getElem hlt)).status h.mem.ok with h1 | ⟨_,h1 | h1⟩ | ⟨_,q,h1⟩
  ·exact h1
  ·exact absurd h1 (h.nw1 ⟨k,rfl⟩ c.S0 (by omega) hlt)
  ·rw[h1] at he;exact he.elim
  ·rw[h1] at he;exact he.elim
 ·have hsz:gs.size=c.S0+c.n:=h.sz
  have hrn:r<c.n:=st0.1
  have hex:∃j,j<c.n∧lvN (zs (c.S0+j))≠1:=by
   apply Classical.byContradiction
   intro hno
   have:sumTo gs.size (fun i=>lvF c i (zs i))=c.n:=by
    rw[hsz]
    exact Dc c.n fun j hj=>Classical.byContradiction fun e=>hno ⟨j,hj,e⟩
   rw[h.cnt] at this
   have this:r=c.n:=this
   omega
  obtain ⟨j,hj,hl⟩:=hex
  have hlt:c.S0+j<gs.size:=by omega
  refine ⟨c.S0+j,gs[c.S0+j],Array.getElem?_eq_getElem hlt,?_⟩
  rcases (h.wk (c.S0+j) _ (by omega) (Array.getElem?_eq_getElem hlt)).status h.mem.ok with h1 | ⟨_,h1 | h1⟩ | ⟨_,q,h1⟩
  ·exact h1
  ·exact absurd h1 (h.ph1 rfl _ (by omega) hlt)
  ·exact absurd h1 (h.nw2 ⟨r,rfl⟩ _ (by omega) hlt)
  ·rw[h1] at hl;exact absurd rfl hl
theorem bI.K7 (hG:P.globals.size≤Fns.G) (hC:cJ P) (h:bI S gs w t z0 zs fnd RS blk) (hg:gs[i]? = some g) (hr:g.status=.running):gG S gs w t z0 zs i∨(i=0∧S.JnP g∧∃m,z0=.rc c.n m):=by
 rcases Nat.eq_zero_or_pos i with rfl | hi
 ·obtain ⟨a,hg0,st0⟩:=h.a0
  rw[hg] at hg0
  cases hg0
  cases z0 with
  | sp j m =>
   rcases st0.2.cases with hs | ⟨m',rfl,hs⟩
   ·exact .inl (h.spawns hg rfl (hs w h.mem.ok).2)
   ·obtain ⟨g',w',es,h1,h2,h3⟩:=hs w h.mem.ok
    exact .inl (h.tQ hg (.sp j m') h1 h2 h3)
  | sd k m =>
   rcases st0.2.cases with hs | ⟨m',rfl,hs⟩
   ·exact .inl (h.Jg hg rfl (hs w h.mem.ok).2)
   ·obtain ⟨g',w',es,h1,h2,h3⟩:=hs w h.mem.ok
    exact .inl (h.tQ hg (.sd k m') h1 h2 h3)
  | sdW k =>
   obtain ⟨_,g',_,rfl⟩:=st0
   cases hr
  | cl m =>
   have st1:Walk P c true S.ClP m g w:=st0
   rcases st1.cases with hs | ⟨m',rfl,hs⟩
   ·exact .inl (h.closes hg rfl (hs w h.mem.ok).2)
   ·obtain ⟨g',w',es,h1,h2,h3⟩:=hs w h.mem.ok
    exact .inl (h.tQ hg (.cl m') h1 h2 h3)
  | rc r m =>
   rcases st0.2.cases with hs | ⟨m',rfl,hs⟩
   ·have hst:=(hs w h.mem.ok).2
    by_cases hrn:r<c.n
    ·simp only[if_pos hrn] at hst
     exact .inl (h.IP hg rfl hrn hst)
    ·simp only[if_neg hrn] at hst
     have:r≤c.n:=st0.1
     obtain rfl:r=c.n:=by omega
     exact .inr ⟨rfl,hst,m,rfl⟩
   ·obtain ⟨g',w',es,h1,h2,h3⟩:=hs w h.mem.ok
    exact .inl (h.tQ hg (.rc r m') h1 h2 h3)
  | rcW r =>
   obtain ⟨_,g',_,rfl⟩:=st0
   cases hr
 ·left
  have his:=bX hg
  rcases Nat.lt_or_ge i c.S0 with hlo | hS
  ·obtain ⟨q,hq⟩:=h.old i hi hlo
   exact h.leaves hi hg hr hq
  ·have st0:=h.wk i g hi hg
   cases hz:zs i with
   | st m =>
    rw[hz] at st0
    have st1:Walk P c false S.Rec m g w:=st0
    rcases st1.cases with hs | ⟨m',rfl,hs⟩
    ·have hrec:=(hs w h.mem.ok).2
     exact h.asks hS hg ((S.B5 g hrec).2 w) hrec (.inl ⟨m,hz⟩)
    ·obtain ⟨g',w',es,h1,h2,h3⟩:=hs w h.mem.ok
     exact h.walks hS hg hz (.st m') h1 h2 h3
   | wt =>
    rw[hz] at st0
    obtain ⟨g',_,rfl⟩:=st0
    cases hr
   | aw =>
    rw[hz] at st0
    obtain ⟨g',hrec,rfl⟩:=st0
    obtain ⟨⟨fr,cs,rfl⟩,hcm⟩:=S.B5 g' hrec
    exact h.asks hS hg (by rw[stepG_tries];exact hcm w) hrec (.inr hz)
   | pr k m =>
    have st0':=st0
    rw[hz] at st0'
    rcases st0'.2.cases with hs | ⟨m',rfl,hs⟩
    ·have hk:k<c.K:=st0'.1
     obtain ⟨cal,rest,rfl,hcont⟩:=S.cal k g (hs w h.mem.ok).2 hk
     obtain ⟨E,wl,x,e1,e2,e3,e4,e5⟩:=S.job k hk w h.mem.ok
     refine h.uO hG hC hS hg hk (bh.start hC S.fok e2 e3 e4 e5) hcont (fun q=>?_) (fun j=>by rw[hz];exact Iff.rfl) (fun b q s e=>(e1 b q s false e).2) (by rw[hz];rfl) (.inl (by rw[hz];rfl))
     rw[hz]
     exact ⟨fun e=>e.elim,fun ⟨b,s,e⟩=>by have:=(e1 b q s true e).1;cases this⟩
    ·obtain ⟨g',w',es,h1,h2,h3⟩:=hs w h.mem.ok
     exact h.walks hS hg hz (.pr k m') h1 h2 h3
   | ca k E s =>
    rw[hz] at st0
    obtain ⟨hk,cal,rest,hin,hcont⟩:=st0
    exact h.uO hG hC hS hg hk hin hcont (fun q=>by rw[hz];exact Iff.rfl) (fun j=>by rw[hz];exact Iff.rfl) (h.shr i k E s hS his hz) (by rw[hz];rfl) (.inr ⟨s,hz,rfl⟩)
   | po k v m =>
    have st0':=st0
    rw[hz] at st0'
    rcases st0'.2.2.cases with hs | ⟨m',rfl,hs⟩
    ·exact h.JN hS hg hz (hs w h.mem.ok).2
    ·obtain ⟨g',w',es,h1,h2,h3⟩:=hs w h.mem.ok
     exact h.walks hS hg hz (.po k v m') h1 h2 h3
   | fi m =>
    rw[hz] at st0
    have st1:Walk P c false S.Snd m g w:=st0
    rcases st1.cases with hs | ⟨m',rfl,hs⟩
    ·exact h.KW hS hg (hs w h.mem.ok).2 hz
    ·obtain ⟨g',w',es,h1,h2,h3⟩:=hs w h.mem.ok
     exact h.walks hS hg hz (.fi m') h1 h2 h3
   | fw =>
    rw[hz] at st0
    obtain ⟨g',_,rfl⟩:=st0
    cases hr
   | lv q=>exact h.leaves hi hg hr hz
def Joined (S:Scr P c Post) (m:Machine) (t:Trace):Prop :=
 ∃gs w sl zs fnd RS blk mm g,m=crowd gs w sl∧bI S gs w t (.rc c.n mm) zs fnd RS blk∧gs[0]? = some g∧S.JnP g∧g.status=.running
theorem bI.runs (hG:P.globals.size≤Fns.G) (hC:cJ P) (h:bI S gs w t z0 zs fnd RS blk) (sl:Option (Nat × Nat)):∃N m' t',runNT P N (crowd gs w sl) t=(.next m',t')∧Joined S m' t':=by
 refine iI (KO P [aV P]) (fun μ m t=>∃gs w sl z0 zs fnd RS blk,m=crowd gs w sl∧bI S gs w t z0 zs fnd RS blk∧μ=me c z0 zs gs.size) (Joined S) ?_ (me c z0 zs gs.size) _ t ⟨gs,w,sl,z0,zs,fnd,RS,blk,rfl,h,rfl⟩
 rintro μ m t ⟨gs,w,sl,z0,zs,fnd,RS,blk,rfl,h,rfl⟩
 obtain ⟨i,g,d,sl',hi,hr,hst⟩:=crowd_pick (P:=P) (w:=w) (sl:=sl) h.awake h.alive
 rcases (h.LW d).K7 hG hC hi hr with hm | ⟨rfl,hj,mm,rfl⟩
 ·obtain ⟨gs',w',ops,z0',zs',fnd',RS',blk',h1,h2,h3⟩:=hm sl'
  exact .inr ⟨_,ops,_,hst.trans h1,h3,gs',w',sl',z0',zs',fnd',RS',blk',rfl,h2,rfl⟩
 ·exact .inl ⟨gs,w,sl,zs,fnd,RS,blk,mm,g,rfl,h,hi,hj,hr⟩
end
end Cs
namespace Cs
open Go.Conc
open Go.ConcN (sumTo sumTo_congr)
theorem gq {t:Trace} (h:Wdl t) (g:Nat):Deaf t g=0:=h.deaf g
theorem Cd (t:Trace):∃B0,∀B,B0≤B→∀op ∈ t,op.act.low B:=by
 have one:∀x:MemAct,∃B0,∀B,B0≤B→x.low B:=fun x=>by
  cases x with
  | access e =>
   obtain ⟨l,wr,s⟩:=e
   cases l with
   | cell a=>exact ⟨a.block+1,fun B hB=>(show a.block<B by omega)⟩
   | obj r=>exact ⟨r+1,fun B hB=>(show r<B by omega)⟩
   | _=>exact ⟨0,fun _ _=>trivial⟩
  | mark m =>
   cases m with
   | acquire a | release a | releaseMerge a | read a | write a=>exact ⟨a.block+1,fun B hB=>(show a.block<B by omega)⟩
   | _=>exact ⟨0,fun _ _=>trivial⟩
  | go _ | start=>exact ⟨0,fun _ _=>trivial⟩
  | send c _ | sendDone c _ | recv c _ _ | recvDone c _ | close c | recvClosed c=>exact ⟨c+1,fun B hB=>(show c<B by omega)⟩
 have:∀l:List MemOp,∃B0,∀B,B0≤B→∀op ∈ l,op.act.low B:=fun l=>by
  induction l with
  | nil=>exact ⟨0,fun _ _ _ h=>by cases h⟩
  | cons a l ih =>
   obtain ⟨b1,h1⟩:=ih
   obtain ⟨b2,h2⟩:=one a.act
   refine ⟨b1+b2,fun B hB op hop=>?_⟩
   rcases List.mem_cons.1 hop with rfl | h
   ·exact h2 B (by omega)
   ·exact h1 B (by omega) op h
 obtain ⟨b,h⟩:=this t.toList
 exact ⟨b,fun B hB op hop=>h B hB op (Array.mem_toList_iff.2 hop)⟩
variable [Fns]
section
variable {P:Program} {c:Cst} {Post:Nat→Value→World→Prop} {S:Scr P c Post}
variable {w:World} {t:Trace} {g:Goroutine}
end
end Cs
namespace Cs
open Go.Conc
open Go.ConcN (sumTo sumTo_congr upd upd_same upd_ne sumTo_upd)
structure Qt (P:Program) (gs:Array Goroutine) (t:Trace) (q:Nat→Nat) (size:Nat):Prop where
 lv:∀i g,0<i→gs[i]? = some g→QuitsIn P (q i) g
 clean:∀said,¬Race said t
 words:Wdl t
 kn:∀j x a,t[j]? = some x→x.act.touch? = some a→Knows t 0 j
 low:∀j a,touchAt t j=some a→gD size a.loc
def EvW (size:Nat) (e:Event):Prop:=(∀x,(MemAct.ofEvent e).touch? = some x→gD size x.loc)∧∀m,MemAct.ofEvent e=.mark m→Neutral m
section
variable {P:Program} {gs gs':Array Goroutine} {t:Trace} {q q':Nat→Nat} {size size':Nat}
theorem Qt.own (h:Qt P gs t q size) {fn:FuncId} {pos:String} {es:Array Event} (hs:size≤size') (hes:∀e ∈ es,EvW size' e) (hlv:∀i g,0<i→gs'[i]? = some g→QuitsIn P (q i) g):Qt P gs' (t++MemOp.ofEvents 0 fn pos es) q size':=by
 have key:∀op ∈ MemOp.ofEvents 0 fn pos es,op.g=0∧(∀x,op.act.touch? = some x→gD size' x.loc)∧∀m,op.act=.mark m→Neutral m:=fun op hop=>by
  obtain ⟨e,he,rfl⟩:=Conc.mem_ofEvents hop
  exact ⟨rfl,hes e he⟩
 refine ⟨hlv,fun said=>noRace_append (h.clean said) (fun op hop=>(key op hop).1) fun i a ha op hop b hb hc=>?_,h.words.append fun op hop m hm=>(key op hop).2.2 m hm,fun j x a hx ha=>?_,fun j a ha=>?_⟩
 ·obtain ⟨x,hx,hxa⟩:=touch_of ha
  exact h.kn i x a hx hxa
 ·rcases getElem?_append_cases hx with ⟨_,hx'⟩ | ⟨_,hxu⟩
  ·exact (h.kn j x a hx' ha).app _
  ·have:=knows_own hx
   rw[(key x hxu).1] at this
   exact this
 ·obtain ⟨x,hx,hxa⟩:=touch_of ha
  rcases getElem?_append_cases hx with ⟨_,hx'⟩ | ⟨_,hxu⟩
  ·exact jm hs (h.low j a (by rw[touchAt_of hx'];exact hxa))
  ·exact (key x hxu).2.1 a hxa
theorem Qt.set (h:Qt P gs t q size) (hlv:∀i g,0<i→gs'[i]? = some g→QuitsIn P (q' i) g):Qt P gs' t q' size:=⟨hlv,h.clean,h.words,h.kn,h.low⟩
theorem Qt.GD (h:Qt P gs t q size):Leavers P t gs q:=⟨fun i g h1 h2=>by rw[gq h.words];exact QuitsD.of_quitsIn (h.lv i g h1 h2),fun j _=>gq h.words j⟩
theorem Qt.past (h:Qt P gs t q size):∃B0,∀B,B0≤B→Past (fun _=>False) B t:=by
 obtain ⟨B0,hB0⟩:=Cd t
 refine ⟨B0,fun B hB=>⟨h.clean,fun i a ha _=>?_,fun i g hg0 hne hc=>?_,gq h.words 0,hB0 B hB⟩⟩
 ·obtain ⟨x,hx,hxa⟩:=touch_of ha
  exact .inl (h.kn i x a hx hxa)
 ·obtain ⟨a,ha,_⟩:=hc
  obtain ⟨x,hx,hxa⟩:=touch_of ha
  obtain ⟨j,z,h1,h2,h3⟩:=h.kn i x a hx hxa
  refine ⟨j,by simp[Trace.g?,h1,h2],?_⟩
  rcases h3 with rfl | h3
  ·rw[hx] at h1
   cases h1
   simp[Trace.g?,hx] at hg0
   omega
  ·exact h3
theorem beside {α:Type} {r:α→α→Prop} (wf:WellFounded r) (I:α→Goroutine→World→Prop) (Q:Goroutine→World→Prop) (hI:∀μ g w d,I μ g w→I μ g (w.at d)) (hQ:∀g w d,Q g (w.at d)→Q g w) (hrun:∀μ g w,I μ g w→g.status=.running)
  (hstep:∀μ g w,I μ g w→Q g w∨∃g' w' es μ',stepG P true g w=.go g' w' es∧r μ' μ∧I μ' g' w'∧w.heap.size≤w'.heap.size∧∀e ∈ es,EvW w'.heap.size e) {μ:α} {g:Goroutine} {w:World} {sl:Option (Nat × Nat)} (h0:gs[0]? = some g) (hi:I μ g w) (hq:Qt P gs t q w.heap.size) :
  ∃N gs' w' sl' t' q' g',runNT P N (crowd gs w sl) t=(.next (crowd gs' w' sl'),t')∧gs'.size=gs.size∧gs'[0]? = some g'∧Q g' w'∧Qt P gs' t' q' w'.heap.size:=by
 have key:=iI (P:=P) (Prod.lex ⟨r,wf⟩ ⟨_,Nat.lt_wfRel.wf⟩).wf (fun (μ:α × Nat) m t=>∃gs' w sl q g,m=crowd gs' w sl∧gs'.size=gs.size∧gs'[0]? = some g∧I μ.1 g w∧Qt P gs' t q w.heap.size∧μ.2=sumTo gs'.size q)
  (fun m t=>∃gs' w sl q g,m=crowd gs' w sl∧gs'.size=gs.size∧gs'[0]? = some g∧Q g w∧Qt P gs' t q w.heap.size) ?_ (μ,sumTo gs.size q) _ t ⟨gs,w,sl,q,g,rfl,rfl,h0,hi,hq,rfl⟩
 ·obtain ⟨N,m',t',h1,gs',w',sl',q',g',rfl,h2,h3,h4,h5⟩:=key
  exact ⟨N,gs',w',sl',t',q',g',h1,h2,h3,h4,h5⟩
 ·rintro ⟨μ,k⟩ m t ⟨gs,w,sl,q,g,rfl,hsz,h0,hi,hq,rfl⟩
  have hg:=hrun μ g w hi
  have haw:∀x ∈ gs,awake x:=fun x hx=>by
   obtain ⟨i,hlt,rfl⟩:=Array.mem_iff_getElem.1 hx
   rcases Nat.eq_zero_or_pos i with rfl | hp
   ·have:gs[0]=g:=by simpa [Array.getElem?_eq_getElem hlt] using h0
    rw[this];exact awake_of (.inl hg)
   ·rcases (hq.lv i _ hp (Array.getElem?_eq_getElem hlt)).status with h3 | h3
    ·exact awake_of (.inl h3)
    ·exact awake_of (.inr (.inr h3))
  obtain ⟨i,x,d,sl',hx,hxr,hst⟩:=crowd_pick (P:=P) (w:=w) (sl:=sl) haw ⟨0,g,h0,hg⟩
  have quiet:∀(a a' y:Goroutine) (w':World) (j:Nat),(gs.map (woken P a a' w')).setIfInBounds j y=gs.setIfInBounds j y:=fun a a' y w' j=>ir fun k z _ hz=>by
   rcases Nat.eq_zero_or_pos k with rfl | hp
   ·rw[h0] at hz
    cases hz
    exact woken_running hg
   ·exact woken_quits (hq.lv k z hp hz)
  rcases Nat.eq_zero_or_pos i with rfl | hp
  ·rw[h0] at hx
   cases hx
   rcases hstep μ g (w.at d) (hI μ g w d hi) with h1 | ⟨g',w',es,μ',h1,h2,h3,h4,h5⟩
   ·exact .inl ⟨gs,w,sl,q,g,rfl,hsz,h0,hQ g w d h1,hq⟩
   ·have hr:=runT_crowd_go (P:=P) (sl:=sl') (i:=0) h0 (show stepG P (0==0) g (w.at d)=_ from h1)
    rw[quiet] at hr
    refine .inr ⟨_,_,(μ',sumTo gs.size q),hst.trans hr,Prod.Lex.left _ _ h2,_,w',sl',q,g',rfl,by rw[Array.size_setIfInBounds];exact hsz,Array.getElem?_setIfInBounds_self_of_lt (bX h0),h3,hq.own (gs':=gs.setIfInBounds 0 g') h4 h5 fun k z hk hz=>?_,by rw[Array.size_setIfInBounds]⟩
    rw[Array.getElem?_setIfInBounds_ne (by omega)] at hz
    exact hq.lv k z hk hz
  ·have hqi:=hq.lv i x hp hx
   cases hqe:q i with
   | zero =>
    rw[hqe] at hqi
    have:x.status=.finished:=hqi
    rw[hxr] at this;cases this
   | succ n =>
    rw[hqe] at hqi
    rcases hqi with hf | ⟨_,x',hstp,hq'⟩
    ·rw[hxr] at hf;cases hf
    ·have hr:=runT_crowd_go (P:=P) (sl:=sl') (i:=i) hx (by rw[show (i==0)=false by simp;omega];exact hstp (w.at d))
     rw[quiet] at hr
     have hsum:sumTo gs.size (upd q i n)+(n+1)=sumTo gs.size q+n:=by
      have:=sumTo_upd q n id (bX hx)
      simpa [hqe] using this
     refine .inr ⟨_,_,(μ,sumTo gs.size (upd q i n)),hst.trans hr,Prod.Lex.right _ (show _<_ by omega),_,w.at d,sl',upd q i n,g,rfl,by rw[Array.size_setIfInBounds];exact hsz,?_,hI μ g w d hi,?_,by rw[Array.size_setIfInBounds]⟩
     ·rw[Array.getElem?_setIfInBounds_ne (by omega)];exact h0
     ·have e:t++MemOp.ofEvents i x.frame.fn x.frame.place #[]=t:=by rw[ofEvents_none,Array.append_empty]
      rw[e]
      refine hq.set fun k z hk hz=>?_
      by_cases ek:k=i
      ·subst ek
       rw[Array.getElem?_setIfInBounds_self_of_lt (bX hx)] at hz
       cases hz
       rw[upd_same];exact hq'
      ·rw[Array.getElem?_setIfInBounds_ne (fun e=>ek e.symm)] at hz
       rw[upd_ne _ _ ek]
       exact hq.lv k z hk hz
end
variable [Fns]
section
variable {P:Program} {c:Cst} {S:Nat→Value→World→Prop}
inductive sv (P:Program):Option { s:Gh // Acc (After P [aV P]) s }→Option { s:Gh // Acc (After P [aV P]) s }→Prop
 | back (s):sv P none (some s)
 | on {s s'} (h:After P [aV P] s'.1 s.1):sv P (some s') (some s)
omit [Fns] in
theorem uH (P:Program):WellFounded (sv P):=by
 have h0:Acc (sv P) none:=Acc.intro _ fun y hy=>by cases hy
 refine ⟨fun a=>?_⟩
 cases a with
 | none=>exact h0
 | some s =>
  obtain ⟨s,hs⟩:=s
  induction hs with
  | intro s hs ih =>
   refine Acc.intro _ fun y hy=>?_
   cases hy with
   | back=>exact h0
   | @on _ s' h=>exact ih s'.1 h
theorem qE {E:Env} {wl w:World} (hw:WR P E wl w) {e:Event} (h:iV E e):EvW w.heap.size e:=by
 have lo:∀b q s o,E b=some (q,s,o)→q<w.heap.size:=fun b q s o e=>by
  cases o with
  | true =>
   obtain ⟨_,_,o',_,h3,_⟩:=hw.own b q s e
   exact (Array.getElem?_eq_some_iff.1 h3).1
  | false =>
   obtain ⟨_,_,_,_,_,_,_,h3,_⟩:=hw.shared b q s e
   exact (Array.getElem?_eq_some_iff.1 h3).1
 cases h with
 | read hE=>exact ⟨(fun x e=>by cases e;exact lo _ _ _ _ hE),(fun m e=>by cases e)⟩
 | write hE=>exact ⟨(fun x e=>by cases e;exact lo _ _ _ _ hE),(fun m e=>by cases e)⟩
 | @obj r b s wr hE =>
  have e1:MemAct.ofEvent ⟨.obj r,wr,false⟩=.access ⟨.obj r,wr,false⟩:=by cases wr <;> rfl
  exact ⟨(fun x e=>by rw[e1] at e;cases e;exact lo _ _ _ _ hE),(fun m e=>by rw[e1] at e;cases e)⟩
 | noRoom=>exact ⟨(fun x e=>by cases e),(fun m e=>by cases e;rfl)⟩
theorem gb {Post:Value→World→Prop} (hG:P.globals.size≤Fns.G) (hC:cJ P) {gs:Array Goroutine} {t:Trace} {q:Nat→Nat} {g:Goroutine} {w:World} {sl:Option (Nat × Nat)} {cal:Frame} {rest:List Frame} {E:Env} {gl:Goroutine} {wl:World} (h0:gs[0]? = some g) (hin:bh P Post (cal :: rest) E gl wl g w) (hq:Qt P gs t q w.heap.size) :
  ∃N gs' w' sl' t' q' E' v v' wl2,runNT P N (crowd gs w sl) t=(.next (crowd gs' w' sl'),t')∧gs'.size=gs.size∧gs'[0]? = some (G (cal.finish v') rest)∧Post v wl2∧VR E' v v'∧WR P E' wl2 w'∧FC E E' w w'∧Qt P gs' t' q' w'.heap.size:=by
 let Q:Goroutine→World→Prop:=fun g' w'=>∃E' v v' wl2,g'=G (cal.finish v') rest∧Post v wl2∧VR E' v v'∧WR P E' wl2 w'∧FC E E' w w'
 let I:Option { s:Gh // Acc (After P [aV P]) s }→Goroutine→World→Prop:=fun μ g' w'=>match μ with
  | some s=>∃E',bh P Post (cal :: rest) E' s.1.1 s.1.2 g' w'∧FC E E' w w'
  | none=>Q g' w'
 have fcAt:∀{E':Env} {w':World} (d:Nat),FC E E' w w'→FC E E' w (w'.at d):=fun d h=>⟨h.le,h.os,h.tape,h.output,h.size,h.keep,h.fresh⟩
 have fcAt':∀{E':Env} {w':World} (d:Nat),FC E E' w (w'.at d)→FC E E' w w':=fun d h=>⟨h.le,h.os,h.tape,h.output,h.size,h.keep,h.fresh⟩
 have a1:∀μ g' w' d,I μ g' w'→I μ g' (w'.at d):=fun μ g' w' d h=>by
  cases μ with
  | none =>
   obtain ⟨E',v,v',wl2,e,k1,k2,k3,k4⟩:=h
   exact ⟨E',v,v',wl2,e,k1,k2,k3.keep fun _ _ _ _ _=>rfl,fcAt d k4⟩
  | some s =>
   obtain ⟨E',h1,h2⟩:=h
   exact ⟨E',h1.other fun _ _ _=>rfl,fcAt d h2⟩
 have a2:∀g' w' d,Q g' (w'.at d)→Q g' w':=fun g' w' d h=>by
  obtain ⟨E',v,v',wl2,e,k1,k2,k3,k4⟩:=h
  exact ⟨E',v,v',wl2,e,k1,k2,k3.keep fun _ _ _ _ _=>rfl,fcAt' d k4⟩
 have a3:∀μ g' w',I μ g' w'→g'.status=.running:=fun μ g' w' h=>by
  cases μ with
  | none =>
   obtain ⟨E',v,v',wl2,rfl,_⟩:=h
   rfl
  | some s =>
   obtain ⟨E',h1,h2⟩:=h
   exact h1.running
 have a4:∀μ g' w',I μ g' w'→Q g' w'∨∃g2 w2 es μ',stepG P true g' w'=.go g2 w2 es∧sv P μ' μ∧I μ' g2 w2∧w'.heap.size≤w2.heap.size∧∀e ∈ es,EvW w2.heap.size e:=fun μ g' w' h=>by
  cases μ with
  | none=>exact .inl h
  | some s =>
   obtain ⟨E1,hin1,hf1⟩:=h
   right
   by_cases hs:Stop [aV P] s.1.1
   ·obtain ⟨v,wl2,E',v',w2,es,hpost,hvr,hwr,hst,hev,hfc⟩:=hin1.ret true hs
    exact ⟨_,w2,es,none,hst,.back s,⟨E',v,v',wl2,rfl,hpost,hvr,hwr,hf1.trans hfc⟩,hfc.size,fun e he=>qE hwr (hev e he)⟩
   ·obtain ⟨E',gl',wl',g2,w2,es,hst,hin',haft,hev,hfc⟩:=hin1.step hG hC true hs
    exact ⟨g2,w2,es,some ⟨(gl',wl'),fR hin'.live⟩,hst,.on haft,⟨E',hin',hf1.trans hfc⟩,hfc.size,fun e he=>qE hin'.wr (hev e he)⟩
 obtain ⟨N,gs',w',sl',t',q',g',h1,h2,h3,⟨E',v,v',wl2,rfl,k1,k2,k3,k4⟩,h5⟩:=beside (P:=P) (uH P) I Q a1 a2 a3 a4 (μ:=some ⟨(gl,wl),fR hin.live⟩) (sl:=sl) h0 ⟨E,hin,FC.refl E w⟩ hq
 exact ⟨N,gs',w',sl',t',q',E',v,v',wl2,h1,h2,h3,k1,k2,k3,k4,h5⟩
end
end Cs
end Go.Proofs.YtgacaecjinlhiaaGreatDoor
