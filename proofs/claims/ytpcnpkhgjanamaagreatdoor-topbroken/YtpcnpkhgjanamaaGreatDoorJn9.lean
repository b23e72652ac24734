import Derived.Test.YtpcnpkhgjanamaaGreatDoorPz
import Derived.Test.YtpcnpkhgjanamaaGreatDoorJn8
namespace Go.Proofs.YtpcnpkhgjanamaaGreatDoor
open Go renaming Value→R2,World→V8,Goroutine→Wi,Program→Wr,stepG→Xe,Event→Ym,Trace→Y7
open Go.MemOp renaming ofEvents→WX
open _root_.Array renaming size_setIfInBounds→WZ
open Go.Conc renaming served→Xr,getElem?_append_cases→Xw,finishComm_recv→ZT
open _root_.Prod.Lex renaming left→Zf
namespace Cs
open Go.Conc
variable[aT]
section
variable{P:Wr}{c:fX}{Post:Nat→R2→V8→Prop}{S:yq P c Post}
variable{z0:Z0}{zs:Nat→ZW P}{z':ZW P}{n i:Nat}
variable{gs:Array Wi}{w w':V8}{t:Y7}{bU:Nat→Option Nat}{RS RS':Nat→Nat→Prop}{blk blk':Nat→Option Nat}{g g' g2:Wi}{es:Array Ym}
omit [aT] in
theorem o9{gs:Array Wi}{i j:Nat}{x y:Wi}(hi:i<gs.size)(hj:j<gs.size)(hij:i≠j):((gs.setIfInBounds j y).setIfInBounds i x).size=gs.size∧((gs.setIfInBounds j y).setIfInBounds i x)[j]?=some y∧((gs.setIfInBounds j y).setIfInBounds i x)[i]?=some x∧∀k,k≠j→k≠i→((gs.setIfInBounds j y).setIfInBounds i x)[k]?=gs[k]?:=by
 refine⟨vsi,?_,?_,fun k h1 h2=>?_⟩
 ·rw[Wt hij,WB hj]
 ·rw[WB (by simpa using hi)]
 ·rw[Wt (fun e=>h2 e.symm),Wt (fun e=>h1 e.symm)]
omit [aT] in
theorem Pw{x1 x2 x3 x4:MemOp}(h1:x1.act.touch? = none∧∀m,x1.act≠.mark m)(h2:x2.act.touch? = none∧∀m,x2.act≠.mark m)(h3:x3.act.touch? = none∧∀m,x3.act≠.mark m)(h4:x4.act.touch? = none∧∀m,x4.act≠.mark m):∀op∈(#[x1,x2,x3,x4]:Y7),op.act.touch? = none∧∀m,op.act≠.mark m:=fun op hop=>by
 simp at hop;rcases hop with rfl|rfl|rfl|rfl
 ·exact h1
 ·exact h2
 ·exact h3
 ·exact h4
theorem pq{sl:Option (Nat×Nat)}{ops:Y7}{gs':Array Wi}(hr:runT P (crowd gs w sl) i=(.next (crowd gs' w' sl),ops))(h:∃z0' zs' fnd' RS' blk',cg S gs' w' (t++ops) z0' zs' fnd' RS' blk'∧uK P [aK P] (me c z0' zs' gs'.size) (me c z0 zs gs.size)):
  ∃gs' w' ops z0' zs' fnd' RS' blk',runT P (crowd gs w sl) i=(.next (crowd gs' w' sl),ops)∧cg S gs' w' (t++ops) z0' zs' fnd' RS' blk'∧uK P [aK P] (me c z0' zs' gs'.size) (me c z0 zs gs.size):=by
 obtain⟨z0',zs',fnd',RS',blk',r1,r2⟩:=h;exact⟨_,_,_,z0',zs',fnd',RS',blk',hr,r1,r2⟩
theorem cg.asks(h:cg S gs w t z0 zs bU RS blk)(hi:c.S0≤i)(hg:gs[i]?=some g)(hcm:Xe P false g w=.comm g2 #[rcase c.C1 c.z1] true (.recv true) w #[])(hrec:S.Rec g2)(hzi:(∃m,zs i=.st m)∨zs i=.aw):ju S gs w t z0 zs i:=fun sl=>by
 have v:=S.s1;have hd:=S.d1;have f:=cI hg;have s:(i==0)=false:=vso;have l:Xe P (i==0) g w=.comm g2 #[rcase c.C1 c.z1] true (.recv true) w #[]:=by rw[s];exact hcm
 have n1:∀k,¬holds (zs i) k:=by rcases hzi with⟨m,e⟩|e<;>rw[e]<;>exact fun _ h=>h
 have n2:3≤pW (zs i):=by rcases hzi with⟨m,e⟩|e<;>rw[e]<;>simp only[pW]<;>omega
 have n3:oP (zs i)=0:=by rcases hzi with⟨m,e⟩|e<;>rw[e]<;>rfl
 have o:∀j,1≤j→j<gs.size→j≠i→(zs j=.wt→c.C1=c.C1→true=false→False)∧(zs j=.fw→c.C1=c.C2→true=true→False):=fun j _ _ _=>⟨(fun _ _ e=>by cases e),fun _ e _=>hd.2.2.2.1 e⟩
 have hc:=h.c1;by_cases b:closed z0=true
 ·rw[b]at hc
  have hp:partners (gs.setIfInBounds i ph) c.C1 true=[]:=h.parts o (fun _=>⟨(fun e _ _=>by rw[vq e]at b;cases b),fun _ e _=>hd.2.2.2.1 e⟩);have hr:=crowd_recv_closed (P:=P) (sl:=sl) hg l hc hp;rw[ZT]at hr;obtain⟨m,hw⟩:=S.EG g2 hrec w h.mem.ok;refine⟨_,_,_,z0,cJ zs i (.fi m),bU,RS,blk,hr,h.Ou vom f hw rfl rfl (fun _ _ _ _ _ _=>rfl) (fun e=>by omega) (fun _ e=>by cases e) (fun e=>by rw[b]at e;cases e) (fun _ e=>by cases e) (fun _ e=>by cases e) (by rw[n3];rfl) (fun _ _ _ e=>by cases e) ?_ ?_,?_⟩
  ·exact h.mem.one S (fun _ _ _=>rfl) ⟨rfl,rfl,rfl⟩ (fun k=>⟨fun e=>e.elim,fun e=>(n1 k e).elim⟩) (fun _ e=>e.elim) (fun _ _ _ e=>by cases e)
  ·refine h.tr.mute (fun op hop=>?_) (fun op hop m hm=>?_) (R3 _) (eR fun _ e=>e)
   ·simp[WX]at hop
    subst hop;rfl
   ·simp[WX]at hop
    subst hop;cases hm
  ·rw[WZ]
   exact FH f (by show 2<pW (zs i);omega)
 ·have b:closed z0=false:=by cases e:closed z0 with
   |true=>exact absurd e b
   |false=>rfl
  rw[b]at hc
  have n:∃m,zs i=.st m:=by
   rcases hzi with h1|h1
   ·exact h1
   ·have:=h.KJ b i hi f
    rw[h1]at this;exact this.elim
  by_cases hsd:∃k,z0=.wQ k
  ·obtain⟨k,rfl⟩:=hsd
   obtain⟨a,q,hk,g0,u,rfl⟩:=h.a0;have hp:=h.PY (i:=i) (r:=c.C1) (send:=true) vom q (by rw[offersAt_parked_send,Wc rfl]) o;have hr:=crowd_recv_meets (P:=P) (sl:=sl) hg l hc (show 0≠i by omega) q hp;rw[finishComm_send,ZT,ofEvents_none,ZE]at hr;obtain⟨q1,q2,q3,q4⟩:=o9 (x:=Xr g2 (recvd true (.int .i64 (k:Nat)) true)) (y:=Xr g0 undef) f h.pos (show i≠0 by omega);exact pq hr (h.handed (d:=w.drawn) hi f (m:=0) hk (.inl rfl) u hrec (.inl n) (Pw ⟨rfl,(fun _ e=>by cases e)⟩ ⟨rfl,(fun _ e=>by cases e)⟩ ⟨rfl,(fun _ e=>by cases e)⟩ ⟨rfl,(fun _ e=>by cases e)⟩) q1 q2 q3 q4)
  ·have hp:partners (gs.setIfInBounds i ph) c.C1 true=[]:=h.parts o (fun _=>⟨fun e _ _=>hsd e,fun _ e _=>hd.2.2.2.1 e⟩)
   have hr:=crowd_waits (P:=P) (sl:=sl) hg l (fun cc hcc=>by
    simp at hcc;subst hcc;exact ways_recv_none hc hp)
   obtain⟨m,n⟩:=n;refine⟨_,_,_,z0,cJ zs i .wt,bU,RS,blk,hr,h.Ou vom f ⟨g2,hrec,rfl⟩ rfl rfl (fun _ _ _ _ _ _=>rfl) (fun e=>by omega) (fun e=>by rw[b]at e;cases e) (fun _ _=>trivial) (fun e=>absurd e hsd) (fun _ e=>by cases e) (by rw[n3];rfl) (fun _ _ _ e=>by cases e) ?_ ?_,?_⟩
   ·exact h.mem.one S (fun _ _ _=>rfl) ⟨rfl,rfl,rfl⟩ (fun k=>⟨fun e=>e.elim,fun e=>(n1 k e).elim⟩) (fun _ e=>e.elim) (fun _ _ _ e=>by cases e)
   ·exact h.tr.mute (fun op hop=>by simp[WX]at hop) (fun op hop m hm=>by simp[WX]at hop) (R3 _) (eR fun _ e=>e)
   ·rw[WZ]
    exact FH f (by rw[n];show 4<5;omega)
theorem cg.TO(h:cg S gs w t z0 zs bU RS blk)(hi:c.S0≤i)(hg:gs[i]?=some g)(hsnd:S.Jl g){m:Nat}(hzi:zs i=.fi m):ju S gs w t z0 zs i:=fun sl=>by
 have v:=S.s1;have hd:=S.d1;have b:=cI hg;have s:(i==0)=false:=vso;have f:Xe P (i==0) g w=.comm g #[scase c.C2 (.bool true) c.zs2] true .send w #[]:=by rw[s];exact(S.LX g hsnd).2.1 w
 have n:∀j,1≤j→j<gs.size→j≠i→(zs j=.wt→c.C2=c.C1→false=false→False)∧(zs j=.fw→c.C2=c.C2→false=true→False):=fun j _ _ _=>⟨fun _ e _=>hd.2.2.2.1 e.symm,fun _ _ e=>by cases e⟩
 have hc:=h.c2
 have q:closed z0=true:=by
  cases e:closed z0 with
  |true=>rfl
  |false=>have:=h.KJ e i hi b;rw[hzi]at this;exact this.elim
 by_cases hrc:∃r,z0=.xF r
 ·obtain⟨r,rfl⟩:=hrc
  obtain⟨a,l,hr,g0,u,rfl⟩:=h.a0;have hp:=h.PY (i:=i) (r:=c.C2) (send:=false) vom l (by rw[offersAt_parked_recv,Wc rfl]) n;have o:=crowd_send_meets (P:=P) (sl:=sl) hg f hc (show 0≠i by omega) l hp;rw[finishComm_send,ZT,ofEvents_none,ZE]at o;obtain⟨q1,q2,q3,q4⟩:=o9 (x:=Xr g undef) (y:=Xr g0 (recvd false (.bool true) true)) b h.pos (show i≠0 by omega);exact pq o (h.told (d:=w.drawn) hi b (m:=0) hr (.inl rfl) u hsnd (.inl ⟨m,hzi⟩) ⟨rfl,rfl⟩ ⟨rfl,(fun _ e=>by cases e)⟩ ⟨rfl,(fun _ e=>by cases e)⟩ ⟨rfl,rfl⟩ q1 q2 q3 q4)
 ·have hp:partners (gs.setIfInBounds i ph) c.C2 false=[]:=h.parts n (fun _=>⟨(fun _ _ e=>by cases e),fun e _ _=>hrc e⟩)
  have hr:=crowd_waits (P:=P) (sl:=sl) hg f (fun cc hcc=>by
   simp at hcc;subst hcc;exact ways_send_none hc (XE _) hp)
  refine⟨_,_,_,z0,cJ zs i .fw,bU,RS,blk,hr,h.Ou vom b ⟨g,hsnd,rfl⟩ rfl rfl (fun _ _ _ _ _ _=>rfl) (fun e=>by omega) (fun _ e=>by cases e) (fun e=>by rw[q]at e;cases e) (fun _ e=>by cases e) (fun e=>absurd e hrc) (by rw[hzi];rfl) (fun _ _ _ e=>by cases e) ?_ ?_,?_⟩
  ·exact h.mem.one S (fun _ _ _=>rfl) ⟨rfl,rfl,rfl⟩ (fun k=>by rw[hzi];exact Iff.rfl) (fun _ e=>e.elim) (fun _ _ _ e=>by cases e)
  ·exact h.tr.mute (fun op hop=>by simp[WX]at hop) (fun op hop m hm=>by simp[WX]at hop) (R3 _) (eR fun _ e=>e)
  ·rw[WZ]
   exact FH b (by rw[hzi];show 1<2;omega)
end
end Cs
namespace Cs
open Go.Conc
open Go.ConcN (sumTo sumTo_congr)
theorem vf{f f':Nat→Nat}(h:∀i,f' i≤f i):∀n,sumTo n f'≤sumTo n f
 |0=>R3 _
 |n+1=>Nat.add_le_add (vf h n) (h n)
theorem nD{a b:Wi}{cs cs':Array CommCase}{sh sh':CommShape}(h:parked a cs sh=parked b cs' sh'):cs=cs'∧sh=sh'∧∀v,Xr a v=Xr b v:=by
 have h1:=XI Goroutine.offers h;simp only[parked,Option.some.injEq,Prod.mk.injEq]at h1;refine⟨h1.1,h1.2,fun v=>?_⟩;have h2:Xr (parked a cs sh) v=Xr (parked b cs' sh') v:=by rw[h]
 exact h2
variable[aT]
section
variable{P:Wr}{c:fX}{Post:Nat→R2→V8→Prop}{S:yq P c Post}
variable{z0 z0':Z0}{zs:Nat→ZW P}{n i:Nat}
variable{gs:Array Wi}{w w':V8}{t:Y7}{bU:Nat→Option Nat}{RS RS':Nat→Nat→Prop}{blk blk':Nat→Option Nat}{g g' g2:Wi}{es:Array Ym}
inductive uv:Z0→Z0→Nat→(Wi→Prop)→Prop
 |sp (j m:Nat):uv (.sp j (m+1)) (.sp j m) m (S.Px j)
 |sd (k m:Nat):uv (.sd k (m+1)) (.sd k m) m (S.zM k)
 |cl (m:Nat):uv (.cl (m+1)) (.cl m) m S.Ov
 |rc (r m:Nat):uv (.rc r (m+1)) (.rc r m) m (fun g=>if r<c.n then S.tW r g else S.OF g)
theorem cg.zc(h:cg S gs w t z0 zs bU RS blk)(hg:gs[0]?=some g){m:Nat}{Stp:Wi→Prop}(al:uv (S:=S) z0 z0' m Stp)(hst:Xe P true g w=.go g' w' es)(hd:DQ c w w' es)(hw:Walk P c true Stp m g' w'):ju S gs w t z0 zs 0:=fun sl=>by
 obtain⟨a,b,st0⟩:=h.a0;have hN:c.N1≤w'.heap.size:=by rw[hd.heap];exact h.mem.ok.gF
 have facts:Ga S z0' g' w'∧gz c z0'=gz c z0∧sent c z0'=sent c z0∧closed z0'=closed z0∧rcvd z0'=rcvd z0∧(¬∃k,z0'=.wQ k)∧(¬∃k,z0'=.xF k)∧p0 c z0'=p0 c z0∧wO P [aK P] (TL z0') (TL z0):=by
  cases al with
  |sp j m=>exact⟨⟨st0.1,hw⟩,rfl,rfl,rfl,rfl,(fun⟨_,e⟩=>by cases e),(fun⟨_,e⟩=>by cases e),rfl,.walk (Xj _)⟩
  |sd j m=>exact⟨⟨st0.1,hw⟩,rfl,rfl,rfl,rfl,(fun⟨_,e⟩=>by cases e),(fun⟨_,e⟩=>by cases e),rfl,.walk (Xj _)⟩
  |cl m=>exact⟨hw,rfl,rfl,rfl,rfl,(fun⟨_,e⟩=>by cases e),(fun⟨_,e⟩=>by cases e),rfl,.walk (Xj _)⟩
  |rc r m=>exact⟨⟨st0.1,hw⟩,rfl,rfl,rfl,rfl,(fun⟨_,e⟩=>by cases e),(fun⟨_,e⟩=>by cases e),rfl,.walk (Xj _)⟩
 obtain⟨f1,f2,f3,f4,f5,f6,f7,f8,f9⟩:=facts;have hr:=runT_crowd_go (P:=P) (sl:=sl) (i:=0) hg (show Xe P (0==0) g w=_ from hst);rw[h.quiet (by rw[hd.heap]) (by rw[hd.heap])]at hr;refine⟨_,_,_,z0',zs,bU,RS,blk,hr,h.Md f1 ⟨hd.heap,hd.os,hd.output⟩ f2 f3 f4 f5 (fun e=>absurd e f6) (fun e=>absurd e f7) ?_,?_⟩
 ·exact h.tr.reads (.inl rfl) hd.evs hN (by rw[hd.heap];exact R3 _) (fun _ h=>h) (fun e=>absurd rfl e)
 ·rw[WZ]
  exact S4 f8 f9
theorem cg.spawns(h:cg S gs w t z0 zs bU RS blk)(hg:gs[0]?=some g){j m:Nat}(hz:z0=.sp j m)(hst:S.Px j g):ju S gs w t z0 zs 0:=fun sl=>by
 subst hz;obtain⟨a,f,hj,_⟩:=h.a0;obtain⟨_,g',ch,h1,h2,h3⟩:=S.Vw j g hst hj;obtain⟨mc,d⟩:=h2 w h.mem.ok;obtain⟨m0,b⟩:=h3 w h.mem.ok;have hr:=runT_crowd_spawn (P:=P) (sl:=sl) (i:=0) hg (show Xe P (0==0) g w=_ from h1 w);have o:gs.size=c.S0+j:=h.sz;have l:=S.s1;have hs:((gs.setIfInBounds 0 g').push ch).size=gs.size+1:=vsi;have mem:=h.mem.grow (m:=mc)
 have pool:∀z0',gz c z0'=j+1→sent c z0'=0→closed z0'=false→rcvd z0'=0→(¬∃k,z0'=.wQ k)→(¬∃k,z0'=.xF k)→Ga S z0' g' w→cg S ((gs.setIfInBounds 0 g').push ch) w (t++((WX 0 g.frame.fn g.frame.place #[]).push { g:=0,fn:=g.frame.fn,pos:=g.frame.place,act:=.go gs.size } |>.push { g:=gs.size,fn:=ch.frame.fn,pos:=g.frame.place,act:=.start })) z0' (cJ zs gs.size (.st mc)) bU RS blk:=fun z0' e1 e2 e3 e4 e5 e6 st=>by
  refine⟨by rw[hs,e1];omega,⟨g',?_,st⟩,fun i x g1 g2=>?_,fun i g1 g2=>?_,by rw[e2,e3];exact h.c1,by rw[e4];exact h.c2,(fun e=>by rw[e3]at e;cases e),fun e i g1 g2=>?_,fun e=>absurd e e5,fun e=>absurd e e6,?_,fun i k E s g1 g2 g3=>?_,by rw[hs,e2];exact mem,by rw[hs];exact h.tr.fork ⟨rfl,rfl⟩ ⟨rfl,rfl⟩⟩
  ·rw[Wq,V9 vso,WB h.pos]
  ·rw[Wq]at g2
   by_cases e:i=(gs.setIfInBounds 0 g').size
   ·rw[Wc e]at g2
    cases g2;rw[show i=gs.size by rw[e];simp,ay];exact d
   ·rw[V9 e,Wt vom]at g2
    rw[aG _ _ (by simp at e;exact e)];exact h.wk i x g1 g2
  ·rw[aG _ _ vom];exact h.old i g1 g2
  ·rw[hs]at g2
   by_cases e':i=gs.size
   ·subst e';rw[ay];trivial
   ·rw[aG _ _ e'];exact h.KJ rfl i g1 vom
  ·rw[hs,e4]
   have k1:sumTo gs.size (fun i=>xg c i (cJ zs gs.size (.st mc) i))=sumTo gs.size (fun i=>xg c i (zs i)):=sumTo_congr fun i hi=>by rw[aG _ _ vom]
   have k2:sumTo gs.size (fun i=>xg c i (zs i))=0:=h.cnt;show sumTo gs.size _+xg c gs.size (cJ zs gs.size (.st mc) gs.size)=0;rw[k1,k2,ay];unfold xg;split<;>rfl
  ·rw[hs]at g2
   by_cases e':i=gs.size
   ·subst e';rw[ay]at g3;cases g3
   ·rw[aG _ _ e']at g3;exact h.shr i k E s g1 vom g3
 have sum:sumTo (gs.size+1) (fun i=>pW (cJ zs gs.size (.st mc) i))=sumTo gs.size (fun i=>pW (zs i))+5:=by
  have k1:sumTo gs.size (fun i=>pW (cJ zs gs.size (.st mc) i))=sumTo gs.size (fun i=>pW (zs i)):=sumTo_congr fun i hi=>by rw[aG _ _ vom]
  show sumTo gs.size _+pW (cJ zs gs.size (.st mc) gs.size)=_;rw[k1,ay]
  rfl
 by_cases hlast:j+1<c.n
 ·simp only[Wc hlast]at b
  refine⟨_,_,_,.sp (j+1) m0,_,bU,RS,blk,hr,pool _ rfl rfl rfl rfl (fun⟨_,e⟩=>by cases e) (fun⟨_,e⟩=>by cases e) ⟨hlast,b⟩,?_⟩;rw[hs];refine Zf _ _ ?_;rw[sum];simp only[p0];omega
 ·simp only[V9 hlast]at b
  refine⟨_,_,_,.sd 0 m0,_,bU,RS,blk,hr,pool _ (show c.n=j+1 by omega) rfl rfl rfl (fun⟨_,e⟩=>by cases e) (fun⟨_,e⟩=>by cases e) ⟨S.k1,b⟩,?_⟩;rw[hs];refine Zf _ _ ?_;rw[sum];simp only[p0];omega
theorem cg.Rv(h:cg S gs w t z0 zs bU RS blk)(hg:gs[0]?=some g){k m:Nat}(hz:z0=.sd k m)(hst:S.zM k g):ju S gs w t z0 zs 0:=fun sl=>by
 subst hz;have hd:=S.d1;obtain⟨a,u,hk,_⟩:=h.a0;have i:Xe P (0==0) g w=.comm g #[scase c.C1 (.int .i64 (k:Nat)) c.MV] true .send w #[]:=(S.Qk k g hst hk).2.1 w;have hc:=h.c1;by_cases hw:∃j,1≤j∧j<gs.size∧zs j=.wt
 ·have at_wt:∀j x,1≤j→gs[j]?=some x→zs j=.wt→∃g',S.Rec g'∧x=parked g' #[rcase c.C1 c.z1] (.recv true):=fun j x h1 h2 h3=>by
   have:=h.wk j x h1 h2;rw[h3]at this;exact this
  have o:partners (gs.setIfInBounds 0 ph) c.C1 false≠[]:=fun e=>by
   obtain⟨j,h1,h2,h3⟩:=hw;obtain⟨g',_,h4⟩:=at_wt j gs[j] h1 (Wl h2) h3;have:(j,0)∈partners (gs.setIfInBounds 0 ph) c.C1 false:=mem_partners.2 ⟨gs[j],by rw[Wt vom];exact Wl h2,by rw[h4,offersAt_parked_recv,Wc rfl];simp⟩;rw[e]at this;cases this
  have l:∀j k,(j,k)∈partners (gs.setIfInBounds 0 ph) c.C1 false→k=0∧j≠0∧∃gj zj shj,gs[j]?=some (parked gj #[rcase c.C1 zj] shj):=fun j k' hjk=>by
   obtain⟨x,h1,h2⟩:=mem_partners.1 hjk;rcases getElem?_stand gs 0 j x h1 with⟨_,rfl⟩|⟨hj,hx⟩
   ·rw[offersAt_ph]at h2;cases h2
   ·rcases(h.wk j x vom hx).off h.mem.ok c.C1 false with h3|⟨h3,_⟩|⟨_,h3,_⟩
    ·rw[h3]at h2;cases h2
    ·obtain⟨g',_,rfl⟩:=at_wt j x vom hx h3
     rw[offersAt_parked_recv,Wc rfl]at h2;simp at h2;exact⟨h2,hj,g',_,_,hx⟩
    ·exact(hd.2.2.2.1 h3).elim
  obtain⟨j,gj,zj,shj,d,v,b,hr⟩:=crowd_send_meets_some (P:=P) (sl:=sl) hg i hc o l
  have hz:zs j=.wt:=by
   rcases(h.wk j _ vom b).status h.mem.ok with h3|⟨_,h3|h3⟩|⟨h3,_⟩
   ·cases h3
   ·exact h3
   ·have:=h.wk j _ vom b
    rw[h3]at this;obtain⟨g',_,e⟩:=this;have:=(nD e).1;simp[rcase,scase]at this
   ·cases h3
  obtain⟨g',f,e⟩:=at_wt j _ vom b hz;obtain⟨_,e2,e3⟩:=nD e;subst e2;rw[finishComm_send,ZT,ofEvents_none,ZE,e3]at hr
  have s:c.S0≤j:=by
   rcases ZA j c.S0 with h4|h4
   ·obtain⟨q,h5⟩:=h.old j vom h4
    rw[h5]at hz;cases hz
   ·exact h4
  obtain⟨q1,q2,q3,q4⟩:=o9 (x:=Xr g undef) (y:=Xr g' (recvd true (.int .i64 (k:Nat)) true)) h.pos (cI b) (show 0≠j by omega);exact pq hr (h.handed (d:=d) s (cI b) hk (.inr rfl) hst f (.inr hz) (Pw ⟨rfl,(fun _ e=>by cases e)⟩ ⟨rfl,(fun _ e=>by cases e)⟩ ⟨rfl,(fun _ e=>by cases e)⟩ ⟨rfl,(fun _ e=>by cases e)⟩) q1 q3 q2 (fun k h1 h2=>q4 k h2 h1))
 ·have n:∀j,1≤j→j<gs.size→zs j≠.wt:=fun j h1 h2 h3=>hw ⟨j,h1,h2,h3⟩
  have hp:partners (gs.setIfInBounds 0 ph) c.C1 false=[]:=h.parts (fun j h1 h2 _=>⟨(fun e _ _=>n j h1 h2 e),(fun _ _ e=>by cases e)⟩) (fun e=>absurd rfl e)
  have hr:=crowd_waits (P:=P) (sl:=sl) hg i (fun cc hcc=>by
   simp at hcc;subst hcc;exact ways_send_none hc (XE _) hp)
  refine⟨_,_,_,.wQ k,zs,bU,RS,blk,hr,h.Md (z0':=.wQ k) ⟨hk,g,hst,rfl⟩ ⟨rfl,rfl,rfl⟩ rfl rfl rfl rfl (fun _=>n) (fun⟨_,e⟩=>by cases e) ?_,?_⟩
  ·exact h.tr.mute (fun op hop=>by simp[WX]at hop) (fun op hop m hm=>by simp[WX]at hop) (R3 _) (fun _ h=>h)
  ·rw[WZ]
   exact P3 (by simp only[p0];omega)
theorem cg.QT(h:cg S gs w t z0 zs bU RS blk)(hg:gs[0]?=some g){r m:Nat}(hz:z0=.rc r m)(hrn:r<c.n)(hst:S.tW r g):ju S gs w t z0 zs 0:=fun sl=>by
 subst hz;have hd:=S.d1;have b:Xe P (0==0) g w=.comm g #[rcase c.C2 c.z2] true (.recv false) w #[]:=(S.Qy r g hst hrn).2.1 w;have hc:=h.c2;by_cases hw:∃j,1≤j∧j<gs.size∧zs j=.fw
 ·have at_fw:∀j x,1≤j→gs[j]?=some x→zs j=.fw→∃g',S.Jl g'∧x=parked g' #[scase c.C2 (.bool true) c.zs2] .send:=fun j x h1 h2 h3=>by
   have:=h.wk j x h1 h2;rw[h3]at this;exact this
  have o:partners (gs.setIfInBounds 0 ph) c.C2 true≠[]:=fun e=>by
   obtain⟨j,h1,h2,h3⟩:=hw;obtain⟨g',_,h4⟩:=at_fw j gs[j] h1 (Wl h2) h3;have:(j,0)∈partners (gs.setIfInBounds 0 ph) c.C2 true:=mem_partners.2 ⟨gs[j],by rw[Wt vom];exact Wl h2,by rw[h4,offersAt_parked_send,Wc rfl];simp⟩;rw[e]at this;cases this
  have i:∀j k,(j,k)∈partners (gs.setIfInBounds 0 ph) c.C2 true→k=0∧j≠0∧∃gj vj zj shj,gs[j]?=some (parked gj #[scase c.C2 vj zj] shj):=fun j k' hjk=>by
   obtain⟨x,h1,h2⟩:=mem_partners.1 hjk;rcases getElem?_stand gs 0 j x h1 with⟨_,rfl⟩|⟨hj,hx⟩
   ·rw[offersAt_ph]at h2;cases h2
   ·rcases(h.wk j x vom hx).off h.mem.ok c.C2 true with h3|⟨_,h3,_⟩|⟨h3,_⟩
    ·rw[h3]at h2;cases h2
    ·exact(hd.2.2.2.1 h3.symm).elim
    ·obtain⟨g',_,rfl⟩:=at_fw j x vom hx h3
     rw[offersAt_parked_send,Wc rfl]at h2;simp at h2;exact⟨h2,hj,g',_,_,_,hx⟩
  obtain⟨j,gj,vj,zj,shj,d,u,a,hr⟩:=crowd_recv_meets_some (P:=P) (sl:=sl) hg b hc o i
  have hz:zs j=.fw:=by
   rcases(h.wk j _ vom a).status h.mem.ok with h3|⟨_,h3|h3⟩|⟨h3,_⟩
   ·cases h3
   ·have:=h.wk j _ vom a
    rw[h3]at this;obtain⟨g',_,e⟩:=this;have:=(nD e).1;simp[rcase,scase]at this
   ·exact h3
   ·cases h3
  obtain⟨g',f,e⟩:=at_fw j _ vom a hz;obtain⟨e1,e2,e3⟩:=nD e;subst e2;have hv:vj=.bool true:=by simp[scase]at e1;exact e1.1
  subst hv;rw[finishComm_send,ZT,ofEvents_none,ZE,e3]at hr
  have s:c.S0≤j:=by
   rcases ZA j c.S0 with h4|h4
   ·obtain⟨q,h5⟩:=h.old j vom h4
    rw[h5]at hz;cases hz
   ·exact h4
  obtain⟨q1,q2,q3,q4⟩:=o9 (x:=Xr g (recvd false (.bool true) true)) (y:=Xr g' undef) h.pos (cI a) (show 0≠j by omega);exact pq hr (h.told (d:=d) s (cI a) hrn (.inr rfl) hst f (.inr hz) ⟨rfl,rfl⟩ ⟨rfl,(fun _ e=>by cases e)⟩ ⟨rfl,(fun _ e=>by cases e)⟩ ⟨rfl,rfl⟩ q1 q3 q2 (fun k h1 h2=>q4 k h2 h1))
 ·have l:∀j,1≤j→j<gs.size→zs j≠.fw:=fun j h1 h2 h3=>hw ⟨j,h1,h2,h3⟩
  have hp:partners (gs.setIfInBounds 0 ph) c.C2 true=[]:=h.parts (fun j h1 h2 _=>⟨(fun _ e _=>hd.2.2.2.1 e.symm),(fun e _ _=>l j h1 h2 e)⟩) (fun e=>absurd rfl e)
  have hr:=crowd_waits (P:=P) (sl:=sl) hg b (fun cc hcc=>by
   simp at hcc;subst hcc;exact ways_recv_none hc hp)
  refine⟨_,_,_,.xF r,zs,bU,RS,blk,hr,h.Md (z0':=.xF r) ⟨hrn,g,hst,rfl⟩ ⟨rfl,rfl,rfl⟩ rfl rfl rfl rfl (fun⟨_,e⟩=>by cases e) (fun _=>l) ?_,?_⟩
  ·exact h.tr.mute (fun op hop=>by simp[WX]at hop) (fun op hop m hm=>by simp[WX]at hop) (R3 _) (fun _ h=>h)
  ·rw[WZ]
   exact P3 (by simp only[p0];omega)
end
end Cs
namespace Cs
open Go.Conc
open Go.ConcN (sumTo sumTo_congr)
variable[aT]
section
variable{P:Wr}{c:fX}{Post:Nat→R2→V8→Prop}{S:yq P c Post}
variable{z0 z0':Z0}{zs:Nat→ZW P}{n i:Nat}
variable{gs:Array Wi}{w w':V8}{t:Y7}{bU:Nat→Option Nat}{RS RS':Nat→Nat→Prop}{blk blk':Nat→Option Nat}{g g' g2:Wi}{es:Array Ym}
def Eg:ZW P→ZW P
 |.wt=>.aw
 |z=>z
theorem cg.closes(h:cg S gs w t z0 zs bU RS blk)(hg:gs[0]?=some g){m:Nat}(hz:z0=.cl m)(hst:S.Ov g):ju S gs w t z0 zs 0:=fun sl=>by
 subst hz;have hd:=S.d1;obtain⟨_,B,g',h1,h2,h3⟩:=S.VB g hst;have f:=h1 w _ _ h.c1;have hr:=runT_crowd_go (P:=P) (sl:=sl) (i:=0) hg (show Xe P (0==0) g w=_ from f);generalize hw':({ w with heap:=w.heap.setIfInBounds c.C1 (.chan 0 #[] true (sent c (.cl m)) (sent c (.cl m)) false) }:V8)=w' at hr;have A:w'.heap[c.C1]?=some (.chan 0 #[] true c.K c.K false):=by rw[←hw'];exact setChan_at (w:=w) h.c1
 have l:∀q,q≠c.C1→w'.heap[q]?=w.heap[q]?:=fun q hq=>by rw[←hw'];exact iG (w:=w) hq
 have d:w'.heap.size=w.heap.size:=by rw[←hw'];exact fP (w:=w)
 have o:w'.heap[c.C2]?=some (.chan 0 #[] false 0 0 false):=(l _ (fun e=>hd.2.2.2.1 e.symm)).trans h.c2
 have hh:∀z:ZW P,(∀k,holds (Eg z) k↔holds z k)∧(∀q,gV (Eg z) q→gV z q)∧(∀k v m,Eg z=.po k v m→z=.po k v m)∧Eg z≠.wt∧oP (Eg z)=oP z∧pW (Eg z)≤pW z∧(¬ji z→¬ji (Eg z))∧(∀k E s,Eg z=.ca k E s→z=.ca k E s)∧(z≠.wt→Eg z=z)∧((∃q,z=.lv q)→∃q,Eg z=.lv q):=fun z=>by
  cases z with
  |wt=>exact⟨(fun _=>Iff.rfl),(fun _ e=>e),(fun _ _ _ e=>by cases e),(fun e=>by cases e),rfl,(show 3≤4 by omega),(fun e=>e),(fun _ _ _ e=>by cases e),(fun e=>absurd rfl e),(fun⟨_,e⟩=>by cases e)⟩
  |_=>exact⟨(fun _=>Iff.rfl),(fun _ e=>e),(fun _ _ _ e=>e),(fun e=>by cases e),rfl,(R3 _),(fun e=>e),(fun _ _ _ e=>e),(fun _=>rfl),(fun e=>e)⟩
 have mem:Mem P c Post (fun i=>Eg (zs i)) gs.size c.K bU RS blk w':=h.mem.iB (fun q hq _=>l q hq) ⟨d,by rw[←hw'],by rw[←hw']⟩ S.chans (fun i k _ _=>(hh (zs i)).1 k) (fun i q _ _=>(hh (zs i)).2.1 q) (fun i k v m _ _ e=>⟨m,(hh (zs i)).2.2.1 k v m e⟩);obtain⟨m0,C⟩:=h3 w' mem.ok;have e0:(fun g=>if 0<c.n then S.tW 0 g else S.OF g)=S.tW 0:=YP fun g=>Wc S.n1;have a:((gs.map (woken P g g' w')).setIfInBounds 0 g').size=gs.size:=vsi;refine⟨_,_,_,.rc 0 m0,fun i=>Eg (zs i),bU,RS,blk,hr,⟨by rw[a];exact h.sz,⟨g',WB (by simpa using h.pos),XE _,by rw[e0];exact C⟩,fun j x g1 g2=>?_,fun j g1 g2=>(hh (zs j)).2.2.2.2.2.2.2.2.2 (h.old j g1 g2),A,o,fun _ j _ _=>(hh (zs j)).2.2.2.1,(fun e=>by cases e),(fun⟨_,e⟩=>by cases e),(fun⟨_,e⟩=>by cases e),?_,fun j k E s g1 g2 g3=>h.shr j k E s g1 (a▸g2) ((hh (zs j)).2.2.2.2.2.2.2.1 k E s g3),by rw[a];exact mem,?_⟩,?_⟩
 ·rw[Wt vom,Array.getElem?_map]at g2
  obtain⟨y,hy,rfl⟩:=Xt.1 g2;by_cases e:zs j=.wt
  ·have hs:=h.wk j y g1 hy
   rw[e]at hs;obtain⟨g1',u,rfl⟩:=hs;show BV S (Eg (zs j)) _ w';rw[e];refine⟨g1',u,?_⟩;unfold woken;rw[Wc (by rw[B,h2];rfl)];exact again_recv_closed A
  ·show BV S (Eg (zs j)) _ w'
   rw[(hh (zs j)).2.2.2.2.2.2.2.2.1 e,(h.wk j y g1 hy).woken h.mem.ok (fun e'=>absurd e' e) ⟨_,_,o⟩];exact h.keep mem.ok (i:=0) (fun j q a1 a2 _ a3=>l q (by have:=(h.mem.En j q a1 a2 a3).1;omega)) j y g1 vom hy
 ·rw[a]
  have k1:sumTo gs.size (fun i=>xg c i (Eg (zs i)))=sumTo gs.size (fun i=>xg c i (zs i)):=sumTo_congr fun i _=>by unfold xg;rw[(hh (zs i)).2.2.2.2.1]
  rw[k1];exact h.cnt
 ·rw[a,d]
  have key:∀op∈WX 0 g.frame.fn g.frame.place #[⟨.obj c.C1,false,true⟩,⟨.obj c.C1,true,true⟩],op.g=0∧(op.act=.access ⟨.obj c.C1,false,true⟩∨op.act=.close c.C1):=fun op hop=>by
   obtain⟨e,he,rfl⟩:=Conc.mem_ofEvents hop;simp at he;rcases he with rfl|rfl
   ·exact⟨rfl,.inl rfl⟩
   ·exact⟨rfl,.inr rfl⟩
  refine h.tr.own (.inl rfl) (fun op hop=>⟨(key op hop).1,fun b hb=>?_⟩) (fun op hop m hm=>?_) (R3 _) (fun op hop b hb=>?_) (fun op hop b ad hb hl _=>?_) (fun j=>(hh (zs j)).2.2.2.2.2.2.1) (fun e=>absurd rfl e)
  ·rcases(key op hop).2 with e|e<;>rw[e]at hb<;>cases hb
   exact .inr ⟨by simp only[eJ,Wc hd.1],rfl⟩
  ·rcases(key op hop).2 with e|e<;>rw[e]at hm<;>cases hm
  ·rcases(key op hop).2 with e|e<;>rw[e]at hb<;>cases hb
   exact WE hd.1 h.mem.ok.gF
  ·rcases(key op hop).2 with e|e<;>rw[e]at hb<;>cases hb
   cases hl
 ·rw[a]
  refine Zf _ _ ?_;have:=vf (fun i=>(hh (zs i)).2.2.2.2.2.1) gs.size;simp only[p0];omega
omit [aT] in
theorem J7{zs:Nat→ZW P}{S0:Nat}:∀n,(∀j,j<n→oP (zs (S0+j))=1)→sumTo (S0+n) (fun i=>if i<S0 then 0 else oP (zs i))=n
 |0,_=>by
  have:∀k,k≤S0→sumTo k (fun i=>if i<S0 then 0 else oP (zs i))=0:=fun k=>by
   induction k with
   |zero=>intro _;rfl
   |succ k ih=>
    intro hk;show sumTo k _+(if k<S0 then 0 else _)=0;rw[ih vom,Wc vom]
  exact this S0 (R3 _)
 |n+1,h=>by
  show sumTo (S0+n) _+(if S0+n<S0 then 0 else oP (zs (S0+n)))=n+1;rw[J7 n (fun j hj=>h j vom),V9 vom,h n vom]
omit [aT] in
theorem P5{zs:Nat→ZW P}{S0:Nat}:∀n,sumTo (S0+n) (fun i=>if i<S0 then 0 else oP (zs i))≤n
 |0=>by
  have:∀k,k≤S0→sumTo k (fun i=>if i<S0 then 0 else oP (zs i))=0:=fun k=>by
   induction k with
   |zero=>intro _;rfl
   |succ k ih=>
    intro hk;show sumTo k _+(if k<S0 then 0 else _)=0;rw[ih vom,Wc vom]
  exact Nat.le_of_eq (this S0 (R3 _))
 |n+1=>by
  show sumTo (S0+n) _+(if S0+n<S0 then 0 else oP (zs (S0+n)))≤n+1;have:=P5 (zs:=zs) (S0:=S0) n;rw[V9 vom];have:oP (zs (S0+n))≤1:=by cases zs (S0+n)<;>first|exact XE _|exact R3 _
  omega
omit [aT] in
theorem ET{zs:Nat→ZW P}{S0:Nat}:∀n,sumTo (S0+n) (fun i=>if i<S0 then 0 else oP (zs i))=n→∀j,j<n→oP (zs (S0+j))=1
 |0,_=>fun j hj=>by omega
 |n+1,h=>fun j hj=>by
  have h1:sumTo (S0+n) (fun i=>if i<S0 then 0 else oP (zs i))+(if S0+n<S0 then 0 else oP (zs (S0+n)))=n+1:=h;rw[V9 vom]at h1;have h2:=P5 (zs:=zs) (S0:=S0) n;have h3:oP (zs (S0+n))≤1:=by cases zs (S0+n)<;>first|exact XE _|exact R3 _
  rcases ZA j n with h4|h4
  ·exact ET n vom j h4
  ·obtain rfl:j=n:=vom
   omega
theorem cg.alive(h:cg S gs w t z0 zs bU RS blk):∃(i:Nat) (g:Wi),gs[i]?=some g∧g.status=.running:=by
 obtain⟨a,f,st0⟩:=h.a0;have o:=S.n1;have m:=S.s1;rcases st0.status h.mem.ok with hr|⟨_,⟨k,rfl⟩|⟨r,rfl⟩⟩
 ·exact⟨0,a,f,hr⟩
 ·have d:gs.size=c.S0+c.n:=h.sz
  have b:c.S0<gs.size:=vom;refine⟨c.S0,gs[c.S0],Wl b,?_⟩;have he:=h.KJ rfl c.S0 (R3 _) b;rcases(h.wk c.S0 _ vom (Wl b)).status h.mem.ok with h1|⟨_,h1|h1⟩|⟨_,q,h1⟩
  ·exact h1
  ·exact absurd h1 (h.UB ⟨k,rfl⟩ c.S0 vom b)
  ·rw[h1]at he;exact he.elim
  ·rw[h1]at he;exact he.elim
 ·have d:gs.size=c.S0+c.n:=h.sz
  have s:r<c.n:=st0.1
  have l:∃j,j<c.n∧oP (zs (c.S0+j))≠1:=by
   apply XB;intro hno
   have:sumTo gs.size (fun i=>xg c i (zs i))=c.n:=by
    rw[d];exact J7 c.n fun j hj=>XB fun e=>hno ⟨j,hj,e⟩
   rw[h.cnt]at this;have this:r=c.n:=this;omega
  obtain⟨j,hj,hl⟩:=l;have b:c.S0+j<gs.size:=vom;refine⟨c.S0+j,gs[c.S0+j],Wl b,?_⟩;rcases(h.wk (c.S0+j) _ vom (Wl b)).status h.mem.ok with h1|⟨_,h1|h1⟩|⟨_,q,h1⟩
  ·exact h1
  ·exact absurd h1 (h.SK rfl _ vom b)
  ·exact absurd h1 (h.UK ⟨r,rfl⟩ _ vom b)
  ·rw[h1]at hl;exact absurd rfl hl
theorem cg.Tu(hG:P.globals.size≤aT.G)(hC:cP P)(h:cg S gs w t z0 zs bU RS blk)(hg:gs[i]?=some g)(hr:g.status=.running):ju S gs w t z0 zs i∨(i=0∧S.OF g∧∃m,z0=.rc c.n m):=by
 rcases XK i with rfl|hi
 ·obtain⟨a,o,st0⟩:=h.a0
  rw[hg]at o;cases o;cases z0 with
  |sp j m=>
   rcases st0.2.cases with hs|⟨m',rfl,hs⟩
   ·exact .inl (h.spawns hg rfl (hs w h.mem.ok).2)
   ·obtain⟨g',w',es,h1,h2,h3⟩:=hs w h.mem.ok
    exact .inl (h.zc hg (.sp j m') h1 h2 h3)
  |sd k m=>
   rcases st0.2.cases with hs|⟨m',rfl,hs⟩
   ·exact .inl (h.Rv hg rfl (hs w h.mem.ok).2)
   ·obtain⟨g',w',es,h1,h2,h3⟩:=hs w h.mem.ok
    exact .inl (h.zc hg (.sd k m') h1 h2 h3)
  |wQ k=>
   obtain⟨_,g',_,rfl⟩:=st0;cases hr
  |cl m=>
   have st1:Walk P c true S.Ov m g w:=st0;rcases st1.cases with hs|⟨m',rfl,hs⟩
   ·exact .inl (h.closes hg rfl (hs w h.mem.ok).2)
   ·obtain⟨g',w',es,h1,h2,h3⟩:=hs w h.mem.ok
    exact .inl (h.zc hg (.cl m') h1 h2 h3)
  |rc r m=>
   rcases st0.2.cases with hs|⟨m',rfl,hs⟩
   ·have l:=(hs w h.mem.ok).2
    by_cases hrn:r<c.n
    ·simp only[Wc hrn]at l
     exact .inl (h.QT hg rfl hrn l)
    ·simp only[V9 hrn]at l
     have:r≤c.n:=st0.1;obtain rfl:r=c.n:=vom;exact .inr ⟨rfl,l,m,rfl⟩
   ·obtain⟨g',w',es,h1,h2,h3⟩:=hs w h.mem.ok
    exact .inl (h.zc hg (.rc r m') h1 h2 h3)
  |xF r=>
   obtain⟨_,g',_,rfl⟩:=st0;cases hr
 ·left
  have y:=cI hg;rcases ZA i c.S0 with A|hS
  ·obtain⟨q,hq⟩:=h.old i hi A
   exact h.leaves hi hg hr hq
  ·have st0:=h.wk i g hi hg
   cases hz:zs i with
   |st m=>
    rw[hz]at st0;have st1:Walk P c false S.Rec m g w:=st0;rcases st1.cases with hs|⟨m',rfl,hs⟩
    ·have d:=(hs w h.mem.ok).2
     exact h.asks hS hg ((S.Lu g d).2 w) d (.inl ⟨m,hz⟩)
    ·obtain⟨g',w',es,h1,h2,h3⟩:=hs w h.mem.ok
     exact h.walks hS hg hz (.st m') h1 h2 h3
   |wt=>
    rw[hz]at st0;obtain⟨g',_,rfl⟩:=st0;cases hr
   |aw=>
    rw[hz]at st0;obtain⟨g',d,rfl⟩:=st0;obtain⟨⟨fr,cs,rfl⟩,u⟩:=S.Lu g' d;exact h.asks hS hg (by rw[stepG_tries];exact u w) d (.inr hz)
   |pr k m=>
    have st0':=st0;rw[hz]at st0';rcases st0'.2.cases with hs|⟨m',rfl,hs⟩
    ·have hk:k<c.K:=st0'.1
     obtain⟨cal,rest,rfl,f⟩:=S.cal k g (hs w h.mem.ok).2 hk;obtain⟨E,wl,x,e1,e2,e3,e4,e5⟩:=S.Un k hk w h.mem.ok;refine h.AY hG hC hS hg hk (bH.start hC S.Uq e2 e3 e4 e5) f (fun q=>?_) (fun j=>by rw[hz];exact Iff.rfl) (fun b q s e=>(e1 b q s false e).2) (by rw[hz];rfl) (.inl (by rw[hz];rfl));rw[hz];exact⟨fun e=>e.elim,fun⟨b,s,e⟩=>by have:=(e1 b q s true e).1;cases this⟩
    ·obtain⟨g',w',es,h1,h2,h3⟩:=hs w h.mem.ok
     exact h.walks hS hg hz (.pr k m') h1 h2 h3
   |ca k E s=>
    rw[hz]at st0;obtain⟨hk,cal,rest,z,f⟩:=st0;exact h.AY hG hC hS hg hk z f (fun q=>by rw[hz];exact Iff.rfl) (fun j=>by rw[hz];exact Iff.rfl) (h.shr i k E s hS y hz) (by rw[hz];rfl) (.inr ⟨s,hz,rfl⟩)
   |po k v m=>
    have st0':=st0;rw[hz]at st0';rcases st0'.2.2.cases with hs|⟨m',rfl,hs⟩
    ·exact h.R8 hS hg hz (hs w h.mem.ok).2
    ·obtain⟨g',w',es,h1,h2,h3⟩:=hs w h.mem.ok
     exact h.walks hS hg hz (.po k v m') h1 h2 h3
   |fi m=>
    rw[hz]at st0;have st1:Walk P c false S.Jl m g w:=st0;rcases st1.cases with hs|⟨m',rfl,hs⟩
    ·exact h.TO hS hg (hs w h.mem.ok).2 hz
    ·obtain⟨g',w',es,h1,h2,h3⟩:=hs w h.mem.ok
     exact h.walks hS hg hz (.fi m') h1 h2 h3
   |fw=>
    rw[hz]at st0;obtain⟨g',_,rfl⟩:=st0;cases hr
   |lv q=>exact h.leaves hi hg hr hz
def Joined(S:yq P c Post)(m:Machine)(t:Y7):Prop:=
 ∃gs w sl zs bU RS blk mm g,m=crowd gs w sl∧cg S gs w t (.rc c.n mm) zs bU RS blk∧gs[0]?=some g∧S.OF g∧g.status=.running
theorem cg.runs(hG:P.globals.size≤aT.G)(hC:cP P)(h:cg S gs w t z0 zs bU RS blk)(sl:Option (Nat×Nat)):∃N m' t',runNT P N (crowd gs w sl) t=(.next m',t')∧Joined S m' t':=by
 refine kJ (Tl P [aK P]) (fun μ m t=>∃gs w sl z0 zs bU RS blk,m=crowd gs w sl∧cg S gs w t z0 zs bU RS blk∧μ=me c z0 zs gs.size) (Joined S) ?_ (me c z0 zs gs.size) _ t ⟨gs,w,sl,z0,zs,bU,RS,blk,rfl,h,rfl⟩;rintro μ m t ⟨gs,w,sl,z0,zs,bU,RS,blk,rfl,h,rfl⟩;obtain⟨i,g,d,sl',hi,hr,a⟩:=crowd_pick (P:=P) (w:=w) (sl:=sl) h.awake h.alive;rcases(h.UA d).Tu hG hC hi hr with hm|⟨rfl,hj,mm,rfl⟩
 ·obtain⟨gs',w',ops,z0',zs',fnd',RS',blk',h1,h2,h3⟩:=hm sl'
  exact .inr ⟨_,ops,_,a.trans h1,h3,gs',w',sl',z0',zs',fnd',RS',blk',rfl,h2,rfl⟩
 ·exact .inl ⟨gs,w,sl,zs,bU,RS,blk,mm,g,rfl,h,hi,hj,hr⟩
end
end Cs
namespace Cs
open Go.Conc
open Go.ConcN (sumTo sumTo_congr)
theorem jk{t:Y7}(h:Kt t)(g:Nat):Deaf t g=0:=h.deaf g
theorem KX(t:Y7):∃B0,∀B,B0≤B→∀op∈t,op.act.low B:=by
 have one:∀x:MemAct,∃B0,∀B,B0≤B→x.low B:=fun x=>by
  cases x with
  |access e=>
   obtain⟨l,wr,s⟩:=e;cases l with
   |cell a=>exact⟨a.block+1,fun B hB=>(show a.block<B by omega)⟩
   |obj r=>exact⟨r+1,fun B hB=>(show r<B by omega)⟩
   |_=>exact⟨0,fun _ _=>trivial⟩
  |mark m=>
   cases m with
   |acquire a|release a|releaseMerge a|read a|write a=>exact⟨a.block+1,fun B hB=>(show a.block<B by omega)⟩
   |_=>exact⟨0,fun _ _=>trivial⟩
  |go _|start=>exact⟨0,fun _ _=>trivial⟩
  |send c _|sendDone c _|recv c _ _|recvDone c _|close c|recvClosed c=>exact⟨c+1,fun B hB=>(show c<B by omega)⟩
 have:∀l:List MemOp,∃B0,∀B,B0≤B→∀op∈l,op.act.low B:=fun l=>by
  induction l with
  |nil=>exact⟨0,fun _ _ _ h=>by cases h⟩
  |cons a l ih=>
   obtain⟨b1,h1⟩:=ih;obtain⟨b2,h2⟩:=one a.act;refine⟨b1+b2,fun B hB op hop=>?_⟩;rcases Xl.1 hop with rfl|h
   ·exact h2 B vom
   ·exact h1 B vom op h
 obtain⟨b,h⟩:=this t.toList;exact⟨b,fun B hB op hop=>h B hB op (Array.mem_toList_iff.2 hop)⟩
variable[aT]
end Cs
namespace Cs
open Go.Conc
open Go.ConcN (sumTo sumTo_congr upd upd_same upd_ne sumTo_upd)
structure Qt(P:Wr)(gs:Array Wi)(t:Y7)(q:Nat→Nat)(size:Nat):Prop where
 lv:∀i g,0<i→gs[i]?=some g→QuitsIn P (q i) g
 clean:∀said,¬Race said t
 words:Kt t
 kn:∀j x a,t[j]?=some x→x.act.touch? = some a→Knows t 0 j
 low:∀j a,touchAt t j=some a→jf size a.loc
def EvW(size:Nat)(e:Ym):Prop:=(∀x,(MemAct.ofEvent e).touch? = some x→jf size x.loc)∧∀m,MemAct.ofEvent e=.mark m→Neutral m
section
variable{P:Wr}{gs gs':Array Wi}{t:Y7}{q q':Nat→Nat}{size size':Nat}
theorem Qt.own(h:Qt P gs t q size){fn:FuncId}{pos:String}{es:Array Ym}(hs:size≤size')(hes:∀e∈es,EvW size' e)(hlv:∀i g,0<i→gs'[i]?=some g→QuitsIn P (q i) g):Qt P gs' (t++WX 0 fn pos es) q size':=by
 have key:∀op∈WX 0 fn pos es,op.g=0∧(∀x,op.act.touch? = some x→jf size' x.loc)∧∀m,op.act=.mark m→Neutral m:=fun op hop=>by
  obtain⟨e,he,rfl⟩:=Conc.mem_ofEvents hop;exact⟨rfl,hes e he⟩
 refine⟨hlv,fun said=>noRace_append (h.clean said) (fun op hop=>(key op hop).1) fun i a ha op hop b hb hc=>?_,h.words.append fun op hop m hm=>(key op hop).2.2 m hm,fun j x a hx ha=>?_,fun j a ha=>?_⟩
 ·obtain⟨x,hx,c⟩:=touch_of ha
  exact h.kn i x a hx c
 ·rcases Xw hx with⟨_,d⟩|⟨_,f⟩
  ·exact(h.kn j x a d ha).app _
  ·have:=knows_own hx
   rw[(key x f).1]at this;exact this
 ·obtain⟨x,hx,c⟩:=touch_of ha
  rcases Xw hx with⟨_,d⟩|⟨_,f⟩
  ·exact lJ hs (h.low j a (by rw[touchAt_of d];exact c))
  ·exact(key x f).2.1 a c
theorem Qt.set(h:Qt P gs t q size)(hlv:∀i g,0<i→gs'[i]?=some g→QuitsIn P (q' i) g):Qt P gs' t q' size:=⟨hlv,h.clean,h.words,h.kn,h.low⟩
theorem Qt.NG(h:Qt P gs t q size):Leavers P t gs q:=⟨fun i g h1 h2=>by rw[jk h.words];exact QuitsD.of_quitsIn (h.lv i g h1 h2),fun j _=>jk h.words j⟩
theorem Qt.past(h:Qt P gs t q size):∃B0,∀B,B0≤B→Past (fun _=>False) B t:=by
 obtain⟨B0,c⟩:=KX t;refine⟨B0,fun B hB=>⟨h.clean,fun i a ha _=>?_,fun i g hg0 hne hc=>?_,jk h.words 0,c B hB⟩⟩
 ·obtain⟨x,hx,b⟩:=touch_of ha
  exact .inl (h.kn i x a hx b)
 ·obtain⟨a,ha,_⟩:=hc
  obtain⟨x,hx,b⟩:=touch_of ha;obtain⟨j,z,h1,h2,h3⟩:=h.kn i x a hx b;refine⟨j,by simp[Trace.g?,h1,h2],?_⟩;rcases h3 with rfl|h3
  ·rw[hx]at h1
   cases h1;simp[Trace.g?,hx]at hg0;omega
  ·exact h3
theorem beside{α:Type}{r:α→α→Prop}(wf:WellFounded r)(I:α→Wi→V8→Prop)(Q:Wi→V8→Prop)(hI:∀μ g w d,I μ g w→I μ g (w.at d))(hQ:∀g w d,Q g (w.at d)→Q g w)(hrun:∀μ g w,I μ g w→g.status=.running)
  (hstep:∀μ g w,I μ g w→Q g w∨∃g' w' es μ',Xe P true g w=.go g' w' es∧r μ' μ∧I μ' g' w'∧w.heap.size≤w'.heap.size∧∀e∈es,EvW w'.heap.size e) {μ:α} {g:Wi} {w:V8} {sl:Option (Nat×Nat)} (h0:gs[0]?=some g) (hi:I μ g w) (hq:Qt P gs t q w.heap.size) :
  ∃N gs' w' sl' t' q' g',runNT P N (crowd gs w sl) t=(.next (crowd gs' w' sl'),t')∧gs'.size=gs.size∧gs'[0]?=some g'∧Q g' w'∧Qt P gs' t' q' w'.heap.size:=by
 have key:=kJ (P:=P) (Prod.lex ⟨r,wf⟩ ⟨_,Nat.lt_wfRel.wf⟩).wf (fun(μ:α×Nat) m t=>∃gs' w sl q g,m=crowd gs' w sl∧gs'.size=gs.size∧gs'[0]?=some g∧I μ.1 g w∧Qt P gs' t q w.heap.size∧μ.2=sumTo gs'.size q)
  (fun m t=>∃gs' w sl q g,m=crowd gs' w sl∧gs'.size=gs.size∧gs'[0]?=some g∧Q g w∧Qt P gs' t q w.heap.size) ?_ (μ,sumTo gs.size q) _ t ⟨gs,w,sl,q,g,rfl,rfl,h0,hi,hq,rfl⟩
 ·obtain⟨N,m',t',h1,gs',w',sl',q',g',rfl,h2,h3,h4,h5⟩:=key
  exact⟨N,gs',w',sl',t',q',g',h1,h2,h3,h4,h5⟩
 ·rintro⟨μ,k⟩ m t ⟨gs,w,sl,q,g,rfl,c,h0,hi,hq,rfl⟩
  have hg:=hrun μ g w hi
  have s:∀x∈gs,awake x:=fun x hx=>by
   obtain⟨i,l,rfl⟩:=Array.mem_iff_getElem.1 hx;rcases XK i with rfl|hp
   ·have:gs[0]=g:=by simpa[Array.getElem?_eq_getElem l]using h0
    rw[this];exact awake_of (.inl hg)
   ·rcases(hq.lv i _ hp (Wl l)).status with h3|h3
    ·exact awake_of (.inl h3)
    ·exact awake_of (.inr (.inr h3))
  obtain⟨i,x,d,sl',hx,o,f⟩:=crowd_pick (P:=P) (w:=w) (sl:=sl) s ⟨0,g,h0,hg⟩
  have quiet:∀(a a' y:Wi) (w':V8) (j:Nat),(gs.map (woken P a a' w')).setIfInBounds j y=gs.setIfInBounds j y:=fun a a' y w' j=>kz fun k z _ hz=>by
   rcases XK k with rfl|hp
   ·rw[h0]at hz
    cases hz;exact woken_running hg
   ·exact woken_quits (hq.lv k z hp hz)
  rcases XK i with rfl|hp
  ·rw[h0]at hx
   cases hx;rcases hstep μ g (w.at d) (hI μ g w d hi)with h1|⟨g',w',es,μ',h1,h2,h3,h4,h5⟩
   ·exact .inl ⟨gs,w,sl,q,g,rfl,c,h0,hQ g w d h1,hq⟩
   ·have hr:=runT_crowd_go (P:=P) (sl:=sl') (i:=0) h0 (show Xe P (0==0) g (w.at d)=_ from h1)
    rw[quiet]at hr;refine .inr ⟨_,_,(μ',sumTo gs.size q),f.trans hr,Zf _ _ h2,_,w',sl',q,g',rfl,by rw[WZ];exact c,WB (cI h0),h3,hq.own (gs':=gs.setIfInBounds 0 g') h4 h5 fun k z hk hz=>?_,by rw[WZ]⟩;rw[Wt vom]at hz;exact hq.lv k z hk hz
  ·have b:=hq.lv i x hp hx
   cases hqe:q i with
   |zero=>
    rw[hqe]at b;have:x.status=.finished:=b;rw[o]at this;cases this
   |succ n=>
    rw[hqe]at b;rcases b with hf|⟨_,x',h,u⟩
    ·rw[o]at hf;cases hf
    ·have hr:=runT_crowd_go (P:=P) (sl:=sl') (i:=i) hx (by rw[show(i==0)=false by simp;omega];exact h (w.at d))
     rw[quiet]at hr
     have v:sumTo gs.size (upd q i n)+(n+1)=sumTo gs.size q+n:=by
      have:=sumTo_upd q n id (cI hx);simpa[hqe]using this
     refine .inr ⟨_,_,(μ,sumTo gs.size (upd q i n)),f.trans hr,Prod.Lex.right _ (show _<_ by omega),_,w.at d,sl',upd q i n,g,rfl,by rw[WZ];exact c,?_,hI μ g w d hi,?_,by rw[WZ]⟩
     ·rw[Wt vom];exact h0
     ·have e:t++WX i x.frame.fn x.frame.place #[]=t:=by rw[ofEvents_none,Array.append_empty]
      rw[e];refine hq.set fun k z hk hz=>?_;by_cases ek:k=i
      ·subst ek
       rw[WB (cI hx)]at hz;cases hz;rw[upd_same];exact u
      ·rw[Wt (fun e=>ek e.symm)]at hz
       rw[upd_ne _ _ ek];exact hq.lv k z hk hz
end
variable[aT]
section
variable{P:Wr}{c:fX}{S:Nat→R2→V8→Prop}
inductive xH(P:Wr):Option { s:Gh // Acc (After P [aK P]) s }→Option { s:Gh // Acc (After P [aK P]) s }→Prop
 |back (s):xH P none (some s)
 |on {s s'} (h:After P [aK P] s'.1 s.1):xH P (some s') (some s)
omit [aT] in
theorem Br(P:Wr):WellFounded (xH P):=by
 have h0:Acc (xH P) none:=Acc.intro _ fun y hy=>by cases hy
 refine⟨fun a=>?_⟩;cases a with
 |none=>exact h0
 |some s=>
  obtain⟨s,hs⟩:=s
  induction hs with
  |intro s hs ih=>
   refine Acc.intro _ fun y hy=>?_;cases hy with
   |back=>exact h0
   |@on _ s' h=>exact ih s'.1 h
theorem pH{E:Env}{wl w:V8}(hw:WR P E wl w){e:Ym}(h:jH E e):EvW w.heap.size e:=by
 have lo:∀b q s o,E b=some (q,s,o)→q<w.heap.size:=fun b q s o e=>by
  cases o with
  |true=>
   obtain⟨_,_,o',_,h3,_⟩:=hw.own b q s e;exact(Wd.1 h3).1
  |false=>
   obtain⟨_,_,_,_,_,_,_,h3,_⟩:=hw.shared b q s e;exact(Wd.1 h3).1
 cases h with
 |read hE=>exact⟨(fun x e=>by cases e;exact lo _ _ _ _ hE),(fun m e=>by cases e)⟩
 |write hE=>exact⟨(fun x e=>by cases e;exact lo _ _ _ _ hE),(fun m e=>by cases e)⟩
 |@obj r b s wr hE=>
  have e1:MemAct.ofEvent ⟨.obj r,wr,false⟩=.access ⟨.obj r,wr,false⟩:=by cases wr<;>rfl
  exact⟨(fun x e=>by rw[e1]at e;cases e;exact lo _ _ _ _ hE),(fun m e=>by rw[e1]at e;cases e)⟩
 |noRoom=>exact⟨(fun x e=>by cases e),(fun m e=>by cases e;rfl)⟩
theorem fG{Post:R2→V8→Prop}(hG:P.globals.size≤aT.G)(hC:cP P){gs:Array Wi}{t:Y7}{q:Nat→Nat}{g:Wi}{w:V8}{sl:Option (Nat×Nat)}{cal:Frame}{rest:List Frame}{E:Env}{gl:Wi}{wl:V8}(h0:gs[0]?=some g)(hin:bH P Post (cal :: rest) E gl wl g w)(hq:Qt P gs t q w.heap.size):
  ∃N gs' w' sl' t' q' E' v v' wl2,runNT P N (crowd gs w sl) t=(.next (crowd gs' w' sl'),t')∧gs'.size=gs.size∧gs'[0]?=some (G (cal.finish v') rest)∧Post v wl2∧VR E' v v'∧WR P E' wl2 w'∧FC E E' w w'∧Qt P gs' t' q' w'.heap.size:=by
 let Q:Wi→V8→Prop:=fun g' w'=>∃E' v v' wl2,g'=G (cal.finish v') rest∧Post v wl2∧VR E' v v'∧WR P E' wl2 w'∧FC E E' w w'
 let I:Option { s:Gh // Acc (After P [aK P]) s }→Wi→V8→Prop:=fun μ g' w'=>match μ with
  |some s=>∃E',bH P Post (cal :: rest) E' s.1.1 s.1.2 g' w'∧FC E E' w w'
  |none=>Q g' w'
 have fcAt:∀{E':Env} {w':V8} (d:Nat),FC E E' w w'→FC E E' w (w'.at d):=fun d h=>⟨h.le,h.os,h.tape,h.output,h.size,h.keep,h.fresh⟩
 have fcAt':∀{E':Env} {w':V8} (d:Nat),FC E E' w (w'.at d)→FC E E' w w':=fun d h=>⟨h.le,h.os,h.tape,h.output,h.size,h.keep,h.fresh⟩
 have a1:∀μ g' w' d,I μ g' w'→I μ g' (w'.at d):=fun μ g' w' d h=>by
  cases μ with
  |none=>
   obtain⟨E',v,v',wl2,e,k1,k2,k3,k4⟩:=h;exact⟨E',v,v',wl2,e,k1,k2,k3.keep fun _ _ _ _ _=>rfl,fcAt d k4⟩
  |some s=>
   obtain⟨E',h1,h2⟩:=h;exact⟨E',h1.other fun _ _ _=>rfl,fcAt d h2⟩
 have a2:∀g' w' d,Q g' (w'.at d)→Q g' w':=fun g' w' d h=>by
  obtain⟨E',v,v',wl2,e,k1,k2,k3,k4⟩:=h;exact⟨E',v,v',wl2,e,k1,k2,k3.keep fun _ _ _ _ _=>rfl,fcAt' d k4⟩
 have a3:∀μ g' w',I μ g' w'→g'.status=.running:=fun μ g' w' h=>by
  cases μ with
  |none=>
   obtain⟨E',v,v',wl2,rfl,_⟩:=h
   rfl
  |some s=>
   obtain⟨E',h1,h2⟩:=h;exact h1.running
 have a4:∀μ g' w',I μ g' w'→Q g' w'∨∃g2 w2 es μ',Xe P true g' w'=.go g2 w2 es∧xH P μ' μ∧I μ' g2 w2∧w'.heap.size≤w2.heap.size∧∀e∈es,EvW w2.heap.size e:=fun μ g' w' h=>by
  cases μ with
  |none=>exact .inl h
  |some s=>
   obtain⟨E1,c,k⟩:=h;right;by_cases hs:Stop [aK P] s.1.1
   ·obtain⟨v,wl2,E',v',w2,es,f,hvr,l,i,j,b⟩:=c.ret true hs
    exact⟨_,w2,es,none,i,.back s,⟨E',v,v',wl2,rfl,f,hvr,l,k.trans b⟩,b.size,fun e he=>pH l (j e he)⟩
   ·obtain⟨E',gl',wl',g2,w2,es,i,a,m,j,b⟩:=c.step hG hC true hs
    exact⟨g2,w2,es,some ⟨(gl',wl'),iM a.live⟩,i,.on m,⟨E',a,k.trans b⟩,b.size,fun e he=>pH a.wr (j e he)⟩
 obtain⟨N,gs',w',sl',t',q',g',h1,h2,h3,⟨E',v,v',wl2,rfl,k1,k2,k3,k4⟩,h5⟩:=beside (P:=P) (Br P) I Q a1 a2 a3 a4 (μ:=some ⟨(gl,wl),iM hin.live⟩) (sl:=sl) h0 ⟨E,hin,FC.refl E w⟩ hq;exact⟨N,gs',w',sl',t',q',E',v,v',wl2,h1,h2,h3,k1,k2,k3,k4,h5⟩
end
end Cs
end Go.Proofs.YtpcnpkhgjanamaaGreatDoor
