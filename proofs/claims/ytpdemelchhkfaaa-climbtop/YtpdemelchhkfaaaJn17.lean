import Derived.Test.YtpdemelchhkfaaaJn16
namespace Go.Proofs.Ytpdemelchhkfaaa
namespace Cs
open Go.Conc
open Go.ConcN (sumTo sumTo_congr)
open Go.ConcR (KK WgAt wgBlock stA smA rd wr mk)
open Go.ConcM (OsLater)
section
variable {P:Program} {c:Cst} {Sn:Nat→Prop} {zs zs':Nat→YW P} {top:Nat} {ow:Option Nat} {blk:Nat→Option Nat} {size size':Nat} {t u:Trace}
theorem Tr3.sX {blk':Nat→Option Nat} {i:Nat} (h:Tr3 c Sn zs top ow blk size t) (hb:∀q,blk' q=blk q∨(size≤q∧blk' q=some i)):Tr3 c Sn zs top ow blk' size t:=by
 have same:∀l,bV c ow blk' l=bV c ow blk l∨∀j a,touchAt t j=some a→a.loc≠l:=fun l=>by
  cases l with
  | cell ad =>
   by_cases e1:ad.block=c.Fd
   ·left;simp only[bV,if_pos e1]
   ·by_cases e2:ad.block<c.N1
    ·left;simp only[bV,if_neg e1,if_pos e2]
    ·rcases hb ad.block with h1 | ⟨h1,_⟩
     ·left;simp only[bV,if_neg e1,if_neg e2,h1]
     ·right
      intro j a ha hl
      have:=h.low j a ha
      rw[hl] at this
      have:ad.block<size:=this
      omega
  | obj q =>
   by_cases e2:q<c.N1
   ·left;simp only[bV,if_pos e2]
   ·rcases hb q with h1 | ⟨h1,_⟩
    ·left;simp only[bV,if_neg e2,h1]
    ·right
     intro j a ha hl
     have:=h.low j a ha
     rw[hl] at this
     have:q<size:=this
     omega
  | _=>exact .inl rfl
 refine ⟨h.ti.kq (fun l g hl=>?_) (fun l hl=>?_),h.low,h.kn,h.nor,h.sn⟩
 ·rcases same l with h1 | h1
  ·exact .inl (by rw[←h1];exact hl)
  ·exact .inr (.inl h1)
 ·rcases same l with h1 | h1
  ·exact .inl (by rw[←h1];exact hl)
  ·exact .inr h1
theorem Tr3.fork {x y:MemOp} {z:YW P} (h:Tr3 c Sn zs top ow blk size t) (h0:Deaf t 0=0) (ht:Deaf t top=0) (hx:x.g=0∧x.act=.go top) (hy:y.g=top∧y.act=.start):Tr3 c Sn (aJ zs top z) (top+1) ow blk size (t++#[x,y]):=by
 have hn:∀op ∈ (#[x,y]:Trace),op.act.touch? = none:=fun op hop=>by
  simp at hop
  rcases hop with rfl | rfl
  ·rw[hx.2];rfl
  ·rw[hy.2];rfl
 have hr:∀op ∈ (#[x,y]:Trace),eL op.act≠true:=fun op hop=>by
  simp at hop
  rcases hop with rfl | rfl
  ·rw[hx.2];exact fun e=>by cases e
  ·rw[hy.2];exact fun e=>by cases e
 have h1:=h.mute (zs':=zs) hn hr (Nat.le_refl _) (fun _ hj=>hj)
 have ktop:∀j,Knows t 0 j→Knows (t++#[x,y]) top j:=fun j hj=>Go.ConcN.fork_knows hx hy h0 ht hj
 have kall:∀j,(∀g,(g=0∨(c.S0≤g∧g<top))→Knows t g j)→∀g,(g=0∨(c.S0≤g∧g<top+1))→Knows (t++#[x,y]) g j:=fun j k g hg=>by
  by_cases e:g=top
  ·subst e;exact ktop j (k 0 (.inl rfl))
  ·exact (k g (by rcases hg with h2 | ⟨h2,h3⟩;exact .inl h2;exact .inr ⟨h2,by omega⟩)).app _
 refine ⟨⟨h1.ti.clean,h1.ti.mine,fun l hl hs hgd g hg j a ha hal haw=>?_,fun j z a hz ha hs=>?_,fun j a ha hga hoa=>?_⟩,h1.low,fun j z' a hz' ha hs=>?_,h1.nor,h1.sn⟩
 ·by_cases e:g=top
  ·subst e
   obtain ⟨z,hz,hza⟩:=touch_of ha
   have hz':=aX hn hz hza
   exact ktop j (h.ti.read l hl hs hgd 0 (.inl rfl) j a (by rw[touchAt_of hz'];exact hza) hal haw)
  ·exact h1.ti.read l hl hs hgd g (by rcases hg with h2 | ⟨h2,h3⟩;exact .inl h2;exact .inr ⟨h2,by omega⟩) j a ha hal haw
 ·rcases h.ti.shn j z a (aX hn hz ha) ha hs with k | k
  ·exact .inl k
  ·exact .inr (kall j k)
 ·obtain ⟨z,hz,hza⟩:=touch_of ha
  have hz':=aX hn hz hza
  rcases h.ti.gdn j a (by rw[touchAt_of hz'];exact hza) hga hoa with k | ⟨p,y',k1,k2,k3,k4⟩
  ·exact .inl (kall j k)
  ·have hp:=lt_size_of_getElem? k1
   exact .inr ⟨p,y',by rw[getElem?_append_old hp];exact k1,k2,fP k3,by rw[fA (Nat.le_of_lt hp)];exact k4⟩
 ·rcases h1.kn j z' a hz' ha hs with k1 | ⟨k1,k2,k3⟩
  ·exact .inl k1
  ·exact .inr ⟨k1,by omega,fun e=>k3 (by rw[aF _ _ (show z'.g≠top by omega)] at e;exact e)⟩
theorem Tr3.Ee {blk':Nat→Option Nat} {i q:Nat} (h:Tr3 c Sn zs top ow blk size t) (hb:∀p,p≠q→blk' p=blk p) (hq:blk' q=some i) (ho:blk q≠none) (hp:∀l g,bV c ow blk l=some g→bV c ow blk' l=some i→bV c ow blk l≠bV c ow blk' l→Perm t i l):Tr3 c Sn zs top ow blk' size t:=by
 have same:∀l,bV c ow blk' l=bV c ow blk l∨(bV c ow blk' l=some i∧bV c ow blk l=blk q):=fun l=>by
  cases l with
  | cell ad =>
   by_cases e1:ad.block=c.Fd
   ·left;simp only[bV,if_pos e1]
   ·by_cases e2:ad.block<c.N1
    ·left;simp only[bV,if_neg e1,if_pos e2]
    ·by_cases e3:ad.block=q
     ·right
      subst e3
      exact ⟨by simp only[bV,if_neg e1,if_neg e2,hq],by simp only[bV,if_neg e1,if_neg e2]⟩
     ·left;simp only[bV,if_neg e1,if_neg e2,hb _ e3]
  | obj p =>
   by_cases e2:p<c.N1
   ·left;simp only[bV,if_pos e2]
   ·by_cases e3:p=q
    ·right
     subst e3
     exact ⟨by simp only[bV,if_neg e2,hq],by simp only[bV,if_neg e2]⟩
    ·left;simp only[bV,if_neg e2,hb _ e3]
  | _=>exact .inl rfl
 refine ⟨h.ti.kq (fun l g hl=>?_) (fun l hl=>?_),h.low,h.kn,h.nor,h.sn⟩
 ·by_cases e:bV c ow blk l=bV c ow blk' l
  ·exact .inl (by rw[e];exact hl)
  ·rcases same l with h1 | ⟨h1,h2⟩
   ·exact absurd h1.symm e
   ·obtain ⟨g',hg'⟩:=Option.ne_none_iff_exists'.1 ho
    rw[h1] at hl
    cases hl
    exact .inr (.inr (hp l g' (h2.trans hg') h1 e))
 ·rcases same l with h1 | ⟨h1,_⟩
  ·exact .inl (by rw[←h1];exact hl)
  ·rw[h1] at hl;cases hl
theorem Tr3.marked {y:MemOp} {own':Option Nat} (h:Tr3 c Sn zs top ow blk size t) (hn:y.act.touch? = none) (hr:eL y.act≠true) (hz:∀j,told (zs' j)→told (zs j)) (ti:TK (shL Sn c) (gdL c) (gZ c) (t++#[y]) (bV c own' blk) (fun i=>i=0∨(c.S0≤i∧i<top))):Tr3 c Sn zs' top own' blk size (t++#[y]):=by
 have h1:=h.mute (zs':=zs') (u:=#[y]) (fun op hop=>by simp at hop;rw[hop];exact hn) (fun op hop=>by simp at hop;rw[hop];exact hr) (Nat.le_refl _) hz
 exact ⟨ti,h1.low,h1.kn,h1.nor,h1.sn⟩
theorem ov {i:Option Nat}:∀l,gdL c l→bV c i blk l=i:=fun l hl=>by
 cases l with
 | cell a=>simp only[bV,if_pos hl.1,if_pos hl.2]
 | _=>exact hl.elim
theorem xb {i j:Option Nat}:∀l,¬gdL c l→bV c i blk l=bV c j blk l:=fun l hl=>by
 cases l with
 | cell a =>
  by_cases e:a.block=c.Fd
  ·by_cases e2:2≤a.off
   ·exact absurd ⟨e,e2⟩ hl
   ·simp only[bV,if_pos e,if_neg e2]
  ·simp only[bV,if_neg e]
 | _=>rfl
theorem Tr3.lock {i:Nat} {y:MemOp} (h:Tr3 c Sn zs top none blk size t) (hi:c.S0≤i∧i<top) (hy:y.g=i∧y.act=.mark (.acquire (gZ c))) (hd:Deaf t i=0) (hz:∀j,told (zs' j)→told (zs j)):Tr3 c Sn zs' top (some i) blk size (t++#[y]) :=
 h.marked (by rw[hy.2];rfl) (by rw[hy.2];exact fun e=>by cases e) hz (h.ti.lock (.inr hi) hy hd h.nor ov ov (fun l hl=>xb l hl))
theorem Tr3.unlock {i:Nat} {y:MemOp} (h:Tr3 c Sn zs top (some i) blk size t) (hy:y.g=i∧y.act=.mark (.releaseMerge (gZ c))) (hd:Deaf t i=0) (hz:∀j,told (zs' j)→told (zs j)):Tr3 c Sn zs' top none blk size (t++#[y]) :=
 h.marked (by rw[hy.2];rfl) (by rw[hy.2];exact fun e=>by cases e) hz (h.ti.unlock hy hd ov (fun l hl=>xb l hl) ov)
end
theorem OkT.keep {c:Cst} {w w':World} (h:OkT c w) (hk:∀q,c.Fix q→w'.heap[q]? = w.heap[q]?) (hf:∀cs,w.heap[c.Fd]? = some (.cells cs c.TF (0,0))→∃cs',w'.heap[c.Fd]? = some (.cells cs' c.TF (0,0))∧cs'.size=cs.size) (hs:w.heap.size≤w'.heap.size) (ho:OsLater w.os w'.os) (hp:w'.output=w.output):OkT c w':=by
 obtain ⟨cs,h1,h2⟩:=h.fd
 obtain ⟨cs',h3,h4⟩:=hf cs h1
 exact ⟨fun q hq=>(hk q hq).trans (h.fix q hq),⟨cs',h3,by omega⟩,Nat.le_trans h.big hs,h.os.trans ho,hp.trans h.out⟩
def gv {P:Program}:YW P→Prop
 | .cr _ _ _=>True
 | _=>False
def gE {P:Program}:YW P→Option Nat
 | .hd k _ _ | .pr k _ | .ca k _ _ | .bx k _ | .ml k _ _ _ | .mb k _ _ | .cr k _ _=>some k
 | _=>none
section
variable (P:Program) (c:Cst) (tX:TypeId) (J:Nat) (R:Nat→Array Value) {β:Type} (eB:β→Nat→Value) (up:β→Nat→β) (b0:β)
structure cU (zs:Nat→YW P) (top:Nat) (L:List Nat) (ow:Option Nat) (blk:Nat→Option Nat) (w:World):Prop where
 ok:OkT c w
 nd:L.Nodup
 li:∀k,k ∈ L↔(k<J∧c.S0+k % c.n<top∧k<cW J (zs (c.S0+k % c.n)))
 bd:ow=none→bdC c w (eB (L.foldl up b0))
 ow1:∀i,c.S0≤i→i<top→(ow=some i↔gv (zs i))
 ow2:∀i,ow=some i→c.S0≤i∧i<top
 nm:∀i k,c.S0≤i→i<top→gE (zs i)=some k→k % c.n=i-c.S0
 bx:∀i k q,c.S0≤i→i<top→en (zs i) k q→BxR R tX k q w
 us1:∀i q,c.S0≤i→i<top→bI (zs i) q→c.N1≤q∧q<w.heap.size∧blk q=some i
 us4:∀q i,blk q=some i→c.N1≤q∧q<w.heap.size
end
structure Still (c:Cst) (w w':World):Prop where
 heap:∀q,q≠c.C2→q≠c.Fd→w'.heap[q]? = w.heap[q]?
 fd:∀cs,w.heap[c.Fd]? = some (.cells cs c.TF (0,0))→∃cs',w'.heap[c.Fd]? = some (.cells cs' c.TF (0,0))∧cs'.size=cs.size∧∀i,2≤i→cs'[i]? = cs[i]?
 size:w'.heap.size=w.heap.size
 os:OsLater w.os w'.os
 out:w'.output=w.output
theorem Still.refl (c:Cst) (w:World):Still c w w:=⟨fun _ _ _=>rfl,fun cs h=>⟨cs,h,rfl,fun _ _=>rfl⟩,rfl,.refl _,rfl⟩
theorem Still.cell {c:Cst} {w w':World} (h:Still c w w') (ok:OkT c w) {i:Nat} (hi:2≤i):w'.cell? ⟨c.Fd,i,none⟩=w.cell? ⟨c.Fd,i,none⟩:=by
 obtain ⟨cs,h1,_⟩:=ok.fd
 obtain ⟨cs',h2,_,h3⟩:=h.fd cs h1
 rw[cell_of_row _ _ _ _ _ _ h2,cell_of_row _ _ _ _ _ _ h1]
 exact h3 i hi
theorem Still.okT {c:Cst} {w w':World} (h:Still c w w') (ok:OkT c w):OkT c w':=ok.keep (fun q hq=>h.heap q hq.2.2.2.1 hq.2.1) (fun cs e=>by obtain ⟨cs',h1,h2,_⟩:=h.fd cs e;exact ⟨cs',h1,h2⟩) (by rw[h.size];exact Nat.le_refl _) h.os h.out
section
variable {P:Program} {c:Cst} {tX:TypeId} {J:Nat} {R:Nat→Array Value} {β:Type} {eB:β→Nat→Value} {up:β→Nat→β} {b0:β} {zs zs':Nat→YW P} {top:Nat} {L:List Nat} {ow:Option Nat} {blk:Nat→Option Nat} {w w':World}
theorem cU.one (h:cU P c tX J R eB up b0 zs top L ow blk w) (hC:c.C2<c.N1∧c.Fd<c.N1) (hs:Still c w w') {i:Nat} {z':YW P} (hi:c.S0≤i) (hto:∀k,k<J→k % c.n=i-c.S0→(k<cW J z'↔k<cW J (zs i))) (hcr:gv z'↔gv (zs i)) (hnm:∀k,gE z'=some k→k % c.n=i-c.S0) (hbx:∀k q,en z' k q→en (zs i) k q) (hu:∀q,bI z' q→bI (zs i) q):cU P c tX J R eB up b0 (aJ zs i z') top L ow blk w':=by
 refine ⟨hs.okT h.ok,h.nd,fun k=>?_,fun e j h2 h3=>(hs.cell h.ok h2).trans (h.bd e j h2 h3),fun j h1 h2=>?_,h.ow2,fun j k h1 h2 h3=>?_,fun j k q h1 h2 h3=>?_,fun j q h1 h2 h3=>?_,fun q j h1=>?_⟩
 ·rw[h.li k]
  by_cases e:c.S0+k % c.n=i
  ·rw[e,an]
   constructor
   ·rintro ⟨a,b,d⟩
    exact ⟨a,b,(hto k a (by omega)).2 d⟩
   ·rintro ⟨a,b,d⟩
    exact ⟨a,b,(hto k a (by omega)).1 d⟩
  ·rw[aF _ _ e]
 ·by_cases e:j=i
  ·subst e;rw[an,hcr];exact h.ow1 j h1 h2
  ·rw[aF _ _ e];exact h.ow1 j h1 h2
 ·by_cases e:j=i
  ·subst e;rw[an] at h3;exact hnm k h3
  ·rw[aF _ _ e] at h3;exact h.nm j k h1 h2 h3
 ·have hq:bI (aJ zs i z' j) q→bI (zs j) q:=fun hq=>by
   by_cases e:j=i
   ·subst e;rw[an] at hq;exact hu q hq
   ·rw[aF _ _ e] at hq;exact hq
  have hb':en (zs j) k q:=by
   by_cases e:j=i
   ·subst e;rw[an] at h3;exact hbx k q h3
   ·rw[aF _ _ e] at h3;exact h3
  have hin:bI (zs j) q:=by
   revert hb'
   cases zs j <;> simp only[en,bI] <;> intro hb' <;> first | exact hb'.2 | exact hb'.elim
  have hn:=(h.us1 j q h1 h2 hin).1
  have hb:=h.bx j k q h1 h2 hb'
  unfold BxR at hb ⊢
  rw[hs.heap q (by omega) (by omega)]
  exact hb
 ·rw[hs.size]
  by_cases e:j=i
  ·subst e;rw[an] at h3;exact h.us1 j q h1 h2 (hu q h3)
  ·rw[aF _ _ e] at h3;exact h.us1 j q h1 h2 h3
 ·rw[hs.size];exact h.us4 q j h1
end
end Cs
namespace Cs
open Go.Conc
open Go.ConcR (KK WgAt wgBlock stA smA rd wr mk)
open Go.ConcM (OsLater)
section
variable {P:Program} {c:Cst} {tX:TypeId} {J:Nat} {R:Nat→Array Value} {β:Type} {eB:β→Nat→Value} {up:β→Nat→β} {b0:β} {zs zs':Nat→YW P} {top:Nat} {L:List Nat} {ow:Option Nat} {blk:Nat→Option Nat} {w w':World}
theorem cI (w:World) (a:Addr) (v:Value):(w.setCell a v).heap.size=w.heap.size:=World.size_setCell w a v
theorem gx {z:YW P} {k q:Nat} (h:en z k q):bI z q:=by
 revert h
 cases z <;> simp only[en,bI] <;> intro h <;> first | exact h.2 | exact h.elim
theorem cU.phase (h:cU P c tX J R eB up b0 zs top L ow blk w) {i:Nat} {z':YW P} (hi:c.S0≤i) (hto:∀k,k<J→k % c.n=i-c.S0→(k<cW J z'↔k<cW J (zs i))):∀k,k ∈ L↔(k<J∧c.S0+k % c.n<top∧k<cW J (aJ zs i z' (c.S0+k % c.n))):=fun k=>by
 rw[h.li k]
 by_cases e:c.S0+k % c.n=i
 ·rw[e,an]
  constructor
  ·rintro ⟨a,b,d⟩
   exact ⟨a,b,(hto k a (by omega)).2 d⟩
  ·rintro ⟨a,b,d⟩
   exact ⟨a,b,(hto k a (by omega)).1 d⟩
 ·rw[aF _ _ e]
theorem fY {i j:Nat} {z':YW P} {Q Q':YW P→Prop} (h1:Q z'→Q' (zs i)) (h2:∀z,Q z→Q' z) (h:Q (aJ zs i z' j)):Q' (zs j):=by
 by_cases e:j=i
 ·subst e;rw[an] at h;exact h1 h
 ·rw[aF _ _ e] at h;exact h2 _ h
theorem cU.box (h:cU P c tX J R eB up b0 zs top L ow blk w) (hC:c.Fd<c.N1) {i k m m':Nat} {z':YW P} (hi:c.S0≤i) (hit:i<top) (hz:zs i=.bx k m) (hz':z'=.ml k w.heap.size .ld m'):cU P c tX J R eB up b0 (aJ zs i z') top L ow (fun q=>if q=w.heap.size then some i else blk q) (w.alloc (.cells (R k) tX (0,0))):=by
 subst hz'
 have hold:∀q,q<w.heap.size→(w.alloc (.cells (R k) tX (0,0))).heap[q]? = w.heap[q]?:=fun q hq=>by show (w.heap.push _)[q]? = _;rw[Array.getElem?_push,if_neg (by omega)]
 have hnew:(w.alloc (.cells (R k) tX (0,0))).heap[w.heap.size]? = some (.cells (R k) tX (0,0)):=by show (w.heap.push _)[_]? = _;rw[Array.getElem?_push,if_pos rfl]
 have hsz:(w.alloc (.cells (R k) tX (0,0))).heap.size=w.heap.size+1:=by simp
 have hFd:c.Fd<w.heap.size:=Nat.lt_of_lt_of_le hC h.ok.big
 have hblk:∀q,q<w.heap.size→(if q=w.heap.size then some i else blk q)=blk q:=fun q hq=>if_neg (by omega)
 refine ⟨h.ok.keep (fun q hq=>hold q (Nat.lt_of_lt_of_le hq.1 h.ok.big)) (fun cs e=>⟨cs,(hold _ hFd).trans e,rfl⟩) (by rw[hsz];exact Nat.le_succ _) (.refl _) rfl,h.nd,h.phase hi (fun j _ _=>by rw[hz];exact Iff.rfl),fun e j h2 h3=>?_,fun j h1 h2=>?_,h.ow2,fun j k' h1 h2 h3=>?_,fun j k' q h1 h2 h3=>?_,fun j q h1 h2 h3=>?_,fun q j h1=>?_⟩
 ·rw[←h.bd e j h2 h3]
  unfold World.cell?
  rw[hold _ hFd]
 ·rw[h.ow1 j h1 h2]
  by_cases e:j=i
  ·subst e;rw[an,hz];exact Iff.rfl
  ·rw[aF _ _ e]
 ·by_cases e:j=i
  ·subst e;rw[an] at h3;exact h.nm j k' h1 h2 (by rw[hz];exact h3)
  ·rw[aF _ _ e] at h3;exact h.nm j k' h1 h2 h3
 ·by_cases e:j=i
  ·subst e
   rw[an] at h3
   obtain ⟨rfl,rfl⟩:=h3
   exact hnew
  ·rw[aF _ _ e] at h3
   have:=h.us1 j q h1 h2 (gx h3)
   exact (hold q this.2.1).trans (h.bx j k' q h1 h2 h3)
 ·rw[hsz]
  by_cases e:j=i
  ·subst e
   rw[an] at h3
   have e2:q=w.heap.size:=h3
   subst e2
   exact ⟨h.ok.big,by omega,if_pos rfl⟩
  ·rw[aF _ _ e] at h3
   obtain ⟨a,b,d⟩:=h.us1 j q h1 h2 h3
   exact ⟨a,by omega,by show (if _ then _ else _)=_;rw[hblk q b];exact d⟩
 ·rw[hsz]
  by_cases e:q=w.heap.size
  ·subst e;exact ⟨h.ok.big,by omega⟩
  ·have h1':blk q=some j:=by
    have h1'':(if q=w.heap.size then some i else blk q)=some j:=h1
    rwa [if_neg e] at h1''
   have:=h.us4 q j h1'
   omega
theorem cU.lock (h:cU P c tX J R eB up b0 zs top L none blk w) {i k q m m':Nat} (hi:c.S0≤i) (hit:i<top) (hz:zs i=.ml k q .la m):cU P c tX J R eB up b0 (aJ zs i (.cr k q m')) top L (some i) blk w:=by
 refine ⟨h.ok,h.nd,h.phase hi (fun j _ _=>by rw[hz];exact Iff.rfl),(fun e=>by cases e),fun j h1 h2=>?_,(fun j e=>by cases e;exact ⟨hi,hit⟩),fun j k' h1 h2 h3=>?_,fun j k' b h1 h2 h3=>?_,fun j b h1 h2 h3=>?_,h.us4⟩
 ·by_cases e:j=i
  ·subst e;rw[an];exact ⟨fun _=>trivial,fun _=>rfl⟩
  ·rw[aF _ _ e,←h.ow1 j h1 h2]
   exact ⟨(fun e2=>by cases e2;exact absurd rfl e),(fun e2=>by cases e2)⟩
 ·exact h.nm j k' h1 h2 (fY (Q:=fun z=>gE z=some k') (Q':=fun z=>gE z=some k') (fun e=>by rw[hz];exact e) (fun _ e=>e) h3)
 ·exact h.bx j k' b h1 h2 (fY (Q:=fun z=>en z k' b) (Q':=fun z=>en z k' b) (fun e=>by rw[hz];exact e) (fun _ e=>e) h3)
 ·exact h.us1 j b h1 h2 (fY (Q:=fun z=>bI z b) (Q':=fun z=>bI z b) (fun e=>by rw[hz];exact e) (fun _ e=>e) h3)
theorem cU.Ed {es:Array Event} (h:cU P c tX J R eB up b0 zs top L ow blk w) {i k q m m':Nat} (hi:c.S0≤i) (hit:i<top) (hz:zs i=.cr k q m) (hC:c.Fd<c.N1) (hd:DB c q w w' es):cU P c tX J R eB up b0 (aJ zs i (.cr k q m')) top L ow blk w':=by
 have how:ow=some i:=(h.ow1 i hi hit).2 (by rw[hz];trivial)
 refine ⟨h.ok.keep (fun q hq=>hd.heap q hq.2.1) (fun cs e=>by obtain ⟨cs',h1,h2,_⟩:=hd.fd cs e;exact ⟨cs',h1,h2⟩) (by rw[hd.size];exact Nat.le_refl _) (by rw[hd.os];exact .refl _) hd.output,h.nd,h.phase hi (fun j _ _=>by rw[hz];exact Iff.rfl),(fun e=>by rw[how] at e;cases e),fun j h1 h2=>?_,h.ow2,fun j k' h1 h2 h3=>?_,fun j k' b h1 h2 h3=>?_,fun j b h1 h2 h3=>?_,(fun b j h1=>by rw[hd.size];exact h.us4 b j h1)⟩
 ·rw[h.ow1 j h1 h2]
  by_cases e:j=i
  ·subst e;rw[an,hz];exact Iff.rfl
  ·rw[aF _ _ e]
 ·exact h.nm j k' h1 h2 (fY (Q:=fun z=>gE z=some k') (Q':=fun z=>gE z=some k') (fun e=>by rw[hz];exact e) (fun _ e=>e) h3)
 ·have h4:=fY (Q:=fun z=>en z k' b) (Q':=fun z=>en z k' b) (fun e=>by rw[hz];exact e) (fun _ e=>e) h3
  have h5:=(h.us1 j b h1 h2 (gx h4)).1
  have:=h.bx j k' b h1 h2 h4
  unfold BxR at this ⊢
  rw[hd.heap b (by omega)]
  exact this
 ·rw[hd.size]
  exact h.us1 j b h1 h2 (fY (Q:=fun z=>bI z b) (Q':=fun z=>bI z b) (fun e=>by rw[hz];exact e) (fun _ e=>e) h3)
theorem cU.unlock (h:cU P c tX J R eB up b0 zs top L ow blk w) {i k q m m':Nat} (hk:k<J) (hi:c.S0≤i) (hit:i<top) (hz:zs i=.cr k q m) (hb:bdC c w (eB (up (L.foldl up b0) k))):cU P c tX J R eB up b0 (aJ zs i (.ml k q .ud m')) top (L++[k]) none blk w:=by
 have how:ow=some i:=(h.ow1 i hi hit).2 (by rw[hz];trivial)
 have hki:k % c.n=i-c.S0:=h.nm i k hi hit (by rw[hz];rfl)
 have hnk:k ∉ L:=fun e=>by
  have:=((h.li k).1 e).2.2
  rw[show c.S0+k % c.n=i by omega,hz] at this
  exact Nat.lt_irrefl _ this
 refine ⟨h.ok,?_,fun j=>?_,fun _=>by rw[List.foldl_append];exact hb,fun j h1 h2=>?_,(fun j e=>by cases e),fun j k' h1 h2 h3=>?_,fun j k' b h1 h2 h3=>?_,fun j b h1 h2 h3=>?_,h.us4⟩
 ·rw[List.nodup_append]
  exact ⟨h.nd,by simp,fun a ha b hb'=>by simp at hb';subst hb';exact fun e=>hnk (e ▸ ha)⟩
 ·rw[List.mem_append,List.mem_singleton,h.li j]
  by_cases e:c.S0+j % c.n=i
  ·rw[e,an,hz]
   show _∨_↔_∧_∧j<k+1
   constructor
   ·rintro (⟨a,b,d⟩ | rfl)
    ·have:j<k:=d
     exact ⟨a,b,by omega⟩
    ·exact ⟨hk,hit,by omega⟩
   ·rintro ⟨a,b,d⟩
    by_cases e2:j=k
    ·exact .inr e2
    ·exact .inl ⟨a,b,show j<k by omega⟩
  ·rw[aF _ _ e]
   constructor
   ·rintro (a | rfl)
    ·exact a
    ·omega
   ·exact .inl
 ·by_cases e:j=i
  ·subst e;rw[an];exact ⟨(fun e=>by cases e),fun e=>e.elim⟩
  ·rw[aF _ _ e,←h.ow1 j h1 h2,how]
   exact ⟨(fun e2=>by cases e2),(fun e2=>by cases e2;exact absurd rfl e)⟩
 ·exact h.nm j k' h1 h2 (fY (Q:=fun z=>gE z=some k') (Q':=fun z=>gE z=some k') (fun e=>by rw[hz];exact e) (fun _ e=>e) h3)
 ·exact h.bx j k' b h1 h2 (fY (Q:=fun z=>en z k' b) (Q':=fun z=>en z k' b) (fun e=>by rw[hz];exact e) (fun _ e=>e) h3)
 ·exact h.us1 j b h1 h2 (fY (Q:=fun z=>bI z b) (Q':=fun z=>bI z b) (fun e=>by rw[hz];exact e) (fun _ e=>e) h3)
theorem cU.grow (h:cU P c tX J R eB up b0 zs top L ow blk w) {z:YW P} {j0:Nat} (hj:top=c.S0+j0) (hto:∀k,k<J→k % c.n=j0→¬k<cW J z) (hcr:¬gv z) (hnm:∀k,gE z=some k→k % c.n=j0) (hbx:∀k q,¬en z k q) {blk':Nat→Option Nat} (hu:∀q,bI z q→c.N1≤q∧q<w.heap.size∧blk' q=some top) (hb:∀q i,c.S0≤i→blk q=some i→blk' q=some i) (hb4:∀q i,blk' q=some i→c.N1≤q∧q<w.heap.size):cU P c tX J R eB up b0 (aJ zs top z) (top+1) L ow blk' w:=by
 have hne:∀{j},j≠top→aJ zs top z j=zs j:=fun h=>aF _ _ h
 refine ⟨h.ok,h.nd,fun k=>?_,h.bd,fun j h1 h2=>?_,fun j e=>by have:=h.ow2 j e;omega,fun j k h1 h2 h3=>?_,fun j k q h1 h2 h3=>?_,fun j q h1 h2 h3=>?_,hb4⟩
 ·rw[h.li k]
  by_cases e:c.S0+k % c.n=top
  ·rw[e,an]
   constructor
   ·rintro ⟨_,b,_⟩
    omega
   ·rintro ⟨a,_,d⟩
    exact absurd d (hto k a (by omega))
  ·rw[hne e]
   constructor
   ·rintro ⟨a,b,d⟩
    exact ⟨a,by omega,d⟩
   ·rintro ⟨a,b,d⟩
    exact ⟨a,by omega,d⟩
 ·by_cases e:j=top
  ·subst e
   rw[an]
   exact ⟨fun e=>by have:=(h.ow2 _ e).2;omega,fun e=>absurd e hcr⟩
  ·rw[hne e];exact h.ow1 j h1 (by omega)
 ·by_cases e:j=top
  ·subst e;rw[an] at h3;have:=hnm k h3;omega
  ·rw[hne e] at h3;exact h.nm j k h1 (by omega) h3
 ·by_cases e:j=top
  ·subst e;rw[an] at h3;exact absurd h3 (hbx k q)
  ·rw[hne e] at h3;exact h.bx j k q h1 (by omega) h3
 ·by_cases e:j=top
  ·subst e;rw[an] at h3;exact hu q h3
  ·rw[hne e] at h3
   obtain ⟨a,b,d⟩:=h.us1 j q h1 (by omega) h3
   exact ⟨a,b,hb q j h1 d⟩
theorem cU.call (h:cU P c tX J R eB up b0 zs top L ow blk w) (hC:c.Fd<c.N1) {i:Nat} (hi:c.S0≤i) (hit:i<top) {E E':Env} {z':YW P} (hz:∀q,(∃b s,E b=some (q,s,true))→bI (zs i) q) (hto:∀k,k<J→k % c.n=i-c.S0→(k<cW J z'↔k<cW J (zs i))) (hcr:gv z'↔gv (zs i)) (hnm:∀k,gE z'=some k→k % c.n=i-c.S0) (hbx:∀k q,¬en z' k q) (hu:∀q,bI z' q→∃b s,E' b=some (q,s,true)) (hf:FC E E' w w') (hsh:∀b q s,E b=some (q,s,false)→c.Fix q) :
  ∃blk',cU P c tX J R eB up b0 (aJ zs i z') top L ow blk' w'∧(∀q,blk' q=blk q∨(w.heap.size≤q∧blk' q=some i))∧(∀b q s,E' b=some (q,s,true)→blk' q=some i)∧∀b q s,E' b=some (q,s,false)→c.Fix q:=by
 have hown:∀b q s,E b=some (q,s,true)→c.N1≤q∧q<w.heap.size∧blk q=some i:=fun b q s e=>h.us1 i q hi hit (hz q ⟨b,s,e⟩)
 have hkeep:∀q,q<w.heap.size→(∀b s,E b≠some (q,s,true))→w'.heap[q]? = w.heap[q]?:=hf.keep
 have hfix:∀q,q<c.N1→w'.heap[q]? = w.heap[q]?:=fun q hq=>hkeep q (Nat.lt_of_lt_of_le hq h.ok.big) (fun b s e=>by have:=(hown b q s e).1;omega)
 have hfr:∀b q s,E' b=some (q,s,true)→(∃b s,E b=some (q,s,true))∨w.heap.size≤q∧q<w'.heap.size:=fun b q s e=>by
  rcases hf.fresh b q s true e with h1 | ⟨h1,h2,_⟩
  ·exact .inl ⟨b,s,h1⟩
  ·exact .inr ⟨h1,h2⟩
 classical
 refine ⟨fun q=>if ∃b s,E' b=some (q,s,true) then some i else blk q,⟨h.ok.keep (fun q hq=>hfix q hq.1) (fun cs e=>⟨cs,(hfix _ hC).trans e,rfl⟩) hf.size (by rw[hf.os];exact .refl _) hf.output,h.nd,h.phase hi hto,fun e j h2 h3=>?_,fun j h1 h2=>?_,h.ow2,fun j k' h1 h2 h3=>?_,fun j k' q h1 h2 h3=>?_,fun j q h1 h2 h3=>?_,fun q j h1=>?_⟩,fun q=>?_,fun b q s e=>?_,fun b q s e=>?_⟩
 ·rw[←h.bd e j h2 h3]
  unfold World.cell?
  rw[hfix _ hC]
 ·rw[h.ow1 j h1 h2]
  by_cases e:j=i
  ·subst e;rw[an,hcr]
  ·rw[aF _ _ e]
 ·by_cases e:j=i
  ·subst e;rw[an] at h3;exact hnm k' h3
  ·rw[aF _ _ e] at h3;exact h.nm j k' h1 h2 h3
 ·by_cases e:j=i
  ·subst e;rw[an] at h3;exact absurd h3 (hbx k' q)
  ·rw[aF _ _ e] at h3
   obtain ⟨_,b,d⟩:=h.us1 j q h1 h2 (gx h3)
   have hk:=hkeep q b (fun b s e2=>by have:=(hown b q s e2).2.2;rw[d] at this;cases this;exact e rfl)
   exact hk.trans (h.bx j k' q h1 h2 h3)
 ·by_cases e:j=i
  ·subst e
   rw[an] at h3
   obtain ⟨b,s,h4⟩:=hu q h3
   refine ⟨?_,?_,by show (if _ then _ else _)=_;rw[if_pos ⟨b,s,h4⟩]⟩
   ·rcases hfr b q s h4 with ⟨b2,s2,h5⟩ | ⟨h5,_⟩
    ·exact (hown b2 q s2 h5).1
    ·exact Nat.le_trans h.ok.big h5
   ·rcases hfr b q s h4 with ⟨b2,s2,h5⟩ | ⟨_,h5⟩
    ·exact Nat.lt_of_lt_of_le (hown b2 q s2 h5).2.1 hf.size
    ·exact h5
  ·rw[aF _ _ e] at h3
   obtain ⟨h4,h5,h6⟩:=h.us1 j q h1 h2 h3
   refine ⟨h4,Nat.lt_of_lt_of_le h5 hf.size,?_⟩
   show (if _ then _ else _)=_
   rw[if_neg]
   ·exact h6
   ·rintro ⟨b,s,h7⟩
    rcases hfr b q s h7 with ⟨b2,s2,h8⟩ | ⟨h8,_⟩
    ·have:=(hown b2 q s2 h8).2.2
     rw[h6] at this
     injection this with this
     exact e this
    ·omega
 ·have h1':(if ∃b s,E' b=some (q,s,true) then some i else blk q)=some j:=h1
  by_cases hq:∃b s,E' b=some (q,s,true)
  ·obtain ⟨b,s,h4⟩:=hq
   rcases hfr b q s h4 with ⟨b2,s2,h5⟩ | ⟨h5,h6⟩
   ·obtain ⟨h6,h7,_⟩:=hown b2 q s2 h5
    exact ⟨h6,Nat.lt_of_lt_of_le h7 hf.size⟩
   ·exact ⟨Nat.le_trans h.ok.big h5,h6⟩
  ·rw[if_neg hq] at h1'
   obtain ⟨h6,h7⟩:=h.us4 q j h1'
   exact ⟨h6,Nat.lt_of_lt_of_le h7 hf.size⟩
 ·show (if ∃b s,E' b=some (q,s,true) then some i else blk q)=blk q∨_∧(if _ then _ else _)=_
  by_cases hq:∃b s,E' b=some (q,s,true)
  ·rw[if_pos hq]
   obtain ⟨b,s,h4⟩:=hq
   rcases hfr b q s h4 with ⟨b2,s2,h5⟩ | ⟨h5,h6⟩
   ·exact .inl (hown b2 q s2 h5).2.2.symm
   ·exact .inr ⟨h5,rfl⟩
  ·rw[if_neg hq];exact .inl rfl
 ·show (if ∃b s,E' b=some (q,s,true) then some i else blk q)=some i
  rw[if_pos ⟨b,s,e⟩]
 ·rcases hf.fresh b q s false e with h1 | ⟨_,_,h2⟩
  ·exact hsh b q s h1
  ·cases h2
end
end Cs
end Go.Proofs.Ytpdemelchhkfaaa
