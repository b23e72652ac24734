import Derived.Test.YtpcnpkhgjanamaaGreatDoorPz
import Derived.Test.YtpcnpkhgjanamaaGreatDoorJn7
namespace Go.Proofs.YtpcnpkhgjanamaaGreatDoor
open Go renaming Value→R2,World→V8,Goroutine→Wi,Program→Wr,Trace→Y7
open Go.MemOp renaming ofEvents→WX
open _root_.Iff renaming rfl→ZM
namespace Cs
open Go.Conc
open Go.ConcN (sumTo sumTo_congr)
variable[aT]
section
variable{P:Wr}{c:fX}{Post:Nat→R2→V8→Prop}{S:yq P c Post}
def me(c:fX)(z0:Z0)(zs:Nat→ZW P)(n:Nat):Me P [aK P]:=(p0 c z0+sumTo n (fun i=>pW (zs i)),TL z0 :: (List.range n).map fun i=>OB (zs i))
variable{z0 z0':Z0}{zs:Nat→ZW P}{z':ZW P}{n i:Nat}
omit [aT] in
theorem FH(hi:i<n)(h:pW z'<pW (zs i)):uK P [aK P] (me c z0 (cJ zs i z') n) (me c z0 zs n):=by
 refine Prod.Lex.left _ _ ?_;have:=mV (fun _ z=>pW z) zs z' hi;omega
omit [aT] in
theorem Ts(hi:i<n)(h:pW z'=pW (zs i))(hm:wO P [aK P] (OB z') (OB (zs i))):uK P [aK P] (me c z0 (cJ zs i z') n) (me c z0 zs n):=by
 have e:(me c z0 (cJ zs i z') n).1=(me c z0 zs n).1:=by
  have:=mV (fun _ z=>pW z) zs z' hi;show p0 c z0+_=p0 c z0+_;omega
 have hl:gZ (wO P [aK P]) (me c z0 (cJ zs i z') n).2 (me c z0 zs n).2:=.tail _ (sP (fun j=>OB (zs j)) (fun j=>OB (cJ zs i z' j)) Yt (List.mem_range.2 hi) (by rw[ay];exact hm) (fun j hj=>by rw[aG _ _ hj]));have e2:me c z0 (cJ zs i z') n=((me c z0 zs n).1,(me c z0 (cJ zs i z') n).2):=Prod.ext e rfl;rw[e2];exact Prod.Lex.right _ hl
omit [aT] in
theorem P3(h:p0 c z0'<p0 c z0):uK P [aK P] (me c z0' zs n) (me c z0 zs n):=by
 refine Prod.Lex.left _ _ ?_;omega
omit [aT] in
theorem S4(h:p0 c z0'=p0 c z0)(hm:wO P [aK P] (TL z0') (TL z0)):uK P [aK P] (me c z0' zs n) (me c z0 zs n):=by
 have e2:me c z0' zs n=((me c z0 zs n).1,(me c z0' zs n).2):=Prod.ext (by show p0 c z0'+_=p0 c z0+_;rw[h]) rfl;rw[e2];exact Prod.Lex.right _ (.head _ hm)
omit [aT] in
theorem Qh(hi:i<n)(h:p0 c z0'+pW z'<p0 c z0+pW (zs i)):uK P [aK P] (me c z0' (cJ zs i z') n) (me c z0 zs n):=by
 refine Prod.Lex.left _ _ ?_;have:=mV (fun _ z=>pW z) zs z' hi;omega
variable{gs gs':Array Wi}{w w':V8}{t t':Y7}{bU fnd':Nat→Option Nat}{RS RS':Nat→Nat→Prop}{blk blk':Nat→Option Nat}{g g':Wi}
def ju(S:yq P c Post)(gs:Array Wi)(w:V8)(t:Y7)(z0:Z0)(zs:Nat→ZW P)(i:Nat):Prop:=
 ∀sl,∃gs' w' ops z0' zs' fnd' RS' blk',runT P (crowd gs w sl) i=(.next (crowd gs' w' sl),ops)∧cg S gs' w' (t++ops) z0' zs' fnd' RS' blk'∧uK P [aK P] (me c z0' zs' gs'.size) (me c z0 zs gs.size)
theorem cg.Ou(h:cg S gs w t z0 zs bU RS blk)(hi:1≤i)(his:i<gs.size)(st:BV S z' g' w')(hc1:w'.heap[c.C1]?=w.heap[c.C1]?)(hc2:w'.heap[c.C2]?=w.heap[c.C2]?)
  (hu:∀j q,c.S0≤j→j<gs.size→j≠i→gV (zs j) q→w'.heap[q]?=w.heap[q]?) (ho:i<c.S0→∃q,z'=.lv q) (hp1:closed z0=true→z'≠.wt) (hp2:closed z0=false→c.S0≤i→early z')
  (hn1:(∃k,z0=.wQ k)→z'≠.wt) (hn2:(∃r,z0=.xF r)→z'≠.fw) (hl:oP z'=oP (zs i)) (hsh:∀k E s,z'=.ca k E s→∀b q s,E b=some (q,s,false)→c.Fix q)
  (mem:Mem P c Post (cJ zs i z') gs.size (sent c z0) bU RS' blk' w') (tr:Tr c (cJ zs i z') gs.size bU blk' w'.heap.size t'):cg S (gs.setIfInBounds i g') w' t' z0 (cJ zs i z') bU RS' blk':=by
 have hs:(gs.setIfInBounds i g').size=gs.size:=vsi;have hk:=h.keep mem.ok hu;obtain⟨a,h1,h2⟩:=h.a0;refine⟨hs.trans h.sz,⟨a,by rw[Wt vom];exact h1,h2.keep mem.ok⟩,fun j x g1 g2=>?_,fun j g1 g2=>?_,hc1.trans h.c1,hc2.trans h.c2,fun e j g1 g2=>?_,fun e j g1 g2=>?_,fun e j g1 g2=>?_,fun e j g1 g2=>?_,?_,fun j k E s g1 g2 g3=>?_,by rw[hs];exact mem,by rw[hs];exact tr⟩
 ·by_cases e:j=i
  ·subst e
   rw[WB his]at g2;cases g2;rw[ay];exact st
  ·rw[Wt (fun e'=>e e'.symm)]at g2
   rw[aG _ _ e];exact hk j x g1 e g2
 ·by_cases e:j=i
  ·subst e;rw[ay];exact ho g2
  ·rw[aG _ _ e];exact h.old j g1 g2
 ·rw[hs]at g2
  by_cases e':j=i
  ·subst e';rw[ay];exact hp1 e
  ·rw[aG _ _ e'];exact h.SK e j g1 g2
 ·rw[hs]at g2
  by_cases e':j=i
  ·subst e';rw[ay];exact hp2 e g1
  ·rw[aG _ _ e'];exact h.KJ e j g1 g2
 ·rw[hs]at g2
  by_cases e':j=i
  ·subst e';rw[ay];exact hn1 e
  ·rw[aG _ _ e'];exact h.UB e j g1 g2
 ·rw[hs]at g2
  by_cases e':j=i
  ·subst e';rw[ay];exact hn2 e
  ·rw[aG _ _ e'];exact h.UK e j g1 g2
 ·rw[hs]
  have k1:=mV (xg c) zs z' his;have k2:=h.cnt;have k3:xg c i z'=xg c i (zs i):=by unfold xg;rw[hl]
  omega
 ·rw[hs]at g2
  by_cases e':j=i
  ·subst e';rw[ay]at g3;exact hsh k E s g3
  ·rw[aG _ _ e']at g3;exact h.shr j k E s g1 g2 g3
theorem cg.Md(h:cg S gs w t z0 zs bU RS blk)(st:Ga S z0' g' w')(hhe:w'.heap=w.heap∧w'.os=w.os∧w'.output=w.output)(e1:gz c z0'=gz c z0)(e2:sent c z0'=sent c z0)(e3:closed z0'=closed z0)(e4:rcvd z0'=rcvd z0)
  (hn1:(∃k,z0'=.wQ k)→∀i,1≤i→i<gs.size→zs i≠.wt) (hn2:(∃r,z0'=.xF r)→∀i,1≤i→i<gs.size→zs i≠.fw) (tr:Tr c zs gs.size bU blk w'.heap.size t'):cg S (gs.setIfInBounds 0 g') w' t' z0' zs bU RS blk:=by
 have hs:(gs.setIfInBounds 0 g').size=gs.size:=vsi;obtain⟨hh,he⟩:=hhe;have hd:=S.d1
 have mem:Mem P c Post zs gs.size (sent c z0') bU RS blk w':=by
  rw[e2];exact h.mem.iB (fun _ _ _=>by rw[hh]) ⟨by rw[hh],he⟩ ⟨fun e=>hd.2.2.2.2.1 e.symm,fun e=>hd.2.2.2.2.2 e.symm,hd.1,hd.2.1⟩ (fun _ _ _ _=>ZM) (fun _ _ _ _ h=>h) (fun _ _ _ m _ _ h=>⟨m,h⟩)
 refine⟨by rw[hs,e1];exact h.sz,⟨g',WB h.pos,st⟩,fun j x g1 g2=>?_,h.old,by rw[hh,e2,e3];exact h.c1,by rw[hh,e4];exact h.c2,fun e j g1 g2=>h.SK (e3▸e) j g1 (hs▸g2),fun e j g1 g2=>h.KJ (e3▸e) j g1 (hs▸g2),fun e j g1 g2=>hn1 e j g1 (hs▸g2),fun e j g1 g2=>hn2 e j g1 (hs▸g2),by rw[hs,e4];exact h.cnt,fun j k E s g1 g2 g3=>h.shr j k E s g1 (hs▸g2) g3,by rw[hs];exact mem,by rw[hs];exact tr⟩;rw[Wt vom]at g2;exact h.keep mem.ok (i:=0) (fun _ _ _ _ _ _=>by rw[hh]) j x g1 vom g2
theorem cg.JZ(h:cg S gs w t z0 zs bU RS blk)(hi:c.S0≤i)(his:i<gs.size)(hs:gs'.size=gs.size)(s0:∃g,gs'[0]?=some g∧Ga S z0' g w')(si:∃g,gs'[i]?=some g∧BV S z' g w')(so:∀j,j≠0→j≠i→gs'[j]?=gs[j]?)
  (hk:∀q,q≠c.C1→q≠c.C2→w'.heap[q]?=w.heap[q]?) (hc1:w'.heap[c.C1]?=some (.chan 0 #[] (closed z0') (sent c z0') (sent c z0') false)) (hc2:w'.heap[c.C2]?=some (.chan 0 #[] false (rcvd z0') (rcvd z0') false))
  (e1:gz c z0'=gz c z0) (e3:closed z0'=closed z0) (hp1:z'≠.wt) (hp2:closed z0=false→early z') (hn1:¬∃k,z0'=.wQ k) (hn2:¬∃r,z0'=.xF r) (hl:rcvd z0'+oP (zs i)=rcvd z0+oP z') (hsh:∀k E s,z'≠.ca k E s)
  (mem:Mem P c Post (cJ zs i z') gs.size (sent c z0') fnd' RS blk w') (tr:Tr c (cJ zs i z') gs.size fnd' blk w'.heap.size t'):cg S gs' w' t' z0' (cJ zs i z') fnd' RS blk:=by
 have hd:=S.d1;have a:=S.s1;refine⟨by rw[hs,e1];exact h.sz,s0,fun j x g1 g2=>?_,fun j g1 g2=>?_,hc1,hc2,fun e j g1 g2=>?_,fun e j g1 g2=>?_,fun e=>absurd e hn1,fun e=>absurd e hn2,?_,fun j k E s g1 g2 g3=>?_,by rw[hs];exact mem,by rw[hs];exact tr⟩
 ·by_cases e:j=i
  ·subst e
   obtain⟨y,k1,k2⟩:=si;rw[k1]at g2;cases g2;rw[ay];exact k2
  ·rw[so j vom e]at g2
   rw[aG _ _ e];exact h.keep mem.ok (i:=i) (fun j q a1 a2 _ a3=>hk q (by have:=(h.mem.En j q a1 a2 a3).1;omega) (by have:=(h.mem.En j q a1 a2 a3).1;omega)) j x g1 e g2
 ·rw[aG _ _ (show j≠i by omega)];exact h.old j g1 g2
 ·rw[hs]at g2
  by_cases e':j=i
  ·subst e';rw[ay];exact hp1
  ·rw[aG _ _ e'];exact h.SK (e3▸e) j g1 g2
 ·rw[hs]at g2
  by_cases e':j=i
  ·subst e';rw[ay];exact hp2 (e3▸e)
  ·rw[aG _ _ e'];exact h.KJ (e3▸e) j g1 g2
 ·rw[hs]
  have k1:=mV (xg c) zs z' his;have k2:=h.cnt;have k3:∀z:ZW P,xg c i z=oP z:=fun z=>by unfold xg;rw[V9 vom]
  rw[k3,k3]at k1;omega
 ·rw[hs]at g2
  by_cases e':j=i
  ·subst e';rw[ay]at g3;exact absurd g3 (hsh k E s)
  ·rw[aG _ _ e']at g3;exact h.shr j k E s g1 g2 g3
end
end Cs
namespace Cs
open Go.Conc
open Go.ConcN (sumTo sumTo_congr)
theorem Ja{α:Type}(f:Nat→α)(i:Nat)(x y:α):cJ (cJ f i x) i y=cJ f i y:=by
 funext j
 by_cases e:j=i
 ·subst e;rw[ay,ay]
 ·rw[aG _ _ e,aG _ _ e,aG _ _ e]
variable[aT]
section
variable{P:Wr}{c:fX}{Post:Nat→R2→V8→Prop}{S:yq P c Post}
variable{z0:Z0}{zs:Nat→ZW P}{z':ZW P}{n i:Nat}
variable{gs:Array Wi}{w w':V8}{t:Y7}{bU:Nat→Option Nat}{RS RS':Nat→Nat→Prop}{blk blk':Nat→Option Nat}{g g':Wi}{es:Array Event}
theorem yq.chans(S:yq P c Post):c.Fd≠c.C1∧c.Fd≠c.C2∧c.C1<c.N1∧c.C2<c.N1:=⟨fun e=>S.d1.2.2.2.2.1 e.symm,fun e=>S.d1.2.2.2.2.2 e.symm,S.d1.1,S.d1.2.1⟩
theorem Mem.one{top snt:Nat}(h:Mem P c Post zs top snt bU RS blk w)(S:yq P c Post)(hk:∀q,q≠c.C1→q≠c.C2→w'.heap[q]?=w.heap[q]?)(hs:w'.heap.size=w.heap.size∧w'.os=w.os∧w'.output=w.output)(hh:∀k,holds z' k↔holds (zs i) k)(hu:∀q,gV z' q→gV (zs i) q)(hp:∀k v m,z'=.po k v m→∃m',zs i=.po k v m'):Mem P c Post (cJ zs i z') top snt bU RS blk w':=by
 refine h.iB hk hs S.chans (fun j k _ _=>?_) (fun j q _ _=>?_) (fun j k v m _ _=>?_)
 ·by_cases e:j=i
  ·subst e;rw[ay];exact hh k
  ·rw[aG _ _ e]
 ·by_cases e:j=i
  ·subst e;rw[ay];exact hu q
  ·rw[aG _ _ e];exact id
 ·by_cases e:j=i
  ·subst e;rw[ay];exact hp k v m
  ·rw[aG _ _ e];exact fun h=>⟨m,h⟩
omit [aT] in
theorem eR{zs:Nat→ZW P}{z':ZW P}{i:Nat}(h:¬ji (zs i)→¬ji z'):∀j,¬ji (zs j)→¬ji (cJ zs i z' j):=fun j hj=>by
 by_cases e:j=i
 ·subst e;rw[ay];exact h hj
 ·rw[aG _ _ e];exact hj
omit [aT] in
theorem Tr.reads{zs':Nat→ZW P}{top size size':Nat}{fn:FuncId}{pos:String}(h:Tr c zs top bU blk size t)(hi:i=0∨(c.S0≤i∧i<top))(hes:∀e∈es,∃a:Addr,e=⟨.cell a,false,false⟩∧c.Fix a.block)(hN:c.N1≤size')(hs:size≤size')
  (hz:∀j,¬ji (zs j)→¬ji (zs' j)) (hzi:i≠0→¬ji (zs' i)):Tr c zs' top bU blk size' (t++WX i fn pos es):=by
 have key:∀op∈WX i fn pos es,op.g=i∧∃a:Addr,op.act=.access ⟨.cell a,false,false⟩∧c.Fix a.block:=fun op hop=>by
  obtain⟨e,he,rfl⟩:=Conc.mem_ofEvents hop;obtain⟨a,rfl,ha⟩:=hes e he;exact⟨rfl,a,rfl,ha⟩
 refine h.own hi (fun op hop=>?_) (fun op hop m hm=>?_) hs (fun op hop b hb=>?_) (fun op hop b ad hb hl hd=>?_) hz hzi
 ·obtain⟨h1,a,h2,h3⟩:=key op hop
  refine⟨h1,fun b hb=>.inr ?_⟩;rw[h2]at hb;cases hb;refine⟨?_,rfl⟩;simp only[eJ,V9 h3.2.1,Wc h3.1]
 ·obtain⟨_,a,h2,_⟩:=key op hop
  rw[h2]at hm;cases hm
 ·obtain⟨h1,a,h2,h3⟩:=key op hop
  rw[h2]at hb;cases hb;exact WE h3.1 hN
 ·obtain⟨h1,a,h2,h3⟩:=key op hop
  rw[h2]at hb;cases hb;cases hl;exact absurd hd h3.2.1
theorem cg.Tx(h:cg S gs w t z0 zs bU RS blk)(hi:1≤i)(hg:gs[i]?=some g)(hst:stepG P false g w=.go g' w' es)(st:BV S z' g' w')(hc1:w'.heap[c.C1]?=w.heap[c.C1]?)(hc2:w'.heap[c.C2]?=w.heap[c.C2]?)
  (hu:∀j q,c.S0≤j→j<gs.size→j≠i→gV (zs j) q→w'.heap[q]?=w.heap[q]?) (ho:i<c.S0→∃q,z'=.lv q) (hp1:z'≠.wt) (hp2:closed z0=false→c.S0≤i→early z')
  (hn2:z'≠.fw) (hl:oP z'=oP (zs i)) (hsh:∀k E s,z'=.ca k E s→∀b q s,E b=some (q,s,false)→c.Fix q)
  (mem:Mem P c Post (cJ zs i z') gs.size (sent c z0) bU RS' blk' w') (tr:Tr c (cJ zs i z') gs.size bU blk' w'.heap.size (t++WX i g.frame.fn g.frame.place es)) (hm:pW z'<pW (zs i)∨(pW z'=pW (zs i)∧wO P [aK P] (OB z') (OB (zs i)))):ju S gs w t z0 zs i:=fun sl=>by
 have a:=cI hg;have hr:=runT_crowd_go (P:=P) (sl:=sl) (i:=i) hg (by rw[show(i==0)=false by simp;omega];exact hst);rw[h.quiet hc1 hc2]at hr;refine⟨_,_,_,z0,cJ zs i z',bU,RS',blk',hr,h.Ou hi a st hc1 hc2 hu ho (fun _=>hp1) hp2 (fun _=>hp1) (fun _=>hn2) hl hsh mem tr,?_⟩;rw[Array.size_setIfInBounds];rcases hm with hm|⟨hm,d⟩
 ·exact FH a hm
 ·exact Ts a hm d
theorem cg.leaves(h:cg S gs w t z0 zs bU RS blk)(hi:1≤i)(hg:gs[i]?=some g)(hr:g.status=.running){q:Nat}(hz:zs i=.lv q):ju S gs w t z0 zs i:=by
 have hq:QuitsIn P q g:=by have:=h.wk i g hi hg;rw[hz]at this;exact this
 cases q with
 |zero=>have:g.status=.finished:=hq;rw[hr]at this;cases this
 |succ q=>
  rcases hq with hf|⟨_,g',b,a⟩
  ·rw[hr]at hf;cases hf
  ·refine h.Tx (z':=.lv q) (RS':=RS) (blk':=blk) hi hg (b w) a rfl rfl (fun _ _ _ _ _ _=>rfl) (fun _=>⟨q,rfl⟩) (fun e=>by cases e) (fun e1 e2=>?_) (fun e=>by cases e) (by rw[hz];rfl) (fun k E s e=>by cases e) ?_ ?_ ?_
   ·have:=h.KJ e1 i e2 (cI hg)
    rw[hz]at this;exact this
   ·exact h.mem.one S (fun _ _ _=>rfl) ⟨rfl,rfl,rfl⟩ (fun k=>by rw[hz];exact ZM) (fun q e=>e.elim) (fun k v m e=>by cases e)
   ·exact h.tr.mute (fun op hop=>by simp[WX]at hop) (fun op hop=>by simp[WX]at hop) (R3 _) (eR fun e=>absurd (by rw[hz];trivial) e)
   ·rw[hz];exact .inr ⟨rfl,.walk (Xj q)⟩
inductive Alike:ZW P→ZW P→Nat→(Wi→Prop)→Prop
 |st (m:Nat):Alike (.st (m+1)) (.st m) m S.Rec
 |pr (k m:Nat):Alike (.pr k (m+1)) (.pr k m) m (S.SW k)
 |po (k:Nat) (v:R2) (m:Nat):Alike (.po k v (m+1)) (.po k v m) m (S.Qa k v)
 |fi (m:Nat):Alike (.fi (m+1)) (.fi m) m S.Jl
theorem cg.walks(h:cg S gs w t z0 zs bU RS blk)(hi:c.S0≤i)(hg:gs[i]?=some g){m:Nat}{Stp:Wi→Prop}{z:ZW P}(hz:zs i=z)(al:Alike (S:=S) z z' m Stp)(hst:stepG P false g w=.go g' w' es)(hd:DQ c w w' es)(hw:Walk P c false Stp m g' w'):ju S gs w t z0 zs i:=by
 have a:=S.s1;have st0:=h.wk i g vom hg;have e0:=fun e1=>h.KJ e1 i hi (cI hg);have hN:c.N1≤w'.heap.size:=by rw[hd.heap];exact h.mem.ok.gF
 have facts:BV S z' g' w'∧z'≠.wt∧(closed z0=false→early z')∧z'≠.fw∧oP z'=oP (zs i)∧(∀k E s,z'≠.ca k E s)∧(∀k,holds z' k↔holds (zs i) k)∧(∀q,gV z' q→gV (zs i) q)∧(∀k v m,z'=.po k v m→∃m',zs i=.po k v m')∧¬ji z'∧pW z'=pW (zs i)∧wO P [aK P] (OB z') (OB (zs i)):=by
  rw[hz]at st0 e0⊢;cases al with
  |st m=>exact⟨hw,(fun e=>by cases e),e0,(fun e=>by cases e),rfl,(fun _ _ _ e=>by cases e),(fun _=>ZM),(fun _ e=>e),(fun _ _ _ e=>by cases e),(fun e=>e),rfl,.walk (Xj _)⟩
  |pr k m=>
   have h1:k<c.K:=st0.1;exact⟨⟨h1,hw⟩,(fun e=>by cases e),e0,(fun e=>by cases e),rfl,(fun _ _ _ e=>by cases e),(fun _=>ZM),(fun _ e=>e),(fun _ _ _ e=>by cases e),(fun e=>e),rfl,.walk (Xj _)⟩
  |po k v m=>
   have h1:k<c.K:=st0.1;have h2:S.PW v:=st0.2.1;exact⟨⟨h1,h2,hw⟩,(fun e=>by cases e),e0,(fun e=>by cases e),rfl,(fun _ _ _ e=>by cases e),(fun _=>ZM),(fun _ e=>e),(fun _ _ _ e=>by cases e;exact⟨_,rfl⟩),(fun e=>e),rfl,.walk (Xj _)⟩
  |fi m=>exact⟨hw,(fun e=>by cases e),e0,(fun e=>by cases e),rfl,(fun _ _ _ e=>by cases e),(fun _=>ZM),(fun _ e=>e),(fun _ _ _ e=>by cases e),(fun e=>e),rfl,.walk (Xj _)⟩
 obtain⟨f1,f2,f3,f4,f5,f6,f7,f8,f9,f10,f11,f12⟩:=facts
 exact h.Tx (RS':=RS) (blk':=blk) vom hg hst f1 (by rw[hd.heap]) (by rw[hd.heap]) (fun _ _ _ _ _ _=>by rw[hd.heap]) (fun e=>by omega) f2 (fun e _=>f3 e) f4 f5 (fun k E s e=>absurd e (f6 k E s))
  (h.mem.one S (fun _ _ _=>by rw[hd.heap]) ⟨by rw[hd.heap],hd.os,hd.output⟩ f7 f8 f9) (h.tr.reads (.inr ⟨hi,cI hg⟩) hd.evs hN (by rw[hd.heap];exact R3 _) (eR fun _=>f10) (fun _=>by rw[ay];exact f10)) (.inr ⟨f11,f12⟩)
theorem cg.R8(h:cg S gs w t z0 zs bU RS blk)(hi:c.S0≤i)(hg:gs[i]?=some g){k m:Nat}{v:R2}(hz:zs i=.po k v m)(hst:S.Qa k v g):ju S gs w t z0 zs i:=by
 have s:=S.s1;have st0:=h.wk i g vom hg;rw[hz]at st0;obtain⟨hk,hv,_⟩:=st0;obtain⟨_,g',h1,_,h3⟩:=S.Vr k v g hst hk hv;have hd:=S.d1;have d:=cI hg;have f:=fun m'=>h.mem.store (m':=m') hi d hz hk hd.2.2.1;obtain⟨m',hw⟩:=h3 _ (f 0).ok;obtain⟨cs,o,u⟩:=h.mem.ok.fd;have l:∀q,q≠c.Fd→(w.setCell ⟨c.Fd,k,none⟩ v).heap[q]?=w.heap[q]?:=fun q hq=>by rw[fu w ⟨c.Fd,k,none⟩ v o rfl,V9 (fun e=>hq e.symm)]
 have a:(w.setCell ⟨c.Fd,k,none⟩ v).heap.size=w.heap.size:=by unfold World.setCell;simp
 have n:=h.mem.KM i k hi d (by rw[hz];rfl);have e0:=fun e1=>h.KJ e1 i hi d;refine h.Tx (z':=.st m') (RS':=RS) (blk':=blk) vom hg (h1 w h.mem.ok) hw (l _ hd.2.2.2.2.1) (l _ hd.2.2.2.2.2) (fun j q a1 a2 _ a3=>l q (by have:=(h.mem.En j q a1 a2 a3).1;omega)) (fun e=>by omega) (fun e=>by cases e) (fun e _=>trivial) (fun e=>by cases e) (by rw[hz];rfl) (fun _ _ _ e=>by cases e) (f m') ?_ (by rw[hz];exact .inl (show 5<6 by omega))
 have key:∀op∈WX i g.frame.fn g.frame.place #[⟨.cell ⟨c.Fd,k,none⟩,true,false⟩],op.g=i∧op.act=.access ⟨.cell ⟨c.Fd,k,none⟩,true,false⟩:=fun op hop=>by
  obtain⟨e,he,rfl⟩:=Conc.mem_ofEvents hop;simp at he;subst he;exact⟨rfl,rfl⟩
 refine h.tr.own (.inr ⟨hi,d⟩) (fun op hop=>?_) (fun op hop m hm=>?_) (by rw[a];exact R3 _) (fun op hop b hb=>?_) (fun op hop b ad hb hl hd=>?_) (eR fun _ e=>e) (fun _=>by rw[ay];exact fun e=>e)
 ·obtain⟨h1,h2⟩:=key op hop
  refine⟨h1,fun b hb=>.inl ?_⟩;rw[h2]at hb;cases hb;simp only[eJ,Wc,n.2]
 ·rw[(key op hop).2]at hm;cases hm
 ·rw[(key op hop).2]at hb
  cases hb;show c.Fd<_;rw[a];exact WE hd.2.2.1 h.mem.ok.gF
 ·rw[(key op hop).2]at hb
  cases hb;cases hl;exact⟨i,n.2⟩
end
end Cs
namespace Cs
open Go.Conc
variable[aT]
section
variable{P:Wr}{c:fX}{Post:Nat→R2→V8→Prop}{S:yq P c Post}
variable{z0:Z0}{zs:Nat→ZW P}{z':ZW P}{n i:Nat}
variable{gs:Array Wi}{w w':V8}{t:Y7}{bU:Nat→Option Nat}{RS RS':Nat→Nat→Prop}{blk blk':Nat→Option Nat}{g g':Wi}{es:Array Event}
omit [aT] in
theorem Tr.AY{zs':Nat→ZW P}{top size size':Nat}{fn:FuncId}{pos:String}{E':Env}(h:Tr c zs top bU blk size t)(hi:c.S0≤i∧i<top)(hb:∀q,blk' q=blk q∨(size≤q∧blk' q=some i))(hown:∀b q s,E' b=some (q,s,true)→blk' q=some i)(hshr:∀b q s,E' b=some (q,s,false)→c.Fix q)
  (hlo:∀q i,blk' q=some i→c.N1≤q∧q<size') (hFd:c.Fd<c.N1) (hes:∀e∈es,jH E' e) (hN:c.N1≤size') (hs:size≤size') (hz:∀j,¬ji (zs j)→¬ji (zs' j)) (hzi:¬ji (zs' i)):Tr c zs' top bU blk' size' (t++WX i fn pos es):=by
 have key:∀op∈WX i fn pos es,op.g=i∧((op.act.touch? = none∧∀m,op.act=.mark m→Neutral m)∨(∃b,op.act.touch? = some b∧(∀m,op.act≠.mark m)∧jf size' b.loc∧(∀ad,b.loc=.cell ad→ad.block≠c.Fd)∧(eJ c bU blk' b.loc=some i∨(eJ c bU blk' b.loc=none∧b.write=false)))):=fun op hop=>by
  obtain⟨e,he,rfl⟩:=Conc.mem_ofEvents hop;refine⟨rfl,?_⟩
  have own:∀b q s,E' b=some (q,s,true)→q<size'∧q≠c.Fd∧¬q<c.N1∧blk' q=some i:=fun b q s e=>by
   have h1:=hown b q s e;have h2:=hlo q i h1;exact⟨h2.2,vom,vom,h1⟩
  have cell:∀(a:Addr) (wr:Bool) b s o,E' b=some (a.block,s,o)→(wr=true→o=true)→(∃x,(MemAct.ofEvent ⟨.cell a,wr,false⟩).touch? = some x∧(∀m,MemAct.ofEvent ⟨.cell a,wr,false⟩≠.mark m)∧jf size' x.loc∧(∀ad,x.loc=.cell ad→ad.block≠c.Fd)∧(eJ c bU blk' x.loc=some i∨(eJ c bU blk' x.loc=none∧x.write=false))):=fun a wr b s o hE ho=>by
   refine⟨_,rfl,(fun m e=>by cases e),?_⟩;cases o with
   |true=>
    obtain⟨k1,k2,k3,k4⟩:=own b _ s hE;exact⟨k1,(fun ad e=>by cases e;exact k2),.inl (by simp only[eJ,V9 k2,V9 k3,k4])⟩
   |false=>
    have hf:=hshr b _ s hE;refine⟨WE hf.1 hN,(fun ad e=>by cases e;exact hf.2.1),.inr ⟨by simp only[eJ,V9 hf.2.1,Wc hf.1],?_⟩⟩;cases wr with
    |false=>rfl
    |true=>cases ho rfl
  cases hes e he with
  |read hE=>exact .inr (cell _ false _ _ _ hE (fun e=>by cases e))
  |write hE=>exact .inr (cell _ true _ _ _ hE (fun _=>rfl))
  |@obj r b s wr hE=>
   obtain⟨k1,k2,k3,k4⟩:=own b r s hE;have e1:MemAct.ofEvent ⟨.obj r,wr,false⟩=.access ⟨.obj r,wr,false⟩:=by cases wr<;>rfl
   refine .inr ⟨⟨.obj r,wr,.plain⟩,by rw[e1];rfl,(fun m e=>by rw[e1]at e;cases e),k1,(fun ad e=>by cases e),.inl (by simp only[eJ,V9 k3,k4])⟩
  |noRoom=>exact .inl ⟨rfl,fun m e=>by cases e;trivial⟩
 refine(h.Qo hb).own (.inr hi) (fun op hop=>?_) (fun op hop m hm=>?_) hs (fun op hop b hb=>?_) (fun op hop b ad hb hl hd=>?_) hz (fun _=>hzi)
 ·obtain⟨h1,h2⟩:=key op hop
  refine⟨h1,fun b hb=>?_⟩;rcases h2 with⟨h2,_⟩|⟨b',h2,_,_,_,h3⟩
  ·rw[h2]at hb;cases hb
  ·rw[h2]at hb;cases hb;exact h3
 ·rcases(key op hop).2 with⟨_,h2⟩|⟨_,_,h2,_⟩
  ·exact h2 m hm
  ·exact absurd hm (h2 m)
 ·rcases(key op hop).2 with⟨h2,_⟩|⟨b',h2,_,h3,_⟩
  ·rw[h2]at hb;cases hb
  ·rw[h2]at hb;cases hb;exact h3
 ·rcases(key op hop).2 with⟨h2,_⟩|⟨b',h2,_,_,h3,_⟩
  ·rw[h2]at hb;cases hb
  ·rw[h2]at hb;cases hb;exact absurd hd (h3 ad hl)
theorem cg.AY(hG:P.globals.size≤aT.G)(hC:cP P)(h:cg S gs w t z0 zs bU RS blk)(hi:c.S0≤i)(hg:gs[i]?=some g){k:Nat}(hk:k<c.K){E:Env}{gl:Wi}{wl:V8}{cal:Frame}{rest:List Frame}(hin:bH P (Post k) (cal :: rest) E gl wl g w)
  (hcont:∀v,S.PW v→∀w,c.Ok w→∃m,Walk P c false (S.Qa k v) m (G (cal.finish v) rest) w) (hz1:∀q,gV (zs i) q↔∃b s,E b=some (q,s,true)) (hz2:∀j,holds (zs i) j↔k=j) (hsh:∀b q s,E b=some (q,s,false)→c.Fix q) (hl:oP (zs i)=0) (hp:pW (zs i)=8∨∃s,zs i=.ca k E s∧s.1=(gl,wl)):ju S gs w t z0 zs i:=by
 have C:=S.s1;have hd:=S.d1;have n:=cI hg;have u:∀b q s,E b=some (q,s,true)→c.N1≤q∧q<w.heap.size∧blk q=some i:=fun b q s e=>h.mem.En i q hi n ((hz1 q).2 ⟨b,s,e⟩);have low:∀{E':Env} {w':V8},FC E E' w w'→∀q,q<c.N1→w'.heap[q]?=w.heap[q]?:=fun hf q hq=>hf.keep q (WE hq h.mem.ok.gF) fun b s e=>by have:=(u b q s e).1;omega
 have oth:∀{E':Env} {w':V8},FC E E' w w'→∀j q,c.S0≤j→j<gs.size→j≠i→gV (zs j) q→w'.heap[q]?=w.heap[q]?:=fun hf j q a1 a2 a3 a4=>by
  obtain⟨b1,b2,b3⟩:=h.mem.En j q a1 a2 a4;refine hf.keep q b2 fun b s e=>?_;have:=(u b q s e).2.2;rw[b3]at this;cases this;exact a3 rfl
 by_cases hs:Stop [aK P] gl
 ·obtain⟨v,wl2,E',v',w',es,f,hvr,A,x,y,a⟩:=hin.ret false hs
  obtain⟨blk',mem1,hb,l,d⟩:=h.mem.call (s':=⟨(gl,wl),iM hin.live⟩) hi n hz1 hz2 a hsh hd.2.2.1;obtain⟨m,hw⟩:=hcont v' (S.SV k v wl2 E' v' f hvr) w' mem1.ok;have mem2:=mem1.tell (m:=m) hi n (ay _ _ _) d f hvr A;rw[Ja]at mem2;refine h.Tx (z':=.po k v' m) vom hg x ⟨hk,S.SV k v wl2 E' v' f hvr,hw⟩ (low a _ hd.1) (low a _ hd.2.1) (oth a) (fun e=>by omega) (fun e=>by cases e) (fun _ _=>trivial) (fun e=>by cases e) (by rw[hl];rfl) (fun _ _ _ e=>by cases e) mem2 ?_ ?_
  ·exact h.tr.AY ⟨hi,n⟩ hb l d mem1.PJ hd.2.2.1 y mem1.ok.gF a.size (eR fun _ e=>e) (by rw[ay];exact fun e=>e)
  ·rcases hp with hp|⟨s,hp,_⟩
   ·rw[hp];exact .inl (show 6<8 by omega)
   ·rw[hp];exact .inl (show 6<7 by omega)
 ·obtain⟨E',gl',wl',g',w',es,x,o,z,y,a⟩:=hin.step hG hC false hs
  obtain⟨blk',mem1,hb,l,d⟩:=h.mem.call (s':=⟨(gl',wl'),iM o.live⟩) hi n hz1 hz2 a hsh hd.2.2.1;refine h.Tx (z':=.ca k E' ⟨(gl',wl'),iM o.live⟩) vom hg x ⟨hk,cal,rest,o,hcont⟩ (low a _ hd.1) (low a _ hd.2.1) (oth a) (fun e=>by omega) (fun e=>by cases e) (fun _ _=>trivial) (fun e=>by cases e) (by rw[hl];rfl) (fun _ _ _ e=>by cases e;exact d) mem1 ?_ ?_
  ·exact h.tr.AY ⟨hi,n⟩ hb l d mem1.PJ hd.2.2.1 y mem1.ok.gF a.size (eR fun _ e=>e) (by rw[ay];exact fun e=>e)
  ·rcases hp with hp|⟨s,hp,B⟩
   ·rw[hp];exact .inl (show 7<8 by omega)
   ·rw[hp];exact .inr ⟨rfl,.call (by rw[B];exact z)⟩
end
section
variable{P:Wr}{c:fX}{Post:Nat→R2→V8→Prop}{S:yq P c Post}
variable{z0:Z0}{zs:Nat→ZW P}{z':ZW P}{n i:Nat}
variable{gs:Array Wi}{w w':V8}{t:Y7}{bU:Nat→Option Nat}{RS RS':Nat→Nat→Prop}{blk blk':Nat→Option Nat}{g g' g2:Wi}{es:Array Event}
theorem cg.parts(h:cg S gs w t z0 zs bU RS blk){r:Nat}{send:Bool}(hw:∀j,1≤j→j<gs.size→j≠i→(zs j=.wt→r=c.C1→send=false→False)∧(zs j=.fw→r=c.C2→send=true→False))(h0:i≠0→((∃k,z0=.wQ k)→r=c.C1→send=true→False)∧((∃k,z0=.xF k)→r=c.C2→send=false→False)):partners (gs.setIfInBounds i ph) r send=[]:=by
 refine partners_nil fun j x hx=>?_;rcases getElem?_stand gs i j x hx with⟨_,rfl⟩|⟨d,b⟩
 ·exact offersAt_ph _ _
 ·rcases XK j with rfl|hj
  ·obtain⟨a,h1,h2⟩:=h.a0
   rw[b]at h1;cases h1;obtain⟨k1,k2⟩:=h0 (fun e=>d e.symm);rcases h2.off h.mem.ok r send with h3|⟨a1,a2,a3⟩|⟨a1,a2,a3⟩
   ·exact h3
   ·exact(k1 a1 a2 a3).elim
   ·exact(k2 a1 a2 a3).elim
  ·obtain⟨k1,k2⟩:=hw j hj (cI b) d
   rcases(h.wk j x hj b).off h.mem.ok r send with h3|⟨a1,a2,a3⟩|⟨a1,a2,a3⟩
   ·exact h3
   ·exact(k1 a1 a2 a3).elim
   ·exact(k2 a1 a2 a3).elim
theorem cg.PY(h:cg S gs w t z0 zs bU RS blk)(hi:i≠0){r:Nat}{send:Bool}{g0:Wi}(hg0:gs[0]?=some g0)(ho:offersAt g0 r send=[0])(hw:∀j,1≤j→j<gs.size→j≠i→(zs j=.wt→r=c.C1→send=false→False)∧(zs j=.fw→r=c.C2→send=true→False)):partners (gs.setIfInBounds i ph) r send=[(0,0)]:=by
 have h0:(gs.setIfInBounds i ph)[0]?=some g0:=by rw[Wt hi];exact hg0
 rw[partners_one h0 fun j x hj hx=>?_,ho]
 ·rfl
 ·rcases getElem?_stand gs i j x hx with⟨_,rfl⟩|⟨b,a⟩
  ·exact offersAt_ph _ _
  ·obtain⟨k1,k2⟩:=hw j vom (cI a) b
   rcases(h.wk j x vom a).off h.mem.ok r send with h3|⟨a1,a2,a3⟩|⟨a1,a2,a3⟩
   ·exact h3
   ·exact(k1 a1 a2 a3).elim
   ·exact(k2 a1 a2 a3).elim
omit [aT] in
theorem setChan_at{w:V8}{q:Nat}{o:Obj}(hq:w.heap[q]?=some o){cap:Nat}{buf:Array R2}{cl:Bool}{s r:Nat}{tm:Bool}:(w.setChan q cap buf cl s r tm).heap[q]?=some (.chan cap buf cl s r tm):=by
 show(w.heap.setIfInBounds q _)[q]?=_;exact WB (Wd.1 hq).1
omit [aT] in
theorem iG{w:V8}{q q':Nat}(h:q'≠q){cap:Nat}{buf:Array R2}{cl:Bool}{s r:Nat}{tm:Bool}:(w.setChan q cap buf cl s r tm).heap[q']?=w.heap[q']?:=by
 show(w.heap.setIfInBounds q _)[q']?=_;exact Wt (fun e=>h e.symm)
omit [aT] in
theorem fP{w:V8}{q:Nat}{cap:Nat}{buf:Array R2}{cl:Bool}{s r:Nat}{tm:Bool}:(w.setChan q cap buf cl s r tm).heap.size=w.heap.size:=by
 show(w.heap.setIfInBounds q _).size=_;simp
theorem cg.handed(h:cg S gs w t z0 zs bU RS blk)(hi:c.S0≤i)(his:i<gs.size){k m:Nat}(hk:k<c.K)(hz0:z0=.wQ k∨z0=.sd k m){g0 gw:Wi}(hs0:S.zM k g0)(hrec:S.Rec gw)(hzi:(∃m,zs i=.st m)∨zs i=.wt)
  {gs':Array Wi} {d:Nat} {x1 x2 x3 x4:MemOp} (hn:∀op∈(#[x1,x2,x3,x4]:Y7),op.act.touch? = none∧∀m,op.act≠.mark m) (hs:gs'.size=gs.size) (s0:gs'[0]?=some (Conc.served g0 undef)) (si:gs'[i]?=some (Conc.served gw (.tuple #[.int .i64 (k:Nat),.bool true]))) (so:∀j,j≠0→j≠i→gs'[j]?=gs[j]?) :
  ∃z0' zs' fnd' RS' blk',cg S gs' ((w.at d).setChan c.C1 0 #[] false (k+1) (k+1) false) (t++#[x1,x2,x3,x4]) z0' zs' fnd' RS' blk'∧uK P [aK P] (me c z0' zs' gs'.size) (me c z0 zs gs.size):=by
 have hd:=S.d1;have e1:sent c z0=k:=by rcases hz0 with rfl|rfl<;>rfl
 have e2:closed z0=false:=by rcases hz0 with rfl|rfl<;>rfl
 have e3:rcvd z0=0:=by rcases hz0 with rfl|rfl<;>rfl
 have e4:gz c z0=c.n:=by rcases hz0 with rfl|rfl<;>rfl
 have e5:4*c.n+4+10*(c.K-k)+1≤p0 c z0:=by rcases hz0 with rfl|rfl<;>simp only[p0]<;>omega
 have n1:∀k,¬holds (zs i) k:=by rcases hzi with⟨m,e⟩|e<;>rw[e]<;>exact fun _ h=>h
 have n2:4≤pW (zs i):=by rcases hzi with⟨m,e⟩|e<;>rw[e]<;>simp only[pW]<;>omega
 have n3:oP (zs i)=0:=by rcases hzi with⟨m,e⟩|e<;>rw[e]<;>rfl
 have b:∀q,q≠c.C1→q≠c.C2→((w.at d).setChan c.C1 0 #[] false (k+1) (k+1) false).heap[q]?=w.heap[q]?:=fun q h1 _=>iG h1;have memw:=h.mem.iB (zs':=zs) b ⟨fP,rfl,rfl⟩ S.chans (fun _ _ _ _=>ZM) (fun _ _ _ _ h=>h) (fun _ _ _ m _ _ h=>⟨m,h⟩);rw[e1]at memw;obtain⟨mw,g⟩:=S.Gb gw hrec k hk _ memw.ok;obtain⟨_,_,o⟩:=S.Qk k g0 hs0 hk;obtain⟨m0,a⟩:=o _ memw.ok;have memg:=memw.give (m:=mw) hi his n1
 have trg:Tr c (cJ zs i (.pr k mw)) gs.size (cJ bU k (some i)) blk ((w.at d).setChan c.C1 0 #[] false (k+1) (k+1) false).heap.size (t++#[x1,x2,x3,x4]):=
  (h.tr.give (i:=i) (h.mem.Pa k vom)).mute (fun op hop=>(hn op hop).1) (fun op hop m hm=>absurd hm ((hn op hop).2 m)) (by rw[fP];exact R3 _) (eR fun _ e=>e)
 have f:((w.at d).setChan c.C1 0 #[] false (k+1) (k+1) false).heap[c.C2]?=some (.chan 0 #[] false 0 0 false):=(iG (fun e=>hd.2.2.2.1 e.symm)).trans (by have:=h.c2;rw[e3]at this;exact this);have l:((w.at d).setChan c.C1 0 #[] false (k+1) (k+1) false).heap[c.C1]?=some (.chan 0 #[] false (k+1) (k+1) false):=setChan_at (w:=w.at d) h.c1;by_cases hlast:k+1<c.K
 ·simp only[Wc hlast]at a
  refine⟨.sd (k+1) m0,cJ zs i (.pr k mw),cJ bU k (some i),RS,blk,h.JZ hi his hs ⟨_,s0,hlast,a⟩ ⟨_,si,hk,g⟩ so b l f e4.symm e2.symm (fun e=>by cases e) (fun _=>trivial) (fun⟨_,e⟩=>by cases e) (fun⟨_,e⟩=>by cases e) (by rw[n3,e3];rfl) (fun _ _ _ e=>by cases e) memg trg,?_⟩;rw[hs];refine Qh his ?_;simp only[p0,pW]at e5⊢;omega
 ·simp only[V9 hlast]at a
  have ek:k+1=c.K:=vom;refine⟨.cl m0,cJ zs i (.pr k mw),cJ bU k (some i),RS,blk,h.JZ hi his hs ⟨_,s0,a⟩ ⟨_,si,hk,g⟩ so b (by rw[show sent c (.cl m0)=k+1 from ek.symm];exact l) f e4.symm e2.symm (fun e=>by cases e) (fun _=>trivial) (fun⟨_,e⟩=>by cases e) (fun⟨_,e⟩=>by cases e) (by rw[n3,e3];rfl) (fun _ _ _ e=>by cases e) (by rw[show sent c (.cl m0)=k+1 from ek.symm];exact memg) trg,?_⟩;rw[hs];refine Qh his ?_;simp only[p0,pW]at e5⊢;omega
theorem cg.told(h:cg S gs w t z0 zs bU RS blk)(hi:c.S0≤i)(his:i<gs.size){r m:Nat}(hr:r<c.n)(hz0:z0=.xF r∨z0=.rc r m){g0 gw:Wi}(hs0:S.tW r g0)(hsnd:S.Jl gw)(hzi:(∃m,zs i=.fi m)∨zs i=.fw)
  {gs':Array Wi} {d:Nat} {x1 x2 x3 x4:MemOp} (k1:x1.g=i∧x1.act=.send c.C2 r) (k2:x2.act.touch? = none∧∀m,x2.act≠.mark m) (k3:x3.act.touch? = none∧∀m,x3.act≠.mark m) (k4:x4.g=0∧x4.act=.recvDone c.C2 r)
  (hs:gs'.size=gs.size) (s0:gs'[0]?=some (Conc.served g0 (.bool true))) (si:gs'[i]?=some (Conc.served gw undef)) (so:∀j,j≠0→j≠i→gs'[j]?=gs[j]?) :
  ∃z0' zs' fnd' RS' blk',cg S gs' ((w.at d).setChan c.C2 0 #[] false (r+1) (r+1) false) (t++#[x1,x2,x3,x4]) z0' zs' fnd' RS' blk'∧uK P [aK P] (me c z0' zs' gs'.size) (me c z0 zs gs.size):=by
 have hd:=S.d1;have e1:sent c z0=c.K:=by rcases hz0 with rfl|rfl<;>rfl
 have e2:closed z0=true:=by rcases hz0 with rfl|rfl<;>rfl
 have e3:rcvd z0=r:=by rcases hz0 with rfl|rfl<;>rfl
 have e4:gz c z0=c.n:=by rcases hz0 with rfl|rfl<;>rfl
 have e5:4*(c.n-r)+1≤p0 c z0:=by rcases hz0 with rfl|rfl<;>simp only[p0]<;>omega
 have n1:∀k,¬holds (zs i) k:=by rcases hzi with⟨m,e⟩|e<;>rw[e]<;>exact fun _ h=>h
 have n3:oP (zs i)=0:=by rcases hzi with⟨m,e⟩|e<;>rw[e]<;>rfl
 have a:∀q,q≠c.C1→q≠c.C2→((w.at d).setChan c.C2 0 #[] false (r+1) (r+1) false).heap[q]?=w.heap[q]?:=fun q _ h1=>iG h1;obtain⟨_,_,q,hq⟩:=S.LX gw hsnd;have memw:Mem P c Post (cJ zs i (.lv q)) gs.size (sent c z0) bU RS blk ((w.at d).setChan c.C2 0 #[] false (r+1) (r+1) false):=h.mem.one S a ⟨fP,rfl,rfl⟩ (fun k=>⟨fun e=>e.elim,fun e=>(n1 k e).elim⟩) (fun _ e=>e.elim) (fun _ _ _ e=>by cases e);obtain⟨_,_,o⟩:=S.Qy r g0 hs0 hr;obtain⟨m0,f⟩:=o _ memw.ok;have l:((w.at d).setChan c.C2 0 #[] false (r+1) (r+1) false).heap[c.C1]?=some (.chan 0 #[] true c.K c.K false):=(iG hd.2.2.2.1).trans (by have:=h.c1;rw[e1,e2]at this;exact this);have b:((w.at d).setChan c.C2 0 #[] false (r+1) (r+1) false).heap[c.C2]?=some (.chan 0 #[] false (r+1) (r+1) false):=setChan_at (w:=w.at d) h.c2
 have trg:Tr c (cJ zs i (.lv q)) gs.size bU blk ((w.at d).setChan c.C2 0 #[] false (r+1) (r+1) false).heap.size (t++#[x1,x2,x3,x4]):=by
  rw[fP];exact h.tr.done k1 k2 k3 k4 fun j hj hn=>by rw[aG _ _ hj];exact hn
 refine⟨.rc (r+1) m0,cJ zs i (.lv q),bU,RS,blk,h.JZ hi his hs ⟨_,s0,hr,f⟩ ⟨_,si,hq⟩ so a l b e4.symm e2.symm (fun e=>by cases e) (fun e=>by rw[e2]at e;cases e) (fun⟨_,e⟩=>by cases e) (fun⟨_,e⟩=>by cases e) (by rw[n3,e3];rfl) (fun _ _ _ e=>by cases e) (by rw[e1]at memw;exact memw) trg,?_⟩;rw[hs];refine Qh his ?_;simp only[p0,pW]at e5⊢;omega
end
end Cs
end Go.Proofs.YtpcnpkhgjanamaaGreatDoor
