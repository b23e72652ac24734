import Derived.Conc.AppendEvents3
import Derived.Test.YtgacaecjinlhiaaGreatDoorFd3
import Derived.Test.YtgacaecjinlhiaaGreatDoorJn12
namespace Go.Proofs.YtgacaecjinlhiaaGreatDoor
section
open Go.RowKit PK Vg
end
section
open Go.RowKit PK Vg
def gmN (g:Gm) (N:Nat):Gm:={ g with sl:=g.n,st:=fun i=>((iD g.n N i:Nat):Int) }
theorem IJ {g:Gm} (h:gE g=0) (N:Nat):gE (gmN g N)=0:=by
 have hins:ins g.n (fun i=>((iD g.n N i:Nat):Int))=true:=(lX _ _).2 fun i _=>by have:=IW g.n N i;omega
 unfold gE at h ⊢
 show (if g.n<1∨4<g.n then 5 else if whE (gmN g N) g.n≠0 then whE (gmN g N) g.n else if g.rl≠g.n then 8 else if ins g.rl g.ri=false then 3 else if g.n≠g.n then 8 else if ins g.n (fun i=>((iD g.n N i:Nat):Int))=false then 3 else if Pm.wrong g.rf≠0 then Pm.wrong g.rf else if gK true g.rf=false then 1 else if Pm.wrong g.pl≠0 then Pm.wrong g.pl else if gK false g.pl=false then 1 else 0)=(0:Int)
 have hw:∀k,whE (gmN g N) k=whE g k:=fun k=>by
  induction k with
  | zero=>rfl
  | succ k ih =>
   show (if whE (gmN g N) k≠0 then whE (gmN g N) k else if Pm.wrong (g.wi k)≠0 then Pm.wrong (g.wi k) else if ins (g.nl k) (g.no k)=true then 0 else 3)=_
   rw[ih]
   rfl
 rw[hw,hins,if_neg (c:=g.n≠g.n) (fun e=>e rfl),if_neg (c:=true=false) (by decide)]
 by_cases h1:g.n<1∨4<g.n
 ·rw[if_pos h1] at h;cases h
 rw[if_neg h1] at h ⊢
 by_cases h2:whE g g.n≠0
 ·rw[if_pos h2] at h;exact absurd h h2
 rw[if_neg h2] at h ⊢
 by_cases h3:g.rl≠g.n
 ·rw[if_pos h3] at h;cases h
 rw[if_neg h3] at h ⊢
 by_cases h4:ins g.rl g.ri=false
 ·rw[if_pos h4] at h;cases h
 rw[if_neg h4] at h ⊢
 by_cases h5:g.sl≠g.n
 ·rw[if_pos h5] at h;cases h
 rw[if_neg h5] at h
 by_cases h6:ins g.sl g.st=false
 ·rw[if_pos h6] at h;cases h
 rw[if_neg h6] at h
 exact h
theorem kO {w w':World} {B:Nat} {T:TypeId} {s n:Nat} {v:Value} {l:List Value} (h:w.ownsRow B T s v n l) (hb:Below w.heap.size w w'):w'.ownsRow B T s v n l:=by
 obtain ⟨h1,h2⟩:=h
 refine ⟨h1,?_⟩
 rcases h2 with h2 | ⟨g,cap,cur,e,hB,hg,h3⟩
 ·exact .inl h2
 ·exact .inr ⟨g,cap,cur,e,hB,(hb.block g (Array.getElem?_eq_some_iff.1 hg).1).trans hg,h3⟩
end
section
open Go.RowKit PK Vg
def swE (g:Gm) (h:Int):Int:=if gE g≠0 then gE g else if 3<g.n then 4 else if h<1∨16<h then 3 else 0
theorem oZ {g:Gm} {h:Int} (e:swE g h=0):gE g=0∧g.n≤3∧1≤h∧h≤16:=by
 unfold swE at e
 by_cases h1:gE g=0
 ·rw[if_neg (fun e=>e h1)] at e
  by_cases h2:3<g.n
  ·rw[if_pos h2] at e;cases e
  ·rw[if_neg h2] at e
   by_cases h3:h<1∨16<h
   ·rw[if_pos h3] at e;cases e
   ·omega
 ·rw[if_pos h1] at e;exact absurd e h1
set_option maxRecDepth 100000 in
set_option maxHeartbeats 2000000 in
theorem Hr (vm:Value) (g:Gm) (h:Int) (w:World) (hm:cE w vm g):Calls Tryz.prog 31 #[vm,.int .i64 h] w fun e w'=>e=.returned (.int .i64 (swE g h))∧Below w.heap.size w w':=by
 have HC:=(show Hid (∀W,Below w.heap.size w W→Calls Tryz.prog 28 #[vm] W fun e w'=>e=.returned (.int .i64 (gE g))∧Below W.heap.size W w') from fun W hb=>tI vm g W (hm.below hb))
 obtain ⟨a,b,c,rfl,hwh,_,_⟩:=hm
 obtain ⟨aw,cw,R,rfl,hmx,_,_⟩:=hwh
 unfold maxLen at hmx
 have hld:=af.new w 27 (mac (.slice aw g.n cw) b c g.rf g.pl)
 have hbe:=(Below.refl w.heap.size w).alloc (Nat.le_refl _) (.cells (mac (.slice aw g.n cw) b c g.rf g.pl) 27)
 have HA0:=(show Hid ((mac (.slice aw g.n cw) b c g.rf g.pl)[0]? = some (.slice aw g.n cw)) from dj _ _ _ _ _)
 have hA0s:(mac (.slice aw g.n cw) b c g.rf g.pl).size=55:=aE _ _ _ _ _
 generalize mac (.slice aw g.n cw) b c g.rf g.pl=A0 at *
 go_enter Tryz.func31,Tryz.ntmps31
 go_upto_region 1 with fail
 generalize w.alloc (.cells A0 27)=W0 at *
 go_wp2_with (first | refine wpList_load_row rfl 27 _ rfl w.heap.size rfl 27 A0 (0,0) _ hld Tryz.underlying27 rfl (by rw[hA0s];exact aF) ?_)
 refine (HC.out _ hbe).mono ?_
 rintro e W1 ⟨rfl,hb⟩
 have hld1:=hld.below hb hld.lt
 have HB:=(show Hid (Below w.heap.size w W1) from hbe.trans (hb.mono hbe.size))
 have c0:=hld1.cell HA0.out
 clear hb hld hbe HC hld1
 by_cases hz:gE g=0
 case neg =>
  have hz2:(gE g != 0)=true:=by simpa using hz
  have HE:Hid (swE g h=gE g):=by unfold swE;rw[Hid,if_pos hz]
  generalize gE g=E at *
  clear hz c0
  go_wp2
  go_ret
  exact ⟨by rw[HE.out];rfl,HB.out⟩
 rw[hz]
 by_cases h3:3<g.n
 ·have HE:Hid (swE g h=4):=by unfold swE;rw[Hid,if_neg (fun e=>e hz),if_pos h3]
  have h3i:(3:Int)<(g.n:Int):=by omega
  clear hz
  generalize g.n=n at *
  clear h3
  go_wp2
  go_ret
  exact ⟨by rw[HE.out];rfl,HB.out⟩
 have h3i:¬(3:Int)<(g.n:Int):=by omega
 by_cases h4:h<1
 ·have HE:Hid (swE g h=3):=by unfold swE;rw[Hid,if_neg (fun e=>e hz),if_neg h3,if_pos (.inl h4)]
  clear hz
  generalize g.n=n at *
  clear h3
  go_wp2
  go_ret
  exact ⟨by rw[HE.out];rfl,HB.out⟩
 by_cases h5:16<h
 ·have HE:Hid (swE g h=3):=by unfold swE;rw[Hid,if_neg (fun e=>e hz),if_neg h3,if_pos (.inr h5)]
  clear hz
  generalize g.n=n at *
  clear h3
  go_wp2
  go_ret
  exact ⟨by rw[HE.out];rfl,HB.out⟩
 have HE:Hid (swE g h=0):=by unfold swE;rw[Hid,if_neg (fun e=>e hz),if_neg h3,if_neg (by omega)]
 clear hz
 generalize g.n=n at *
 clear h3
 go_wp2
 go_ret
 exact ⟨by rw[HE.out];rfl,HB.out⟩
end
section
open Go.RowKit PK Vg
def OwI (W:World) (u:Value) (m:Nat) (f:Nat→Int):Prop:=∃B,W.ownsRow B 3 1 u m (ints m f).toList
theorem OwI.below {W W':World} {u:Value} {m:Nat} {f:Nat→Int} (h:OwI W u m f) (hb:Below W.heap.size W W'):OwI W' u m f:=by
 obtain ⟨B,h⟩:=h
 exact ⟨B,kO h hb⟩
theorem OwI.form {W:World} {u:Value} {m:Nat} {f:Nat→Int} (h:OwI W u m f):(u=.slice none 0 0∧m=0)∨∃g c,u=.slice (some ⟨g,0,none⟩) m c:=by
 obtain ⟨B,h⟩:=h
 rcases h.2 with ⟨rfl,h0⟩ | ⟨g,cap,cur,rfl,_⟩
 ·exact .inl ⟨rfl,h0⟩
 ·exact .inr ⟨g,cap,rfl⟩
end
section
open Go.RowKit PK Vg
end
section
open Go.RowKit PK Vg
def two (f g:Nat→Nat):Nat→Nat→Nat:=fun r=>if r=0 then f else g
section
variable {w W W':World} {a b c:Value} {rf pl:Nat→Int} {C:Nat→Nat→Nat} {k:Nat}
end
end
section
open Go.RowKit PK
end
section
open Go.RowKit PK Vg
section
variable {w W W':World} {a b c:Value} {rf pl:Nat→Int} {P:Nat→Nat→Nat} {q k:Nat} {V:Nat→Value}
end
end
section
open Go.RowKit PK Vg
end
section
open Go.RowKit PK Vg
def eF (L:Nat→List Nat):Nat→List Nat
 | 0=>[]
 | k+1=>eF L k++L k
end
section
open Go.RowKit PK Vg
end
section
open Go.RowKit PK Vg
set_option maxRecDepth 100000 in
set_option maxHeartbeats 2000000 in
theorem Fa (u v:Value) (n:Nat) (f:Nat→Int) (w:World) (hu:aq w u n f) (hv:aq w v n f):Calls Tryz.prog 15 #[u,v] w fun e w'=>e=.returned (.bool true)∧Below w.heap.size w w':=by
 obtain ⟨a,ca,rfl,hm,hca⟩:=hu
 obtain ⟨b,cb,rfl,_,hcb⟩:=hv
 unfold maxLen at hm
 have HA:=(show Hid (∀c,c<n→∃b o,a=some ⟨b,o,none⟩∧w.cell? ⟨b,o+c,none⟩=some (.int .i64 (f c))) from hca)
 have HB:=(show Hid (∀c,c<n→∃b' o,b=some ⟨b',o,none⟩∧w.cell? ⟨b',o+c,none⟩=some (.int .i64 (f c))) from hcb)
 have hne:((n:Int) != (n:Int))=false:=by simp
 clear hca hcb
 go_enter Tryz.func15,Tryz.ntmps15
 go_wp2_with fail
 clear hne
 go_loopw [13] (fun i W=>∃k:Nat,k≤n∧i=.int .i64 (k:Nat)∧Below w.heap.size w W) (fun i _=>((n:Int)-intOf i).toNat)
 case atStart=>exact ⟨0,by omega,rfl,Below.refl _ _⟩
 case round =>
  obtain ⟨k,hk,rfl,hbe⟩:=hrel
  by_cases hlt:k<n
  ·have HLT:Hid (k<n):=hlt
   have hlt2:(k:Int)<(n:Int):=by omega
   obtain ⟨b1,o1,rfl,h1⟩:=HA.out k hlt
   obtain ⟨b2,o2,rfl,h2⟩:=HB.out k hlt
   have c1:=(hbe.cell (p:=⟨b1,o1+k,none⟩) (aA h1)).trans h1
   have c2:=(hbe.cell (p:=⟨b2,o2+k,none⟩) (aA h2)).trans h2
   have HBE:=(show Hid _ from hbe)
   generalize f k=x at *
   have hxx:(x != x)=false:=by simp
   clear hbe h1 h2 hlt HA HB
   go_upto_region 6 with fail
   go_quiet (fail)
   go_wp2
   go_roundw
   case rel=>exact ⟨k+1,HLT.out,by go_num,HBE.out.trans ⟨rfl,rfl,rfl,Nat.le_refl _,fun _ _=>rfl⟩⟩
   case measure=>have:=HLT.out;simp[intOf];omega
  ·obtain rfl:k=n:=by omega
   have hnn:¬((k:Nat):Int)<((k:Nat):Int):=by omega
   go_wp2
   go_ret
   exact ⟨rfl,hbe⟩
end
section
open Go.RowKit PK Vg
end
section
open Go.RowKit PK Vg
theorem wm {P:Program} {ops:Array Oper} {Q:Exit→Act→World→Prop} {a:Act} {w:World} (k n:Nat) (hn:n=ops.size-k) (h:wpList P ops Q (ops.toList.drop k) a w):wpOps P ops Q (List.range' k n) a w:=by
 have e:=wpOps_eq_wpList (P:=P) (ops:=ops) (Q:=Q) (ops.toList.drop k) k (fun j=>by simp[List.getElem?_drop])
 rw[show (ops.toList.drop k).length=n by simp[hn]] at e
 rw[e]
 exact h
end
section
open Go.RowKit PK Vg Go.Conc
end
section
open Go.RowKit PK Vg Go.Conc Cs
def Rt (w:World) (v:Value):Prop:=∀a l c,v=.slice (some a) l c→0<c→a.spot=none∧∃y T fr,w.heap[a.block]? = some (.cells y T fr)
theorem cy {E E':Env} {wl wl':World} (h:dM E E' wl wl') {v:Value} {n:Nat} {f:Nat→Int} (hv:aq wl v n f):aq wl' v n f:=by
 obtain ⟨a,cap,h1,h2,h3⟩:=hv
 refine ⟨a,cap,h1,h2,fun c hc=>?_⟩
 obtain ⟨b,o,e,k⟩:=h3 c hc
 exact ⟨b,o,e,h.cell k⟩
variable [Fns]
section
variable {P:Program} {E:Env} {wl w:World}
theorem oM (h:Cp P E wl w) {TJ:TypeId} (hJ:P.info? TJ=none) {v:Value} {n:Nat} {f:Nat→Int} (hv:aq w v n f) (hr:Rt w v):∃E' wl' u,Cp P E' wl' w∧dM E E' wl wl'∧VR E' u v∧aq wl' u n f:=by
 obtain ⟨a,cap,rfl,hn,hc⟩:=hv
 cases a with
 | none =>
  refine ⟨E,wl,_,h,dM.refl _ _,.bK n cap,none,cap,rfl,hn,fun c hc'=>?_⟩
  obtain ⟨b,o,e,_⟩:=hc c hc'
  cases e
 | some ad =>
  by_cases hz:n=0∧cap=0
  ·obtain ⟨rfl,rfl⟩:=hz
   exact ⟨E,wl,_,h,dM.refl _ _,.b9 ad ad,some ad,0,rfl,hn,fun c hc'=>absurd hc' (Nat.not_lt_zero _)⟩
  ·have hrow:ad.spot=none∧∃y T fr,w.heap[ad.block]? = some (.cells y T fr):=by
    by_cases h0:0<n
    ·obtain ⟨b,o,e,k⟩:=hc 0 h0
     cases e
     obtain ⟨y,T,fr,k1,_⟩:=cU k
     exact ⟨rfl,y,T,fr,k1⟩
    ·exact hr ad n cap rfl (by omega)
   obtain ⟨b,o,sp⟩:=ad
   obtain ⟨hsp,y,T,fr,hq⟩:=hrow
   dsimp only at hsp hq
   subst hsp
   obtain ⟨E',c1,c2,c3,c4⟩:=h.row hJ (s:=o) hq (Array.ofFn fun i:Fin n=>Value.int .i64 (f i)) (fun i u hu=>by
    obtain ⟨hi,rfl⟩:=Array.getElem?_eq_some_iff.1 hu
    simp only[Array.size_ofFn] at hi
    obtain ⟨b',o',e,k⟩:=hc i hi
    cases e
    refine ⟨.int .i64 (f i),?_,by rw[Array.getElem_ofFn];exact .int _ _⟩
    rw[cell_of_row _ _ _ _ _ _ hq] at k
    rw[Nat.add_comm]
    exact k)
   refine ⟨E',_,.slice (some ⟨wl.heap.size,0,none⟩) n cap,c1,c2,.slice n cap ?_,some ⟨wl.heap.size,0,none⟩,cap,rfl,hn,fun c hc'=>⟨wl.heap.size,0,rfl,?_⟩⟩
   ·have:=c3 0
    rw[Nat.zero_add] at this
    exact this
   ·rw[Nat.zero_add]
    exact c4 c _ (by rw[Array.getElem?_eq_getElem (by simpa using hc'),Array.getElem_ofFn])
theorem vt {TJ:TypeId} (hJ:P.info? TJ=none) (R:Nat→Value) (nl:Nat→Nat) (no:Nat→Nat→Int):∀(n:Nat) {E:Env} {wl:World},Cp P E wl w→(∀r,r<n→aq w (R r) (nl r) (no r)∧Rt w (R r))→∃(E':Env) (wl':World) (Ul:Nat→Value),Cp P E' wl' w∧dM E E' wl wl'∧∀r,r<n→VR E' (Ul r) (R r)∧aq wl' (Ul r) (nl r) (no r)
 | 0,E,wl,h,_=>⟨E,wl,R,h,dM.refl _ _,fun r hr=>absurd hr (Nat.not_lt_zero _)⟩
 | n+1,E,wl,h,hR=>by
  obtain ⟨E1,wl1,Ul,h1,h2,h3⟩:=vt hJ R nl no n h fun r hr=>hR r (Nat.lt_succ_of_lt hr)
  obtain ⟨k1,k2⟩:=hR n (Nat.lt_succ_self n)
  obtain ⟨E2,wl2,u,g1,g2,g3,g4⟩:=oM h1 hJ k1 k2
  refine ⟨E2,wl2,fun r=>if r=n then u else Ul r,g1,h2.trans g2,fun r hr=>?_⟩
  by_cases e:r=n
  ·subst e
   simp only[if_true]
   exact ⟨g3,g4⟩
  ·simp only[if_neg e]
   obtain ⟨a,b⟩:=h3 r (by omega)
   exact ⟨a.mono g2.le,cy g2 b⟩
end
end
section
open Go.RowKit PK Vg Go.Conc Cs
def WhR (W:World) (v:Value) (n:Nat) (wi:Nat→Nat→Int) (nl:Nat→Nat) (no:Nat→Nat→Int):Prop :=
 ∃(a:Option Addr) (cap:Nat) (R:Nat→Value),v=.slice a n cap∧n≤maxLen∧(∀r,r<n→∃b o,a=some ⟨b,o,none⟩∧W.rangeAt b (o+r*27) (whl (wi r) (R r)).toList)∧∀r,r<n→aq W (R r) (nl r) (no r)∧Rt W (R r)
def JD (W:World) (v:Value) (g:Gm):Prop:=∃a b c,v=.agg (mac a b c g.rf g.pl)∧WhR W a g.n g.wi g.nl g.no∧aq W b g.rl g.ri∧aq W c g.sl g.st∧Rt W a∧Rt W b∧Rt W c
theorem WhR.at_ {W:World} {v:Value} {n:Nat} {wi:Nat→Nat→Int} {nl:Nat→Nat} {no:Nat→Nat→Int} (h:WhR W v n wi nl no):b7 W v n wi nl no:=by
 obtain ⟨a,cap,R,h1,h2,h3,h4⟩:=h
 exact ⟨a,cap,R,h1,h2,h3,fun r hr=>(h4 r hr).1⟩
theorem JD.at_ {W:World} {v:Value} {g:Gm} (h:JD W v g):cE W v g:=by
 obtain ⟨a,b,c,h1,h2,h3,h4,_⟩:=h
 exact ⟨a,b,c,h1,h2.at_,h3,h4⟩
theorem fH {E E':Env} {wl wl':World} (h:dM E E' wl wl') {v:Value} {n:Nat} {wi:Nat→Nat→Int} {nl:Nat→Nat} {no:Nat→Nat→Int} (hv:b7 wl v n wi nl no):b7 wl' v n wi nl no:=by
 obtain ⟨a,cap,R,h1,h2,h3,h4⟩:=hv
 refine ⟨a,cap,R,h1,h2,fun r hr=>?_,fun r hr=>cy h (h4 r hr)⟩
 obtain ⟨b,o,e,k⟩:=h3 r hr
 exact ⟨b,o,e,fun j v hj=>h.cell (k j v hj)⟩
variable [Fns]
section
variable {P:Program} {E:Env} {wl w:World}
theorem zH {f:Nat→Int} {U R:Value} (h:VR E U R) {j:Nat} (hj:j<27):∃u v,(whl f U)[j]? = some u∧(whl f R)[j]? = some v∧VR E u v:=by
 by_cases h26:j<26
 ·exact ⟨_,_,ff f U h26,ff f R h26,.int _ _⟩
 ·obtain rfl:j=26:=by omega
  exact ⟨_,_,gN f U,gN f R,h⟩
theorem BL (h:Cp P E wl w) {TJ:TypeId} (hJ:P.info? TJ=none) {v:Value} {n:Nat} {wi:Nat→Nat→Int} {nl:Nat→Nat} {no:Nat→Nat→Int} (hv:WhR w v n wi nl no) (hr:Rt w v):∃E' wl' u,Cp P E' wl' w∧dM E E' wl wl'∧VR E' u v∧b7 wl' u n wi nl no:=by
 obtain ⟨a,cap,R,rfl,hn,hc,hR⟩:=hv
 obtain ⟨E1,wl1,Ul,h1,h2,h3⟩:=vt hJ R nl no n h hR
 cases a with
 | none =>
  refine ⟨E1,wl1,_,h1,h2,.bK n cap,none,cap,Ul,rfl,hn,fun r hr=>?_,fun r hr=>(h3 r hr).2⟩
  obtain ⟨b,o,e,_⟩:=hc r hr
  cases e
 | some ad =>
  by_cases hz:n=0∧cap=0
  ·obtain ⟨rfl,rfl⟩:=hz
   exact ⟨E1,wl1,_,h1,h2,.b9 ad ad,some ad,0,Ul,rfl,hn,fun r hr=>absurd hr (Nat.not_lt_zero _),fun r hr=>absurd hr (Nat.not_lt_zero _)⟩
  ·have hrow:ad.spot=none∧∃y T fr,w.heap[ad.block]? = some (.cells y T fr):=by
    by_cases h0:0<n
    ·obtain ⟨b,o,e,k⟩:=hc 0 h0
     cases e
     obtain ⟨y,T,fr,k1,_⟩:=cU (k 0 _ (by rw[Array.getElem?_toList];exact ff _ _ (by decide)))
     exact ⟨rfl,y,T,fr,k1⟩
    ·exact hr ad n cap rfl (by omega)
   obtain ⟨b,o,sp⟩:=ad
   obtain ⟨hsp,y,T,fr,hq⟩:=hrow
   dsimp only at hsp hq
   subst hsp
   have hx:∀i,i<n*27→(Array.ofFn fun i:Fin (n*27)=>((whl (wi (i / 27)) (Ul (i / 27)))[i.1 % 27]?).getD (.bool false))[i]? = (whl (wi (i / 27)) (Ul (i / 27)))[i % 27]?:=fun i hi=>by
    rw[Array.getElem?_eq_getElem (by simpa using hi),Array.getElem_ofFn]
    obtain ⟨u,v,e1,_⟩:=zH (f:=wi (i / 27)) (h3 (i / 27) (by omega)).1 (Nat.mod_lt i (by decide:0<27))
    simp only[e1,Option.getD_some]
   obtain ⟨E',c1,c2,c3,c4⟩:=h1.row hJ (s:=o) hq (Array.ofFn fun i:Fin (n*27)=>((whl (wi (i / 27)) (Ul (i / 27)))[i.1 % 27]?).getD (.bool false)) (fun i u hu=>by
    have hi:i<n*27:=by simpa using (Array.getElem?_eq_some_iff.1 hu).1
    rw[hx i hi] at hu
    obtain ⟨u',v',e1,e2,e3⟩:=zH (f:=wi (i / 27)) (h3 (i / 27) (by omega)).1 (Nat.mod_lt i (by decide:0<27))
    rw[hu] at e1
    cases e1
    obtain ⟨b',o',e,k⟩:=hc (i / 27) (by omega)
    cases e
    have k2:=k (i % 27) v' (by rw[Array.getElem?_toList];exact e2)
    rw[cell_of_row _ _ _ _ _ _ hq] at k2
    refine ⟨v',?_,e3⟩
    rw[show i+o=o+i / 27*27+i % 27 by omega]
    exact k2)
   refine ⟨E',_,.slice (some ⟨wl1.heap.size,0,none⟩) n cap,c1,h2.trans c2,.slice n cap ?_,some ⟨wl1.heap.size,0,none⟩,cap,Ul,rfl,hn,fun r hr=>⟨wl1.heap.size,0,rfl,fun j v hj=>?_⟩,fun r hr=>cy c2 (h3 r hr).2⟩
   ·have:=c3 0
    rw[Nat.zero_add] at this
    exact this
   ·rw[Array.getElem?_toList] at hj
    have hj27:j<27:=by have:=(Array.getElem?_eq_some_iff.1 hj).1;rwa [aH] at this
    refine c4 (0+r*27+j) v ?_
    rw[hx _ (by omega),show (0+r*27+j) / 27=r by omega,show (0+r*27+j) % 27=j by omega]
    exact hj
theorem xB {a b c a' b' c':Value} {rf pl:Nat→Int} (ha:VR E a a') (hb:VR E b b') (hc:VR E c c'):LR E (mac a b c rf pl) (mac a' b' c' rf pl):=by
 refine ⟨by rw[aE,aE],fun i u v hu hv=>?_⟩
 have hi:i<55:=by have:=(Array.getElem?_eq_some_iff.1 hu).1;rwa [aE] at this
 have hcs:i=0∨i=1∨i=2∨(∃k,k<26∧i=3+k)∨∃k,k<26∧i=29+k:=by
  rcases (by omega:i=0∨i=1∨i=2∨(3≤i∧i<29)∨29≤i) with h | h | h | h | h
  ·exact .inl h
  ·exact .inr (.inl h)
  ·exact .inr (.inr (.inl h))
  ·exact .inr (.inr (.inr (.inl ⟨i-3,by omega,by omega⟩)))
  ·exact .inr (.inr (.inr (.inr ⟨i-29,by omega,by omega⟩)))
 rcases hcs with rfl | rfl | rfl | ⟨k,hk,rfl⟩ | ⟨k,hk,rfl⟩
 ·rw[dj] at hu hv;cases hu;cases hv;exact ha
 ·rw[nK] at hu hv;cases hu;cases hv;exact hb
 ·rw[lR] at hu hv;cases hu;cases hv;exact hc
 ·rw[yN _ _ _ _ _ hk] at hu hv;cases hu;cases hv;exact .int _ _
 ·rw[qP _ _ _ _ _ hk] at hu hv;cases hu;cases hv;exact .int _ _
theorem y6 (h:Cp P E wl w) {TJ:TypeId} (hJ:P.info? TJ=none) {a b c:Value} {g:Gm} (ha:WhR w a g.n g.wi g.nl g.no) (hb:aq w b g.rl g.ri) (hc:aq w c g.sl g.st) (ra:Rt w a) (rb:Rt w b) (rc:Rt w c):∃E' wl' a' b' c',Cp P E' wl' w∧dM E E' wl wl'∧VR E' a' a∧VR E' b' b∧VR E' c' c∧cE wl' (.agg (mac a' b' c' g.rf g.pl)) g:=by
 obtain ⟨E1,wl1,u1,h1,h2,h3,h4⟩:=BL h hJ ha ra
 obtain ⟨E2,wl2,u2,k1,k2,k3,k4⟩:=oM h1 hJ hb rb
 obtain ⟨E3,wl3,u3,l1,l2,l3,l4⟩:=oM k1 hJ hc rc
 exact ⟨E3,wl3,u1,u2,u3,l1,(h2.trans k2).trans l2,(h3.mono k2.le).mono l2.le,k3.mono l2.le,l3,u1,u2,u3,rfl,fH l2 (fH k2 h4),cy l2 k4,l4⟩
end
end
section
open Go.RowKit PK Vg Go.Conc Cs
variable [Fns]
section
variable {P:Program} {E:Env} {wl w:World}
theorem um {a:Addr} {g o:Nat} (h:AR E ⟨g,o,none⟩ a):∃b s,a=⟨b,o+s,none⟩∧∀j,AR E ⟨g,o+j,none⟩ ⟨b,o+s+j,none⟩:=by
 obtain ⟨b,o',sp⟩:=a
 obtain ⟨s,ow,e1,e2,e3,e4,e5⟩:=h
 dsimp only at e1 e2 e3 e4
 subst e2 e3
 exact ⟨b,s,rfl,fun j=>⟨s,ow,e1,by show o+s+j=o+j+s;omega,rfl,e4,e5⟩⟩
omit [Fns] in
theorem F3 {W:World} {b o l c:Nat} {v:Value} (h:W.cell? ⟨b,o,none⟩=some v) (o':Nat):Rt W (.slice (some ⟨b,o',none⟩) l c):=fun a l' c' e _=>by
 cases e
 obtain ⟨y,T,fr,k,_⟩:=cU h
 exact ⟨rfl,y,T,fr,k⟩
omit [Fns] in
theorem zA {W:World} {a:Option Addr} {l:Nat}:Rt W (.slice a l 0):=fun a l' c' e h=>by
 cases e
 exact absurd h (Nat.lt_irrefl _)
end
end
section
open Go.RowKit PK Vg Go.Conc Cs
theorem p6 {E E':Env} {wl wl':World} (h:dM E E' wl wl') {v:Value} {g:Gm} (hv:cE wl v g):cE wl' v g:=by
 obtain ⟨a,b,c,e,h1,h2,h3⟩:=hv
 exact ⟨a,b,c,e,fH h h1,cy h h2,cy h h3⟩
section
variable [Fns]
variable {P:Program} {E:Env} {wl w:World}
theorem jd:LR E ([]:List Value).toArray ([]:List Value).toArray:=⟨rfl,fun i u v hu=>by simp at hu⟩
theorem ai {u v:Value} {l l':List Value} (h:VR E u v) (t:LR E l.toArray l'.toArray):LR E (u :: l).toArray (v :: l').toArray:=by
 refine ⟨by have:=t.size;simp at this ⊢;exact this,fun i a b ha hb=>?_⟩
 cases i with
 | zero=>simp at ha hb;subst ha hb;exact h
 | succ i=>exact t.at_ i a b (by simpa using ha) (by simpa using hb)
theorem qu (h:Cp P E wl w) {TJ:TypeId} (hJ:P.info? TJ=none) {q:Nat} {y:Array Value} {T':TypeId} {fr:Nat × Nat} (hq:w.heap[q]? = some (.cells y T' fr)) (x:Array Value) (hx:∀(i:Nat) u,x[i]? = some u→∃v,y[i]? = some v∧VR E u v) :
  ∃E' wl' b,Cp P E' wl' w∧dM E E' wl wl'∧VR E' (.pointer (some ⟨b,0,none⟩)) (.pointer (some ⟨q,0,none⟩))∧wl'.heap[b]? = some (.cells x TJ (0,x.size)):=by
 obtain ⟨E',c1,c2,c3,_⟩:=h.row hJ (s:=0) hq x hx
 exact ⟨E',_,wl.heap.size,c1,c2,.ptr (c3 0),heap_alloc_new wl _⟩
end
end
section
open Go.RowKit PK Vg Go.Conc Cs
theorem eZ:Tryz.prog.info? 1000000000=none:=by kernel_rfl
theorem Fw {P:Program} [Fns] {E:Env} {wl w w2:World} (h:WR P E wl w) (hw:∀b x,E b=some x→w2.heap[x.1]? = w.heap[x.1]?):WR P E wl w2:=by
 refine ⟨fun b q s e=>?_,fun b q s e=>?_,h.inj,h.low⟩
 ·obtain ⟨h1,ol,o,h2,h3,h4⟩:=h.own b q s e
  exact ⟨h1,ol,o,h2,(hw b _ e).trans h3,h4⟩
 ·obtain ⟨x,T,y,T',fr,h1,h2,h3,h4⟩:=h.shared b q s e
  exact ⟨x,T,y,T',fr,h1,h2,(hw b _ e).trans h3,h4⟩
end
section
open Go.RowKit PK Vg Go.Conc Cs
section
variable {w w':World} (hag:∀b,b<w.heap.size→w'.heap[b]? = w.heap[b]?)
include hag
theorem mz {a:Addr} {v:Value} (h:w.cell? a=some v):w'.cell? a=some v:=by
 have:=hag a.block (aA h)
 unfold World.cell? at h ⊢
 rw[this]
 exact h
theorem dD {v:Value} {n:Nat} {f:Nat→Int} (h:aq w v n f):aq w' v n f:=by
 obtain ⟨a,cap,h1,h2,h3⟩:=h
 refine ⟨a,cap,h1,h2,fun c hc=>?_⟩
 obtain ⟨b,o,e,k⟩:=h3 c hc
 exact ⟨b,o,e,mz hag k⟩
theorem Em {b:Nat} {o:Obj} (h:w.heap[b]? = some o):w'.heap[b]? = some o:=(hag b (Array.getElem?_eq_some_iff.1 h).1).trans h
theorem dI {v:Value} (h:Rt w v):Rt w' v:=fun a l c e hp=>by
 obtain ⟨h1,y,T,fr,h2⟩:=h a l c e hp
 exact ⟨h1,y,T,fr,Em hag h2⟩
theorem mN {v:Value} {n:Nat} {wi:Nat→Nat→Int} {nl:Nat→Nat} {no:Nat→Nat→Int} (h:WhR w v n wi nl no):WhR w' v n wi nl no:=by
 obtain ⟨a,cap,R,h1,h2,h3,h4⟩:=h
 refine ⟨a,cap,R,h1,h2,fun r hr=>?_,fun r hr=>⟨dD hag (h4 r hr).1,dI hag (h4 r hr).2⟩⟩
 obtain ⟨b,o,e,k⟩:=h3 r hr
 exact ⟨b,o,e,fun j v hj=>mz hag (k j v hj)⟩
end
end
section
open Go.RowKit PK Vg Go.Conc Cs
theorem mj {s:Nat} {a:Addr} {e:Event} (h:e.loc=.cell a∧e.write=false) (ha:a.block<s) :EvW s e:=by
 obtain ⟨l,w,at1⟩:=e
 obtain ⟨h1,h2⟩:=h
 dsimp only at h1 h2
 subst h1 h2
 cases at1
 all_goals exact ⟨fun x e=>(by cases e;exact ha),fun m e=>by cases e⟩
theorem o8 {W:World} {b:Nat} {T:TypeId} {A:Array Value} {TB:TypeId} {fr:Nat × Nat} {d:TypeDesc} (hW:W.heap[b]? = some (.cells A TB fr)) (hu:Tryz.prog.underlying T=some d) (hd:d.isRow=true) (hi:(Tryz.prog.info? T).map (·.size)=some A.size) :
  ∀e ∈ (Instr.loadAt T (.pointer (some ⟨b,0,none⟩))).events Tryz.prog W #[],EvW W.heap.size e:=fun e he=>by
 obtain ⟨i,hi1,hi2⟩:=Option.map_eq_some_iff.1 hi
 have hb:b<W.heap.size:=(Array.getElem?_eq_some_iff.1 hW).1
 have hc:=events_loadCellsFrom_at (P:=Tryz.prog) ⟨b,0,none⟩ (fun q=>q<W.heap.size) hb A.size 0 #[] W #[] (fun j hj=>by
  rw[Addr.add_lit,cell_of_row _ _ _ _ _ _ hW]
  simp[hj])
 cases d with
 | struct fs =>
  simp[Instr.loadAt,Instr.sureAddr,loadVar,isAgg,go_sem,underlying,sizeOf,typeInfo,loadCells,hu,hi1,hi2] at he
  rcases hc e he with h | ⟨ad,h1,h2,h3⟩
  ·simp at h
  ·exact mj ⟨h1,h2⟩ h3
 | array n el =>
  simp[Instr.loadAt,Instr.sureAddr,loadVar,isAgg,go_sem,underlying,sizeOf,typeInfo,loadCells,hu,hi1,hi2] at he
  rcases hc e he with h | ⟨ad,h1,h2,h3⟩
  ·simp at h
  ·exact mj ⟨h1,h2⟩ h3
 | _=>cases hd
theorem mB {W:World} {b:Nat} {T:TypeId} {A:Array Value} {TB:TypeId} {fr:Nat × Nat} {d:TypeDesc} (hW:W.heap[b]? = some (.cells A TB fr)) (hu:Tryz.prog.underlying T=some d) (hd:d.isRow=true) (hi:(Tryz.prog.info? T).map (·.size)=some A.size):(Instr.loadAt T (.pointer (some ⟨b,0,none⟩))).run Tryz.prog W=.ok (.agg A) W:=by
 have h:=run_loadAt_mid (P:=Tryz.prog) W b 0 T A.toList d (fun j v hj=>by rw[Nat.zero_add,cell_of_row _ _ _ _ _ _ hW,←Array.getElem?_toList];exact hj) hu hd (by rw[hi];simp)
 simpa using h
def HI (H:Array Obj) (o:Os) (out:Array (Nat × ByteArray)) (W:World):Prop:=W.heap=H∧W.os=o∧W.output=out
theorem HI.at' {H:Array Obj} {o:Os} {out:Array (Nat × ByteArray)} {W:World} (h:HI H o out W) (d:Nat):HI H o out (W.at d):=h
theorem HI.alloc {H:Array Obj} {o:Os} {out:Array (Nat × ByteArray)} {W:World} (h:HI H o out W) (x:Obj):HI (H.push x) o out (W.alloc x):=⟨by show W.heap.push x=_;rw[h.1],h.2.1,h.2.2⟩
theorem aQ {Stp:Goroutine→World→Prop} {H:Array Obj} {o:Os} {out:Array (Nat × ByteArray)} {mu:Nat} {g:Goroutine} {w:World} (hI:HI H o out w) (hs:g.status=.running) (h:∀w₁,HI H o out w₁→(stepG Tryz.prog true g w₁).goes fun g' w' es=>DW w₁ w' es∧Goes Tryz.prog true AtRel DW Stp mu g' w'):Goes Tryz.prog true AtRel DW Stp (mu+1) g w :=
 Goes.step hs fun w₁ h₁=>by
  obtain ⟨d,rfl⟩:=h₁
  exact h _ (hI.at' d)
theorem bQ (w:World):DW w w #[]:=⟨Nat.le_refl _,fun e he=>by simp at he⟩
end
end Go.Proofs.YtgacaecjinlhiaaGreatDoor
