/-
  Several texts, joined: DwF, DwG.
-/
import Derived.Test.YtpdemelchhkfaaaJn23
/-
  The third pool's state: what holds between any two steps; what one's move leaves of the others.
-/
namespace Go.Proofs.Ytpdemelchhkfaaa.Cs
open Go.Conc
open Go.ConcN (sumTo sumTo_congr)
open Go.ConcR (KK WgAt wgBlock stA smA rd wr mk)
open Go.ConcM (OsLater)
section
variable {P:Program} {c:Cst}
def isSe:YW P→Prop
 | .se _=>True
 | _=>False
def befF (c:Cst) (i:Nat) (z:YW P):Nat:=if i<c.S0 then 0 else bef z
def lft (c:Cst) (z0:Y0) (zs:Nat→YW P) (size:Nat):Nat:=(c.n-spawned2 c z0)+sumTo size (fun i=>befF c i (zs i))
def NoCl (c:Cst) (zs:Nat→YW P) (size:Nat):Prop:=∀i,c.S0≤i→i<size→¬closing (zs i)
inductive WgS (c:Cst) (tW:TypeId) (z0:Y0) (zs:Nat→YW P) (size:Nat) (w:World):Prop
 | run (hn:NoCl c zs size) (hp:¬past0 z0) (hr:(reg z0=1→0<lft c z0 zs size)∧∀u m,z0=.w2 u m→lft c z0 zs size≤u) (hw:WgAt tW c.C2 w ((lft c z0 zs size:Int)*KK+(reg z0:Int)) 0)
 | cls (i:Nat) (hi:c.S0≤i) (hs:i<size) (hc:closing (zs i)) (hu:∀j,c.S0≤j→j<size→j≠i→¬closing (zs j)) (hr:reg z0=1) (hl:lft c z0 zs size=0) (hw:(isSe (zs i)→WgAt tW c.C2 w 0 0)∧(¬isSe (zs i)→WgAt tW c.C2 w 1 0))
 | rls (hn:NoCl c zs size) (hl:lft c z0 zs size=0) (hr:reg z0=1) (hb:z0≠.w3b) (hw:WgAt tW c.C2 w 0 1)
 | pst (hn:NoCl c zs size) (hl:lft c z0 zs size=0) (hp:past0 z0) (hw:WgAt tW c.C2 w 0 0)
theorem WgS.live {tW:TypeId} {z0:Y0} {zs:Nat→YW P} {size:Nat} {w:World} (h:WgS c tW z0 zs size w):∃st sm,WgAt tW c.C2 w st sm:=by
 cases h with
 | run _ _ _ hw=>exact ⟨_,_,hw⟩
 | cls i _ _ _ _ _ _ hw =>
  by_cases e:isSe (zs i)
  ·exact ⟨_,_,hw.1 e⟩
  ·exact ⟨_,_,hw.2 e⟩
 | rls _ _ _ _ hw=>exact ⟨_,_,hw⟩
 | pst _ _ _ hw=>exact ⟨_,_,hw⟩
theorem WgS.keep {tW:TypeId} {z0:Y0} {zs:Nat→YW P} {size:Nat} {w w':World} (h:WgS c tW z0 zs size w) (hw':w'.heap[c.C2]? = w.heap[c.C2]?):WgS c tW z0 zs size w':=by
 have k:∀st sm,WgAt tW c.C2 w st sm→WgAt tW c.C2 w' st sm:=fun st sm h=>by unfold WgAt at h ⊢;rw[hw'];exact h
 cases h with
 | run hn hp hr hw=>exact .run hn hp hr (k _ _ hw)
 | cls i hi hs hc hu hr hl hw=>exact .cls i hi hs hc hu hr hl ⟨fun e=>k _ _ (hw.1 e),fun e=>k _ _ (hw.2 e)⟩
 | rls hn hl hr hb hw=>exact .rls hn hl hr hb (k _ _ hw)
 | pst hn hl hp hw=>exact .pst hn hl hp (k _ _ hw)
def unb:YW P→YW P
 | .mb k q s=>.ml k q (.s1 s) 0
 | z=>z
def wkW (f:Bool) (z:YW P):YW P:=if f=true then unb z else z
theorem wk_eq (f:Bool) (z:YW P):wkW f z=z∨∃k q s,z=.mb k q s∧wkW f z=.ml k q (.s1 s) 0:=by
 unfold wkW
 split
 ·cases z <;> first | exact .inl rfl | exact .inr ⟨_,_,_,rfl,rfl⟩
 ·exact .inl rfl
theorem wk_same {α:Type} (Q:YW P→α) (hQ:∀k q s,Q (.ml k q (.s1 s) 0)=Q (.mb k q s)) (f:Bool) (z:YW P):Q (wkW f z)=Q z:=by
 rcases wk_eq f z with e | ⟨k,q,s,e,e2⟩
 ·rw[e]
 ·rw[e2,e,hQ]
theorem wk_mx (f:Bool) (z:YW P):mxOf (wkW f z)=mxOf z:=wk_same mxOf (fun _ _ _=>rfl) f z
end
variable [Fns]
section
variable {P:Program} {c:Cst} {tW tX:TypeId} {J:Nat} {F:Nat→Value} {R:Nat→Array Value} {β:Type} {eB:β→Nat→Value} {up:β→Nat→β} {b0:β} {Sn:Nat→Prop}
structure Pool3 (S:Scr3 P c tW tX J F R β eB up) (b0:β) (Sn:Nat→Prop) (gs:Array Goroutine) (w:World) (t:Trace) (z0:Y0) (zs:Nat→YW P) (L:List Nat) (ow:Option Nat) (blk:Nat→Option Nat) (W:Wd) (mm:Nat):Prop where
 sz:gs.size=c.S0+spawned2 c z0
 a0:∃g,gs[0]? = some g∧T0 S z0 g w
 wk:∀i g,1≤i→gs[i]? = some g→TW S (L.foldl up b0) (Deaf t i) (zs i) g w
 old:∀i,i<c.S0→∃q,zs i=.lv q
 df0:Deaf t 0=deaf0 z0
 dfW:∀i,c.S0≤i→i<gs.size→deafW (zs i) (Deaf t i)
 dfA:∀j,gs.size≤j→Deaf t j=0
 wg:WgS c tW z0 zs gs.size w
 shr:∀i k E s,c.S0≤i→i<gs.size→zs i=.ca k E s→∀b q s,E b=some (q,s,false)→c.Fix q
 mem:Mem3 P c tX J R eB up b0 zs gs.size L ow blk w
 tr:Tr3 c Sn zs gs.size ow blk w.heap.size t
 mi:MInv (fun i=>mxOf (zs i)) gs.size W mm
 mu:muC c w W mm
 bl:∀i k q s,c.S0≤i→i<gs.size→zs i=.mb k q s→mm=0
 hb:∀q,use0 z0 q→blk q=some 0
variable {S:Scr3 P c tW tX J F R β eB up} {gs:Array Goroutine} {w w':World} {t:Trace} {z0:Y0} {zs:Nat→YW P} {L:List Nat} {ow:Option Nat} {blk:Nat→Option Nat} {W:Wd} {mm:Nat} {g g':Goroutine} {z:YW P} {d:Nat} {b b':β}
omit [Fns] in
theorem walkA_keep {main:Bool} {Stp:Goroutine→Prop} {m:Nat} (h:WalkA P c tW main Stp m g w) (ok:Ok3 c tW w'):WalkA P c tW main Stp m g w':=Goes.rely (fun _ _ _ _ h=>h) h ok
omit [Fns] in
theorem walkA_running {main:Bool} {Stp:Goroutine→Prop} {m:Nat} (h:WalkA P c tW main Stp m g w) (ok:Ok3 c tW w):g.status=.running:=Goes.running (fun _ _ h=>h.1) w ok h
omit [Fns] in
theorem walkL_keep {Stp:Goroutine→Prop} {m:Nat} (h:WalkL P c tW Stp m g w) (ok:Ok3 c tW w'):WalkL P c tW Stp m g w':=Goes.rely (fun _ _ _ _ h=>h) h ok
omit [Fns] in
theorem walkL_running {Stp:Goroutine→Prop} {m:Nat} (h:WalkL P c tW Stp m g w) (ok:Ok3 c tW w):g.status=.running:=Goes.running (fun _ _ h=>h.1) w ok h
omit [Fns] in
theorem walkC_keep {k q:Nat} {bb:Nat→Value} {Stp:Goroutine→Prop} {m:Nat} (h:WalkC P c tW tX R k q bb Stp m g w) (r:RB c tW tX R k q w w'):WalkC P c tW tX R k q bb Stp m g w':=Goes.rely (fun _ _ _ h1 h2=>⟨h2.1,h2.2.1,fun i hi=>(h2.2.2 i hi).trans (h1.2.2 i hi)⟩) h r
omit [Fns] in
theorem walkC_running {k q:Nat} {bb:Nat→Value} {Stp:Goroutine→Prop} {m:Nat} (h:WalkC P c tW tX R k q bb Stp m g w) (ok:Ok3 c tW w) (hb:BxR R tX k q w):g.status=.running:=Goes.running (fun _ _ h=>h.1) w ⟨ok,hb,fun _ _=>rfl⟩ h
omit [Fns] in
theorem walkA_stop {main:Bool} {Stp:Goroutine→Prop} (hr:g.status=.running) (hs:Stp g):WalkA P c tW main Stp 0 g w:=fun _ _=>⟨hr,hs⟩
omit [Fns] in
theorem walkL_stop {Stp:Goroutine→Prop} (hr:g.status=.running) (hs:Stp g):WalkL P c tW Stp 0 g w:=fun _ _=>⟨hr,hs⟩
theorem T0.keep (h:T0 S z0 g w) (ok:Ok3 c tW w') (hE:∀q,use0 z0 q→w'.heap[q]? = w.heap[q]?):T0 S z0 g w':=by
 cases z0 with
 | al j m=>exact ⟨h.1,walkA_keep h.2 ok⟩
 | st j q m=>exact ⟨h.1,walkA_keep h.2.1 ok,by rw[hE q rfl];exact h.2.2⟩
 | sp j q m=>exact ⟨h.1,walkA_keep h.2.1 ok,by rw[hE q rfl];exact h.2.2⟩
 | w2 v m=>exact ⟨h.1,h.2.1,walkA_keep h.2.2 ok⟩
 | w3b=>exact h
 | wd m=>exact walkA_keep (show WalkA P c tW true S.WtD m g w from h) ok
 | w1 m=>exact walkA_keep (show WalkA P c tW true S.W1 m g w from h) ok
 | sa m=>exact walkA_keep (show WalkA P c tW true S.Sai m g w from h) ok
 | w3 m=>exact walkA_keep (show WalkA P c tW true S.W3 m g w from h) ok
 | w4 m=>exact walkA_keep (show WalkA P c tW true S.W4 m g w from h) ok
 | ke m=>exact walkA_keep (show WalkA P c tW true S.Ke m g w from h) ok
 | ac m=>exact walkA_keep (show WalkA P c tW true S.Acq m g w from h) ok
 | jn m=>exact h.elim
theorem TW.keep (h:TW S b d z g w) (ok:Ok3 c tW w') (hE:∀q,inUse2 z q→w'.heap[q]? = w.heap[q]?) (hF:∀k E s,z=.ca k E s→∀b q s,E b=some (q,s,false)→w'.heap[q]? = w.heap[q]?) (hB:isCr z→b'=b∧∀o,2≤o→w'.cell? ⟨c.Fd,o,none⟩=w.cell? ⟨c.Fd,o,none⟩) (hX:∀k q,boxW z k q→BxR R tX k q w):TW S b' d z g w':=by
 cases z with
 | hd k q m=>exact ⟨h.1,walkL_keep h.2.1 ok,by rw[hE q rfl];exact h.2.2⟩
 | pr k m=>exact ⟨h.1,walkA_keep h.2 ok⟩
 | bx k m=>exact ⟨h.1,walkA_keep h.2 ok⟩
 | ca k E s =>
  obtain ⟨h1,cal,rest,h2,h3⟩:=h
  refine ⟨h1,cal,rest,h2.other (fun b x hx=>?_),h3⟩
  obtain ⟨q,s',o⟩:=x
  cases o with
  | true=>exact hE q ⟨b,s',hx⟩
  | false=>exact hF k E s rfl b q s' hx
 | ml k q x m=>exact ⟨h.1,h.2.1,walkL_keep h.2.2 ok⟩
 | mb k q s=>exact h
 | cr k q m =>
  obtain ⟨rfl,h3⟩:=hB trivial
  refine ⟨h.1,walkC_keep h.2 ⟨ok,?_,h3⟩⟩
  have:=hX k q ⟨rfl,rfl⟩
  unfold BxR at this ⊢
  rw[hE q rfl]
  exact this
 | lv q=>exact h
 | re m=>exact walkA_keep (show WalkA P c tW false S.Rel m g w from h) ok
 | di m=>exact walkL_keep (show WalkL P c tW S.Dis m g w from h) ok
 | de m=>exact walkL_keep (show WalkL P c tW S.Dec m g w from h) ok
 | lo m=>exact walkL_keep (show WalkL P c tW S.Lod m g w from h) ok
 | ze m=>exact walkL_keep (show WalkL P c tW S.Zer m g w from h) ok
 | se m=>exact walkL_keep (show WalkL P c tW S.Sem m g w from h) ok
theorem T0.status (h:T0 S z0 g w) (ok:Ok3 c tW w):g.status=.running∨(z0=.w3b∧∃g',S.W3 g'∧g={ g' with status:=.blocked }):=by
 cases z0 with
 | al j m=>exact .inl (walkA_running h.2 ok)
 | st j q m=>exact .inl (walkA_running h.2.1 ok)
 | sp j q m=>exact .inl (walkA_running h.2.1 ok)
 | w2 v m=>exact .inl (walkA_running h.2.2 ok)
 | w3b=>exact .inr ⟨rfl,h⟩
 | wd m=>exact .inl (walkA_running (show WalkA P c tW true S.WtD m g w from h) ok)
 | w1 m=>exact .inl (walkA_running (show WalkA P c tW true S.W1 m g w from h) ok)
 | sa m=>exact .inl (walkA_running (show WalkA P c tW true S.Sai m g w from h) ok)
 | w3 m=>exact .inl (walkA_running (show WalkA P c tW true S.W3 m g w from h) ok)
 | w4 m=>exact .inl (walkA_running (show WalkA P c tW true S.W4 m g w from h) ok)
 | ke m=>exact .inl (walkA_running (show WalkA P c tW true S.Ke m g w from h) ok)
 | ac m=>exact .inl (walkA_running (show WalkA P c tW true S.Acq m g w from h) ok)
 | jn m=>exact h.elim
theorem TW.status (h:TW S b d z g w) (ok:Ok3 c tW w) (hX:∀k q,boxW z k q→BxR R tX k q w):g.status=.running∨(g.status=.finished∧∃q,z=.lv q)∨∃k q s g',z=.mb k q s∧S.Mu k q (.s1 s) g'∧g={ g' with status:=.blocked }:=by
 cases z with
 | hd k q m=>exact .inl (walkL_running h.2.1 ok)
 | pr k m=>exact .inl (walkA_running h.2 ok)
 | bx k m=>exact .inl (walkA_running h.2 ok)
 | ca k E s =>
  obtain ⟨_,cal,rest,h2,_⟩:=h
  exact .inl h2.running
 | ml k q x m=>exact .inl (walkL_running h.2.2 ok)
 | mb k q s =>
  obtain ⟨_,g',h1,h2⟩:=h
  exact .inr (.inr ⟨k,q,s,g',rfl,h1,h2⟩)
 | cr k q m=>exact .inl (walkC_running h.2 ok (hX k q ⟨rfl,rfl⟩))
 | lv q =>
  have h':QuitsD P q d g:=h
  rcases h'.status with h1 | h1
  ·exact .inl h1
  ·exact .inr (.inl ⟨h1,q,rfl⟩)
 | re m=>exact .inl (walkA_running (show WalkA P c tW false S.Rel m g w from h) ok)
 | di m=>exact .inl (walkL_running (show WalkL P c tW S.Dis m g w from h) ok)
 | de m=>exact .inl (walkL_running (show WalkL P c tW S.Dec m g w from h) ok)
 | lo m=>exact .inl (walkL_running (show WalkL P c tW S.Lod m g w from h) ok)
 | ze m=>exact .inl (walkL_running (show WalkL P c tW S.Zer m g w from h) ok)
 | se m=>exact .inl (walkL_running (show WalkL P c tW S.Sem m g w from h) ok)
def wakes (P:Program) (a a':Goroutine):Bool:=mayWake P a && a'.status != .blocked && a'.status != .waiting
theorem Scr3.lock (S:Scr3 P c tW tX J F R β eB up) {k q:Nat} {s:Bool} (h:S.Mu k q (.s1 s) g) (hk:k<J):isG g∧g.offers=none:=⟨(S.mst k q _ g h hk trivial).1,(S.slp k q s g h).1⟩
section
variable (h:Pool3 S b0 Sn gs w t z0 zs L ow blk W mm)
include h
theorem Pool3.pos:0<gs.size:=by have:=h.sz;have:=S.s1;omega
theorem Pool3.ok3:Ok3 c tW w:=⟨h.mem.ok,h.wg.live,⟨_,_,h.mu⟩⟩
theorem Pool3.use (q:Nat) (e:use0 z0 q):c.N1≤q∧q<w.heap.size∧blk q=some 0:=⟨(h.mem.us4 q 0 (h.hb q e)).1,(h.mem.us4 q 0 (h.hb q e)).2,h.hb q e⟩
theorem Pool3.hX {j:Nat} (h2:j<gs.size):∀k q,boxW (zs j) k q→BxR R tX k q w:=fun k q e=>by
 rcases Nat.lt_or_ge j c.S0 with h4 | h4
 ·obtain ⟨q',h5⟩:=h.old j h4
  rw[h5] at e;exact e.elim
 ·exact h.mem.bx j k q h4 h2 e
theorem Pool3.keep (ok:Ok3 c tW w') {i:Nat} {t':Trace} (hd:∀j,j≠i→Deaf t' j=Deaf t j) (hu:∀j q,c.S0≤j→j<gs.size→j≠i→inUse2 (zs j) q→w'.heap[q]? = w.heap[q]?) (hB:∀j,c.S0≤j→j<gs.size→j≠i→isCr (zs j)→b'=L.foldl up b0∧∀o,2≤o→w'.cell? ⟨c.Fd,o,none⟩=w.cell? ⟨c.Fd,o,none⟩):∀j g,1≤j→j≠i→gs[j]? = some g→TW S b' (Deaf t' j) (zs j) g w':=fun j g h1 h2 h3=>by
 rw[hd j h2]
 rcases Nat.lt_or_ge j c.S0 with h4 | h4
 ·have h5:=h.wk j g h1 h3
  obtain ⟨q,h6⟩:=h.old j h4
  rw[h6] at h5 ⊢
  exact h5
 ·refine (h.wk j g h1 h3).keep ok (fun q e=>hu j q h4 (idx_lt h3) h2 e) (fun k E s e b q s' hx=>?_) (hB j h4 (idx_lt h3) h2) (h.hX (idx_lt h3))
  have hf:=h.shr j k E s h4 (idx_lt h3) e b q s' hx
  exact (ok.ok.fix q hf).trans (h.mem.ok.fix q hf).symm
theorem Pool3.awake:∀g ∈ gs,awake g:=fun g hg=>by
 obtain ⟨i,hi,rfl⟩:=Array.mem_iff_getElem.1 hg
 rcases Nat.eq_zero_or_pos i with rfl | hp
 ·obtain ⟨a,h1,h2⟩:=h.a0
  have:gs[0]=a:=by simpa [Array.getElem?_eq_getElem hi] using h1
  rw[this]
  rcases h2.status h.ok3 with h3 | ⟨_,g',_,rfl⟩
  ·exact awake_of (.inl h3)
  ·exact awake_of (.inr (.inl rfl))
 ·rcases (h.wk i _ hp (Array.getElem?_eq_getElem hi)).status h.ok3 (h.hX hi) with h3 | ⟨h3,_⟩ | ⟨_,_,_,g',_,_,h3⟩
  ·exact awake_of (.inl h3)
  ·exact awake_of (.inr (.inr h3))
  ·rw[h3];exact awake_of (.inr (.inl rfl))
theorem Pool3.woken0 {a a':Goroutine} {w':World} (hg:gs[0]? = some g):∃z0',(z0'=z0∨(z0=.w3b∧z0'=.w3 0))∧(T0 S z0' (woken P a a' w' g) w)∧(z0'=.w3b→wakes P a a'=false):=by
 obtain ⟨g1,h1,h2⟩:=h.a0
 rw[hg] at h1
 cases h1
 rcases h2.status h.ok3 with h3 | ⟨rfl,g',h4,rfl⟩
 ·have e:woken P a a' w' g=g:=woken_running h3
  refine ⟨z0,.inl rfl,by rw[e];exact h2,fun e2=>?_⟩
  subst e2
  obtain ⟨g',h5,h6⟩:=h2
  rw[h6] at h3
  cases h3
 ·obtain ⟨⟨fr,cs,rfl⟩,h5,_⟩:=S.w3 g' h4
  by_cases hm:wakes P a a'=true
  ·have e:woken P a a' w' { G fr cs with status:=.blocked }=G fr cs:=by
    unfold woken
    exact (if_pos hm).trans rfl
   exact ⟨.w3 0,.inr ⟨rfl,rfl⟩,by rw[e];exact walkA_stop rfl h4,(fun e2=>by cases e2)⟩
  ·have hm':wakes P a a'=false:=by simpa using hm
   have e:woken P a a' w' { G fr cs with status:=.blocked }={ G fr cs with status:=.blocked }:=by
    unfold woken
    exact if_neg hm
   exact ⟨.w3b,.inl rfl,by rw[e];exact ⟨_,h4,rfl⟩,fun _=>hm'⟩
end
theorem TW.woken {a a':Goroutine} {w1:World} (h:TW S b d z g w) (ok:Ok3 c tW w) (hX:∀k q,boxW z k q→BxR R tX k q w):TW S b d (wkW (wakes P a a') z) (woken P a a' w1 g) w:=by
 rcases h.status ok hX with h3 | ⟨h3,q,rfl⟩ | ⟨k,q,s,g',rfl,h4,rfl⟩
 ·rw[woken_running h3]
  rcases wk_eq (wakes P a a') z with e | ⟨k,q,s,e,_⟩
  ·rw[e];exact h
  ·subst e
   obtain ⟨_,g',_,h6⟩:=h
   rw[h6] at h3
   cases h3
 ·have e1:wkW (wakes P a a') (.lv q:YW P)=.lv q:=by unfold wkW;split <;> rfl
  have e2:Go.Conc.woken P a a' w1 g=g:=by
   unfold Go.Conc.woken
   split
   ·unfold Goroutine.again
    rw[h3]
   ·rfl
  rw[e1,e2]
  exact h
 ·obtain ⟨⟨fr,cs,rfl⟩,h5⟩:=S.lock h4 h.1
  by_cases hm:wakes P a a'=true
  ·have e:Go.Conc.woken P a a' w1 { G fr cs with status:=.blocked }=G fr cs:=by
    unfold Go.Conc.woken
    exact (if_pos hm).trans rfl
   rw[e]
   unfold wkW
   rw[if_pos hm]
   exact ⟨h.1,.inl trivial,walkL_stop rfl h4⟩
  ·have e:Go.Conc.woken P a a' w1 { G fr cs with status:=.blocked }={ G fr cs with status:=.blocked }:=by
    unfold Go.Conc.woken
    exact if_neg hm
   rw[e]
   unfold wkW
   rw[if_neg hm]
   exact h
end
end Go.Proofs.Ytpdemelchhkfaaa.Cs

/-
  The third pool's moves, in general: one worker; goroutine 0.
-/
namespace Go.Proofs.Ytpdemelchhkfaaa.Cs
open Go.Conc
open Go.ConcN (sumTo sumTo_congr)
open Go.ConcR (KK WgAt wgBlock stA smA rd wr mk)
section
variable {P:Program} {c:Cst}
abbrev Me2 (P:Program):=Me P [trap P] × Nat
def Me2Lt (P:Program):Me2 P→Me2 P→Prop:=Prod.Lex (MeLt P [trap P]) (·<·)
theorem me2_wf (P:Program):WellFounded (Me2Lt P):=(Prod.lex ⟨_,me_wf P [trap P]⟩ ⟨_,Nat.lt_wfRel.wf⟩).wf
def bit0:Y0→Nat
 | .w3b=>0
 | _=>1
def bitW:YW P→Nat
 | .mb _ _ _=>0
 | _=>1
def wB (c:Cst):Nat:=14*(c.S0+c.n)+1
def wD (c:Cst):Nat:=6*wB c+14
def tot (c:Cst) (J:Nat) (z0:Y0) (zs:Nat→YW P) (n:Nat) (W:Wd) (m:Nat):Nat:=q0 c (lft c z0 zs n) z0+wD c*(sumTo n (fun i=>qW J (zs i))+(10*J+12)*(c.n-spawned2 c z0))+potM (wB c) (fun i=>mxOf (zs i)) n W m
def me2 (c:Cst) (J:Nat) (z0:Y0) (zs:Nat→YW P) (n:Nat) (W:Wd) (m:Nat):Me2 P:=((tot c J z0 zs n W m,yi0 z0 :: (List.range n).map fun i=>yiW (zs i)),bit0 z0+sumTo n (fun i=>bitW (zs i)))
variable {J:Nat} {z0 z0':Y0} {zs zs':Nat→YW P} {z':YW P} {n n' i m m':Nat} {W W':Wd}
theorem me2_1 (h:tot c J z0' zs' n' W' m'<tot c J z0 zs n W m):Me2Lt P (me2 c J z0' zs' n' W' m') (me2 c J z0 zs n W m):=Prod.Lex.left _ _ (Prod.Lex.left _ _ h)
theorem me2_w (hi:i<n) (h:tot c J z0' zs' n W' m'=tot c J z0 zs n W m) (h0:(yi0 z0':Mi P [trap P])=yi0 z0) (hm:MiLt P [trap P] (yiW (zs' i)) (yiW (zs i))) (ho:∀j,j≠i→yiW (zs' j)=yiW (zs j)):Me2Lt P (me2 c J z0' zs' n W' m') (me2 c J z0 zs n W m):=by
 refine Prod.Lex.left _ _ ?_
 show MeLt P [trap P] (tot c J z0' zs' n W' m',_) (tot c J z0 zs n W m,_)
 rw[h,h0]
 exact Prod.Lex.right _ (.tail _ (oneLess_map (fun j=>yiW (zs j)) (fun j=>yiW (zs' j)) List.nodup_range (List.mem_range.2 hi) hm ho))
theorem me2_b (h:(me2 c J z0' zs' n W' m').1=(me2 c J z0 zs n W m).1) (hm:bit0 z0'+sumTo n (fun i=>bitW (zs' i))<bit0 z0+sumTo n (fun i=>bitW (zs i))):Me2Lt P (me2 c J z0' zs' n W' m') (me2 c J z0 zs n W m):=by
 have e2:me2 c J z0' zs' n W' m'=((me2 c J z0 zs n W m).1,bit0 z0'+sumTo n (fun i=>bitW (zs' i))):=Prod.ext h rfl
 rw[e2]
 exact Prod.Lex.right _ hm
theorem woke_same (h:z0'=z0∨(z0=.w3b∧z0'=.w3 0)):spawned2 c z0'=spawned2 c z0∧reg z0'=reg z0∧deaf0 z0'=deaf0 z0∧(past0 z0'↔past0 z0)∧(∀v,q0 c v z0'=q0 c v z0)∧(yi0 z0':Mi P [trap P])=yi0 z0:=by
 rcases h with rfl | ⟨rfl,rfl⟩
 ·exact ⟨rfl,rfl,rfl,Iff.rfl,fun _=>rfl,rfl⟩
 ·exact ⟨rfl,rfl,rfl,Iff.rfl,fun _=>rfl,rfl⟩
theorem q0_mono {u v:Nat} (h:u≤v):q0 c u z0≤q0 c v z0:=by cases z0 <;> simp only[q0] <;> omega
variable {f:Bool} {tW:TypeId} {w:World}
theorem lft_wk:lft c z0 (fun j=>wkW f (zs j)) n=lft c z0 zs n:=by
 unfold lft
 rw[sumTo_congr (g:=fun i=>befF c i (zs i)) fun j _=>by unfold befF;rw[wk_same bef (fun _ _ _=>rfl)]]
theorem tot_wk:tot c J z0 (fun j=>wkW f (zs j)) n W m=tot c J z0 zs n W m:=by
 unfold tot
 rw[lft_wk,sumTo_congr (g:=fun i=>qW J (zs i)) fun j _=>wk_same (qW J) (fun _ _ _=>rfl) f (zs j)]
 have e:(fun i=>mxOf (wkW f (zs i)))=fun i=>mxOf (zs i):=funext fun j=>wk_mx f (zs j)
 rw[e]
theorem WgS.wk (h:WgS c tW z0 zs n w):WgS c tW z0 (fun j=>wkW f (zs j)) n w:=by
 have hc:∀j,closing (wkW f (zs j))=closing (zs j):=fun j=>wk_same closing (fun _ _ _=>rfl) f (zs j)
 have hs:∀j,isSe (wkW f (zs j))=isSe (zs j):=fun j=>wk_same isSe (fun _ _ _=>rfl) f (zs j)
 have hn:NoCl c zs n→NoCl c (fun j=>wkW f (zs j)) n:=fun k j h1 h2=>by
  show ¬closing (wkW f (zs j))
  rw[hc];exact k j h1 h2
 cases h with
 | run h1 h2 h3 h4=>exact .run (hn h1) h2 (by rw[lft_wk];exact h3) (by rw[lft_wk];exact h4)
 | cls j h1 h2 h3 h4 h5 h6 h7 =>
  refine .cls j h1 h2 ?_ (fun j' a b d=>?_) h5 (by rw[lft_wk];exact h6) ⟨fun e=>h7.1 ?_,fun e=>h7.2 ?_⟩
  ·show closing (wkW f (zs j))
   rw[hc];exact h3
  ·show ¬closing (wkW f (zs j'))
   rw[hc];exact h4 j' a b d
  ·have e':isSe (wkW f (zs j)):=e
   rwa [hs] at e'
  ·have e':¬isSe (wkW f (zs j)):=e
   rwa [hs] at e'
 | rls h1 h2 h3 h4 h5=>exact .rls (hn h1) (by rw[lft_wk];exact h2) h3 h4 h5
 | pst h1 h2 h3 h4=>exact .pst (hn h1) (by rw[lft_wk];exact h2) h3 h4
theorem Tr3.wk {Sn:Nat→Prop} {top:Nat} {ow:Option Nat} {blk:Nat→Option Nat} {size:Nat} {t:Trace} (h:Tr3 c Sn zs top ow blk size t):Tr3 c Sn (fun j=>wkW f (zs j)) top ow blk size t :=
 ⟨h.ti,h.low,fun j x a h1 h2 h3=>(h.kn j x a h1 h2 h3).imp id fun ⟨k1,k2,k3⟩=>⟨k1,k2,fun e=>k3 (by have e':told (wkW f (zs x.g)):=e;rwa [wk_same told (fun _ _ _=>rfl)] at e')⟩,h.nor,h.sn⟩
theorem Mem3.wk {tX:TypeId} {R:Nat→Array Value} {β:Type} {eB:β→Nat→Value} {up:β→Nat→β} {b0:β} {top:Nat} {L:List Nat} {ow:Option Nat} {blk:Nat→Option Nat} (h:Mem3 P c tX J R eB up b0 zs top L ow blk w):Mem3 P c tX J R eB up b0 (fun j=>wkW f (zs j)) top L ow blk w:=by
 have hc:∀j,isCr (wkW f (zs j))=isCr (zs j):=fun j=>wk_same isCr (fun _ _ _=>rfl) f (zs j)
 have ht:∀j,toldTo J (wkW f (zs j))=toldTo J (zs j):=fun j=>wk_same (toldTo J) (fun _ _ _=>rfl) f (zs j)
 have hn:∀j,numW (wkW f (zs j))=numW (zs j):=fun j=>wk_same numW (fun _ _ _=>rfl) f (zs j)
 have hb:∀j,boxW (wkW f (zs j))=boxW (zs j):=fun j=>wk_same boxW (fun _ _ _=>rfl) f (zs j)
 have hu:∀j,inUse2 (wkW f (zs j))=inUse2 (zs j):=fun j=>wk_same inUse2 (fun _ _ _=>rfl) f (zs j)
 refine ⟨h.ok,h.nd,fun k=>?_,h.bd,fun i h1 h2=>?_,h.ow2,fun i k h1 h2 h3=>?_,fun i k q h1 h2 h3=>?_,fun i q h1 h2 h3=>?_,h.us4⟩
 ·rw[h.li k]
  show _↔_∧_∧k<toldTo J (wkW f (zs _))
  rw[ht]
 ·rw[h.ow1 i h1 h2]
  show _↔isCr (wkW f (zs i))
  rw[hc]
 ·exact h.nm i k h1 h2 (by have e:numW (wkW f (zs i))=some k:=h3;rwa [hn] at e)
 ·exact h.bx i k q h1 h2 (by have e:boxW (wkW f (zs i)) k q:=h3;rwa [hb] at e)
 ·exact h.us1 i q h1 h2 (by have e:inUse2 (wkW f (zs i)) q:=h3;rwa [hu] at e)
end
variable [Fns]
section
variable {P:Program} {c:Cst} {tW tX:TypeId} {J:Nat} {F:Nat→Value} {R:Nat→Array Value} {β:Type} {eB:β→Nat→Value} {up:β→Nat→β} {b0:β} {Sn:Nat→Prop} {S:Scr3 P c tW tX J F R β eB up}
variable {gs gs':Array Goroutine} {w w':World} {t t':Trace} {z0 z0':Y0} {zs:Nat→YW P} {L L':List Nat} {ow ow':Option Nat} {blk blk':Nat→Option Nat} {W W':Wd} {mm mm' i:Nat} {g g':Goroutine} {z':YW P} {es:Array Event}
def Moves3 (S:Scr3 P c tW tX J F R β eB up) (b0:β) (Sn:Nat→Prop) (gs:Array Goroutine) (w:World) (t:Trace) (z0:Y0) (zs:Nat→YW P) (W:Wd) (mm i:Nat):Prop :=
 ∀sl,∃gs' w' ops z0' zs' L' ow' blk' W' mm',runT P (crowd gs w sl) i=(.next (crowd gs' w' sl),ops)∧Pool3 S b0 Sn gs' w' (t++ops) z0' zs' L' ow' blk' W' mm'∧Me2Lt P (me2 c J z0' zs' gs'.size W' mm') (me2 c J z0 zs gs.size W mm)
theorem Pool3.moveW (h:Pool3 S b0 Sn gs w t z0 zs L ow blk W mm) (hi:1≤i) (hg:gs[i]? = some g) (hst:stepG P false g w=.go g' w' es) (ok:Ok3 c tW w') (st:TW S (L'.foldl up b0) (deafBehind (Deaf t i) es) z' g' w') (ho:i<c.S0→∃q,z'=.lv q) (hdw:c.S0≤i→deafW z' (deafBehind (Deaf t i) es))
  (hu1:∀j q,j≠i→c.N1≤q→q<w.heap.size→blk q=some j→w'.heap[q]? = w.heap[q]?) (hB:∀j,c.S0≤j→j<gs.size→j≠i→isCr (zs j)→L'.foldl up b0=L.foldl up b0∧∀o,2≤o→w'.cell? ⟨c.Fd,o,none⟩=w.cell? ⟨c.Fd,o,none⟩) (hwg:∀z0',(z0'=z0∨(z0=.w3b∧z0'=.w3 0))→(z0'=.w3b→wakes P g g'=false)→WgS c tW z0' (upd' zs i z') gs.size w')
  (hsh:∀k E s,z'=.ca k E s→∀b q s,E b=some (q,s,false)→c.Fix q) (mem:Mem3 P c tX J R eB up b0 (upd' zs i z') gs.size L' ow' blk' w') (tr:Tr3 c Sn (upd' zs i z') gs.size ow' blk' w'.heap.size (t++MemOp.ofEvents i g.frame.fn g.frame.place es)) (mi:MInv (fun j=>mxOf (upd' zs i z' j)) gs.size W' mm') (mu:muC c w' W' mm')
  (hz1:∀k q s,z'=.mb k q s→wakes P g g'=false∧mm'=0) (hz2:wakes P g g'=false→mm=0→mm'=0)
  (hm:tot c J z0 (upd' zs i z') gs.size W' mm'<tot c J z0 zs gs.size W mm∨(tot c J z0 (upd' zs i z') gs.size W' mm'=tot c J z0 zs gs.size W mm∧(MiLt P [trap P] (yiW z') (yiW (zs i))∨(yiW z'=yiW (zs i)∧wakes P g g'=false∧bitW z'<bitW (zs i))))) (hbk:∀q,q<w.heap.size→blk q=some 0→blk' q=some 0:=by exact fun _ _ e=>e):Moves3 S b0 Sn gs w t z0 zs W mm i:=fun sl=>by
 have hu:∀j q,c.S0≤j→j<gs.size→j≠i→inUse2 (zs j) q→w'.heap[q]? = w.heap[q]?:=fun j q a1 a2 a3 a4=>by
  obtain ⟨b1,b2,b3⟩:=h.mem.us1 j q a1 a2 a4
  exact hu1 j q a3 b1 b2 b3
 have his:=idx_lt hg
 have hs1:=S.s1
 obtain ⟨a,h1,h2⟩:=h.a0
 obtain ⟨z0',k1,k2,k3⟩:=h.woken0 (a:=g) (a':=g') (w':=w') h1
 obtain ⟨e1,e2,e3,e4,e5,e6⟩:=woke_same (P:=P) (c:=c) k1
 have hr:=runT_crowd_go (P:=P) (sl:=sl) (i:=i) hg (by rw[show (i==0)=false by simp;omega];exact hst)
 have hs:((gs.map (woken P g g' w')).setIfInBounds i g').size=gs.size:=by simp
 have hd:∀j,j≠i→Deaf (t++MemOp.ofEvents i g.frame.fn g.frame.place es) j=Deaf t j:=fun j hj=>Deaf_other t (fun e=>hj e.symm) _ (fun op hop=>by obtain ⟨e,_,rfl⟩:=Conc.mem_ofEvents hop;rfl)
 have hdi:Deaf (t++MemOp.ofEvents i g.frame.fn g.frame.place es) i=deafBehind (Deaf t i) es:=Deaf_own _ _ _ _ _
 have hkp:=h.keep ok hd hu hB
 have hlf:∀zs:Nat→YW P,lft c z0' zs gs.size=lft c z0 zs gs.size:=fun zs=>by unfold lft;rw[e1]
 have htt:∀(zs:Nat→YW P) W m,tot c J z0' zs gs.size W m=tot c J z0 zs gs.size W m:=fun zs W m=>by unfold tot;rw[hlf,e5,e1]
 have hwz:wkW (wakes P g g') z'=z':=by
  rcases wk_eq (wakes P g g') z' with e | ⟨k,q,s,e,_⟩
  ·exact e
  ·rw[(hz1 k q s e).1];rfl
 have hmx:(fun j=>mxOf (wkW (wakes P g g') (upd' zs i z' j)))=fun j=>mxOf (upd' zs i z' j):=funext fun j=>wk_mx _ _
 have hlvw:∀q,wkW (wakes P g g') (.lv q:YW P)=.lv q:=fun q=>by unfold wkW;split <;> rfl
 have hz0u:∀q,use0 z0' q→use0 z0 q:=fun q e=>by
  rcases k1 with e1 | ⟨_,e1⟩
  ·rw[←e1];exact e
  ·rw[e1] at e;exact e.elim
 refine ⟨_,w',_,z0',fun j=>wkW (wakes P g g') (upd' zs i z' j),L',ow',blk',W',mm',hr,⟨by rw[hs,e1];exact h.sz,⟨woken P g g' w' a,?_,k2.keep ok fun q e=>?_⟩,fun j x g1 g2=>?_,fun j g1=>?_,?_,fun j g1 g2=>?_,fun j g1=>?_,?_,fun j k E s g1 g2 g3=>?_,by rw[hs];exact mem.wk,by rw[hs];exact tr.wk,by rw[hs,hmx];exact mi,mu,fun j k q s g1 g2 g3=>?_,fun q e=>?_⟩,?_⟩
 ·rw[Array.getElem?_setIfInBounds_ne (by omega),Array.getElem?_map,h1];rfl
 ·obtain ⟨b1,b2,b3⟩:=h.use q (hz0u q e)
  exact hu1 0 q (by omega) b1 b2 b3
 ·by_cases e:j=i
  ·subst e
   rw[Array.getElem?_setIfInBounds_self_of_lt (by simpa using his)] at g2
   cases g2
   show TW S _ _ (wkW _ (upd' zs j z' j)) _ _
   rw[upd'_same,hdi,hwz];exact st
  ·rw[Array.getElem?_setIfInBounds_ne (fun e'=>e e'.symm),Array.getElem?_map] at g2
   obtain ⟨y,hy,rfl⟩:=Option.map_eq_some_iff.1 g2
   show TW S _ _ (wkW _ (upd' zs i z' j)) _ _
   rw[upd'_ne _ _ e]
   refine TW.woken (hkp j y g1 e hy) ok fun k q hb=>?_
   have hjs:=idx_lt hy
   rcases Nat.lt_or_ge j c.S0 with h4 | h4
   ·obtain ⟨q',h5⟩:=h.old j h4
    rw[h5] at hb;exact hb.elim
   ·have:=h.mem.bx j k q h4 hjs hb
    unfold BxR at this ⊢
    rw[hu j q h4 hjs e (box_use hb)]
    exact this
 ·show ∃q,wkW _ (upd' zs i z' j)=.lv q
  by_cases e:j=i
  ·subst e;rw[upd'_same,hwz];exact ho g1
  ·rw[upd'_ne _ _ e]
   obtain ⟨q,hq⟩:=h.old j g1
   exact ⟨q,by rw[hq,hlvw]⟩
 ·rw[hd 0 (by omega),e3];exact h.df0
 ·rw[hs] at g2
  show deafW (wkW _ (upd' zs i z' j)) _
  rw[wk_same deafW (fun _ _ _=>rfl)]
  by_cases e:j=i
  ·subst e;rw[upd'_same,hdi];exact hdw g1
  ·rw[upd'_ne _ _ e,hd j e];exact h.dfW j g1 g2
 ·rw[hs] at g1
  rw[hd j (by omega)];exact h.dfA j g1
 ·rw[hs]
  exact (hwg z0' k1 k3).wk
 ·rw[hs] at g2
  have g3':wkW (wakes P g g') (upd' zs i z' j)=.ca k E s:=g3
  have g4:upd' zs i z' j=.ca k E s:=by
   rcases wk_eq (wakes P g g') (upd' zs i z' j) with e | ⟨k',q',s',e,e'⟩
   ·rw[←e];exact g3'
   ·rw[e'] at g3';cases g3'
  by_cases e':j=i
  ·subst e';rw[upd'_same] at g4;exact hsh k E s g4
  ·rw[upd'_ne _ _ e'] at g4;exact h.shr j k E s g1 g2 g4
 ·rw[hs] at g2
  have g3':wkW (wakes P g g') (upd' zs i z' j)=.mb k q s:=g3
  have hf:wakes P g g'=false∧upd' zs i z' j=.mb k q s:=by
   unfold wkW at g3'
   split at g3'
   ·exfalso
    revert g3'
    cases upd' zs i z' j <;> intro g3' <;> cases g3'
   ·rename_i e
    exact ⟨by simpa using e,g3'⟩
  by_cases e':j=i
  ·subst e'
   rw[upd'_same] at hf
   exact (hz1 k q s hf.2).2
  ·rw[upd'_ne _ _ e'] at hf
   exact hz2 hf.1 (h.bl j k q s g1 g2 hf.2)
 ·obtain ⟨b1,b2,b3⟩:=h.use q (hz0u q e)
  exact hbk q b2 b3
 ·rw[hs]
  have hyo:∀j,j≠i→yiW (wkW (wakes P g g') (upd' zs i z' j))=yiW (zs j):=fun j hj=>by
   rw[wk_same yiW (fun _ _ _=>rfl),upd'_ne _ _ hj]
  rcases hm with hm | ⟨hm,hm2 | ⟨hm2,hm3,hm4⟩⟩
  ·exact me2_1 (by rw[tot_wk,htt];exact hm)
  ·refine me2_w his (by rw[tot_wk,htt];exact hm) e6 ?_ hyo
   show MiLt P [trap P] (yiW (wkW _ (upd' zs i z' i))) _
   rw[upd'_same,hwz];exact hm2
  ·have hz0:z0'=z0∨bit0 z0'=bit0 z0+1:=by
    rcases k1 with e | ⟨rfl,rfl⟩
    ·exact .inl e
    ·exact .inr rfl
   have hfz:(fun j=>wkW (wakes P g g') (upd' zs i z' j))=upd' zs i z':=funext fun j=>by
    rw[hm3];rfl
   rw[hfz]
   have hz00:z0'=z0:=by
    rcases k1 with e | ⟨e,e'⟩
    ·exact e
    ·exfalso
     obtain ⟨g1,q1,q2⟩:=h.a0
     rw[h1] at q1
     cases q1
     rw[e] at q2
     obtain ⟨g9,_,rfl⟩:=q2
     have hw9:woken P g g' w' { g9 with status:=.blocked }={ g9 with status:=.blocked }:=by
      unfold woken
      exact if_neg (by have:wakes P g g'=false:=hm3;unfold wakes at this;rw[this];decide)
     rw[hw9,e'] at k2
     have:=walkA_running (show WalkA P c tW true S.W3 0 _ w from k2) h.ok3
     cases this
   rw[hz00]
   have hb:=sum_upd (fun _ z=>bitW z) zs z' his
   refine me2_b (Prod.ext hm ?_) (by omega)
   show yi0 z0 :: _=yi0 z0 :: _
   congr 1
   refine List.map_congr_left fun j _=>?_
   by_cases e:j=i
   ·subst e;rw[upd'_same];exact hm2
   ·rw[upd'_ne _ _ e]
omit [Fns] in
theorem Mem3.still {top:Nat} (h:Mem3 P c tX J R eB up b0 zs top L ow blk w) (hC:c.C2<c.N1∧c.Fd<c.N1) (hs:Still c w w'):Mem3 P c tX J R eB up b0 zs top L ow blk w':=by
 refine ⟨hs.okT h.ok,h.nd,h.li,fun e j h2 h3=>(hs.cell h.ok h2).trans (h.bd e j h2 h3),h.ow1,h.ow2,h.nm,fun j k q h1 h2 h3=>?_,fun j q h1 h2 h3=>by rw[hs.size];exact h.us1 j q h1 h2 h3,fun q j h1=>by rw[hs.size];exact h.us4 q j h1⟩
 have hn:=(h.us1 j q h1 h2 (box_use h3)).1
 have hb:=h.bx j k q h1 h2 h3
 unfold BxR at hb ⊢
 rw[hs.heap q (by omega) (by omega)]
 exact hb
omit [Fns] in
theorem muC_heap (h:muC c w W mm) (e:w'.heap[c.Fd]? = w.heap[c.Fd]?):muC c w' W mm:=by
 unfold muC World.cell? at h ⊢
 rw[e]
 exact h
theorem Pool3.move0g (h:Pool3 S b0 Sn gs w t z0 zs L ow blk W mm) (hg:gs[0]? = some g) (hst:stepG P true g w=.go g' w' es) (ok:Ok3 c tW w') (st:T0 S z0' g' w') (e1:spawned2 c z0'=spawned2 c z0) (hd0:deafBehind (deaf0 z0) es=deaf0 z0') (hk:∀q,q≠c.C2→q<w.heap.size→blk q≠some 0→w'.heap[q]? = w.heap[q]?) (hse:w.heap.size≤w'.heap.size∧w'.os=w.os∧w'.output=w.output) (hbk:∀q j,1≤j→blk q=some j→blk' q=some j) (hb4:∀q j,blk' q=some j→c.N1≤q∧q<w'.heap.size) (hb0:∀q,use0 z0' q→blk' q=some 0)
  (hwg:WgS c tW z0' zs gs.size w') (tr:Tr3 c Sn zs gs.size ow blk' w'.heap.size (t++MemOp.ofEvents 0 g.frame.fn g.frame.place es)) (hm:tot c J z0' zs gs.size W mm<tot c J z0 zs gs.size W mm∨(tot c J z0' zs gs.size W mm=tot c J z0 zs gs.size W mm∧(MiLt P [trap P] (yi0 z0') (yi0 z0)∨((yi0 z0':Mi P [trap P])=yi0 z0∧wakes P g g'=false∧bit0 z0'<bit0 z0)))):Moves3 S b0 Sn gs w t z0 zs W mm 0:=fun sl=>by
 have his:=idx_lt hg
 have hs1:=S.s1
 have hc:=S.d1
 have hno:∀q,q<c.N1→blk q≠some 0:=fun q hq e=>by have:=(h.mem.us4 q 0 e).1;omega
 have hbig:=h.mem.ok.big
 have hlow:∀q,q≠c.C2→q<c.N1→w'.heap[q]? = w.heap[q]?:=fun q h1 h2=>hk q h1 (by omega) (hno q h2)
 have hFd:w'.heap[c.Fd]? = w.heap[c.Fd]?:=hlow _ (fun e=>hc.2.2.1 e.symm) hc.2.1
 have hown:∀j q,1≤j→c.N1≤q→q<w.heap.size→blk q=some j→w'.heap[q]? = w.heap[q]?:=fun j q a1 a2 a3 a4=>hk q (by omega) a3 fun e2=>by rw[a4] at e2;cases e2;omega
 have hr:=runT_crowd_go (P:=P) (sl:=sl) (i:=0) hg (show stepG P (0==0) g w=_ from hst)
 have hs:((gs.map (woken P g g' w')).setIfInBounds 0 g').size=gs.size:=by simp
 have hd:∀j,j≠0→Deaf (t++MemOp.ofEvents 0 g.frame.fn g.frame.place es) j=Deaf t j:=fun j hj=>Deaf_other t (fun e=>hj e.symm) _ (fun op hop=>by obtain ⟨e,_,rfl⟩:=Conc.mem_ofEvents hop;rfl)
 have hkp:=h.keep (i:=0) (b':=L.foldl up b0) ok hd (fun j q a1 a2 _ a3=>by obtain ⟨b1,b2,b3⟩:=h.mem.us1 j q a1 a2 a3;exact hown j q (by omega) b1 b2 b3) (fun j _ _ _ _=>⟨rfl,fun o _=>by unfold World.cell?;rw[hFd]⟩)
 have hmx:(fun j=>mxOf (wkW (wakes P g g') (zs j)))=fun j=>mxOf (zs j):=funext fun j=>wk_mx _ _
 have hlvw:∀q,wkW (wakes P g g') (.lv q:YW P)=.lv q:=fun q=>by unfold wkW;split <;> rfl
 have mem:Mem3 P c tX J R eB up b0 zs gs.size L ow blk' w':=by
  refine ⟨h.mem.ok.keep (fun q hq=>hlow q hq.2.2.2.1 hq.1) (fun cs e=>⟨cs,hFd.trans e,rfl⟩) hse.1 (by rw[hse.2.1];exact .refl _) hse.2.2,h.mem.nd,h.mem.li,fun e j h2 h3=>?_,h.mem.ow1,h.mem.ow2,h.mem.nm,fun j k q h1 h2 h3=>?_,fun j q h1 h2 h3=>?_,hb4⟩
  ·rw[←h.mem.bd e j h2 h3]
   unfold World.cell?
   rw[hFd]
  ·obtain ⟨b1,b2,b3⟩:=h.mem.us1 j q h1 h2 (box_use h3)
   have hb:=h.mem.bx j k q h1 h2 h3
   unfold BxR at hb ⊢
   rw[hown j q (by omega) b1 b2 b3]
   exact hb
  ·obtain ⟨b1,b2,b3⟩:=h.mem.us1 j q h1 h2 h3
   exact ⟨b1,Nat.lt_of_lt_of_le b2 hse.1,hbk q j (by omega) b3⟩
 refine ⟨_,w',_,z0',fun j=>wkW (wakes P g g') (zs j),L,ow,blk',W,mm,hr,⟨by rw[hs,e1];exact h.sz,⟨g',Array.getElem?_setIfInBounds_self_of_lt (by simpa using his),st⟩,fun j x g1 g2=>?_,fun j g1=>?_,by rw[Deaf_own,h.df0];exact hd0,fun j g1 g2=>?_,fun j g1=>?_,by rw[hs];exact hwg.wk,fun j k E s g1 g2 g3=>?_,by rw[hs];exact mem.wk,by rw[hs];exact tr.wk,by rw[hs,hmx];exact h.mi,muC_heap h.mu hFd,fun j k q s g1 g2 g3=>?_,hb0⟩,?_⟩
 ·rw[Array.getElem?_setIfInBounds_ne (by omega),Array.getElem?_map] at g2
  obtain ⟨y,hy,rfl⟩:=Option.map_eq_some_iff.1 g2
  have hjs:=idx_lt hy
  refine TW.woken (hkp j y g1 (by omega) hy) ok fun k q hb=>?_
  rcases Nat.lt_or_ge j c.S0 with h4 | h4
  ·obtain ⟨q',h5⟩:=h.old j h4
   rw[h5] at hb;exact hb.elim
  ·exact mem.bx j k q h4 hjs hb
 ·obtain ⟨q,hq⟩:=h.old j g1
  exact ⟨q,by show wkW _ (zs j)=_;rw[hq,hlvw]⟩
 ·rw[hs] at g2
  show deafW (wkW _ (zs j)) _
  rw[wk_same deafW (fun _ _ _=>rfl),hd j (by omega)];exact h.dfW j g1 g2
 ·rw[hs] at g1
  have:=h.pos
  rw[hd j (by omega)];exact h.dfA j g1
 ·rw[hs] at g2
  have g3':wkW (wakes P g g') (zs j)=.ca k E s:=g3
  rcases wk_eq (wakes P g g') (zs j) with e | ⟨k',q',s',e,e'⟩
  ·rw[e] at g3';exact h.shr j k E s g1 g2 g3'
  ·rw[e'] at g3';cases g3'
 ·rw[hs] at g2
  have g3':wkW (wakes P g g') (zs j)=.mb k q s:=g3
  rcases wk_eq (wakes P g g') (zs j) with e | ⟨k',q',s',e,e'⟩
  ·rw[e] at g3';exact h.bl j k q s g1 g2 g3'
  ·rw[e'] at g3';cases g3'
 ·rw[hs]
  rcases hm with hm | ⟨hm,hm2 | ⟨hm2,hm3,hm4⟩⟩
  ·exact me2_1 (by rw[tot_wk];exact hm)
  ·refine Prod.Lex.left _ _ ?_
   show MeLt P [trap P] (tot c J z0' (fun j=>wkW (wakes P g g') (zs j)) gs.size W mm,_) (tot c J z0 zs gs.size W mm,_)
   rw[tot_wk,hm,show (List.range gs.size).map (fun i=>yiW (wkW (wakes P g g') (zs i)))=(List.range gs.size).map (fun i=>yiW (zs i)) from List.map_congr_left fun j _=>wk_same yiW (fun _ _ _=>rfl) _ _]
   exact Prod.Lex.right _ (.head _ hm2)
  ·have hfz:(fun j=>wkW (wakes P g g') (zs j))=zs:=funext fun j=>by rw[hm3];rfl
   rw[hfz]
   refine me2_b (Prod.ext hm ?_) (by omega)
   show yi0 z0' :: _=yi0 z0 :: _
   rw[hm2]
theorem Pool3.move0 (h:Pool3 S b0 Sn gs w t z0 zs L ow blk W mm) (hg:gs[0]? = some g) (hst:stepG P true g w=.go g' w' es) (ok:Ok3 c tW w') (st:T0 S z0' g' w') (e1:spawned2 c z0'=spawned2 c z0) (hd0:deafBehind (deaf0 z0) es=deaf0 z0') (hk:∀q,q≠c.C2→w'.heap[q]? = w.heap[q]?) (hse:w'.heap.size=w.heap.size∧w'.os=w.os∧w'.output=w.output)
  (hwg:WgS c tW z0' zs gs.size w') (tr:Tr3 c Sn zs gs.size ow blk w'.heap.size (t++MemOp.ofEvents 0 g.frame.fn g.frame.place es)) (hm:tot c J z0' zs gs.size W mm<tot c J z0 zs gs.size W mm∨(tot c J z0' zs gs.size W mm=tot c J z0 zs gs.size W mm∧(MiLt P [trap P] (yi0 z0') (yi0 z0)∨((yi0 z0':Mi P [trap P])=yi0 z0∧wakes P g g'=false∧bit0 z0'<bit0 z0)))) (hz:∀q,use0 z0' q→use0 z0 q:=by exact fun _ e=>e.elim):Moves3 S b0 Sn gs w t z0 zs W mm 0 :=
 h.move0g (blk':=blk) hg hst ok st e1 hd0 (fun q h1 _ _=>hk q h1) ⟨Nat.le_of_eq hse.1.symm,hse.2⟩ (fun _ _ _ e=>e) (fun q j e=>by rw[hse.1];exact h.mem.us4 q j e) (fun q e=>h.hb q (hz q e)) hwg tr hm
end
end Go.Proofs.Ytpdemelchhkfaaa.Cs
