import Derived.Test.YtpdemelchhkfaaaJn17
namespace Go.Proofs.Ytpdemelchhkfaaa
namespace Cs
open Go.Conc
open Go.ConcN (sumTo sumTo_congr)
open Go.ConcR (KK WgAt wgBlock stA smA rd wr mk)
open Go.ConcM (OsLater)
section
variable {P:Program} {c:Cst}
def gG:YW P→Prop
 | .se _=>True
 | _=>False
def cG (c:Cst) (i:Nat) (z:YW P):Nat:=if i<c.S0 then 0 else bef z
def lft (c:Cst) (z0:Y0) (zs:Nat→YW P) (size:Nat):Nat:=(c.n-bg c z0)+sumTo size (fun i=>cG c i (zs i))
def k9 (c:Cst) (zs:Nat→YW P) (size:Nat):Prop:=∀i,c.S0≤i→i<size→¬closing (zs i)
inductive WgS (c:Cst) (tW:TypeId) (z0:Y0) (zs:Nat→YW P) (size:Nat) (w:World):Prop
 | run (hn:k9 c zs size) (hp:¬jS z0) (hr:(reg z0=1→0<lft c z0 zs size)∧∀u m,z0=.w2 u m→lft c z0 zs size≤u) (hw:WgAt tW c.C2 w ((lft c z0 zs size:Int)*KK+(reg z0:Int)) 0)
 | cls (i:Nat) (hi:c.S0≤i) (hs:i<size) (hc:closing (zs i)) (hu:∀j,c.S0≤j→j<size→j≠i→¬closing (zs j)) (hr:reg z0=1) (hl:lft c z0 zs size=0) (hw:(gG (zs i)→WgAt tW c.C2 w 0 0)∧(¬gG (zs i)→WgAt tW c.C2 w 1 0))
 | rls (hn:k9 c zs size) (hl:lft c z0 zs size=0) (hr:reg z0=1) (hb:z0≠.w3b) (hw:WgAt tW c.C2 w 0 1)
 | pst (hn:k9 c zs size) (hl:lft c z0 zs size=0) (hp:jS z0) (hw:WgAt tW c.C2 w 0 0)
theorem WgS.live {tW:TypeId} {z0:Y0} {zs:Nat→YW P} {size:Nat} {w:World} (h:WgS c tW z0 zs size w):∃st sm,WgAt tW c.C2 w st sm:=by
 cases h with
 | run _ _ _ hw=>exact ⟨_,_,hw⟩
 | cls i _ _ _ _ _ _ hw =>
  by_cases e:gG (zs i)
  ·exact ⟨_,_,hw.1 e⟩
  ·exact ⟨_,_,hw.2 e⟩
 | rls _ _ _ _ hw=>exact ⟨_,_,hw⟩
 | pst _ _ _ hw=>exact ⟨_,_,hw⟩
theorem WgS.keep {tW:TypeId} {z0:Y0} {zs:Nat→YW P} {size:Nat} {w w':World} (h:WgS c tW z0 zs size w) (hw':w'.heap[c.C2]? = w.heap[c.C2]?):WgS c tW z0 zs size w':=by
 have k:∀st sm,WgAt tW c.C2 w st sm→WgAt tW c.C2 w' st sm:=fun st sm h=>by unfold WgAt at h ⊢;rw[hw'];exact h
 cases h with
 | run hn hp hr hw=>exact .run hn hp hr (k _ _ hw)
 | cls i hi hs hc hu hr hl hw=>exact .cls i hi hs hc hu hr hl ⟨fun e=>k _ _ (hw.1 e),fun e=>k _ _ (hw.2 e)⟩
 | rls hn hl hr hb hw=>exact .rls hn hl hr hb (k _ _ hw)
 | pst hn hl hp hw=>exact .pst hn hl hp (k _ _ hw)
def unb:YW P→YW P
 | .mb k q s=>.ml k q (.s1 s) 0
 | z=>z
def wkW (f:Bool) (z:YW P):YW P:=if f=true then unb z else z
theorem nK (f:Bool) (z:YW P):wkW f z=z∨∃k q s,z=.mb k q s∧wkW f z=.ml k q (.s1 s) 0:=by
 unfold wkW
 split
 ·cases z <;> first | exact .inl rfl | exact .inr ⟨_,_,_,rfl,rfl⟩
 ·exact .inl rfl
theorem cH {α:Type} (Q:YW P→α) (hQ:∀k q s,Q (.ml k q (.s1 s) 0)=Q (.mb k q s)) (f:Bool) (z:YW P):Q (wkW f z)=Q z:=by
 rcases nK f z with e | ⟨k,q,s,e,e2⟩
 ·rw[e]
 ·rw[e2,e,hQ]
theorem yh (f:Bool) (z:YW P):aV (wkW f z)=aV z:=cH aV (fun _ _ _=>rfl) f z
end
variable [Fns]
section
variable {P:Program} {c:Cst} {tW tX:TypeId} {J:Nat} {F:Nat→Value} {R:Nat→Array Value} {β:Type} {eB:β→Nat→Value} {up:β→Nat→β} {b0:β} {Sn:Nat→Prop}
structure aD (S:ff P c tW tX J F R β eB up) (b0:β) (Sn:Nat→Prop) (gs:Array Goroutine) (w:World) (t:Trace) (z0:Y0) (zs:Nat→YW P) (L:List Nat) (ow:Option Nat) (blk:Nat→Option Nat) (W:Wd) (mm:Nat):Prop where
 sz:gs.size=c.S0+bg c z0
 a0:∃g,gs[0]? = some g∧T0 S z0 g w
 wk:∀i g,1≤i→gs[i]? = some g→TW S (L.foldl up b0) (Deaf t i) (zs i) g w
 old:∀i,i<c.S0→∃q,zs i=.lv q
 df0:Deaf t 0=deaf0 z0
 dfW:∀i,c.S0≤i→i<gs.size→deafW (zs i) (Deaf t i)
 dfA:∀j,gs.size≤j→Deaf t j=0
 wg:WgS c tW z0 zs gs.size w
 shr:∀i k E s,c.S0≤i→i<gs.size→zs i=.ca k E s→∀b q s,E b=some (q,s,false)→c.Fix q
 mem:cU P c tX J R eB up b0 zs gs.size L ow blk w
 tr:Tr3 c Sn zs gs.size ow blk w.heap.size t
 mi:MInv (fun i=>aV (zs i)) gs.size W mm
 mu:muC c w W mm
 bl:∀i k q s,c.S0≤i→i<gs.size→zs i=.mb k q s→mm=0
 hb:∀q,oJ z0 q→blk q=some 0
variable {S:ff P c tW tX J F R β eB up} {gs:Array Goroutine} {w w':World} {t:Trace} {z0:Y0} {zs:Nat→YW P} {L:List Nat} {ow:Option Nat} {blk:Nat→Option Nat} {W:Wd} {mm:Nat} {g g':Goroutine} {z:YW P} {d:Nat} {b b':β}
omit [Fns] in
theorem bJ {main:Bool} {Stp:Goroutine→Prop} {m:Nat} (h:WalkA P c tW main Stp m g w) (ok:Ok3 c tW w'):WalkA P c tW main Stp m g w':=Goes.rely (fun _ _ _ _ h=>h) h ok
omit [Fns] in
theorem aU {main:Bool} {Stp:Goroutine→Prop} {m:Nat} (h:WalkA P c tW main Stp m g w) (ok:Ok3 c tW w):g.status=.running:=Goes.running (fun _ _ h=>h.1) w ok h
omit [Fns] in
theorem dy {Stp:Goroutine→Prop} {m:Nat} (h:cu P c tW Stp m g w) (ok:Ok3 c tW w'):cu P c tW Stp m g w':=Goes.rely (fun _ _ _ _ h=>h) h ok
omit [Fns] in
theorem cm {Stp:Goroutine→Prop} {m:Nat} (h:cu P c tW Stp m g w) (ok:Ok3 c tW w):g.status=.running:=Goes.running (fun _ _ h=>h.1) w ok h
omit [Fns] in
theorem rC {k q:Nat} {bb:Nat→Value} {Stp:Goroutine→Prop} {m:Nat} (h:fu P c tW tX R k q bb Stp m g w) (r:RB c tW tX R k q w w'):fu P c tW tX R k q bb Stp m g w':=Goes.rely (fun _ _ _ h1 h2=>⟨h2.1,h2.2.1,fun i hi=>(h2.2.2 i hi).trans (h1.2.2 i hi)⟩) h r
omit [Fns] in
theorem ni {k q:Nat} {bb:Nat→Value} {Stp:Goroutine→Prop} {m:Nat} (h:fu P c tW tX R k q bb Stp m g w) (ok:Ok3 c tW w) (hb:BxR R tX k q w):g.status=.running:=Goes.running (fun _ _ h=>h.1) w ⟨ok,hb,fun _ _=>rfl⟩ h
omit [Fns] in
theorem sH {main:Bool} {Stp:Goroutine→Prop} (hr:g.status=.running) (hs:Stp g):WalkA P c tW main Stp 0 g w:=fun _ _=>⟨hr,hs⟩
omit [Fns] in
theorem sg {Stp:Goroutine→Prop} (hr:g.status=.running) (hs:Stp g):cu P c tW Stp 0 g w:=fun _ _=>⟨hr,hs⟩
theorem T0.keep (h:T0 S z0 g w) (ok:Ok3 c tW w') (hE:∀q,oJ z0 q→w'.heap[q]? = w.heap[q]?):T0 S z0 g w':=by
 cases z0 with
 | al j m=>exact ⟨h.1,bJ h.2 ok⟩
 | st j q m=>exact ⟨h.1,bJ h.2.1 ok,by rw[hE q rfl];exact h.2.2⟩
 | sp j q m=>exact ⟨h.1,bJ h.2.1 ok,by rw[hE q rfl];exact h.2.2⟩
 | w2 v m=>exact ⟨h.1,h.2.1,bJ h.2.2 ok⟩
 | w3b=>exact h
 | wd m=>exact bJ (show WalkA P c tW true S.WtD m g w from h) ok
 | w1 m=>exact bJ (show WalkA P c tW true S.W1 m g w from h) ok
 | sa m=>exact bJ (show WalkA P c tW true S.Sai m g w from h) ok
 | w3 m=>exact bJ (show WalkA P c tW true S.W3 m g w from h) ok
 | w4 m=>exact bJ (show WalkA P c tW true S.W4 m g w from h) ok
 | ke m=>exact bJ (show WalkA P c tW true S.Ke m g w from h) ok
 | ac m=>exact bJ (show WalkA P c tW true S.Acq m g w from h) ok
 | jn m=>exact h.elim
theorem TW.keep (h:TW S b d z g w) (ok:Ok3 c tW w') (hE:∀q,bI z q→w'.heap[q]? = w.heap[q]?) (hF:∀k E s,z=.ca k E s→∀b q s,E b=some (q,s,false)→w'.heap[q]? = w.heap[q]?) (hB:gv z→b'=b∧∀o,2≤o→w'.cell? ⟨c.Fd,o,none⟩=w.cell? ⟨c.Fd,o,none⟩) (hX:∀k q,en z k q→BxR R tX k q w):TW S b' d z g w':=by
 cases z with
 | hd k q m=>exact ⟨h.1,dy h.2.1 ok,by rw[hE q rfl];exact h.2.2⟩
 | pr k m=>exact ⟨h.1,bJ h.2 ok⟩
 | bx k m=>exact ⟨h.1,bJ h.2 ok⟩
 | ca k E s =>
  obtain ⟨h1,cal,rest,h2,h3⟩:=h
  refine ⟨h1,cal,rest,h2.other (fun b x hx=>?_),h3⟩
  obtain ⟨q,s',o⟩:=x
  cases o with
  | true=>exact hE q ⟨b,s',hx⟩
  | false=>exact hF k E s rfl b q s' hx
 | ml k q x m=>exact ⟨h.1,h.2.1,dy h.2.2 ok⟩
 | mb k q s=>exact h
 | cr k q m =>
  obtain ⟨rfl,h3⟩:=hB trivial
  refine ⟨h.1,rC h.2 ⟨ok,?_,h3⟩⟩
  have:=hX k q ⟨rfl,rfl⟩
  unfold BxR at this ⊢
  rw[hE q rfl]
  exact this
 | lv q=>exact h
 | re m=>exact bJ (show WalkA P c tW false S.Rel m g w from h) ok
 | di m=>exact dy (show cu P c tW S.Dis m g w from h) ok
 | de m=>exact dy (show cu P c tW S.Dec m g w from h) ok
 | lo m=>exact dy (show cu P c tW S.Lod m g w from h) ok
 | ze m=>exact dy (show cu P c tW S.Zer m g w from h) ok
 | se m=>exact dy (show cu P c tW S.Sem m g w from h) ok
theorem T0.status (h:T0 S z0 g w) (ok:Ok3 c tW w):g.status=.running∨(z0=.w3b∧∃g',S.W3 g'∧g={ g' with status:=.blocked }):=by
 cases z0 with
 | al j m=>exact .inl (aU h.2 ok)
 | st j q m=>exact .inl (aU h.2.1 ok)
 | sp j q m=>exact .inl (aU h.2.1 ok)
 | w2 v m=>exact .inl (aU h.2.2 ok)
 | w3b=>exact .inr ⟨rfl,h⟩
 | wd m=>exact .inl (aU (show WalkA P c tW true S.WtD m g w from h) ok)
 | w1 m=>exact .inl (aU (show WalkA P c tW true S.W1 m g w from h) ok)
 | sa m=>exact .inl (aU (show WalkA P c tW true S.Sai m g w from h) ok)
 | w3 m=>exact .inl (aU (show WalkA P c tW true S.W3 m g w from h) ok)
 | w4 m=>exact .inl (aU (show WalkA P c tW true S.W4 m g w from h) ok)
 | ke m=>exact .inl (aU (show WalkA P c tW true S.Ke m g w from h) ok)
 | ac m=>exact .inl (aU (show WalkA P c tW true S.Acq m g w from h) ok)
 | jn m=>exact h.elim
theorem TW.status (h:TW S b d z g w) (ok:Ok3 c tW w) (hX:∀k q,en z k q→BxR R tX k q w):g.status=.running∨(g.status=.finished∧∃q,z=.lv q)∨∃k q s g',z=.mb k q s∧S.Mu k q (.s1 s) g'∧g={ g' with status:=.blocked }:=by
 cases z with
 | hd k q m=>exact .inl (cm h.2.1 ok)
 | pr k m=>exact .inl (aU h.2 ok)
 | bx k m=>exact .inl (aU h.2 ok)
 | ca k E s =>
  obtain ⟨_,cal,rest,h2,_⟩:=h
  exact .inl h2.running
 | ml k q x m=>exact .inl (cm h.2.2 ok)
 | mb k q s =>
  obtain ⟨_,g',h1,h2⟩:=h
  exact .inr (.inr ⟨k,q,s,g',rfl,h1,h2⟩)
 | cr k q m=>exact .inl (ni h.2 ok (hX k q ⟨rfl,rfl⟩))
 | lv q =>
  have h':QuitsD P q d g:=h
  rcases h'.status with h1 | h1
  ·exact .inl h1
  ·exact .inr (.inl ⟨h1,q,rfl⟩)
 | re m=>exact .inl (aU (show WalkA P c tW false S.Rel m g w from h) ok)
 | di m=>exact .inl (cm (show cu P c tW S.Dis m g w from h) ok)
 | de m=>exact .inl (cm (show cu P c tW S.Dec m g w from h) ok)
 | lo m=>exact .inl (cm (show cu P c tW S.Lod m g w from h) ok)
 | ze m=>exact .inl (cm (show cu P c tW S.Zer m g w from h) ok)
 | se m=>exact .inl (cm (show cu P c tW S.Sem m g w from h) ok)
def br (P:Program) (a a':Goroutine):Bool:=mayWake P a && a'.status != .blocked && a'.status != .waiting
theorem ff.lock (S:ff P c tW tX J F R β eB up) {k q:Nat} {s:Bool} (h:S.Mu k q (.s1 s) g) (hk:k<J):isG g∧g.offers=none:=⟨(S.mst k q _ g h hk trivial).1,(S.slp k q s g h).1⟩
section
variable (h:aD S b0 Sn gs w t z0 zs L ow blk W mm)
include h
theorem aD.pos:0<gs.size:=by have:=h.sz;have:=S.s1;omega
theorem aD.ok3:Ok3 c tW w:=⟨h.mem.ok,h.wg.live,⟨_,_,h.mu⟩⟩
theorem aD.use (q:Nat) (e:oJ z0 q):c.N1≤q∧q<w.heap.size∧blk q=some 0:=⟨(h.mem.us4 q 0 (h.hb q e)).1,(h.mem.us4 q 0 (h.hb q e)).2,h.hb q e⟩
theorem aD.hX {j:Nat} (h2:j<gs.size):∀k q,en (zs j) k q→BxR R tX k q w:=fun k q e=>by
 rcases Nat.lt_or_ge j c.S0 with h4 | h4
 ·obtain ⟨q',h5⟩:=h.old j h4
  rw[h5] at e;exact e.elim
 ·exact h.mem.bx j k q h4 h2 e
theorem aD.keep (ok:Ok3 c tW w') {i:Nat} {t':Trace} (hd:∀j,j≠i→Deaf t' j=Deaf t j) (hu:∀j q,c.S0≤j→j<gs.size→j≠i→bI (zs j) q→w'.heap[q]? = w.heap[q]?) (hB:∀j,c.S0≤j→j<gs.size→j≠i→gv (zs j)→b'=L.foldl up b0∧∀o,2≤o→w'.cell? ⟨c.Fd,o,none⟩=w.cell? ⟨c.Fd,o,none⟩):∀j g,1≤j→j≠i→gs[j]? = some g→TW S b' (Deaf t' j) (zs j) g w':=fun j g h1 h2 h3=>by
 rw[hd j h2]
 rcases Nat.lt_or_ge j c.S0 with h4 | h4
 ·have h5:=h.wk j g h1 h3
  obtain ⟨q,h6⟩:=h.old j h4
  rw[h6] at h5 ⊢
  exact h5
 ·refine (h.wk j g h1 h3).keep ok (fun q e=>hu j q h4 (bf h3) h2 e) (fun k E s e b q s' hx=>?_) (hB j h4 (bf h3) h2) (h.hX (bf h3))
  have hf:=h.shr j k E s h4 (bf h3) e b q s' hx
  exact (ok.ok.fix q hf).trans (h.mem.ok.fix q hf).symm
theorem aD.awake:∀g ∈ gs,awake g:=fun g hg=>by
 obtain ⟨i,hi,rfl⟩:=Array.mem_iff_getElem.1 hg
 rcases Nat.eq_zero_or_pos i with rfl | hp
 ·obtain ⟨a,h1,h2⟩:=h.a0
  have:gs[0]=a:=by simpa [Array.getElem?_eq_getElem hi] using h1
  rw[this]
  rcases h2.status h.ok3 with h3 | ⟨_,g',_,rfl⟩
  ·exact awake_of (.inl h3)
  ·exact awake_of (.inr (.inl rfl))
 ·rcases (h.wk i _ hp (Array.getElem?_eq_getElem hi)).status h.ok3 (h.hX hi) with h3 | ⟨h3,_⟩ | ⟨_,_,_,g',_,_,h3⟩
  ·exact awake_of (.inl h3)
  ·exact awake_of (.inr (.inr h3))
  ·rw[h3];exact awake_of (.inr (.inl rfl))
theorem aD.AU {a a':Goroutine} {w':World} (hg:gs[0]? = some g):∃z0',(z0'=z0∨(z0=.w3b∧z0'=.w3 0))∧(T0 S z0' (woken P a a' w' g) w)∧(z0'=.w3b→br P a a'=false):=by
 obtain ⟨g1,h1,h2⟩:=h.a0
 rw[hg] at h1
 cases h1
 rcases h2.status h.ok3 with h3 | ⟨rfl,g',h4,rfl⟩
 ·have e:woken P a a' w' g=g:=woken_running h3
  refine ⟨z0,.inl rfl,by rw[e];exact h2,fun e2=>?_⟩
  subst e2
  obtain ⟨g',h5,h6⟩:=h2
  rw[h6] at h3
  cases h3
 ·obtain ⟨⟨fr,cs,rfl⟩,h5,_⟩:=S.w3 g' h4
  by_cases hm:br P a a'=true
  ·have e:woken P a a' w' { G fr cs with status:=.blocked }=G fr cs:=by
    unfold woken
    exact (if_pos hm).trans rfl
   exact ⟨.w3 0,.inr ⟨rfl,rfl⟩,by rw[e];exact sH rfl h4,(fun e2=>by cases e2)⟩
  ·have hm':br P a a'=false:=by simpa using hm
   have e:woken P a a' w' { G fr cs with status:=.blocked }={ G fr cs with status:=.blocked }:=by
    unfold woken
    exact if_neg hm
   exact ⟨.w3b,.inl rfl,by rw[e];exact ⟨_,h4,rfl⟩,fun _=>hm'⟩
end
theorem TW.woken {a a':Goroutine} {w1:World} (h:TW S b d z g w) (ok:Ok3 c tW w) (hX:∀k q,en z k q→BxR R tX k q w):TW S b d (wkW (br P a a') z) (woken P a a' w1 g) w:=by
 rcases h.status ok hX with h3 | ⟨h3,q,rfl⟩ | ⟨k,q,s,g',rfl,h4,rfl⟩
 ·rw[woken_running h3]
  rcases nK (br P a a') z with e | ⟨k,q,s,e,_⟩
  ·rw[e];exact h
  ·subst e
   obtain ⟨_,g',_,h6⟩:=h
   rw[h6] at h3
   cases h3
 ·have e1:wkW (br P a a') (.lv q:YW P)=.lv q:=by unfold wkW;split <;> rfl
  have e2:Go.Conc.woken P a a' w1 g=g:=by
   unfold Go.Conc.woken
   split
   ·unfold Goroutine.again
    rw[h3]
   ·rfl
  rw[e1,e2]
  exact h
 ·obtain ⟨⟨fr,cs,rfl⟩,h5⟩:=S.lock h4 h.1
  by_cases hm:br P a a'=true
  ·have e:Go.Conc.woken P a a' w1 { G fr cs with status:=.blocked }=G fr cs:=by
    unfold Go.Conc.woken
    exact (if_pos hm).trans rfl
   rw[e]
   unfold wkW
   rw[if_pos hm]
   exact ⟨h.1,.inl trivial,sg rfl h4⟩
  ·have e:Go.Conc.woken P a a' w1 { G fr cs with status:=.blocked }={ G fr cs with status:=.blocked }:=by
    unfold Go.Conc.woken
    exact if_neg hm
   rw[e]
   unfold wkW
   rw[if_neg hm]
   exact h
end
end Cs
end Go.Proofs.Ytpdemelchhkfaaa
