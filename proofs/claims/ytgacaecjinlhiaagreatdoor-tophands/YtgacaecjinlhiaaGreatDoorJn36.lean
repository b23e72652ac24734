import Derived.Test.YtgacaecjinlhiaaGreatDoorScY
import Derived.Test.YtgacaecjinlhiaaGreatDoorJn35
namespace Go.Proofs.YtgacaecjinlhiaaGreatDoor
section
open Go.RowKit PK Vg
abbrev Rz (α:Type):=Except (Int × Nat) (α × Nat)
def bU {α β:Type} (r:Rz α) (f:α→Nat→Rz β):Rz β:=match r with
 | .ok (x,q)=>f x q
 | .error e=>.error e
def cW {α:Type} (E:Int) (A:Nat) (r:Rz α):Rz α:=if E=0 then r else .error (E,A)
def cF (t:List UInt8) (p:Nat):Rz (List UInt8):=if wE t p=0 then .ok (wrd t p,p+(wrd t p).length+1) else .error (2,wA t p)
def lI (t:List UInt8) (lo hi:Int) (p:Nat):Rz Nat:=bU (cF t p) fun l q=>cW (jq l lo hi) p (.ok (cV 0 l,q))
def Kj (t:List UInt8) (p:Nat):Rz (List UInt8):=bU (cF t p) fun l q=>cW (iz l) p (.ok (l,q))
def eT (t:List UInt8) (p:Nat):Nat→Rz (List Nat)
 | 0=>.ok ([],p)
 | m+1=>bU (eT t p m) fun L q=>bU (lI t 0 25 q) fun x q'=>.ok (L++[x],q')
def Be (t:List UInt8) (p:Nat):Rz (Nat × List Nat):=bU (lI t 1 4 p) fun n q=>bU (eT t q (n*n)) fun L q'=>.ok ((n,L),q')
def uM (l1 l2 l3 l4:List UInt8) (pl:Nat→Int):Gm where
 n:=pcn l1
 wi:=fun r=>knW (pce l1 r)
 nl:=fun r=>(knN (pce l1 r)).length
 no:=fun r i=>((knN (pce l1 r)).getD i 0:Nat)
 rl:=pcn l1
 ri:=xm l3
 sl:=pcn l1
 st:=xm l4
 rf:=miP l2
 pl:=pl
def El (t:List UInt8) (p:Nat):Rz (Nat→Int):=if t.length<p then .ok (Pm.up fun i=>i,p) else bU (cF t p) fun l q=>if l=[124] then .ok (Pm.up fun i=>i,p) else cW (vW l) (p+Ey l) (.ok ((aW l).1,q))
def sL (t:List UInt8) (p:Nat):Rz Gm :=
 bU (cF t p) fun l1 p1=>cW (wsE l1) (wsA l1 p) <| bU (cF t p1) fun l2 p2=>cW (miE l2) p1 <| bU (cF t p2) fun l3 p3=>cW (qM l3 (pcn l1)) p2 <|
 bU (cF t p3) fun l4 p4=>cW (qM l4 (pcn l1)) p3 <| bU (El t p4) fun pl p5=>.ok (uM l1 l2 l3 l4 pl,p5)
def gm0:Gm where
 n:=0
 wi:=fun _ _=>0
 nl:=fun _=>0
 no:=fun _ _=>0
 rl:=0
 ri:=fun _=>0
 sl:=0
 st:=fun _=>0
 rf:=fun _=>0
 pl:=fun _=>0
def sp0 (k n:Nat):Sp where
 k:=k
 n:=n
 key:=⟨#[]⟩
 r:=0
 L:=fun _=>0
 Z:=fun _ _=>0
 g:=gm0
def fD (t:List UInt8) (place p:Nat):Rz Sp:=bU (cF t p) fun l q=>match nmK ⟨l.toArray⟩ with
 | none=>.error (7,p)
 | some (k,n)=>if 64≤place then .error (5,p)
  else if k=1 then bU (lI t 0 25 q) fun x q'=>.ok ({ sp0 k n with n:=x },q')
  else if k=3 then bU (lI t 1 64 q) fun x q'=>.ok ({ sp0 k n with n:=x },q')
  else if k=2∨k=4 then bU (Kj t q) fun x q'=>.ok ({ sp0 k n with key:=⟨x.toArray⟩ },q')
  else if k=5 then bU (Be t q) fun x q'=>.ok ({ sp0 k n with r:=x.1,L:=fun _=>x.1,Z:=fun i j=>(x.2.getD (i*x.1+j) 0:Nat) },q')
  else if k=6 then bU (sL t q) fun x q'=>.ok ({ sp0 k n with g:=x },q')
  else .ok (sp0 k n,q)
def j0 (t:List UInt8):Nat→List Sp→Nat→Rz (List Sp)
 | 0,L,p=>.ok (L,p)
 | f+1,L,p=>if t.length<p then .ok (L,p) else bU (cF t p) fun l q=>if l=[124] then bU (fD t L.length q) fun s q'=>j0 t f (L++[s]) q' else .error (2,p)
def wj (t:List UInt8):Rz (List Sp):=if 65536<t.length then .error (4,0) else bU (fD t 0 0) fun s q=>j0 t 66 [s] q
theorem di {t:List UInt8} {p:Nat} {l:List UInt8} {q:Nat} (h:cF t p=.ok (l,q)):wE t p=0∧l=wrd t p∧q=p+l.length+1∧p≤t.length∧l≠[]∧l.length≤t.length∧q≤t.length+1:=by
 unfold cF at h
 by_cases hE:wE t p=0
 ·rw[if_pos hE] at h
  cases h
  have h1:p≤t.length:=by
   by_cases hp:t.length<p
   ·unfold wE at hE;rw[if_pos hp] at hE;cases hE
   ·omega
  have h2:wrd t p≠[]:=by
   intro e
   unfold wE at hE
   rw[if_neg (by omega),if_pos e] at hE
   cases hE
  have h3:(wrd t p).length≤(t.drop p).length:=by unfold wrd upto;exact (List.takeWhile_sublist _).length_le
  rw[List.length_drop] at h3
  exact ⟨hE,rfl,rfl,h1,h2,by omega,by omega⟩
 ·rw[if_neg hE] at h
  cases h
def Told {α:Type} (r:Rz α) (e:Ending) (ok:α→Nat→Value→Prop):Prop:=match r with
 | .ok (x,q)=>∃v,e=.returned v∧ok x q v
 | .error (E,A)=>e=.panicked [flt E A]
theorem dL (b:Nat) (T:ByteArray) (p:Nat) (w:World) (hr:b8 w b T p) (hs:T.size≤65536):Calls Tryz.prog 40 #[.pointer (some ⟨b,0,none⟩)] w fun e w'=>Told (cF T.data.toList p) e (fun l q v=>v=wdV l p∧b8 w' b T q)∧Fb b w w':=by
 refine Calls.mono (Dn b T p w hr hs) ?_
 rintro e w' ⟨h1,h2,h3⟩
 refine ⟨?_,h3⟩
 unfold cF
 by_cases hE:wE T.data.toList p=0
 ·rw[if_pos hE]
  obtain ⟨h4,h5⟩:=h2 hE
  exact ⟨_,h4,rfl,h5⟩
 ·rw[if_neg hE]
  exact h1 hE
end
section
open Go.RowKit PK Vg
theorem LX:(Tryz.prog.info? 27).map (·.zero)=some (some (.agg (mac (.slice none 0 0) (.slice none 0 0) (.slice none 0 0) (fun _=>0) (fun _=>0)))):=by kernel_rfl
theorem ms0 (a b c c2:Value) (rf pl:Nat→Int):(mac a b c rf pl).setIfInBounds 0 c2=mac c2 b c rf pl:=by simp[mac]
theorem ms1 (a b c c2:Value) (rf pl:Nat→Int):(mac a b c rf pl).setIfInBounds 1 c2=mac a c2 c rf pl:=by simp[mac]
theorem ms2 (a b c c2:Value) (rf pl:Nat→Int):(mac a b c rf pl).setIfInBounds 2 c2=mac a b c2 rf pl:=by simp[mac]
theorem ms3 (a b c:Value) (rf pl rf2:Nat→Int):cx (mac a b c rf pl) 3 (ints 26 rf2).toList=mac a b c rf2 pl:=by
 have hl:(ints 26 rf2).toList.length=26:=by rw[Array.length_toList,ag]
 apply Array.ext_getElem?
 intro i
 rw[cY _ _ _ _ (by rw[hl,aE];omega),hl]
 by_cases h:3≤i∧i<3+26
 ·obtain ⟨j,rfl⟩:∃j,i=3+j:=⟨i-3,by omega⟩
  rw[if_pos h,Nat.add_sub_cancel_left,Array.getElem?_toList,aB _ (by omega),yN _ _ _ _ _ (by omega)]
 ·rw[if_neg h]
  by_cases h0:i<3
  ·have:i=0∨i=1∨i=2:=by omega
   rcases this with rfl | rfl | rfl
   ·rw[dj,dj]
   ·rw[nK,nK]
   ·rw[lR,lR]
  ·by_cases h1:i<55
   ·obtain ⟨j,rfl⟩:∃j,i=29+j:=⟨i-29,by omega⟩
    rw[qP _ _ _ _ _ (by omega),qP _ _ _ _ _ (by omega)]
   ·rw[Array.getElem?_eq_none (by rw[aE];omega),Array.getElem?_eq_none (by rw[aE];omega)]
theorem FG {l:List UInt8} (h:wsE l=0):pcn l≤4:=by
 unfold wsE at h
 by_cases h1:oB (fun k=>knE (pce l k)) (pcn l)≠0
 ·rw[if_pos h1] at h;exact absurd h h1
 ·rw[if_neg h1] at h
  by_cases h2:4<pcn l
  ·rw[if_pos h2] at h;cases h
  ·omega
structure McI (w W:World) (b q:Nat) (T:ByteArray) (p:Nat) (a c d:Value) (rf pl:Nat→Int) (P:World→Prop):Prop where
 res:af W q 27 (mac (.slice none 0 0) (.slice none 0 0) (.slice none 0 0) (fun _=>0) (fun _=>0))
 box:af W (q+1) 27 (mac a c d rf pl)
 rd:b8 W b T p
 fb:Fb b w W
 ne:b<q
 sz:w.heap.size=q
 nw:Nw (q+2) W.heap.size P W
section
variable {w W W':World} {b q:Nat} {T:ByteArray} {p p':Nat} {a c d a' c' d':Value} {rf pl rf' pl':Nat→Int} {P Q:World→Prop}
theorem McI.step (h:McI w W b q T p a c d rf pl P) (hf:Fb b W W') (hr:b8 W' b T p'):McI w W' b q T p' a c d rf pl P:=by
 have hne:=h.ne
 refine ⟨hf.row h.res (by omega),hf.row h.box (by omega),hr,h.fb.trans hf,h.ne,h.sz,?_⟩
 refine (h.nw.mono (Nat.le_refl _) hf.size).keep fun i o x h1 _ h3=>?_
 have:=hf.block i (aA h3) (by omega)
 simp only[World.cell?,this] at h3 ⊢
 exact h3
theorem McI.calm (h:McI w W b q T p a c d rf pl P) (hb:Below W.heap.size W W'):McI w W' b q T p a c d rf pl P:=h.step (Fb.of hb) (af.below h.rd hb (af.lt h.rd))
theorem McI.more (h:McI w W b q T p a c d rf pl P) (hq:Nw (q+2) W.heap.size Q W):McI w W b q T p a c d rf pl (fun W=>P W∧Q W):=⟨h.res,h.box,h.rd,h.fb,h.ne,h.sz,fun W2 h2=>⟨h.nw W2 h2,hq W2 h2⟩⟩
theorem McI.put (h:McI w W b q T p a c d rf pl P) (i:Nat) (v:Value) (hc:(mac a c d rf pl).setIfInBounds i v=mac a' c' d' rf' pl'):McI w (W.setCell ⟨q+1,i,none⟩ v) b q T p a' c' d' rf' pl' P:=by
 have hne:=h.ne
 have hsz:=h.sz
 refine ⟨af.setOther h.res ⟨q+1,i,none⟩ v (by show q≠q+1;omega),?_,af.setOther h.rd ⟨q+1,i,none⟩ v (by show b≠q+1;omega),?_,h.ne,h.sz,?_⟩
 ·rw[←hc];exact af.set h.box i v
 ·exact ⟨h.fb.os,h.fb.tape,h.fb.output,by rw[World.size_setCell];exact h.fb.size,fun k hk hb=>(heap_setCell_other W ⟨q+1,i,none⟩ k v (by show k≠q+1;omega)).trans (h.fb.block k hk hb)⟩
 ·rw[World.size_setCell]
  refine h.nw.keep fun j o x h1 _ h3=>?_
  have:=heap_setCell_other W ⟨q+1,i,none⟩ j v (by show j≠q+1;omega)
  simp only[World.cell?,this] at h3 ⊢
  exact h3
theorem jr {g j:Nat} (hj:j≠g):∀(l:List Value) (o:Nat) (W:World),(W.setCells g o l).heap[j]? = W.heap[j]?
 | [],_,_=>rfl
 | v :: l,o,W=>(jr hj l (o+1) (W.setCell ⟨g,o,none⟩ v)).trans (heap_setCell_other W ⟨g,o,none⟩ j v hj)
theorem McI.lay (h:McI w W b q T p a c d rf pl P) (o:Nat) (l:List Value) (hc:cx (mac a c d rf pl) o l=mac a' c' d' rf' pl'):McI w (W.setCells (q+1) o l) b q T p a' c' d' rf' pl' P:=by
 have hne:=h.ne
 have hsz:=h.sz
 have hB:=cR (B:=q+1) (g:=q+1) (Nat.le_refl _) (l:=l) (o:=o) (Below.refl _ W)
 refine ⟨bu (by omega) h.res,?_,bu (by omega) h.rd,?_,h.ne,h.sz,?_⟩
 ·rw[←hc];exact dK h.box
 ·exact ⟨hB.os.trans h.fb.os,hB.tape.trans h.fb.tape,hB.output.trans h.fb.output,Nat.le_trans h.fb.size hB.size,fun k hk hb=>(jr (by omega) l o W).trans (h.fb.block k hk hb)⟩
 ·refine (h.nw.mono (Nat.le_refl _) hB.size).keep fun j o2 x h1 _ h3=>?_
  have:=jr (g:=q+1) (j:=j) (by omega) l o W
  simp only[World.cell?,this] at h3 ⊢
  exact h3
theorem McI.drew (h:McI w W b q T p a c d rf pl P):McI w W.drew b q T p a c d rf pl P:=⟨h.res,h.box,h.rd,⟨h.fb.os,h.fb.tape,h.fb.output,h.fb.size,h.fb.block⟩,h.ne,h.sz,h.nw⟩
theorem McI.fin (h:McI w W b q T p a c d rf pl P) (MC:Array Value):b8 (W.setRow q MC) b T p∧Fb b w (W.setRow q MC)∧Nw q (W.setRow q MC).heap.size P (W.setRow q MC):=by
 have hne:=h.ne
 have hsz:=h.sz
 have hB:=PK.Below.setRow (Below.refl q W) q (Nat.le_refl _) MC
 refine ⟨af.aX h.rd q MC (by omega),⟨hB.os.trans h.fb.os,hB.tape.trans h.fb.tape,hB.output.trans h.fb.output,Nat.le_trans h.fb.size hB.size,fun k hk hb=>(setRow_other W q k MC (by omega)).trans (h.fb.block k hk hb)⟩,?_⟩
 refine (h.nw.keep fun j o2 x h1 _ h3=>?_).mono (by omega) hB.size
 have:=setRow_other W q j MC (by omega)
 simp only[World.cell?,this] at h3 ⊢
 exact h3
theorem McI.there (h:McI w W b q T p a c d rf pl P) {o n:Nat} (hn:o+n≤55):W.there (q+1) o n:=fun j hj=>by
 have hlt:o+j<(mac a c d rf pl).size:=by rw[aE];omega
 exact ⟨by rw[af.cell h.box (Array.getElem?_eq_getElem hlt)];rfl,af.frozen h.box _⟩
end
end
section
open Go.RowKit PK Vg
theorem rY {t:List UInt8} {p:Nat} {e:Int × Nat} {m:Nat} (he:eT t p m=.error e):∀d,eT t p (m+d)=.error e
 | 0=>he
 | d+1=>by
  show bU (eT t p (m+d)) _=_
  rw[rY he d]
  rfl
theorem sH (L:List Nat) (v i:Nat):(L++[v]).getD i 0=if i=L.length then v else L.getD i 0:=by
 simp only[List.getD]
 by_cases h:i<L.length
 ·rw[if_neg (by omega),List.getElem?_append_left h]
 ·rw[List.getElem?_append_right (by omega)]
  by_cases e:i=L.length
  ·rw[if_pos e,e,Nat.sub_self];rfl
  ·rw[if_neg e,List.getElem?_eq_none (l:=L) (by omega),List.getElem?_eq_none (by simp;omega)]
def mtC (n k:Nat) (G:Nat→Nat):Array Value:=tab n (nZ (fun r=>.slice (some ⟨G r,0,none⟩) n n) (.slice none 0 0) k)
structure MtI (w W:World) (b q n:Nat) (T:ByteArray) (p k:Nat) (G:Nat→Nat) (L:List Nat):Prop where
 box:af W q 23 (mtC n k G)
 rows:∀r,r<k→q<G r∧af W (G r) 3 (ints n fun j=>((L.getD (r*n+j) 0:Nat):Int))
 inj:∀r s,r<s→s<k→G r<G s
 rd:b8 W b T p
 fb:Fb b w W
 ne:b<w.heap.size
 sz:w.heap.size≤q
section
variable {w W W':World} {b q n:Nat} {T:ByteArray} {p p' k:Nat} {G:Nat→Nat} {L:List Nat}
theorem MtI.step (h:MtI w W b q n T p k G L) (hf:Fb b W W') (hr:b8 W' b T p'):MtI w W' b q n T p' k G L:=by
 have hne:=h.ne
 have hsz:=h.sz
 refine ⟨hf.row h.box (by omega),fun r hr=>?_,h.inj,hr,h.fb.trans hf,hne,hsz⟩
 obtain ⟨h1,h2⟩:=h.rows r hr
 exact ⟨h1,hf.row h2 (by omega)⟩
theorem MtI.calm (h:MtI w W b q n T p k G L) (hb:Below W.heap.size W W'):MtI w W' b q n T p k G L:=h.step (Fb.of hb) (af.below h.rd hb (af.lt h.rd))
theorem MtI.drew (h:MtI w W b q n T p k G L):MtI w W.drew b q n T p k G L:=⟨h.box,h.rows,h.inj,h.rd,⟨h.fb.os,h.fb.tape,h.fb.output,h.fb.size,h.fb.block⟩,h.ne,h.sz⟩
theorem MtI.cell (h:MtI w W b q n T p (k+1) G L) (hk:k<n):W.cell? ⟨q,k,none⟩=some (.slice (some ⟨G k,0,none⟩) n n):=by
 have:=af.cell h.box (aR _ hk)
 rw[this]
 unfold nZ
 rw[if_pos (by omega)]
theorem MtI.row (h:MtI w W b q n T p k G L) (hk:k<n) (hL:L.length=k*n):MtI w ((W.setCell ⟨q,k,none⟩ (.slice (some ⟨W.heap.size,0,none⟩) n n)).alloc (.cells (tab n fun _=>.int .i64 0) 3)) b q n T p (k+1) (upd G k W.heap.size) L:=by
 have hne:=h.ne
 have hsz:=h.sz
 have hlt:=af.lt h.box
 have hfz:=h.fb.size
 have hq:W.heap.size=(W.setCell ⟨q,k,none⟩ (.slice (some ⟨W.heap.size,0,none⟩) n n)).heap.size:=by rw[World.size_setCell]
 refine ⟨?_,fun r hr=>?_,fun r s hrs hs=>?_,af.alloc (af.setOther h.rd ⟨q,k,none⟩ _ (by show b≠q;omega)) _,?_,hne,hsz⟩
 ·have:=af.alloc (af.set h.box k (.slice (some ⟨W.heap.size,0,none⟩) n n)) (.cells (tab n fun _=>.int .i64 0) 3)
  unfold mtC at this ⊢
  rw[dw,bT (g:=upd (nZ (fun r=>.slice (some ⟨G r,0,none⟩) n n) (.slice none 0 0) k) k (.slice (some ⟨W.heap.size,0,none⟩) n n)) (g':=nZ (fun r=>.slice (some ⟨upd G k W.heap.size r,0,none⟩) n n) (.slice none 0 0) (k+1)) (fun r _=>?_)] at this
  ·exact this
  ·unfold upd nZ
   by_cases e:r=k
   ·subst e;rw[if_pos rfl,if_pos (by omega)];simp
   ·rw[if_neg e]
    by_cases h2:r<k
    ·rw[if_pos h2,if_pos (by omega)];simp[e]
    ·rw[if_neg h2,if_neg (by omega)]
 ·by_cases e:r=k
  ·subst e
   rw[upd_same]
   refine ⟨hlt,?_⟩
   have:=af.new (W.setCell ⟨q,r,none⟩ (.slice (some ⟨W.heap.size,0,none⟩) n n)) 3 (tab n fun _=>.int .i64 0)
   rw[World.size_setCell,qF] at this
   rw[bO (g:=fun _=>0) (fun j _=>?_)]
   ·rw[qF];exact this
   ·simp only[List.getD]
    rw[List.getElem?_eq_none (by omega)]
    rfl
  ·rw[cj G _ e]
   obtain ⟨h1,h2⟩:=h.rows r (by omega)
   exact ⟨h1,af.alloc (af.setOther h2 ⟨q,k,none⟩ _ (by show G r≠q;omega)) _⟩
 ·rw[cj G _ (show r≠k by omega)]
  by_cases e:s=k
  ·subst e;rw[upd_same];exact af.lt (h.rows r (by omega)).2
  ·rw[cj G _ e];exact h.inj r s hrs (by omega)
 ·have h1:Fb b w (W.setCell ⟨q,k,none⟩ (.slice (some ⟨W.heap.size,0,none⟩) n n)):=⟨h.fb.os,h.fb.tape,h.fb.output,by rw[World.size_setCell];exact h.fb.size,fun i hi hb=>(heap_setCell_other W ⟨q,k,none⟩ i _ (by show i≠q;omega)).trans (h.fb.block i hi hb)⟩
  exact h1.trans (Fb.alloc b _ _)
theorem MtI.put (h:MtI w W b q n T p (k+1) G L) {x v:Nat} (hL:L.length=k*n+x):MtI w (W.setCell ⟨G k,x,none⟩ (.int .i64 ((v:Nat):Int))) b q n T p (k+1) G (L++[v]):=by
 have hne:=h.ne
 have hsz:=h.sz
 obtain ⟨hg1,hg2⟩:=h.rows k (by omega)
 refine ⟨af.setOther h.box ⟨G k,x,none⟩ _ (by show q≠G k;omega),fun r hr=>?_,h.inj,af.setOther h.rd ⟨G k,x,none⟩ _ (by show b≠G k;omega),⟨h.fb.os,h.fb.tape,h.fb.output,by rw[World.size_setCell];exact h.fb.size,fun i hi hb=>(heap_setCell_other W ⟨G k,x,none⟩ i _ (by show i≠G k;omega)).trans (h.fb.block i hi hb)⟩,hne,hsz⟩
 by_cases e:r=k
 ·subst e
  refine ⟨hg1,?_⟩
  have:=af.set hg2 x (.int .i64 ((v:Nat):Int))
  rw[ints_set,bO (g:=fun j=>(((L++[v]).getD (r*n+j) 0:Nat):Int)) (fun j _=>?_)] at this
  ·exact this
  ·rw[sH]
   unfold upd
   by_cases e:j=x
   ·rw[if_pos e,if_pos (by omega)]
   ·rw[if_neg e,if_neg (by omega)]
 ·obtain ⟨h1,h2⟩:=h.rows r hr
  have h3:=h.inj r k (by omega) (by omega)
  refine ⟨h1,?_⟩
  have:=af.setOther h2 ⟨G k,x,none⟩ (.int .i64 ((v:Nat):Int)) (by show G r≠G k;omega)
  rw[bO (g:=fun j=>(((L++[v]).getD (r*n+j) 0:Nat):Int)) (fun j hj=>?_)] at this
  ·exact this
  ·rw[sH,if_neg]
   have:(r+1)*n≤k*n:=Nat.mul_le_mul_right n (by omega)
   rw[Nat.succ_mul] at this
   omega
theorem MtI.fin (h:MtI w W b q n T p n G L) (hn:n≤4):Nw w.heap.size W.heap.size (fun W=>kX W (.slice (some ⟨q,0,none⟩) n n) n (fun _=>n) (fun i j=>((L.getD (i*n+j) 0:Nat):Int))) W:=by
 have hsz:=h.sz
 intro W2 hk
 refine ⟨_,n,fun r=>.slice (some ⟨G r,0,none⟩) n n,rfl,by unfold maxLen;omega,fun r hr=>⟨q,0,rfl,?_⟩,fun r hr=>?_⟩
 ·rw[Nat.zero_add]
  refine hk q r _ hsz (af.lt h.box) ?_
  have:=af.cell h.box (aR _ hr)
  rw[this]
  unfold nZ
  rw[if_pos hr]
 ·obtain ⟨h1,h2⟩:=h.rows r hr
  refine ⟨_,n,rfl,by show n≤maxLen;unfold maxLen;omega,fun c hc=>⟨G r,0,rfl,?_⟩⟩
  rw[Nat.zero_add]
  exact hk (G r) c _ (by omega) (af.lt h2) (af.cell h2 (aB _ hc))
end
theorem fu.fb {b:Nat} {w w':World} (h:fu w) (hf:Fb b w w') (hb:gv<b):fu w':=by
 obtain ⟨ev,h1,h2⟩:=h
 refine ⟨ev,?_,h2⟩
 have:=hf.block gv (World.block_lt_of_cell? _ _ h1) (by omega)
 simp only[World.cell?,this] at h1 ⊢
 exact h1
theorem iE.fb {b:Nat} {w w':World} (h:iE w) (hf:Fb b w w') (hb:1<b):iE w':=by
 refine ⟨fun j v hv=>?_,fun j v hv=>?_⟩
 ·have h1:=h.kn j v hv
  have:=hf.block 0 (World.block_lt_of_cell? _ _ h1) (by omega)
  simp only[World.cell?,this] at h1 ⊢
  exact h1
 ·have h1:=h.tb j v hv
  have:=hf.block 1 (World.block_lt_of_cell? _ _ h1) (by omega)
  simp only[World.cell?,this] at h1 ⊢
  exact h1
end
section
open Go.RowKit PK Vg
section
variable (k n:Int) (key:ByteArray) (mv a b c:Value) (rf pl:Nat→Int)
theorem K2 (x:Int):(spA k n key mv a b c rf pl).setIfInBounds 1 (.int .i64 x)=spA k x key mv a b c rf pl:=by simp[spA]
theorem Kv (x:ByteArray):(spA k n key mv a b c rf pl).setIfInBounds 2 (.string x)=spA k n x mv a b c rf pl:=by simp[spA]
theorem LU (x:Value):(spA k n key mv a b c rf pl).setIfInBounds 3 x=spA k n key x a b c rf pl:=by simp[spA]
theorem LS (a2 b2 c2:Value) (rf2 pl2:Nat→Int):cx (spA k n key mv a b c rf pl) 4 (mac a2 b2 c2 rf2 pl2).toList=spA k n key mv a2 b2 c2 rf2 pl2:=by
 have hl:(mac a2 b2 c2 rf2 pl2).toList.length=55:=by rw[Array.length_toList,aE]
 apply Array.ext_getElem?
 intro i
 rw[cY _ _ _ _ (by rw[hl,aS];omega),hl]
 by_cases h:4≤i∧i<4+55
 ·obtain ⟨j,rfl⟩:∃j,i=4+j:=⟨i-4,by omega⟩
  rw[if_pos h,Nat.add_sub_cancel_left,Array.getElem?_toList,uj]
 ·rw[if_neg h]
  by_cases h0:i<4
  ·have:i=0∨i=1∨i=2∨i=3:=by omega
   rcases this with rfl | rfl | rfl | rfl
   ·rw[wu,wu]
   ·rw[se,se]
   ·rw[rP,rP]
   ·rw[vI,vI]
  ·rw[Array.getElem?_eq_none (by rw[aS];omega),Array.getElem?_eq_none (by rw[aS];omega)]
end
structure StI (w W:World) (b q q6:Nat) (T:ByteArray) (p:Nat) (z c:Array Value) (P:World→Prop):Prop where
 res:af W q 64 z
 box:af W q6 64 c
 rd:b8 W b T p
 fb:Fb b w W
 ne:b<q
 sz:w.heap.size=q
 lt:q<q6
 nw:Nw (q6+1) W.heap.size P W
section
variable {w W W':World} {b q q6:Nat} {T:ByteArray} {p p':Nat} {z c c':Array Value} {P Q:World→Prop}
theorem StI.step (h:StI w W b q q6 T p z c P) (hf:Fb b W W') (hr:b8 W' b T p'):StI w W' b q q6 T p' z c P:=by
 have hne:=h.ne
 have hlt:=h.lt
 refine ⟨hf.row h.res (by omega),hf.row h.box (by omega),hr,h.fb.trans hf,h.ne,h.sz,h.lt,?_⟩
 refine (h.nw.mono (Nat.le_refl _) hf.size).keep fun i o x h1 _ h3=>?_
 have:=hf.block i (aA h3) (by omega)
 simp only[World.cell?,this] at h3 ⊢
 exact h3
theorem StI.calm (h:StI w W b q q6 T p z c P) (hb:Below W.heap.size W W'):StI w W' b q q6 T p z c P:=h.step (Fb.of hb) (af.below h.rd hb (af.lt h.rd))
theorem StI.more (h:StI w W b q q6 T p z c P) (hq:Nw (q6+1) W.heap.size Q W):StI w W b q q6 T p z c Q:=⟨h.res,h.box,h.rd,h.fb,h.ne,h.sz,h.lt,hq⟩
theorem StI.put (h:StI w W b q q6 T p z c P) (i:Nat) (v:Value) (hc:c.setIfInBounds i v=c'):StI w (W.setCell ⟨q6,i,none⟩ v) b q q6 T p z c' P:=by
 have hne:=h.ne
 have hsz:=h.sz
 have hlt:=h.lt
 refine ⟨af.setOther h.res ⟨q6,i,none⟩ v (by show q≠q6;omega),?_,af.setOther h.rd ⟨q6,i,none⟩ v (by show b≠q6;omega),?_,h.ne,h.sz,h.lt,?_⟩
 ·rw[←hc];exact af.set h.box i v
 ·exact ⟨h.fb.os,h.fb.tape,h.fb.output,by rw[World.size_setCell];exact h.fb.size,fun k hk hb=>(heap_setCell_other W ⟨q6,i,none⟩ k v (by show k≠q6;omega)).trans (h.fb.block k hk hb)⟩
 ·rw[World.size_setCell]
  refine h.nw.keep fun j o x h1 _ h3=>?_
  have:=heap_setCell_other W ⟨q6,i,none⟩ j v (by show j≠q6;omega)
  simp only[World.cell?,this] at h3 ⊢
  exact h3
theorem StI.lay (h:StI w W b q q6 T p z c P) (o:Nat) (l:List Value) (hc:cx c o l=c'):StI w (W.setCells q6 o l) b q q6 T p z c' P:=by
 have hne:=h.ne
 have hsz:=h.sz
 have hlt:=h.lt
 have hB:=cR (B:=q6) (g:=q6) (Nat.le_refl _) (l:=l) (o:=o) (Below.refl _ W)
 refine ⟨bu (by omega) h.res,?_,bu (by omega) h.rd,?_,h.ne,h.sz,h.lt,?_⟩
 ·rw[←hc];exact dK h.box
 ·exact ⟨hB.os.trans h.fb.os,hB.tape.trans h.fb.tape,hB.output.trans h.fb.output,Nat.le_trans h.fb.size hB.size,fun k hk hb=>(jr (by omega) l o W).trans (h.fb.block k hk hb)⟩
 ·refine (h.nw.mono (Nat.le_refl _) hB.size).keep fun j o2 x h1 _ h3=>?_
  have:=jr (g:=q6) (j:=j) (by omega) l o W
  simp only[World.cell?,this] at h3 ⊢
  exact h3
theorem StI.fin (h:StI w W b q q6 T p z c P) (MC:Array Value):b8 (W.setRow q MC) b T p∧Fb b w (W.setRow q MC)∧Nw q (W.setRow q MC).heap.size P (W.setRow q MC):=by
 have hne:=h.ne
 have hsz:=h.sz
 have hlt:=h.lt
 have hB:=PK.Below.setRow (Below.refl q W) q (Nat.le_refl _) MC
 refine ⟨af.aX h.rd q MC (by omega),⟨hB.os.trans h.fb.os,hB.tape.trans h.fb.tape,hB.output.trans h.fb.output,Nat.le_trans h.fb.size hB.size,fun k hk hb=>(setRow_other W q k MC (by omega)).trans (h.fb.block k hk hb)⟩,?_⟩
 refine (h.nw.keep fun j o2 x h1 _ h3=>?_).mono (by omega) hB.size
 have:=setRow_other W q j MC (by omega)
 simp only[World.cell?,this] at h3 ⊢
 exact h3
theorem StI.there (h:StI w W b q q6 T p z c P) {o n:Nat} (hn:o+n≤c.size):W.there q6 o n:=fun j hj=>by
 have hlt:o+j<c.size:=by omega
 exact ⟨by rw[af.cell h.box (Array.getElem?_eq_getElem hlt)];rfl,af.frozen h.box _⟩
end
def SlP (mv a b c:Value) (s:Sp) (W:World):Prop:=kX W mv s.r s.L s.Z∧b7 W a s.g.n s.g.wi s.g.nl s.g.no∧aq W b s.g.rl s.g.ri∧aq W c s.g.sl s.g.st
theorem FA {B E:Nat} (k n:Nat) (W:World):Nw B E (SlP (.slice none 0 0) (.slice none 0 0) (.slice none 0 0) (.slice none 0 0) (sp0 k n)) W:=fun _ _ =>
 ⟨⟨none,0,fun _=>undef,rfl,Nat.zero_le _,fun r hr=>absurd hr (Nat.not_lt_zero r),fun r hr=>absurd hr (Nat.not_lt_zero r)⟩,⟨none,0,fun _=>undef,rfl,Nat.zero_le _,fun r hr=>absurd hr (Nat.not_lt_zero r),fun r hr=>absurd hr (Nat.not_lt_zero r)⟩,⟨none,0,rfl,Nat.zero_le _,fun r hr=>absurd hr (Nat.not_lt_zero r)⟩,⟨none,0,rfl,Nat.zero_le _,fun r hr=>absurd hr (Nat.not_lt_zero r)⟩⟩
end
section
open Go.RowKit PK Vg
theorem uL {t:List UInt8} {p m q N:Nat} {L:List Nat} {e:Int × Nat} (h:eT t p m=.ok (L,q)) (hn:lI t 0 25 q=.error e) (hN:m<N):eT t p N=.error e:=by
 have h1:eT t p (m+1)=.error e:=by
  show bU (eT t p m) _=_
  rw[h]
  show bU (lI t 0 25 q) _=_
  rw[hn]
  rfl
 have:=rY h1 (N-(m+1))
 rw[show m+1+(N-(m+1))=N by omega] at this
 exact this
theorem Er {t:List UInt8} {p m q x q':Nat} {L:List Nat} (h:eT t p m=.ok (L,q)) (hn:lI t 0 25 q=.ok (x,q')):eT t p (m+1)=.ok (L++[x],q'):=by
 show bU (eT t p m) _=_
 rw[h]
 show bU (lI t 0 25 q) _=_
 rw[hn]
 rfl
theorem FL {l:List UInt8} {lo hi:Int} (h:jq l lo hi=0):lo≤(cV 0 l:Nat)∧((cV 0 l:Nat):Int)≤hi:=by
 unfold jq at h
 by_cases h1:isNum l=false
 ·rw[if_pos h1] at h;cases h
 ·rw[if_neg h1] at h;exact vD.1 h
set_option maxRecDepth 100000 in
set_option maxHeartbeats 4000000 in
theorem Fx (b:Nat) (T:ByteArray) (p0:Nat) (w:World) (hr:b8 w b T p0) (hs:T.size≤65536) (he:fu w) (hgb:gv<b):Calls Tryz.prog 66 #[.pointer (some ⟨b,0,none⟩)] w fun e w'=>Told (Be T.data.toList p0) e (fun x q v=>Nw w.heap.size w'.heap.size (fun W=>kX W v x.1 (fun _=>x.1) (fun i j=>((x.2.getD (i*x.1+j) 0:Nat):Int))) w'∧b8 w' b T q)∧Fb b w w':=by
 have hbl:=af.lt hr
 have HWD:Hid _:=dL b T p0 w hr hs
 obtain ⟨RR,hRR0⟩:∃RR,RR=Be T.data.toList p0:=⟨_,rfl⟩
 have HRM:Hid (RR=Be T.data.toList p0):=hRR0
 rw[←hRR0]
 clear hRR0 hr
 unfold Be lI at HRM
 have htl:=Pl.aK T
 have HE:Hid (fu w):=he
 clear he
 go_enter Tryz.func66,Tryz.ntmps66
 go_wp2_with fail
 refine Calls.mono HWD.out ?_
 rintro e W1 ⟨ht,hf⟩
 rcases hw1:cF T.data.toList p0 with ⟨E,A⟩ | ⟨l1,p1⟩
 ·rw[hw1] at ht
  obtain rfl:e=.panicked [flt E A]:=ht
  have hRR:RR=.error (E,A):=by have h:=HRM.out;rw[hw1] at h;exact h
  exact ⟨rfl,by rw[hRR];rfl,hf⟩
 rw[hw1] at ht
 obtain ⟨v,rfl,rfl,hrd⟩:=ht
 obtain ⟨-,-,-,hq1,hq2,hq3,hq4⟩:=di hw1
 have HCL:Hid _:=iW l1 p0 1 4 (by omega) hq2 (by omega) W1 (HE.out.fb hf hgb)
 have hrm:=HRM.out
 rw[hw1] at hrm
 change RR=bU (cW _ _ _) _ at hrm
 have HRM1:Hid _:=hrm
 have HF:Hid _:=hf
 have HRD:Hid _:=hrd
 clear HRM HWD hf hrd hrm hw1 hq1 hq2 hq3 hq4
 go_wp2_with fail
 refine Calls.mono HCL.out ?_
 rintro e W2 ⟨hok,hbad,hb⟩
 have HF2:Hid (Fb b w W2):=HF.out.trans (Fb.of hb)
 by_cases hE:¬jq l1 1 4=0
 ·obtain rfl:=hbad hE
  have hRR:RR=.error (jq l1 1 4,p0):=by rw[HRM1.out];unfold cW;rw[if_neg hE];rfl
  exact ⟨rfl,by rw[hRR];rfl,HF2.out⟩
 have hE:=Decidable.not_not.1 hE
 obtain rfl:=hok hE
 have hn:=FL hE
 have hrm:=HRM1.out
 rw[cW,if_pos hE] at hrm
 change RR=bU (eT T.data.toList p1 (cV 0 l1*cV 0 l1)) _ at hrm
 generalize cV 0 l1=n at *
 have HRM:Hid _:=hrm
 have HRD2:Hid (b8 W2 b T p1):=af.below HRD.out hb (af.lt HRD.out)
 clear HRM1 HCL hbad hok hrm hE HRD HF hb
 obtain ⟨hn1,hn4⟩:1≤n∧n≤4:=by omega
 clear hn
 have hmk1:=run_make_row' (P:=Tryz.prog) 62 23 (.slice none 0 0) 24 Tryz.underlying62 vw rfl .i64 .i64 n (by omega) (by omega)
 have hmk2:=run_make_row' (P:=Tryz.prog) 23 3 (.int .i64 0) 8 Tryz.underlying23 yQ rfl .i64 .i64 n (by omega) (by omega)
 rw[EE] at hmk1 hmk2
 have hwz:w.heap.size≤W2.heap.size:=HF2.out.size
 have HI0:Hid (MtI w (W2.alloc (.cells (tab n fun _=>.slice none 0 0) 23)) b W2.heap.size n T p1 0 (fun _=>0) []):=by
  refine ⟨?_,fun r hr=>by omega,fun r s _ hs=>by omega,af.alloc HRD2.out _,HF2.out.trans (Fb.alloc b _ _),hbl,hwz⟩
  have:=af.new W2 23 (tab n fun _=>.slice none 0 0)
  rw[bT (g':=nZ (fun r=>.slice (some ⟨(fun _=>0) r,0,none⟩) n n) (.slice none 0 0) 0) (fun r _=>by simp[nZ])] at this
  exact this
 have HEr:Hid (∀W,Fb b w W→fu W):=fun W hW=>HE.out.fb hW hgb
 clear HE HF2 HRD2
 go_wp2
 go_loopw [12] (fun i W=>∃(y:Nat) (G:Nat→Nat) (L:List Nat) (p:Nat),y≤n∧i=.int .i64 y∧Hid (L.length=y*n∧eT T.data.toList p1 (y*n)=.ok (L,p))∧Hid (MtI w W b W2.heap.size n T p y G L)) (fun i _=>((n:Int)-intOf i).toNat)
 case atStart=>exact ⟨0,fun _=>0,[],p1,by omega,rfl,⟨by simp,by simp[eT]⟩,HI0.out⟩
 case round =>
  clear HI0
  obtain ⟨y,G,L,p,hy,rfl,HL,HI⟩:=hrel
  by_cases hlt:y<n
  ·have ro1:=af.alloc HI.out.box (.cells (tab n fun _=>.int .i64 0) 3)
   have hco:=af.cell ro1 (aR _ hlt)
   have hfo:=af.frozen ro1 y
   have hrow:=HI.out.row hlt HL.out.1
   have hsz2:=af.lt HI.out.box
   obtain ⟨Z1,hZ1⟩:∃Z1,Z1=(wr.setCell ⟨W2.heap.size,y,none⟩ (.slice (some ⟨wr.heap.size,0,none⟩) n n)).alloc (.cells (tab n fun _=>.int .i64 0) 3):=⟨_,rfl⟩
   rw[←hZ1] at hrow
   have hcz:=hrow.cell hlt
   rw[upd_same] at hcz
   have HI1:Hid _:=hrow
   clear hrow ro1 HI
   generalize hGG:upd G y wr.heap.size=G1 at *
   have HGy:Hid (G1 y=wr.heap.size):=by rw[Hid,←hGG,upd_same]
   go_upto_region 6 with fail
   rw[←hZ1]
   clear hZ1 hco hfo
   clear hGG
   generalize wr.heap.size=gy at *
   go_wp2
   go_loopw [26] (fun i W=>∃(x:Nat) (L:List Nat) (p:Nat),x≤n∧i=.int .i64 x∧Hid (L.length=y*n+x∧eT T.data.toList p1 (y*n+x)=.ok (L,p))∧Hid (MtI w W b W2.heap.size n T p (y+1) G1 L)) (fun i _=>((n:Int)-intOf i).toNat)
   case atStart=>exact ⟨0,L,p,by omega,rfl,HL,HI1⟩
   case round =>
    clear hcz HI1 HL
    obtain ⟨x,L,p,hx,rfl,HL,HI⟩:=hrel
    by_cases hxl:x<n
    ·have HID:=HI.out.drew
     have hyx:y*n+x<n*n:=by have h:=Nat.mul_le_mul_right n (show y+1≤n by omega);rw[Nat.succ_mul] at h;omega
     have HWD:Hid _:=dL b T p _ HID.rd hs
     have cz:=HID.cell hlt
     rw[HGy.out] at cz
     go_wp2
     rcases hw:cF T.data.toList p with ⟨E,A⟩ | ⟨l2,p2⟩
     ·rw[hw] at HWD
      have HRR:Hid (RR=.error (E,A)):=by
       rw[Hid,HRM.out,uL HL.out.2 (e:=(E,A)) (by unfold lI;rw[hw];rfl) hyx];rfl
      have HWE:Hid (Calls Tryz.prog 40 #[.pointer (some ⟨b,0,none⟩)] (World.drew _) fun e w'=>e=.panicked [flt E A]∧Fb b _ w'):=HWD.out
      have HFB:Hid _:=HID.fb
      clear HWD hw
      refine wp_region_held_drew (S:=fun W=>W.cell? ⟨W2.heap.size,y,none⟩=some (.slice (some ⟨gy,0,none⟩) n n)) (by kernel_rfl) cz (fun hS=>?_)
      refine aY 0 29 (.slice (some ⟨W2.heap.size,0,none⟩) n n) rfl rfl (by kernel_rfl) (by kernel_rfl) (by kernel_rfl) (fun _ _ _ h=>h) (by rfl) (fun W hW=>by clear hS hW;go_simp) hS ?_
      simp only[zsA,zsB,zsC]
      refine aY 1 30 (.int .i64 (y:Int)) rfl rfl (by kernel_rfl) (by kernel_rfl) (by kernel_rfl) (fun _ _ _ h=>h) (by rfl) (fun W hW=>by clear hS hW;go_simp) hS ?_
      simp only[zsA,zsB,zsC]
      refine aY 2 31 (.pointer (some ⟨W2.heap.size,y,none⟩)) rfl rfl (by kernel_rfl) (by kernel_rfl) (by kernel_rfl) (fun _ _ _ h=>h) (by rfl) (fun W hW=>by clear hS hW;go_simp) hS ?_
      simp only[zsA,zsB,zsC]
      refine aY 3 32 (.slice (some ⟨gy,0,none⟩) n n) rfl rfl (by kernel_rfl) (by kernel_rfl) (by kernel_rfl) (fun _ _ _ h=>h) (by rfl) (fun W hW=>by have u:=hW;clear hS hW;go_simp) hS ?_
      simp only[zsA,zsB,zsC]
      refine aY 4 33 (.int .i64 (x:Int)) rfl rfl (by kernel_rfl) (by kernel_rfl) (by kernel_rfl) (fun _ _ _ h=>h) (by rfl) (fun W hW=>by clear hS hW;go_simp) hS ?_
      simp only[zsA,zsB,zsC]
      refine aY 5 34 (.pointer (some ⟨b,0,none⟩)) rfl rfl (by kernel_rfl) (by kernel_rfl) (by kernel_rfl) (fun _ _ _ h=>h) (by rfl) (fun W hW=>by clear hS hW;go_simp) hS ?_
      simp only[zsA,zsB,zsC]
      refine rd1 6 rfl (fun K hK=>?_)
      go_simp
      refine Calls.mono (HWE.out) ?_
      rintro e Y ⟨rfl,hf⟩
      exact ⟨rfl,by rw[HRR.out];rfl,HFB.out.trans hf⟩
     rw[hw] at HWD
     obtain ⟨-,-,-,hq1,hq2,hq3,hq4⟩:=di hw
     by_cases hE:¬jq l2 0 25=0
     ·have HRR:Hid (RR=.error (jq l2 0 25,p)):=by
       rw[Hid,HRM.out,uL HL.out.2 (e:=(jq l2 0 25,p)) (by unfold lI;rw[hw];show cW _ _ _=_;unfold cW;rw[if_neg hE]) hyx];rfl
      clear hw
      refine wp_region_held_drew (S:=fun W=>W.cell? ⟨W2.heap.size,y,none⟩=some (.slice (some ⟨gy,0,none⟩) n n)) (by kernel_rfl) cz (fun hS=>?_)
      refine aY 0 29 (.slice (some ⟨W2.heap.size,0,none⟩) n n) rfl rfl (by kernel_rfl) (by kernel_rfl) (by kernel_rfl) (fun _ _ _ h=>h) (by rfl) (fun W hW=>by clear hS hW;go_simp) hS ?_
      simp only[zsA,zsB,zsC]
      refine aY 1 30 (.int .i64 (y:Int)) rfl rfl (by kernel_rfl) (by kernel_rfl) (by kernel_rfl) (fun _ _ _ h=>h) (by rfl) (fun W hW=>by clear hS hW;go_simp) hS ?_
      simp only[zsA,zsB,zsC]
      refine aY 2 31 (.pointer (some ⟨W2.heap.size,y,none⟩)) rfl rfl (by kernel_rfl) (by kernel_rfl) (by kernel_rfl) (fun _ _ _ h=>h) (by rfl) (fun W hW=>by clear hS hW;go_simp) hS ?_
      simp only[zsA,zsB,zsC]
      refine aY 3 32 (.slice (some ⟨gy,0,none⟩) n n) rfl rfl (by kernel_rfl) (by kernel_rfl) (by kernel_rfl) (fun _ _ _ h=>h) (by rfl) (fun W hW=>by have u:=hW;clear hS hW;go_simp) hS ?_
      simp only[zsA,zsB,zsC]
      refine aY 4 33 (.int .i64 (x:Int)) rfl rfl (by kernel_rfl) (by kernel_rfl) (by kernel_rfl) (fun _ _ _ h=>h) (by rfl) (fun W hW=>by clear hS hW;go_simp) hS ?_
      simp only[zsA,zsB,zsC]
      refine aY 5 34 (.pointer (some ⟨b,0,none⟩)) rfl rfl (by kernel_rfl) (by kernel_rfl) (by kernel_rfl) (fun _ _ _ h=>h) (by rfl) (fun W hW=>by clear hS hW;go_simp) hS ?_
      simp only[zsA,zsB,zsC]
      refine rd1 6 rfl (fun K hK=>?_)
      go_simp
      refine Calls.mono HWD.out ?_
      rintro e V2 ⟨⟨v,rfl,rfl,hrd⟩,hf⟩
      have HI1:Hid _:=HID.step hf hrd
      refine hK.out _ _ (by have h:=HI1.out.cell hlt;rw[HGy.out] at h;exact h) (fun hS1=>?_)
      clear hK hS K
      have hS:=hS1
      clear hS1
      refine rd1 7 rfl (fun K hK=>?_)
      go_simp
      refine Calls.mono (iW l2 p 0 25 (by omega) hq2 (by omega) V2 (HEr.out _ HI1.out.fb)) ?_
      rintro e X2 ⟨-,hbad,hb⟩
      obtain rfl:=hbad hE
      exact ⟨rfl,by rw[HRR.out];rfl,(HI1.out.calm hb).fb⟩
     have hE:=Decidable.not_not.1 hE
     have HNX:Hid (eT T.data.toList p1 (y*n+x+1)=.ok (L++[cV 0 l2],p2)):=Er HL.out.2 (by unfold lI;rw[hw];show cW _ _ _=_;unfold cW;rw[if_pos hE])
     clear hw
     refine wp_region_noPanic ?_
     refine wp_region_held_drew (S:=fun W=>W.cell? ⟨W2.heap.size,y,none⟩=some (.slice (some ⟨gy,0,none⟩) n n)) (by kernel_rfl) cz (fun hS=>?_)
     refine vtk 0 29 (.slice (some ⟨W2.heap.size,0,none⟩) n n) rfl (fun W hW=>by clear hS hW;go_simp) hS ?_
     simp only[zsA,zsB,zsC]
     refine vtk 1 30 (.int .i64 (y:Int)) rfl (fun W hW=>by clear hS hW;go_simp) hS ?_
     simp only[zsA,zsB,zsC]
     refine vtk 2 31 (.pointer (some ⟨W2.heap.size,y,none⟩)) rfl (fun W hW=>by clear hS hW;go_simp) hS ?_
     simp only[zsA,zsB,zsC]
     refine vtk 3 32 (.slice (some ⟨gy,0,none⟩) n n) rfl (fun W hW=>by have u:=hW;clear hS hW;go_simp) hS ?_
     simp only[zsA,zsB,zsC]
     refine vtk 4 33 (.int .i64 (x:Int)) rfl (fun W hW=>by clear hS hW;go_simp) hS ?_
     simp only[zsA,zsB,zsC]
     refine vtk 5 34 (.pointer (some ⟨b,0,none⟩)) rfl (fun W hW=>by clear hS hW;go_simp) hS ?_
     simp only[zsA,zsB,zsC]
     refine rd1 6 rfl (fun K hK=>?_)
     go_simp
     refine Calls.mono HWD.out ?_
     rintro e V2 ⟨⟨v,rfl,rfl,hrd⟩,hf⟩
     have HI1:Hid _:=HID.step hf hrd
     refine hK.out _ _ (by have h:=HI1.out.cell hlt;rw[HGy.out] at h;exact h) (fun hS1=>?_)
     clear hK hS K
     have hS:=hS1
     clear hS1
     refine rd1 7 rfl (fun K hK=>?_)
     go_simp
     refine Calls.mono (iW l2 p 0 25 (by omega) hq2 (by omega) V2 (HEr.out _ HI1.out.fb)) ?_
     rintro e X2 ⟨hok,-,hb⟩
     obtain rfl:=hok hE
     have HI2:Hid _:=HI1.out.calm hb
     refine hK.out _ _ (by have h:=HI2.out.cell hlt;rw[HGy.out] at h;exact h) (fun hS1=>?_)
     clear hK hS K
     have hS:=hS1
     clear hS1
     generalize cV 0 l2=nv at *
     have hput:=HI2.out.put (x:=x) (v:=nv) HL.out.1
     have hrw:=(HI2.out.rows y (by omega)).2
     rw[HGy.out] at hput hrw
     have hput2:=hput
     have c1:=af.cell hrw (aB _ hxl)
     have f1:=af.frozen hrw x
     refine vtk 8 37 (.pointer (some ⟨gy,x,none⟩)) rfl (fun W hW=>by clear hS hW;go_simp) hS ?_
     simp only[zsA,zsB,zsC]
     refine rd1 9 rfl (fun K hK=>?_)
     go_simp
     refine hK.out _ _ ((by have h:=hput2.cell hlt;rw[HGy.out] at h;exact h)) (fun hS1=>?_)
     clear hK hS K
     have hS:=hS1
     clear hS1
     refine wpAnyH_done (by kernel_rfl) ?_ _
     refine NoPanic.normal ?_
     have HI3:Hid _:=hput
     have HL1:=HL.out.1
     clear HI HI1 HI2 HID HWD hb hE c1 f1 hrd hf hS cz hput hput2 hrw HL
     generalize X2.setCell ⟨gy,x,none⟩ (.int .i64 (nv:Int))=Z3 at *
     go_wp2
     go_roundw
     case rel=>exact ⟨x+1,L++[nv],p2,by omega,by go_num,⟨by rw[List.length_append,HL1];rfl,HNX.out⟩,HI3⟩
     case measure=>simp[intOf];omega
    ·have HN:Hid (x=n):=by rw[Hid];omega
     go_wp2
     go_roundw
     case rel =>
      refine ⟨y+1,G1,L,p,by omega,by go_num,?_,HI⟩
      have h:=HL.out
      rw[HN.out] at h
      rw[Nat.succ_mul]
      exact h
     case measure=>simp[intOf];omega
  ·have HN:Hid (y=n):=by rw[Hid];omega
   go_wp2
   go_ret
   have hI:=HI.out
   have hL:=HL.out
   rw[HN.out] at hI hL
   have hRR:RR=.ok ((n,L),p):=by rw[HRM.out,hL.2];rfl
   exact ⟨by rw[hRR];exact ⟨_,rfl,hI.fin hn4,hI.rd⟩,hI.fb⟩
end
end Go.Proofs.YtgacaecjinlhiaaGreatDoor
