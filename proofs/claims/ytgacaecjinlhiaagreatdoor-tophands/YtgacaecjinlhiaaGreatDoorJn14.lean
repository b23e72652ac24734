import Derived.Test.YtgacaecjinlhiaaGreatDoorJn13
namespace Go.Proofs.YtgacaecjinlhiaaGreatDoor
section
open Go.RowKit PK
end
namespace Pm
def bad (f:Nat→Int) (i:Nat):Int:=if f i<0∨26≤f i then 3 else if (List.range i).any (fun j=>f j==f i) then 8 else 0
def dr (f:Nat→Int):Nat→Int
 | 0=>0
 | n+1=>if dr f n≠0 then dr f n else bad f n
def wrong (f:Nat→Int):Int:=dr f 26
theorem nI (f : Nat → Int) (k n : Nat) (h : dr f k ≠ 0) (hn : k ≤ n) : dr f n = dr f k := by
  induction n with
  | zero => have : k = 0 := by omega
            subst this; rfl
  | succ n ih =>
    by_cases e : k = n + 1
    · rw [e]
    · have := ih (by omega)
      show (if dr f n ≠ 0 then dr f n else bad f n) = _
      rw [this, if_pos h]
theorem fY (f:Nat→Int) (k:Nat) (h:dr f k=0):dr f (k+1)=bad f k:=by
 show (if dr f k≠0 then dr f k else bad f k)=_
 rw[if_neg (by simp[h])]
theorem pK (f:Nat→Int) (k:Nat) (h:dr f k=0) (hb:bad f k≠0) (hk:k<26):wrong f=bad f k:=by
 have h1:=fY f k h
 have:=nI f (k+1) 26 (by rw[h1];exact hb) (by omega)
 unfold wrong
 rw[this,h1]
theorem Bf (f:Nat→Int) (k:Nat) (h:dr f k=0) (hk:k=26):wrong f=0:=by subst hk;exact h
def seen (f:Nat→Int) (k:Nat) (v:Nat):Bool:=(List.range k).any (fun j=>f j==(v:Int))
theorem Ba (f:Nat→Int) (k v:Nat):seen f (k+1) v=(seen f k v || f k==(v:Int)):=by
 simp[seen,List.range_succ,List.any_append]
theorem rR (f:Nat→Int) (i:Nat) (h:f i<0∨26≤f i):bad f i=3:=by simp[bad,h]
theorem FB (f:Nat→Int) (i n:Nat) (h:f i=(n:Int)) (hn:n<26) (hs:seen f i n=true):bad f i=8:=by
 unfold bad
 rw[if_neg (by omega),if_pos (by rw[h];exact hs)]
theorem JE (f:Nat→Int) (i n:Nat) (h:f i=(n:Int)) (hn:n<26) (hs:seen f i n=false):bad f i=0:=by
 unfold bad
 rw[if_neg (by omega),if_neg (by rw[h];simpa [seen] using hs)]
theorem nX (f:Nat→Int):∀n,dr f n=0↔∀i,i<n→bad f i=0
 | 0=>by simp[dr]
 | n+1=>by
  have ih:=nX f n
  constructor
  ·intro h i hi
   by_cases e:dr f n=0
   ·rw[fY f n e] at h
    by_cases e2:i=n
    ·rw[e2];exact h
    ·exact ih.1 e i (by omega)
   ·exact absurd ((nI f n (n+1) e (by omega)).symm.trans h) e
  ·intro h
   rw[fY f n (ih.2 fun i hi=>h i (by omega))]
   exact h n (by omega)
theorem jx (f:Nat→Int) (i:Nat):bad f i=0↔(0≤f i∧f i<26∧∀j,j<i→f j≠f i):=by
 unfold bad
 by_cases h1:f i<0∨26≤f i
 ·rw[if_pos h1]
  constructor
  ·intro h;exact absurd h (by decide)
  ·intro ⟨a,b,_⟩;omega
 ·rw[if_neg h1]
  by_cases h2:(List.range i).any (fun j=>f j==f i)=true
  ·rw[if_pos h2]
   simp at h2
   obtain ⟨j,hj,e⟩:=h2
   constructor
   ·intro h;exact absurd h (by decide)
   ·intro ⟨_,_,c⟩;exact absurd e (c j hj)
  ·rw[if_neg h2]
   simp at h2
   simp only[true_iff]
   exact ⟨by omega,by omega,h2⟩
structure aN (p:Nat→Nat):Prop where
 lt:∀i,i<26→p i<26
 inj:∀i j,i<26→j<26→p i=p j→i=j
def up (p:Nat→Nat):Nat→Int:=fun i=>(p i:Int)
theorem kz (f:Nat→Int):wrong f=0↔∃p,aN p∧∀i,i<26→f i=(p i:Int):=by
 unfold wrong
 rw[nX]
 constructor
 ·intro h
  refine ⟨fun i=>(f i).toNat,⟨fun i hi=>?_,fun i j hi hj e=>?_⟩,fun i hi=>?_⟩
  ·have:=(jx f i).1 (h i hi);show (f i).toNat<26;omega
  ·have h1:=(jx f i).1 (h i hi)
   have h2:=(jx f j).1 (h j hj)
   have e':f i=f j:=by have e:(f i).toNat=(f j).toNat:=e;omega
   rcases Nat.lt_trichotomy i j with c | c | c
   ·exact absurd e' (h2.2.2 i c)
   ·exact c
   ·exact absurd e'.symm (h1.2.2 j c)
  ·have:=(jx f i).1 (h i hi);show f i=((f i).toNat:Int);omega
 ·rintro ⟨p,hp,he⟩ i hi
  rw[jx,he i hi]
  have:=hp.lt i hi
  refine ⟨by omega,by omega,fun j hj=>?_⟩
  rw[he j (by omega)]
  intro e
  have:=hp.inj j i (by omega) hi (by omega)
  omega
theorem lq (p:Nat→Nat) (hp:aN p):wrong (up p)=0:=(kz _).2 ⟨p,hp,fun _ _=>rfl⟩
def bP (fs:Nat→Nat→Int):Nat→Int
 | 0=>0
 | n+1=>if bP fs n≠0 then bP fs n else wrong (fs n)
theorem dV (fs:Nat→Nat→Int) (k:Nat) (h:bP fs k=0):bP fs (k+1)=wrong (fs k):=by
 show (if bP fs k≠0 then bP fs k else wrong (fs k))=_
 rw[if_neg (by simp[h])]
theorem qW (fs : Nat → Nat → Int) (k n : Nat) (h : bP fs k ≠ 0) (hn : k ≤ n) : bP fs n = bP fs k := by
  induction n with
  | zero => have : k = 0 := by omega
            subst this; rfl
  | succ n ih =>
    by_cases e : k = n + 1
    · rw [e]
    · have := ih (by omega)
      show (if bP fs n ≠ 0 then bP fs n else wrong (fs n)) = _
      rw [this, if_pos h]
theorem rD (fs:Nat→Nat→Int) (k n:Nat) (h:bP fs k=0) (hb:wrong (fs k)≠0) (hk:k<n):bP fs n=wrong (fs k):=by
 have h1:=dV fs k h
 rw[qW fs (k+1) n (by rw[h1];exact hb) (by omega),h1]
theorem lP:∀(l m:List Nat),l.Nodup→(∀x ∈ l,x ∈ m)→l.length≤m.length
 | [],_,_,_=>Nat.zero_le _
 | a :: l,m,hd,hs=>by
  have ha:a ∈ m:=hs a (by simp)
  have hd':=List.nodup_cons.1 hd
  have:=lP l (m.erase a) hd'.2 (fun x hx=>by
   have hne:x≠a:=fun e=>hd'.1 (e ▸ hx)
   exact (List.mem_erase_of_ne hne).2 (hs x (by simp[hx])))
  rw[List.length_erase_of_mem ha] at this
  have hpos:0<m.length:=List.length_pos_of_mem ha
  simp
  omega
theorem rI (p:Nat→Nat):∀(l:List Nat),l.Nodup→(∀i ∈ l,∀j ∈ l,p i=p j→i=j)→(l.map p).Nodup
 | [],_,_=>by simp
 | a :: l,hd,hi=>by
  have hd':=List.nodup_cons.1 hd
  rw[List.map_cons,List.nodup_cons]
  refine ⟨?_,rI p l hd'.2 fun i h1 j h2=>hi i (by simp[h1]) j (by simp[h2])⟩
  intro h
  obtain ⟨x,hx,e⟩:=List.mem_map.1 h
  have:=hi x (by simp[hx]) a (by simp) e
  exact hd'.1 (this ▸ hx)
theorem aN.Lp {p:Nat→Nat} (hp:aN p) (j:Nat) (hj:j<26):∃i,i<26∧p i=j:=by
 apply Classical.byContradiction
 intro hn
 have hn':∀i,i<26→p i≠j:=fun i hi e=>hn ⟨i,hi,e⟩
 have h1:=rI p (List.range 26) List.nodup_range (fun i hi k hk e=>hp.inj i k (by simpa using hi) (by simpa using hk) e)
 have h2:=lP _ ((List.range 26).erase j) h1 (fun x hx=>by
  obtain ⟨i,hi,e⟩:=List.mem_map.1 hx
  have hi':i<26:=by simpa using hi
  have hne:x≠j:=by rw[←e];exact hn' i hi'
  exact (List.mem_erase_of_ne hne).2 (by rw[←e];simpa using hp.lt i hi'))
 rw[List.length_erase_of_mem (by simpa using hj)] at h2
 simp at h2
def inv (p:Nat→Nat) (j:Nat):Nat:=((List.range 26).find? fun i=>p i==j).getD 0
theorem aN.fE {p:Nat→Nat} (hp:aN p) (j:Nat) (hj:j<26):inv p j<26∧p (inv p j)=j:=by
 unfold inv
 cases h:(List.range 26).find? fun i=>p i==j with
 | none =>
  obtain ⟨i,hi,e⟩:=hp.Lp j hj
  have:=List.find?_eq_none.1 h i (by simpa using hi)
  simp[e] at this
 | some i =>
  have h1:=List.find?_some h
  have h2:=List.mem_of_find?_eq_some h
  simp at h1 h2
  exact ⟨h2,h1⟩
theorem aN.DY {p:Nat→Nat} (hp:aN p) (i:Nat) (hi:i<26):inv p (p i)=i:=by
 have:=hp.fE (p i) (hp.lt i hi)
 exact hp.inj _ _ this.1 hi this.2
theorem aN.inv {p:Nat→Nat} (hp:aN p):aN (inv p) :=
 ⟨fun i hi=>(hp.fE i hi).1,fun i j hi hj e=>by
  have h1:=(hp.fE i hi).2
  have h2:=(hp.fE j hj).2
  rw[e,h2] at h1
  exact h1.symm⟩
theorem aN.comp {p q:Nat→Nat} (hp:aN p) (hq:aN q):aN (fun i=>q (p i)) :=
 ⟨fun i hi=>hq.lt _ (hp.lt i hi),fun i j hi hj e=>hp.inj i j hi hj (hq.inj _ _ (hp.lt i hi) (hp.lt j hj) e)⟩
theorem aN.id:aN (fun i=>i):=⟨fun _ h=>h,fun _ _ _ _ e=>e⟩
end Pm
namespace Om
open Pm Vg
structure Ma where
 n:Nat
 wi:Nat→Nat→Nat
 no:Nat→List Nat
 ri:Nat→Nat
 st:Nat→Nat
 rf:Nat→Nat
 pl:Nat→Nat
structure Ok (M:Ma):Prop where
 pos:1≤M.n
 most:M.n≤4
 wi:∀i,i<M.n→aN (M.wi i)
 no:∀i,i<M.n→∀k,k ∈ M.no i→k<26
 ri:∀i,i<M.n→M.ri i<26
 st:∀i,i<M.n→M.st i<26
 rf:aN M.rf
 rf2:∀c,c<26→M.rf (M.rf c)=c
 rf1:∀c,c<26→M.rf c≠c
 pl:aN M.pl
 pl2:∀c,c<26→M.pl (M.pl c)=c
def turns (M:Ma) (at':Nat→Nat) (i:Nat):Bool:=i+1==M.n || (M.no (i+1)).contains (at' (i+1)) || (decide (0<i) && (M.no i).contains (at' i))
def step (M:Ma) (at':Nat→Nat):Nat→Nat:=fun i=>if turns M at' i then (at' i+1) % 26 else at' i
def steps (M:Ma) (at':Nat→Nat):Nat→Nat→Nat
 | 0=>at'
 | k+1=>step M (steps M at' k)
def Ks (M:Ma) (at':Nat→Nat):Prop:=∀i,i<M.n→at' i<26
def by' (M:Ma) (at':Nat→Nat) (i:Nat):Nat:=(at' i+26-M.ri i) % 26
theorem zw (M:Ma) (at':Nat→Nat) (i:Nat):by' M at' i<26:=Nat.mod_lt _ (by decide)
def eX (p:Nat→Nat) (b c:Nat):Nat:=(p ((c+b) % 26)+26-b) % 26
theorem Ak (b:Nat):aN fun c=>(c+b) % 26:=⟨fun _ _=>Nat.mod_lt _ (by decide),fun i j hi hj e=>by
 have:(i+b) % 26=(j+b) % 26:=e
 omega⟩
theorem BE {b:Nat} (hb:b<26):aN fun c=>(c+26-b) % 26:=⟨fun _ _=>Nat.mod_lt _ (by decide),fun i j hi hj e=>by
 have:(i+26-b) % 26=(j+26-b) % 26:=e
 omega⟩
theorem wZ {p:Nat→Nat} (hp:aN p) {b:Nat} (hb:b<26):aN (eX p b):=((Ak b).comp hp).comp (BE hb)
def through (M:Ma) (at':Nat→Nat):Nat→Nat→Nat
 | 0,c=>c
 | k+1,c=>eX (M.wi (M.n-1-k)) (by' M at' (M.n-1-k)) (through M at' k c)
theorem lS {M:Ma} (h:Ok M) (at':Nat→Nat):∀k,k≤M.n→aN (through M at' k)
 | 0,_=>aN.id
 | k+1,hk=>(lS h at' k (by omega)).comp (wZ (h.wi _ (by omega)) (zw _ _ _))
def there (M:Ma) (at':Nat→Nat) (c:Nat):Nat:=through M at' M.n (M.pl c)
theorem iJ {M:Ma} (h:Ok M) (at':Nat→Nat):aN (there M at'):=h.pl.comp (lS h at' M.n (Nat.le_refl _))
def now (M:Ma) (at':Nat→Nat) (c:Nat):Nat:=inv (there M at') (M.rf (there M at' c))
theorem lf {M:Ma} (h:Ok M) (at':Nat→Nat):aN (now M at'):=((iJ h at').comp h.rf).comp (iJ h at').inv
theorem JB {M:Ma} (h:Ok M) (at':Nat→Nat) {c:Nat} (hc:c<26):now M at' c≠c:=by
 have hp:=iJ h at'
 have h1:=hp.1 c hc
 have h2:=h.rf.1 _ h1
 intro e
 have h3:=(hp.fE _ h2).2
 have e2:inv (there M at') (M.rf (there M at' c))=c:=e
 rw[e2] at h3
 exact h.rf1 _ h1 h3.symm
theorem xV {p:Nat→Nat} (hp:aN p) {i j:Nat} (hi:i<26) (e:p i=j):inv p j=i:=by rw[←e];exact hp.DY i hi
def gM (M:Ma):Ma:={ M with pl:=fun c=>c }
theorem tq {M:Ma} (h:Ok M):Ok (gM M):=⟨h.pos,h.most,h.wi,h.no,h.ri,h.st,h.rf,h.rf2,h.rf1,aN.id,fun _ _=>rfl⟩
def wr (M:Ma):(Nat→Nat)→List UInt8→List UInt8
 | _,[]=>[]
 | at',c :: l=>ltr (now M (step M at') (Vg.num c)) :: wr M (step M at') l
theorem gV (M:Ma):∀(l:List UInt8) (at':Nat→Nat),(wr M at' l).length=l.length
 | [],_=>rfl
 | _ :: l,at'=>by show (wr M (step M at') l).length+1=l.length+1;rw[gV M l]
theorem D4 {M:Ma} (h:Ok M):∀{l:List UInt8} (at':Nat→Nat),Ls l→Ls (wr M at' l)
 | [],_,_=>fun c hc=>by cases hc
 | a :: l,at',hl=>by
  intro c hc
  rcases List.mem_cons.1 hc with e | e
  ·rw[e];exact JQ ((lf h _).1 _ (mJ (hl a (by simp))))
  ·exact D4 h (step M at') (fun c hc=>hl c (List.mem_cons_of_mem _ hc)) c e
theorem Ik {M:Ma} (h:Ok M):∀{l:List UInt8} (at':Nat→Nat),Ls l→∀i,i<l.length→(wr M at' l).getD i 0≠l.getD i 0
 | a :: l,at',hl,0,_=>by
  have ha:=mJ (hl a (by simp))
  show ltr (now M (step M at') (Vg.num a))≠a
  intro e
  have:=congrArg Vg.num e
  rw[FO ((lf h _).1 _ ha)] at this
  exact JB h _ ha this
 | a :: l,at',hl,i+1,hi=>by
  have:=Ik h (step M at') (fun c hc=>hl c (List.mem_cons_of_mem _ hc)) i (by simpa using hi)
  show (ltr (now M (step M at') (Vg.num a)) :: wr M (step M at') l).getD (i+1) 0≠(a :: l).getD (i+1) 0
  rw[List.getD_cons_succ,List.getD_cons_succ]
  exact this
def J4 (p:Nat→Nat) (l:List UInt8):List UInt8:=l.map fun c=>ltr (p (Vg.num c))
theorem pq (M:Ma):∀k (at':Nat→Nat),steps M (step M at') k=steps M at' (k+1)
 | 0,_=>rfl
 | k+1,at'=>by show step M (steps M (step M at') k)=_;rw[pq M k];rfl
def L3 (M:Ma) (b:Nat):Ma:={ M with no:=fun i=>(M.no i).map fun k=>(k+b) % 26,ri:=fun i=>(M.ri i+b) % 26,st:=fun i=>(M.st i+b) % 26 }
def mv (b:Nat) (at':Nat→Nat):Nat→Nat:=fun i=>(at' i+b) % 26
end Om
section
open Go.RowKit PK
def whl (f:Nat→Int) (R:Value):Array Value:=(ints 26 f).push R
theorem aH (f:Nat→Int) (R:Value):(whl f R).size=27:=by simp[whl,ag]
theorem ff (f:Nat→Int) (R:Value) {i:Nat} (h:i<26):(whl f R)[i]? = some (.int .i64 (f i)):=by
 unfold whl
 rw[Array.getElem?_push,ag,if_neg (by omega),aB f h]
theorem gN (f:Nat→Int) (R:Value):(whl f R)[26]? = some R:=by
 unfold whl
 rw[Array.getElem?_push,ag,if_pos rfl]
theorem Fy {f g:Nat→Int} (h:∀i,i<26→f i=g i) (R:Value):whl f R=whl g R:=by unfold whl;rw[bO h]
def mac (a b c:Value) (rf pl:Nat→Int):Array Value:=#[a,b,c]++ints 26 rf++ints 26 pl
theorem aE (a b c:Value) (rf pl:Nat→Int):(mac a b c rf pl).size=55:=by simp[mac,ag]
theorem dj (a b c:Value) (rf pl:Nat→Int):(mac a b c rf pl)[0]? = some a:=by simp[mac,ag]
theorem nK (a b c:Value) (rf pl:Nat→Int):(mac a b c rf pl)[1]? = some b:=by simp[mac,ag]
theorem lR (a b c:Value) (rf pl:Nat→Int):(mac a b c rf pl)[2]? = some c:=by simp[mac,ag]
theorem yN (a b c:Value) (rf pl:Nat→Int) {i:Nat} (h:i<26):(mac a b c rf pl)[3+i]? = some (.int .i64 (rf i)):=by
 unfold mac
 rw[Array.getElem?_append,if_pos (by simp[ag];omega),Array.getElem?_append,if_neg (by simp)]
 simp[aB rf h]
theorem qP (a b c:Value) (rf pl:Nat→Int) {i:Nat} (h:i<26):(mac a b c rf pl)[29+i]? = some (.int .i64 (pl i)):=by
 unfold mac
 rw[Array.getElem?_append,if_neg (by simp[ag])]
 simp[ag,aB pl h]
theorem FN {rf pl rf2 pl2:Nat→Int} (h1:∀i,i<26→rf i=rf2 i) (h2:∀i,i<26→pl i=pl2 i) (a b c:Value):mac a b c rf pl=mac a b c rf2 pl2:=by unfold mac;rw[bO h1,bO h2]
def b7 (W:World) (v:Value) (n:Nat) (wi:Nat→Nat→Int) (nl:Nat→Nat) (no:Nat→Nat→Int):Prop :=
 ∃(a:Option Addr) (cap:Nat) (R:Nat→Value),v=.slice a n cap∧n≤maxLen∧(∀r,r<n→∃b o,a=some ⟨b,o,none⟩∧W.rangeAt b (o+r*27) (whl (wi r) (R r)).toList)∧∀r,r<n→aq W (R r) (nl r) (no r)
structure Gm where
 n:Nat
 wi:Nat→Nat→Int
 nl:Nat→Nat
 no:Nat→Nat→Int
 rl:Nat
 ri:Nat→Int
 sl:Nat
 st:Nat→Int
 rf:Nat→Int
 pl:Nat→Int
def cE (W:World) (v:Value) (g:Gm):Prop:=∃a b c,v=.agg (mac a b c g.rf g.pl)∧b7 W a g.n g.wi g.nl g.no∧aq W b g.rl g.ri∧aq W c g.sl g.st
theorem bS {w w':World} {b o:Nat} {l:List Value} (h:w.rangeAt b o l) (hb:Below w.heap.size w w'):w'.rangeAt b o l:=fun j v hv=>by
 have:=h j v hv
 exact (hb.cell (p:=⟨b,o+j,none⟩) (aA this)).trans this
theorem b7.below {w w':World} {v:Value} {n:Nat} {wi:Nat→Nat→Int} {nl:Nat→Nat} {no:Nat→Nat→Int} (h:b7 w v n wi nl no) (hb:Below w.heap.size w w'):b7 w' v n wi nl no:=by
 obtain ⟨a,cap,R,h1,h2,h3,h4⟩:=h
 refine ⟨a,cap,R,h1,h2,fun r hr=>?_,fun r hr=>(h4 r hr).below hb⟩
 obtain ⟨b,o,e,hc⟩:=h3 r hr
 exact ⟨b,o,e,bS hc hb⟩
theorem cE.below {w w':World} {v:Value} {g:Gm} (h:cE w v g) (hb:Below w.heap.size w w'):cE w' v g:=by
 obtain ⟨a,b,c,e,h1,h2,h3⟩:=h
 exact ⟨a,b,c,e,h1.below hb,h2.below hb,h3.below hb⟩
def ins (n:Nat) (f:Nat→Int):Bool:=(List.range n).all fun i=>decide (0≤f i∧f i≤25)
theorem lX (n:Nat) (f:Nat→Int):ins n f=true↔∀i,i<n→0≤f i∧f i≤25:=by
 unfold ins
 rw[List.all_eq_true]
 constructor
 ·intro h i hi;simpa using h i (by simpa using hi)
 ·intro h i hi;simpa using h i (by simpa using hi)
def whE (g:Gm):Nat→Int
 | 0=>0
 | k+1=>if whE g k≠0 then whE g k else if Pm.wrong (g.wi k)≠0 then Pm.wrong (g.wi k) else if ins (g.nl k) (g.no k)=true then 0 else 3
def gK (strict:Bool) (f:Nat→Int):Bool:=(List.range 26).all fun i=>decide (f (f i).toNat=(i:Int)) && !(strict && decide (f i=(i:Int)))
theorem qG (strict:Bool) (f:Nat→Int):gK strict f=true↔∀i,i<26→f (f i).toNat=(i:Int)∧(strict=true→f i≠(i:Int)):=by
 unfold gK
 rw[List.all_eq_true]
 constructor
 ·intro h i hi
  have:=h i (by simpa using hi)
  simp at this
  refine ⟨this.1,fun hs=>?_⟩
  rcases this.2 with h1 | h1
  ·rw[hs] at h1;cases h1
  ·exact h1
 ·intro h i hi
  have:=h i (by simpa using hi)
  simp[this.1]
  cases strict
  ·exact .inl rfl
  ·exact .inr (this.2 rfl)
def gE (g:Gm):Int :=
 if g.n<1∨4<g.n then 5 else if whE g g.n≠0 then whE g g.n
 else if g.rl≠g.n then 8 else if ins g.rl g.ri=false then 3
 else if g.sl≠g.n then 8 else if ins g.sl g.st=false then 3
 else if Pm.wrong g.rf≠0 then Pm.wrong g.rf else if gK true g.rf=false then 1
 else if Pm.wrong g.pl≠0 then Pm.wrong g.pl else if gK false g.pl=false then 1 else 0
def gOf (M:Om.Ma):Gm:=⟨M.n,fun r=>Pm.up (M.wi r),fun r=>(M.no r).length,fun r k=>((M.no r).getD k 0:Nat),M.n,fun i=>(M.ri i:Nat),M.n,fun i=>(M.st i:Nat),Pm.up M.rf,Pm.up M.pl⟩
theorem qv {w:World} {v:Value} {n:Nat} {f f2:Nat→Int} (h:aq w v n f) (e:∀i,i<n→f i=f2 i):aq w v n f2:=by
 obtain ⟨a,cap,h1,h2,h3⟩:=h
 refine ⟨a,cap,h1,h2,fun c hc=>?_⟩
 rw[←e c hc]
 exact h3 c hc
theorem vB (g:Gm):∀n,whE g n=0→∀r,r<n→Pm.wrong (g.wi r)=0∧ins (g.nl r) (g.no r)=true
 | 0,_,r,hr=>by omega
 | n+1,h,r,hr=>by
  have h0:whE g n=0:=by
   by_cases e:whE g n=0
   ·exact e
   ·unfold whE at h;rw[if_pos e] at h;exact absurd h e
  unfold whE at h
  rw[if_neg (fun e=>e h0)] at h
  have h1:Pm.wrong (g.wi n)=0:=by
   by_cases e:Pm.wrong (g.wi n)=0
   ·exact e
   ·rw[if_pos e] at h;exact absurd h e
  rw[if_neg (fun e=>e h1)] at h
  have h2:ins (g.nl n) (g.no n)=true:=by
   by_cases e:ins (g.nl n) (g.no n)=true
   ·exact e
   ·rw[if_neg e] at h;cases h
  by_cases e:r=n
  ·rw[e];exact ⟨h1,h2⟩
  ·exact vB g n h0 r (by omega)
theorem zD {g:Gm} (h:gE g=0):(1≤g.n∧g.n≤4)∧whE g g.n=0∧(g.rl=g.n∧ins g.rl g.ri=true)∧(g.sl=g.n∧ins g.sl g.st=true)∧(Pm.wrong g.rf=0∧gK true g.rf=true)∧Pm.wrong g.pl=0∧gK false g.pl=true:=by
 unfold gE at h
 by_cases h1:g.n<1∨4<g.n
 ·rw[if_pos h1] at h;cases h
 rw[if_neg h1] at h
 by_cases h2:whE g g.n≠0
 ·rw[if_pos h2] at h;exact absurd h h2
 rw[if_neg h2] at h
 by_cases h3:g.rl≠g.n
 ·rw[if_pos h3] at h;cases h
 rw[if_neg h3] at h
 by_cases h4:ins g.rl g.ri=false
 ·rw[if_pos h4] at h;cases h
 rw[if_neg h4] at h
 by_cases h5:g.sl≠g.n
 ·rw[if_pos h5] at h;cases h
 rw[if_neg h5] at h
 by_cases h6:ins g.sl g.st=false
 ·rw[if_pos h6] at h;cases h
 rw[if_neg h6] at h
 by_cases h7:Pm.wrong g.rf≠0
 ·rw[if_pos h7] at h;exact absurd h h7
 rw[if_neg h7] at h
 by_cases h8:gK true g.rf=false
 ·rw[if_pos h8] at h;cases h
 rw[if_neg h8] at h
 by_cases h9:Pm.wrong g.pl≠0
 ·rw[if_pos h9] at h;exact absurd h h9
 rw[if_neg h9] at h
 by_cases h10:gK false g.pl=false
 ·rw[if_pos h10] at h;cases h
 exact ⟨⟨by omega,by omega⟩,Decidable.not_not.1 h2,⟨Decidable.not_not.1 h3,by simpa using h4⟩,⟨Decidable.not_not.1 h5,by simpa using h6⟩,⟨Decidable.not_not.1 h7,by simpa using h8⟩,Decidable.not_not.1 h9,by simpa using h10⟩
end
section
open Go.RowKit PK
theorem aj:(Tryz.prog.info? 25).map (·.size)=some 26:=by kernel_rfl
theorem lU:(Tryz.prog.info? 3).map (·.size)=some 1:=by kernel_rfl
theorem Fg (f:Nat→Int) (k n:Nat) (h:f k=(n:Int)):jo 26 (upd (Pm.seen f k) n true)=jo 26 (Pm.seen f (k+1)):=As fun i _=>by
 rw[Pm.Ba,h]
 by_cases e:i=n
 ·subst e;simp
 ·rw[cj _ _ e]
  have:(n:Int)≠(i:Int):=by omega
  simp[this]
set_option maxHeartbeats 1000000 in
theorem mK (f:Nat→Int) (w:World):Calls Tryz.prog 90 #[.agg (ints 26 f)] w fun e w'=>e=.returned (.int .i64 (Pm.wrong f))∧Below w.heap.size w w':=by
 go_enter Tryz.func90,Tryz.ntmps90
 go_wp2_with (refine wpList_load_row rfl 25 _ rfl w.heap.size rfl 25 (ints 26 f) (0,0) _ ((af.new w _ _).alloc _) Tryz.underlying25 rfl (by rw[ag];exact aj) ?_)
 rw[Ji]
 go_loopw [7] (fun i W=>∃k:Nat,k≤26∧i=.int .i64 k∧Hid (Pm.dr f k=0)∧af W (w.heap.size+1) 149 (jo 26 (Pm.seen f k))∧Below w.heap.size w W) (fun i _=>(26-intOf i).toNat)
 case atStart =>
  refine ⟨0,by omega,rfl,rfl,?_,((Below.refl _ _).alloc (Nat.le_refl _) _).alloc (by simp) _⟩
  have:=af.new (w.alloc (Obj.cells (ints 26 f) 25)) 149 (jo 26 fun x=>false)
  rw[World.size_alloc] at this
  exact this
 case round =>
  obtain ⟨k,hk,rfl,HN,hrow,hb⟩:=hrel
  by_cases hlt:k<26
  ·have hg:=jf 25 3 26 Tryz.underlying25 Tryz.underlying3 lU f k hlt
   by_cases hr:f k<0∨26≤f k
   ·have H:Hid (Pm.wrong f=3):=by rw[Hid,Pm.pK f k HN.out (by rw[Pm.rR f k hr];decide) hlt,Pm.rR f k hr]
    rcases hr with hr | hr
    ·go_wp2
     go_ret
     exact ⟨dx H.out.symm,hb⟩
    ·have hr0:¬f k<0:=by omega
     go_wp2
     go_ret
     exact ⟨dx H.out.symm,hb⟩
   ·obtain ⟨n,hn⟩:∃n:Nat,f k=n:=⟨(f k).toNat,by omega⟩
    have hn26:n<26:=by omega
    have HM:Hid (f k=n):=hn
    rw[hn] at hg
    clear hr hn
    have hc:=hrow.cell (Bj (Pm.seen f k) hn26)
    have hf:=hrow.frozen n
    cases hs:Pm.seen f k n
    ·rw[hs] at hc
     have HS:Hid (Pm.seen f k n=false):=hs
     clear hs
     go_wp2
     go_roundw
     case rel =>
      refine ⟨k+1,by omega,by go_num,?_,?_,?_⟩
      ·rw[Hid,Pm.fY f k HN.out,Pm.JE f k n HM.out hn26 HS.out]
      ·rw[←Fg f k n HM.out,←A4]
       exact hrow.set n _
      ·exact hb.setCell (by simp) _
     case measure=>simp[intOf];omega
    ·rw[hs] at hc
     have HS:Hid (Pm.wrong f=8):=by
      have h8:=Pm.FB f k n HM.out hn26 hs
      rw[Hid,Pm.pK f k HN.out (by rw[h8];decide) hlt,h8]
     clear hs
     go_wp2
     go_ret
     exact ⟨dx HS.out.symm,hb⟩
  ·have HK:Hid (k=26):=by rw[Hid];omega
   go_wp2
   go_ret
   exact ⟨dx (Pm.Bf f k HN.out HK.out).symm,hb⟩
end
namespace PK
open Go.RowKit
def lay (n:Nat) (g:Nat→Value) (o:Nat) (f:Nat→Int):Nat→Value:=fun i=>if o≤i∧i<o+n then .int .i64 (f (i-o)) else g i
theorem gQ (N:Nat) (off:Nat):∀(l:List Value) (s:Nat) (g:Nat→Value),(l.zipIdx s).foldl (fun cs x=>cs.setIfInBounds (off+x.2) x.1) (tab N g)=tab N fun i=>if off+s≤i∧i<off+s+l.length then l.getD (i-(off+s)) (.bool false) else g i
 | [],s,g=>by
  simp only[List.zipIdx_nil,List.foldl_nil,List.length_nil]
  exact bT fun i _=>by rw[if_neg (by omega)]
 | v :: l,s,g=>by
  simp only[List.zipIdx_cons,List.foldl_cons]
  rw[dw,gQ N off l (s+1)]
  refine bT fun i _=>?_
  by_cases h1:i=off+s
  ·subst h1
   rw[if_neg (by omega),if_pos (by simp)]
   simp
  ·by_cases h2:off+s≤i∧i<off+s+(v :: l).length
   ·have h3:off+(s+1)≤i∧i<off+(s+1)+l.length:=by simp at h2;omega
    rw[if_pos h3,if_pos h2]
    obtain ⟨j,hj⟩:∃j,i-(off+s)=j+1:=⟨i-(off+s)-1,by omega⟩
    have hj':i-(off+(s+1))=j:=by omega
    rw[hj,hj']
    simp
   ·rw[if_neg (by simp at h2;omega),if_neg h2]
    simp[upd,h1]
theorem oq (n:Nat) (f:Nat→Int):(ints n f).toList=(List.range n).map fun i=>.int .i64 (f i):=by simp[ints,tab]
theorem nk (n N:Nat) (g:Nat→Value) (k:Nat) (f:Nat→Int) (rest:List (Nat × Value)) (h:k*n+n≤N) :
  Instr.fill (fun i=>some (i*n,n)) (tab N g) ((k,.agg (ints n f)) :: rest)=Instr.fill (fun i=>some (i*n,n)) (tab N (lay n g (k*n) f)) rest:=by
 rw[Instr.fill]
 have h0:(Value.agg (ints n f)).cells=ints n f:=rfl
 simp only[h0,ag,bG]
 rw[if_neg (by simp <;> omega)]
 congr 1
 rw[←Array.foldl_toList,Array.toList_zipIdx]
 have:=gQ N (k*n) (ints n f).toList 0 g
 rw[this]
 refine bT fun i _=>?_
 rw[oq]
 simp only[List.length_map,List.length_range,Nat.add_zero,lay]
 by_cases e:k*n≤i∧i<k*n+n
 ·rw[if_pos e,if_pos e]
  have:i-k*n<n:=by omega
  simp[List.getD,this]
 ·rw[if_neg e,if_neg e]
theorem jN (N:Nat) (h:Nat→Value):(Array.range N).map h=tab N h:=by
 apply Array.ext_getElem?
 intro i
 by_cases h1:i<N
 ·simp[tab,h1]
 ·simp[tab,h1]
section
variable {P:Program}
theorem yh (w:World) (t e:TypeId) (n:Nat) (hn:n*2≤2 ^ 24) (hu:P.underlying t=some (.slice e)) (hz:(P.info? e).map (fun i=>(i.zero,i.size))=some (some (.agg (ints n fun _=>0)),n)) (h0:0<n) (f:Nat→Int) :
  (Instr.buildSlice t 1 #[(0,.agg (ints n f))]).run P w=.ok (.slice (some ⟨w.heap.size,0,none⟩) 1 1) (w.alloc (.cells (ints n f) e)):=by
 obtain ⟨hz1,hz2⟩:=zero_of_info hz
 cases hq:P.info? e with
 | none=>simp[hq] at hz
 | some i =>
  have hs:i.size=n:=by simpa [hq] using hz2
  have hsz:∀W,(sizeOf e).run P W=.ok n W:=fun W=>by simp[sizeOf,typeInfo,hq,hs]
  have hlay:tab n (lay n (fun x=>(ints n fun _=>0)[x % n]!) (0*n) f)=ints n f:=bT fun i hi=>by
   unfold lay
   rw[if_pos (by omega)]
   simp
  have hfill:=nk n n (fun x=>(ints n fun _=>0)[x % n]!) 0 f [] (by omega)
  rw[hlay] at hfill
  have hfill':=hfill.trans (rfl:_=some (ints n f))
  have h3:¬(n > 2 ^ 24):=by omega
  have h4:¬(n=0):=by omega
  have hc:(Value.agg (ints n fun _=>0)).cells=ints n fun _=>0:=rfl
  simp only[Instr.buildSlice,Sem.run_bind,run_underlying hu,Result.andThen_ok,hsz,Nat.one_mul,h3,h4,if_false,hz1,Sem.run_pure,hc,ag,jN,hfill']
  simp[newRow]
theorem yO (w:World) (t e:TypeId) (n:Nat) (hn:n*2≤2 ^ 24) (hu:P.underlying t=some (.slice e)) (hz:(P.info? e).map (fun i=>(i.zero,i.size))=some (some (.agg (ints n fun _=>0)),n)) (h0:0<n) (f g:Nat→Int) :
  (Instr.buildSlice t 2 #[(0,.agg (ints n f)),(1,.agg (ints n g))]).run P w=.ok (.slice (some ⟨w.heap.size,0,none⟩) 2 2) (w.alloc (.cells (ints (2*n) fun i=>if i<n then f i else g (i-n)) e)):=by
 obtain ⟨hz1,hz2⟩:=zero_of_info hz
 cases hq:P.info? e with
 | none=>simp[hq] at hz
 | some i =>
  have hs:i.size=n:=by simpa [hq] using hz2
  have hsz:∀W,(sizeOf e).run P W=.ok n W:=fun W=>by simp[sizeOf,typeInfo,hq,hs]
  have hlay:tab (2*n) (lay n (lay n (fun x=>(ints n fun _=>0)[x % n]!) (0*n) f) (1*n) g)=ints (2*n) fun i=>if i<n then f i else g (i-n):=bT fun i hi=>by
   unfold lay
   by_cases e:i<n
   ·rw[if_neg (by omega),if_pos (by omega)];simp[e]
   ·rw[if_pos (by omega)];simp[e]
  have hfill:=nk n (2*n) (fun x=>(ints n fun _=>0)[x % n]!) 0 f [(1,.agg (ints n g))] (by omega)
  rw[nk n (2*n) _ 1 g [] (by omega),hlay] at hfill
  have hfill':=hfill.trans (rfl:_=some (ints (2*n) fun i=>if i<n then f i else g (i-n)))
  have h3:¬(2*n > 2 ^ 24):=by omega
  have h4:¬(2*n=0):=by omega
  have hc:(Value.agg (ints n fun _=>0)).cells=ints n fun _=>0:=rfl
  simp only[Instr.buildSlice,Sem.run_bind,run_underlying hu,Result.andThen_ok,hsz,h3,h4,if_false,hz1,Sem.run_pure,hc,ag,jN,hfill']
  simp[newRow]
theorem cP {ops:Array Oper} {rest:List Oper} {op:Oper} {a:Act} {w:World} {Q:Exit→Act→World→Prop} (hgd:op.guard=none) (t:TypeId) (ho:op.op=.build t #[])
  (cells:Array Value) (hb:P.built t []=some cells) (h:wpList P ops Q rest (a.put op.dst (.agg cells)) w):wpList P ops Q (op :: rest) a w :=
 wpList_plain hgd fun _ hK=>by
  unfold Oper.wp execOp
  have hm:(#[]:Array (Nat × Operand)).map (fun (i,x)=>(i,a.eval x))=#[]:=by simp
  simp only[ho,Sem.run_bind,hm,run_build w t #[] cells hb,Result.andThen_ok]
  exact hK _ _ h
theorem j5 {ops:Array Oper} {rest:List Oper} {op:Oper} {a:Act} {w:World} {Q:Exit→Act→World→Prop} (hgd:op.guard=none) (t e:TypeId) (x:Operand) (ho:op.op=.buildSlice t 1 #[(0,x)])
  (n:Nat) (f:Nat→Int) (hx:a.eval x=.agg (ints n f)) (hn:n*2≤2 ^ 24) (hu:P.underlying t=some (.slice e)) (hz:(P.info? e).map (fun i=>(i.zero,i.size))=some (some (.agg (ints n fun _=>0)),n)) (h0:0<n)
  (h:wpList P ops Q rest (a.put op.dst (.slice (some ⟨w.heap.size,0,none⟩) 1 1)) (w.alloc (.cells (ints n f) e))):wpList P ops Q (op :: rest) a w :=
 wpList_plain hgd fun _ hK=>by
  unfold Oper.wp execOp
  have hm:(#[(0,x)]:Array (Nat × Operand)).map (fun (i,x)=>(i,a.eval x))=#[(0,.agg (ints n f))]:=by simp[hx]
  simp only[ho,Sem.run_bind,hm,yh w t e n hn hu hz h0 f,Result.andThen_ok]
  exact hK _ _ h
theorem qU {ops:Array Oper} {rest:List Oper} {op:Oper} {a:Act} {w:World} {Q:Exit→Act→World→Prop} (hgd:op.guard=none) (t e:TypeId) (x y:Operand) (ho:op.op=.buildSlice t 2 #[(0,x),(1,y)])
  (n:Nat) (f g:Nat→Int) (hx:a.eval x=.agg (ints n f)) (hy:a.eval y=.agg (ints n g)) (hn:n*2≤2 ^ 24) (hu:P.underlying t=some (.slice e)) (hz:(P.info? e).map (fun i=>(i.zero,i.size))=some (some (.agg (ints n fun _=>0)),n)) (h0:0<n)
  (h:wpList P ops Q rest (a.put op.dst (.slice (some ⟨w.heap.size,0,none⟩) 2 2)) (w.alloc (.cells (ints (2*n) fun i=>if i<n then f i else g (i-n)) e))):wpList P ops Q (op :: rest) a w :=
 wpList_plain hgd fun _ hK=>by
  unfold Oper.wp execOp
  have hm:(#[(0,x),(1,y)]:Array (Nat × Operand)).map (fun (i,x)=>(i,a.eval x))=#[(0,.agg (ints n f)),(1,.agg (ints n g))]:=by simp[hx,hy]
  simp only[ho,Sem.run_bind,hm,yO w t e n hn hu hz h0 f g,Result.andThen_ok]
  exact hK _ _ h
end
theorem aG {P:Program} {fn:Func} {p q:Tmp} {ty:TypeId} (h:fn.results=#[.cell p ty,.tmp q]) (tmps:Array Value) (w:World) (g:Nat) (t:TypeId) (cs:Array Value) (fr:Nat × Nat) (d:TypeDesc) (v:Value)
  (hp:tmps.getD p undef=.pointer (some ⟨g,0,none⟩)) (hv:tmps.getD q undef=v) (hg:w.heap[g]? = some (.cells cs t fr))
  (hu:P.underlying ty=some d) (hd:(match d with | .struct _ | .array _ _=>true | _=>false)=true) (hi:(P.info? ty).map (·.size)=some cs.size) :
  (results fn tmps).run P w=.ok (.tuple #[.agg cs,v]) w:=by
 have hp':tmps[p]?.getD undef=.pointer (some ⟨g,0,none⟩):=by simpa using hp
 have hv':tmps[q]?.getD undef=v:=by simpa using hv
 simp[results,h,hp',hv',asAddr,run_loadVar_row w g t ty cs fr d hg hu hd hi]
theorem range_one {w:World} {b:Nat} {T:TypeId} {f:Nat→Int} (h:af w b T (ints 26 f)):∀k,k<1→w.rangeAt b (k*26) (ints 26 f).toList:=fun k hk=>by
 have:k=0:=by omega
 subst this
 exact h.range
theorem Ac {w:World} {b:Nat} {T:TypeId} {f g:Nat→Int} (h:af w b T (ints (2*26) fun i=>if i<26 then f i else g (i-26))):∀k,k<2→w.rangeAt b (k*26) (ints 26 (if k=0 then f else g)).toList:=fun k hk j v hv=>by
 have hj:j<26:=by
  have:=(List.getElem?_eq_some_iff.1 hv).1
  simpa [ag] using this
 have hv':(ints 26 (if k=0 then f else g))[j]? = some v:=by simpa using hv
 rw[aB _ hj] at hv'
 have hc:=h.cell (aB (n:=2*26) (fun i=>if i<26 then f i else g (i-26)) (i:=k*26+j) (by omega))
 rw[hc,←hv']
 rcases (by omega:k=0∨k=1) with rfl | rfl
 ·simp[hj]
 ·simp
  intro h5
  omega
theorem Jw {w W1:World} {T:TypeId} {f g z c:Nat→Int} {n:Nat} (hb:Below ((((w.alloc (.cells (ints 26 f) T)).alloc (.cells (ints 26 g) T)).alloc (.cells (ints 26 z) T)).alloc (.cells (ints n c) T)).heap.size ((((w.alloc (.cells (ints 26 f) T)).alloc (.cells (ints 26 g) T)).alloc (.cells (ints 26 z) T)).alloc (.cells (ints n c) T)) W1) :
  af W1 w.heap.size T (ints 26 f)∧af W1 (w.heap.size+1) T (ints 26 g)∧af W1 (w.heap.size+1+1) T (ints 26 z)∧Below w.heap.size w W1∧w.heap.size+4≤W1.heap.size:=by
 have hs:=hb.size
 simp at hs
 refine ⟨af.below (((af.new w _ _).alloc _).alloc _ |>.alloc _) hb (by simp <;> omega),af.below ?_ hb (by simp <;> omega),af.below ?_ hb (by simp),?_,hs⟩
 ·have:=af.new (w.alloc (.cells (ints 26 f) T)) T (ints 26 g)
  rw[World.size_alloc] at this
  exact (this.alloc _).alloc _
 ·have:=af.new ((w.alloc (.cells (ints 26 f) T)).alloc (.cells (ints 26 g) T)) T (ints 26 z)
  rw[World.size_alloc,World.size_alloc] at this
  exact this.alloc _
 ·exact ((((((Below.refl _ _).alloc (Nat.le_refl _) _).alloc (by simp) _).alloc (by simp <;> omega) _).alloc (by simp <;> omega) _).trans (hb.mono (by simp <;> omega)))
theorem JW {w W1:World} {T:TypeId} {f z c:Nat→Int} {n:Nat} (hb:Below (((w.alloc (.cells (ints 26 f) T)).alloc (.cells (ints 26 z) T)).alloc (.cells (ints n c) T)).heap.size (((w.alloc (.cells (ints 26 f) T)).alloc (.cells (ints 26 z) T)).alloc (.cells (ints n c) T)) W1) :
  af W1 w.heap.size T (ints 26 f)∧af W1 (w.heap.size+1) T (ints 26 z)∧Below w.heap.size w W1∧w.heap.size+3≤W1.heap.size:=by
 have hs:=hb.size
 simp at hs
 refine ⟨af.below (((af.new w _ _).alloc _).alloc _) hb (by simp <;> omega),af.below ?_ hb (by simp),?_,hs⟩
 ·have:=af.new (w.alloc (.cells (ints 26 f) T)) T (ints 26 z)
  rw[World.size_alloc] at this
  exact this.alloc _
 ·exact (((((Below.refl _ _).alloc (Nat.le_refl _) _).alloc (by simp) _).alloc (by simp <;> omega) _).trans (hb.mono (by simp <;> omega)))
theorem af.newAt {w:World} {b:Nat} {T:TypeId} {c:Array Value} (h:b=w.heap.size):af (w.alloc (.cells c T)) b T c:=by subst h;exact af.new _ _ _
end PK
end Go.Proofs.YtgacaecjinlhiaaGreatDoor
