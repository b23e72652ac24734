/-
  Several texts, joined: PMath, OMath, OKit, PWrong.
-/
import Derived.WalkKit
import Derived.Test.YtkohhdkkbaifoaaGreatDoorJn2
import Derived.Test.YtkohhdkkbaifoaaGreatDoorJn1
import Derived.Deep.MidRow
import Derived.Test.YtkohhdkkbaifoaaGreatDoorChecked
/-
  Plain mathematics of no program: what is wrong with 26 numbers.
-/
namespace Go.Proofs.YtkohhdkkbaifoaaGreatDoor.Pm

def bad (f:Nat→Int) (i:Nat):Int:=if f i<0∨26≤f i then 3 else if (List.range i).any (fun j=>f j==f i) then 8 else 0
def wrongN (f:Nat→Int):Nat→Int
 | 0=>0
 | n+1=>if wrongN f n≠0 then wrongN f n else bad f n
def wrong (f:Nat→Int):Int:=wrongN f 26
theorem wrongN_keep (f : Nat → Int) (k n : Nat) (h : wrongN f k ≠ 0) (hn : k ≤ n) : wrongN f n = wrongN f k := by
  induction n with
  | zero => have : k = 0 := by omega
            subst this; rfl
  | succ n ih =>
    by_cases e : k = n + 1
    · rw [e]
    · have := ih (by omega)
      show (if wrongN f n ≠ 0 then wrongN f n else bad f n) = _
      rw [this, if_pos h]
theorem wrongN_succ (f:Nat→Int) (k:Nat) (h:wrongN f k=0):wrongN f (k+1)=bad f k:=by
 show (if wrongN f k≠0 then wrongN f k else bad f k)=_
 rw[if_neg (by simp[h])]
theorem wrong_stop (f:Nat→Int) (k:Nat) (h:wrongN f k=0) (hb:bad f k≠0) (hk:k<26):wrong f=bad f k:=by
 have h1:=wrongN_succ f k h
 have:=wrongN_keep f (k+1) 26 (by rw[h1];exact hb) (by omega)
 unfold wrong
 rw[this,h1]
theorem wrong_end (f:Nat→Int) (k:Nat) (h:wrongN f k=0) (hk:k=26):wrong f=0:=by subst hk;exact h
def seen (f:Nat→Int) (k:Nat) (v:Nat):Bool:=(List.range k).any (fun j=>f j==(v:Int))
theorem seen_succ (f:Nat→Int) (k v:Nat):seen f (k+1) v=(seen f k v || f k==(v:Int)):=by
 simp[seen,List.range_succ,List.any_append]
theorem bad_range (f:Nat→Int) (i:Nat) (h:f i<0∨26≤f i):bad f i=3:=by simp[bad,h]
theorem bad_fit (f:Nat→Int) (i n:Nat) (h:f i=(n:Int)) (hn:n<26) (hs:seen f i n=true):bad f i=8:=by
 unfold bad
 rw[if_neg (by omega),if_pos (by rw[h];exact hs)]
theorem bad_ok (f:Nat→Int) (i n:Nat) (h:f i=(n:Int)) (hn:n<26) (hs:seen f i n=false):bad f i=0:=by
 unfold bad
 rw[if_neg (by omega),if_neg (by rw[h];simpa [seen] using hs)]
theorem wrongN_zero (f:Nat→Int):∀n,wrongN f n=0↔∀i,i<n→bad f i=0
 | 0=>by simp[wrongN]
 | n+1=>by
  have ih:=wrongN_zero f n
  constructor
  ·intro h i hi
   by_cases e:wrongN f n=0
   ·rw[wrongN_succ f n e] at h
    by_cases e2:i=n
    ·rw[e2];exact h
    ·exact ih.1 e i (by omega)
   ·exact absurd ((wrongN_keep f n (n+1) e (by omega)).symm.trans h) e
  ·intro h
   rw[wrongN_succ f n (ih.2 fun i hi=>h i (by omega))]
   exact h n (by omega)
theorem bad_zero (f:Nat→Int) (i:Nat):bad f i=0↔(0≤f i∧f i<26∧∀j,j<i→f j≠f i):=by
 unfold bad
 by_cases h1:f i<0∨26≤f i
 ·rw[if_pos h1]
  constructor
  ·intro h;exact absurd h (by decide)
  ·intro ⟨a,b,_⟩;omega
 ·rw[if_neg h1]
  by_cases h2:(List.range i).any (fun j=>f j==f i)=true
  ·rw[if_pos h2]
   simp at h2
   obtain ⟨j,hj,e⟩:=h2
   constructor
   ·intro h;exact absurd h (by decide)
   ·intro ⟨_,_,c⟩;exact absurd e (c j hj)
  ·rw[if_neg h2]
   simp at h2
   simp only[true_iff]
   exact ⟨by omega,by omega,h2⟩
structure IsPerm (p:Nat→Nat):Prop where
 lt:∀i,i<26→p i<26
 inj:∀i j,i<26→j<26→p i=p j→i=j
def up (p:Nat→Nat):Nat→Int:=fun i=>(p i:Int)
theorem wrong_zero (f:Nat→Int):wrong f=0↔∃p,IsPerm p∧∀i,i<26→f i=(p i:Int):=by
 unfold wrong
 rw[wrongN_zero]
 constructor
 ·intro h
  refine ⟨fun i=>(f i).toNat,⟨fun i hi=>?_,fun i j hi hj e=>?_⟩,fun i hi=>?_⟩
  ·have:=(bad_zero f i).1 (h i hi);show (f i).toNat<26;omega
  ·have h1:=(bad_zero f i).1 (h i hi)
   have h2:=(bad_zero f j).1 (h j hj)
   have e':f i=f j:=by have e:(f i).toNat=(f j).toNat:=e;omega
   rcases Nat.lt_trichotomy i j with c | c | c
   ·exact absurd e' (h2.2.2 i c)
   ·exact c
   ·exact absurd e'.symm (h1.2.2 j c)
  ·have:=(bad_zero f i).1 (h i hi);show f i=((f i).toNat:Int);omega
 ·rintro ⟨p,hp,he⟩ i hi
  rw[bad_zero,he i hi]
  have:=hp.lt i hi
  refine ⟨by omega,by omega,fun j hj=>?_⟩
  rw[he j (by omega)]
  intro e
  have:=hp.inj j i (by omega) hi (by omega)
  omega
theorem wrong_up (p:Nat→Nat) (hp:IsPerm p):wrong (up p)=0:=(wrong_zero _).2 ⟨p,hp,fun _ _=>rfl⟩
def firstBad (fs:Nat→Nat→Int):Nat→Int
 | 0=>0
 | n+1=>if firstBad fs n≠0 then firstBad fs n else wrong (fs n)
theorem firstBad_succ (fs:Nat→Nat→Int) (k:Nat) (h:firstBad fs k=0):firstBad fs (k+1)=wrong (fs k):=by
 show (if firstBad fs k≠0 then firstBad fs k else wrong (fs k))=_
 rw[if_neg (by simp[h])]
theorem firstBad_keep (fs : Nat → Nat → Int) (k n : Nat) (h : firstBad fs k ≠ 0) (hn : k ≤ n) : firstBad fs n = firstBad fs k := by
  induction n with
  | zero => have : k = 0 := by omega
            subst this; rfl
  | succ n ih =>
    by_cases e : k = n + 1
    · rw [e]
    · have := ih (by omega)
      show (if firstBad fs n ≠ 0 then firstBad fs n else wrong (fs n)) = _
      rw [this, if_pos h]
theorem firstBad_stop (fs:Nat→Nat→Int) (k n:Nat) (h:firstBad fs k=0) (hb:wrong (fs k)≠0) (hk:k<n):firstBad fs n=wrong (fs k):=by
 have h1:=firstBad_succ fs k h
 rw[firstBad_keep fs (k+1) n (by rw[h1];exact hb) (by omega),h1]
theorem nodup_le:∀(l m:List Nat),l.Nodup→(∀x ∈ l,x ∈ m)→l.length≤m.length
 | [],_,_,_=>Nat.zero_le _
 | a :: l,m,hd,hs=>by
  have ha:a ∈ m:=hs a (by simp)
  have hd':=List.nodup_cons.1 hd
  have:=nodup_le l (m.erase a) hd'.2 (fun x hx=>by
   have hne:x≠a:=fun e=>hd'.1 (e ▸ hx)
   exact (List.mem_erase_of_ne hne).2 (hs x (by simp[hx])))
  rw[List.length_erase_of_mem ha] at this
  have hpos:0<m.length:=List.length_pos_of_mem ha
  simp
  omega
theorem nodup_map (p:Nat→Nat):∀(l:List Nat),l.Nodup→(∀i ∈ l,∀j ∈ l,p i=p j→i=j)→(l.map p).Nodup
 | [],_,_=>by simp
 | a :: l,hd,hi=>by
  have hd':=List.nodup_cons.1 hd
  rw[List.map_cons,List.nodup_cons]
  refine ⟨?_,nodup_map p l hd'.2 fun i h1 j h2=>hi i (by simp[h1]) j (by simp[h2])⟩
  intro h
  obtain ⟨x,hx,e⟩:=List.mem_map.1 h
  have:=hi x (by simp[hx]) a (by simp) e
  exact hd'.1 (this ▸ hx)
theorem IsPerm.surj {p:Nat→Nat} (hp:IsPerm p) (j:Nat) (hj:j<26):∃i,i<26∧p i=j:=by
 apply Classical.byContradiction
 intro hn
 have hn':∀i,i<26→p i≠j:=fun i hi e=>hn ⟨i,hi,e⟩
 have h1:=nodup_map p (List.range 26) List.nodup_range (fun i hi k hk e=>hp.inj i k (by simpa using hi) (by simpa using hk) e)
 have h2:=nodup_le _ ((List.range 26).erase j) h1 (fun x hx=>by
  obtain ⟨i,hi,e⟩:=List.mem_map.1 hx
  have hi':i<26:=by simpa using hi
  have hne:x≠j:=by rw[←e];exact hn' i hi'
  exact (List.mem_erase_of_ne hne).2 (by rw[←e];simpa using hp.lt i hi'))
 rw[List.length_erase_of_mem (by simpa using hj)] at h2
 simp at h2
def inv (p:Nat→Nat) (j:Nat):Nat:=((List.range 26).find? fun i=>p i==j).getD 0
theorem IsPerm.inv_spec {p:Nat→Nat} (hp:IsPerm p) (j:Nat) (hj:j<26):inv p j<26∧p (inv p j)=j:=by
 unfold inv
 cases h:(List.range 26).find? fun i=>p i==j with
 | none =>
  obtain ⟨i,hi,e⟩:=hp.surj j hj
  have:=List.find?_eq_none.1 h i (by simpa using hi)
  simp[e] at this
 | some i =>
  have h1:=List.find?_some h
  have h2:=List.mem_of_find?_eq_some h
  simp at h1 h2
  exact ⟨h2,h1⟩
theorem IsPerm.inv_left {p:Nat→Nat} (hp:IsPerm p) (i:Nat) (hi:i<26):inv p (p i)=i:=by
 have:=hp.inv_spec (p i) (hp.lt i hi)
 exact hp.inj _ _ this.1 hi this.2
theorem IsPerm.inv {p:Nat→Nat} (hp:IsPerm p):IsPerm (inv p) :=
 ⟨fun i hi=>(hp.inv_spec i hi).1,fun i j hi hj e=>by
  have h1:=(hp.inv_spec i hi).2
  have h2:=(hp.inv_spec j hj).2
  rw[e,h2] at h1
  exact h1.symm⟩
theorem IsPerm.comp {p q:Nat→Nat} (hp:IsPerm p) (hq:IsPerm q):IsPerm (fun i=>q (p i)) :=
 ⟨fun i hi=>hq.lt _ (hp.lt i hi),fun i j hi hj e=>hp.inj i j hi hj (hq.inj _ _ (hp.lt i hi) (hp.lt j hj) e)⟩
theorem IsPerm.id:IsPerm (fun i=>i):=⟨fun _ h=>h,fun _ _ _ _ e=>e⟩
end Go.Proofs.YtkohhdkkbaifoaaGreatDoor.Pm

/-
  The machine with wheels: the mathematics.
-/
namespace Go.Proofs.YtkohhdkkbaifoaaGreatDoor.Om
open Pm Vg

structure Ma where
 n:Nat
 wi:Nat→Nat→Nat
 no:Nat→List Nat
 ri:Nat→Nat
 st:Nat→Nat
 rf:Nat→Nat
 pl:Nat→Nat
structure Ok (M:Ma):Prop where
 pos:1≤M.n
 most:M.n≤4
 wi:∀i,i<M.n→IsPerm (M.wi i)
 no:∀i,i<M.n→∀k,k ∈ M.no i→k<26
 ri:∀i,i<M.n→M.ri i<26
 st:∀i,i<M.n→M.st i<26
 rf:IsPerm M.rf
 rf2:∀c,c<26→M.rf (M.rf c)=c
 rf1:∀c,c<26→M.rf c≠c
 pl:IsPerm M.pl
 pl2:∀c,c<26→M.pl (M.pl c)=c
def turns (M:Ma) (at':Nat→Nat) (i:Nat):Bool:=i+1==M.n || (M.no (i+1)).contains (at' (i+1)) || (decide (0<i) && (M.no i).contains (at' i))
def step (M:Ma) (at':Nat→Nat):Nat→Nat:=fun i=>if turns M at' i then (at' i+1) % 26 else at' i
def steps (M:Ma) (at':Nat→Nat):Nat→Nat→Nat
 | 0=>at'
 | k+1=>step M (steps M at' k)
def In26 (M:Ma) (at':Nat→Nat):Prop:=∀i,i<M.n→at' i<26
theorem In26.step {M:Ma} {at':Nat→Nat} (h:In26 M at'):In26 M (step M at'):=fun i hi=>by
 unfold Om.step
 by_cases ht:turns M at' i
 ·rw[if_pos ht];exact Nat.mod_lt _ (by decide)
 ·rw[if_neg ht];exact h i hi
theorem In26.steps {M:Ma} {at':Nat→Nat} (h:In26 M at'):∀k,In26 M (steps M at' k)
 | 0=>h
 | k+1=>(In26.steps h k).step
def by' (M:Ma) (at':Nat→Nat) (i:Nat):Nat:=(at' i+26-M.ri i) % 26
theorem by_lt (M:Ma) (at':Nat→Nat) (i:Nat):by' M at' i<26:=Nat.mod_lt _ (by decide)
def wheel (p:Nat→Nat) (b c:Nat):Nat:=(p ((c+b) % 26)+26-b) % 26
theorem turn_perm (b:Nat):IsPerm fun c=>(c+b) % 26:=⟨fun _ _=>Nat.mod_lt _ (by decide),fun i j hi hj e=>by
 have:(i+b) % 26=(j+b) % 26:=e
 omega⟩
theorem back_turn {b:Nat} (hb:b<26):IsPerm fun c=>(c+26-b) % 26:=⟨fun _ _=>Nat.mod_lt _ (by decide),fun i j hi hj e=>by
 have:(i+26-b) % 26=(j+26-b) % 26:=e
 omega⟩
theorem wheel_perm {p:Nat→Nat} (hp:IsPerm p) {b:Nat} (hb:b<26):IsPerm (wheel p b):=((turn_perm b).comp hp).comp (back_turn hb)
def through (M:Ma) (at':Nat→Nat):Nat→Nat→Nat
 | 0,c=>c
 | k+1,c=>wheel (M.wi (M.n-1-k)) (by' M at' (M.n-1-k)) (through M at' k c)
theorem through_perm {M:Ma} (h:Ok M) (at':Nat→Nat):∀k,k≤M.n→IsPerm (through M at' k)
 | 0,_=>IsPerm.id
 | k+1,hk=>(through_perm h at' k (by omega)).comp (wheel_perm (h.wi _ (by omega)) (by_lt _ _ _))
def there (M:Ma) (at':Nat→Nat) (c:Nat):Nat:=through M at' M.n (M.pl c)
theorem there_perm {M:Ma} (h:Ok M) (at':Nat→Nat):IsPerm (there M at'):=h.pl.comp (through_perm h at' M.n (Nat.le_refl _))
def now (M:Ma) (at':Nat→Nat) (c:Nat):Nat:=inv (there M at') (M.rf (there M at' c))
theorem now_perm {M:Ma} (h:Ok M) (at':Nat→Nat):IsPerm (now M at'):=((there_perm h at').comp h.rf).comp (there_perm h at').inv
theorem inv_unique {p:Nat→Nat} (hp:IsPerm p) {i j:Nat} (hi:i<26) (e:p i=j):inv p j=i:=by rw[←e];exact hp.inv_left i hi
def wr (M:Ma):(Nat→Nat)→List UInt8→List UInt8
 | _,[]=>[]
 | at',c :: l=>ltr (now M (step M at') (Vg.num c)) :: wr M (step M at') l
theorem wr_length (M:Ma):∀(l:List UInt8) (at':Nat→Nat),(wr M at' l).length=l.length
 | [],_=>rfl
 | _ :: l,at'=>by show (wr M (step M at') l).length+1=l.length+1;rw[wr_length M l]
theorem wr_ls {M:Ma} (h:Ok M):∀{l:List UInt8} (at':Nat→Nat),Ls l→Ls (wr M at' l)
 | [],_,_=>fun c hc=>by cases hc
 | a :: l,at',hl=>by
  intro c hc
  rcases List.mem_cons.1 hc with e | e
  ·rw[e];exact ltr_ok ((now_perm h _).1 _ (num_lt (hl a (by simp))))
  ·exact wr_ls h (step M at') (fun c hc=>hl c (List.mem_cons_of_mem _ hc)) c e
def plug (p:Nat→Nat) (l:List UInt8):List UInt8:=l.map fun c=>ltr (p (Vg.num c))
theorem steps_step (M:Ma):∀k (at':Nat→Nat),steps M (step M at') k=steps M at' (k+1)
 | 0,_=>rfl
 | k+1,at'=>by show step M (steps M (step M at') k)=_;rw[steps_step M k];rfl
def moved (M:Ma) (b:Nat):Ma:={ M with no:=fun i=>(M.no i).map fun k=>(k+b) % 26,ri:=fun i=>(M.ri i+b) % 26,st:=fun i=>(M.st i+b) % 26 }
def mv (b:Nat) (at':Nat→Nat):Nat→Nat:=fun i=>(at' i+b) % 26
end Go.Proofs.YtkohhdkkbaifoaaGreatDoor.Om

/-
  A machine as an argument: its cells, and what lies behind its slices.
-/
namespace Go.Proofs.YtkohhdkkbaifoaaGreatDoor
open Go.RowKit PK

def whl (f:Nat→Int) (R:Value):Array Value:=(ints 26 f).push R
theorem whl_size (f:Nat→Int) (R:Value):(whl f R).size=27:=by simp[whl,ints_size]
theorem whl_get (f:Nat→Int) (R:Value) {i:Nat} (h:i<26):(whl f R)[i]? = some (.int .i64 (f i)):=by
 unfold whl
 rw[Array.getElem?_push,ints_size,if_neg (by omega),ints_get f h]
theorem whl_last (f:Nat→Int) (R:Value):(whl f R)[26]? = some R:=by
 unfold whl
 rw[Array.getElem?_push,ints_size,if_pos rfl]
theorem whl_ext {f g:Nat→Int} (h:∀i,i<26→f i=g i) (R:Value):whl f R=whl g R:=by unfold whl;rw[ints_ext h]
def mac (a b c:Value) (rf pl:Nat→Int):Array Value:=#[a,b,c]++ints 26 rf++ints 26 pl
theorem mac_size (a b c:Value) (rf pl:Nat→Int):(mac a b c rf pl).size=55:=by simp[mac,ints_size]
theorem mac_0 (a b c:Value) (rf pl:Nat→Int):(mac a b c rf pl)[0]? = some a:=by simp[mac,ints_size]
theorem mac_1 (a b c:Value) (rf pl:Nat→Int):(mac a b c rf pl)[1]? = some b:=by simp[mac,ints_size]
theorem mac_2 (a b c:Value) (rf pl:Nat→Int):(mac a b c rf pl)[2]? = some c:=by simp[mac,ints_size]
theorem mac_rf (a b c:Value) (rf pl:Nat→Int) {i:Nat} (h:i<26):(mac a b c rf pl)[3+i]? = some (.int .i64 (rf i)):=by
 unfold mac
 rw[Array.getElem?_append,if_pos (by simp[ints_size];omega),Array.getElem?_append,if_neg (by simp)]
 simp[ints_get rf h]
theorem mac_pl (a b c:Value) (rf pl:Nat→Int) {i:Nat} (h:i<26):(mac a b c rf pl)[29+i]? = some (.int .i64 (pl i)):=by
 unfold mac
 rw[Array.getElem?_append,if_neg (by simp[ints_size])]
 simp[ints_size,ints_get pl h]
theorem mac_ext {rf pl rf2 pl2:Nat→Int} (h1:∀i,i<26→rf i=rf2 i) (h2:∀i,i<26→pl i=pl2 i) (a b c:Value):mac a b c rf pl=mac a b c rf2 pl2:=by unfold mac;rw[ints_ext h1,ints_ext h2]
def WheelsAt (W:World) (v:Value) (n:Nat) (wi:Nat→Nat→Int) (nl:Nat→Nat) (no:Nat→Nat→Int):Prop :=
 ∃(a:Option Addr) (cap:Nat) (R:Nat→Value),v=.slice a n cap∧n≤maxLen∧(∀r,r<n→∃b o,a=some ⟨b,o,none⟩∧W.rangeAt b (o+r*27) (whl (wi r) (R r)).toList)∧∀r,r<n→NumsAt W (R r) (nl r) (no r)
structure Gm where
 n:Nat
 wi:Nat→Nat→Int
 nl:Nat→Nat
 no:Nat→Nat→Int
 rl:Nat
 ri:Nat→Int
 sl:Nat
 st:Nat→Int
 rf:Nat→Int
 pl:Nat→Int
def MacAt (W:World) (v:Value) (g:Gm):Prop:=∃a b c,v=.agg (mac a b c g.rf g.pl)∧WheelsAt W a g.n g.wi g.nl g.no∧NumsAt W b g.rl g.ri∧NumsAt W c g.sl g.st
theorem rangeAt_below {w w':World} {b o:Nat} {l:List Value} (h:w.rangeAt b o l) (hb:Below w.heap.size w w'):w'.rangeAt b o l:=fun j v hv=>by
 have:=h j v hv
 exact (hb.cell (p:=⟨b,o+j,none⟩) (cell_block this)).trans this
theorem WheelsAt.below {w w':World} {v:Value} {n:Nat} {wi:Nat→Nat→Int} {nl:Nat→Nat} {no:Nat→Nat→Int} (h:WheelsAt w v n wi nl no) (hb:Below w.heap.size w w'):WheelsAt w' v n wi nl no:=by
 obtain ⟨a,cap,R,h1,h2,h3,h4⟩:=h
 refine ⟨a,cap,R,h1,h2,fun r hr=>?_,fun r hr=>(h4 r hr).below hb⟩
 obtain ⟨b,o,e,hc⟩:=h3 r hr
 exact ⟨b,o,e,rangeAt_below hc hb⟩
theorem WheelsAt.alloc {w:World} {v:Value} {n:Nat} {wi:Nat→Nat→Int} {nl:Nat→Nat} {no:Nat→Nat→Int} (h:WheelsAt w v n wi nl no) (o:Obj):WheelsAt (w.alloc o) v n wi nl no:=h.below ((Below.refl _ _).alloc (Nat.le_refl _) _)
theorem MacAt.below {w w':World} {v:Value} {g:Gm} (h:MacAt w v g) (hb:Below w.heap.size w w'):MacAt w' v g:=by
 obtain ⟨a,b,c,e,h1,h2,h3⟩:=h
 exact ⟨a,b,c,e,h1.below hb,h2.below hb,h3.below hb⟩
theorem MacAt.alloc {w:World} {v:Value} {g:Gm} (h:MacAt w v g) (o:Obj):MacAt (w.alloc o) v g:=h.below ((Below.refl _ _).alloc (Nat.le_refl _) _)
def ins (n:Nat) (f:Nat→Int):Bool:=(List.range n).all fun i=>decide (0≤f i∧f i≤25)
theorem ins_iff (n:Nat) (f:Nat→Int):ins n f=true↔∀i,i<n→0≤f i∧f i≤25:=by
 unfold ins
 rw[List.all_eq_true]
 constructor
 ·intro h i hi;simpa using h i (by simpa using hi)
 ·intro h i hi;simpa using h i (by simpa using hi)
def whE (g:Gm):Nat→Int
 | 0=>0
 | k+1=>if whE g k≠0 then whE g k else if Pm.wrong (g.wi k)≠0 then Pm.wrong (g.wi k) else if ins (g.nl k) (g.no k)=true then 0 else 3
def undo (strict:Bool) (f:Nat→Int):Bool:=(List.range 26).all fun i=>decide (f (f i).toNat=(i:Int)) && !(strict && decide (f i=(i:Int)))
theorem undo_iff (strict:Bool) (f:Nat→Int):undo strict f=true↔∀i,i<26→f (f i).toNat=(i:Int)∧(strict=true→f i≠(i:Int)):=by
 unfold undo
 rw[List.all_eq_true]
 constructor
 ·intro h i hi
  have:=h i (by simpa using hi)
  simp at this
  refine ⟨this.1,fun hs=>?_⟩
  rcases this.2 with h1 | h1
  ·rw[hs] at h1;cases h1
  ·exact h1
 ·intro h i hi
  have:=h i (by simpa using hi)
  simp[this.1]
  cases strict
  ·exact .inl rfl
  ·exact .inr (this.2 rfl)
def gE (g:Gm):Int :=
 if g.n<1∨4<g.n then 5 else if whE g g.n≠0 then whE g g.n
 else if g.rl≠g.n then 8 else if ins g.rl g.ri=false then 3
 else if g.sl≠g.n then 8 else if ins g.sl g.st=false then 3
 else if Pm.wrong g.rf≠0 then Pm.wrong g.rf else if undo true g.rf=false then 1
 else if Pm.wrong g.pl≠0 then Pm.wrong g.pl else if undo false g.pl=false then 1 else 0
def gOf (M:Om.Ma):Gm:=⟨M.n,fun r=>Pm.up (M.wi r),fun r=>(M.no r).length,fun r k=>((M.no r).getD k 0:Nat),M.n,fun i=>(M.ri i:Nat),M.n,fun i=>(M.st i:Nat),Pm.up M.rf,Pm.up M.pl⟩
theorem nums_ext {w:World} {v:Value} {n:Nat} {f f2:Nat→Int} (h:NumsAt w v n f) (e:∀i,i<n→f i=f2 i):NumsAt w v n f2:=by
 obtain ⟨a,cap,h1,h2,h3⟩:=h
 refine ⟨a,cap,h1,h2,fun c hc=>?_⟩
 rw[←e c hc]
 exact h3 c hc
theorem whE_zero (g:Gm):∀n,whE g n=0→∀r,r<n→Pm.wrong (g.wi r)=0∧ins (g.nl r) (g.no r)=true
 | 0,_,r,hr=>by omega
 | n+1,h,r,hr=>by
  have h0:whE g n=0:=by
   by_cases e:whE g n=0
   ·exact e
   ·unfold whE at h;rw[if_pos e] at h;exact absurd h e
  unfold whE at h
  rw[if_neg (fun e=>e h0)] at h
  have h1:Pm.wrong (g.wi n)=0:=by
   by_cases e:Pm.wrong (g.wi n)=0
   ·exact e
   ·rw[if_pos e] at h;exact absurd h e
  rw[if_neg (fun e=>e h1)] at h
  have h2:ins (g.nl n) (g.no n)=true:=by
   by_cases e:ins (g.nl n) (g.no n)=true
   ·exact e
   ·rw[if_neg e] at h;cases h
  by_cases e:r=n
  ·rw[e];exact ⟨h1,h2⟩
  ·exact whE_zero g n h0 r (by omega)
theorem gE_zero {g:Gm} (h:gE g=0):(1≤g.n∧g.n≤4)∧whE g g.n=0∧(g.rl=g.n∧ins g.rl g.ri=true)∧(g.sl=g.n∧ins g.sl g.st=true)∧(Pm.wrong g.rf=0∧undo true g.rf=true)∧Pm.wrong g.pl=0∧undo false g.pl=true:=by
 unfold gE at h
 by_cases h1:g.n<1∨4<g.n
 ·rw[if_pos h1] at h;cases h
 rw[if_neg h1] at h
 by_cases h2:whE g g.n≠0
 ·rw[if_pos h2] at h;exact absurd h h2
 rw[if_neg h2] at h
 by_cases h3:g.rl≠g.n
 ·rw[if_pos h3] at h;cases h
 rw[if_neg h3] at h
 by_cases h4:ins g.rl g.ri=false
 ·rw[if_pos h4] at h;cases h
 rw[if_neg h4] at h
 by_cases h5:g.sl≠g.n
 ·rw[if_pos h5] at h;cases h
 rw[if_neg h5] at h
 by_cases h6:ins g.sl g.st=false
 ·rw[if_pos h6] at h;cases h
 rw[if_neg h6] at h
 by_cases h7:Pm.wrong g.rf≠0
 ·rw[if_pos h7] at h;exact absurd h h7
 rw[if_neg h7] at h
 by_cases h8:undo true g.rf=false
 ·rw[if_pos h8] at h;cases h
 rw[if_neg h8] at h
 by_cases h9:Pm.wrong g.pl≠0
 ·rw[if_pos h9] at h;exact absurd h h9
 rw[if_neg h9] at h
 by_cases h10:undo false g.pl=false
 ·rw[if_pos h10] at h;cases h
 exact ⟨⟨by omega,by omega⟩,Decidable.not_not.1 h2,⟨Decidable.not_not.1 h3,by simpa using h4⟩,⟨Decidable.not_not.1 h5,by simpa using h6⟩,⟨Decidable.not_not.1 h7,by simpa using h8⟩,Decidable.not_not.1 h9,by simpa using h10⟩
end Go.Proofs.YtkohhdkkbaifoaaGreatDoor

/-
  Contract of perm.Wrong.
-/
namespace Go.Proofs.YtkohhdkkbaifoaaGreatDoor
open Go.RowKit PK

theorem info_perm:(Tryz.prog.info? 27).map (·.size)=some 26:=by kernel_rfl
theorem info_int:(Tryz.prog.info? 3).map (·.size)=some 1:=by kernel_rfl

theorem met_step (f:Nat→Int) (k n:Nat) (h:f k=(n:Int)):bools 26 (upd (Pm.seen f k) n true)=bools 26 (Pm.seen f (k+1)):=bools_ext fun i _=>by
 rw[Pm.seen_succ,h]
 by_cases e:i=n
 ·subst e;simp
 ·rw[upd_other _ _ e]
  have:(n:Int)≠(i:Int):=by omega
  simp[this]

set_option maxHeartbeats 1000000 in
theorem wrong_any (f:Nat→Int) (w:World):Calls Tryz.prog 114 #[.agg (ints 26 f)] w fun e w'=>e=.returned (.int .i64 (Pm.wrong f))∧Below w.heap.size w w':=by
 go_enter Tryz.func114,Tryz.ntmps114
 go_wp2_with (refine wpList_load_row rfl 27 _ rfl w.heap.size rfl 27 (ints 26 f) (0,0) _ ((RowAt.new w _ _).alloc _) Tryz.underlying27 rfl (by rw[ints_size];exact info_perm) ?_)
 rw[none26]
 go_loopw [7] (fun i W=>∃k:Nat,k≤26∧i=.int .i64 k∧Hid (Pm.wrongN f k=0)∧RowAt W (w.heap.size+1) 181 (bools 26 (Pm.seen f k))∧Below w.heap.size w W) (fun i _=>(26-intOf i).toNat)
 case atStart =>
  refine ⟨0,by omega,rfl,rfl,?_,((Below.refl _ _).alloc (Nat.le_refl _) _).alloc (by simp) _⟩
  have:=RowAt.new (w.alloc (Obj.cells (ints 26 f) 27)) 181 (bools 26 fun x=>false)
  rw[World.size_alloc] at this
  exact this
 case round =>
  obtain ⟨k,hk,rfl,HN,hrow,hb⟩:=hrel
  by_cases hlt:k<26
  ·have hg:=run_index_ints 27 3 26 Tryz.underlying27 Tryz.underlying3 info_int f k hlt
   by_cases hr:f k<0∨26≤f k
   ·have H:Hid (Pm.wrong f=3):=by rw[Hid,Pm.wrong_stop f k HN.out (by rw[Pm.bad_range f k hr];decide) hlt,Pm.bad_range f k hr]
    rcases hr with hr | hr
    ·go_wp2
     go_ret
     exact ⟨ret_int H.out.symm,hb⟩
    ·have hr0:¬f k<0:=by omega
     go_wp2
     go_ret
     exact ⟨ret_int H.out.symm,hb⟩
   ·obtain ⟨n,hn⟩:∃n:Nat,f k=n:=⟨(f k).toNat,by omega⟩
    have hn26:n<26:=by omega
    have HM:Hid (f k=n):=hn
    rw[hn] at hg
    clear hr hn
    have hc:=hrow.cell (bools_get (Pm.seen f k) hn26)
    have hf:=hrow.frozen n
    cases hs:Pm.seen f k n
    ·rw[hs] at hc
     have HS:Hid (Pm.seen f k n=false):=hs
     clear hs
     go_wp2
     go_roundw
     case rel =>
      refine ⟨k+1,by omega,by go_num,?_,?_,?_⟩
      ·rw[Hid,Pm.wrongN_succ f k HN.out,Pm.bad_ok f k n HM.out hn26 HS.out]
      ·rw[←met_step f k n HM.out,←bools_set]
       exact hrow.set n _
      ·exact hb.setCell (by simp) _
     case measure=>simp[intOf];omega
    ·rw[hs] at hc
     have HS:Hid (Pm.wrong f=8):=by
      have h8:=Pm.bad_fit f k n HM.out hn26 hs
      rw[Hid,Pm.wrong_stop f k HN.out (by rw[h8];decide) hlt,h8]
     clear hs
     go_wp2
     go_ret
     exact ⟨ret_int HS.out.symm,hb⟩
  ·have HK:Hid (k=26):=by rw[Hid];omega
   go_wp2
   go_ret
   exact ⟨ret_int (Pm.wrong_end f k HN.out HK.out).symm,hb⟩
end Go.Proofs.YtkohhdkkbaifoaaGreatDoor
