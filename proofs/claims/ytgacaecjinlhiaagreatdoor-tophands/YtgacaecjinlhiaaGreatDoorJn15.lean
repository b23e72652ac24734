import Derived.Deep.Upon
import Derived.Test.YtgacaecjinlhiaaGreatDoorJn14
namespace Go.Proofs.YtgacaecjinlhiaaGreatDoor
section
open Go.RowKit PK
theorem wY:Tryz.prog.built 25 []=some (ints 26 fun _=>0):=by kernel_rfl
section
variable {ops:Array Oper} {rest:List Oper} {op:Oper} {a:Act} {w:World} {Q:Exit→Act→World→Prop}
end
end
section
open Go.RowKit PK
namespace Om
open Pm
def bk (M:Ma) (at':Nat→Nat):Nat→Nat→Nat
 | 0,c=>c
 | k+1,c=>eX (inv (M.wi k)) (by' M at' k) (bk M at' k c)
theorem uD (p:Nat→Nat) (b c:Nat):eX p b c<26:=Nat.mod_lt _ (by decide)
theorem za {M:Ma} (at':Nat→Nat) {c:Nat} (hc:c<26):∀k,bk M at' k c<26
 | 0=>hc
 | _+1=>uD _ _ _
theorem pH {M:Ma} (at':Nat→Nat) {c:Nat} (hc:c<26):∀k,through M at' k c<26
 | 0=>hc
 | _+1=>uD _ _ _
theorem AQ {p:Nat→Nat} (hp:aN p) {b c:Nat} (hb:b<26) (hc:c<26):eX p b (eX (inv p) b c)=c:=by
 have h1:=hp.fE ((c+b) % 26) (Nat.mod_lt _ (by decide))
 unfold eX
 have e:((inv p ((c+b) % 26)+26-b) % 26+b) % 26=inv p ((c+b) % 26):=by
  have:=h1.1
  omega
 rw[e,h1.2]
 omega
theorem qy {M:Ma} (h:Ok M) (at':Nat→Nat) {c:Nat} (hc:c<26):∀k,k≤M.n→through M at' k (bk M at' M.n c)=bk M at' (M.n-k) c
 | 0,_=>rfl
 | k+1,hk=>by
  show eX (M.wi (M.n-1-k)) (by' M at' (M.n-1-k)) (through M at' k (bk M at' M.n c))=_
  rw[qy h at' hc k (by omega),show M.n-k=(M.n-1-k)+1 by omega,show M.n-(k+1)=M.n-1-k by omega]
  exact AQ (h.wi _ (by omega)) (zw _ _ _) (za at' hc _)
theorem Jz {M:Ma} (h:Ok M) (at':Nat→Nat) {c:Nat} (hc:c<26):now M at' c=M.pl (bk M at' M.n (M.rf (through M at' M.n (M.pl c)))):=by
 have hp:=iJ h at'
 have h1:there M at' c<26:=hp.1 c hc
 have h2:=h.rf.1 _ h1
 have h3:=za (M:=M) at' h2 M.n
 unfold now
 refine xV hp (h.pl.1 _ h3) ?_
 show through M at' M.n (M.pl (M.pl (bk M at' M.n (M.rf (there M at' c)))))=M.rf (there M at' c)
 rw[h.pl2 _ h3,qy h at' h2 M.n (Nat.le_refl _),Nat.sub_self]
 rfl
def mid (M:Ma) (at':Nat→Nat) (k:Nat):Nat→Nat:=fun i=>if k≤i then step M at' i else at' i
theorem oO (M:Ma) (at':Nat→Nat) {k i:Nat} (h:i<k):mid M at' k i=at' i:=if_neg (by omega)
theorem vY {M:Ma} {at':Nat→Nat} {k:Nat} (h:turns M at' k=true):upd (mid M at' (k+1)) k ((at' k+1) % 26)=mid M at' k:=by
 funext i
 unfold upd mid
 by_cases e:i=k
 ·subst e
  rw[if_pos rfl,if_pos (Nat.le_refl _)]
  unfold step
  rw[if_pos h]
 ·rw[if_neg e]
  by_cases e2:k≤i
  ·rw[if_pos e2,if_pos (by omega)]
  ·rw[if_neg e2,if_neg (by omega)]
theorem vK {M:Ma} {at':Nat→Nat} {k:Nat} (h:turns M at' k=false):mid M at' (k+1)=mid M at' k:=by
 funext i
 unfold mid
 by_cases e:i=k
 ·subst e
  rw[if_neg (by omega),if_pos (Nat.le_refl _)]
  unfold step
  rw[h]
  rfl
 ·by_cases e2:k≤i
  ·rw[if_pos e2,if_pos (by omega)]
  ·rw[if_neg e2,if_neg (by omega)]
theorem GA (M:Ma) (at':Nat→Nat):mid M at' 0=step M at':=by
 funext i
 unfold mid
 rw[if_pos (Nat.zero_le _)]
def car (M:Ma) (at':Nat→Nat) (k:Nat):Bool:=k==M.n || (M.no k).contains (at' k)
theorem sr (M:Ma) (at':Nat→Nat) (k:Nat):turns M at' k=(car M at' (k+1) || (decide (0<k) && (M.no k).contains (at' k))):=rfl
theorem GC (M:Ma) (at':Nat→Nat):car M at' M.n=true:=by simp[car]
theorem Cc {M:Ma} (at':Nat→Nat) {k:Nat} (h:k<M.n):car M at' k=(M.no k).contains (at' k):=by
 unfold car
 rw[show (k==M.n)=false from beq_false_of_ne (by omega)]
 rfl
end Om
def wcl (p b:Nat→Nat) (no:Nat→Bool) (ri at':Nat) (r:Nat):Value :=
 if r<26 then .int .i64 (p r:Nat) else if r<52 then .int .i64 (b (r-26):Nat) else if r<78 then .bool (no (r-52)) else if r=78 then .int .i64 (ri:Nat) else .int .i64 (at':Nat)
def wlA (p b:Nat→Nat) (no:Nat→Bool) (ri at':Nat):Array Value:=tab 80 (wcl p b no ri at')
theorem gW (p b:Nat→Nat) (no:Nat→Bool) (ri at':Nat):(wlA p b no ri at').size=80:=bG _ _
theorem uu (p b:Nat→Nat) (no:Nat→Bool) (ri at':Nat):(wlA p b no ri at').all (·.oneCell')=true:=by
 rw[Array.all_eq_true_iff_forall_mem]
 intro v hv
 simp[wlA,tab] at hv
 obtain ⟨i,_,rfl⟩:=hv
 unfold wcl
 split
 ·rfl
 split
 ·rfl
 split
 ·rfl
 split <;> rfl
theorem JG (p b:Nat→Nat) (no:Nat→Bool) (ri at':Nat) {k:Nat} (hk:k<26):(wlA p b no ri at').setIfInBounds (52+k) (.bool true)=wlA p b (upd no k true) ri at':=by
 unfold wlA
 rw[dw]
 refine bT fun i hi=>?_
 by_cases e:i=52+k
 ·subst e
  rw[upd_same]
  unfold wcl
  rw[if_neg (by omega),if_neg (by omega),if_pos (by omega),show 52+k-52=k by omega,upd_same]
 ·rw[cj _ _ e]
  unfold wcl
  by_cases h:52≤i∧i<78
  ·rw[if_neg (by omega),if_neg (by omega),if_pos h.2,if_neg (by omega),if_neg (by omega),if_pos h.2,cj _ _ (by omega)]
  ·split
   ·rfl
   split
   ·rfl
   have h78:¬i<78:=by omega
   rw[if_neg h78,if_neg h78]
def qN (M:Om.Ma) (at':Nat→Nat) (m:Nat) (i:Nat):Value :=
 if i<320 then (if i / 80<m then wcl (M.wi (i / 80)) (Pm.inv (M.wi (i / 80))) (fun c=>(M.no (i / 80)).contains c) (M.ri (i / 80)) (at' (i / 80)) (i % 80) else wcl (fun _=>0) (fun _=>0) (fun _=>false) 0 0 (i % 80))
 else if i=320 then .int .i64 (M.n:Nat) else if i<347 then .int .i64 (M.rf (i-321):Nat) else .int .i64 (M.pl (i-347):Nat)
def dR (M:Om.Ma) (at':Nat→Nat) (m:Nat):Array Value:=tab 373 (qN M at' m)
theorem jR (M:Om.Ma) (at':Nat→Nat) (m:Nat):(dR M at' m).size=373:=bG _ _
section
variable {M:Om.Ma} {at':Nat→Nat} {m:Nat}
theorem gY {q r:Nat} (hq:q<m) (hm:m≤4) (hr:r<80):(dR M at' m)[q*80+r]? = some (wcl (M.wi q) (Pm.inv (M.wi q)) (fun c=>(M.no q).contains c) (M.ri q) (at' q) r):=by
 unfold dR
 rw[aR _ (by omega)]
 unfold qN
 rw[if_pos (by omega),show (q*80+r) / 80=q by omega,show (q*80+r) % 80=r by omega,if_pos hq]
theorem Az {q c:Nat} (hq:q<m) (hm:m≤4) (hc:c<26):(dR M at' m)[q*80+c]? = some (.int .i64 (M.wi q c:Nat)):=by
 rw[gY hq hm (by omega)];unfold wcl;rw[if_pos hc]
theorem De {q c:Nat} (hq:q<m) (hm:m≤4) (hc:c<26):(dR M at' m)[q*80+26+c]? = some (.int .i64 (Pm.inv (M.wi q) c:Nat)):=by
 rw[Nat.add_assoc,gY hq hm (by omega)];unfold wcl;rw[if_neg (by omega),if_pos (by omega),show 26+c-26=c by omega]
theorem IB {q c:Nat} (hq:q<m) (hm:m≤4) (hc:c<26):(dR M at' m)[q*80+52+c]? = some (.bool ((M.no q).contains c)):=by
 rw[Nat.add_assoc,gY hq hm (by omega)];unfold wcl;rw[if_neg (by omega),if_neg (by omega),if_pos (by omega),show 52+c-52=c by omega]
theorem I7 {q:Nat} (hq:q<m) (hm:m≤4):(dR M at' m)[q*80+78]? = some (.int .i64 (M.ri q:Nat)):=by
 rw[gY hq hm (by omega)];unfold wcl;rw[if_neg (by omega),if_neg (by omega),if_neg (by omega),if_pos rfl]
theorem Jj {q:Nat} (hq:q<m) (hm:m≤4):(dR M at' m)[q*80+79]? = some (.int .i64 (at' q:Nat)):=by
 rw[gY hq hm (by omega)];unfold wcl;rw[if_neg (by omega),if_neg (by omega),if_neg (by omega),if_neg (by omega)]
theorem Ky:(dR M at' m)[320]? = some (.int .i64 (M.n:Nat)):=by
 unfold dR
 rw[aR _ (by omega)]
 unfold qN
 rw[if_neg (by omega),if_pos rfl]
theorem IQ {c:Nat} (hc:c<26):(dR M at' m)[321+c]? = some (.int .i64 (M.rf c:Nat)):=by
 unfold dR
 rw[aR _ (by omega)]
 unfold qN
 rw[if_neg (by omega),if_neg (by omega),if_pos (by omega),show 321+c-321=c by omega]
theorem J1 {c:Nat} (hc:c<26):(dR M at' m)[347+c]? = some (.int .i64 (M.pl c:Nat)):=by
 unfold dR
 rw[aR _ (by omega)]
 unfold qN
 rw[if_neg (by omega),if_neg (by omega),if_neg (by omega),show 347+c-347=c by omega]
theorem GG {q:Nat} (hq:q<m) (v:Nat):(dR M at' m).setIfInBounds (q*80+79) (.int .i64 (v:Nat))=dR M (upd at' q v) m:=by
 unfold dR
 rw[dw]
 refine bT fun i hi=>?_
 by_cases e:i=q*80+79
 ·subst e
  rw[upd_same]
  unfold qN
  rw[if_pos (by omega),show (q*80+79) / 80=q by omega,show (q*80+79) % 80=79 by omega,if_pos hq]
  unfold wcl
  rw[if_neg (by omega),if_neg (by omega),if_neg (by omega),if_neg (by omega),upd_same]
 ·rw[cj _ _ e]
  unfold qN
  by_cases h1:i<320
  ·rw[if_pos h1,if_pos h1]
   by_cases h2:i / 80<m
   ·rw[if_pos h2,if_pos h2]
    by_cases h3:i / 80=q
    ·have h4:i % 80≠79:=by omega
     have h5:i % 80<79:=by omega
     generalize i % 80=r at h4 h5
     unfold wcl
     split
     ·rfl
     split
     ·rfl
     split
     ·rfl
     rw[if_pos (by omega),if_pos (by omega)]
    ·rw[cj _ _ h3]
   ·rw[if_neg h2,if_neg h2]
  ·rw[if_neg h1,if_neg h1]
end
structure bn (W:World) (b:Nat) (M:Om.Ma) (at':Nat→Nat):Prop where
 row:af W b 154 (dR M at' M.n)
 ok:Om.Ok M
 ins:Om.Ks M at'
section
variable {w W:World} {b:Nat} {M:Om.Ma} {at':Nat→Nat}
theorem bn.below (h:bn w b M at') (hb:Below w.heap.size w W):bn W b M at':=⟨h.row.below hb h.row.lt,h.ok,h.ins⟩
theorem bn.alloc (h:bn w b M at') (o:Obj):bn (w.alloc o) b M at':=⟨h.row.alloc o,h.ok,h.ins⟩
theorem bn.drew (h:bn w b M at'):bn w.drew b M at':=⟨h.row,h.ok,h.ins⟩
theorem bn.there (h:bn w b M at') {q c:Nat} (hq:q<M.n) (hc:c<26):w.cell? ⟨b,q*80+c,none⟩=some (.int .i64 (M.wi q c:Nat)):=h.row.cell (Az hq h.ok.most hc)
theorem bn.back (h:bn w b M at') {q c:Nat} (hq:q<M.n) (hc:c<26):w.cell? ⟨b,q*80+26+c,none⟩=some (.int .i64 (Pm.inv (M.wi q) c:Nat)):=h.row.cell (De hq h.ok.most hc)
theorem bn.no (h:bn w b M at') {q c:Nat} (hq:q<M.n) (hc:c<26):w.cell? ⟨b,q*80+52+c,none⟩=some (.bool ((M.no q).contains c)):=h.row.cell (IB hq h.ok.most hc)
theorem bn.ring (h:bn w b M at') {q:Nat} (hq:q<M.n):w.cell? ⟨b,q*80+78,none⟩=some (.int .i64 (M.ri q:Nat)):=h.row.cell (I7 hq h.ok.most)
theorem bn.xu (h:bn w b M at') {q:Nat} (hq:q<M.n):w.cell? ⟨b,q*80+79,none⟩=some (.int .i64 (at' q:Nat)):=h.row.cell (Jj hq h.ok.most)
theorem bn.many (h:bn w b M at'):w.cell? ⟨b,320,none⟩=some (.int .i64 (M.n:Nat)):=h.row.cell Ky
theorem bn.refl (h:bn w b M at') {c:Nat} (hc:c<26):w.cell? ⟨b,321+c,none⟩=some (.int .i64 (M.rf c:Nat)):=h.row.cell (IQ hc)
theorem bn.J4 (h:bn w b M at') {c:Nat} (hc:c<26):w.cell? ⟨b,347+c,none⟩=some (.int .i64 (M.pl c:Nat)):=h.row.cell (J1 hc)
theorem bn.fK (h:bn w b M at') {q:Nat} (hq:q<M.n) {v:Nat} (hv:v<26):bn (w.setCell ⟨b,q*80+79,none⟩ (.int .i64 (v:Nat))) b M (upd at' q v):=⟨by
 have:=h.row.set (q*80+79) (.int .i64 (v:Nat))
 rw[GG hq] at this
 exact this,h.ok,fun i hi=>by
  unfold upd
  by_cases e:i=q
  ·rw[if_pos e];exact hv
  ·rw[if_neg e];exact h.ins i hi⟩
end
end
section
open Go.RowKit PK
theorem Fe {n:Nat} {f:Nat→Int} {k:Nat} (hk:k<n) (h:f k<0∨25<f k):ins n f=false:=by
 cases e:ins n f with
 | false=>rfl
 | true=>have:=(lX n f).1 e k hk;omega
end
section
open Go.RowKit PK Vg
def isN (n:Int):Bool:=decide (0≤n∧n≤25)
set_option maxHeartbeats 400000 in
theorem jY (c:Int) (w:World):Calls Tryz.prog 91 #[.int .i64 c] w fun e w'=>e=.returned (.bool (isN c))∧w=w':=by
 by_cases h1:0≤c
 ·by_cases h2:c<26
  ·have e:isN c=true:=by simp[isN];omega
   go_enter Tryz.func91,Tryz.ntmps91
   go_wp2
   go_ret
   exact ⟨by rw[e];rfl,rfl⟩
  ·have e:isN c=false:=by simp[isN];omega
   go_enter Tryz.func91,Tryz.ntmps91
   go_wp2
   go_ret
   exact ⟨rfl,rfl⟩
 ·have e:isN c=false:=by simp[isN];omega
  go_enter Tryz.func91,Tryz.ntmps91
  go_wp2
  go_ret
  exact ⟨rfl,rfl⟩
set_option maxRecDepth 100000 in
set_option maxHeartbeats 1000000 in
theorem fL (v:Value) (n:Nat) (f:Nat→Int) (w:World) (hv:aq w v n f):Calls Tryz.prog 53 #[v] w fun e w'=>e=.returned (.bool (ins n f))∧w=w':=by
 obtain ⟨a,cap,rfl,hm,hc⟩:=hv
 have HC:=(show Hid _ from hc)
 unfold maxLen at hm
 clear hc
 have HU:=(show Hid (∀k,k<n→(f k<0∨25<f k)→ins n f=false) from fun k hk h=>Fe hk h)
 have HA:=(show Hid ((∀i,i<n→0≤f i∧f i≤25)→ins n f=true) from (lX n f).2)
 generalize ins n f=B at *
 go_enter Tryz.func53,Tryz.ntmps53
 go_wp2_with fail
 go_loopw [7] (fun i W=>∃k:Nat,k≤n∧i=.int .i64 (k:Nat)∧Hid (∀i,i<k→0≤f i∧f i≤25)∧w=W) (fun i _=>((n:Int)-intOf i).toNat)
 case atStart=>exact ⟨0,by omega,rfl,fun i hi=>by omega,rfl⟩
 case round =>
  obtain ⟨k,hk,rfl,HS,rfl⟩:=hrel
  by_cases hlt:k<n
  ·obtain ⟨b,o,rfl,hc0⟩:=HC.out k hlt
   have HLT:Hid (k<n):=hlt
   by_cases hx:isN (f k)=true
   ·have hx3:0≤f k∧f k≤25:=by simpa [isN] using hx
    have HN:Hid (∀i,i<k+1→0≤f i∧f i≤25):=fun i hi=>by
     by_cases e:i=k
     ·rw[e];exact hx3
     ·exact HS.out i (by omega)
    have HL:=(show Hid (∀W,Calls Tryz.prog 91 #[.int .i64 (f k)] W fun e w'=>e=.returned (.bool true)∧W=w') from fun W=>by have:=jY (f k) W;rw[hx] at this;exact this)
    clear hx hx3
    go_wp2_with fail
    refine (HL.out _).mono ?_
    rintro e V ⟨rfl,rfl⟩
    go_wp2_with fail
    go_roundw
    case rel=>exact ⟨k+1,HLT.out,by go_num,HN.out,by first | rfl | trivial⟩
    case measure=>have:=HLT.out;simp[intOf] <;> omega
   ·have hx2:isN (f k)=false:=by simpa using hx
    have hx3:f k<0∨25<f k:=by
     have:¬(0≤f k∧f k≤25):=by simpa [isN] using hx
     omega
    have HB:Hid (B=false):=HU.out k hlt hx3
    have HL:=(show Hid (∀W,Calls Tryz.prog 91 #[.int .i64 (f k)] W fun e w'=>e=.returned (.bool false)∧W=w') from fun W=>by have:=jY (f k) W;rw[hx2] at this;exact this)
    clear hx hx2 hx3
    go_wp2_with fail
    refine (HL.out _).mono ?_
    rintro e V ⟨rfl,rfl⟩
    go_wp2
    go_ret
    exact ⟨by rw[HB.out];rfl,rfl⟩
  ·obtain rfl:k=n:=by omega
   have hlt2:¬(k:Int)<(k:Int):=by omega
   have HB:Hid (B=true):=HA.out HS.out
   go_wp2
   go_ret
   exact ⟨by rw[HB.out];rfl,rfl⟩
set_option maxHeartbeats 400000 in
theorem kE (c:UInt8) (h:65≤c.toNat∧c.toNat≤90) (w:World):Calls Tryz.prog 89 #[.int .u8 (c.toNat:Nat)] w fun e w'=>e=.returned (.int .i64 (Vg.num c:Nat))∧w=w':=by
 have e:(Vg.num c:Int)=(c.toNat:Int)-65:=by unfold Vg.num;omega
 go_enter Tryz.func89,Tryz.ntmps89
 go_wp2
 go_ret
 exact ⟨by rw[e];go_num,rfl⟩
set_option maxHeartbeats 400000 in
theorem yz (n:Nat) (h:n<26) (w:World):Calls Tryz.prog 87 #[.int .i64 (n:Nat)] w fun e w'=>e=.returned (.int .u8 ((ltr n).toNat:Nat))∧w=w':=by
 have e:=jM h
 go_enter Tryz.func87,Tryz.ntmps87
 go_wp2
 go_ret
 exact ⟨by rw[e];go_num,rfl⟩
set_option maxHeartbeats 400000 in
theorem zM (b o:Nat) (p:Nat→Nat) (y c:Nat) (hy:y<26) (hc:c<26) (hp:∀c,c<26→p c<26) (w:World) (hcell:∀c,c<26→w.cell? ⟨b,o+c,none⟩=some (.int .i64 (p c:Nat))):Calls Tryz.prog 115 #[.pointer (some ⟨b,o,none⟩),.int .i64 (y:Nat),.int .i64 (c:Nat)] w fun e w'=>e=.returned (.int .i64 (Om.eX p y c:Nat))∧w=w':=by
 have hm:(c+y) % 26<26:=Nat.mod_lt _ (by decide)
 have h1:=hcell _ hm
 have h2:=hp _ hm
 have HE:Hid (Om.eX p y c=(p ((c+y) % 26)+26-y) % 26):=rfl
 generalize Om.eX p y c=E at *
 generalize p ((c+y) % 26)=P1 at *
 obtain ⟨q,hq⟩:∃q,q=(c+y) % 26:=⟨_,rfl⟩
 rw[←hq] at h1 hm
 have e1:((c:Int)+(y:Int)).tmod 26=(q:Int):=by rw[Int.tmod_eq_emod_of_nonneg (by omega)];omega
 have e2:((P1:Int)-(y:Int)+26).tmod 26=(E:Int):=by rw[HE.out,Int.tmod_eq_emod_of_nonneg (by omega)];omega
 clear HE hq hcell hp
 go_enter Tryz.func115,Tryz.ntmps115
 go_wp2
 go_ret
 exact ⟨rfl,rfl⟩
set_option maxHeartbeats 400000 in
theorem Fc (b q:Nat) (M:Om.Ma) (at':Nat→Nat) (hq:q<M.n) (w:World) (h:bn w b M at'):Calls Tryz.prog 116 #[.pointer (some ⟨b,q*80,none⟩)] w fun e w'=>e=.returned (.int .i64 (Om.by' M at' q:Nat))∧Below w.heap.size w w':=by
 have hw:=h.xu hq
 have hr:=h.ring hq
 have h1:=h.ins q hq
 have h2:=h.ok.ri q hq
 have HE:Hid (Om.by' M at' q=(at' q+26-M.ri q) % 26):=rfl
 generalize Om.by' M at' q=E at *
 generalize at' q=A at *
 generalize M.ri q=R at *
 have e2:((A:Int)-(R:Int)+26).tmod 26=(E:Int):=by rw[HE.out,Int.tmod_eq_emod_of_nonneg (by omega)];omega
 clear HE h
 go_enter Tryz.func116,Tryz.ntmps116
 go_wp2_with fail
 go_quiet (fail)
 go_wp2
 go_ret
 exact ⟨rfl,⟨rfl,rfl,rfl,Nat.le_refl _,fun _ _=>rfl⟩⟩
end
section
open Go.RowKit PK
theorem aF:(Tryz.prog.info? 27).map (·.size)=some 55:=by kernel_rfl
theorem aT:(Tryz.prog.info? 104).map (·.size)=some 27:=by kernel_rfl
theorem fP:(Tryz.prog.info? 104).map (·.zero)=some (some (.agg (whl (fun _=>0) (.slice none 0 0)))):=by kernel_rfl
theorem c6:(Tryz.prog.info? 25).map (·.zero)=some (some (.agg (ints 26 fun _=>0))):=by kernel_rfl
theorem cm {P:Program} {t:TypeId} {z:Value} (h:(P.info? t).map (·.zero)=some (some z)) (w:World):(zeroValue t).run P w=.ok z w:=by
 cases hi:P.info? t with
 | none=>simp[hi] at h
 | some i =>
  have h2:i.zero=some z:=by simpa [hi] using h
  simp[zeroValue,typeInfo,hi,h2]
theorem aM {P:Program} {ops:Array Oper} {rest:List Oper} {op:Oper} {a:Act} {w:World} {Q:Exit→Act→World→Prop} (hgd:op.guard=none) (ty:TypeId) (x:Operand) (ho:op.op=.load ty x)
  (b o:Nat) (hx:a.eval x=.pointer (some ⟨b,o,none⟩)) (cs:Array Value) (d:TypeDesc) (hc:w.rangeAt b o cs.toList)
  (hu:P.underlying ty=some d) (hd:d.isRow=true) (hi:(P.info? ty).map (·.size)=some cs.size)
  (h:wpList P ops Q rest (a.put op.dst (.agg cs)) w):wpList P ops Q (op :: rest) a w :=
 wpList_load_mid hgd ty x ho b o hx cs.toList d hc hu hd (by rw[Array.length_toList];exact hi) (by rw[Array.toArray_toList];exact h)
theorem eM {f:Nat→Int} {v:Value} (h:v.oneCell'=true):(whl f v).all (·.oneCell')=true:=by
 unfold whl
 rw[Array.all_push,aI,h]
 rfl
theorem iN {w:World} {b:Nat} {T:TypeId} {c:Array Value} (h:af w b T c) (o:Nat) (cs:Array Value) (e:∀i v,cs[i]? = some v→c[o+i]? = some v):w.rangeAt b o cs.toList:=fun j v hv=>h.cell (e j v (by rw[←Array.getElem?_toList];exact hv))
theorem oP {n:Nat} {f:Nat→Int} {i:Nat} {v:Value} (h:(ints n f)[i]? = some v):i<n∧v=.int .i64 (f i):=by
 have h1:i<n:=by
  have:=(Array.getElem?_eq_some_iff.1 h).1
  rw[ag] at this
  exact this
 rw[aB f h1] at h
 exact ⟨h1,(Option.some.inj h).symm⟩
theorem yD {w:World} {b:Nat} {T:TypeId} {f:Nat→Int} {v:Value} (h:af w b T (whl f v)):w.rangeAt b 0 (ints 26 f).toList:=iN h 0 _ fun i v hv=>by
 obtain ⟨h1,rfl⟩:=oP hv
 rw[Nat.zero_add]
 exact ff f _ h1
theorem DV {w:World} {b:Nat} {T:TypeId} {x y z:Value} {rf pl:Nat→Int} (h:af w b T (mac x y z rf pl)):w.rangeAt b 3 (ints 26 rf).toList:=iN h 3 _ fun i v hv=>by
 obtain ⟨h1,rfl⟩:=oP hv
 exact yN _ _ _ _ _ h1
theorem BW {w:World} {b:Nat} {T:TypeId} {x y z:Value} {rf pl:Nat→Int} (h:af w b T (mac x y z rf pl)):w.rangeAt b 29 (ints 26 pl).toList:=iN h 29 _ fun i v hv=>by
 obtain ⟨h1,rfl⟩:=oP hv
 exact qP _ _ _ _ _ h1
structure cO (w W:World) (a b c:Value) (rf pl:Nat→Int):Prop where
 row:af W w.heap.size 27 (mac a b c rf pl)
 below:Below w.heap.size w W
theorem cO.new (w:World) (a b c:Value) (rf pl:Nat→Int):cO w (w.alloc (.cells (mac a b c rf pl) 27)) a b c rf pl:=⟨af.new w _ _,(Below.refl _ w).alloc (Nat.le_refl _) _⟩
section
variable {w W W':World} {a b c:Value} {rf pl:Nat→Int}
theorem cO.step (h:cO w W a b c rf pl) (hb:Below W.heap.size W W'):cO w W' a b c rf pl:=⟨h.row.below hb h.row.lt,h.below.trans (hb.mono h.below.size)⟩
theorem cO.alloc (h:cO w W a b c rf pl) (o:Obj):cO w (W.alloc o) a b c rf pl:=⟨h.row.alloc o,h.below.alloc h.below.size o⟩
theorem cO.drew (h:cO w W a b c rf pl):cO w W.drew a b c rf pl:=⟨h.row,h.below.drew⟩
theorem cO.setRow (h:cO w W a b c rf pl) (g:Nat) (hg:w.heap.size<g) (l:Array Value):cO w (W.setRow g l) a b c rf pl:=⟨h.row.aX _ _ (by omega),Below.setRow h.below _ (by omega) _⟩
theorem cO.c0 (h:cO w W a b c rf pl):W.cell? ⟨w.heap.size,0,none⟩=some a:=h.row.cell (dj _ _ _ _ _)
theorem cO.c1 (h:cO w W a b c rf pl):W.cell? ⟨w.heap.size,1,none⟩=some b:=h.row.cell (nK _ _ _ _ _)
theorem cO.c2 (h:cO w W a b c rf pl):W.cell? ⟨w.heap.size,2,none⟩=some c:=h.row.cell (lR _ _ _ _ _)
theorem cO.lt (h:cO w W a b c rf pl):w.heap.size<W.heap.size:=h.row.lt
end
theorem vV (g:Gm) (k:Nat) (h:whE g k≠0):∀n,k≤n→whE g n=whE g k
 | 0,hk=>by rw[show k=0 by omega]
 | n+1,hk=>by
  by_cases e:k=n+1
  ·rw[e]
  ·have:=vV g k h n (by omega)
   show (if whE g n≠0 then whE g n else _)=_
   rw[if_pos (by rw[this];exact h),this]
section
variable {g:Gm}
theorem Lm (h:g.n<1∨4<g.n):gE g=5:=by unfold gE;rw[if_pos h]
theorem Lj (h:¬(g.n<1∨4<g.n)) (h2:whE g g.n≠0):gE g=whE g g.n:=by unfold gE;rw[if_neg h,if_pos h2]
def tl (st:Bool) (f:Nat→Int) (rest:Int):Int:=if Pm.wrong f≠0 then Pm.wrong f else if gK st f=false then 1 else rest
def nl (n l:Nat) (f:Nat→Int) (rest:Int):Int:=if l≠n then 8 else if ins l f=false then 3 else rest
def gE4 (g:Gm) (k:Nat):Int:=if k=0 then tl true g.rf (tl false g.pl 0) else if k=1 then tl false g.pl 0 else 0
def gE5 (g:Gm) (k:Nat):Int:=if k=0 then nl g.n g.rl g.ri (nl g.n g.sl g.st (gE4 g 0)) else if k=1 then nl g.n g.sl g.st (gE4 g 0) else gE4 g 0
def gE3 (g:Gm):Int:=gE5 g 0
theorem sC {st:Bool} {f:Nat→Int} {p:Nat→Nat} (hp:Pm.aN p) (e:∀i,i<26→f i=(p i:Int)):gK st f=true↔∀i,i<26→p (p i)=i∧(st=true→p i≠i):=by
 rw[qG]
 constructor
 ·intro h i hi
  obtain ⟨h1,h2⟩:=h i hi
  rw[e i hi,Int.toNat_natCast,e _ (hp.lt i hi)] at h1
  refine ⟨by omega,fun hs=>?_⟩
  have:=h2 hs
  rw[e i hi] at this
  omega
 ·intro h i hi
  obtain ⟨h1,h2⟩:=h i hi
  rw[e i hi,Int.toNat_natCast,e _ (hp.lt i hi),h1]
  refine ⟨rfl,fun hs=>?_⟩
  have:=h2 hs
  omega
theorem Ea {st:Bool} {f:Nat→Int} {p:Nat→Nat} (hp:Pm.aN p) (e:∀i,i<26→f i=(p i:Int)) {i:Nat} (hi:i<26) (h:p (p i)≠i∨(st=true∧p i=i)):gK st f=false:=by
 cases hu:gK st f with
 | false=>rfl
 | true =>
  have:=(sC hp e).1 hu i hi
  rcases h with h | h
  ·exact absurd this.1 h
  ·exact absurd h.2 (this.2 h.1)
theorem LD (h:¬(g.n<1∨4<g.n)) (h2:whE g g.n=0):gE g=gE3 g:=by unfold gE;rw[if_neg h,if_neg (fun e=>e h2)];rfl
end
end
end Go.Proofs.YtgacaecjinlhiaaGreatDoor
