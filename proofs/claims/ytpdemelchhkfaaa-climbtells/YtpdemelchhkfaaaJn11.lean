import Derived.Test.YtpdemelchhkfaaaJn10
import Derived.Test.YtpdemelchhkfaaaPz
namespace Go.Proofs.Ytpdemelchhkfaaa
section
open Go.RowKit PK
def dr (f:Nat→Int):Nat→Bool
 | 0=>true
 | k+1=>dr f k && decide (-1000≤f k∧f k≤1000)
theorem gm (f:Nat→Int) (k:Nat):dr f (k+1)=(dr f k && decide (-1000≤f k∧f k≤1000)):=rfl
theorem kL {f:Nat→Int} {k:Nat} (h:dr f k=false) (j:Nat) (hj:k≤j):dr f j=false:=by
 induction hj with
 | refl=>exact h
 | step _ ih=>rw[gm,ih];rfl
theorem qv {f:Nat→Int}:∀{k:Nat},dr f k=true→∀i,i<k→-1000≤f i∧f i≤1000
 | 0,_,i,hi=>absurd hi (Nat.not_lt_zero i)
 | k+1,h,i,hi=>by
  rw[gm,Bool.and_eq_true] at h
  by_cases e:i=k
  ·rw[e];exact of_decide_eq_true h.2
  ·exact qv h.1 i (by omega)
def cwE (l:List UInt8) (n:Nat) (f:Nat→Int):Int:=if ckE l≠0 then ckE l else if 256<l.length then 4 else if n≠676 then 8 else if dr f n=true then 0 else 3
theorem dU {l:List UInt8} {n:Nat} {f:Nat→Int} (h:cwE l n f=0):ckE l=0∧l.length≤256∧n=676∧∀i,i<676→-1000≤f i∧f i≤1000:=by
 unfold cwE at h
 by_cases h1:ckE l≠0
 ·rw[if_pos h1] at h;exact absurd h h1
 rw[if_neg h1] at h
 by_cases h2:256<l.length
 ·rw[if_pos h2] at h;cases h
 rw[if_neg h2] at h
 by_cases h3:n≠676
 ·rw[if_pos h3] at h;cases h
 rw[if_neg h3] at h
 by_cases h4:dr f n=true
 ·have h5:n=676:=Decidable.not_not.1 h3
  subst h5
  exact ⟨Decidable.not_not.1 h1,by omega,rfl,qv h4⟩
 ·rw[if_neg h4] at h;cases h
theorem jz:(Try.prog.info? 95).map (·.size)=some 2:=by kernel_rfl
set_option maxRecDepth 100000 in
set_option maxHeartbeats 4000000 in
theorem sG (s:ByteArray) (v:Value) (n:Nat) (f:Nat→Int) (w:World) (hv:aX w v n f):Calls Try.prog 28 #[.string s,v] w fun e w'=>e=.returned (.int .i64 (cwE s.data.toList n f))∧Below w.heap.size w w':=by
 have HC:=(show Hid (∀W,Calls Try.prog 51 #[.string s] W fun e w'=>e=.returned (.agg #[.int .i64 (ckE s.data.toList),.int .i64 (ni s.data.toList)])∧Below W.heap.size W w') from uH s)
 obtain ⟨a,cap,rfl,hmx,hc⟩:=hv
 have HN:=(show Hid (∀c,c<n→∃b o,a=some ⟨b,o,none⟩∧w.cell? ⟨b,o+c,none⟩=some (.int .i64 (f c))) from hc)
 have hsl:=Pl.bY s
 have HE:=(show Hid (∀E,ckE s.data.toList=E→cwE s.data.toList n f=if E≠0 then E else if 256<s.size then 4 else if n≠676 then 8 else if dr f n=true then 0 else 3) from fun E e=>by unfold cwE;rw[e,←hsl])
 have HEE:=(show Hid _ from HE.out _ rfl)
 generalize cwE s.data.toList n f=R at *
 generalize ckE s.data.toList=E at *
 generalize ni s.data.toList=At at *
 unfold maxLen at hmx
 clear hc hsl HE
 have hzF:(Try.prog.info? 95).map (·.zero)=some (some (.agg #[.int .i64 0,.int .i64 0])):=by kernel_rfl
 have hzq:=oA hzF
 go_enter Try.func28,Try.ntmps28
 go_wp2_with fail
 refine (HC.out _).mono ?_
 rintro e W2 ⟨rfl,hb2⟩
 clear HC
 obtain ⟨X,hX⟩:∃X:Array Value,X=#[.int .i64 E,.int .i64 At]:=⟨_,rfl⟩
 have hXs:X.size=2:=by rw[hX];rfl
 have hXo:X.all (·.oneCell')=true:=by rw[hX];simp[Value.oneCell']
 have HX0:Hid (X[0]? = some (.int .i64 E)):=by rw[Hid,hX];rfl
 rw[←hX]
 clear hX
 go_upto_region 2 with (first | refine wpList_store_row rfl 95 _ _ rfl W2.heap.size X rfl rfl 95 _ (ai.new W2 _ _) (by rw[hXs];exact jz) (by rw[hXs];rfl) hXo ?_)
 have hq:=(ai.new W2 95 #[.int .i64 0,.int .i64 0]).row X
 have hb8:=Below.setRow ((Below.refl W2.heap.size W2).alloc (Nat.le_refl _) (.cells #[.int .i64 0,.int .i64 0] 95)) W2.heap.size (Nat.le_refl _) X
 obtain ⟨W3,hW3⟩:∃W3,W3=(W2.alloc (.cells #[.int .i64 0,.int .i64 0] 95)).setRow W2.heap.size X:=⟨_,rfl⟩
 rw[←hW3] at hq hb8 ⊢
 clear hW3
 have hb3:=hb2.trans (hb8.mono hb2.size)
 have c0:=hq.cell HX0.out
 have HB3:=(show Hid (Below w.heap.size w W3) from hb3)
 clear hb8 hb2 hzF hzq hq hb3 hXs hXo
 generalize W2.heap.size=qf at *
 by_cases b1:E=0
 case neg =>
  have b1':(E != 0)=true:=by simpa using b1
  have HR:Hid (E=R):=by rw[Hid,HEE.out,if_pos b1]
  clear b1 HEE
  go_wp2
  go_ret
  exact ⟨by rw[HR.out];rfl,HB3.out⟩
 subst b1
 have e0:((0:Int) != 0)=false:=rfl
 by_cases b2:256<s.size
 ·have b2':(256:Int)<(s.size:Int):=by omega
  have HR:Hid (R=4):=by rw[Hid,HEE.out,if_neg (by simp),if_pos b2]
  clear b2 HEE
  go_wp2
  go_ret
  exact ⟨by rw[HR.out];rfl,HB3.out⟩
 have b2':¬(256:Int)<(s.size:Int):=by omega
 by_cases b3:n=676
 case neg =>
  have b3':((n:Int) != 676)=true:=by simp;omega
  have HR:Hid (R=8):=by rw[Hid,HEE.out,if_neg (by simp),if_neg b2,if_pos b3]
  clear b3 HEE b2
  go_wp2
  go_ret
  exact ⟨by rw[HR.out];rfl,HB3.out⟩
 have b3':((n:Int) != 676)=false:=by simp;omega
 have HR:Hid (R=if dr f n=true then 0 else 3):=by rw[Hid,HEE.out,if_neg (by simp),if_neg b2,if_neg (fun h=>h b3)]
 clear b2 HEE
 go_wp2_with fail
 clear c0 b2' b3' e0
 go_loopw [23] (fun i W=>∃k:Nat,k≤n∧i=.int .i64 (k:Nat)∧dr f k=true∧Below w.heap.size w W) (fun i _=>((n:Int)-intOf i).toNat)
 case atStart=>exact ⟨0,by omega,rfl,rfl,HB3.out⟩
 case round =>
  clear HB3
  obtain ⟨k,hk,rfl,hp,hbe⟩:=hrel
  by_cases hlt:k<n
  ·have HLT:Hid (k<n):=hlt
   have hlt2:(k:Int)<(n:Int):=by omega
   obtain ⟨b,o,rfl,hcell⟩:=HN.out k hlt
   have c1:=(hbe.cell (p:=⟨b,o+k,none⟩) (cg hcell)).trans hcell
   have HS:=(show Hid _ from gm f k)
   have HP:=(show Hid (dr f k=true) from hp)
   have HF:Hid (dr f (k+1)=false→dr f n=false):=fun h=>kL h n (by omega)
   have HBE:=(show Hid _ from hbe)
   clear hlt hcell hp hbe
   generalize f k=x at *
   by_cases x1:x< -1000
   ·have HQ:Hid (R=3):=by
     rw[Hid,HR.out,if_neg]
     rw[HF.out (by rw[HS.out,HP.out];simp;omega)]
     decide
    go_wp2
    go_ret
    exact ⟨by rw[HQ.out];rfl,HBE.out⟩
   by_cases x2:1000<x
   ·have HQ:Hid (R=3):=by
     rw[Hid,HR.out,if_neg]
     rw[HF.out (by rw[HS.out,HP.out];simp;omega)]
     decide
    go_wp2
    go_ret
    exact ⟨by rw[HQ.out];rfl,HBE.out⟩
   have HQ:Hid (dr f (k+1)=true):=by rw[Hid,HS.out,HP.out];simp;omega
   go_wp2
   go_roundw
   case rel=>exact ⟨k+1,HLT.out,by go_num,HQ.out,HBE.out⟩
   case measure=>have:=HLT.out;simp[intOf];omega
  ·obtain rfl:k=n:=by omega
   have hnn:¬((k:Nat):Int)<((k:Nat):Int):=by omega
   have HQ:Hid (R=0):=by rw[Hid,HR.out,if_pos hp]
   have HBE:=(show Hid _ from hbe)
   clear hp hbe hlt
   go_wp2
   go_ret
   exact ⟨by rw[HQ.out];rfl,HBE.out⟩
set_option maxRecDepth 100000 in
set_option maxHeartbeats 4000000 in
theorem oE (s:ByteArray) (v:Value) (n:Nat) (f:Nat→Int) (w:World) (hv:aX w v n f):Calls Try.prog 32 #[.string s,v] w fun e w'=>e=.returned (.int .i64 (cwE s.data.toList n f))∧Below w.heap.size w w':=by
 have HC:=(show Hid (∀W,Calls Try.prog 52 #[.string s] W fun e w'=>e=.returned (.agg #[.int .i64 (ckE s.data.toList),.int .i64 (ni s.data.toList)])∧Below W.heap.size W w') from rQ s)
 obtain ⟨a,cap,rfl,hmx,hc⟩:=hv
 have HN:=(show Hid (∀c,c<n→∃b o,a=some ⟨b,o,none⟩∧w.cell? ⟨b,o+c,none⟩=some (.int .i64 (f c))) from hc)
 have hsl:=Pl.bY s
 have HE:=(show Hid (∀E,ckE s.data.toList=E→cwE s.data.toList n f=if E≠0 then E else if 256<s.size then 4 else if n≠676 then 8 else if dr f n=true then 0 else 3) from fun E e=>by unfold cwE;rw[e,←hsl])
 have HEE:=(show Hid _ from HE.out _ rfl)
 generalize cwE s.data.toList n f=R at *
 generalize ckE s.data.toList=E at *
 generalize ni s.data.toList=At at *
 unfold maxLen at hmx
 clear hc hsl HE
 have hzF:(Try.prog.info? 95).map (·.zero)=some (some (.agg #[.int .i64 0,.int .i64 0])):=by kernel_rfl
 have hzq:=oA hzF
 go_enter Try.func32,Try.ntmps32
 go_wp2_with fail
 refine (HC.out _).mono ?_
 rintro e W2 ⟨rfl,hb2⟩
 clear HC
 obtain ⟨X,hX⟩:∃X:Array Value,X=#[.int .i64 E,.int .i64 At]:=⟨_,rfl⟩
 have hXs:X.size=2:=by rw[hX];rfl
 have hXo:X.all (·.oneCell')=true:=by rw[hX];simp[Value.oneCell']
 have HX0:Hid (X[0]? = some (.int .i64 E)):=by rw[Hid,hX];rfl
 rw[←hX]
 clear hX
 go_upto_region 2 with (first | refine wpList_store_row rfl 95 _ _ rfl W2.heap.size X rfl rfl 95 _ (ai.new W2 _ _) (by rw[hXs];exact jz) (by rw[hXs];rfl) hXo ?_)
 have hq:=(ai.new W2 95 #[.int .i64 0,.int .i64 0]).row X
 have hb8:=Below.setRow ((Below.refl W2.heap.size W2).alloc (Nat.le_refl _) (.cells #[.int .i64 0,.int .i64 0] 95)) W2.heap.size (Nat.le_refl _) X
 obtain ⟨W3,hW3⟩:∃W3,W3=(W2.alloc (.cells #[.int .i64 0,.int .i64 0] 95)).setRow W2.heap.size X:=⟨_,rfl⟩
 rw[←hW3] at hq hb8 ⊢
 clear hW3
 have hb3:=hb2.trans (hb8.mono hb2.size)
 have c0:=hq.cell HX0.out
 have HB3:=(show Hid (Below w.heap.size w W3) from hb3)
 clear hb8 hb2 hzF hzq hq hb3 hXs hXo
 generalize W2.heap.size=qf at *
 by_cases b1:E=0
 case neg =>
  have b1':(E != 0)=true:=by simpa using b1
  have HR:Hid (E=R):=by rw[Hid,HEE.out,if_pos b1]
  clear b1 HEE
  go_wp2
  go_ret
  exact ⟨by rw[HR.out];rfl,HB3.out⟩
 subst b1
 have e0:((0:Int) != 0)=false:=rfl
 by_cases b2:256<s.size
 ·have b2':(256:Int)<(s.size:Int):=by omega
  have HR:Hid (R=4):=by rw[Hid,HEE.out,if_neg (by simp),if_pos b2]
  clear b2 HEE
  go_wp2
  go_ret
  exact ⟨by rw[HR.out];rfl,HB3.out⟩
 have b2':¬(256:Int)<(s.size:Int):=by omega
 by_cases b3:n=676
 case neg =>
  have b3':((n:Int) != 676)=true:=by simp;omega
  have HR:Hid (R=8):=by rw[Hid,HEE.out,if_neg (by simp),if_neg b2,if_pos b3]
  clear b3 HEE b2
  go_wp2
  go_ret
  exact ⟨by rw[HR.out];rfl,HB3.out⟩
 have b3':((n:Int) != 676)=false:=by simp;omega
 have HR:Hid (R=if dr f n=true then 0 else 3):=by rw[Hid,HEE.out,if_neg (by simp),if_neg b2,if_neg (fun h=>h b3)]
 clear b2 HEE
 go_wp2_with fail
 clear c0 b2' b3' e0
 go_loopw [23] (fun i W=>∃k:Nat,k≤n∧i=.int .i64 (k:Nat)∧dr f k=true∧Below w.heap.size w W) (fun i _=>((n:Int)-intOf i).toNat)
 case atStart=>exact ⟨0,by omega,rfl,rfl,HB3.out⟩
 case round =>
  clear HB3
  obtain ⟨k,hk,rfl,hp,hbe⟩:=hrel
  by_cases hlt:k<n
  ·have HLT:Hid (k<n):=hlt
   have hlt2:(k:Int)<(n:Int):=by omega
   obtain ⟨b,o,rfl,hcell⟩:=HN.out k hlt
   have c1:=(hbe.cell (p:=⟨b,o+k,none⟩) (cg hcell)).trans hcell
   have HS:=(show Hid _ from gm f k)
   have HP:=(show Hid (dr f k=true) from hp)
   have HF:Hid (dr f (k+1)=false→dr f n=false):=fun h=>kL h n (by omega)
   have HBE:=(show Hid _ from hbe)
   clear hlt hcell hp hbe
   generalize f k=x at *
   by_cases x1:x< -1000
   ·have HQ:Hid (R=3):=by
     rw[Hid,HR.out,if_neg]
     rw[HF.out (by rw[HS.out,HP.out];simp;omega)]
     decide
    go_wp2
    go_ret
    exact ⟨by rw[HQ.out];rfl,HBE.out⟩
   by_cases x2:1000<x
   ·have HQ:Hid (R=3):=by
     rw[Hid,HR.out,if_neg]
     rw[HF.out (by rw[HS.out,HP.out];simp;omega)]
     decide
    go_wp2
    go_ret
    exact ⟨by rw[HQ.out];rfl,HBE.out⟩
   have HQ:Hid (dr f (k+1)=true):=by rw[Hid,HS.out,HP.out];simp;omega
   go_wp2
   go_roundw
   case rel=>exact ⟨k+1,HLT.out,by go_num,HQ.out,HBE.out⟩
   case measure=>have:=HLT.out;simp[intOf];omega
  ·obtain rfl:k=n:=by omega
   have hnn:¬((k:Nat):Int)<((k:Nat):Int):=by omega
   have HQ:Hid (R=0):=by rw[Hid,HR.out,if_pos hp]
   have HBE:=(show Hid _ from hbe)
   clear hp hbe hlt
   go_wp2
   go_ret
   exact ⟨by rw[HQ.out];rfl,HBE.out⟩
end
namespace Vg
def there (kind a b:Nat):Nat:=if kind=2 then (b+26-a) % 26 else if kind=3 then (a+26-b) % 26 else (a+b) % 26
def back (kind c b:Nat):Nat:=if kind=2 then (b+26-c) % 26 else if kind=3 then (c+b) % 26 else (c+26-b) % 26
def num (c:UInt8):Nat:=c.toNat-65
theorem Bw {c:UInt8} (h:65≤c.toNat∧c.toNat≤90):num c<26:=by unfold num;omega
def Ls (l:List UInt8):Prop:=∀c ∈ l,65≤c.toNat∧c.toNat≤90
theorem Ls.at {l:List UInt8} (h:Ls l) {i:Nat} (hi:i<l.length):65≤(l.getD i 0).toNat∧(l.getD i 0).toNat≤90:=by
 rw[List.getD_eq_getElem?_getD,List.getElem?_eq_getElem hi]
 exact h _ (List.getElem_mem hi)
def kat (kind:Nat) (k p:List UInt8) (i:Nat):Nat:=if kind=4∧k.length≤i then num (p.getD (i-k.length) 0) else num (k.getD (i % k.length) 0)
def nx {α:Type} [DecidableEq α] (p:Nat→α) (q:α):Nat→Nat→Option Nat
 | _,0=>none
 | j,n+1=>if p j=q then some j else nx p q (j+1) n
end Vg
section
open Go.RowKit PK
theorem ki {l:List UInt8} (h:ckE l=0):Vg.Ls l∧l.length≤65536:=by
 rcases xd l with ⟨_,_,h3,h4⟩ | h1
 ·exact ⟨fun c hc=>by have:=h4 c hc;simp[Pl.isL] at this;omega,h3⟩
 ·rw[h] at h1;cases h1
def jx (s:ByteArray) (k:Nat):Nat:=Vg.num (s.data.toList.getD k 0)
def eY (s:ByteArray) (f:Nat→Int) (key:Nat→Nat):Nat→Int
 | 0=>0
 | k+1=>eY s f key k+f (26*key (jx s k)+key (jx s (k+1)))
def sc (s:ByteArray) (f:Nat→Int) (key:Nat→Nat):Int:=eY s f key (s.size-1)
theorem iX {s:ByteArray} (hs:Vg.Ls s.data.toList) {k:Nat} (hk:k<s.size):jx s k<26:=Vg.Bw (hs.at (by have:=Pl.bY s;omega))
theorem uC {s:ByteArray} (hs:Vg.Ls s.data.toList) {k:Nat} (hk:k<s.size):(s[k].toNat:Int)=(jx s k:Int)+65:=by
 have h1:=hs.at (i:=k) (by have:=Pl.bY s;omega)
 have h2:=uY s k hk
 unfold jx Vg.num
 rw[h2] at h1 ⊢
 omega
theorem xT {a b:Nat} (ha:a<26) (hb:b<26):26*a+b<676:=by omega
theorem lA {s:ByteArray} (hs:Vg.Ls s.data.toList) {f:Nat→Int} (hf:∀i,i<676→-1000≤f i∧f i≤1000) {key:Nat→Nat} (hk:∀i,i<26→key i<26):∀k,k≤s.size-1→-1000*(k:Int)≤eY s f key k∧eY s f key k≤1000*(k:Int)
 | 0,_=>by simp[eY]
 | k+1,h=>by
  have ih:=lA hs hf hk k (by omega)
  have h1:=hf _ (xT (hk _ (iX hs (k:=k) (by omega))) (hk _ (iX hs (k:=k+1) (by omega))))
  unfold eY
  push_cast
  omega
set_option maxRecDepth 100000 in
set_option maxHeartbeats 4000000 in
theorem uu (s:ByteArray) (hs:Vg.Ls s.data.toList) (hl:s.size≤256) (tv:Value) (f:Nat→Int) (hf:∀i,i<676→-1000≤f i∧f i≤1000) (key:Nat→Nat) (hk:∀i,i<26→key i<26) (w:World) (hv:aX w tv 676 f):Calls Try.prog 34 #[.string s,tv,.agg (ints 26 fun i=>(key i:Nat))] w fun e w'=>e=.returned (.int .i64 (sc s f key))∧Below w.heap.size w w':=by
 obtain ⟨a,tc,rfl,_,hc⟩:=hv
 obtain ⟨tb,t0,rfl,_⟩:=hc 0 (by decide)
 have HT0:=(show Hid (∀c,c<676→w.cell? ⟨tb,t0+c,none⟩=some (.int .i64 (f c))) from fun c h=>by
  obtain ⟨b,o,e,k⟩:=hc c h
  cases e
  exact k)
 have HLE:=(show Hid _ from lA hs hf hk)
 have HX:=(show Hid (∀k,k+1<s.size→jx s k<26∧jx s (k+1)<26∧(∀h:k<s.size,(s[k].toNat:Int)=(jx s k:Int)+65)∧∀h:k+1<s.size,(s[k+1].toNat:Int)=(jx s (k+1):Int)+65) from fun k h=>⟨iX hs (by omega),iX hs h,fun _=>uC hs (by omega),fun _=>uC hs h⟩)
 have HK:=(show Hid (∀i,i<26→key i<26) from hk)
 have HF:=(show Hid (∀i,i<676→-1000≤f i∧f i≤1000) from hf)
 have HKR:=(show Hid (∀i,i<26→(ints 26 fun i=>((key i:Nat):Int))[i]? = some (.int .i64 (key i:Nat))) from fun i h=>aG _ h)
 have hr0:ai (w.alloc (.cells (ints 26 fun i=>((key i:Nat):Int)) 38)) w.heap.size 38 (ints 26 fun i=>((key i:Nat):Int)):=ai.new w _ _
 have hb0:Below w.heap.size w (w.alloc (.cells (ints 26 fun i=>((key i:Nat):Int)) 38)):=(Below.refl _ w).alloc (Nat.le_refl _) _
 generalize (ints 26 fun i=>((key i:Nat):Int))=KA at *
 clear hc hs hf hk
 go_enter Try.func34,Try.ntmps34
 go_upto_region 1 with fail
 generalize w.alloc (.cells KA 38)=W0 at *
 go_wp2_with fail
 go_loopw [7,8] (fun o x W=>∃k:Nat,k≤s.size-1∧x=.int .i64 ((k:Int)+1)∧o=.int .i64 (eY s f key k)∧ai W w.heap.size 38 KA∧Below w.heap.size w W) (fun _ x _=>((s.size:Int)+1-intOf x).toNat)
 case atStart=>exact ⟨0,by omega,rfl,rfl,hr0,hb0⟩
 case round =>
  clear hr0 hb0
  obtain ⟨k,hks,rfl,rfl,hr,hb⟩:=hrel
  by_cases hlt:k+1<s.size
  case neg =>
   have HQ:Hid (eY s f key k=sc s f key):=by
    have:k=s.size-1:=by omega
    rw[Hid,this];rfl
   have hnn:¬((k:Int)+1)<(s.size:Int):=by omega
   have HB:=(show Hid _ from hb)
   clear hr hb hlt
   go_wp2
   go_ret
   exact ⟨by rw[←HQ.out];rfl,HB.out⟩
  have HLT:Hid (k+1<s.size):=hlt
  have hlt2:((k:Int)+1)<(s.size:Int):=by omega
  have hlt3:(k:Int)<(s.size:Int):=by omega
  obtain ⟨hx,hy,ex,ey⟩:=HX.out k hlt
  have ex1:=ex (by omega)
  have ey1:=ey hlt
  have hle1:=HLE.out (k+1) (by omega)
  have HN:Hid (eY s f key (k+1)=eY s f key k+f (26*key (jx s k)+key (jx s (k+1)))):=rfl
  have hkx:=HK.out _ hx
  have hky:=HK.out _ hy
  have HKX0:=(show Hid _ from HKR.out _ hx)
  have HKY0:=(show Hid _ from HKR.out _ hy)
  have hix:=xT hkx hky
  have HT1:=(show Hid _ from HT0.out _ hix)
  obtain ⟨x,hxx⟩:∃x,x=jx s k:=⟨_,rfl⟩
  obtain ⟨y,hyy⟩:∃y,y=jx s (k+1):=⟨_,rfl⟩
  rw[←hxx] at hx ex1 hkx HKX0 HT1 HN hix
  rw[←hyy] at hy ey1 hky HKY0 HT1 HN hix
  obtain ⟨kx,hkxx⟩:∃kx,kx=key x:=⟨_,rfl⟩
  obtain ⟨ky,hkyy⟩:∃ky,ky=key y:=⟨_,rfl⟩
  rw[←hkxx] at hkx HKX0 HT1 HN hix
  rw[←hkyy] at hky HKY0 HT1 HN hix
  obtain ⟨ix,hixx⟩:∃ix,ix=26*kx+ky:=⟨_,rfl⟩
  have hixI:26*(kx:Int)+(ky:Int)=(ix:Int):=by omega
  rw[←hixx] at HT1 HN hix
  clear hixx
  obtain ⟨z,hz⟩:∃z,z=f ix:=⟨_,rfl⟩
  rw[←hz] at HT1 HN
  obtain ⟨S,hSS⟩:∃S,S=eY s f key k:=⟨_,rfl⟩
  rw[←hSS] at HN ⊢
  obtain ⟨S2,hS20⟩:∃S2,S2=eY s f key (k+1):=⟨_,rfl⟩
  have HS2:=(show Hid (S2=eY s f key (k+1)) from hS20)
  rw[←hS20] at hle1 HN
  have hS2:S2=S+z:=HN.out
  have HKX:=(show Hid (KA[x]? = some (.int .i64 (kx:Nat))) from HKX0.out)
  have HKY:=(show Hid (KA[y]? = some (.int .i64 (ky:Nat))) from HKY0.out)
  have HT:=(show Hid (w.cell? ⟨tb,t0+ix,none⟩=some (.int .i64 z)) from HT1.out)
  have hs1:-256000≤S2∧S2≤256000:=by push_cast at hle1;omega
  clear hxx hyy hkxx hkyy hz hSS hS20 HN HKX0 HKY0 HT1 ex ey hle1
  go_upto_region 5 with fail
  refine wp_region_noPanic ?_
  refine wp_region_held_drew (S:=fun W=>ai W w.heap.size 38 KA∧Below w.heap.size w W) (by kernel_rfl) ⟨hr,hb.drew⟩ (fun hS=>?_)
  obtain ⟨Z,hZ⟩:∃x,x=wr.drew:=⟨_,rfl⟩
  rw[←hZ] at hS ⊢
  clear hZ hr hb
  refine vtk 0 15 (.int .i64 S) rfl (fun W hW=>by clear hS hW;go_simp) hS ?_
  simp only[zsA,zsB,zsC]
  refine vtk 1 16 (.slice (some ⟨tb,t0,none⟩) 676 tc) rfl (fun W hW=>by clear hS hW;go_simp) hS ?_
  simp only[zsA,zsB,zsC]
  refine vtk 2 17 (.string s) rfl (fun W hW=>by clear hS hW;go_simp) hS ?_
  simp only[zsA,zsB,zsC]
  refine vtk 3 18 (.int .i64 ((k:Int)+1)) rfl (fun W hW=>by clear hS hW;go_simp) hS ?_
  simp only[zsA,zsB,zsC]
  refine vtk 4 19 (.int .i64 (k:Nat)) rfl (fun W hW=>by have u1:IntKind.i64.wrap ((k:Nat):Int)=(k:Int):=(by rw[IntKind.wrap_i64];omega);have u2:(k:Int)+1-1=(k:Int):=(by omega);clear hS hW;simp[execOp,Act.eval,go_sem,u1,u2]) hS ?_
  simp only[zsA,zsB,zsC]
  refine vtk 5 20 (.int .u8 ((x:Int)+65)) rfl (fun W hW=>by clear hS hW;go_simp) hS ?_
  simp only[zsA,zsB,zsC]
  refine vtk 6 21 (.int .u8 (x:Nat)) rfl (fun W hW=>by have u1:IntKind.u8.wrap ((x:Nat):Int)=(x:Int):=(by rw[IntKind.wrap_u8];omega);have u2:(x:Int)+65-65=(x:Int):=(by omega);clear hS hW;simp[execOp,Act.eval,go_sem,u1,u2]) hS ?_
  simp only[zsA,zsB,zsC]
  refine vtk 7 22 (.pointer (some ⟨w.heap.size,x,none⟩)) rfl (fun W hW=>by have u1:¬(26:Int)≤(x:Int):=(by omega);clear hS hW;go_simp) hS ?_
  simp only[zsA,zsB,zsC]
  refine vtk 8 23 (.int .i64 (kx:Nat)) rfl (fun W hW=>by have u:=hW.1.cell (i:=x) (v:=.int .i64 (kx:Nat)) HKX.out;clear hS hW;go_simp) hS ?_
  simp only[zsA,zsB,zsC]
  refine vtk 9 24 (.int .i64 (26*(kx:Int))) rfl (fun W hW=>by have u1:IntKind.i64.wrap (26*(kx:Int))=26*(kx:Int):=(by rw[IntKind.wrap_i64];omega);clear hS hW;simp[execOp,Act.eval,go_sem,u1]) hS ?_
  simp only[zsA,zsB,zsC]
  refine vtk 10 25 (.string s) rfl (fun W hW=>by clear hS hW;go_simp) hS ?_
  simp only[zsA,zsB,zsC]
  refine vtk 11 26 (.int .i64 ((k:Int)+1)) rfl (fun W hW=>by clear hS hW;go_simp) hS ?_
  simp only[zsA,zsB,zsC]
  refine vtk 12 27 (.int .u8 ((y:Int)+65)) rfl (fun W hW=>by have u1:¬((k:Int)+1<0):=(by omega);clear hS hW;go_simp) hS ?_
  simp only[zsA,zsB,zsC]
  refine vtk 13 28 (.int .u8 (y:Nat)) rfl (fun W hW=>by have u1:IntKind.u8.wrap ((y:Nat):Int)=(y:Int):=(by rw[IntKind.wrap_u8];omega);have u2:(y:Int)+65-65=(y:Int):=(by omega);clear hS hW;simp[execOp,Act.eval,go_sem,u1,u2]) hS ?_
  simp only[zsA,zsB,zsC]
  refine vtk 14 29 (.pointer (some ⟨w.heap.size,y,none⟩)) rfl (fun W hW=>by have u1:¬(26:Int)≤(y:Int):=(by omega);clear hS hW;go_simp) hS ?_
  simp only[zsA,zsB,zsC]
  refine vtk 15 30 (.int .i64 (ky:Nat)) rfl (fun W hW=>by have u:=hW.1.cell (i:=y) (v:=.int .i64 (ky:Nat)) HKY.out;clear hS hW;go_simp) hS ?_
  simp only[zsA,zsB,zsC]
  refine vtk 16 31 (.int .i64 (ix:Nat)) rfl (fun W hW=>by have u1:IntKind.i64.wrap ((ix:Nat):Int)=(ix:Int):=(by rw[IntKind.wrap_i64];omega);have u2:=hixI;clear hS hW;simp[execOp,Act.eval,go_sem,u1,u2]) hS ?_
  simp only[zsA,zsB,zsC]
  refine vtk 17 32 (.pointer (some ⟨tb,t0+ix,none⟩)) rfl (fun W hW=>by have u1:(ix:Int)<676:=(by omega);clear hS hW;go_simp) hS ?_
  simp only[zsA,zsB,zsC]
  refine vtk 18 33 (.int .i64 z) rfl (fun W hW=>by have u:=(hW.2.cell (p:=⟨tb,t0+ix,none⟩) (cg HT.out)).trans HT.out;clear hS hW;go_simp) hS ?_
  simp only[zsA,zsB,zsC]
  refine vtk 19 34 (.int .i64 S2) rfl (fun W hW=>by have u1:IntKind.i64.wrap S2=S2:=(by rw[IntKind.wrap_i64];omega);have u2:S+z=S2:=hS2.symm;clear hS hW;simp[execOp,Act.eval,go_sem,u1,u2]) hS ?_
  simp only[zsA,zsB,zsC]
  refine vtk 20 7 (.int .i64 S2) rfl (fun W hW=>by clear hS hW;go_simp) hS ?_
  simp only[zsA,zsB,zsC]
  refine wpAnyH_done (by kernel_rfl) ?_ _
  refine NoPanic.normal ?_
  have HR:=(show Hid _ from hS.1)
  have HB:=(show Hid _ from hS.2)
  clear hS
  go_wp2_with fail
  go_roundw
  case rel=>exact ⟨k+1,by have:=HLT.out;omega,by go_num,by rw[HS2.out],HR.out,HB.out⟩
  case measure=>have:=HLT.out;simp[intOf];omega
end
section
open Go.RowKit PK
section
variable {P:Program}
theorem ir (w:World) (t e:TypeId) (n:Nat) (hn:n*2≤2 ^ 24) (h0:0<n) (hu:P.underlying t=some (.slice e)) (z c:Array Value) (hzs:z.size=n) (hc:c.size=n) (hz:(P.info? e).map (fun i=>(i.zero,i.size))=some (some (.agg z),n)) :
  (Instr.buildSlice t 1 #[(0,.agg c)]).run P w=.ok (.slice (some ⟨w.heap.size,0,none⟩) 1 1) (w.alloc (.cells c e)):=by
 obtain ⟨hz1,hz2⟩:=zero_of_info hz
 cases hq:P.info? e with
 | none=>simp[hq] at hz
 | some i =>
  have hs:i.size=n:=by simpa [hq] using hz2
  have hsz:∀W,(sizeOf e).run P W=.ok n W:=fun W=>by simp[sizeOf,typeInfo,hq,hs]
  have hcc:(Value.agg c).cells=c:=rfl
  have hfill:Instr.fill (fun i=>some (i*n,n)) (tab n fun x=>z[x % n]!) [(0,.agg c)]=some c:=by
   rw[Instr.fill]
   simp only[hcc,hc,ie]
   rw[if_neg (by simp)]
   have hx:=nY n (0*n) c.toList 0 (fun x=>z[x % n]!)
   rw[←Array.foldl_toList,Array.toList_zipIdx,hx]
   show some _=some c
   congr 1
   apply Array.ext_getElem?
   intro i
   by_cases hi:i<n
   ·rw[jj _ hi,if_pos (by simp[hc];omega)]
    simp[List.getD_eq_getElem?_getD,hc,hi]
   ·rw[Array.getElem?_eq_none (by rw[ie];omega),Array.getElem?_eq_none (by omega)]
  have h3:¬(n > 2 ^ 24):=by omega
  have h4:¬(n=0):=by omega
  have hzc:(Value.agg z).cells=z:=rfl
  simp only[Instr.buildSlice,Sem.run_bind,run_underlying hu,Result.andThen_ok,hsz,Nat.one_mul,h3,h4,if_false,hz1,Sem.run_pure,hzc,hzs,vP,hfill]
  simp[newRow]
theorem xR {ops:Array Oper} {rest:List Oper} {op:Oper} {a:Act} {w:World} {Q:Exit→Act→World→Prop} (hgd:op.guard=none) (t e:TypeId) (x:Operand) (ho:op.op=.buildSlice t 1 #[(0,x)])
  (n:Nat) (z c:Array Value) (hx:a.eval x=.agg c) (hn:n*2≤2 ^ 24) (h0:0<n) (hu:P.underlying t=some (.slice e)) (hzs:z.size=n) (hc:c.size=n) (hz:(P.info? e).map (fun i=>(i.zero,i.size))=some (some (.agg z),n))
  (h:wpList P ops Q rest (a.put op.dst (.slice (some ⟨w.heap.size,0,none⟩) 1 1)) (w.alloc (.cells c e))):wpList P ops Q (op :: rest) a w :=
 wpList_plain hgd fun _ hK=>by
  unfold Oper.wp execOp
  have hm:(#[(0,x)]:Array (Nat × Operand)).map (fun (i,x)=>(i,a.eval x))=#[(0,.agg c)]:=by simp[hx]
  simp only[ho,Sem.run_bind,hm,ir w t e n hn h0 hu z c hzs hc hz,Result.andThen_ok]
  exact hK _ _ h
end
theorem iW {P:Program} {fn:Func} {p:Tmp} {ty:TypeId} (h:fn.results=#[.cell p ty]) (tmps:Array Value) (w:World) (g:Nat) (t:TypeId) (cs:Array Value) (fr:Nat × Nat) (d:TypeDesc)
  (hp:tmps.getD p undef=.pointer (some ⟨g,0,none⟩)) (hg:w.heap[g]? = some (.cells cs t fr))
  (hu:P.underlying ty=some d) (hd:(match d with | .struct _ | .array _ _=>true | _=>false)=true) (hi:(P.info? ty).map (·.size)=some cs.size) :
  (results fn tmps).run P w=.ok (.agg cs) w:=by
 have hp':tmps[p]?.getD undef=.pointer (some ⟨g,0,none⟩):=by simpa using hp
 simp[results,h,hp',asAddr,run_loadVar_row w g t ty cs fr d hg hu hd hi]
theorem cS {P:Program} {ops:Array Oper} {rest:List Oper} {op:Oper} {a:Act} {w:World} {Q:Exit→Act→World→Prop} (hgd:op.guard=none) (t:TypeId) (xs:List (Nat × Operand)) (ho:op.op=.build t xs.toArray) (vs:List (Nat × Value)) (hv:xs.map (fun x=>(x.1,a.eval x.2))=vs)
  (cells:Array Value) (hb:P.built t vs=some cells) (h:wpList P ops Q rest (a.put op.dst (.agg cells)) w):wpList P ops Q (op :: rest) a w :=
 wpList_plain hgd fun _ hK=>by
  unfold Oper.wp execOp
  have hm:xs.toArray.map (fun (i,x)=>(i,a.eval x))=vs.toArray:=by rw[←hv];simp
  simp only[ho,Sem.run_bind,hm,run_build w t vs.toArray cells hb,Result.andThen_ok]
  exact hK _ _ h
end
end Go.Proofs.Ytpdemelchhkfaaa
