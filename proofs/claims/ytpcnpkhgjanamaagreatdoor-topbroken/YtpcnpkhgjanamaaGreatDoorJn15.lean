import Derived.Test.YtpcnpkhgjanamaaGreatDoorPz
import Derived.Shelf.Strings.Repeat
import Derived.Test.YtpcnpkhgjanamaaGreatDoorJn14
namespace Go.Proofs.YtpcnpkhgjanamaaGreatDoor
open Go.Proofs.Tryz renaming prog→qf,underlying139→ZY
open Go renaming Value→R2,World→V8,TypeId→Wj,Calls→WA
open Go.Lib renaming byteCells→XL
set_option maxRecDepth 100000
set_option maxHeartbeats 1000000
section
open Go.RowKit PK Vg
structure Sp where
 k:Int
 n:Int
 key:ByteArray
 r:Nat
 L:Nat→Nat
 Z:Nat→Nat→Int
 g:Gm
def eG(k n:Int)(key:ByteArray)(mv a b c:R2)(rf pl:Nat→Int):Array R2:=#[.int .i64 k,.int .i64 n,.string key,mv]++aP a b c rf pl
section
variable(k n:Int)(key:ByteArray)(mv a b c:R2)(rf pl:Nat→Int)
theorem bg:(eG k n key mv a b c rf pl).size=59:=by simp[eG,aD]
theorem xJ:(eG k n key mv a b c rf pl)[0]?=some (.int .i64 k):=by simp[eG,aD]
theorem xp:(eG k n key mv a b c rf pl)[1]?=some (.int .i64 n):=by simp[eG,aD]
theorem xV:(eG k n key mv a b c rf pl)[2]?=some (.string key):=by simp[eG,aD]
theorem AZ:(eG k n key mv a b c rf pl)[3]?=some mv:=by simp[eG,aD]
theorem pz(i:Nat):(eG k n key mv a b c rf pl)[4+i]?=(aP a b c rf pl)[i]?:=by
 unfold eG;rw[Yq,V9 vsi];simp
end
theorem mU{a b c:R2}{rf pl:Nat→Int}(ha:a.oneCell'=true)(hb:b.oneCell'=true)(hc:c.oneCell'=true):(aP a b c rf pl).all (·.oneCell')=true:=by
 unfold aP;rw[Array.all_append,Array.all_append,aI,aI];simp[ha,hb,hc]
theorem eU{k n:Int}{key:ByteArray}{mv a b c:R2}{rf pl:Nat→Int}(hm:mv.oneCell'=true)(ha:a.oneCell'=true)(hb:b.oneCell'=true)(hc:c.oneCell'=true):(eG k n key mv a b c rf pl).all (·.oneCell')=true:=by
 unfold eG;rw[Array.all_append,mU ha hb hc];have h1:(Value.int .i64 k).oneCell'=true:=rfl;have h2:(Value.int .i64 n).oneCell'=true:=rfl;have h3:(Value.string key).oneCell'=true:=rfl;simp[hm,h1,h2,h3]
theorem bY:(qf.info? 37).map (·.size)=some 59:=vkr
theorem zX:(qf.info? 37).map (·.zero)=some (some (.agg (eG 0 0 ⟨#[]⟩ (.slice none 0 0) (.slice none 0 0) (.slice none 0 0) (.slice none 0 0) (fun _=>0) (fun _=>0)))):=vkr
def gW(W:V8)(v:R2)(s:Sp):Prop:=∃mv a b c,v=.agg (eG s.k s.n s.key mv a b c s.g.rf s.g.pl)∧pE W mv s.r s.L s.Z∧cA W a s.g.n s.g.wi s.g.nl s.g.no∧aq W b s.g.rl s.g.ri∧aq W c s.g.sl s.g.st
theorem gW.below{w w':V8}{v:R2}{s:Sp}(h:gW w v s)(hb:Below w.heap.size w w'):gW w' v s:=by
 obtain⟨mv,a,b,c,rfl,h1,h2,h3,h4⟩:=h;exact⟨mv,a,b,c,rfl,h1.below hb,h2.below hb,h3.below hb,h4.below hb⟩
def kK(W:V8)(v:R2)(n:Nat)(l:Nat→Sp):Prop:=
 ∃(a:Option Addr) (cap:Nat) (R:Nat→Array R2),v=.slice a n cap∧n≤maxLen∧(∀i,i<n→∃b o,a=some ⟨b,o,none⟩∧W.rangeAt b (o+i*59) (R i).toList)∧∀i,i<n→gW W (.agg (R i)) (l i)
theorem kK.below{w w':V8}{v:R2}{n:Nat}{l:Nat→Sp}(h:kK w v n l)(hb:Below w.heap.size w w'):kK w' v n l:=by
 obtain⟨a,cap,R,h1,h2,h3,h4⟩:=h;refine⟨a,cap,R,h1,h2,fun i hi=>?_,fun i hi=>(h4 i hi).below hb⟩;obtain⟨b,o,e,hc⟩:=h3 i hi;exact⟨b,o,e,b7 hc hb⟩
def FT(n lo hi:Int):Int:=if n<lo∨hi<n then 3 else 0
def jW(l:List UInt8):Int:=if gx l≠0 then gx l else if l.length<1∨256<l.length then 5 else 0
def ni(s:Sp):Int:=
 if s.k=1 then FT s.n 0 25 else if s.k=2 then(if FT s.n 1 4≠0 then FT s.n 1 4 else jW s.key.data.toList)
 else if s.k=3 then FT s.n 1 64 else if s.k=4 then jW s.key.data.toList else if s.k=5 then St s.r s.L s.Z else if s.k=6 then gE s.g else 1
def nM(l:Nat→Sp):Nat→Option Nat
 |0=>none
 |m+1=>match nM l m with
  |some i=>some i
  |none=>if ni (l m)=0 then none else some m
theorem nk{l:Nat→Sp}:∀{m:Nat},nM l m=none→∀i,i<m→ni (l i)=0
 |0,_,i,hi=>by omega
 |m+1,h,i,hi=>by
  unfold nM at h;cases hm:nM l m with
  |some x=>rw[hm]at h;cases h
  |none=>
   rw[hm]at h;by_cases e:ni (l m)=0
   ·by_cases hi2:i=m
    ·rw[hi2];exact e
    ·exact nk hm i vom
   ·simp only[V9 e]at h;cases h
theorem Ca{l:Nat→Sp}:∀{m:Nat},(∀i,i<m→ni (l i)=0)→nM l m=none
 |0,_=>rfl
 |m+1,h=>by unfold nM;rw[Ca (fun i hi=>h i vom)];simp only[Wc (h m vom)]
theorem qH{l:Nat→Sp}:∀{m i:Nat},nM l m=some i→i<m∧ni (l i)≠0∧∀j,j<i→ni (l j)=0
 |0,i,h=>by cases h
 |m+1,i,h=>by
  unfold nM at h;cases hm:nM l m with
  |some x=>rw[hm]at h;cases h;obtain⟨h1,h2⟩:=qH hm;exact⟨vom,h2⟩
  |none=>
   rw[hm]at h;by_cases e:ni (l m)=0
   ·simp only[Wc e]at h;cases h
   ·simp only[V9 e]at h;cases h;exact⟨vom,e,fun j hj=>nk hm j hj⟩
theorem NO{l:Nat→Sp}{m i:Nat}(hi:i<m)(h0:∀j,j<i→ni (l j)=0)(h:ni (l i)≠0):nM l m=some i:=by
 cases hm:nM l m with
 |none=>exact absurd (nk hm i hi) h
 |some j=>
  obtain⟨h1,h2,h3⟩:=qH hm;by_cases hj:j<i
  ·exact absurd (h0 j hj) h2
  ·by_cases hji:i<j
   ·exact absurd (h3 i hji) h
   ·rw[show j=i by omega]
def yE(n:Nat)(l:Nat→Sp):Int:=if 64<n then 5 else((nM l n).map fun i=>ni (l i)).getD 0
def Pt(n:Nat)(l:Nat→Sp):Nat:=if 64<n then 0 else(nM l n).getD 0
theorem ua{n:Nat}{l:Nat→Sp}(h:yE n l=0):n≤64∧∀i,i<n→ni (l i)=0:=by
 unfold yE at h;by_cases hn:64<n
 ·rw[Wc hn]at h;cases h
 ·rw[V9 hn]at h
  refine⟨vom,?_⟩;cases hm:nM l n with
  |none=>exact nk hm
  |some i=>rw[hm]at h;exact absurd h (qH hm).2.1
theorem Re(n lo hi:Int)(h1:¬n<lo)(h2:¬hi<n)(w:V8):WA qf 76 #[.int .i64 n,.int .i64 lo,.int .i64 hi] w fun e w'=>e=.returned (.int .i64 0)∧w'=w:=by
 go_enter Tryz.func76,Tryz.ntmps76;go_wp2;go_ret;exact⟨rfl,rfl⟩
theorem Nu(n lo hi:Int)(h1:n<lo)(w:V8):WA qf 76 #[.int .i64 n,.int .i64 lo,.int .i64 hi] w fun e w'=>e=.returned (.int .i64 3)∧w'=w:=by
 go_enter Tryz.func76,Tryz.ntmps76;go_wp2;go_ret;exact⟨rfl,rfl⟩
theorem KH(n lo hi:Int)(h1:¬n<lo)(h2:hi<n)(w:V8):WA qf 76 #[.int .i64 n,.int .i64 lo,.int .i64 hi] w fun e w'=>e=.returned (.int .i64 3)∧w'=w:=by
 go_enter Tryz.func76,Tryz.ntmps76;go_wp2;go_ret;exact⟨rfl,rfl⟩
theorem EI(n lo hi:Int)(w:V8):WA qf 76 #[.int .i64 n,.int .i64 lo,.int .i64 hi] w fun e w'=>e=.returned (.int .i64 (FT n lo hi))∧w'=w:=by
 unfold FT;by_cases h1:n<lo
 ·rw[Wc (.inl h1)];exact Nu n lo hi h1 w
 ·by_cases h2:hi<n
  ·rw[Wc (.inr h2)];exact KH n lo hi h1 h2 w
  ·rw[V9 (fun h=>h.elim h1 h2)];exact Re n lo hi h1 h2 w
theorem Ml(s:ByteArray)(w:V8):WA qf 77 #[.string s] w fun e w'=>e=.returned (.int .i64 (jW s.data.toList))∧Below w.heap.size w w':=by
 obtain⟨X,hX⟩:∃X,X=jW s.data.toList:=⟨_,rfl⟩
 rw[←hX];have HX:Hid (X=jW s.data.toList):=hX;have hl:=Pl.aN s;have HL:Hid (s.data.toList.length=s.size):=by rw[Hid,hl]
 have HC:Hid _:=fJ s w;generalize hce:gx s.data.toList=c at *;generalize nK s.data.toList=ca at *;have a:Hid (gx s.data.toList=c):=hce;clear hX hl hce;go_enter Tryz.func77,Tryz.ntmps77
 go_wp2_with fail
 refine We HC.out ?_;rintro e V ⟨rfl,hb⟩;have b:=hb;have HB:Hid (Below w.heap.size w (V.alloc (.cells #[.int .i64 c,.int .i64 ca] 26))):=b.alloc b.size _;clear hb b;by_cases hc0:c=0
 ·subst hc0
  by_cases h1:s.size<1
  ·have HE:Hid (X=5):=by rw[Hid,HX.out];unfold jW;rw[V9 (fun h=>h a.out),Wc (.inl (by rw[HL.out];exact h1))]
   have f:(s.size:Int)<1:=vom;go_wp2;go_ret;exact⟨by rw[HE.out];rfl,HB.out⟩
  ·have f:¬(s.size:Int)<1:=vom
   by_cases h2:256<s.size
   ·have HE:Hid (X=5):=by rw[Hid,HX.out];unfold jW;rw[V9 (fun h=>h a.out),Wc (.inr (by rw[HL.out];exact h2))]
    have d:256<(s.size:Int):=vom;go_wp2;go_ret;exact⟨by rw[HE.out];rfl,HB.out⟩
   ·have HE:Hid (X=0):=by rw[Hid,HX.out];unfold jW;rw[V9 (fun h=>h a.out),V9 (by rw[HL.out];omega)]
    have d:¬256<(s.size:Int):=vom;go_wp2;go_ret;exact⟨by rw[HE.out];rfl,HB.out⟩
 ·have g:(c != 0)=true:=by simpa using hc0
  have HE:Hid (X=c):=by rw[Hid,HX.out];unfold jW;rw[Wc (by rw[a.out];exact hc0),a.out]
  clear hc0;go_wp2;go_ret;exact⟨by rw[HE.out];rfl,HB.out⟩
theorem vN:(qf.info? 35).map (·.size)=some 55:=vkr
theorem gW.cells{W:V8}{R:Array R2}{s:Sp}(h:gW W (.agg R) s):R.size=59∧R.all (·.oneCell')=true:=by
 obtain⟨mv,a,b,c,e,hm,hw,f,d⟩:=h;have e2:=Value.agg.inj e;have h1:mv.oneCell'=true:=by obtain⟨_,_,_,e,_⟩:=hm;rw[e];rfl
 have h2:a.oneCell'=true:=by obtain⟨_,_,_,e,_⟩:=hw;rw[e];rfl
 have h3:b.oneCell'=true:=by obtain⟨_,_,e,_⟩:=f;rw[e];rfl
 have h4:c.oneCell'=true:=by obtain⟨_,_,e,_⟩:=d;rw[e];rfl
 rw[e2];exact⟨bg _ _ _ _ _ _ _ _ _,eU h1 h2 h3 h4⟩
def fn0(k:Nat):Nat:=if k=2 then 141 else if k=3 then 140 else 139
def qA(k:Nat):Nat:=if k=2 then 139 else if k=3 then 140 else 141
end
namespace Sm
def LL(K:Int→Int)(x y:Int):Prop:=K x<K y∨(K x=K y∧x<y)
def Ui(K:Int→Int)(d:Nat→Int)(a b:Nat):Prop:=∀p q,a≤p→p<q→q<b→LL K (d p) (d q)
def Vj(K:Int→Int)(n:Nat)(d:Nat→Int):Prop:=∀p q,p<q→q<n→K (d p)=K (d q)→d p<d q
def Mv(a b:Nat)(d d':Nat→Int):Prop:=
 ∃p r:Nat→Nat,(∀i,r (p i)=i)∧(∀i,p (r i)=i)∧(∀i,d' i=d (p i))∧∀i,¬(a≤i∧i<b)→p i=i
structure Done(K:Int→Int)(n a b:Nat)(d d':Nat→Int):Prop where
 mv:Mv a b d d'
 VY:Vj K n d'
 V7:Ui K d' a b
structure Order(n:Nat)(d:Nat→Int):Prop where
 lt:∀i,i<n→0≤d i∧d i<n
 inj:∀i j,i<n→j<n→d i=d j→i=j
 VV:∀x:Int,0≤x→x<n→∃i,i<n∧d i=x
end Sm
namespace Qm
def it(f:Nat→Nat):Nat→Nat→Nat
 |0,i=>i
 |k+1,i=>f (it f k i)
def left(g:Nat→Bool):Nat→Nat
 |0=>0
 |n+1=>left g n+(if g n then 0 else 1)
structure Walk(n:Nat)(f:Nat→Nat)(g0:Nat→Bool)(i k:Nat)(g:Nat→Bool):Prop where
 mark:∀x,x<n→(g x=true↔g0 x=true∨∃j,j<k∧x=it f j i)
 fresh:∀j,j<k→g0 (it f j i)=false
 apart:∀j j',j<j'→j'<k→it f j i≠it f j' i
def Closed(n:Nat)(f:Nat→Nat)(g:Nat→Bool):Prop:=∀x,x<n→g (f x)=g x
end Qm
section
open Go.RowKit PK
theorem CZ:(qf.info? 3).map (fun i=>(i.zero,i.size,i.bytes))=some (some (.int .i64 0),1,8):=vkr
theorem tU(z:R2)(n:Nat):madeCells #[z] n=bJ n fun _=>z:=by
 unfold madeCells bJ;apply Array.ext
 ·simp
 ·intro i h1 h2
  simp[Nat.mod_one]
theorem uf(n:Nat):(bJ n fun _=>.int .i64 0)=ints n fun _=>0:=rfl
end
namespace Sm
def TX(rails i:Nat):Nat:=if rails=1 then 0 else min (i % (2*(rails-1))) (2*(rails-1)-i % (2*(rails-1)))
end Sm
section
open Go.RowKit PK
theorem BF:(qf.info? 5).map (fun i=>(i.zero,i.size,i.bytes))=some (some (.int .u8 0),1,1):=vkr
def Uh(n:Nat)(f:Nat→Int)(l:List UInt8):List UInt8:=(List.range n).map fun i=>l.getD (f i).toNat 0
def qn(n:Nat)(g:Nat→UInt8):Array R2:=bJ n fun i=>.int .u8 (g i).toNat
theorem IZ(n:Nat)(g:Nat→UInt8)(i:Nat)(b:UInt8):(qn n g).setIfInBounds i (.int .u8 b.toNat)=qn n (upd g i b):=by
 unfold qn;rw[dY];exact cy fun j _=>by by_cases e:j=i<;>simp[upd,e]
theorem IN{n:Nat}(g:Nat→UInt8){i:Nat}(h:i<n):(qn n g)[i]?=some (.int .u8 (g i).toNat):=aM _ h
theorem Gt(n:Nat):(bJ n fun _=>.int .u8 0)=qn n fun _=>0:=rfl
theorem oy{P:Program}(w:V8)(src dst e:Wj)(hs:P.underlying src=some (.slice e))(he:P.underlying e=some (.int .u8))(hd:P.underlying dst=some .string)
  {g n cap:Nat} {T:Wj} {l:List UInt8} (hn:l.length=n) (h:af w g T (XL l).toArray):(convert src dst (.slice (some ⟨g,0,none⟩) n cap)).run P w=.ok (.string ⟨l.toArray⟩) w:=by
 subst hn;rw[run_convert_bytes_string w src dst e _ _ _ hs he hd]
 have hl:=run_loadCells_list (P:=P) (w:=w) ⟨g,0,none⟩ (XL l) (fun j v hv=>by
  have e:((⟨g,0,none⟩:Addr).add j)=⟨g,j,none⟩:=by unfold Addr.add;by_cases e0:j=0<;>simp[e0]
  rw[e];exact h.cell (by simpa using hv))
 rw[Lib.byteCells_length]at hl;have e1:XL l=(l.map fun b=>(b.toNat:Int)).map (Value.int .u8):=by simp[XL]
 rw[e1]at hl;rw[run_bytesToString w _ _ _ _ hl,Kit.foldl_push];simp
def PI(f:Nat→Int):Nat→Nat→Int
 |0=>fun _=>0
 |m+1=>upd (PI f m) (f m).toNat m
end
section
open Go.RowKit PK Sm
def M7(R:Nat):Int→Int:=fun z=>(TX R z.toNat:Nat)
def Ve(l:List UInt8):Int→Int:=fun z=>((l.getD z.toNat 0).toNat:Nat)
def Ta(L:Nat)(t:Nat→Int):Int→Int:=fun z=>t (z.toNat % L)
structure Tj(l:List UInt8)(L:Nat)(t:Nat→Int):Prop where
 ex:∃d,Order L d∧Ui (Ve l) d 0 L∧∀x,t x=PI d L x
end
section
open Go.RowKit PK Vg
def MX(sU:Nat)(c:UInt8):UInt8:=oB ((Vg.num c+sU) % 26)
def Jo(sU:Nat)(l:List UInt8):List UInt8:=l.map (MX sU)
def PN(sU:Nat)(l:List UInt8)(m:Nat):Nat→UInt8:=fun i=>if i<m then MX sU (l.getD i 0)else 0
theorem JS(b:Nat)(l:List UInt8)(m:Nat):upd (PN b l m) m (MX b (l.getD m 0))=PN b l (m+1):=by
 funext i
 unfold upd PN;by_cases h:i=m
 ·rw[Wc h,Wc vom,h]
 ·rw[V9 h]
  by_cases h2:i<m
  ·rw[Wc h2,Wc vom]
  ·rw[V9 h2,V9 vom]
theorem om(b:Nat)(l:List UInt8):(Jo b l).length=l.length:=by simp[Jo]
theorem OY(b:Nat)(l:List UInt8):qn l.length (PN b l l.length)=(XL (Jo b l)).toArray:=by
 unfold qn bJ XL Jo
 congr 1
 rw[List.map_map];apply List.ext_getElem
 ·simp
 ·intro i h1 h2
  have h3:i<l.length:=by simpa using h1
  simp[PN,h3]
theorem LB(s:ByteArray)(hl:Pl.Lets s.data.toList)(m:Nat)(h:m<s.size):65≤s[m].toNat∧s[m].toNat≤90:=by
 have h2:m<s.data.toList.length:=by rw[←Pl.aN s];exact h
 have e:s.data.toList[m]=s[m]:=rfl;have:=hl s.data.toList[m] (List.getElem_mem _);rw[e]at this;simp[Pl.yA]at this;omega
theorem yf(c:UInt8)(h:65≤c.toNat∧c.toNat≤90)(w:V8):WA qf 80 #[.int .u8 c.toNat] w fun e w'=>e=.returned (.int .i64 (Vg.num c:Nat))∧w=w':=by
 have h1:(c.toNat:Int)-65=((Vg.num c:Nat):Int):=by unfold Vg.num;omega
 have H1:Hid ((c.toNat:Int)-65=((Vg.num c:Nat):Int)):=h1;clear h1;obtain⟨h2,h3⟩:=h;go_enter Tryz.func80,Tryz.ntmps80;go_wp2;go_ret;exact⟨eI H1.out,rfl⟩
theorem Iu(n:Nat)(h:n<26)(w:V8):WA qf 79 #[.int .i64 n] w fun e w'=>e=.returned (.int .u8 (oB n).toNat)∧w=w':=by
 rw[mI h];go_enter Tryz.func79,Tryz.ntmps79;go_wp2;go_ret;exact⟨eI vom,rfl⟩
theorem GD(s:ByteArray)(b:Nat)(hb26:b≤26)(hs:s.size≤65536)(hl:Pl.Lets s.data.toList)(w:V8):
  WA qf 43 #[.string s,.int .i64 (b:Nat)] w fun e w'=>e=.returned (.string ⟨(Jo b s.data.toList).toArray⟩)∧Below w.heap.size w w':=by
 have g:=run_make_row' (P:=qf) 139 5 (.int .u8 0) 1 ZY BF rfl .i64 .i64 s.size vom vom;rw[tU,Gt]at g;have HL:Hid (∀m,(h:m<s.size)→65≤s[m].toNat∧s[m].toNat≤90):=fun m h=>LB s hl m h;have a:Hid (s.data.toList.length=s.size):=by rw[Hid,←Pl.aN s]
 clear hl;go_enter Tryz.func43,Tryz.ntmps43
 go_wp2_with fail
 go_loopw [12] (fun i W=>∃m:Nat,m≤s.size∧i=.int .i64 m∧af W w.heap.size 5 (qn s.size (PN b s.data.toList m))∧Below w.heap.size w W) (fun i _=>((s.size:Int)-intOf i).toNat)
 case atStart=>exact⟨0,vom,rfl,af.new w _ _,(Below.refl _ _).alloc (R3 _) _⟩
 case round=>
  obtain⟨m,hm,rfl,ro,hb⟩:=hrel;by_cases hlt:m<s.size
  ·have c:=HL.out m hlt
   have n:=ro.cell (IN (PN b s.data.toList m) hlt);have t:=ro.frozen m
   have ro2:af (wr.setCell ⟨w.heap.size,m,none⟩ (.int .u8 (MX b s[m]).toNat)) w.heap.size 5 (qn s.size (PN b s.data.toList (m+1))):=by
    have:=ro.set m (.int .u8 (MX b s[m]).toNat);rw[IZ,←fI s m hlt,JS]at this;rw[←fI s m hlt];exact this
   have k:=hb.setCell (p:=⟨w.heap.size,m,none⟩) vsi (.int .u8 (MX b s[m]).toNat);have HN:Hid _:=yf s[m] c wr;have l:=oJ c;have f:Hid _:=Iu ((Vg.num s[m]+b) % 26) vom wr;have j:Hid (MX b s[m]=oB ((Vg.num s[m]+b) % 26)):=rfl;generalize MX b s[m]=C at *;generalize Vg.num s[m]=x at *;have q:((x:Int)+(b:Int))≤60:=vom;have d:((x:Int)+(b:Int)) % 26=(((x+b) % 26:Nat):Int):=vom;rw[←j.out,←d]at f;clear c ro hb d
   go_wp2_with fail
   refine We HN.out ?_;rintro e V ⟨rfl,rfl⟩
   go_wp2_with fail
   refine We f.out ?_;rintro e V ⟨rfl,rfl⟩
   go_wp2_with fail
   exact⟨⟨m+1,vom,by go_num,ro2,k⟩,by simp[intOf];omega⟩
  ·obtain rfl:m=s.size:=vom
   have ro2:af wr w.heap.size 5 (XL (Jo b s.data.toList)).toArray:=by
    rw[←OY,a.out];exact ro
   have o:=oy (P:=qf) wr 139 9 5 ZY Tryz.underlying5 Tryz.underlying9 (cap:=s.size) ((om b s.data.toList).trans a.out) ro2;clear ro;go_wp2;go_ret;exact⟨rfl,hb⟩
end
section
open Go.RowKit PK Vg Sm
def U0(s:Sp)(m:Nat)(d:Nat→Int):Prop:=
 Order m d∧(s.k=3∧Ui (M7 s.n.toNat) d 0 m∨s.k=4∧∃t,Tj s.key.data.toList s.key.size t∧Ui (Ta s.key.size t) d 0 m)
noncomputable def TS(s:Sp)(m:Nat):Nat→Int:=Classical.epsilon (U0 s m)
theorem Bn{n lo hi:Int}:FT n lo hi=0↔lo≤n∧n≤hi:=by
 unfold FT;by_cases h:n<lo∨hi<n
 ·rw[Wc h];constructor
  ·intro h;cases h
  ·omega
 ·rw[V9 h];constructor
  ·omega
  ·intro _;rfl
theorem FG{l:List UInt8}(h:gx l=0):nK l=0∧l.length≤65536∧Pl.Lets l:=by
 rcases lW l with⟨_,h2,h3,h4⟩|h1
 ·exact⟨h2,h3,h4⟩
 ·rw[h]at h1;cases h1
section
variable{s:Sp}(h:ni s=0)
include h
theorem OH(k:s.k=1):0≤s.n∧s.n≤25:=by unfold ni at h;rw[Wc k]at h;exact Bn.1 h
theorem o5(k:s.k=6):gE s.g=0:=by
 unfold ni at h;rw[V9 vom,V9 vom,V9 vom,V9 vom,V9 vom,Wc k]at h;exact h
end
end
section
open Go.RowKit PK
def sumTo(f g:Nat→Int):Nat→Int
 |0=>0
 |k+1=>sumTo f g k+f k*g k
theorem Cv:(qf.info? 3).map (fun i=>(i.zero,i.size,i.bytes))=some (some (.int .i64 0),1,8):=vkr
theorem AK:(qf.info? 31).map (fun i=>(i.zero,i.size,i.bytes))=some (some (.slice none 0 0),1,24):=vkr
def sg(v:Nat→R2)(z:R2)(k:Nat):Nat→R2:=fun i=>if i<k then v i else z
theorem Jy(z:R2)(n:Nat):madeCells #[z] n=bJ n fun _=>z:=by
 unfold madeCells bJ;apply Array.ext
 ·simp
 ·intro i h1 h2
  simp[Nat.mod_one]
def skip(i gone:Nat):Nat:=if i<gone then i else i+1
end
section
open Go.Shelf Go.RowKit PK
shelf_lay Lays.n105 Nm 105 at Tryz as Tryz.laysRepeat
end
section
open Go.RowKit PK
def num(b:UInt8):Int:=(b.toNat:Int)-65
def UO(n:Nat)(Z:Nat→Nat→Int)(full:List UInt8)(i:Nat):Int:=sumTo (Z (i % n)) (fun k=>num (full.getD (i-i % n+k) 0)) n % 26
def Vd(n:Nat)(Z:Nat→Nat→Int)(full:List UInt8)(m:Nat):List UInt8:=(List.range m).map fun i=>UInt8.ofNat (65+(UO n Z full i).toNat)
def flat(P:Nat→Nat→Nat):Nat→Int:=fun i=>(P (i / 26) (i % 26):Nat)
structure rJ(w W:V8)(f:Nat→Int):Prop where
 r:af W w.heap.size 33 (ints 26 fun _=>0)
 o:af W (w.heap.size+1) 33 (ints 26 f)
 below:Below w.heap.size w W
theorem rJ.new(w:V8):rJ w ((w.alloc (.cells (ints 26 fun _=>0) 33)).alloc (.cells (ints 26 fun _=>0) 33)) fun _=>0:=by
 have h3:=af.new (w.alloc (.cells (ints 26 fun _=>0) 33)) 33 (ints 26 fun _=>0);simp only[WI]at h3;exact⟨(af.new w _ _).alloc _,h3,((Below.refl _ w).alloc (R3 _) _).alloc (by simp only[WI];omega) _⟩
theorem rJ.set{w W:V8}{f:Nat→Int}(h:rJ w W f)(i:Nat)(v:Int):rJ w (W.setCell ⟨w.heap.size+1,i,none⟩ (.int .i64 v)) (upd f i v):=by
 refine⟨h.r.setOther _ _ vsi,?_,h.below.setCell (p:=⟨w.heap.size+1,i,none⟩) vsi _⟩;have:=h.o.set i (.int .i64 v);rw[ints_set]at this;exact this
theorem j4{P:Program}{fn:Func}{p:Tmp}{ty:Wj}(h:fn.results=#[.cell p ty])(tmps:Array R2)(w:V8)(g:Nat)(t:Wj)(cs:Array R2)(fr:Nat×Nat)(d:TypeDesc)
  (hp:tmps.getD p undef=.pointer (some ⟨g,0,none⟩)) (hg:w.heap[g]?=some (.cells cs t fr))
  (hu:P.underlying ty=some d) (hd:(match d with|.struct _|.array _ _=>true|_=>false)=true) (hi:(P.info? ty).map (·.size)=some cs.size) :
  (results fn tmps).run P w=.ok (.agg cs) w:=by
 have a:tmps[p]?.getD undef=.pointer (some ⟨g,0,none⟩):=by simpa using hp
 simp[results,h,a,asAddr,run_loadVar_row w g t ty cs fr d hg hu hd hi]
end
end Go.Proofs.YtpcnpkhgjanamaaGreatDoor
