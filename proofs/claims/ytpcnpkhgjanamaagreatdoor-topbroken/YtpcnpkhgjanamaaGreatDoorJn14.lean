import Derived.Test.YtpcnpkhgjanamaaGreatDoorPz
import Derived.Deep.Upon
import Derived.Test.YtpcnpkhgjanamaaGreatDoorJn13
namespace Go.Proofs.YtpcnpkhgjanamaaGreatDoor
open Go.Proofs.Tryz renaming prog→qf,underlying33→Wp,underlying154→X0
open Go renaming Value→R2,World→V8,TypeId→Wj,Calls→WA
set_option maxRecDepth 100000
set_option maxHeartbeats 2000000
section
open Go.RowKit PK
theorem Ei:qf.built 33 []=some (ints 26 fun _=>0):=vkr
namespace Om
open Pm
def bk(M:Ma)(at':Nat→Nat):Nat→Nat→Nat
 |0,c=>c
 |k+1,c=>eZ (inv (M.wi k)) (sU M at' k) (bk M at' k c)
theorem Bt(p:Nat→Nat)(b c:Nat):eZ p b c<26:=X8 _ vde
theorem Fo{M:Ma}(at':Nat→Nat){c:Nat}(hc:c<26):∀k,bk M at' k c<26
 |0=>hc
 |_+1=>Bt _ _ _
theorem uh{M:Ma}(at':Nat→Nat){c:Nat}(hc:c<26):∀k,through M at' k c<26
 |0=>hc
 |_+1=>Bt _ _ _
theorem Hg{p:Nat→Nat}(hp:aC p){b c:Nat}(hb:b<26)(hc:c<26):eZ p b (eZ (inv p) b c)=c:=by
 have h1:=hp.fo ((c+b) % 26) (X8 _ vde);unfold eZ
 have e:((inv p ((c+b) % 26)+26-b) % 26+b) % 26=inv p ((c+b) % 26):=by
  have:=h1.1;omega
 rw[e,h1.2];omega
theorem vI{M:Ma}(h:Ok M)(at':Nat→Nat){c:Nat}(hc:c<26):∀k,k≤M.n→through M at' k (bk M at' M.n c)=bk M at' (M.n-k) c
 |0,_=>rfl
 |k+1,hk=>by
  show eZ (M.wi (M.n-1-k)) (sU M at' (M.n-1-k)) (through M at' k (bk M at' M.n c))=_;rw[vI h at' hc k vom,show M.n-k=(M.n-1-k)+1 by omega,show M.n-(k+1)=M.n-1-k by omega];exact Hg (h.wi _ vom) (EJ _ _ _) (Fo at' hc _)
theorem RU{M:Ma}(h:Ok M)(at':Nat→Nat){c:Nat}(hc:c<26):now M at' c=M.pl (bk M at' M.n (M.rf (through M at' M.n (M.pl c)))):=by
 have hp:=fy h at';have h1:there M at' c<26:=hp.1 c hc;have h2:=h.rf.1 _ h1;have h3:=Fo (M:=M) at' h2 M.n;unfold now;refine oC hp (h.pl.1 _ h3) ?_;show through M at' M.n (M.pl (M.pl (bk M at' M.n (M.rf (there M at' c)))))=M.rf (there M at' c);rw[h.zD _ h3,vI h at' h2 M.n (R3 _),Nat.sub_self]
 rfl
def mid(M:Ma)(at':Nat→Nat)(k:Nat):Nat→Nat:=fun i=>if k≤i then step M at' i else at' i
theorem tD(M:Ma)(at':Nat→Nat){k i:Nat}(h:i<k):mid M at' k i=at' i:=V9 vom
theorem AJ{M:Ma}{at':Nat→Nat}{k:Nat}(h:turns M at' k=true):upd (mid M at' (k+1)) k ((at' k+1) % 26)=mid M at' k:=by
 funext i
 unfold upd mid;by_cases e:i=k
 ·subst e
  rw[Wc rfl,Wc (R3 _)];unfold step;rw[Wc h]
 ·rw[V9 e]
  by_cases e2:k≤i
  ·rw[Wc e2,Wc vom]
  ·rw[V9 e2,V9 vom]
theorem Bx{M:Ma}{at':Nat→Nat}{k:Nat}(h:turns M at' k=false):mid M at' (k+1)=mid M at' k:=by
 funext i
 unfold mid;by_cases e:i=k
 ·subst e
  rw[V9 vom,Wc (R3 _)];unfold step;rw[h]
  rfl
 ·by_cases e2:k≤i
  ·rw[Wc e2,Wc vom]
  ·rw[V9 e2,V9 vom]
theorem OV(M:Ma)(at':Nat→Nat):mid M at' 0=step M at':=by
 funext i
 unfold mid;rw[Wc (XE _)]
def SI(M:Ma)(at':Nat→Nat)(k:Nat):Bool:=k==M.n||(M.no k).contains (at' k)
theorem yb(M:Ma)(at':Nat→Nat)(k:Nat):turns M at' k=(SI M at' (k+1)||(decide (0<k)&&(M.no k).contains (at' k))):=rfl
theorem OO(M:Ma)(at':Nat→Nat):SI M at' M.n=true:=by simp[SI]
theorem LP{M:Ma}(at':Nat→Nat){k:Nat}(h:k<M.n):SI M at' k=(M.no k).contains (at' k):=by
 unfold SI;rw[show(k==M.n)=false from XR vom]
 rfl
end Om
def Dw(p b:Nat→Nat)(no:Nat→Bool)(ri at':Nat)(r:Nat):R2:=
 if r<26 then .int .i64 (p r:Nat)else if r<52 then .int .i64 (b (r-26):Nat)else if r<78 then .bool (no (r-52))else if r=78 then .int .i64 (ri:Nat)else .int .i64 (at':Nat)
def nU(p b:Nat→Nat)(no:Nat→Bool)(ri at':Nat):Array R2:=bJ 80 (Dw p b no ri at')
theorem jz(p b:Nat→Nat)(no:Nat→Bool)(ri at':Nat):(nU p b no ri at').size=80:=aU _ _
theorem zi(p b:Nat→Nat)(no:Nat→Bool)(ri at':Nat):(nU p b no ri at').all (·.oneCell')=true:=by
 rw[WJ];intro v hv;simp[nU,bJ]at hv;obtain⟨i,_,rfl⟩:=hv;unfold Dw;split
 ·rfl
 split
 ·rfl
 split
 ·rfl
 split<;>rfl
theorem RH(p b:Nat→Nat)(no:Nat→Bool)(ri at':Nat){k:Nat}(hk:k<26):(nU p b no ri at').setIfInBounds (52+k) (.bool true)=nU p b (upd no k true) ri at':=by
 unfold nU;rw[dY];refine cy fun i hi=>?_;by_cases e:i=52+k
 ·subst e
  rw[upd_same];unfold Dw;rw[V9 vom,V9 vom,Wc vom,show 52+k-52=k by omega,upd_same]
 ·rw[cH _ _ e]
  unfold Dw;by_cases h:52≤i∧i<78
  ·rw[V9 vom,V9 vom,Wc h.2,V9 vom,V9 vom,Wc h.2,cH _ _ vom]
  ·split
   ·rfl
   split
   ·rfl
   have a:¬i<78:=vom;rw[V9 a,V9 a]
def vc(M:Om.Ma)(at':Nat→Nat)(m:Nat)(i:Nat):R2:=
 if i<320 then(if i / 80<m then Dw (M.wi (i / 80)) (Pm.inv (M.wi (i / 80))) (fun c=>(M.no (i / 80)).contains c) (M.ri (i / 80)) (at' (i / 80)) (i % 80)else Dw (fun _=>0) (fun _=>0) (fun _=>false) 0 0 (i % 80))
 else if i=320 then .int .i64 (M.n:Nat)else if i<347 then .int .i64 (M.rf (i-321):Nat)else .int .i64 (M.pl (i-347):Nat)
def eX(M:Om.Ma)(at':Nat→Nat)(m:Nat):Array R2:=bJ 373 (vc M at' m)
theorem mR(M:Om.Ma)(at':Nat→Nat)(m:Nat):(eX M at' m).size=373:=aU _ _
section
variable{M:Om.Ma}{at':Nat→Nat}{m:Nat}
theorem jG{q r:Nat}(hq:q<m)(hm:m≤4)(hr:r<80):(eX M at' m)[q*80+r]?=some (Dw (M.wi q) (Pm.inv (M.wi q)) (fun c=>(M.no q).contains c) (M.ri q) (at' q) r):=by
 unfold eX;rw[aM _ vom];unfold vc;rw[Wc vom,show(q*80+r) / 80=q by omega,show(q*80+r) % 80=r by omega,Wc hq]
theorem Iz{q c:Nat}(hq:q<m)(hm:m≤4)(hc:c<26):(eX M at' m)[q*80+c]?=some (.int .i64 (M.wi q c:Nat)):=by
 rw[jG hq hm vom];unfold Dw;rw[Wc hc]
theorem J2{q c:Nat}(hq:q<m)(hm:m≤4)(hc:c<26):(eX M at' m)[q*80+26+c]?=some (.int .i64 (Pm.inv (M.wi q) c:Nat)):=by
 rw[XS,jG hq hm vom];unfold Dw;rw[V9 vom,Wc vom,show 26+c-26=c by omega]
theorem Su{q c:Nat}(hq:q<m)(hm:m≤4)(hc:c<26):(eX M at' m)[q*80+52+c]?=some (.bool ((M.no q).contains c)):=by
 rw[XS,jG hq hm vom];unfold Dw;rw[V9 vom,V9 vom,Wc vom,show 52+c-52=c by omega]
theorem SC{q:Nat}(hq:q<m)(hm:m≤4):(eX M at' m)[q*80+78]?=some (.int .i64 (M.ri q:Nat)):=by
 rw[jG hq hm vom];unfold Dw;rw[V9 vom,V9 vom,V9 vom,Wc rfl]
theorem RV{q:Nat}(hq:q<m)(hm:m≤4):(eX M at' m)[q*80+79]?=some (.int .i64 (at' q:Nat)):=by
 rw[jG hq hm vom];unfold Dw;rw[V9 vom,V9 vom,V9 vom,V9 vom]
theorem TQ:(eX M at' m)[320]?=some (.int .i64 (M.n:Nat)):=by
 unfold eX;rw[aM _ vom];unfold vc;rw[V9 vom,Wc rfl]
theorem R5{c:Nat}(hc:c<26):(eX M at' m)[321+c]?=some (.int .i64 (M.rf c:Nat)):=by
 unfold eX;rw[aM _ vom];unfold vc;rw[V9 vom,V9 vom,Wc vom,show 321+c-321=c by omega]
theorem QU{c:Nat}(hc:c<26):(eX M at' m)[347+c]?=some (.int .i64 (M.pl c:Nat)):=by
 unfold eX;rw[aM _ vom];unfold vc;rw[V9 vom,V9 vom,V9 vom,show 347+c-347=c by omega]
theorem Pb{q:Nat}(hq:q<m)(v:Nat):(eX M at' m).setIfInBounds (q*80+79) (.int .i64 (v:Nat))=eX M (upd at' q v) m:=by
 unfold eX;rw[dY];refine cy fun i hi=>?_;by_cases e:i=q*80+79
 ·subst e
  rw[upd_same];unfold vc;rw[Wc vom,show(q*80+79) / 80=q by omega,show(q*80+79) % 80=79 by omega,Wc hq];unfold Dw;rw[V9 vom,V9 vom,V9 vom,V9 vom,upd_same]
 ·rw[cH _ _ e]
  unfold vc;by_cases h1:i<320
  ·rw[Wc h1,Wc h1]
   by_cases h2:i / 80<m
   ·rw[Wc h2,Wc h2]
    by_cases h3:i / 80=q
    ·have h4:i % 80≠79:=vom
     have h5:i % 80<79:=vom;generalize i % 80=r at h4 h5;unfold Dw;split
     ·rfl
     split
     ·rfl
     split
     ·rfl
     rw[Wc vom,Wc vom]
    ·rw[cH _ _ h3]
   ·rw[V9 h2,V9 h2]
  ·rw[V9 h1,V9 h1]
end
structure bP(W:V8)(b:Nat)(M:Om.Ma)(at':Nat→Nat):Prop where
 row:af W b 172 (eX M at' M.n)
 ok:Om.Ok M
 ins:Om.TK M at'
section
variable{w W:V8}{b:Nat}{M:Om.Ma}{at':Nat→Nat}
theorem bP.below(h:bP w b M at')(hb:Below w.heap.size w W):bP W b M at':=⟨h.row.below hb h.row.lt,h.ok,h.ins⟩
theorem bP.alloc(h:bP w b M at')(o:Obj):bP (w.alloc o) b M at':=⟨h.row.alloc o,h.ok,h.ins⟩
theorem bP.drew(h:bP w b M at'):bP w.drew b M at':=⟨h.row,h.ok,h.ins⟩
theorem bP.there(h:bP w b M at'){q c:Nat}(hq:q<M.n)(hc:c<26):w.cell? ⟨b,q*80+c,none⟩=some (.int .i64 (M.wi q c:Nat)):=h.row.cell (Iz hq h.ok.most hc)
theorem bP.back(h:bP w b M at'){q c:Nat}(hq:q<M.n)(hc:c<26):w.cell? ⟨b,q*80+26+c,none⟩=some (.int .i64 (Pm.inv (M.wi q) c:Nat)):=h.row.cell (J2 hq h.ok.most hc)
theorem bP.no(h:bP w b M at'){q c:Nat}(hq:q<M.n)(hc:c<26):w.cell? ⟨b,q*80+52+c,none⟩=some (.bool ((M.no q).contains c)):=h.row.cell (Su hq h.ok.most hc)
theorem bP.ring(h:bP w b M at'){q:Nat}(hq:q<M.n):w.cell? ⟨b,q*80+78,none⟩=some (.int .i64 (M.ri q:Nat)):=h.row.cell (SC hq h.ok.most)
theorem bP.Ee(h:bP w b M at'){q:Nat}(hq:q<M.n):w.cell? ⟨b,q*80+79,none⟩=some (.int .i64 (at' q:Nat)):=h.row.cell (RV hq h.ok.most)
theorem bP.many(h:bP w b M at'):w.cell? ⟨b,320,none⟩=some (.int .i64 (M.n:Nat)):=h.row.cell TQ
theorem bP.refl(h:bP w b M at'){c:Nat}(hc:c<26):w.cell? ⟨b,321+c,none⟩=some (.int .i64 (M.rf c:Nat)):=h.row.cell (R5 hc)
theorem bP.R9(h:bP w b M at'){c:Nat}(hc:c<26):w.cell? ⟨b,347+c,none⟩=some (.int .i64 (M.pl c:Nat)):=h.row.cell (QU hc)
theorem bP.iB(h:bP w b M at'){q:Nat}(hq:q<M.n){v:Nat}(hv:v<26):bP (w.setCell ⟨b,q*80+79,none⟩ (.int .i64 (v:Nat))) b M (upd at' q v):=⟨by
 have:=h.row.set (q*80+79) (.int .i64 (v:Nat));rw[Pb hq]at this
 exact this,h.ok,fun i hi=>by
  unfold upd;by_cases e:i=q
  ·rw[Wc e];exact hv
  ·rw[V9 e];exact h.ins i hi⟩
end
theorem JH{n:Nat}{f:Nat→Int}{k:Nat}(hk:k<n)(h:f k<0∨25<f k):ins n f=false:=by
 cases e:ins n f with
 |false=>rfl
 |true=>have:=(nt n f).1 e k hk;omega
end
section
open Go.RowKit PK Vg
def Ko(n:Int):Bool:=decide (0≤n∧n≤25)
theorem nW(c:Int)(w:V8):WA qf 129 #[.int .i64 c] w fun e w'=>e=.returned (.bool (Ko c))∧w=w':=by
 by_cases h1:0≤c
 ·by_cases h2:c<26
  ·have e:Ko c=true:=by simp[Ko];omega
   go_enter Tryz.func129,Tryz.ntmps129;go_wp2;go_ret;exact⟨by rw[e];rfl,rfl⟩
  ·have e:Ko c=false:=by simp[Ko];omega
   go_enter Tryz.func129,Tryz.ntmps129;go_wp2;go_ret;exact⟨rfl,rfl⟩
 ·have e:Ko c=false:=by simp[Ko];omega
  go_enter Tryz.func129,Tryz.ntmps129;go_wp2;go_ret;exact⟨rfl,rfl⟩
theorem iO(v:R2)(n:Nat)(f:Nat→Int)(w:V8)(hv:aq w v n f):WA qf 98 #[v] w fun e w'=>e=.returned (.bool (ins n f))∧w=w':=by
 obtain⟨a,cap,rfl,hm,hc⟩:=hv;have HC:Hid _:=hc;unfold maxLen at hm;clear hc;have HU:Hid (∀k,k<n→(f k<0∨25<f k)→ins n f=false):=fun k hk h=>JH hk h;have HA:Hid ((∀i,i<n→0≤f i∧f i≤25)→ins n f=true):=(nt n f).2;generalize ins n f=B at *;go_enter Tryz.func98,Tryz.ntmps98
 go_wp2_with fail
 go_loopw [7] (fun i W=>∃k:Nat,k≤n∧i=.int .i64 (k:Nat)∧Hid (∀i,i<k→0≤f i∧f i≤25)∧w=W) (fun i _=>((n:Int)-intOf i).toNat)
 case atStart=>exact⟨0,vom,rfl,fun i hi=>by omega,rfl⟩
 case round=>
  obtain⟨k,hk,rfl,HS,rfl⟩:=hrel;by_cases hlt:k<n
  ·obtain⟨b,o,rfl,l⟩:=HC.out k hlt
   have g:Hid (k<n):=hlt;by_cases hx:Ko (f k)=true
   ·have c:0≤f k∧f k≤25:=by simpa[Ko]using hx
    have HN:Hid (∀i,i<k+1→0≤f i∧f i≤25):=fun i hi=>by
     by_cases e:i=k
     ·rw[e];exact c
     ·exact HS.out i vom
    have HL:Hid (∀W,WA qf 129 #[.int .i64 (f k)] W fun e w'=>e=.returned (.bool true)∧W=w'):=fun W=>by have:=nW (f k) W;rw[hx]at this;exact this
    clear hx c
    go_wp2_with fail
    refine(HL.out _).mono ?_;rintro e V ⟨rfl,rfl⟩
    go_wp2_with fail
    go_roundw
    case rel=>exact⟨k+1,g.out,by go_num,HN.out,by first|rfl|trivial⟩
    case measure=>have:=g.out;simp[intOf]<;>omega
   ·have d:Ko (f k)=false:=by simpa using hx
    have c:f k<0∨25<f k:=by
     have:¬(0≤f k∧f k≤25):=by simpa[Ko]using hx
     omega
    have HB:Hid (B=false):=HU.out k hlt c;have HL:Hid (∀W,WA qf 129 #[.int .i64 (f k)] W fun e w'=>e=.returned (.bool false)∧W=w'):=fun W=>by have:=nW (f k) W;rw[d]at this;exact this
    clear hx d c
    go_wp2_with fail
    refine(HL.out _).mono ?_;rintro e V ⟨rfl,rfl⟩;go_wp2;go_ret;exact⟨by rw[HB.out];rfl,rfl⟩
  ·obtain rfl:k=n:=vom
   have j:¬(k:Int)<(k:Int):=vom;have HB:Hid (B=true):=HA.out HS.out;go_wp2;go_ret;exact⟨by rw[HB.out];rfl,rfl⟩
theorem oq(c:UInt8)(h:65≤c.toNat∧c.toNat≤90)(w:V8):WA qf 96 #[.int .u8 (c.toNat:Nat)] w fun e w'=>e=.returned (.int .i64 (Vg.num c:Nat))∧w=w':=by
 have e:(Vg.num c:Int)=(c.toNat:Int)-65:=by unfold Vg.num;omega
 go_enter Tryz.func96,Tryz.ntmps96;go_wp2;go_ret;exact⟨by rw[e];go_num,rfl⟩
theorem Em(n:Nat)(h:n<26)(w:V8):WA qf 94 #[.int .i64 (n:Nat)] w fun e w'=>e=.returned (.int .u8 ((oB n).toNat:Nat))∧w=w':=by
 have e:=mI h;go_enter Tryz.func94,Tryz.ntmps94;go_wp2;go_ret;exact⟨by rw[e];go_num,rfl⟩
theorem FX(b o:Nat)(p:Nat→Nat)(y c:Nat)(hy:y<26)(hc:c<26)(hp:∀c,c<26→p c<26)(w:V8)(hcell:∀c,c<26→w.cell? ⟨b,o+c,none⟩=some (.int .i64 (p c:Nat))):WA qf 127 #[.pointer (some ⟨b,o,none⟩),.int .i64 (y:Nat),.int .i64 (c:Nat)] w fun e w'=>e=.returned (.int .i64 (Om.eZ p y c:Nat))∧w=w':=by
 have hm:(c+y) % 26<26:=X8 _ vde;have h1:=hcell _ hm;have h2:=hp _ hm;have HE:Hid (Om.eZ p y c=(p ((c+y) % 26)+26-y) % 26):=rfl;generalize Om.eZ p y c=E at *;generalize p ((c+y) % 26)=P1 at *;obtain⟨q,hq⟩:∃q,q=(c+y) % 26:=⟨_,rfl⟩
 rw[←hq]at h1 hm;have e1:((c:Int)+(y:Int)).tmod 26=(q:Int):=by rw[YR vom];omega
 have e2:((P1:Int)-(y:Int)+26).tmod 26=(E:Int):=by rw[HE.out,YR vom];omega
 clear HE hq hcell hp;go_enter Tryz.func127,Tryz.ntmps127;go_wp2;go_ret;exact⟨rfl,rfl⟩
theorem ME(b q:Nat)(M:Om.Ma)(at':Nat→Nat)(hq:q<M.n)(w:V8)(h:bP w b M at'):WA qf 128 #[.pointer (some ⟨b,q*80,none⟩)] w fun e w'=>e=.returned (.int .i64 (Om.sU M at' q:Nat))∧Below w.heap.size w w':=by
 have hw:=h.Ee hq;have hr:=h.ring hq;have h1:=h.ins q hq;have h2:=h.ok.ri q hq;have HE:Hid (Om.sU M at' q=(at' q+26-M.ri q) % 26):=rfl;generalize Om.sU M at' q=E at *;generalize at' q=A at *;generalize M.ri q=R at *;have e2:((A:Int)-(R:Int)+26).tmod 26=(E:Int):=by rw[HE.out,YR vom];omega
 clear HE h;go_enter Tryz.func128,Tryz.ntmps128
 go_wp2_with fail
 go_quiet (fail)
 go_wp2;go_ret;exact⟨rfl,⟨rfl,rfl,rfl,R3 _,fun _ _=>rfl⟩⟩
end
section
open Go.RowKit PK
theorem aE:(qf.info? 35).map (·.size)=some 55:=vkr
theorem bn:(qf.info? 154).map (·.size)=some 27:=vkr
theorem iL:(qf.info? 154).map (·.zero)=some (some (.agg (b6 (fun _=>0) (.slice none 0 0)))):=vkr
theorem dG:(qf.info? 33).map (·.zero)=some (some (.agg (ints 26 fun _=>0))):=vkr
theorem bR{P:Program}{t:Wj}{z:R2}(h:(P.info? t).map (·.zero)=some (some z))(w:V8):(zeroValue t).run P w=.ok z w:=by
 cases hi:P.info? t with
 |none=>simp[hi]at h
 |some i=>
  have h2:i.zero=some z:=by simpa[hi]using h
  simp[zeroValue,typeInfo,hi,h2]
theorem aX{P:Program}{ops:Array Oper}{rest:List Oper}{op:Oper}{a:Act}{w:V8}{Q:Exit→Act→V8→Prop}(hgd:op.guard=none)(ty:Wj)(x:Operand)(ho:op.op=.load ty x)
  (b o:Nat) (hx:a.eval x=.pointer (some ⟨b,o,none⟩)) (cs:Array R2) (d:TypeDesc) (hc:w.rangeAt b o cs.toList)
  (hu:P.underlying ty=some d) (hd:d.isRow=true) (hi:(P.info? ty).map (·.size)=some cs.size)
  (h:wpList P ops Q rest (a.put op.dst (.agg cs)) w):wpList P ops Q (op :: rest) a w:=
 ZX hgd ty x ho b o hx cs.toList d hc hu hd (by rw[Wx];exact hi) (by rw[Array.toArray_toList];exact h)
theorem gC{f:Nat→Int}{v:R2}(h:v.oneCell'=true):(b6 f v).all (·.oneCell')=true:=by
 unfold b6;rw[Array.all_push,aI,h]
 rfl
theorem ja{w:V8}{b:Nat}{T:Wj}{c:Array R2}(h:af w b T c)(o:Nat)(cs:Array R2)(e:∀i v,cs[i]?=some v→c[o+i]?=some v):w.rangeAt b o cs.toList:=fun j v hv=>h.cell (e j v (by rw[←Wo];exact hv))
theorem oZ{n:Nat}{f:Nat→Int}{i:Nat}{v:R2}(h:(ints n f)[i]?=some v):i<n∧v=.int .i64 (f i):=by
 have h1:i<n:=by
  have:=(Wd.1 h).1;rw[ag]at this;exact this
 rw[aB f h1]at h;exact⟨h1,(XG h).symm⟩
theorem Er{w:V8}{b:Nat}{T:Wj}{f:Nat→Int}{v:R2}(h:af w b T (b6 f v)):w.rangeAt b 0 (ints 26 f).toList:=ja h 0 _ fun i v hv=>by
 obtain⟨h1,rfl⟩:=oZ hv;rw[WN];exact kV f _ h1
theorem Lj{w:V8}{b:Nat}{T:Wj}{x y z:R2}{rf pl:Nat→Int}(h:af w b T (aP x y z rf pl)):w.rangeAt b 3 (ints 26 rf).toList:=ja h 3 _ fun i v hv=>by
 obtain⟨h1,rfl⟩:=oZ hv;exact CG _ _ _ _ _ h1
theorem K3{w:V8}{b:Nat}{T:Wj}{x y z:R2}{rf pl:Nat→Int}(h:af w b T (aP x y z rf pl)):w.rangeAt b 29 (ints 26 pl).toList:=ja h 29 _ fun i v hv=>by
 obtain⟨h1,rfl⟩:=oZ hv;exact qX _ _ _ _ _ h1
structure cU(w W:V8)(a b c:R2)(rf pl:Nat→Int):Prop where
 row:af W w.heap.size 35 (aP a b c rf pl)
 below:Below w.heap.size w W
theorem cU.new(w:V8)(a b c:R2)(rf pl:Nat→Int):cU w (w.alloc (.cells (aP a b c rf pl) 35)) a b c rf pl:=⟨af.new w _ _,(Below.refl _ w).alloc (R3 _) _⟩
section
variable{w W W':V8}{a b c:R2}{rf pl:Nat→Int}
theorem cU.step(h:cU w W a b c rf pl)(hb:Below W.heap.size W W'):cU w W' a b c rf pl:=⟨h.row.below hb h.row.lt,h.below.trans (hb.mono h.below.size)⟩
theorem cU.alloc(h:cU w W a b c rf pl)(o:Obj):cU w (W.alloc o) a b c rf pl:=⟨h.row.alloc o,h.below.alloc h.below.size o⟩
theorem cU.drew(h:cU w W a b c rf pl):cU w W.drew a b c rf pl:=⟨h.row,h.below.drew⟩
theorem cU.setRow(h:cU w W a b c rf pl)(g:Nat)(hg:w.heap.size<g)(l:Array R2):cU w (W.setRow g l) a b c rf pl:=⟨h.row.bG _ _ vom,Below.setRow h.below _ vom _⟩
theorem cU.c0(h:cU w W a b c rf pl):W.cell? ⟨w.heap.size,0,none⟩=some a:=h.row.cell (dV _ _ _ _ _)
theorem cU.c1(h:cU w W a b c rf pl):W.cell? ⟨w.heap.size,1,none⟩=some b:=h.row.cell (rV _ _ _ _ _)
theorem cU.c2(h:cU w W a b c rf pl):W.cell? ⟨w.heap.size,2,none⟩=some c:=h.row.cell (gM _ _ _ _ _)
theorem cU.lt(h:cU w W a b c rf pl):w.heap.size<W.heap.size:=h.row.lt
end
theorem AD(g:Gm)(k:Nat)(h:jR g k≠0):∀n,k≤n→jR g n=jR g k
 |0,hk=>by rw[show k=0 by omega]
 |n+1,hk=>by
  by_cases e:k=n+1
  ·rw[e]
  ·have:=AD g k h n vom
   show(if jR g n≠0 then jR g n else _)=_;rw[Wc (by rw[this];exact h),this]
section
variable{g:Gm}
theorem Vi(h:g.n<1∨4<g.n):gE g=5:=by unfold gE;rw[Wc h]
theorem U4(h:¬(g.n<1∨4<g.n))(h2:jR g g.n≠0):gE g=jR g g.n:=by unfold gE;rw[V9 h,Wc h2]
def tl(st:Bool)(f:Nat→Int)(rest:Int):Int:=if Pm.wrong f≠0 then Pm.wrong f else if jA st f=false then 1 else rest
def nl(n l:Nat)(f:Nat→Int)(rest:Int):Int:=if l≠n then 8 else if ins l f=false then 3 else rest
def UC(g:Gm)(k:Nat):Int:=if k=0 then tl true g.rf (tl false g.pl 0)else if k=1 then tl false g.pl 0 else 0
def PU(g:Gm)(k:Nat):Int:=if k=0 then nl g.n g.rl g.ri (nl g.n g.sl g.st (UC g 0))else if k=1 then nl g.n g.sl g.st (UC g 0)else UC g 0
def VA(g:Gm):Int:=PU g 0
theorem xD{st:Bool}{f:Nat→Int}{p:Nat→Nat}(hp:Pm.aC p)(e:∀i,i<26→f i=(p i:Int)):jA st f=true↔∀i,i<26→p (p i)=i∧(st=true→p i≠i):=by
 rw[uF];constructor
 ·intro h i hi
  obtain⟨h1,h2⟩:=h i hi;rw[e i hi,Int.toNat_natCast,e _ (hp.lt i hi)]at h1;refine⟨vom,fun hs=>?_⟩;have:=h2 hs;rw[e i hi]at this;omega
 ·intro h i hi
  obtain⟨h1,h2⟩:=h i hi;rw[e i hi,Int.toNat_natCast,e _ (hp.lt i hi),h1];refine⟨rfl,fun hs=>?_⟩;have:=h2 hs;omega
theorem Kz{st:Bool}{f:Nat→Int}{p:Nat→Nat}(hp:Pm.aC p)(e:∀i,i<26→f i=(p i:Int)){i:Nat}(hi:i<26)(h:p (p i)≠i∨(st=true∧p i=i)):jA st f=false:=by
 cases hu:jA st f with
 |false=>rfl
 |true=>
  have:=(xD hp e).1 hu i hi;rcases h with h|h
  ·exact absurd this.1 h
  ·exact absurd h.2 (this.2 h.1)
theorem Vf(h:¬(g.n<1∨4<g.n))(h2:jR g g.n=0):gE g=VA g:=by unfold gE;rw[V9 h,V9 (fun e=>e h2)];rfl
end
end
section
open Go.RowKit PK Vg
def SH(u:Nat→Int)(n:Nat)(f:Nat→Int):Int:=if Pm.wrong u≠0 then Pm.wrong u else if ins n f=true then 0 else 3
theorem Q0(u:Nat→Int)(v:R2)(n:Nat)(f:Nat→Int)(w:V8)(hv:aq w v n f):WA qf 97 #[.agg (b6 u v)] w fun e w'=>e=.returned (.int .i64 (SH u n f))∧Below w.heap.size w w':=by
 obtain⟨E,hE⟩:∃E,E=SH u n f:=⟨_,rfl⟩
 rw[←hE];have hr:=af.new w 154 (b6 u v);have c:Below w.heap.size w (w.alloc (.cells (b6 u v) 154)):=(Below.refl _ w).alloc (R3 _) _;have HV:Hid (aq w v n f):=hv;have b:=Er hr;clear hv;go_enter Tryz.func97,Tryz.ntmps97
 go_wp2_with (first|refine aX rfl 33 _ rfl w.heap.size 0 rfl (ints 26 u) _ b Wp rfl (by rw[ag];exact aj) ?_)
 refine(qG u _).mono ?_;rintro e V ⟨rfl,hb⟩;have d:=hr.below hb hr.lt;have hl:=d.cell (jE u v);have a:=c.trans (hb.mono c.size);clear hb hr c b d;by_cases hz:Pm.wrong u=0
 ·have HE:Hid (E=if ins n f=true then 0 else 3):=by rw[Hid,hE];unfold SH;rw[V9 (fun h=>h hz)]
  rw[hz];have g:Hid _:=iO v n f V (HV.out.below (a));generalize ins n f=B at *;clear hz HV hE
  go_wp2_with fail
  refine We g.out ?_;rintro e V3 ⟨rfl,rfl⟩;cases B with
  |true=>
   go_wp2;go_ret;exact⟨by rw[HE.out];rfl,a⟩
  |false=>
   go_wp2;go_ret;exact⟨by rw[HE.out];rfl,a⟩
 ·have i:(Pm.wrong u != 0)=true:=by simpa using hz
  have HE:Hid (E=Pm.wrong u):=by rw[Hid,hE];unfold SH;rw[Wc hz]
  clear hz HV hE;go_wp2;go_ret;exact⟨by rw[HE.out];rfl,a⟩
theorem KU(f:Nat→Int)(al:Bool)(w:V8):WA qf 99 #[.agg (ints 26 f),.bool al] w fun e w'=>e=.returned (.int .i64 (tl (!al) f 0))∧Below w.heap.size w w':=by
 obtain⟨E,hE⟩:∃E,E=tl (!al) f 0:=⟨_,rfl⟩
 rw[←hE];have HE:Hid (E=tl (!al) f 0):=hE;clear hE;have hr:=af.new w 33 (ints 26 f);have c:Below w.heap.size w (w.alloc (.cells (ints 26 f) 33)):=(Below.refl _ w).alloc (R3 _) _;go_enter Tryz.func99,Tryz.ntmps99
 go_wp2_with (first|refine Wn rfl 33 _ rfl w.heap.size rfl 33 (ints 26 f) (0,0) _ hr Wp rfl (by rw[ag];exact aj) ?_)
 refine(qG f _).mono ?_;rintro e V2 ⟨rfl,hb⟩;have o:=hr.below hb hr.lt;have a:=c.trans (hb.mono c.size);clear hb hr c;by_cases hwz:Pm.wrong f=0
 ·obtain⟨pp,b,epp⟩:=(Pm.oh f).1 hwz
  have k:Hid (∀i,i<26→f i=(pp i:Int)):=epp;have g:Hid (E=if jA (!al) f=false then 1 else 0):=by rw[Hid,HE.out];unfold tl;rw[V9 (fun h=>h hwz)]
  have q:Hid (∀i,i<26→(pp (pp i)≠i∨((!al)=true∧pp i=i))→jA (!al) f=false):=fun i hi h=>Kz b epp hi h;have t:Hid ((∀i,i<26→pp (pp i)=i∧((!al)=true→pp i≠i))→jA (!al) f=true):=(xD b epp).2;have u:Hid (∀i,i<26→pp i<26):=b.lt;rw[hwz];clear hwz epp b HE
  go_wp2_with (first|refine Wn rfl 33 _ rfl w.heap.size rfl 33 (ints 26 f) (0,0) _ o Wp rfl (by rw[ag];exact aj) ?_)
  go_loopw [14] (fun i W=>∃m:Nat,m≤26∧i=.int .i64 (m:Nat)∧Hid (∀j,j<m→pp (pp j)=j∧((!al)=true→pp j≠j))∧V2=W) (fun i _=>((26:Int)-intOf i).toNat)
  case atStart=>exact⟨0,vom,rfl,fun j hj=>by omega,rfl⟩
  case round=>
   obtain⟨m,y,rfl,HS,rfl⟩:=hrel;by_cases hlt:m<26
   ·have h1:=u.out m hlt
    have HL:Hid (m<26):=hlt;have v:=mB 33 3 26 Wp Tryz.underlying3 we f m hlt;have c2:=o.cell (aB f h1);rw[k.out m hlt]at v;rw[k.out _ h1]at c2;have n:Hid _:=q.out m hlt
    have l:Hid (pp (pp m)=m→((!al)=true→pp m≠m)→∀j,j<m+1→pp (pp j)=j∧((!al)=true→pp j≠j)):=fun h1 h2 j hj=>by
     by_cases e:j=m
     ·rw[e];exact⟨h1,h2⟩
     ·exact HS.out j vom
    generalize pp (pp m)=P2 at *;generalize pp m=P1 at *;clear HS;by_cases hp2:P2=m
    ·have x:((P2:Int) != (m:Int))=false:=by simp[hp2]
     by_cases hp1:P1=m
     ·have s:((P1:Int)==(m:Int))=true:=by simp[hp1]
      cases al with
      |false=>
       have HX:Hid (E=1):=by rw[Hid,g.out,Wc (n.out (.inr ⟨rfl,hp1⟩))]
       clear hp1 hp2;go_wp2;go_ret;exact⟨by rw[HX.out];rfl,a⟩
      |true=>
       have d:Hid _:=l.out hp2 (fun h=>by cases h);clear hp1 hp2
       go_wp2_with fail
       go_roundw
       case rel=>exact⟨m+1,HL.out,by go_num,d.out,by first|rfl|trivial⟩
       case measure=>have:=HL.out;simp[intOf]<;>omega
     ·have s:((P1:Int)==(m:Int))=false:=XR vom
      have d:Hid _:=l.out hp2 (fun _=>hp1);clear hp1 hp2
      go_wp2_with fail
      go_roundw
      case rel=>exact⟨m+1,HL.out,by go_num,d.out,by first|rfl|trivial⟩
      case measure=>have:=HL.out;simp[intOf]<;>omega
    ·have x:((P2:Int) != (m:Int))=true:=vso
     have HX:Hid (E=1):=by rw[Hid,g.out,Wc (n.out (.inl hp2))]
     clear hp2;go_wp2;go_ret;exact⟨by rw[HX.out];rfl,a⟩
   ·obtain rfl:m=26:=vom
    have HX:Hid (E=0):=by rw[Hid,g.out,V9 (by rw[t.out HS.out];decide)]
    go_wp2;go_ret;exact⟨by rw[HX.out];rfl,a⟩
 ·have z:(Pm.wrong f != 0)=true:=by simpa using hwz
  have HX:Hid (E=Pm.wrong f):=by rw[Hid,HE.out];unfold tl;rw[Wc hwz]
  clear hwz;go_wp2;go_ret;exact⟨by rw[HX.out];rfl,a⟩
theorem sK:(qf.info? 31).map (·.size)=some 1:=vkr
theorem nR(x y:R2)(w:V8):(Instr.index 156 (.agg #[x,y]) (.int .i64 0)).run qf w=.ok x w∧(Instr.index 156 (.agg #[x,y]) (.int .i64 1)).run qf w=.ok y w:=by
 cases hq:qf.info? 31 with
 |none=>have:=sK;simp[hq]at this
 |some i=>
  have h1:i.size=1:=by have:=sK;simpa[hq]using this
  constructor<;>simp[Instr.index,asIntOf,Sem.run_bind,run_underlying Tryz.underlying156,part,isAgg,run_underlying Tryz.underlying31,sizeOf,typeInfo,hq,h1]
theorem Nl(st:Bool)(f:Nat→Int)(r:Int):tl st f r=if tl st f 0≠0 then tl st f 0 else r:=by
 unfold tl;by_cases h1:Pm.wrong f≠0
 ·rw[Wc h1,Wc h1,Wc h1]
 ·rw[V9 h1,V9 h1]
  by_cases h2:jA st f=false
  ·rw[Wc h2,Wc h2,Wc vde]
  ·rw[V9 h2,V9 h2,V9 vde]
theorem QG{g:Gm}{k:Nat}(h0:jR g k=0):jR g (k+1)=SH (g.wi k) (g.nl k) (g.no k):=by
 show(if jR g k≠0 then jR g k else _)=_;rw[V9 (fun e=>e h0)]
 rfl
theorem zf(v:R2)(g:Gm)(w:V8)(hv:cL w v g):WA qf 51 #[v] w fun e w'=>e=.returned (.int .i64 (gE g))∧Below w.heap.size w w':=by
 obtain⟨a,b,c,rfl,hw,e4,e8⟩:=hv;have h0:=cU.new w a b c g.rf g.pl;obtain⟨E,hE⟩:∃E,E=gE g:=⟨_,rfl⟩
 rw[←hE];have HE:Hid (E=gE g):=hE;clear hE;obtain⟨ad,cap,R,rfl,hm,hr,hn⟩:=hw;have G:=h0.c0;have T:Hid (∀r,r<g.n→∃b o,ad=some ⟨b,o,none⟩∧w.rangeAt b (o+r*27) (b6 (g.wi r) (R r)).toList):=hr;have D:Hid (∀r,r<g.n→aq w (R r) (g.nl r) (g.no r)):=hn;obtain⟨ar,cr,rfl,H,P⟩:=e4;obtain⟨az,cz,rfl,L,J⟩:=e8;have j3:Hid (aq w (.slice ar g.rl cr) g.rl g.ri):=⟨ar,cr,rfl,H,P⟩
 have Z:Hid (aq w (.slice az g.sl cz) g.sl g.st):=⟨az,cz,rfl,L,J⟩
 clear hr hn P J;unfold maxLen at hm H L;go_enter Tryz.func51,Tryz.ntmps51;by_cases hmany:g.n<1∨4<g.n
 ·have HX:Hid (E=5):=by rw[Hid,HE.out,Vi hmany]
  have d:=h0.below;by_cases hz:g.n<1
  ·have Q:(g.n:Int)<1:=vom
   go_wp2;go_ret;exact⟨by rw[HX.out];rfl,d⟩
  ·have Q:¬(g.n:Int)<1:=vom
   have e5:4<(g.n:Int):=vom;go_wp2;go_ret;exact⟨by rw[HX.out];rfl,d⟩
 ·have Q:¬(g.n:Int)<1:=vom
  have e5:¬4<(g.n:Int):=vom;have k3:g.n≤4:=vom;have U:Hid (¬(g.n<1∨4<g.n)):=hmany;clear hmany
  go_wp2_with fail
  go_loopw [22] (fun i W=>∃k:Nat,k≤g.n∧i=.int .i64 (k:Nat)∧Hid (jR g k=0)∧cU w W (.slice ad g.n cap) (.slice ar g.rl cr) (.slice az g.sl cz) g.rf g.pl) (fun i _=>((g.n:Int)-intOf i).toNat)
  case atStart=>exact⟨0,vom,rfl,rfl,h0⟩
  case round=>
   clear h0 G;obtain⟨k,hk,rfl,HK,hg⟩:=hrel;by_cases hlt:k<g.n
   ·obtain⟨bw,ow,rfl,O⟩:=T.out k hlt
    have x:=b7 O hg.below;have S:=(D.out k hlt).below hg.below;have y:Hid (k<g.n):=hlt;have N:=bR iL;have t:Hid ((R k).oneCell'=true):=by obtain⟨a',c',e',_⟩:=S;rw[Hid,e'];rfl
    go_upto_region 6 with(first|refine aX rfl 154 _ rfl bw (ow+k*27) rfl (b6 (g.wi k) (R k)) _ x X0 rfl (by rw[aO];exact bn) ?_|refine Wk rfl 154 _ _ rfl wr.heap.size (b6 (g.wi k) (R k)) rfl rfl 154 _ (af.new wr _ _) (by rw[aO];exact bn) (by simp only[aO]) (gC t.out) ?_)
    have F:=(hg.alloc (.cells (b6 (fun _=>0) (.slice none 0 0)) 154)).setRow wr.heap.size hg.lt (b6 (g.wi k) (R k));have A:=(af.new wr 154 (b6 (fun _=>0) (.slice none 0 0))).row (b6 (g.wi k) (R k));generalize (wr.alloc (.cells (b6 (fun _=>0) (.slice none 0 0)) 154)).setRow wr.heap.size (b6 (g.wi k) (R k))=V at *;obtain⟨q,hq⟩:∃q,q=wr.heap.size:=⟨_,rfl⟩
    rw[←hq]at A⊢;clear hq O x S N t hg;have I:Hid _:=Q0 (g.wi k) (R k) (g.nl k) (g.no k) V ((D.out k hlt).below F.below);have z:Hid _:=QG HK.out;generalize SH (g.wi k) (g.nl k) (g.no k)=X at *
    go_wp2_with (first|refine Wn rfl 154 _ rfl q rfl 154 (b6 (g.wi k) (R k)) (0,0) _ A X0 rfl (by rw[aO];exact bn) ?_)
    refine We I.out ?_;rintro e V2 ⟨rfl,hb⟩;have f:=F.step hb;clear hb F A I;by_cases hwz:X=0
    ·subst hwz
     have HX:Hid (jR g (k+1)=0):=z.out;clear z
     go_wp2_with fail
     go_roundw
     case rel=>exact⟨k+1,y.out,by go_num,HX.out,f⟩
     case measure=>have:=y.out;simp[intOf]<;>omega
    ·have k4:(X != 0)=true:=by simpa using hwz
     have HX:Hid (E=X):=by
      have e1:jR g (k+1)=X:=z.out;have e2:=AD g (k+1) (by rw[e1];exact hwz) g.n y.out;rw[Hid,HE.out,U4 U.out (by rw[e2,e1];exact hwz),e2,e1]
     have d:=f.below;clear hwz;go_wp2;go_ret;exact⟨by rw[HX.out];rfl,d⟩
   ·obtain rfl:k=g.n:=vom
    have e6:Hid (E=VA g):=by rw[Hid,HE.out,Vf U.out HK.out]
    have k3:g.n≤4:=vom;have b9:=hg.c1;have e7:=hg.c2;clear HE HK T D
    go_wp2_with fail
    go_loopw [37] (fun i W=>∃k:Nat,k≤2∧i=.int .i64 (k:Nat)∧Hid (E=PU g k)∧cU w W (.slice ad g.n cap) (.slice ar g.rl cr) (.slice az g.sl cz) g.rf g.pl) (fun i _=>((2:Int)-intOf i).toNat)
    case atStart=>exact⟨0,vom,rfl,e6.out,hg⟩
    case round=>
     clear hg b9 e7;obtain⟨k,hk,rfl,HQ,hg⟩:=hrel;have e9:k=0∨k=1∨k=2:=vom;have G:=hg.c0;rcases e9 with rfl|rfl|rfl
     ·have HV:Hid (E=nl g.n g.rl g.ri (PU g 1)):=HQ.out
      have C:Hid (aq wr (.slice ar g.rl cr) g.rl g.ri):=j3.out.below hg.below;have d:=hg.below;have HG:Hid _:=hg;have j0:=fun W=>(nR (.slice ar g.rl cr) (.slice az g.sl cz) W).1;clear hg;by_cases hln:g.rl=g.n
      ·have j:Hid (E=if ins g.rl g.ri=false then 3 else PU g 1):=by rw[Hid,HV.out];unfold nl;rw[V9 (fun h=>h hln)]
       have m:((g.rl:Int) != (g.n:Int))=false:=by rw[hln];simp
       clear hln;have s:Hid _:=iO _ _ _ _ C.out;generalize ins g.rl g.ri=B at *
       go_wp2_with fail
       refine We s.out ?_;rintro e V3 ⟨rfl,rfl⟩;cases B with
       |false=>
        have HX:Hid (E=3):=by rw[Hid,j.out,Wc rfl]
        go_wp2;go_ret;exact⟨by rw[HX.out];rfl,d⟩
       |true=>
        have HX:Hid (E=PU g 1):=by rw[Hid,j.out,V9 vde]
        go_wp2_with fail
        go_roundw
        case rel=>exact⟨1,vom,by go_num,HX.out,HG.out⟩
        case measure=>simp[intOf]
      ·have HX:Hid (E=8):=by rw[Hid,HV.out];unfold nl;rw[Wc hln]
       have m:((g.rl:Int) != (g.n:Int))=true:=vso;clear hln;go_wp2;go_ret;exact⟨by rw[HX.out];rfl,d⟩
     ·have HV:Hid (E=nl g.n g.sl g.st (PU g 2)):=HQ.out
      have C:Hid (aq wr (.slice az g.sl cz) g.sl g.st):=Z.out.below hg.below;have d:=hg.below;have HG:Hid _:=hg;have j0:=fun W=>(nR (.slice ar g.rl cr) (.slice az g.sl cz) W).2;clear hg;by_cases hln:g.sl=g.n
      ·have j:Hid (E=if ins g.sl g.st=false then 3 else PU g 2):=by rw[Hid,HV.out];unfold nl;rw[V9 (fun h=>h hln)]
       have m:((g.sl:Int) != (g.n:Int))=false:=by rw[hln];simp
       clear hln;have s:Hid _:=iO _ _ _ _ C.out;generalize ins g.sl g.st=B at *
       go_wp2_with fail
       refine We s.out ?_;rintro e V3 ⟨rfl,rfl⟩;cases B with
       |false=>
        have HX:Hid (E=3):=by rw[Hid,j.out,Wc rfl]
        go_wp2;go_ret;exact⟨by rw[HX.out];rfl,d⟩
       |true=>
        have HX:Hid (E=PU g 2):=by rw[Hid,j.out,V9 vde]
        go_wp2_with fail
        go_roundw
        case rel=>exact⟨2,vom,by go_num,HX.out,HG.out⟩
        case measure=>simp[intOf]
      ·have HX:Hid (E=8):=by rw[Hid,HV.out];unfold nl;rw[Wc hln]
       have m:((g.sl:Int) != (g.n:Int))=true:=vso;clear hln;go_wp2;go_ret;exact⟨by rw[HX.out];rfl,d⟩
     ·have HV:Hid (E=tl true g.rf (tl false g.pl 0)):=HQ.out
      have j:Hid (E=if tl true g.rf 0≠0 then tl true g.rf 0 else tl false g.pl 0):=by rw[Hid,HV.out,Nl]
      have u:=Lj hg.row;have M:Hid (∀W,WA qf 99 #[.agg (ints 26 g.rf),.bool false] W fun e w'=>e=.returned (.int .i64 (tl true g.rf 0))∧Below W.heap.size W w'):=fun W=>KU g.rf false W;have e3:Hid (∀W,WA qf 99 #[.agg (ints 26 g.pl),.bool true] W fun e w'=>e=.returned (.int .i64 (tl false g.pl 0))∧Below W.heap.size W w'):=fun W=>KU g.pl true W;generalize tl true g.rf 0=X at *;generalize tl false g.pl 0=Y at *;clear HQ HV G
      go_wp2_with (first|refine aX rfl 33 _ rfl w.heap.size 3 rfl (ints 26 g.rf) _ u Wp rfl (by rw[ag];exact aj) ?_)
      refine(M.out _).mono ?_;rintro e V2 ⟨rfl,hb⟩;have f:=hg.step hb;have l:=K3 f.row;clear hb hg u M;by_cases hx:X=0
      ·subst hx
       have HX:Hid (E=Y):=by rw[Hid,j.out,V9 vde]
       go_wp2_with (first|refine aX rfl 33 _ rfl w.heap.size 29 rfl (ints 26 g.pl) _ l Wp rfl (by rw[ag];exact aj) ?_)
       refine(e3.out _).mono ?_;rintro e V4 ⟨rfl,hb⟩;have K:=f.step hb;have d:=K.below;clear hb f K l;go_wp2;go_ret;exact⟨by rw[HX.out];rfl,d⟩
      ·have k5:(X != 0)=true:=by simpa using hx
       have HX:Hid (E=X):=by rw[Hid,j.out,Wc hx]
       have d:=f.below;clear hx f l;go_wp2;go_ret;exact⟨by rw[HX.out];rfl,d⟩
end
end Go.Proofs.YtpcnpkhgjanamaaGreatDoor
