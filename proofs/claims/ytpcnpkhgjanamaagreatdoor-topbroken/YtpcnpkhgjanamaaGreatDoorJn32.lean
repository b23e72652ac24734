import Derived.Test.YtpcnpkhgjanamaaGreatDoorPz
import Derived.Laws.AppendOwnNone
import Derived.Test.YtpcnpkhgjanamaaGreatDoorJn31
import Derived.Test.YtpcnpkhgjanamaaGreatDoorCzQ
namespace Go.Proofs.YtpcnpkhgjanamaaGreatDoor
open Go.Proofs.Tryz renaming prog→qf,underlying35→WH
open Go renaming Value→R2,World→V8,TypeId→Wj,Calls→WA
open _root_.Array renaming setIfInBounds_append_left→Zl
set_option maxRecDepth 100000
set_option maxHeartbeats 8000000
section
open Go.RowKit PK Vg Go.Conc Cs
abbrev Cs.wD(x:Nat→R2):Array R2:=#[x 0,x 1,x 2,x 3,x 4,x 5,x 6,x 7,x 8,x 9,x 10,x 11,x 12,x 13,x 14,x 15,x 16,x 17,x 18,x 19,x 20,x 21,x 22,x 23,x 24,x 25,x 26,x 27,x 28,x 29,x 30,x 31,x 32,x 33,x 34,x 35,x 36,x 37,x 38,x 39,x 40,x 41,x 42,x 43,x 44,x 45,x 46,x 47,x 48,x 49,x 50,x 51,x 52,x 53,x 54,x 55,x 56,x 57,x 58,x 59,x 60,x 61,x 62,x 63,x 64,x 65,x 66,x 67,x 68,x 69,x 70,x 71,x 72,x 73,x 74,x 75,x 76,x 77,x 78,x 79,x 80,x 81,x 82,x 83,x 84,x 85,x 86,x 87,x 88,x 89,x 90,x 91,x 92,x 93,x 94,x 95,x 96,x 97,x 98,x 99,x 100,x 101,x 102,x 103,x 104,x 105,x 106,x 107,x 108,x 109,x 110,x 111,x 112,x 113,x 114,x 115,x 116,x 117,x 118,x 119,x 120,x 121,x 122,x 123,x 124,x 125,x 126,x 127,x 128,x 129,x 130,x 131,x 132,x 133,x 134,x 135,x 136,x 137,x 138,x 139,x 140,x 141,x 142,x 143,x 144,x 145,x 146,x 147,x 148,x 149,x 150,x 151,x 152,x 153,x 154,x 155,x 156,x 157,x 158,x 159,x 160,x 161]
theorem y4(T:Array R2)(h:T.size=162):∃x,T=wD x∧∀(i:Nat) v,T[i]?=some v→x i=v:=by
 refine⟨fun i=>T.getD i undef,?_,fun i v h=>by simp[Array.getD_eq_getD_getElem?,h]⟩
 have e:T=((List.range 162).map fun i=>T.getD i undef).toArray:=by
  refine Xc fun i=>?_;by_cases hi:i<T.size
  ·simp[hi,show i<162 by omega]
  ·simp[show ¬i<162 by omega,hi]
 exact e.trans rfl
noncomputable def Cs.C9:Array Oper:=match kC with|.seq (.region _ o _) _=>o|_=>#[]
noncomputable def Cs.kM:List Code:=match kC with|.seq _ (.seq a (.seq b (.seq c (.seq d (.seq e _)))))=>[a,b,c,d,e]|_=>[]
noncomputable def Cs.kD:Code:=match kC with|.seq _ (.seq _ (.seq _ (.seq _ (.seq _ (.seq _ r)))))=>r|_=>.skip
theorem FM(ct:Code):∀l:List Code,TC ct (oG l .skip) (oG l ct)
 |[]=>.skip
 |a :: l=>.seq a (FM ct l)
end
section
open Go.RowKit PK Vg
def dx(m N i:Nat):Nat:=N / 26 ^ (m-1-i) % 26
theorem RJ(m N i:Nat):dx m N i<26:=X8 _ vde
def tn(m N k:Nat):Nat→Int:=fun i=>if k≤i then((dx m N i:Nat):Int)else 0
theorem CI(m N:Nat):(ints m fun _=>0)=ints m (tn m N m):=b8 fun i hi=>by unfold tn;rw[V9 vom]
theorem H8(m N k:Nat):ints m (upd (tn m N (k+1)) k ((dx m N k:Nat):Int))=ints m (tn m N k):=b8 fun i hi=>by
 unfold upd;by_cases e:i=k
 ·rw[Wc e]
  unfold tn;rw[Wc vom,e]
 ·rw[V9 e]
  unfold tn;by_cases e2:k≤i
  ·rw[Wc e2,Wc vom]
  ·rw[V9 e2,V9 vom]
theorem Lt(m N:Nat):ints m (tn m N 0)=ints m fun i=>((dx m N i:Nat):Int):=b8 fun i hi=>by unfold tn;rw[Wc (XE _)]
theorem CX(z:R2)(n:Nat):madeCells #[z] n=bJ n fun _=>z:=by
 unfold madeCells bJ;apply Array.ext
 ·simp
 ·intro i h1 h2
  simp[Nat.mod_one]
theorem ox:(qf.info? 3).map (fun i=>(i.zero,i.size,i.bytes))=some (some (.int .i64 0),1,8):=vkr
theorem ei{P:Program}{e:Wj}{z:R2}{s b:Nat}(h:(P.info? e).map (fun i=>(i.zero,i.size,i.bytes))=some (some z,s,b)):∃i,P.info? e=some i∧i.zero=some z∧i.size=s∧i.bytes=b:=by
 obtain⟨i,hi,a⟩:=Xt.1 h;simp only[Prod.mk.injEq]at a;exact⟨i,hi,a.1,a.2.1,a.2.2⟩
theorem LQ{m:Nat}(hm:m≤4):26 ^ m≤456976:=by
 rcases(by omega:m=0∨m=1∨m=2∨m=3∨m=4)with rfl|rfl|rfl|rfl|rfl<;>decide
theorem Aj(m N:Nat)(hm:m≤4)(hN:N<26 ^ m)(w:V8):WA qf 101 #[.int .i64 (m:Nat),.int .i64 (N:Nat)] w fun e w'=>∃g,e=.returned (.slice (some ⟨g,0,none⟩) m m)∧af w' g 3 (ints m fun i=>((dx m N i:Nat):Int))∧w.heap.size≤g∧Below w.heap.size w w':=by
 have f:=run_make_row' (P:=qf) 31 3 (.int .i64 0) 8 Tryz.underlying31 ox rfl .i64 .i64 m vom vom;rw[CX]at f;have h2:af (w.alloc (.cells (bJ m fun _=>.int .i64 0) 3)) w.heap.size 3 (ints m fun _=>0):=af.new w _ _;rw[CI m N]at h2;have j:=(Below.refl w.heap.size w).alloc (R3 _) (.cells (bJ m fun _=>.int .i64 0) 3);have F:N<456976:=WE hN (LQ hm);clear hN;go_enter Tryz.func101,Tryz.ntmps101
 go_upto_region 2 with fail
 generalize w.alloc (.cells (bJ m fun _=>.int .i64 0) 3)=W2 at *;clear f
 go_wp2_with fail
 go_loopw [1,6] (fun n x W=>∃k D:Nat,k≤m∧D≤N∧n=.int .i64 (D:Nat)∧x=.int .i64 ((k:Int)-1)∧Hid (D=N / 26 ^ (m-k))∧af W w.heap.size 3 (ints m (tn m N k))∧Below w.heap.size w W) (fun _ x _=>(intOf x+1).toNat)
 case atStart=>exact⟨m,N,R3 _,R3 _,rfl,rfl,by rw[Hid,Nat.sub_self,Nat.pow_zero,Nat.div_one],h2,j⟩
 case round=>
  clear h2 j;obtain⟨k,D,hk,hD,rfl,rfl,HD,a,b⟩:=hrel;cases k with
  |zero=>
   rw[Lt]at a;have q:Hid _:=a;have y:Hid _:=b;clear a b HD;go_wp2;go_ret;exact⟨w.heap.size,by first|rfl|trivial,q.out,R3 _,y.out⟩
  |succ c=>
   have l:(((c+1:Nat):Int))-1=(c:Int):=vom;rw[l];have s:Hid (c<m):=hk;have C:(c:Int)<(m:Int):=vom;have z:=a.cell (aB (tn m N (c+1)) (i:=c) hk);have H:=a.frozen c;have A:((D:Int)).tmod 26=((D % 26:Nat):Int):=by rw[YR vom];push_cast;rfl
   have v:((D:Int)) % 26=((D % 26:Nat):Int):=by push_cast;rfl
   have B:((D:Int)).tdiv 26=((D / 26:Nat):Int):=by rw[Int.tdiv_eq_ediv_of_nonneg vom];push_cast;rfl
   have u:((D:Int)) / 26=((D / 26:Nat):Int):=by push_cast;rfl
   have d:Hid (D % 26=dx m N c):=by rw[Hid,HD.out];unfold dx;rw[show m-(c+1)=m-1-c by omega]
   have t:Hid (D / 26=N / 26 ^ (m-c)):=by rw[Hid,HD.out,Nat.div_div_eq_div_mul,←Nat.pow_succ,Nat.succ_eq_add_one,show m-(c+1)+1=m-c by omega]
   have G:D / 26≤D:=Nat.div_le_self _ _;have E:=X8 D (show 0<26 by decide);have h:Hid _:=H8 m N c
   have HN:Hid (∀x,x=D % 26→af (wr.setCell ⟨w.heap.size,c,none⟩ (.int .i64 ((x:Nat):Int))) w.heap.size 3 (ints m (tn m N c))∧Below w.heap.size w (wr.setCell ⟨w.heap.size,c,none⟩ (.int .i64 ((x:Nat):Int)))):=fun x hx=>by
    refine⟨?_,b.setCell (p:=⟨w.heap.size,c,none⟩) (R3 _) _⟩;have h1:=a.set c (.int .i64 ((x:Nat):Int));rw[ints_set,hx,d.out,h.out]at h1;rw[hx,d.out];exact h1
   have o:Hid _:=HN.out _ rfl;generalize tn m N (c+1) c=oc at *;generalize D % 26=x at *;generalize D / 26=D2 at *;clear a b HD HN h d l hk;go_wp2;go_roundw
   case rel=>exact⟨c,D2,by have:=s.out;omega,vom,by first|rfl|go_num,by go_num,t.out,o.out.1,o.out.2⟩
   case measure=>simp[intOf]
theorem JG{w:V8}{B n:Nat}{v:R2}{f:Nat→Int}(h:w.ownsRow B 3 1 v n (ints n f).toList):aq w v n f:=by
 have hx:=h;rcases h.2 with⟨rfl,h0⟩|⟨g,cap,cur,rfl,j,hg,b,d,i,a⟩
 ·exact⟨none,0,by rw[h0],by rw[h0];decide,fun c hc=>by omega⟩
 ·refine⟨some ⟨g,0,none⟩,cap,rfl,vom,fun c hc=>⟨g,0,rfl,?_⟩⟩
  have h1:(ints n f).toList[c]?=some (.int .i64 (f c)):=by
   have ex:(ints n f).toList[c]?=(ints n f)[c]?:=Wo;rw[ex,aB f hc]
  have:=World.ownsRow.cells (g:=g) hx rfl c _ h1;have e:((⟨g,0,none⟩:Addr).add c)=⟨g,0+c,none⟩:=by unfold Addr.add;by_cases e0:c=0<;>simp[e0]
  rw[e]at this;exact this
theorem uq{w:V8}{g B n:Nat}{T:Wj}{c:Array R2}(h:af w g T c)(hB:B≤g)(hn:c.size=n)(hm:n≤maxLen):w.ownsRow B T 1 (.slice (some ⟨g,0,none⟩) n n) n c.toList:=
 ⟨by simp[hn],.inr ⟨g,n,c,rfl,hB,h,R3 _,hm,by simp[hn],by rw[Nat.mul_one,←hn,←Wx,List.take_length]⟩⟩
theorem qd(b o j:Nat):((⟨b,o,none⟩:Addr).add j)=⟨b,o+j,none⟩:=by unfold Addr.add;by_cases e0:j=0<;>simp[e0]
theorem vQ(v:R2)(n:Nat)(f:Nat→Int)(hn:n*8≤140737488355328)(w:V8)(hv:aq w v n f):WA qf 30 #[v] w fun e w'=>∃v',e=.returned v'∧aq w' v' n f∧(∀b o cp,v'=.slice (some ⟨b,o,none⟩) n cp→w.heap.size≤b)∧Below w.heap.size w w':=by
 obtain⟨i0,x,C,z,s⟩:=ei ox;obtain⟨a,cap,rfl,A,hc⟩:=hv;unfold maxLen at A;cases a with
 |none=>
  have h0:n=0:=by
   rcases XK n with h|h
   ·exact h
   ·obtain⟨b,o,e,_⟩:=hc 0 h
    cases e
  subst h0;clear hc;have t:∀W,(binOp .eql 31 (.slice none 0 cap) (.slice none 0 0)).run qf W=.ok (.bool true) W:=fun _=>rfl;go_enter Tryz.func30,Tryz.ntmps30;go_wp2;go_ret;exact⟨_,rfl,⟨none,0,rfl,vde,fun c hc=>by omega⟩,fun b o cp e=>(by cases e),Below.refl _ _⟩
 |some ad=>
  have i:∀W,Below w.heap.size w W→∀j u,(ints n f).toList[j]?=some u→W.cell? (ad.add j)=some u:=fun W hb j u hu=>by
   have ex:(ints n f).toList[j]?=(ints n f)[j]?:=Wo;rw[ex]at hu;have hj:j<n:=by have:=(Wd.1 hu).1;rwa [ag]at this
   rw[aB f hj]at hu;obtain⟨b,o,e,d⟩:=hc j hj;cases e;rw[qd,←hu];exact(hb.cell (p:=⟨b,o+j,none⟩) (aA d)).trans d
  have q:Hid _:=i
  have k:∀u∈(ints n f).toList,u.oneCell'=true:=fun u hu=>by
   have:=aI n f;rw[WJ]at this;exact this u (by simpa using hu)
  have y:Hid _:=k;have l:(w.alloc (.cells #[] 3)).ownsRow w.heap.size 3 1 (.slice (some ⟨w.heap.size,0,none⟩) 0 0) 0 []:=uq (af.new w 3 #[]) (R3 _) rfl vde;have m:=(Below.refl w.heap.size w).alloc (R3 _) (.cells #[] 3);have t:∀W,(binOp .eql 31 (.slice (some ad) n cap) (.slice none 0 0)).run qf W=.ok (.bool false) W:=fun _=>rfl;clear hc i k;go_enter Tryz.func30,Tryz.ntmps30
  go_wp2_with (first|(at_builtin;refine wpList_append_own _ rfl _ _ 31 rfl w.heap.size 3 i0 (.int .i64 0) 1 8 Tryz.underlying31 x C z s rfl vde _ _ _ rfl l ad n cap (ints n f).toList rfl (by rw[Wx,ag,Nat.mul_one]) (q.out _ m) y.out (by unfold maxLen;omega) vom vsi ?_;intro v' w1 hown' hgrow _))
  go_ret;rw[WN,Yi]at hown';refine⟨v',rfl,JG hown',fun b o cp e=>?_,m.grown hgrow vsi (fun p hp=>(World.ownsRow.lt l p hp).1)⟩;rcases hown'.2 with⟨e2,_⟩|⟨g,_,_,e2,B,_⟩
  ·rw[e2]at e;cases e
  ·rw[e2]at e;cases e;exact B
theorem JQ(a b c c2:R2)(rf pl:Nat→Int):(aP a b c rf pl).setIfInBounds 2 c2=aP a b c2 rf pl:=by
 unfold aP;rw[Yw,Yw,Zl vsi]
 rfl
theorem Mt(a b c c2:R2)(rf pl:Nat→Int):(aP a b c rf pl).setIfInBounds 1 c2=aP a c2 c rf pl:=by
 unfold aP;rw[Yw,Yw,Zl vsi]
 rfl
theorem K8(a b c c2:R2)(rf pl:Nat→Int):(aP a b c rf pl).setIfInBounds 0 c2=aP c2 b c rf pl:=by
 unfold aP;rw[Yw,Yw,Zl vsi]
 rfl
def wX(wi:Nat→Nat→Int)(R:Nat→R2)(i:Nat):R2:=if i % 27<26 then .int .i64 (wi (i / 27) (i % 27))else R (i / 27)
theorem EP(wi:Nat→Nat→Int)(R:Nat→R2)(r j:Nat)(hj:j<27):(b6 (wi r) (R r))[j]?=some (wX wi R (r*27+j)):=by
 unfold wX;rw[show(r*27+j) / 27=r by omega,show(r*27+j) % 27=j by omega];by_cases h:j<26
 ·rw[Wc h,kV _ _ h]
 ·rw[V9 h,show j=26 by omega,jE]
theorem NH{wi:Nat→Nat→Int}{R:Nat→R2}{n:Nat}(h:∀r,r<n→(R r).oneCell'=true):∀u∈(bJ (n*27) (wX wi R)).toList,u.oneCell'=true:=fun u hu=>by
 simp[bJ]at hu;obtain⟨i,hi,rfl⟩:=hu;unfold wX;by_cases h1:i % 27<26
 ·rw[Wc h1];rfl
 ·rw[V9 h1];exact h _ vom
theorem yO:(qf.info? 154).map (fun i=>(i.zero,i.size,i.bytes))=some (some (.agg (b6 (fun _=>0) (.slice none 0 0))),27,232):=vkr
theorem pg:(qf.info? 154).map (·.size)=some 27:=vkr
theorem zm:(qf.info? 154).map (·.zero)=some (some (.agg (b6 (fun _=>0) (.slice none 0 0)))):=vkr
theorem BE:(qf.info? 31).map (·.size)=some 1:=vkr
theorem KP(b o n cap:Nat)(wi:Nat→Nat→Int)(R:Nat→R2)(hn:n≤4)(hR:∀r,r<n→(R r).oneCell'=true)(w:V8)(hc:∀r,r<n→w.rangeAt b (o+r*27) (b6 (wi r) (R r)).toList):
  WA qf 130 #[.slice (some ⟨b,o,none⟩) n cap] w fun e w'=>∃g cp cur,e=.returned (.slice (some ⟨g,0,none⟩) n cp)∧af w' g 154 cur∧(∀i,i<n*27→cur[i]?=some (wX wi R i))∧w.heap.size≤g∧Below w.heap.size w w':=by
 obtain⟨i0,t,z,x,q⟩:=ei yO;have d:(bJ (n*27) (wX wi R)).toList.length=n*27:=by rw[Wx,aU]
 have a:∀j,j<n*27→(bJ (n*27) (wX wi R)).toList[j]?=some (wX wi R j):=fun j hj=>by
  have ex:(bJ (n*27) (wX wi R)).toList[j]?=(bJ (n*27) (wX wi R))[j]?:=Wo;rw[ex,aM _ hj]
 have c:∀W,Below w.heap.size w W→∀j u,(bJ (n*27) (wX wi R)).toList[j]?=some u→W.cell? ((⟨b,o,none⟩:Addr).add j)=some u:=fun W hb j u hu=>by
  have hj:j<n*27:=by have:=(WW.1 hu).1;rwa [d]at this
  rw[a j hj]at hu
  have h1:=hc (j / 27) vom (j % 27) (wX wi R j) (by
   have ex:(b6 (wi (j / 27)) (R (j / 27))).toList[j % 27]?=(b6 (wi (j / 27)) (R (j / 27)))[j % 27]?:=Wo;rw[ex,EP _ _ _ _ (X8 _ vde),show j / 27*27+j % 27=j by omega])
  rw[show o+j / 27*27+j % 27=o+j by omega]at h1;rw[qd,←hu];exact(hb.cell (p:=⟨b,o+j,none⟩) (aA h1)).trans h1
 have l:Hid _:=c;have v:Hid _:=NH (wi:=wi) hR;have m:Hid _:=a;have h:(w.alloc (.cells #[] 154)).ownsRow w.heap.size 154 27 (.slice (some ⟨w.heap.size,0,none⟩) 0 0) 0 []:=⟨vsi,.inr ⟨w.heap.size,0,#[],rfl,R3 _,af.new w 154 #[],R3 _,vde,vsi,vsi⟩⟩
 have k:=(Below.refl w.heap.size w).alloc (R3 _) (.cells #[] 154);have A:∀W,(binOp .eql 30 (.slice (some ⟨b,o,none⟩) n cap) (.slice none 0 0)).run qf W=.ok (.bool false) W:=fun _=>rfl;generalize (bJ (n*27) (wX wi R)).toList=L at *;clear hc c a hR;go_enter Tryz.func130,Tryz.ntmps130
 go_wp2_with (first|(at_builtin;refine wpList_append_own _ rfl _ _ 30 rfl w.heap.size 154 i0 (.agg (b6 (fun _=>0) (.slice none 0 0))) 27 232 Tryz.underlying30 t z x q (aO _ _) vde _ _ _ rfl h ⟨b,o,none⟩ n cap L rfl d (l.out _ k) v.out (by unfold maxLen;omega) vom vsi ?_;intro v' w1 hown' hgrow hnil))
 go_ret;rw[WN,Yi]at hown';have s:=k.grown hgrow vsi (fun p hp=>(World.ownsRow.lt h p hp).1);rcases hown'.2 with⟨rfl,_⟩|⟨g,cp,cur,rfl,y,hg,B,C,D,f⟩
 ·exact absurd (hnil.1 rfl).1 (by intro e;cases e)
 ·refine⟨g,cp,cur,rfl,hg,fun i hi=>?_,y,s⟩
  have h1:=m.out i hi;rw[←f,Za hi]at h1;rw[←Wo];exact h1
structure tM(w W:V8)(a b c:R2)(rf pl:Nat→Int)(x y z:R2):Prop where
 mg:cU w W a b c rf pl
 res:af W (w.heap.size+1) 35 (aP (.slice none 0 0) (.slice none 0 0) (.slice none 0 0) (fun _=>0) (fun _=>0))
 out:af W (w.heap.size+2) 35 (aP x y z rf pl)
section
variable{w W W':V8}{a b c x y z v:R2}{rf pl:Nat→Int}
theorem tM.new(w:V8)(a b c:R2)(rf pl:Nat→Int):tM w ((((w.alloc (.cells (aP a b c rf pl) 35)).alloc (.cells (aP (.slice none 0 0) (.slice none 0 0) (.slice none 0 0) (fun _=>0) (fun _=>0)) 35)).alloc (.cells (aP (.slice none 0 0) (.slice none 0 0) (.slice none 0 0) (fun _=>0) (fun _=>0)) 35)).setRow (w.heap.size+2) (aP a b c rf pl)) a b c rf pl a b c:=by
 have h1:=cU.new w a b c rf pl;have h2:=af.new (w.alloc (.cells (aP a b c rf pl) 35)) 35 (aP (.slice none 0 0) (.slice none 0 0) (.slice none 0 0) (fun _=>0) (fun _=>0));rw[WI]at h2;have h3:=af.new ((w.alloc (.cells (aP a b c rf pl) 35)).alloc (.cells (aP (.slice none 0 0) (.slice none 0 0) (.slice none 0 0) (fun _=>0) (fun _=>0)) 35)) 35 (aP (.slice none 0 0) (.slice none 0 0) (.slice none 0 0) (fun _=>0) (fun _=>0));rw[WI,WI]at h3;have hm:=(h1.alloc (.cells (aP (.slice none 0 0) (.slice none 0 0) (.slice none 0 0) (fun _=>0) (fun _=>0)) 35)).alloc (.cells (aP (.slice none 0 0) (.slice none 0 0) (.slice none 0 0) (fun _=>0) (fun _=>0)) 35);exact⟨⟨hm.row.bG _ _ vom,Below.setRow hm.below _ vom _⟩,(h2.alloc _).bG _ _ vom,h3.row _⟩
theorem tM.step(h:tM w W a b c rf pl x y z)(hb:Below W.heap.size W W'):tM w W' a b c rf pl x y z:=⟨h.mg.step hb,h.res.below hb h.res.lt,h.out.below hb h.out.lt⟩
theorem tM.JZ(h:tM w W a b c rf pl x y z)(v:R2):tM w (W.setCell ⟨w.heap.size+2,2,none⟩ v) a b c rf pl x y v:=by
 refine⟨⟨h.mg.row.setOther _ _ (by show w.heap.size≠w.heap.size+2;omega),h.mg.below.setCell (p:=⟨w.heap.size+2,2,none⟩) (by show w.heap.size≤w.heap.size+2;omega) _⟩,h.res.setOther _ _ (by show w.heap.size+1≠w.heap.size+2;omega),?_⟩;have:=h.out.set 2 v;rw[JQ]at this;exact this
theorem tM.Qq(h:tM w W a b c rf pl x y z)(v:R2):tM w (W.setCell ⟨w.heap.size+2,1,none⟩ v) a b c rf pl x v z:=by
 refine⟨⟨h.mg.row.setOther _ _ (by show w.heap.size≠w.heap.size+2;omega),h.mg.below.setCell (p:=⟨w.heap.size+2,1,none⟩) (by show w.heap.size≤w.heap.size+2;omega) _⟩,h.res.setOther _ _ (by show w.heap.size+1≠w.heap.size+2;omega),?_⟩;have:=h.out.set 1 v;rw[Mt]at this;exact this
theorem tM.Md(h:tM w W a b c rf pl x y z)(v:R2):tM w (W.setCell ⟨w.heap.size+2,0,none⟩ v) a b c rf pl v y z:=by
 refine⟨⟨h.mg.row.setOther _ _ (by show w.heap.size≠w.heap.size+2;omega),h.mg.below.setCell (p:=⟨w.heap.size+2,0,none⟩) (by show w.heap.size≤w.heap.size+2;omega) _⟩,h.res.setOther _ _ (by show w.heap.size+1≠w.heap.size+2;omega),?_⟩;have:=h.out.set 0 v;rw[K8]at this;exact this
theorem tM.other(h:tM w W a b c rf pl x y z){g:Nat}(hg:w.heap.size+2<g)(i:Nat)(v:R2):tM w (W.setCell ⟨g,i,none⟩ v) a b c rf pl x y z:=
 ⟨⟨h.mg.row.setOther _ _ (by show w.heap.size≠g;omega),h.mg.below.setCell (p:=⟨g,i,none⟩) (by show w.heap.size≤g;omega) _⟩,h.res.setOther _ _ (by show w.heap.size+1≠g;omega),h.out.setOther _ _ (by show w.heap.size+2≠g;omega)⟩
theorem tM.drew(h:tM w W a b c rf pl x y z):tM w W.drew a b c rf pl x y z:=⟨⟨h.mg.row,h.mg.below.drew⟩,h.res,h.out⟩
end
theorem eY{W:V8}{v:R2}{n:Nat}{f:Nat→Int}(h:aq W v n f)(p:Addr)(u:R2)(hp:∀b o cap,v=.slice (some ⟨b,o,none⟩) n cap→0<n→b≠p.block):aq (W.setCell p u) v n f:=by
 obtain⟨a,cap,h1,h2,h3⟩:=h;refine⟨a,cap,h1,h2,fun c hc=>?_⟩;obtain⟨b,o,e,d⟩:=h3 c hc;refine⟨b,o,e,?_⟩;have g:=hp b o cap (by rw[h1,e]) vom;unfold World.cell? at d⊢;rw[WT W p b u g];exact d
def Qb(k:Nat)(N R:Nat→R2)(r:Nat):R2:=if r<k then N r else R r
theorem Mk{wi:Nat→Nat→Int}{N R:Nat→R2}{n k:Nat}{cur:Array R2}{v:R2}(hk:k<n)(hs:n*27≤cur.size)(hc:∀i,i<n*27→cur[i]?=some (wX wi (Qb k N R) i)):∀i,i<n*27→(cur.setIfInBounds (k*27+26) v)[i]?=some (wX wi (Qb (k+1) (fun r=>if r=k then v else N r) R) i):=fun i hi=>by
 rw[XA];by_cases e:k*27+26=i
 ·rw[Wc e,Wc vom]
  unfold wX Qb;rw[←e,show(k*27+26) % 27=26 by omega,show(k*27+26) / 27=k by omega,if_neg vde,if_pos vom];dsimp only;rw[if_pos rfl]
 ·rw[V9 e,hc i hi]
  unfold wX;by_cases h1:i % 27<26
  ·rw[Wc h1,Wc h1]
  ·rw[V9 h1,V9 h1]
   unfold Qb;have a:i / 27≠k:=vom;by_cases h2:i / 27<k
   ·rw[Wc h2,Wc vom]
    dsimp only;rw[if_neg a]
   ·rw[V9 h2,V9 vom]
structure M4(w W:V8)(a b c:R2)(rf pl:Nat→Int)(y z:R2)(wi:Nat→Nat→Int)(R:Nat→R2)(nl:Nat→Nat)(no:Nat→Nat→Int)(rl:Nat)(ri:Nat→Int)(g n cp k:Nat):Prop where
 s3:tM w W a b c rf pl (.slice (some ⟨g,0,none⟩) n cp) y z
 lt:w.heap.size+2<g
 ex:∃(cur:Array R2) (N:Nat→R2),af W g 154 cur∧n*27≤cur.size∧(∀i,i<n*27→cur[i]?=some (wX wi (Qb k N R) i))∧∀r,r<k→aq W (N r) (nl r) (no r)∧∀b o cap,N r=.slice (some ⟨b,o,none⟩) (nl r) cap→0<nl r→b≠g∧b≠w.heap.size+1
 rings:aq W y rl ri
 Ez:∀b o cap,y=.slice (some ⟨b,o,none⟩) rl cap→0<rl→b≠g
 yH:∀b o cap,y=.slice (some ⟨b,o,none⟩) rl cap→0<rl→b≠w.heap.size+1
theorem M4.step{w W W':V8}{a b c:R2}{rf pl:Nat→Int}{y z:R2}{wi:Nat→Nat→Int}{R:Nat→R2}{nl:Nat→Nat}{no:Nat→Nat→Int}{rl:Nat}{ri:Nat→Int}{g n cp k:Nat}(h:M4 w W a b c rf pl y z wi R nl no rl ri g n cp k)(hb:Below W.heap.size W W'):M4 w W' a b c rf pl y z wi R nl no rl ri g n cp k:=by
 obtain⟨h1,h2,⟨cur,N,k1,k2,k3,k4⟩,h4,h5,h6⟩:=h;exact⟨h1.step hb,h2,⟨cur,N,k1.below hb k1.lt,k2,k3,fun r hr=>⟨(k4 r hr).1.below hb,(k4 r hr).2⟩⟩,h4.below hb,h5,h6⟩
theorem M4.drew{w W:V8}{a b c:R2}{rf pl:Nat→Int}{y z:R2}{wi:Nat→Nat→Int}{R:Nat→R2}{nl:Nat→Nat}{no:Nat→Nat→Int}{rl:Nat}{ri:Nat→Int}{g n cp k:Nat}(h:M4 w W a b c rf pl y z wi R nl no rl ri g n cp k):M4 w W.drew a b c rf pl y z wi R nl no rl ri g n cp k:=⟨h.s3.drew,h.lt,h.ex,h.rings,h.Ez,h.yH⟩
theorem tv{P:Program}{fn:Func}{p:Tmp}{ty:Wj}(h:fn.results=#[.cell p ty])(tmps:Array R2)(w:V8)(g:Nat)(t:Wj)(cs:Array R2)(fr:Nat×Nat)(d:TypeDesc)
  (hp:tmps.getD p undef=.pointer (some ⟨g,0,none⟩)) (hg:w.heap[g]?=some (.cells cs t fr))
  (hu:P.underlying ty=some d) (hd:(match d with|.struct _|.array _ _=>true|_=>false)=true) (hi:(P.info? ty).map (·.size)=some cs.size) :
  (results fn tmps).run P w=.ok (.agg cs) w:=by
 have a:tmps[p]?.getD undef=.pointer (some ⟨g,0,none⟩):=by simpa using hp
 simp[results,h,a,asAddr,run_loadVar_row w g t ty cs fr d hg hu hd hi]
theorem vD(vm:R2)(g0:Gm)(hn1:1≤g0.n)(hn4:g0.n≤4)(hfit:∀r,r<g0.n→g0.nl r*8≤140737488355328)(hrl:g0.rl*8≤140737488355328)(vs:R2)(m:Nat)(f:Nat→Int)(w:V8)(hm:cL w vm g0)(hs:aq w vs m f):
  WA qf 100 #[vm,vs] w fun e w'=>∃v',e=.returned v'∧cL w' v' { g0 with sl:=m,st:=f }∧(∃a b,v'=.agg (aP a b vs g0.rf g0.pl))∧Below w.heap.size w w':=by
 obtain⟨a,b,c,rfl,r7,k5,r9⟩:=hm;have r8:Hid (aq w vs m f):=hs;obtain⟨as0,cs0,rfl,_,_⟩:=hs;obtain⟨ac,cc,rfl,_,_⟩:=r9;have u0:Hid (aq w b g0.rl g0.ri):=k5;obtain⟨ar,cr,rfl,_,_⟩:=k5;obtain⟨aw,cw,R,rfl,_,e6,j0⟩:=r7;obtain⟨bw,ow,rfl,_⟩:=e6 0 hn1
 have H:Hid (∀r,r<g0.n→w.rangeAt bw (ow+r*27) (b6 (g0.wi r) (R r)).toList):=fun r hr=>by
  obtain⟨b',o',e,h⟩:=e6 r hr;cases e;exact h
 have q5:Hid (∀r,r<g0.n→aq w (R r) (g0.nl r) (g0.no r)):=j0
 have k3:Hid (∀r,r<g0.n→(R r).oneCell'=true):=fun r hr=>by
  obtain⟨x,y,e,_⟩:=j0 r hr;rw[e];rfl
 have h0:=tM.new w (.slice (some ⟨bw,ow,none⟩) g0.n cw) (.slice ar g0.rl cr) (.slice ac g0.sl cc) g0.rf g0.pl;have r4:=bR n9;have q3:=cU.new w (.slice (some ⟨bw,ow,none⟩) g0.n cw) (.slice ar g0.rl cr) (.slice ac g0.sl cc) g0.rf g0.pl;have O:=AU (a:=.slice (some ⟨bw,ow,none⟩) g0.n cw) (b:=.slice ar g0.rl cr) (c:=.slice ac g0.sl cc) (rf:=g0.rf) (pl:=g0.pl) rfl rfl rfl;have o6:Hid _:=hfit;have s0:Hid _:=hrl;clear e6 j0 hfit hrl;have e4:=af.new ((w.alloc (.cells (aP (.slice (some ⟨bw,ow,none⟩) g0.n cw) (.slice ar g0.rl cr) (.slice ac g0.sl cc) g0.rf g0.pl) 35)).alloc (.cells (aP (.slice none 0 0) (.slice none 0 0) (.slice none 0 0) (fun _=>0) (fun _=>0)) 35)) 35 (aP (.slice none 0 0) (.slice none 0 0) (.slice none 0 0) (fun _=>0) (fun _=>0));rw[WI,WI]at e4;have l5:=((q3.alloc (.cells (aP (.slice none 0 0) (.slice none 0 0) (.slice none 0 0) (fun _=>0) (fun _=>0)) 35)).row)
 go_enter Tryz.func100,Tryz.ntmps100
 go_upto_region 2 with(first|refine Wn rfl 35 _ rfl w.heap.size rfl 35 (aP (.slice (some ⟨bw,ow,none⟩) g0.n cw) (.slice ar g0.rl cr) (.slice ac g0.sl cc) g0.rf g0.pl) (0,0) _ l5 WH rfl (by rw[aD];exact aE) ?_|refine Wk rfl 35 _ _ rfl (w.heap.size+2) (aP (.slice (some ⟨bw,ow,none⟩) g0.n cw) (.slice ar g0.rl cr) (.slice ac g0.sl cc) g0.rf g0.pl) rfl rfl 35 _ e4 (by rw[aD];exact aE) (by simp only[aD]) O ?_)
 rw[show w.heap.size+1+1=w.heap.size+2 from rfl];generalize (((w.alloc (.cells (aP (.slice (some ⟨bw,ow,none⟩) g0.n cw) (.slice ar g0.rl cr) (.slice ac g0.sl cc) g0.rf g0.pl) 35)).alloc (.cells (aP (.slice none 0 0) (.slice none 0 0) (.slice none 0 0) (fun _=>0) (fun _=>0)) 35)).alloc (.cells (aP (.slice none 0 0) (.slice none 0 0) (.slice none 0 0) (fun _=>0) (fun _=>0)) 35)).setRow (w.heap.size+2) (aP (.slice (some ⟨bw,ow,none⟩) g0.n cw) (.slice ar g0.rl cr) (.slice ac g0.sl cc) g0.rf g0.pl)=V at *;clear r4 q3 O e4 l5;obtain⟨A0,k4⟩:∃A0,A0=aP (.slice (some ⟨bw,ow,none⟩) g0.n cw) (.slice ar g0.rl cr) (.slice ac g0.sl cc) g0.rf g0.pl:=⟨_,rfl⟩
 rw[←k4];clear k4;have c2:=h0.out.cell (gM _ _ _ _ _);have f2:=h0.out.frozen 2;have h2:=h0.JZ (.slice as0 m cs0);have n4:Hid _:=h2;clear h2
 go_upto_region 3 with fail
 have h2:=n4.out;generalize V.setCell ⟨w.heap.size+2,2,none⟩ (.slice as0 m cs0)=V2 at *;clear h0 c2 f2 n4;have d1:=h2.mg.row.cell (rV _ _ _ _ _);have HC:Hid _:=vQ _ g0.rl g0.ri s0.out V2 (u0.out.below h2.mg.below)
 go_wp2_with fail
 refine We HC.out ?_;rintro e V3 ⟨vb,rfl,hvb,D,hb⟩;have h3:=h2.step hb;have p7:Hid (aq V3 vb g0.rl g0.ri):=hvb;have J:Hid (∀b o cp,vb=.slice (some ⟨b,o,none⟩) g0.rl cp→w.heap.size+2<b):=fun b o cp e=>WE h2.out.lt (D b o cp e);obtain⟨ab,cb,rfl,_,_⟩:=hvb;clear hb h2 HC d1 D;have c1:=h3.out.cell (rV _ _ _ _ _);have f1:=h3.out.frozen 1;have j3:Hid _:=h3.Qq (.slice ab g0.rl cb)
 have M:Hid (aq (V3.setCell ⟨w.heap.size+2,1,none⟩ (.slice ab g0.rl cb)) (.slice ab g0.rl cb) g0.rl g0.ri):=
  eY p7.out _ _ fun b' o' cap' e _=>by have:=J.out b' o' cap' e;show b'≠w.heap.size+2;omega
 go_upto_region 4 with fail
 have h4:=j3.out;have E:Hid (aq (V3.setCell ⟨w.heap.size+2,1,none⟩ (.slice ab g0.rl cb)) (.slice ab g0.rl cb) g0.rl g0.ri):=M.out;generalize V3.setCell ⟨w.heap.size+2,1,none⟩ (.slice ab g0.rl cb)=V4 at *;clear h3 c1 f1 j3 p7 M;have d0:=h4.mg.row.cell (dV _ _ _ _ _)
 have HC:Hid _:=KP bw ow g0.n cw g0.wi R hn4 k3.out V4 (fun r hr=>Below.rangeAt h4.mg.below (H.out r hr) (by
  have h1:=H.out r hr 0 _ (show(b6 (g0.wi r) (R r)).toList[0]?=some (.int .i64 (g0.wi r 0))from by
   have ex:(b6 (g0.wi r) (R r)).toList[0]?=(b6 (g0.wi r) (R r))[0]?:=Wo;rw[ex,kV _ _ vde])
  exact aA h1))
 go_wp2_with fail
 refine We HC.out ?_;rintro e V5 ⟨g,cp,cur,rfl,d,j,k9,hb⟩;have h5:=h4.step hb;have Q:Hid _:=E.out.below hb;have s4:w.heap.size+2<g:=WE h4.out.lt k9
 have q6:Hid (∀b o cp,(Value.slice ab g0.rl cb)=.slice (some ⟨b,o,none⟩) g0.rl cp→0<g0.rl→b≠g):=fun b' o' cp' e hpos=>by
  obtain⟨a2,c2,e2,_,h3⟩:=E.out;obtain⟨b3,o3,e3,s6⟩:=h3 0 hpos;rw[e2,e3]at e;cases e;have:=aA s6;have h4:b'<V4.heap.size:=this;omega
 clear hb h4 HC d0 E k9;have c0:=h5.out.cell (dV _ _ _ _ _);have f0:=h5.out.frozen 0
 have A:g0.n*27≤cur.size:=by
  have h1:=j (g0.n*27-1) vom;have:=(Wd.1 h1).1;omega
 have e8:Hid (M4 w (V5.setCell ⟨w.heap.size+2,0,none⟩ (.slice (some ⟨g,0,none⟩) g0.n cp)) (.slice (some ⟨bw,ow,none⟩) g0.n cw) (.slice ar g0.rl cr) (.slice ac g0.sl cc) g0.rf g0.pl (.slice ab g0.rl cb) (.slice as0 m cs0) g0.wi R g0.nl g0.no g0.rl g0.ri g g0.n cp 0):=by
  refine⟨h5.Md _,s4,⟨cur,fun _=>.slice none 0 0,d.setOther _ _ (by show g≠w.heap.size+2;omega),A,fun i hi=>?_,fun r hr=>by omega⟩,eY Q.out _ _ fun b' o' cap' e _=>by have:=J.out b' o' cap' e;show b'≠w.heap.size+2;omega,q6.out,fun b' o' cap' e _=>by have:=J.out b' o' cap' e;omega⟩;rw[j i hi];unfold wX Qb;simp
 go_upto_region 5 with fail
 generalize V5.setCell ⟨w.heap.size+2,0,none⟩ (.slice (some ⟨g,0,none⟩) g0.n cp)=V6 at *;clear h5 c0 f0 d j A Q J;have d0:=e8.out.s3.mg.row.cell (dV _ _ _ _ _)
 go_wp2_with fail
 clear d0;go_loopw [22] (fun x W=>∃k:Nat,k≤g0.n∧x=.int .i64 (k:Nat)∧M4 w W (.slice (some ⟨bw,ow,none⟩) g0.n cw) (.slice ar g0.rl cr) (.slice ac g0.sl cc) g0.rf g0.pl (.slice ab g0.rl cb) (.slice as0 m cs0) g0.wi R g0.nl g0.no g0.rl g0.ri g g0.n cp k) (fun x _=>((g0.n:Int)-intOf x).toNat)
 case atStart=>exact⟨0,vom,rfl,e8.out⟩
 case round=>
  clear e8;obtain⟨k,hk,rfl,hg⟩:=hrel;by_cases hlt:k<g0.n
  ·have B:Hid (k<g0.n):=hlt
   have u7:(k:Int)<(g0.n:Int):=vom
   have k6:=Below.rangeAt hg.s3.mg.below (H.out k hlt) (by
    have h1:=H.out k hlt 0 _ (show(b6 (g0.wi k) (R k)).toList[0]?=some (.int .i64 (g0.wi k 0))from by
     have ex:(b6 (g0.wi k) (R k)).toList[0]?=(b6 (g0.wi k) (R k))[0]?:=Wo;rw[ex,kV _ _ vde])
    exact aA h1)
   have q7:=bR zm;have q4:Hid ((R k).oneCell'=true):=k3.out k hlt
   have p5:(b6 (g0.wi k) (R k)).all (·.oneCell')=true:=by
    unfold b6;rw[Array.all_push,aI,Bool.true_and];exact q4.out
   have HG:Hid (M4 w wr (.slice (some ⟨bw,ow,none⟩) g0.n cw) (.slice ar g0.rl cr) (.slice ac g0.sl cc) g0.rf g0.pl (.slice ab g0.rl cb) (.slice as0 m cs0) g0.wi R g0.nl g0.no g0.rl g0.ri g g0.n cp k):=hg;clear hg hlt
   go_upto_region 8 with(first|refine aX rfl 154 _ rfl bw (ow+k*27) rfl (b6 (g0.wi k) (R k)) _ k6 Tryz.underlying154 rfl (by rw[aO];exact pg) ?_|refine Wk rfl 154 _ _ rfl wr.heap.size (b6 (g0.wi k) (R k)) rfl rfl 154 _ (af.new wr _ _) (by rw[aO];exact pg) (by simp only[aO]) p5 ?_)
   have z:=Below.setRow ((Below.refl wr.heap.size wr).alloc (R3 _) (.cells (b6 (fun _=>0) (.slice none 0 0)) 154)) wr.heap.size (R3 _) (b6 (g0.wi k) (R k));have hq:=(af.new wr 154 (b6 (fun _=>0) (.slice none 0 0))).row (b6 (g0.wi k) (R k));have Z:=HG.out.step z
   have v7:g<wr.heap.size:=by
    obtain⟨cur,N,h1,_⟩:=HG.out.ex;exact h1.lt
   generalize (wr.alloc (.cells (b6 (fun _=>0) (.slice none 0 0)) 154)).setRow wr.heap.size (b6 (g0.wi k) (R k))=W3 at *;generalize wr.heap.size=q at *;obtain⟨rk,ck,e9,_⟩:=q5.out k B.out;have s5:Hid (∀W,Below w.heap.size w W→WA qf 30 #[.slice rk (g0.nl k) ck] W fun e w'=>∃v',e=.returned v'∧aq w' v' (g0.nl k) (g0.no k)∧(∀b o cp,v'=.slice (some ⟨b,o,none⟩) (g0.nl k) cp→W.heap.size≤b)∧Below W.heap.size W w'):=fun W hb=>by have:=vQ (R k) (g0.nl k) (g0.no k) (o6.out k B.out) W ((q5.out k B.out).below hb);rw[e9]at this;exact this
   have q8:Hid (∀W,af W q 154 (b6 (g0.wi k) (R k))→W.cell? ⟨q,26,none⟩=some (.slice rk (g0.nl k) ck)):=fun W h=>by have:=h.cell (jE (g0.wi k) (R k));rw[e9]at this;exact this
   have q9:Hid (∀W,tM w W (.slice (some ⟨bw,ow,none⟩) g0.n cw) (.slice ar g0.rl cr) (.slice ac g0.sl cc) g0.rf g0.pl (.slice (some ⟨g,0,none⟩) g0.n cp) (.slice ab g0.rl cb) (.slice as0 m cs0)→W.cell? ⟨w.heap.size+2,0,none⟩=some (.slice (some ⟨g,0,none⟩) g0.n cp)):=fun W h=>h.out.cell (dV _ _ _ _ _);generalize b6 (g0.wi k) (R k)=AW at *;clear z HG q7 k6 p5 q4 e9;refine Xb ?_;refine Wz (S:=fun W=>tM w W (.slice (some ⟨bw,ow,none⟩) g0.n cw) (.slice ar g0.rl cr) (.slice ac g0.sl cc) g0.rf g0.pl (.slice (some ⟨g,0,none⟩) g0.n cp) (.slice ab g0.rl cb) (.slice as0 m cs0)∧af W q 154 AW) vkr ⟨Z.s3.drew,hq⟩ (fun hS=>?_);have L:=Z.drew;obtain⟨U,hU⟩:∃x,x=W3.drew:=⟨_,rfl⟩
   rw[←hU]at hS L⊢;clear hU Z hq;refine vuq 0 27 (.pointer (some ⟨w.heap.size+2,0,none⟩)) ?_;refine vuk 1 28 (.slice (some ⟨g,0,none⟩) g0.n cp) rfl (fun W hW=>by have u:=q9.out W hW.1;clear hS hW;go_simp) hS ?_;refine vuq 2 29 (.int .i64 (k:Nat)) ?_;refine vuq 3 30 (.pointer (some ⟨q,26,none⟩)) ?_;refine vuk 4 31 (.slice rk (g0.nl k) ck) rfl (fun W hW=>by have u:=q8.out W hW.2;clear hS hW;go_simp) hS ?_;refine rd1 5 rfl (fun K hK=>?_);go_simp;refine We (s5.out _ hS.1.mg.below) ?_;rintro e Y ⟨vn,rfl,hvn,D,z⟩
   have p9:∀b o cp,vn=.slice (some ⟨b,o,none⟩) (g0.nl k) cp→g<b:=fun b o cp e=>by
    have h1:=D b o cp e;obtain⟨_,_,h2,_⟩:=L.ex;have:=h2.lt;omega
   have l:=L.step z;refine hK.out _ _ ⟨hS.1.step z,hS.2.below z hS.2.lt⟩ (fun hS1=>?_);clear hK hS K L D z;have hS:=hS1;clear hS1;have l9:Hid (aq Y vn (g0.nl k) (g0.no k)):=hvn;have b9:Hid _:=p9;obtain⟨an,cn,rfl,_,_⟩:=hvn;clear p9;refine vuq 6 33 (.pointer (some ⟨g,k*27,none⟩)) ?_;refine vuq 7 34 (.pointer (some ⟨g,k*27+26,none⟩)) ?_;obtain⟨cur,N,d,A,j,t⟩:=l.ex;have s:=d.cell (j (k*27+26) (by have:=B.out;omega));have u5:=d.frozen (k*27+26)
   have HN:Hid (M4 w (Y.setCell ⟨g,k*27+26,none⟩ (.slice an (g0.nl k) cn)) (.slice (some ⟨bw,ow,none⟩) g0.n cw) (.slice ar g0.rl cr) (.slice ac g0.sl cc) g0.rf g0.pl (.slice ab g0.rl cb) (.slice as0 m cs0) g0.wi R g0.nl g0.no g0.rl g0.ri g g0.n cp (k+1)):=by
    refine⟨l.s3.other l.lt _ _,l.lt,⟨_,fun r=>if r=k then .slice an (g0.nl k) cn else N r,d.set (k*27+26) _,by simpa using A,Mk B.out A j,fun r hr=>?_⟩,eY l.rings _ _ fun b' o' cap' e hpos=>?_,l.Ez,l.yH⟩
    ·dsimp only
     by_cases e:r=k
     ·rw[Wc e,e]
      exact⟨eY l9.out _ _ fun b' o' cap' e' _=>by have:=b9.out b' o' cap' e';show b'≠g;omega,fun b' o' cap' e' _=>by have:=b9.out b' o' cap' e';have:=l.lt;constructor<;>omega⟩
     ·rw[V9 e]
      obtain⟨h1,h2⟩:=t r vom;exact⟨eY h1 _ _ fun b' o' cap' e' hp=>(h2 b' o' cap' e' hp).1,h2⟩
    ·exact l.Ez b' o' cap' e hpos
   generalize wX g0.wi (Qb k N R) (k*27+26)=oc at *;refine rd1 8 rfl (fun K hK=>?_);go_simp;refine hK.out _ _ (⟨hS.1.other l.lt _ _,hS.2.setOther _ _ (by show q≠g;omega)⟩) (fun hS1=>?_);clear hK hS K;have hS:=hS1;clear hS1;refine Xq vkr ?_ _;refine WU ?_;clear hS d A j t s u5 l l9 b9;go_wp2;go_roundw
   case rel=>exact⟨k+1,B.out,by go_num,HN.out⟩
   case measure=>have:=B.out;simp[intOf];omega
  ·obtain rfl:k=g0.n:=vom
   have u9:¬((g0.n:Nat):Int)<((g0.n:Nat):Int):=vom;obtain⟨A1,C⟩:∃A1,A1=aP (.slice (some ⟨g,0,none⟩) g0.n cp) (.slice ab g0.rl cb) (.slice as0 m cs0) g0.rf g0.pl:=⟨_,rfl⟩
   have P:=hg.s3.out;rw[←C]at P;have G:=hg.s3.res;have I:Hid (A1.size=55):=by rw[Hid,C,aD]
   have r6:Hid (A1.all (·.oneCell')=true):=by rw[Hid,C];exact AU rfl rfl rfl
   have k8:Hid _:=C;have HG:Hid _:=hg;have T:(aP (.slice none 0 0) (.slice none 0 0) (.slice none 0 0) (fun _=>0) (fun _=>0):Array R2).size=55:=aD _ _ _ _ _;obtain⟨Z0,k7⟩:∃Z0,Z0=aP (.slice none 0 0) (.slice none 0 0) (.slice none 0 0) (fun _=>0) (fun _=>0):=⟨_,rfl⟩
   rw[←k7]at G T;clear C hg hlt k7
   go_wp2_with (first|refine Wn rfl 35 _ rfl (w.heap.size+2) rfl 35 A1 (0,0) _ P WH rfl (by rw[I.out];exact aE) ?_|refine Wk rfl 35 _ _ rfl (w.heap.size+1) A1 rfl rfl 35 _ G (by rw[I.out];exact aE) (by rw[I.out,T]) r6.out ?_)
   refine WL (v:=.agg A1) (tv Tryz.results100 _ _ _ _ _ _ _ rfl (G.row _) WH rfl (by rw[I.out];exact aE)) rfl ?_;obtain⟨cur,N,d,A,j,t⟩:=HG.out.ex;have q2:=Below.setRow HG.out.s3.mg.below (w.heap.size+1) vom A1;have u6:=HG.out.lt;have e5:∀b,b≠w.heap.size+1→(wr.setRow (w.heap.size+1) A1).heap[b]?=wr.heap[b]?:=fun b hb=>setRow_other wr (w.heap.size+1) b A1 hb
   have F:∀{v:R2} {n:Nat} {f:Nat→Int},aq wr v n f→(∀b o cap,v=.slice (some ⟨b,o,none⟩) n cap→0<n→b≠w.heap.size+1)→aq (wr.setRow (w.heap.size+1) A1) v n f:=fun {v n f} h hp=>by
    obtain⟨a',cap',e1,e2,e3⟩:=h;refine⟨a',cap',e1,e2,fun c hc=>?_⟩;obtain⟨b',o',e,s⟩:=e3 c hc;refine⟨b',o',e,?_⟩;have r5:=hp b' o' cap' (by rw[e1,e]) vom;unfold World.cell? at s⊢;rw[e5 b' r5];exact s
   refine⟨_,rfl,⟨.slice (some ⟨g,0,none⟩) g0.n cp,.slice ab g0.rl cb,.slice as0 m cs0,by rw[k8.out],⟨some ⟨g,0,none⟩,cp,N,rfl,?_,fun r hr=>⟨g,0,rfl,?_⟩,fun r hr=>?_⟩,?_,?_⟩,⟨_,_,by rw[k8.out]⟩,q2⟩
   ·show g0.n≤maxLen
    unfold maxLen;omega
   ·have e7:af (wr.setRow (w.heap.size+1) A1) g 154 cur:=d.bG _ _ vom
    refine ja e7 (0+r*27) _ fun i v hv=>?_;have hi:i<27:=by have:=(Wd.1 hv).1;rwa [aO]at this
    rw[EP _ _ _ _ hi]at hv;have r3:r<g0.n:=hr;rw[show 0+r*27+i=r*27+i by omega,j (r*27+i) vom,←hv];unfold wX Qb;rw[show(r*27+i) / 27=r by omega,Wc r3]
   ·exact F (t r hr).1 fun b' o' cap' e hp=>((t r hr).2 b' o' cap' e hp).2
   ·exact F HG.out.rings fun b' o' cap' e hp=>HG.out.yH b' o' cap' e hp
   ·exact r8.out.below q2
end
end Go.Proofs.YtpcnpkhgjanamaaGreatDoor
