import Derived.Test.YtpcnpkhgjanamaaGreatDoorPz
import Derived.Test.YtpcnpkhgjanamaaGreatDoorJn30
namespace Go.Proofs.YtpcnpkhgjanamaaGreatDoor
open Go.Proofs.Tryz renaming prog→qf,underlying35→WH
open Go.RowKit renaming Below→Wh
open _root_.List renaming range→WO,replicate→XX,filter_sublist→ZJ
open _root_.List.Pairwise renaming sublist→YY
set_option maxRecDepth 100000
set_option maxHeartbeats 4000000
section
open Go.RowKit PK
theorem Fw(q:Nat→Bool)(n:Nat):∀ls:List (List Nat),(∀l∈ls,∀x∈l,q x=(l.length==n))→(ls.flatten.filter q).length=n*cnt ls n
 |[],_=>by simp[cnt]
 |l :: ls,h=>by
  have ih:=Fw q n ls (fun x hx=>h x (by simp[hx]));have hl:=h l vsi;rw[List.flatten_cons,Yu,WM,ih];unfold cnt;by_cases e:l.length=n
  ·have h1:l.filter q=l:=List.filter_eq_self.2 fun x hx=>by rw[hl x hx];simpa using e
   rw[h1];simp[e,Nat.mul_succ];omega
  ·have h1:l.filter q=[]:=List.filter_eq_nil_iff.2 fun x hx=>by rw[hl x hx];simpa using e
   rw[h1];simp[e]
def sj(p:Nat→Nat)(n:Nat):Nat:=((WO 26).filter fun i=>Pm.len p i==n).length
theorem nj{p:Nat→Nat}(hp:Pm.aC p)(n:Nat):sj p n=n*cnt (Pm.eS p 26) n:=by
 rw[←Fw (fun i=>Pm.len p i==n) n (Pm.eS p 26) (fun l hl x hx=>by
  obtain⟨i,hi,rfl,_⟩:=Pm.qu p 26 l hl;rw[Pm.iz,Pm.CN hp x i hi hx])]
 unfold sj;have b:((WO 26).filter fun i=>Pm.len p i==n).Nodup:=YY ZJ (Yt (n:=26));have a:((Pm.eS p 26).flatten.filter fun i=>Pm.len p i==n).Nodup:=YY ZJ (Pm.og hp 26 (R3 _))
 have h1:=Pm.dP _ ((Pm.eS p 26).flatten.filter fun i=>Pm.len p i==n) b (fun x hx=>by
  rw[Yj]at hx⊢;exact⟨(Pm.pR hp x).2 (by simpa using hx.1),hx.2⟩)
 have h2:=Pm.dP _ ((WO 26).filter fun i=>Pm.len p i==n) a (fun x hx=>by
  rw[Yj]at hx⊢;exact⟨by simpa using(Pm.pR hp x).1 hx.1,hx.2⟩)
 omega
theorem Nj{p x:Nat→Nat}(hx:Pm.aC x)(i:Nat)(hi:i<26):Pm.lC p x (x i)=x (p i):=by
 unfold Pm.lC;rw[hx.uV i hi]
theorem qC{p x:Nat→Nat}(hp:Pm.aC p)(hx:Pm.aC x)(i:Nat)(hi:i<26):∀k,Pm.iter (Pm.lC p x) k (x i)=x (Pm.iter p k i)
 |0=>rfl
 |k+1=>by
  show Pm.lC p x (Pm.iter (Pm.lC p x) k (x i))=_;rw[qC hp hx i hi k,Nj hx _ (Pm.gA hp i hi k)]
  rfl
theorem Bs{p x:Nat→Nat}(hp:Pm.aC p)(hx:Pm.aC x)(i:Nat)(hi:i<26):Pm.len (Pm.lC p x) (x i)=Pm.len p i:=by
 have h1:=Pm.mj hp i hi;have h2:=Pm.mj (hp.lC hx) (x i) (hx.lt i hi)
 have h3:Pm.Cg (Pm.lC p x) (x i) (Pm.len p i):=⟨h1.pos,h1.le,by rw[qC hp hx i hi,h1.ret],fun j a b e=>by
  rw[qC hp hx i hi]at e;exact h1.min j a b (hx.inj _ _ (Pm.gA hp i hi j) hi e)⟩
 exact h2.uniq h3
theorem Pp{p x:Nat→Nat}(hp:Pm.aC p)(hx:Pm.aC x)(n:Nat):sj (Pm.lC p x) n=sj p n:=by
 unfold sj;have hc:=hp.lC hx;have c:((WO 26).filter fun i=>Pm.len p i==n).Nodup:=YY ZJ (Yt (n:=26));have b:((WO 26).filter fun i=>Pm.len (Pm.lC p x) i==n).Nodup:=YY ZJ (Yt (n:=26))
 have m1:=Pm.ir x _ c (fun i hi j hj e=>by
  rw[Yj]at hi hj;exact hx.inj i j (by simpa using hi.1) (by simpa using hj.1) e)
 have h1:=Pm.dP _ ((WO 26).filter fun i=>Pm.len (Pm.lC p x) i==n) m1 (fun y hy=>by
  obtain⟨i,hi,rfl⟩:=Yh.1 hy;rw[Yj]at hi⊢;have a:i<26:=by simpa using hi.1
  exact⟨by simpa using hx.lt i a,by rw[Bs hp hx i a];exact hi.2⟩)
 have m2:=Pm.ir (Pm.inv x) _ b (fun i hi j hj e=>by
  rw[Yj]at hi hj;exact hx.inv.inj i j (by simpa using hi.1) (by simpa using hj.1) e)
 have h2:=Pm.dP _ ((WO 26).filter fun i=>Pm.len p i==n) m2 (fun y hy=>by
  obtain⟨i,hi,rfl⟩:=Yh.1 hy;rw[Yj]at hi⊢;have a:i<26:=by simpa using hi.1
  have hv:=hx.fo i a;refine⟨by simpa using hv.1,?_⟩;have:=Bs hp hx (Pm.inv x i) hv.1;rw[hv.2]at this;rw[←this];exact hi.2)
 rw[List.length_map]at h1 h2;omega
theorem kU(c c':Nat→Nat)(h:∀n,0<n→n≤26→c n=c' n):∀k,k≤26→dj c k=dj c' k
 |0,_=>rfl
 |k+1,hk=>by
  show dj c k++XX (c (26-k)) (26-k)=dj c' k++XX (c' (26-k)) (26-k);rw[kU c c' h k vom,h (26-k) vom vom]
theorem He{p x:Nat→Nat}(hp:Pm.aC p)(hx:Pm.aC x):typeOf (Pm.lC p x)=typeOf p:=by
 unfold typeOf;refine kU _ _ (fun n h0 _=>?_) 26 (R3 _);have h1:=nj (hp.lC hx) n;rw[Pp hp hx n,nj hp n]at h1;exact(Nat.eq_of_mul_eq_mul_left h0 h1).symm
theorem vT{p q:Nat→Nat}(hp:Pm.aC p)(h:∀i,i<26→p i=q i)(i:Nat)(hi:i<26):∀k,Pm.iter p k i=Pm.iter q k i
 |0=>rfl
 |k+1=>by
  show p (Pm.iter p k i)=q (Pm.iter q k i);rw[h _ (Pm.gA hp i hi k),vT hp h i hi k]
theorem GG{p q:Nat→Nat}(hp:Pm.aC p)(h:∀i,i<26→p i=q i)(i:Nat)(hi:i<26):Pm.len p i=Pm.len q i:=by
 unfold Pm.len;rw[show(fun n=>decide (0<n)&&Pm.iter p n i==i)=(fun n=>decide (0<n)&&Pm.iter q n i==i)from YP fun n=>by rw[vT hp h i hi n]]
theorem DD{p q:Nat→Nat}(hp:Pm.aC p)(hq:Pm.aC q)(h:∀i,i<26→p i=q i):typeOf p=typeOf q:=by
 unfold typeOf;refine kU _ _ (fun n h0 _=>?_) 26 (R3 _);have h1:=nj hp n;have h2:=nj hq n
 have h3:sj p n=sj q n:=by
  unfold sj;rw[List.filter_congr fun i hi=>by rw[GG hp h i (by simpa using hi)]]
 rw[h3,h2]at h1;exact(Nat.eq_of_mul_eq_mul_left h0 h1).symm
namespace Rj
section
variable{p q:Nat→Nat}
def hd(r:Nat→Nat)(x:Nat):Nat:=((WO 26).find? fun h=>(Pm.lf r h).contains x).getD 0
end
end Rj
end
section
open Go.RowKit PK Vg
theorem ld(M:Om.Ma)(at':Nat→Nat):∀k,Om.steps (Om.bA M) at' k=Om.steps M at' k
 |0=>rfl
 |k+1=>by
  show Om.step (Om.bA M) (Om.steps (Om.bA M) at' k)=Om.step M (Om.steps M at' k);rw[ld M at' k]
  rfl
theorem nH{M:Om.Ma}(h:Om.Ok M)(k:Nat){c:Nat}(hc:c<26):eA M k c=M.pl (eA (Om.bA M) k (M.pl c)):=by
 unfold eA;rw[ld];exact Om.Ie h _ hc
theorem KZ{M:Om.Ma}(h:Om.Ok M)(k:Nat):∀i,i<26→Pm.lC (qz (Om.bA M) k) M.pl i=qz M k i:=fun i hi=>by
 have hU:=Om.gX h;have hp:=h.pl.lt i hi;have e:Pm.inv M.pl i=M.pl i:=Om.oC h.pl hp (h.zD i hi);have hy:eA (Om.bA M) k (M.pl i)<26:=(Om.eM hU (Om.steps (Om.bA M) (Om.bA M).st (k+1))).lt _ hp;show M.pl (eA (Om.bA M) (k+3) (eA (Om.bA M) k (Pm.inv M.pl i)))=eA M (k+3) (eA M k i);rw[e,nH h k hi,nH h (k+3) (h.pl.lt _ hy),h.zD _ hy]
theorem Cf:(qf.info? 33).map (fun i=>(i.zero,i.size,i.bytes))=some (some (.agg (ints 26 fun _=>0)),26,208):=vkr
theorem IU(n:Nat):madeCells (ints 26 fun _=>0) (n*26)=ints (n*26) fun _=>0:=by
 apply Xc;intro i;by_cases hi:i<n*26
 ·rw[aB _ hi]
  have h2:(ints 26 fun _=>0)[i % 26]?=some (.int .i64 0):=aB (fun _=>0) (X8 _ vde);simp[madeCells,hi,ag];rw[getElem!_def,h2]
 ·rw[Wv (by rw[size_madeCells];omega),Wv (by rw[ag];omega)]
theorem uG(n:Nat)(hn:n≤1000)(w:World):(Instr.makeSlice 113 (.int .i64 (n:Int)) (.int .i64 (n:Int))).run qf w=.ok (.slice (some ⟨w.heap.size,0,none⟩) n n) (w.alloc (.cells (ints (n*26) fun _=>0) 33)):=by
 obtain⟨i,hi,hz,hs,hb⟩:=ig Cf;have hr:=run_make (P:=qf) w 113 33 i _ Tryz.underlying113 hi hz .i64 .i64 n n vom (Int.le_refl _) (by rw[hb];omega) vom;rw[hr,hs];have hc:(Value.agg (ints 26 fun _=>0)).cells=ints 26 fun _=>0:=rfl;simp only[Int.toNat_natCast,hc,IU]
structure UY(w W:World)(a b c:Value)(rf pl:Nat→Int)(M:Om.Ma)(q q7 n k:Nat):Prop where
 mg:cU w W a b c rf pl
 pQ:bP W q M (Om.steps M M.st k)
 keys:af W q7 33 (ints (n*26) (eW (eA M) k))
 q1:w.heap.size<q
 q2:q<q7
theorem KC(M:Om.Ma)(n:Nat)(hn:n≤1000)(a b c:Value)(rf pl:Nat→Int)(w:World)(HW:Hid (∀W,Wh w.heap.size w W→Calls qf 60 #[.agg (aP a b c rf (Pm.up fun i=>i))] W fun e w'=>∃q,e=.returned (.tuple #[.pointer (some ⟨q,0,none⟩),.int .i64 0])∧W.heap.size≤q∧bP w' q M M.st∧Wh W.heap.size W w')):Calls qf 57 #[.agg (aP a b c rf pl),.int .i64 (n:Nat)] w fun e w'=>∃q7,e=.returned (.slice (some ⟨q7,0,none⟩) n n)∧w.heap.size≤q7∧af w' q7 33 (ints (n*26) (flat (eA M)))∧Wh w.heap.size w w':=by
 have h0:=cU.new w a b c rf pl;have HS:Hid (∀W,Calls qf 7 #[] W fun e w'=>e=.returned (.agg (ints 26 (Pm.up fun i=>i)))∧Wh W.heap.size W w'):=qv;go_enter Tryz.func57,Tryz.ntmps57
 go_wp2_with fail
 refine(HS.out _).mono ?_;rintro e W1 ⟨rfl,hb⟩;have h1:=h0.step hb;clear hb h0 HS;have E:=ij h1.row (o:=29) (n:=26) (by rw[aD];decide)
 go_upto_region 2 with(first|refine ZG rfl 33 _ _ rfl w.heap.size 29 (ints 26 (Pm.up fun i=>i)) rfl rfl (by rw[ag];exact E) (by rw[ag];exact aj) (aI _ _) ?_)
 have h2:cU w (W1.setCells w.heap.size 29 (ints 26 (Pm.up fun i=>i)).toList) a b c rf (Pm.up fun i=>i):=by
  refine⟨?_,cT (R3 _) h1.below⟩;have:=c6 (l:=(ints 26 (Pm.up fun i=>i)).toList) (o:=29) h1.row;rw[mM]at this;exact this
 generalize W1.setCells w.heap.size 29 (ints 26 (Pm.up fun i=>i)).toList=V1 at *;clear h1 E;have z:=h2.row
 go_wp2_with (first|refine Wn rfl 35 _ rfl w.heap.size rfl 35 (aP a b c rf (Pm.up fun i=>i)) (0,0) _ z WH rfl (by rw[aD];exact aE) ?_)
 refine(HW.out _ h2.below).mono ?_;rintro e W2 ⟨q,rfl,hq,d,hb⟩;have h3:=h2.step hb;have f:w.heap.size<q:=by have:=h2.lt;omega
 have F:=d.row.lt;have H:=uG n hn;clear hb h2 HW z hq
 go_upto_region 4 with fail
 have m:UY w (W2.alloc (.cells (ints (n*26) fun _=>0) 33)) a b c rf (Pm.up fun i=>i) M q W2.heap.size n 0:=⟨h3.alloc _,d.alloc _,by rw[lT];exact af.new W2 _ _,f,F⟩
 generalize W2.alloc (.cells (ints (n*26) fun _=>0) 33)=V2 at *;obtain⟨q7,G⟩:∃x,x=W2.heap.size:=⟨_,rfl⟩
 rw[←G]at m⊢;clear G H h3 d f F
 go_wp2_with fail
 go_loopw [19] (fun i W=>∃k:Nat,k≤n∧i=.int .i64 (k:Nat)∧UY w W a b c rf (Pm.up fun i=>i) M q q7 n k) (fun i _=>((n:Int)-intOf i).toNat)
 case atStart=>exact⟨0,vom,rfl,m⟩
 case round=>
  clear m;obtain⟨k,hk,rfl,hg⟩:=hrel;by_cases hlt:k<n
  ·have y:Hid (k<n):=hlt
   have N:(k:Int)<(n:Int):=vom;have A:Hid (Om.step M (Om.steps M M.st k)=Om.steps M M.st (k+1)):=rfl
   go_wp2_with fail
   refine(vV q M _ _ hg.pQ).mono ?_;rintro e W3 ⟨rfl,hr,h⟩;rw[A.out]at hr;have f:=hg.q1;have B:=hg.q2;have D:cU w W3 a b c rf (Pm.up fun i=>i):=⟨(h.block _ hg.mg.row.lt (fun e=>by cases e;omega)).trans hg.mg.row,hg.mg.below.grown h hg.mg.below.size (fun k hk=>by cases hk;omega)⟩
   have s:af W3 q7 33 (ints (n*26) (eW (eA M) k)):=(h.block _ hg.keys.lt (fun e=>by cases e;omega)).trans hg.keys;clear hg h
   go_wp2_with fail
   refine(Fi q M _ _ hr).mono ?_;rintro e W4 ⟨rfl,hb⟩;have t:=D.step hb;have v:=s.below hb s.lt;have j:=hr.below hb;clear hb D s hr;obtain⟨AW,g⟩:∃AW,AW=ints 26 (Pm.up (Om.now M (Om.steps M M.st (k+1)))):=⟨_,rfl⟩
   have C:Hid (AW.size=26):=by rw[Hid,g,ag]
   have J:Hid (AW.all (·.oneCell')=true):=by rw[Hid,g];exact aI _ _
   rw[←g];have I:Hid (W4.there q7 (k*26) 26):=ij (o:=k*26) (n:=26) v (by rw[ag];omega)
   have HN:Hid (UY w (W4.setCells q7 (k*26) AW.toList) a b c rf (Pm.up fun i=>i) M q q7 n (k+1)):=by
    rw[g];refine⟨⟨aW vom t.row,cT vom t.below⟩,⟨aW vom j.row,j.ok,j.ins⟩,?_,f,B⟩;have:=c6 (o:=k*26) (l:=(ints 26 (Pm.up (eA M k))).toList) v;rw[um (n:=n) _ rfl y.out]at this;exact this
   clear t v j f B g
   go_wp2_with (first|refine ZG rfl 33 _ _ rfl q7 (k*26) AW rfl rfl (by rw[C.out];exact I.out) (by rw[C.out];exact aj) J.out ?_)
   go_roundw
   case rel=>exact⟨k+1,y.out,by go_num,HN.out⟩
   case measure=>have:=y.out;simp[intOf];omega
  ·obtain rfl:k=n:=vom
   have O:¬((k:Nat):Int)<((k:Nat):Int):=vom;have u:=hg.keys;rw[vU _ k rfl]at u;have K:Hid _:=u;have L:Hid _:=hg.mg.below;have HQ:Hid (w.heap.size≤q7):=by have:=hg.q1;have:=hg.q2;rw[Hid];omega
   clear hg hlt u;go_wp2;go_ret;exact⟨q7,rfl,HQ.out,K.out,L.out⟩
theorem Lz(vm:Value)(g:Gm)(hg:gE g=0)(n:Nat)(hn:n≤1000)(w:World)(hm:cL w vm g):Calls qf 57 #[vm,.int .i64 (n:Nat)] w fun e w'=>∃q7,e=.returned (.slice (some ⟨q7,0,none⟩) n n)∧w.heap.size≤q7∧af w' q7 33 (ints (n*26) (flat (eA (Om.bA (bZ g)))))∧Wh w.heap.size w w':=by
 have d:=tP hg;obtain⟨a,b,c,rfl,m1,m2,m3⟩:=hm;have HN:=fun W (hb:Wh w.heap.size w W)=>yP (.agg (aP a b c g.rf (Pm.up fun i=>i))) (bare g) W ⟨a,b,c,rfl,m1.below hb,m2.below hb,m3.below hb⟩;refine KC (Om.bA (bZ g)) n hn a b c g.rf g.pl w (fun W hb=>(HN W hb).mono ?_);rintro e w' (⟨h1,_⟩|⟨_,h2⟩)
 ·exact absurd d h1
 ·exact h2
end
section
open Go.RowKit PK Vg Go.Conc Cs
noncomputable def Cs.kB:Code:=Tryz.f3.body.getD .skip
noncomputable def Cs.kL:List Code:=match kB with|.seq a0 (.seq a1 (.seq a2 (.seq a3 (.seq a4 (.seq a5 (.seq a6 (.seq a7 (.seq a8 _))))))))=>[a0,a1,a2,a3,a4,a5,a6,a7,a8]|_=>[]
noncomputable def Cs.kC:Code:=match kB with|.seq _ (.seq _ (.seq _ (.seq _ (.seq _ (.seq _ (.seq _ (.seq _ (.seq _ c))))))))=>c|_=>.skip
theorem FK:kB=oG kL kC:=vkr
structure O8(ch cr:ByteArray)(h:Int)(s:Sp):Prop where
 rd:∃q,nS ch.data.toList=.ok ([s],q)
 k:s.k=6
 n:s.g.n≤2
 h1:1≤h
 h2:h≤16
 rE:rE 1 (oN [s]) cr.data.toList=0
 l1:1≤cr.size
 l2:cr.size≤32
structure Vs(w W:World)(T:Array Value)(cr:ByteArray)(h:Int)(s:Sp)(b9 b11:Nat)(a b c:Value):Prop where
 size:T.size=162
 t1:T[1]?=some (.string cr)
 t2:T[2]?=some (.int .i64 h)
 t9:T[9]?=some (.pointer (some ⟨b9,0,none⟩))
 t10:T[10]?=some (.string ⟨(rS 1 (oN [s]) cr.data.toList).toArray⟩)
 t11:T[11]?=some (.pointer (some ⟨b11,0,none⟩))
 be:Wh w.heap.size w W
 r9:af W b9 35 (aP a b c s.g.rf s.g.pl)
 Sq:af W b11 35 (aP a b c s.g.rf (Pm.up fun i=>i))
 wh:cA W a s.g.n s.g.wi s.g.nl s.g.no
 ri:aq W b s.g.rl s.g.ri
 st:aq W c s.g.sl s.g.st
theorem BW(Q:Exit→Act→World→Prop)(K:Act→World→Prop)(ch cr:ByteArray)(h:Int)(w:World)(hn:kW w)(he:ia w)
  (hgood:∀s b9 b11 a b c T W,O8 ch cr h s→Vs w W T cr h s b9 b11 a b c→K ⟨T,[]⟩ W)
  (hbad:(∀s,¬O8 ch cr h s)→∀T W,T.size=162→T[6]?=some (.bool true)→Wh w.heap.size w W→Q .ret ⟨T,[]⟩ W) :
  nest qf Q kL K ⟨#[.string ch,.string cr,.int .i64 h]++Array.replicate 159 undef,[]⟩ w:=by
 have q6:Hid (∀W,Wh w.heap.size w W→Calls qf 4 #[] W fun e w'=>e=.returned (.bool true)∧Wh W.heap.size W w'):=fun W hb=>zv W (hn.below hb) (he.below hb);have q8:Hid (∀W,Wh w.heap.size w W→Calls qf 5 #[.string ch] W fun e w'=>Vz (nS ch.data.toList) e w'∧Wh W.heap.size W w'):=fun W hb=>vz ch W (hn.below hb) (he.below hb);have HG:Hid _:=hgood;have HB:Hid _:=hbad;clear hn he hgood hbad;simp only[Array.replicate,XX,Zn,List.cons_append,Yi];simp only[kL,nest,kB,Tryz.f3,Ww]
 go_wp2_with fail
 refine(q6.out _ (Below.refl _ _)).mono ?_;rintro e W1 ⟨rfl,hb⟩;have e9:Hid (Wh w.heap.size w W1):=hb;clear hb q6
 go_wp2_with fail
 refine(q8.out _ e9.out).mono ?_;rintro e V ⟨e5,hb⟩;have HV:Hid (Wh w.heap.size w V):=e9.out.trans (hb.mono e9.out.size);clear hb e9 q8;rcases hR:nS ch.data.toList with⟨E,A⟩|⟨L,q⟩
 ·rw[hR]at e5
  obtain rfl:e=.returned (.tuple #[.slice none 0 0,iR E A]):=e5;have d:Hid _:=HB.out (fun s hs=>by obtain⟨q,e⟩:=hs.rd;rw[hR]at e;cases e);clear HB HG hR;have t:Hid (Wh w.heap.size w (V.alloc (.cells #[.int .i64 E,.int .i64 A] 26))):=HV.out.alloc HV.out.size _;unfold iR
  go_upto_region 4 with fail
  have c0:=(af.new V 26 #[.int .i64 E,.int .i64 A]).cell (i:=0) (v:=.int .i64 E) rfl;generalize V.alloc (.cells #[.int .i64 E,.int .i64 A] 26)=W4 at *;by_cases hE:E=0
  ·subst hE
   go_wp2;exact d.out _ _ rfl rfl t.out
  ·go_wp2
   exact d.out _ _ rfl rfl t.out
 rw[hR]at e5;obtain⟨v,rfl,e7⟩:=e5;obtain⟨a,cap,R,rfl,r8,k7,l9⟩:=id e7;have D:Hid (kK V (.slice a L.length cap) L.length (oN L)):=e7;have t:Hid (Wh w.heap.size w (V.alloc (.cells #[.int .i64 0,.int .i64 0] 26))):=HV.out.alloc HV.out.size _;have Y:Hid (Wh V.heap.size V (V.alloc (.cells #[.int .i64 0,.int .i64 0] 26))):=(Below.refl _ _).alloc (R3 _) _;unfold iR
 go_upto_region 4 with fail
 have HF:Hid (af (V.alloc (.cells #[.int .i64 0,.int .i64 0] 26)) V.heap.size 26 #[.int .i64 0,.int .i64 0]):=af.new V _ _;have c0:=HF.out.cell (i:=0) (v:=.int .i64 0) rfl;generalize V.alloc (.cells #[.int .i64 0,.int .i64 0] 26)=W4 at *;by_cases hl:L.length=1
 case neg=>
  have d:Hid _:=HB.out (fun s hs=>by obtain⟨q,e⟩:=hs.rd;rw[hR]at e;cases e;exact hl rfl);have s5:¬(L.length:Int)=1:=vom;clear HB HG hR k7 l9 e7 D;generalize L.length=n at *;go_wp2;exact d.out _ _ rfl rfl t.out
 obtain⟨s,rfl⟩:=List.length_eq_one_iff.1 hl;obtain⟨bl,ol,rfl,k8⟩:=k7 0 vom;obtain⟨mv,x,y,z,e1,_,j0,e8,j3⟩:=l9 0 vom;have r9:oN [s] 0=s:=rfl;rw[r9]at e1 j0 e8 j3;rw[Value.agg.inj e1]at k8;have k4:=b7 k8 Y.out;obtain⟨aw,cw,RW,rfl,_,_⟩:=id j0
 have cc:∀i u,(eG s.k s.n s.key mv (.slice aw s.g.n cw) y z s.g.rf s.g.pl)[i]?=some u→W4.cell? ⟨bl,ol+i,none⟩=some u:=fun i u hu=>by
  have:=k4 i u (by rw[Wo];exact hu);simpa using this
 have ck:W4.cell? ⟨bl,ol,none⟩=some (.int .i64 s.k):=cc 0 _ (xJ _ _ _ _ _ _ _ _ _);have cn:W4.cell? ⟨bl,ol+4,none⟩=some (.slice aw s.g.n cw):=cc 4 _ ((pz _ _ _ _ _ _ _ _ _ 0).trans (dV _ _ _ _ _))
 have p9:W4.rangeAt bl (ol+4) (aP (.slice aw s.g.n cw) y z s.g.rf s.g.pl).toList:=fun i u hu=>by
  have:=cc (4+i) u (by rw[pz];rw[Wo]at hu;exact hu);rw[show(⟨bl,ol+4+i,none⟩:Addr)=⟨bl,ol+(4+i),none⟩ by rw[XS]];exact this
 have HM:Hid (W4.rangeAt bl (ol+4) (aP (.slice aw s.g.n cw) y z s.g.rf s.g.pl).toList):=p9;have HN:Hid (¬∃s',O8 ch cr h s'∧s'≠s):=fun⟨s',k,ne⟩=>by obtain⟨q,e⟩:=k.rd;rw[hR]at e;cases e;exact ne rfl
 have d:Hid (¬O8 ch cr h s→∀T W,T.size=162→T[6]?=some (.bool true)→Wh w.heap.size w W→Q .ret ⟨T,[]⟩ W):=fun hs=>HB.out fun s' k=>HN.out ⟨s',k,fun e=>hs (e▸k)⟩;have f:Hid _:=hR;clear HB k7 l9 e7 k8 k4 cc hR e1 p9 HN;by_cases hk:s.k=6
 case neg=>
  have j:Hid _:=d.out fun k=>hk k.k;clear d HG f HM D;generalize s.k=sk at *;go_wp2;exact j.out _ _ rfl rfl t.out
 by_cases hn2:s.g.n≤2
 case neg=>
  have j:Hid _:=d.out fun k=>hn2 k.n;have q7:(2:Int)<(s.g.n:Int):=vom;clear d HG f HM D hn2;rw[hk]at ck;generalize s.g.n=n at *;go_wp2;exact j.out _ _ rfl rfl t.out
 have q7:¬(2:Int)<(s.g.n:Int):=vom;rw[hk]at ck;by_cases h1:h<1
 ·have j:Hid _:=d.out fun k=>by have:=k.h1;omega
  clear d HG f HM D hn2;generalize s.g.n=n at *;go_wp2;exact j.out _ _ rfl rfl t.out
 by_cases h2:16<h
 ·have j:Hid _:=d.out fun k=>by have:=k.h2;omega
  clear d HG f HM D hn2;generalize s.g.n=n at *;go_wp2;exact j.out _ _ rfl rfl t.out
 have F:Hid ((aP (.slice aw s.g.n cw) y z s.g.rf s.g.pl).all (·.oneCell')=true):=mU rfl (pG e8) (pG j3);have C:Hid ((aP (.slice aw s.g.n cw) y z s.g.rf s.g.pl).size=55):=aD _ _ _ _ _;have O:Hid (∀W,Wh V.heap.size V W→cA W (.slice aw s.g.n cw) s.g.n s.g.wi s.g.nl s.g.no∧aq W y s.g.rl s.g.ri∧aq W z s.g.sl s.g.st∧kK W (.slice (some ⟨bl,ol,none⟩) 1 cap) 1 (oN [s])):=fun W hb=>⟨j0.below hb,e8.below hb,j3.below hb,D.out.below hb⟩
 have o6:Hid (V.heap.size<W4.heap.size):=HF.out.lt;have I:Hid (s.k=6∧s.g.n≤2∧1≤h∧h≤16):=⟨hk,hn2,vom,vom⟩
 clear j0 e8 j3 D hn2;obtain⟨MC,n4⟩:∃MC,MC=aP (.slice aw s.g.n cw) y z s.g.rf s.g.pl:=⟨_,rfl⟩
 have s3:Hid _:=n4;rw[←n4]at HM F C;clear n4;have S:=bR n9
 go_upto_region 7 with(first|refine ZX rfl 35 _ rfl bl (ol+4) rfl MC.toList _ HM.out WH rfl (by rw[Wx,C.out];exact aE) ?_|refine Wk rfl 35 _ _ rfl W4.heap.size MC rfl rfl 35 _ (af.new W4 _ _) (by rw[C.out];exact aE) (by rw[C.out,aD]) F.out ?_)
 have e3:Wh W4.heap.size W4 ((W4.alloc (.cells (aP (.slice none 0 0) (.slice none 0 0) (.slice none 0 0) (fun _=>0) (fun _=>0)) 35)).setRow W4.heap.size MC):=PK.Below.setRow ((Below.refl _ W4).alloc (R3 _) _) W4.heap.size (R3 _) _;have r4:=(af.new W4 35 (aP (.slice none 0 0) (.slice none 0 0) (.slice none 0 0) (fun _=>0) (fun _=>0))).row MC;generalize (W4.alloc (.cells (aP (.slice none 0 0) (.slice none 0 0) (.slice none 0 0) (fun _=>0) (fun _=>0)) 35)).setRow W4.heap.size MC=W5 at *;have r6:=HF.out.below e3 o6.out
 have q5:Hid _:=Py (.slice (some ⟨bl,ol,none⟩) 1 cap) 1 (oN [s]) cr W5 (O.out W5 (Y.out.trans (e3.mono Y.out.size))).2.2.2 vom (fun i hi=>by
  obtain rfl:i=0:=vom;exact .inr I.out.1)
 have k5:Hid (Wh w.heap.size w W5):=t.out.trans (e3.mono t.out.size);have q4:Hid (Wh V.heap.size V W5∧af W5 W4.heap.size 35 MC∧af W5 V.heap.size 26 #[.int .i64 0,.int .i64 0]):=⟨Y.out.trans (e3.mono Y.out.size),r4,r6⟩
 clear e3 r4 r6 c0 ck cn S t HF HM hk q7 h1 h2 hl r8;generalize hE:rE 1 (oN [s]) cr.data.toList=E at *;generalize rA 1 (oN [s]) cr.data.toList=A at *;have N:Hid _:=hE;clear hE
 go_wp2_with fail
 refine We q5.out ?_;rintro e W6 ⟨rfl,e4⟩;obtain⟨Z,m,hf⟩:=q4.out;have M:=hf.below e4 hf.lt;have c3:=M.cell (i:=0) rfl;have c4:=M.cell (i:=1) rfl;have f3:=M.frozen 0;have f4:=M.frozen 1;have k3:Hid (w.heap.size≤V.heap.size∧V.heap.size<W4.heap.size∧W4.heap.size<W5.heap.size):=⟨HV.out.size,o6.out,m.lt⟩
 have r3:Hid (Wh w.heap.size w W6):=k5.out.trans (e4.mono k5.out.size);have e6:Hid (Wh V.heap.size V W6∧af W6 W4.heap.size 35 MC∧af W6 V.heap.size 26 #[.int .i64 0,.int .i64 0]):=⟨Z.trans (e4.mono Z.size),m.below e4 m.lt,M⟩
 clear Z m hf M e4 q4 k5 q5 o6 HV;unfold iR
 go_upto_region 8 with fail
 have p5:Hid (af ((W6.setCell ⟨V.heap.size,0,none⟩ (.int .i64 E)).setCell ⟨V.heap.size,1,none⟩ (.int .i64 A)) V.heap.size 26 #[.int .i64 E,.int .i64 A]):=(e6.out.2.2.set 0 _).set 1 _;have J:Hid (Wh w.heap.size w ((W6.setCell ⟨V.heap.size,0,none⟩ (.int .i64 E)).setCell ⟨V.heap.size,1,none⟩ (.int .i64 A))):=(r3.out.setCell (p:=⟨V.heap.size,0,none⟩) k3.out.1 _).setCell (p:=⟨V.heap.size,1,none⟩) k3.out.1 _;have U:Hid (af ((W6.setCell ⟨V.heap.size,0,none⟩ (.int .i64 E)).setCell ⟨V.heap.size,1,none⟩ (.int .i64 A)) W4.heap.size 35 MC∧Wh V.heap.size V ((W6.setCell ⟨V.heap.size,0,none⟩ (.int .i64 E)).setCell ⟨V.heap.size,1,none⟩ (.int .i64 A))):=⟨(e6.out.2.1.setOther _ _ (by show W4.heap.size≠V.heap.size;have:=k3.out.2.1;omega)).setOther _ _ (by show W4.heap.size≠V.heap.size;have:=k3.out.2.1;omega),(e6.out.1.setCell (p:=⟨V.heap.size,0,none⟩) (R3 _) _).setCell (p:=⟨V.heap.size,1,none⟩) (R3 _) _⟩
 have c0:=p5.out.cell (i:=0) (v:=.int .i64 E) rfl;generalize (W6.setCell ⟨V.heap.size,0,none⟩ (.int .i64 E)).setCell ⟨V.heap.size,1,none⟩ (.int .i64 A)=W7 at *;clear e6 r3 c3 c4 f3 f4 p5;by_cases hE:E=0
 case neg=>
  have j:Hid _:=d.out fun k=>hE (by rw[←N.out];exact k.rE);clear d HG f U O N;go_wp2;exact j.out _ _ rfl rfl J.out
 subst hE;have k6:=Pl.aN cr;by_cases hc1:(cr.size:Int)<1
 ·have j:Hid _:=d.out fun k=>by have:=k.l1;omega
  clear d HG f U O N k6;go_wp2;exact j.out _ _ rfl rfl J.out
 by_cases hc2:(32:Int)<(cr.size:Int)
 ·have j:Hid _:=d.out fun k=>by have:=k.l2;omega
  clear d HG f U O N k6;go_wp2;exact j.out _ _ rfl rfl J.out
 have p7:Hid (O8 ch cr h s):=⟨⟨q,f.out⟩,I.out.1,I.out.2.1,I.out.2.2.1,I.out.2.2.2,N.out,vom,vom⟩
 clear d f I N k6;obtain⟨m,P⟩:=U.out;have S:=bR n9
 go_upto_region 11 with(first|refine Wn rfl 35 _ rfl W4.heap.size rfl 35 MC (0,0) _ m WH rfl (by rw[C.out];exact aE) ?_|refine Wk rfl 35 _ _ rfl W7.heap.size MC rfl rfl 35 _ (af.new W7 _ _) (by rw[C.out];exact aE) (by rw[C.out,aD]) F.out ?_)
 have H:Wh W7.heap.size W7 ((W7.alloc (.cells (aP (.slice none 0 0) (.slice none 0 0) (.slice none 0 0) (fun _=>0) (fun _=>0)) 35)).setRow W7.heap.size MC):=PK.Below.setRow ((Below.refl _ W7).alloc (R3 _) _) W7.heap.size (R3 _) _;have B:=(af.new W7 35 (aP (.slice none 0 0) (.slice none 0 0) (.slice none 0 0) (fun _=>0) (fun _=>0))).row MC;generalize (W7.alloc (.cells (aP (.slice none 0 0) (.slice none 0 0) (.slice none 0 0) (fun _=>0) (fun _=>0)) 35)).setRow W7.heap.size MC=W8 at *;have HR:Hid (af W7 W4.heap.size 35 MC∧Wh V.heap.size V W7∧Wh W7.heap.size W7 W8∧af W8 W7.heap.size 35 MC):=⟨m,P,H,B⟩
 clear m P H B S c0 U
 go_wp2_with fail
 refine(qv _).mono ?_;rintro e W9 ⟨rfl,hb⟩;obtain⟨m,P,H,B⟩:=HR.out;have r5:=H.trans (hb.mono H.size);have l5:=B.below hb B.lt;have s0:=ij l5 (o:=29) (n:=26) (by rw[C.out];decide);have G:=cT (l:=(ints 26 (Pm.up fun i=>i)).toList) (o:=29) (R3 _) r5
 have r7:Hid (∀T,T.size=162∧T[1]?=some (.string cr)∧T[2]?=some (.int .i64 h)∧T[9]?=some (.pointer (some ⟨W4.heap.size,0,none⟩))∧T[10]?=some (.string ⟨(rS 1 (oN [s]) cr.data.toList).toArray⟩)∧T[11]?=some (.pointer (some ⟨W7.heap.size,0,none⟩))→K ⟨T,[]⟩ (W9.setCells W7.heap.size 29 (ints 26 (Pm.up fun i=>i)).toList)):=fun T ⟨k0,k1,k2,k9,k10,k11⟩=>by
  have s4:=P.trans (G.mono P.size);obtain⟨q1,q2,q3,_⟩:=O.out _ s4;have q9:=m.below G m.lt;have q11:=c6 (l:=(ints 26 (Pm.up fun i=>i)).toList) (o:=29) l5;rw[s3.out]at q9 q11;rw[mM]at q11;exact HG.out s _ _ _ _ _ T _ p7.out ⟨k0,k1,k2,k9,k10,k11,J.out.trans (G.mono J.out.size),q9,q11,q1,q2,q3⟩
 clear HR HG O J p7 m P H B r5 G l5 hb F
 go_wp2_with (first|refine ZG rfl 33 _ _ rfl W7.heap.size 29 (ints 26 (Pm.up fun i=>i)) rfl rfl (by rw[ag];exact s0) (by rw[ag];exact aj) (aI _ _) ?_)
 exact r7.out _ ⟨rfl,rfl,rfl,rfl,rfl,rfl⟩
end
end Go.Proofs.YtpcnpkhgjanamaaGreatDoor
