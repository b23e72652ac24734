import Derived.Test.YtpcnpkhgjanamaaGreatDoorPz
import Derived.Test.YtpcnpkhgjanamaaGreatDoorJn25
namespace Go.Proofs.YtpcnpkhgjanamaaGreatDoor
open Go.Proofs.Tryz renaming prog→qf,underlying33→Wp
open Go renaming Value→R2,World→V8,Calls→WA
set_option maxRecDepth 100000
set_option maxHeartbeats 2000000
section
open Go.RowKit PK Vg
def FP(f:Nat→Int):Bool:=P7 26 (fun i=>f (f i).toNat) (Pm.up fun i=>i)
def Bh(l:List UInt8):Int:=if(bE l).2.1≠0 then(bE l).2.1 else if FP (bE l).1=true then 0 else 1
def Ks(l:List UInt8):Nat:=if(bE l).2.1≠0 then(bE l).2.2 else 0
theorem zz(f g:Nat→Int)(w:V8):(binOp .neq 33 (.agg (ints 26 f)) (.agg (ints 26 g))).run qf w=.ok (.bool (!P7 26 f g)) w:=by
 have h:Sem.run qf (Op.equal 33 (.agg (ints 26 f)) (.agg (ints 26 g))) w=.ok (P7 26 f g) w:=rK (P:=qf) w 9998 33 3 26 Wp Tryz.underlying3 we f g;simp[binOp,h]
theorem Cc(t:List UInt8):∀(n:Nat) (x:Int×Nat),fK t n=some x→x.2<n
 |0,x,h=>by cases h
 |n+1,x,h=>by
  unfold fK at h;cases hn:fK t n with
  |some y=>rw[hn]at h;cases h;have:=Cc t n _ hn;omega
  |none=>
   rw[hn]at h;by_cases he:(lp t n).err (t.getD n 0).toNat≠0
   ·simp only[Wc he]at h;cases h;exact Xj n
   ·simp only[V9 he]at h;cases h
theorem DK(t:List UInt8):(bE t).2.2≤t.length:=by
 unfold bE;cases hr:fK t t.length with
 |some x=>exact Nat.le_of_lt (Cc t _ _ hr)
 |none=>
  by_cases ho:(lp t t.length).op=true
  ·simp only[Wc ho];exact R3 _
  ·simp only[V9 ho];exact XE _
theorem Li(l:List UInt8)(p:Nat)(hs:l.length≤65536)(hp:p≤65536)(w:V8):
  WA qf 113 #[wm l p] w fun e w'=>(Bh l=0→e=.returned (.agg (ints 26 (bE l).1)))∧(Bh l≠0→e=.panicked [gY (Bh l) ((p+Ks l:Nat):Int)])∧Below w.heap.size w w':=by
 obtain⟨s,M⟩:∃s:ByteArray,s=⟨l.toArray⟩:=⟨_,rfl⟩
 have Q:s.data.toList=l:=by rw[M]
 have hz:=Pl.aN s;rw[Q]at hz;unfold wm;rw[←M];have e8:Below w.heap.size w (w.alloc (.cells #[.string s,.int .i64 (p:Int)] 87)):=(Below.refl _ w).alloc (R3 _) _;have g:=af.new w 87 #[.string s,.int .i64 (p:Int)];have c0:=af.cell g (i:=0) rfl;have c1:=af.cell g (i:=1) rfl;have HB:Hid _:=e8;have HQ:Hid (af (w.alloc (.cells #[.string s,.int .i64 (p:Int)] 87)) w.heap.size 87 #[.string s,.int .i64 (p:Int)]):=g;obtain⟨W2,o⟩:∃W2,W2=(w.alloc (.cells #[.string s,.int .i64 (p:Int)] 87)).alloc (.cells (ints 26 fun _=>0) 33):=⟨_,rfl⟩
 have e4:Below w.heap.size w W2:=by rw[o];exact HB.out.alloc HB.out.size _
 have J:af W2 w.heap.size 87 #[.string s,.int .i64 (p:Int)]:=by rw[o];exact af.alloc g _
 have p7:af W2 (w.heap.size+1) 33 (ints 26 fun _=>0):=by rw[o];have:=af.new (w.alloc (.cells #[.string s,.int .i64 (p:Int)] 87)) 33 (ints 26 fun _=>0);simpa using this
 have HM:Hid (WA qf 137 #[.string s] W2 fun e w'=>e=.returned (.tuple #[.agg (ints 26 (bE l).1),.agg #[.int .i64 (bE l).2.1,.int .i64 ((bE l).2.2:Nat)]])∧Below W2.heap.size W2 w'):=by
  rw[←Q];exact Kx s (by unfold maxLen;omega) W2
 have u0:=af.cell J (i:=0) rfl;have l5:Hid (af W2 w.heap.size 87 #[.string s,.int .i64 (p:Int)]):=J;have p5:Hid (af W2 (w.heap.size+1) 33 (ints 26 fun _=>0)):=p7;have e5:Hid _:=e4;have q3:=bR dG;have j:Hid (Bh l=if(bE l).2.1≠0 then(bE l).2.1 else if FP (bE l).1=true then 0 else 1):=rfl;have m:Hid (Ks l=if(bE l).2.1≠0 then(bE l).2.2 else 0):=rfl;have x:Hid ((bE l).2.1=0→∃q,Pm.aC q∧(bE l).1=Pm.up q):=Is;have b9:Hid ((bE l).2.2≤l.length):=DK l;clear hz Q M e8 g c0 c1 e4 J p7;generalize Bh l=E at *;generalize Ks l=A at *;generalize bE l=RO at *;obtain⟨MP,RE,RA⟩:=RO;simp only at HM j m x b9⊢;have r8:RA≤65536:=by have:=b9.out;omega
 go_enter Tryz.func113,Tryz.ntmps113
 go_upto_region 1 with fail
 rw[←o];clear o b9
 go_wp2_with fail
 refine We HM.out ?_;rintro e V ⟨rfl,hb⟩;have e6:=af.below l5.out hb (af.lt l5.out);have F:=af.below p5.out hb (af.lt p5.out);have d:Hid (Below w.heap.size w V):=e5.out.trans (hb.mono e5.out.size);have r6:w.heap.size+1<V.heap.size:=af.lt F;clear hb HM u0
 have f:af (((V.alloc (.cells (ints 26 fun _=>0) 33)).alloc (.cells #[.int .i64 0,.int .i64 0] 26)).setRow V.heap.size (ints 26 MP)) (V.heap.size+1) 26 #[.int .i64 0,.int .i64 0]:=by
  refine af.bG ?_ _ _ vom;have:=af.new (V.alloc (.cells (ints 26 fun _=>0) 33)) 26 #[.int .i64 0,.int .i64 0];simpa using this
 have g0:=af.cell f (i:=0) rfl;have g1:=af.cell f (i:=1) rfl;have g2:=af.frozen f 0;have g3:=af.frozen f 1;have p9:Hid _:=f
 go_upto_region 2 with(first|refine Wk rfl 33 _ _ rfl V.heap.size (ints 26 MP) rfl rfl 33 _ ((af.new V _ _).alloc _) (by rw[ag];exact aj) (by rw[ag,ag]) (aI _ _) ?_)
 obtain⟨W3,c⟩:∃W3,W3=((((V.alloc (.cells (ints 26 fun _=>0) 33)).alloc (.cells #[.int .i64 0,.int .i64 0] 26)).setRow V.heap.size (ints 26 MP)).setCell ⟨V.heap.size+1,0,none⟩ (.int .i64 RE)).setCell ⟨V.heap.size+1,1,none⟩ (.int .i64 (RA:Nat)):=⟨_,rfl⟩
 have y:af W3 w.heap.size 87 #[.string s,.int .i64 (p:Int)]:=by rw[c];exact af.setOther (af.setOther (af.bG (af.alloc (af.alloc e6 _) _) _ _ vom) _ _ (by show w.heap.size≠V.heap.size+1;omega)) _ _ (by show w.heap.size≠V.heap.size+1;omega)
 have C:af W3 (w.heap.size+1) 33 (ints 26 fun _=>0):=by rw[c];exact af.setOther (af.setOther (af.bG (af.alloc (af.alloc F _) _) _ _ vom) _ _ (by show w.heap.size+1≠V.heap.size+1;omega)) _ _ (by show w.heap.size+1≠V.heap.size+1;omega)
 have z:af W3 V.heap.size 33 (ints 26 MP):=by rw[c];exact af.setOther (af.setOther (af.row (af.alloc (af.new V _ _) _) _) _ _ (by show V.heap.size≠V.heap.size+1;omega)) _ _ (by show V.heap.size≠V.heap.size+1;omega)
 have H:af W3 (V.heap.size+1) 26 #[.int .i64 RE,.int .i64 (RA:Nat)]:=by rw[c];exact af.set (af.set p9.out 0 _) 1 _
 have T:Hid (Below w.heap.size w W3):=by
  rw[Hid,c];exact((PK.Below.setRow ((d.out.alloc d.out.size _).alloc (by have:=d.out.size;simp;omega) _) _ d.out.size _).setCell (p:=⟨V.heap.size+1,0,none⟩) (by have:=d.out.size;show _≤V.heap.size+1;omega) _).setCell (p:=⟨V.heap.size+1,1,none⟩) (by have:=d.out.size;show _≤V.heap.size+1;omega) _
 rw[←c];have u1:=af.cell y (i:=1) rfl;have v0:=af.cell H (i:=0) rfl;have v1:=af.cell H (i:=1) rfl;have B:(p:Int)+(RA:Int)=((p+RA:Nat):Int):=vom;have e9:Hid _:=B;have r7:(p:Int)≤65536:=vom;have r5:(RA:Int)≤65536:=vom;clear c e6 F f B g0 g1 g2 g3 p9;by_cases hE:RE=0
 ·have v:Hid (WA qf 19 #[.int .i64 RE,.int .i64 ((p:Int)+(RA:Int))] W3 fun e w'=>e=.returned (.tuple #[])∧w'=W3):=by rw[hE];exact jd _ W3
  obtain⟨qq,U,O⟩:=x.out hE;have a:Hid (E=if FP MP=true then 0 else 1):=by rw[Hid,j.out,V9 (fun h=>h hE)]
  have k:Hid (A=0):=by rw[Hid,m.out,V9 (fun h=>h hE)]
  have k4:Hid (∀X,WA qf 63 #[.agg (ints 26 MP),.agg (ints 26 MP)] X fun e w'=>e=.returned (.tuple #[.agg (ints 26 (Pm.up fun i=>qq (qq i))),.int .i64 0])∧Below X.heap.size X w'):=fun X=>by rw[O];exact then_ok qq qq U U X
  have q8:Hid (FP MP=P7 26 (Pm.up fun i=>qq (qq i)) (Pm.up fun i=>i)):=by
   rw[Hid,O]
   rfl
  clear hE O U j m x
  go_wp2_with fail
  refine We v.out ?_;rintro e V2 ⟨rfl,rfl⟩
  go_wp2_with (first|refine Wn rfl 33 _ rfl V.heap.size rfl 33 (ints 26 MP) (0,0) _ z Wp rfl (by rw[ag];exact aj) ?_)
  refine We (k4.out _) ?_;rintro e V4 ⟨rfl,t⟩;have q2:=af.below y t (af.lt y);have I:=af.below C t (af.lt C);have D:=af.below z t (af.lt z);have G:Hid (Below w.heap.size w V4):=T.out.trans (t.mono T.out.size);have r3:w.heap.size+1<V4.heap.size∧V.heap.size<V4.heap.size:=⟨af.lt I,af.lt D⟩
  generalize hTW:(Pm.up fun i=>qq (qq i))=TW at *;clear t hTW k4 v y C z H
  go_upto_region 4 with(first|refine Wk rfl 33 _ _ rfl V4.heap.size (ints 26 TW) rfl rfl 33 _ (af.new V4 _ _) (by rw[ag];exact aj) (by rw[ag,ag]) (aI _ _) ?_)
  obtain⟨W5,b⟩:∃W5,W5=(V4.alloc (.cells (ints 26 fun _=>0) 33)).setRow V4.heap.size (ints 26 TW):=⟨_,rfl⟩
  have k3:af W5 w.heap.size 87 #[.string s,.int .i64 (p:Int)]:=by rw[b];exact af.bG (af.alloc q2 _) _ _ vom
  have l9:af W5 (w.heap.size+1) 33 (ints 26 fun _=>0):=by rw[b];exact af.bG (af.alloc I _) _ _ vom
  have k9:af W5 V.heap.size 33 (ints 26 MP):=by rw[b];exact af.bG (af.alloc D _) _ _ vom
  have L:af W5 V4.heap.size 33 (ints 26 TW):=by rw[b];exact af.row (af.new V4 _ _) _
  have e7:Hid (Below w.heap.size w W5):=by rw[Hid,b];exact PK.Below.setRow (G.out.alloc G.out.size _) _ G.out.size _
  rw[←b];have q6:V4.heap.size<W5.heap.size:=af.lt L;have N:Hid (af W5 w.heap.size 87 #[.string s,.int .i64 (p:Int)]):=k3;have Z:Hid (af W5 (w.heap.size+1) 33 (ints 26 fun _=>0)):=l9;have e3:Hid (af W5 V.heap.size 33 (ints 26 MP)):=k9;have k7:Hid (af W5 V4.heap.size 33 (ints 26 TW)):=L;have k5:Hid (∀X,WA qf 7 #[] X fun e w'=>e=.returned (.agg (ints 26 (Pm.up fun i=>i)))∧Below X.heap.size X w'):=fun X=>qv X;have k8:=zz TW (Pm.up fun i=>i);generalize (Pm.up fun i=>i)=ID at *;clear b q2 I D k3 l9 k9 L u1 v0 v1 q3;refine Xb ?_;refine Wz (S:=fun W=>af W V4.heap.size 33 (ints 26 TW)∧Below W5.heap.size W5 W) vkr ⟨k7.out,(Below.refl _ _).drew⟩ (fun hS=>?_);refine vuk 0 27 (.agg (ints 26 TW)) rfl (fun W hW=>by have u:=run_loadVar_row (P:=qf) W V4.heap.size 33 33 (ints 26 TW) (0,0) _ hW.1 Wp rfl (by rw[ag];exact aj);clear hS hW;simp[execOp,Act.eval,Instr.loadAt,Instr.sureAddr,u]) hS ?_;refine rd1 1 rfl (fun K hK=>?_);go_simp;refine We (k5.out _) ?_;rintro e Y ⟨rfl,j0⟩;refine hK.out _ _ (⟨af.below hS.1 j0 (af.lt hS.1),hS.2.trans (j0.mono hS.2.size)⟩) (fun hS1=>?_);clear hK hS K;have hS:=hS1;clear hS1;refine vuk 2 29 (.bool (!P7 26 TW ID)) rfl (fun W hW=>by have u:=k8;clear hS hW;go_simp) hS ?_;refine Xq vkr ?_ _;refine WU ?_;have n:=hS.2;have k6:=af.below N.out n (af.lt N.out);have j3:=af.below Z.out n (af.lt Z.out);have q4:=af.below e3.out n (af.lt e3.out);have o6:Hid (Below w.heap.size w Y):=e7.out.trans (n.mono e7.out.size);have y1:=af.cell k6 (i:=1) rfl;rw[q8.out]at a;clear hS n k6 N Z e3 k7 k8 k5;cases hq:P7 26 TW ID with
  |true=>
   have q7:Hid (E=0):=by rw[Hid,a.out,hq];rfl
   have q9:Hid (af (Y.setRow (w.heap.size+1) (ints 26 MP)) (w.heap.size+1) 33 (ints 26 MP)):=af.row j3 _;have r4:Hid (Below w.heap.size w (Y.setRow (w.heap.size+1) (ints 26 MP))):=PK.Below.setRow o6.out _ vom _
   go_wp2_with (first|refine Wn rfl 33 _ rfl V.heap.size rfl 33 (ints 26 MP) (0,0) _ q4 Wp rfl (by rw[ag];exact aj) ?_|refine Wk rfl 33 _ _ rfl (w.heap.size+1) (ints 26 MP) rfl rfl 33 _ j3 (by rw[ag];exact aj) (by rw[ag,ag]) (aI _ _) ?_)
   exact⟨rfl,_,cE rfl _ _ (w.heap.size+1) 33 (ints 26 MP) (0,0) _ rfl q9.out Wp rfl (by rw[ag];exact aj),fun _=>rfl,fun h=>absurd q7.out h,r4.out⟩
  |false=>
   have n4:Hid (E=1):=by rw[Hid,a.out,hq];rfl
   have HT:Hid _:=dr 1 p Y
   go_wp2_with fail
   refine We HT.out ?_;rintro e V6 ⟨rfl,rfl⟩;exact⟨rfl,fun h=>absurd (n4.out.symm.trans h) vde,fun _=>by rw[n4.out,k.out];rfl,o6.out⟩
 ·have v:Hid (WA qf 19 #[.int .i64 RE,.int .i64 ((p:Int)+(RA:Int))] W3 fun e w'=>e=.panicked [gY RE ((p+RA:Nat):Int)]∧w'=W3):=by rw[e9.out];exact gG RE _ (by simpa using hE) W3
  have a:Hid (E=RE):=by rw[Hid,j.out,Wc hE]
  have k:Hid (A=RA):=by rw[Hid,m.out,Wc hE]
  have q5:Hid (RE≠0):=hE;clear hE j m x
  go_wp2_with fail
  refine We v.out ?_;rintro e V2 ⟨rfl,rfl⟩;exact⟨rfl,fun h=>absurd (a.out.symm.trans h) q5.out,fun _=>by rw[a.out,k.out],T.out⟩
abbrev Rz(α:Type):=Except (Int×Nat) (α×Nat)
def cD{α β:Type}(r:Rz α)(f:α→Nat→Rz β):Rz β:=match r with
 |.ok (x,q)=>f x q
 |.error e=>.error e
def dJ{α:Type}(E:Int)(A:Nat)(r:Rz α):Rz α:=if E=0 then r else .error (E,A)
def dn(t:List UInt8)(p:Nat):Rz (List UInt8):=if wE t p=0 then .ok (wq t p,p+(wq t p).length+1)else .error (2,wA t p)
def pL(t:List UInt8)(lo hi:Int)(p:Nat):Rz Nat:=cD (dn t p) fun l q=>dJ (lX l lo hi) p (.ok (dQ 0 l,q))
def So(t:List UInt8)(p:Nat):Rz (List UInt8):=cD (dn t p) fun l q=>dJ (jW l) p (.ok (l,q))
def gL(t:List UInt8)(p:Nat):Nat→Rz (List Nat)
 |0=>.ok ([],p)
 |m+1=>cD (gL t p m) fun L q=>cD (pL t 0 25 q) fun x q'=>.ok (L++[x],q')
def GW(t:List UInt8)(p:Nat):Rz (Nat×List Nat):=cD (pL t 1 4 p) fun n q=>cD (gL t q (n*n)) fun L q'=>.ok ((n,L),q')
def Bc(l1 l2 l3 l4:List UInt8)(pl:Nat→Int):Gm where
 n:=gi l1
 wi:=fun r=>sM (gd l1 r)
 nl:=fun r=>(qI (gd l1 r)).length
 no:=fun r i=>((qI (gd l1 r)).getD i 0:Nat)
 rl:=gi l1
 ri:=Ef l3
 sl:=gi l1
 st:=Ef l4
 rf:=C8 l2
 pl:=pl
def Ld(t:List UInt8)(p:Nat):Rz (Nat→Int):=if t.length<p then .ok (Pm.up fun i=>i,p)else cD (dn t p) fun l q=>if l=[124]then .ok (Pm.up fun i=>i,p)else dJ (Bh l) (p+Ks l) (.ok ((bE l).1,q))
def uD(t:List UInt8)(p:Nat):Rz Gm:=
 cD (dn t p) fun l1 p1=>dJ (AQ l1) (PO l1 p)<|cD (dn t p1) fun l2 p2=>dJ (C5 l2) p1<|cD (dn t p2) fun l3 p3=>dJ (tS l3 (gi l1)) p2<|
 cD (dn t p3) fun l4 p4=>dJ (tS l4 (gi l1)) p3<|cD (Ld t p4) fun pl p5=>.ok (Bc l1 l2 l3 l4 pl,p5)
def Ue:Gm where
 n:=0
 wi:=fun _ _=>0
 nl:=fun _=>0
 no:=fun _ _=>0
 rl:=0
 ri:=fun _=>0
 sl:=0
 st:=fun _=>0
 rf:=fun _=>0
 pl:=fun _=>0
def rQ(k n:Nat):Sp where
 k:=k
 n:=n
 key:=⟨#[]⟩
 r:=0
 L:=fun _=>0
 Z:=fun _ _=>0
 g:=Ue
def gU(t:List UInt8)(place p:Nat):Rz Sp:=cD (dn t p) fun l q=>match FL ⟨l.toArray⟩with
 |none=>.error (7,p)
 |some (k,n)=>if 64≤place then .error (5,p)
  else if k=1 then cD (pL t 0 25 q) fun x q'=>.ok ({ rQ k n with n:=x },q')
  else if k=3 then cD (pL t 1 64 q) fun x q'=>.ok ({ rQ k n with n:=x },q')
  else if k=2∨k=4 then cD (So t q) fun x q'=>.ok ({ rQ k n with key:=⟨x.toArray⟩ },q')
  else if k=5 then cD (GW t q) fun x q'=>.ok ({ rQ k n with r:=x.1,L:=fun _=>x.1,Z:=fun i j=>(x.2.getD (i*x.1+j) 0:Nat) },q')
  else if k=6 then cD (uD t q) fun x q'=>.ok ({ rQ k n with g:=x },q')
  else .ok (rQ k n,q)
def kX(t:List UInt8):Nat→List Sp→Nat→Rz (List Sp)
 |0,L,p=>.ok (L,p)
 |f+1,L,p=>if t.length<p then .ok (L,p)else cD (dn t p) fun l q=>if l=[124]then cD (gU t L.length q) fun s q'=>kX t f (L++[s]) q' else .error (2,p)
def nS(t:List UInt8):Rz (List Sp):=if 65536<t.length then .error (4,0)else cD (gU t 0 0) fun s q=>kX t 66 [s] q
theorem eu{t:List UInt8}{p:Nat}{l:List UInt8}{q:Nat}(h:dn t p=.ok (l,q)):wE t p=0∧l=wq t p∧q=p+l.length+1∧p≤t.length∧l≠[]∧l.length≤t.length∧q≤t.length+1:=by
 unfold dn at h;by_cases hE:wE t p=0
 ·rw[Wc hE]at h
  cases h
  have h1:p≤t.length:=by
   by_cases hp:t.length<p
   ·unfold wE at hE;rw[Wc hp]at hE;cases hE
   ·omega
  have h2:wq t p≠[]:=by
   intro e;unfold wE at hE;rw[V9 vom,Wc e]at hE;cases hE
  have h3:(wq t p).length≤(t.drop p).length:=by unfold wq upto;exact(List.takeWhile_sublist _).length_le
  rw[List.length_drop]at h3;exact⟨hE,rfl,rfl,h1,h2,vom,vom⟩
 ·rw[V9 hE]at h
  cases h
def Told{α:Type}(r:Rz α)(e:Ending)(ok:α→Nat→R2→Prop):Prop:=match r with
 |.ok (x,q)=>∃v,e=.returned v∧ok x q v
 |.error (E,A)=>e=.panicked [gY E A]
theorem eV(b:Nat)(T:ByteArray)(p:Nat)(w:V8)(hr:cV w b T p)(hs:T.size≤65536):WA qf 39 #[.pointer (some ⟨b,0,none⟩)] w fun e w'=>Told (dn T.data.toList p) e (fun l q v=>v=wm l p∧cV w' b T q)∧Fb b w w':=by
 refine We (Mq b T p w hr hs) ?_;rintro e w' ⟨h1,h2,h3⟩;refine⟨?_,h3⟩;unfold dn;by_cases hE:wE T.data.toList p=0
 ·rw[Wc hE]
  obtain⟨h4,h5⟩:=h2 hE;exact⟨_,h4,rfl,h5⟩
 ·rw[V9 hE]
  exact h1 hE
theorem UP:(qf.info? 35).map (·.zero)=some (some (.agg (aP (.slice none 0 0) (.slice none 0 0) (.slice none 0 0) (fun _=>0) (fun _=>0)))):=vkr
theorem ms0(a b c c2:R2)(rf pl:Nat→Int):(aP a b c rf pl).setIfInBounds 0 c2=aP c2 b c rf pl:=by simp[aP]
theorem ms1(a b c c2:R2)(rf pl:Nat→Int):(aP a b c rf pl).setIfInBounds 1 c2=aP a c2 c rf pl:=by simp[aP]
theorem ms2(a b c c2:R2)(rf pl:Nat→Int):(aP a b c rf pl).setIfInBounds 2 c2=aP a b c2 rf pl:=by simp[aP]
theorem VW(a b c:R2)(rf pl Jf:Nat→Int):c7 (aP a b c rf pl) 3 (ints 26 Jf).toList=aP a b c Jf pl:=by
 have hl:(ints 26 Jf).toList.length=26:=by rw[Wx,ag]
 apply Xc;intro i;rw[dU _ _ _ _ (by rw[hl,aD];omega),hl];by_cases h:3≤i∧i<3+26
 ·obtain⟨j,rfl⟩:∃j,i=3+j:=⟨i-3,vom⟩
  rw[Wc h,Nat.add_sub_cancel_left,Wo,aB _ vom,CG _ _ _ _ _ vom]
 ·rw[V9 h]
  by_cases h0:i<3
  ·have:i=0∨i=1∨i=2:=vom
   rcases this with rfl|rfl|rfl
   ·rw[dV,dV]
   ·rw[rV,rV]
   ·rw[gM,gM]
  ·by_cases h1:i<55
   ·obtain⟨j,rfl⟩:∃j,i=29+j:=⟨i-29,vom⟩
    rw[qX _ _ _ _ _ vom,qX _ _ _ _ _ vom]
   ·rw[Wv (by rw[aD];omega),Wv (by rw[aD];omega)]
theorem OP{l:List UInt8}(h:AQ l=0):gi l≤4:=by
 unfold AQ at h;by_cases h1:oU (fun k=>tg (gd l k)) (gi l)≠0
 ·rw[Wc h1]at h;exact absurd h h1
 ·rw[V9 h1]at h
  by_cases h2:4<gi l
  ·rw[Wc h2]at h;cases h
  ·omega
structure vF(w W:V8)(b q:Nat)(T:ByteArray)(p:Nat)(a c d:R2)(rf pl:Nat→Int)(P:V8→Prop):Prop where
 res:af W q 35 (aP (.slice none 0 0) (.slice none 0 0) (.slice none 0 0) (fun _=>0) (fun _=>0))
 box:af W (q+1) 35 (aP a c d rf pl)
 rd:cV W b T p
 fb:Fb b w W
 ne:b<q
 sz:w.heap.size=q
 nw:Nw (q+2) W.heap.size P W
section
variable{w W W':V8}{b q:Nat}{T:ByteArray}{p p':Nat}{a c d a' c' d':R2}{rf pl rf' pl':Nat→Int}{P Q:V8→Prop}
theorem vF.step(h:vF w W b q T p a c d rf pl P)(hf:Fb b W W')(hr:cV W' b T p'):vF w W' b q T p' a c d rf pl P:=by
 have e:=h.ne;refine⟨hf.row h.res vom,hf.row h.box vom,hr,h.fb.trans hf,h.ne,h.sz,?_⟩;refine(h.nw.mono (R3 _) hf.size).keep fun i o x h1 _ h3=>?_;have:=hf.block i (aA h3) vom;simp only[World.cell?,this]at h3⊢;exact h3
theorem vF.calm(h:vF w W b q T p a c d rf pl P)(hb:Below W.heap.size W W'):vF w W' b q T p a c d rf pl P:=h.step (Fb.of hb) (af.below h.rd hb (af.lt h.rd))
theorem vF.more(h:vF w W b q T p a c d rf pl P)(hq:Nw (q+2) W.heap.size Q W):vF w W b q T p a c d rf pl (fun W=>P W∧Q W):=⟨h.res,h.box,h.rd,h.fb,h.ne,h.sz,fun W2 h2=>⟨h.nw W2 h2,hq W2 h2⟩⟩
theorem vF.put(h:vF w W b q T p a c d rf pl P)(i:Nat)(v:R2)(hc:(aP a c d rf pl).setIfInBounds i v=aP a' c' d' rf' pl'):vF w (W.setCell ⟨q+1,i,none⟩ v) b q T p a' c' d' rf' pl' P:=by
 have f:=h.ne;have e:=h.sz;refine⟨af.setOther h.res ⟨q+1,i,none⟩ v (by show q≠q+1;omega),?_,af.setOther h.rd ⟨q+1,i,none⟩ v (by show b≠q+1;omega),?_,h.ne,h.sz,?_⟩
 ·rw[←hc];exact af.set h.box i v
 ·exact⟨h.fb.os,h.fb.tape,h.fb.output,by rw[XF];exact h.fb.size,fun k hk hb=>(WT W ⟨q+1,i,none⟩ k v (by show k≠q+1;omega)).trans (h.fb.block k hk hb)⟩
 ·rw[XF]
  refine h.nw.keep fun j o x h1 _ h3=>?_;have:=WT W ⟨q+1,i,none⟩ j v (by show j≠q+1;omega);simp only[World.cell?,this]at h3⊢;exact h3
theorem l7{g j:Nat}(hj:j≠g):∀(l:List R2) (o:Nat) (W:V8),(W.setCells g o l).heap[j]?=W.heap[j]?
 |[],_,_=>rfl
 |v :: l,o,W=>(l7 hj l (o+1) (W.setCell ⟨g,o,none⟩ v)).trans (WT W ⟨g,o,none⟩ j v hj)
theorem vF.lay(h:vF w W b q T p a c d rf pl P)(o:Nat)(l:List R2)(hc:c7 (aP a c d rf pl) o l=aP a' c' d' rf' pl'):vF w (W.setCells (q+1) o l) b q T p a' c' d' rf' pl' P:=by
 have f:=h.ne;have e:=h.sz;have hB:=cT (B:=q+1) (g:=q+1) (R3 _) (l:=l) (o:=o) (Below.refl _ W);refine⟨aW vom h.res,?_,aW vom h.rd,?_,h.ne,h.sz,?_⟩
 ·rw[←hc];exact c6 h.box
 ·exact⟨hB.os.trans h.fb.os,hB.tape.trans h.fb.tape,hB.output.trans h.fb.output,Ws h.fb.size hB.size,fun k hk hb=>(l7 vom l o W).trans (h.fb.block k hk hb)⟩
 ·refine(h.nw.mono (R3 _) hB.size).keep fun j o2 x h1 _ h3=>?_
  have:=l7 (g:=q+1) (j:=j) vom l o W;simp only[World.cell?,this]at h3⊢;exact h3
theorem vF.drew(h:vF w W b q T p a c d rf pl P):vF w W.drew b q T p a c d rf pl P:=⟨h.res,h.box,h.rd,⟨h.fb.os,h.fb.tape,h.fb.output,h.fb.size,h.fb.block⟩,h.ne,h.sz,h.nw⟩
theorem vF.fin(h:vF w W b q T p a c d rf pl P)(MC:Array R2):cV (W.setRow q MC) b T p∧Fb b w (W.setRow q MC)∧Nw q (W.setRow q MC).heap.size P (W.setRow q MC):=by
 have f:=h.ne;have e:=h.sz;have hB:=PK.Below.setRow (Below.refl q W) q (R3 _) MC;refine⟨af.bG h.rd q MC vom,⟨hB.os.trans h.fb.os,hB.tape.trans h.fb.tape,hB.output.trans h.fb.output,Ws h.fb.size hB.size,fun k hk hb=>(setRow_other W q k MC vom).trans (h.fb.block k hk hb)⟩,?_⟩;refine(h.nw.keep fun j o2 x h1 _ h3=>?_).mono vom hB.size;have:=setRow_other W q j MC vom;simp only[World.cell?,this]at h3⊢;exact h3
theorem vF.there(h:vF w W b q T p a c d rf pl P){o n:Nat}(hn:o+n≤55):W.there (q+1) o n:=fun j hj=>by
 have e:o+j<(aP a c d rf pl).size:=by rw[aD];omega
 exact⟨by rw[af.cell h.box (Wl e)];rfl,af.frozen h.box _⟩
end
end
end Go.Proofs.YtpcnpkhgjanamaaGreatDoor
