import Derived.Test.YtpcnpkhgjanamaaGreatDoorPz
import Derived.Test.YtpcnpkhgjanamaaGreatDoorJn18
namespace Go.Proofs.YtpcnpkhgjanamaaGreatDoor
open Go.Proofs.Tryz renaming prog→qf,underlying35→WH,underlying37→WY
open Go renaming Value→R2,World→V8,Calls→WA
open Go.RowKit renaming Below→Wh
open Go.RowKit.Below renaming refl→Wm
set_option maxRecDepth 100000
set_option maxHeartbeats 2000000
open Go.RowKit PK Vg Sm
theorem U1(v:R2)(s:Sp)(w:V8)(hv:gW w v s)(hk:s.k=1∨s.k=6):WA qf 41 #[v] w fun e w'=>e=.returned (.int .i64 (ni s))∧Wh w.heap.size w w':=by
 obtain⟨mv,a,b,c,rfl,hm,hw,l,h⟩:=hv;obtain⟨X,hX⟩:∃X,X=ni s:=⟨_,rfl⟩
 rw[←hX];have HX:Hid (X=ni s):=hX;clear hX;obtain⟨W,hW⟩:∃W,W=w.alloc (.cells (eG s.k s.n s.key mv a b c s.g.rf s.g.pl) 37):=⟨_,rfl⟩
 have d:af W w.heap.size 37 (eG s.k s.n s.key mv a b c s.g.rf s.g.pl):=by rw[hW];exact af.new w _ _
 have f:Wh w.heap.size w W:=by rw[hW];exact(Wm _ w).alloc (R3 _) _
 have c0:=d.cell (xJ s.k s.n s.key mv a b c s.g.rf s.g.pl);have c1:=d.cell (xp s.k s.n s.key mv a b c s.g.rf s.g.pl);have c2:=d.cell (xV s.k s.n s.key mv a b c s.g.rf s.g.pl);have c3:=d.cell (AZ s.k s.n s.key mv a b c s.g.rf s.g.pl);have j:W.rangeAt w.heap.size 4 (aP a b c s.g.rf s.g.pl).toList:=ja d 4 _ (fun i v hv=>by rw[pz];exact hv);have HM:Hid (pE W mv s.r s.L s.Z):=hm.below f;have HG:Hid (cL W (.agg (aP a b c s.g.rf s.g.pl)) s.g):=⟨a,b,c,rfl,hw.below f,l.below f,h.below f⟩
 obtain⟨am,capm,R,rfl,_⟩:=hm;have HR:Hid _:=d;have HB:Hid _:=f;clear hw l h d f;subst hW;generalize eG s.k s.n s.key (.slice am s.r capm) a b c s.g.rf s.g.pl=CS at *;generalize hmc:aP a b c s.g.rf s.g.pl=MC at *;have m:Hid (MC.size=55):=by rw[Hid,←hmc];exact aD _ _ _ _ _
 clear hmc;go_enter Tryz.func41,Tryz.ntmps41;by_cases k1:s.k=1
 ·rw[k1]at c0
  have HE:Hid (X=FT s.n 0 25):=by rw[Hid,HX.out];unfold ni;rw[Wc k1]
  have HO:Hid _:=EI s.n 0 25 (w.alloc (.cells CS 37));clear k1 hk
  go_wp2_with fail
  refine We HO.out ?_;rintro e V ⟨rfl,rfl⟩;go_wp2;go_ret;exact⟨by rw[HE.out];rfl,HB.out⟩
 have k6:s.k=6:=hk.resolve_left k1;have k2:¬s.k=2:=vom;have k3:¬s.k=3:=vom;have k4:¬s.k=4:=vom;have k5:¬s.k=5:=vom
 ·rw[k6]at c0
  have HE:Hid (X=gE s.g):=by rw[Hid,HX.out];unfold ni;rw[V9 k1,V9 k2,V9 k3,V9 k4,V9 k5,Wc k6]
  have HO:Hid _:=zf _ s.g (w.alloc (.cells CS 37)) HG.out;clear k1 k2 k3 k4 k5 k6 hk
  go_wp2_with (first|refine aX rfl 35 _ rfl w.heap.size 4 rfl MC _ j WH rfl (by rw[m.out];exact vN) ?_)
  refine We HO.out ?_;rintro e V ⟨rfl,hb⟩;go_wp2;go_ret;exact⟨by rw[HE.out];rfl,HB.out.trans (hb.mono HB.out.size)⟩
theorem RN(v:R2)(n:Nat)(l:Nat→Sp)(w:V8)(hv:kK w v n l)(hn:n≤64)(hk:∀i,i<n→(l i).k=1∨(l i).k=6):WA qf 18 #[v] w fun e w'=>(yE n l=0→e=.returned (.tuple #[]))∧(yE n l≠0→e=.panicked [gY (yE n l) (Pt n l)])∧Wh w.heap.size w w':=by
 obtain⟨a,cap,R,rfl,hm,hr,hs⟩:=hv;have HR:Hid (∀i,i<n→∃b o,a=some ⟨b,o,none⟩∧w.rangeAt b (o+i*59) (R i).toList):=hr;have HS:Hid (∀i,i<n→gW w (.agg (R i)) (l i)):=hs;have M:¬64<(n:Int):=vom;have HN:Hid (n≤64):=hn;have HQ:Hid (yE n l=((nM l n).map fun i=>ni (l i)).getD 0):=by rw[Hid];unfold yE;rw[V9 vom]
 have HA:Hid (Pt n l=(nM l n).getD 0):=by rw[Hid];unfold Pt;rw[V9 vom]
 generalize yE n l=E at *;generalize Pt n l=A at *;have L:Hid (∀i,i<n→(l i).k=1∨(l i).k=6):=hk;clear hr hs hm hk;go_enter Tryz.func18,Tryz.ntmps18
 go_wp2_with fail
 go_loopw [10] (fun i W=>∃k:Nat,k≤n∧i=.int .i64 (k:Nat)∧Hid (∀j,j<k→ni (l j)=0)∧Wh w.heap.size w W) (fun i _=>((n:Int)-intOf i).toNat)
 case atStart=>exact⟨0,vom,rfl,fun j hj=>by omega,Wm _ _⟩
 case round=>
  obtain⟨k,hk,rfl,HK,c⟩:=hrel;by_cases hlt:k<n
  ·obtain⟨bw,ow,rfl,H⟩:=HR.out k hlt
   have s:=b7 H c;have u:=(HS.out k hlt).below c;have f:Hid ((R k).size=59):=u.cells.1;have m:Hid ((R k).all (·.oneCell')=true):=u.cells.2;have g:Hid (k<n):=hlt;have F:=bR zX;generalize hck:R k=CS at *;have d:Hid _:=c
   go_upto_region 5 with(first|refine aX rfl 37 _ rfl bw (ow+k*59) rfl CS _ s WY rfl (by rw[f.out];exact bY) ?_|refine Wk rfl 37 _ _ rfl wr.heap.size CS rfl rfl 37 _ (af.new wr _ _) (by rw[f.out];exact bY) (by rw[f.out,bg]) m.out ?_)
   have x:=(af.new wr 37 (eG 0 0 ⟨#[]⟩ (.slice none 0 0) (.slice none 0 0) (.slice none 0 0) (.slice none 0 0) (fun _=>0) (fun _=>0))).row CS;have t:Wh w.heap.size w ((wr.alloc (.cells (eG 0 0 ⟨#[]⟩ (.slice none 0 0) (.slice none 0 0) (.slice none 0 0) (.slice none 0 0) (fun _=>0) (fun _=>0)) 37)).setRow wr.heap.size CS):=PK.Below.setRow (d.out.alloc d.out.size _) wr.heap.size d.out.size _;generalize (wr.alloc (.cells (eG 0 0 ⟨#[]⟩ (.slice none 0 0) (.slice none 0 0) (.slice none 0 0) (.slice none 0 0) (fun _=>0) (fun _=>0)) 37)).setRow wr.heap.size CS=V at *;obtain⟨q,hq⟩:∃q,q=wr.heap.size:=⟨_,rfl⟩
   rw[←hq]at x⊢;have I:gW V (.agg CS) (l k):=by rw[←hck];exact(HS.out k hlt).below t
   have G:Hid _:=U1 _ _ V I (L.out k g.out)
   have z:Hid (ni (l k)=0→∀j,j<k+1→ni (l j)=0):=fun h j hj=>by
    by_cases e:j=k
    ·rw[e];exact h
    ·exact HK.out j vom
   have C:Hid (ni (l k)≠0→E=ni (l k)∧(A:Int)=k):=fun h=>by
    have hf:=NO g.out HK.out h;rw[HQ.out,HA.out,hf];exact⟨rfl,rfl⟩
   have D:Hid _:=t;generalize ni (l k)=X at *;clear hq H s u F m d c hck I t
   go_wp2_with (first|refine Wn rfl 37 _ rfl q rfl 37 CS (0,0) _ x WY rfl (by rw[f.out];exact bY) ?_)
   refine We G.out ?_;rintro e V2 ⟨rfl,hb⟩;have B:Hid (Wh w.heap.size w V2):=D.out.trans (hb.mono D.out.size);clear hb x G;by_cases hx0:X=0
   ·subst hx0
    have J:Hid (∀j,j<k+1→ni (l j)=0):=z.out rfl;clear z C;have HP:Hid _:=jd (k:Int) V2
    go_wp2_with fail
    refine We HP.out ?_;rintro e V3 ⟨rfl,rfl⟩
    go_wp2_with fail
    go_roundw
    case rel=>exact⟨k+1,g.out,by go_num,J.out,B.out⟩
    case measure=>have:=g.out;simp[intOf]<;>omega
   ·have HP:Hid _:=gG X (k:Int) (by simpa using hx0) V2
    have y:Hid (E=X∧(A:Int)=k):=C.out hx0;have K:Hid (X≠0):=hx0;clear hx0
    go_wp2_with fail
    refine We HP.out ?_;rintro e V3 ⟨rfl,rfl⟩;refine⟨rfl,fun h=>absurd (y.out.1▸h) K.out,fun _=>?_,B.out⟩;rw[y.out.1,y.out.2]
  ·obtain rfl:k=n:=vom
   have HE:Hid (E=0):=by rw[Hid,HQ.out,Ca HK.out];rfl
   go_wp2
   go_end0
   exact⟨fun _=>rfl,fun h=>absurd HE.out h,c⟩
theorem Sv(v:R2)(s:Sp)(A:Int)(t:ByteArray)(w:V8)(hv:gW w v s)(hs:ni s=0)(ht:gx t.data.toList=0)(hk:s.k=1∨s.k=6):
  WA qf 21 #[v,.int .i64 A,.string t] w fun e w'=>e=.returned (.string ⟨(one s t.data.toList).toArray⟩)∧Wh w.heap.size w w':=by
 obtain⟨x,u,j⟩:=FG ht;have m:=pP t;have hn:t.size≤65536:=vom;have hvv:=hv;obtain⟨mv,a,b,c,rfl,hm,hw,y,q⟩:=hv;have f:=af.new w 37 (eG s.k s.n s.key mv a b c s.g.rf s.g.pl);have d:Wh w.heap.size w (w.alloc (.cells (eG s.k s.n s.key mv a b c s.g.rf s.g.pl) 37)):=(Wm _ w).alloc (R3 _) _;have c0:=f.cell (xJ s.k s.n s.key mv a b c s.g.rf s.g.pl);have c1:=f.cell (xp s.k s.n s.key mv a b c s.g.rf s.g.pl);have c2:=f.cell (xV s.k s.n s.key mv a b c s.g.rf s.g.pl);have c3:=f.cell (AZ s.k s.n s.key mv a b c s.g.rf s.g.pl);have l:(w.alloc (.cells (eG s.k s.n s.key mv a b c s.g.rf s.g.pl) 37)).rangeAt w.heap.size 4 (aP a b c s.g.rf s.g.pl).toList:=ja f 4 _ (fun i v hv=>by rw[pz];exact hv);have HM:Hid (pE (w.alloc (.cells (eG s.k s.n s.key mv a b c s.g.rf s.g.pl) 37)) mv s.r s.L s.Z):=hm.below d;have HG:Hid (cL (w.alloc (.cells (eG s.k s.n s.key mv a b c s.g.rf s.g.pl) 37)) (.agg (aP a b c s.g.rf s.g.pl)) s.g):=⟨a,b,c,rfl,hw.below d,y.below d,q.below d⟩
 have F:Hid _:=hvv.below d;have G:Hid ((eG s.k s.n s.key mv a b c s.g.rf s.g.pl).size=59):=bg _ _ _ _ _ _ _ _ _;obtain⟨am,capm,R,rfl,_⟩:=hm;have HB:Hid _:=d;generalize eG s.k s.n s.key (.slice am s.r capm) a b c s.g.rf s.g.pl=CS at *;generalize hmc:aP a b c s.g.rf s.g.pl=MC at *;have C:Hid (MC.size=55):=by rw[Hid,←hmc];exact aD _ _ _ _ _
 have H:Hid _:=f;have D:Hid (t.data.toList.length=t.size):=m;clear hmc hw y q d hvv f m;rcases hk with k|k
 ·obtain⟨h0,B⟩:=OH hs k
  obtain⟨n,o⟩:∃n:Nat,s.n=n:=⟨s.n.toNat,vom⟩
  have HV:Hid (one s t.data.toList=Jo (n) t.data.toList):=by rw[Hid,Km k,o];rfl
  have HO:Hid _:=GD t (n) vom hn j (w.alloc (.cells CS 37));generalize one s t.data.toList=T at *;rw[k]at c0;rw[o]at c1;have E:(n:Int)≤25:=vom;clear k o h0 B hs ht x u j l c2 c3;go_enter Tryz.func21,Tryz.ntmps21
  go_wp2_with fail
  refine We HO.out ?_;rintro e V ⟨rfl,hb⟩;go_wp2;go_ret;exact⟨by rw[HV.out];rfl,HB.out.trans (hb.mono HB.out.size)⟩
 ·have hg:=o5 hs k
  have z:Ck s.g t.data.toList=0:=by unfold Ck;rw[V9 (fun h=>h hg)];exact ht
  have HV:Hid (one s t.data.toList=Jm s.g t.data.toList):=by rw[Hid,EE k];unfold Jm;rw[V9 (fun h=>h z)]
  have HO:Hid _:=D9 _ s.g t (w.alloc (.cells CS 37)) HG.out;generalize Ck s.g t.data.toList=e1 at *;generalize Gn s.g t.data.toList=e2 at *;generalize Jm s.g t.data.toList=T2 at *;generalize one s t.data.toList=T at *;rw[k]at c0;clear k hg hs ht x u j c1 c2 c3 z;go_enter Tryz.func21,Tryz.ntmps21
  go_wp2_with (first|refine aX rfl 35 _ rfl w.heap.size 4 rfl MC _ l WH rfl (by rw[C.out];exact vN) ?_)
  refine We HO.out ?_;rintro e V ⟨rfl,hb⟩;go_wp2;go_ret;exact⟨by rw[HV.out];rfl,HB.out.trans (hb.mono HB.out.size)⟩
theorem Uc{s:Sp}{t:List UInt8}(hs:ni s=0)(ht:gx t=0)(hk:s.k=1∨s.k=6):gx (one s t)=0∧(one s t).length=t.length:=by
 obtain⟨hl,hn⟩:=PB ht;rcases hk with k|k
 ·rw[Km k];exact⟨PD (Ql _ _) (by rw[om];exact hn),om _ _⟩
 ·rw[EE k];exact⟨PD (Om.EL (fq (o5 hs k)).1 _ hl) (by rw[Om.gh];exact hn),Om.gh _ _ _⟩
theorem EB(w:V8){l:Nat→Sp}{n:Nat}(hl:∀i,i<n→ni (l i)=0)(hk:∀i,i<n→(l i).k=1∨(l i).k=6){t:List UInt8}(ht:gx t=0):∀k,k≤n→gx (runT l t k)=0∧(runT l t k).length=t.length
 |0,_=>⟨ht,rfl⟩
 |k+1,h=>by
  obtain⟨h1,h2⟩:=EB w hl hk ht k vom;obtain⟨h3,h4⟩:=Uc (hl k vom) h1 (hk k vom);exact⟨h3,h4.trans h2⟩
theorem Rg(bl bt:Nat)(a:Option Addr)(n cap:Nat)(l:Nat→Sp)(t:ByteArray)(w0 w:V8)(hv:kK w0 (.slice a n cap) n l)(h0:Wh w0.heap.size w0 w)(hbt:w0.heap.size≤bt)(hx:j8 w bl bt (.slice a n cap) t)(hE:rE n l t.data.toList=0)(hkd:∀i,i<n→(l i).k=1∨(l i).k=6):
  WA qf 17 #[.pointer (some ⟨bl,0,none⟩),.pointer (some ⟨bt,0,none⟩)] w fun e w'=>e=.returned (.string ⟨(runT l t.data.toList n).toArray⟩)∧Lv w0 w bt w':=by
 have e7:=pP t;have cl:=hx.cl;obtain⟨A,g,e6⟩:=pM hE;obtain⟨M,y⟩:=ua A;have b:Hid (∀i,i<n→ni (l i)=0):=y;have C:Hid (∀i,i<n→(l i).k=1∨(l i).k=6):=hkd;have HC:Hid (WA qf 18 #[.slice a n cap] w fun e w'=>e=.returned (.tuple #[])∧Wh w.heap.size w w'):=We (RN _ n l w (hv.below h0) M hkd) (fun e w' h=>⟨h.1 A,h.2.2⟩);have k3:Hid (kK w0 (.slice a n cap) n l):=hv;have k7:Hid (w0.heap.size≤bt):=hbt;have P:Hid (gx t.data.toList=0):=g;clear A y hv hbt e6 hE hkd;go_enter Tryz.func17,Tryz.ntmps17
 go_wp2_with fail
 refine We HC.out ?_;rintro e V ⟨rfl,hb⟩;have s:=hx.below hb;have J:Hid (Lv w0 w bt V):=(Lv.refl h0).step hb;have cl1:=s.cl;have ct1:=s.ct;have o:Hid _:=s
 have HK:Hid (∀X,Wh V.heap.size V X→WA qf 20 #[.string t] X fun e w'=>e=.returned (.agg #[.int .i64 0,.int .i64 (nK t.data.toList)])∧Wh X.heap.size X w'):=fun X _=>by
  have h:=fJ t X;rw[g]at h;exact h
 clear hx cl hb s HC g;generalize nK t.data.toList=CA at *;have HP:Hid (∀X,WA qf 19 #[.int .i64 0,.int .i64 (n:Int)] X fun e w'=>e=.returned (.tuple #[])∧w'=X):=fun X=>jd _ X;have U:=yQ
 go_upto_region 2 with fail
 refine Xb ?_;refine Wz (S:=fun W=>j8 W bl bt (.slice a n cap) t∧Wh V.heap.size V W) vkr ⟨⟨o.out.row,o.out.Cn,o.out.ne⟩,(Wm _ _).drew⟩ (fun hS=>?_);refine vuk 0 7 (.string t) rfl (fun W hW=>by have u:=hW.1.ct;clear hS hW;go_simp) hS ?_;refine vuk 3 10 (.slice a n cap) rfl (fun W hW=>by have u:=hW.1.cl;clear hS hW;go_simp) hS ?_;refine vuq 4 11 (.int .i64 (n:Nat)) ?_;refine rd1 1 rfl (fun K hK=>?_);go_simp;refine We (HK.out _ hS.2) ?_;rintro e Y ⟨rfl,b9⟩;refine hK.out _ _ (⟨hS.1.below b9,hS.2.trans (b9.mono hS.2.size)⟩) (fun hS1=>?_);clear hK hS K;have hS:=hS1;clear hS1;refine vuk 2 9 (.int .i64 0) rfl (fun W hW=>by have u:=U;clear hS hW;go_simp) hS ?_;refine rd1 5 rfl (fun K hK=>?_);go_simp;refine We (HP.out _) ?_;rintro e Y ⟨rfl,rfl⟩;refine hK.out _ _ (hS) (fun hS1=>?_);clear hK hS K;have hS:=hS1;clear hS1;refine Xq vkr ?_ _;refine WU ?_;have Q:Hid (Lv w0 w bt Y):=J.out.step hS.2;obtain⟨E,_⟩:=hS;have clY:=E.cl;have n4:(⟨(runT l t.data.toList 0).toArray⟩:ByteArray)=t:=rfl;clear HK HP J cl1 ct1 o U e7
 go_wp2_with fail
 go_loopw [15] (fun i W=>∃k:Nat,k≤n∧i=.int .i64 (k:Nat)∧j8 W bl bt (.slice a n cap) ⟨(runT l t.data.toList k).toArray⟩∧Hid (Lv w0 w bt W)) (fun i _=>((n:Int)-intOf i).toNat)
 case atStart=>exact⟨0,vom,rfl,E,Q⟩
 case round=>
  clear E clY Q;obtain⟨k,hk,rfl,d,x⟩:=hrel;by_cases hlt:k<n
  ·obtain⟨aa,cc,R,ev,_,e4,G⟩:=k3.out
   cases ev;obtain⟨bw,ow,rfl,e3⟩:=e4 k hlt;have z:=b7 e3 x.out.old;have H:=(G k hlt).below x.out.old;have j:Hid ((R k).size=59):=H.cells.1;have L:Hid ((R k).all (·.oneCell')=true):=H.cells.2;have N:Hid (k<n):=hlt;have O:=bR zX;generalize hck:R k=CS at *;have e5:Hid (gW w0 (.agg CS) (l k)):=by rw[Hid,←hck];exact G k hlt
   obtain⟨c,v⟩:=EB w0 b.out C.out P.out k hk;obtain⟨T,hT⟩:∃T:ByteArray,T=⟨(runT l t.data.toList k).toArray⟩:=⟨_,rfl⟩
   have I:Hid (T.data.toList=runT l t.data.toList k):=by rw[Hid,hT]
   have l9:Hid (T.size=t.data.toList.length):=by rw[Hid,←pP,I.out,v]
   have k8:Hid (gx T.data.toList=0):=by rw[Hid,I.out];exact c
   rw[←hT]at d;have j3:Hid (runT l t.data.toList (k+1)=one (l k) T.data.toList):=by rw[Hid,I.out];rfl
   have k5:Hid _:=d;clear e4 G H c v hT e3
   go_upto_region 6 with(first|refine aX rfl 37 _ rfl bw (ow+k*59) rfl CS _ z WY rfl (by rw[j.out];exact bY) ?_|refine Wk rfl 37 _ _ rfl wr.heap.size CS rfl rfl 37 _ (af.new wr _ _) (by rw[j.out];exact bY) (by rw[j.out,bg]) L.out ?_)
   have B:=(af.new wr 37 (eG 0 0 ⟨#[]⟩ (.slice none 0 0) (.slice none 0 0) (.slice none 0 0) (.slice none 0 0) (fun _=>0) (fun _=>0))).row CS;have F:Wh wr.heap.size wr ((wr.alloc (.cells (eG 0 0 ⟨#[]⟩ (.slice none 0 0) (.slice none 0 0) (.slice none 0 0) (.slice none 0 0) (fun _=>0) (fun _=>0)) 37)).setRow wr.heap.size CS):=PK.Below.setRow ((Wm _ wr).alloc (R3 _) _) wr.heap.size (R3 _) _;generalize (wr.alloc (.cells (eG 0 0 ⟨#[]⟩ (.slice none 0 0) (.slice none 0 0) (.slice none 0 0) (.slice none 0 0) (fun _=>0) (fun _=>0)) 37)).setRow wr.heap.size CS=V4 at *;obtain⟨q,hq⟩:∃q,q=wr.heap.size:=⟨_,rfl⟩
   rw[←hq]at B⊢;have D:=k5.out.below F;have Z:Hid (Lv w0 w bt V4):=x.out.step F;have ct4:=D.ct;have l5:Hid _:=D;have e8:Hid _:=Sv (.agg CS) (l k) (k:Int) T V4 (e5.out.below Z.out.old) (b.out k hlt) k8.out (C.out k hlt);generalize one (l k) T.data.toList=OT at *;clear z O F hq hck D d hlt
   go_wp2_with (first|refine Wn rfl 37 _ rfl q rfl 37 CS (0,0) _ B WY rfl (by rw[j.out];exact bY) ?_)
   refine We e8.out ?_;rintro e V5 ⟨rfl,f⟩;have m:=l5.out.below f;have ct5:=m.ct;have ft5:=m.ft
   have j0:Hid (j8 (V5.setCell ⟨bt,0,none⟩ (.string ⟨OT.toArray⟩)) bl bt (.slice (some ⟨bw,ow,none⟩) n cap) ⟨(runT l t.data.toList (k+1)).toArray⟩):=by
    rw[Hid,j3.out];exact m.set _
   have e9:Hid (Lv w0 w bt (V5.setCell ⟨bt,0,none⟩ (.string ⟨OT.toArray⟩))):=(Z.out.step f).set k7.out _;clear f m B e8
   go_wp2_with fail
   go_roundw
   case rel=>exact⟨k+1,N.out,by go_num,j0.out,e9⟩
   case measure=>have:=N.out;simp[intOf]<;>omega
  ·obtain rfl:k=n:=vom
   have ct4:=d.ct;obtain⟨c,v⟩:=EB w0 b.out C.out P.out k hk;obtain⟨T,hT⟩:∃T:ByteArray,T=⟨(runT l t.data.toList k).toArray⟩:=⟨_,rfl⟩
   have k6:T.size≤65536:=by
    rw[←pP,hT];show(runT l t.data.toList k).length≤_;exact(PB c).2
   have k9:Hid _:=xE T k6 wr;have k4:Hid (T=⟨(runT l t.data.toList k).toArray⟩):=hT;rw[←hT]at ct4;clear c v hT d
   go_wp2_with fail
   refine We k9.out ?_;rintro e V5 ⟨rfl,f⟩;go_wp2;go_ret;exact⟨by rw[←k4.out];rfl,x.out.step f⟩
theorem Le{n:Nat}{l:Nat→Sp}{t:List UInt8}(hce:yE n l=0)(hc:gx t=0)(hkd:∀i,i<n→(l i).k=1∨(l i).k=6):rE n l t=0:=by
 unfold rE;rw[V9 (fun h=>h hce),V9 (fun h=>h hc)];exact An fun i hi=>QO (by rcases hkd i hi with h|h<;>omega) _
theorem QX(bl bt:Nat)(a:Option Addr)(n cap:Nat)(l:Nat→Sp)(t:ByteArray)(w0 w:V8)(hv:kK w0 (.slice a n cap) n l)(h0:Wh w0.heap.size w0 w)(hx:j8 w bl bt (.slice a n cap) t)(hn:n≤64)(hE:rE n l t.data.toList≠0)(hkd:∀i,i<n→(l i).k=1∨(l i).k=6):
  WA qf 17 #[.pointer (some ⟨bl,0,none⟩),.pointer (some ⟨bt,0,none⟩)] w fun e w'=>e=.panicked [gY (rE n l t.data.toList) (rA n l t.data.toList)]∧Lv w0 w bt w':=by
 have v:=pP t;have cl:=hx.cl;have f:yE n l=0→gx t.data.toList≠0:=fun hce hc=>hE (Le hce hc hkd);by_cases hce:yE n l≠0
 ·have HE:Hid (rE n l t.data.toList=yE n l):=by rw[Hid];unfold rE;rw[Wc hce]
  have HA:Hid (rA n l t.data.toList=Pt n l):=by rw[Hid];unfold rA;rw[Wc hce]
  have HC:Hid (WA qf 18 #[.slice a n cap] w fun e w'=>e=.panicked [gY (yE n l) (Pt n l)]∧Wh w.heap.size w w'):=We (RN _ n l w (hv.below h0) hn hkd) (fun e w' h=>⟨h.2.1 hce,h.2.2⟩);generalize rE n l t.data.toList=E at *;generalize rA n l t.data.toList=A at *;generalize yE n l=E2 at *;generalize Pt n l=A2 at *;clear hce v hE f hkd;go_enter Tryz.func17,Tryz.ntmps17
  go_wp2_with fail
  refine We HC.out ?_;rintro e V ⟨rfl,hb⟩;exact⟨rfl,by rw[HE.out,HA.out],(Lv.refl h0).step hb⟩
 have j:yE n l=0:=XB hce;have b:=f j;have HC:Hid (WA qf 18 #[.slice a n cap] w fun e w'=>e=.returned (.tuple #[])∧Wh w.heap.size w w'):=We (RN _ n l w (hv.below h0) hn hkd) (fun e w' h=>⟨h.1 j,h.2.2⟩);have m:Hid (rE n l t.data.toList=gx t.data.toList):=by rw[Hid];unfold rE;rw[V9 hce,Wc b]
 have q:Hid (rA n l t.data.toList=n):=by rw[Hid];unfold rA;rw[V9 hce,Wc b]
 have z:Hid (gx t.data.toList≠0):=b;generalize rE n l t.data.toList=RE at *;generalize rA n l t.data.toList=RA at *;clear hce j b f hE hkd hv hn;go_enter Tryz.func17,Tryz.ntmps17
 go_wp2_with fail
 refine We HC.out ?_;rintro e V ⟨rfl,hb⟩;have c:=hx.below hb;have y:Hid (Lv w0 w bt V):=(Lv.refl h0).step hb;have cl1:=c.cl;have ct1:=c.ct;have g:Hid _:=c;have HK:Hid (∀X,Wh V.heap.size V X→WA qf 20 #[.string t] X fun e w'=>e=.returned (.agg #[.int .i64 (gx t.data.toList),.int .i64 (nK t.data.toList)])∧Wh X.heap.size X w'):=fun X _=>fJ t X;clear hx cl hb c HC;generalize hce:gx t.data.toList=CE at *;generalize nK t.data.toList=CA at *;have s:Hid (RE=CE):=m.out;have o:Hid (RA=n):=q.out;have d:=z.out;have HP:Hid (∀X,WA qf 19 #[.int .i64 CE,.int .i64 (n:Int)] X fun e w'=>e=.panicked [gY CE (n:Int)]∧w'=X):=fun X=>gG CE _ (by simpa using d) X;have B:=yQ;clear hce d m q
 go_upto_region 2 with fail
 refine Wz (S:=fun W=>j8 W bl bt (.slice a n cap) t∧Wh V.heap.size V W) vkr ⟨⟨g.out.row,g.out.Cn,g.out.ne⟩,(Wm _ _).drew⟩ (fun hS=>?_);refine vup 0 7 (.string t) rfl (fun W hW=>by have u:=hW.1.ct;clear hS hW;go_simp) hS ?_;refine vup 3 10 (.slice a n cap) rfl (fun W hW=>by have u:=hW.1.cl;clear hS hW;go_simp) hS ?_;refine vvq 4 11 (.int .i64 (n:Nat)) ?_;refine rd1 1 rfl (fun K hK=>?_);go_simp;refine We (HK.out _ hS.2) ?_;rintro e Y ⟨rfl,x⟩;refine hK.out _ _ (⟨hS.1.below x,hS.2.trans (x.mono hS.2.size)⟩) (fun hS1=>?_);clear hK hS K;have hS:=hS1;clear hS1;refine vup 2 9 (.int .i64 CE) rfl (fun W hW=>by have u:=B;clear hS hW;go_simp) hS ?_;refine rd1 5 rfl (fun K hK=>?_);go_simp;refine We (HP.out _) ?_;rintro e Y ⟨rfl,rfl⟩;exact⟨rfl,by rw[s.out,o.out],y.out.step hS.2⟩
theorem Py(v:R2)(n:Nat)(l:Nat→Sp)(t:ByteArray)(w:V8)(hv:kK w v n l)(hn:n≤64)(hkd:∀i,i<n→(l i).k=1∨(l i).k=6):
  WA qf 6 #[v,.string t] w fun e w'=>e=.returned (.tuple #[.string ⟨(rS n l t.data.toList).toArray⟩,iR (rE n l t.data.toList) (rA n l t.data.toList)])∧Wh w.heap.size w w':=by
 have hv0:=hv;obtain⟨a,cap,R,rfl,_,_,_⟩:=hv;obtain⟨W1,c⟩:∃W1,W1=((w.alloc (.cells #[.slice a n cap] 23)).alloc (.cells #[.string t] 9)).alloc (.cells #[.int .i64 0,.int .i64 0] 26):=⟨_,rfl⟩
 have q:W1.heap.size=w.heap.size+3:=by rw[c];simp
 have h1:Wh w.heap.size w W1:=by rw[c];exact(((Wm _ w).alloc (R3 _) _).alloc vsi _).alloc vso _
 have j:j8 W1 w.heap.size (w.heap.size+1) (.slice a n cap) t:=by
  rw[c];refine⟨((af.new w _ _).alloc _).alloc _,?_,vom⟩;have:=(af.new (w.alloc (.cells #[.slice a n cap] 23)) 9 #[.string t]).alloc (.cells #[.int .i64 0,.int .i64 0] 26);simpa using this
 have h5:af W1 (w.heap.size+2) 26 #[.int .i64 0,.int .i64 0]:=by
  rw[c];have:=af.new ((w.alloc (.cells #[.slice a n cap] 23)).alloc (.cells #[.string t] 9)) 26 #[.int .i64 0,.int .i64 0];simpa using this
 have hF:Wh W1.heap.size W1 (iD W1):=(Wm _ W1).alloc (R3 _) _;have f:af (iD W1) W1.heap.size 26 #[.int .i64 0,.int .i64 0]:=af.new W1 _ _;have HS:Hid (rS n l t.data.toList=if rE n l t.data.toList=0 then runT l t.data.toList n else[]):=rfl
 have g:Hid (rE n l t.data.toList=0→rA n l t.data.toList=0):=fun h=>by
  obtain⟨e1,e2,e3⟩:=pM h;unfold rA IP;rw[V9 (fun h=>h e1),V9 (fun h=>h e2),tL e3]
  rfl
 have b:∀{w':V8},Lv w (iD W1) (w.heap.size+1) w'→af w' W1.heap.size 26 #[.int .i64 0,.int .i64 0]∧af w' (w.heap.size+2) 26 #[.int .i64 0,.int .i64 0]∧Wh w.heap.size (iD W1) w':=fun {w'} h=>by
  have e1:(iD W1).heap.size=W1.heap.size+1:=by simp[iD]
  refine⟨(h.rest _ vom vom).trans f,(h.rest _ vom vom).trans (h5.below hF vom),?_⟩;have h2:=h1.trans (hF.mono h1.size);exact⟨h.old.os.trans h2.os.symm,h.old.tape.trans h2.tape.symm,h.old.output.trans h2.output.symm,h.size,fun k hk=>(h.old.block k hk).trans (h2.block k hk).symm⟩
 have hv1:Wh w.heap.size w (iD W1):=h1.trans (hF.mono h1.size);have d:=j.below hF
 have x:Hid (WA qf 16 #[.func (.func 17) #[] #[.pointer (some ⟨w.heap.size,0,none⟩),.pointer (some ⟨w.heap.size+1,0,none⟩)]] W1 fun e w'=>e=.returned (.tuple #[.string ⟨(rS n l t.data.toList).toArray⟩,iR (rE n l t.data.toList) (rA n l t.data.toList)])∧af w' (w.heap.size+2) 26 #[.int .i64 0,.int .i64 0]∧Wh w.heap.size W1 w'):=by
  by_cases hE:rE n l t.data.toList=0
  ·refine We (KV 17 _ B6 W1 w.heap.size vom (fun v w'=>v=.string ⟨(rS n l t.data.toList).toArray⟩∧af w' (w.heap.size+2) 26 #[.int .i64 0,.int .i64 0]) (We (Rg w.heap.size (w.heap.size+1) a n cap l t w (iD W1) hv0 hv1 vom d hE hkd) ?_)) ?_
   ·rintro e w' ⟨h1,h3⟩
    obtain⟨r1,r2,r3⟩:=b h3;exact⟨_,h1.trans (by rw[HS.out,Wc hE]),rfl,⟨rfl,r2⟩,r1,r3⟩
   ·rintro e w' ⟨v,rfl,⟨w1,⟨rfl,hr⟩,rfl⟩,hb⟩
    refine⟨by rw[hE,g.out hE];rfl,?_,hb⟩;exact(hr.setOther _ _ (by show w.heap.size+2≠W1.heap.size;omega)).setOther _ _ (by show w.heap.size+2≠W1.heap.size;omega)
  ·have s:rS n l t.data.toList=[]:=by rw[HS.out,V9 hE]
   refine We (H9 17 _ B6 W1 w.heap.size vom (rE n l t.data.toList) (rA n l t.data.toList) (fun w'=>af w' (w.heap.size+2) 26 #[.int .i64 0,.int .i64 0]) (We (QX w.heap.size (w.heap.size+1) a n cap l t w (iD W1) hv0 hv1 d hn hE hkd) ?_)) ?_
   ·rintro e w' ⟨h2,h3⟩
    obtain⟨r1,r2,r3⟩:=b h3;exact⟨h2,r2,r1,r3⟩
   ·rintro e w' ⟨rfl,⟨w1,hr,rfl⟩,hb⟩
    refine⟨by rw[s],?_,hb⟩;exact(hr.setOther _ _ (by show w.heap.size+2≠W1.heap.size;omega)).setOther _ _ (by show w.heap.size+2≠W1.heap.size;omega)
 have u:Hid (Wh w.heap.size w W1):=h1;clear b h1 j h5 hF f HS g hv0 hv1 d hn hkd;generalize rS n l t.data.toList=RS at *;generalize rE n l t.data.toList=RE at *;generalize rA n l t.data.toList=RA at *;have y:=Sa;go_enter Tryz.func6,Tryz.ntmps6
 go_upto_region 1 with fail
 rw[←c];clear c q
 go_wp2_with fail
 refine We x.out ?_;rintro e V ⟨rfl,hr,hb⟩;have c0:=hr.cell (i:=0) rfl;have c1:=hr.cell (i:=1) rfl;have f0:=hr.frozen 0;have f1:=hr.frozen 1;have m:Hid (af ((V.setCell ⟨w.heap.size+2,0,none⟩ (.int .i64 RE)).setCell ⟨w.heap.size+2,1,none⟩ (.int .i64 RA)) (w.heap.size+2) 26 #[.int .i64 RE,.int .i64 RA]):=(hr.set 0 _).set 1 _;have o:Hid (Wh w.heap.size w ((V.setCell ⟨w.heap.size+2,0,none⟩ (.int .i64 RE)).setCell ⟨w.heap.size+2,1,none⟩ (.int .i64 RA))):=((u.out.trans hb).setCell (p:=⟨w.heap.size+2,0,none⟩) (by show _≤_+2;omega) _).setCell (p:=⟨w.heap.size+2,1,none⟩) (by show _≤_+2;omega) _;clear hr hb;unfold iR;go_wp2;exact⟨rfl,_,cO rfl _ _ (w.heap.size+2) 26 #[.int .i64 RE,.int .i64 RA] (0,0) _ _ rfl rfl m.out Tryz.underlying26 rfl n7,rfl,o.out⟩
theorem Ty(v:R2)(n:Nat)(l:Nat→Sp)(t:ByteArray)(w:V8)(hv:kK w v n l)(hE:rE n l t.data.toList=0)(hkd:∀i,i<n→(l i).k=1∨(l i).k=6):
  WA qf 6 #[v,.string t] w fun e w'=>e=.returned (.tuple #[.string ⟨(rS n l t.data.toList).toArray⟩,iR 0 0])∧Wh w.heap.size w w':=by
 have h:=Py v n l t w hv (ua (pM hE).1).1 hkd
 have h0:rA n l t.data.toList=0:=by
  obtain⟨e1,e2,e3⟩:=pM hE;unfold rA IP;rw[V9 (fun h=>h e1),V9 (fun h=>h e2),tL e3]
  rfl
 rw[hE,h0]at h;exact h
end Go.Proofs.YtpcnpkhgjanamaaGreatDoor
