import Derived.Test.YtgacaecjinlhiaaGreatDoorJn37
import Derived.Test.YtgacaecjinlhiaaGreatDoorJn31
namespace Go.Proofs.YtgacaecjinlhiaaGreatDoor
section
open Go.RowKit PK Vg Sm
set_option maxRecDepth 100000 in
set_option maxHeartbeats 2000000 in
theorem LF (v:Value) (s:Sp) (w:World) (hv:fo w v s) (hk:s.k=1∨s.k=6):Calls Tryz.prog 42 #[v] w fun e w'=>e=.returned (.int .i64 (stE s))∧Below w.heap.size w w':=by
 obtain ⟨mv,a,b,c,rfl,hm,hw,hri,hst⟩:=hv
 obtain ⟨X,hX⟩:∃X,X=stE s:=⟨_,rfl⟩
 rw[←hX]
 have HX:Hid (X=stE s):=hX
 clear hX
 obtain ⟨W,hW⟩:∃W,W=w.alloc (.cells (spA s.k s.n s.key mv a b c s.g.rf s.g.pl) 64):=⟨_,rfl⟩
 have hr0:af W w.heap.size 64 (spA s.k s.n s.key mv a b c s.g.rf s.g.pl):=by rw[hW];exact af.new w _ _
 have hbe:Below w.heap.size w W:=by rw[hW];exact (Below.refl _ w).alloc (Nat.le_refl _) _
 have c0:=hr0.cell (wu s.k s.n s.key mv a b c s.g.rf s.g.pl)
 have c1:=hr0.cell (se s.k s.n s.key mv a b c s.g.rf s.g.pl)
 have c2:=hr0.cell (rP s.k s.n s.key mv a b c s.g.rf s.g.pl)
 have c3:=hr0.cell (vI s.k s.n s.key mv a b c s.g.rf s.g.pl)
 have hmid:W.rangeAt w.heap.size 4 (mac a b c s.g.rf s.g.pl).toList:=iN hr0 4 _ (fun i v hv=>by rw[uj];exact hv)
 have HM:Hid (kX W mv s.r s.L s.Z):=hm.below hbe
 have HG:Hid (cE W (.agg (mac a b c s.g.rf s.g.pl)) s.g):=⟨a,b,c,rfl,hw.below hbe,hri.below hbe,hst.below hbe⟩
 obtain ⟨am,capm,R,rfl,_⟩:=hm
 have HR:Hid _:=hr0
 have HB:Hid _:=hbe
 clear hw hri hst hr0 hbe
 subst hW
 generalize spA s.k s.n s.key (.slice am s.r capm) a b c s.g.rf s.g.pl=CS at *
 generalize hmc:mac a b c s.g.rf s.g.pl=MC at *
 have HMS:Hid (MC.size=55):=by rw[Hid,←hmc];exact aE _ _ _ _ _
 clear hmc
 go_enter Tryz.func42,Tryz.ntmps42
 by_cases k1:s.k=1
 ·rw[k1] at c0
  have HE:Hid (X=inE s.n 0 25):=by rw[Hid,HX.out];unfold stE;rw[if_pos k1]
  have HO:Hid _:=Aa s.n 0 25 (w.alloc (.cells CS 64))
  clear k1 hk
  go_wp2_with fail
  refine Calls.mono HO.out ?_
  rintro e V ⟨rfl,rfl⟩
  go_wp2
  go_ret
  exact ⟨by rw[HE.out];rfl,HB.out⟩
 have k6:s.k=6:=hk.resolve_left k1
 have k2:¬s.k=2:=by omega
 have k3:¬s.k=3:=by omega
 have k4:¬s.k=4:=by omega
 have k5:¬s.k=5:=by omega
 ·rw[k6] at c0
  have HE:Hid (X=gE s.g):=by rw[Hid,HX.out];unfold stE;rw[if_neg k1,if_neg k2,if_neg k3,if_neg k4,if_neg k5,if_pos k6]
  have HO:Hid _:=tI _ s.g (w.alloc (.cells CS 64)) HG.out
  clear k1 k2 k3 k4 k5 k6 hk
  go_wp2_with (first | refine aM rfl 27 _ rfl w.heap.size 4 rfl MC _ hmid Tryz.underlying27 rfl (by rw[HMS.out];exact oY) ?_)
  refine Calls.mono HO.out ?_
  rintro e V ⟨rfl,hb⟩
  go_wp2
  go_ret
  exact ⟨by rw[HE.out];rfl,HB.out.trans (hb.mono HB.out.size)⟩
set_option maxRecDepth 100000 in
set_option maxHeartbeats 2000000 in
theorem LK (v:Value) (n:Nat) (l:Nat→Sp) (w:World) (hv:kL w v n l) (hn:n≤64) (hs0:∀i,i<n→stE (l i)=0) (hk:∀i,i<n→(l i).k=1∨(l i).k=6):Calls Tryz.prog 23 #[v] w fun e w'=>e=.returned (.tuple #[])∧Below w.heap.size w w':=by
 obtain ⟨a,cap,R,rfl,hm,hr,hs⟩:=hv
 have HR:Hid (∀i,i<n→∃b o,a=some ⟨b,o,none⟩∧w.rangeAt b (o+i*59) (R i).toList):=hr
 have HS:Hid (∀i,i<n→fo w (.agg (R i)) (l i)):=hs
 have hn2:¬64<(n:Int):=by omega
 have HN:Hid (n≤64):=hn
 have H0:Hid (∀i,i<n→stE (l i)=0):=hs0
 have HKD:Hid (∀i,i<n→(l i).k=1∨(l i).k=6):=hk
 clear hs0 hk
 clear hr hs hm
 go_enter Tryz.func23,Tryz.ntmps23
 go_wp2_with fail
 go_loopw [10] (fun i W=>∃k:Nat,k≤n∧i=.int .i64 (k:Nat)∧Below w.heap.size w W) (fun i _=>((n:Int)-intOf i).toNat)
 case atStart=>exact ⟨0,by omega,rfl,Below.refl _ _⟩
 case round =>
  obtain ⟨k,hk,rfl,hbe⟩:=hrel
  by_cases hlt:k<n
  ·obtain ⟨bw,ow,rfl,hrg⟩:=HR.out k hlt
   have hrg2:=bS hrg hbe
   have hsk:=(HS.out k hlt).below hbe
   have HSZ:Hid ((R k).size=59):=hsk.cells.1
   have HONE:Hid ((R k).all (·.oneCell')=true):=hsk.cells.2
   have HLT:Hid (k<n):=hlt
   have hz59:=cm uq
   generalize hck:R k=CS at *
   have HWB:Hid _:=hbe
   go_upto_region 5 with (first | refine aM rfl 64 _ rfl bw (ow+k*59) rfl CS _ hrg2 Tryz.underlying64 rfl (by rw[HSZ.out];exact bA) ?_ | refine wpList_store_row rfl 64 _ _ rfl wr.heap.size CS rfl rfl 64 _ (af.new wr _ _) (by rw[HSZ.out];exact bA) (by rw[HSZ.out,aS]) HONE.out ?_)
   have hr4:=(af.new wr 64 (spA 0 0 ⟨#[]⟩ (.slice none 0 0) (.slice none 0 0) (.slice none 0 0) (.slice none 0 0) (fun _=>0) (fun _=>0))).row CS
   have hb4:Below w.heap.size w ((wr.alloc (.cells (spA 0 0 ⟨#[]⟩ (.slice none 0 0) (.slice none 0 0) (.slice none 0 0) (.slice none 0 0) (fun _=>0) (fun _=>0)) 64)).setRow wr.heap.size CS):=PK.Below.setRow (HWB.out.alloc HWB.out.size _) wr.heap.size HWB.out.size _
   generalize (wr.alloc (.cells (spA 0 0 ⟨#[]⟩ (.slice none 0 0) (.slice none 0 0) (.slice none 0 0) (.slice none 0 0) (fun _=>0) (fun _=>0)) 64)).setRow wr.heap.size CS=V at *
   obtain ⟨q,hq⟩:∃q,q=wr.heap.size:=⟨_,rfl⟩
   rw[←hq] at hr4 ⊢
   have HSV:fo V (.agg CS) (l k):=by rw[←hck];exact (HS.out k hlt).below hb4
   have HWR:Hid (Calls Tryz.prog 42 #[.agg CS] V fun e w'=>e=.returned (.int .i64 0)∧Below V.heap.size V w'):=by
    have h:=LF _ _ V HSV (HKD.out k HLT.out)
    rw[H0.out k HLT.out] at h
    exact h
   have HB4:Hid _:=hb4
   clear hq hrg hrg2 hsk hz59 HONE HWB hbe hck HSV hb4
   go_wp2_with (first | refine wpList_load_row rfl 64 _ rfl q rfl 64 CS (0,0) _ hr4 Tryz.underlying64 rfl (by rw[HSZ.out];exact bA) ?_)
   refine Calls.mono HWR.out ?_
   rintro e V2 ⟨rfl,hb⟩
   have HB5:Hid (Below w.heap.size w V2):=HB4.out.trans (hb.mono HB4.out.size)
   clear hb hr4 HWR
   have HP:Hid _:=fX (k:Int) V2
   go_wp2_with fail
   refine Calls.mono HP.out ?_
   rintro e V3 ⟨rfl,rfl⟩
   go_wp2_with fail
   go_roundw
   case rel=>exact ⟨k+1,HLT.out,by go_num,HB5.out⟩
   case measure=>have:=HLT.out;simp[intOf] <;> omega
  ·obtain rfl:k=n:=by omega
   go_wp2
   go_end0
   exact ⟨rfl,hbe⟩
set_option maxRecDepth 100000 in
set_option maxHeartbeats 2000000 in
theorem IT (v:Value) (s:Sp) (A:Int) (t:ByteArray) (w:World) (hv:fo w v s) (hs:stE s=0) (ht:ckE t.data.toList=0) (hk:s.k=1∨s.k=6) :
  Calls Tryz.prog 26 #[v,.int .i64 A,.string t] w fun e w'=>e=.returned (.string ⟨(one s t.data.toList).toArray⟩)∧Below w.heap.size w w':=by
 obtain ⟨hat,hn0,hlets⟩:=zi ht
 have hlen:=oK t
 have hn:t.size≤65536:=by omega
 have hvv:=hv
 obtain ⟨mv,a,b,c,rfl,hm,hw,hri,hst⟩:=hv
 have hr0:=af.new w 64 (spA s.k s.n s.key mv a b c s.g.rf s.g.pl)
 have hbe:Below w.heap.size w (w.alloc (.cells (spA s.k s.n s.key mv a b c s.g.rf s.g.pl) 64)):=(Below.refl _ w).alloc (Nat.le_refl _) _
 have c0:=hr0.cell (wu s.k s.n s.key mv a b c s.g.rf s.g.pl)
 have c1:=hr0.cell (se s.k s.n s.key mv a b c s.g.rf s.g.pl)
 have c2:=hr0.cell (rP s.k s.n s.key mv a b c s.g.rf s.g.pl)
 have c3:=hr0.cell (vI s.k s.n s.key mv a b c s.g.rf s.g.pl)
 have hmid:(w.alloc (.cells (spA s.k s.n s.key mv a b c s.g.rf s.g.pl) 64)).rangeAt w.heap.size 4 (mac a b c s.g.rf s.g.pl).toList:=iN hr0 4 _ (fun i v hv=>by rw[uj];exact hv)
 have HM:Hid (kX (w.alloc (.cells (spA s.k s.n s.key mv a b c s.g.rf s.g.pl) 64)) mv s.r s.L s.Z):=hm.below hbe
 have HG:Hid (cE (w.alloc (.cells (spA s.k s.n s.key mv a b c s.g.rf s.g.pl) 64)) (.agg (mac a b c s.g.rf s.g.pl)) s.g):=⟨a,b,c,rfl,hw.below hbe,hri.below hbe,hst.below hbe⟩
 have HSQ:Hid _:=hvv.below hbe
 have HSZ:Hid ((spA s.k s.n s.key mv a b c s.g.rf s.g.pl).size=59):=aS _ _ _ _ _ _ _ _ _
 obtain ⟨am,capm,R,rfl,_⟩:=hm
 have HB:Hid _:=hbe
 generalize spA s.k s.n s.key (.slice am s.r capm) a b c s.g.rf s.g.pl=CS at *
 generalize hmc:mac a b c s.g.rf s.g.pl=MC at *
 have HMS:Hid (MC.size=55):=by rw[Hid,←hmc];exact aE _ _ _ _ _
 have HR0:Hid _:=hr0
 have HLEN:Hid (t.data.toList.length=t.size):=hlen
 clear hmc hw hri hst hbe hvv hr0 hlen
 rcases hk with k | k
 ·obtain ⟨h0,h25⟩:=Hv hs k
  obtain ⟨n,hnn⟩:∃n:Nat,s.n=n:=⟨s.n.toNat,by omega⟩
  have HV:Hid (one s t.data.toList=mvL (n) t.data.toList):=by rw[Hid,Di k,hnn];rfl
  have HO:Hid _:=Bi t (n) (by omega) hn hlets (w.alloc (.cells CS 64))
  generalize one s t.data.toList=T at *
  rw[k] at c0
  rw[hnn] at c1
  have hn25:(n:Int)≤25:=by omega
  clear k hnn h0 h25 hs ht hat hn0 hlets hmid c2 c3
  go_enter Tryz.func26,Tryz.ntmps26
  go_wp2_with fail
  refine Calls.mono HO.out ?_
  rintro e V ⟨rfl,hb⟩
  go_wp2
  go_ret
  exact ⟨by rw[HV.out];rfl,HB.out.trans (hb.mono HB.out.size)⟩
 ·have hg:=pO hs k
  have hrw:rwE s.g t.data.toList=0:=by unfold rwE;rw[if_neg (fun h=>h hg)];exact ht
  have HV:Hid (one s t.data.toList=rwS s.g t.data.toList):=by rw[Hid,Du k];unfold rwS;rw[if_neg (fun h=>h hrw)]
  have HO:Hid _:=yI _ s.g t (w.alloc (.cells CS 64)) HG.out
  generalize rwE s.g t.data.toList=e1 at *
  generalize Bx s.g t.data.toList=e2 at *
  generalize rwS s.g t.data.toList=T2 at *
  generalize one s t.data.toList=T at *
  rw[k] at c0
  clear k hg hs ht hat hn0 hlets c1 c2 c3 hrw
  go_enter Tryz.func26,Tryz.ntmps26
  go_wp2_with (first | refine aM rfl 27 _ rfl w.heap.size 4 rfl MC _ hmid Tryz.underlying27 rfl (by rw[HMS.out];exact oY) ?_)
  refine Calls.mono HO.out ?_
  rintro e V ⟨rfl,hb⟩
  go_wp2
  go_ret
  exact ⟨by rw[HV.out];rfl,HB.out.trans (hb.mono HB.out.size)⟩
theorem KT {s:Sp} {t:List UInt8} (hs:stE s=0) (ht:ckE t=0) (hk:s.k=1∨s.k=6):ckE (one s t)=0∧(one s t).length=t.length:=by
 obtain ⟨hl,hn⟩:=Iy ht
 rcases hk with k | k
 ·rw[Di k];exact ⟨H7 (JZ _ _) (by rw[kM];exact hn),kM _ _⟩
 ·rw[Du k];exact ⟨H7 (Om.D4 (lW (pO hs k)).1 _ hl) (by rw[Om.gV];exact hn),Om.gV _ _ _⟩
theorem xS (w:World) {l:Nat→Sp} {n:Nat} (hl:∀i,i<n→stE (l i)=0) (hk:∀i,i<n→(l i).k=1∨(l i).k=6) {t:List UInt8} (ht:ckE t=0):∀k,k≤n→ckE (runT l t k)=0∧(runT l t k).length=t.length
 | 0,_=>⟨ht,rfl⟩
 | k+1,h=>by
  obtain ⟨h1,h2⟩:=xS w hl hk ht k (by omega)
  obtain ⟨h3,h4⟩:=KT (hl k (by omega)) h1 (hk k (by omega))
  exact ⟨h3,h4.trans h2⟩
set_option maxRecDepth 100000 in
set_option maxHeartbeats 2000000 in
theorem Jl (bl bt:Nat) (a:Option Addr) (n cap:Nat) (l:Nat→Sp) (t:ByteArray) (w0 w:World) (hv:kL w0 (.slice a n cap) n l) (h0:Below w0.heap.size w0 w) (hbt:w0.heap.size≤bt) (hx:jv w bl bt (.slice a n cap) t) (hE:rE n l t.data.toList=0) (hkd:∀i,i<n→(l i).k=1∨(l i).k=6) :
  Calls Tryz.prog 22 #[.pointer (some ⟨bl,0,none⟩),.pointer (some ⟨bt,0,none⟩)] w fun e w'=>e=.returned (.string ⟨(runT l t.data.toList n).toArray⟩)∧Lv w0 w bt w':=by
 have hlen:=oK t
 have cl:=hx.cl
 obtain ⟨hce,hck0,hone⟩:=Ga hE
 obtain ⟨hn64,hall⟩:=D1 hce
 have HALL:Hid (∀i,i<n→stE (l i)=0):=hall
 have HKD:Hid (∀i,i<n→(l i).k=1∨(l i).k=6):=hkd
 have HC:Hid _:=LK _ n l w (hv.below h0) hn64 hall hkd
 have HV0:Hid (kL w0 (.slice a n cap) n l):=hv
 have HBT:Hid (w0.heap.size≤bt):=hbt
 have HCT:Hid (ckE t.data.toList=0):=hck0
 clear hce hall hv hbt hone hE hkd
 go_enter Tryz.func22,Tryz.ntmps22
 go_wp2_with fail
 refine Calls.mono HC.out ?_
 rintro e V ⟨rfl,hb⟩
 have hxv:=hx.below hb
 have HLV:Hid (Lv w0 w bt V):=(Lv.refl h0).step hb
 have cl1:=hxv.cl
 have ct1:=hxv.ct
 have HXV:Hid _:=hxv
 have HK:Hid (∀X,Below V.heap.size V X→Calls Tryz.prog 25 #[.string t] X fun e w'=>e=.returned (.agg #[.int .i64 0,.int .i64 (oG t.data.toList)])∧Below X.heap.size X w'):=fun X _=>by
  have h:=eK t X
  rw[hck0] at h
  exact h
 clear hx cl hb hxv HC hck0
 generalize oG t.data.toList=CA at *
 have HP:Hid (∀X,Calls Tryz.prog 24 #[.int .i64 0,.int .i64 (n:Int)] X fun e w'=>e=.returned (.tuple #[])∧w'=X):=fun X=>fX _ X
 have hfd:=zG
 go_upto_region 2 with fail
 refine wp_region_noPanic ?_
 refine wp_region_held_drew (S:=fun W=>jv W bl bt (.slice a n cap) t∧Below V.heap.size V W) (by kernel_rfl) ⟨⟨HXV.out.row,HXV.out.txt,HXV.out.ne⟩,(Below.refl _ _).drew⟩ (fun hS=>?_)
 refine vtk 0 7 (.string t) rfl (fun W hW=>by have u:=hW.1.ct;clear hS hW;go_simp) hS ?_
 simp only[zsA,zsB,zsC]
 refine vtk 3 10 (.slice a n cap) rfl (fun W hW=>by have u:=hW.1.cl;clear hS hW;go_simp) hS ?_
 simp only[zsA,zsB,zsC]
 refine vtk 4 11 (.int .i64 (n:Nat)) rfl (fun W hW=>by clear hS hW;go_simp) hS ?_
 simp only[zsA,zsB,zsC]
 refine rd1 1 rfl (fun K hK=>?_)
 go_simp
 refine Calls.mono (HK.out _ hS.2) ?_
 rintro e Y ⟨rfl,hbx⟩
 refine hK.out _ _ (⟨hS.1.below hbx,hS.2.trans (hbx.mono hS.2.size)⟩) (fun hS1=>?_)
 clear hK hS K
 have hS:=hS1
 clear hS1
 refine vtk 2 9 (.int .i64 0) rfl (fun W hW=>by have u:=hfd;clear hS hW;go_simp) hS ?_
 simp only[zsA,zsB,zsC]
 refine rd1 5 rfl (fun K hK=>?_)
 go_simp
 refine Calls.mono (HP.out _) ?_
 rintro e Y ⟨rfl,rfl⟩
 refine hK.out _ _ (hS) (fun hS1=>?_)
 clear hK hS K
 have hS:=hS1
 clear hS1
 refine wpAnyH_done (by kernel_rfl) ?_ _
 refine NoPanic.normal ?_
 have HLY:Hid (Lv w0 w bt Y):=HLV.out.step hS.2
 obtain ⟨hxY,_⟩:=hS
 have clY:=hxY.cl
 have h0T:(⟨(runT l t.data.toList 0).toArray⟩:ByteArray)=t:=rfl
 clear HK HP HLV cl1 ct1 HXV hfd hlen
 go_wp2_with fail
 go_loopw [15] (fun i W=>∃k:Nat,k≤n∧i=.int .i64 (k:Nat)∧jv W bl bt (.slice a n cap) ⟨(runT l t.data.toList k).toArray⟩∧Hid (Lv w0 w bt W)) (fun i _=>((n:Int)-intOf i).toNat)
 case atStart=>exact ⟨0,by omega,rfl,hxY,HLY⟩
 case round =>
  clear hxY clY HLY
  obtain ⟨k,hk,rfl,hxk,HLk⟩:=hrel
  by_cases hlt:k<n
  ·obtain ⟨aa,cc,R,ev,_,hrr,hss⟩:=HV0.out
   cases ev
   obtain ⟨bw,ow,rfl,hrg⟩:=hrr k hlt
   have hrg2:=bS hrg HLk.out.old
   have hsk:=(hss k hlt).below HLk.out.old
   have HSZ:Hid ((R k).size=59):=hsk.cells.1
   have HONE:Hid ((R k).all (·.oneCell')=true):=hsk.cells.2
   have HLT:Hid (k<n):=hlt
   have hz59:=cm uq
   generalize hck:R k=CS at *
   have HSK0:Hid (fo w0 (.agg CS) (l k)):=by rw[Hid,←hck];exact hss k hlt
   obtain ⟨hcT,hlT⟩:=xS w0 HALL.out HKD.out HCT.out k hk
   obtain ⟨T,hT⟩:∃T:ByteArray,T=⟨(runT l t.data.toList k).toArray⟩:=⟨_,rfl⟩
   have HTL:Hid (T.data.toList=runT l t.data.toList k):=by rw[Hid,hT]
   have HTS:Hid (T.size=t.data.toList.length):=by rw[Hid,←oK,HTL.out,hlT]
   have HTC:Hid (ckE T.data.toList=0):=by rw[Hid,HTL.out];exact hcT
   rw[←hT] at hxk
   have HNX:Hid (runT l t.data.toList (k+1)=one (l k) T.data.toList):=by rw[Hid,HTL.out];rfl
   have HXK:Hid _:=hxk
   clear hrr hss hsk hcT hlT hT hrg
   go_upto_region 6 with (first | refine aM rfl 64 _ rfl bw (ow+k*59) rfl CS _ hrg2 Tryz.underlying64 rfl (by rw[HSZ.out];exact bA) ?_ | refine wpList_store_row rfl 64 _ _ rfl wr.heap.size CS rfl rfl 64 _ (af.new wr _ _) (by rw[HSZ.out];exact bA) (by rw[HSZ.out,aS]) HONE.out ?_)
   have hr4:=(af.new wr 64 (spA 0 0 ⟨#[]⟩ (.slice none 0 0) (.slice none 0 0) (.slice none 0 0) (.slice none 0 0) (fun _=>0) (fun _=>0))).row CS
   have hb4:Below wr.heap.size wr ((wr.alloc (.cells (spA 0 0 ⟨#[]⟩ (.slice none 0 0) (.slice none 0 0) (.slice none 0 0) (.slice none 0 0) (fun _=>0) (fun _=>0)) 64)).setRow wr.heap.size CS):=PK.Below.setRow ((Below.refl _ wr).alloc (Nat.le_refl _) _) wr.heap.size (Nat.le_refl _) _
   generalize (wr.alloc (.cells (spA 0 0 ⟨#[]⟩ (.slice none 0 0) (.slice none 0 0) (.slice none 0 0) (.slice none 0 0) (fun _=>0) (fun _=>0)) 64)).setRow wr.heap.size CS=V4 at *
   obtain ⟨q,hq⟩:∃q,q=wr.heap.size:=⟨_,rfl⟩
   rw[←hq] at hr4 ⊢
   have hx4:=HXK.out.below hb4
   have HL4:Hid (Lv w0 w bt V4):=HLk.out.step hb4
   have ct4:=hx4.ct
   have HX4:Hid _:=hx4
   have HD2:Hid _:=IT (.agg CS) (l k) (k:Int) T V4 (HSK0.out.below HL4.out.old) (HALL.out k hlt) HTC.out (HKD.out k hlt)
   generalize one (l k) T.data.toList=OT at *
   clear hrg2 hz59 hb4 hq hck hx4 hxk hlt
   go_wp2_with (first | refine wpList_load_row rfl 64 _ rfl q rfl 64 CS (0,0) _ hr4 Tryz.underlying64 rfl (by rw[HSZ.out];exact bA) ?_)
   refine Calls.mono HD2.out ?_
   rintro e V5 ⟨rfl,hb5⟩
   have hx5:=HX4.out.below hb5
   have ct5:=hx5.ct
   have ft5:=hx5.ft
   have HX6:Hid (jv (V5.setCell ⟨bt,0,none⟩ (.string ⟨OT.toArray⟩)) bl bt (.slice (some ⟨bw,ow,none⟩) n cap) ⟨(runT l t.data.toList (k+1)).toArray⟩):=by
    rw[Hid,HNX.out]
    exact hx5.set _
   have HL6:Hid (Lv w0 w bt (V5.setCell ⟨bt,0,none⟩ (.string ⟨OT.toArray⟩))):=(HL4.out.step hb5).set HBT.out _
   clear hb5 hx5 hr4 HD2
   go_wp2_with fail
   go_roundw
   case rel=>exact ⟨k+1,HLT.out,by go_num,HX6.out,HL6⟩
   case measure=>have:=HLT.out;simp[intOf] <;> omega
  ·obtain rfl:k=n:=by omega
   have ct4:=hxk.ct
   obtain ⟨hcT,hlT⟩:=xS w0 HALL.out HKD.out HCT.out k hk
   obtain ⟨T,hT⟩:∃T:ByteArray,T=⟨(runT l t.data.toList k).toArray⟩:=⟨_,rfl⟩
   have hTs:T.size≤65536:=by
    rw[←oK,hT]
    show (runT l t.data.toList k).length≤_
    exact (Iy hcT).2
   have HCL:Hid _:=sE T hTs wr
   have HTT:Hid (T=⟨(runT l t.data.toList k).toArray⟩):=hT
   rw[←hT] at ct4
   clear hcT hlT hT hxk
   go_wp2_with fail
   refine Calls.mono HCL.out ?_
   rintro e V5 ⟨rfl,hb5⟩
   go_wp2
   go_ret
   exact ⟨by rw[←HTT.out];rfl,HLk.out.step hb5⟩
set_option maxRecDepth 100000 in
set_option maxHeartbeats 1000000 in
theorem Kt (v:Value) (n:Nat) (l:Nat→Sp) (t:ByteArray) (w:World) (hv:kL w v n l) (hE:rE n l t.data.toList=0) (hkd:∀i,i<n→(l i).k=1∨(l i).k=6) :
  Calls Tryz.prog 8 #[v,.string t] w fun e w'=>e=.returned (.tuple #[.string ⟨(rS n l t.data.toList).toArray⟩,jU 0 0])∧Below w.heap.size w w':=by
 have hv0:=hv
 obtain ⟨a,cap,R,rfl,_,_,_⟩:=hv
 obtain ⟨W1,hW1⟩:∃W1,W1=((w.alloc (.cells #[.slice a n cap] 35)).alloc (.cells #[.string t] 9)).alloc (.cells #[.int .i64 0,.int .i64 0] 37):=⟨_,rfl⟩
 have hsz:W1.heap.size=w.heap.size+3:=by rw[hW1];simp
 have h1:Below w.heap.size w W1:=by rw[hW1];exact (((Below.refl _ w).alloc (Nat.le_refl _) _).alloc (by simp) _).alloc (by simp;omega) _
 have hbx:jv W1 w.heap.size (w.heap.size+1) (.slice a n cap) t:=by
  rw[hW1]
  refine ⟨((af.new w _ _).alloc _).alloc _,?_,by omega⟩
  have:=(af.new (w.alloc (.cells #[.slice a n cap] 35)) 9 #[.string t]).alloc (.cells #[.int .i64 0,.int .i64 0] 37)
  simpa using this
 have h5:af W1 (w.heap.size+2) 37 #[.int .i64 0,.int .i64 0]:=by
  rw[hW1]
  have:=af.new ((w.alloc (.cells #[.slice a n cap] 35)).alloc (.cells #[.string t] 9)) 37 #[.int .i64 0,.int .i64 0]
  simpa using this
 have hF:Below W1.heap.size W1 (ig W1):=(Below.refl _ W1).alloc (Nat.le_refl _) _
 have HR:=Jl w.heap.size (w.heap.size+1) a n cap l t w (ig W1) hv0 (h1.trans (hF.mono h1.size)) (by omega) (hbx.below hF) hE hkd
 have hbxF:af (ig W1) W1.heap.size 37 #[.int .i64 0,.int .i64 0]:=af.new W1 _ _
 have HS:Hid (rS n l t.data.toList=runT l t.data.toList n):=if_pos hE
 have hrest:∀{w':World},Lv w (ig W1) (w.heap.size+1) w'→af w' W1.heap.size 37 #[.int .i64 0,.int .i64 0]∧af w' (w.heap.size+2) 37 #[.int .i64 0,.int .i64 0]∧Below w.heap.size (ig W1) w':=fun {w'} h=>by
  have e1:(ig W1).heap.size=W1.heap.size+1:=by simp[ig]
  refine ⟨(h.rest _ (by omega) (by omega)).trans hbxF,(h.rest _ (by omega) (by omega)).trans (h5.below hF (by omega)),?_⟩
  have h2:=h1.trans (hF.mono h1.size)
  exact ⟨h.old.os.trans h2.os.symm,h.old.tape.trans h2.tape.symm,h.old.output.trans h2.output.symm,h.size,fun k hk=>(h.old.block k hk).trans (h2.block k hk).symm⟩
 have HED:Hid (Calls Tryz.prog 21 #[.func (.func 22) #[] #[.pointer (some ⟨w.heap.size,0,none⟩),.pointer (some ⟨w.heap.size+1,0,none⟩)]] W1 fun e w'=>e=.returned (.tuple #[.string ⟨(rS n l t.data.toList).toArray⟩,jU 0 0])∧af w' (w.heap.size+2) 37 #[.int .i64 0,.int .i64 0]∧Below w.heap.size W1 w'):=by
  refine Calls.mono (Es 22 _ ET W1 w.heap.size (by omega) (fun v w'=>v=.string ⟨(rS n l t.data.toList).toArray⟩∧af w' (w.heap.size+2) 37 #[.int .i64 0,.int .i64 0]) (Calls.mono HR ?_)) ?_
  ·rintro e w' ⟨h1,h3⟩
   obtain ⟨r1,r2,r3⟩:=hrest h3
   exact ⟨_,h1.trans (by rw[HS.out]),rfl,⟨rfl,r2⟩,r1,r3⟩
  ·rintro e w' ⟨v,rfl,⟨w1,⟨rfl,hr⟩,rfl⟩,hb⟩
   refine ⟨rfl,?_,hb⟩
   exact (hr.setOther _ _ (by show w.heap.size+2≠W1.heap.size;omega)).setOther _ _ (by show w.heap.size+2≠W1.heap.size;omega)
 have HB1:Hid (Below w.heap.size w W1):=h1
 clear HR hrest h1 hbx h5 hF hbxF HS hv0 hE hkd
 generalize rS n l t.data.toList=RS at *
 have hmf:=mkf
 go_enter Tryz.func8,Tryz.ntmps8
 go_upto_region 1 with fail
 rw[←hW1]
 clear hW1 hsz
 go_wp2_with fail
 refine Calls.mono HED.out ?_
 rintro e V ⟨rfl,hr,hb⟩
 have c0:=hr.cell (i:=0) rfl
 have c1:=hr.cell (i:=1) rfl
 have f0:=hr.frozen 0
 have f1:=hr.frozen 1
 have HR2:Hid (af ((V.setCell ⟨w.heap.size+2,0,none⟩ (.int .i64 0)).setCell ⟨w.heap.size+2,1,none⟩ (.int .i64 0)) (w.heap.size+2) 37 #[.int .i64 0,.int .i64 0]):=(hr.set 0 _).set 1 _
 have HB2:Hid (Below w.heap.size w ((V.setCell ⟨w.heap.size+2,0,none⟩ (.int .i64 0)).setCell ⟨w.heap.size+2,1,none⟩ (.int .i64 0))):=((HB1.out.trans hb).setCell (p:=⟨w.heap.size+2,0,none⟩) (by show _≤_+2;omega) _).setCell (p:=⟨w.heap.size+2,1,none⟩) (by show _≤_+2;omega) _
 clear hr hb
 unfold jU
 go_wp2
 exact ⟨rfl,_,cC rfl _ _ (w.heap.size+2) 37 #[.int .i64 0,.int .i64 0] (0,0) _ _ rfl rfl HR2.out Tryz.underlying37 rfl ni,rfl,HB2.out⟩
end
section
open Go.RowKit PK Vg
theorem EH {l:List UInt8} (h:Ls l):mvL 0 l=l:=by
 unfold mvL
 conv=>rhs;rw[←List.map_id l]
 refine List.map_congr_left fun c hc=>?_
 unfold mvC
 have:=mJ (h c hc)
 rw[Nat.add_zero,Nat.mod_eq_of_lt this,FH (h c hc)]
 rfl
theorem Fq:rE 2 (spD [spR,spM 0]) [65,65,65]=0∧∃x y z,rS 2 (spD [spR,spM 0]) [65,65,65]=[x,y,z]∧x≠65:=by
 have h:rE 2 (spD [spR,spM 0]) [65,65,65]=0:=by kernel_rfl
 refine ⟨h,?_⟩
 have hL:Ls [65,65,65]:=fun c hc=>by
  simp at hc
  subst hc
  decide
 have hok:=(lW (pO IY rfl)).1
 have h1:rS 2 (spD [spR,spM 0]) [65,65,65]=Om.wr (fO spR.g) (fO spR.g).st [65,65,65]:=by
  unfold rS
  rw[if_pos h]
  show one (spM 0) (one spR [65,65,65])=_
  rw[Du (s:=spR) rfl,Di (s:=spM 0) rfl]
  exact EH (Om.D4 hok _ hL)
 have h2:=Om.gV (fO spR.g) [65,65,65] (fO spR.g).st
 have h3:=Om.Ik hok (fO spR.g).st hL 0 (by decide)
 rw[h1]
 generalize Om.wr (fO spR.g) (fO spR.g).st [65,65,65]=S at *
 match S,h2,h3 with
 | [x,y,z],_,h3=>exact ⟨x,y,z,rfl,h3⟩
set_option maxRecDepth 100000 in
set_option maxHeartbeats 2000000 in
theorem lA (w:World) (hn:iE w) (he:fu w):Calls Tryz.prog 4 #[] w fun e w'=>e=.returned (.bool true)∧Below w.heap.size w w':=by
 have HR:Hid _:=y4 ⟨#[114,111,116,111,114,32,73,32,66,32,65,32,65,32,124,32,109,111,118,101,32,48]⟩ w hn he
 clear hn he
 obtain ⟨r1,x,y,z,r2,hx⟩:=Fq
 go_enter Tryz.func4,Tryz.ntmps4
 go_wp2_with fail
 refine Calls.mono HR.out ?_
 rintro e V ⟨hrd,hb⟩
 rw[xE] at hrd
 obtain ⟨v,rfl,hch⟩:=hrd
 obtain ⟨a,cap,R,rfl,-⟩:=id hch
 obtain ⟨V2,hV2⟩:∃V2,V2=V.alloc (.cells #[.int .i64 0,.int .i64 0] 37):=⟨_,rfl⟩
 have hb2:Below V.heap.size V V2:=by rw[hV2];exact (Below.refl _ V).alloc (Nat.le_refl _) _
 have hf2:af V2 V.heap.size 37 #[.int .i64 0,.int .i64 0]:=by rw[hV2];exact af.new V _ _
 have HRN:Hid _:=Kt _ 2 (spD [spR,spM 0]) ⟨#[65,65,65]⟩ V2 (hch.below hb2) r1 (fun i hi=>by
  match i,hi with
  | 0,_=>exact .inr rfl
  | 1,_=>exact .inl rfl)
 change Hid (Calls Tryz.prog 8 _ _ fun e w'=>e=.returned (.tuple #[.string ⟨(rS 2 (spD [spR,spM 0]) [65,65,65]).toArray⟩,jU 0 0])∧_) at HRN
 rw[r2] at HRN
 have HB2:Hid (Below w.heap.size w V2):=hb.trans (hb2.mono hb.size)
 have HF2:Hid _:=hf2
 have HVS:Hid (w.heap.size≤V.heap.size):=hb.size
 have c0:=af.cell hf2 (i:=0) rfl
 have hx2:((x.toNat:Int)==65)=false:=beq_false_of_ne (fun e=>hx (by apply UInt8.toNat_inj.1;show x.toNat=65;omega))
 clear HR hb hb2 hch hf2 r1 r2 hx
 unfold jU
 go_upto_region 2 with fail
 rw[←hV2]
 clear hV2
 go_wp2_with fail
 refine Calls.mono HRN.out ?_
 rintro e V3 ⟨rfl,hb⟩
 have hf3:=af.below HF2.out hb (af.lt HF2.out)
 have c3:=af.cell hf3 (i:=0) rfl
 have c4:=af.cell hf3 (i:=1) rfl
 have f3:=af.frozen hf3 0
 have f4:=af.frozen hf3 1
 have HB3:Hid (Below w.heap.size w ((V3.setCell ⟨V.heap.size,0,none⟩ (.int .i64 0)).setCell ⟨V.heap.size,1,none⟩ (.int .i64 0))):=((HB2.out.trans (hb.mono HB2.out.size)).setCell (p:=⟨V.heap.size,0,none⟩) HVS.out _).setCell (p:=⟨V.heap.size,1,none⟩) HVS.out _
 clear hf3 hb HRN c0 HF2 HB2
 unfold jU
 go_wp2
 go_ret
 refine ⟨?_,HB3.out⟩
 show Ending.returned (.bool ((x.toNat:Int) != 65))=_
 rw[show ((x.toNat:Int) != 65)=true by simp only[bne,hx2,Bool.not_false]]
end
section
open Go.RowKit PK Vg Go.Conc Cs
set_option maxRecDepth 100000 in
set_option maxHeartbeats 4000000 in
theorem Hi (vm:Value) (g:Gm) (cr te:ByteArray) (h1 h2:Int) (w:World) (hm:cE w vm g) (hn:iE w) (he:fu w) (hbad:¬(g.n≤1∧1≤h1∧h1≤16∧1≤h2∧h2≤16∧bwE g cr.data.toList te.data.toList=0)) :
  Calls Tryz.prog 3 #[vm,.string cr,.string te,.int .i64 h1,.int .i64 h2] w fun e w'=>e=.returned (.bool true)∧Below w.heap.size w w':=by
 have HAL:=(show Hid (∀W,Below w.heap.size w W→Calls Tryz.prog 4 #[] W fun e w'=>e=.returned (.bool true)∧Below W.heap.size W w') from fun W hb=>lA W (hn.below hb) (he.below hb))
 have HSE:=(show Hid (∀h,bwE g cr.data.toList te.data.toList≠0→∀W,Below w.heap.size w W→Calls Tryz.prog 5 #[vm,.string cr,.string te,.int .i64 h] W fun e w'=>e=.returned (.tuple #[.slice none 0 0,.int .i64 (bwE g cr.data.toList te.data.toList)])∧Below W.heap.size W w') from fun h hE W hb=>ux vm g cr te h hE W (hm.below hb))
 have HSN:=(show Hid (∀W,Calls Tryz.prog 6 #[.slice none 0 0,.slice none 0 0] W fun e w'=>e=.returned (.bool true)∧Below W.heap.size W w') from fun W=>js none none 0 0 W)
 obtain ⟨a,b,c,rfl,hwh,_,_⟩:=hm
 obtain ⟨aw,cw,R,rfl,hmx,_,_⟩:=hwh
 unfold maxLen at hmx
 have hld:=af.new w 27 (mac (.slice aw g.n cw) b c g.rf g.pl)
 have hbe:=(Below.refl w.heap.size w).alloc (Nat.le_refl _) (.cells (mac (.slice aw g.n cw) b c g.rf g.pl) 27)
 have HA0:=(show Hid ((mac (.slice aw g.n cw) b c g.rf g.pl)[0]? = some (.slice aw g.n cw)) from dj _ _ _ _ _)
 have hA0s:(mac (.slice aw g.n cw) b c g.rf g.pl).size=55:=aE _ _ _ _ _
 have HBAD:=(show Hid _ from hbad)
 clear hn he hbad
 generalize mac (.slice aw g.n cw) b c g.rf g.pl=A0 at *
 generalize hE:bwE g cr.data.toList te.data.toList=E at *
 clear hE
 go_enter Tryz.func3,Tryz.ntmps3
 go_upto_region 1 with fail
 generalize w.alloc (.cells A0 27)=W0 at *
 go_wp2_with fail
 refine (HAL.out _ hbe).mono ?_
 rintro e W1 ⟨rfl,hb⟩
 have hld1:=hld.below hb hld.lt
 have HB:=(show Hid (Below w.heap.size w W1) from hbe.trans (hb.mono hbe.size))
 have c0:=hld1.cell HA0.out
 clear hb hld hbe HAL HA0
 by_cases k1:1<g.n
 ·have k1i:(1:Int)<(g.n:Int):=by omega
  generalize g.n=n at *
  clear k1
  go_wp2
  go_ret
  exact ⟨rfl,HB.out⟩
 have k1i:¬(1:Int)<(g.n:Int):=by omega
 by_cases k2:h1<1
 ·generalize g.n=n at *
  clear k1
  go_wp2
  go_ret
  exact ⟨rfl,HB.out⟩
 by_cases k3:16<h1
 ·generalize g.n=n at *
  clear k1
  go_wp2
  go_ret
  exact ⟨rfl,HB.out⟩
 by_cases k4:h2<1
 ·generalize g.n=n at *
  clear k1
  go_wp2
  go_ret
  exact ⟨rfl,HB.out⟩
 by_cases k5:16<h2
 ·generalize g.n=n at *
  clear k1
  go_wp2
  go_ret
  exact ⟨rfl,HB.out⟩
 have hE0:E≠0:=fun e=>HBAD.out ⟨by omega,by omega,by omega,by omega,by omega,e⟩
 have HS:=(show Hid (∀h,∀W,Below w.heap.size w W→Calls Tryz.prog 5 #[.agg A0,.string cr,.string te,.int .i64 h] W fun e w'=>e=.returned (.tuple #[.slice none 0 0,.int .i64 E])∧Below W.heap.size W w') from fun h W hb=>HSE.out h hE0 W hb)
 clear HSE HBAD hE0
 generalize g.n=n at *
 clear k1
 have HL1:=(show Hid (af W1 w.heap.size 27 A0) from hld1)
 go_wp2_with (first | refine wpList_load_row rfl 27 _ rfl w.heap.size rfl 27 A0 (0,0) _ hld1 Tryz.underlying27 rfl (by rw[hA0s];exact aF) ?_)
 refine (HS.out _ _ HB.out).mono ?_
 rintro e W2 ⟨rfl,hb2⟩
 have hld2:=HL1.out.below hb2 HL1.out.lt
 have HB2:=(show Hid (Below w.heap.size w W2) from HB.out.trans (hb2.mono HB.out.size))
 clear hb2 hld1 HB HL1 c0
 go_wp2_with (first | refine wpList_load_row rfl 27 _ rfl w.heap.size rfl 27 A0 (0,0) _ hld2 Tryz.underlying27 rfl (by rw[hA0s];exact aF) ?_)
 refine (HS.out _ _ HB2.out).mono ?_
 rintro e W3 ⟨rfl,hb3⟩
 have HB3:=(show Hid (Below w.heap.size w W3) from HB2.out.trans (hb3.mono HB2.out.size))
 clear hb3 hld2 HB2
 go_wp2_with fail
 refine (HSN.out _).mono ?_
 rintro e W4 ⟨rfl,hb4⟩
 have HB4:=(show Hid (Below w.heap.size w W4) from HB3.out.trans (hb4.mono HB3.out.size))
 clear hb4 HB3
 go_wp2
 go_ret
 exact ⟨rfl,HB4.out⟩
end
namespace Nm
open Go Go.Conc
def Neu (m:Mark):Prop:=m=.noRoom∨∃f,m=.extern f
def ue (size:Nat) (e:Event):Prop:=match e.loc with
 | .cell a=>a.block<size
 | .obj q=>q<size
 | .mark m=>(Neu m∨m=.disable∨m=.enable)∧e.sync=true
 | _=>True
theorem ue.up {a b:Nat} (h:a≤b) {e:Event} (k:ue a e):ue b e:=by
 obtain ⟨l,x,y⟩:=e
 cases l with
 | cell p=>exact Nat.lt_of_lt_of_le k h
 | obj q=>exact Nat.lt_of_lt_of_le k h
 | output=>trivial
 | goroutines=>trivial
 | mark m=>exact k
theorem size_set (w:World) (a:Addr) (v:Value):(w.setCell a v).heap.size=w.heap.size:=by simp[World.setCell]
theorem nT (w:World) (a:Addr) (n:Nat):(w.freeze a n).heap.size=w.heap.size:=by
 unfold World.freeze
 split <;> simp
theorem En {α:Type} (a:Ask α):∀w:World,(w.ask a).2.heap=w.heap:=by
 induction a with
 | done a=>exact fun _=>rfl
 | ask what range k ih =>
  intro w
  unfold World.ask
  dsimp only
  split
  ·exact ih 0 w
  ·exact ih _ _
theorem uX (w:World) (c:Sys):(w.sys c).2.heap=w.heap:=by
 unfold World.sys
 have h:=En (Kernel.perform c w.os) w
 split
 ·rfl
 ·next e=>rw[e] at h;exact h
theorem uI {w:World} {a:Addr} {v:Value} (h:w.cell? a=some v):a.block<w.heap.size:=by
 unfold World.cell? at h
 split at h
 ·next e=>exact (Array.getElem?_eq_some_iff.1 e).1
 ·cases h
theorem uE {P:Program} {w:World} {at_:Addr} {u:TypeId} {k:Addr} {at0:Bool} {r} (h:w.seen P at_ u k at0=.ok r):at_.block<w.heap.size:=by
 unfold World.seen at h
 simp only[bind,Except.bind,pure,Except.pure] at h
 repeat' first
  | (cases h;done)
  | (rename_i e;exact (Array.getElem?_eq_some_iff.1 e).1)
  | split at h
theorem vH {P:Program} {w:World} {a:Addr} {b:Bool} {v:Value} {l:List Addr} (h:w.farLoad P a b=.ok (v,l)):∀x ∈ l,x.block<w.heap.size:=by
 unfold World.farLoad at h
 split at h
 ·next at_ u _ =>
  split at h
  ·next r e =>
   cases h
   unfold World.viewLoad at e
   cases hs:w.seen P at_ u a b with
   | error x=>rw[hs] at e;cases e
   | ok r =>
    have hl:=uE hs
    rw[hs] at e
    simp only[bind,Except.bind] at e
    split at e
    ·cases e
     intro x hx
     obtain ⟨_,_,rfl⟩:=List.mem_map.1 hx
     exact hl
    ·cases e
  ·cases h
 ·cases h
theorem lK {P:Program} {w w':World} {a:Addr} {v:Value} {b:Bool} {l:List Addr} (h:w.farStore P a v b=.ok (w',l)):w'.heap.size=w.heap.size∧∀x ∈ l,x.block<w.heap.size:=by
 unfold World.farStore at h
 split at h
 ·next at_ u _ =>
  split at h
  ·next r e =>
   cases h
   unfold World.viewStore at e
   cases hs:w.seen P at_ u a b with
   | error x =>
    rw[hs] at e
    simp only[bind,Except.bind] at e
    split at e <;> cases e
   | ok r =>
    have hl:=uE hs
    rw[hs] at e
    simp only[bind,Except.bind,pure,Except.pure] at e
    split at e
    ·cases e
    ·split at e
     ·split at e
      ·cases e
      ·split at e
       ·cases e
       ·cases e
        refine ⟨by simp,fun x hx=>?_⟩
        obtain ⟨_,_,rfl⟩:=List.mem_map.1 hx
        exact hl
     ·cases e
  ·cases h
 ·cases h
def NMp {α:Type} (P:Program):Sem α→(α→Prop)→Prop
 | .pure a,Q=>Q a
 | .load _ _ k,Q=>∀v,NMp P (k v) Q
 | .store _ _ _ k,Q=>NMp P k Q
 | .new _ k,Q=>∀n,NMp P (k n) Q
 | .shape _ k,Q=>∀n,NMp P (k n) Q
 | .freeze _ _ k,Q=>NMp P k Q
 | .frozen _ k,Q=>∀n,NMp P (k n) Q
 | .getObj _ k,Q=>∀n,NMp P (k n) Q
 | .setObj _ _ k,Q=>NMp P k Q
 | .choose _ k,Q=>∀n,NMp P (k n) Q
 | .sys _ k,Q=>∀n,NMp P (k n) Q
 | .program k,Q=>NMp P (k P) Q
 | .mark m k,Q=>Neu m∧NMp P k Q
 | .halt _,_=>True
def Lst (es0 es:Array Event) (w w':World):Prop:=w.heap.size≤w'.heap.size∧(∀x ∈ es,x ∈ es0∨ue w'.heap.size x)∧∀d,deafBehind d es=deafBehind d es0
theorem Lst.refl (es:Array Event) (w w':World) (h:w.heap.size≤w'.heap.size):Lst es es w w':=⟨h,fun _ he=>.inl he,fun _=>rfl⟩
theorem Lst.trans {es0 es1 es2:Array Event} {w0 w1 w2:World} (h:Lst es0 es1 w0 w1) (k:Lst es1 es2 w1 w2):Lst es0 es2 w0 w2:=⟨Nat.le_trans h.1 k.1,fun e he=>(k.2.1 e he).elim (fun he=>(h.2.1 e he).elim .inl fun x=>.inr (x.up k.1)) .inr,fun d=>(k.2.2 d).trans (h.2.2 d)⟩
theorem deaf_push (d:Nat) (es:Array Event) (e:Event):deafBehind d (es.push e)=deafBehind (deafBehind d es) #[e]:=by
 unfold deafBehind
 simp
theorem wL (d:Nat) (es l:Array Event):deafBehind d (es++l)=deafBehind (deafBehind d es) l:=by
 unfold deafBehind
 simp
theorem Lst.push {es:Array Event} {w w':World} (h:w.heap.size≤w'.heap.size) {e:Event} (he:ue w'.heap.size e) (hm:∀d,deafBehind d #[e]=d):Lst es (es.push e) w w':=⟨h,fun x hx=>by
 rcases Array.mem_push.1 hx with hx | rfl
 ·exact .inl hx
 ·exact .inr he,fun d=>by rw[deaf_push,hm]⟩
theorem Lst.cells {es:Array Event} {w w':World} (h:w.heap.size≤w'.heap.size) (l:List Addr) (wr sy:Bool) (hl:∀x ∈ l,x.block<w'.heap.size):Lst es (es++l.toArray.map (⟨.cell ·,wr,sy⟩)) w w':=⟨h,fun x hx=>by
 rcases Array.mem_append.1 hx with hx | hx
 ·exact .inl hx
 ·obtain ⟨a,ha,rfl⟩:=Array.mem_map.1 hx
  exact .inr (show a.block<_ from hl a (by simpa using ha)),fun d=>by
 rw[wL]
 generalize deafBehind d es=c
 unfold deafBehind
 simp only[List.map_toArray,List.size_toArray,List.length_map,List.foldl_toArray']
 clear hl
 induction l with
 | nil=>rfl
 | cons a l ih=>simpa using ih⟩
def pg:Halt→Bool
 | .panic _ | .goexit | .fatal _ | .throw _=>true
 | _=>false
def Gr {α:Type} (P:Program) (s:Sem α) (Q:α→Prop):Prop:=∀w es0,match s.runT P w es0 with
 | (.ok a w',es)=>Q a∧Lst es0 es w w'
 | (.halt h w',es)=>w.heap.size≤w'.heap.size∧(pg h=true→Lst es0 es w w')
theorem cT {α:Type} {P:Program} {s:Sem α} {Q:α→Prop} {w w1:World} {es0 es1:Array Event} (l:Lst es0 es1 w w1) (h:match s.runT P w1 es1 with
 | (.ok a w',es)=>Q a∧Lst es1 es w1 w'
 | (.halt h w',es)=>w1.heap.size≤w'.heap.size∧(pg h=true→Lst es1 es w1 w')):match s.runT P w1 es1 with
 | (.ok a w',es)=>Q a∧Lst es0 es w w'
 | (.halt h w',es)=>w.heap.size≤w'.heap.size∧(pg h=true→Lst es0 es w w'):=by
 revert h
 cases s.runT P w1 es1 with
 | mk r es=>cases r with
  | ok a w'=>exact fun h=>⟨h.1,l.trans h.2⟩
  | halt x w'=>exact fun h=>⟨Nat.le_trans l.1 h.1,fun e=>l.trans (h.2 e)⟩
theorem hl {x:Halt} {es0:Array Event} {w:World}:w.heap.size≤w.heap.size∧(pg x=true→Lst es0 es0 w w):=⟨Nat.le_refl _,fun _=>Lst.refl _ _ _ (Nat.le_refl _)⟩
theorem oh {α:Type} {P:Program} {Q:α→Prop} (s:Sem α):NMp P s Q→Gr P s Q:=by
 induction s with
 | pure a=>exact fun h w es0=>⟨h,Lst.refl _ _ _ (Nat.le_refl _)⟩
 | load m a k ih =>
  intro h w es0
  unfold Sem.runT
  cases hc:w.cell? a with
  | some v=>exact cT (Lst.push (Nat.le_refl _) (uI hc) fun _=>rfl) (ih v (h v) w _)
  | none =>
   cases hf:w.farLoad P a (m==Mode.atomic) with
   | ok r=>exact cT (Lst.cells (Nat.le_refl _) r.2 _ _ (vH (v:=r.1) (l:=r.2) hf)) (ih r.1 (h r.1) w _)
   | error x=>exact hl
 | store m a v k ih =>
  intro h w es0
  have key:match (match w.cell? a with
   | some _ => if w.frozen? a then (Result.halt (.unsupported (.unsafePointer "a write to bytes that a string shares")) w, es0) else k.runT P (w.setCell a v) (es0.push ⟨.cell a, true, m == Mode.atomic⟩)
   | none=>match w.farStore P a v (m==Mode.atomic) with
    | .ok (w,touched)=>k.runT P w (es0++touched.toArray.map fun x=>(⟨.cell x,true,m==Mode.atomic⟩:Event))
    | .error h=>(.halt h w,es0)) with
   | (.ok a w',es)=>Q a∧Lst es0 es w w'
   | (.halt h w',es)=>w.heap.size≤w'.heap.size∧(pg h=true→Lst es0 es w w'):=by
   cases hc:w.cell? a with
   | some v0 =>
    dsimp only
    by_cases hz:w.frozen? a=true
    ·rw[if_pos hz]
     exact hl
    ·rw[if_neg hz]
     exact cT (Lst.push (by rw[size_set];exact Nat.le_refl _) (by rw[size_set];exact uI hc) fun _=>rfl) (ih h _ _)
   | none =>
    dsimp only
    cases hf:w.farStore P a v (m==Mode.atomic) with
    | ok r =>
     obtain ⟨w1,l⟩:=r
     obtain ⟨h1,h2⟩:=lK hf
     exact cT (Lst.cells (by rw[h1];exact Nat.le_refl _) l _ _ (by rw[h1];exact h2)) (ih h _ _)
    | error x=>exact hl
  cases v <;> first
   | exact key
   | exact hl
 | new o k ih=>exact fun h w es0=>cT (w1:={ w with heap:=w.heap.push o }) (Lst.refl _ _ _ (by simp)) (ih _ (h _) _ _)
 | shape r k ih=>exact fun h w es0=>ih _ (h _) w _
 | freeze a n k ih=>exact fun h w es0=>cT (w1:=w.freeze a n) (Lst.refl _ _ _ (by rw[nT];exact Nat.le_refl _)) (ih h _ _)
 | frozen a k ih=>exact fun h w es0=>ih _ (h _) w _
 | getObj r k ih =>
  intro h w es0
  unfold Sem.runT
  cases hc:w.heap[r]? with
  | none=>exact hl
  | some o =>
   have hl':=(Array.getElem?_eq_some_iff.1 hc).1
   cases o <;> first
    | exact hl
    | exact cT (Lst.push (Nat.le_refl _) hl' fun _=>rfl) (ih _ (h _) w _)
 | setObj r o k ih =>
  intro h w es0
  unfold Sem.runT
  cases hc:w.heap[r]? with
  | none=>exact hl
  | some o2 =>
   have hl':=(Array.getElem?_eq_some_iff.1 hc).1
   cases o2 <;> first
    | exact hl
    | exact cT (w1:={ w with heap:=w.heap.setIfInBounds r o }) (Lst.push (by simp) (by simpa [ue] using hl') fun _=>rfl) (ih h _ _)
 | choose q k ih =>
  intro h w es0
  unfold Sem.runT
  by_cases hz:q.forced=true
  ·rw[if_pos hz]
   exact ih _ (h _) w _
  ·rw[if_neg hz]
   exact cT (w1:={ w with drawn:=w.drawn+1 }) (Lst.refl _ _ _ (Nat.le_refl _)) (ih _ (h _) _ _)
 | sys c k ih =>
  intro h w es0
  exact cT (w1:=(w.sys c).2) (Lst.push (by rw[uX];exact Nat.le_refl _) trivial fun _=>rfl) (ih _ (h _) _ _)
 | program k ih=>exact fun h w es0=>ih P h w _
 | mark m k ih =>
  intro h w es0
  obtain ⟨hm,hk⟩:=h
  unfold Sem.runT
  refine cT (w1:=w) (Lst.push (e:=⟨.mark m,false,true⟩) (Nat.le_refl _) ⟨Or.inl hm,rfl⟩ fun d=>?_) (ih hk w (es0.push ⟨.mark m,false,true⟩))
  rcases hm with rfl | ⟨f,rfl⟩ <;> rfl
 | halt x=>exact fun _ w es0=>hl
theorem bR {α β:Type} {P:Program} {s:Sem α} {f:α→Sem β} {Q:α→Prop} {R:β→Prop} (h:Gr P s Q) (hf:∀a,Q a→Gr P (f a) R):Gr P (s >>= f) R:=fun w es0=>by
 have e:(s >>= f).runT P w es0=_:=Sem.runT_bind' P s f w es0
 have h1:=h w es0
 rw[e]
 revert h1
 cases s.runT P w es0 with
 | mk r es=>cases r with
  | ok a w'=>exact fun h1=>cT h1.2 (hf a h1.1 w' es)
  | halt x w'=>exact fun h1=>h1
end Nm
end Go.Proofs.YtgacaecjinlhiaaGreatDoor
