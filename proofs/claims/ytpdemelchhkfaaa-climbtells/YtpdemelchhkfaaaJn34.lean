import Derived.Conc.LeavingOf
import Derived.Test.YtpdemelchhkfaaaJn33
namespace Go.Proofs.Ytpdemelchhkfaaa
section
open Go.RowKit PK
namespace Jm
noncomputable def ov (F:K→Int) (seed t:Nat):K:=up F (bgK ((seed+t) % 18446744073709551616) 25)
noncomputable def best (F:K→Int) (seed:Nat):Nat→Nat→Int
 | 0=>fun _=>0
 | m+1=>if m=0∨F (ov F seed m) > best F seed m 26 then clF (Pm.up (ov F seed m)) (F (ov F seed m)) m else best F seed m
theorem ko (F:K→Int) (seed m:Nat):best F seed (m+1)=if m=0∨F (ov F seed m) > best F seed m 26 then clF (Pm.up (ov F seed m)) (F (ov F seed m)) m else best F seed m:=rfl
end Jm
set_option maxRecDepth 100000 in
set_option maxHeartbeats 8000000 in
theorem vW (s:ByteArray) (ta:Option Addr) (tc:Nat) (f:Nat→Int) (hz:cwE s.data.toList 676 f=0) (seed tries aj:Nat) (ht:1≤tries∧tries≤16) (hh:1≤aj∧aj≤16) (w:World) (hv:aX w (.slice ta 676 tc) 676 f):Calls Try.prog 14 #[.string s,.slice ta 676 tc,.int .u64 (seed:Nat),.int .i64 (tries:Nat),.int .i64 (aj:Nat)] w fun e w'=>e=.returned (.tuple #[.agg (ints 28 (Jm.best (sc s f) seed tries)),.int .i64 0])∧Below w.heap.size w w':=by
 obtain ⟨hz1,hz2,_,hz4⟩:=dU hz
 have hls:=(ki hz1).1
 have hsl:s.size≤256:=by have:=Pl.bY s;omega
 have HCW:Hid (∀W,Below w.heap.size w W→Calls Try.prog 32 #[.string s,.slice ta 676 tc] W fun e w'=>e=.returned (.int .i64 0)∧Below W.heap.size W w'):=fun W h=>by
  have:=oE s (.slice ta 676 tc) 676 f W (hv.below h)
  rw[hz] at this
  exact this
 have HOF0:Hid (zR w s ta 676 tc (sc s f)):=⟨fun k hk=>xw hls hsl hz4 hk,fun k k' h=>yb hls f h,fun W k h hk=>uu s hls hsl (.slice ta 676 tc) f hz4 k hk W (hv.below h)⟩
 obtain ⟨F,hF⟩:∃F:(Nat→Nat)→Int,F=sc s f:=⟨_,rfl⟩
 have HOF:Hid (zR w s ta 676 tc F):=by rw[hF];exact HOF0
 rw[←hF]
 clear hz1 hz2 hz4 hls hsl hz hF HOF0 hv
 have HOFB:Hid (∀W,Below w.heap.size w W→zR W s ta 676 tc F):=fun W hb=>⟨HOF.out.le,HOF.out.congr,fun V k hV hk=>HOF.out.call V k (hb.trans (hV.mono hb.size)) hk⟩
 have hr0:=ai.new w 43 (ints 28 fun _=>0)
 have hb0:Below w.heap.size w (w.alloc (.cells (ints 28 fun _=>0) 43)):=(Below.refl _ w).alloc (Nat.le_refl _) _
 have i1:decide ((tries:Int)<1)=false:=by simp;omega
 have i2:decide ((16:Int)<(tries:Int))=false:=by simp;omega
 have i3:decide ((aj:Int)<1)=false:=by simp;omega
 have i4:decide ((16:Int)<(aj:Int))=false:=by simp;omega
 have HT:=(show Hid (1≤tries∧tries≤16) from ht)
 clear ht hh
 go_enter Try.func14,Try.ntmps14
 go_wp2_with fail
 rw[j9]
 obtain ⟨V0,hV0⟩:∃V,V=w.alloc (.cells (ints 28 fun _=>0) 43):=⟨_,rfl⟩
 rw[←hV0] at hr0 hb0 ⊢
 clear hV0
 refine (HCW.out V0 hb0).mono ?_
 rintro e V1 ⟨rfl,hb1⟩
 have hr1:=hr0.below hb1 hr0.lt
 have hb2:=hb0.trans (hb1.mono hb0.size)
 clear hr0 hb0 hb1 HCW
 have hq:=ai.new V1 43 (ints 28 fun _=>0)
 have hqn:w.heap.size<V1.heap.size:=hr1.lt
 have hr2:=hr1.alloc (.cells (ints 28 fun _=>0) 43)
 have hb3:=hb2.alloc hb2.size (.cells (ints 28 fun _=>0) 43)
 go_wp2_with fail
 try rw[j9]
 obtain ⟨V2,hV2⟩:∃V,V=V1.alloc (.cells (ints 28 fun _=>0) 43):=⟨_,rfl⟩
 rw[←hV2] at hq hr2 hb3 ⊢
 obtain ⟨q,hqq⟩:∃q,q=V1.heap.size:=⟨_,rfl⟩
 rw[←hqq] at hq hqn ⊢
 clear hV2 hqq hr1 hb2
 go_loopw [14] (fun x W=>∃m:Nat,m≤tries∧x=.int .i64 (m:Nat)∧ai W w.heap.size 43 (ints 28 fun _=>0)∧ai W q 43 (ints 28 (Jm.best F seed m))∧Below w.heap.size w W) (fun x _=>((tries:Int)-intOf x).toNat)
 case atStart=>exact ⟨0,by omega,rfl,hr2,hq,hb3⟩
 case round =>
  clear hq hr2 hb3
  obtain ⟨m,hm,rfl,hr,hq,hb⟩:=hrel
  by_cases hlt:m<tries
  case neg =>
   obtain rfl:m=tries:=by omega
   have HB:=(show Hid _ from hb)
   obtain ⟨B,hB⟩:∃B,B=Jm.best F seed m:=⟨_,rfl⟩
   have HBB:=(show Hid (B=Jm.best F seed m) from hB)
   rw[←hB] at hq
   clear hb hlt hm hB
   go_wp2_with (first | refine wpList_load_row rfl 43 _ rfl (q) rfl 43 (ints 28 (B)) (0,0) _ hq Try.underlying43 rfl (by rw[af];exact bk) ?_ | refine wpList_store_row rfl 43 _ _ rfl (w.heap.size) (ints 28 (B)) rfl rfl 43 _ hr (by rw[af];exact bk) (by simp only[af]) (aH _ _) ?_)
   exact bodyPost_ret (v:=.tuple #[.agg (ints 28 B),.int .i64 0]) (aL rfl _ _ w.heap.size 43 _ (0,0) _ _ rfl rfl (hr.row _) Try.underlying43 rfl (by rw[af];exact bk)) rfl ⟨by rw[HBB.out],Below.setRow HB.out _ (Nat.le_refl _) _⟩
  have HLT:Hid (m<tries):=hlt
  have hm16:m≤16:=by have:=HT.out;omega
  have HS0:=(show Hid (ai wr w.heap.size 43 (ints 28 fun _=>0)∧ai wr q 43 (ints 28 (Jm.best F seed m))∧Below w.heap.size w wr) from ⟨hr,hq,hb⟩)
  clear hr hq hb hm
  go_wp2_with fail
  refine (sC seed m hm16 wr).mono ?_
  rintro e W1 ⟨rfl,hb1⟩
  have HB1:=(show Hid _ from HS0.out.2.2.trans (hb1.mono HS0.out.2.2.size))
  obtain ⟨K0,hK0⟩:∃K0,K0=Jm.bgK ((seed+m) % 18446744073709551616) 25:=⟨_,rfl⟩
  have HK0:=(show Hid (K0=Jm.bgK ((seed+m) % 18446744073709551616) 25) from hK0)
  have HKL0:=(show Hid (∀i,i<26→K0 i<26) from (by rw[hK0];exact Jm.j5 _ 25 (Nat.le_refl _)))
  rw[←hK0]
  clear hK0
  go_wp2_with fail
  refine (zB s ta 676 tc F K0 HKL0.out W1 (HOFB.out W1 HB1.out)).mono ?_
  rintro e W2 ⟨k,hups,rfl,hb2⟩
  have HKT:=(show Hid (Jm.ov F seed m=k) from (by show Jm.ov F seed m=k;unfold Jm.ov;rw[←HK0.out];exact hups.up))
  have hbb:=hb1.trans (hb2.mono hb1.size)
  have hr2:=ai.below HS0.out.1 hbb (ai.lt HS0.out.1)
  have hq2:=ai.below HS0.out.2.1 hbb (ai.lt HS0.out.2.1)
  have hB2:=HS0.out.2.2.trans (hbb.mono HS0.out.2.2.size)
  have HKL:=(show Hid (∀i,i<26→k i<26) from hups.ind (Q:=fun k=>∀i,i<26→k i<26) HKL0.out fun key a b h hab hb=>Jm.kN h (by omega) hb)
  have hn0:=ai.new W2 38 (ints 26 fun _=>0)
  have hbn:=Below.setRow ((Below.refl W2.heap.size W2).alloc (Nat.le_refl _) (.cells (ints 26 fun _=>0) 38)) W2.heap.size (Nat.le_refl _) (ints 26 (Pm.up k))
  have hn:=hn0.row (ints 26 (Pm.up k))
  have hr3:=hr2.below hbn hr2.lt
  have hq3:=hq2.below hbn hq2.lt
  have hB3:=hB2.trans (hbn.mono hB2.size)
  clear HS0 HB1 HK0 HKL0 hb1 hb2 hbb hups hr2 hq2 hB2 hbn
  go_wp2_with (first | refine wpList_store_row rfl 38 _ _ rfl (W2.heap.size) (ints 26 (Pm.up k)) rfl rfl 38 _ hn0 (by rw[af];exact an) (by simp only[af]) (aH _ _) ?_ | refine wpList_load_row rfl 38 _ rfl (W2.heap.size) rfl 38 (ints 26 (Pm.up k)) (0,0) _ hn Try.underlying38 rfl (by rw[af];exact an) ?_)
  try rw[dh]
  obtain ⟨W3,hW3⟩:∃V,V=(W2.alloc (.cells (ints 26 fun _=>0) 38)).setRow W2.heap.size (ints 26 (Pm.up k)):=⟨_,rfl⟩
  rw[←hW3] at hn hr3 hq3 hB3 ⊢
  obtain ⟨p,hp⟩:∃p,p=W2.heap.size:=⟨_,rfl⟩
  rw[←hp] at hn ⊢
  clear hW3 hp hn0
  refine (HOF.out.call W3 k hB3 HKL.out).mono ?_
  rintro e W4 ⟨rfl,hb4⟩
  have hn4:=hn.below hb4 hn.lt
  have hr4:=hr3.below hb4 hr3.lt
  have hq4:=hq3.below hb4 hq3.lt
  have HB4:=(show Hid _ from hB3.trans (hb4.mono hB3.size))
  have HSU:=(show Hid _ from Jm.ko F seed m)
  rw[HKT.out] at HSU
  obtain ⟨z,hz⟩:∃z,z=F k:=⟨_,rfl⟩
  rw[←hz] at HSU ⊢
  obtain ⟨B,hB⟩:∃B,B=Jm.best F seed m:=⟨_,rfl⟩
  rw[←hB] at HSU hq4
  have HFIN:=(show Hid (ai (W4.setRow q (ints 28 (clF (Pm.up k) z m))) w.heap.size 43 (ints 28 fun _=>0)∧ai (W4.setRow q (ints 28 (clF (Pm.up k) z m))) q 43 (ints 28 (clF (Pm.up k) z m))∧Below w.heap.size w (W4.setRow q (ints 28 (clF (Pm.up k) z m)))) from ⟨hr4.bI _ _ (by omega),hq4.row _,Below.setRow HB4.out _ (by omega) _⟩)
  have c26:=hq4.cell (aG B (show 26<28 by decide))
  have HR4:=(show Hid (ai W4 w.heap.size 43 (ints 28 fun _=>0)) from hr4)
  have HQ4:=(show Hid (ai W4 q 43 (ints 28 B)) from hq4)
  obtain ⟨y,hy⟩:∃y,y=B 26:=⟨_,rfl⟩
  rw[←hy] at HSU c26
  clear hn hr3 hq3 hB3 hb4 hr4 HKT HKL hz hB hy
  by_cases hm0:m=0
  ·have HNEW:=(show Hid _ from HSU.out.trans (if_pos (.inl hm0)))
   subst hm0
   clear HSU c26
   go_wp2_with (first | refine wpList_load_row rfl 38 _ rfl (p) rfl 38 (ints 26 (Pm.up k)) (0,0) _ hn4 Try.underlying38 rfl (by rw[af];exact an) ?_ | refine cS rfl 43 [(0,.tmp 62),(1,.tmp 63),(2,.tmp 64)] rfl [(0,.agg (ints 26 (Pm.up k))),(1,.int .i64 z),(2,.int .i64 0)] rfl _ (dx (Pm.up k) z 0) ?_ | refine wpList_store_row rfl 43 _ _ rfl (q) (ints 28 (clF (Pm.up k) z 0)) rfl rfl 43 _ hq4 (by rw[af];exact bk) (by simp only[af]) (aH _ _) ?_)
   go_roundw
   case rel=>exact ⟨0+1,HLT.out,by go_num,HFIN.out.1,by rw[HNEW.out];exact HFIN.out.2.1,HFIN.out.2.2⟩
   case measure=>have:=HLT.out;simp[intOf];omega
  by_cases hgt:z > y
  ·have HNEW:=(show Hid _ from HSU.out.trans (if_pos (.inr hgt)))
   have hgt2:decide (y<z)=true:=decide_eq_true hgt
   have hm1:decide ((m:Int)=0)=false:=decide_eq_false (by omega)
   clear HSU hgt
   go_wp2_with (first | refine wpList_load_row rfl 38 _ rfl (p) rfl 38 (ints 26 (Pm.up k)) (0,0) _ hn4 Try.underlying38 rfl (by rw[af];exact an) ?_ | refine cS rfl 43 [(0,.tmp 62),(1,.tmp 63),(2,.tmp 64)] rfl [(0,.agg (ints 26 (Pm.up k))),(1,.int .i64 z),(2,.int .i64 (m:Nat))] rfl _ (dx (Pm.up k) z m) ?_ | refine wpList_store_row rfl 43 _ _ rfl (q) (ints 28 (clF (Pm.up k) z m)) rfl rfl 43 _ hq4 (by rw[af];exact bk) (by simp only[af]) (aH _ _) ?_)
   go_roundw
   case rel=>exact ⟨m+1,HLT.out,by go_num,HFIN.out.1,by rw[HNEW.out];exact HFIN.out.2.1,HFIN.out.2.2⟩
   case measure=>have:=HLT.out;simp[intOf];omega
  ·have HNEW:=(show Hid _ from HSU.out.trans (if_neg (by omega)))
   have hgt2:decide (y<z)=false:=decide_eq_false (by omega)
   have hm1:decide ((m:Int)=0)=false:=decide_eq_false (by omega)
   clear HSU hgt
   go_wp2_with fail
   go_roundw
   case rel=>exact ⟨m+1,HLT.out,by go_num,HR4.out,by rw[HNEW.out];exact HQ4.out,HB4.out⟩
   case measure=>have:=HLT.out;simp[intOf];omega
end
section
open Go.RowKit PK
namespace Jm
theorem BU {F:(Nat→Nat)→Int} {key:Nat→Nat} (hk:∀i,i<26→key i<26):∀i,i<26→up F key i<26:=by
 unfold up
 split
 ·rename_i h
  exact h.choose_spec.ind (Q:=fun k=>∀i,i<26→k i<26) hk fun key a b h hab hb=>kN h (by omega) hb
 ·exact hk
end Jm
namespace Cs
theorem Cr (s:ByteArray) (f:Nat→Int) (seed t:Nat):∀i,i<26→kE s f seed t i<26:=Jm.BU (Jm.j5 _ 25 (Nat.le_refl _))
theorem oc {s:ByteArray} (hs:Vg.Ls s.data.toList) (hl:s.size≤256) {f:Nat→Int} (hf:∀i,i<676→-1000≤f i∧f i≤1000) (seed:Nat):∀m,bdF (bdE s f seed (m+1))=Jm.best (sc s f) seed (m+1)∧(bdE s f seed (m+1)).tr<((m+1:Nat):Int)∧0≤(bdE s f seed (m+1)).tr∧(bdE s f seed (m+1))=⟨kK s f seed (bdE s f seed (m+1)).tr.toNat,kZ s f seed (bdE s f seed (m+1)).tr.toNat,(bdE s f seed (m+1)).tr⟩
 | 0=>by
  have hz:(-9223372036854775808:Int)<kZ s f seed 0:=by
   have:=(xw hs hl hf (Cr s f seed 0)).1
   unfold kZ
   omega
  have e:bdE s f seed (0+1)=⟨kK s f seed 0,kZ s f seed 0,(0:Nat)⟩:=by
   show upB (kK s f seed) (kZ s f seed) bd0 0=_
   unfold upB
   rw[if_pos (.inl hz)]
  rw[e]
  exact ⟨by rw[Jm.ko,if_pos (.inl rfl)];rfl,by simp,by simp,rfl⟩
 | m+1=>by
  obtain ⟨i1,i2,i3,i4⟩:=oc hs hl hf seed m
  have e:bdE s f seed (m+1+1)=upB (kK s f seed) (kZ s f seed) (bdE s f seed (m+1)) (m+1):=by
   unfold bdE
   rw[List.range_succ,List.foldl_append]
   rfl
  have e26:Jm.best (sc s f) seed (m+1) 26=(bdE s f seed (m+1)).sc:=by rw[←i1];rfl
  generalize bdE s f seed (m+1)=b at *
  rw[e]
  unfold upB
  rw[Jm.ko,e26]
  by_cases h:b.sc<kZ s f seed (m+1)
  ·rw[if_pos (.inl h),if_pos (.inr h)]
   refine ⟨rfl,?_,?_,?_⟩
   ·show ((m+1:Nat):Int)<((m+1+1:Nat):Int)
    omega
   ·show (0:Int)≤((m+1:Nat):Int)
    omega
   ·show _=(⟨kK s f seed ((m+1:Nat):Int).toNat,kZ s f seed ((m+1:Nat):Int).toNat,_⟩:Bd)
    rw[Int.toNat_natCast]
  ·rw[if_neg (by omega),if_neg (by rintro (h2 | h2);omega;exact h h2)]
   exact ⟨i1,by omega,i3,i4⟩
end Cs
set_option maxRecDepth 100000 in
set_option maxHeartbeats 8000000 in
theorem rm (s:ByteArray) (ta:Option Addr) (tn tc seed:Nat) (tries aj:Int) (f:Nat→Int) (hE:ceE s.data.toList tn f tries aj≠0) (w:World) (hv:aX w (.slice ta tn tc) tn f) :
  Calls Try.prog 14 #[.string s,.slice ta tn tc,.int .u64 (seed:Nat),.int .i64 tries,.int .i64 aj] w fun e w'=>e=.returned (.tuple #[.agg (ints 28 fun _=>0),.int .i64 (ceE s.data.toList tn f tries aj)])∧Below w.heap.size w w':=by
 have HC:Hid (∀W,Below w.heap.size w W→Calls Try.prog 32 #[.string s,.slice ta tn tc] W fun e w'=>e=.returned (.int .i64 (cwE s.data.toList tn f))∧Below W.heap.size W w'):=fun W hW=>oE s (.slice ta tn tc) tn f W (hv.below hW)
 have HEE:Hid (ceE s.data.toList tn f tries aj=if cwE s.data.toList tn f≠0 then cwE s.data.toList tn f else if tries<1∨16<tries∨aj<1∨16<aj then 3 else 0):=rfl
 generalize ceE s.data.toList tn f tries aj=CE at *
 generalize cwE s.data.toList tn f=FE at *
 clear hv
 have hx3:=ai.new w 43 (ints 28 fun _=>0)
 have hbl:=(Below.refl w.heap.size w).alloc (Nat.le_refl _) (.cells (ints 28 fun _=>0) 43)
 go_enter Try.func14,Try.ntmps14
 go_upto_region 1 with fail
 rw[j9]
 generalize w.alloc (.cells (ints 28 fun _=>0) 43)=W1 at *
 go_wp2_with fail
 refine Calls.mono (HC.out _ hbl) ?_
 rintro e Y ⟨rfl,hY⟩
 clear HC
 have HX5:=(show Hid (ai Y w.heap.size 43 (ints 28 fun _=>0)) from hx3.below hY hx3.lt)
 have HY:Hid (Below w.heap.size w Y):=hbl.trans (hY.mono hbl.size)
 clear hx3 hbl hY
 by_cases h0:FE=0
 ·subst h0
  have hor:tries<1∨16<tries∨aj<1∨16<aj:=by
   refine Classical.byContradiction fun hn=>hE ?_
   rw[HEE.out,if_neg (by simp),if_neg hn]
  have HX:Hid (CE=3):=HEE.out.trans ((if_neg (by simp)).trans (if_pos hor))
  clear HEE hE
  by_cases a1:tries<1
  ·have da1:decide (tries<1)=true:=decide_eq_true a1
   clear hor
   go_wp2_with (first | refine bF rfl 43 rfl (ints 28 fun _=>0) cA ?_ | refine wpList_store_row rfl 43 _ _ rfl w.heap.size (ints 28 fun _=>0) rfl rfl 43 _ HX5.out (by rw[af];exact aT) (by simp only[af]) (aH _ _) ?_)
   exact bodyPost_ret (v:=.tuple #[.agg (ints 28 fun _=>0),.int .i64 3]) (aL rfl _ _ w.heap.size 43 _ (0,0) _ _ rfl rfl (HX5.out.row _) Try.underlying43 rfl (by rw[af];exact aT)) rfl ⟨by rw[HX.out],Below.setRow HY.out _ (Nat.le_refl _) _⟩
  ·by_cases a2:16<tries
   ·have da1:decide (tries<1)=false:=decide_eq_false a1
    have da2:decide (16<tries)=true:=decide_eq_true a2
    clear hor
    go_wp2_with (first | refine bF rfl 43 rfl (ints 28 fun _=>0) cA ?_ | refine wpList_store_row rfl 43 _ _ rfl w.heap.size (ints 28 fun _=>0) rfl rfl 43 _ HX5.out (by rw[af];exact aT) (by simp only[af]) (aH _ _) ?_)
    exact bodyPost_ret (v:=.tuple #[.agg (ints 28 fun _=>0),.int .i64 3]) (aL rfl _ _ w.heap.size 43 _ (0,0) _ _ rfl rfl (HX5.out.row _) Try.underlying43 rfl (by rw[af];exact aT)) rfl ⟨by rw[HX.out],Below.setRow HY.out _ (Nat.le_refl _) _⟩
   ·by_cases a3:aj<1
    ·have da1:decide (tries<1)=false:=decide_eq_false a1
     have da2:decide (16<tries)=false:=decide_eq_false a2
     have da3:decide (aj<1)=true:=decide_eq_true a3
     clear hor
     go_wp2_with (first | refine bF rfl 43 rfl (ints 28 fun _=>0) cA ?_ | refine wpList_store_row rfl 43 _ _ rfl w.heap.size (ints 28 fun _=>0) rfl rfl 43 _ HX5.out (by rw[af];exact aT) (by simp only[af]) (aH _ _) ?_)
     exact bodyPost_ret (v:=.tuple #[.agg (ints 28 fun _=>0),.int .i64 3]) (aL rfl _ _ w.heap.size 43 _ (0,0) _ _ rfl rfl (HX5.out.row _) Try.underlying43 rfl (by rw[af];exact aT)) rfl ⟨by rw[HX.out],Below.setRow HY.out _ (Nat.le_refl _) _⟩
    ·have a4:16<aj:=by omega
     have da1:decide (tries<1)=false:=decide_eq_false a1
     have da2:decide (16<tries)=false:=decide_eq_false a2
     have da3:decide (aj<1)=false:=decide_eq_false a3
     have da4:decide (16<aj)=true:=decide_eq_true a4
     clear hor
     go_wp2_with (first | refine bF rfl 43 rfl (ints 28 fun _=>0) cA ?_ | refine wpList_store_row rfl 43 _ _ rfl w.heap.size (ints 28 fun _=>0) rfl rfl 43 _ HX5.out (by rw[af];exact aT) (by simp only[af]) (aH _ _) ?_)
     exact bodyPost_ret (v:=.tuple #[.agg (ints 28 fun _=>0),.int .i64 3]) (aL rfl _ _ w.heap.size 43 _ (0,0) _ _ rfl rfl (HX5.out.row _) Try.underlying43 rfl (by rw[af];exact aT)) rfl ⟨by rw[HX.out],Below.setRow HY.out _ (Nat.le_refl _) _⟩
 ·have HX:Hid (CE=FE):=HEE.out.trans (if_pos h0)
  have hb0:(FE != 0)=true:=by simpa using h0
  clear HEE hE
  go_wp2_with (first | refine bF rfl 43 rfl (ints 28 fun _=>0) cA ?_ | refine wpList_store_row rfl 43 _ _ rfl w.heap.size (ints 28 fun _=>0) rfl rfl 43 _ HX5.out (by rw[af];exact aT) (by simp only[af]) (aH _ _) ?_)
  exact bodyPost_ret (v:=.tuple #[.agg (ints 28 fun _=>0),.int .i64 FE]) (aL rfl _ _ w.heap.size 43 _ (0,0) _ _ rfl rfl (HX5.out.row _) Try.underlying43 rfl (by rw[af];exact aT)) rfl ⟨by rw[HX.out],Below.setRow HY.out _ (Nat.le_refl _) _⟩
theorem sF (s:ByteArray) (v:Value) (n seed:Nat) (tries aj:Int) (f:Nat→Int) (w:World) (hv:aX w v n f) :
  Calls Try.prog 14 #[.string s,v,.int .u64 (seed:Nat),.int .i64 tries,.int .i64 aj] w fun e w'=>e=.returned (Cs.ceV s n f seed tries aj)∧Below w.heap.size w w':=by
 obtain ⟨av,cv,rfl,nv,kv⟩:=id hv
 by_cases hE:ceE s.data.toList n f tries aj=0
 ·obtain ⟨hcw,ht,hh⟩:=Cs.qU hE
  obtain ⟨hc0,hl,rfl,hf⟩:=dU hcw
  have hs:=(ki hc0).1
  have hl2:s.size≤256:=by have:=Pl.bY s;omega
  obtain ⟨tr,rfl⟩:∃tr:Nat,tries=((tr+1:Nat):Int):=⟨(tries-1).toNat,by omega⟩
  obtain ⟨hd,rfl⟩:∃hd:Nat,aj=(hd:Nat):=⟨aj.toNat,by omega⟩
  refine (vW s av cv f hcw seed (tr+1) hd (by omega) (by omega) w hv).mono ?_
  rintro e w' ⟨rfl,hb⟩
  refine ⟨?_,hb⟩
  rw[Cs.ceV,if_pos hE,Int.toNat_natCast,(Cs.oc hs hl2 hf seed tr).1]
 ·refine (rm s av n cv seed tries aj f hE w hv).mono ?_
  rintro e w' ⟨rfl,hb⟩
  exact ⟨by rw[Cs.ceV,if_neg hE],hb⟩
end
section
open Go.RowKit PK
theorem xQ {P:Program} {ops:Array Oper} {Q:Exit→Act→World→Prop} {a:Act} {w:World} (k n:Nat) (hn:n=ops.size-k) (h:wpList P ops Q (ops.toList.drop k) a w):wpOps P ops Q (List.range' k n) a w:=by
 have e:=wpOps_eq_wpList (P:=P) (ops:=ops) (Q:=Q) (ops.toList.drop k) k (fun j=>by simp[List.getElem?_drop])
 rw[show (ops.toList.drop k).length=n by simp[hn]] at e
 rw[e]
 exact h
theorem oB:(Try.prog).stoodInHeld 43=false:=by kernel_rfl
theorem zE (F:Nat→Int) (w:World) (d:Nat):(Op.equalIn (d+3) 43 (.agg (ints 28 F)) (.agg (ints 28 F))).run Try.prog w=.ok true w:=by
 have hs:(sizeOf 38).run Try.prog w=.ok 26 w:=by
  obtain ⟨i,hi,hz⟩:=Option.map_eq_some_iff.1 an
  simp[sizeOf,typeInfo,hi,hz]
 have e0:∀z:Int,(Op.equalIn (d+2) 3 (.int .i64 z) (.int .i64 z)).run Try.prog w=.ok true w:=fun z=>by
  rw[Op.equalIn]
  simp[Sem.run_bind,run_underlying Try.underlying3]
 have e2:(Op.equalIn (d+2) 38 (.agg (ints 26 F)) (.agg (ints 26 F))).run Try.prog w=.ok true w:=by
  have:=fQ (P:=Try.prog) w d 38 3 26 Try.underlying38 Try.underlying3 fS F F
  rw[pZ] at this
  exact this
 have c0:(ints 28 F)[26]? = some (.int .i64 (F 26)):=aG F (by decide)
 have c1:(ints 28 F)[27]? = some (.int .i64 (F 27)):=aG F (by decide)
 have c2':((ints 28 F).extract 0 26)=ints 26 F:=by
  apply Array.ext_getElem?
  intro j
  by_cases hj:j<26
  ·rw[aG _ hj,Array.getElem?_extract,if_pos (by rw[af];omega),aG _ (by omega)]
   rw[show 0+j=j by omega]
  ·rw[Array.getElem?_eq_none (by simp[af];omega),Array.getElem?_eq_none (by simp[af];omega)]
 have hh:=oB
 generalize ints 28 F=cs at *
 generalize ints 26 F=c2 at *
 have hS:Try.prog.underlying 43=some (.struct (Try.prog.fieldsOf 43)):=by kernel_rfl
 rw[run_equalIn_struct w (d+2) 43 _ _ hS hh]
 simp only[Program.fieldsOf,Try.underlying43]
 clear hS hh
 go_simp
theorem mZ (F:Nat→Int) (w:World):(Op.equalIn 10000 43 (.agg (ints 28 F)) (.agg (ints 28 F))).run Try.prog w=.ok true w:=zE F w 9997
theorem qT (s:ByteArray) (n:Nat) (f:Nat→Int) (seed:Nat) (tries aj:Int):∃(F:Nat→Int) (e:Int),Cs.ceV s n f seed tries aj=.tuple #[.agg (ints 28 F),.int .i64 e]:=by
 unfold Cs.ceV
 split
 ·exact ⟨_,_,rfl⟩
 ·exact ⟨_,_,rfl⟩
noncomputable def Cs.kB:Code:=Try.f5.body.getD .skip
noncomputable def Cs.vp:Array Oper:=match Cs.cn 4 Cs.kB with | .seq (.region _ o _) _=>o | _=>#[]
def KfP (s:ByteArray) (ta:Option Addr) (tn tc seed:Nat) (tries aj:Int) (T:Array Value):Prop:=∃v:Nat→Value,T=#[.string s,.slice ta tn tc,v 2,.int .u64 (seed:Nat),.int .i64 tries,.int .i64 aj,v 6,v 7,v 8,v 9,v 10,v 11,v 12,v 13,v 14,v 15,v 16,v 17,v 18,v 19,v 20,v 21,v 22,v 23,v 24,v 25,v 26,v 27,v 28,v 29,v 30,v 31,v 32,v 33,v 34,v 35,v 36,v 37,v 38,v 39,v 40,v 41,v 42,v 43,v 44,v 45,v 46,v 47,v 48,v 49,v 50,v 51,v 52,v 53,v 54,v 55,v 56,v 57,v 58,v 59,v 60,v 61,v 62,v 63,v 64,v 65,v 66]
def KfE (s:ByteArray) (ta:Option Addr) (tn tc seed:Nat) (tries aj:Int) (e:Exit) (a:Act) (_:World):Prop:=e=.normal∧a.defers=[]∧KfP s ta tn tc seed tries aj a.tmps
set_option maxRecDepth 100000 in
set_option maxHeartbeats 4000000 in
theorem qY (s:ByteArray) (ta:Option Addr) (tn tc seed:Nat) (tries aj:Int) (f g:Nat→Int) (w:World) (hv:aX w (.slice ta tn tc) tn f) :
  (Cs.cutAt 4 Cs.kB).wp Try.prog (KfE s ta tn tc seed tries aj) ⟨#[.string s,.slice ta tn tc,.agg (ints 26 g),.int .u64 (seed:Nat),.int .i64 tries,.int .i64 aj,undef,undef,undef,undef,undef,undef,undef,undef,undef,undef,undef,undef,undef,undef,undef,undef,undef,undef,undef,undef,undef,undef,undef,undef,undef,undef,undef,undef,undef,undef,undef,undef,undef,undef,undef,undef,undef,undef,undef,undef,undef,undef,undef,undef,undef,undef,undef,undef,undef,undef,undef,undef,undef,undef,undef,undef,undef,undef,undef,undef,undef],[]⟩ w:=by
 have HS1:Hid (∀W,Below w.heap.size w W→Calls Try.prog 11 #[.string s,.slice ta tn tc,.agg (ints 26 g)] W fun e w'=>e=.returned (.tuple #[.int .i64 (gW s tn f g),.int .i64 (iO s tn f g)])∧Below W.heap.size W w'):=fun W hW=>yC s _ tn f g W (hv.below hW)
 have HS2:Hid (∀W,Below w.heap.size w W→Calls Try.prog 12 #[.string s,.slice ta tn tc,.agg (ints 26 g)] W fun e w'=>e=.returned (.tuple #[.int .i64 (gW s tn f g),.int .i64 (iO s tn f g)])∧Below W.heap.size W w'):=fun W hW=>sK s _ tn f g W (hv.below hW)
 generalize gW s tn f g=SN at *
 generalize iO s tn f g=SE at *
 clear hv
 have hx:=ai.new w 38 (ints 26 g)
 have hb:=(Below.refl w.heap.size w).alloc (Nat.le_refl _) (.cells (ints 26 g) 38)
 simp only[Cs.cutAt,Cs.kB,Try.f5,Option.getD_some]
 go_upto_region 1 with fail
 generalize w.alloc (.cells (ints 26 g) 38)=W1 at *
 go_wp2_with (first | refine wpList_load_row rfl 38 _ rfl w.heap.size rfl 38 (ints 26 g) (0,0) _ hx Try.underlying38 rfl (by rw[af];exact an) ?_)
 refine Calls.mono (HS1.out _ hb) ?_
 rintro e Y ⟨rfl,hY⟩
 have hx2:=hx.below hY hx.lt
 have hb2:=hb.trans (hY.mono hb.size)
 clear HS1 hx hb hY
 go_wp2_with (first | refine wpList_load_row rfl 38 _ rfl w.heap.size rfl 38 (ints 26 g) (0,0) _ hx2 Try.underlying38 rfl (by rw[af];exact an) ?_)
 refine Calls.mono (HS2.out _ hb2) ?_
 rintro e Z ⟨rfl,hZ⟩
 clear HS2 hx2 hb2 hZ
 go_wp2_with fail
 exact ⟨rfl,rfl,fun i=>([undef,undef,_,undef,undef,undef,_,_,_,_,_,_,_,_,_,_,_,_,_,_,_,_,_,_,_,_,_,_,_,_,_,_,_,_,_,_,_,_,_,_,_,_,_,_,_,_,_,_,_,_,_,_,_,_,_,_,_,_,_,_,_,_,_,_,_,_,_]:List Value).getD i undef,rfl⟩
set_option maxRecDepth 100000 in
set_option maxHeartbeats 4000000 in
theorem rO (j:Nat→Value) (s:ByteArray) (ta:Option Addr) (tn tc seed:Nat) (tries aj:Int) (f:Nat→Int) (w:World) (hv:aX w (.slice ta tn tc) tn f) :
  wpOps Try.prog Cs.vp (Exit.then ((Cs.cn 5 Cs.kB).wp Try.prog (bodyPost Try.prog Try.f5 (Cs.lS fun u _=>u=.bool true))) (bodyPost Try.prog Try.f5 (Cs.lS fun u _=>u=.bool true))) (List.range' 6 6) ⟨#[.string s,.slice ta tn tc,j 2,.int .u64 (seed:Nat),.int .i64 tries,.int .i64 aj,j 6,j 7,j 8,j 9,j 10,j 11,j 12,j 13,j 14,j 15,j 16,j 17,j 18,j 19,j 20,j 21,j 22,j 23,j 24,j 25,j 26,j 27,j 28,j 29,j 30,j 31,j 32,j 33,j 34,j 35,j 36,j 37,j 38,j 39,j 40,j 41,j 42,j 43,j 44,j 45,j 46,Cs.ceV s tn f seed tries aj,j 48,j 49,j 50,j 51,j 52,j 53,j 54,j 55,j 56,j 57,j 58,j 59,j 60,j 61,j 62,j 63,j 64,j 65,j 66],[]⟩ w:=by
 refine xQ 6 6 rfl ?_
 have HR:Hid (∀W,Below w.heap.size w W→Calls Try.prog 14 #[.string s,.slice ta tn tc,.int .u64 (seed:Nat),.int .i64 tries,.int .i64 aj] W fun e w'=>e=.returned (Cs.ceV s tn f seed tries aj)∧Below W.heap.size W w'):=fun W hW=>sF s _ tn seed tries aj f W (hv.below hW)
 obtain ⟨F,E,hV⟩:=qT s tn f seed tries aj
 rw[hV] at HR ⊢
 clear hV hv
 have he:=mZ F
 have hz:=lC (P:=Try.prog) (t:=43) (z:=.agg (ints 28 fun _=>0)) (by kernel_rfl)
 simp only[Cs.vp,Cs.kB,Cs.cn,Try.f5,Option.getD_some,List.drop]
 have hx0:=ai.new w 43 (ints 28 fun _=>0)
 have hb0:=(Below.refl w.heap.size w).alloc (Nat.le_refl _) (.cells (ints 28 fun _=>0) 43)
 go_upto_region 6 with (first | refine wpList_store_row rfl 43 _ _ rfl w.heap.size (ints 28 F) rfl rfl 43 _ hx0 (by rw[af];exact aT) (by simp only[af]) (aH _ _) ?_)
 have hx1:=hx0.row (ints 28 F)
 have hb1:=Below.setRow hb0 _ (Nat.le_refl _) (ints 28 F)
 generalize (w.alloc (.cells (ints 28 fun _=>0) 43)).setRow w.heap.size (ints 28 F)=W1 at *
 generalize w.heap.size=q1 at *
 go_wp2_with fail
 refine Calls.mono (HR.out _ hb1) ?_
 rintro e Y ⟨rfl,hY⟩
 have hx2:=(hx1.below hY hx1.lt).alloc (.cells (ints 28 fun _=>0) 43)
 have lt2:=(hx1.below hY hx1.lt).lt
 have hx3:=ai.new Y 43 (ints 28 fun _=>0)
 clear HR hx0 hb0 hx1 hb1 hY
 go_upto_region 7 with (first | refine wpList_store_row rfl 43 _ _ rfl Y.heap.size (ints 28 F) rfl rfl 43 _ hx3 (by rw[af];exact aT) (by simp only[af]) (aH _ _) ?_)
 have hx4:=hx3.row (ints 28 F)
 have hx5:=hx2.bI Y.heap.size (ints 28 F) (by omega)
 clear hx2 hx3 lt2
 generalize (Y.alloc (.cells (ints 28 fun _=>0) 43)).setRow Y.heap.size (ints 28 F)=W2 at *
 generalize Y.heap.size=q2 at *
 go_wp2_with (first | refine wpList_load_row rfl 43 _ rfl q1 rfl 43 (ints 28 F) (0,0) _ hx5 Try.underlying43 rfl (by rw[af];exact aT) ?_ | refine wpList_load_row rfl 43 _ rfl q2 rfl 43 (ints 28 F) (0,0) _ hx4 Try.underlying43 rfl (by rw[af];exact aT) ?_)
 refine ⟨rfl,.bool true,?_,_,rfl,rfl⟩
 simp[results,Array.mapM_eq_mapM_toList,List.mapM_cons]
end
namespace Cs
open Go.Conc PK Go.RowKit
section
variable {P:Program} {Sn:Nat→Prop} {gs:Array Goroutine} {t:Trace} {q:Nat→Nat} {size:Nat}
theorem Qs.AA (h:Qs P Sn gs t q 0 size):∃B0,∀B,B0≤B→Past (snL Sn) B t:=by
 obtain ⟨B0,hB0⟩:=we t
 refine ⟨B0,fun B hB=>⟨h.clean,fun i a ha _=>?_,fun i g hg0 hne hc=>?_,h.df,hB0 B hB⟩⟩
 ·obtain ⟨x,hx,hxa⟩:=touch_of ha
  by_cases hs:snL Sn a.loc
  ·obtain ⟨h1,h2⟩:=h.sn i x a hx hxa hs
   cases hk:a.kind with
   | plain=>exact absurd hk h1
   | said =>
    have:=knows_own hx
    rw[h2 hk] at this
    exact .inl this
   | atomic=>exact .inr ⟨hs,rfl⟩
  ·exact .inl (h.kn i x a hx hxa (.inl hs))
 ·obtain ⟨a,ha,_,hk⟩:=hc
  obtain ⟨x,hx,hxa⟩:=touch_of ha
  have hgx:x.g=g:=by
   rw[Trace.g?,hx] at hg0
   exact Option.some.inj hg0
  have hkn:Knows t 0 i:=by
   by_cases hs:snL Sn a.loc
   ·rcases hk with hk | hk
    ·obtain ⟨h1,h2⟩:=h.sn i x a hx hxa hs
     cases hk2:a.kind with
     | plain=>exact absurd hk2 h1
     | said=>exact absurd (hgx.symm.trans (h2 hk2)) hne
     | atomic=>exact absurd hk2 hk
    ·exact h.kn i x a hx hxa (.inr hk)
   ·exact h.kn i x a hx hxa (.inl hs)
  obtain ⟨j,z,h1,h2,h3⟩:=hkn
  refine ⟨j,by simp[Trace.g?,h1,h2],?_⟩
  rcases h3 with rfl | h3
  ·rw[hx] at h1
   cases h1
   exact absurd (hgx.symm.trans h2) hne
  ·exact h3
end
variable [Fns]
theorem oN {P:Program} {Sn:Nat→Prop} {Post:Value→World→Prop} (hG:P.globals.size≤Fns.G) (hC:bw P) {gs:Array Goroutine} {t:Trace} {q:Nat→Nat} {d:Nat} {g:Goroutine} {w:World} {sl:Option (Nat × Nat)} {c:List Frame} {E:Env} {gl:Goroutine} {wl:World} (hn:∀b x,E b=some x→¬Sn x.1) (hsn:∀b,Sn b→b<w.heap.size) (h0:gs[0]? = some g) (hin:bC P Post c E gl wl g w) (hq:Qs P Sn gs t q d w.heap.size) :
  ∃N gs' w' sl' t' q' E' gl' wl' g',runNT P N (crowd gs w sl) t=(.next (crowd gs' w' sl'),t')∧gs'.size=gs.size∧gs'[0]? = some g'∧bC P Post c E' gl' wl' g' w'∧Stop [aB P] gl'∧eg g'=eg g∧FC E E' w w'∧Qs P Sn gs' t' q' d w'.heap.size:=by
 have hnn:∀{E':Env} {w':World},FC E E' w w'→∀b x,E' b=some x→¬Sn x.1:=fun {E' w'} hf b x hx hs=>by
  obtain ⟨c,s,o⟩:=x
  rcases hf.fresh b c s o hx with h1 | ⟨h1,_⟩
  ·exact hn b _ h1 hs
  ·exact absurd (hsn c hs) (by omega)
 let Q:Nat→Goroutine→World→Prop:=fun d' g' w'=>d'=d∧∃E' gl' wl',bC P Post c E' gl' wl' g' w'∧Stop [aB P] gl'∧eg g'=eg g∧FC E E' w w'
 let I:Option { s:Gh // Acc (After P [aB P]) s }→Nat→Goroutine→World→Prop:=fun μ d' g' w'=>match μ with
  | some s=>d'=d∧∃E',bC P Post c E' s.1.1 s.1.2 g' w'∧eg g'=eg g∧FC E E' w w'
  | none=>False
 have fcAt:∀{E':Env} {w':World} (k:Nat),FC E E' w w'→FC E E' w (w'.at k):=fun k h=>⟨h.le,h.os,h.tape,h.output,h.size,h.keep,h.fresh⟩
 have fcAt':∀{E':Env} {w':World} (k:Nat),FC E E' w (w'.at k)→FC E E' w w':=fun k h=>⟨h.le,h.os,h.tape,h.output,h.size,h.keep,h.fresh⟩
 have a1:∀μ d' g' w' k,I μ d' g' w'→I μ d' g' (w'.at k):=fun μ d' g' w' k h=>by
  cases μ with
  | none=>exact h.elim
  | some s =>
   obtain ⟨h0,E',h1,h3,h2⟩:=h
   exact ⟨h0,E',h1.other fun _ _ _=>rfl,h3,fcAt k h2⟩
 have a2:∀d' g' w' k,Q d' g' (w'.at k)→Q d' g' w':=fun d' g' w' k h=>by
  obtain ⟨h1,E',gl',wl',k1,k2,k3,k4⟩:=h
  exact ⟨h1,E',gl',wl',k1.other fun _ _ _=>rfl,k2,k3,fcAt' k k4⟩
 have a3:∀μ d' g' w',I μ d' g' w'→g'.status=.running:=fun μ d' g' w' h=>by
  cases μ with
  | none=>exact h.elim
  | some s =>
   obtain ⟨_,E',h1,h3,h2⟩:=h
   exact h1.running
 have a4:∀μ d' g' w',I μ d' g' w'→Q d' g' w'∨∃g2 w2 es μ',stepG P true g' w'=.go g2 w2 es∧nE P μ' μ∧I μ' (deafBehind d' es) g2 w2∧w'.heap.size≤w2.heap.size∧∀e ∈ es,EvS Sn w2.heap.size e:=fun μ d' g' w' h=>by
  cases μ with
  | none=>exact h.elim
  | some s =>
   obtain ⟨rfl,E1,hin1,hl1,hf1⟩:=h
   by_cases hs:Stop [aB P] s.1.1
   ·exact .inl ⟨rfl,E1,_,_,hin1,hs,hl1,hf1⟩
   ·obtain ⟨E',gl',wl',g2,w2,es,hst,hin',haft,hev,hfc,hl2⟩:=hin1.zY hG hC true hs
    have hok:=fun e he=>od (Sn:=Sn) hin'.wr (hnn (hf1.trans hfc)) (hev e he)
    exact .inr ⟨g2,w2,es,some ⟨(gl',wl'),fL hin'.live⟩,hst,.on haft,⟨deafBehind_still (fun e he=>(hok e he).2) _,E',hin',hl2.trans hl1,hf1.trans hfc⟩,hfc.size,fun e he=>(hok e he).1⟩
 obtain ⟨N,gs',w',sl',t',q',d',g',h1,h2,h3,⟨rfl,E',gl',wl',k1,k2,k3,k4⟩,h5⟩:=jy (P:=P) (qI P) I Q a1 a2 a3 a4 (μ:=some ⟨(gl,wl),fL hin.live⟩) (sl:=sl) h0 ⟨rfl,E,hin,rfl,FC.refl E w⟩ hq
 exact ⟨N,gs',w',sl',t',q',E',gl',wl',g',h1,h2,h3,k1,k2,k3,k4,h5⟩
theorem Cd (E:Env) (g:Nat→Value):∃j:Nat→Value,∀i,VR E (j i) (g i):=⟨fun i=>(CX E (g i)).choose,fun i=>(CX E (g i)).choose_spec⟩
theorem pM {E:Env} {n:Nat} {f:Nat→Int}:LR E (ints n f) (ints n f):=by
 refine ⟨rfl,fun i a b ha hb=>?_⟩
 have hi:i<n:=by
  have:=(Array.getElem?_eq_some_iff.1 ha).1
  rwa [af] at this
 rw[aG f hi] at ha hb
 cases ha
 cases hb
 exact .int _ _
theorem yT {E:Env} {W:World} {a:Option Addr} {n c:Nat} {f:Nat→Int} {v u:Value} (h:VR E (.slice a n c) v) (h':VR E (.slice a n c) u) (hv:aX W v n f) (rv:Rt W v):aX W u n f∧Rt W u:=by
 by_cases hc:0<c∨0<n
 ·cases a with
  | none =>
   cases h
   cases h'
   ·exact ⟨hv,rv⟩
  | some ad =>
   have e:v=u:=by
    cases h with
    | bQ a b=>omega
    | slice l c ha =>
     cases h' with
     | bQ a b=>omega
     | slice l c hb =>
      rename_i b b'
      obtain ⟨b1,b2,b3⟩:=b
      obtain ⟨d1,d2,d3⟩:=b'
      obtain ⟨s,o,e1,e2,e3,_⟩:=ha
      obtain ⟨s',o',f1,f2,f3,_⟩:=hb
      dsimp only at e1 e2 e3 f1 f2 f3
      rw[e1] at f1
      cases f1
      subst e2 e3 f2 f3
      rfl
   subst e
   exact ⟨hv,rv⟩
 ·obtain rfl:c=0:=by omega
  obtain rfl:n=0:=by omega
  obtain ⟨av,cv,rfl,nv,kv⟩:=hv
  have hu:∃b,u=.slice b 0 0:=by
   cases h' <;> exact ⟨_,rfl⟩
  obtain ⟨b,rfl⟩:=hu
  exact ⟨⟨b,0,rfl,nv,fun c hc=>absurd hc (Nat.not_lt_zero _)⟩,fun a l c e hp=>by cases e;exact absurd hp (Nat.lt_irrefl _)⟩
end Cs
section
open Go.Conc
end
end Go.Proofs.Ytpdemelchhkfaaa
