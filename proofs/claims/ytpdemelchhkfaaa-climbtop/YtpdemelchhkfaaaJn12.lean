import Derived.Test.YtpdemelchhkfaaaJn11
namespace Go.Proofs.Ytpdemelchhkfaaa
section
open Go.RowKit PK
structure StS (w W:World) (pa:Option Addr) (n pc:Nat) (ta:Option Addr) (tn tc:Nat) (key best:Nat→Nat):Prop where
 sh:ai W w.heap.size 66 #[.slice pa n pc,.slice ta tn tc]
 ky:ai W (w.heap.size+1) 38 (ints 26 (Pm.up key))
 rs:ai W (w.heap.size+2) 38 (ints 26 fun _=>0)
 bs:ai W (w.heap.size+3) 38 (ints 26 (Pm.up best))
 be:Below w.heap.size w W
theorem StS.step {w W W':World} {pa:Option Addr} {n pc:Nat} {ta:Option Addr} {tn tc:Nat} {key best:Nat→Nat} (h:StS w W pa n pc ta tn tc key best) (hb:Below W.heap.size W W'):StS w W' pa n pc ta tn tc key best :=
 ⟨h.sh.below hb h.sh.lt,h.ky.below hb h.ky.lt,h.rs.below hb h.rs.lt,h.bs.below hb h.bs.lt,h.be.trans (hb.mono h.be.size)⟩
theorem StS.put {w W:World} {pa:Option Addr} {n pc:Nat} {ta:Option Addr} {tn tc:Nat} {key best:Nat→Nat} (h:StS w W pa n pc ta tn tc key best) (k:Nat→Nat):StS w (W.setRow (w.heap.size+3) (ints 26 (Pm.up k))) pa n pc ta tn tc key k :=
 ⟨h.sh.ck _ _ (by omega),h.ky.ck _ _ (by omega),h.rs.ck _ _ (by omega),h.bs.row _,Below.setRow h.be _ (by omega) _⟩
structure sF (w:World) (pa:Option Addr) (n pc:Nat) (ta:Option Addr) (tn tc:Nat) (F:(Nat→Nat)→Int):Prop where
 le:∀k:Nat→Nat,(∀i,i<26→k i<26)→-255000≤F k∧F k≤255000
 call:∀(W:World) (k:Nat→Nat),Below w.heap.size w W→(∀i,i<26→k i<26)→Calls Try.prog 31 #[.agg #[.slice pa n pc,.slice ta tn tc],.agg (ints 26 (Pm.up k))] W fun e w'=>e=.returned (.int .i64 (F k))∧Below W.heap.size W w'
theorem sF.below {w W:World} {pa:Option Addr} {n pc:Nat} {ta:Option Addr} {tn tc:Nat} {F:(Nat→Nat)→Int} (h:sF w pa n pc ta tn tc F) (hb:Below w.heap.size w W):sF W pa n pc ta tn tc F :=
 ⟨h.le,fun V k hV hk=>h.call V k (hb.trans (hV.mono hb.size)) hk⟩
theorem rZ (key:Nat→Nat) (a b:Nat) (hab:a≠b):((ints 26 (Pm.up key)).setIfInBounds a (.int .i64 (key b:Nat))).setIfInBounds b (.int .i64 (key a:Nat))=ints 26 (Pm.up (Jm.sw key a b)):=by
 rw[ints_set,ints_set]
 refine gR fun i _=>?_
 unfold upd Pm.up Jm.sw
 by_cases h1:i=b
 ·subst h1
  rw[if_pos rfl,if_neg (fun e=>hab e.symm),if_pos rfl]
 ·rw[if_neg h1]
  by_cases h2:i=a
  ·rw[if_pos h2,if_pos h2]
  ·rw[if_neg h2,if_neg h2,if_neg h1]
set_option maxRecDepth 100000 in
set_option maxHeartbeats 8000000 in
theorem vK (pa:Option Addr) (n pc:Nat) (ta:Option Addr) (tn tc:Nat) (F:(Nat→Nat)→Int) (key:Nat→Nat) (hk:∀i,i<26→key i<26) (w:World) (hsc:sF w pa n pc ta tn tc F):Calls Try.prog 55 #[.agg #[.slice pa n pc,.slice ta tn tc],.agg (ints 26 (Pm.up key))] w fun e w'=>e=.returned (.tuple #[.agg (ints 26 (Pm.up (Jm.bst F key (Jm.prs 26 0)).1)),.int .i64 (Jm.bst F key (Jm.prs 26 0)).2])∧Below w.heap.size w w':=by
 have HSC:=(show Hid _ from hsc)
 have HK:=(show Hid (∀i,i<26→key i<26) from hk)
 clear hsc hk
 have hr0:=ai.new w 66 #[.slice pa n pc,.slice ta tn tc]
 have hb0:Below w.heap.size w (w.alloc (.cells #[.slice pa n pc,.slice ta tn tc] 66)):=(Below.refl _ w).alloc (Nat.le_refl _) _
 have hs0:(w.alloc (.cells #[.slice pa n pc,.slice ta tn tc] 66)).heap.size=w.heap.size+1:=by simp
 go_enter Try.func55,Try.ntmps55
 go_upto_region 1 with fail
 rw[ej]
 obtain ⟨V0,hV0⟩:∃V,V=w.alloc (.cells #[.slice pa n pc,.slice ta tn tc] 66):=⟨_,rfl⟩
 rw[←hV0] at hr0 hb0 hs0 ⊢
 clear hV0
 have hr1:=ai.new V0 38 (ints 26 (Pm.up key))
 have hr01:=hr0.alloc (.cells (ints 26 (Pm.up key)) 38)
 have hb1:=hb0.alloc (by omega) (.cells (ints 26 (Pm.up key)) 38)
 have hs1:(V0.alloc (.cells (ints 26 (Pm.up key)) 38)).heap.size=w.heap.size+2:=by simp[hs0]
 rw[hs0] at hr1
 obtain ⟨V1,hV1⟩:∃V,V=V0.alloc (.cells (ints 26 (Pm.up key)) 38):=⟨_,rfl⟩
 rw[←hV1] at hr1 hr01 hb1 hs1 ⊢
 clear hV1 hr0 hb0 hs0
 have hr2:=ai.new V1 38 (ints 26 fun _=>0)
 have hr02:=hr01.alloc (.cells (ints 26 fun _=>0) 38)
 have hr12:=hr1.alloc (.cells (ints 26 fun _=>0) 38)
 have hb2:=hb1.alloc (by omega) (.cells (ints 26 fun _=>0) 38)
 have hs2:(V1.alloc (.cells (ints 26 fun _=>0) 38)).heap.size=w.heap.size+3:=by simp[hs1]
 rw[hs1] at hr2
 obtain ⟨V2,hV2⟩:∃V,V=V1.alloc (.cells (ints 26 fun _=>0) 38):=⟨_,rfl⟩
 rw[←hV2] at hr2 hr02 hr12 hb2 hs2 ⊢
 clear hV2 hr1 hr01 hb1 hs1
 have hr3:=ai.new V2 38 (ints 26 fun _=>0)
 rw[hs2] at hr3
 have hst:StS w ((V2.alloc (.cells (ints 26 fun _=>0) 38)).setRow (w.heap.size+3) (ints 26 (Pm.up key))) pa n pc ta tn tc key key :=
  ⟨(hr02.alloc _).ck _ _ (by omega),(hr12.alloc _).ck _ _ (by omega),(hr2.alloc _).ck _ _ (by omega),hr3.row _,Below.setRow (hb2.alloc (by omega) _) _ (by omega) _⟩
 go_upto_region 2 with (first | refine wpList_load_row rfl 38 _ rfl (w.heap.size+1) rfl 38 (ints 26 (Pm.up key)) (0,0) _ hr12 Try.underlying38 rfl (by rw[af];exact aC) ?_ | refine wpList_store_row rfl 38 _ _ rfl (w.heap.size+3) (ints 26 (Pm.up key)) rfl rfl 38 _ hr3 (by rw[af];exact aC) (by simp only[af]) (aS _ _) ?_)
 try rw[ej]
 obtain ⟨V3,hV3⟩:∃V,V=(V2.alloc (.cells (ints 26 fun _=>0) 38)).setRow (w.heap.size+3) (ints 26 (Pm.up key)):=⟨_,rfl⟩
 rw[←hV3] at hst ⊢
 clear hV3 hr2 hr02 hr12 hb2 hs2 hr3
 go_wp2_with fail
 go_loopw [7,8] (fun o x W=>∃b:Nat,1≤b∧b≤26∧x=.int .i64 (b:Int)∧o=.int .i64 (Jm.bst F key (Jm.prs b 0)).2∧StS w W pa n pc ta tn tc key (Jm.bst F key (Jm.prs b 0)).1) (fun _ x _=>((26:Int)-intOf x).toNat)
 case atStart=>exact ⟨1,by omega,by omega,rfl,rfl,hst⟩
 case round =>
  clear hst
  obtain ⟨b,hb1,hb26,rfl,rfl,hst⟩:=hrel
  by_cases hlt:b<26
  case neg =>
   obtain rfl:b=26:=by omega
   have hbs:=hst.bs
   have hrs:=hst.rs
   have HST:=(show Hid _ from hst)
   obtain ⟨bm,hbm⟩:∃bm,bm=Jm.bst F key (Jm.prs 26 0):=⟨_,rfl⟩
   rw[←hbm] at hbs HST ⊢
   have HBM:=(show Hid (bm=Jm.bst F key (Jm.prs 26 0)) from hbm)
   clear hst hlt hb1 hb26 hbm
   go_wp2_with (first | refine wpList_load_row rfl 38 _ rfl (w.heap.size+3) rfl 38 (ints 26 (Pm.up bm.1)) (0,0) _ hbs Try.underlying38 rfl (by rw[af];exact aC) ?_ | refine wpList_store_row rfl 38 _ _ rfl (w.heap.size+2) (ints 26 (Pm.up bm.1)) rfl rfl 38 _ hrs (by rw[af];exact aC) (by simp only[af]) (aS _ _) ?_)
   exact bodyPost_ret (v:=.tuple #[.agg (ints 26 (Pm.up bm.1)),.int .i64 bm.2]) (bw rfl _ _ (w.heap.size+2) 38 _ (0,0) _ _ rfl rfl (hrs.row _) Try.underlying38 rfl (by rw[af];exact aC)) rfl ⟨by rw[HBM.out],Below.setRow HST.out.be _ (by omega) _⟩
  have HLB:Hid (1≤b∧b<26):=⟨hb1,hlt⟩
  have hlt2:(b:Int)<26:=by omega
  clear hb1 hb26
  obtain ⟨bm0,hbm0⟩:∃bm,bm=Jm.bst F key (Jm.prs b 0):=⟨_,rfl⟩
  have HBM0:=(show Hid (bm0=Jm.bst F key (Jm.prs b 0)) from hbm0)
  rw[←hbm0] at hst ⊢
  have HST0:=(show Hid _ from hst)
  clear hst hbm0 hlt
  go_wp2_with fail
  go_loopw [7,18] (fun o x W=>∃a:Nat,a≤b∧x=.int .i64 (a:Int)∧o=.int .i64 (Jm.bst F key (Jm.prs b a)).2∧StS w W pa n pc ta tn tc key (Jm.bst F key (Jm.prs b a)).1) (fun _ x _=>((b:Int)-intOf x).toNat)
  case atStart=>exact ⟨0,by omega,rfl,by rw[HBM0.out],by rw[←HBM0.out];exact HST0.out⟩
  case round =>
   clear HST0 HBM0
   obtain ⟨a,hab,rfl,rfl,hst⟩:=hrel
   by_cases hlt:a<b
   case neg =>
    obtain rfl:a=b:=by omega
    have HST:=(show Hid _ from hst)
    have hnn:¬(a:Int)<(a:Int):=by omega
    rw[←Jm.yU] at HST ⊢
    clear hst hlt hab
    go_wp2_with fail
    go_roundw
    case rel=>exact ⟨a+1,by omega,HLB.out.2,by go_num,rfl,HST.out⟩
    case measure=>have:=HLB.out;simp[intOf];omega
   have HLA:Hid (a<b):=hlt
   have hlt3:(a:Int)<(b:Int):=by omega
   have ha26:a<26:=by omega
   obtain ⟨bm,hbm⟩:∃bm,bm=Jm.bst F key (Jm.prs b a):=⟨_,rfl⟩
   have HBM:=(show Hid (bm=Jm.bst F key (Jm.prs b a)) from hbm)
   rw[←hbm] at hst ⊢
   clear hbm hab hlt
   have hky:=hst.ky
   have HST:=(show Hid _ from hst)
   have hq0:=ai.new wr 38 (ints 26 fun _=>0)
   clear hst
   go_upto_region 9 with (first | refine wpList_load_row rfl 38 _ rfl (w.heap.size+1) rfl 38 (ints 26 (Pm.up key)) (0,0) _ hky Try.underlying38 rfl (by rw[af];exact aC) ?_ | refine wpList_store_row rfl 38 _ _ rfl (wr.heap.size) (ints 26 (Pm.up key)) rfl rfl 38 _ hq0 (by rw[af];exact aC) (by simp only[af]) (aS _ _) ?_)
   try rw[ej]
   have hbq:Below wr.heap.size wr ((wr.alloc (.cells (ints 26 fun _=>0) 38)).setRow wr.heap.size (ints 26 (Pm.up key))):=Below.setRow ((Below.refl _ wr).alloc (Nat.le_refl _) _) _ (Nat.le_refl _) _
   have hq:=hq0.row (ints 26 (Pm.up key))
   obtain ⟨W3,hW3⟩:∃V,V=(wr.alloc (.cells (ints 26 fun _=>0) 38)).setRow wr.heap.size (ints 26 (Pm.up key)):=⟨_,rfl⟩
   rw[←hW3] at hbq hq ⊢
   obtain ⟨q,hqq⟩:∃q,q=wr.heap.size:=⟨_,rfl⟩
   have HST3:=(show Hid _ from HST.out.step hbq)
   have HBQ:=(show Hid (Below q wr W3) from by rw[hqq];exact hbq)
   rw[←hqq] at hq ⊢
   have HQW:=(show Hid (q=wr.heap.size) from hqq)
   have HQ:=(show Hid (ai W3 q 38 (ints 26 (Pm.up key))) from hq)
   have hky3:=HST3.out.ky
   have ca:=hky3.cell (aI (Pm.up key) ha26)
   have cb:=hky3.cell (aI (Pm.up key) HLB.out.2)
   have fa:=hq.frozen a
   have fb:=hq.frozen b
   have oa:=hq.cell (aI (Pm.up key) ha26)
   have ob:=hq.cell (aI (Pm.up key) HLB.out.2)
   have hb26:=HLB.out.2
   have hne:a≠b:=by omega
   have hnq:w.heap.size+1≠q:=by have:=HST.out.ky.lt;rw[HQW.out];omega
   have ia:(a:Int)<26:=by omega
   obtain ⟨va,hva⟩:∃v,v=Pm.up key a:=⟨_,rfl⟩
   obtain ⟨vb,hvb⟩:∃v,v=Pm.up key b:=⟨_,rfl⟩
   rw[←hva] at ca oa
   rw[←hvb] at cb ob
   have HVA:=(show Hid _ from hva)
   have HVB:=(show Hid _ from hvb)
   clear hky hq0 hbq hq hW3 hqq hky3 hva hvb
   go_region
   all_goals
    have hqS:ai (((W3.setCell ⟨q,a,none⟩ (.int .i64 vb)).setCell ⟨q,b,none⟩ (.int .i64 va)).drew) q 38 (ints 26 (Pm.up (Jm.sw key a b))):=by
     have:=(HQ.out.set a (.int .i64 vb)).set b (.int .i64 va)
     rw[HVA.out,HVB.out] at this ⊢
     rw[show ((ints 26 (Pm.up key)).setIfInBounds a (.int .i64 (Pm.up key b))).setIfInBounds b (.int .i64 (Pm.up key a))=ints 26 (Pm.up (Jm.sw key a b)) from rZ key a b hne] at this
     exact this.drew
    have hbS:Below q wr (((W3.setCell ⟨q,a,none⟩ (.int .i64 vb)).setCell ⟨q,b,none⟩ (.int .i64 va)).drew):=((HBQ.out.setCell (p:=⟨q,a,none⟩) (Nat.le_refl _) _).setCell (p:=⟨q,b,none⟩) (Nat.le_refl _) _).drew
    have hst4:=HST.out.step (W':=(((W3.setCell ⟨q,a,none⟩ (.int .i64 vb)).setCell ⟨q,b,none⟩ (.int .i64 va)).drew)) (by rw[←HQW.out];exact hbS)
    obtain ⟨W4,hW4⟩:∃V,V=((W3.setCell ⟨q,a,none⟩ (.int .i64 vb)).setCell ⟨q,b,none⟩ (.int .i64 va)).drew:=⟨_,rfl⟩
    rw[←hW4] at hqS hst4 ⊢
    have hsh:=hst4.sh
    have HST4:=(show Hid _ from hst4)
    have HQS:=(show Hid (ai W4 q 38 (ints 26 (Pm.up (Jm.sw key a b)))) from hqS)
    clear hW4 hbS hst4 ca cb fa fb oa ob HQ HBQ HST HST3 HVA HVB
    go_wp2_with (first | refine wpList_load_row rfl 66 _ rfl w.heap.size rfl 66 #[.slice pa n pc,.slice ta tn tc] (0,0) _ hsh Try.underlying66 rfl cE ?_ | refine wpList_load_row rfl 38 _ rfl (q) rfl 38 (ints 26 (Pm.up (Jm.sw key a b))) (0,0) _ hqS Try.underlying38 rfl (by rw[af];exact aC) ?_)
    refine (HSC.out.call W4 (Jm.sw key a b) HST4.out.be (Jm.qU HK.out ha26 hb26)).mono ?_
    rintro e W5 ⟨rfl,hb5⟩
    have hst5:=HST4.out.step hb5
    have hq5:=ai.below HQS.out hb5 (ai.lt HQS.out)
    have hrow:=hst5.bs
    have HPUT:=(show Hid _ from hst5.put (Jm.sw key a b))
    have HST5:=(show Hid _ from hst5)
    have HNX:=(show Hid _ from Jm.jz F key (Jm.prs b a) a b)
    rw[←Jm.xp,←HBM.out] at HNX
    obtain ⟨z,hz⟩:∃z,z=F (Jm.sw key a b):=⟨_,rfl⟩
    rw[←hz] at HNX ⊢
    clear hst5 hb5 hsh HSC HK HQS HST4 hz hqS
    by_cases hgt:z > bm.2
    ·have hgt2:bm.2<z:=hgt
     have HE:=(show Hid _ from HNX.out.trans (if_pos hgt))
     clear HNX hgt
     go_wp2_with (first | refine wpList_load_row rfl 38 _ rfl (q) rfl 38 (ints 26 (Pm.up (Jm.sw key a b))) (0,0) _ hq5 Try.underlying38 rfl (by rw[af];exact aC) ?_ | refine wpList_store_row rfl 38 _ _ rfl (w.heap.size+3) (ints 26 (Pm.up (Jm.sw key a b))) rfl rfl 38 _ hrow (by rw[af];exact aC) (by simp only[af]) (aS _ _) ?_)
     go_roundw
     case rel=>exact ⟨a+1,HLA.out,by go_num,by rw[HE.out],by rw[HE.out];exact HPUT.out⟩
     case measure=>have:=HLA.out;simp[intOf];omega
    ·have hgt2:¬bm.2<z:=hgt
     have HE:=(show Hid _ from HNX.out.trans (if_neg hgt))
     clear HNX hgt
     go_wp2_with fail
     go_roundw
     case rel=>exact ⟨a+1,HLA.out,by go_num,by rw[HE.out],by rw[HE.out];exact HST5.out⟩
     case measure=>have:=HLA.out;simp[intOf];omega
end
section
open Go.RowKit PK
structure TpS (w W:World) (pa:Option Addr) (n pc:Nat) (ta:Option Addr) (tn tc:Nat) (key:Nat→Nat):Prop where
 sh:ai W w.heap.size 66 #[.slice pa n pc,.slice ta tn tc]
 ky:ai W (w.heap.size+1) 38 (ints 26 (Pm.up key))
 rs:ai W (w.heap.size+2) 38 (ints 26 fun _=>0)
 be:Below w.heap.size w W
theorem TpS.step {w W W':World} {pa:Option Addr} {n pc:Nat} {ta:Option Addr} {tn tc:Nat} {key:Nat→Nat} (h:TpS w W pa n pc ta tn tc key) (hb:Below W.heap.size W W'):TpS w W' pa n pc ta tn tc key :=
 ⟨h.sh.below hb h.sh.lt,h.ky.below hb h.ky.lt,h.rs.below hb h.rs.lt,h.be.trans (hb.mono h.be.size)⟩
theorem TpS.put {w W:World} {pa:Option Addr} {n pc:Nat} {ta:Option Addr} {tn tc:Nat} {key:Nat→Nat} (h:TpS w W pa n pc ta tn tc key) (k:Nat→Nat):TpS w (W.setRow (w.heap.size+1) (ints 26 (Pm.up k))) pa n pc ta tn tc k :=
 ⟨h.sh.ck _ _ (by omega),h.ky.row _,h.rs.ck _ _ (by omega),Below.setRow h.be _ (by omega) _⟩
theorem Bl {F:(Nat→Nat)→Int} {key:Nat→Nat} (hk:∀i,i<26→key i<26):∀i,i<26→(Jm.bst F key (Jm.prs 26 0)).1 i<26 :=
 Jm.pG (Q:=fun k=>∀i,i<26→k i<26) F key hk _ fun p hp=>by
  unfold Jm.prs at hp
  simp only[List.mem_append,List.mem_flatMap,List.mem_map,List.mem_range] at hp
  rcases hp with ⟨c,hc,d,hd,rfl⟩ | ⟨d,hd,rfl⟩
  ·exact Jm.qU hk (by show d<26;omega) hc
  ·omega
set_option maxRecDepth 100000 in
set_option maxHeartbeats 8000000 in
theorem lV (pa:Option Addr) (n pc:Nat) (ta:Option Addr) (tn tc:Nat) (F:(Nat→Nat)→Int) (key:Nat→Nat) (hk:∀i,i<26→key i<26) (w:World) (hsc:sF w pa n pc ta tn tc F):Calls Try.prog 37 #[.agg #[.slice pa n pc,.slice ta tn tc],.agg (ints 26 (Pm.up key))] w fun e w'=>∃k,Jm.Ups F key k∧e=.returned (.tuple #[.agg (ints 26 (Pm.up k)),.int .i64 (F k)])∧Below w.heap.size w w':=by
 have HSC:=(show Hid _ from hsc)
 have HK:=(show Hid (∀i,i<26→key i<26) from hk)
 clear hsc hk
 have hr0:=ai.new w 66 #[.slice pa n pc,.slice ta tn tc]
 have hb0:Below w.heap.size w (w.alloc (.cells #[.slice pa n pc,.slice ta tn tc] 66)):=(Below.refl _ w).alloc (Nat.le_refl _) _
 have hs0:(w.alloc (.cells #[.slice pa n pc,.slice ta tn tc] 66)).heap.size=w.heap.size+1:=by simp
 go_enter Try.func37,Try.ntmps37
 go_upto_region 1 with fail
 rw[ej]
 obtain ⟨V0,hV0⟩:∃V,V=w.alloc (.cells #[.slice pa n pc,.slice ta tn tc] 66):=⟨_,rfl⟩
 rw[←hV0] at hr0 hb0 hs0 ⊢
 clear hV0
 have hr1:=ai.new V0 38 (ints 26 (Pm.up key))
 have hr01:=hr0.alloc (.cells (ints 26 (Pm.up key)) 38)
 have hb1:=hb0.alloc (by omega) (.cells (ints 26 (Pm.up key)) 38)
 have hs1:(V0.alloc (.cells (ints 26 (Pm.up key)) 38)).heap.size=w.heap.size+2:=by simp[hs0]
 rw[hs0] at hr1
 obtain ⟨V1,hV1⟩:∃V,V=V0.alloc (.cells (ints 26 (Pm.up key)) 38):=⟨_,rfl⟩
 rw[←hV1] at hr1 hr01 hb1 hs1 ⊢
 clear hV1 hr0 hb0 hs0
 have hr2:=ai.new V1 38 (ints 26 fun _=>0)
 rw[hs1] at hr2
 have hst:TpS w (V1.alloc (.cells (ints 26 fun _=>0) 38)) pa n pc ta tn tc key:=⟨hr01.alloc _,hr1.alloc _,hr2,hb1.alloc (by omega) _⟩
 obtain ⟨V2,hV2⟩:∃V,V=V1.alloc (.cells (ints 26 fun _=>0) 38):=⟨_,rfl⟩
 rw[←hV2] at hst ⊢
 clear hV2 hr1 hr01 hb1 hs1 hr2
 have hsh:=hst.sh
 have hky:=hst.ky
 have HST0:=(show Hid _ from hst)
 clear hst
 go_wp2_with (first | refine wpList_load_row rfl 66 _ rfl w.heap.size rfl 66 #[.slice pa n pc,.slice ta tn tc] (0,0) _ hsh Try.underlying66 rfl cE ?_ | refine wpList_load_row rfl 38 _ rfl (w.heap.size+1) rfl 38 (ints 26 (Pm.up key)) (0,0) _ hky Try.underlying38 rfl (by rw[af];exact aC) ?_)
 refine (HSC.out.call V2 key HST0.out.be HK.out).mono ?_
 rintro e W5 ⟨rfl,hb5⟩
 have hst:=HST0.out.step hb5
 clear hb5 hsh hky HST0
 go_wp2_with fail
 go_loopw [6] (fun x W=>∃k:Nat→Nat,x=.int .i64 (F k)∧(∀i,i<26→k i<26)∧(∀k',Jm.Ups F k k'→Jm.Ups F key k')∧TpS w W pa n pc ta tn tc k) (fun x _=>((255000:Int)-intOf x).toNat)
 case atStart=>exact ⟨key,rfl,HK.out,fun _ h=>h,hst⟩
 case round =>
  clear hst HK
  obtain ⟨k,rfl,hk,hup,hst⟩:=hrel
  have HK:=(show Hid (∀i,i<26→k i<26) from hk)
  have HUP:=(show Hid _ from hup)
  have hsh:=hst.sh
  have hky:=hst.ky
  have HST0:=(show Hid _ from hst)
  have HFK:=(show Hid _ from HSC.out.le k hk)
  clear hst hk hup
  go_wp2_with (first | refine wpList_load_row rfl 66 _ rfl w.heap.size rfl 66 #[.slice pa n pc,.slice ta tn tc] (0,0) _ hsh Try.underlying66 rfl cE ?_ | refine wpList_load_row rfl 38 _ rfl (w.heap.size+1) rfl 38 (ints 26 (Pm.up k)) (0,0) _ hky Try.underlying38 rfl (by rw[af];exact aC) ?_)
  refine (vK pa n pc ta tn tc F k HK.out wr (HSC.out.below HST0.out.be)).mono ?_
  rintro e W5 ⟨rfl,hb5⟩
  have hst:=HST0.out.step hb5
  have HBK:=(show Hid _ from Bl (F:=F) HK.out)
  have HNX:=(show Hid _ from (Jm.uk F k (by have:=HFK.out;omega) (Jm.prs 26 0)).2)
  have HGO:=(show Hid ((Jm.bst F k (Jm.prs 26 0)).2 > F k→∀k',Jm.Ups F (Jm.bst F k (Jm.prs 26 0)).1 k'→Jm.Ups F k k') from fun h _ h2=>.go h h2)
  have HSTO:=(show Hid (¬(Jm.bst F k (Jm.prs 26 0)).2 > F k→Jm.Ups F k k) from fun h=>.stop h)
  obtain ⟨bm,hbm⟩:∃bm,bm=Jm.bst F k (Jm.prs 26 0):=⟨_,rfl⟩
  rw[←hbm] at HBK HNX HGO HSTO ⊢
  have HLE:=(show Hid _ from HSC.out.le bm.1 HBK.out)
  obtain ⟨z,hz⟩:∃z,z=F k:=⟨_,rfl⟩
  have HZ:=(show Hid (z=F k) from hz)
  rw[←hz] at HFK HGO HSTO ⊢
  have hq0:=ai.new W5 38 (ints 26 fun _=>0)
  have hst6:=hst.step (W':=(W5.alloc (.cells (ints 26 fun _=>0) 38)).setRow W5.heap.size (ints 26 (Pm.up bm.1))) (Below.setRow ((Below.refl _ W5).alloc (Nat.le_refl _) _) _ (Nat.le_refl _) _)
  have hq6:=hq0.row (ints 26 (Pm.up bm.1))
  have hky6:=hst6.ky
  have hrs6:=hst6.rs
  have HST6:=(show Hid _ from hst6)
  clear hst hst6 hsh hky hb5 hbm hz HSC HST0
  by_cases hgt:bm.2 > z
  ·have hgt2:¬bm.2≤z:=by omega
   have HGT:=(show Hid (bm.2 > z) from hgt)
   clear hgt hrs6
   go_wp2_with (first | refine wpList_store_row rfl 38 _ _ rfl (W5.heap.size) (ints 26 (Pm.up bm.1)) rfl rfl 38 _ hq0 (by rw[af];exact aC) (by simp only[af]) (aS _ _) ?_ | refine wpList_load_row rfl 38 _ rfl (W5.heap.size) rfl 38 (ints 26 (Pm.up bm.1)) (0,0) _ hq6 Try.underlying38 rfl (by rw[af];exact aC) ?_ | refine wpList_store_row rfl 38 _ _ rfl (w.heap.size+1) (ints 26 (Pm.up bm.1)) rfl rfl 38 _ hky6 (by rw[af];exact aC) (by simp only[af]) (aS _ _) ?_)
   go_roundw
   case rel =>
    have h1:bm.2=F bm.1:=HNX.out.resolve_left (by have:=HFK.out;have:=HGT.out;omega)
    exact ⟨bm.1,by rw[h1],HBK.out,fun k' h=>HUP.out k' (HGO.out HGT.out k' h),HST6.out.put bm.1⟩
   case measure =>
    have h1:bm.2=F bm.1:=HNX.out.resolve_left (by have:=HFK.out;have:=HGT.out;omega)
    have:=HLE.out
    have:=HGT.out
    have:=HZ.out
    simp[intOf]
    omega
  ·have hgt2:bm.2≤z:=by omega
   have HGT:=(show Hid (¬bm.2 > z) from hgt)
   clear hgt hq6
   go_wp2_with (first | refine wpList_store_row rfl 38 _ _ rfl (W5.heap.size) (ints 26 (Pm.up bm.1)) rfl rfl 38 _ hq0 (by rw[af];exact aC) (by simp only[af]) (aS _ _) ?_ | refine wpList_load_row rfl 38 _ rfl (w.heap.size+1) rfl 38 (ints 26 (Pm.up k)) (0,0) _ hky6 Try.underlying38 rfl (by rw[af];exact aC) ?_ | refine wpList_store_row rfl 38 _ _ rfl (w.heap.size+2) (ints 26 (Pm.up k)) rfl rfl 38 _ hrs6 (by rw[af];exact aC) (by simp only[af]) (aS _ _) ?_)
   exact bodyPost_ret (v:=.tuple #[.agg (ints 26 (Pm.up k)),.int .i64 z]) (bw rfl _ _ (w.heap.size+2) 38 _ (0,0) _ _ rfl rfl (hrs6.row _) Try.underlying38 rfl (by rw[af];exact aC)) rfl ⟨k,HUP.out k (HSTO.out HGT.out),by rw[HZ.out],Below.setRow HST6.out.be _ (by omega) _⟩
end
section
open Go.RowKit PK
def fill (a:Nat→Nat) (v:Nat→Int):Nat→Nat→Int
 | 0=>fun _=>0
 | k+1=>upd (fill a v k) (a k) (v k)
theorem rR (m:Nat) (cap:Array Value) (a:Nat→Nat) (v:Nat→Int) (ha:∀i,i<26→a i<26) (w:World) (hent:∀(args:Array Value) (W:World),(callFunc m args).run Try.prog W=.ok (.enter m args) W)
  (hp:∀i,i<26→∀W:World,Below w.heap.size w W→Calls Try.prog m (#[.int .i64 (i:Nat)]++cap) W fun e w'=>e=.returned (.tuple #[.int .i64 (a i:Nat),.int .i64 (v i)])∧Below W.heap.size W w') :
  Calls Try.prog 57 #[.func (.func m) #[] cap] w fun e w'=>e=.returned (.agg (ints 26 (fill a v 26)))∧Below w.heap.size w w':=by
 have HP:Hid (∀i,i<26→∀W:World,Below w.heap.size w W→Calls Try.prog m (#[.int .i64 (i:Nat)]++cap) W fun e w'=>e=.returned (.tuple #[.int .i64 (a i:Nat),.int .i64 (v i)])∧Below W.heap.size W w'):=hp
 clear hp
 go_enter Try.func57,Try.ntmps57
 go_wp2
 rw[ej]
 go_loopw [7] (fun i W=>∃k:Nat,k≤26∧i=.int .i64 k∧ai W w.heap.size 38 (ints 26 fun _=>0)∧ai W (w.heap.size+1) 38 (ints 26 (fill a v k))∧Below w.heap.size w W) (fun i _=>(26-intOf i).toNat)
 case atStart =>
  refine ⟨0,by omega,rfl,(ai.new w _ _).alloc _,?_,((Below.refl _ _).alloc (Nat.le_refl _) _).alloc (by simp) _⟩
  have:=ai.new (w.alloc (Obj.cells (ints 26 fun _=>0) 38)) 38 (ints 26 fun x=>0)
  rw[World.size_alloc] at this
  exact this
 case round =>
  obtain ⟨k,hk,rfl,hrow0,hrow,hb⟩:=hrel
  by_cases hlt:k<26
  ·have ha':=ha k hlt
   have hsz:=hb.size
   have h1:=hrow.lt
   have HW:=HP.out k hlt wr hb
   have HV:Hid (Calls Try.prog m (#[.int .i64 (k:Nat)]++cap) wr fun e w'=>e=.returned (.tuple #[.int .i64 (a k:Nat),.int .i64 (v k)])∧Below wr.heap.size wr w'):=HW
   clear HW
   obtain ⟨n,hn⟩:∃n:Nat,n=a k:=⟨_,rfl⟩
   rw[←hn] at HV ha'
   have HNN:Hid (n=a k):=hn
   clear hn
   go_wp2_with fail
   refine HV.out.mono ?_
   rintro e w1 ⟨rfl,hb1⟩
   have hrow1:=hrow.below hb1 h1
   have hc:=hrow1.cell (aI (fill a v k) ha')
   have hf:=hrow1.frozen n
   go_wp2
   go_roundw
   case rel =>
    refine ⟨k+1,by omega,by go_num,?_,?_,?_⟩
    ·exact (hrow0.below hb1 hrow0.lt).setOther _ _ (by simp)
    ·have:=hrow1.set n (.int .i64 (v k))
     rw[ints_set] at this
     show ai _ _ _ (ints 26 (upd (fill a v k) (a k) (v k)))
     rw[←HNN.out]
     exact this
    ·exact (hb.trans (hb1.mono hsz)).setCell (by simp) _
   case measure=>simp[intOf];omega
  ·have HK:Hid (k=26):=by rw[Hid];omega
   have h1:=hrow.lt
   go_wp2_with (first
    | refine wpList_load_row rfl 38 _ rfl (w.heap.size+1) rfl 38 (ints 26 (fill a v k)) (0,0) _ hrow Try.underlying38 rfl (by rw[af];exact aC) ?_
    | refine wpList_store_row rfl 38 _ _ rfl w.heap.size (ints 26 (fill a v k)) rfl rfl 38 _ hrow0 (by rw[af];exact aC) (by simp only[af]) (aS _ _) ?_)
   refine bodyPost_ret (v:=.agg (ints 26 (fill a v k))) (results_cell_row rfl _ _ w.heap.size 38 _ (0,0) _ rfl (hrow0.row _) Try.underlying38 rfl (by rw[af];exact aC)) rfl ⟨by rw[HK.out],Below.setRow hb _ (Nat.le_refl _) _⟩
theorem tF (a:Nat→Nat) (v:Nat→Int) (hi:∀i j,i<26→j<26→a i=a j→i=j):∀k,k≤26→∀i,i<k→fill a v k (a i)=v i
 | 0,_,i,h=>by omega
 | k+1,hk,i,h=>by
  show upd (fill a v k) (a k) (v k) (a i)=v i
  by_cases e:i=k
  ·subst e;simp
  ·rw[nG _ _ (fun e2=>e (hi i k (by omega) (by omega) e2))]
   exact tF a v hi k (by omega) i (by omega)
theorem zK (v:Nat→Int):ints 26 (fill (fun i=>i) v 26)=ints 26 v:=gR fun j hj=>tF (fun i=>i) v (fun _ _ _ _ e=>e) 26 (Nat.le_refl _) j hj
theorem uK (i:Int) (w:World):Calls Try.prog 58 #[.int .i64 i] w fun e w'=>e=.returned (.tuple #[.int .i64 i,.int .i64 i])∧w=w':=by
 go_enter Try.func58,Try.ntmps58
 go_wp2
 go_ret2
 exact ⟨rfl,rfl⟩
theorem qL (w:World):Calls Try.prog 41 #[] w fun e w'=>e=.returned (.agg (ints 26 (Pm.up fun i=>i)))∧Below w.heap.size w w':=by
 go_enter Try.func41,Try.ntmps41
 go_wp2_with fail
 rw[ej]
 refine (rR 58 #[] (fun i=>i) (Pm.up fun i=>i) (fun _ h=>h) _ (by intro args W;go_simp) (fun i hi W _=>(uK i W).mono ?_)).mono ?_
 ·rintro e w' ⟨rfl,rfl⟩
  exact ⟨rfl,Below.refl _ _⟩
 ·rintro e w1 ⟨rfl,hb1⟩
  rw[zK]
  have hrow:=(ai.new w 38 (ints 26 fun _=>0)).below hb1 (by simp)
  go_wp2_with (refine wpList_store_row rfl 38 _ _ rfl w.heap.size (ints 26 (Pm.up fun i=>i)) rfl rfl 38 _ hrow (by rw[af];exact aC) (by simp only[af]) (aS _ _) ?_)
  exact bodyPost_ret (v:=.agg (ints 26 (Pm.up fun i=>i))) (results_cell_row rfl _ _ w.heap.size 38 _ (0,0) _ rfl (hrow.row _) Try.underlying38 rfl (by rw[af];exact aC)) rfl ⟨rfl,Below.setRow (((Below.refl _ _).alloc (Nat.le_refl _) _).trans (hb1.mono (by simp))) _ (Nat.le_refl _) _⟩
end
end Go.Proofs.Ytpdemelchhkfaaa
