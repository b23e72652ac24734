import Derived.Test.YtgacaecjinlhiaaGreatDoorJn27
namespace Go.Proofs.YtgacaecjinlhiaaGreatDoor
open Go.RowKit PK Vg
theorem pM:(Tryz.prog.info? 48).map (fun i=>(i.zero,i.size,i.bytes))=some (some (.agg #[.slice none 0 0,.slice none 0 0]),2,48):=by kernel_rfl
theorem Bc:(Tryz.prog.info? 48).map (fun i=>(i.zero,i.size))=some (some (.agg #[.slice none 0 0,.slice none 0 0]),2):=by kernel_rfl
theorem iB.set {W:World} {us ug:Value} {h:Hl} {N q:Nat} {d x:Array Value} (k:iB W us ug h N) (hq:af W q 48 d):iB (W.setRow q x) us ug h N:=by
 obtain ⟨⟨B1,k1⟩,B2,k2⟩:=k
 exact ⟨⟨B1,jC (by decide) k1 hq⟩,B2,jC (by decide) (show W.ownsRow _ 87 28 _ _ _ from k2) hq⟩
theorem iB.form {W:World} {us ug:Value} {h:Hl} {N:Nat} (k:iB W us ug h N):(∃a c,us=.slice a h.n c)∧∃a c,ug=.slice a (h.lg N).length c:=by
 obtain ⟨k1,B,k2⟩:=k
 refine ⟨?_,jD (show W.ownsRow _ 87 28 _ _ _ from k2)⟩
 rcases k1.form with ⟨e,e2⟩ | ⟨x,y,e⟩
 ·exact ⟨none,0,by rw[e,e2]⟩
 ·exact ⟨_,_,e⟩
theorem cell_two_new (w:World) (T:TypeId) (a b:Value):∀j u,([a,b]:List Value)[j]? = some u→(w.alloc (.cells #[a,b] T)).cell? ((⟨w.heap.size,0,none⟩:Addr).add j)=some u:=fun j u hj=>by
 rw[l9,Nat.zero_add]
 exact (af.new w T #[a,b]).cell (by rw[←Array.getElem?_toList];exact hj)
set_option maxRecDepth 100000 in
set_option maxHeartbeats 8000000 in
theorem KC (vm:Value) (g0:Gm) (hn1:1≤g0.n) (hn3:g0.n≤3) (hfit:∀r,r<g0.n→g0.nl r*8≤140737488355328) (hrl:g0.rl*8≤140737488355328) (k:Nat) (hk:k<26) (bN bC:Nat) (gs:Nat→Nat→Nat→Int) (lg:Nat→List Nat) (w:World) (hm:cE w vm g0)
  (HLK:Hid (∀N a b c W,Below w.heap.size w W→cE W (.agg (mac a b c g0.rf g0.pl)) (gmN g0 N)→Calls Tryz.prog 12 #[.agg (mac a b c g0.rf g0.pl),.pointer (some ⟨bN,0,none⟩),.pointer (some ⟨bC,0,none⟩)] W fun e w'=>∃us ug,e=.returned (.tuple #[.agg #[us,ug],.bool ((⟨g0.n,gs,lg⟩:Hl).p N)])∧iB w' us ug (⟨g0.n,gs,lg⟩:Hl) N∧Below W.heap.size W w')) :
  Calls Tryz.prog 33 #[vm,.int .i64 (k:Nat),.func (.func 12) #[] #[.pointer (some ⟨bN,0,none⟩),.pointer (some ⟨bC,0,none⟩)]] w fun e w'=>∃v,e=.returned v∧HsO w' w.heap.size v ((⟨g0.n,gs,lg⟩:Hl).eG k (26 ^ (g0.n-1))) (⟨g0.n,gs,lg⟩:Hl)∧Below w.heap.size w w':=by
 obtain ⟨i0,hi0,hz0,hz1,hz2⟩:=eo pM
 have hM:26 ^ (g0.n-1)≤676:=by
  rcases (by omega:g0.n=1∨g0.n=2∨g0.n=3) with h | h | h <;> rw[h] <;> decide
 have hMN:26*26 ^ (g0.n-1)=26 ^ g0.n:=by
  rw[Nat.mul_comm,←Nat.pow_succ,Nat.succ_eq_add_one,show g0.n-1+1=g0.n by omega]
 -- windows,standing and look,one behind the other
 have HWI:=(show Hid (∀N W,N<26 ^ g0.n→Calls Tryz.prog 56 #[.int .i64 (g0.n:Nat),.int .i64 (N:Nat)] W fun e w'=>∃g,e=.returned (.slice (some ⟨g,0,none⟩) g0.n g0.n)∧af w' g 3 (ints g0.n fun i=>((iD g0.n N i:Nat):Int))∧W.heap.size≤g∧Below W.heap.size W w') from fun N W hN=>Cz g0.n N (by omega) hN W)
 have HST:=(show Hid (∀N g W,Below w.heap.size w W→af W g 3 (ints g0.n fun i=>((iD g0.n N i:Nat):Int))→Calls Tryz.prog 55 #[vm,.slice (some ⟨g,0,none⟩) g0.n g0.n] W fun e w'=>∃a b,e=.returned (.agg (mac a b (.slice (some ⟨g,0,none⟩) g0.n g0.n) g0.rf g0.pl))∧cE w' (.agg (mac a b (.slice (some ⟨g,0,none⟩) g0.n g0.n) g0.rf g0.pl)) (gmN g0 N)∧Below W.heap.size W w') from fun N g W hb hr=>by
  refine (xM vm g0 hn1 (by omega) hfit hrl _ g0.n _ W (hm.below hb) (aq.IM hr (by unfold maxLen;omega))).mono ?_
  rintro e w' ⟨v',rfl,h1,⟨a,b,rfl⟩,h2⟩
  exact ⟨a,b,rfl,h1,h2⟩)
 obtain ⟨h,hh⟩:∃h:Hl,h=(⟨g0.n,gs,lg⟩:Hl):=⟨_,rfl⟩
 have HHN:Hid (h.n=g0.n):=by rw[hh];rfl
 rw[←hh] at HLK ⊢
 clear hh
 obtain ⟨a,b,c,rfl,hwh,_,_⟩:=hm
 have h0:=cO.new w a b c g0.rf g0.pl
 obtain ⟨aw,cw,R,rfl,_,_,_⟩:=hwh
 have c0:=h0.row.cell (dj _ _ _ _ _)
 obtain ⟨A0,hA0⟩:∃A0,A0=mac (.slice aw g0.n cw) b c g0.rf g0.pl:=⟨_,rfl⟩
 rw[←hA0] at HST h0 c0 ⊢
 have HA0:=(show Hid (A0=mac (.slice aw g0.n cw) b c g0.rf g0.pl) from hA0)
 have hA0s:A0.size=55:=by rw[hA0,aE]
 clear hfit hrl hA0
 go_enter Tryz.func33,Tryz.ntmps33
 go_upto_region 1 with fail
 have hld:af (w.alloc (.cells A0 27)) w.heap.size 27 A0:=af.new w _ _
 have hbe:=(Below.refl w.heap.size w).alloc (Nat.le_refl _) (.cells A0 27)
 have c0':=hld.cell (i:=0) (v:=.slice aw g0.n cw) (by rw[HA0.out];exact dj _ _ _ _ _)
 generalize w.alloc (.cells A0 27)=W0 at *
 clear h0 c0
 go_wp2_with fail
 clear c0'
 go_loopw [8,18] (fun y x W=>∃j D:Nat,j≤g0.n-1∧D≤676∧x=.int .i64 (j:Nat)∧y=.int .i64 (D:Nat)∧Hid (D=26 ^ j)∧af W w.heap.size 27 A0∧Below w.heap.size w W) (fun _ x _=>((g0.n:Int)-intOf x).toNat)
 case atStart=>exact ⟨0,1,by omega,by omega,rfl,rfl,rfl,hld,hbe⟩
 case round =>
  clear hld hbe
  obtain ⟨j,D,hj,hD,rfl,rfl,HD,hld,hbe⟩:=hrel
  by_cases hlt:j<g0.n-1
  ·have HLT:Hid (j<g0.n-1):=hlt
   have hlt2:(j:Int)<(g0.n:Int)-1:=by omega
   have HDN:Hid (D*26=26 ^ (j+1)):=by rw[Hid,HD.out,Nat.pow_succ]
   have hD26:D*26≤676:=by
    rw[HDN.out]
    exact Nat.le_trans (Nat.pow_le_pow_right (by decide) hlt) hM
   have HR:=(show Hid _ from hld)
   have HB:=(show Hid _ from hbe)
   clear hlt HD hld hbe
   go_wp2
   go_roundw
   case rel=>exact ⟨j+1,D*26,HLT.out,hD26,by go_num,by go_num,HDN.out,HR.out,HB.out⟩
   case measure=>have:=HLT.out;simp[intOf];omega
  ·obtain rfl:j=g0.n-1:=by omega
   have hnn:¬((g0.n-1:Nat):Int)<(g0.n:Int)-1:=by omega
   have HMD:Hid (26 ^ (g0.n-1)=D):=HD.out.symm
   have hMN':26*D=26 ^ g0.n:=by rw[←hMN,HMD.out]
   have HMN:=(show Hid _ from hMN')
   have HHS:=(show Hid (∀i,h.eG k (i+1)=h.eG k i++if h.p (k*D+i)=true then [k*D+i] else []) from fun i=>by rw[Hl.rX,HHN.out,HMD.out])
   have hjI:((g0.n-1:Nat):Int)=(g0.n:Int)-1:=by omega
   clear hlt HD hMN hMN' hM
   rw[hjI]
   have hnn2:¬(g0.n:Int)-1<(g0.n:Int)-1:=by omega
   clear hnn hjI
   go_wp2_with fail
   go_loopw [9,24] (fun o x W=>∃(i:Nat) (u:Value),i≤D∧x=.int .i64 (i:Nat)∧u=o∧HsO W (w.heap.size+1) u (h.eG k i) h∧af W w.heap.size 27 A0∧Below w.heap.size w W) (fun _ x _=>((D:Int)-intOf x).toNat)
   case atStart=>exact ⟨0,_,by omega,rfl,rfl,HsO.nil _ _ _,hld,hbe⟩
   case round =>
    clear hld hbe hnn2
    obtain ⟨i,u,hi,rfl,rfl,hls,hld,hbe⟩:=hrel
    by_cases hlt:i<D
    case neg =>
     obtain rfl:i=D:=by omega
     have hnn:¬((i:Nat):Int)<((i:Nat):Int):=by omega
     have HLS:=(show Hid (HsO wr w.heap.size u (h.eG k (26 ^ (g0.n-1))) h) from by
      rw[Hid,HMD.out]
      exact HsO.mono hls (Nat.le_succ _))
     have HBE:=(show Hid _ from hbe)
     clear hls hld hbe hlt
     go_wp2
     go_ret
     exact ⟨u,by first | rfl | trivial,HLS.out,HBE.out⟩
    have HLT:Hid (i<D):=hlt
    have hlt2:(i:Int)<(D:Int):=by omega
    have hNb:k*D+i<26 ^ g0.n:=by
     have h1:k*D+D≤26*D:=by rw[←Nat.succ_mul];exact Nat.mul_le_mul_right _ hk
     have:=HMN.out
     omega
    have hkD:k*D≤16900:=by
     have:=Nat.mul_le_mul (show k≤25 by omega) hD
     omega
    have HC1:=(show Hid _ from fun W=>HWI.out (k*D+i) W hNb)
    have HC2:=(show Hid _ from HST.out (k*D+i))
    have HC3:=(show Hid _ from HLK.out (k*D+i))
    have HNX:=(show Hid _ from HHS.out i)
    have hlen:=h.vQ k i
    have hkm:((k:Int)*(D:Int))=((k*D:Nat):Int):=by push_cast;rfl
    obtain ⟨NN,hNN⟩:∃NN,NN=k*D+i:=⟨_,rfl⟩
    rw[←hNN] at HC1 HC2 HC3 HNX
    have hNI:((k*D:Nat):Int)+(i:Int)=(NN:Int):=by rw[hNN];push_cast;rfl
    have hNl:NN≤20000:=by omega
    clear hlt hNb hNN
    generalize k*D=KD at *
    generalize h.p NN=y at *
    have HLS:=(show Hid (HsO wr (w.heap.size+1) u (h.eG k i) h) from hls)
    have HLD:=(show Hid (af wr w.heap.size 27 A0) from hld)
    have HBE:=(show Hid (Below w.heap.size w wr) from hbe)
    clear hls hld hbe
    have hzh:=cm nR
    go_upto_region 10 with fail
    go_cut [11,12] (fun p z W=>z=.bool y∧∃q us ug,p=.pointer (some ⟨q,0,none⟩)∧af W q 48 #[us,ug]∧iB W us ug h NN∧Below wr.heap.size wr W)
    case first =>
     refine wp_region_noPanic ?_
     refine wp_region_held_drew (S:=fun W=>Below wr.heap.size wr W) (by kernel_rfl) (Below.refl _ _).drew (fun hS=>?_)
     obtain ⟨Z,hZ⟩:∃x,x=wr.drew:=⟨_,rfl⟩
     rw[←hZ] at hS ⊢
     clear hZ
     refine vtk 0 28 (.func (.func 12) #[] #[.pointer (some ⟨bN,0,none⟩),.pointer (some ⟨bC,0,none⟩)]) rfl (fun W hW=>by clear hS hW;go_simp) hS ?_
     simp only[zsA,zsB,zsC]
     refine vtk 1 29 (.agg A0) rfl (fun W hW=>by have u1:=run_loadVar_row (P:=Tryz.prog) W w.heap.size 27 27 A0 (0,0) _ (af.below HLD.out hW (af.lt HLD.out)) Tryz.underlying27 rfl (by rw[hA0s];exact aF);clear hS hW;simp[execOp,Act.eval,Instr.loadAt,Instr.sureAddr,u1]) hS ?_
     simp only[zsA,zsB,zsC]
     refine vtk 2 30 (.int .i64 (g0.n:Nat)) rfl (fun W hW=>by clear hS hW;go_simp) hS ?_
     simp only[zsA,zsB,zsC]
     refine vtk 3 31 (.int .i64 (k:Nat)) rfl (fun W hW=>by clear hS hW;go_simp) hS ?_
     simp only[zsA,zsB,zsC]
     refine vtk 4 32 (.int .i64 (D:Nat)) rfl (fun W hW=>by clear hS hW;go_simp) hS ?_
     simp only[zsA,zsB,zsC]
     refine vtk 5 33 (.int .i64 (KD:Nat)) rfl (fun W hW=>by have u1:IntKind.i64.wrap ((KD:Nat):Int)=(KD:Int):=(by rw[IntKind.wrap_i64];omega);clear hS hW;simp[execOp,Act.eval,go_sem,hkm,u1]) hS ?_
     simp only[zsA,zsB,zsC]
     refine vtk 6 34 (.int .i64 (i:Nat)) rfl (fun W hW=>by clear hS hW;go_simp) hS ?_
     simp only[zsA,zsB,zsC]
     refine vtk 7 35 (.int .i64 (NN:Nat)) rfl (fun W hW=>by have u1:IntKind.i64.wrap ((NN:Nat):Int)=(NN:Int):=(by rw[IntKind.wrap_i64];omega);clear hS hW;simp[execOp,Act.eval,go_sem,hNI,u1]) hS ?_
     simp only[zsA,zsB,zsC]
     refine wpAnyH_ready (rs:=[8,14]) (by kernel_rfl) (by simp) ?_
     refine AllReadyH.cons (o:=_) rfl (fun K hK=>?_) (AllReadyH.cons (o:=_) rfl (fun K hK=>?_) AllReadyH.nil)
     ·rw[if_pos (by rfl)]
      go_simp
      refine Calls.mono (HC1.out _) ?_
      rintro e Y0 ⟨gw,rfl,hgw,_,hb8⟩
      refine hK.out _ _ (hS.trans (hb8.mono hS.size)) (fun hS1=>?_)
      clear hb8
      clear hK K
      clear hS
      have hS:=hS1
      clear hS1
      refine wpAnyH_ready (rs:=[9,14]) (by kernel_rfl) (by simp) ?_
      refine AllReadyH.cons (o:=_) rfl (fun K hK=>?_) (AllReadyH.cons (o:=_) rfl (fun K hK=>?_) AllReadyH.nil)
      ·rw[if_pos (by rfl)]
       go_simp
       refine Calls.mono (HC2.out gw _ (HBE.out.trans (hS.mono HBE.out.size)) hgw) ?_
       rintro e Y1 ⟨ma,mb,rfl,hmac,hb8⟩
       refine hK.out _ _ (hS.trans (hb8.mono hS.size)) (fun hS1=>?_)
       have HC4:=(show Hid _ from HC3.out ma mb (.slice (some ⟨gw,0,none⟩) g0.n g0.n))
       obtain ⟨A1,hA1⟩:∃A1,A1=mac ma mb (.slice (some ⟨gw,0,none⟩) g0.n g0.n) g0.rf g0.pl:=⟨_,rfl⟩
       rw[←hA1] at hmac HC4 ⊢
       clear hb8 hgw hA1
       clear hK K
       clear hS
       have hS:=hS1
       clear hS1
       refine wpAnyH_ready (rs:=[10,14]) (by kernel_rfl) (by simp) ?_
       refine AllReadyH.cons (o:=_) rfl (fun K hK=>?_) (AllReadyH.cons (o:=_) rfl (fun K hK=>?_) AllReadyH.nil)
       ·rw[if_pos (by rfl)]
        go_simp
        refine Calls.mono (HC4.out _ (HBE.out.trans (hS.mono HBE.out.size)) hmac) ?_
        rintro e Y2 ⟨us,ug,rfl,hlo,hb8⟩
        refine hK.out _ _ (hS.trans (hb8.mono hS.size)) (fun hS1=>?_)
        clear hb8 hmac HC4
        clear hK K
        clear hS
        have hS:=hS1
        clear hS1
        refine vtk 11 27 (.tuple #[.agg #[us,ug],.bool y]) rfl (fun W hW=>by clear hS hW;go_simp) hS ?_
        simp only[zsA,zsB,zsC]
        refine vtk 12 39 (.agg #[us,ug]) rfl (fun W hW=>by clear hS hW;go_simp) hS ?_
        simp only[zsA,zsB,zsC]
        refine vtk 13 40 (.bool y) rfl (fun W hW=>by clear hS hW;go_simp) hS ?_
        simp only[zsA,zsB,zsC]
        refine rd1 14 rfl (fun K hK=>?_)
        go_simp
        have hq:=af.new Y2 48 #[.slice none 0 0,.slice none 0 0]
        have hql:=hS.size
        refine hK.out _ _ (hS.alloc hS.size _) (fun hS1=>?_)
        have hlo1:=hlo.below ((Below.refl Y2.heap.size Y2).alloc (Nat.le_refl _) (.cells #[.slice none 0 0,.slice none 0 0] 48))
        clear hlo
        have hlo:=hlo1
        clear hlo1
        clear hK K
        clear hS
        have hS:=hS1
        clear hS1
        obtain ⟨q,hqq⟩:∃x,x=Y2.heap.size:=⟨_,rfl⟩
        rw[←hqq] at hq hql ⊢
        generalize Y2.alloc (.cells #[.slice none 0 0,.slice none 0 0] 48)=V3 at *
        clear hqq
        have hone:(#[us,ug]:Array Value).all (·.oneCell')=true:=by
         obtain ⟨⟨x1,y1,e1⟩,x2,y2,e2⟩:=hlo.form
         rw[e1,e2];simp[Value.oneCell']
        refine tj 15 _ (by kernel_rfl) rfl (by kernel_rfl) 48 (Operand.tmp 11) (Operand.tmp 39) rfl q #[us,ug] rfl rfl 48 _ hq dJ rfl hone rfl (Below.setRow hS q hql _) (fun hS1=>?_)
        have hq2:=hq.row #[us,ug]
        have hl2:=hlo.set (x:=#[us,ug]) hq
        clear hS hq hlo
        have hS:=hS1
        clear hS1
        refine vtk 16 12 (.bool y) rfl (fun W hW=>by clear hS hW;go_simp) hS ?_
        simp only[zsA,zsB,zsC]
        refine wpAnyH_done (by kernel_rfl) ?_ _
        refine NoPanic.normal ?_
        go_wp2_with fail
        go_meet
        exact ⟨rfl,q,us,ug,rfl,hq2,hl2,hS⟩
       ·rw[if_pos (by rfl)]
        go_simp
        have hq:=af.new Y1 48 #[.slice none 0 0,.slice none 0 0]
        have hql:=hS.size
        refine hK.out _ _ (hS.alloc hS.size _) (fun hS1=>?_)
        have hmac1:=hmac.below ((Below.refl Y1.heap.size Y1).alloc (Nat.le_refl _) (.cells #[.slice none 0 0,.slice none 0 0] 48))
        clear hmac
        have hmac:=hmac1
        clear hmac1
        clear hK K
        clear hS
        have hS:=hS1
        clear hS1
        obtain ⟨q,hqq⟩:∃x,x=Y1.heap.size:=⟨_,rfl⟩
        rw[←hqq] at hq hql ⊢
        generalize Y1.alloc (.cells #[.slice none 0 0,.slice none 0 0] 48)=V2 at *
        clear hqq
        refine rd1 10 rfl (fun K hK=>?_)
        go_simp
        refine Calls.mono (HC4.out _ (HBE.out.trans (hS.mono HBE.out.size)) hmac) ?_
        rintro e Y2a ⟨us,ug,rfl,hlo,hb8⟩
        refine hK.out _ _ (hS.trans (hb8.mono hS.size)) (fun hS1=>?_)
        have hq1:=hq.below hb8 hq.lt
        clear hq
        have hq:=hq1
        clear hq1
        clear hb8 hmac HC4
        clear hK K
        clear hS
        have hS:=hS1
        clear hS1
        refine vtk 11 27 (.tuple #[.agg #[us,ug],.bool y]) rfl (fun W hW=>by clear hS hW;go_simp) hS ?_
        simp only[zsA,zsB,zsC]
        refine vtk 12 39 (.agg #[us,ug]) rfl (fun W hW=>by clear hS hW;go_simp) hS ?_
        simp only[zsA,zsB,zsC]
        refine vtk 13 40 (.bool y) rfl (fun W hW=>by clear hS hW;go_simp) hS ?_
        simp only[zsA,zsB,zsC]
        have hone:(#[us,ug]:Array Value).all (·.oneCell')=true:=by
         obtain ⟨⟨x1,y1,e1⟩,x2,y2,e2⟩:=hlo.form
         rw[e1,e2];simp[Value.oneCell']
        refine tj 15 _ (by kernel_rfl) rfl (by kernel_rfl) 48 (Operand.tmp 11) (Operand.tmp 39) rfl q #[us,ug] rfl rfl 48 _ hq dJ rfl hone rfl (Below.setRow hS q hql _) (fun hS1=>?_)
        have hq2:=hq.row #[us,ug]
        have hl2:=hlo.set (x:=#[us,ug]) hq
        clear hS hq hlo
        have hS:=hS1
        clear hS1
        refine vtk 16 12 (.bool y) rfl (fun W hW=>by clear hS hW;go_simp) hS ?_
        simp only[zsA,zsB,zsC]
        refine wpAnyH_done (by kernel_rfl) ?_ _
        refine NoPanic.normal ?_
        go_wp2_with fail
        go_meet
        exact ⟨rfl,q,us,ug,rfl,hq2,hl2,hS⟩
      ·rw[if_pos (by rfl)]
       go_simp
       have hq:=af.new Y0 48 #[.slice none 0 0,.slice none 0 0]
       have hql:=hS.size
       refine hK.out _ _ (hS.alloc hS.size _) (fun hS1=>?_)
       have hgw1:=hgw.alloc (.cells #[.slice none 0 0,.slice none 0 0] 48)
       clear hgw
       have hgw:=hgw1
       clear hgw1
       clear hK K
       clear hS
       have hS:=hS1
       clear hS1
       obtain ⟨q,hqq⟩:∃x,x=Y0.heap.size:=⟨_,rfl⟩
       rw[←hqq] at hq hql ⊢
       generalize Y0.alloc (.cells #[.slice none 0 0,.slice none 0 0] 48)=V1 at *
       clear hqq
       refine rd1 9 rfl (fun K hK=>?_)
       go_simp
       refine Calls.mono (HC2.out gw _ (HBE.out.trans (hS.mono HBE.out.size)) hgw) ?_
       rintro e Y1a ⟨ma,mb,rfl,hmac,hb8⟩
       refine hK.out _ _ (hS.trans (hb8.mono hS.size)) (fun hS1=>?_)
       have HC4:=(show Hid _ from HC3.out ma mb (.slice (some ⟨gw,0,none⟩) g0.n g0.n))
       obtain ⟨A1,hA1⟩:∃A1,A1=mac ma mb (.slice (some ⟨gw,0,none⟩) g0.n g0.n) g0.rf g0.pl:=⟨_,rfl⟩
       rw[←hA1] at hmac HC4 ⊢
       have hq1:=hq.below hb8 hq.lt
       clear hq
       have hq:=hq1
       clear hq1
       clear hb8 hgw hA1
       clear hK K
       clear hS
       have hS:=hS1
       clear hS1
       refine rd1 10 rfl (fun K hK=>?_)
       go_simp
       refine Calls.mono (HC4.out _ (HBE.out.trans (hS.mono HBE.out.size)) hmac) ?_
       rintro e Y2a ⟨us,ug,rfl,hlo,hb8⟩
       refine hK.out _ _ (hS.trans (hb8.mono hS.size)) (fun hS1=>?_)
       have hq1:=hq.below hb8 hq.lt
       clear hq
       have hq:=hq1
       clear hq1
       clear hb8 hmac HC4
       clear hK K
       clear hS
       have hS:=hS1
       clear hS1
       refine vtk 11 27 (.tuple #[.agg #[us,ug],.bool y]) rfl (fun W hW=>by clear hS hW;go_simp) hS ?_
       simp only[zsA,zsB,zsC]
       refine vtk 12 39 (.agg #[us,ug]) rfl (fun W hW=>by clear hS hW;go_simp) hS ?_
       simp only[zsA,zsB,zsC]
       refine vtk 13 40 (.bool y) rfl (fun W hW=>by clear hS hW;go_simp) hS ?_
       simp only[zsA,zsB,zsC]
       have hone:(#[us,ug]:Array Value).all (·.oneCell')=true:=by
        obtain ⟨⟨x1,y1,e1⟩,x2,y2,e2⟩:=hlo.form
        rw[e1,e2];simp[Value.oneCell']
       refine tj 15 _ (by kernel_rfl) rfl (by kernel_rfl) 48 (Operand.tmp 11) (Operand.tmp 39) rfl q #[us,ug] rfl rfl 48 _ hq dJ rfl hone rfl (Below.setRow hS q hql _) (fun hS1=>?_)
       have hq2:=hq.row #[us,ug]
       have hl2:=hlo.set (x:=#[us,ug]) hq
       clear hS hq hlo
       have hS:=hS1
       clear hS1
       refine vtk 16 12 (.bool y) rfl (fun W hW=>by clear hS hW;go_simp) hS ?_
       simp only[zsA,zsB,zsC]
       refine wpAnyH_done (by kernel_rfl) ?_ _
       refine NoPanic.normal ?_
       go_wp2_with fail
       go_meet
       exact ⟨rfl,q,us,ug,rfl,hq2,hl2,hS⟩
     ·rw[if_pos (by rfl)]
      go_simp
      have hq:=af.new Z 48 #[.slice none 0 0,.slice none 0 0]
      have hql:=hS.size
      refine hK.out _ _ (hS.alloc hS.size _) (fun hS1=>?_)
      clear hK K
      clear hS
      have hS:=hS1
      clear hS1
      obtain ⟨q,hqq⟩:∃x,x=Z.heap.size:=⟨_,rfl⟩
      rw[←hqq] at hq hql ⊢
      generalize Z.alloc (.cells #[.slice none 0 0,.slice none 0 0] 48)=V0 at *
      clear hqq
      refine rd1 8 rfl (fun K hK=>?_)
      go_simp
      refine Calls.mono (HC1.out _) ?_
      rintro e Y0a ⟨gw,rfl,hgw,_,hb8⟩
      refine hK.out _ _ (hS.trans (hb8.mono hS.size)) (fun hS1=>?_)
      have hq1:=hq.below hb8 hq.lt
      clear hq
      have hq:=hq1
      clear hq1
      clear hb8
      clear hK K
      clear hS
      have hS:=hS1
      clear hS1
      refine rd1 9 rfl (fun K hK=>?_)
      go_simp
      refine Calls.mono (HC2.out gw _ (HBE.out.trans (hS.mono HBE.out.size)) hgw) ?_
      rintro e Y1a ⟨ma,mb,rfl,hmac,hb8⟩
      refine hK.out _ _ (hS.trans (hb8.mono hS.size)) (fun hS1=>?_)
      have HC4:=(show Hid _ from HC3.out ma mb (.slice (some ⟨gw,0,none⟩) g0.n g0.n))
      obtain ⟨A1,hA1⟩:∃A1,A1=mac ma mb (.slice (some ⟨gw,0,none⟩) g0.n g0.n) g0.rf g0.pl:=⟨_,rfl⟩
      rw[←hA1] at hmac HC4 ⊢
      have hq1:=hq.below hb8 hq.lt
      clear hq
      have hq:=hq1
      clear hq1
      clear hb8 hgw hA1
      clear hK K
      clear hS
      have hS:=hS1
      clear hS1
      refine rd1 10 rfl (fun K hK=>?_)
      go_simp
      refine Calls.mono (HC4.out _ (HBE.out.trans (hS.mono HBE.out.size)) hmac) ?_
      rintro e Y2a ⟨us,ug,rfl,hlo,hb8⟩
      refine hK.out _ _ (hS.trans (hb8.mono hS.size)) (fun hS1=>?_)
      have hq1:=hq.below hb8 hq.lt
      clear hq
      have hq:=hq1
      clear hq1
      clear hb8 hmac HC4
      clear hK K
      clear hS
      have hS:=hS1
      clear hS1
      refine vtk 11 27 (.tuple #[.agg #[us,ug],.bool y]) rfl (fun W hW=>by clear hS hW;go_simp) hS ?_
      simp only[zsA,zsB,zsC]
      refine vtk 12 39 (.agg #[us,ug]) rfl (fun W hW=>by clear hS hW;go_simp) hS ?_
      simp only[zsA,zsB,zsC]
      refine vtk 13 40 (.bool y) rfl (fun W hW=>by clear hS hW;go_simp) hS ?_
      simp only[zsA,zsB,zsC]
      have hone:(#[us,ug]:Array Value).all (·.oneCell')=true:=by
       obtain ⟨⟨x1,y1,e1⟩,x2,y2,e2⟩:=hlo.form
       rw[e1,e2];simp[Value.oneCell']
      refine tj 15 _ (by kernel_rfl) rfl (by kernel_rfl) 48 (Operand.tmp 11) (Operand.tmp 39) rfl q #[us,ug] rfl rfl 48 _ hq dJ rfl hone rfl (Below.setRow hS q hql _) (fun hS1=>?_)
      have hq2:=hq.row #[us,ug]
      have hl2:=hlo.set (x:=#[us,ug]) hq
      clear hS hq hlo
      have hS:=hS1
      clear hS1
      refine vtk 16 12 (.bool y) rfl (fun W hW=>by clear hS hW;go_simp) hS ?_
      simp only[zsA,zsB,zsC]
      refine wpAnyH_done (by kernel_rfl) ?_ _
      refine NoPanic.normal ?_
      go_wp2_with fail
      go_meet
      exact ⟨rfl,q,us,ug,rfl,hq2,hl2,hS⟩
    case rest =>
     obtain ⟨rfl,q,us,ug,rfl,hq,hlt3,hbw⟩:=hcut
     have hls:=HsO.below HLS.out hbw
     have HR:=(show Hid (af wc w.heap.size 27 A0) from af.below HLD.out hbw (af.lt HLD.out))
     have HB:=(show Hid (Below w.heap.size w wc) from HBE.out.trans (hbw.mono HBE.out.size))
     have HH:=(show Hid (iB wc us ug h NN) from hlt3)
     have hsz:=HB.out.size
     have hrl:=af.lt HR.out
     clear HC1 HC2 HC3 hzh hbw HLS HLD HBE hlt3
     cases y
     ·have HNX2:Hid (h.eG k (i+1)=h.eG k i):=by
       have:=HNX.out
       simp at this
       exact this
      have HL3:=(show Hid _ from hls)
      clear HNX hls hq
      go_wp2
      go_roundw
      case rel=>exact ⟨i+1,u,HLT.out,by go_num,by first | rfl | trivial,by rw[HNX2.out];exact HL3.out,HR.out,HB.out⟩
      case measure=>have:=HLT.out;simp[intOf];omega
     ·have HNX2:Hid (h.eG k (i+1)=h.eG k i++[NN]):=by
       have:=HNX.out
       simp at this
       exact this
      obtain ⟨vs,hown,hvs⟩:=hls
      have HVS:=(show Hid _ from hvs)
      have hone:∀u ∈ ([us,ug]:List Value),u.oneCell'=true:=by
       obtain ⟨⟨x1,y1,e1⟩,x2,y2,e2⟩:=HH.out.form
       intro u hu
       simp at hu
       rcases hu with rfl | rfl
       ·rw[e1];rfl
       ·rw[e2];rfl
      clear HNX hvs
      go_wp2_with (first | refine wpList_load_row rfl 48 _ rfl q rfl 48 #[us,ug] (0,0) _ hq Tryz.underlying48 rfl dJ ?_ | refine qd rfl 29 48 _ rfl 2 #[.slice none 0 0,.slice none 0 0] #[us,ug] rfl (by decide) (by decide) Tryz.underlying29 rfl rfl Bc ?_ | (at_builtin;refine wpList_append_own _ rfl _ _ 29 rfl (w.heap.size+1) 48 i0 (.agg #[.slice none 0 0,.slice none 0 0]) 2 48 Tryz.underlying29 hi0 hz0 hz1 hz2 rfl (by decide) _ _ _ rfl (World.ownsRow.alloc hown _) ⟨wc.heap.size,0,none⟩ 1 1 [us,ug] rfl rfl (cell_two_new _ _ _ _) hone (by unfold maxLen;omega) (by omega) (by simp;omega) ?_;intro v' w1 hown' hgrow _))
      go_roundw
      case rel =>
       have hoa:=World.ownsRow.alloc hown (.cells #[us,ug] 48)
       have hbA:Below wc.heap.size wc (wc.alloc (.cells #[us,ug] 48)):=(Below.refl _ _).alloc (Nat.le_refl _) _
       refine ⟨i+1,v',HLT.out,by go_num,by first | rfl | trivial,?_,?_,?_⟩
       ·rw[HNX2.out]
        refine HsO.more hoa (fun kk N e=>?_) (HH.out.below hbA) hown' hgrow
        obtain ⟨x1,x2,e1,e2,e3⟩:=HVS.out kk N e
        exact ⟨x1,x2,e1,e2,e3.below hbA⟩
       ·refine (hgrow.block w.heap.size (by simp;omega) fun e=>?_).trans (af.alloc HR.out _)
        have:=(World.ownsRow.lt hoa _ e.symm).1
        omega
       ·exact (HB.out.alloc HB.out.size _).grown hgrow (by simp;omega) (fun p hp=>by have:=(World.ownsRow.lt hoa p hp).1;omega)
      case measure=>have:=HLT.out;simp[intOf];omega
end Go.Proofs.YtgacaecjinlhiaaGreatDoor
