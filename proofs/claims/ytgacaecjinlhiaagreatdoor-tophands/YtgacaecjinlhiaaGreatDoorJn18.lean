import Derived.Test.YtgacaecjinlhiaaGreatDoorPz
import Derived.Test.YtgacaecjinlhiaaGreatDoorJn17
namespace Go.Proofs.YtgacaecjinlhiaaGreatDoor
section
open Go.RowKit PK Vg
def Mz (n:Nat) (rf pl:Nat→Nat):Om.Ma:=⟨n,fun _=>noz,fun _=>[],noz,noz,rf,pl⟩
set_option maxRecDepth 100000 in
theorem BO (n:Nat) (rf pl:Nat→Nat):Tryz.prog.built 154 [(1,.int .i64 (n:Nat)),(2,.agg (ints 26 (Pm.up rf))),(3,.agg (ints 26 (Pm.up pl)))]=some (dR (Mz n rf pl) noz 0):=by kernel_rfl
theorem Dk (M:Om.Ma) (at':Nat→Nat):dR (Mz M.n M.rf M.pl) noz 0=dR M at' 0:=bT fun i _=>by
 unfold qN
 by_cases h1:i<320
 ·rw[if_pos h1,if_pos h1,if_neg (by omega),if_neg (by omega)]
 ·rw[if_neg h1,if_neg h1]
  rfl
theorem GB (M:Om.Ma) (at':Nat→Nat) {k:Nat} (hk:k<4):cx (dR M at' k) (k*80) (wlA (M.wi k) (Pm.inv (M.wi k)) (fun c=>(M.no k).contains c) (M.ri k) (at' k)).toList=dR M at' (k+1):=by
 have hl:(wlA (M.wi k) (Pm.inv (M.wi k)) (fun c=>(M.no k).contains c) (M.ri k) (at' k)).toList.length=80:=by rw[Array.length_toList,gW]
 apply Array.ext_getElem?
 intro i
 rw[cY _ _ _ _ (by rw[hl,jR];omega),hl]
 by_cases h:k*80≤i∧i<k*80+80
 ·rw[if_pos h,Array.getElem?_toList]
  unfold wlA dR
  rw[aR _ (by omega),aR _ (by omega)]
  unfold qN
  rw[if_pos (by omega),show i / 80=k by omega,if_pos (by omega),show i % 80=i-k*80 by omega]
 ·rw[if_neg h]
  by_cases h2:i<373
  ·unfold dR
   rw[aR _ h2,aR _ h2]
   unfold qN
   by_cases h1:i<320
   ·rw[if_pos h1,if_pos h1]
    by_cases h3:i / 80<k
    ·rw[if_pos h3,if_pos (by omega)]
    ·rw[if_neg h3,if_neg (by omega)]
   ·rw[if_neg h1,if_neg h1]
  ·rw[Array.getElem?_eq_none (by rw[jR];omega),Array.getElem?_eq_none (by rw[jR];omega)]
structure iq (w W:World) (a b c:Value) (rf pl:Nat→Int) (q:Nat) (A:Array Value):Prop where
 mg:cO w W a b c rf pl
 rot:af W q 154 A
 lt:w.heap.size<q
section
variable {w W W':World} {a b c:Value} {rf pl:Nat→Int} {q:Nat} {A:Array Value}
theorem iq.step (h:iq w W a b c rf pl q A) (hb:Below W.heap.size W W'):iq w W' a b c rf pl q A:=⟨h.mg.step hb,h.rot.below hb h.rot.lt,h.lt⟩
theorem iq.drew (h:iq w W a b c rf pl q A):iq w W.drew a b c rf pl q A:=⟨h.mg.drew,h.rot,h.lt⟩
theorem iq.alloc (h:iq w W a b c rf pl q A) (o:Obj):iq w (W.alloc o) a b c rf pl q A:=⟨h.mg.alloc o,h.rot.alloc o,h.lt⟩
theorem iq.other (h:iq w W a b c rf pl q A) (p:Nat) (hp:w.heap.size<p) (hne:q≠p) (l:Array Value):iq w (W.setRow p l) a b c rf pl q A:=⟨h.mg.setRow p hp l,h.rot.aX _ _ hne,h.lt⟩
theorem iq.lay (h:iq w W a b c rf pl q A) (o:Nat) (l:List Value):iq w (W.setCells q o l) a b c rf pl q (cx A o l):=⟨⟨bu (by have:=h.lt;omega) h.mg.row,cR (by have:=h.lt;omega) h.mg.below⟩,dK h.rot,h.lt⟩
end
theorem qY (A:Array Value) (o:Nat) (l:List Value) (h:o+l.length≤A.size):cx (cx A o l) o l=cx A o l:=by
 apply Array.ext_getElem?
 intro i
 rw[cY l o (cx A o l) i (by rw[iM];exact h)]
 by_cases e:o≤i∧i<o+l.length
 ·rw[if_pos e,cY _ _ _ _ h,if_pos e]
 ·rw[if_neg e]
structure ox (w W:World) (a b c:Value) (rf pl:Nat→Int) (q p7:Nat) (wh:Array Value) (o:Nat) (l:List Value) (B:Array Value):Prop where
 nw:∃A,iq w W a b c rf pl q A∧o+l.length≤A.size∧cx A o l=B
 p:af W p7 104 wh
section
variable {w W W':World} {a b c:Value} {rf pl:Nat→Int} {q p7 o:Nat} {wh B:Array Value} {l:List Value}
theorem ox.mg (h:ox w W a b c rf pl q p7 wh o l B):cO w W a b c rf pl:=by obtain ⟨A,h1,_⟩:=h.nw;exact h1.mg
theorem ox.step (h:ox w W a b c rf pl q p7 wh o l B) (hb:Below W.heap.size W W'):ox w W' a b c rf pl q p7 wh o l B:=by
 obtain ⟨A,h1,h2⟩:=h.nw
 exact ⟨⟨A,h1.step hb,h2⟩,h.p.below hb h.p.lt⟩
theorem ox.there (h:ox w W a b c rf pl q p7 wh o l B):W.there q o l.length:=by
 obtain ⟨A,h1,h2,_⟩:=h.nw
 exact mM h1.rot h2
theorem ox.lay (h:ox w W a b c rf pl q p7 wh o l B) (hne:p7≠q):iq w (W.setCells q o l) a b c rf pl q B∧ox w (W.setCells q o l) a b c rf pl q p7 wh o l B:=by
 obtain ⟨A,h1,h2,h3⟩:=h.nw
 have:=h1.lay o l
 rw[h3] at this
 exact ⟨this,⟨B,this,by rw[←h3,iM];exact h2,by rw[←h3];exact qY A o l h2⟩,bu hne h.p⟩
end
theorem FJ (a b c:Value) (rf pl:Nat→Int) (E:Int) (hE:(E != 0)=true) (w:World) (HW:∀W,Below w.heap.size w W→Calls Tryz.prog 28 #[.agg (mac a b c rf pl)] W fun e w'=>e=.returned (.int .i64 E)∧Below W.heap.size W w'):Calls Tryz.prog 58 #[.agg (mac a b c rf pl)] w fun e w'=>e=.returned (.tuple #[.pointer none,.int .i64 E])∧Below w.heap.size w w':=by
 have h0:=cO.new w a b c rf pl
 have H:=(show Hid _ from HW)
 clear HW
 go_enter Tryz.func58,Tryz.ntmps58
 go_wp2_with (first | refine wpList_load_row rfl 27 _ rfl w.heap.size rfl 27 (mac a b c rf pl) (0,0) _ h0.row Tryz.underlying27 rfl (by rw[aE];exact aF) ?_)
 refine (H.out _ h0.below).mono ?_
 rintro e V ⟨rfl,hb⟩
 have h1:=h0.step hb
 have hbe:=h1.below
 clear hb h0 h1
 go_wp2
 go_ret2
 exact ⟨rfl,hbe⟩
set_option maxRecDepth 100000 in
set_option maxHeartbeats 4000000 in
theorem JM (M:Om.Ma) (hM:Om.Ok M) (vm:Value) (w:World) (hm:cE w vm (gOf M)) (HW:∀W,Below w.heap.size w W→Calls Tryz.prog 28 #[vm] W fun e w'=>e=.returned (.int .i64 0)∧Below W.heap.size W w'):Calls Tryz.prog 58 #[vm] w fun e w'=>∃q,e=.returned (.tuple #[.pointer (some ⟨q,0,none⟩),.int .i64 0])∧w.heap.size≤q∧bn w' q M M.st∧Below w.heap.size w w':=by
 obtain ⟨a,b,c,rfl,hw,hri,hst⟩:=hm
 have hn4:M.n≤4:=hM.most
 have HOK:=(show Hid _ from hM)
 clear hM
 obtain ⟨ad,cap,R,rfl,hmx,hr,hn⟩:=hw
 obtain ⟨ar,cr,rfl,hmr,hcr⟩:=hri
 obtain ⟨az,cz,rfl,hms,hcs⟩:=hst
 have HWH:=(show Hid (∀r,r<M.n→∃b o,ad=some ⟨b,o,none⟩∧w.rangeAt b (o+r*27) (whl (Pm.up (M.wi r)) (R r)).toList) from hr)
 have HNO:=(show Hid (∀r,r<M.n→aq w (R r) (M.no r).length fun k=>((M.no r).getD k 0:Nat)) from hn)
 have HRI:=(show Hid (∀i,i<M.n→∃b o,ar=some ⟨b,o,none⟩∧w.cell? ⟨b,o+i,none⟩=some (.int .i64 (M.ri i:Nat))) from hcr)
 have HST:=(show Hid (∀i,i<M.n→∃b o,az=some ⟨b,o,none⟩∧w.cell? ⟨b,o+i,none⟩=some (.int .i64 (M.st i:Nat))) from hcs)
 have en:(gOf M).n=M.n:=rfl
 have er:(gOf M).rl=M.n:=rfl
 have es:(gOf M).sl=M.n:=rfl
 have ef:(gOf M).rf=Pm.up M.rf:=rfl
 have ep:(gOf M).pl=Pm.up M.pl:=rfl
 rw[en,er,es,ef,ep] at *
 clear hr hn hcr hcs hmx hmr hms
 have h0:=cO.new w (.slice ad M.n cap) (.slice ar M.n cr) (.slice az M.n cz) (Pm.up M.rf) (Pm.up M.pl)
 have H:=(show Hid _ from HW)
 clear HW
 go_enter Tryz.func58,Tryz.ntmps58
 go_wp2_with (first | refine wpList_load_row rfl 27 _ rfl w.heap.size rfl 27 (mac (.slice ad M.n cap) (.slice ar M.n cr) (.slice az M.n cz) (Pm.up M.rf) (Pm.up M.pl)) (0,0) _ h0.row Tryz.underlying27 rfl (by rw[aE];exact aF) ?_)
 refine (H.out _ h0.below).mono ?_
 rintro e V ⟨rfl,hb⟩
 have h1:=h0.step hb
 clear hb h0
 have hc0:=h1.c0
 have hmr:=DV h1.row
 have hmp:=BW h1.row
 go_upto_region 5 with (first | refine aM rfl 25 _ rfl w.heap.size 3 rfl (ints 26 (Pm.up M.rf)) _ hmr Tryz.underlying25 rfl (by rw[ag];exact aj) ?_ | refine aM rfl 25 _ rfl w.heap.size 29 rfl (ints 26 (Pm.up M.pl)) _ hmp Tryz.underlying25 rfl (by rw[ag];exact aj) ?_ | refine dS rfl 154 [(1,.tmp 15),(2,.tmp 17),(3,.tmp 19)] rfl [(1,.int .i64 (M.n:Nat)),(2,.agg (ints 26 (Pm.up M.rf))),(3,.agg (ints 26 (Pm.up M.pl)))] rfl _ (BO M.n M.rf M.pl) ?_)
 have hnw:iq w (V.alloc (.cells (dR (Mz M.n M.rf M.pl) noz 0) 154)) (.slice ad M.n cap) (.slice ar M.n cr) (.slice az M.n cz) (Pm.up M.rf) (Pm.up M.pl) V.heap.size (dR M M.st 0):=⟨h1.alloc _,by rw[←Dk M M.st];exact af.new V _ _,h1.lt⟩
 generalize V.alloc (.cells (dR (Mz M.n M.rf M.pl) noz 0) 154)=U at *
 obtain ⟨q,hq⟩:∃q,q=V.heap.size:=⟨_,rfl⟩
 rw[←hq] at hnw ⊢
 clear hq h1 hc0 hmr hmp
 have hc0:=hnw.mg.c0
 go_wp2_with fail
 go_loopw [25] (fun i W=>∃k:Nat,k≤M.n∧i=.int .i64 (k:Nat)∧iq w W (.slice ad M.n cap) (.slice ar M.n cr) (.slice az M.n cz) (Pm.up M.rf) (Pm.up M.pl) q (dR M M.st k)) (fun i _=>((M.n:Int)-intOf i).toNat)
 case atStart=>exact ⟨0,by omega,rfl,hnw⟩
 case round =>
  clear hnw hc0
  obtain ⟨k,hk,rfl,hg⟩:=hrel
  by_cases hlt:k<M.n
  ·have HLT:Hid (k<4):=(by omega:k<4)
   have HLN:Hid (k<M.n):=hlt
   have HLI:Hid (¬4≤(k:Int)):=(by omega:¬4≤(k:Int))
   obtain ⟨bw,ow,rfl,hrg⟩:=HWH.out k hlt
   obtain ⟨br,or',rfl,hrc⟩:=HRI.out k hlt
   obtain ⟨bz,oz,rfl,hsc⟩:=HST.out k hlt
   have hrg2:=bS hrg hg.mg.below
   have hnk:=HNO.out k hlt
   have HONE:Hid ((R k).oneCell'=true):=by obtain ⟨a',c',e',_⟩:=hnk;rw[Hid,e'];rfl
   have HRC:=(show Hid (∀W,Below w.heap.size w W→W.cell? ⟨br,or'+k,none⟩=some (.int .i64 (M.ri k:Nat))) from fun W hb=>(hb.cell (p:=⟨br,or'+k,none⟩) (aA hrc)).trans hrc)
   have HSC:=(show Hid (∀W,Below w.heap.size w W→W.cell? ⟨bz,oz+k,none⟩=some (.int .i64 (M.st k:Nat))) from fun W hb=>(hb.cell (p:=⟨bz,oz+k,none⟩) (aA hsc)).trans hsc)
   obtain ⟨AW,hAW⟩:∃AW,AW=(wlA (M.wi k) (Pm.inv (M.wi k)) (fun c=>(M.no k).contains c) (M.ri k) (M.st k)):=⟨_,rfl⟩
   have hsz:AW.size=80:=by rw[hAW,gW]
   have hone:AW.all (·.oneCell')=true:=by rw[hAW];exact uu _ _ _ _ _
   have HSZ:=(show Hid _ from hsz)
   have HON:=(show Hid _ from hone)
   have HTU:=(show Hid (∀W,Below w.heap.size w W→Calls Tryz.prog 95 #[.agg (whl (Pm.up (M.wi k)) (R k)),.int .i64 (M.ri k:Nat),.int .i64 (M.st k:Nat)] W fun e w'=>e=.returned (.agg AW)∧Below W.heap.size W w') from fun W hb=>by rw[hAW];exact uQ (M.wi k) (HOK.out.wi k hlt) (R k) (M.no k) (HOK.out.no k hlt) (M.ri k) (M.st k) W (hnk.below hb))
   have hly:=GB M M.st HLT.out
   rw[←hAW] at hly
   have HLAY:=(show Hid _ from hly)
   clear hly hAW hsz hone
   have hz27:=cm fP
   go_upto_region 8 with (first | refine aM rfl 104 _ rfl bw (ow+k*27) rfl (whl (Pm.up (M.wi k)) (R k)) _ hrg2 Tryz.underlying104 rfl (by rw[aH];exact aT) ?_ | refine wpList_store_row rfl 104 _ _ rfl wr.heap.size (whl (Pm.up (M.wi k)) (R k)) rfl rfl 104 _ (af.new wr _ _) (by rw[aH];exact aT) (by simp only[aH]) (eM HONE.out) ?_)
   have hlq:=hg.rot.lt
   have hg2:=(hg.alloc (.cells (whl (fun _=>0) (.slice none 0 0)) 104)).other wr.heap.size hg.mg.lt (by omega) (whl (Pm.up (M.wi k)) (R k))
   have hr7:=(af.new wr 104 (whl (fun _=>0) (.slice none 0 0))).row (whl (Pm.up (M.wi k)) (R k))
   generalize (wr.alloc (.cells (whl (fun _=>0) (.slice none 0 0)) 104)).setRow wr.heap.size (whl (Pm.up (M.wi k)) (R k))=X at *
   obtain ⟨p7,hp7⟩:∃p,p=wr.heap.size:=⟨_,rfl⟩
   have HNE:Hid (p7≠q):=(by omega:p7≠q)
   rw[←hp7] at hr7 ⊢
   have hns:ox w X.drew (.slice (some ⟨bw,ow,none⟩) M.n cap) (.slice (some ⟨br,or',none⟩) M.n cr) (.slice (some ⟨bz,oz,none⟩) M.n cz) (Pm.up M.rf) (Pm.up M.pl) q p7 (whl (Pm.up (M.wi k)) (R k)) (k*80) AW.toList (dR M M.st (k+1)):=⟨⟨_,hg2.drew,by rw[Array.length_toList,HSZ.out,jR];have:=HLT.out;omega,HLAY.out⟩,hr7⟩
   clear hp7 hrg hrg2 hnk hz27 HONE hg hrc hsc hlq
   refine wp_region_noPanic ?_
   refine wp_region_held_drew (S:=fun W=>ox w W (.slice (some ⟨bw,ow,none⟩) M.n cap) (.slice (some ⟨br,or',none⟩) M.n cr) (.slice (some ⟨bz,oz,none⟩) M.n cz) (Pm.up M.rf) (Pm.up M.pl) q p7 (whl (Pm.up (M.wi k)) (R k)) (k*80) AW.toList (dR M M.st (k+1))) (by kernel_rfl) hns (fun hS=>?_)
   refine vtk 0 30 (.pointer (some ⟨q,0,none⟩)) rfl (fun W hW=>by clear hS hW;go_simp) hS ?_
   simp only[zsA,zsB,zsC]
   refine vtk 1 31 (.int .i64 (k:Nat)) rfl (fun W hW=>by clear hS hW;go_simp) hS ?_
   simp only[zsA,zsB,zsC]
   refine vtk 2 32 (.agg (whl (Pm.up (M.wi k)) (R k))) rfl (fun W hW=>by have u:=run_loadVar_row (P:=Tryz.prog) W p7 104 104 (whl (Pm.up (M.wi k)) (R k)) (0,0) _ hW.p Tryz.underlying104 rfl (by rw[aH];exact aT);clear hS hW;simp[execOp,Act.eval,Instr.loadAt,Instr.sureAddr,u]) hS ?_
   simp only[zsA,zsB,zsC]
   refine vtk 3 33 (.pointer (some ⟨w.heap.size,1,none⟩)) rfl (fun W hW=>by clear hS hW;go_simp) hS ?_
   simp only[zsA,zsB,zsC]
   refine vtk 4 34 (.slice (some ⟨br,or',none⟩) M.n cr) rfl (fun W hW=>by have u:=hW.mg.c1;clear hS hW;go_simp) hS ?_
   simp only[zsA,zsB,zsC]
   refine vtk 5 35 (.int .i64 (k:Nat)) rfl (fun W hW=>by clear hS hW;go_simp) hS ?_
   simp only[zsA,zsB,zsC]
   refine vtk 6 36 (.pointer (some ⟨br,or'+k,none⟩)) rfl (fun W hW=>by clear hS hW;go_simp) hS ?_
   simp only[zsA,zsB,zsC]
   refine vtk 7 37 (.int .i64 (M.ri k:Nat)) rfl (fun W hW=>by have u:=HRC.out W hW.mg.below;clear hS hW;go_simp) hS ?_
   simp only[zsA,zsB,zsC]
   refine vtk 8 38 (.pointer (some ⟨w.heap.size,2,none⟩)) rfl (fun W hW=>by clear hS hW;go_simp) hS ?_
   simp only[zsA,zsB,zsC]
   refine vtk 9 39 (.slice (some ⟨bz,oz,none⟩) M.n cz) rfl (fun W hW=>by have u:=hW.mg.c2;clear hS hW;go_simp) hS ?_
   simp only[zsA,zsB,zsC]
   refine vtk 10 40 (.int .i64 (k:Nat)) rfl (fun W hW=>by clear hS hW;go_simp) hS ?_
   simp only[zsA,zsB,zsC]
   refine vtk 11 41 (.pointer (some ⟨bz,oz+k,none⟩)) rfl (fun W hW=>by clear hS hW;go_simp) hS ?_
   simp only[zsA,zsB,zsC]
   refine vtk 12 42 (.int .i64 (M.st k:Nat)) rfl (fun W hW=>by have u:=HSC.out W hW.mg.below;clear hS hW;go_simp) hS ?_
   simp only[zsA,zsB,zsC]
   refine vtk 14 44 (.pointer (some ⟨q,0,none⟩)) rfl (fun W hW=>by clear hS hW;go_simp) hS ?_
   simp only[zsA,zsB,zsC]
   refine vtk 15 45 (.pointer (some ⟨q,0,none⟩)) rfl (fun W hW=>by clear hS hW;go_simp) hS ?_
   simp only[zsA,zsB,zsC]
   refine rd1 13 rfl (fun K hK=>?_)
   go_simp
   refine Calls.mono (HTU.out _ hS.mg.below) ?_
   rintro e Y ⟨rfl,hb8⟩
   refine hK.out _ _ (hS.step hb8) (fun hS1=>?_)
   clear hK hS K
   have hS:=hS1
   clear hS1
   refine vtk 16 46 (.pointer (some ⟨q,k*80,none⟩)) rfl (fun W hW=>by have u:¬4≤(k:Int):=HLI.out;clear hS hW;go_simp) hS ?_
   simp only[zsA,zsB,zsC]
   refine rd1 17 rfl (fun K hK=>?_)
   have hth:=hS.there
   rw[Array.length_toList] at hth
   have hlay:=hS.lay HNE.out
   refine wp_store_mid 151 _ _ rfl q (k*80) AW rfl rfl hth (by rw[HSZ.out];exact gX) HON.out ?_
   refine hK.out _ _ hlay.2 (fun hS1=>?_)
   have hgn:=hlay.1
   clear hK hS K hth hlay
   have hS:=hS1
   clear hS1
   refine wpAnyH_done (by kernel_rfl) ?_ _
   refine NoPanic.normal ?_
   clear hS
   go_wp2_with fail
   go_roundw
   case rel=>exact ⟨k+1,HLN.out,by go_num,hgn⟩
   case measure=>have:=HLN.out;simp[intOf];omega
  ·obtain rfl:k=M.n:=by omega
   have hnl:¬((M.n:Nat):Int)<((M.n:Nat):Int):=by omega
   have hrt:=hg.rot
   have hle:=hg.lt
   have hbe:=hg.mg.below
   clear hg
   go_wp2
   go_ret2
   exact ⟨q,rfl,Nat.le_of_lt hle,⟨hrt,HOK.out,HOK.out.st⟩,hbe⟩
theorem zJ (vm:Value) (g:Gm) (w:World) (hm:cE w vm g):Calls Tryz.prog 58 #[vm] w fun e w'=>(gE g≠0∧e=.returned (.tuple #[.pointer none,.int .i64 (gE g)])∧Below w.heap.size w w')∨(gE g=0∧∃q,e=.returned (.tuple #[.pointer (some ⟨q,0,none⟩),.int .i64 0])∧w.heap.size≤q∧bn w' q (fO g) (fO g).st∧Below w.heap.size w w'):=by
 have HW:=fun W (hb:Below w.heap.size w W)=>tI vm g W (hm.below hb)
 by_cases hg:gE g=0
 ·obtain ⟨hM,hmm⟩:=lW hg
  rw[hg] at HW
  refine (JM _ hM vm w (hmm w vm hm) HW).mono ?_
  intro e w' h
  exact .inr ⟨hg,h⟩
 ·obtain ⟨a,b,c,rfl,_⟩:=hm
  refine (FJ a b c g.rf g.pl _ (by simpa using hg) w HW).mono ?_
  rintro e w' ⟨rfl,hb⟩
  exact .inl ⟨hg,rfl,hb⟩
end
section
open Go.RowKit PK Vg
theorem zN (w:World) (r:Option Nat):w.grownBy w r:=⟨rfl,rfl,rfl,Nat.le_refl _,fun _ _ _=>rfl⟩
theorem Dm {a w w':World} {r:Option Nat} (h:a.grownBy w r) (k:w.grownBy w' r):a.grownBy w' r:=⟨k.os.trans h.os,k.tape.trans h.tape,k.output.trans h.output,Nat.le_trans h.size k.size,fun i hi hne=>(k.block i (Nat.lt_of_lt_of_le hi h.size) hne).trans (h.block i hi hne)⟩
theorem qB {a w:World} {g:Nat} (h:a.grownBy w (some g)) (i:Nat) (v:Value):a.grownBy (w.setCell ⟨g,i,none⟩ v) (some g):=by
 have:=(Below.refl 0 w).setCell (p:=⟨g,i,none⟩) (Nat.zero_le _) v
 exact Dm h ⟨this.os,this.tape,this.output,this.size,fun k _ hne=>heap_setCell_other w ⟨g,i,none⟩ k v (fun e=>hne (by rw[e]))⟩
theorem bn.drewN {w:World} {b:Nat} {M:Om.Ma} {at':Nat→Nat} (h:bn w b M at') (n:Nat):bn (w.drewN n) b M at':=⟨h.row,h.ok,h.ins⟩
theorem vO {a w:World} {r:Option Nat} (h:a.grownBy w r) (n:Nat):a.grownBy (w.drewN n) r:=⟨h.os,h.tape,h.output,h.size,h.block⟩
def StJ (w:World) (b:Nat) (M:Om.Ma) (at':Nat→Nat) (a:Act) (W:World):Prop :=
 ∃(k:Nat) (US:Int) (CB:Bool),k≤M.n∧bn W b M (Om.mid M at' k)∧w.grownBy W (some b)∧CB=Om.car M at' k∧US=(k:Int)-1∧∃(u4 u5 u6 u7 u8 u9 u10 u11 u12 u13 u14 u15 u16 u17 u18 u19 u20 u21 u22 u23 u24 u25 u26 u27 u28 u29 u30 u31 u32 u33 u34 u35 u36 u37 u38 u39 u40 u41 u42 u43 u44 u45 u46:Value),a={ tmps:=#[.pointer (some ⟨b,0,none⟩),undef,.int .i64 US,.bool CB,u4,u5,u6,u7,u8,u9,u10,u11,u12,u13,u14,u15,u16,u17,u18,u19,u20,u21,u22,u23,u24,u25,u26,u27,u28,u29,u30,u31,u32,u33,u34,u35,u36,u37,u38,u39,u40,u41,u42,u43,u44,u45,u46],defers:=[] }
set_option maxRecDepth 1000000 in
set_option maxHeartbeats 8000000 in
theorem wv (b:Nat) (M:Om.Ma) (at':Nat→Nat) (w:World) (h:bn w b M at'):Calls Tryz.prog 59 #[.pointer (some ⟨b,0,none⟩)] w fun e w'=>e=.returned (.tuple #[])∧bn w' b M (Om.step M at')∧w.grownBy w' (some b):=by
 have hn4:=h.ok.most
 have hn1:=h.ok.pos
 have hmany:=h.many
 have HIN:=(show Hid (Om.Ks M at') from h.ins)
 have htop:=Om.GC M at'
 have hrt:bn w b M (Om.mid M at' M.n):=by
  refine ⟨?_,h.ok,fun i hi=>by rw[Om.oO _ _ hi];exact h.ins i hi⟩
  have e:dR M (Om.mid M at' M.n) M.n=dR M at' M.n:=bT fun i _=>by
   unfold qN
   by_cases h1:i<320
   ·rw[if_pos h1,if_pos h1]
    by_cases h2:i / 80<M.n
    ·rw[if_pos h2,if_pos h2,Om.oO _ _ h2]
    ·rw[if_neg h2,if_neg h2]
   ·rw[if_neg h1,if_neg h1]
  rw[e]
  exact h.row
 have hg0:=zN w (some b)
 obtain ⟨n,hn⟩:∃n,M.n=n+1:=⟨M.n-1,by omega⟩
 go_enter Tryz.func59,Tryz.ntmps59
 go_wp2
 refine wp_scope_jumps 0 (StJ w b M at') (fun a' _=>(intOf (a'.tmps.getD 2 undef)+1).toNat) rfl ?_ ?_
 ·go_wp2
  go_step3
  rw[hn] at hrt htop
  have hk:n+1≤M.n:=by omega
  clear h hmany
  generalize w.grownBy w (some b)=X at hg0
  have hw:=hrt.xu (q:=n) (by omega)
  rw[Om.oO _ _ (Nat.lt_succ_self n)] at hw
  have hfr:=hrt.row.frozen (n*80+79)
  have hin:=HIN.out n (by omega)
  have hno:=hrt.no (q:=n) (by omega) hin
  have hcar:=Om.Cc (M:=M) at' (k:=n) (by omega)
  have hturn:=Om.sr M at' n
  have HQ:=(show Hid (Om.turns M at' n=true→∀nq,bn ((w.drewN nq).setCell ⟨b,n*80+79,none⟩ (.int .i64 (((at' n+1) % 26:Nat):Int))) b M (Om.mid M at' n)) from fun ht nq=>by
   have:=(hrt.drewN nq).fK (q:=n) (by omega) (v:=(at' n+1) % 26) (Nat.mod_lt _ (by decide))
   rw[Om.vY ht] at this
   exact this)
  have HS:=(show Hid (Om.turns M at' n=false→∀nq,bn (w.drewN nq) b M (Om.mid M at' n)) from fun ht nq=>by
   have:=hrt.drewN nq
   rw[Om.vK ht] at this
   exact this)
  have HG:=(show Hid (∀nq,w.grownBy (w.drewN nq) (some b)) from fun nq=>vO (zN w _) nq)
  have HK:Hid (n≤M.n):=(by omega:n≤M.n)
  rw[htop] at hturn
  clear hrt htop hg0 X
  generalize Om.turns M at' n=TT at *
  generalize at' n=A at *
  generalize (M.no n).contains A=BB at *
  have e2:((A:Int)+1).tmod 26=(((A+1) % 26:Nat):Int):=by rw[Int.tmod_eq_emod_of_nonneg (by omega)];omega
  generalize (A+1) % 26=A2 at *
  have HC:=(show Hid _ from hcar)
  have HT:=(show Hid _ from hturn)
  clear hcar hturn
  cases BB with
  | true =>
   have HTT:Hid (TT=true):=by rw[Hid,HT.out];simp
   go_upto_region 3 with fail
   go_quiet (fail)
   go_wp2
   go_step3
   refine ⟨rfl,n,_,_,HK.out,HQ.out HTT.out _,qB (HG.out _) _ _,HC.out.symm,?_,_,_,_,_,_,_,_,_,_,_,_,_,_,_,_,_,_,_,_,_,_,_,_,_,_,_,_,_,_,_,_,_,_,_,_,_,_,_,_,_,_,_,_,rfl⟩
   ·rfl
  | false =>
   have HTT:Hid (TT=true):=by rw[Hid,HT.out];simp
   go_upto_region 3 with fail
   go_quiet (fail)
   go_wp2
   go_step3
   refine ⟨rfl,n,_,_,HK.out,HQ.out HTT.out _,qB (HG.out _) _ _,HC.out.symm,?_,_,_,_,_,_,_,_,_,_,_,_,_,_,_,_,_,_,_,_,_,_,_,_,_,_,_,_,_,_,_,_,_,_,_,_,_,_,_,_,_,_,_,_,rfl⟩
   ·rfl
 ·rintro a' W ⟨k,US,CB,hk,hr,hgr,hcb,rfl,u4,u5,u6,u7,u8,u9,u10,u11,u12,u13,u14,u15,u16,u17,u18,u19,u20,u21,u22,u23,u24,u25,u26,u27,u28,u29,u30,u31,u32,u33,u34,u35,u36,u37,u38,u39,u40,u41,u42,u43,u44,u45,u46,rfl⟩
  clear hmany hrt htop hg0 h hn
  cases k with
  | zero =>
   go_wp2
   simp only[Exit.jump]
   rw[Om.GA] at hr
   exact bodyPost_ret (results_none rfl _ _ _) rfl ⟨rfl,hr,hgr⟩
  | succ k =>
   have e1:(((k+1:Nat):Int)-1)=(k:Int):=by omega
   rw[e1]
   clear e1
   have hw:=hr.xu (q:=k) (by omega)
   rw[Om.oO _ _ (Nat.lt_succ_self k)] at hw
   have hfr:=hr.row.frozen (k*80+79)
   have hin:=HIN.out k (by omega)
   have hno:=hr.no (q:=k) (by omega) hin
   have hcar:=Om.Cc (M:=M) at' (k:=k) (by omega)
   have hturn:=Om.sr M at' k
   have HQ:=(show Hid (Om.turns M at' k=true→∀nq,bn ((W.drewN nq).setCell ⟨b,k*80+79,none⟩ (.int .i64 (((at' k+1) % 26:Nat):Int))) b M (Om.mid M at' k)) from fun ht nq=>by
    have:=(hr.drewN nq).fK (q:=k) (by omega) (v:=(at' k+1) % 26) (Nat.mod_lt _ (by decide))
    rw[Om.vY ht] at this
    exact this)
   have HS:=(show Hid (Om.turns M at' k=false→∀nq,bn (W.drewN nq) b M (Om.mid M at' k)) from fun ht nq=>by
    have:=hr.drewN nq
    rw[Om.vK ht] at this
    exact this)
   have HG:=(show Hid (∀nq,w.grownBy (W.drewN nq) (some b)) from fun nq=>vO hgr nq)
   have HK:Hid (k≤M.n):=(by omega:k≤M.n)
   rw[←hcb] at hturn
   clear hr hgr hcb
   generalize Om.turns M at' k=TT at *
   generalize at' k=A at *
   generalize (M.no k).contains A=BB at *
   have e2:((A:Int)+1).tmod 26=(((A+1) % 26:Nat):Int):=by rw[Int.tmod_eq_emod_of_nonneg (by omega)];omega
   generalize (A+1) % 26=A2 at *
   have HC:=(show Hid _ from hcar)
   have HT:=(show Hid _ from hturn)
   clear hcar hturn
   cases CB with
   | true =>
    cases BB with
    | true =>
     have HTT:Hid (TT=true):=by rw[Hid,HT.out];simp
     go_upto_region 3 with fail
     go_quiet (fail)
     go_wp2
     go_step3
     refine ⟨rfl,⟨k,_,_,HK.out,HQ.out HTT.out _,qB (HG.out _) _ _,HC.out.symm,?_,_,_,_,_,_,_,_,_,_,_,_,_,_,_,_,_,_,_,_,_,_,_,_,_,_,_,_,_,_,_,_,_,_,_,_,_,_,_,_,_,_,_,_,rfl⟩,?_⟩
     ·rfl
     ·simp[intOf] <;> omega
    | false =>
     have HTT:Hid (TT=true):=by rw[Hid,HT.out];simp
     go_upto_region 3 with fail
     go_quiet (fail)
     go_wp2
     go_step3
     refine ⟨rfl,⟨k,_,_,HK.out,HQ.out HTT.out _,qB (HG.out _) _ _,HC.out.symm,?_,_,_,_,_,_,_,_,_,_,_,_,_,_,_,_,_,_,_,_,_,_,_,_,_,_,_,_,_,_,_,_,_,_,_,_,_,_,_,_,_,_,_,_,rfl⟩,?_⟩
     ·rfl
     ·simp[intOf] <;> omega
   | false =>
    cases BB with
    | true =>
     by_cases hz:0<k
     ·have hz1:(0:Int)<(k:Int):=by omega
      have HTT:Hid (TT=true):=by rw[Hid,HT.out];simp[hz]
      clear hz
      go_upto_region 3 with fail
      go_quiet (fail)
      go_wp2
      go_step3
      refine ⟨rfl,⟨k,_,_,HK.out,HQ.out HTT.out _,qB (HG.out _) _ _,HC.out.symm,?_,_,_,_,_,_,_,_,_,_,_,_,_,_,_,_,_,_,_,_,_,_,_,_,_,_,_,_,_,_,_,_,_,_,_,_,_,_,_,_,_,_,_,_,rfl⟩,?_⟩
      ·rfl
      ·simp[intOf] <;> omega
     ·have hz1:¬(0:Int)<(k:Int):=by omega
      have HTT:Hid (TT=false):=by rw[Hid,HT.out];simp[hz]
      clear hz
      go_upto_region 3 with fail
      go_quiet (fail)
      go_wp2
      go_step3
      refine ⟨rfl,⟨k,_,_,HK.out,HS.out HTT.out _,HG.out _,HC.out.symm,?_,_,_,_,_,_,_,_,_,_,_,_,_,_,_,_,_,_,_,_,_,_,_,_,_,_,_,_,_,_,_,_,_,_,_,_,_,_,_,_,_,_,_,_,rfl⟩,?_⟩
      ·rfl
      ·simp[intOf] <;> omega
    | false =>
     have HTT:Hid (TT=false):=by rw[Hid,HT.out];simp
     go_upto_region 3 with fail
     go_quiet (fail)
     go_wp2
     go_step3
     refine ⟨rfl,⟨k,_,_,HK.out,HS.out HTT.out _,HG.out _,HC.out.symm,?_,_,_,_,_,_,_,_,_,_,_,_,_,_,_,_,_,_,_,_,_,_,_,_,_,_,_,_,_,_,_,_,_,_,_,_,_,_,_,_,_,_,_,_,rfl⟩,?_⟩
     ·rfl
     ·simp[intOf] <;> omega
end
section
open Go.RowKit PK Vg
structure mT (w W:World) (b:Nat) (M:Om.Ma) (at':Nat→Nat):Prop where
 rot:bn W b M at'
 below:Below w.heap.size w W
section
variable {w W W':World} {b:Nat} {M:Om.Ma} {at':Nat→Nat}
theorem mT.new (h:bn w b M at'):mT w w b M at':=⟨h,Below.refl _ _⟩
theorem mT.step (h:mT w W b M at') (hb:Below W.heap.size W W'):mT w W' b M at':=⟨h.rot.below hb,h.below.trans (hb.mono h.below.size)⟩
theorem mT.drew (h:mT w W b M at'):mT w W.drew b M at':=⟨h.rot.drew,h.below.drew⟩
end
theorem Om.tY {M:Om.Ma} (at':Nat→Nat) {k:Nat} (hk:k<M.n) (x:Nat):Om.eX (M.wi k) (Om.by' M at' k) (Om.through M at' (M.n-(k+1)) x)=Om.through M at' (M.n-k) x:=by
 rw[show M.n-k=(M.n-(k+1))+1 by omega]
 show _=Om.eX (M.wi (M.n-1-(M.n-(k+1)))) (Om.by' M at' (M.n-1-(M.n-(k+1)))) (Om.through M at' (M.n-(k+1)) x)
 rw[show M.n-1-(M.n-(k+1))=k by omega]
set_option maxRecDepth 100000 in
set_option maxHeartbeats 4000000 in
theorem nO (b:Nat) (M:Om.Ma) (at':Nat→Nat) (c:Nat) (hc:c<26) (w:World) (h:bn w b M at'):Calls Tryz.prog 88 #[.pointer (some ⟨b,0,none⟩),.int .i64 (c:Nat)] w fun e w'=>e=.returned (.int .i64 (Om.now M at' c:Nat))∧Below w.heap.size w w':=by
 have hn4:=h.ok.most
 have hmany:=h.many
 have hpl:=h.J4 hc
 have hlt:=h.ok.pl.1 c hc
 have HOK:=(show Hid (Om.Ok M) from h.ok)
 have HNOW:=(show Hid _ from Om.Jz h.ok at' hc)
 generalize Om.now M at' c=E at *
 generalize M.pl c=P1 at *
 have HP1:Hid (P1<26):=hlt
 have h0:=mT.new h
 clear h
 go_enter Tryz.func88,Tryz.ntmps88
 go_wp2_with fail
 go_loopw [5,1] (fun i x W=>∃k:Nat,k≤M.n∧i=.int .i64 ((k:Int)-1)∧x=.int .i64 (Om.through M at' (M.n-k) P1:Nat)∧mT w W b M at') (fun i _ _=>(intOf i+1).toNat)
 case atStart=>exact ⟨M.n,by omega,rfl,by rw[Nat.sub_self];rfl,h0⟩
 case round =>
  clear h0 hmany hpl hlt
  obtain ⟨k,hk,rfl,rfl,hg⟩:=hrel
  cases k with
  | zero =>
   have e0:(((0:Nat):Int)-1)=-1:=rfl
   rw[e0]
   clear e0
   have h1:=Om.pH (M:=M) at' HP1.out M.n
   have HT:=(show Hid (E=M.pl (Om.bk M at' M.n (M.rf (Om.through M at' M.n P1)))) from HNOW.out)
   rw[Nat.sub_zero]
   generalize Om.through M at' M.n P1=T1 at *
   have hrf:=hg.rot.refl h1
   have hr1:=HOK.out.rf.1 _ h1
   have hmany:=hg.rot.many
   generalize M.rf T1=R1 at *
   have HR1:Hid (R1<26):=hr1
   have hg0:=hg
   clear hg hr1
   go_wp2_with fail
   go_loopw [46,1] (fun i x W=>∃k:Nat,k≤M.n∧i=.int .i64 (k:Nat)∧x=.int .i64 (Om.bk M at' k R1:Nat)∧mT w W b M at') (fun i _ _=>((M.n:Int)-intOf i).toNat)
   case atStart=>exact ⟨0,by omega,rfl,rfl,hg0⟩
   case round =>
    clear hg0 hmany hrf h1
    obtain ⟨k,hk,rfl,rfl,hg⟩:=hrel
    by_cases hlt:k<M.n
    ·have HLT:Hid (k<M.n):=hlt
     have HC:Hid (Om.bk M at' k R1<26):=Om.za at' HR1.out k
     have HPL:=(show Hid (∀c,c<26→Pm.inv (M.wi k) c<26) from (HOK.out.wi k hlt).inv.1)
     have HNX:=(show Hid (Om.eX (Pm.inv (M.wi k)) (Om.by' M at' k) (Om.bk M at' k R1)=Om.bk M at' (k+1) R1) from rfl)
     generalize Om.bk M at' k R1=C at *
     go_upto_region 12 with fail
     refine wp_region_noPanic ?_
     refine wp_region_held_drew (S:=fun W=>mT w W b M at') (by kernel_rfl) hg.drew (fun hS=>?_)
     refine vtk 0 54 (.pointer (some ⟨b,k*80,none⟩)) rfl (fun W hW=>by clear hS hW;go_simp) hS ?_
     simp only[zsA,zsB,zsC]
     refine vtk 1 55 (.pointer (some ⟨b,k*80,none⟩)) rfl (fun W hW=>by clear hS hW;go_simp) hS ?_
     simp only[zsA,zsB,zsC]
     refine vtk 2 56 (.pointer (some ⟨b,k*80+26,none⟩)) rfl (fun W hW=>by clear hS hW;go_simp) hS ?_
     simp only[zsA,zsB,zsC]
     refine vtk 3 57 (.pointer (some ⟨b,k*80,none⟩)) rfl (fun W hW=>by clear hS hW;go_simp) hS ?_
     simp only[zsA,zsB,zsC]
     refine vtk 5 59 (.int .i64 (C:Nat)) rfl (fun W hW=>by clear hS hW;go_simp) hS ?_
     simp only[zsA,zsB,zsC]
     refine rd1 4 rfl (fun K hK=>?_)
     go_simp
     refine Calls.mono (Fc b k M at' HLT.out _ hS.rot) ?_
     rintro e Y ⟨rfl,hb8⟩
     refine hK.out _ _ (hS.step hb8) (fun hS1=>?_)
     clear hK hS K
     have hS:=hS1
     clear hS1
     refine rd1 6 rfl (fun K hK=>?_)
     go_simp
     refine Calls.mono (zM b (k*80+26) (Pm.inv (M.wi k)) (Om.by' M at' k) C (Om.zw _ _ _) HC.out HPL.out _ (fun _ h=>hS.rot.back HLT.out h)) ?_
     rintro e Y ⟨rfl,rfl⟩
     refine hK.out _ _ (hS) (fun hS1=>?_)
     clear hK hS K
     have hS:=hS1
     clear hS1
     refine vtk 7 1 (.int .i64 (Om.eX (Pm.inv (M.wi k)) (Om.by' M at' k) C:Nat)) rfl (fun W hW=>by clear hS hW;go_simp) hS ?_
     simp only[zsA,zsB,zsC]
     refine wpAnyH_done (by kernel_rfl) ?_ _
     refine NoPanic.normal ?_
     go_wp2_with fail
     go_roundw
     case rel=>exact ⟨k+1,HLT.out,by go_num,by rw[HNX.out],hS⟩
     case measure=>have:=HLT.out;simp[intOf];omega
    ·obtain rfl:k=M.n:=by omega
     have hnl:¬((M.n:Nat):Int)<((M.n:Nat):Int):=by omega
     have hB:=Om.za (M:=M) at' HR1.out M.n
     generalize Om.bk M at' M.n R1=B1 at *
     have hpl:=hg.rot.J4 hB
     have hbe:=hg.below
     clear hg
     go_wp2
     go_ret
     exact ⟨by rw[HT.out];rfl,hbe⟩
  | succ k =>
   have hlt:k<M.n:=by omega
   have HLT:Hid (k<M.n):=hlt
   have HNX:=(show Hid _ from Om.tY at' hlt P1)
   have HC:Hid (Om.through M at' (M.n-(k+1)) P1<26):=Om.pH at' HP1.out _
   have HPL:=(show Hid (∀c,c<26→M.wi k c<26) from (HOK.out.wi k hlt).1)
   generalize Om.through M at' (M.n-(k+1)) P1=C at *
   have e1:(((k+1:Nat):Int)-1)=(k:Int):=by omega
   rw[e1]
   clear e1
   go_upto_region 6 with fail
   refine wp_region_noPanic ?_
   refine wp_region_held_drew (S:=fun W=>mT w W b M at') (by kernel_rfl) hg.drew (fun hS=>?_)
   refine vtk 0 29 (.pointer (some ⟨b,k*80,none⟩)) rfl (fun W hW=>by clear hS hW;go_simp) hS ?_
   simp only[zsA,zsB,zsC]
   refine vtk 1 30 (.pointer (some ⟨b,k*80,none⟩)) rfl (fun W hW=>by clear hS hW;go_simp) hS ?_
   simp only[zsA,zsB,zsC]
   refine vtk 2 31 (.pointer (some ⟨b,k*80,none⟩)) rfl (fun W hW=>by clear hS hW;go_simp) hS ?_
   simp only[zsA,zsB,zsC]
   refine vtk 3 32 (.pointer (some ⟨b,k*80,none⟩)) rfl (fun W hW=>by clear hS hW;go_simp) hS ?_
   simp only[zsA,zsB,zsC]
   refine vtk 5 34 (.int .i64 (C:Nat)) rfl (fun W hW=>by clear hS hW;go_simp) hS ?_
   simp only[zsA,zsB,zsC]
   refine rd1 4 rfl (fun K hK=>?_)
   go_simp
   refine Calls.mono (Fc b k M at' HLT.out _ hS.rot) ?_
   rintro e Y ⟨rfl,hb8⟩
   refine hK.out _ _ (hS.step hb8) (fun hS1=>?_)
   clear hK hS K
   have hS:=hS1
   clear hS1
   refine rd1 6 rfl (fun K hK=>?_)
   go_simp
   refine Calls.mono (zM b (k*80) (M.wi k) (Om.by' M at' k) C (Om.zw _ _ _) HC.out HPL.out _ (fun _ h=>hS.rot.there HLT.out h)) ?_
   rintro e Y ⟨rfl,rfl⟩
   refine hK.out _ _ (hS) (fun hS1=>?_)
   clear hK hS K
   have hS:=hS1
   clear hS1
   refine vtk 7 1 (.int .i64 (Om.eX (M.wi k) (Om.by' M at' k) C:Nat)) rfl (fun W hW=>by clear hS hW;go_simp) hS ?_
   simp only[zsA,zsB,zsC]
   refine wpAnyH_done (by kernel_rfl) ?_ _
   refine NoPanic.normal ?_
   go_wp2_with fail
   go_roundw
   case rel=>exact ⟨k,by have:=HLT.out;omega,rfl,by rw[HNX.out],hS⟩
   case measure=>simp[intOf]
end
end Go.Proofs.YtgacaecjinlhiaaGreatDoor
