import Derived.Test.YtgacaecjinlhiaaGreatDoorJn21
namespace Go.Proofs.YtgacaecjinlhiaaGreatDoor
open Go.RowKit PK Vg
structure Sd3 (w W:World) (a b c:Value) (rf pl:Nat→Int) (x y z:Value):Prop where
 mg:cO w W a b c rf pl
 res:af W (w.heap.size+1) 27 (mac (.slice none 0 0) (.slice none 0 0) (.slice none 0 0) (fun _=>0) (fun _=>0))
 out:af W (w.heap.size+2) 27 (mac x y z rf pl)
section
variable {w W W':World} {a b c x y z v:Value} {rf pl:Nat→Int}
theorem Sd3.new (w:World) (a b c:Value) (rf pl:Nat→Int):Sd3 w ((((w.alloc (.cells (mac a b c rf pl) 27)).alloc (.cells (mac (.slice none 0 0) (.slice none 0 0) (.slice none 0 0) (fun _=>0) (fun _=>0)) 27)).alloc (.cells (mac (.slice none 0 0) (.slice none 0 0) (.slice none 0 0) (fun _=>0) (fun _=>0)) 27)).setRow (w.heap.size+2) (mac a b c rf pl)) a b c rf pl a b c:=by
 have h1:=cO.new w a b c rf pl
 have h2:=af.new (w.alloc (.cells (mac a b c rf pl) 27)) 27 (mac (.slice none 0 0) (.slice none 0 0) (.slice none 0 0) (fun _=>0) (fun _=>0))
 rw[World.size_alloc] at h2
 have h3:=af.new ((w.alloc (.cells (mac a b c rf pl) 27)).alloc (.cells (mac (.slice none 0 0) (.slice none 0 0) (.slice none 0 0) (fun _=>0) (fun _=>0)) 27)) 27 (mac (.slice none 0 0) (.slice none 0 0) (.slice none 0 0) (fun _=>0) (fun _=>0))
 rw[World.size_alloc,World.size_alloc] at h3
 have hm:=(h1.alloc (.cells (mac (.slice none 0 0) (.slice none 0 0) (.slice none 0 0) (fun _=>0) (fun _=>0)) 27)).alloc (.cells (mac (.slice none 0 0) (.slice none 0 0) (.slice none 0 0) (fun _=>0) (fun _=>0)) 27)
 exact ⟨⟨hm.row.aX _ _ (by omega),Below.setRow hm.below _ (by omega) _⟩,(h2.alloc _).aX _ _ (by omega),h3.row _⟩
theorem Sd3.step (h:Sd3 w W a b c rf pl x y z) (hb:Below W.heap.size W W'):Sd3 w W' a b c rf pl x y z:=⟨h.mg.step hb,h.res.below hb h.res.lt,h.out.below hb h.out.lt⟩
theorem Sd3.ES (h:Sd3 w W a b c rf pl x y z) (v:Value):Sd3 w (W.setCell ⟨w.heap.size+2,2,none⟩ v) a b c rf pl x y v:=by
 refine ⟨⟨h.mg.row.setOther _ _ (by show w.heap.size≠w.heap.size+2;omega),h.mg.below.setCell (p:=⟨w.heap.size+2,2,none⟩) (by show w.heap.size≤w.heap.size+2;omega) _⟩,h.res.setOther _ _ (by show w.heap.size+1≠w.heap.size+2;omega),?_⟩
 have:=h.out.set 2 v
 rw[Da] at this
 exact this
theorem Sd3.JK (h:Sd3 w W a b c rf pl x y z) (v:Value):Sd3 w (W.setCell ⟨w.heap.size+2,1,none⟩ v) a b c rf pl x v z:=by
 refine ⟨⟨h.mg.row.setOther _ _ (by show w.heap.size≠w.heap.size+2;omega),h.mg.below.setCell (p:=⟨w.heap.size+2,1,none⟩) (by show w.heap.size≤w.heap.size+2;omega) _⟩,h.res.setOther _ _ (by show w.heap.size+1≠w.heap.size+2;omega),?_⟩
 have:=h.out.set 1 v
 rw[D3] at this
 exact this
theorem Sd3.Cg (h:Sd3 w W a b c rf pl x y z) (v:Value):Sd3 w (W.setCell ⟨w.heap.size+2,0,none⟩ v) a b c rf pl v y z:=by
 refine ⟨⟨h.mg.row.setOther _ _ (by show w.heap.size≠w.heap.size+2;omega),h.mg.below.setCell (p:=⟨w.heap.size+2,0,none⟩) (by show w.heap.size≤w.heap.size+2;omega) _⟩,h.res.setOther _ _ (by show w.heap.size+1≠w.heap.size+2;omega),?_⟩
 have:=h.out.set 0 v
 rw[C3] at this
 exact this
theorem Sd3.other (h:Sd3 w W a b c rf pl x y z) {g:Nat} (hg:w.heap.size+2<g) (i:Nat) (v:Value):Sd3 w (W.setCell ⟨g,i,none⟩ v) a b c rf pl x y z :=
 ⟨⟨h.mg.row.setOther _ _ (by show w.heap.size≠g;omega),h.mg.below.setCell (p:=⟨g,i,none⟩) (by show w.heap.size≤g;omega) _⟩,h.res.setOther _ _ (by show w.heap.size+1≠g;omega),h.out.setOther _ _ (by show w.heap.size+2≠g;omega)⟩
theorem Sd3.drew (h:Sd3 w W a b c rf pl x y z):Sd3 w W.drew a b c rf pl x y z:=⟨⟨h.mg.row,h.mg.below.drew⟩,h.res,h.out⟩
end
theorem dU {W:World} {v:Value} {n:Nat} {f:Nat→Int} (h:aq W v n f) (p:Addr) (u:Value) (hp:∀b o cap,v=.slice (some ⟨b,o,none⟩) n cap→0<n→b≠p.block):aq (W.setCell p u) v n f:=by
 obtain ⟨a,cap,h1,h2,h3⟩:=h
 refine ⟨a,cap,h1,h2,fun c hc=>?_⟩
 obtain ⟨b,o,e,hcell⟩:=h3 c hc
 refine ⟨b,o,e,?_⟩
 have hne:=hp b o cap (by rw[h1,e]) (by omega)
 unfold World.cell? at hcell ⊢
 rw[heap_setCell_other W p b u hne]
 exact hcell
def nwR (k:Nat) (N R:Nat→Value) (r:Nat):Value:=if r<k then N r else R r
theorem CQ {wi:Nat→Nat→Int} {N R:Nat→Value} {n k:Nat} {cur:Array Value} {v:Value} (hk:k<n) (hs:n*27≤cur.size) (hc:∀i,i<n*27→cur[i]? = some (whC wi (nwR k N R) i)):∀i,i<n*27→(cur.setIfInBounds (k*27+26) v)[i]? = some (whC wi (nwR (k+1) (fun r=>if r=k then v else N r) R) i):=fun i hi=>by
 rw[Array.getElem?_setIfInBounds]
 by_cases e:k*27+26=i
 ·rw[if_pos e,if_pos (by omega)]
  unfold whC nwR
  rw[←e,show (k*27+26) % 27=26 by omega,show (k*27+26) / 27=k by omega,if_neg (by decide),if_pos (by omega)]
  dsimp only
  rw[if_pos rfl]
 ·rw[if_neg e,hc i hi]
  unfold whC
  by_cases h1:i % 27<26
  ·rw[if_pos h1,if_pos h1]
  ·rw[if_neg h1,if_neg h1]
   unfold nwR
   have hne:i / 27≠k:=by omega
   by_cases h2:i / 27<k
   ·rw[if_pos h2,if_pos (by omega)]
    dsimp only
    rw[if_neg hne]
   ·rw[if_neg h2,if_neg (by omega)]
structure SdS (w W:World) (a b c:Value) (rf pl:Nat→Int) (y z:Value) (wi:Nat→Nat→Int) (R:Nat→Value) (nl:Nat→Nat) (no:Nat→Nat→Int) (rl:Nat) (ri:Nat→Int) (g n cp k:Nat):Prop where
 s3:Sd3 w W a b c rf pl (.slice (some ⟨g,0,none⟩) n cp) y z
 lt:w.heap.size+2<g
 ex:∃(cur:Array Value) (N:Nat→Value),af W g 104 cur∧n*27≤cur.size∧(∀i,i<n*27→cur[i]? = some (whC wi (nwR k N R) i))∧∀r,r<k→aq W (N r) (nl r) (no r)∧∀b o cap,N r=.slice (some ⟨b,o,none⟩) (nl r) cap→0<nl r→b≠g∧b≠w.heap.size+1
 rings:aq W y rl ri
 yf:∀b o cap,y=.slice (some ⟨b,o,none⟩) rl cap→0<rl→b≠g
 uo:∀b o cap,y=.slice (some ⟨b,o,none⟩) rl cap→0<rl→b≠w.heap.size+1
theorem SdS.step {w W W':World} {a b c:Value} {rf pl:Nat→Int} {y z:Value} {wi:Nat→Nat→Int} {R:Nat→Value} {nl:Nat→Nat} {no:Nat→Nat→Int} {rl:Nat} {ri:Nat→Int} {g n cp k:Nat} (h:SdS w W a b c rf pl y z wi R nl no rl ri g n cp k) (hb:Below W.heap.size W W'):SdS w W' a b c rf pl y z wi R nl no rl ri g n cp k:=by
 obtain ⟨h1,h2,⟨cur,N,k1,k2,k3,k4⟩,h4,h5,h6⟩:=h
 exact ⟨h1.step hb,h2,⟨cur,N,k1.below hb k1.lt,k2,k3,fun r hr=>⟨(k4 r hr).1.below hb,(k4 r hr).2⟩⟩,h4.below hb,h5,h6⟩
theorem SdS.drew {w W:World} {a b c:Value} {rf pl:Nat→Int} {y z:Value} {wi:Nat→Nat→Int} {R:Nat→Value} {nl:Nat→Nat} {no:Nat→Nat→Int} {rl:Nat} {ri:Nat→Int} {g n cp k:Nat} (h:SdS w W a b c rf pl y z wi R nl no rl ri g n cp k):SdS w W.drew a b c rf pl y z wi R nl no rl ri g n cp k:=⟨h.s3.drew,h.lt,h.ex,h.rings,h.yf,h.uo⟩
theorem oE {P:Program} {fn:Func} {p:Tmp} {ty:TypeId} (h:fn.results=#[.cell p ty]) (tmps:Array Value) (w:World) (g:Nat) (t:TypeId) (cs:Array Value) (fr:Nat × Nat) (d:TypeDesc)
  (hp:tmps.getD p undef=.pointer (some ⟨g,0,none⟩)) (hg:w.heap[g]? = some (.cells cs t fr))
  (hu:P.underlying ty=some d) (hd:(match d with | .struct _ | .array _ _=>true | _=>false)=true) (hi:(P.info? ty).map (·.size)=some cs.size) :
  (results fn tmps).run P w=.ok (.agg cs) w:=by
 have hp':tmps[p]?.getD undef=.pointer (some ⟨g,0,none⟩):=by simpa using hp
 simp[results,h,hp',asAddr,run_loadVar_row w g t ty cs fr d hg hu hd hi]
set_option maxRecDepth 100000 in
set_option maxHeartbeats 8000000 in
theorem xM (vm:Value) (g0:Gm) (hn1:1≤g0.n) (hn4:g0.n≤4) (hfit:∀r,r<g0.n→g0.nl r*8≤140737488355328) (hrl:g0.rl*8≤140737488355328) (vs:Value) (m:Nat) (f:Nat→Int) (w:World) (hm:cE w vm g0) (hs:aq w vs m f) :
  Calls Tryz.prog 55 #[vm,vs] w fun e w'=>∃v',e=.returned v'∧cE w' v' { g0 with sl:=m,st:=f }∧(∃a b,v'=.agg (mac a b vs g0.rf g0.pl))∧Below w.heap.size w w':=by
 obtain ⟨a,b,c,rfl,hwh,hri,hst⟩:=hm
 have HSS:=(show Hid (aq w vs m f) from hs)
 obtain ⟨as0,cs0,rfl,_,_⟩:=hs
 obtain ⟨ac,cc,rfl,_,_⟩:=hst
 have HRI:=(show Hid (aq w b g0.rl g0.ri) from hri)
 obtain ⟨ar,cr,rfl,_,_⟩:=hri
 obtain ⟨aw,cw,R,rfl,_,hrw,hno⟩:=hwh
 obtain ⟨bw,ow,rfl,_⟩:=hrw 0 hn1
 have HRW:=(show Hid (∀r,r<g0.n→w.rangeAt bw (ow+r*27) (whl (g0.wi r) (R r)).toList) from fun r hr=>by
  obtain ⟨b',o',e,h⟩:=hrw r hr
  cases e
  exact h)
 have HNO:=(show Hid (∀r,r<g0.n→aq w (R r) (g0.nl r) (g0.no r)) from hno)
 have HR1:=(show Hid (∀r,r<g0.n→(R r).oneCell'=true) from fun r hr=>by
  obtain ⟨x,y,e,_⟩:=hno r hr
  rw[e];rfl)
 have h0:=Sd3.new w (.slice (some ⟨bw,ow,none⟩) g0.n cw) (.slice ar g0.rl cr) (.slice ac g0.sl cc) g0.rf g0.pl
 have hzm:=cm xI
 have hm0:=cO.new w (.slice (some ⟨bw,ow,none⟩) g0.n cw) (.slice ar g0.rl cr) (.slice ac g0.sl cc) g0.rf g0.pl
 have hone:=wF (a:=.slice (some ⟨bw,ow,none⟩) g0.n cw) (b:=.slice ar g0.rl cr) (c:=.slice ac g0.sl cc) (rf:=g0.rf) (pl:=g0.pl) rfl rfl rfl
 have HFIT:=(show Hid _ from hfit)
 have HRL:=(show Hid _ from hrl)
 clear hrw hno hfit hrl
 have h2r:=af.new ((w.alloc (.cells (mac (.slice (some ⟨bw,ow,none⟩) g0.n cw) (.slice ar g0.rl cr) (.slice ac g0.sl cc) g0.rf g0.pl) 27)).alloc (.cells (mac (.slice none 0 0) (.slice none 0 0) (.slice none 0 0) (fun _=>0) (fun _=>0)) 27)) 27 (mac (.slice none 0 0) (.slice none 0 0) (.slice none 0 0) (fun _=>0) (fun _=>0))
 rw[World.size_alloc,World.size_alloc] at h2r
 have hmr:=((hm0.alloc (.cells (mac (.slice none 0 0) (.slice none 0 0) (.slice none 0 0) (fun _=>0) (fun _=>0)) 27)).row)
 go_enter Tryz.func55,Tryz.ntmps55
 go_upto_region 2 with (first | refine wpList_load_row rfl 27 _ rfl w.heap.size rfl 27 (mac (.slice (some ⟨bw,ow,none⟩) g0.n cw) (.slice ar g0.rl cr) (.slice ac g0.sl cc) g0.rf g0.pl) (0,0) _ hmr Tryz.underlying27 rfl (by rw[aE];exact aF) ?_ | refine wpList_store_row rfl 27 _ _ rfl (w.heap.size+2) (mac (.slice (some ⟨bw,ow,none⟩) g0.n cw) (.slice ar g0.rl cr) (.slice ac g0.sl cc) g0.rf g0.pl) rfl rfl 27 _ h2r (by rw[aE];exact aF) (by simp only[aE]) hone ?_)
 rw[show w.heap.size+1+1=w.heap.size+2 from rfl]
 generalize (((w.alloc (.cells (mac (.slice (some ⟨bw,ow,none⟩) g0.n cw) (.slice ar g0.rl cr) (.slice ac g0.sl cc) g0.rf g0.pl) 27)).alloc (.cells (mac (.slice none 0 0) (.slice none 0 0) (.slice none 0 0) (fun _=>0) (fun _=>0)) 27)).alloc (.cells (mac (.slice none 0 0) (.slice none 0 0) (.slice none 0 0) (fun _=>0) (fun _=>0)) 27)).setRow (w.heap.size+2) (mac (.slice (some ⟨bw,ow,none⟩) g0.n cw) (.slice ar g0.rl cr) (.slice ac g0.sl cc) g0.rf g0.pl)=V at *
 clear hzm hm0 hone h2r hmr
 obtain ⟨A0,hA0⟩:∃A0,A0=mac (.slice (some ⟨bw,ow,none⟩) g0.n cw) (.slice ar g0.rl cr) (.slice ac g0.sl cc) g0.rf g0.pl:=⟨_,rfl⟩
 rw[←hA0]
 clear hA0
 have c2:=h0.out.cell (lR _ _ _ _ _)
 have f2:=h0.out.frozen 2
 have h2:=h0.ES (.slice as0 m cs0)
 have HH2:=(show Hid _ from h2)
 clear h2
 go_upto_region 3 with fail
 have h2:=HH2.out
 generalize V.setCell ⟨w.heap.size+2,2,none⟩ (.slice as0 m cs0)=V2 at *
 clear h0 c2 f2 HH2
 have d1:=h2.mg.row.cell (nK _ _ _ _ _)
 have HC:=(show Hid _ from qa _ g0.rl g0.ri HRL.out V2 (HRI.out.below h2.mg.below))
 go_wp2_with fail
 refine Calls.mono HC.out ?_
 rintro e V3 ⟨vb,rfl,hvb,hfr,hb⟩
 have h3:=h2.step hb
 have HVB:=(show Hid (aq V3 vb g0.rl g0.ri) from hvb)
 have HFR:=(show Hid (∀b o cp,vb=.slice (some ⟨b,o,none⟩) g0.rl cp→w.heap.size+2<b) from fun b o cp e=>Nat.lt_of_lt_of_le h2.out.lt (hfr b o cp e))
 obtain ⟨ab,cb,rfl,_,_⟩:=hvb
 clear hb h2 HC d1 hfr
 have c1:=h3.out.cell (nK _ _ _ _ _)
 have f1:=h3.out.frozen 1
 have HH4:=(show Hid _ from h3.JK (.slice ab g0.rl cb))
 have HVB4:Hid (aq (V3.setCell ⟨w.heap.size+2,1,none⟩ (.slice ab g0.rl cb)) (.slice ab g0.rl cb) g0.rl g0.ri) :=
  dU HVB.out _ _ fun b' o' cap' e _=>by have:=HFR.out b' o' cap' e;show b'≠w.heap.size+2;omega
 go_upto_region 4 with fail
 have h4:=HH4.out
 have HVB5:=(show Hid (aq (V3.setCell ⟨w.heap.size+2,1,none⟩ (.slice ab g0.rl cb)) (.slice ab g0.rl cb) g0.rl g0.ri) from HVB4.out)
 generalize V3.setCell ⟨w.heap.size+2,1,none⟩ (.slice ab g0.rl cb)=V4 at *
 clear h3 c1 f1 HH4 HVB HVB4
 have d0:=h4.mg.row.cell (dj _ _ _ _ _)
 have HC:=(show Hid _ from Ec bw ow g0.n cw g0.wi R hn4 HR1.out V4 (fun r hr=>Below.rangeAt h4.mg.below (HRW.out r hr) (by
  have h1:=HRW.out r hr 0 _ (show (whl (g0.wi r) (R r)).toList[0]? = some (.int .i64 (g0.wi r 0)) from by
   have ex:(whl (g0.wi r) (R r)).toList[0]? = (whl (g0.wi r) (R r))[0]?:=Array.getElem?_toList
   rw[ex,ff _ _ (by decide)])
  exact aA h1)))
 go_wp2_with fail
 refine Calls.mono HC.out ?_
 rintro e V5 ⟨g,cp,cur,rfl,hrow,hcur,hgl,hb⟩
 have h5:=h4.step hb
 have HVB6:=(show Hid _ from HVB5.out.below hb)
 have hgw:w.heap.size+2<g:=Nat.lt_of_lt_of_le h4.out.lt hgl
 have HVL:=(show Hid (∀b o cp,(Value.slice ab g0.rl cb)=.slice (some ⟨b,o,none⟩) g0.rl cp→0<g0.rl→b≠g) from fun b' o' cp' e hpos=>by
  obtain ⟨a2,c2,e2,_,h3⟩:=HVB5.out
  obtain ⟨b3,o3,e3,hc3⟩:=h3 0 hpos
  rw[e2,e3] at e
  cases e
  have:=aA hc3
  have h4:b'<V4.heap.size:=this
  omega)
 clear hb h4 HC d0 HVB5 hgl
 have c0:=h5.out.cell (dj _ _ _ _ _)
 have f0:=h5.out.frozen 0
 have hsz:g0.n*27≤cur.size:=by
  have h1:=hcur (g0.n*27-1) (by omega)
  have:=(Array.getElem?_eq_some_iff.1 h1).1
  omega
 have HSD:Hid (SdS w (V5.setCell ⟨w.heap.size+2,0,none⟩ (.slice (some ⟨g,0,none⟩) g0.n cp)) (.slice (some ⟨bw,ow,none⟩) g0.n cw) (.slice ar g0.rl cr) (.slice ac g0.sl cc) g0.rf g0.pl (.slice ab g0.rl cb) (.slice as0 m cs0) g0.wi R g0.nl g0.no g0.rl g0.ri g g0.n cp 0):=by
  refine ⟨h5.Cg _,hgw,⟨cur,fun _=>.slice none 0 0,hrow.setOther _ _ (by show g≠w.heap.size+2;omega),hsz,fun i hi=>?_,fun r hr=>by omega⟩,dU HVB6.out _ _ fun b' o' cap' e _=>by have:=HFR.out b' o' cap' e;show b'≠w.heap.size+2;omega,HVL.out,fun b' o' cap' e _=>by have:=HFR.out b' o' cap' e;omega⟩
  rw[hcur i hi]
  unfold whC nwR
  simp
 go_upto_region 5 with fail
 generalize V5.setCell ⟨w.heap.size+2,0,none⟩ (.slice (some ⟨g,0,none⟩) g0.n cp)=V6 at *
 clear h5 c0 f0 hrow hcur hsz HVB6 HFR
 have d0:=HSD.out.s3.mg.row.cell (dj _ _ _ _ _)
 go_wp2_with fail
 clear d0
 go_loopw [22] (fun x W=>∃k:Nat,k≤g0.n∧x=.int .i64 (k:Nat)∧SdS w W (.slice (some ⟨bw,ow,none⟩) g0.n cw) (.slice ar g0.rl cr) (.slice ac g0.sl cc) g0.rf g0.pl (.slice ab g0.rl cb) (.slice as0 m cs0) g0.wi R g0.nl g0.no g0.rl g0.ri g g0.n cp k) (fun x _=>((g0.n:Int)-intOf x).toNat)
 case atStart=>exact ⟨0,by omega,rfl,HSD.out⟩
 case round =>
  clear HSD
  obtain ⟨k,hk,rfl,hg⟩:=hrel
  by_cases hlt:k<g0.n
  ·have HLT:Hid (k<g0.n):=hlt
   have hlt2:(k:Int)<(g0.n:Int):=by omega
   have hrg:=Below.rangeAt hg.s3.mg.below (HRW.out k hlt) (by
    have h1:=HRW.out k hlt 0 _ (show (whl (g0.wi k) (R k)).toList[0]? = some (.int .i64 (g0.wi k 0)) from by
     have ex:(whl (g0.wi k) (R k)).toList[0]? = (whl (g0.wi k) (R k))[0]?:=Array.getElem?_toList
     rw[ex,ff _ _ (by decide)])
    exact aA h1)
   have hzw:=cm tF
   have HRk:=(show Hid ((R k).oneCell'=true) from HR1.out k hlt)
   have hwo:(whl (g0.wi k) (R k)).all (·.oneCell')=true:=by
    unfold whl
    rw[Array.all_push,aI,Bool.true_and]
    exact HRk.out
   have HG:=(show Hid (SdS w wr (.slice (some ⟨bw,ow,none⟩) g0.n cw) (.slice ar g0.rl cr) (.slice ac g0.sl cc) g0.rf g0.pl (.slice ab g0.rl cb) (.slice as0 m cs0) g0.wi R g0.nl g0.no g0.rl g0.ri g g0.n cp k) from hg)
   clear hg hlt
   go_upto_region 8 with (first | refine aM rfl 104 _ rfl bw (ow+k*27) rfl (whl (g0.wi k) (R k)) _ hrg Tryz.underlying104 rfl (by rw[aH];exact ld) ?_ | refine wpList_store_row rfl 104 _ _ rfl wr.heap.size (whl (g0.wi k) (R k)) rfl rfl 104 _ (af.new wr _ _) (by rw[aH];exact ld) (by simp only[aH]) hwo ?_)
   have hb8:=Below.setRow ((Below.refl wr.heap.size wr).alloc (Nat.le_refl _) (.cells (whl (fun _=>0) (.slice none 0 0)) 104)) wr.heap.size (Nat.le_refl _) (whl (g0.wi k) (R k))
   have hq:=(af.new wr 104 (whl (fun _=>0) (.slice none 0 0))).row (whl (g0.wi k) (R k))
   have hg3:=HG.out.step hb8
   have hgq:g<wr.heap.size:=by
    obtain ⟨cur,N,h1,_⟩:=HG.out.ex
    exact h1.lt
   generalize (wr.alloc (.cells (whl (fun _=>0) (.slice none 0 0)) 104)).setRow wr.heap.size (whl (g0.wi k) (R k))=W3 at *
   generalize wr.heap.size=q at *
   obtain ⟨rk,ck,hRk,_⟩:=HNO.out k HLT.out
   have HCL:=(show Hid (∀W,Below w.heap.size w W→Calls Tryz.prog 14 #[.slice rk (g0.nl k) ck] W fun e w'=>∃v',e=.returned v'∧aq w' v' (g0.nl k) (g0.no k)∧(∀b o cp,v'=.slice (some ⟨b,o,none⟩) (g0.nl k) cp→W.heap.size≤b)∧Below W.heap.size W w') from fun W hb=>by have:=qa (R k) (g0.nl k) (g0.no k) (HFIT.out k HLT.out) W ((HNO.out k HLT.out).below hb);rw[hRk] at this;exact this)
   have HLQ:=(show Hid (∀W,af W q 104 (whl (g0.wi k) (R k))→W.cell? ⟨q,26,none⟩=some (.slice rk (g0.nl k) ck)) from fun W h=>by have:=h.cell (gN (g0.wi k) (R k));rw[hRk] at this;exact this)
   have HOQ:=(show Hid (∀W,Sd3 w W (.slice (some ⟨bw,ow,none⟩) g0.n cw) (.slice ar g0.rl cr) (.slice ac g0.sl cc) g0.rf g0.pl (.slice (some ⟨g,0,none⟩) g0.n cp) (.slice ab g0.rl cb) (.slice as0 m cs0)→W.cell? ⟨w.heap.size+2,0,none⟩=some (.slice (some ⟨g,0,none⟩) g0.n cp)) from fun W h=>h.out.cell (dj _ _ _ _ _))
   generalize whl (g0.wi k) (R k)=AW at *
   clear hb8 HG hzw hrg hwo HRk hRk
   refine wp_region_noPanic ?_
   refine wp_region_held_drew (S:=fun W=>Sd3 w W (.slice (some ⟨bw,ow,none⟩) g0.n cw) (.slice ar g0.rl cr) (.slice ac g0.sl cc) g0.rf g0.pl (.slice (some ⟨g,0,none⟩) g0.n cp) (.slice ab g0.rl cb) (.slice as0 m cs0)∧af W q 104 AW) (by kernel_rfl) ⟨hg3.s3.drew,hq⟩ (fun hS=>?_)
   have hgU:=hg3.drew
   obtain ⟨U,hU⟩:∃x,x=W3.drew:=⟨_,rfl⟩
   rw[←hU] at hS hgU ⊢
   clear hU hg3 hq
   refine vtk 0 27 (.pointer (some ⟨w.heap.size+2,0,none⟩)) rfl (fun W hW=>by clear hS hW;go_simp) hS ?_
   simp only[zsA,zsB,zsC]
   refine vtk 1 28 (.slice (some ⟨g,0,none⟩) g0.n cp) rfl (fun W hW=>by have u:=HOQ.out W hW.1;clear hS hW;go_simp) hS ?_
   simp only[zsA,zsB,zsC]
   refine vtk 2 29 (.int .i64 (k:Nat)) rfl (fun W hW=>by clear hS hW;go_simp) hS ?_
   simp only[zsA,zsB,zsC]
   refine vtk 3 30 (.pointer (some ⟨q,26,none⟩)) rfl (fun W hW=>by clear hS hW;go_simp) hS ?_
   simp only[zsA,zsB,zsC]
   refine vtk 4 31 (.slice rk (g0.nl k) ck) rfl (fun W hW=>by have u:=HLQ.out W hW.2;clear hS hW;go_simp) hS ?_
   simp only[zsA,zsB,zsC]
   refine rd1 5 rfl (fun K hK=>?_)
   go_simp
   refine Calls.mono (HCL.out _ hS.1.mg.below) ?_
   rintro e Y ⟨vn,rfl,hvn,hfr,hb8⟩
   have hFR:∀b o cp,vn=.slice (some ⟨b,o,none⟩) (g0.nl k) cp→g<b:=fun b o cp e=>by
    have h1:=hfr b o cp e
    obtain ⟨_,_,h2,_⟩:=hgU.ex
    have:=h2.lt
    omega
   have hgY:=hgU.step hb8
   refine hK.out _ _ ⟨hS.1.step hb8,hS.2.below hb8 hS.2.lt⟩ (fun hS1=>?_)
   clear hK hS K hgU hfr hb8
   have hS:=hS1
   clear hS1
   have HVN:=(show Hid (aq Y vn (g0.nl k) (g0.no k)) from hvn)
   have HFN:=(show Hid _ from hFR)
   obtain ⟨an,cn,rfl,_,_⟩:=hvn
   clear hFR
   refine vtk 6 33 (.pointer (some ⟨g,k*27,none⟩)) rfl (fun W hW=>by clear hS hW;go_simp) hS ?_
   simp only[zsA,zsB,zsC]
   refine vtk 7 34 (.pointer (some ⟨g,k*27+26,none⟩)) rfl (fun W hW=>by clear hS hW;go_simp) hS ?_
   simp only[zsA,zsB,zsC]
   obtain ⟨cur,N,hrow,hsz,hcur,hnew⟩:=hgY.ex
   have hcell:=hrow.cell (hcur (k*27+26) (by have:=HLT.out;omega))
   have hfz:=hrow.frozen (k*27+26)
   have HN:Hid (SdS w (Y.setCell ⟨g,k*27+26,none⟩ (.slice an (g0.nl k) cn)) (.slice (some ⟨bw,ow,none⟩) g0.n cw) (.slice ar g0.rl cr) (.slice ac g0.sl cc) g0.rf g0.pl (.slice ab g0.rl cb) (.slice as0 m cs0) g0.wi R g0.nl g0.no g0.rl g0.ri g g0.n cp (k+1)):=by
    refine ⟨hgY.s3.other hgY.lt _ _,hgY.lt,⟨_,fun r=>if r=k then .slice an (g0.nl k) cn else N r,hrow.set (k*27+26) _,by simpa using hsz,CQ HLT.out hsz hcur,fun r hr=>?_⟩,dU hgY.rings _ _ fun b' o' cap' e hpos=>?_,hgY.yf,hgY.uo⟩
    ·dsimp only
     by_cases e:r=k
     ·rw[if_pos e,e]
      exact ⟨dU HVN.out _ _ fun b' o' cap' e' _=>by have:=HFN.out b' o' cap' e';show b'≠g;omega,fun b' o' cap' e' _=>by have:=HFN.out b' o' cap' e';have:=hgY.lt;constructor <;> omega⟩
     ·rw[if_neg e]
      obtain ⟨h1,h2⟩:=hnew r (by omega)
      exact ⟨dU h1 _ _ fun b' o' cap' e' hp=>(h2 b' o' cap' e' hp).1,h2⟩
    ·exact hgY.yf b' o' cap' e hpos
   generalize whC g0.wi (nwR k N R) (k*27+26)=oc at *
   refine rd1 8 rfl (fun K hK=>?_)
   go_simp
   refine hK.out _ _ (⟨hS.1.other hgY.lt _ _,hS.2.setOther _ _ (by show q≠g;omega)⟩) (fun hS1=>?_)
   clear hK hS K
   have hS:=hS1
   clear hS1
   refine wpAnyH_done (by kernel_rfl) ?_ _
   refine NoPanic.normal ?_
   clear hS hrow hsz hcur hnew hcell hfz hgY HVN HFN
   go_wp2
   go_roundw
   case rel=>exact ⟨k+1,HLT.out,by go_num,HN.out⟩
   case measure=>have:=HLT.out;simp[intOf];omega
  ·obtain rfl:k=g0.n:=by omega
   have hnn:¬((g0.n:Nat):Int)<((g0.n:Nat):Int):=by omega
   obtain ⟨A1,hA1⟩:∃A1,A1=mac (.slice (some ⟨g,0,none⟩) g0.n cp) (.slice ab g0.rl cb) (.slice as0 m cs0) g0.rf g0.pl:=⟨_,rfl⟩
   have hout:=hg.s3.out
   rw[←hA1] at hout
   have hres:=hg.s3.res
   have HZ1:Hid (A1.size=55):=by rw[Hid,hA1,aE]
   have HO1:Hid (A1.all (·.oneCell')=true):=by rw[Hid,hA1];exact wF rfl rfl rfl
   have HA1:=(show Hid _ from hA1)
   have HG:=(show Hid _ from hg)
   have hz0s:(mac (.slice none 0 0) (.slice none 0 0) (.slice none 0 0) (fun _=>0) (fun _=>0):Array Value).size=55:=aE _ _ _ _ _
   obtain ⟨Z0,hZ0⟩:∃Z0,Z0=mac (.slice none 0 0) (.slice none 0 0) (.slice none 0 0) (fun _=>0) (fun _=>0):=⟨_,rfl⟩
   rw[←hZ0] at hres hz0s
   clear hA1 hg hlt hZ0
   go_wp2_with (first | refine wpList_load_row rfl 27 _ rfl (w.heap.size+2) rfl 27 A1 (0,0) _ hout Tryz.underlying27 rfl (by rw[HZ1.out];exact aF) ?_ | refine wpList_store_row rfl 27 _ _ rfl (w.heap.size+1) A1 rfl rfl 27 _ hres (by rw[HZ1.out];exact aF) (by rw[HZ1.out,hz0s]) HO1.out ?_)
   refine bodyPost_ret (v:=.agg A1) (oE Tryz.results55 _ _ _ _ _ _ _ rfl (hres.row _) Tryz.underlying27 rfl (by rw[HZ1.out];exact aF)) rfl ?_
   obtain ⟨cur,N,hrow,hsz,hcur,hnew⟩:=HG.out.ex
   have hbw:=Below.setRow HG.out.s3.mg.below (w.heap.size+1) (by omega) A1
   have hglt:=HG.out.lt
   have hsame:∀b,b≠w.heap.size+1→(wr.setRow (w.heap.size+1) A1).heap[b]? = wr.heap[b]?:=fun b hb=>setRow_other wr (w.heap.size+1) b A1 hb
   have hnums:∀{v:Value} {n:Nat} {f:Nat→Int},aq wr v n f→(∀b o cap,v=.slice (some ⟨b,o,none⟩) n cap→0<n→b≠w.heap.size+1)→aq (wr.setRow (w.heap.size+1) A1) v n f:=fun {v n f} h hp=>by
    obtain ⟨a',cap',e1,e2,e3⟩:=h
    refine ⟨a',cap',e1,e2,fun c hc=>?_⟩
    obtain ⟨b',o',e,hcell⟩:=e3 c hc
    refine ⟨b',o',e,?_⟩
    have hne:=hp b' o' cap' (by rw[e1,e]) (by omega)
    unfold World.cell? at hcell ⊢
    rw[hsame b' hne]
    exact hcell
   refine ⟨_,rfl,⟨.slice (some ⟨g,0,none⟩) g0.n cp,.slice ab g0.rl cb,.slice as0 m cs0,by rw[HA1.out],⟨some ⟨g,0,none⟩,cp,N,rfl,?_,fun r hr=>⟨g,0,rfl,?_⟩,fun r hr=>?_⟩,?_,?_⟩,⟨_,_,by rw[HA1.out]⟩,hbw⟩
   ·show g0.n≤maxLen
    unfold maxLen
    omega
   ·have hrow2:af (wr.setRow (w.heap.size+1) A1) g 104 cur:=hrow.aX _ _ (by omega)
    refine iN hrow2 (0+r*27) _ fun i v hv=>?_
    have hi:i<27:=by have:=(Array.getElem?_eq_some_iff.1 hv).1;rwa [aH] at this
    rw[zc _ _ _ _ hi] at hv
    have hr':r<g0.n:=hr
    rw[show 0+r*27+i=r*27+i by omega,hcur (r*27+i) (by omega),←hv]
    unfold whC nwR
    rw[show (r*27+i) / 27=r by omega,if_pos hr']
   ·exact hnums (hnew r hr).1 fun b' o' cap' e hp=>((hnew r hr).2 b' o' cap' e hp).2
   ·exact hnums HG.out.rings fun b' o' cap' e hp=>HG.out.uo b' o' cap' e hp
   ·exact HSS.out.below hbw
end Go.Proofs.YtgacaecjinlhiaaGreatDoor
