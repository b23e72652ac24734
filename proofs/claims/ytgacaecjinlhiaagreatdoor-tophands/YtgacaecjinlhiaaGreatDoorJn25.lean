import Derived.Test.YtgacaecjinlhiaaGreatDoorJn24
namespace Go.Proofs.YtgacaecjinlhiaaGreatDoor
section
open Go.RowKit PK Vg
set_option maxRecDepth 100000 in
theorem vZ (x:Nat) (hx:x<26) (w:World):Calls Tryz.prog 30 #[.int .u8 ((x:Int)+65)] w fun e w'=>e=.returned (.int .i64 (x:Nat))∧Below w.heap.size w w':=by
 have h1:(x:Int)<26:=by omega
 go_enter Tryz.func30,Tryz.ntmps30
 go_wp2
 go_ret
 exact ⟨rfl,Below.refl _ _⟩
def prC (l:List (Nat × Nat)):List Value:=l.flatMap fun p=>[.int .i64 (p.1:Nat),.int .i64 (p.2:Nat)]
theorem Dj (l:List (Nat × Nat)) (q:Nat × Nat):prC (l++[q])=prC l++[.int .i64 (q.1:Nat),.int .i64 (q.2:Nat)]:=by simp[prC]
theorem Ds:∀(l:List (Nat × Nat)) (k:Nat),k<l.length→(prC l)[k*2]? = some (.int .i64 ((l.getD k (0,0)).1:Nat))∧(prC l)[k*2+1]? = some (.int .i64 ((l.getD k (0,0)).2:Nat))
 | [],k,h=>by simp at h
 | p :: l,0,_=>⟨rfl,rfl⟩
 | p :: l,k+1,h=>by
  have ih:=Ds l k (by simpa using h)
  show ([_,_]++prC l)[(k+1)*2]? = _∧([_,_]++prC l)[(k+1)*2+1]? = _
  rw[List.getElem?_append_right (by simp;omega),List.getElem?_append_right (by simp;omega)]
  have e1:(k+1)*2-[Value.int .i64 (p.1:Nat),Value.int .i64 (p.2:Nat)].length=k*2:=by simp;omega
  have e2:(k+1)*2+1-[Value.int .i64 (p.1:Nat),Value.int .i64 (p.2:Nat)].length=k*2+1:=by simp;omega
  rw[e1,e2]
  simpa using ih
def jG (w:World) (v:Value) (l:List (Nat × Nat)):Prop:=∃(a:Option Addr) (cap:Nat),v=.slice a l.length cap∧∀c,c<l.length→∃b,a=some ⟨b,0,none⟩∧w.cell? ⟨b,c*2,none⟩=some (.int .i64 ((l.getD c (0,0)).1:Nat))∧w.cell? ⟨b,c*2+1,none⟩=some (.int .i64 ((l.getD c (0,0)).2:Nat))
theorem jG.below {w w':World} {v:Value} {l:List (Nat × Nat)} (h:jG w v l) (hb:Below w.heap.size w w'):jG w' v l:=by
 obtain ⟨a,cap,h1,h3⟩:=h
 refine ⟨a,cap,h1,fun c hc=>?_⟩
 obtain ⟨b,e,x,y⟩:=h3 c hc
 exact ⟨b,e,(hb.cell (p:=⟨b,c*2,none⟩) (aA x)).trans x,(hb.cell (p:=⟨b,c*2+1,none⟩) (aA y)).trans y⟩
theorem wC:(Tryz.prog.info? 75).map (fun i=>(i.zero,i.size,i.bytes))=some (some (.agg #[.int .i64 0,.int .i64 0]),2,16):=by kernel_rfl
theorem vC:(Tryz.prog.info? 72).map (·.zero)=some (some (.agg (tab 26 fun _=>.slice none 0 0))):=by kernel_rfl
structure OnM (W:World) (G:Nat) (vals:Nat→Value) (L:Nat→List (Nat × Nat)):Prop where
 row:af W G 72 (tab 26 vals)
 own:∀c,c<26→W.ownsRow (G+1) 75 2 (vals c) (L c).length (prC (L c))
 apart:∀c d,c<26→d<26→c≠d→(vals c).ownBlock=none∨(vals c).ownBlock≠(vals d).ownBlock
theorem OnM.below {W W':World} {G:Nat} {vals:Nat→Value} {L:Nat→List (Nat × Nat)} (h:OnM W G vals L) (hb:Below W.heap.size W W'):OnM W' G vals L:=⟨h.row.below hb h.row.lt,fun c hc=>je (h.own c hc) hb,h.apart⟩
theorem OnM.alloc {W:World} {G:Nat} {vals:Nat→Value} {L:Nat→List (Nat × Nat)} (h:OnM W G vals L) (o:Obj):OnM (W.alloc o) G vals L:=h.below ((Below.refl _ _).alloc (Nat.le_refl _) o)
theorem OnM.drew {W:World} {G:Nat} {vals:Nat→Value} {L:Nat→List (Nat × Nat)} (h:OnM W G vals L):OnM W.drew G vals L:=⟨h.row,fun c hc=>Eh (h.own c hc),h.apart⟩
def ov (L:Nat→List (Nat × Nat)) (c:Nat) (q:Nat × Nat):Nat→List (Nat × Nat):=fun x=>if x=c then L x++[q] else L x
theorem OnM.step {W W5:World} {G c:Nat} {vals:Nat→Value} {L:Nat→List (Nat × Nat)} {v':Value} (h:OnM W G vals L) (hc:c<26) (q:Nat × Nat)
  (hown:W5.ownsRow (G+1) 75 2 v' ((L c).length+1) (prC (L c)++[.int .i64 (q.1:Nat),.int .i64 (q.2:Nat)]))
  (hg:W.grownBy W5 (vals c).ownBlock) (hat:v'.ownBlock=(vals c).ownBlock∨v'.ownBlock=some W.heap.size) :
  OnM (W5.setCell ⟨G,c,none⟩ v') G (upd vals c v') (ov L c q):=by
 have hlt:∀r,r<26→∀g,(vals r).ownBlock=some g→G+1≤g∧g<W.heap.size:=fun r hr g e=>World.ownsRow.lt (h.own r hr) g e
 have hrow5:af W5 G 72 (tab 26 vals):=(hg.block G h.row.lt (fun e=>by have:=(hlt c hc G e.symm).1;omega)).trans h.row
 have hset:∀(v:Value) (n:Nat) (l:List Value),W5.ownsRow (G+1) 75 2 v n l→(W5.setCell ⟨G,c,none⟩ v').ownsRow (G+1) 75 2 v n l:=fun v n l ho=>World.ownsRow.kept ho (jQ W5 G c v') (.inr fun e=>by have:=(World.ownsRow.lt ho _ e).1;omega)
 refine ⟨?_,fun r hr=>?_,fun r r' hr hr' hne=>?_⟩
 ·have:=hrow5.set c v'
  rw[dw] at this
  exact this
 ·unfold ov
  by_cases e:r=c
  ·rw[e,upd_same,if_pos rfl,List.length_append,Dj]
   exact hset _ _ _ hown
  ·rw[cj _ _ e,if_neg e]
   exact hset _ _ _ (World.ownsRow.kept (h.own r hr) hg (h.apart r c hr hc e))
 ·by_cases e:r=c
  ·subst e
   rw[upd_same,cj _ _ (Ne.symm hne)]
   rcases hat with hat | hat
   ·rw[hat];exact h.apart r r' hr hr' hne
   ·right
    rw[hat]
    intro e2
    have:=(hlt r' hr' _ e2.symm).2
    omega
  ·rw[cj _ _ e]
   by_cases e2:r'=c
   ·subst e2
    rw[upd_same]
    rcases hat with hat | hat
    ·rw[hat];exact h.apart r r' hr hr' hne
    ·right
     rw[hat]
     intro e3
     have:=(hlt r hr _ e3).2
     omega
   ·rw[cj _ _ e2];exact h.apart r r' hr hr' hne
theorem JY (m:Bo.Mn) (i:Nat):ov (ov (fun c=>Bo.ml m c i) (m.x i) (i,m.y i)) (m.y i) (i,m.x i)=fun c=>Bo.ml m c (i+1):=funext fun c=>by
 unfold ov
 show _=(Bo.ml m c i++if m.x i=c then [(i,m.y i)] else [])++if m.y i=c then [(i,m.x i)] else []
 by_cases e1:c=m.x i <;> by_cases e2:c=m.y i
 ·rw[if_pos e2,if_pos e1,if_pos e1.symm,if_pos e2.symm]
 ·rw[if_neg e2,if_pos e1,if_pos e1.symm,if_neg (fun h=>e2 h.symm),List.append_nil]
 ·rw[if_pos e2,if_neg e1,if_neg (fun h=>e1 h.symm),if_pos e2.symm,List.append_nil]
 ·rw[if_neg e2,if_neg e1,if_neg (fun h=>e1 h.symm),if_neg (fun h=>e2 h.symm),List.append_nil,List.append_nil]
theorem jD {w:World} {B:Nat} {e:TypeId} {s:Nat} {v:Value} {n:Nat} {xs:List Value} (h:w.ownsRow B e s v n xs):∃a c,v=.slice a n c:=by
 rcases h.2 with ⟨rfl,h0⟩ | ⟨g',cap,cur,rfl,_⟩
 ·exact ⟨none,0,by rw[h0]⟩
 ·exact ⟨_,_,rfl⟩
structure Ci (m:Bo.Mn) (cr te:ByteArray):Prop where
 k:m.k=cr.size
 le:cr.size≤32
 sz:te.size=cr.size
 x:∀i,i<m.k→m.x i<26∧∀h:i<cr.size,(cr[i].toNat:Int)=(m.x i:Int)+65
 y:∀i,i<m.k→m.y i<26∧∀h:i<te.size,(te[i].toNat:Int)=(m.y i:Int)+65
set_option maxRecDepth 100000 in
set_option maxHeartbeats 8000000 in
theorem yJ (m:Bo.Mn) (cr te:ByteArray) (hm:Ci m cr te) (w:World):Calls Tryz.prog 10 #[.string cr,.string te] w fun e w'=>∃vals,e=.returned (.pointer (some ⟨w.heap.size,0,none⟩))∧OnM w' w.heap.size vals (fun c=>Bo.ml m c m.k)∧Below w.heap.size w w':=by
 obtain ⟨i0,hi0,hz0,hz1,hz2⟩:=fe wC
 obtain ⟨hk,hle,hsz,hx,hy⟩:=hm
 have HX:=(show Hid _ from hx)
 have HY:=(show Hid _ from hy)
 have hzm:=cm vC
 have hg0:OnM (w.alloc (.cells (tab 26 fun _=>.slice none 0 0) 72)) w.heap.size (fun _=>.slice none 0 0) (fun c=>Bo.ml m c 0):=⟨af.new w _ _,fun c _=>World.ownsRow_nil _ _ _ _,fun _ _ _ _ _=>.inl rfl⟩
 have hb0:Below w.heap.size w (w.alloc (.cells (tab 26 fun _=>.slice none 0 0) 72)):=(Below.refl _ _).alloc (Nat.le_refl _) _
 clear hx hy
 go_enter Tryz.func10,Tryz.ntmps10
 go_upto_region 2 with fail
 generalize w.alloc (.cells (tab 26 fun _=>.slice none 0 0) 72)=W0 at *
 clear hzm
 go_wp2_with fail
 go_loopw [11] (fun x W=>∃(i:Nat) (vals:Nat→Value),i≤cr.size∧x=.int .i64 (i:Nat)∧OnM W w.heap.size vals (fun c=>Bo.ml m c i)∧Below w.heap.size w W) (fun x _=>((cr.size:Int)-intOf x).toNat)
 case atStart=>exact ⟨0,_,by omega,rfl,hg0,hb0⟩
 case round =>
  clear hg0 hb0
  obtain ⟨i,vals,hi,rfl,hon,hbe⟩:=hrel
  by_cases hlt:i<cr.size
  case neg =>
   obtain rfl:i=cr.size:=by omega
   have hnn:¬((cr.size:Nat):Int)<((cr.size:Nat):Int):=by omega
   have HON:=(show Hid _ from hon)
   have HBE:=(show Hid _ from hbe)
   have HK:=(show Hid _ from hk)
   clear hon hbe hlt hk
   go_wp2
   go_ret
   exact ⟨rfl,⟨vals,by rw[HK.out];exact HON.out⟩,HBE.out⟩
  have HLT:Hid (i<cr.size):=hlt
  have hl1:(i:Int)<(cr.size:Int):=by omega
  have hl2:(i:Int)<(te.size:Int):=by omega
  obtain ⟨hxa,hxb⟩:=HX.out i (by omega)
  obtain ⟨hya,hyb⟩:=HY.out i (by omega)
  have ea:=hxb hlt
  have eb:=hyb (by omega)
  have HPUT:=(show Hid (ov (ov (fun c=>Bo.ml m c i) (m.x i) (i,m.y i)) (m.y i) (i,m.x i)=fun c=>Bo.ml m c (i+1)) from JY m i)
  have HL0:=(show Hid (∀c,(Bo.ml m c i).length≤64) from fun c=>by have:=Bo.xw m c i;omega)
  obtain ⟨x,hx⟩:∃x,x=m.x i:=⟨_,rfl⟩
  obtain ⟨y,hy⟩:∃y,y=m.y i:=⟨_,rfl⟩
  rw[←hx] at hxa ea HPUT
  rw[←hy] at hya eb HPUT
  obtain ⟨L,hL⟩:∃L,L=fun c=>Bo.ml m c i:=⟨_,rfl⟩
  have HL1:Hid (∀c,(L c).length≤64):=by rw[hL];exact HL0.out
  rw[←hL] at hon HPUT
  clear hxb hyb hx hy hL HL0 hk
  go_upto_region 5 with fail
  have hSd:OnM wr.drew w.heap.size vals L∧Below w.heap.size w wr.drew:=⟨hon.drew,hbe.drew⟩
  clear hon hbe
  refine wp_region_noPanic ?_
  refine wp_region_held_drew (S:=fun W=>OnM W w.heap.size vals L∧Below w.heap.size w W) (by kernel_rfl) hSd (fun hS=>?_)
  clear hSd
  obtain ⟨U,hU⟩:∃x,x=wr.drew:=⟨_,rfl⟩
  rw[←hU] at hS ⊢
  clear hU
  refine vtk 0 14 (.string cr) rfl (fun W hW=>by clear hS hW;go_simp) hS ?_
  simp only[zsA,zsB,zsC]
  refine vtk 1 15 (.int .i64 (i:Nat)) rfl (fun W hW=>by clear hS hW;go_simp) hS ?_
  simp only[zsA,zsB,zsC]
  refine vtk 2 16 (.int .u8 ((x:Int)+65)) rfl (fun W hW=>by clear hS hW;go_simp) hS ?_
  simp only[zsA,zsB,zsC]
  refine vtk 4 18 (.string te) rfl (fun W hW=>by clear hS hW;go_simp) hS ?_
  simp only[zsA,zsB,zsC]
  refine vtk 5 19 (.int .i64 (i:Nat)) rfl (fun W hW=>by clear hS hW;go_simp) hS ?_
  simp only[zsA,zsB,zsC]
  refine vtk 6 20 (.int .u8 ((y:Int)+65)) rfl (fun W hW=>by clear hS hW;go_simp) hS ?_
  simp only[zsA,zsB,zsC]
  refine rd1 3 rfl (fun K hK=>?_)
  go_simp
  refine Calls.mono (vZ x hxa _) ?_
  rintro e Y ⟨rfl,hb3⟩
  refine hK.out _ _ (⟨hS.1.below hb3,hS.2.trans (hb3.mono hS.2.size)⟩) (fun hS1=>?_)
  clear hK hS K
  have hS:=hS1
  clear hS1
  refine rd1 7 rfl (fun K hK=>?_)
  go_simp
  refine Calls.mono (vZ y hya _) ?_
  rintro e Y ⟨rfl,hb7⟩
  refine hK.out _ _ (⟨hS.1.below hb7,hS.2.trans (hb7.mono hS.2.size)⟩) (fun hS1=>?_)
  clear hK hS K
  have hS:=hS1
  clear hS1
  refine vtk 8 7 (.int .i64 (x:Nat)) rfl (fun W hW=>by clear hS hW;go_simp) hS ?_
  simp only[zsA,zsB,zsC]
  refine vtk 9 8 (.int .i64 (y:Nat)) rfl (fun W hW=>by clear hS hW;go_simp) hS ?_
  simp only[zsA,zsB,zsC]
  refine wpAnyH_done (by kernel_rfl) ?_ _
  refine NoPanic.normal ?_
  obtain ⟨hon,hbe⟩:=hS
  clear ea eb hl1 hl2
  have hx2:(x:Int)<26:=by omega
  have hy2:(y:Int)<26:=by omega
  have hwz:=hon.row.lt
  have HLL:Hid (∀c,(L c).length≤66):=fun c=>by have:=HL1.out c;omega
  have HA26:Hid (x<26):=by rw[Hid];omega
  have hcell:=hon.row.cell (aR vals HA26.out)
  have hown:=hon.own x HA26.out
  have HGL:Hid ((L x).length≤66):=HLL.out x
  have HNE:Hid ((vals x).ownBlock≠some w.heap.size):=fun e=>by have:=(World.ownsRow.lt hown _ e).1;omega
  have HLB:=(show Hid (∀g,(vals x).ownBlock=some g→w.heap.size≤g) from fun g e=>by have:=(World.ownsRow.lt hown g e).1;omega)
  have HSTEP:=(show Hid (∀(W5:World) (v':Value),W5.ownsRow (w.heap.size+1) 75 2 v' ((L x).length+1) (prC (L x)++[.int .i64 (i:Nat),.int .i64 (y:Nat)])→(Y.alloc (.cells #[.int .i64 (i:Nat),.int .i64 (y:Nat)] 75)).grownBy W5 (vals x).ownBlock→(v'.ownBlock=(vals x).ownBlock∨v'.ownBlock=some (Y.alloc (.cells #[.int .i64 (i:Nat),.int .i64 (y:Nat)] 75)).heap.size)→OnM (W5.setCell ⟨w.heap.size,x,none⟩ v') w.heap.size (upd vals x v') (ov L x (i,y))) from fun W5 v' q1' q2' q3'=>(hon.alloc _).step HA26.out (i,y) q1' q2' q3')
  go_upto_region 7 with (first | (at_builtin;refine wpList_append_own_at _ rfl _ _ 70 rfl (w.heap.size+1) 75 i0 (.agg #[.int .i64 0,.int .i64 0]) 2 16 Tryz.underlying70 hi0 hz0 hz1 hz2 rfl (by decide) _ _ _ rfl (World.ownsRow.alloc hown _) ⟨Y.heap.size,0,none⟩ 1 1 [.int .i64 (i:Nat),.int .i64 (y:Nat)] rfl rfl (cell_two_new _ _ _ _) (fun u hu=>by simp at hu;rcases hu with rfl | rfl <;> rfl) (by have:=HGL.out;unfold maxLen;omega) (by have:=HGL.out;omega) (by simp;omega) ?_;intro v5 w5 hown5 hgrow5 _ hat5;obtain ⟨g5,c5,rfl⟩:=jD hown5;have ro5:=(hgrow5.block w.heap.size (by simp;omega) (fun e=>HNE.out e.symm)).trans (hon.row.alloc (.cells #[.int .i64 (i:Nat),.int .i64 (y:Nat)] 75));have hcell5:=af.cell (T:=72) ro5 (aR vals HA26.out);have hfr5:=af.frozen (T:=72) ro5 x))
  have hon6:=HSTEP.out _ _ hown5 hgrow5 hat5
  have hbe6:Below w.heap.size w (w5.setCell ⟨w.heap.size,x,none⟩ (.slice g5 ((L x).length+1) c5)):=((hbe.alloc (by omega) _).grown hgrow5 (by simp;omega) HLB.out).setCell (by simp) _
  have HL6:Hid (∀c,(ov L x (i,y) c).length≤65):=fun c=>by
   have:=HL1.out c
   unfold ov
   by_cases e:c=x
   ·rw[if_pos e];simp;omega
   ·rw[if_neg e];omega
  generalize w5.setCell ⟨w.heap.size,x,none⟩ (.slice g5 ((L x).length+1) c5)=Z at *
  generalize upd vals x (.slice g5 ((L x).length+1) c5)=vals6 at *
  obtain ⟨L6,hL6⟩:∃l,l=ov L x (i,y):=⟨_,rfl⟩
  rw[←hL6] at hon6 HPUT HL6
  clear hL6 HL1 HSTEP HLB HNE HGL hown hcell hon hbe hown5 hgrow5 hat5 ro5 hcell5 hfr5 HA26 HLL hwz
  obtain ⟨vals,hv6⟩:∃v,v=vals6:=⟨_,rfl⟩
  rw[←hv6] at hon6
  clear hv6 vals6
  have hwz:=hon6.row.lt
  have HLL:Hid (∀c,(L6 c).length≤66):=fun c=>by have:=HL6.out c;omega
  have HA26:Hid (y<26):=by rw[Hid];omega
  have hcell:=hon6.row.cell (aR vals HA26.out)
  have hown:=hon6.own y HA26.out
  have HGL:Hid ((L6 y).length≤66):=HLL.out y
  have HNE:Hid ((vals y).ownBlock≠some w.heap.size):=fun e=>by have:=(World.ownsRow.lt hown _ e).1;omega
  have HLB:=(show Hid (∀g,(vals y).ownBlock=some g→w.heap.size≤g) from fun g e=>by have:=(World.ownsRow.lt hown g e).1;omega)
  have HSTEP:=(show Hid (∀(W5:World) (v':Value),W5.ownsRow (w.heap.size+1) 75 2 v' ((L6 y).length+1) (prC (L6 y)++[.int .i64 (i:Nat),.int .i64 (x:Nat)])→(Z.alloc (.cells #[.int .i64 (i:Nat),.int .i64 (x:Nat)] 75)).grownBy W5 (vals y).ownBlock→(v'.ownBlock=(vals y).ownBlock∨v'.ownBlock=some (Z.alloc (.cells #[.int .i64 (i:Nat),.int .i64 (x:Nat)] 75)).heap.size)→OnM (W5.setCell ⟨w.heap.size,y,none⟩ v') w.heap.size (upd vals y v') (ov L6 y (i,x))) from fun W5 v' q1' q2' q3'=>(hon6.alloc _).step HA26.out (i,x) q1' q2' q3')
  go_wp2_with (first | (at_builtin;refine wpList_append_own_at _ rfl _ _ 70 rfl (w.heap.size+1) 75 i0 (.agg #[.int .i64 0,.int .i64 0]) 2 16 Tryz.underlying70 hi0 hz0 hz1 hz2 rfl (by decide) _ _ _ rfl (World.ownsRow.alloc hown _) ⟨Z.heap.size,0,none⟩ 1 1 [.int .i64 (i:Nat),.int .i64 (x:Nat)] rfl rfl (cell_two_new _ _ _ _) (fun u hu=>by simp at hu;rcases hu with rfl | rfl <;> rfl) (by have:=HGL.out;unfold maxLen;omega) (by have:=HGL.out;omega) (by simp;omega) ?_;intro v5 w5 hown5 hgrow5 _ hat5;obtain ⟨g5,c5,rfl⟩:=jD hown5;have ro5:=(hgrow5.block w.heap.size (by simp;omega) (fun e=>HNE.out e.symm)).trans (hon6.row.alloc (.cells #[.int .i64 (i:Nat),.int .i64 (x:Nat)] 75));have hcell5:=af.cell (T:=72) ro5 (aR vals HA26.out);have hfr5:=af.frozen (T:=72) ro5 y))
  have hon7:=HSTEP.out _ _ hown5 hgrow5 hat5
  have hbe7:Below w.heap.size w (w5.setCell ⟨w.heap.size,y,none⟩ (.slice g5 ((L6 y).length+1) c5)):=((hbe6.alloc (by omega) _).grown hgrow5 (by simp;omega) HLB.out).setCell (by simp) _
  rw[HPUT.out] at hon7
  go_roundw
  case rel=>exact ⟨i+1,_,HLT.out,by go_num,hon7,hbe7⟩
  case measure=>have:=HLT.out;simp[intOf];omega
end
section
open Go.RowKit PK Vg
def pQ (W:World) (G:Nat) (L:Nat→List (Nat × Nat)):Prop:=∃vals:Nat→Value,(∀c,c<26→W.cell? ⟨G,c,none⟩=some (vals c))∧∀c,c<26→jG W (vals c) (L c)
theorem pQ.below {W W':World} {G:Nat} {L:Nat→List (Nat × Nat)} (h:pQ W G L) (hb:Below W.heap.size W W'):pQ W' G L:=by
 obtain ⟨vals,h1,h2⟩:=h
 exact ⟨vals,fun c hc=>(hb.cell (aA (h1 c hc))).trans (h1 c hc),fun c hc=>(h2 c hc).below hb⟩
theorem uh (f:Nat→Nat) {k:Nat} (hk:k<26):Bo.most f k<26:=by
 rcases Bo.uA f k with h | h <;> omega
set_option maxRecDepth 100000 in
set_option maxHeartbeats 4000000 in
theorem Aw (G:Nat) (L:Nat→List (Nat × Nat)) (w:World) (hm:pQ w G L):Calls Tryz.prog 35 #[.pointer (some ⟨G,0,none⟩)] w fun e w'=>e=.returned (.int .i64 (Bo.most (fun c=>(L c).length) 26:Nat))∧Below w.heap.size w w':=by
 obtain ⟨vals,hrow,hlk⟩:=hm
 have HLK:=(show Hid _ from hlk)
 clear hlk
 obtain ⟨f,hf⟩:∃f,f=fun c=>(L c).length:=⟨_,rfl⟩
 have HF:Hid (∀c,f c=(L c).length):=by rw[hf];exact fun c=>rfl
 rw[←hf]
 clear hf
 have HSUC:=(show Hid (∀k,Bo.most f (k+1)=if f (Bo.most f k)<f k then k else Bo.most f k) from fun k=>rfl)
 have HLT26:=(show Hid (∀k,k<26→Bo.most f k<26) from fun k hk=>uh f hk)
 go_enter Tryz.func35,Tryz.ntmps35
 go_wp2_with fail
 go_loopw [3,5] (fun o x W=>∃k:Nat,k≤26∧x=.int .i64 (k:Nat)∧o=.int .i64 (Bo.most f k:Nat)∧Below w.heap.size w W) (fun _ x _=>((26:Int)-intOf x).toNat)
 case atStart=>exact ⟨0,by omega,rfl,rfl,Below.refl _ _⟩
 case round =>
  obtain ⟨k,hk,rfl,rfl,hbe⟩:=hrel
  by_cases hlt:k<26
  ·have HLT:Hid (k<26):=hlt
   have hlt2:(k:Int)<26:=by omega
   have hc0:=HLT26.out k hlt
   have hs:=HSUC.out k
   obtain ⟨o,ho⟩:∃o,o=Bo.most f k:=⟨_,rfl⟩
   rw[←ho] at hc0 hs ⊢
   have ho2:(o:Int)<26:=by omega
   obtain ⟨a1,c1,e1,_⟩:=HLK.out k hlt
   obtain ⟨a2,c2,e2,_⟩:=HLK.out o hc0
   rw[←HF.out] at e1 e2
   have d1:=(hbe.cell (aA (hrow k hlt))).trans (hrow k hlt)
   have d2:=(hbe.cell (aA (hrow o hc0))).trans (hrow o hc0)
   rw[e1] at d1
   rw[e2] at d2
   have HBE:=(show Hid _ from hbe)
   clear hlt ho e1 e2 hbe
   generalize f k=x at *
   generalize f o=y at *
   by_cases hxy:y<x
   ·have hxy2:(y:Int)<(x:Int):=by omega
    have HM:Hid (Bo.most f (k+1)=k):=by rw[Hid,hs,if_pos hxy]
    clear hs hxy
    go_upto_region 5 with fail
    go_quiet (fail)
    go_wp2
    go_roundw
    case rel=>exact ⟨k+1,HLT.out,by go_num,by rw[HM.out],HBE.out.trans ⟨rfl,rfl,rfl,Nat.le_refl _,fun _ _=>rfl⟩⟩
    case measure=>have:=HLT.out;simp[intOf];omega
   ·have hxy2:¬(y:Int)<(x:Int):=by omega
    have HM:Hid (Bo.most f (k+1)=o):=by rw[Hid,hs,if_neg hxy]
    clear hs hxy
    go_upto_region 5 with fail
    go_quiet (fail)
    go_wp2
    go_roundw
    case rel=>exact ⟨k+1,HLT.out,by go_num,by rw[HM.out],HBE.out.trans ⟨rfl,rfl,rfl,Nat.le_refl _,fun _ _=>rfl⟩⟩
    case measure=>have:=HLT.out;simp[intOf];omega
  ·obtain rfl:k=26:=by omega
   have HBE:=(show Hid _ from hbe)
   clear hlt hbe
   go_wp2
   go_ret
   exact ⟨rfl,HBE.out⟩
end
end Go.Proofs.YtgacaecjinlhiaaGreatDoor
