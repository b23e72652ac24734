/-
  Contract of the document's Stepped (chapter 8).
-/
import Derived.Test.YtkohhdkkbaifoaaGreatDoorPz
import Derived.Test.YtkohhdkkbaifoaaGreatDoorJn16
namespace Go.Proofs.YtkohhdkkbaifoaaGreatDoor
open Go.RowKit PK

section
variable {P:Program} {ops:Array Oper} {Q:Exit→Act→World→Prop} {md:Region.Mode} {S:World→Prop}
theorem vskip (i d:Nat) {oi:Oper} {fuel:Nat} {listed:Array Bool} {tm:Array Value} {df:List Deferred} {w:World} (hi:ops[i]? = some oi) (hd:oi.dst=some d)
  (hs:Region.noSelect ops=true) (hf:Region.free md ops listed i=true) (hr:(Region.ready md ops listed).contains i=true)
  (hQ:∀c a a' w,Q (.panic c) a' w→Q (.panic c) a w) (hw:Region.wanted oi (yielded ops tm)=false) (hS:S w)
  (h:wpAnyH P md ops Q S fuel (listed.setIfInBounds i true) ⟨tm.setIfInBounds d undef,df⟩ w):wpAnyH P md ops Q S (fuel+1) listed ⟨tm,df⟩ w:=by
 refine wpAnyH_take (i:=i) (oi:=oi) (v:=undef) hi hs hf hr (fun c a w=>hQ c a _ w) (Or.inr ⟨hw,rfl⟩) hS ?_
 rw[hd]
 exact h
end
def oN (l:List Nat):List Value:=l.map fun x=>.int .i64 (x:Nat)
def OwnsO (w:World) (B:Nat) (v:Value) (l:List Nat):Prop:=w.ownsRow B 3 1 v l.length (oN l)
theorem OwnsO.nil (w:World) (B:Nat):OwnsO w B (.slice none 0 0) []:=World.ownsRow_nil w B _ 1
theorem own_step {w w':World} {B:Nat} {T:TypeId} {s n:Nat} {v:Value} {l:List Value} (h:w.ownsRow B T s v n l) (hb:Below w.heap.size w w'):w'.ownsRow B T s v n l:=by
 obtain ⟨h1,h2⟩:=h
 refine ⟨h1,?_⟩
 rcases h2 with h2 | ⟨g,cap,cur,e,hB,hg,h3⟩
 ·exact .inl h2
 ·exact .inr ⟨g,cap,cur,e,hB,(hb.block g (Array.getElem?_eq_some_iff.1 hg).1).trans hg,h3⟩
theorem own_drew {w:World} {B:Nat} {T:TypeId} {s n:Nat} {v:Value} {l:List Value} (h:w.ownsRow B T s v n l):w.drew.ownsRow B T s v n l:=h
theorem OwnsO.nums {w:World} {B:Nat} {v:Value} {l:List Nat} (h:OwnsO w B v l) (hm:l.length≤1000):NumsAt w v l.length fun i=>((l.getD i 0:Nat):Int):=by
 obtain ⟨h1,h2⟩:=h
 rcases h2 with ⟨rfl,h0⟩ | ⟨g,cap,cur,rfl,hB,hg,hnc,hcm,hcs,htake⟩
 ·rw[h0];exact ⟨none,0,rfl,by decide,fun c hc=>by omega⟩
 ·refine ⟨_,_,rfl,by unfold maxLen;omega,fun c hc=>⟨g,0,rfl,?_⟩⟩
  rw[Nat.zero_add]
  refine RowAt.cell (w:=w) (b:=g) (T:=3) hg ?_
  have h3:(oN l)[c]? = some (.int .i64 ((l.getD c 0:Nat):Int)):=by
   unfold oN
   rw[List.getElem?_map,List.getD_eq_getElem?_getD,List.getElem?_eq_getElem hc]
   rfl
  rw[←htake,List.getElem?_take_of_lt (by omega)] at h3
  simpa using h3
theorem o_info_int:(Tryz.prog.info? 3).map (fun i=>(i.zero,i.size,i.bytes))=some (some (.int .i64 0),1,8):=by kernel_rfl
theorem hasN_contains (l:List Nat) (a:Nat):hasN l.length (fun k=>((l.getD k 0:Nat):Int)) (a:Int)=l.contains a:=by
 rw[Bool.eq_iff_iff]
 unfold hasN
 rw[List.any_eq_true,List.contains_iff_mem]
 constructor
 ·rintro ⟨k,hk,e⟩
  have hk2:k<l.length:=by simpa using hk
  have e2:(l.getD k 0:Int)=(a:Int):=by simpa using e
  have e3:l.getD k 0=a:=by omega
  rw[List.getD_eq_getElem?_getD,List.getElem?_eq_getElem hk2] at e3
  rw[←e3]
  exact List.getElem_mem hk2
 ·intro h
  obtain ⟨k,hk,e⟩:=List.mem_iff_getElem.1 h
  refine ⟨k,by simpa using hk,?_⟩
  show (((l.getD k 0:Nat):Int)==(a:Int))=true
  rw[List.getD_eq_getElem?_getD,List.getElem?_eq_getElem hk,e]
  simp
structure StS (w W:World) (a b c v:Value) (rf pl:Nat→Int) (l:List Nat):Prop where
 mg:MgAt w W a b c rf pl
 own:OwnsO W (w.heap.size+1) v l
theorem StS.step {w W W':World} {a b c v:Value} {rf pl:Nat→Int} {l:List Nat} (h:StS w W a b c v rf pl l) (hb:Below W.heap.size W W'):StS w W' a b c v rf pl l:=⟨h.mg.step hb,own_step h.own hb⟩
theorem StS.drew {w W:World} {a b c v:Value} {rf pl:Nat→Int} {l:List Nat} (h:StS w W a b c v rf pl l):StS w W.drew a b c v rf pl l:=⟨h.mg.drew,own_drew h.own⟩
theorem range_snoc (f:Nat→Nat) (k:Nat):(List.range (k+1)).map f=(List.range k).map f++[f k]:=by rw[List.range_succ,List.map_append];rfl
theorem oN_snoc (l:List Nat) (x:Nat):oN (l++[x])=oN l++[.int .i64 (x:Nat)]:=by simp[oN]
set_option maxRecDepth 100000 in
set_option maxHeartbeats 4000000 in
theorem rstep_any (M:Om.Ma) (hM:Om.Ok M) (vm va:Value) (at':Nat→Nat) (h26:Om.In26 M at') (w:World) (hm:MacAt w vm (gOf M)) (ha:NumsAt w va M.n fun i=>(at' i:Nat)):Calls Tryz.prog 143 #[vm,va] w fun e w'=>∃v,e=.returned v∧NumsAt w' v M.n (fun i=>(Om.step M at' i:Nat))∧Below w.heap.size w w'∧∀b,v.ownBlock=some b→w.heap.size≤b:=by
 have hn4:=hM.most
 have hn1:=hM.pos
 obtain ⟨i0,hi0,hz0,hz1,hz2⟩:=x_info_parts o_info_int
 obtain ⟨a,b,c,rfl,⟨ad,cap,R,rfl,hmx,hr,hn⟩,hri,hst⟩:=hm
 obtain ⟨aa,ca,rfl,_,hca⟩:=ha
 obtain ⟨bw,ow,had,_⟩:=hr 0 hn1
 obtain ⟨ba,oa,haa,_⟩:=hca 0 hn1
 subst had haa
 have HWH2:=(show Hid (∀r,r<M.n→w.rangeAt bw (ow+r*27) (whl (Pm.up (M.wi r)) (R r)).toList) from fun r hr2=>by
  obtain ⟨b',o',e,h⟩:=hr r hr2
  cases e
  exact h)
 have HNO:=(show Hid (∀r,r<M.n→NumsAt w (R r) (M.no r).length fun k=>(((M.no r).getD k 0:Nat):Int)) from hn)
 have HAT:=(show Hid (∀r,r<M.n→w.cell? ⟨ba,oa+r,none⟩=some (.int .i64 (at' r:Nat))) from fun r hr2=>by
  obtain ⟨b',o',e,h⟩:=hca r hr2
  cases e
  exact h)
 have HNT:=(show Hid (∀r,r<M.n→∀W,Below w.heap.size w W→Calls Tryz.prog 181 #[.agg (whl (Pm.up (M.wi r)) (R r)),.int .i64 (at' r:Nat)] W fun e w'=>e=.returned (.bool ((M.no r).contains (at' r)))∧Below W.heap.size W w') from fun r hr2 W hb=>by
  have:=rnotched_any (Pm.up (M.wi r)) (R r) _ _ (at' r:Nat) W ((HNO.out r hr2).below hb)
  rw[hasN_contains] at this
  exact this)
 have H26:=(show Hid (∀i,i<M.n→at' i<26) from h26)
 have h0:=MgAt.new w (.slice (some ⟨bw,ow,none⟩) M.n cap) b c (Pm.up M.rf) (Pm.up M.pl)
 clear hr hn hca hri hst hmx
 go_enter Tryz.func143,Tryz.ntmps143
 go_wp2_with fail
 go_loopw [11,5] (fun i o W=>∃(k:Nat) (v:Value),k≤M.n∧i=.int .i64 (k:Nat)∧v=o∧StS w W (.slice (some ⟨bw,ow,none⟩) M.n cap) b c v (Pm.up M.rf) (Pm.up M.pl) ((List.range k).map (Om.step M at'))) (fun i _ _=>((M.n:Int)-intOf i).toNat)
 case atStart=>exact ⟨0,_,by omega,rfl,rfl,h0,OwnsO.nil _ _⟩
 case round =>
  clear h0
  obtain ⟨k,v,hk,rfl,rfl,hg⟩:=hrel
  by_cases hlt:k<M.n
  ·have HLT:Hid (k<M.n):=hlt
   have HC0:=(show Hid _ from HAT.out k hlt)
   have hck:=(hg.mg.below.cell (p:=⟨ba,oa+k,none⟩) (cell_block HC0.out)).trans HC0.out
   have hak:=H26.out k hlt
   have HN0:=(show Hid _ from HNT.out k hlt)
   have HLL:Hid (((List.range k).map (Om.step M at')).length≤4):=by rw[Hid,List.length_map,List.length_range];omega
   have HTU:Hid (Om.turns M at' k=(k+1==M.n || (M.no (k+1)).contains (at' (k+1)) || (decide (0<k) && (M.no k).contains (at' k)))):=rfl
   have hk4:k<4:=by omega
   by_cases hlast:k+1=M.n
   ·have hla:((k:Int)==(M.n:Int)-1)=true:=by simp;omega
    have HT:Hid (Om.turns M at' k=true):=by rw[Hid,HTU.out,show (k+1==M.n)=true by simp[hlast]];rfl
    clear hlast
    go_upto_region 6 with fail
    refine wp_region_noPanic ?_
    refine wp_region_held_drew (S:=fun W=>StS w W (.slice (some ⟨bw,ow,none⟩) M.n cap) b c v (Pm.up M.rf) (Pm.up M.pl) ((List.range k).map (Om.step M at'))) (by kernel_rfl) hg.drew (fun hS=>?_)
    refine vtk 0 21 (.bool true) rfl (fun W hW=>by clear hS hW;go_simp) hS ?_
    simp only[zsA,zsB,zsC]
    refine vtk 1 22 (.bool true) rfl (fun W hW=>by clear hS hW;go_simp) hS ?_
    simp only[zsA,zsB,zsC]
    refine vskip 2 23 rfl rfl (by kernel_rfl) (by kernel_rfl) (by kernel_rfl) (fun _ _ _ _ h=>h) (by rfl) hS ?_
    simp only[zsA,zsB,zsC]
    refine vskip 3 24 rfl rfl (by kernel_rfl) (by kernel_rfl) (by kernel_rfl) (fun _ _ _ _ h=>h) (by rfl) hS ?_
    simp only[zsA,zsB,zsC]
    refine vskip 4 25 rfl rfl (by kernel_rfl) (by kernel_rfl) (by kernel_rfl) (fun _ _ _ _ h=>h) (by rfl) hS ?_
    simp only[zsA,zsB,zsC]
    refine vskip 5 26 rfl rfl (by kernel_rfl) (by kernel_rfl) (by kernel_rfl) (fun _ _ _ _ h=>h) (by rfl) hS ?_
    simp only[zsA,zsB,zsC]
    refine vskip 6 27 rfl rfl (by kernel_rfl) (by kernel_rfl) (by kernel_rfl) (fun _ _ _ _ h=>h) (by rfl) hS ?_
    simp only[zsA,zsB,zsC]
    refine vskip 7 28 rfl rfl (by kernel_rfl) (by kernel_rfl) (by kernel_rfl) (fun _ _ _ _ h=>h) (by rfl) hS ?_
    simp only[zsA,zsB,zsC]
    refine vskip 8 29 rfl rfl (by kernel_rfl) (by kernel_rfl) (by kernel_rfl) (fun _ _ _ _ h=>h) (by rfl) hS ?_
    simp only[zsA,zsB,zsC]
    refine vskip 9 30 rfl rfl (by kernel_rfl) (by kernel_rfl) (by kernel_rfl) (fun _ _ _ _ h=>h) (by rfl) hS ?_
    simp only[zsA,zsB,zsC]
    refine vskip 10 31 rfl rfl (by kernel_rfl) (by kernel_rfl) (by kernel_rfl) (fun _ _ _ _ h=>h) (by rfl) hS ?_
    simp only[zsA,zsB,zsC]
    refine vskip 11 32 rfl rfl (by kernel_rfl) (by kernel_rfl) (by kernel_rfl) (fun _ _ _ _ h=>h) (by rfl) hS ?_
    simp only[zsA,zsB,zsC]
    refine vskip 12 33 rfl rfl (by kernel_rfl) (by kernel_rfl) (by kernel_rfl) (fun _ _ _ _ h=>h) (by rfl) hS ?_
    simp only[zsA,zsB,zsC]
    refine vskip 13 34 rfl rfl (by kernel_rfl) (by kernel_rfl) (by kernel_rfl) (fun _ _ _ _ h=>h) (by rfl) hS ?_
    simp only[zsA,zsB,zsC]
    refine vtk 14 35 (.bool true) rfl (fun W hW=>by clear hS hW;go_simp) hS ?_
    simp only[zsA,zsB,zsC]
    refine vtk 15 36 (.bool true) rfl (fun W hW=>by clear hS hW;go_simp) hS ?_
    simp only[zsA,zsB,zsC]
    refine vskip 16 37 rfl rfl (by kernel_rfl) (by kernel_rfl) (by kernel_rfl) (fun _ _ _ _ h=>h) (by rfl) hS ?_
    simp only[zsA,zsB,zsC]
    refine vskip 17 38 rfl rfl (by kernel_rfl) (by kernel_rfl) (by kernel_rfl) (fun _ _ _ _ h=>h) (by rfl) hS ?_
    simp only[zsA,zsB,zsC]
    refine vskip 18 39 rfl rfl (by kernel_rfl) (by kernel_rfl) (by kernel_rfl) (fun _ _ _ _ h=>h) (by rfl) hS ?_
    simp only[zsA,zsB,zsC]
    refine vskip 19 40 rfl rfl (by kernel_rfl) (by kernel_rfl) (by kernel_rfl) (fun _ _ _ _ h=>h) (by rfl) hS ?_
    simp only[zsA,zsB,zsC]
    refine vskip 20 41 rfl rfl (by kernel_rfl) (by kernel_rfl) (by kernel_rfl) (fun _ _ _ _ h=>h) (by rfl) hS ?_
    simp only[zsA,zsB,zsC]
    refine vskip 21 42 rfl rfl (by kernel_rfl) (by kernel_rfl) (by kernel_rfl) (fun _ _ _ _ h=>h) (by rfl) hS ?_
    simp only[zsA,zsB,zsC]
    refine vskip 22 43 rfl rfl (by kernel_rfl) (by kernel_rfl) (by kernel_rfl) (fun _ _ _ _ h=>h) (by rfl) hS ?_
    simp only[zsA,zsB,zsC]
    refine vskip 23 44 rfl rfl (by kernel_rfl) (by kernel_rfl) (by kernel_rfl) (fun _ _ _ _ h=>h) (by rfl) hS ?_
    simp only[zsA,zsB,zsC]
    refine vskip 24 45 rfl rfl (by kernel_rfl) (by kernel_rfl) (by kernel_rfl) (fun _ _ _ _ h=>h) (by rfl) hS ?_
    simp only[zsA,zsB,zsC]
    refine vskip 25 46 rfl rfl (by kernel_rfl) (by kernel_rfl) (by kernel_rfl) (fun _ _ _ _ h=>h) (by rfl) hS ?_
    simp only[zsA,zsB,zsC]
    refine vskip 26 47 rfl rfl (by kernel_rfl) (by kernel_rfl) (by kernel_rfl) (fun _ _ _ _ h=>h) (by rfl) hS ?_
    simp only[zsA,zsB,zsC]
    refine vtk 27 48 (.bool true) rfl (fun W hW=>by clear hS hW;go_simp) hS ?_
    simp only[zsA,zsB,zsC]
    refine wpAnyH_done (by kernel_rfl) ?_ _
    refine NoPanic.normal ?_
    obtain ⟨x,hx⟩:∃x,x=((at' k+1) % 26):=⟨_,rfl⟩
    have HX:Hid (x=Om.step M at' k):=by rw[Hid,hx];unfold Om.step;rw[if_pos (by rw[HT.out])]
    obtain ⟨V,hV⟩:∃V,V=wr.drew:=⟨_,rfl⟩
    rw[←hV] at hS ⊢
    clear hV
    have HMD:Hid ((((at' k:Nat):Int)+1).tmod 26=((x:Nat):Int)):=by rw[Hid,hx,Int.tmod_eq_emod_of_nonneg (by omega)];omega
    have hmd2:(((at' k:Nat):Int)+1) % 26=((x:Nat):Int):=by rw[hx];omega
    clear hx
    go_wp2_with (first | (at_builtin;refine wpList_append_own _ rfl _ _ 25 rfl (w.heap.size+1) 3 i0 (.int .i64 0) 1 8 Tryz.underlying25 hi0 hz0 hz1 hz2 rfl (by decide) _ _ _ rfl (World.ownsRow.alloc hS.own _) ⟨V.heap.size,0,none⟩ 1 1 [.int .i64 (x:Nat)] rfl rfl (cell_one_new _ _ _) (fun u hu=>by simp at hu;subst hu;rfl) (by have:=HLL.out;unfold maxLen;omega) (by have:=HLL.out;omega) (by have:=hS.mg.lt;simp;omega) ?_;intro v5 w5 hown5 hgrow5 _))
    have hlt5:=hS.mg.lt
    have hbY:Below w.heap.size w w5:=(hS.mg.below.alloc hS.mg.below.size (.cells #[.int .i64 (x:Nat)] 3)).grown hgrow5 (by simp;omega) (fun q hq=>by have:=(World.ownsRow.lt hS.own q hq).1;omega)
    have hmY:RowAt w5 w.heap.size 29 (mac (.slice (some ⟨bw,ow,none⟩) M.n cap) b c (Pm.up M.rf) (Pm.up M.pl)):=((hgrow5.block w.heap.size (by simp;omega) (fun e=>by have:=(World.ownsRow.lt hS.own _ e.symm).1;omega))).trans (hS.mg.row.alloc _)
    go_roundw
    case rel =>
     refine ⟨k+1,v5,HLT.out,by go_num,rfl,⟨hmY,hbY⟩,?_⟩
     rw[range_snoc,←HX.out]
     unfold OwnsO
     rw[oN_snoc,List.length_append]
     exact hown5
    case measure=>have:=HLT.out;simp[intOf];omega
   ·have hla:((k:Int)==(M.n:Int)-1)=false:=beq_false_of_ne (by omega)
    have hk1:k+1<M.n:=by omega
    have HL0:Hid ((k+1==M.n)=false):=by rw[Hid];exact beq_false_of_ne hlast
    have HC1:=(show Hid _ from HAT.out (k+1) hk1)
    have HN1:=(show Hid _ from HNT.out (k+1) hk1)
    have HK1:Hid (k+1<M.n):=hk1
    have hk1i:((k:Int)+1<(M.n:Int)):=by omega
    have hk1w:IntKind.i64.wrap ((k:Int)+1)=(k:Int)+1:=IntWalk.i64_in _ (by omega)
    have hk1j:(0:Int)≤(k:Int)+1:=by omega
    have hk1n:¬((k:Int)+1<0):=by omega
    have hk1t:((k:Int)+1).toNat=k+1:=by omega
    clear hlast
    cases hN:(M.no (k+1)).contains (at' (k+1)) with
    | true =>
     have HT:Hid (Om.turns M at' k=true):=by rw[Hid,HTU.out,HL0.out,hN];rfl
     rw[hN] at HN1
     clear hN
     go_upto_region 6 with fail
     refine wp_region_noPanic ?_
     refine wp_region_held_drew (S:=fun W=>StS w W (.slice (some ⟨bw,ow,none⟩) M.n cap) b c v (Pm.up M.rf) (Pm.up M.pl) ((List.range k).map (Om.step M at'))) (by kernel_rfl) hg.drew (fun hS=>?_)
     refine vtk 0 21 (.bool false) rfl (fun W hW=>by clear hS hW;go_simp) hS ?_
     simp only[zsA,zsB,zsC]
     refine vtk 1 22 (.bool false) rfl (fun W hW=>by clear hS hW;go_simp) hS ?_
     simp only[zsA,zsB,zsC]
     refine vtk 2 23 (.pointer (some ⟨w.heap.size,0,none⟩)) rfl (fun W hW=>by clear hS hW;go_simp) hS ?_
     simp only[zsA,zsB,zsC]
     refine vtk 3 24 (.slice (some ⟨bw,ow,none⟩) M.n cap) rfl (fun W hW=>by have u:=hW.mg.c0;clear hS hW;go_simp) hS ?_
     simp only[zsA,zsB,zsC]
     refine vtk 4 25 (.int .i64 (k:Nat)) rfl (fun W hW=>by clear hS hW;go_simp) hS ?_
     simp only[zsA,zsB,zsC]
     refine vtk 5 26 (.int .i64 ((k:Int)+1)) rfl (fun W hW=>by clear hS hW;go_simp) hS ?_
     simp only[zsA,zsB,zsC]
     refine vtk 6 27 (.pointer (some ⟨bw,ow+(k+1)*27,none⟩)) rfl (fun W hW=>by clear hS hW;go_simp) hS ?_
     simp only[zsA,zsB,zsC]
     refine vtk 7 28 (.agg (whl (Pm.up (M.wi (k+1))) (R (k+1)))) rfl (fun W hW=>by have u:=run_loadAt_mid (P:=Tryz.prog) W bw (ow+(k+1)*27) 97 (whl (Pm.up (M.wi (k+1))) (R (k+1))).toList _ (rangeAt_below (HWH2.out (k+1) hk1) hW.mg.below) Tryz.underlying97 rfl (by rw[Array.length_toList,whl_size];exact v_info_whl);rw[Array.toArray_toList] at u;clear hS hW;simp[execOp,Act.eval,u]) hS ?_
     simp only[zsA,zsB,zsC]
     refine vtk 8 29 (.slice (some ⟨ba,oa,none⟩) M.n ca) rfl (fun W hW=>by clear hS hW;go_simp) hS ?_
     simp only[zsA,zsB,zsC]
     refine vtk 9 30 (.int .i64 (k:Nat)) rfl (fun W hW=>by clear hS hW;go_simp) hS ?_
     simp only[zsA,zsB,zsC]
     refine vtk 10 31 (.int .i64 ((k:Int)+1)) rfl (fun W hW=>by clear hS hW;go_simp) hS ?_
     simp only[zsA,zsB,zsC]
     refine vtk 11 32 (.pointer (some ⟨ba,oa+(k+1),none⟩)) rfl (fun W hW=>by clear hS hW;go_simp) hS ?_
     simp only[zsA,zsB,zsC]
     refine vtk 12 33 (.int .i64 (at' (k+1):Nat)) rfl (fun W hW=>by have u:=(hW.mg.below.cell (p:=⟨ba,oa+(k+1),none⟩) (cell_block HC1.out)).trans HC1.out;clear hS hW;go_simp) hS ?_
     simp only[zsA,zsB,zsC]
     refine rd1 13 rfl (fun K hK=>?_)
     go_simp
     refine Calls.mono (HN1.out _ hS.mg.below) ?_
     rintro e Y ⟨rfl,hb8⟩
     refine hK.out _ _ (hS.step hb8) (fun hS1=>?_)
     clear hK hS K
     have hS:=hS1
     clear hS1
     refine vtk 14 35 (.bool true) rfl (fun W hW=>by clear hS hW;go_simp) hS ?_
     simp only[zsA,zsB,zsC]
     refine vtk 15 36 (.bool true) rfl (fun W hW=>by clear hS hW;go_simp) hS ?_
     simp only[zsA,zsB,zsC]
     refine vskip 16 37 rfl rfl (by kernel_rfl) (by kernel_rfl) (by kernel_rfl) (fun _ _ _ _ h=>h) (by rfl) hS ?_
     simp only[zsA,zsB,zsC]
     refine vskip 17 38 rfl rfl (by kernel_rfl) (by kernel_rfl) (by kernel_rfl) (fun _ _ _ _ h=>h) (by rfl) hS ?_
     simp only[zsA,zsB,zsC]
     refine vskip 18 39 rfl rfl (by kernel_rfl) (by kernel_rfl) (by kernel_rfl) (fun _ _ _ _ h=>h) (by rfl) hS ?_
     simp only[zsA,zsB,zsC]
     refine vskip 19 40 rfl rfl (by kernel_rfl) (by kernel_rfl) (by kernel_rfl) (fun _ _ _ _ h=>h) (by rfl) hS ?_
     simp only[zsA,zsB,zsC]
     refine vskip 20 41 rfl rfl (by kernel_rfl) (by kernel_rfl) (by kernel_rfl) (fun _ _ _ _ h=>h) (by rfl) hS ?_
     simp only[zsA,zsB,zsC]
     refine vskip 21 42 rfl rfl (by kernel_rfl) (by kernel_rfl) (by kernel_rfl) (fun _ _ _ _ h=>h) (by rfl) hS ?_
     simp only[zsA,zsB,zsC]
     refine vskip 22 43 rfl rfl (by kernel_rfl) (by kernel_rfl) (by kernel_rfl) (fun _ _ _ _ h=>h) (by rfl) hS ?_
     simp only[zsA,zsB,zsC]
     refine vskip 23 44 rfl rfl (by kernel_rfl) (by kernel_rfl) (by kernel_rfl) (fun _ _ _ _ h=>h) (by rfl) hS ?_
     simp only[zsA,zsB,zsC]
     refine vskip 24 45 rfl rfl (by kernel_rfl) (by kernel_rfl) (by kernel_rfl) (fun _ _ _ _ h=>h) (by rfl) hS ?_
     simp only[zsA,zsB,zsC]
     refine vskip 25 46 rfl rfl (by kernel_rfl) (by kernel_rfl) (by kernel_rfl) (fun _ _ _ _ h=>h) (by rfl) hS ?_
     simp only[zsA,zsB,zsC]
     refine vskip 26 47 rfl rfl (by kernel_rfl) (by kernel_rfl) (by kernel_rfl) (fun _ _ _ _ h=>h) (by rfl) hS ?_
     simp only[zsA,zsB,zsC]
     refine vtk 27 48 (.bool true) rfl (fun W hW=>by clear hS hW;go_simp) hS ?_
     simp only[zsA,zsB,zsC]
     refine wpAnyH_done (by kernel_rfl) ?_ _
     refine NoPanic.normal ?_
     obtain ⟨x,hx⟩:∃x,x=((at' k+1) % 26):=⟨_,rfl⟩
     have HX:Hid (x=Om.step M at' k):=by rw[Hid,hx];unfold Om.step;rw[if_pos (by rw[HT.out])]
     obtain ⟨V,hV⟩:∃V,V=Y:=⟨_,rfl⟩
     rw[←hV] at hS ⊢
     clear hV
     have HMD:Hid ((((at' k:Nat):Int)+1).tmod 26=((x:Nat):Int)):=by rw[Hid,hx,Int.tmod_eq_emod_of_nonneg (by omega)];omega
     have hmd2:(((at' k:Nat):Int)+1) % 26=((x:Nat):Int):=by rw[hx];omega
     clear hx
     go_wp2_with (first | (at_builtin;refine wpList_append_own _ rfl _ _ 25 rfl (w.heap.size+1) 3 i0 (.int .i64 0) 1 8 Tryz.underlying25 hi0 hz0 hz1 hz2 rfl (by decide) _ _ _ rfl (World.ownsRow.alloc hS.own _) ⟨V.heap.size,0,none⟩ 1 1 [.int .i64 (x:Nat)] rfl rfl (cell_one_new _ _ _) (fun u hu=>by simp at hu;subst hu;rfl) (by have:=HLL.out;unfold maxLen;omega) (by have:=HLL.out;omega) (by have:=hS.mg.lt;simp;omega) ?_;intro v5 w5 hown5 hgrow5 _))
     have hlt5:=hS.mg.lt
     have hbY:Below w.heap.size w w5:=(hS.mg.below.alloc hS.mg.below.size (.cells #[.int .i64 (x:Nat)] 3)).grown hgrow5 (by simp;omega) (fun q hq=>by have:=(World.ownsRow.lt hS.own q hq).1;omega)
     have hmY:RowAt w5 w.heap.size 29 (mac (.slice (some ⟨bw,ow,none⟩) M.n cap) b c (Pm.up M.rf) (Pm.up M.pl)):=((hgrow5.block w.heap.size (by simp;omega) (fun e=>by have:=(World.ownsRow.lt hS.own _ e.symm).1;omega))).trans (hS.mg.row.alloc _)
     go_roundw
     case rel =>
      refine ⟨k+1,v5,HLT.out,by go_num,rfl,⟨hmY,hbY⟩,?_⟩
      rw[range_snoc,←HX.out]
      unfold OwnsO
      rw[oN_snoc,List.length_append]
      exact hown5
     case measure=>have:=HLT.out;simp[intOf];omega
    | false =>
     rw[hN] at HN1
     by_cases hk0:0<k
     ·have hk0i:(0:Int)<(k:Int):=by omega
      cases hM0:(M.no k).contains (at' k) with
      | true =>
       have HT:Hid (Om.turns M at' k=true):=by rw[Hid,HTU.out,HL0.out,hN,hM0,decide_eq_true hk0];rfl
       rw[hM0] at HN0
       clear hN hM0
       go_upto_region 6 with fail
       refine wp_region_noPanic ?_
       refine wp_region_held_drew (S:=fun W=>StS w W (.slice (some ⟨bw,ow,none⟩) M.n cap) b c v (Pm.up M.rf) (Pm.up M.pl) ((List.range k).map (Om.step M at'))) (by kernel_rfl) hg.drew (fun hS=>?_)
       refine vtk 0 21 (.bool false) rfl (fun W hW=>by clear hS hW;go_simp) hS ?_
       simp only[zsA,zsB,zsC]
       refine vtk 1 22 (.bool false) rfl (fun W hW=>by clear hS hW;go_simp) hS ?_
       simp only[zsA,zsB,zsC]
       refine vtk 2 23 (.pointer (some ⟨w.heap.size,0,none⟩)) rfl (fun W hW=>by clear hS hW;go_simp) hS ?_
       simp only[zsA,zsB,zsC]
       refine vtk 3 24 (.slice (some ⟨bw,ow,none⟩) M.n cap) rfl (fun W hW=>by have u:=hW.mg.c0;clear hS hW;go_simp) hS ?_
       simp only[zsA,zsB,zsC]
       refine vtk 4 25 (.int .i64 (k:Nat)) rfl (fun W hW=>by clear hS hW;go_simp) hS ?_
       simp only[zsA,zsB,zsC]
       refine vtk 5 26 (.int .i64 ((k:Int)+1)) rfl (fun W hW=>by clear hS hW;go_simp) hS ?_
       simp only[zsA,zsB,zsC]
       refine vtk 6 27 (.pointer (some ⟨bw,ow+(k+1)*27,none⟩)) rfl (fun W hW=>by clear hS hW;go_simp) hS ?_
       simp only[zsA,zsB,zsC]
       refine vtk 7 28 (.agg (whl (Pm.up (M.wi (k+1))) (R (k+1)))) rfl (fun W hW=>by have u:=run_loadAt_mid (P:=Tryz.prog) W bw (ow+(k+1)*27) 97 (whl (Pm.up (M.wi (k+1))) (R (k+1))).toList _ (rangeAt_below (HWH2.out (k+1) hk1) hW.mg.below) Tryz.underlying97 rfl (by rw[Array.length_toList,whl_size];exact v_info_whl);rw[Array.toArray_toList] at u;clear hS hW;simp[execOp,Act.eval,u]) hS ?_
       simp only[zsA,zsB,zsC]
       refine vtk 8 29 (.slice (some ⟨ba,oa,none⟩) M.n ca) rfl (fun W hW=>by clear hS hW;go_simp) hS ?_
       simp only[zsA,zsB,zsC]
       refine vtk 9 30 (.int .i64 (k:Nat)) rfl (fun W hW=>by clear hS hW;go_simp) hS ?_
       simp only[zsA,zsB,zsC]
       refine vtk 10 31 (.int .i64 ((k:Int)+1)) rfl (fun W hW=>by clear hS hW;go_simp) hS ?_
       simp only[zsA,zsB,zsC]
       refine vtk 11 32 (.pointer (some ⟨ba,oa+(k+1),none⟩)) rfl (fun W hW=>by clear hS hW;go_simp) hS ?_
       simp only[zsA,zsB,zsC]
       refine vtk 12 33 (.int .i64 (at' (k+1):Nat)) rfl (fun W hW=>by have u:=(hW.mg.below.cell (p:=⟨ba,oa+(k+1),none⟩) (cell_block HC1.out)).trans HC1.out;clear hS hW;go_simp) hS ?_
       simp only[zsA,zsB,zsC]
       refine rd1 13 rfl (fun K hK=>?_)
       go_simp
       refine Calls.mono (HN1.out _ hS.mg.below) ?_
       rintro e Y ⟨rfl,hb8⟩
       refine hK.out _ _ (hS.step hb8) (fun hS1=>?_)
       clear hK hS K
       have hS:=hS1
       clear hS1
       refine vtk 14 35 (.bool false) rfl (fun W hW=>by clear hS hW;go_simp) hS ?_
       simp only[zsA,zsB,zsC]
       refine vtk 15 36 (.bool false) rfl (fun W hW=>by clear hS hW;go_simp) hS ?_
       simp only[zsA,zsB,zsC]
       refine vtk 16 37 (.int .i64 (k:Nat)) rfl (fun W hW=>by clear hS hW;go_simp) hS ?_
       simp only[zsA,zsB,zsC]
       refine vtk 17 38 (.bool true) rfl (fun W hW=>by clear hS hW;go_simp) hS ?_
       simp only[zsA,zsB,zsC]
       refine vtk 18 39 (.bool true) rfl (fun W hW=>by clear hS hW;go_simp) hS ?_
       simp only[zsA,zsB,zsC]
       refine vtk 19 40 (.pointer (some ⟨w.heap.size,0,none⟩)) rfl (fun W hW=>by clear hS hW;go_simp) hS ?_
       simp only[zsA,zsB,zsC]
       refine vtk 20 41 (.slice (some ⟨bw,ow,none⟩) M.n cap) rfl (fun W hW=>by have u:=hW.mg.c0;clear hS hW;go_simp) hS ?_
       simp only[zsA,zsB,zsC]
       refine vtk 21 42 (.int .i64 (k:Nat)) rfl (fun W hW=>by clear hS hW;go_simp) hS ?_
       simp only[zsA,zsB,zsC]
       refine vtk 22 43 (.pointer (some ⟨bw,ow+k*27,none⟩)) rfl (fun W hW=>by clear hS hW;go_simp) hS ?_
       simp only[zsA,zsB,zsC]
       refine vtk 23 44 (.agg (whl (Pm.up (M.wi k)) (R k))) rfl (fun W hW=>by have u:=run_loadAt_mid (P:=Tryz.prog) W bw (ow+k*27) 97 (whl (Pm.up (M.wi (k))) (R (k))).toList _ (rangeAt_below (HWH2.out (k) HLT.out) hW.mg.below) Tryz.underlying97 rfl (by rw[Array.length_toList,whl_size];exact v_info_whl);rw[Array.toArray_toList] at u;clear hS hW;simp[execOp,Act.eval,u]) hS ?_
       simp only[zsA,zsB,zsC]
       refine vtk 24 45 (.int .i64 (at' k:Nat)) rfl (fun W hW=>by clear hS hW;go_simp) hS ?_
       simp only[zsA,zsB,zsC]
       refine rd1 25 rfl (fun K hK=>?_)
       go_simp
       refine Calls.mono (HN0.out _ hS.mg.below) ?_
       rintro e Y ⟨rfl,hb8⟩
       refine hK.out _ _ (hS.step hb8) (fun hS1=>?_)
       clear hK hS K
       have hS:=hS1
       clear hS1
       refine vtk 26 47 (.bool true) rfl (fun W hW=>by clear hS hW;go_simp) hS ?_
       simp only[zsA,zsB,zsC]
       refine vtk 27 48 (.bool true) rfl (fun W hW=>by clear hS hW;go_simp) hS ?_
       simp only[zsA,zsB,zsC]
       refine wpAnyH_done (by kernel_rfl) ?_ _
       refine NoPanic.normal ?_
       obtain ⟨x,hx⟩:∃x,x=((at' k+1) % 26):=⟨_,rfl⟩
       have HX:Hid (x=Om.step M at' k):=by rw[Hid,hx];unfold Om.step;rw[if_pos (by rw[HT.out])]
       obtain ⟨V,hV⟩:∃V,V=Y:=⟨_,rfl⟩
       rw[←hV] at hS ⊢
       clear hV
       have HMD:Hid ((((at' k:Nat):Int)+1).tmod 26=((x:Nat):Int)):=by rw[Hid,hx,Int.tmod_eq_emod_of_nonneg (by omega)];omega
       have hmd2:(((at' k:Nat):Int)+1) % 26=((x:Nat):Int):=by rw[hx];omega
       clear hx
       go_wp2_with (first | (at_builtin;refine wpList_append_own _ rfl _ _ 25 rfl (w.heap.size+1) 3 i0 (.int .i64 0) 1 8 Tryz.underlying25 hi0 hz0 hz1 hz2 rfl (by decide) _ _ _ rfl (World.ownsRow.alloc hS.own _) ⟨V.heap.size,0,none⟩ 1 1 [.int .i64 (x:Nat)] rfl rfl (cell_one_new _ _ _) (fun u hu=>by simp at hu;subst hu;rfl) (by have:=HLL.out;unfold maxLen;omega) (by have:=HLL.out;omega) (by have:=hS.mg.lt;simp;omega) ?_;intro v5 w5 hown5 hgrow5 _))
       have hlt5:=hS.mg.lt
       have hbY:Below w.heap.size w w5:=(hS.mg.below.alloc hS.mg.below.size (.cells #[.int .i64 (x:Nat)] 3)).grown hgrow5 (by simp;omega) (fun q hq=>by have:=(World.ownsRow.lt hS.own q hq).1;omega)
       have hmY:RowAt w5 w.heap.size 29 (mac (.slice (some ⟨bw,ow,none⟩) M.n cap) b c (Pm.up M.rf) (Pm.up M.pl)):=((hgrow5.block w.heap.size (by simp;omega) (fun e=>by have:=(World.ownsRow.lt hS.own _ e.symm).1;omega))).trans (hS.mg.row.alloc _)
       go_roundw
       case rel =>
        refine ⟨k+1,v5,HLT.out,by go_num,rfl,⟨hmY,hbY⟩,?_⟩
        rw[range_snoc,←HX.out]
        unfold OwnsO
        rw[oN_snoc,List.length_append]
        exact hown5
       case measure=>have:=HLT.out;simp[intOf];omega
      | false =>
       have HT:Hid (Om.turns M at' k=false):=by rw[Hid,HTU.out,HL0.out,hN,hM0,decide_eq_true hk0];rfl
       rw[hM0] at HN0
       clear hN hM0
       go_upto_region 6 with fail
       refine wp_region_noPanic ?_
       refine wp_region_held_drew (S:=fun W=>StS w W (.slice (some ⟨bw,ow,none⟩) M.n cap) b c v (Pm.up M.rf) (Pm.up M.pl) ((List.range k).map (Om.step M at'))) (by kernel_rfl) hg.drew (fun hS=>?_)
       refine vtk 0 21 (.bool false) rfl (fun W hW=>by clear hS hW;go_simp) hS ?_
       simp only[zsA,zsB,zsC]
       refine vtk 1 22 (.bool false) rfl (fun W hW=>by clear hS hW;go_simp) hS ?_
       simp only[zsA,zsB,zsC]
       refine vtk 2 23 (.pointer (some ⟨w.heap.size,0,none⟩)) rfl (fun W hW=>by clear hS hW;go_simp) hS ?_
       simp only[zsA,zsB,zsC]
       refine vtk 3 24 (.slice (some ⟨bw,ow,none⟩) M.n cap) rfl (fun W hW=>by have u:=hW.mg.c0;clear hS hW;go_simp) hS ?_
       simp only[zsA,zsB,zsC]
       refine vtk 4 25 (.int .i64 (k:Nat)) rfl (fun W hW=>by clear hS hW;go_simp) hS ?_
       simp only[zsA,zsB,zsC]
       refine vtk 5 26 (.int .i64 ((k:Int)+1)) rfl (fun W hW=>by clear hS hW;go_simp) hS ?_
       simp only[zsA,zsB,zsC]
       refine vtk 6 27 (.pointer (some ⟨bw,ow+(k+1)*27,none⟩)) rfl (fun W hW=>by clear hS hW;go_simp) hS ?_
       simp only[zsA,zsB,zsC]
       refine vtk 7 28 (.agg (whl (Pm.up (M.wi (k+1))) (R (k+1)))) rfl (fun W hW=>by have u:=run_loadAt_mid (P:=Tryz.prog) W bw (ow+(k+1)*27) 97 (whl (Pm.up (M.wi (k+1))) (R (k+1))).toList _ (rangeAt_below (HWH2.out (k+1) hk1) hW.mg.below) Tryz.underlying97 rfl (by rw[Array.length_toList,whl_size];exact v_info_whl);rw[Array.toArray_toList] at u;clear hS hW;simp[execOp,Act.eval,u]) hS ?_
       simp only[zsA,zsB,zsC]
       refine vtk 8 29 (.slice (some ⟨ba,oa,none⟩) M.n ca) rfl (fun W hW=>by clear hS hW;go_simp) hS ?_
       simp only[zsA,zsB,zsC]
       refine vtk 9 30 (.int .i64 (k:Nat)) rfl (fun W hW=>by clear hS hW;go_simp) hS ?_
       simp only[zsA,zsB,zsC]
       refine vtk 10 31 (.int .i64 ((k:Int)+1)) rfl (fun W hW=>by clear hS hW;go_simp) hS ?_
       simp only[zsA,zsB,zsC]
       refine vtk 11 32 (.pointer (some ⟨ba,oa+(k+1),none⟩)) rfl (fun W hW=>by clear hS hW;go_simp) hS ?_
       simp only[zsA,zsB,zsC]
       refine vtk 12 33 (.int .i64 (at' (k+1):Nat)) rfl (fun W hW=>by have u:=(hW.mg.below.cell (p:=⟨ba,oa+(k+1),none⟩) (cell_block HC1.out)).trans HC1.out;clear hS hW;go_simp) hS ?_
       simp only[zsA,zsB,zsC]
       refine rd1 13 rfl (fun K hK=>?_)
       go_simp
       refine Calls.mono (HN1.out _ hS.mg.below) ?_
       rintro e Y ⟨rfl,hb8⟩
       refine hK.out _ _ (hS.step hb8) (fun hS1=>?_)
       clear hK hS K
       have hS:=hS1
       clear hS1
       refine vtk 14 35 (.bool false) rfl (fun W hW=>by clear hS hW;go_simp) hS ?_
       simp only[zsA,zsB,zsC]
       refine vtk 15 36 (.bool false) rfl (fun W hW=>by clear hS hW;go_simp) hS ?_
       simp only[zsA,zsB,zsC]
       refine vtk 16 37 (.int .i64 (k:Nat)) rfl (fun W hW=>by clear hS hW;go_simp) hS ?_
       simp only[zsA,zsB,zsC]
       refine vtk 17 38 (.bool true) rfl (fun W hW=>by clear hS hW;go_simp) hS ?_
       simp only[zsA,zsB,zsC]
       refine vtk 18 39 (.bool true) rfl (fun W hW=>by clear hS hW;go_simp) hS ?_
       simp only[zsA,zsB,zsC]
       refine vtk 19 40 (.pointer (some ⟨w.heap.size,0,none⟩)) rfl (fun W hW=>by clear hS hW;go_simp) hS ?_
       simp only[zsA,zsB,zsC]
       refine vtk 20 41 (.slice (some ⟨bw,ow,none⟩) M.n cap) rfl (fun W hW=>by have u:=hW.mg.c0;clear hS hW;go_simp) hS ?_
       simp only[zsA,zsB,zsC]
       refine vtk 21 42 (.int .i64 (k:Nat)) rfl (fun W hW=>by clear hS hW;go_simp) hS ?_
       simp only[zsA,zsB,zsC]
       refine vtk 22 43 (.pointer (some ⟨bw,ow+k*27,none⟩)) rfl (fun W hW=>by clear hS hW;go_simp) hS ?_
       simp only[zsA,zsB,zsC]
       refine vtk 23 44 (.agg (whl (Pm.up (M.wi k)) (R k))) rfl (fun W hW=>by have u:=run_loadAt_mid (P:=Tryz.prog) W bw (ow+k*27) 97 (whl (Pm.up (M.wi (k))) (R (k))).toList _ (rangeAt_below (HWH2.out (k) HLT.out) hW.mg.below) Tryz.underlying97 rfl (by rw[Array.length_toList,whl_size];exact v_info_whl);rw[Array.toArray_toList] at u;clear hS hW;simp[execOp,Act.eval,u]) hS ?_
       simp only[zsA,zsB,zsC]
       refine vtk 24 45 (.int .i64 (at' k:Nat)) rfl (fun W hW=>by clear hS hW;go_simp) hS ?_
       simp only[zsA,zsB,zsC]
       refine rd1 25 rfl (fun K hK=>?_)
       go_simp
       refine Calls.mono (HN0.out _ hS.mg.below) ?_
       rintro e Y ⟨rfl,hb8⟩
       refine hK.out _ _ (hS.step hb8) (fun hS1=>?_)
       clear hK hS K
       have hS:=hS1
       clear hS1
       refine vtk 26 47 (.bool false) rfl (fun W hW=>by clear hS hW;go_simp) hS ?_
       simp only[zsA,zsB,zsC]
       refine vtk 27 48 (.bool false) rfl (fun W hW=>by clear hS hW;go_simp) hS ?_
       simp only[zsA,zsB,zsC]
       refine wpAnyH_done (by kernel_rfl) ?_ _
       refine NoPanic.normal ?_
       obtain ⟨x,hx⟩:∃x,x=(at' k):=⟨_,rfl⟩
       have HX:Hid (x=Om.step M at' k):=by rw[Hid,hx];unfold Om.step;rw[if_neg (by rw[HT.out];decide)]
       obtain ⟨V,hV⟩:∃V,V=Y:=⟨_,rfl⟩
       rw[←hV] at hS ⊢
       clear hV
       rw[←hx]
       clear hx
       go_wp2_with (first | (at_builtin;refine wpList_append_own _ rfl _ _ 25 rfl (w.heap.size+1) 3 i0 (.int .i64 0) 1 8 Tryz.underlying25 hi0 hz0 hz1 hz2 rfl (by decide) _ _ _ rfl (World.ownsRow.alloc hS.own _) ⟨V.heap.size,0,none⟩ 1 1 [.int .i64 (x:Nat)] rfl rfl (cell_one_new _ _ _) (fun u hu=>by simp at hu;subst hu;rfl) (by have:=HLL.out;unfold maxLen;omega) (by have:=HLL.out;omega) (by have:=hS.mg.lt;simp;omega) ?_;intro v5 w5 hown5 hgrow5 _))
       have hlt5:=hS.mg.lt
       have hbY:Below w.heap.size w w5:=(hS.mg.below.alloc hS.mg.below.size (.cells #[.int .i64 (x:Nat)] 3)).grown hgrow5 (by simp;omega) (fun q hq=>by have:=(World.ownsRow.lt hS.own q hq).1;omega)
       have hmY:RowAt w5 w.heap.size 29 (mac (.slice (some ⟨bw,ow,none⟩) M.n cap) b c (Pm.up M.rf) (Pm.up M.pl)):=((hgrow5.block w.heap.size (by simp;omega) (fun e=>by have:=(World.ownsRow.lt hS.own _ e.symm).1;omega))).trans (hS.mg.row.alloc _)
       go_roundw
       case rel =>
        refine ⟨k+1,v5,HLT.out,by go_num,rfl,⟨hmY,hbY⟩,?_⟩
        rw[range_snoc,←HX.out]
        unfold OwnsO
        rw[oN_snoc,List.length_append]
        exact hown5
       case measure=>have:=HLT.out;simp[intOf];omega
     ·have HT:Hid (Om.turns M at' k=false):=by rw[Hid,HTU.out,HL0.out,hN,decide_eq_false hk0];rfl
      have hk0i:¬(0:Int)<(k:Int):=by omega
      clear hN
      go_upto_region 6 with fail
      refine wp_region_noPanic ?_
      refine wp_region_held_drew (S:=fun W=>StS w W (.slice (some ⟨bw,ow,none⟩) M.n cap) b c v (Pm.up M.rf) (Pm.up M.pl) ((List.range k).map (Om.step M at'))) (by kernel_rfl) hg.drew (fun hS=>?_)
      refine vtk 0 21 (.bool false) rfl (fun W hW=>by clear hS hW;go_simp) hS ?_
      simp only[zsA,zsB,zsC]
      refine vtk 1 22 (.bool false) rfl (fun W hW=>by clear hS hW;go_simp) hS ?_
      simp only[zsA,zsB,zsC]
      refine vtk 2 23 (.pointer (some ⟨w.heap.size,0,none⟩)) rfl (fun W hW=>by clear hS hW;go_simp) hS ?_
      simp only[zsA,zsB,zsC]
      refine vtk 3 24 (.slice (some ⟨bw,ow,none⟩) M.n cap) rfl (fun W hW=>by have u:=hW.mg.c0;clear hS hW;go_simp) hS ?_
      simp only[zsA,zsB,zsC]
      refine vtk 4 25 (.int .i64 (k:Nat)) rfl (fun W hW=>by clear hS hW;go_simp) hS ?_
      simp only[zsA,zsB,zsC]
      refine vtk 5 26 (.int .i64 ((k:Int)+1)) rfl (fun W hW=>by clear hS hW;go_simp) hS ?_
      simp only[zsA,zsB,zsC]
      refine vtk 6 27 (.pointer (some ⟨bw,ow+(k+1)*27,none⟩)) rfl (fun W hW=>by clear hS hW;go_simp) hS ?_
      simp only[zsA,zsB,zsC]
      refine vtk 7 28 (.agg (whl (Pm.up (M.wi (k+1))) (R (k+1)))) rfl (fun W hW=>by have u:=run_loadAt_mid (P:=Tryz.prog) W bw (ow+(k+1)*27) 97 (whl (Pm.up (M.wi (k+1))) (R (k+1))).toList _ (rangeAt_below (HWH2.out (k+1) hk1) hW.mg.below) Tryz.underlying97 rfl (by rw[Array.length_toList,whl_size];exact v_info_whl);rw[Array.toArray_toList] at u;clear hS hW;simp[execOp,Act.eval,u]) hS ?_
      simp only[zsA,zsB,zsC]
      refine vtk 8 29 (.slice (some ⟨ba,oa,none⟩) M.n ca) rfl (fun W hW=>by clear hS hW;go_simp) hS ?_
      simp only[zsA,zsB,zsC]
      refine vtk 9 30 (.int .i64 (k:Nat)) rfl (fun W hW=>by clear hS hW;go_simp) hS ?_
      simp only[zsA,zsB,zsC]
      refine vtk 10 31 (.int .i64 ((k:Int)+1)) rfl (fun W hW=>by clear hS hW;go_simp) hS ?_
      simp only[zsA,zsB,zsC]
      refine vtk 11 32 (.pointer (some ⟨ba,oa+(k+1),none⟩)) rfl (fun W hW=>by clear hS hW;go_simp) hS ?_
      simp only[zsA,zsB,zsC]
      refine vtk 12 33 (.int .i64 (at' (k+1):Nat)) rfl (fun W hW=>by have u:=(hW.mg.below.cell (p:=⟨ba,oa+(k+1),none⟩) (cell_block HC1.out)).trans HC1.out;clear hS hW;go_simp) hS ?_
      simp only[zsA,zsB,zsC]
      refine rd1 13 rfl (fun K hK=>?_)
      go_simp
      refine Calls.mono (HN1.out _ hS.mg.below) ?_
      rintro e Y ⟨rfl,hb8⟩
      refine hK.out _ _ (hS.step hb8) (fun hS1=>?_)
      clear hK hS K
      have hS:=hS1
      clear hS1
      refine vtk 14 35 (.bool false) rfl (fun W hW=>by clear hS hW;go_simp) hS ?_
      simp only[zsA,zsB,zsC]
      refine vtk 15 36 (.bool false) rfl (fun W hW=>by clear hS hW;go_simp) hS ?_
      simp only[zsA,zsB,zsC]
      refine vtk 16 37 (.int .i64 (k:Nat)) rfl (fun W hW=>by clear hS hW;go_simp) hS ?_
      simp only[zsA,zsB,zsC]
      refine vtk 17 38 (.bool false) rfl (fun W hW=>by clear hS hW;go_simp) hS ?_
      simp only[zsA,zsB,zsC]
      refine vtk 18 39 (.bool false) rfl (fun W hW=>by clear hS hW;go_simp) hS ?_
      simp only[zsA,zsB,zsC]
      refine vskip 19 40 rfl rfl (by kernel_rfl) (by kernel_rfl) (by kernel_rfl) (fun _ _ _ _ h=>h) (by rfl) hS ?_
      simp only[zsA,zsB,zsC]
      refine vskip 20 41 rfl rfl (by kernel_rfl) (by kernel_rfl) (by kernel_rfl) (fun _ _ _ _ h=>h) (by rfl) hS ?_
      simp only[zsA,zsB,zsC]
      refine vskip 21 42 rfl rfl (by kernel_rfl) (by kernel_rfl) (by kernel_rfl) (fun _ _ _ _ h=>h) (by rfl) hS ?_
      simp only[zsA,zsB,zsC]
      refine vskip 22 43 rfl rfl (by kernel_rfl) (by kernel_rfl) (by kernel_rfl) (fun _ _ _ _ h=>h) (by rfl) hS ?_
      simp only[zsA,zsB,zsC]
      refine vskip 23 44 rfl rfl (by kernel_rfl) (by kernel_rfl) (by kernel_rfl) (fun _ _ _ _ h=>h) (by rfl) hS ?_
      simp only[zsA,zsB,zsC]
      refine vskip 24 45 rfl rfl (by kernel_rfl) (by kernel_rfl) (by kernel_rfl) (fun _ _ _ _ h=>h) (by rfl) hS ?_
      simp only[zsA,zsB,zsC]
      refine vskip 25 46 rfl rfl (by kernel_rfl) (by kernel_rfl) (by kernel_rfl) (fun _ _ _ _ h=>h) (by rfl) hS ?_
      simp only[zsA,zsB,zsC]
      refine vtk 26 47 (.bool false) rfl (fun W hW=>by clear hS hW;go_simp) hS ?_
      simp only[zsA,zsB,zsC]
      refine vtk 27 48 (.bool false) rfl (fun W hW=>by clear hS hW;go_simp) hS ?_
      simp only[zsA,zsB,zsC]
      refine wpAnyH_done (by kernel_rfl) ?_ _
      refine NoPanic.normal ?_
      obtain ⟨x,hx⟩:∃x,x=(at' k):=⟨_,rfl⟩
      have HX:Hid (x=Om.step M at' k):=by rw[Hid,hx];unfold Om.step;rw[if_neg (by rw[HT.out];decide)]
      obtain ⟨V,hV⟩:∃V,V=Y:=⟨_,rfl⟩
      rw[←hV] at hS ⊢
      clear hV
      rw[←hx]
      clear hx
      go_wp2_with (first | (at_builtin;refine wpList_append_own _ rfl _ _ 25 rfl (w.heap.size+1) 3 i0 (.int .i64 0) 1 8 Tryz.underlying25 hi0 hz0 hz1 hz2 rfl (by decide) _ _ _ rfl (World.ownsRow.alloc hS.own _) ⟨V.heap.size,0,none⟩ 1 1 [.int .i64 (x:Nat)] rfl rfl (cell_one_new _ _ _) (fun u hu=>by simp at hu;subst hu;rfl) (by have:=HLL.out;unfold maxLen;omega) (by have:=HLL.out;omega) (by have:=hS.mg.lt;simp;omega) ?_;intro v5 w5 hown5 hgrow5 _))
      have hlt5:=hS.mg.lt
      have hbY:Below w.heap.size w w5:=(hS.mg.below.alloc hS.mg.below.size (.cells #[.int .i64 (x:Nat)] 3)).grown hgrow5 (by simp;omega) (fun q hq=>by have:=(World.ownsRow.lt hS.own q hq).1;omega)
      have hmY:RowAt w5 w.heap.size 29 (mac (.slice (some ⟨bw,ow,none⟩) M.n cap) b c (Pm.up M.rf) (Pm.up M.pl)):=((hgrow5.block w.heap.size (by simp;omega) (fun e=>by have:=(World.ownsRow.lt hS.own _ e.symm).1;omega))).trans (hS.mg.row.alloc _)
      go_roundw
      case rel =>
       refine ⟨k+1,v5,HLT.out,by go_num,rfl,⟨hmY,hbY⟩,?_⟩
       rw[range_snoc,←HX.out]
       unfold OwnsO
       rw[oN_snoc,List.length_append]
       exact hown5
      case measure=>have:=HLT.out;simp[intOf];omega
  ·have hkn:k=M.n:=by omega
   have HKN:Hid (k=M.n):=hkn
   clear hkn
   have hq:=OwnsO.nums hg.own (by rw[List.length_map,List.length_range];omega)
   have hnlt:¬(k:Int)<(M.n:Int):=by omega
   rw[List.length_map,List.length_range,HKN.out] at hq
   have hq2:=nums_ext (f2:=fun i=>(Om.step M at' i:Nat)) hq fun i hi=>by
    show ((((List.range M.n).map (Om.step M at')).getD i 0:Nat):Int)=_
    rw[List.getD_eq_getElem?_getD,List.getElem?_map,List.getElem?_range hi]
    rfl
   have HQ:=(show Hid _ from hq2)
   have hbe:=hg.mg.below
   have HFR:Hid (∀b,v.ownBlock=some b→w.heap.size≤b):=fun b hb=>by have:=(World.ownsRow.lt hg.own b hb).1;omega
   clear hq hq2
   go_wp2
   go_ret
   exact ⟨v,rfl,HQ.out,hbe,HFR.out⟩
end Go.Proofs.YtkohhdkkbaifoaaGreatDoor
