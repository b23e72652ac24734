/-
  Contract of the document's Known (chapter 8).
-/
import Derived.Test.YtkohhdkkbaifoaaGreatDoorPz
import Derived.Test.YtkohhdkkbaifoaaGreatDoorJn20
namespace Go.Proofs.YtkohhdkkbaifoaaGreatDoor
open Go.RowKit PK Vg

def knC:Array Value:=#[.string ⟨#[73]⟩,.string ⟨#[69,75,77,70,76,71,68,81,86,90,78,84,79,87,89,72,88,85,83,80,65,73,66,82,67,74]⟩,.string ⟨#[81]⟩,.string ⟨#[73,73]⟩,.string ⟨#[65,74,68,75,83,73,82,85,88,66,76,72,87,84,77,67,81,71,90,78,80,89,70,86,79,69]⟩,.string ⟨#[69]⟩,.string ⟨#[73,73,73]⟩,.string ⟨#[66,68,70,72,74,76,67,80,82,84,88,86,90,78,89,69,73,87,71,65,75,77,85,83,81,79]⟩,.string ⟨#[86]⟩,.string ⟨#[73,86]⟩,.string ⟨#[69,83,79,86,80,90,74,65,89,81,85,73,82,72,88,76,78,70,84,71,75,68,67,77,87,66]⟩,.string ⟨#[74]⟩,.string ⟨#[86]⟩,.string ⟨#[86,90,66,82,71,73,84,89,85,80,83,68,78,72,76,88,65,87,77,74,81,79,70,69,67,75]⟩,.string ⟨#[90]⟩]
theorem built_whl (f:Nat→Int) (a:Option Addr) (n c:Nat):Tryz.prog.built 97 [(0,.agg (ints 26 f)),(1,.slice a n c)]=some (whl f (.slice a n c)):=by kernel_rfl
theorem built_whl0:Tryz.prog.built 97 []=some (whl (fun _=>0) (.slice none 0 0)):=by kernel_rfl
theorem kn_none {name:List UInt8} (h:∀i,i<5→(knT.getD i ([],[],0)).1≠name):knI name=none:=by
 unfold knI
 rw[List.find?_eq_none]
 intro x hx hb
 obtain ⟨i,hi,e⟩:=List.mem_iff_getElem.1 hx
 have h1:=h i hi
 rw[List.getD_eq_getElem?_getD,List.getElem?_eq_getElem hi,e] at h1
 exact h1 (eq_of_beq hb)
theorem nums_row {W:World} {v:Value} {n:Nat} {f:Nat→Int} (h:NumsAt W v n f) (g:Nat) (c:Array Value) (hne:v.ownBlock≠some g):NumsAt (W.setRow g c) v n f:=by
 obtain ⟨a,cap,rfl,h2,h3⟩:=h
 refine ⟨a,cap,rfl,h2,fun i hi=>?_⟩
 obtain ⟨b,o,rfl,hcell⟩:=h3 i hi
 exact ⟨b,o,rfl,(cell_setRow_other W g c ⟨b,o+i,none⟩ (fun e=>hne (congrArg some e))).trans hcell⟩
theorem nums_one (W:World) (x:Nat):NumsAt (W.alloc (.cells #[.int .i64 (x:Nat)] 3)) (.slice (some ⟨W.heap.size,0,none⟩) 1 1) [x].length (fun i=>(([x].getD i 0:Nat):Int)) :=
 ⟨_,1,rfl,(by decide:1≤maxLen),fun c hc=>⟨W.heap.size,0,rfl,by
  have hc0:c=0:=by simpa using hc
  subst hc0
  exact (RowAt.new W 3 #[.int .i64 (x:Nat)]).cell rfl⟩⟩
structure KnAt (w W:World):Prop where
 r:RowAt W w.heap.size 97 (whl (fun _=>0) (.slice none 0 0))
 t:RowAt W (w.heap.size+1) 173 knC
 below:Below w.heap.size w W
theorem KnAt.step {w W W':World} (h:KnAt w W) (hb:Below W.heap.size W W'):KnAt w W':=⟨h.r.below hb h.r.lt,h.t.below hb h.t.lt,h.below.trans (hb.mono h.below.size)⟩
theorem KnAt.alloc {w W:World} (h:KnAt w W) (o:Obj):KnAt w (W.alloc o):=h.step ((Below.refl _ _).alloc (Nat.le_refl _) o)
theorem KnAt.drew {w W:World} (h:KnAt w W):KnAt w W.drew:=⟨h.r,h.t,h.below.drew⟩
structure KmS (w W:World) (q:Nat) (A B C:Value):Prop where
 r:∃f R,RowAt W w.heap.size 97 (whl f R)
 v:RowAt W q 173 #[A,B,C]
 ne:w.heap.size<q
 below:Below w.heap.size w W
theorem KmS.step {w W W':World} {q:Nat} {A B C:Value} (h:KmS w W q A B C) (hb:Below W.heap.size W W'):KmS w W' q A B C:=by
 obtain ⟨f,R,hr⟩:=h.r
 exact ⟨⟨f,R,hr.below hb hr.lt⟩,h.v.below hb h.v.lt,h.ne,h.below.trans (hb.mono h.below.size)⟩
theorem KmS.alloc {w W:World} {q:Nat} {A B C:Value} (h:KmS w W q A B C) (o:Obj):KmS w (W.alloc o) q A B C:=h.step ((Below.refl _ _).alloc (Nat.le_refl _) o)
theorem KmS.drew {w W:World} {q:Nat} {A B C:Value} (h:KmS w W q A B C):KmS w W.drew q A B C:=⟨h.r,h.v,h.ne,h.below.drew⟩
theorem KmS.row {w W:World} {q:Nat} {A B C:Value} (h:KmS w W q A B C) (f:Nat→Int) (R:Value):KmS w (W.setRow w.heap.size (whl f R)) q A B C:=by
 obtain ⟨f',R',hr⟩:=h.r
 have:=h.ne
 exact ⟨⟨f,R,hr.row _⟩,h.v.rowOther _ _ (by omega),h.ne,Below.setRow h.below _ (Nat.le_refl _) _⟩
set_option maxRecDepth 100000 in
set_option maxHeartbeats 4000000 in
theorem rknown_any (name:ByteArray) (w:World):Calls Tryz.prog 101 #[.string name] w fun e w'=>∃R,e=.returned (.tuple #[.agg (whl (knW name.data.toList) R),.int .i64 (knE name.data.toList)])∧NumsAt w' R (knN name.data.toList).length (fun i=>((knN name.data.toList).getD i 0:Nat))∧Below w.heap.size w w':=by
 have hz27:=o_zero v_zero_whl
 have h0:KnAt w ((w.alloc (.cells (whl (fun _=>0) (.slice none 0 0)) 97)).alloc (.cells knC 173)):=by
  have h:=RowAt.new (w.alloc (.cells (whl (fun _=>0) (.slice none 0 0)) 97)) 173 knC
  rw[World.size_alloc] at h
  exact ⟨(RowAt.new w _ _).alloc _,h,((Below.refl _ w).alloc (Nat.le_refl _) _).alloc (by simp only[World.size_alloc];omega) _⟩
 go_enter Tryz.func101,Tryz.ntmps101
 go_wp2_with fail
 go_loopw [13] (fun i W=>∃k:Nat,k≤5∧i=.int .i64 (k:Nat)∧Hid (∀i,i<k→(knT.getD i ([],[],0)).1≠name.data.toList)∧KnAt w W) (fun i _=>((5:Int)-intOf i).toNat)
 case atStart=>exact ⟨0,by omega,rfl,fun i hi=>by omega,h0⟩
 case round =>
 clear h0
 obtain ⟨k,hk,rfl,HA,hg⟩:=hrel
 rcases (by omega:k=0∨k=1∨k=2∨k=3∨k=4∨k=5) with rfl | rfl | rfl | rfl | rfl | rfl
 ·have cA:wr.cell? ⟨w.heap.size+1,0,none⟩=some (.string ⟨#[73]⟩):=hg.t.cell (i:=0) rfl
  have cB:wr.cell? ⟨w.heap.size+1,1,none⟩=some (.string ⟨#[69,75,77,70,76,71,68,81,86,90,78,84,79,87,89,72,88,85,83,80,65,73,66,82,67,74]⟩):=hg.t.cell (i:=1) rfl
  have cC:wr.cell? ⟨w.heap.size+1,2,none⟩=some (.string ⟨#[81]⟩):=hg.t.cell (i:=2) rfl
  have q1:=name_eq [73] name
  have hgl:=hg.t.lt
  by_cases hn:name.data.toList=[73]
  ·rw[decide_eq_true hn] at q1
   have q2:(([73]:List UInt8)==name.toList)=true:=by rw[ba_toList,hn];rfl
   have HKW:Hid (knW name.data.toList=spl kw1):=by rw[Hid,hn];rfl
   have HKN:Hid (knN name.data.toList=[16]):=by rw[Hid,hn];rfl
   have HKE:Hid (knE name.data.toList=0):=by rw[Hid,hn];rfl
   clear hn HA
   have hgv:=hg.alloc (.cells #[.string ⟨#[73]⟩,.string ⟨#[69,75,77,70,76,71,68,81,86,90,78,84,79,87,89,72,88,85,83,80,65,73,66,82,67,74]⟩,.string ⟨#[81]⟩] 173)
   have hv:=RowAt.new wr 173 #[.string ⟨#[73]⟩,.string ⟨#[69,75,77,70,76,71,68,81,86,90,78,84,79,87,89,72,88,85,83,80,65,73,66,82,67,74]⟩,.string ⟨#[81]⟩]
   have HSP:=(show Hid (∀W,Calls Tryz.prog 158 #[.string ⟨#[69,75,77,70,76,71,68,81,86,90,78,84,79,87,89,72,88,85,83,80,65,73,66,82,67,74]⟩] W fun e w'=>e=.returned (.agg (ints 26 (spl kw1)))∧Below W.heap.size W w') from fun W=>rspelt_any ⟨kw1.toArray⟩ (ls_dec (by decide)) (by decide) W)
   go_upto_region 5 with fail
   generalize wr.alloc (.cells #[.string ⟨#[73]⟩,.string ⟨#[69,75,77,70,76,71,68,81,86,90,78,84,79,87,89,72,88,85,83,80,65,73,66,82,67,74]⟩,.string ⟨#[81]⟩] 173)=V at *
   obtain ⟨q,hq⟩:∃q,q=wr.heap.size:=⟨_,rfl⟩
   rw[←hq] at hv ⊢
   have hqn:w.heap.size<q:=by omega
   have hVl:=hv.lt
   clear hq hg cA cB cC q1 q2 hgl
   refine wp_region_noPanic ?_
   refine wp_region_held_drew (S:=fun W=>KmS w W q (.string ⟨#[73]⟩) (.string ⟨#[69,75,77,70,76,71,68,81,86,90,78,84,79,87,89,72,88,85,83,80,65,73,66,82,67,74]⟩) (.string ⟨#[81]⟩)) (by kernel_rfl) (KmS.drew ⟨⟨_,_,hgv.r⟩,hv,hqn,hgv.below⟩) (fun hS=>?_)
   refine vtk 0 21 (.pointer (some ⟨q,1,none⟩)) rfl (fun W hW=>by clear hS hW;go_simp) hS ?_
   simp only[zsA,zsB,zsC]
   refine vtk 1 22 (.string ⟨#[69,75,77,70,76,71,68,81,86,90,78,84,79,87,89,72,88,85,83,80,65,73,66,82,67,74]⟩) rfl (fun W hW=>by have u:=hW.v.cell (i:=1) rfl;clear hS hW;go_simp) hS ?_
   simp only[zsA,zsB,zsC]
   refine vtk 3 24 (.pointer (some ⟨q,2,none⟩)) rfl (fun W hW=>by clear hS hW;go_simp) hS ?_
   simp only[zsA,zsB,zsC]
   refine vtk 4 25 (.string ⟨#[81]⟩) rfl (fun W hW=>by have u:=hW.v.cell (i:=2) rfl;clear hS hW;go_simp) hS ?_
   simp only[zsA,zsB,zsC]
   refine vtk 5 26 (.int .u8 81) rfl (fun W hW=>by clear hS hW;(go_simp;try rfl)) hS ?_
   simp only[zsA,zsB,zsC]
   refine vtk 6 27 (.int .i64 81) rfl (fun W hW=>by clear hS hW;(go_simp;try rfl)) hS ?_
   simp only[zsA,zsB,zsC]
   refine vtk 7 28 (.int .i64 16) rfl (fun W hW=>by clear hS hW;(go_simp;try rfl)) hS ?_
   simp only[zsA,zsB,zsC]
   refine wpAnyH_ready (rs:=[2,8]) (by kernel_rfl) (by simp) ?_
   refine AllReadyH.cons (o:=_) rfl (fun K hK=>?_) (AllReadyH.cons (o:=_) rfl (fun K hK=>?_) AllReadyH.nil)
   ·rw[if_pos (by rfl)]
    go_simp
    refine Calls.mono (HSP.out _) ?_
    rintro e Y ⟨rfl,hb8⟩
    refine hK.out _ _ (hS.step hb8) (fun hS1=>?_)
    have hYl:V.heap.size≤Y.heap.size:=hb8.size
    clear hK hS K hb8
    have hS:=hS1
    clear hS1
    refine rd1 8 rfl (fun K hK=>?_)
    go_simp
    have hnm:=nums_one Y 16
    refine hK.out _ _ (hS.alloc _) (fun hS1=>?_)
    clear hK hS K
    have hS:=hS1
    clear hS1
    refine vtk 9 30 (.agg (whl (spl kw1) (.slice (some ⟨Y.heap.size,0,none⟩) 1 1))) rfl (fun W hW=>by have u:=run_build (P:=Tryz.prog) W 97 #[(0,.agg (ints 26 (spl kw1))),(1,(.slice (some ⟨Y.heap.size,0,none⟩) 1 1))] _ (built_whl (spl kw1) _ _ _);clear hS hW;simp[execOp,Act.eval,u]) hS ?_
    simp only[zsA,zsB,zsC]
    obtain ⟨f0,R0,hr0⟩:=hS.r
    refine rd1 10 rfl (fun K hK=>?_)
    refine wp_store_row 97 _ _ rfl w.heap.size (whl (spl kw1) (.slice (some ⟨Y.heap.size,0,none⟩) 1 1)) rfl rfl 97 _ hr0 (by rw[whl_size];exact v_info_whl) (by simp only[whl_size]) (whl_one rfl) ?_
    refine hK.out _ _ (hS.row _ _) (fun hS1=>?_)
    have hr1:=hr0.row (whl (spl kw1) (.slice (some ⟨Y.heap.size,0,none⟩) 1 1))
    have hnm2:=nums_row hnm w.heap.size (whl (spl kw1) (.slice (some ⟨Y.heap.size,0,none⟩) 1 1)) (fun e=>by simp[Value.ownBlock] at e;omega)
    clear hK hS K
    have hS:=hS1
    clear hS1
    refine vtk 11 3 (.int .i64 0) rfl (fun W hW=>by clear hS hW;go_simp) hS ?_
    simp only[zsA,zsB,zsC]
    refine wpAnyH_done (by kernel_rfl) ?_ _
    refine NoPanic.normal ?_
    go_wp2
    exact bodyPost_ret (v:=.tuple #[.agg (whl (spl kw1) (.slice (some ⟨Y.heap.size,0,none⟩) 1 1)),.int .i64 0]) (results_cell_tmp2 rfl _ _ w.heap.size 97 _ (0,0) _ _ rfl rfl hr1 Tryz.underlying97 rfl (by rw[whl_size];exact v_info_whl)) rfl ⟨_,by rw[HKW.out,HKE.out],by rw[HKN.out];exact hnm2,hS.below⟩
   ·rw[if_pos (by rfl)]
    go_simp
    have hnm0:=nums_one V.drew 16
    refine hK.out _ _ (hS.alloc _) (fun hS1=>?_)
    clear hK hS K
    have hS:=hS1
    clear hS1
    refine rd1 2 rfl (fun K hK=>?_)
    go_simp
    refine Calls.mono (HSP.out _) ?_
    rintro e Y ⟨rfl,hb8⟩
    have hnm:=NumsAt.below hnm0 hb8
    refine hK.out _ _ (hS.step hb8) (fun hS1=>?_)
    clear hK hS K hb8
    have hS:=hS1
    clear hS1
    refine vtk 9 30 (.agg (whl (spl kw1) (.slice (some ⟨V.heap.size,0,none⟩) 1 1))) rfl (fun W hW=>by have u:=run_build (P:=Tryz.prog) W 97 #[(0,.agg (ints 26 (spl kw1))),(1,(.slice (some ⟨V.heap.size,0,none⟩) 1 1))] _ (built_whl (spl kw1) _ _ _);clear hS hW;simp[execOp,Act.eval,u]) hS ?_
    simp only[zsA,zsB,zsC]
    obtain ⟨f0,R0,hr0⟩:=hS.r
    refine rd1 10 rfl (fun K hK=>?_)
    refine wp_store_row 97 _ _ rfl w.heap.size (whl (spl kw1) (.slice (some ⟨V.heap.size,0,none⟩) 1 1)) rfl rfl 97 _ hr0 (by rw[whl_size];exact v_info_whl) (by simp only[whl_size]) (whl_one rfl) ?_
    refine hK.out _ _ (hS.row _ _) (fun hS1=>?_)
    have hr1:=hr0.row (whl (spl kw1) (.slice (some ⟨V.heap.size,0,none⟩) 1 1))
    have hnm2:=nums_row hnm w.heap.size (whl (spl kw1) (.slice (some ⟨V.heap.size,0,none⟩) 1 1)) (fun e=>by simp[Value.ownBlock] at e;omega)
    clear hK hS K
    have hS:=hS1
    clear hS1
    refine vtk 11 3 (.int .i64 0) rfl (fun W hW=>by clear hS hW;go_simp) hS ?_
    simp only[zsA,zsB,zsC]
    refine wpAnyH_done (by kernel_rfl) ?_ _
    refine NoPanic.normal ?_
    go_wp2
    exact bodyPost_ret (v:=.tuple #[.agg (whl (spl kw1) (.slice (some ⟨V.heap.size,0,none⟩) 1 1)),.int .i64 0]) (results_cell_tmp2 rfl _ _ w.heap.size 97 _ (0,0) _ _ rfl rfl hr1 Tryz.underlying97 rfl (by rw[whl_size];exact v_info_whl)) rfl ⟨_,by rw[HKW.out,HKE.out],by rw[HKN.out];exact hnm2,hS.below⟩
  ·rw[decide_eq_false hn] at q1
   have q2:(([73]:List UInt8)==name.toList)=false:=by rw[ba_toList];exact beq_false_of_ne (fun e=>hn e.symm)
   have HN:Hid (∀i,i<1→(knT.getD i ([],[],0)).1≠name.data.toList):=fun i hi=>by
    by_cases e:i=0
    ·rw[e];exact fun e=>hn e.symm
    ·exact HA.out i (by omega)
   clear hn
   have hga:=hg.alloc (.cells #[.string ⟨#[73]⟩,.string ⟨#[69,75,77,70,76,71,68,81,86,90,78,84,79,87,89,72,88,85,83,80,65,73,66,82,67,74]⟩,.string ⟨#[81]⟩] 173)
   go_wp2_with fail
   go_roundw
   case rel=>exact ⟨1,by omega,by go_num,HN.out,hga⟩
   case measure=>simp[intOf] <;> omega
 ·have cA:wr.cell? ⟨w.heap.size+1,3,none⟩=some (.string ⟨#[73,73]⟩):=hg.t.cell (i:=3) rfl
  have cB:wr.cell? ⟨w.heap.size+1,4,none⟩=some (.string ⟨#[65,74,68,75,83,73,82,85,88,66,76,72,87,84,77,67,81,71,90,78,80,89,70,86,79,69]⟩):=hg.t.cell (i:=4) rfl
  have cC:wr.cell? ⟨w.heap.size+1,5,none⟩=some (.string ⟨#[69]⟩):=hg.t.cell (i:=5) rfl
  have q1:=name_eq [73,73] name
  have hgl:=hg.t.lt
  by_cases hn:name.data.toList=[73,73]
  ·rw[decide_eq_true hn] at q1
   have q2:(([73,73]:List UInt8)==name.toList)=true:=by rw[ba_toList,hn];rfl
   have HKW:Hid (knW name.data.toList=spl kw2):=by rw[Hid,hn];rfl
   have HKN:Hid (knN name.data.toList=[4]):=by rw[Hid,hn];rfl
   have HKE:Hid (knE name.data.toList=0):=by rw[Hid,hn];rfl
   clear hn HA
   have hgv:=hg.alloc (.cells #[.string ⟨#[73,73]⟩,.string ⟨#[65,74,68,75,83,73,82,85,88,66,76,72,87,84,77,67,81,71,90,78,80,89,70,86,79,69]⟩,.string ⟨#[69]⟩] 173)
   have hv:=RowAt.new wr 173 #[.string ⟨#[73,73]⟩,.string ⟨#[65,74,68,75,83,73,82,85,88,66,76,72,87,84,77,67,81,71,90,78,80,89,70,86,79,69]⟩,.string ⟨#[69]⟩]
   have HSP:=(show Hid (∀W,Calls Tryz.prog 158 #[.string ⟨#[65,74,68,75,83,73,82,85,88,66,76,72,87,84,77,67,81,71,90,78,80,89,70,86,79,69]⟩] W fun e w'=>e=.returned (.agg (ints 26 (spl kw2)))∧Below W.heap.size W w') from fun W=>rspelt_any ⟨kw2.toArray⟩ (ls_dec (by decide)) (by decide) W)
   go_upto_region 5 with fail
   generalize wr.alloc (.cells #[.string ⟨#[73,73]⟩,.string ⟨#[65,74,68,75,83,73,82,85,88,66,76,72,87,84,77,67,81,71,90,78,80,89,70,86,79,69]⟩,.string ⟨#[69]⟩] 173)=V at *
   obtain ⟨q,hq⟩:∃q,q=wr.heap.size:=⟨_,rfl⟩
   rw[←hq] at hv ⊢
   have hqn:w.heap.size<q:=by omega
   have hVl:=hv.lt
   clear hq hg cA cB cC q1 q2 hgl
   refine wp_region_noPanic ?_
   refine wp_region_held_drew (S:=fun W=>KmS w W q (.string ⟨#[73,73]⟩) (.string ⟨#[65,74,68,75,83,73,82,85,88,66,76,72,87,84,77,67,81,71,90,78,80,89,70,86,79,69]⟩) (.string ⟨#[69]⟩)) (by kernel_rfl) (KmS.drew ⟨⟨_,_,hgv.r⟩,hv,hqn,hgv.below⟩) (fun hS=>?_)
   refine vtk 0 21 (.pointer (some ⟨q,1,none⟩)) rfl (fun W hW=>by clear hS hW;go_simp) hS ?_
   simp only[zsA,zsB,zsC]
   refine vtk 1 22 (.string ⟨#[65,74,68,75,83,73,82,85,88,66,76,72,87,84,77,67,81,71,90,78,80,89,70,86,79,69]⟩) rfl (fun W hW=>by have u:=hW.v.cell (i:=1) rfl;clear hS hW;go_simp) hS ?_
   simp only[zsA,zsB,zsC]
   refine vtk 3 24 (.pointer (some ⟨q,2,none⟩)) rfl (fun W hW=>by clear hS hW;go_simp) hS ?_
   simp only[zsA,zsB,zsC]
   refine vtk 4 25 (.string ⟨#[69]⟩) rfl (fun W hW=>by have u:=hW.v.cell (i:=2) rfl;clear hS hW;go_simp) hS ?_
   simp only[zsA,zsB,zsC]
   refine vtk 5 26 (.int .u8 69) rfl (fun W hW=>by clear hS hW;(go_simp;try rfl)) hS ?_
   simp only[zsA,zsB,zsC]
   refine vtk 6 27 (.int .i64 69) rfl (fun W hW=>by clear hS hW;(go_simp;try rfl)) hS ?_
   simp only[zsA,zsB,zsC]
   refine vtk 7 28 (.int .i64 4) rfl (fun W hW=>by clear hS hW;(go_simp;try rfl)) hS ?_
   simp only[zsA,zsB,zsC]
   refine wpAnyH_ready (rs:=[2,8]) (by kernel_rfl) (by simp) ?_
   refine AllReadyH.cons (o:=_) rfl (fun K hK=>?_) (AllReadyH.cons (o:=_) rfl (fun K hK=>?_) AllReadyH.nil)
   ·rw[if_pos (by rfl)]
    go_simp
    refine Calls.mono (HSP.out _) ?_
    rintro e Y ⟨rfl,hb8⟩
    refine hK.out _ _ (hS.step hb8) (fun hS1=>?_)
    have hYl:V.heap.size≤Y.heap.size:=hb8.size
    clear hK hS K hb8
    have hS:=hS1
    clear hS1
    refine rd1 8 rfl (fun K hK=>?_)
    go_simp
    have hnm:=nums_one Y 4
    refine hK.out _ _ (hS.alloc _) (fun hS1=>?_)
    clear hK hS K
    have hS:=hS1
    clear hS1
    refine vtk 9 30 (.agg (whl (spl kw2) (.slice (some ⟨Y.heap.size,0,none⟩) 1 1))) rfl (fun W hW=>by have u:=run_build (P:=Tryz.prog) W 97 #[(0,.agg (ints 26 (spl kw2))),(1,(.slice (some ⟨Y.heap.size,0,none⟩) 1 1))] _ (built_whl (spl kw2) _ _ _);clear hS hW;simp[execOp,Act.eval,u]) hS ?_
    simp only[zsA,zsB,zsC]
    obtain ⟨f0,R0,hr0⟩:=hS.r
    refine rd1 10 rfl (fun K hK=>?_)
    refine wp_store_row 97 _ _ rfl w.heap.size (whl (spl kw2) (.slice (some ⟨Y.heap.size,0,none⟩) 1 1)) rfl rfl 97 _ hr0 (by rw[whl_size];exact v_info_whl) (by simp only[whl_size]) (whl_one rfl) ?_
    refine hK.out _ _ (hS.row _ _) (fun hS1=>?_)
    have hr1:=hr0.row (whl (spl kw2) (.slice (some ⟨Y.heap.size,0,none⟩) 1 1))
    have hnm2:=nums_row hnm w.heap.size (whl (spl kw2) (.slice (some ⟨Y.heap.size,0,none⟩) 1 1)) (fun e=>by simp[Value.ownBlock] at e;omega)
    clear hK hS K
    have hS:=hS1
    clear hS1
    refine vtk 11 3 (.int .i64 0) rfl (fun W hW=>by clear hS hW;go_simp) hS ?_
    simp only[zsA,zsB,zsC]
    refine wpAnyH_done (by kernel_rfl) ?_ _
    refine NoPanic.normal ?_
    go_wp2
    exact bodyPost_ret (v:=.tuple #[.agg (whl (spl kw2) (.slice (some ⟨Y.heap.size,0,none⟩) 1 1)),.int .i64 0]) (results_cell_tmp2 rfl _ _ w.heap.size 97 _ (0,0) _ _ rfl rfl hr1 Tryz.underlying97 rfl (by rw[whl_size];exact v_info_whl)) rfl ⟨_,by rw[HKW.out,HKE.out],by rw[HKN.out];exact hnm2,hS.below⟩
   ·rw[if_pos (by rfl)]
    go_simp
    have hnm0:=nums_one V.drew 4
    refine hK.out _ _ (hS.alloc _) (fun hS1=>?_)
    clear hK hS K
    have hS:=hS1
    clear hS1
    refine rd1 2 rfl (fun K hK=>?_)
    go_simp
    refine Calls.mono (HSP.out _) ?_
    rintro e Y ⟨rfl,hb8⟩
    have hnm:=NumsAt.below hnm0 hb8
    refine hK.out _ _ (hS.step hb8) (fun hS1=>?_)
    clear hK hS K hb8
    have hS:=hS1
    clear hS1
    refine vtk 9 30 (.agg (whl (spl kw2) (.slice (some ⟨V.heap.size,0,none⟩) 1 1))) rfl (fun W hW=>by have u:=run_build (P:=Tryz.prog) W 97 #[(0,.agg (ints 26 (spl kw2))),(1,(.slice (some ⟨V.heap.size,0,none⟩) 1 1))] _ (built_whl (spl kw2) _ _ _);clear hS hW;simp[execOp,Act.eval,u]) hS ?_
    simp only[zsA,zsB,zsC]
    obtain ⟨f0,R0,hr0⟩:=hS.r
    refine rd1 10 rfl (fun K hK=>?_)
    refine wp_store_row 97 _ _ rfl w.heap.size (whl (spl kw2) (.slice (some ⟨V.heap.size,0,none⟩) 1 1)) rfl rfl 97 _ hr0 (by rw[whl_size];exact v_info_whl) (by simp only[whl_size]) (whl_one rfl) ?_
    refine hK.out _ _ (hS.row _ _) (fun hS1=>?_)
    have hr1:=hr0.row (whl (spl kw2) (.slice (some ⟨V.heap.size,0,none⟩) 1 1))
    have hnm2:=nums_row hnm w.heap.size (whl (spl kw2) (.slice (some ⟨V.heap.size,0,none⟩) 1 1)) (fun e=>by simp[Value.ownBlock] at e;omega)
    clear hK hS K
    have hS:=hS1
    clear hS1
    refine vtk 11 3 (.int .i64 0) rfl (fun W hW=>by clear hS hW;go_simp) hS ?_
    simp only[zsA,zsB,zsC]
    refine wpAnyH_done (by kernel_rfl) ?_ _
    refine NoPanic.normal ?_
    go_wp2
    exact bodyPost_ret (v:=.tuple #[.agg (whl (spl kw2) (.slice (some ⟨V.heap.size,0,none⟩) 1 1)),.int .i64 0]) (results_cell_tmp2 rfl _ _ w.heap.size 97 _ (0,0) _ _ rfl rfl hr1 Tryz.underlying97 rfl (by rw[whl_size];exact v_info_whl)) rfl ⟨_,by rw[HKW.out,HKE.out],by rw[HKN.out];exact hnm2,hS.below⟩
  ·rw[decide_eq_false hn] at q1
   have q2:(([73,73]:List UInt8)==name.toList)=false:=by rw[ba_toList];exact beq_false_of_ne (fun e=>hn e.symm)
   have HN:Hid (∀i,i<2→(knT.getD i ([],[],0)).1≠name.data.toList):=fun i hi=>by
    by_cases e:i=1
    ·rw[e];exact fun e=>hn e.symm
    ·exact HA.out i (by omega)
   clear hn
   have hga:=hg.alloc (.cells #[.string ⟨#[73,73]⟩,.string ⟨#[65,74,68,75,83,73,82,85,88,66,76,72,87,84,77,67,81,71,90,78,80,89,70,86,79,69]⟩,.string ⟨#[69]⟩] 173)
   go_wp2_with fail
   go_roundw
   case rel=>exact ⟨2,by omega,by go_num,HN.out,hga⟩
   case measure=>simp[intOf] <;> omega
 ·have cA:wr.cell? ⟨w.heap.size+1,6,none⟩=some (.string ⟨#[73,73,73]⟩):=hg.t.cell (i:=6) rfl
  have cB:wr.cell? ⟨w.heap.size+1,7,none⟩=some (.string ⟨#[66,68,70,72,74,76,67,80,82,84,88,86,90,78,89,69,73,87,71,65,75,77,85,83,81,79]⟩):=hg.t.cell (i:=7) rfl
  have cC:wr.cell? ⟨w.heap.size+1,8,none⟩=some (.string ⟨#[86]⟩):=hg.t.cell (i:=8) rfl
  have q1:=name_eq [73,73,73] name
  have hgl:=hg.t.lt
  by_cases hn:name.data.toList=[73,73,73]
  ·rw[decide_eq_true hn] at q1
   have q2:(([73,73,73]:List UInt8)==name.toList)=true:=by rw[ba_toList,hn];rfl
   have HKW:Hid (knW name.data.toList=spl kw3):=by rw[Hid,hn];rfl
   have HKN:Hid (knN name.data.toList=[21]):=by rw[Hid,hn];rfl
   have HKE:Hid (knE name.data.toList=0):=by rw[Hid,hn];rfl
   clear hn HA
   have hgv:=hg.alloc (.cells #[.string ⟨#[73,73,73]⟩,.string ⟨#[66,68,70,72,74,76,67,80,82,84,88,86,90,78,89,69,73,87,71,65,75,77,85,83,81,79]⟩,.string ⟨#[86]⟩] 173)
   have hv:=RowAt.new wr 173 #[.string ⟨#[73,73,73]⟩,.string ⟨#[66,68,70,72,74,76,67,80,82,84,88,86,90,78,89,69,73,87,71,65,75,77,85,83,81,79]⟩,.string ⟨#[86]⟩]
   have HSP:=(show Hid (∀W,Calls Tryz.prog 158 #[.string ⟨#[66,68,70,72,74,76,67,80,82,84,88,86,90,78,89,69,73,87,71,65,75,77,85,83,81,79]⟩] W fun e w'=>e=.returned (.agg (ints 26 (spl kw3)))∧Below W.heap.size W w') from fun W=>rspelt_any ⟨kw3.toArray⟩ (ls_dec (by decide)) (by decide) W)
   go_upto_region 5 with fail
   generalize wr.alloc (.cells #[.string ⟨#[73,73,73]⟩,.string ⟨#[66,68,70,72,74,76,67,80,82,84,88,86,90,78,89,69,73,87,71,65,75,77,85,83,81,79]⟩,.string ⟨#[86]⟩] 173)=V at *
   obtain ⟨q,hq⟩:∃q,q=wr.heap.size:=⟨_,rfl⟩
   rw[←hq] at hv ⊢
   have hqn:w.heap.size<q:=by omega
   have hVl:=hv.lt
   clear hq hg cA cB cC q1 q2 hgl
   refine wp_region_noPanic ?_
   refine wp_region_held_drew (S:=fun W=>KmS w W q (.string ⟨#[73,73,73]⟩) (.string ⟨#[66,68,70,72,74,76,67,80,82,84,88,86,90,78,89,69,73,87,71,65,75,77,85,83,81,79]⟩) (.string ⟨#[86]⟩)) (by kernel_rfl) (KmS.drew ⟨⟨_,_,hgv.r⟩,hv,hqn,hgv.below⟩) (fun hS=>?_)
   refine vtk 0 21 (.pointer (some ⟨q,1,none⟩)) rfl (fun W hW=>by clear hS hW;go_simp) hS ?_
   simp only[zsA,zsB,zsC]
   refine vtk 1 22 (.string ⟨#[66,68,70,72,74,76,67,80,82,84,88,86,90,78,89,69,73,87,71,65,75,77,85,83,81,79]⟩) rfl (fun W hW=>by have u:=hW.v.cell (i:=1) rfl;clear hS hW;go_simp) hS ?_
   simp only[zsA,zsB,zsC]
   refine vtk 3 24 (.pointer (some ⟨q,2,none⟩)) rfl (fun W hW=>by clear hS hW;go_simp) hS ?_
   simp only[zsA,zsB,zsC]
   refine vtk 4 25 (.string ⟨#[86]⟩) rfl (fun W hW=>by have u:=hW.v.cell (i:=2) rfl;clear hS hW;go_simp) hS ?_
   simp only[zsA,zsB,zsC]
   refine vtk 5 26 (.int .u8 86) rfl (fun W hW=>by clear hS hW;(go_simp;try rfl)) hS ?_
   simp only[zsA,zsB,zsC]
   refine vtk 6 27 (.int .i64 86) rfl (fun W hW=>by clear hS hW;(go_simp;try rfl)) hS ?_
   simp only[zsA,zsB,zsC]
   refine vtk 7 28 (.int .i64 21) rfl (fun W hW=>by clear hS hW;(go_simp;try rfl)) hS ?_
   simp only[zsA,zsB,zsC]
   refine wpAnyH_ready (rs:=[2,8]) (by kernel_rfl) (by simp) ?_
   refine AllReadyH.cons (o:=_) rfl (fun K hK=>?_) (AllReadyH.cons (o:=_) rfl (fun K hK=>?_) AllReadyH.nil)
   ·rw[if_pos (by rfl)]
    go_simp
    refine Calls.mono (HSP.out _) ?_
    rintro e Y ⟨rfl,hb8⟩
    refine hK.out _ _ (hS.step hb8) (fun hS1=>?_)
    have hYl:V.heap.size≤Y.heap.size:=hb8.size
    clear hK hS K hb8
    have hS:=hS1
    clear hS1
    refine rd1 8 rfl (fun K hK=>?_)
    go_simp
    have hnm:=nums_one Y 21
    refine hK.out _ _ (hS.alloc _) (fun hS1=>?_)
    clear hK hS K
    have hS:=hS1
    clear hS1
    refine vtk 9 30 (.agg (whl (spl kw3) (.slice (some ⟨Y.heap.size,0,none⟩) 1 1))) rfl (fun W hW=>by have u:=run_build (P:=Tryz.prog) W 97 #[(0,.agg (ints 26 (spl kw3))),(1,(.slice (some ⟨Y.heap.size,0,none⟩) 1 1))] _ (built_whl (spl kw3) _ _ _);clear hS hW;simp[execOp,Act.eval,u]) hS ?_
    simp only[zsA,zsB,zsC]
    obtain ⟨f0,R0,hr0⟩:=hS.r
    refine rd1 10 rfl (fun K hK=>?_)
    refine wp_store_row 97 _ _ rfl w.heap.size (whl (spl kw3) (.slice (some ⟨Y.heap.size,0,none⟩) 1 1)) rfl rfl 97 _ hr0 (by rw[whl_size];exact v_info_whl) (by simp only[whl_size]) (whl_one rfl) ?_
    refine hK.out _ _ (hS.row _ _) (fun hS1=>?_)
    have hr1:=hr0.row (whl (spl kw3) (.slice (some ⟨Y.heap.size,0,none⟩) 1 1))
    have hnm2:=nums_row hnm w.heap.size (whl (spl kw3) (.slice (some ⟨Y.heap.size,0,none⟩) 1 1)) (fun e=>by simp[Value.ownBlock] at e;omega)
    clear hK hS K
    have hS:=hS1
    clear hS1
    refine vtk 11 3 (.int .i64 0) rfl (fun W hW=>by clear hS hW;go_simp) hS ?_
    simp only[zsA,zsB,zsC]
    refine wpAnyH_done (by kernel_rfl) ?_ _
    refine NoPanic.normal ?_
    go_wp2
    exact bodyPost_ret (v:=.tuple #[.agg (whl (spl kw3) (.slice (some ⟨Y.heap.size,0,none⟩) 1 1)),.int .i64 0]) (results_cell_tmp2 rfl _ _ w.heap.size 97 _ (0,0) _ _ rfl rfl hr1 Tryz.underlying97 rfl (by rw[whl_size];exact v_info_whl)) rfl ⟨_,by rw[HKW.out,HKE.out],by rw[HKN.out];exact hnm2,hS.below⟩
   ·rw[if_pos (by rfl)]
    go_simp
    have hnm0:=nums_one V.drew 21
    refine hK.out _ _ (hS.alloc _) (fun hS1=>?_)
    clear hK hS K
    have hS:=hS1
    clear hS1
    refine rd1 2 rfl (fun K hK=>?_)
    go_simp
    refine Calls.mono (HSP.out _) ?_
    rintro e Y ⟨rfl,hb8⟩
    have hnm:=NumsAt.below hnm0 hb8
    refine hK.out _ _ (hS.step hb8) (fun hS1=>?_)
    clear hK hS K hb8
    have hS:=hS1
    clear hS1
    refine vtk 9 30 (.agg (whl (spl kw3) (.slice (some ⟨V.heap.size,0,none⟩) 1 1))) rfl (fun W hW=>by have u:=run_build (P:=Tryz.prog) W 97 #[(0,.agg (ints 26 (spl kw3))),(1,(.slice (some ⟨V.heap.size,0,none⟩) 1 1))] _ (built_whl (spl kw3) _ _ _);clear hS hW;simp[execOp,Act.eval,u]) hS ?_
    simp only[zsA,zsB,zsC]
    obtain ⟨f0,R0,hr0⟩:=hS.r
    refine rd1 10 rfl (fun K hK=>?_)
    refine wp_store_row 97 _ _ rfl w.heap.size (whl (spl kw3) (.slice (some ⟨V.heap.size,0,none⟩) 1 1)) rfl rfl 97 _ hr0 (by rw[whl_size];exact v_info_whl) (by simp only[whl_size]) (whl_one rfl) ?_
    refine hK.out _ _ (hS.row _ _) (fun hS1=>?_)
    have hr1:=hr0.row (whl (spl kw3) (.slice (some ⟨V.heap.size,0,none⟩) 1 1))
    have hnm2:=nums_row hnm w.heap.size (whl (spl kw3) (.slice (some ⟨V.heap.size,0,none⟩) 1 1)) (fun e=>by simp[Value.ownBlock] at e;omega)
    clear hK hS K
    have hS:=hS1
    clear hS1
    refine vtk 11 3 (.int .i64 0) rfl (fun W hW=>by clear hS hW;go_simp) hS ?_
    simp only[zsA,zsB,zsC]
    refine wpAnyH_done (by kernel_rfl) ?_ _
    refine NoPanic.normal ?_
    go_wp2
    exact bodyPost_ret (v:=.tuple #[.agg (whl (spl kw3) (.slice (some ⟨V.heap.size,0,none⟩) 1 1)),.int .i64 0]) (results_cell_tmp2 rfl _ _ w.heap.size 97 _ (0,0) _ _ rfl rfl hr1 Tryz.underlying97 rfl (by rw[whl_size];exact v_info_whl)) rfl ⟨_,by rw[HKW.out,HKE.out],by rw[HKN.out];exact hnm2,hS.below⟩
  ·rw[decide_eq_false hn] at q1
   have q2:(([73,73,73]:List UInt8)==name.toList)=false:=by rw[ba_toList];exact beq_false_of_ne (fun e=>hn e.symm)
   have HN:Hid (∀i,i<3→(knT.getD i ([],[],0)).1≠name.data.toList):=fun i hi=>by
    by_cases e:i=2
    ·rw[e];exact fun e=>hn e.symm
    ·exact HA.out i (by omega)
   clear hn
   have hga:=hg.alloc (.cells #[.string ⟨#[73,73,73]⟩,.string ⟨#[66,68,70,72,74,76,67,80,82,84,88,86,90,78,89,69,73,87,71,65,75,77,85,83,81,79]⟩,.string ⟨#[86]⟩] 173)
   go_wp2_with fail
   go_roundw
   case rel=>exact ⟨3,by omega,by go_num,HN.out,hga⟩
   case measure=>simp[intOf] <;> omega
 ·have cA:wr.cell? ⟨w.heap.size+1,9,none⟩=some (.string ⟨#[73,86]⟩):=hg.t.cell (i:=9) rfl
  have cB:wr.cell? ⟨w.heap.size+1,10,none⟩=some (.string ⟨#[69,83,79,86,80,90,74,65,89,81,85,73,82,72,88,76,78,70,84,71,75,68,67,77,87,66]⟩):=hg.t.cell (i:=10) rfl
  have cC:wr.cell? ⟨w.heap.size+1,11,none⟩=some (.string ⟨#[74]⟩):=hg.t.cell (i:=11) rfl
  have q1:=name_eq [73,86] name
  have hgl:=hg.t.lt
  by_cases hn:name.data.toList=[73,86]
  ·rw[decide_eq_true hn] at q1
   have q2:(([73,86]:List UInt8)==name.toList)=true:=by rw[ba_toList,hn];rfl
   have HKW:Hid (knW name.data.toList=spl kw4):=by rw[Hid,hn];rfl
   have HKN:Hid (knN name.data.toList=[9]):=by rw[Hid,hn];rfl
   have HKE:Hid (knE name.data.toList=0):=by rw[Hid,hn];rfl
   clear hn HA
   have hgv:=hg.alloc (.cells #[.string ⟨#[73,86]⟩,.string ⟨#[69,83,79,86,80,90,74,65,89,81,85,73,82,72,88,76,78,70,84,71,75,68,67,77,87,66]⟩,.string ⟨#[74]⟩] 173)
   have hv:=RowAt.new wr 173 #[.string ⟨#[73,86]⟩,.string ⟨#[69,83,79,86,80,90,74,65,89,81,85,73,82,72,88,76,78,70,84,71,75,68,67,77,87,66]⟩,.string ⟨#[74]⟩]
   have HSP:=(show Hid (∀W,Calls Tryz.prog 158 #[.string ⟨#[69,83,79,86,80,90,74,65,89,81,85,73,82,72,88,76,78,70,84,71,75,68,67,77,87,66]⟩] W fun e w'=>e=.returned (.agg (ints 26 (spl kw4)))∧Below W.heap.size W w') from fun W=>rspelt_any ⟨kw4.toArray⟩ (ls_dec (by decide)) (by decide) W)
   go_upto_region 5 with fail
   generalize wr.alloc (.cells #[.string ⟨#[73,86]⟩,.string ⟨#[69,83,79,86,80,90,74,65,89,81,85,73,82,72,88,76,78,70,84,71,75,68,67,77,87,66]⟩,.string ⟨#[74]⟩] 173)=V at *
   obtain ⟨q,hq⟩:∃q,q=wr.heap.size:=⟨_,rfl⟩
   rw[←hq] at hv ⊢
   have hqn:w.heap.size<q:=by omega
   have hVl:=hv.lt
   clear hq hg cA cB cC q1 q2 hgl
   refine wp_region_noPanic ?_
   refine wp_region_held_drew (S:=fun W=>KmS w W q (.string ⟨#[73,86]⟩) (.string ⟨#[69,83,79,86,80,90,74,65,89,81,85,73,82,72,88,76,78,70,84,71,75,68,67,77,87,66]⟩) (.string ⟨#[74]⟩)) (by kernel_rfl) (KmS.drew ⟨⟨_,_,hgv.r⟩,hv,hqn,hgv.below⟩) (fun hS=>?_)
   refine vtk 0 21 (.pointer (some ⟨q,1,none⟩)) rfl (fun W hW=>by clear hS hW;go_simp) hS ?_
   simp only[zsA,zsB,zsC]
   refine vtk 1 22 (.string ⟨#[69,83,79,86,80,90,74,65,89,81,85,73,82,72,88,76,78,70,84,71,75,68,67,77,87,66]⟩) rfl (fun W hW=>by have u:=hW.v.cell (i:=1) rfl;clear hS hW;go_simp) hS ?_
   simp only[zsA,zsB,zsC]
   refine vtk 3 24 (.pointer (some ⟨q,2,none⟩)) rfl (fun W hW=>by clear hS hW;go_simp) hS ?_
   simp only[zsA,zsB,zsC]
   refine vtk 4 25 (.string ⟨#[74]⟩) rfl (fun W hW=>by have u:=hW.v.cell (i:=2) rfl;clear hS hW;go_simp) hS ?_
   simp only[zsA,zsB,zsC]
   refine vtk 5 26 (.int .u8 74) rfl (fun W hW=>by clear hS hW;(go_simp;try rfl)) hS ?_
   simp only[zsA,zsB,zsC]
   refine vtk 6 27 (.int .i64 74) rfl (fun W hW=>by clear hS hW;(go_simp;try rfl)) hS ?_
   simp only[zsA,zsB,zsC]
   refine vtk 7 28 (.int .i64 9) rfl (fun W hW=>by clear hS hW;(go_simp;try rfl)) hS ?_
   simp only[zsA,zsB,zsC]
   refine wpAnyH_ready (rs:=[2,8]) (by kernel_rfl) (by simp) ?_
   refine AllReadyH.cons (o:=_) rfl (fun K hK=>?_) (AllReadyH.cons (o:=_) rfl (fun K hK=>?_) AllReadyH.nil)
   ·rw[if_pos (by rfl)]
    go_simp
    refine Calls.mono (HSP.out _) ?_
    rintro e Y ⟨rfl,hb8⟩
    refine hK.out _ _ (hS.step hb8) (fun hS1=>?_)
    have hYl:V.heap.size≤Y.heap.size:=hb8.size
    clear hK hS K hb8
    have hS:=hS1
    clear hS1
    refine rd1 8 rfl (fun K hK=>?_)
    go_simp
    have hnm:=nums_one Y 9
    refine hK.out _ _ (hS.alloc _) (fun hS1=>?_)
    clear hK hS K
    have hS:=hS1
    clear hS1
    refine vtk 9 30 (.agg (whl (spl kw4) (.slice (some ⟨Y.heap.size,0,none⟩) 1 1))) rfl (fun W hW=>by have u:=run_build (P:=Tryz.prog) W 97 #[(0,.agg (ints 26 (spl kw4))),(1,(.slice (some ⟨Y.heap.size,0,none⟩) 1 1))] _ (built_whl (spl kw4) _ _ _);clear hS hW;simp[execOp,Act.eval,u]) hS ?_
    simp only[zsA,zsB,zsC]
    obtain ⟨f0,R0,hr0⟩:=hS.r
    refine rd1 10 rfl (fun K hK=>?_)
    refine wp_store_row 97 _ _ rfl w.heap.size (whl (spl kw4) (.slice (some ⟨Y.heap.size,0,none⟩) 1 1)) rfl rfl 97 _ hr0 (by rw[whl_size];exact v_info_whl) (by simp only[whl_size]) (whl_one rfl) ?_
    refine hK.out _ _ (hS.row _ _) (fun hS1=>?_)
    have hr1:=hr0.row (whl (spl kw4) (.slice (some ⟨Y.heap.size,0,none⟩) 1 1))
    have hnm2:=nums_row hnm w.heap.size (whl (spl kw4) (.slice (some ⟨Y.heap.size,0,none⟩) 1 1)) (fun e=>by simp[Value.ownBlock] at e;omega)
    clear hK hS K
    have hS:=hS1
    clear hS1
    refine vtk 11 3 (.int .i64 0) rfl (fun W hW=>by clear hS hW;go_simp) hS ?_
    simp only[zsA,zsB,zsC]
    refine wpAnyH_done (by kernel_rfl) ?_ _
    refine NoPanic.normal ?_
    go_wp2
    exact bodyPost_ret (v:=.tuple #[.agg (whl (spl kw4) (.slice (some ⟨Y.heap.size,0,none⟩) 1 1)),.int .i64 0]) (results_cell_tmp2 rfl _ _ w.heap.size 97 _ (0,0) _ _ rfl rfl hr1 Tryz.underlying97 rfl (by rw[whl_size];exact v_info_whl)) rfl ⟨_,by rw[HKW.out,HKE.out],by rw[HKN.out];exact hnm2,hS.below⟩
   ·rw[if_pos (by rfl)]
    go_simp
    have hnm0:=nums_one V.drew 9
    refine hK.out _ _ (hS.alloc _) (fun hS1=>?_)
    clear hK hS K
    have hS:=hS1
    clear hS1
    refine rd1 2 rfl (fun K hK=>?_)
    go_simp
    refine Calls.mono (HSP.out _) ?_
    rintro e Y ⟨rfl,hb8⟩
    have hnm:=NumsAt.below hnm0 hb8
    refine hK.out _ _ (hS.step hb8) (fun hS1=>?_)
    clear hK hS K hb8
    have hS:=hS1
    clear hS1
    refine vtk 9 30 (.agg (whl (spl kw4) (.slice (some ⟨V.heap.size,0,none⟩) 1 1))) rfl (fun W hW=>by have u:=run_build (P:=Tryz.prog) W 97 #[(0,.agg (ints 26 (spl kw4))),(1,(.slice (some ⟨V.heap.size,0,none⟩) 1 1))] _ (built_whl (spl kw4) _ _ _);clear hS hW;simp[execOp,Act.eval,u]) hS ?_
    simp only[zsA,zsB,zsC]
    obtain ⟨f0,R0,hr0⟩:=hS.r
    refine rd1 10 rfl (fun K hK=>?_)
    refine wp_store_row 97 _ _ rfl w.heap.size (whl (spl kw4) (.slice (some ⟨V.heap.size,0,none⟩) 1 1)) rfl rfl 97 _ hr0 (by rw[whl_size];exact v_info_whl) (by simp only[whl_size]) (whl_one rfl) ?_
    refine hK.out _ _ (hS.row _ _) (fun hS1=>?_)
    have hr1:=hr0.row (whl (spl kw4) (.slice (some ⟨V.heap.size,0,none⟩) 1 1))
    have hnm2:=nums_row hnm w.heap.size (whl (spl kw4) (.slice (some ⟨V.heap.size,0,none⟩) 1 1)) (fun e=>by simp[Value.ownBlock] at e;omega)
    clear hK hS K
    have hS:=hS1
    clear hS1
    refine vtk 11 3 (.int .i64 0) rfl (fun W hW=>by clear hS hW;go_simp) hS ?_
    simp only[zsA,zsB,zsC]
    refine wpAnyH_done (by kernel_rfl) ?_ _
    refine NoPanic.normal ?_
    go_wp2
    exact bodyPost_ret (v:=.tuple #[.agg (whl (spl kw4) (.slice (some ⟨V.heap.size,0,none⟩) 1 1)),.int .i64 0]) (results_cell_tmp2 rfl _ _ w.heap.size 97 _ (0,0) _ _ rfl rfl hr1 Tryz.underlying97 rfl (by rw[whl_size];exact v_info_whl)) rfl ⟨_,by rw[HKW.out,HKE.out],by rw[HKN.out];exact hnm2,hS.below⟩
  ·rw[decide_eq_false hn] at q1
   have q2:(([73,86]:List UInt8)==name.toList)=false:=by rw[ba_toList];exact beq_false_of_ne (fun e=>hn e.symm)
   have HN:Hid (∀i,i<4→(knT.getD i ([],[],0)).1≠name.data.toList):=fun i hi=>by
    by_cases e:i=3
    ·rw[e];exact fun e=>hn e.symm
    ·exact HA.out i (by omega)
   clear hn
   have hga:=hg.alloc (.cells #[.string ⟨#[73,86]⟩,.string ⟨#[69,83,79,86,80,90,74,65,89,81,85,73,82,72,88,76,78,70,84,71,75,68,67,77,87,66]⟩,.string ⟨#[74]⟩] 173)
   go_wp2_with fail
   go_roundw
   case rel=>exact ⟨4,by omega,by go_num,HN.out,hga⟩
   case measure=>simp[intOf] <;> omega
 ·have cA:wr.cell? ⟨w.heap.size+1,12,none⟩=some (.string ⟨#[86]⟩):=hg.t.cell (i:=12) rfl
  have cB:wr.cell? ⟨w.heap.size+1,13,none⟩=some (.string ⟨#[86,90,66,82,71,73,84,89,85,80,83,68,78,72,76,88,65,87,77,74,81,79,70,69,67,75]⟩):=hg.t.cell (i:=13) rfl
  have cC:wr.cell? ⟨w.heap.size+1,14,none⟩=some (.string ⟨#[90]⟩):=hg.t.cell (i:=14) rfl
  have q1:=name_eq [86] name
  have hgl:=hg.t.lt
  by_cases hn:name.data.toList=[86]
  ·rw[decide_eq_true hn] at q1
   have q2:(([86]:List UInt8)==name.toList)=true:=by rw[ba_toList,hn];rfl
   have HKW:Hid (knW name.data.toList=spl kw5):=by rw[Hid,hn];rfl
   have HKN:Hid (knN name.data.toList=[25]):=by rw[Hid,hn];rfl
   have HKE:Hid (knE name.data.toList=0):=by rw[Hid,hn];rfl
   clear hn HA
   have hgv:=hg.alloc (.cells #[.string ⟨#[86]⟩,.string ⟨#[86,90,66,82,71,73,84,89,85,80,83,68,78,72,76,88,65,87,77,74,81,79,70,69,67,75]⟩,.string ⟨#[90]⟩] 173)
   have hv:=RowAt.new wr 173 #[.string ⟨#[86]⟩,.string ⟨#[86,90,66,82,71,73,84,89,85,80,83,68,78,72,76,88,65,87,77,74,81,79,70,69,67,75]⟩,.string ⟨#[90]⟩]
   have HSP:=(show Hid (∀W,Calls Tryz.prog 158 #[.string ⟨#[86,90,66,82,71,73,84,89,85,80,83,68,78,72,76,88,65,87,77,74,81,79,70,69,67,75]⟩] W fun e w'=>e=.returned (.agg (ints 26 (spl kw5)))∧Below W.heap.size W w') from fun W=>rspelt_any ⟨kw5.toArray⟩ (ls_dec (by decide)) (by decide) W)
   go_upto_region 5 with fail
   generalize wr.alloc (.cells #[.string ⟨#[86]⟩,.string ⟨#[86,90,66,82,71,73,84,89,85,80,83,68,78,72,76,88,65,87,77,74,81,79,70,69,67,75]⟩,.string ⟨#[90]⟩] 173)=V at *
   obtain ⟨q,hq⟩:∃q,q=wr.heap.size:=⟨_,rfl⟩
   rw[←hq] at hv ⊢
   have hqn:w.heap.size<q:=by omega
   have hVl:=hv.lt
   clear hq hg cA cB cC q1 q2 hgl
   refine wp_region_noPanic ?_
   refine wp_region_held_drew (S:=fun W=>KmS w W q (.string ⟨#[86]⟩) (.string ⟨#[86,90,66,82,71,73,84,89,85,80,83,68,78,72,76,88,65,87,77,74,81,79,70,69,67,75]⟩) (.string ⟨#[90]⟩)) (by kernel_rfl) (KmS.drew ⟨⟨_,_,hgv.r⟩,hv,hqn,hgv.below⟩) (fun hS=>?_)
   refine vtk 0 21 (.pointer (some ⟨q,1,none⟩)) rfl (fun W hW=>by clear hS hW;go_simp) hS ?_
   simp only[zsA,zsB,zsC]
   refine vtk 1 22 (.string ⟨#[86,90,66,82,71,73,84,89,85,80,83,68,78,72,76,88,65,87,77,74,81,79,70,69,67,75]⟩) rfl (fun W hW=>by have u:=hW.v.cell (i:=1) rfl;clear hS hW;go_simp) hS ?_
   simp only[zsA,zsB,zsC]
   refine vtk 3 24 (.pointer (some ⟨q,2,none⟩)) rfl (fun W hW=>by clear hS hW;go_simp) hS ?_
   simp only[zsA,zsB,zsC]
   refine vtk 4 25 (.string ⟨#[90]⟩) rfl (fun W hW=>by have u:=hW.v.cell (i:=2) rfl;clear hS hW;go_simp) hS ?_
   simp only[zsA,zsB,zsC]
   refine vtk 5 26 (.int .u8 90) rfl (fun W hW=>by clear hS hW;(go_simp;try rfl)) hS ?_
   simp only[zsA,zsB,zsC]
   refine vtk 6 27 (.int .i64 90) rfl (fun W hW=>by clear hS hW;(go_simp;try rfl)) hS ?_
   simp only[zsA,zsB,zsC]
   refine vtk 7 28 (.int .i64 25) rfl (fun W hW=>by clear hS hW;(go_simp;try rfl)) hS ?_
   simp only[zsA,zsB,zsC]
   refine wpAnyH_ready (rs:=[2,8]) (by kernel_rfl) (by simp) ?_
   refine AllReadyH.cons (o:=_) rfl (fun K hK=>?_) (AllReadyH.cons (o:=_) rfl (fun K hK=>?_) AllReadyH.nil)
   ·rw[if_pos (by rfl)]
    go_simp
    refine Calls.mono (HSP.out _) ?_
    rintro e Y ⟨rfl,hb8⟩
    refine hK.out _ _ (hS.step hb8) (fun hS1=>?_)
    have hYl:V.heap.size≤Y.heap.size:=hb8.size
    clear hK hS K hb8
    have hS:=hS1
    clear hS1
    refine rd1 8 rfl (fun K hK=>?_)
    go_simp
    have hnm:=nums_one Y 25
    refine hK.out _ _ (hS.alloc _) (fun hS1=>?_)
    clear hK hS K
    have hS:=hS1
    clear hS1
    refine vtk 9 30 (.agg (whl (spl kw5) (.slice (some ⟨Y.heap.size,0,none⟩) 1 1))) rfl (fun W hW=>by have u:=run_build (P:=Tryz.prog) W 97 #[(0,.agg (ints 26 (spl kw5))),(1,(.slice (some ⟨Y.heap.size,0,none⟩) 1 1))] _ (built_whl (spl kw5) _ _ _);clear hS hW;simp[execOp,Act.eval,u]) hS ?_
    simp only[zsA,zsB,zsC]
    obtain ⟨f0,R0,hr0⟩:=hS.r
    refine rd1 10 rfl (fun K hK=>?_)
    refine wp_store_row 97 _ _ rfl w.heap.size (whl (spl kw5) (.slice (some ⟨Y.heap.size,0,none⟩) 1 1)) rfl rfl 97 _ hr0 (by rw[whl_size];exact v_info_whl) (by simp only[whl_size]) (whl_one rfl) ?_
    refine hK.out _ _ (hS.row _ _) (fun hS1=>?_)
    have hr1:=hr0.row (whl (spl kw5) (.slice (some ⟨Y.heap.size,0,none⟩) 1 1))
    have hnm2:=nums_row hnm w.heap.size (whl (spl kw5) (.slice (some ⟨Y.heap.size,0,none⟩) 1 1)) (fun e=>by simp[Value.ownBlock] at e;omega)
    clear hK hS K
    have hS:=hS1
    clear hS1
    refine vtk 11 3 (.int .i64 0) rfl (fun W hW=>by clear hS hW;go_simp) hS ?_
    simp only[zsA,zsB,zsC]
    refine wpAnyH_done (by kernel_rfl) ?_ _
    refine NoPanic.normal ?_
    go_wp2
    exact bodyPost_ret (v:=.tuple #[.agg (whl (spl kw5) (.slice (some ⟨Y.heap.size,0,none⟩) 1 1)),.int .i64 0]) (results_cell_tmp2 rfl _ _ w.heap.size 97 _ (0,0) _ _ rfl rfl hr1 Tryz.underlying97 rfl (by rw[whl_size];exact v_info_whl)) rfl ⟨_,by rw[HKW.out,HKE.out],by rw[HKN.out];exact hnm2,hS.below⟩
   ·rw[if_pos (by rfl)]
    go_simp
    have hnm0:=nums_one V.drew 25
    refine hK.out _ _ (hS.alloc _) (fun hS1=>?_)
    clear hK hS K
    have hS:=hS1
    clear hS1
    refine rd1 2 rfl (fun K hK=>?_)
    go_simp
    refine Calls.mono (HSP.out _) ?_
    rintro e Y ⟨rfl,hb8⟩
    have hnm:=NumsAt.below hnm0 hb8
    refine hK.out _ _ (hS.step hb8) (fun hS1=>?_)
    clear hK hS K hb8
    have hS:=hS1
    clear hS1
    refine vtk 9 30 (.agg (whl (spl kw5) (.slice (some ⟨V.heap.size,0,none⟩) 1 1))) rfl (fun W hW=>by have u:=run_build (P:=Tryz.prog) W 97 #[(0,.agg (ints 26 (spl kw5))),(1,(.slice (some ⟨V.heap.size,0,none⟩) 1 1))] _ (built_whl (spl kw5) _ _ _);clear hS hW;simp[execOp,Act.eval,u]) hS ?_
    simp only[zsA,zsB,zsC]
    obtain ⟨f0,R0,hr0⟩:=hS.r
    refine rd1 10 rfl (fun K hK=>?_)
    refine wp_store_row 97 _ _ rfl w.heap.size (whl (spl kw5) (.slice (some ⟨V.heap.size,0,none⟩) 1 1)) rfl rfl 97 _ hr0 (by rw[whl_size];exact v_info_whl) (by simp only[whl_size]) (whl_one rfl) ?_
    refine hK.out _ _ (hS.row _ _) (fun hS1=>?_)
    have hr1:=hr0.row (whl (spl kw5) (.slice (some ⟨V.heap.size,0,none⟩) 1 1))
    have hnm2:=nums_row hnm w.heap.size (whl (spl kw5) (.slice (some ⟨V.heap.size,0,none⟩) 1 1)) (fun e=>by simp[Value.ownBlock] at e;omega)
    clear hK hS K
    have hS:=hS1
    clear hS1
    refine vtk 11 3 (.int .i64 0) rfl (fun W hW=>by clear hS hW;go_simp) hS ?_
    simp only[zsA,zsB,zsC]
    refine wpAnyH_done (by kernel_rfl) ?_ _
    refine NoPanic.normal ?_
    go_wp2
    exact bodyPost_ret (v:=.tuple #[.agg (whl (spl kw5) (.slice (some ⟨V.heap.size,0,none⟩) 1 1)),.int .i64 0]) (results_cell_tmp2 rfl _ _ w.heap.size 97 _ (0,0) _ _ rfl rfl hr1 Tryz.underlying97 rfl (by rw[whl_size];exact v_info_whl)) rfl ⟨_,by rw[HKW.out,HKE.out],by rw[HKN.out];exact hnm2,hS.below⟩
  ·rw[decide_eq_false hn] at q1
   have q2:(([86]:List UInt8)==name.toList)=false:=by rw[ba_toList];exact beq_false_of_ne (fun e=>hn e.symm)
   have HN:Hid (∀i,i<5→(knT.getD i ([],[],0)).1≠name.data.toList):=fun i hi=>by
    by_cases e:i=4
    ·rw[e];exact fun e=>hn e.symm
    ·exact HA.out i (by omega)
   clear hn
   have hga:=hg.alloc (.cells #[.string ⟨#[86]⟩,.string ⟨#[86,90,66,82,71,73,84,89,85,80,83,68,78,72,76,88,65,87,77,74,81,79,70,69,67,75]⟩,.string ⟨#[90]⟩] 173)
   go_wp2_with fail
   go_roundw
   case rel=>exact ⟨5,by omega,by go_num,HN.out,hga⟩
   case measure=>simp[intOf] <;> omega
 ·have HKI:=(show Hid _ from kn_none HA.out)
  have HKW:Hid (knW name.data.toList=fun _=>0):=by rw[Hid];unfold knW;rw[HKI.out]
  have HKN:Hid (knN name.data.toList=[]):=by rw[Hid];unfold knN;rw[HKI.out]
  have HKE:Hid (knE name.data.toList=7):=by rw[Hid];unfold knE;rw[HKI.out]
  have hr:=hg.r
  have hbe:=hg.below
  clear hg
  go_wp2_with (first | refine wpList_build0 rfl 97 rfl _ built_whl0 ?_ | refine wpList_store_row rfl 97 _ _ rfl w.heap.size (whl (fun _=>0) (.slice none 0 0)) rfl rfl 97 _ hr (by rw[whl_size];exact v_info_whl) (by simp only[whl_size]) (whl_one rfl) ?_)
  exact bodyPost_ret (v:=.tuple #[.agg (whl (fun _=>0) (.slice none 0 0)),.int .i64 7]) (results_cell_tmp2 rfl _ _ w.heap.size 97 _ (0,0) _ _ rfl rfl (hr.row _) Tryz.underlying97 rfl (by rw[whl_size];exact v_info_whl)) rfl ⟨_,by rw[HKW.out,HKE.out],by rw[HKN.out];exact ⟨none,0,rfl,by decide,fun c hc=>by simp at hc⟩,Below.setRow hbe _ (Nat.le_refl _) _⟩
end Go.Proofs.YtkohhdkkbaifoaaGreatDoor
