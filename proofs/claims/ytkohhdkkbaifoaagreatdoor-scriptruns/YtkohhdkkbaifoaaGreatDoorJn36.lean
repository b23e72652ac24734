/-
  Several texts, joined: RuG, ScRd, RuH, RuI, PrL, RuO, RuP.
-/
import Derived.Test.YtkohhdkkbaifoaaGreatDoorRuF
import Derived.Test.YtkohhdkkbaifoaaGreatDoorScI
import Derived.Test.YtkohhdkkbaifoaaGreatDoorJn23
import Derived.Test.YtkohhdkkbaifoaaGreatDoorScN
import Derived.Test.YtkohhdkkbaifoaaGreatDoorJn26
import Derived.Test.YtkohhdkkbaifoaaGreatDoorJn28
/-
  The document's One, of all kinds.
-/
namespace Go.Proofs.YtkohhdkkbaifoaaGreatDoor
open Go.RowKit PK Vg Sm

theorem rone_f (v:Value) (s:Sp) (t:ByteArray) (w:World) (hv:SqAt w v s) (hs:stE s=0) (ht:ckE t.data.toList=0):Calls Tryz.prog 43 #[v,.string t,.bool false] w fun e w'=>e=.returned (.tuple #[.string ⟨(if oneE s t.data.toList.length=0 then one s t.data.toList else []).toArray⟩,.int .i64 (oneE s t.data.toList.length)])∧Below w.heap.size w w':=by
 rcases st_kinds hs with k | k | k | k | k | k
 ·rw[oneE_n (by omega),if_pos rfl,one_1 k];exact rone_mv_f v s t w hv hs k ht
 ·rw[oneE_n (by omega),if_pos rfl,one_2 k];exact rone_tab_f v s t w hv hs k ht
 ·rw[oneE_n (by omega),if_pos rfl,one_34 (.inl k)];exact rone_rail_f v s t w hv hs k ht
 ·rw[oneE_n (by omega),if_pos rfl,one_34 (.inr k)];exact rone_col_f v s t w hv hs k ht
 ·have hsz:=Pl.size_len t
  by_cases hm:t.size % s.r=0
  ·have e:oneE s t.data.toList.length=0:=by unfold oneE;rw[if_neg (fun h=>h.2 (by rw[←hsz];exact hm))]
   rw[e,if_pos rfl,one_5 k];exact rone_hill_f v s t w hv hs k ht hm
  ·have e:oneE s t.data.toList.length=8:=by unfold oneE;rw[if_pos ⟨k,by rw[←hsz];exact hm⟩]
   rw[e,if_neg (by decide)];exact rone_hill_x v s t w hv hs k ht hm false
 ·rw[oneE_n (by omega),if_pos rfl,one_6 k];exact rone_rot_f v s t w hv hs k ht
theorem rone_b (v:Value) (s:Sp) (t:ByteArray) (w:World) (hv:SqAt w v s) (hs:stE s=0) (ht:ckE t.data.toList=0):Calls Tryz.prog 43 #[v,.string t,.bool true] w fun e w'=>e=.returned (.tuple #[.string ⟨(if undE s t.data.toList.length=0 then und s t.data.toList else []).toArray⟩,.int .i64 (undE s t.data.toList.length)])∧Below w.heap.size w w':=by
 rcases st_kinds hs with k | k | k | k | k | k
 ·rw[undE_n (by omega),if_pos rfl,und_1 k];exact rone_mv_b v s t w hv hs k ht
 ·rw[undE_n (by omega),if_pos rfl,und_2 k];exact rone_tab_b v s t w hv hs k ht
 ·rw[undE_n (by omega),if_pos rfl,und_34 (.inl k)];exact rone_rail_b v s t w hv hs k ht
 ·rw[undE_n (by omega),if_pos rfl,und_34 (.inr k)];exact rone_col_b v s t w hv hs k ht
 ·have hsz:=Pl.size_len t
  by_cases hm:t.size % s.r=0
  ·have e:undE s t.data.toList.length=(recOf (detL s.r s.Z)).2:=by unfold undE;rw[if_neg (fun h=>h.2 (by rw[←hsz];exact hm)),if_pos k]
   rcases recOf_cases (detL s.r s.Z) with h | h
   ·rw[e,h,if_pos rfl,und_5 k];exact rone_hill_b v s t w hv hs k ht hm h
   ·rw[e,h,if_neg (by decide)];exact rone_hill_n v s t w hv hs k ht hm h
  ·have e:undE s t.data.toList.length=8:=by unfold undE;rw[if_pos ⟨k,by rw[←hsz];exact hm⟩]
   rw[e,if_neg (by decide)];exact rone_hill_x v s t w hv hs k ht hm true
 ·rw[undE_n (by omega),if_pos rfl,und_6 k];exact rone_rot_b v s t w hv hs k ht
theorem chA_zero17 {n:Nat} {l:Nat→Sp} (h:chE n l=0):chA n l=0:=by
 obtain ⟨hn,hst⟩:=chE_zero h
 unfold chA
 rw[if_neg (by omega),firE_all hst]
 rfl
end Go.Proofs.YtkohhdkkbaifoaaGreatDoor

/-
  script.Read.
-/
namespace Go.Proofs.YtkohhdkkbaifoaaGreatDoor
open Go.RowKit PK Vg

end Go.Proofs.YtkohhdkkbaifoaaGreatDoor

/-
  The document's Run and Undo.
-/
namespace Go.Proofs.YtkohhdkkbaifoaaGreatDoor
open Go.RowKit PK Vg Sm

set_option maxRecDepth 100000 in
set_option maxHeartbeats 4000000 in
theorem rrun17_chain (v:Value) (n:Nat) (l:Nat→Sp) (t:ByteArray) (w:World) (hv:ChAt w v n l) (hE:chE n l≠0):Calls Tryz.prog 12 #[v,.string t] w fun e w'=>e=.returned (.tuple #[.string ⟨(rS n l t.data.toList).toArray⟩,fltV (rE n l t.data.toList) (rA n l t.data.toList)])∧Below w.heap.size w w':=by
 obtain ⟨W1,hW1⟩:∃W1,W1=w.alloc (.cells #[.int .i64 0,.int .i64 0] 35):=⟨_,rfl⟩
 have hb1:Below w.heap.size w W1:=by rw[hW1];exact (Below.refl _ w).alloc (Nat.le_refl _) _
 have q1:RowAt W1 w.heap.size 35 #[.int .i64 0,.int .i64 0]:=by rw[hW1];exact RowAt.new w _ _
 have HQ1:Hid (RowAt W1 w.heap.size 35 #[.int .i64 0,.int .i64 0]):=q1
 have HB1:Hid (Below w.heap.size w W1):=hb1
 have HAL:Hid _:=rall17_any v n l W1 (hv.below hb1)
 have hR:rE n l t.data.toList=chE n l∧rA n l t.data.toList=chA n l∧rS n l t.data.toList=[]:=by
  have h1:rE n l t.data.toList=chE n l:=by unfold rE;rw[if_pos hE]
  exact ⟨h1,by unfold rA;rw[if_pos hE],by unfold rS;rw[if_neg (by rw[h1];exact hE)]⟩
 rw[hR.1,hR.2.1,hR.2.2]
 obtain ⟨va,vc,_,rfl,-⟩:=id hv
 have hne:(chE n l != 0)=true:=by simpa using hE
 generalize chE n l=E at *
 generalize chA n l=A at *
 clear hR hE hv q1 hb1
 go_enter Tryz.func12,Tryz.ntmps12
 go_upto_region 1 with fail
 rw[←hW1]
 clear hW1
 go_wp2_with fail
 refine Calls.mono HAL.out ?_
 rintro e V1 ⟨rfl,hb⟩
 have hb01:=HB1.out.trans (hb.mono HB1.out.size)
 have hf:=RowAt.below HQ1.out hb (RowAt.lt HQ1.out)
 obtain ⟨X1,hX1⟩:∃X1,X1=V1.alloc (.cells #[.int .i64 E,.int .i64 (A:Int)] 35):=⟨_,rfl⟩
 have HBW:Hid (Below w.heap.size w X1):=by rw[Hid,hX1];exact hb01.alloc hb01.size _
 have HF:Hid (RowAt X1 w.heap.size 35 #[.int .i64 0,.int .i64 0]):=by rw[Hid,hX1];exact RowAt.alloc hf _
 have g0:RowAt X1 V1.heap.size 35 #[.int .i64 E,.int .i64 (A:Int)]:=by rw[hX1];exact RowAt.new V1 _ _
 have k0:=RowAt.cell g0 (i:=0) rfl
 have k1:=RowAt.cell g0 (i:=1) rfl
 have h0:=RowAt.cell HF.out (i:=0) rfl
 have h1:=RowAt.cell HF.out (i:=1) rfl
 have h2:=RowAt.frozen HF.out 0
 have h3:=RowAt.frozen HF.out 1
 have HQ9:Hid _:=fault_set HF.out (.int .i64 E) (.int .i64 (A:Int))
 have HB9:Hid (Below w.heap.size w ((X1.setCell ⟨w.heap.size,0,none⟩ (.int .i64 E)).setCell ⟨w.heap.size,1,none⟩ (.int .i64 (A:Int)))):=(HBW.out.setCell (p:=⟨w.heap.size,0,none⟩) (Nat.le_refl _) _).setCell (p:=⟨w.heap.size,1,none⟩) (Nat.le_refl _) _
 clear hb hb01 hf g0 HAL
 unfold fltV
 go_upto_region 2 with fail
 rw[←hX1]
 clear hX1
 go_upto_region 3 with fail
 go_region
 all_goals (go_wp2)
 all_goals (first | (exact ⟨rfl,_,results_tmp_cell rfl _ _ w.heap.size 35 #[.int .i64 E,.int .i64 (A:Int)] (0,0) _ _ rfl rfl HQ9.out Tryz.underlying35 rfl f_info,rfl,HB9.out⟩) | (exact ⟨rfl,_,results_tmp_cell rfl _ _ w.heap.size 35 #[.int .i64 E,.int .i64 (A:Int)] (0,0) _ _ rfl rfl HQ9.out Tryz.underlying35 rfl f_info,rfl,HB9.out.drew⟩) | refine Hid.out ?_)
set_option maxRecDepth 100000 in
set_option maxHeartbeats 4000000 in
theorem rrun17_text (v:Value) (n:Nat) (l:Nat→Sp) (t:ByteArray) (w:World) (hv:ChAt w v n l) (hE:chE n l=0) (hT:ckE t.data.toList≠0):Calls Tryz.prog 12 #[v,.string t] w fun e w'=>e=.returned (.tuple #[.string ⟨(rS n l t.data.toList).toArray⟩,fltV (rE n l t.data.toList) (rA n l t.data.toList)])∧Below w.heap.size w w':=by
 obtain ⟨W1,hW1⟩:∃W1,W1=w.alloc (.cells #[.int .i64 0,.int .i64 0] 35):=⟨_,rfl⟩
 have hb1:Below w.heap.size w W1:=by rw[hW1];exact (Below.refl _ w).alloc (Nat.le_refl _) _
 have q1:RowAt W1 w.heap.size 35 #[.int .i64 0,.int .i64 0]:=by rw[hW1];exact RowAt.new w _ _
 have HQ1:Hid (RowAt W1 w.heap.size 35 #[.int .i64 0,.int .i64 0]):=q1
 have HB1:Hid (Below w.heap.size w W1):=hb1
 have HAL:Hid _:=rall17_any v n l W1 (hv.below hb1)
 obtain ⟨va,vc,VR,rfl,hvm,hvr,hvq⟩:=id hv
 have HCH:Hid (ChAt w (.slice va n vc) n l):=hv
 rw[hE] at HAL
 have hA0:chA n l=0:=chA_zero17 hE
 rw[hA0] at HAL
 have hR:rE n l t.data.toList=ckE t.data.toList∧rA n l t.data.toList=n∧rS n l t.data.toList=[]:=by
  have h1:rE n l t.data.toList=ckE t.data.toList:=by unfold rE;rw[if_neg (fun h=>h hE),if_pos hT]
  exact ⟨h1,by unfold rA;rw[if_neg (fun h=>h hE),if_pos hT],by unfold rS;rw[if_neg (by rw[h1];exact hT)]⟩
 rw[hR.1,hR.2.1,hR.2.2]
 have hne:(ckE t.data.toList != 0)=true:=by simpa using hT
 obtain ⟨E,hEE⟩:∃E,E=ckE t.data.toList:=⟨_,rfl⟩
 have HEE:Hid (E=ckE t.data.toList):=hEE
 rw[←hEE] at hne ⊢
 clear hEE
 clear hR hE hv q1 hb1 hA0 hvm hvr hvq hT
 go_enter Tryz.func12,Tryz.ntmps12
 go_upto_region 1 with fail
 rw[←hW1]
 clear hW1
 go_wp2_with fail
 refine Calls.mono HAL.out ?_
 rintro e V1 ⟨rfl,hb⟩
 have hb01:=HB1.out.trans (hb.mono HB1.out.size)
 have hf:=RowAt.below HQ1.out hb (RowAt.lt HQ1.out)
 obtain ⟨X1,hX1⟩:∃X1,X1=V1.alloc (.cells #[.int .i64 0,.int .i64 0] 35):=⟨_,rfl⟩
 have HB2:Hid (Below w.heap.size w X1):=by rw[Hid,hX1];exact hb01.alloc hb01.size _
 have HQ2:Hid (RowAt X1 w.heap.size 35 #[.int .i64 0,.int .i64 0]):=by rw[Hid,hX1];exact RowAt.alloc hf _
 have k0:X1.cell? ⟨V1.heap.size,0,none⟩=some (.int .i64 0):=by rw[hX1];exact RowAt.cell (RowAt.new V1 _ _) (i:=0) rfl
 have HCK:Hid _:=rcheck_all t X1
 clear hb hb01 hf HAL
 unfold fltV
 go_upto_region 2 with fail
 rw[←hX1]
 clear hX1
 rw[←HEE.out] at HCK
 clear HEE
 generalize ckAt t.data.toList=A at *
 go_wp2_with fail
 refine Calls.mono HCK.out ?_
 rintro e V2 ⟨rfl,hb⟩
 have hb02:=HB2.out.trans (hb.mono HB2.out.size)
 have hf:=RowAt.below HQ2.out hb (RowAt.lt HQ2.out)
 obtain ⟨X2,hX2⟩:∃X2,X2=V2.alloc (.cells #[.int .i64 E,.int .i64 A] 35):=⟨_,rfl⟩
 have HBW:Hid (Below w.heap.size w X2):=by rw[Hid,hX2];exact hb02.alloc hb02.size _
 have HF:Hid (RowAt X2 w.heap.size 35 #[.int .i64 0,.int .i64 0]):=by rw[Hid,hX2];exact RowAt.alloc hf _
 have k2:X2.cell? ⟨V2.heap.size,0,none⟩=some (.int .i64 E):=by rw[hX2];exact RowAt.cell (RowAt.new V2 _ _) (i:=0) rfl
 have h0:=RowAt.cell HF.out (i:=0) rfl
 have h1:=RowAt.cell HF.out (i:=1) rfl
 have h2:=RowAt.frozen HF.out 0
 have h3:=RowAt.frozen HF.out 1
 have HQ9:Hid _:=fault_set HF.out (.int .i64 E) (.int .i64 (n:Int))
 have HB9:Hid (Below w.heap.size w ((X2.setCell ⟨w.heap.size,0,none⟩ (.int .i64 E)).setCell ⟨w.heap.size,1,none⟩ (.int .i64 (n:Int)))):=(HBW.out.setCell (p:=⟨w.heap.size,0,none⟩) (Nat.le_refl _) _).setCell (p:=⟨w.heap.size,1,none⟩) (Nat.le_refl _) _
 clear hb hb02 hf HCK k0
 go_upto_region 5 with fail
 rw[←hX2]
 clear hX2
 go_upto_region 6 with fail
 go_region
 all_goals (go_wp2)
 all_goals (first | (exact ⟨rfl,_,results_tmp_cell rfl _ _ w.heap.size 35 #[.int .i64 E,.int .i64 (n:Int)] (0,0) _ _ rfl rfl HQ9.out Tryz.underlying35 rfl f_info,rfl,HB9.out⟩) | (exact ⟨rfl,_,results_tmp_cell rfl _ _ w.heap.size 35 #[.int .i64 E,.int .i64 (n:Int)] (0,0) _ _ rfl rfl HQ9.out Tryz.underlying35 rfl f_info,rfl,HB9.out.drew⟩) | refine Hid.out ?_)
end Go.Proofs.YtkohhdkkbaifoaaGreatDoor

/-
  The document's Run and Undo.
-/
namespace Go.Proofs.YtkohhdkkbaifoaaGreatDoor
open Go.RowKit PK Vg Sm

set_option maxRecDepth 100000 in
set_option maxHeartbeats 4000000 in
theorem rrun17_good (v:Value) (n:Nat) (l:Nat→Sp) (t:ByteArray) (w:World) (hv:ChAt w v n l) (hE:chE n l=0) (hT:ckE t.data.toList=0):Calls Tryz.prog 12 #[v,.string t] w fun e w'=>e=.returned (.tuple #[.string ⟨(rS n l t.data.toList).toArray⟩,fltV (rE n l t.data.toList) (rA n l t.data.toList)])∧Below w.heap.size w w':=by
 obtain ⟨W1,hW1⟩:∃W1,W1=w.alloc (.cells #[.int .i64 0,.int .i64 0] 35):=⟨_,rfl⟩
 have hb1:Below w.heap.size w W1:=by rw[hW1];exact (Below.refl _ w).alloc (Nat.le_refl _) _
 have q1:RowAt W1 w.heap.size 35 #[.int .i64 0,.int .i64 0]:=by rw[hW1];exact RowAt.new w _ _
 have HQ1:Hid (RowAt W1 w.heap.size 35 #[.int .i64 0,.int .i64 0]):=q1
 have HB1:Hid (Below w.heap.size w W1):=hb1
 have HAL:Hid _:=rall17_any v n l W1 (hv.below hb1)
 obtain ⟨va,vc,VR,rfl,hvm,hvr,hvq⟩:=id hv
 have HCH:Hid (ChAt w (.slice va n vc) n l):=hv
 rw[hE] at HAL
 have hA0:chA n l=0:=chA_zero17 hE
 rw[hA0] at HAL
 obtain ⟨hn64,hst⟩:=chE_zero hE
 have hck:=(ck_at hT).1
 have HR:Hid (rE n l t.data.toList=firV (fun k=>oneE (l k) t.data.toList.length) n):=by rw[Hid];unfold rE;rw[if_neg (fun h=>h hE),if_neg (fun h=>h hT)]
 have HRA:Hid (∀k,k<n→(∀j,j<k→(fun k=>oneE (l k) t.data.toList.length) j=0)→oneE (l k) t.data.toList.length≠0→rE n l t.data.toList=oneE (l k) t.data.toList.length∧rA n l t.data.toList=k∧rS n l t.data.toList=[]):=fun k hk h0 h1=>by
  obtain ⟨h2,h3⟩:=firV_of (f:=fun k=>oneE (l k) t.data.toList.length) hk h0 h1
  have h4:rE n l t.data.toList=oneE (l k) t.data.toList.length:=HR.out.trans h2
  refine ⟨h4,?_,by unfold rS;rw[if_neg (by rw[h4];exact h1)]⟩
  unfold rA
  rw[if_neg (fun h=>h hE),if_neg (fun h=>h hT)]
  exact h3
 have HRG:Hid ((∀j,j<n→(fun k=>oneE (l k) t.data.toList.length) j=0)→rE n l t.data.toList=0∧rA n l t.data.toList=0∧rS n l t.data.toList=runT l t.data.toList n):=fun h0=>by
  have h4:rE n l t.data.toList=0:=HR.out.trans (firV_all h0)
  refine ⟨h4,?_,by unfold rS;rw[if_pos h4]⟩
  unfold rA
  rw[if_neg (fun h=>h hE),if_neg (fun h=>h hT)]
  unfold firA;rw[fir_all h0];rfl
 have HRT:Hid (∀k,k≤n→ckE (runT l t.data.toList k)=0∧(runT l t.data.toList k).length=t.data.toList.length):=runT_right w hst hT
 have HST:Hid (∀i,i<n→stE (l i)=0):=hst
 have HVR:Hid (∀i,i<n→∃b o,va=some ⟨b,o,none⟩∧w.rangeAt b (o+i*59) (VR i).toList):=hvr
 have HVQ:Hid (∀i,i<n→SqAt w (.agg (VR i)) (l i)):=hvq
 have HST1:Hid (∀k,runT l t.data.toList (k+1)=one (l k) (runT l t.data.toList k)):=fun k=>rfl
 have HT0:Hid (t.data.toList=runT l t.data.toList 0):=rfl
 obtain ⟨E9,hE9⟩:∃E9,E9=rE n l t.data.toList:=⟨_,rfl⟩
 obtain ⟨A9,hA9⟩:∃A9,A9=rA n l t.data.toList:=⟨_,rfl⟩
 obtain ⟨S9,hS9⟩:∃S9,S9=rS n l t.data.toList:=⟨_,rfl⟩
 rw[←hE9,←hA9,←hS9]
 rw[←hE9,←hA9,←hS9] at HRG
 have HRA2:Hid (∀k,k<n→(∀j,j<k→(fun k=>oneE (l k) t.data.toList.length) j=0)→oneE (l k) t.data.toList.length≠0→E9=oneE (l k) t.data.toList.length∧A9=k∧S9=[]):=fun k h1 h2 h3=>by
  rw[hE9,hA9,hS9];exact HRA.out k h1 h2 h3
 clear hE9 hA9 hS9 HRA HR hvr hvq hst hE hv q1 hb1 hA0 hvm
 go_enter Tryz.func12,Tryz.ntmps12
 go_upto_region 1 with fail
 rw[←hW1]
 clear hW1
 go_wp2_with fail
 refine Calls.mono HAL.out ?_
 rintro e V1 ⟨rfl,hb⟩
 have hb01:=HB1.out.trans (hb.mono HB1.out.size)
 have hf:=RowAt.below HQ1.out hb (RowAt.lt HQ1.out)
 obtain ⟨X1,hX1⟩:∃X1,X1=V1.alloc (.cells #[.int .i64 0,.int .i64 0] 35):=⟨_,rfl⟩
 have HB2:Hid (Below w.heap.size w X1):=by rw[Hid,hX1];exact hb01.alloc hb01.size _
 have HQ2:Hid (RowAt X1 w.heap.size 35 #[.int .i64 0,.int .i64 0]):=by rw[Hid,hX1];exact RowAt.alloc hf _
 have k0:X1.cell? ⟨V1.heap.size,0,none⟩=some (.int .i64 0):=by rw[hX1];exact RowAt.cell (RowAt.new V1 _ _) (i:=0) rfl
 have HCK:Hid _:=rcheck_all t X1
 clear hb hb01 hf HAL
 unfold fltV
 go_upto_region 2 with fail
 rw[←hX1]
 clear hX1
 rw[hT,hck] at HCK
 clear hT hck
 go_wp2_with fail
 refine Calls.mono HCK.out ?_
 rintro e V2 ⟨rfl,hb⟩
 have hb02:=HB2.out.trans (hb.mono HB2.out.size)
 have hf:=RowAt.below HQ2.out hb (RowAt.lt HQ2.out)
 obtain ⟨X2,hX2⟩:∃X2,X2=V2.alloc (.cells #[.int .i64 0,.int .i64 0] 35):=⟨_,rfl⟩
 have HB3:Hid (Below w.heap.size w X2):=by rw[Hid,hX2];exact hb02.alloc hb02.size _
 have HQ3:Hid (RowAt X2 w.heap.size 35 #[.int .i64 0,.int .i64 0]):=by rw[Hid,hX2];exact RowAt.alloc hf _
 have k2:X2.cell? ⟨V2.heap.size,0,none⟩=some (.int .i64 0):=by rw[hX2];exact RowAt.cell (RowAt.new V2 _ _) (i:=0) rfl
 clear hb hb02 hf HCK k0
 go_upto_region 5 with fail
 rw[←hX2]
 clear hX2
 go_wp2_with fail
 go_loopw [8,1] (fun i x X=>∃(k:Nat) (TT:ByteArray),k≤n∧i=.int .i64 ((k:Int))∧x=.string TT∧Hid (TT.data.toList=runT l t.data.toList k)∧Hid (∀j,j<k→(fun k=>oneE (l k) t.data.toList.length) j=0)∧Hid (RowAt X w.heap.size 35 #[.int .i64 0,.int .i64 0])∧Hid (Below w.heap.size w X)) (fun i _ _=>((n:Int)-intOf i).toNat)
 case atStart=>exact ⟨0,t,by omega,by rfl,rfl,HT0.out,fun j hj=>by omega,HQ3.out,HB3.out⟩
 case round =>
  obtain ⟨k,TT,hk,rfl,rfl,HTT,HZ,HF,HBW⟩:=hrel
  by_cases hlt:k<n
  ·have HLT:Hid (k<n):=hlt
   obtain ⟨bw,ow,rfl,hrg⟩:=HVR.out (k) (by omega)
   have hrg2:=rangeAt_below hrg HBW.out
   have hsk:=HVQ.out (k) (by omega)
   have HSZ:Hid ((VR (k)).size=59):=hsk.cells.1
   obtain ⟨j,hj⟩:∃j,j=k:=⟨_,rfl⟩
   have hji:(k:Int)=(j:Int):=by omega
   have hj64:j≤64:=by omega
   have hjn:j<n:=by omega
   have HJ:Hid (j=k):=hj
   have HON:Hid _:=rone_f _ _ TT wr (hsk.below HBW.out) (HST.out (k) (by omega)) (by rw[HTT.out];exact (HRT.out k hk).1)
   rw[HTT.out,(HRT.out k hk).2] at HON
   have HNX:Hid (runT l t.data.toList (k+1)=one (l k) (runT l t.data.toList k)):=HST1.out k
   have HBD:Hid (oneE (l k) t.data.toList.length≠0→E9=oneE (l k) t.data.toList.length∧A9=k∧S9=[]):=HRA2.out k hlt HZ.out
   have HZ2:Hid (oneE (l k) t.data.toList.length=0→∀j,j<k+1→(fun k=>oneE (l k) t.data.toList.length) j=0):=fun h j hj=>by
    by_cases ej:j=k
    ·rw[ej];exact h
    ·exact HZ.out j (by omega)
   rw[←HNX.out] at HON
   obtain ⟨CS,hCS⟩:∃CS,CS=VR (k):=⟨_,rfl⟩
   rw[←hCS] at hrg2 HSZ HON
   rw[←hj] at hrg2
   clear hCS
   generalize oneE (l k) t.data.toList.length=X at *
   rw[hji]
   clear hrg hsk hj hji hlt HZ HTT
   by_cases hx0:X=0
   ·subst hx0
    have HN2:Hid _:=HZ2.out rfl
    rw[if_pos rfl] at HON
    obtain ⟨NT,hNT⟩:∃NT:ByteArray,NT=⟨(runT l t.data.toList (k+1)).toArray⟩:=⟨_,rfl⟩
    have HNT:Hid (NT.data.toList=runT l t.data.toList (k+1)):=by rw[Hid,hNT]
    rw[←hNT] at HON
    clear hNT HBD HZ2 HNX
    go_wp2_with (first | refine wpList_load_arr rfl 31 _ rfl bw (ow+j*59) rfl CS _ hrg2 Tryz.underlying31 rfl (by rw[HSZ.out];exact s_info) ?_)
    refine Calls.mono HON.out ?_
    rintro e V3 ⟨rfl,hb⟩
    have HF3:Hid _:=RowAt.below HF.out hb (RowAt.lt HF.out)
    have HB4:Hid (Below w.heap.size w V3):=HBW.out.trans (hb.mono HBW.out.size)
    clear hb HON hrg2
    go_wp2
    go_roundw
    case rel=>first | exact ⟨k+1,NT,HLT.out,by have:=HJ.out;have:=HLT.out;go_num,rfl,HNT.out,HN2.out,HF3.out,HB4.out⟩ | refine Hid.out ?_
    case measure=>have:=HLT.out;have:=HJ.out;simp[intOf] <;> omega
   ·have hne:(X != 0)=true:=by simpa using hx0
    have HBE:Hid _:=HBD.out hx0
    rw[if_neg hx0] at HON
    clear hx0 HBD HZ2 HNX
    go_wp2_with (first | refine wpList_load_arr rfl 31 _ rfl bw (ow+j*59) rfl CS _ hrg2 Tryz.underlying31 rfl (by rw[HSZ.out];exact s_info) ?_)
    refine Calls.mono HON.out ?_
    rintro e V3 ⟨rfl,hb⟩
    have hf3:=RowAt.below HF.out hb (RowAt.lt HF.out)
    have hb4:Below w.heap.size w V3:=HBW.out.trans (hb.mono HBW.out.size)
    clear HF HBW hb
    have HF:Hid (RowAt V3 w.heap.size 35 #[.int .i64 0,.int .i64 0]):=hf3
    have HBW:Hid (Below w.heap.size w V3):=hb4
    clear hf3 hb4
    have h0:=RowAt.cell HF.out (i:=0) rfl
    have h1:=RowAt.cell HF.out (i:=1) rfl
    have h2:=RowAt.frozen HF.out 0
    have h3:=RowAt.frozen HF.out 1
    have HQ9:Hid _:=fault_set HF.out (.int .i64 X) (.int .i64 (j:Int))
    have HB9:Hid (Below w.heap.size w ((V3.setCell ⟨w.heap.size,0,none⟩ (.int .i64 X)).setCell ⟨w.heap.size,1,none⟩ (.int .i64 (j:Int)))):=(HBW.out.setCell (p:=⟨w.heap.size,0,none⟩) (Nat.le_refl _) _).setCell (p:=⟨w.heap.size,1,none⟩) (Nat.le_refl _) _
    clear HON hrg2
    go_wp2_with (first | refine wpList_bA rfl 35 [(0,_),(1,_)] rfl [(0,.int .i64 X),(1,.int .i64 (j:Int))] rfl _ (f_built2 X j) ?_)
    exact ⟨rfl,_,results_tmp_cell rfl _ _ w.heap.size 35 #[.int .i64 X,.int .i64 (j:Int)] (0,0) _ _ rfl rfl HQ9.out Tryz.underlying35 rfl f_info,by rw[HBE.out.1,HBE.out.2.1,HBE.out.2.2,←HJ.out];rfl,HB9.out⟩
  ·obtain rfl:k=n:=by omega
   have hnn:¬((k:Nat):Int)<((k:Nat):Int):=by omega
   have HGD:Hid _:=HRG.out HZ.out
   have HTB:Hid (TT=⟨(runT l t.data.toList k).toArray⟩):=by rw[Hid,←HTT.out]
   have h0:=RowAt.cell HF.out (i:=0) rfl
   have h1:=RowAt.cell HF.out (i:=1) rfl
   have h2:=RowAt.frozen HF.out 0
   have h3:=RowAt.frozen HF.out 1
   have HQ9:Hid _:=fault_set HF.out (.int .i64 0) (.int .i64 0)
   have HB9:Hid (Below w.heap.size w ((wr.setCell ⟨w.heap.size,0,none⟩ (.int .i64 0)).setCell ⟨w.heap.size,1,none⟩ (.int .i64 0))):=(HBW.out.setCell (p:=⟨w.heap.size,0,none⟩) (Nat.le_refl _) _).setCell (p:=⟨w.heap.size,1,none⟩) (Nat.le_refl _) _
   clear hlt
   go_wp2_with (first | refine wpList_bA rfl 35 [] rfl [] rfl _ f_built0 ?_)
   exact ⟨rfl,_,results_tmp_cell rfl _ _ w.heap.size 35 #[.int .i64 0,.int .i64 0] (0,0) _ _ rfl rfl HQ9.out Tryz.underlying35 rfl f_info,by rw[HGD.out.1,HGD.out.2.1,HGD.out.2.2,HTB.out];rfl,HB9.out⟩
theorem rrun17_any (v:Value) (n:Nat) (l:Nat→Sp) (t:ByteArray) (w:World) (hv:ChAt w v n l):Calls Tryz.prog 12 #[v,.string t] w fun e w'=>e=.returned (.tuple #[.string ⟨(rS n l t.data.toList).toArray⟩,fltV (rE n l t.data.toList) (rA n l t.data.toList)])∧Below w.heap.size w w':=by
 by_cases hE:chE n l=0
 ·by_cases hT:ckE t.data.toList=0
  ·exact rrun17_good v n l t w hv hE hT
  ·exact rrun17_text v n l t w hv hE hT
 ·exact rrun17_chain v n l t w hv hE
end Go.Proofs.YtkohhdkkbaifoaaGreatDoor

/-
  script.Print.
-/
namespace Go.Proofs.YtkohhdkkbaifoaaGreatDoor
open Go.RowKit PK Vg

theorem ent_print1 (args:Array Value) (W:World):(callFunc 47 args).run Tryz.prog W=.ok (.enter 47 args) W:=by kernel_rfl
def prT (n:Nat) (l:Nat→Sp):List UInt8:=if prE n l=0 then prS n l else []
set_option maxRecDepth 100000 in
set_option maxHeartbeats 4000000 in
theorem print17_any (v:Value) (n:Nat) (l:Nat→Sp) (w:World) (hv:ChAt w v n l) (hnm:NmAt w) (ho:OldAt w):Calls Tryz.prog 15 #[v] w fun e w'=>e=.returned (.tuple #[.string ⟨(prT n l).toArray⟩,fltV (prE n l) (if prE n l=0 then 0 else prA n l:Nat)])∧Below w.heap.size w w':=by
 have hv0:=hv
 obtain ⟨a,cap,R,rfl,-⟩:=hv
 obtain ⟨W1,hW1⟩:∃W1,W1=(w.alloc (.cells #[.slice a n cap] 22)).alloc (.cells #[.int .i64 0,.int .i64 0] 35):=⟨_,rfl⟩
 have hsz:W1.heap.size=w.heap.size+2:=by rw[hW1];simp
 have h1:Below w.heap.size w W1:=by rw[hW1];exact ((Below.refl _ w).alloc (Nat.le_refl _) _).alloc (by simp) _
 have hbx:RowAt W1 w.heap.size 22 #[.slice a n cap]:=by rw[hW1];exact (RowAt.new w _ _).alloc _
 have h5:RowAt W1 (w.heap.size+1) 35 #[.int .i64 0,.int .i64 0]:=by
  rw[hW1]
  have:=RowAt.new (w.alloc (.cells #[.slice a n cap] 22)) 35 #[.int .i64 0,.int .i64 0]
  simpa using this
 have hF:Below W1.heap.size W1 (fbox W1):=(Below.refl _ W1).alloc (Nat.le_refl _) _
 have hF2:Below w.heap.size w (fbox W1):=h1.trans (hF.mono h1.size)
 have hFs:(fbox W1).heap.size=W1.heap.size+1:=by simp[fbox]
 have HR:=print1_any w.heap.size a n cap l (fbox W1) (hv0.below hF2) (RowAt.below hbx hF (RowAt.lt hbx)) (hnm.below hF2) (ho.below hF2)
 have hbxF:RowAt (fbox W1) W1.heap.size 35 #[.int .i64 0,.int .i64 0]:=RowAt.new W1 _ _
 have HB1:Hid (Below w.heap.size w W1):=h1
 have hmf:=mkf
 have HED:Hid (Calls Tryz.prog 34 #[.func (.func 47) #[] #[.pointer (some ⟨w.heap.size,0,none⟩)]] W1 fun e w'=>e=.returned (.tuple #[.string ⟨(prT n l).toArray⟩,fltV (prE n l) (if prE n l=0 then 0 else prA n l:Nat)])∧Below W1.heap.size W1 w'):=by
  by_cases hE:prE n l=0
  ·refine Calls.mono (edgeS_ok 47 _ ent_print1 W1 W1.heap.size (Nat.le_refl _) (fun v _=>v=.string ⟨(prT n l).toArray⟩) (Calls.mono HR ?_)) ?_
   ·rintro e w' ⟨h1,_,hb⟩
    exact ⟨_,h1 hE,rfl,by unfold prT;rw[if_pos hE],RowAt.below hbxF hb (RowAt.lt hbxF),hb.mono (by omega)⟩
   ·rintro e w' ⟨v,rfl,⟨w1,rfl,rfl⟩,hb⟩
    exact ⟨by rw[if_pos hE,hE];rfl,hb⟩
  ·refine Calls.mono (edgeS_bad 47 _ ent_print1 W1 W1.heap.size (Nat.le_refl _) (prE n l) (prA n l) (fun _=>True) (Calls.mono HR ?_)) ?_
   ·rintro e w' ⟨_,h2,hb⟩
    exact ⟨h2 hE,trivial,RowAt.below hbxF hb (RowAt.lt hbxF),hb.mono (by omega)⟩
   ·rintro e w' ⟨rfl,_,hb⟩
    exact ⟨by unfold prT;rw[if_neg hE,if_neg hE],hb⟩
 have H5:Hid _:=h5
 clear HR h1 hbx h5 hF hF2 hbxF hnm ho hv0 R
 generalize prT n l=PT at *
 generalize (if prE n l=0 then 0 else prA n l)=PA at *
 generalize prE n l=PE at *
 go_enter Tryz.func15,Tryz.ntmps15
 go_upto_region 1 with fail
 rw[←hW1]
 clear hW1
 go_wp2_with fail
 refine Calls.mono HED.out ?_
 rintro e V ⟨rfl,hb⟩
 have hr:=RowAt.below H5.out hb (RowAt.lt H5.out)
 have c0:=hr.cell (i:=0) rfl
 have c1:=hr.cell (i:=1) rfl
 have f0:=hr.frozen 0
 have f1:=hr.frozen 1
 have HR2:Hid (RowAt ((V.setCell ⟨w.heap.size+1,0,none⟩ (.int .i64 PE)).setCell ⟨w.heap.size+1,1,none⟩ (.int .i64 (PA:Nat))) (w.heap.size+1) 35 #[.int .i64 PE,.int .i64 (PA:Nat)]):=(hr.set 0 _).set 1 _
 have HB2:Hid (Below w.heap.size w ((V.setCell ⟨w.heap.size+1,0,none⟩ (.int .i64 PE)).setCell ⟨w.heap.size+1,1,none⟩ (.int .i64 (PA:Nat)))):=((HB1.out.trans (hb.mono (by omega))).setCell (p:=⟨w.heap.size+1,0,none⟩) (by show _≤_+1;omega) _).setCell (p:=⟨w.heap.size+1,1,none⟩) (by show _≤_+1;omega) _
 clear hr hb hsz hFs
 unfold fltV
 go_wp2
 exact ⟨rfl,_,results_tmp_cell rfl _ _ (w.heap.size+1) 35 #[.int .i64 PE,.int .i64 (PA:Nat)] (0,0) _ _ rfl rfl HR2.out Tryz.underlying35 rfl f_info,rfl,HB2.out⟩
end Go.Proofs.YtkohhdkkbaifoaaGreatDoor

/-
  For the document's Print: a chain's words, one behind the other; Names.
-/
namespace Go.Proofs.YtkohhdkkbaifoaaGreatDoor
open Go.RowKit PK Vg Sm

def prJ (l:Nat→Sp):Nat→List UInt8
 | 0=>[]
 | k+1=>prJ l k++(if k=0 then [] else [32,124,32])++(prW (l k)).data.toList
theorem prJ_join (l:Nat→Sp):∀k,prJ l k=prS k l
 | 0=>rfl
 | k+1=>by
  have h:prL (k+1) l=prL k l++[prW (l k)]:=by unfold prL;rw[List.range_succ,List.map_append];rfl
  unfold prS
  rw[prJ,prJ_join l k,h,List.map_append,show (List.map (fun x:ByteArray=>x.data.toList) [prW (l k)])=[(prW (l k)).data.toList] from rfl,join_snoc]
  unfold prS
  congr 2
  by_cases h0:k=0
  ·subst h0;rfl
  ·rw[if_neg h0,if_neg (by intro e;have:=congrArg List.length e;rw[List.length_map,prL_len] at this;exact h0 this)]
theorem prJ_len {n k:Nat} {l:Nat→Sp} (hk:k≤n) (hn:n≤64) (hs:∀i,i<n→stE (l i)=0):(prJ l k).length≤2000000:=by
 rw[prJ_join]
 exact prS_len (by omega) (fun i hi=>hs i (by omega))
theorem prW_dat (s:Sp):(prW s).data.toList=Lib.join ((woW s).map (·.data.toList)) [32]:=rfl
theorem join_two17 (x y:List UInt8):Lib.join [x,y] [32]=x++[32]++y:=by rw[Lib.join_cons];simp[Lib.joinTail]
theorem prW_1 {s:Sp} (h:s.k=1):(prW s).data.toList=[109,111,118,101,32]++(dcS s.n.toNat).data.toList:=by
 rw[prW_dat];unfold woW nmO
 rw[if_neg (by omega),if_pos (by omega),h]
 exact join_two17 _ _
theorem prW_3 {s:Sp} (h:s.k=3):(prW s).data.toList=[114,97,105,108,32]++(dcS s.n.toNat).data.toList:=by
 rw[prW_dat];unfold woW nmO
 rw[if_neg (by omega),if_pos (by omega),h]
 exact join_two17 _ _
theorem prW_2 {s:Sp} (h:s.k=2):(prW s).data.toList=(tbN s.n.toNat).data.toList++[32]++s.key.data.toList:=by
 rw[prW_dat];unfold woW nmO
 rw[if_pos h,if_neg (by omega),if_pos (by omega)]
 exact join_two17 _ _
theorem prW_4 {s:Sp} (h:s.k=4):(prW s).data.toList=[99,111,108,117,109,110,115,32]++s.key.data.toList:=by
 rw[prW_dat];unfold woW nmO
 rw[if_neg (by omega),if_neg (by omega),if_pos (by omega),h]
 exact join_two17 _ _
theorem join_cons17 (x:List UInt8) {ys:List (List UInt8)} (h:ys≠[]):Lib.join (x :: ys) [32]=x++[32]++Lib.join ys [32]:=by
 cases ys with
 | nil=>exact absurd rfl h
 | cons y ys=>rw[Lib.join_cons,Lib.join_cons];simp[Lib.joinTail]
theorem mwL_ne (n:Nat) (L:Nat→Nat) (Z:Nat→Nat→Int):∀y,mwL n L Z y≠[]
 | 0=>by simp[mwL]
 | y+1=>by rw[mwL];exact fun h=>mwL_ne n L Z y (List.append_eq_nil_iff.1 h).1
theorem prW_5 {s:Sp} (h:s.k=5):(prW s).data.toList=[104,105,108,108,32]++Lib.join ((mwL s.r s.L s.Z s.r).map (·.data.toList)) [32]:=by
 rw[prW_dat];unfold woW nmO
 rw[if_neg (by omega),if_neg (by omega),if_neg (by omega),if_pos h,h,List.map_append]
 exact join_cons17 _ (by simpa using mwL_ne _ _ _ _)
theorem prW_6 {s:Sp} (h:s.k=6):(prW s).data.toList=txM s.g:=by
 rw[prW_dat];unfold woW nmO txM
 rw[if_neg (by omega),if_neg (by omega),if_neg (by omega),if_neg (by omega),h,List.map_append]
 exact join_cons17 _ (by unfold mcW mc4;simp)
def nms9:Array Value:=#[.string ⟨#[109,111,118,101]⟩,.string (tbN 1),.string (tbN 2),.string (tbN 3),.string (tbN 4),.string ⟨#[114,97,105,108]⟩,.string ⟨#[99,111,108,117,109,110,115]⟩,.string ⟨#[104,105,108,108]⟩,.string ⟨#[114,111,116,111,114]⟩]
theorem nms9_get {m:Nat} (h1:1≤m) (h4:m≤4):nms9[m]? = some (.string (tbN m)):=by
 have:m=1∨m=2∨m=3∨m=4:=by omega
 rcases this with rfl | rfl | rfl | rfl <;> rfl
set_option maxRecDepth 100000 in
set_option maxHeartbeats 1000000 in
theorem rnames17 (w:World):Calls Tryz.prog 52 #[] w fun e w'=>e=.returned (.slice (some ⟨w.heap.size,0,none⟩) 9 9)∧w'=w.alloc (.cells nms9 9):=by
 go_enter Tryz.func52,Tryz.ntmps52
 go_wp2
 go_ret
 exact ⟨rfl,rfl⟩
end Go.Proofs.YtkohhdkkbaifoaaGreatDoor

/-
  The document's Print: where a chain is wrong, or empty.
-/
namespace Go.Proofs.YtkohhdkkbaifoaaGreatDoor
open Go.RowKit PK Vg Sm

set_option maxRecDepth 100000 in
set_option maxHeartbeats 4000000 in
theorem rprint17_chain (v:Value) (n:Nat) (l:Nat→Sp) (w:World) (hv:ChAt w v n l) (hE:chE n l≠0):Calls Tryz.prog 16 #[v] w fun e w'=>e=.returned (.tuple #[.string ⟨(prT n l).toArray⟩,fltV (prE n l) (if prE n l=0 then 0 else prA n l:Nat)])∧Below w.heap.size w w':=by
 obtain ⟨W1,hW1⟩:∃W1,W1=w.alloc (.cells #[.int .i64 0,.int .i64 0] 35):=⟨_,rfl⟩
 have hb1:Below w.heap.size w W1:=by rw[hW1];exact (Below.refl _ w).alloc (Nat.le_refl _) _
 have q1:RowAt W1 w.heap.size 35 #[.int .i64 0,.int .i64 0]:=by rw[hW1];exact RowAt.new w _ _
 have HQ1:Hid (RowAt W1 w.heap.size 35 #[.int .i64 0,.int .i64 0]):=q1
 have HB1:Hid (Below w.heap.size w W1):=hb1
 have HAL:Hid _:=rall17_any v n l W1 (hv.below hb1)
 have hR:prE n l=chE n l∧prA n l=chA n l∧prT n l=[]:=by
  have h1:prE n l=chE n l:=by unfold prE;rw[if_pos hE]
  exact ⟨h1,by unfold prA;rw[if_pos hE],by unfold prT;rw[if_neg (by rw[h1];exact hE)]⟩
 rw[hR.1,hR.2.1,hR.2.2,if_neg hE]
 obtain ⟨va,vc,_,rfl,-⟩:=id hv
 have hne:(chE n l != 0)=true:=by simpa using hE
 generalize chE n l=E at *
 generalize chA n l=A at *
 clear hR hE hv q1 hb1
 go_enter Tryz.func16,Tryz.ntmps16
 go_upto_region 1 with fail
 rw[←hW1]
 clear hW1
 go_wp2_with fail
 refine Calls.mono HAL.out ?_
 rintro e V1 ⟨rfl,hb⟩
 have hb01:=HB1.out.trans (hb.mono HB1.out.size)
 have hf:=RowAt.below HQ1.out hb (RowAt.lt HQ1.out)
 obtain ⟨X1,hX1⟩:∃X1,X1=V1.alloc (.cells #[.int .i64 E,.int .i64 (A:Int)] 35):=⟨_,rfl⟩
 have HBW:Hid (Below w.heap.size w X1):=by rw[Hid,hX1];exact hb01.alloc hb01.size _
 have HF:Hid (RowAt X1 w.heap.size 35 #[.int .i64 0,.int .i64 0]):=by rw[Hid,hX1];exact RowAt.alloc hf _
 have g0:RowAt X1 V1.heap.size 35 #[.int .i64 E,.int .i64 (A:Int)]:=by rw[hX1];exact RowAt.new V1 _ _
 have k0:=RowAt.cell g0 (i:=0) rfl
 have k1:=RowAt.cell g0 (i:=1) rfl
 have h0:=RowAt.cell HF.out (i:=0) rfl
 have h1:=RowAt.cell HF.out (i:=1) rfl
 have h2:=RowAt.frozen HF.out 0
 have h3:=RowAt.frozen HF.out 1
 have HQ9:Hid _:=fault_set HF.out (.int .i64 E) (.int .i64 (A:Int))
 have HB9:Hid (Below w.heap.size w ((X1.setCell ⟨w.heap.size,0,none⟩ (.int .i64 E)).setCell ⟨w.heap.size,1,none⟩ (.int .i64 (A:Int)))):=(HBW.out.setCell (p:=⟨w.heap.size,0,none⟩) (Nat.le_refl _) _).setCell (p:=⟨w.heap.size,1,none⟩) (Nat.le_refl _) _
 clear hb hb01 hf g0 HAL
 unfold fltV
 go_upto_region 2 with fail
 rw[←hX1]
 clear hX1
 go_upto_region 3 with fail
 go_region
 all_goals (go_wp2)
 all_goals (first | (exact ⟨rfl,_,results_tmp_cell rfl _ _ w.heap.size 35 #[.int .i64 E,.int .i64 (A:Int)] (0,0) _ _ rfl rfl HQ9.out Tryz.underlying35 rfl f_info,rfl,HB9.out⟩) | (exact ⟨rfl,_,results_tmp_cell rfl _ _ w.heap.size 35 #[.int .i64 E,.int .i64 (A:Int)] (0,0) _ _ rfl rfl HQ9.out Tryz.underlying35 rfl f_info,rfl,HB9.out.drew⟩) | refine Hid.out ?_)
set_option maxRecDepth 100000 in
set_option maxHeartbeats 4000000 in
theorem rprint17_none (v:Value) (n:Nat) (l:Nat→Sp) (w:World) (hv:ChAt w v n l) (hE:chE n l=0) (hn:n=0):Calls Tryz.prog 16 #[v] w fun e w'=>e=.returned (.tuple #[.string ⟨(prT n l).toArray⟩,fltV (prE n l) (if prE n l=0 then 0 else prA n l:Nat)])∧Below w.heap.size w w':=by
 obtain ⟨W1,hW1⟩:∃W1,W1=w.alloc (.cells #[.int .i64 0,.int .i64 0] 35):=⟨_,rfl⟩
 have hb1:Below w.heap.size w W1:=by rw[hW1];exact (Below.refl _ w).alloc (Nat.le_refl _) _
 have q1:RowAt W1 w.heap.size 35 #[.int .i64 0,.int .i64 0]:=by rw[hW1];exact RowAt.new w _ _
 have HQ1:Hid (RowAt W1 w.heap.size 35 #[.int .i64 0,.int .i64 0]):=q1
 have HB1:Hid (Below w.heap.size w W1):=hb1
 have HAL:Hid _:=rall17_any v n l W1 (hv.below hb1)
 rw[hE,chA_zero17 hE] at HAL
 have hR:prE n l=5∧prA n l=0∧prT n l=[]:=by
  have h1:prE n l=5:=by unfold prE;rw[if_neg (fun h=>h hE),if_pos hn]
  exact ⟨h1,by unfold prA;rw[if_neg (fun h=>h hE),if_pos hn],by unfold prT;rw[if_neg (by rw[h1];decide)]⟩
 rw[hR.1,hR.2.1,hR.2.2,if_neg (by decide)]
 obtain ⟨va,vc,_,rfl,-⟩:=id hv
 subst hn
 clear hR hE hv q1 hb1
 go_enter Tryz.func16,Tryz.ntmps16
 go_upto_region 1 with fail
 rw[←hW1]
 clear hW1
 go_wp2_with fail
 refine Calls.mono HAL.out ?_
 rintro e V1 ⟨rfl,hb⟩
 have hb01:=HB1.out.trans (hb.mono HB1.out.size)
 have hf:=RowAt.below HQ1.out hb (RowAt.lt HQ1.out)
 obtain ⟨X1,hX1⟩:∃X1,X1=V1.alloc (.cells #[.int .i64 0,.int .i64 0] 35):=⟨_,rfl⟩
 have HBW:Hid (Below w.heap.size w X1):=by rw[Hid,hX1];exact hb01.alloc hb01.size _
 have HF:Hid (RowAt X1 w.heap.size 35 #[.int .i64 0,.int .i64 0]):=by rw[Hid,hX1];exact RowAt.alloc hf _
 have g0:RowAt X1 V1.heap.size 35 #[.int .i64 0,.int .i64 0]:=by rw[hX1];exact RowAt.new V1 _ _
 have k0:=RowAt.cell g0 (i:=0) rfl
 have k1:=RowAt.cell g0 (i:=1) rfl
 have h0:=RowAt.cell HF.out (i:=0) rfl
 have h1:=RowAt.cell HF.out (i:=1) rfl
 have h2:=RowAt.frozen HF.out 0
 have h3:=RowAt.frozen HF.out 1
 have HQ9:Hid _:=fault_set HF.out (.int .i64 5) (.int .i64 0)
 have HB9:Hid (Below w.heap.size w ((X1.setCell ⟨w.heap.size,0,none⟩ (.int .i64 5)).setCell ⟨w.heap.size,1,none⟩ (.int .i64 0))):=(HBW.out.setCell (p:=⟨w.heap.size,0,none⟩) (Nat.le_refl _) _).setCell (p:=⟨w.heap.size,1,none⟩) (Nat.le_refl _) _
 clear hb hb01 hf g0 HAL
 unfold fltV
 go_upto_region 2 with fail
 rw[←hX1]
 clear hX1
 go_wp2_with (first | refine wpList_bA rfl 35 [(0,_)] rfl [(0,.int .i64 5)] rfl _ (f_built1 5) ?_)
 exact ⟨rfl,_,results_tmp_cell rfl _ _ w.heap.size 35 #[.int .i64 5,.int .i64 0] (0,0) _ _ rfl rfl HQ9.out Tryz.underlying35 rfl f_info,rfl,HB9.out⟩
end Go.Proofs.YtkohhdkkbaifoaaGreatDoor
