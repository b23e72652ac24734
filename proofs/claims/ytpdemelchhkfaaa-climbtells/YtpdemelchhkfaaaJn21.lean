/-
  Several texts, joined: OStH, ClH, EaA, EaB, EaC.
-/
import Derived.Test.YtpdemelchhkfaaaJn15
import Derived.OrdersHeld
import Derived.Deep.Upon
import Derived.Deep.RegionHeld
import Derived.Deep.WholeRow
import Derived.Test.YtpdemelchhkfaaaPz
import Derived.Test.YtpdemelchhkfaaaClL
import Derived.Test.YtpdemelchhkfaaaJn14
import Derived.Test.YtpdemelchhkfaaaJn13
import Derived.Test.YtpdemelchhkfaaaCzC
import Derived.Deep.MidRow
import Derived.Conc.AppendEvents3
import Derived.KernelRfl
import Derived.Test.YtpdemelchhkfaaaJn16
/-
  A store of a whole block in a region whose orders are held: one step.
-/
namespace Go.Proofs.Ytpdemelchhkfaaa
open Go.RowKit PK

section
variable {P:Program} {md:Region.Mode} {ops:Array Oper} {Q:Exit→Act→World→Prop} {S:World→Prop}
theorem storeH {fuel:Nat} {listed:Array Bool} {a:Act} {w:World} (i:Nat) (o:Oper) (hr:Region.ready md ops listed=[i]) (ho:ops[i]? = some o) (hw:Region.wanted o (yielded ops a.tmps)=true)
  (ty:TypeId) (x y:Operand) (hop:o.op=.store ty x y) (g:Nat) (cells:Array Value) (hx:a.eval x=.pointer (some ⟨g,0,none⟩)) (hy:a.eval y=.agg cells) (t:TypeId) (old:Array Value) (hg:RowAt w g t old)
  (hi:(P.info? ty).map (·.size)=some cells.size) (hs:old.size=cells.size) (h1:cells.all (·.oneCell')=true) (hdst:o.dst=none)
  (hS:S (w.setRow g cells)) (h:S (w.setRow g cells)→wpAnyH P md ops Q S fuel (listed.setIfInBounds i true) a (w.setRow g cells)):wpAnyH P md ops Q S (fuel+1) listed a w:=by
 refine wpAnyH_ready hr (by simp) (AllReadyH.cons ho (fun K hK=>?_) AllReadyH.nil)
 rw[if_pos hw]
 refine wp_store_row ty x y hop g cells hx hy t old hg hi hs h1 ?_
 have hp:a.put o.dst undef=a:=by rw[hdst];rfl
 rw[hp]
 exact hK.out _ _ hS h
end
end Go.Proofs.Ytpdemelchhkfaaa

/-
  Contract of a try (chapter 15): the closure that all hands call.
-/
namespace Go.Proofs.Ytpdemelchhkfaaa
open Go.RowKit PK

def clF (f:Nat→Int) (z:Int) (t:Nat):Nat→Int:=fun i=>if i<26 then f i else if i=26 then z else (t:Nat)
theorem zero28:(#[.int .i64 0,.int .i64 0,.int .i64 0,.int .i64 0,.int .i64 0,.int .i64 0,.int .i64 0,.int .i64 0,.int .i64 0,.int .i64 0,.int .i64 0,.int .i64 0,.int .i64 0,.int .i64 0,.int .i64 0,.int .i64 0,.int .i64 0,.int .i64 0,.int .i64 0,.int .i64 0,.int .i64 0,.int .i64 0,.int .i64 0,.int .i64 0,.int .i64 0,.int .i64 0,.int .i64 0,.int .i64 0]:Array Value)=ints 28 fun _=>0:=rfl
theorem built_climbed (f:Nat→Int) (z:Int) (t:Nat):Try.prog.built 43 [(0,.agg (ints 26 f)),(1,.int .i64 z),(2,.int .i64 (t:Nat))]=some (ints 28 (clF f z t)):=by kernel_rfl
theorem j_size_climbed:(Try.prog.info? 43).map (·.size)=some 28:=by kernel_rfl
set_option maxRecDepth 100000 in
set_option maxHeartbeats 8000000 in
theorem jtry_any (pa:Option Addr) (n pc:Nat) (ta:Option Addr) (tn tc:Nat) (F:(Nat→Nat)→Int) (bs bd:Nat) (seed t:Nat) (ht:t≤16) (w:World) (hsc:ScOk w pa n pc ta tn tc F) (hbs:w.rangeAt bs 0 [.slice pa n pc,.slice ta tn tc]) (hbd:w.cell? ⟨bd,0,none⟩=some (.int .u64 (seed:Nat))) :
  Calls Try.prog 36 #[.int .i64 (t:Nat),.pointer (some ⟨bs,0,none⟩),.pointer (some ⟨bd,0,none⟩)] w fun e w'=>∃k,Jm.Ups F (Jm.bgK ((seed+t) % 18446744073709551616) 25) k∧e=.returned (.agg (ints 28 (clF (Pm.up k) (F k) t)))∧Below w.heap.size w w':=by
 obtain ⟨s,hss⟩:∃s,s=(seed+t) % 18446744073709551616:=⟨_,rfl⟩
 have HU0:=(show Hid (IntKind.u64.wrap ((seed:Int)+(t:Int))=(s:Int)) from by
  show IntKind.u64.wrap ((seed:Int)+(t:Int))=(s:Int)
  rw[IntKind.wrap_u64]
  omega)
 have HSL:=(show Hid (s<18446744073709551616) from (by show s<18446744073709551616;omega))
 rw[←hss]
 clear hss
 have HSC:=(show Hid _ from hsc)
 have HBS:=(show Hid (w.rangeAt bs 0 [.slice pa n pc,.slice ta tn tc]) from hbs)
 have HBD:=(show Hid (w.cell? ⟨bd,0,none⟩=some (.int .u64 (seed:Nat))) from hbd)
 clear hsc hbs hbd
 have hr:=RowAt.new w 43 (ints 28 fun _=>0)
 have hb:Below w.heap.size w (w.alloc (.cells (ints 28 fun _=>0) 43)):=(Below.refl _ w).alloc (Nat.le_refl _) _
 go_enter Try.func36,Try.ntmps36
 go_upto_region 1 with fail
 rw[zero28]
 obtain ⟨V0,hV0⟩:∃V,V=w.alloc (.cells (ints 28 fun _=>0) 43):=⟨_,rfl⟩
 rw[←hV0] at hr hb ⊢
 clear hV0
 refine wp_region_noPanic ?_
 refine wp_region_held_drew (S:=fun W=>RowAt W w.heap.size 43 (ints 28 fun _=>0)∧Below w.heap.size w W) (by kernel_rfl) ⟨hr,hb.drew⟩ (fun hS=>?_)
 obtain ⟨Z,hZ⟩:∃x,x=V0.drew:=⟨_,rfl⟩
 rw[←hZ] at hS ⊢
 clear hZ hr hb
 refine vtk 0 8 (.agg #[.slice pa n pc,.slice ta tn tc]) rfl (fun W hW=>by have u:=run_loadAt_mid (P:=Try.prog) W bs 0 66 [.slice pa n pc,.slice ta tn tc] _ (Below.rangeAt hW.2 HBS.out (cell_block (HBS.out 0 _ rfl))) Try.underlying66 rfl j_size_sheet;clear hS hW;simp[execOp,Act.eval,u]) hS ?_
 simp only[zsA,zsB,zsC]
 refine vtk 1 9 (.int .u64 (seed:Nat)) rfl (fun W hW=>by have u:=(hW.2.cell (p:=⟨bd,0,none⟩) (cell_block HBD.out)).trans HBD.out;clear hS hW;go_simp) hS ?_
 simp only[zsA,zsB,zsC]
 refine vtk 2 10 (.int .i64 (t:Nat)) rfl (fun W hW=>by clear hS hW;go_simp) hS ?_
 simp only[zsA,zsB,zsC]
 refine vtk 3 11 (.int .u64 (t:Nat)) rfl (fun W hW=>by have u1:IntKind.u64.wrap ((t:Nat):Int)=(t:Int):=(by rw[IntKind.wrap_u64];omega);clear hS hW;go_simp) hS ?_
 simp only[zsA,zsB,zsC]
 refine vtk 4 12 (.int .u64 (s:Nat)) rfl (fun W hW=>by have u1:=HU0.out;clear hS hW;simp[execOp,Act.eval,go_sem,u1]) hS ?_
 simp only[zsA,zsB,zsC]
 refine wpAnyH_ready (rs:=[5,10]) (by kernel_rfl) (by simp) ?_
 refine AllReadyH.cons (o:=_) rfl (fun K hK=>?_) (AllReadyH.cons (o:=_) rfl (fun K hK=>?_) AllReadyH.nil)
 ·rw[if_pos (by rfl)]
  go_simp
  refine Calls.mono (jbegin_any s HSL.out _) ?_
  rintro e Y ⟨rfl,hbY⟩
  refine hK.out _ _ ⟨RowAt.below hS.1 hbY (RowAt.lt hS.1),hS.2.trans (hbY.mono hS.2.size)⟩ (fun hS1=>?_)
  clear hbY
  clear hK hS K
  have hS:=hS1
  clear hS1
  refine wpAnyH_ready (rs:=[6,10]) (by kernel_rfl) (by simp) ?_
  refine AllReadyH.cons (o:=_) rfl (fun K hK=>?_) (AllReadyH.cons (o:=_) rfl (fun K hK=>?_) AllReadyH.nil)
  ·rw[if_pos (by rfl)]
   go_simp
   refine Calls.mono (jtop_any pa n pc ta tn tc F (Jm.bgK s 25) (Jm.bgK_lt s 25 (Nat.le_refl _)) _ (HSC.out.below hS.2)) ?_
   rintro e Y2 ⟨k,hups,rfl,hbY⟩
   have HUPS:=(show Hid _ from hups)
   refine hK.out _ _ ⟨RowAt.below hS.1 hbY (RowAt.lt hS.1),hS.2.trans (hbY.mono hS.2.size)⟩ (fun hS1=>?_)
   clear hbY hups
   clear hK hS K
   have hS:=hS1
   clear hS1
   refine vtk 7 7 (.tuple #[.agg (ints 26 (Pm.up k)),.int .i64 (F k)]) rfl (fun W hW=>by clear hS hW;go_simp) hS ?_
   simp only[zsA,zsB,zsC]
   refine vtk 8 15 (.agg (ints 26 (Pm.up k))) rfl (fun W hW=>by clear hS hW;go_simp) hS ?_
   simp only[zsA,zsB,zsC]
   refine vtk 9 16 (.int .i64 (F k)) rfl (fun W hW=>by clear hS hW;go_simp) hS ?_
   simp only[zsA,zsB,zsC]
   refine rd1 10 rfl (fun K hK=>?_)
   go_simp
   try rw[zero26]
   have hq:=RowAt.new Y2 38 (ints 26 fun _=>0)
   have hql:=hS.2.size
   have hqn:w.heap.size<Y2.heap.size:=RowAt.lt hS.1
   refine hK.out _ _ ⟨RowAt.alloc hS.1 _,hS.2.alloc hS.2.size _⟩ (fun hS1=>?_)
   clear hK hS K
   have hS:=hS1
   clear hS1
   obtain ⟨q,hqq⟩:∃x,x=Y2.heap.size:=⟨_,rfl⟩
   rw[←hqq] at hq hql hqn ⊢
   obtain ⟨V,hVV⟩:∃x,x=Y2.alloc (.cells (ints 26 fun _=>0) 38):=⟨_,rfl⟩
   rw[←hVV] at hq hS ⊢
   clear hqq hVV
   refine storeH 11 _ (by kernel_rfl) rfl (by kernel_rfl) 38 (Operand.tmp 5) (Operand.tmp 15) rfl q (ints 26 (Pm.up k)) rfl rfl 38 _ hq (by rw[ints_size];exact info_perm) (by simp only[ints_size]) (ints_one _ _) rfl ⟨RowAt.rowOther hS.1 _ _ (by omega),Below.setRow hS.2 q hql _⟩ (fun hS1=>?_)
   have hq2:=hq.row (ints 26 (Pm.up k))
   clear hS hq
   have hS:=hS1
   clear hS1
   obtain ⟨z,hz⟩:∃z,z=F k:=⟨_,rfl⟩
   have HZ:=(show Hid (z=F k) from hz)
   rw[←hz]
   clear hz
   refine vtk 12 6 (.int .i64 z) rfl (fun W hW=>by clear hS hW;go_simp) hS ?_
   simp only[zsA,zsB,zsC]
   refine wpAnyH_done (by kernel_rfl) ?_ _
   refine NoPanic.normal ?_
   have hr0:=hS.1
   have HB:=(show Hid _ from hS.2)
   clear hS
   go_wp2_with (first | refine wpList_load_row rfl 38 _ rfl (q) rfl 38 (ints 26 (Pm.up k)) (0,0) _ hq2 Try.underlying38 rfl (by rw[ints_size];exact info_perm) ?_ | refine wpList_buildA rfl 43 [(0,.tmp 17),(1,.tmp 18),(2,.tmp 19)] rfl [(0,.agg (ints 26 (Pm.up k))),(1,.int .i64 z),(2,.int .i64 (t:Nat))] rfl _ (built_climbed (Pm.up k) z t) ?_ | refine wpList_store_row rfl 43 _ _ rfl w.heap.size (ints 28 (clF (Pm.up k) z t)) rfl rfl 43 _ hr0 (by rw[ints_size];exact j_size_climbed) (by simp only[ints_size]) (ints_one _ _) ?_)
   exact bodyPost_ret (v:=.agg (ints 28 (clF (Pm.up k) z t))) (results_cell_row rfl _ _ w.heap.size 43 _ (0,0) _ rfl (RowAt.row hr0 _) Try.underlying43 rfl (by rw[ints_size];exact j_size_climbed)) rfl ⟨k,HUPS.out,by rw[HZ.out],Below.setRow HB.out _ (Nat.le_refl _) _⟩
  ·rw[if_pos (by rfl)]
   go_simp
   try rw[zero26]
   have hq:=RowAt.new Y 38 (ints 26 fun _=>0)
   have hql:=hS.2.size
   have hqn:w.heap.size<Y.heap.size:=RowAt.lt hS.1
   refine hK.out _ _ ⟨RowAt.alloc hS.1 _,hS.2.alloc hS.2.size _⟩ (fun hS1=>?_)
   clear hK hS K
   have hS:=hS1
   clear hS1
   obtain ⟨q,hqq⟩:∃x,x=Y.heap.size:=⟨_,rfl⟩
   rw[←hqq] at hq hql hqn ⊢
   obtain ⟨V,hVV⟩:∃x,x=Y.alloc (.cells (ints 26 fun _=>0) 38):=⟨_,rfl⟩
   rw[←hVV] at hq hS ⊢
   clear hqq hVV
   refine rd1 6 rfl (fun K hK=>?_)
   go_simp
   refine Calls.mono (jtop_any pa n pc ta tn tc F (Jm.bgK s 25) (Jm.bgK_lt s 25 (Nat.le_refl _)) _ (HSC.out.below hS.2)) ?_
   rintro e Y2 ⟨k,hups,rfl,hbY⟩
   have HUPS:=(show Hid _ from hups)
   refine hK.out _ _ ⟨RowAt.below hS.1 hbY (RowAt.lt hS.1),hS.2.trans (hbY.mono hS.2.size)⟩ (fun hS1=>?_)
   have hq1:=RowAt.below hq hbY (RowAt.lt hq)
   clear hq
   have hq:=hq1
   clear hq1
   clear hbY hups
   clear hK hS K
   have hS:=hS1
   clear hS1
   refine vtk 7 7 (.tuple #[.agg (ints 26 (Pm.up k)),.int .i64 (F k)]) rfl (fun W hW=>by clear hS hW;go_simp) hS ?_
   simp only[zsA,zsB,zsC]
   refine vtk 8 15 (.agg (ints 26 (Pm.up k))) rfl (fun W hW=>by clear hS hW;go_simp) hS ?_
   simp only[zsA,zsB,zsC]
   refine vtk 9 16 (.int .i64 (F k)) rfl (fun W hW=>by clear hS hW;go_simp) hS ?_
   simp only[zsA,zsB,zsC]
   refine storeH 11 _ (by kernel_rfl) rfl (by kernel_rfl) 38 (Operand.tmp 5) (Operand.tmp 15) rfl q (ints 26 (Pm.up k)) rfl rfl 38 _ hq (by rw[ints_size];exact info_perm) (by simp only[ints_size]) (ints_one _ _) rfl ⟨RowAt.rowOther hS.1 _ _ (by omega),Below.setRow hS.2 q hql _⟩ (fun hS1=>?_)
   have hq2:=hq.row (ints 26 (Pm.up k))
   clear hS hq
   have hS:=hS1
   clear hS1
   obtain ⟨z,hz⟩:∃z,z=F k:=⟨_,rfl⟩
   have HZ:=(show Hid (z=F k) from hz)
   rw[←hz]
   clear hz
   refine vtk 12 6 (.int .i64 z) rfl (fun W hW=>by clear hS hW;go_simp) hS ?_
   simp only[zsA,zsB,zsC]
   refine wpAnyH_done (by kernel_rfl) ?_ _
   refine NoPanic.normal ?_
   have hr0:=hS.1
   have HB:=(show Hid _ from hS.2)
   clear hS
   go_wp2_with (first | refine wpList_load_row rfl 38 _ rfl (q) rfl 38 (ints 26 (Pm.up k)) (0,0) _ hq2 Try.underlying38 rfl (by rw[ints_size];exact info_perm) ?_ | refine wpList_buildA rfl 43 [(0,.tmp 17),(1,.tmp 18),(2,.tmp 19)] rfl [(0,.agg (ints 26 (Pm.up k))),(1,.int .i64 z),(2,.int .i64 (t:Nat))] rfl _ (built_climbed (Pm.up k) z t) ?_ | refine wpList_store_row rfl 43 _ _ rfl w.heap.size (ints 28 (clF (Pm.up k) z t)) rfl rfl 43 _ hr0 (by rw[ints_size];exact j_size_climbed) (by simp only[ints_size]) (ints_one _ _) ?_)
   exact bodyPost_ret (v:=.agg (ints 28 (clF (Pm.up k) z t))) (results_cell_row rfl _ _ w.heap.size 43 _ (0,0) _ rfl (RowAt.row hr0 _) Try.underlying43 rfl (by rw[ints_size];exact j_size_climbed)) rfl ⟨k,HUPS.out,by rw[HZ.out],Below.setRow HB.out _ (Nat.le_refl _) _⟩
 ·rw[if_pos (by rfl)]
  go_simp
  try rw[zero26]
  have hq:=RowAt.new Z 38 (ints 26 fun _=>0)
  have hql:=hS.2.size
  have hqn:w.heap.size<Z.heap.size:=RowAt.lt hS.1
  refine hK.out _ _ ⟨RowAt.alloc hS.1 _,hS.2.alloc hS.2.size _⟩ (fun hS1=>?_)
  clear hK hS K
  have hS:=hS1
  clear hS1
  obtain ⟨q,hqq⟩:∃x,x=Z.heap.size:=⟨_,rfl⟩
  rw[←hqq] at hq hql hqn ⊢
  obtain ⟨V,hVV⟩:∃x,x=Z.alloc (.cells (ints 26 fun _=>0) 38):=⟨_,rfl⟩
  rw[←hVV] at hq hS ⊢
  clear hqq hVV
  refine rd1 5 rfl (fun K hK=>?_)
  go_simp
  refine Calls.mono (jbegin_any s HSL.out _) ?_
  rintro e Y ⟨rfl,hbY⟩
  refine hK.out _ _ ⟨RowAt.below hS.1 hbY (RowAt.lt hS.1),hS.2.trans (hbY.mono hS.2.size)⟩ (fun hS1=>?_)
  have hq1:=RowAt.below hq hbY (RowAt.lt hq)
  clear hq
  have hq:=hq1
  clear hq1
  clear hbY
  clear hK hS K
  have hS:=hS1
  clear hS1
  refine rd1 6 rfl (fun K hK=>?_)
  go_simp
  refine Calls.mono (jtop_any pa n pc ta tn tc F (Jm.bgK s 25) (Jm.bgK_lt s 25 (Nat.le_refl _)) _ (HSC.out.below hS.2)) ?_
  rintro e Y2 ⟨k,hups,rfl,hbY⟩
  have HUPS:=(show Hid _ from hups)
  refine hK.out _ _ ⟨RowAt.below hS.1 hbY (RowAt.lt hS.1),hS.2.trans (hbY.mono hS.2.size)⟩ (fun hS1=>?_)
  have hq1:=RowAt.below hq hbY (RowAt.lt hq)
  clear hq
  have hq:=hq1
  clear hq1
  clear hbY hups
  clear hK hS K
  have hS:=hS1
  clear hS1
  refine vtk 7 7 (.tuple #[.agg (ints 26 (Pm.up k)),.int .i64 (F k)]) rfl (fun W hW=>by clear hS hW;go_simp) hS ?_
  simp only[zsA,zsB,zsC]
  refine vtk 8 15 (.agg (ints 26 (Pm.up k))) rfl (fun W hW=>by clear hS hW;go_simp) hS ?_
  simp only[zsA,zsB,zsC]
  refine vtk 9 16 (.int .i64 (F k)) rfl (fun W hW=>by clear hS hW;go_simp) hS ?_
  simp only[zsA,zsB,zsC]
  refine storeH 11 _ (by kernel_rfl) rfl (by kernel_rfl) 38 (Operand.tmp 5) (Operand.tmp 15) rfl q (ints 26 (Pm.up k)) rfl rfl 38 _ hq (by rw[ints_size];exact info_perm) (by simp only[ints_size]) (ints_one _ _) rfl ⟨RowAt.rowOther hS.1 _ _ (by omega),Below.setRow hS.2 q hql _⟩ (fun hS1=>?_)
  have hq2:=hq.row (ints 26 (Pm.up k))
  clear hS hq
  have hS:=hS1
  clear hS1
  obtain ⟨z,hz⟩:∃z,z=F k:=⟨_,rfl⟩
  have HZ:=(show Hid (z=F k) from hz)
  rw[←hz]
  clear hz
  refine vtk 12 6 (.int .i64 z) rfl (fun W hW=>by clear hS hW;go_simp) hS ?_
  simp only[zsA,zsB,zsC]
  refine wpAnyH_done (by kernel_rfl) ?_ _
  refine NoPanic.normal ?_
  have hr0:=hS.1
  have HB:=(show Hid _ from hS.2)
  clear hS
  go_wp2_with (first | refine wpList_load_row rfl 38 _ rfl (q) rfl 38 (ints 26 (Pm.up k)) (0,0) _ hq2 Try.underlying38 rfl (by rw[ints_size];exact info_perm) ?_ | refine wpList_buildA rfl 43 [(0,.tmp 17),(1,.tmp 18),(2,.tmp 19)] rfl [(0,.agg (ints 26 (Pm.up k))),(1,.int .i64 z),(2,.int .i64 (t:Nat))] rfl _ (built_climbed (Pm.up k) z t) ?_ | refine wpList_store_row rfl 43 _ _ rfl w.heap.size (ints 28 (clF (Pm.up k) z t)) rfl rfl 43 _ hr0 (by rw[ints_size];exact j_size_climbed) (by simp only[ints_size]) (ints_one _ _) ?_)
  exact bodyPost_ret (v:=.agg (ints 28 (clF (Pm.up k) z t))) (results_cell_row rfl _ _ w.heap.size 43 _ (0,0) _ rfl (RowAt.row hr0 _) Try.underlying43 rfl (by rw[ints_size];exact j_size_climbed)) rfl ⟨k,HUPS.out,by rw[HZ.out],Below.setRow HB.out _ (Nat.le_refl _) _⟩
end Go.Proofs.Ytpdemelchhkfaaa

/-
  climb.Climb in company: which functions are called there by name of the list; copies into a lone world that has blocks of its own already.
-/
namespace Go.Proofs.Ytpdemelchhkfaaa.Cs
open Go.Conc Go.RowKit
def tfList:List FuncId:=[28,29,30,31,32,33,34,36,37,38,39,40,41,51,52,55,56,57,58,78,11,12,14,15]
noncomputable instance tfFns:Fns where
 ok:=fun f=>tfList.contains f
 G:=Try.prog.globals.size
noncomputable def tfBad:List FuncId:=tfList.filter fun f=>match Try.prog.funcs[f]? with
 | some fn => (match fn.body with | some b => !(codeOk Try.prog b) | none => true) || (fn.name == "runtime.NumGoroutine")
 | none=>true
theorem tf_code:tfBad=[]:=by kernel_rfl
theorem tf_fnsCode:FnsCode Try.prog:=fun f hf=>by
 have hm:f ∈ tfList:=List.contains_iff_mem.1 hf
 have hb:f ∉ tfBad:=by rw[tf_code];simp
 unfold tfBad at hb
 rw[List.mem_filter] at hb
 have hb':=fun e=>hb ⟨hm,e⟩
 cases h1:Try.prog.funcs[f]? with
 | none=>exact absurd (by simp only[h1]) hb'
 | some fn =>
  cases h2:fn.body with
  | none=>exact absurd (by simp only[h1,h2,Bool.true_or]) hb'
  | some b =>
   cases h3:codeOk Try.prog b with
   | false=>exact absurd (by simp only[h1,h2,h3,Bool.not_false,Bool.true_or]) hb'
   | true =>
    cases h4 : (fn.name == "runtime.NumGoroutine") with
    | true=>exact absurd (by simp only[h1,h2,h3,h4,Bool.or_true]) hb'
    | false=>exact ⟨fn,b,rfl,h2,h3,h4⟩
theorem no_type:Try.prog.info? 1000000000=none:=by kernel_rfl
theorem wr_move {P:Program} [Fns] {E:Env} {wl w w2:World} (h:WR P E wl w) (hw:∀b x,E b=some x→w2.heap[x.1]? = w.heap[x.1]?):WR P E wl w2:=by
 refine ⟨fun b q s e=>?_,fun b q s e=>?_,h.inj,h.low⟩
 ·obtain ⟨h1,ol,o,h2,h3,h4⟩:=h.own b q s e
  exact ⟨h1,ol,o,h2,(hw b _ e).trans h3,h4⟩
 ·obtain ⟨x,T,y,T',fr,h1,h2,h3,h4⟩:=h.shared b q s e
  exact ⟨x,T,y,T',fr,h1,h2,(hw b _ e).trans h3,h4⟩
def Rt (w:World) (v:Value):Prop:=∀a l c,v=.slice (some a) l c→0<c→a.spot=none∧∃y T fr,w.heap[a.block]? = some (.cells y T fr)
theorem cell_someT {w:World} {a:Addr} {v:Value} (h:w.cell? a=some v):∃y T fr,w.heap[a.block]? = some (.cells y T fr):=by
 unfold World.cell? at h
 split at h
 ·rename_i e
  exact ⟨_,_,_,e⟩
 ·cases h
section
variable [Fns]
structure Cq (P:Program) (E:Env) (wl w:World):Prop where
 wr:WR P E wl w
 big:Fns.G≤wl.heap.size
 top:∀b,wl.heap.size≤b→E b=none
theorem Cp.cq {P:Program} {E:Env} {wl w:World} (h:Cp P E wl w):Cq P E wl w:=⟨h.wr,h.big,h.top⟩
variable {P:Program} {w:World}
theorem Cq.of {E:Env} {wl:World} (h:WR P E wl w) (hb:Fns.G≤wl.heap.size):Cq P E wl w:=⟨h,hb,fun b hb=>by
 cases e:E b with
 | none=>rfl
 | some x=>exact absurd (h.lt e).1 (by omega)⟩
theorem Cq.row {E:Env} {wl:World} (h:Cq P E wl w) {TJ:TypeId} (hJ:P.info? TJ=none) {q s:Nat} {y:Array Value} {T':TypeId} {fr:Nat × Nat} (hq:w.heap[q]? = some (.cells y T' fr)) (hno:∀b s',E b≠some (q,s',true)) (x:Array Value) (hx:∀(i:Nat) u,x[i]? = some u→∃v,y[i+s]? = some v∧VR E u v) :
  ∃E',Cq P E' (wl.alloc (.cells x TJ (0,x.size))) w∧CpLe E E' wl (wl.alloc (.cells x TJ (0,x.size)))∧(∀o,AR E' ⟨wl.heap.size,o,none⟩ ⟨q,o+s,none⟩)∧(∀i u,x[i]? = some u→(wl.alloc (.cells x TJ (0,x.size))).cell? ⟨wl.heap.size,i,none⟩=some u)∧∀b q' s' o,E' b=some (q',s',o)→(b=wl.heap.size∧q'=q∧s'=s∧o=false)∨E b=some (q',s',o):=by
 let E':Env:=fun b=>if b=wl.heap.size then some (q,s,false) else E b
 have hn:E wl.heap.size=none:=h.top _ (Nat.le_refl _)
 have hle:E.le E':=fun b x e=>by
  show (if b=wl.heap.size then some (q,s,false) else E b)=some x
  rw[if_neg (fun e'=>by rw[e',hn] at e;cases e)]
  exact e
 have hsz:(wl.alloc (.cells x TJ (0,x.size))).heap.size=wl.heap.size+1:=by simp
 have hold:∀b,b<wl.heap.size→(wl.alloc (.cells x TJ (0,x.size))).heap[b]? = wl.heap[b]?:=fun b hb=>Below.heap_alloc wl _ b hb
 have hnew:(wl.alloc (.cells x TJ (0,x.size))).heap[wl.heap.size]? = some (.cells x TJ (0,x.size)):=heap_alloc_new wl _
 have hE:∀b q' s' o,E' b=some (q',s',o)→(b=wl.heap.size∧q'=q∧s'=s∧o=false)∨E b=some (q',s',o):=fun b q' s' o e=>by
  have e':(if b=wl.heap.size then some (q,s,false) else E b)=some (q',s',o):=e
  by_cases hb:b=wl.heap.size
  ·rw[if_pos hb] at e'
   cases e'
   exact .inl ⟨hb,rfl,rfl,rfl⟩
  ·rw[if_neg hb] at e'
   exact .inr e'
 refine ⟨E',⟨⟨fun b c s' e=>?_,fun b c s' e=>?_,fun b b' c s' s'' o e e2=>?_,fun b x' e=>?_⟩,by rw[hsz];exact Nat.le_succ_of_le h.big,fun b hb=>?_⟩,⟨hle,by rw[hsz];exact Nat.le_succ _,hold,rfl,rfl,rfl⟩,fun o=>⟨s,false,by show (if wl.heap.size=wl.heap.size then _ else _)=_;rw[if_pos rfl],rfl,rfl,h.big,fun e=>by cases e⟩,fun i u hu=>?_,hE⟩
 ·rcases hE b c s' true e with ⟨_,_,_,e'⟩ | e'
  ·cases e'
  ·obtain ⟨k1,ol,o,k2,k3,k4⟩:=h.wr.own b c s' e'
   exact ⟨k1,ol,o,(hold b (h.wr.lt e').1).trans k2,k3,k4.mono hle⟩
 ·rcases hE b c s' false e with ⟨rfl,rfl,rfl,_⟩ | e'
  ·exact ⟨x,TJ,y,T',fr,hnew,hJ,hq,fun i u hu=>by
    obtain ⟨v,h1,h2⟩:=hx i u hu
    exact ⟨v,h1,h2.mono hle⟩⟩
  ·obtain ⟨x',T,y',T2,fr',h1,h2,h3,h4⟩:=h.wr.shared b c s' e'
   exact ⟨x',T,y',T2,fr',(hold b (h.wr.lt e').1).trans h1,h2,h3,fun i u hu=>by
    obtain ⟨v,k1,k2⟩:=h4 i u hu
    exact ⟨v,k1,k2.mono hle⟩⟩
 ·rcases hE b c s' true e with ⟨_,_,_,e'⟩ | e'
  ·cases e'
  ·rcases hE b' c s'' o e2 with ⟨_,rfl,_,_⟩ | e2'
   ·exact absurd e' (hno b s')
   ·exact h.wr.inj b b' c s' s'' o e' e2'
 ·obtain ⟨q',s',o⟩:=x'
  rcases hE b q' s' o e with ⟨rfl,_⟩ | e'
  ·exact h.big
  ·exact h.wr.low b _ e'
 ·rw[hsz] at hb
  show (if b=wl.heap.size then some (q,s,false) else E b)=none
  rw[if_neg (by omega)]
  exact h.top b (by omega)
 ·rw[cell_of_row _ _ _ _ _ _ hnew]
  exact hu
theorem cq_slice {E:Env} {wl:World} (h:Cq P E wl w) (hsh:∀b q s,E b≠some (q,s,true)) {TJ:TypeId} (hJ:P.info? TJ=none) {a:Option Addr} {n cap:Nat} {f:Nat→Value} (hf:∀i E',VR E' (f i) (f i)) (hc:∀c,c<n→∃b o,a=some ⟨b,o,none⟩∧w.cell? ⟨b,o+c,none⟩=some (f c)) (hr:Rt w (.slice a n cap)) :
  ∃E' wl' a',Cq P E' wl' w∧(∀b q s,E' b≠some (q,s,true))∧(∀b q s o,E' b=some (q,s,o)→E b=some (q,s,o)∨q<w.heap.size)∧CpLe E E' wl wl'∧VR E' (.slice a' n cap) (.slice a n cap)∧∀c,c<n→∃b o,a'=some ⟨b,o,none⟩∧wl'.cell? ⟨b,o+c,none⟩=some (f c):=by
 cases a with
 | none =>
  refine ⟨E,wl,none,h,hsh,fun _ _ _ _ e=>.inl e,CpLe.refl _ _,.sliceNil n cap,fun c hc'=>?_⟩
  obtain ⟨b,o,e,_⟩:=hc c hc'
  cases e
 | some ad =>
  by_cases hz:n=0∧cap=0
  ·obtain ⟨rfl,rfl⟩:=hz
   exact ⟨E,wl,some ad,h,hsh,fun _ _ _ _ e=>.inl e,CpLe.refl _ _,.sliceNo ad ad,fun c hc'=>absurd hc' (Nat.not_lt_zero _)⟩
  ·have hrow:ad.spot=none∧∃y T fr,w.heap[ad.block]? = some (.cells y T fr):=by
    by_cases h0:0<n
    ·obtain ⟨b,o,e,k⟩:=hc 0 h0
     cases e
     obtain ⟨y,T,fr,k1⟩:=cell_someT k
     exact ⟨rfl,y,T,fr,k1⟩
    ·exact hr ad n cap rfl (by omega)
   obtain ⟨b,o,sp⟩:=ad
   obtain ⟨hsp,y,T,fr,hq⟩:=hrow
   dsimp only at hsp hq
   subst hsp
   obtain ⟨E',c1,c2,c3,c4,c5⟩:=h.row hJ (s:=o) hq (fun b s'=>hsh b _ s') (Array.ofFn fun i:Fin n=>f i) (fun i u hu=>by
    obtain ⟨hi,rfl⟩:=Array.getElem?_eq_some_iff.1 hu
    simp only[Array.size_ofFn] at hi
    obtain ⟨b',o',e,k⟩:=hc i hi
    cases e
    refine ⟨f i,?_,by rw[Array.getElem_ofFn];exact hf _ _⟩
    rw[cell_of_row _ _ _ _ _ _ hq] at k
    rw[Nat.add_comm]
    exact k)
   refine ⟨E',_,some ⟨wl.heap.size,0,none⟩,c1,fun b' q' s' e=>?_,fun b' q' s' o' e=>?_,c2,.slice n cap ?_,fun c hc'=>⟨wl.heap.size,0,rfl,?_⟩⟩
   ·rcases c5 b' q' s' true e with ⟨_,_,_,e'⟩ | e'
    ·cases e'
    ·exact hsh _ _ _ e'
   ·rcases c5 b' q' s' o' e with ⟨_,rfl,_,_⟩ | e'
    ·exact .inr (Array.getElem?_eq_some_iff.1 hq).1
    ·exact .inl e'
   ·have:=c3 0
    rw[Nat.zero_add] at this
    exact this
   ·rw[Nat.zero_add]
    exact c4 c _ (by rw[Array.getElem?_eq_getElem (by simpa using hc'),Array.getElem_ofFn])
theorem lr_nil {E:Env}:LR E ([]:List Value).toArray ([]:List Value).toArray:=⟨rfl,fun i u v hu=>by simp at hu⟩
theorem lr_cons {E:Env} {u v:Value} {l l':List Value} (h:VR E u v) (t:LR E l.toArray l'.toArray):LR E (u :: l).toArray (v :: l').toArray:=by
 refine ⟨by have:=t.size;simpa using this,fun i a b ha hb=>?_⟩
 cases i with
 | zero=>simp at ha hb;subst ha hb;exact h
 | succ i=>exact t.at_ i a b (by simpa using ha) (by simpa using hb)
end
end Go.Proofs.Ytpdemelchhkfaaa.Cs

/-
  climb.Climb, alone, to where its hands begin; and where something is wrong.
-/
namespace Go.Proofs.Ytpdemelchhkfaaa
open Go.RowKit PK
namespace Cs
def cutAt:Nat→Code→Code
 | 0,_=>.skip
 | k+1,.seq a b=>.seq a (cutAt k b)
 | _+1,c=>c
def cutU:Nat→Code→Code
 | 0,_=>.exit 1000000
 | k+1,.seq a b=>.seq a (cutU k b)
 | _+1,c=>c
def restAt:Nat→Code→Code
 | 0,c=>c
 | k+1,.seq _ b=>restAt k b
 | _+1,c=>c
def longOf:Nat→Code→Bool
 | 0,_=>true
 | k+1,.seq _ b=>longOf k b
 | _+1,_=>false
noncomputable def cBody:Code:=Try.f13.body.getD .skip
end Cs
theorem ea_zero {P:Program} {t:TypeId} {z:Value} (h:(P.info? t).map (·.zero)=some (some z)) (w:World):(zeroValue t).run P w=.ok z w:=by
 cases hi:P.info? t with
 | none=>rw[hi] at h;cases h
 | some i =>
  rw[hi] at h
  simp only[Option.map_some,Option.some.injEq] at h
  simp[zeroValue,typeInfo,hi,h,go_sem]
theorem ea_zero_sheet:(Try.prog.info? 66).map (·.zero)=some (some (.agg #[.slice none 0 0,.slice none 0 0])):=by kernel_rfl
theorem ea_info_sheet:(Try.prog.info? 66).map (·.size)=some 2:=by kernel_rfl
def CfP (s:ByteArray) (ta:Option Addr) (tn tc seed tries hands:Nat) (T:Array Value) (W:World):Prop :=
 ∃(v:Nat→Value) (b7 b10 b13:Nat) (pv:Value),T=#[.string s,.slice ta tn tc,.int .u64 (seed:Nat),.int .i64 (tries:Nat),.int .i64 (hands:Nat),v 5,v 6,.pointer (some ⟨b7,0,none⟩),v 8,v 9,.pointer (some ⟨b10,0,none⟩),.int .i64 0,v 12,.pointer (some ⟨b13,0,none⟩),v 14,v 15,v 16,v 17,v 18,v 19,v 20,v 21,v 22,v 23,v 24,v 25,v 26,v 27,v 28,v 29,v 30,v 31,v 32,v 33,v 34,v 35,v 36,v 37,v 38,v 39,v 40,v 41,v 42]∧RowAt W b7 39 #[.int .u64 (seed:Nat)]∧RowAt W b10 43 (ints 28 fun _=>0)∧RowAt W b13 66 #[pv,.slice ta tn tc]∧W.ownsRow 0 79 2 pv (s.size-1) (ints ((s.size-1)*2) (prF s)).toList
def CfE (s:ByteArray) (ta:Option Addr) (tn tc seed tries hands:Nat) (e:Exit) (a:Act) (w':World):Prop:=e=.normal∧a.defers=[]∧CfP s ta tn tc seed tries hands a.tmps w'
theorem owns_zero {W W':World} {N:Nat} {e:TypeId} {sz:Nat} {v:Value} {n:Nat} {xs:List Value} (h:W.ownsRow N e sz v n xs) (hk:∀b,b<W.heap.size→W'.heap[b]? = W.heap[b]?):W'.ownsRow 0 e sz v n xs:=⟨h.1,h.2.elim .inl fun ⟨g,cap,cur,h1,_,h2,h3⟩=>.inr ⟨g,cap,cur,h1,Nat.zero_le _,(hk g (Array.getElem?_eq_some_iff.1 h2).1).trans h2,h3⟩⟩
theorem ea_one {pv:Value} {ta:Option Addr} {tn tc:Nat} (h:pv.oneCell'=true):(#[pv,.slice ta tn tc]:Array Value).all (·.oneCell')=true:=by
 rw[Array.all_eq_true_iff_forall_mem]
 intro v hv
 rw[show (#[pv,.slice ta tn tc]:Array Value)=[pv,.slice ta tn tc].toArray from rfl,List.mem_toArray] at hv
 rcases List.mem_cons.1 hv with rfl | hv
 ·exact h
 ·rcases List.mem_cons.1 hv with rfl | hv
  ·rfl
  ·cases hv
set_option maxRecDepth 100000 in
set_option maxHeartbeats 8000000 in
theorem climb_front (s:ByteArray) (ta:Option Addr) (tn tc seed tries hands:Nat) (f:Nat→Int) (hcw:cwE s.data.toList tn f=0) (ht:1≤tries∧tries≤16) (hh:1≤hands∧hands≤16) (w:World) (hv:NumsAt w (.slice ta tn tc) tn f) :
  (Cs.cutAt 4 Cs.cBody).wp Try.prog (CfE s ta tn tc seed tries hands) ⟨#[.string s,.slice ta tn tc,.int .u64 (seed:Nat),.int .i64 (tries:Nat),.int .i64 (hands:Nat),undef,undef,undef,undef,undef,undef,undef,undef,undef,undef,undef,undef,undef,undef,undef,undef,undef,undef,undef,undef,undef,undef,undef,undef,undef,undef,undef,undef,undef,undef,undef,undef,undef,undef,undef,undef,undef,undef],[]⟩ w:=by
 obtain ⟨hc0,hl,-,-⟩:=cwE_zero hcw
 have hs:=(ls_ofJ hc0).1
 have hl2:s.size≤256:=by have:=Pl.size_len s;omega
 have HC:Hid (∀W,Below w.heap.size w W→Calls Try.prog 28 #[.string s,.slice ta tn tc] W fun e w'=>e=.returned (.int .i64 0)∧Below W.heap.size W w'):=fun W hW=>by
  have:=cw_any s (.slice ta tn tc) tn f W (hv.below hW)
  rw[hcw] at this
  exact this
 have HS:Hid (∀W,Calls Try.prog 30 #[.string s,.slice ta tn tc] W fun e w'=>∃pv,e=.returned (.agg #[pv,.slice ta tn tc])∧w'.ownsRow W.heap.size 79 2 pv (s.size-1) (ints ((s.size-1)*2) (prF s)).toList∧Below W.heap.size W w'):=fun W=>sheet_any s hs hl2 ta tn tc W
 clear hcw hc0 hs hl hl2 hv
 have hz:=ea_zero (P:=Try.prog) ea_zero_sheet
 have hx1:=RowAt.new w 39 #[.int .u64 (seed:Nat)]
 have hx2:=hx1.alloc (.cells (ints 28 fun _=>0) 43)
 have hx3:=RowAt.new (w.alloc (.cells #[.int .u64 (seed:Nat)] 39)) 43 (ints 28 fun _=>0)
 have hbl:=((Below.refl w.heap.size w).alloc (Nat.le_refl _) (.cells #[.int .u64 (seed:Nat)] 39)).alloc (by simp) (.cells (ints 28 fun _=>0) 43)
 rw[show (w.alloc (.cells #[.int .u64 (seed:Nat)] 39)).heap.size=w.heap.size+1 by simp] at hx3
 simp only[Cs.cutAt,Cs.cBody,Try.f13,Option.getD_some]
 go_upto_region 1 with fail
 rw[zero28]
 generalize (w.alloc (.cells #[.int .u64 (seed:Nat)] 39)).alloc (.cells (ints 28 fun _=>0) 43)=W1 at *
 clear hx1
 go_wp2_with fail
 refine Calls.mono (HC.out _ hbl) ?_
 rintro e Y ⟨rfl,hY⟩
 clear HC
 have hx4:=hx2.below hY hx2.lt
 have hx5:=hx3.below hY hx3.lt
 clear hx2 hx3 hbl hY
 have u1:decide ((tries:Int)<1)=false:=decide_eq_false (by omega)
 have u2:decide (16<(tries:Int))=false:=decide_eq_false (by omega)
 have u3:decide ((hands:Int)<1)=false:=decide_eq_false (by omega)
 have u4:decide (16<(hands:Int))=false:=decide_eq_false (by omega)
 have u5:decide (tries<1)=false:=decide_eq_false (by omega)
 have u6:decide (16<tries)=false:=decide_eq_false (by omega)
 have u7:decide (hands<1)=false:=decide_eq_false (by omega)
 have u8:decide (16<hands)=false:=decide_eq_false (by omega)
 have u9:¬tries=0:=by omega
 have u10:¬hands=0:=by omega
 have HX4:=(show Hid (RowAt Y w.heap.size 39 #[.int .u64 (seed:Nat)]) from hx4)
 have HX5:=(show Hid (RowAt Y (w.heap.size+1) 43 (ints 28 fun _=>0)) from hx5)
 clear hx4 hx5 ht hh
 go_wp2_with fail
 refine Calls.mono (HS.out _) ?_
 rintro e Z ⟨pv,rfl,ho,hZ⟩
 have HF4:=(show Hid (RowAt Z w.heap.size 39 #[.int .u64 (seed:Nat)]) from HX4.out.below hZ HX4.out.lt)
 have HF5:=(show Hid (RowAt Z (w.heap.size+1) 43 (ints 28 fun _=>0)) from HX5.out.below hZ HX5.out.lt)
 clear HX4 HX5 HS hZ
 have hr:=RowAt.new Z 66 #[.slice none 0 0,.slice none 0 0]
 have HG4:=(show Hid (RowAt (Z.alloc (.cells #[.slice none 0 0,.slice none 0 0] 66)) w.heap.size 39 #[.int .u64 (seed:Nat)]) from HF4.out.alloc (.cells #[.slice none 0 0,.slice none 0 0] 66))
 have HG5:=(show Hid (RowAt (Z.alloc (.cells #[.slice none 0 0,.slice none 0 0] 66)) (w.heap.size+1) 43 (ints 28 fun _=>0)) from HF5.out.alloc (.cells #[.slice none 0 0,.slice none 0 0] 66))
 have HO:=(show Hid (World.ownsRow _ 0 79 2 pv (s.size-1) (ints ((s.size-1)*2) (prF s)).toList) from owns_zero (W':=(Z.alloc (.cells #[.slice none 0 0,.slice none 0 0] 66)).setRow Z.heap.size #[pv,.slice ta tn tc]) ho (fun b hb=>by rw[setRow_other _ _ _ _ (by omega)];exact Below.heap_alloc Z _ b hb))
 have h1c:pv.oneCell'=true:=by rcases ho.2 with ⟨rfl,_⟩ | ⟨_,_,_,rfl,_⟩ <;> rfl
 have lt4:=HF4.out.lt
 have lt5:=HF5.out.lt
 clear HF4 HF5 ho
 go_wp2_with (first | refine wpList_store_row rfl 66 _ _ rfl Z.heap.size #[pv,.slice ta tn tc] rfl rfl 66 _ hr ea_info_sheet rfl (ea_one h1c) ?_)
 exact ⟨rfl,rfl,fun i=>([undef,undef,undef,undef,undef,_,_,undef,_,_,undef,undef,_,undef,_,_,_,_,_,_,_,_,_,_,_,_,_,_,_,_,_,_,_,_,_,_,_,_,_,_,_,_,_]:List Value).getD i undef,_,_,_,pv,rfl,HG4.out.rowOther _ _ (by omega),HG5.out.rowOther _ _ (by omega),hr.row _,HO.out⟩
end Go.Proofs.Ytpdemelchhkfaaa

/-
  climb.Climb, alone, where something is wrong.
-/
namespace Go.Proofs.Ytpdemelchhkfaaa
open Go.RowKit PK
def ceE (l:List UInt8) (n:Nat) (f:Nat→Int) (tries hands:Int):Int:=if cwE l n f≠0 then cwE l n f else if tries<1∨16<tries∨hands<1∨16<hands then 3 else 0
theorem ea_built28:Try.prog.built 43 []=some (ints 28 fun _=>0):=by kernel_rfl
theorem ea_info28:(Try.prog.info? 43).map (·.size)=some 28:=by kernel_rfl
namespace Cs
theorem uc_cut:∀{k:Nat} {c:Code},longOf k c=true→UC (restAt k c) (cutU k c) c
 | 0,_,_=>.out
 | k+1,.seq a b,h=>.seq a (uc_cut (k:=k) (c:=b) h)
 | _+1,.skip,h | _+1,.region _ _ _,h | _+1,.cond _ _ _,h | _+1,.block _ _,h | _+1,.loop _,h | _+1,.scope _,h | _+1,.label _,h | _+1,.exit _,h | _+1,.goto _,h | _+1,.ret,h | _+1,.rangeFunc _ _ _ _,h | _+1,.refuse _,h=>by cases h
theorem tc_cut:∀{k:Nat} {c:Code},longOf k c=true→TC (restAt k c) (cutAt k c) c
 | 0,_,_=>.skip
 | k+1,.seq a b,h=>.seq a (tc_cut (k:=k) (c:=b) h)
 | _+1,.skip,h | _+1,.region _ _ _,h | _+1,.cond _ _ _,h | _+1,.block _ _,h | _+1,.loop _,h | _+1,.scope _,h | _+1,.label _,h | _+1,.exit _,h | _+1,.goto _,h | _+1,.ret,h | _+1,.rangeFunc _ _ _ _,h | _+1,.refuse _,h=>by cases h
theorem c_long:longOf 4 cBody=true:=by kernel_rfl
theorem c_ok:codeOk Try.prog (cutAt 4 cBody)=true:=by kernel_rfl
theorem cu_ok:codeOk Try.prog (cutU 4 cBody)=true:=by kernel_rfl
end Cs
set_option maxRecDepth 100000 in
set_option maxHeartbeats 8000000 in
theorem pclimb_cut (s:ByteArray) (ta:Option Addr) (tn tc seed:Nat) (tries hands:Int) (f:Nat→Int) (hE:ceE s.data.toList tn f tries hands≠0) (w:World) (hv:NumsAt w (.slice ta tn tc) tn f) :
  (Cs.cutU 4 Cs.cBody).wp Try.prog (bodyPost Try.prog Try.f13 (Cs.PostE fun u w'=>u=.tuple #[.agg (ints 28 fun _=>0),.int .i64 (ceE s.data.toList tn f tries hands)]∧Below w.heap.size w w')) ⟨#[.string s,.slice ta tn tc,.int .u64 (seed:Nat),.int .i64 tries,.int .i64 hands,undef,undef,undef,undef,undef,undef,undef,undef,undef,undef,undef,undef,undef,undef,undef,undef,undef,undef,undef,undef,undef,undef,undef,undef,undef,undef,undef,undef,undef,undef,undef,undef,undef,undef,undef,undef,undef,undef],[]⟩ w:=by
 have HC:Hid (∀W,Below w.heap.size w W→Calls Try.prog 28 #[.string s,.slice ta tn tc] W fun e w'=>e=.returned (.int .i64 (cwE s.data.toList tn f))∧Below W.heap.size W w'):=fun W hW=>cw_any s (.slice ta tn tc) tn f W (hv.below hW)
 have HEE:Hid (ceE s.data.toList tn f tries hands=if cwE s.data.toList tn f≠0 then cwE s.data.toList tn f else if tries<1∨16<tries∨hands<1∨16<hands then 3 else 0):=rfl
 generalize ceE s.data.toList tn f tries hands=CE at *
 generalize cwE s.data.toList tn f=FE at *
 clear hv
 have hx1:=RowAt.new w 39 #[.int .u64 (seed:Nat)]
 have hx3:=RowAt.new (w.alloc (.cells #[.int .u64 (seed:Nat)] 39)) 43 (ints 28 fun _=>0)
 have hbl:=((Below.refl w.heap.size w).alloc (Nat.le_refl _) (.cells #[.int .u64 (seed:Nat)] 39)).alloc (by simp) (.cells (ints 28 fun _=>0) 43)
 rw[show (w.alloc (.cells #[.int .u64 (seed:Nat)] 39)).heap.size=w.heap.size+1 by simp] at hx3
 simp only[Cs.cutU,Cs.cBody,Try.f13,Option.getD_some]
 go_upto_region 1 with fail
 rw[zero28]
 generalize (w.alloc (.cells #[.int .u64 (seed:Nat)] 39)).alloc (.cells (ints 28 fun _=>0) 43)=W1 at *
 clear hx1
 go_wp2_with fail
 refine Calls.mono (HC.out _ hbl) ?_
 rintro e Y ⟨rfl,hY⟩
 clear HC
 have HX5:=(show Hid (RowAt Y (w.heap.size+1) 43 (ints 28 fun _=>0)) from hx3.below hY hx3.lt)
 have HY:Hid (Below w.heap.size w Y):=hbl.trans (hY.mono hbl.size)
 clear hx3 hbl hY
 by_cases h0:FE=0
 ·subst h0
  have hor:tries<1∨16<tries∨hands<1∨16<hands:=by
   refine Classical.byContradiction fun hn=>hE ?_
   rw[HEE.out,if_neg (by simp),if_neg hn]
  have HX:Hid (CE=3):=HEE.out.trans ((if_neg (by simp)).trans (if_pos hor))
  clear HEE hE
  by_cases a1:tries<1
  ·have da1:decide (tries<1)=true:=decide_eq_true a1
   clear hor
   go_wp2_with (first | refine wpList_build0 rfl 43 rfl (ints 28 fun _=>0) ea_built28 ?_ | refine wpList_store_row rfl 43 _ _ rfl (w.heap.size+1) (ints 28 fun _=>0) rfl rfl 43 _ HX5.out (by rw[ints_size];exact ea_info28) (by simp only[ints_size]) (ints_one _ _) ?_)
   exact bodyPost_ret (v:=.tuple #[.agg (ints 28 fun _=>0),.int .i64 3]) (results_cell_tmp2 rfl _ _ (w.heap.size+1) 43 _ (0,0) _ _ rfl rfl (HX5.out.row _) Try.underlying43 rfl (by rw[ints_size];exact ea_info28)) rfl ⟨_,rfl,by rw[HX.out],Below.setRow HY.out _ (Nat.le_succ _) _⟩
  ·by_cases a2:16<tries
   ·have da1:decide (tries<1)=false:=decide_eq_false a1
    have da2:decide (16<tries)=true:=decide_eq_true a2
    clear hor
    go_wp2_with (first | refine wpList_build0 rfl 43 rfl (ints 28 fun _=>0) ea_built28 ?_ | refine wpList_store_row rfl 43 _ _ rfl (w.heap.size+1) (ints 28 fun _=>0) rfl rfl 43 _ HX5.out (by rw[ints_size];exact ea_info28) (by simp only[ints_size]) (ints_one _ _) ?_)
    exact bodyPost_ret (v:=.tuple #[.agg (ints 28 fun _=>0),.int .i64 3]) (results_cell_tmp2 rfl _ _ (w.heap.size+1) 43 _ (0,0) _ _ rfl rfl (HX5.out.row _) Try.underlying43 rfl (by rw[ints_size];exact ea_info28)) rfl ⟨_,rfl,by rw[HX.out],Below.setRow HY.out _ (Nat.le_succ _) _⟩
   ·by_cases a3:hands<1
    ·have da1:decide (tries<1)=false:=decide_eq_false a1
     have da2:decide (16<tries)=false:=decide_eq_false a2
     have da3:decide (hands<1)=true:=decide_eq_true a3
     clear hor
     go_wp2_with (first | refine wpList_build0 rfl 43 rfl (ints 28 fun _=>0) ea_built28 ?_ | refine wpList_store_row rfl 43 _ _ rfl (w.heap.size+1) (ints 28 fun _=>0) rfl rfl 43 _ HX5.out (by rw[ints_size];exact ea_info28) (by simp only[ints_size]) (ints_one _ _) ?_)
     exact bodyPost_ret (v:=.tuple #[.agg (ints 28 fun _=>0),.int .i64 3]) (results_cell_tmp2 rfl _ _ (w.heap.size+1) 43 _ (0,0) _ _ rfl rfl (HX5.out.row _) Try.underlying43 rfl (by rw[ints_size];exact ea_info28)) rfl ⟨_,rfl,by rw[HX.out],Below.setRow HY.out _ (Nat.le_succ _) _⟩
    ·have a4:16<hands:=by omega
     have da1:decide (tries<1)=false:=decide_eq_false a1
     have da2:decide (16<tries)=false:=decide_eq_false a2
     have da3:decide (hands<1)=false:=decide_eq_false a3
     have da4:decide (16<hands)=true:=decide_eq_true a4
     clear hor
     go_wp2_with (first | refine wpList_build0 rfl 43 rfl (ints 28 fun _=>0) ea_built28 ?_ | refine wpList_store_row rfl 43 _ _ rfl (w.heap.size+1) (ints 28 fun _=>0) rfl rfl 43 _ HX5.out (by rw[ints_size];exact ea_info28) (by simp only[ints_size]) (ints_one _ _) ?_)
     exact bodyPost_ret (v:=.tuple #[.agg (ints 28 fun _=>0),.int .i64 3]) (results_cell_tmp2 rfl _ _ (w.heap.size+1) 43 _ (0,0) _ _ rfl rfl (HX5.out.row _) Try.underlying43 rfl (by rw[ints_size];exact ea_info28)) rfl ⟨_,rfl,by rw[HX.out],Below.setRow HY.out _ (Nat.le_succ _) _⟩
 ·have HX:Hid (CE=FE):=HEE.out.trans (if_pos h0)
  have hb0:(FE != 0)=true:=by simpa using h0
  clear HEE hE
  go_wp2_with (first | refine wpList_build0 rfl 43 rfl (ints 28 fun _=>0) ea_built28 ?_ | refine wpList_store_row rfl 43 _ _ rfl (w.heap.size+1) (ints 28 fun _=>0) rfl rfl 43 _ HX5.out (by rw[ints_size];exact ea_info28) (by simp only[ints_size]) (ints_one _ _) ?_)
  exact bodyPost_ret (v:=.tuple #[.agg (ints 28 fun _=>0),.int .i64 FE]) (results_cell_tmp2 rfl _ _ (w.heap.size+1) 43 _ (0,0) _ _ rfl rfl (HX5.out.row _) Try.underlying43 rfl (by rw[ints_size];exact ea_info28)) rfl ⟨_,rfl,by rw[HX.out],Below.setRow HY.out _ (Nat.le_succ _) _⟩
end Go.Proofs.Ytpdemelchhkfaaa
