import Derived.Test.YtpdemelchhkfaaaJn19
namespace Go.Proofs.Ytpdemelchhkfaaa
namespace Cs
open Go.Conc Go.RowKit Go.Conc.Lib Go.ConcR.Gen Go.ConcN.Gen
open Go.ConcR (KK WgAt wgBlock stA smA rd wr mk DC0)
open Go.ConcN (st_flag st_waiters)
variable {L:WgLink} {P:Program} {c:Cst}
set_option maxRecDepth 100000 in
set_option maxHeartbeats 8000000 in
theorem zn (H:WgLib P L) {f:Frame} {cs:List Frame} {qt:Nat} (hcm:f.mode=.returning) (hT:QuitsD P qt 0 (G f cs)) :
  ∀w,Ok3 c L.tWg w→Goes P false (fun _ w=>Ok3 c L.tWg w) DC0 (fun g _=>g.status=.running∧Ak P c L.tWg g) 60 (G ((baseD L.done).at ⟨#[.pointer (some ⟨c.C2,0,none⟩),undef,undef,undef],[]⟩ [.code (body_done L)]) (f :: cs)) w:=by
 intro w hK
 lib_facts
 simp only[body_done,doneFn,Option.getD_some]
 repeat (first
  | u_c stepG_seq aa hK
  | u_c stepG_region_end aa hK
  | u_reg aa hK
  | u_cond true aa hK
  | u_cond false aa hK
  | u_c stepG_skip aa hK
  | u_c stepG_block aa hK
  | u_c stepG_loop aa hK
  | u_c stepG_inBlock aa hK
  | u_c stepG_inLoop aa hK
  | (rw[aG];u_skip aa hK)
  | (rw[aG];u_op aa hK))
 u_call H.f_add (nm_add L) addFn aa hK
 repeat (first
  | u_c stepG_seq aa hK
  | u_c stepG_region_end aa hK
  | u_reg aa hK
  | u_cond true aa hK
  | u_cond false aa hK
  | u_c stepG_skip aa hK
  | u_c stepG_block aa hK
  | u_c stepG_loop aa hK
  | u_c stepG_inBlock aa hK
  | u_c stepG_inLoop aa hK
  | (rw[aG];u_skip aa hK)
  | (rw[aG];u_op aa hK))
 u_conv H.underlying_tWgP H.room_tWg (WgLive.cell0 hK.wg).choose_spec aa hK
 refine Goes.stop (fun w₁ h₁=>?_)
 clear h₁
 refine ⟨rfl,⟨_,_,rfl⟩,_,fun w₁ _=>stepG_markAt .releaseMerge (by simp) rfl rfl (by k_ne) rfl H.f_relMerge (x_relMerge_n L) (x_relMerge_b L) (x_relMerge_x L) (x_relMerge_f L) (by simp[Act.eval,stA]),aO 60 rfl fun w hK=>?_⟩
 walk_nrm
 repeat (first
  | u_c stepG_seq aa hK
  | u_c stepG_region_end aa hK
  | u_reg aa hK
  | u_cond true aa hK
  | u_cond false aa hK
  | u_c stepG_skip aa hK
  | u_c stepG_block aa hK
  | u_c stepG_loop aa hK
  | u_c stepG_inBlock aa hK
  | u_c stepG_inLoop aa hK
  | (rw[aG];u_skip aa hK)
  | (rw[aG];u_op aa hK))
 refine Goes.stop (fun w₁ h₁=>?_)
 clear h₁
 refine ⟨rfl,⟨_,_,rfl⟩,_,fun w₁ _=>stepG_mark0 .disable (by simp) rfl rfl (by k_ne) rfl H.f_disable (x_disable_n L) (x_disable_b L) (x_disable_x L) (x_disable_f L),aO 60 rfl fun w hK=>?_⟩
 walk_nrm
 repeat (first
  | u_c stepG_seq aa hK
  | u_c stepG_region_end aa hK
  | u_reg aa hK
  | u_cond true aa hK
  | u_cond false aa hK
  | u_c stepG_skip aa hK
  | u_c stepG_block aa hK
  | u_c stepG_loop aa hK
  | u_c stepG_inBlock aa hK
  | u_c stepG_inLoop aa hK
  | (rw[aG];u_skip aa hK)
  | (rw[aG];u_op aa hK))
 u_defer aa hK
 repeat (first
  | u_c stepG_seq aa hK
  | u_c stepG_region_end aa hK
  | u_reg aa hK
  | u_cond true aa hK
  | u_cond false aa hK
  | u_c stepG_skip aa hK
  | u_c stepG_block aa hK
  | u_c stepG_loop aa hK
  | u_c stepG_inBlock aa hK
  | u_c stepG_inLoop aa hK
  | (rw[aG];u_skip aa hK)
  | (rw[aG];u_op aa hK))
 u_bub aa hK
 repeat (first
  | u_c stepG_seq aa hK
  | u_c stepG_region_end aa hK
  | u_reg aa hK
  | u_cond true aa hK
  | u_cond false aa hK
  | u_c stepG_skip aa hK
  | u_c stepG_block aa hK
  | u_c stepG_loop aa hK
  | u_c stepG_inBlock aa hK
  | u_c stepG_inLoop aa hK
  | (rw[aG];u_skip aa hK)
  | (rw[aG];u_op aa hK))
 u_call H.f_uAdd (nm_uAdd L) uAddFn aa hK
 repeat (first
  | u_c stepG_seq aa hK
  | u_c stepG_region_end aa hK
  | u_reg aa hK
  | u_cond true aa hK
  | u_cond false aa hK
  | u_c stepG_skip aa hK
  | u_c stepG_block aa hK
  | u_c stepG_loop aa hK
  | u_c stepG_inBlock aa hK
  | u_c stepG_inLoop aa hK
  | (rw[aG];u_skip aa hK)
  | (rw[aG];u_op aa hK))
 refine Goes.stop (fun w₁ h₁=>?_)
 clear h₁ hK
 refine ⟨rfl,⟨_,_,rfl⟩,fun v wt hwt hv=>?_⟩
 rcases Nat.eq_zero_or_pos v with rfl | hvp <;> (obtain rfl | rfl:wt=0∨wt=1:=by omega)
 ·have eS:IntKind.u64.wrap ((((0:Nat):Int)+1)*KK+((0:Nat):Int)+18446744069414584320)=0:=by decide
  have z:((0:Nat):Int)*KK+((0:Nat):Int)=0:=by simp
  rw[z]
  refine ⟨_,fun w hw=>(stepG_add_atomic rfl rfl (by k_ne) rfl H.f_addU64 (x_addU64_n L) (x_addU64_b L) (x_addU64_x L) .u64 (x_addU64_f L) rfl rfl hw.cellSt (hw.thaw 0)).trans (by rw[eS];rfl),fun hl=>absurd hl.2 (by decide),fun _=>⟨qt+120,?_⟩⟩
  walk_nrm
  repeat (first
   | refine QuitsD.ctl rfl (fun _=>by rw[stepG_seq]) ?_
   | refine QuitsD.ctl rfl (fun _=>by rw[stepG_region_end]) ?_
   | (refine QuitsD.ctl rfl (fun _=>by rw[stepG_region]) ?_;simp only[List.size_toArray,List.length_cons,List.length_nil,Nat.reduceAdd,Nat.zero_add,List.range,List.range.loop])
   | (refine QuitsD.ctl rfl (fun _=>by rw[stepG_cond (t:=true) rfl]) ?_;simp only[↓reduceIte])
   | (refine QuitsD.ctl rfl (fun _=>by rw[stepG_cond (t:=false) rfl]) ?_;simp only[Bool.false_eq_true,↓reduceIte])
   | refine QuitsD.ctl rfl (fun _=>by rw[stepG_skip]) ?_
   | refine QuitsD.ctl rfl (fun _=>by rw[stepG_block]) ?_
   | refine QuitsD.ctl rfl (fun _=>by rw[stepG_loop]) ?_
   | refine QuitsD.ctl rfl (fun _=>by rw[stepG_inBlock]) ?_
   | refine QuitsD.ctl rfl (fun _=>by rw[stepG_inLoop]) ?_
   | (rw[cg];refine QuitsD.unwanted rfl rfl ?_;walk_nrm)
   | (rw[cg];refine QuitsD.value _ rfl rfl (by k_ne) (fun _=>by go_simp;(try w_num);(try rfl)) (fun _=>by simp[go_sem, *]) ?_;walk_nrm))
  q_c stepG_ret'
  q_leave1 H.f_uAdd
  repeat (first
   | refine QuitsD.ctl rfl (fun _=>by rw[stepG_seq]) ?_
   | refine QuitsD.ctl rfl (fun _=>by rw[stepG_region_end]) ?_
   | (refine QuitsD.ctl rfl (fun _=>by rw[stepG_region]) ?_;simp only[List.size_toArray,List.length_cons,List.length_nil,Nat.reduceAdd,Nat.zero_add,List.range,List.range.loop])
   | (refine QuitsD.ctl rfl (fun _=>by rw[stepG_cond (t:=true) rfl]) ?_;simp only[↓reduceIte])
   | (refine QuitsD.ctl rfl (fun _=>by rw[stepG_cond (t:=false) rfl]) ?_;simp only[Bool.false_eq_true,↓reduceIte])
   | refine QuitsD.ctl rfl (fun _=>by rw[stepG_skip]) ?_
   | refine QuitsD.ctl rfl (fun _=>by rw[stepG_block]) ?_
   | refine QuitsD.ctl rfl (fun _=>by rw[stepG_loop]) ?_
   | refine QuitsD.ctl rfl (fun _=>by rw[stepG_inBlock]) ?_
   | refine QuitsD.ctl rfl (fun _=>by rw[stepG_inLoop]) ?_
   | (rw[cg];refine QuitsD.unwanted rfl rfl ?_;walk_nrm)
   | (rw[cg];refine QuitsD.value _ rfl rfl (by k_ne) (fun _=>by go_simp;(try w_num);(try rfl)) (fun _=>by simp[go_sem, *]) ?_;walk_nrm))
  q_c stepG_ret'
  q_enable
  q_leave0 H.f_add
  repeat (first
   | refine QuitsD.ctl rfl (fun _=>by rw[stepG_seq]) ?_
   | refine QuitsD.ctl rfl (fun _=>by rw[stepG_region_end]) ?_
   | (refine QuitsD.ctl rfl (fun _=>by rw[stepG_region]) ?_;simp only[List.size_toArray,List.length_cons,List.length_nil,Nat.reduceAdd,Nat.zero_add,List.range,List.range.loop])
   | (refine QuitsD.ctl rfl (fun _=>by rw[stepG_cond (t:=true) rfl]) ?_;simp only[↓reduceIte])
   | (refine QuitsD.ctl rfl (fun _=>by rw[stepG_cond (t:=false) rfl]) ?_;simp only[Bool.false_eq_true,↓reduceIte])
   | refine QuitsD.ctl rfl (fun _=>by rw[stepG_skip]) ?_
   | refine QuitsD.ctl rfl (fun _=>by rw[stepG_block]) ?_
   | refine QuitsD.ctl rfl (fun _=>by rw[stepG_loop]) ?_
   | refine QuitsD.ctl rfl (fun _=>by rw[stepG_inBlock]) ?_
   | refine QuitsD.ctl rfl (fun _=>by rw[stepG_inLoop]) ?_
   | (rw[cg];refine QuitsD.unwanted rfl rfl ?_;walk_nrm)
   | (rw[cg];refine QuitsD.value _ rfl rfl (by k_ne) (fun _=>by go_simp;(try w_num);(try rfl)) (fun _=>by simp[go_sem, *]) ?_;walk_nrm))
  q_c stepG_end
  exact QuitsD.leaveD rfl rfl H.f_done rfl hcm (fW hT (Nat.le_add_right _ _))
 ·have eS:IntKind.u64.wrap ((((0:Nat):Int)+1)*KK+((1:Nat):Int)+18446744069414584320)=1:=by decide
  have z:((0:Nat):Int)*KK+((1:Nat):Int)=1:=by simp
  rw[z]
  refine ⟨_,fun w hw=>(stepG_add_atomic rfl rfl (by k_ne) rfl H.f_addU64 (x_addU64_n L) (x_addU64_b L) (x_addU64_x L) .u64 (x_addU64_f L) rfl rfl hw.cellSt (hw.thaw 0)).trans (by rw[eS];rfl),fun _=>aO 140 rfl fun w hK=>?_,fun hl=>absurd ⟨rfl,rfl⟩ hl⟩
  clear eS z
  walk_nrm
  repeat (first
   | u_c stepG_seq aa hK
   | u_c stepG_region_end aa hK
   | u_reg aa hK
   | u_cond true aa hK
   | u_cond false aa hK
   | u_c stepG_skip aa hK
   | u_c stepG_block aa hK
   | u_c stepG_loop aa hK
   | u_c stepG_inBlock aa hK
   | u_c stepG_inLoop aa hK
   | (rw[aG];u_skip aa hK)
   | (rw[aG];u_op aa hK))
  u_c stepG_ret' aa hK
  u_leave1 H.f_uAdd aa hK
  repeat (first
   | u_c stepG_seq aa hK
   | u_c stepG_region_end aa hK
   | u_reg aa hK
   | u_cond true aa hK
   | u_cond false aa hK
   | u_c stepG_skip aa hK
   | u_c stepG_block aa hK
   | u_c stepG_loop aa hK
   | u_c stepG_inBlock aa hK
   | u_c stepG_inLoop aa hK
   | (rw[aG];u_skip aa hK)
   | (rw[aG];u_op aa hK))
  u_call H.f_uLoad (nm_uLoad L) uLoadFn aa hK
  repeat (first
   | u_c stepG_seq aa hK
   | u_c stepG_region_end aa hK
   | u_reg aa hK
   | u_cond true aa hK
   | u_cond false aa hK
   | u_c stepG_skip aa hK
   | u_c stepG_block aa hK
   | u_c stepG_loop aa hK
   | u_c stepG_inBlock aa hK
   | u_c stepG_inLoop aa hK
   | (rw[aG];u_skip aa hK)
   | (rw[aG];u_op aa hK))
  refine Goes.stop (fun w₁ h₁=>?_)
  clear h₁ hK
  refine ⟨rfl,⟨_,_,rfl⟩,_,fun w hw=>stepG_load_atomic (v:=1) rfl rfl (by k_ne) rfl H.f_loadU64 (x_loadU64_n L) (x_loadU64_b L) (x_loadU64_x L) .u64 (x_loadU64_f L) rfl hw.cellSt,aO 60 rfl fun w hK=>?_⟩
  walk_nrm
  repeat (first
   | u_c stepG_seq aa hK
   | u_c stepG_region_end aa hK
   | u_reg aa hK
   | u_cond true aa hK
   | u_cond false aa hK
   | u_c stepG_skip aa hK
   | u_c stepG_block aa hK
   | u_c stepG_loop aa hK
   | u_c stepG_inBlock aa hK
   | u_c stepG_inLoop aa hK
   | (rw[aG];u_skip aa hK)
   | (rw[aG];u_op aa hK))
  u_c stepG_ret' aa hK
  u_leave1 H.f_uLoad aa hK
  repeat (first
   | u_c stepG_seq aa hK
   | u_c stepG_region_end aa hK
   | u_reg aa hK
   | u_cond true aa hK
   | u_cond false aa hK
   | u_c stepG_skip aa hK
   | u_c stepG_block aa hK
   | u_c stepG_loop aa hK
   | u_c stepG_inBlock aa hK
   | u_c stepG_inLoop aa hK
   | (rw[aG];u_skip aa hK)
   | (rw[aG];u_op aa hK))
  u_call H.f_uStore (nm_uStore L) uStoreFn aa hK
  repeat (first
   | u_c stepG_seq aa hK
   | u_c stepG_region_end aa hK
   | u_reg aa hK
   | u_cond true aa hK
   | u_cond false aa hK
   | u_c stepG_skip aa hK
   | u_c stepG_block aa hK
   | u_c stepG_loop aa hK
   | u_c stepG_inBlock aa hK
   | u_c stepG_inLoop aa hK
   | (rw[aG];u_skip aa hK)
   | (rw[aG];u_op aa hK))
  refine Goes.stop (fun w₁ h₁=>?_)
  clear h₁ hK
  refine ⟨rfl,⟨_,_,rfl⟩,_,fun w hw=>stepG_store_atomic rfl rfl (by k_ne) rfl H.f_storeU64 (x_storeU64_n L) (x_storeU64_b L) (x_storeU64_x L) (x_storeU64_f L) rfl rfl hw.cellSt (hw.thaw 0),aO 80 rfl fun w hK=>?_⟩
  walk_nrm
  repeat (first
   | u_c stepG_seq aa hK
   | u_c stepG_region_end aa hK
   | u_reg aa hK
   | u_cond true aa hK
   | u_cond false aa hK
   | u_c stepG_skip aa hK
   | u_c stepG_block aa hK
   | u_c stepG_loop aa hK
   | u_c stepG_inBlock aa hK
   | u_c stepG_inLoop aa hK
   | (rw[aG];u_skip aa hK)
   | (rw[aG];u_op aa hK))
  u_c stepG_end aa hK
  u_leave0 H.f_uStore aa hK
  repeat (first
   | u_c stepG_seq aa hK
   | u_c stepG_region_end aa hK
   | u_reg aa hK
   | u_cond true aa hK
   | u_cond false aa hK
   | u_c stepG_skip aa hK
   | u_c stepG_block aa hK
   | u_c stepG_loop aa hK
   | u_c stepG_inBlock aa hK
   | u_c stepG_inLoop aa hK
   | (rw[aG];u_skip aa hK)
   | (rw[aG];u_op aa hK))
  refine Goes.stop (fun w₁ h₁=>?_)
  clear h₁ hK
  refine ⟨rfl,⟨_,_,rfl⟩,mayWake_entry rfl rfl H.f_semrelease (x_semrelease_b L),_,fun w hw=>(stepG_semrelease rfl rfl (by k_ne) rfl H.f_semrelease (x_semrelease_n L) (x_semrelease_b L) (x_semrelease_x L) (x_semrelease_f L) (by simp[Act.eval,smA]) hw.cellSm (hw.thaw 1)).trans (by rfl),qt+60,?_⟩
  walk_nrm
  repeat (first
   | refine QuitsD.ctl rfl (fun _=>by rw[stepG_seq]) ?_
   | refine QuitsD.ctl rfl (fun _=>by rw[stepG_region_end]) ?_
   | (refine QuitsD.ctl rfl (fun _=>by rw[stepG_region]) ?_;simp only[List.size_toArray,List.length_cons,List.length_nil,Nat.reduceAdd,Nat.zero_add,List.range,List.range.loop])
   | (refine QuitsD.ctl rfl (fun _=>by rw[stepG_cond (t:=true) rfl]) ?_;simp only[↓reduceIte])
   | (refine QuitsD.ctl rfl (fun _=>by rw[stepG_cond (t:=false) rfl]) ?_;simp only[Bool.false_eq_true,↓reduceIte])
   | refine QuitsD.ctl rfl (fun _=>by rw[stepG_skip]) ?_
   | refine QuitsD.ctl rfl (fun _=>by rw[stepG_block]) ?_
   | refine QuitsD.ctl rfl (fun _=>by rw[stepG_loop]) ?_
   | refine QuitsD.ctl rfl (fun _=>by rw[stepG_inBlock]) ?_
   | refine QuitsD.ctl rfl (fun _=>by rw[stepG_inLoop]) ?_
   | (rw[cg];refine QuitsD.unwanted rfl rfl ?_;walk_nrm)
   | (rw[cg];refine QuitsD.value _ rfl rfl (by k_ne) (fun _=>by go_simp;(try w_num);(try rfl)) (fun _=>by simp[go_sem, *]) ?_;walk_nrm))
  q_exit
  q_c stepG_end
  q_enable
  q_leave0 H.f_add
  repeat (first
   | refine QuitsD.ctl rfl (fun _=>by rw[stepG_seq]) ?_
   | refine QuitsD.ctl rfl (fun _=>by rw[stepG_region_end]) ?_
   | (refine QuitsD.ctl rfl (fun _=>by rw[stepG_region]) ?_;simp only[List.size_toArray,List.length_cons,List.length_nil,Nat.reduceAdd,Nat.zero_add,List.range,List.range.loop])
   | (refine QuitsD.ctl rfl (fun _=>by rw[stepG_cond (t:=true) rfl]) ?_;simp only[↓reduceIte])
   | (refine QuitsD.ctl rfl (fun _=>by rw[stepG_cond (t:=false) rfl]) ?_;simp only[Bool.false_eq_true,↓reduceIte])
   | refine QuitsD.ctl rfl (fun _=>by rw[stepG_skip]) ?_
   | refine QuitsD.ctl rfl (fun _=>by rw[stepG_block]) ?_
   | refine QuitsD.ctl rfl (fun _=>by rw[stepG_loop]) ?_
   | refine QuitsD.ctl rfl (fun _=>by rw[stepG_inBlock]) ?_
   | refine QuitsD.ctl rfl (fun _=>by rw[stepG_inLoop]) ?_
   | (rw[cg];refine QuitsD.unwanted rfl rfl ?_;walk_nrm)
   | (rw[cg];refine QuitsD.value _ rfl rfl (by k_ne) (fun _=>by go_simp;(try w_num);(try rfl)) (fun _=>by simp[go_sem, *]) ?_;walk_nrm))
  q_c stepG_end
  exact QuitsD.leaveD rfl rfl H.f_done rfl hcm (fW hT (Nat.le_add_right _ _))
 ·skip
  have hv0:0<v:=by omega
  have eS:IntKind.u64.wrap (((v:Nat)+1)*KK+((0:Nat):Int)+18446744069414584320)=(v:Int)*KK+((0:Nat):Int):=by rw[IntKind.wrap_u64];simp only[KK];omega
  obtain ⟨S,hS⟩:∃S:Int,S=(v:Int)*KK+((0:Nat):Int):=⟨_,rfl⟩
  rw[←hS] at eS ⊢
  have a1:S / 4294967296=(v:Int):=by rw[hS];simp only[KK];omega
  have b1:bits .and .u64 S 2147483648=0:=by rw[hS];have:=st_flag v 0 (by omega) (by omega);simpa [KK] using this
  have b2:bits .and .u64 S 2147483647=0:=by rw[hS];have:=st_waiters v 0 (by omega) (by omega);simpa [KK] using this
  have c1:IntKind.i32.wrap (v:Int)=(v:Int):=by rw[IntKind.wrap_i32];omega
  have q3:decide ((v:Int)<0)=false:=decide_eq_false (by omega)
  have q4:decide (0<(v:Int))=true:=decide_eq_true (by omega)
  have q4':decide (0<v)=true:=decide_eq_true (by omega)
  clear hS
  refine ⟨_,fun w hw=>(stepG_add_atomic rfl rfl (by k_ne) rfl H.f_addU64 (x_addU64_n L) (x_addU64_b L) (x_addU64_x L) .u64 (x_addU64_f L) rfl rfl hw.cellSt (hw.thaw 0)).trans (by rw[eS];rfl),fun hl=>absurd hl.1 (by omega),fun _=>⟨qt+120,?_⟩⟩
  clear eS hv hwt hvp
  walk_nrm
  repeat (first
   | refine QuitsD.ctl rfl (fun _=>by rw[stepG_seq]) ?_
   | refine QuitsD.ctl rfl (fun _=>by rw[stepG_region_end]) ?_
   | (refine QuitsD.ctl rfl (fun _=>by rw[stepG_region]) ?_;simp only[List.size_toArray,List.length_cons,List.length_nil,Nat.reduceAdd,Nat.zero_add,List.range,List.range.loop])
   | (refine QuitsD.ctl rfl (fun _=>by rw[stepG_cond (t:=true) rfl]) ?_;simp only[↓reduceIte])
   | (refine QuitsD.ctl rfl (fun _=>by rw[stepG_cond (t:=false) rfl]) ?_;simp only[Bool.false_eq_true,↓reduceIte])
   | refine QuitsD.ctl rfl (fun _=>by rw[stepG_skip]) ?_
   | refine QuitsD.ctl rfl (fun _=>by rw[stepG_block]) ?_
   | refine QuitsD.ctl rfl (fun _=>by rw[stepG_loop]) ?_
   | refine QuitsD.ctl rfl (fun _=>by rw[stepG_inBlock]) ?_
   | refine QuitsD.ctl rfl (fun _=>by rw[stepG_inLoop]) ?_
   | (rw[cg];refine QuitsD.unwanted rfl rfl ?_;walk_nrm)
   | (rw[cg];refine QuitsD.value _ rfl rfl (by k_ne) (fun _=>by go_simp;(try w_num);(try rfl)) (fun _=>by simp[go_sem, *]) ?_;walk_nrm))
  q_c stepG_ret'
  q_leave1 H.f_uAdd
  repeat (first
   | refine QuitsD.ctl rfl (fun _=>by rw[stepG_seq]) ?_
   | refine QuitsD.ctl rfl (fun _=>by rw[stepG_region_end]) ?_
   | (refine QuitsD.ctl rfl (fun _=>by rw[stepG_region]) ?_;simp only[List.size_toArray,List.length_cons,List.length_nil,Nat.reduceAdd,Nat.zero_add,List.range,List.range.loop])
   | (refine QuitsD.ctl rfl (fun _=>by rw[stepG_cond (t:=true) rfl]) ?_;simp only[↓reduceIte])
   | (refine QuitsD.ctl rfl (fun _=>by rw[stepG_cond (t:=false) rfl]) ?_;simp only[Bool.false_eq_true,↓reduceIte])
   | refine QuitsD.ctl rfl (fun _=>by rw[stepG_skip]) ?_
   | refine QuitsD.ctl rfl (fun _=>by rw[stepG_block]) ?_
   | refine QuitsD.ctl rfl (fun _=>by rw[stepG_loop]) ?_
   | refine QuitsD.ctl rfl (fun _=>by rw[stepG_inBlock]) ?_
   | refine QuitsD.ctl rfl (fun _=>by rw[stepG_inLoop]) ?_
   | (rw[cg];refine QuitsD.unwanted rfl rfl ?_;walk_nrm)
   | (rw[cg];refine QuitsD.value _ rfl rfl (by k_ne) (fun _=>by go_simp;(try w_num);(try rfl)) (fun _=>by simp[go_sem, *]) ?_;walk_nrm))
  q_c stepG_ret'
  q_enable
  q_leave0 H.f_add
  repeat (first
   | refine QuitsD.ctl rfl (fun _=>by rw[stepG_seq]) ?_
   | refine QuitsD.ctl rfl (fun _=>by rw[stepG_region_end]) ?_
   | (refine QuitsD.ctl rfl (fun _=>by rw[stepG_region]) ?_;simp only[List.size_toArray,List.length_cons,List.length_nil,Nat.reduceAdd,Nat.zero_add,List.range,List.range.loop])
   | (refine QuitsD.ctl rfl (fun _=>by rw[stepG_cond (t:=true) rfl]) ?_;simp only[↓reduceIte])
   | (refine QuitsD.ctl rfl (fun _=>by rw[stepG_cond (t:=false) rfl]) ?_;simp only[Bool.false_eq_true,↓reduceIte])
   | refine QuitsD.ctl rfl (fun _=>by rw[stepG_skip]) ?_
   | refine QuitsD.ctl rfl (fun _=>by rw[stepG_block]) ?_
   | refine QuitsD.ctl rfl (fun _=>by rw[stepG_loop]) ?_
   | refine QuitsD.ctl rfl (fun _=>by rw[stepG_inBlock]) ?_
   | refine QuitsD.ctl rfl (fun _=>by rw[stepG_inLoop]) ?_
   | (rw[cg];refine QuitsD.unwanted rfl rfl ?_;walk_nrm)
   | (rw[cg];refine QuitsD.value _ rfl rfl (by k_ne) (fun _=>by go_simp;(try w_num);(try rfl)) (fun _=>by simp[go_sem, *]) ?_;walk_nrm))
  q_c stepG_end
  exact QuitsD.leaveD rfl rfl H.f_done rfl hcm (fW hT (Nat.le_add_right _ _))
 ·skip
  have hv0:0<v:=by omega
  have eS:IntKind.u64.wrap (((v:Nat)+1)*KK+((1:Nat):Int)+18446744069414584320)=(v:Int)*KK+((1:Nat):Int):=by rw[IntKind.wrap_u64];simp only[KK];omega
  obtain ⟨S,hS⟩:∃S:Int,S=(v:Int)*KK+((1:Nat):Int):=⟨_,rfl⟩
  rw[←hS] at eS ⊢
  have a1:S / 4294967296=(v:Int):=by rw[hS];simp only[KK];omega
  have b1:bits .and .u64 S 2147483648=0:=by rw[hS];have:=st_flag v 1 (by omega) (by omega);simpa [KK] using this
  have b2:bits .and .u64 S 2147483647=1:=by rw[hS];have:=st_waiters v 1 (by omega) (by omega);simpa [KK] using this
  have c1:IntKind.i32.wrap (v:Int)=(v:Int):=by rw[IntKind.wrap_i32];omega
  have q3:decide ((v:Int)<0)=false:=decide_eq_false (by omega)
  have q4:decide (0<(v:Int))=true:=decide_eq_true (by omega)
  have q4':decide (0<v)=true:=decide_eq_true (by omega)
  clear hS
  refine ⟨_,fun w hw=>(stepG_add_atomic rfl rfl (by k_ne) rfl H.f_addU64 (x_addU64_n L) (x_addU64_b L) (x_addU64_x L) .u64 (x_addU64_f L) rfl rfl hw.cellSt (hw.thaw 0)).trans (by rw[eS];rfl),fun hl=>absurd hl.1 (by omega),fun _=>⟨qt+120,?_⟩⟩
  clear eS hv hwt hvp
  walk_nrm
  repeat (first
   | refine QuitsD.ctl rfl (fun _=>by rw[stepG_seq]) ?_
   | refine QuitsD.ctl rfl (fun _=>by rw[stepG_region_end]) ?_
   | (refine QuitsD.ctl rfl (fun _=>by rw[stepG_region]) ?_;simp only[List.size_toArray,List.length_cons,List.length_nil,Nat.reduceAdd,Nat.zero_add,List.range,List.range.loop])
   | (refine QuitsD.ctl rfl (fun _=>by rw[stepG_cond (t:=true) rfl]) ?_;simp only[↓reduceIte])
   | (refine QuitsD.ctl rfl (fun _=>by rw[stepG_cond (t:=false) rfl]) ?_;simp only[Bool.false_eq_true,↓reduceIte])
   | refine QuitsD.ctl rfl (fun _=>by rw[stepG_skip]) ?_
   | refine QuitsD.ctl rfl (fun _=>by rw[stepG_block]) ?_
   | refine QuitsD.ctl rfl (fun _=>by rw[stepG_loop]) ?_
   | refine QuitsD.ctl rfl (fun _=>by rw[stepG_inBlock]) ?_
   | refine QuitsD.ctl rfl (fun _=>by rw[stepG_inLoop]) ?_
   | (rw[cg];refine QuitsD.unwanted rfl rfl ?_;walk_nrm)
   | (rw[cg];refine QuitsD.value _ rfl rfl (by k_ne) (fun _=>by go_simp;(try w_num);(try rfl)) (fun _=>by simp[go_sem, *]) ?_;walk_nrm))
  q_c stepG_ret'
  q_leave1 H.f_uAdd
  repeat (first
   | refine QuitsD.ctl rfl (fun _=>by rw[stepG_seq]) ?_
   | refine QuitsD.ctl rfl (fun _=>by rw[stepG_region_end]) ?_
   | (refine QuitsD.ctl rfl (fun _=>by rw[stepG_region]) ?_;simp only[List.size_toArray,List.length_cons,List.length_nil,Nat.reduceAdd,Nat.zero_add,List.range,List.range.loop])
   | (refine QuitsD.ctl rfl (fun _=>by rw[stepG_cond (t:=true) rfl]) ?_;simp only[↓reduceIte])
   | (refine QuitsD.ctl rfl (fun _=>by rw[stepG_cond (t:=false) rfl]) ?_;simp only[Bool.false_eq_true,↓reduceIte])
   | refine QuitsD.ctl rfl (fun _=>by rw[stepG_skip]) ?_
   | refine QuitsD.ctl rfl (fun _=>by rw[stepG_block]) ?_
   | refine QuitsD.ctl rfl (fun _=>by rw[stepG_loop]) ?_
   | refine QuitsD.ctl rfl (fun _=>by rw[stepG_inBlock]) ?_
   | refine QuitsD.ctl rfl (fun _=>by rw[stepG_inLoop]) ?_
   | (rw[cg];refine QuitsD.unwanted rfl rfl ?_;walk_nrm)
   | (rw[cg];refine QuitsD.value _ rfl rfl (by k_ne) (fun _=>by go_simp;(try w_num);(try rfl)) (fun _=>by simp[go_sem, *]) ?_;walk_nrm))
  q_c stepG_ret'
  q_enable
  q_leave0 H.f_add
  repeat (first
   | refine QuitsD.ctl rfl (fun _=>by rw[stepG_seq]) ?_
   | refine QuitsD.ctl rfl (fun _=>by rw[stepG_region_end]) ?_
   | (refine QuitsD.ctl rfl (fun _=>by rw[stepG_region]) ?_;simp only[List.size_toArray,List.length_cons,List.length_nil,Nat.reduceAdd,Nat.zero_add,List.range,List.range.loop])
   | (refine QuitsD.ctl rfl (fun _=>by rw[stepG_cond (t:=true) rfl]) ?_;simp only[↓reduceIte])
   | (refine QuitsD.ctl rfl (fun _=>by rw[stepG_cond (t:=false) rfl]) ?_;simp only[Bool.false_eq_true,↓reduceIte])
   | refine QuitsD.ctl rfl (fun _=>by rw[stepG_skip]) ?_
   | refine QuitsD.ctl rfl (fun _=>by rw[stepG_block]) ?_
   | refine QuitsD.ctl rfl (fun _=>by rw[stepG_loop]) ?_
   | refine QuitsD.ctl rfl (fun _=>by rw[stepG_inBlock]) ?_
   | refine QuitsD.ctl rfl (fun _=>by rw[stepG_inLoop]) ?_
   | (rw[cg];refine QuitsD.unwanted rfl rfl ?_;walk_nrm)
   | (rw[cg];refine QuitsD.value _ rfl rfl (by k_ne) (fun _=>by go_simp;(try w_num);(try rfl)) (fun _=>by simp[go_sem, *]) ?_;walk_nrm))
  q_c stepG_end
  exact QuitsD.leaveD rfl rfl H.f_done rfl hcm (fW hT (Nat.le_add_right _ _))
end Cs
end Go.Proofs.Ytpdemelchhkfaaa
