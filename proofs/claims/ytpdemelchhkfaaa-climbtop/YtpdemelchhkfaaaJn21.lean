/-
  Several texts, joined: EaB, EaC, CxD, CxE, DzA, DzB.
-/
import Derived.Test.YtpdemelchhkfaaaJn20
import Derived.Test.YtpdemelchhkfaaaJn16
import Derived.Test.YtpdemelchhkfaaaChecked
import Derived.Conc.WgGenN3
import Derived.Test.YtpdemelchhkfaaaJn8
import Derived.Conc.CompanyDraw
import Derived.Test.YtpdemelchhkfaaaJn15
import Derived.Conc.WalkWords
import Derived.Conc.EventLaws
import Derived.Conc.CompanyWords
import Derived.KernelRfl
/-
  climb.Climb, alone, to where its hands begin; and where something is wrong.
-/
namespace Go.Proofs.Ytpdemelchhkfaaa
open Go.RowKit PK
namespace Cs
def cutAt:Nat→Code→Code
 | 0,_=>.skip
 | k+1,.seq a b=>.seq a (cutAt k b)
 | _+1,c=>c
def cutU:Nat→Code→Code
 | 0,_=>.exit 1000000
 | k+1,.seq a b=>.seq a (cutU k b)
 | _+1,c=>c
def restAt:Nat→Code→Code
 | 0,c=>c
 | k+1,.seq _ b=>restAt k b
 | _+1,c=>c
def longOf:Nat→Code→Bool
 | 0,_=>true
 | k+1,.seq _ b=>longOf k b
 | _+1,_=>false
noncomputable def cBody:Code:=Try.f13.body.getD .skip
end Cs
theorem ea_zero {P:Program} {t:TypeId} {z:Value} (h:(P.info? t).map (·.zero)=some (some z)) (w:World):(zeroValue t).run P w=.ok z w:=by
 cases hi:P.info? t with
 | none=>rw[hi] at h;cases h
 | some i =>
  rw[hi] at h
  simp only[Option.map_some,Option.some.injEq] at h
  simp[zeroValue,typeInfo,hi,h,go_sem]
theorem ea_zero_sheet:(Try.prog.info? 66).map (·.zero)=some (some (.agg #[.slice none 0 0,.slice none 0 0])):=by kernel_rfl
theorem ea_info_sheet:(Try.prog.info? 66).map (·.size)=some 2:=by kernel_rfl
def CfP (s:ByteArray) (ta:Option Addr) (tn tc seed tries hands:Nat) (T:Array Value) (W:World):Prop :=
 ∃(v:Nat→Value) (b7 b10 b13:Nat) (pv:Value),T=#[.string s,.slice ta tn tc,.int .u64 (seed:Nat),.int .i64 (tries:Nat),.int .i64 (hands:Nat),v 5,v 6,.pointer (some ⟨b7,0,none⟩),v 8,v 9,.pointer (some ⟨b10,0,none⟩),.int .i64 0,v 12,.pointer (some ⟨b13,0,none⟩),v 14,v 15,v 16,v 17,v 18,v 19,v 20,v 21,v 22,v 23,v 24,v 25,v 26,v 27,v 28,v 29,v 30,v 31,v 32,v 33,v 34,v 35,v 36,v 37,v 38,v 39,v 40,v 41,v 42]∧RowAt W b7 39 #[.int .u64 (seed:Nat)]∧RowAt W b10 43 (ints 28 fun _=>0)∧RowAt W b13 66 #[pv,.slice ta tn tc]∧W.ownsRow 0 79 2 pv (s.size-1) (ints ((s.size-1)*2) (prF s)).toList
def CfE (s:ByteArray) (ta:Option Addr) (tn tc seed tries hands:Nat) (e:Exit) (a:Act) (w':World):Prop:=e=.normal∧a.defers=[]∧CfP s ta tn tc seed tries hands a.tmps w'
theorem owns_zero {W W':World} {N:Nat} {e:TypeId} {sz:Nat} {v:Value} {n:Nat} {xs:List Value} (h:W.ownsRow N e sz v n xs) (hk:∀b,b<W.heap.size→W'.heap[b]? = W.heap[b]?):W'.ownsRow 0 e sz v n xs:=⟨h.1,h.2.elim .inl fun ⟨g,cap,cur,h1,_,h2,h3⟩=>.inr ⟨g,cap,cur,h1,Nat.zero_le _,(hk g (Array.getElem?_eq_some_iff.1 h2).1).trans h2,h3⟩⟩
theorem ea_one {pv:Value} {ta:Option Addr} {tn tc:Nat} (h:pv.oneCell'=true):(#[pv,.slice ta tn tc]:Array Value).all (·.oneCell')=true:=by
 rw[Array.all_eq_true_iff_forall_mem]
 intro v hv
 rw[show (#[pv,.slice ta tn tc]:Array Value)=[pv,.slice ta tn tc].toArray from rfl,List.mem_toArray] at hv
 rcases List.mem_cons.1 hv with rfl | hv
 ·exact h
 ·rcases List.mem_cons.1 hv with rfl | hv
  ·rfl
  ·cases hv
set_option maxRecDepth 100000 in
set_option maxHeartbeats 8000000 in
theorem climb_front (s:ByteArray) (ta:Option Addr) (tn tc seed tries hands:Nat) (f:Nat→Int) (hcw:cwE s.data.toList tn f=0) (ht:1≤tries∧tries≤16) (hh:1≤hands∧hands≤16) (w:World) (hv:NumsAt w (.slice ta tn tc) tn f) :
  (Cs.cutAt 4 Cs.cBody).wp Try.prog (CfE s ta tn tc seed tries hands) ⟨#[.string s,.slice ta tn tc,.int .u64 (seed:Nat),.int .i64 (tries:Nat),.int .i64 (hands:Nat),undef,undef,undef,undef,undef,undef,undef,undef,undef,undef,undef,undef,undef,undef,undef,undef,undef,undef,undef,undef,undef,undef,undef,undef,undef,undef,undef,undef,undef,undef,undef,undef,undef,undef,undef,undef,undef,undef],[]⟩ w:=by
 obtain ⟨hc0,hl,-,-⟩:=cwE_zero hcw
 have hs:=(ls_ofJ hc0).1
 have hl2:s.size≤256:=by have:=Pl.size_len s;omega
 have HC:Hid (∀W,Below w.heap.size w W→Calls Try.prog 28 #[.string s,.slice ta tn tc] W fun e w'=>e=.returned (.int .i64 0)∧Below W.heap.size W w'):=fun W hW=>by
  have:=cw_any s (.slice ta tn tc) tn f W (hv.below hW)
  rw[hcw] at this
  exact this
 have HS:Hid (∀W,Calls Try.prog 30 #[.string s,.slice ta tn tc] W fun e w'=>∃pv,e=.returned (.agg #[pv,.slice ta tn tc])∧w'.ownsRow W.heap.size 79 2 pv (s.size-1) (ints ((s.size-1)*2) (prF s)).toList∧Below W.heap.size W w'):=fun W=>sheet_any s hs hl2 ta tn tc W
 clear hcw hc0 hs hl hl2 hv
 have hz:=ea_zero (P:=Try.prog) ea_zero_sheet
 have hx1:=RowAt.new w 39 #[.int .u64 (seed:Nat)]
 have hx2:=hx1.alloc (.cells (ints 28 fun _=>0) 43)
 have hx3:=RowAt.new (w.alloc (.cells #[.int .u64 (seed:Nat)] 39)) 43 (ints 28 fun _=>0)
 have hbl:=((Below.refl w.heap.size w).alloc (Nat.le_refl _) (.cells #[.int .u64 (seed:Nat)] 39)).alloc (by simp) (.cells (ints 28 fun _=>0) 43)
 rw[show (w.alloc (.cells #[.int .u64 (seed:Nat)] 39)).heap.size=w.heap.size+1 by simp] at hx3
 simp only[Cs.cutAt,Cs.cBody,Try.f13,Option.getD_some]
 go_upto_region 1 with fail
 rw[zero28]
 generalize (w.alloc (.cells #[.int .u64 (seed:Nat)] 39)).alloc (.cells (ints 28 fun _=>0) 43)=W1 at *
 clear hx1
 go_wp2_with fail
 refine Calls.mono (HC.out _ hbl) ?_
 rintro e Y ⟨rfl,hY⟩
 clear HC
 have hx4:=hx2.below hY hx2.lt
 have hx5:=hx3.below hY hx3.lt
 clear hx2 hx3 hbl hY
 have u1:decide ((tries:Int)<1)=false:=decide_eq_false (by omega)
 have u2:decide (16<(tries:Int))=false:=decide_eq_false (by omega)
 have u3:decide ((hands:Int)<1)=false:=decide_eq_false (by omega)
 have u4:decide (16<(hands:Int))=false:=decide_eq_false (by omega)
 have u5:decide (tries<1)=false:=decide_eq_false (by omega)
 have u6:decide (16<tries)=false:=decide_eq_false (by omega)
 have u7:decide (hands<1)=false:=decide_eq_false (by omega)
 have u8:decide (16<hands)=false:=decide_eq_false (by omega)
 have u9:¬tries=0:=by omega
 have u10:¬hands=0:=by omega
 have HX4:=(show Hid (RowAt Y w.heap.size 39 #[.int .u64 (seed:Nat)]) from hx4)
 have HX5:=(show Hid (RowAt Y (w.heap.size+1) 43 (ints 28 fun _=>0)) from hx5)
 clear hx4 hx5 ht hh
 go_wp2_with fail
 refine Calls.mono (HS.out _) ?_
 rintro e Z ⟨pv,rfl,ho,hZ⟩
 have HF4:=(show Hid (RowAt Z w.heap.size 39 #[.int .u64 (seed:Nat)]) from HX4.out.below hZ HX4.out.lt)
 have HF5:=(show Hid (RowAt Z (w.heap.size+1) 43 (ints 28 fun _=>0)) from HX5.out.below hZ HX5.out.lt)
 clear HX4 HX5 HS hZ
 have hr:=RowAt.new Z 66 #[.slice none 0 0,.slice none 0 0]
 have HG4:=(show Hid (RowAt (Z.alloc (.cells #[.slice none 0 0,.slice none 0 0] 66)) w.heap.size 39 #[.int .u64 (seed:Nat)]) from HF4.out.alloc (.cells #[.slice none 0 0,.slice none 0 0] 66))
 have HG5:=(show Hid (RowAt (Z.alloc (.cells #[.slice none 0 0,.slice none 0 0] 66)) (w.heap.size+1) 43 (ints 28 fun _=>0)) from HF5.out.alloc (.cells #[.slice none 0 0,.slice none 0 0] 66))
 have HO:=(show Hid (World.ownsRow _ 0 79 2 pv (s.size-1) (ints ((s.size-1)*2) (prF s)).toList) from owns_zero (W':=(Z.alloc (.cells #[.slice none 0 0,.slice none 0 0] 66)).setRow Z.heap.size #[pv,.slice ta tn tc]) ho (fun b hb=>by rw[setRow_other _ _ _ _ (by omega)];exact Below.heap_alloc Z _ b hb))
 have h1c:pv.oneCell'=true:=by rcases ho.2 with ⟨rfl,_⟩ | ⟨_,_,_,rfl,_⟩ <;> rfl
 have lt4:=HF4.out.lt
 have lt5:=HF5.out.lt
 clear HF4 HF5 ho
 go_wp2_with (first | refine wpList_store_row rfl 66 _ _ rfl Z.heap.size #[pv,.slice ta tn tc] rfl rfl 66 _ hr ea_info_sheet rfl (ea_one h1c) ?_)
 exact ⟨rfl,rfl,fun i=>([undef,undef,undef,undef,undef,_,_,undef,_,_,undef,undef,_,undef,_,_,_,_,_,_,_,_,_,_,_,_,_,_,_,_,_,_,_,_,_,_,_,_,_,_,_,_,_]:List Value).getD i undef,_,_,_,pv,rfl,HG4.out.rowOther _ _ (by omega),HG5.out.rowOther _ _ (by omega),hr.row _,HO.out⟩
end Go.Proofs.Ytpdemelchhkfaaa

/-
  climb.Climb, alone, where something is wrong.
-/
namespace Go.Proofs.Ytpdemelchhkfaaa
open Go.RowKit PK
def ceE (l:List UInt8) (n:Nat) (f:Nat→Int) (tries hands:Int):Int:=if cwE l n f≠0 then cwE l n f else if tries<1∨16<tries∨hands<1∨16<hands then 3 else 0
theorem ea_built28:Try.prog.built 43 []=some (ints 28 fun _=>0):=by kernel_rfl
theorem ea_info28:(Try.prog.info? 43).map (·.size)=some 28:=by kernel_rfl
namespace Cs
theorem uc_cut:∀{k:Nat} {c:Code},longOf k c=true→UC (restAt k c) (cutU k c) c
 | 0,_,_=>.out
 | k+1,.seq a b,h=>.seq a (uc_cut (k:=k) (c:=b) h)
 | _+1,.skip,h | _+1,.region _ _ _,h | _+1,.cond _ _ _,h | _+1,.block _ _,h | _+1,.loop _,h | _+1,.scope _,h | _+1,.label _,h | _+1,.exit _,h | _+1,.goto _,h | _+1,.ret,h | _+1,.rangeFunc _ _ _ _,h | _+1,.refuse _,h=>by cases h
theorem tc_cut:∀{k:Nat} {c:Code},longOf k c=true→TC (restAt k c) (cutAt k c) c
 | 0,_,_=>.skip
 | k+1,.seq a b,h=>.seq a (tc_cut (k:=k) (c:=b) h)
 | _+1,.skip,h | _+1,.region _ _ _,h | _+1,.cond _ _ _,h | _+1,.block _ _,h | _+1,.loop _,h | _+1,.scope _,h | _+1,.label _,h | _+1,.exit _,h | _+1,.goto _,h | _+1,.ret,h | _+1,.rangeFunc _ _ _ _,h | _+1,.refuse _,h=>by cases h
theorem c_long:longOf 4 cBody=true:=by kernel_rfl
theorem c_ok:codeOk Try.prog (cutAt 4 cBody)=true:=by kernel_rfl
theorem cu_ok:codeOk Try.prog (cutU 4 cBody)=true:=by kernel_rfl
end Cs
set_option maxRecDepth 100000 in
set_option maxHeartbeats 8000000 in
theorem pclimb_cut (s:ByteArray) (ta:Option Addr) (tn tc seed:Nat) (tries hands:Int) (f:Nat→Int) (hE:ceE s.data.toList tn f tries hands≠0) (w:World) (hv:NumsAt w (.slice ta tn tc) tn f) :
  (Cs.cutU 4 Cs.cBody).wp Try.prog (bodyPost Try.prog Try.f13 (Cs.PostE fun u w'=>u=.tuple #[.agg (ints 28 fun _=>0),.int .i64 (ceE s.data.toList tn f tries hands)]∧Below w.heap.size w w')) ⟨#[.string s,.slice ta tn tc,.int .u64 (seed:Nat),.int .i64 tries,.int .i64 hands,undef,undef,undef,undef,undef,undef,undef,undef,undef,undef,undef,undef,undef,undef,undef,undef,undef,undef,undef,undef,undef,undef,undef,undef,undef,undef,undef,undef,undef,undef,undef,undef,undef,undef,undef,undef,undef,undef],[]⟩ w:=by
 have HC:Hid (∀W,Below w.heap.size w W→Calls Try.prog 28 #[.string s,.slice ta tn tc] W fun e w'=>e=.returned (.int .i64 (cwE s.data.toList tn f))∧Below W.heap.size W w'):=fun W hW=>cw_any s (.slice ta tn tc) tn f W (hv.below hW)
 have HEE:Hid (ceE s.data.toList tn f tries hands=if cwE s.data.toList tn f≠0 then cwE s.data.toList tn f else if tries<1∨16<tries∨hands<1∨16<hands then 3 else 0):=rfl
 generalize ceE s.data.toList tn f tries hands=CE at *
 generalize cwE s.data.toList tn f=FE at *
 clear hv
 have hx1:=RowAt.new w 39 #[.int .u64 (seed:Nat)]
 have hx3:=RowAt.new (w.alloc (.cells #[.int .u64 (seed:Nat)] 39)) 43 (ints 28 fun _=>0)
 have hbl:=((Below.refl w.heap.size w).alloc (Nat.le_refl _) (.cells #[.int .u64 (seed:Nat)] 39)).alloc (by simp) (.cells (ints 28 fun _=>0) 43)
 rw[show (w.alloc (.cells #[.int .u64 (seed:Nat)] 39)).heap.size=w.heap.size+1 by simp] at hx3
 simp only[Cs.cutU,Cs.cBody,Try.f13,Option.getD_some]
 go_upto_region 1 with fail
 rw[zero28]
 generalize (w.alloc (.cells #[.int .u64 (seed:Nat)] 39)).alloc (.cells (ints 28 fun _=>0) 43)=W1 at *
 clear hx1
 go_wp2_with fail
 refine Calls.mono (HC.out _ hbl) ?_
 rintro e Y ⟨rfl,hY⟩
 clear HC
 have HX5:=(show Hid (RowAt Y (w.heap.size+1) 43 (ints 28 fun _=>0)) from hx3.below hY hx3.lt)
 have HY:Hid (Below w.heap.size w Y):=hbl.trans (hY.mono hbl.size)
 clear hx3 hbl hY
 by_cases h0:FE=0
 ·subst h0
  have hor:tries<1∨16<tries∨hands<1∨16<hands:=by
   refine Classical.byContradiction fun hn=>hE ?_
   rw[HEE.out,if_neg (by simp),if_neg hn]
  have HX:Hid (CE=3):=HEE.out.trans ((if_neg (by simp)).trans (if_pos hor))
  clear HEE hE
  by_cases a1:tries<1
  ·have da1:decide (tries<1)=true:=decide_eq_true a1
   clear hor
   go_wp2_with (first | refine wpList_build0 rfl 43 rfl (ints 28 fun _=>0) ea_built28 ?_ | refine wpList_store_row rfl 43 _ _ rfl (w.heap.size+1) (ints 28 fun _=>0) rfl rfl 43 _ HX5.out (by rw[ints_size];exact ea_info28) (by simp only[ints_size]) (ints_one _ _) ?_)
   exact bodyPost_ret (v:=.tuple #[.agg (ints 28 fun _=>0),.int .i64 3]) (results_cell_tmp2 rfl _ _ (w.heap.size+1) 43 _ (0,0) _ _ rfl rfl (HX5.out.row _) Try.underlying43 rfl (by rw[ints_size];exact ea_info28)) rfl ⟨_,rfl,by rw[HX.out],Below.setRow HY.out _ (Nat.le_succ _) _⟩
  ·by_cases a2:16<tries
   ·have da1:decide (tries<1)=false:=decide_eq_false a1
    have da2:decide (16<tries)=true:=decide_eq_true a2
    clear hor
    go_wp2_with (first | refine wpList_build0 rfl 43 rfl (ints 28 fun _=>0) ea_built28 ?_ | refine wpList_store_row rfl 43 _ _ rfl (w.heap.size+1) (ints 28 fun _=>0) rfl rfl 43 _ HX5.out (by rw[ints_size];exact ea_info28) (by simp only[ints_size]) (ints_one _ _) ?_)
    exact bodyPost_ret (v:=.tuple #[.agg (ints 28 fun _=>0),.int .i64 3]) (results_cell_tmp2 rfl _ _ (w.heap.size+1) 43 _ (0,0) _ _ rfl rfl (HX5.out.row _) Try.underlying43 rfl (by rw[ints_size];exact ea_info28)) rfl ⟨_,rfl,by rw[HX.out],Below.setRow HY.out _ (Nat.le_succ _) _⟩
   ·by_cases a3:hands<1
    ·have da1:decide (tries<1)=false:=decide_eq_false a1
     have da2:decide (16<tries)=false:=decide_eq_false a2
     have da3:decide (hands<1)=true:=decide_eq_true a3
     clear hor
     go_wp2_with (first | refine wpList_build0 rfl 43 rfl (ints 28 fun _=>0) ea_built28 ?_ | refine wpList_store_row rfl 43 _ _ rfl (w.heap.size+1) (ints 28 fun _=>0) rfl rfl 43 _ HX5.out (by rw[ints_size];exact ea_info28) (by simp only[ints_size]) (ints_one _ _) ?_)
     exact bodyPost_ret (v:=.tuple #[.agg (ints 28 fun _=>0),.int .i64 3]) (results_cell_tmp2 rfl _ _ (w.heap.size+1) 43 _ (0,0) _ _ rfl rfl (HX5.out.row _) Try.underlying43 rfl (by rw[ints_size];exact ea_info28)) rfl ⟨_,rfl,by rw[HX.out],Below.setRow HY.out _ (Nat.le_succ _) _⟩
    ·have a4:16<hands:=by omega
     have da1:decide (tries<1)=false:=decide_eq_false a1
     have da2:decide (16<tries)=false:=decide_eq_false a2
     have da3:decide (hands<1)=false:=decide_eq_false a3
     have da4:decide (16<hands)=true:=decide_eq_true a4
     clear hor
     go_wp2_with (first | refine wpList_build0 rfl 43 rfl (ints 28 fun _=>0) ea_built28 ?_ | refine wpList_store_row rfl 43 _ _ rfl (w.heap.size+1) (ints 28 fun _=>0) rfl rfl 43 _ HX5.out (by rw[ints_size];exact ea_info28) (by simp only[ints_size]) (ints_one _ _) ?_)
     exact bodyPost_ret (v:=.tuple #[.agg (ints 28 fun _=>0),.int .i64 3]) (results_cell_tmp2 rfl _ _ (w.heap.size+1) 43 _ (0,0) _ _ rfl rfl (HX5.out.row _) Try.underlying43 rfl (by rw[ints_size];exact ea_info28)) rfl ⟨_,rfl,by rw[HX.out],Below.setRow HY.out _ (Nat.le_succ _) _⟩
 ·have HX:Hid (CE=FE):=HEE.out.trans (if_pos h0)
  have hb0:(FE != 0)=true:=by simpa using h0
  clear HEE hE
  go_wp2_with (first | refine wpList_build0 rfl 43 rfl (ints 28 fun _=>0) ea_built28 ?_ | refine wpList_store_row rfl 43 _ _ rfl (w.heap.size+1) (ints 28 fun _=>0) rfl rfl 43 _ HX5.out (by rw[ints_size];exact ea_info28) (by simp only[ints_size]) (ints_one _ _) ?_)
  exact bodyPost_ret (v:=.tuple #[.agg (ints 28 fun _=>0),.int .i64 FE]) (results_cell_tmp2 rfl _ _ (w.heap.size+1) 43 _ (0,0) _ _ rfl rfl (HX5.out.row _) Try.underlying43 rfl (by rw[ints_size];exact ea_info28)) rfl ⟨_,rfl,by rw[HX.out],Below.setRow HY.out _ (Nat.le_succ _) _⟩
end Go.Proofs.Ytpdemelchhkfaaa

/-
  The program holds sync.WaitGroup's functions.
-/
namespace Go.Proofs.Ytpdemelchhkfaaa.Cs
open Go.Conc
abbrev wgL:Go.Conc.Lib.WgLink:={ add:=45,done:=47,wait:=49,relMerge:=59,disable:=60,enable:=61,inBubble:=62,associate:=63,fatal:=64,uOr:=65,uAdd:=66,raceRead:=67,uLoad:=68,uStore:=69,disassociate:=70,semrelease:=71,acquire:=73,isAssociated:=74,uCas:=75,raceWrite:=76,semacquire:=77,orU64:=81,addU64:=82,loadU64:=83,storeU64:=84,casU64:=85,tWgP:=108,tUP:=110,tAssoc:=111,tWg:=91,tAU:=88,tU64:=39,tUint:=32,tU32:=89,tPU32:=115,tPAU:=130,tPU64:=132,tNoCopy:=86,tANoCopy:=82,tAlign64:=83 }
theorem wgLib:Go.Conc.Lib.WgLib Try.prog wgL :=
 ⟨Try.func45,Try.func47,Try.func49,Try.func59,Try.func60,Try.func61,Try.func62,Try.func63,Try.func64,Try.func65,Try.func66,Try.func67,Try.func68,Try.func69,Try.func70,Try.func71,Try.func73,Try.func74,Try.func75,Try.func76,Try.func77,Try.func81,Try.func82,Try.func83,Try.func84,Try.func85,Try.underlying108,Try.runUnderlying108,Try.sizeOf108,Try.isAgg108,Try.zeroValue108,Try.underlying110,Try.runUnderlying110,Try.sizeOf110,Try.isAgg110,Try.zeroValue110,Try.underlying111,Try.runUnderlying111,Try.sizeOf111,Try.isAgg111,Try.zeroValue111,Try.underlying91,Try.runUnderlying91,Try.sizeOf91,Try.isAgg91,Try.zeroValue91,Try.underlying88,Try.runUnderlying88,Try.sizeOf88,Try.isAgg88,Try.zeroValue88,Try.underlying39,Try.runUnderlying39,Try.sizeOf39,Try.isAgg39,Try.zeroValue39,Try.underlying32,Try.runUnderlying32,Try.sizeOf32,Try.isAgg32,Try.zeroValue32,Try.underlying89,Try.runUnderlying89,Try.sizeOf89,Try.isAgg89,Try.zeroValue89,Try.underlying115,Try.runUnderlying115,Try.sizeOf115,Try.isAgg115,Try.zeroValue115,Try.underlying130,Try.runUnderlying130,Try.sizeOf130,Try.isAgg130,Try.zeroValue130,Try.underlying132,Try.runUnderlying132,Try.sizeOf132,Try.isAgg132,Try.zeroValue132,Try.underlying0,Try.runUnderlying0,Try.sizeOf0,Try.isAgg0,Try.zeroValue0,Try.underlying3,Try.runUnderlying3,Try.sizeOf3,Try.isAgg3,Try.zeroValue3,Try.underlying4,Try.runUnderlying4,Try.sizeOf4,Try.isAgg4,Try.zeroValue4,Try.underlying9,Try.runUnderlying9,Try.sizeOf9,Try.isAgg9,Try.zeroValue9,Try.underlying20,Try.runUnderlying20,Try.sizeOf20,Try.isAgg20,Try.zeroValue20,Try.underlying21,Try.runUnderlying21,Try.sizeOf21,Try.isAgg21,Try.zeroValue21,by kernel_rfl,by kernel_rfl⟩
end Go.Proofs.Ytpdemelchhkfaaa.Cs

/-
  A region that draws its order: the orders that come up, as lists in which each operation is ready when its turn comes.
-/
namespace Go.Proofs.Ytpdemelchhkfaaa.Cs
open Go.Conc
inductive Ords (md:Region.Mode) (ops:Array Oper):Array Bool→List Nat→Prop
 | nil {l:Array Bool} (h:l.toList.count false=0):Ords md ops l []
 | cons {l:Array Bool} {i:Nat} {r:List Nat} (h:i ∈ Region.ready md ops l) (hs:i<l.size) (t:Ords md ops (l.setIfInBounds i true) r):Ords md ops l (i :: r)
def LowEdges (ops:Array Oper):Bool:=(List.range ops.size).all fun i=>((ops[i]?).map (·.after.all fun e=>decide (e.on<i))).getD true
theorem low_edges {ops:Array Oper} (h:LowEdges ops=true) {i:Nat} {o:Oper} (ho:ops[i]? = some o):∀e ∈ o.after,e.on<i:=by
 intro e he
 unfold LowEdges at h
 rw[List.all_eq_true] at h
 have h1:=h i (by rw[List.mem_range];exact (Array.getElem?_eq_some_iff.1 ho).1)
 rw[ho] at h1
 simp only[Option.map_some,Option.getD_some,Array.all_eq_true'] at h1
 exact of_decide_eq_true (h1 e he)
theorem least_false:∀(l:List Bool),l.count false≠0→∃i:Nat,l[i]? = some false∧∀j,j<i→l[j]? = some true
 | [],h=>absurd rfl h
 | false :: l,_=>⟨0,rfl,fun j hj=>absurd hj (by omega)⟩
 | true :: l,h=>by
  obtain ⟨i,hi,hj⟩:=least_false l (by simpa using h)
  refine ⟨i+1,by simpa using hi,fun j h'=>?_⟩
  cases j with
  | zero=>rfl
  | succ j=>simpa using hj j (by omega)
theorem some_ready {md:Region.Mode} {ops:Array Oper} (hl:LowEdges ops=true) {l:Array Bool} (hs:l.size=ops.size) (h:l.toList.count false≠0):Region.ready md ops l≠[]:=by
 obtain ⟨i,hi,hj⟩:=least_false l.toList h
 have hi':l[i]? = some false:=by rw[←hi];simp
 have hlt:i<ops.size:=by rw[←hs];exact (Array.getElem?_eq_some_iff.1 hi').1
 have:i ∈ Region.ready md ops l:=mem_ready.2 ⟨by simp[Array.getD_eq_getD_getElem?,hi'],ops[i],by simp[hlt],fun e he _=>by
  have hb:=low_edges hl (show ops[i]? = some ops[i] by simp[hlt]) e he
  have h1:=hj e.on hb
  have h2:l[e.on]? = some true:=by rw[←h1];simp
  simp[Array.getD_eq_getD_getElem?,h2]⟩
 intro hn
 rw[hn] at this
 simp at this
theorem ords_go {md:Region.Mode} {ops:Array Oper} (hl:LowEdges ops=true):∀(fuel t:Nat) (l:Array Bool),l.size=ops.size→l.toList.count false=fuel→Ords md ops l (Region.linearise.go md ops fuel t l []):=by
 intro fuel
 induction fuel with
 | zero=>intro t l _ h;exact .nil h
 | succ fuel ih =>
  intro t l hs h
  have hne:=some_ready (md:=md) hl hs (by omega)
  simp only[Region.linearise.go]
  change Ords md ops l (match (Region.ready md ops l)[t % (Region.ready md ops l).length]? with
   | some i=>Region.linearise.go md ops fuel (t / (Region.ready md ops l).length) (l.setIfInBounds i true) [i]
   | none=>[].reverse)
  have hlen:0<(Region.ready md ops l).length:=List.length_pos_iff.2 hne
  cases hi:(Region.ready md ops l)[t % (Region.ready md ops l).length]? with
  | none =>
   have:=List.getElem?_eq_none_iff.1 hi
   have:=Nat.mod_lt t hlen
   omega
  | some i =>
   simp only[]
   rw[linearise_go_acc,List.reverse_singleton,List.singleton_append]
   have hm:=List.mem_of_getElem? hi
   obtain ⟨h1,o,ho,_⟩:=mem_ready.1 hm
   have hlt:i<l.size:=by rw[hs];exact (Array.getElem?_eq_some_iff.1 ho).1
   have hf:l.toList[i]? = some false:=by
    have:l[i]? = some l[i]:=by simp[hlt]
    rw[Array.getD_eq_getD_getElem?,this] at h1
    have h2:l[i]=false:=by simpa using h1
    rw[h2] at this
    rw[←this]
    simp
   refine .cons hm hlt (ih _ _ (by simp[hs]) ?_)
   rw[Array.toList_setIfInBounds]
   have hlt':i<l.toList.length:=by simpa using hlt
   rw[List.count_set hlt']
   have e1:l.toList[i]=false:=(List.getElem?_eq_some_iff.1 hf).2
   simp only[e1,beq_self_eq_true,↓reduceIte]
   simp
   simp at h
   omega
theorem ords_schedule {mixed:Bool} {ops:Array Oper} (hl:LowEdges ops=true) (t:Nat):∃md,Ords md ops (Array.replicate ops.size false) (Region.schedule mixed ops t):=by
 have h0:(Array.replicate ops.size false).toList.count false=ops.size:=by simp
 unfold Region.schedule Region.linearise
 split
 ·exact ⟨_,ords_go hl _ _ _ (by simp) h0⟩
 ·exact ⟨_,ords_go hl _ _ _ (by simp) h0⟩
end Go.Proofs.Ytpdemelchhkfaaa.Cs

/-
  climb's board, told of; the region of tell that compares, in whatever order.
-/
namespace Go.Proofs.Ytpdemelchhkfaaa.Cs
open Go.Conc PK
structure Bd where
 key:Nat→Int
 sc:Int
 tr:Int
def bdF (b:Bd) (i:Nat):Int:=if i<26 then b.key i else if i=26 then b.sc else b.tr
def eBd (b:Bd) (i:Nat):Value:=.int .i64 (bdF b (i-2))
def upB (K:Nat→Nat→Int) (Z:Nat→Int) (b:Bd) (k:Nat):Bd:=if b.sc<Z k∨(Z k=b.sc∧((k:Nat):Int)<b.tr) then ⟨K k,Z k,(k:Nat)⟩ else b
theorem upB_comm (K:Nat→Nat→Int) (Z:Nat→Int) (b:Bd) (j k:Nat) (h:j≠k):upB K Z (upB K Z b j) k=upB K Z (upB K Z b k) j:=by
 unfold upB
 by_cases h1:b.sc<Z j∨(Z j=b.sc∧((j:Nat):Int)<b.tr)
 ·by_cases h2:b.sc<Z k∨(Z k=b.sc∧((k:Nat):Int)<b.tr)
  ·rw[if_pos h1,if_pos h2]
   by_cases h3:Z j<Z k∨(Z k=Z j∧((k:Nat):Int)<((j:Nat):Int))
   ·rw[if_pos h3,if_neg (by show ¬(Z k<Z j∨(Z j=Z k∧((j:Nat):Int)<((k:Nat):Int)));omega)]
   ·rw[if_neg h3,if_pos (by show Z k<Z j∨(Z j=Z k∧((j:Nat):Int)<((k:Nat):Int));omega)]
  ·rw[if_pos h1,if_neg h2,if_pos h1,if_neg (by show ¬(Z j<Z k∨(Z k=Z j∧((k:Nat):Int)<((j:Nat):Int)));omega)]
 ·by_cases h2:b.sc<Z k∨(Z k=b.sc∧((k:Nat):Int)<b.tr)
  ·rw[if_neg h1,if_pos h2,if_neg (by show ¬(Z k<Z j∨(Z j=Z k∧((j:Nat):Int)<((k:Nat):Int)));omega)]
  ·rw[if_neg h1,if_neg h2,if_neg h1]
def rowF (K:Nat→Nat→Int) (Z:Nat→Int) (k:Nat):Nat→Int:=bdF ⟨K k,Z k,(k:Nat)⟩
noncomputable def tO:Array Oper:=match Try.f54.body.getD .skip with | .seq _ (.seq _ (.seq _ (.seq (.region _ o _) _)))=>o | _=>#[]
theorem tO_low:LowEdges tO=true:=by kernel_rfl
theorem tO_size:tO.size=28:=by kernel_rfl
def tV (fd q:Nat) (S bs bt kk:Int) (g e l:Bool):Nat→Value
 | 0=>.pointer (some ⟨q,26,none⟩)
 | 1=>.int .i64 S
 | 2=>.pointer (some ⟨fd,0,none⟩)
 | 3=>.pointer (some ⟨fd,0,none⟩)
 | 4=>.pointer (some ⟨fd,2,none⟩)
 | 5=>.pointer (some ⟨fd,28,none⟩)
 | 6=>.int .i64 bs
 | 7=>.bool g
 | 8=>.bool g
 | 9=>(if g=true then undef else .pointer (some ⟨q,26,none⟩))
 | 10=>(if g=true then undef else .int .i64 S)
 | 11=>(if g=true then undef else .pointer (some ⟨fd,0,none⟩))
 | 12=>(if g=true then undef else .pointer (some ⟨fd,0,none⟩))
 | 13=>(if g=true then undef else .pointer (some ⟨fd,2,none⟩))
 | 14=>(if g=true then undef else .pointer (some ⟨fd,28,none⟩))
 | 15=>(if g=true then undef else .int .i64 bs)
 | 16=>(if g=true then undef else .bool e)
 | 17=>(if g=true then undef else .bool e)
 | 18=>(if g=true then undef else if e=true then .pointer (some ⟨q,27,none⟩) else undef)
 | 19=>(if g=true then undef else if e=true then .int .i64 kk else undef)
 | 20=>(if g=true then undef else if e=true then .pointer (some ⟨fd,0,none⟩) else undef)
 | 21=>(if g=true then undef else if e=true then .pointer (some ⟨fd,0,none⟩) else undef)
 | 22=>(if g=true then undef else if e=true then .pointer (some ⟨fd,2,none⟩) else undef)
 | 23=>(if g=true then undef else if e=true then .pointer (some ⟨fd,29,none⟩) else undef)
 | 24=>(if g=true then undef else if e=true then .int .i64 bt else undef)
 | 25=>(if g=true then undef else if e=true then .bool l else undef)
 | 26=>(if g=true then undef else .bool (e && l))
 | 27=>.bool (g || (e && l))
 | _=>undef
structure TlI (V:Nat→Value) (fd q:Nat) (l:Array Bool) (T:Array Value):Prop where
 size:T.size=43
 ls:l.size=28
 t0:T[0]? = some (.pointer (some ⟨fd,0,none⟩))
 t3:T[3]? = some (.pointer (some ⟨q,0,none⟩))
 done:∀d,d<28→l.getD d false=true→T[d+11]? = some (V d)
structure TW3 (fd q:Nat) (S bs bt kk:Int) (w:World):Prop where
 s:w.cell? ⟨q,26,none⟩=some (.int .i64 S)
 k:w.cell? ⟨q,27,none⟩=some (.int .i64 kk)
 bs:w.cell? ⟨fd,28,none⟩=some (.int .i64 bs)
 bt:w.cell? ⟨fd,29,none⟩=some (.int .i64 bt)
def EvT (fd q:Nat) (e:Event):Prop:=(∃a:Addr,e=⟨.cell a,false,false⟩∧a.block=q)∨∃o,2≤o∧e=⟨.cell ⟨fd,o,none⟩,false,false⟩
section
variable {V:Nat→Value} {fd q:Nat} {l:Array Bool} {T:Array Value}
theorem TlI.put (h:TlI V fd q l T) {i:Nat} (hi:i<28) {v:Value} (hv:v=V i):TlI V fd q (l.setIfInBounds i true) (T.setIfInBounds (i+11) v):=by
 subst hv
 have hs:=h.size
 have hl:=h.ls
 refine ⟨by simp[hs],by simp[hl],?_,?_,fun d hd hld=>?_⟩
 ·rw[Array.getElem?_setIfInBounds_ne (by omega)];exact h.t0
 ·rw[Array.getElem?_setIfInBounds_ne (by omega)];exact h.t3
 ·by_cases e:d=i
  ·subst e
   rw[Array.getElem?_setIfInBounds_self_of_lt (by omega)]
  ·rw[Array.getElem?_setIfInBounds_ne (by omega)]
   refine h.done d hd ?_
   rw[Array.getD_eq_getD_getElem?,Array.getElem?_setIfInBounds_ne (by omega)] at hld
   rw[Array.getD_eq_getD_getElem?]
   exact hld
theorem tready_on {md:Region.Mode} {i j:Nat} (h:i ∈ Region.ready md tO l) (hj:((tO[i]?).map (·.after.any fun e=>decide (e.on=j) && (match e.ground with | .textOnly _=>false | .gcOnly _=>false | _=>true))).getD false=true):l.getD j false=true:=by
 obtain ⟨_,o,ho,he⟩:=mem_ready.1 h
 rw[ho] at hj
 simp only[Option.map_some,Option.getD_some,Array.any_eq_true'] at hj
 obtain ⟨e,hm,h2⟩:=hj
 rw[Bool.and_eq_true] at h2
 rw[←of_decide_eq_true h2.1]
 refine he e hm ?_
 have h3:=h2.2
 unfold Region.binds
 split at h3 <;> simp_all
theorem oper_t {P:Program} {main:Bool} {ops:Array Oper} {i:Nat} {o:Oper} {d:Nat} {v:Value} {ds:List Deferred} {b:Frame} {rest:List Nat} {kk:List Item} {cs:List Frame} {w:World} (ho:ops[i]? = some o) (hg:Region.wanted o (yielded ops T)=true) (hb:b.kind≠.early) (hd:o.dst=some d) (hr:(execOp (Act.eval ⟨T,ds⟩) o).run P w=.ok (.value v) w) (he:∀e ∈ (execOp (Act.eval ⟨T,ds⟩) o).events P w #[],EvT fd q e) :
  ∃es,stepG P main (G (b.at ⟨T,ds⟩ (.inRegion ops (i :: rest) :: kk)) cs) w=.go (G (b.at ⟨T.setIfInBounds d v,ds⟩ (.inRegion ops rest :: kk)) cs) w es∧∀e ∈ es,EvT fd q e :=
 ⟨_,by rw[stepG_value ho hg hb hr,hd];rfl,fun e h=>he e (mem_listed h)⟩
theorem oper_u {P:Program} {main:Bool} {ops:Array Oper} {i:Nat} {o:Oper} {d:Nat} {ds:List Deferred} {b:Frame} {rest:List Nat} {kk:List Item} {cs:List Frame} {w:World} (ho:ops[i]? = some o) (hg:Region.wanted o (yielded ops T)=false) (hd:o.dst=some d) :
  ∃es,stepG P main (G (b.at ⟨T,ds⟩ (.inRegion ops (i :: rest) :: kk)) cs) w=.go (G (b.at ⟨T.setIfInBounds d undef,ds⟩ (.inRegion ops rest :: kk)) cs) w es∧∀e ∈ es,EvT fd q e :=
 ⟨_,by rw[stepG_unwanted ho hg,hd];rfl,fun e h=>by simp at h⟩
theorem guard_of {j d:Nat} {want:Bool} {o:Oper} {v:Value} (hg:o.guard=some (j,want)) (hd:((tO[j]?).bind (·.dst))=some d) (hT:T[d]? = some v):Region.wanted o (yielded tO T)=((match v with | .bool b=>some b | _=>none)==some want):=by
 have hy:yielded tO T j=(match v with | .bool b=>some b | _=>none):=by
  unfold yielded
  have h2:((tO[j]?).bind (·.dst)).bind (T[·]?)=some v:=by rw[hd];exact hT
  rw[h2]
  cases v <;> rfl
 unfold Region.wanted
 rw[hg]
 show (yielded tO T j==some want)=_
 rw[hy]
end
end Go.Proofs.Ytpdemelchhkfaaa.Cs

/-
  tell's comparing region: an operation each.
-/
namespace Go.Proofs.Ytpdemelchhkfaaa.Cs
open Go.Conc PK
section
variable {fd q:Nat} {S bs bt kt:Int} {g e l9:Bool} {md:Region.Mode} {l:Array Bool} {T:Array Value} {ds:List Deferred} {b:Frame} {rest:List Nat} {kk:List Item} {cs:List Frame} {w:World}
set_option maxRecDepth 100000 in
theorem t_step0 (_hb:b.kind≠.early) (_hg:g=decide (bs<S)) (_he:e=decide (S=bs)) (_hl:l9=decide (kt<bt)) (h:TlI (tV fd q S bs bt kt g e l9) fd q l T) (_hw:TW3 fd q S bs bt kt w) (_hr:0 ∈ Region.ready md tO l) :
  ∃es,stepG Try.prog false (G (b.at ⟨T,ds⟩ (.inRegion tO (0 :: rest) :: kk)) cs) w=.go (G (b.at ⟨T.setIfInBounds 11 (tV fd q S bs bt kt g e l9 0),ds⟩ (.inRegion tO rest :: kk)) cs) w es∧∀e ∈ es,EvT fd q e:=by
 have z:=h.t3
 refine oper_t (o:=tO.getD 0 default) rfl rfl _hb rfl ?_ (fun x hx=>?_)
 ·simp[execOp,go_sem,tO,Try.f54,tV,z]
 ·simp[execOp,go_sem,tO,Try.f54,z] at hx
set_option maxRecDepth 100000 in
theorem t_step1 (_hb:b.kind≠.early) (_hg:g=decide (bs<S)) (_he:e=decide (S=bs)) (_hl:l9=decide (kt<bt)) (h:TlI (tV fd q S bs bt kt g e l9) fd q l T) (_hw:TW3 fd q S bs bt kt w) (_hr:1 ∈ Region.ready md tO l) :
  ∃es,stepG Try.prog false (G (b.at ⟨T,ds⟩ (.inRegion tO (1 :: rest) :: kk)) cs) w=.go (G (b.at ⟨T.setIfInBounds 12 (tV fd q S bs bt kt g e l9 1),ds⟩ (.inRegion tO rest :: kk)) cs) w es∧∀e ∈ es,EvT fd q e:=by
 have n0:=h.done 0 (by omega) (tready_on _hr (by kernel_rfl))
 simp only[tV] at n0
 have f:=_hw.s
 refine oper_t (o:=tO.getD 1 default) rfl rfl _hb rfl ?_ (fun x hx=>?_)
 ·simp[execOp,go_sem,tO,Try.f54,tV,n0,f]
 ·simp[execOp,go_sem,tO,Try.f54,n0,f] at hx
  subst hx
  exact .inl ⟨_,rfl,rfl⟩
set_option maxRecDepth 100000 in
theorem t_step2 (_hb:b.kind≠.early) (_hg:g=decide (bs<S)) (_he:e=decide (S=bs)) (_hl:l9=decide (kt<bt)) (h:TlI (tV fd q S bs bt kt g e l9) fd q l T) (_hw:TW3 fd q S bs bt kt w) (_hr:2 ∈ Region.ready md tO l) :
  ∃es,stepG Try.prog false (G (b.at ⟨T,ds⟩ (.inRegion tO (2 :: rest) :: kk)) cs) w=.go (G (b.at ⟨T.setIfInBounds 13 (tV fd q S bs bt kt g e l9 2),ds⟩ (.inRegion tO rest :: kk)) cs) w es∧∀e ∈ es,EvT fd q e:=by
 have z:=h.t0
 refine oper_t (o:=tO.getD 2 default) rfl rfl _hb rfl ?_ (fun x hx=>?_)
 ·simp[execOp,go_sem,tO,Try.f54,tV,z]
 ·simp[execOp,go_sem,tO,Try.f54,z] at hx
set_option maxRecDepth 100000 in
theorem t_step3 (_hb:b.kind≠.early) (_hg:g=decide (bs<S)) (_he:e=decide (S=bs)) (_hl:l9=decide (kt<bt)) (h:TlI (tV fd q S bs bt kt g e l9) fd q l T) (_hw:TW3 fd q S bs bt kt w) (_hr:3 ∈ Region.ready md tO l) :
  ∃es,stepG Try.prog false (G (b.at ⟨T,ds⟩ (.inRegion tO (3 :: rest) :: kk)) cs) w=.go (G (b.at ⟨T.setIfInBounds 14 (tV fd q S bs bt kt g e l9 3),ds⟩ (.inRegion tO rest :: kk)) cs) w es∧∀e ∈ es,EvT fd q e:=by
 have n2:=h.done 2 (by omega) (tready_on _hr (by kernel_rfl))
 simp only[tV] at n2
 refine oper_t (o:=tO.getD 3 default) rfl rfl _hb rfl ?_ (fun x hx=>?_)
 ·simp[execOp,go_sem,tO,Try.f54,tV,n2]
 ·simp[execOp,go_sem,tO,Try.f54,n2] at hx
set_option maxRecDepth 100000 in
theorem t_step4 (_hb:b.kind≠.early) (_hg:g=decide (bs<S)) (_he:e=decide (S=bs)) (_hl:l9=decide (kt<bt)) (h:TlI (tV fd q S bs bt kt g e l9) fd q l T) (_hw:TW3 fd q S bs bt kt w) (_hr:4 ∈ Region.ready md tO l) :
  ∃es,stepG Try.prog false (G (b.at ⟨T,ds⟩ (.inRegion tO (4 :: rest) :: kk)) cs) w=.go (G (b.at ⟨T.setIfInBounds 15 (tV fd q S bs bt kt g e l9 4),ds⟩ (.inRegion tO rest :: kk)) cs) w es∧∀e ∈ es,EvT fd q e:=by
 have n3:=h.done 3 (by omega) (tready_on _hr (by kernel_rfl))
 simp only[tV] at n3
 refine oper_t (o:=tO.getD 4 default) rfl rfl _hb rfl ?_ (fun x hx=>?_)
 ·simp[execOp,go_sem,tO,Try.f54,tV,n3]
 ·simp[execOp,go_sem,tO,Try.f54,n3] at hx
set_option maxRecDepth 100000 in
theorem t_step5 (_hb:b.kind≠.early) (_hg:g=decide (bs<S)) (_he:e=decide (S=bs)) (_hl:l9=decide (kt<bt)) (h:TlI (tV fd q S bs bt kt g e l9) fd q l T) (_hw:TW3 fd q S bs bt kt w) (_hr:5 ∈ Region.ready md tO l) :
  ∃es,stepG Try.prog false (G (b.at ⟨T,ds⟩ (.inRegion tO (5 :: rest) :: kk)) cs) w=.go (G (b.at ⟨T.setIfInBounds 16 (tV fd q S bs bt kt g e l9 5),ds⟩ (.inRegion tO rest :: kk)) cs) w es∧∀e ∈ es,EvT fd q e:=by
 have n4:=h.done 4 (by omega) (tready_on _hr (by kernel_rfl))
 simp only[tV] at n4
 refine oper_t (o:=tO.getD 5 default) rfl rfl _hb rfl ?_ (fun x hx=>?_)
 ·simp[execOp,go_sem,tO,Try.f54,tV,n4]
 ·simp[execOp,go_sem,tO,Try.f54,n4] at hx
set_option maxRecDepth 100000 in
theorem t_step6 (_hb:b.kind≠.early) (_hg:g=decide (bs<S)) (_he:e=decide (S=bs)) (_hl:l9=decide (kt<bt)) (h:TlI (tV fd q S bs bt kt g e l9) fd q l T) (_hw:TW3 fd q S bs bt kt w) (_hr:6 ∈ Region.ready md tO l) :
  ∃es,stepG Try.prog false (G (b.at ⟨T,ds⟩ (.inRegion tO (6 :: rest) :: kk)) cs) w=.go (G (b.at ⟨T.setIfInBounds 17 (tV fd q S bs bt kt g e l9 6),ds⟩ (.inRegion tO rest :: kk)) cs) w es∧∀e ∈ es,EvT fd q e:=by
 have n5:=h.done 5 (by omega) (tready_on _hr (by kernel_rfl))
 simp only[tV] at n5
 have f:=_hw.bs
 refine oper_t (o:=tO.getD 6 default) rfl rfl _hb rfl ?_ (fun x hx=>?_)
 ·simp[execOp,go_sem,tO,Try.f54,tV,n5,f]
 ·simp[execOp,go_sem,tO,Try.f54,n5,f] at hx
  subst hx
  exact .inr ⟨_,by decide,rfl⟩
set_option maxRecDepth 100000 in
theorem t_step7 (_hb:b.kind≠.early) (_hg:g=decide (bs<S)) (_he:e=decide (S=bs)) (_hl:l9=decide (kt<bt)) (h:TlI (tV fd q S bs bt kt g e l9) fd q l T) (_hw:TW3 fd q S bs bt kt w) (_hr:7 ∈ Region.ready md tO l) :
  ∃es,stepG Try.prog false (G (b.at ⟨T,ds⟩ (.inRegion tO (7 :: rest) :: kk)) cs) w=.go (G (b.at ⟨T.setIfInBounds 18 (tV fd q S bs bt kt g e l9 7),ds⟩ (.inRegion tO rest :: kk)) cs) w es∧∀e ∈ es,EvT fd q e:=by
 have n1:=h.done 1 (by omega) (tready_on _hr (by kernel_rfl))
 simp only[tV] at n1
 have n6:=h.done 6 (by omega) (tready_on _hr (by kernel_rfl))
 simp only[tV] at n6
 refine oper_t (o:=tO.getD 7 default) rfl rfl _hb rfl ?_ (fun x hx=>?_)
 ·simp[execOp,go_sem,tO,Try.f54,tV,n1,n6,_hg]
 ·simp[execOp,go_sem,tO,Try.f54,n1,n6] at hx
set_option maxRecDepth 100000 in
theorem t_step8 (_hb:b.kind≠.early) (_hg:g=decide (bs<S)) (_he:e=decide (S=bs)) (_hl:l9=decide (kt<bt)) (h:TlI (tV fd q S bs bt kt g e l9) fd q l T) (_hw:TW3 fd q S bs bt kt w) (_hr:8 ∈ Region.ready md tO l) :
  ∃es,stepG Try.prog false (G (b.at ⟨T,ds⟩ (.inRegion tO (8 :: rest) :: kk)) cs) w=.go (G (b.at ⟨T.setIfInBounds 19 (tV fd q S bs bt kt g e l9 8),ds⟩ (.inRegion tO rest :: kk)) cs) w es∧∀e ∈ es,EvT fd q e:=by
 have n7:=h.done 7 (by omega) (tready_on _hr (by kernel_rfl))
 simp only[tV] at n7
 refine oper_t (o:=tO.getD 8 default) rfl rfl _hb rfl ?_ (fun x hx=>?_)
 ·simp[execOp,go_sem,tO,Try.f54,tV,n7]
 ·simp[execOp,go_sem,tO,Try.f54,n7] at hx
set_option maxRecDepth 100000 in
theorem t_step9 (_hb:b.kind≠.early) (_hg:g=decide (bs<S)) (_he:e=decide (S=bs)) (_hl:l9=decide (kt<bt)) (h:TlI (tV fd q S bs bt kt g e l9) fd q l T) (_hw:TW3 fd q S bs bt kt w) (_hr:9 ∈ Region.ready md tO l) :
  ∃es,stepG Try.prog false (G (b.at ⟨T,ds⟩ (.inRegion tO (9 :: rest) :: kk)) cs) w=.go (G (b.at ⟨T.setIfInBounds 20 (tV fd q S bs bt kt g e l9 9),ds⟩ (.inRegion tO rest :: kk)) cs) w es∧∀e ∈ es,EvT fd q e:=by
 have ng:=h.done 8 (by omega) (tready_on _hr (by kernel_rfl))
 simp only[tV] at ng
 clear _hg _he _hl
 cases g with
 | true=>exact oper_u (o:=tO.getD 9 default) rfl (by rw[guard_of (j:=8) (d:=19) (want:=false) rfl rfl ng];rfl) rfl
 | false =>
  try simp only[Bool.false_eq_true,if_false] at *
  have z:=h.t3
  refine oper_t (o:=tO.getD 9 default) rfl (by rw[guard_of (j:=8) (d:=19) (want:=false) rfl rfl ng];rfl) _hb rfl ?_ (fun x hx=>?_)
  ·simp[execOp,go_sem,tO,Try.f54,tV,z]
  ·simp[execOp,go_sem,tO,Try.f54,z] at hx
set_option maxRecDepth 100000 in
theorem t_step10 (_hb:b.kind≠.early) (_hg:g=decide (bs<S)) (_he:e=decide (S=bs)) (_hl:l9=decide (kt<bt)) (h:TlI (tV fd q S bs bt kt g e l9) fd q l T) (_hw:TW3 fd q S bs bt kt w) (_hr:10 ∈ Region.ready md tO l) :
  ∃es,stepG Try.prog false (G (b.at ⟨T,ds⟩ (.inRegion tO (10 :: rest) :: kk)) cs) w=.go (G (b.at ⟨T.setIfInBounds 21 (tV fd q S bs bt kt g e l9 10),ds⟩ (.inRegion tO rest :: kk)) cs) w es∧∀e ∈ es,EvT fd q e:=by
 have ng:=h.done 8 (by omega) (tready_on _hr (by kernel_rfl))
 simp only[tV] at ng
 have n9:=h.done 9 (by omega) (tready_on _hr (by kernel_rfl))
 simp only[tV] at n9
 clear _hg _he _hl
 cases g with
 | true=>exact oper_u (o:=tO.getD 10 default) rfl (by rw[guard_of (j:=8) (d:=19) (want:=false) rfl rfl ng];rfl) rfl
 | false =>
  try simp only[Bool.false_eq_true,if_false] at *
  have f:=_hw.s
  refine oper_t (o:=tO.getD 10 default) rfl (by rw[guard_of (j:=8) (d:=19) (want:=false) rfl rfl ng];rfl) _hb rfl ?_ (fun x hx=>?_)
  ·simp[execOp,go_sem,tO,Try.f54,tV,n9,f]
  ·simp[execOp,go_sem,tO,Try.f54,n9,f] at hx
   subst hx
   exact .inl ⟨_,rfl,rfl⟩
set_option maxRecDepth 100000 in
theorem t_step11 (_hb:b.kind≠.early) (_hg:g=decide (bs<S)) (_he:e=decide (S=bs)) (_hl:l9=decide (kt<bt)) (h:TlI (tV fd q S bs bt kt g e l9) fd q l T) (_hw:TW3 fd q S bs bt kt w) (_hr:11 ∈ Region.ready md tO l) :
  ∃es,stepG Try.prog false (G (b.at ⟨T,ds⟩ (.inRegion tO (11 :: rest) :: kk)) cs) w=.go (G (b.at ⟨T.setIfInBounds 22 (tV fd q S bs bt kt g e l9 11),ds⟩ (.inRegion tO rest :: kk)) cs) w es∧∀e ∈ es,EvT fd q e:=by
 have ng:=h.done 8 (by omega) (tready_on _hr (by kernel_rfl))
 simp only[tV] at ng
 clear _hg _he _hl
 cases g with
 | true=>exact oper_u (o:=tO.getD 11 default) rfl (by rw[guard_of (j:=8) (d:=19) (want:=false) rfl rfl ng];rfl) rfl
 | false =>
  try simp only[Bool.false_eq_true,if_false] at *
  have z:=h.t0
  refine oper_t (o:=tO.getD 11 default) rfl (by rw[guard_of (j:=8) (d:=19) (want:=false) rfl rfl ng];rfl) _hb rfl ?_ (fun x hx=>?_)
  ·simp[execOp,go_sem,tO,Try.f54,tV,z]
  ·simp[execOp,go_sem,tO,Try.f54,z] at hx
set_option maxRecDepth 100000 in
theorem t_step12 (_hb:b.kind≠.early) (_hg:g=decide (bs<S)) (_he:e=decide (S=bs)) (_hl:l9=decide (kt<bt)) (h:TlI (tV fd q S bs bt kt g e l9) fd q l T) (_hw:TW3 fd q S bs bt kt w) (_hr:12 ∈ Region.ready md tO l) :
  ∃es,stepG Try.prog false (G (b.at ⟨T,ds⟩ (.inRegion tO (12 :: rest) :: kk)) cs) w=.go (G (b.at ⟨T.setIfInBounds 23 (tV fd q S bs bt kt g e l9 12),ds⟩ (.inRegion tO rest :: kk)) cs) w es∧∀e ∈ es,EvT fd q e:=by
 have ng:=h.done 8 (by omega) (tready_on _hr (by kernel_rfl))
 simp only[tV] at ng
 have n11:=h.done 11 (by omega) (tready_on _hr (by kernel_rfl))
 simp only[tV] at n11
 clear _hg _he _hl
 cases g with
 | true=>exact oper_u (o:=tO.getD 12 default) rfl (by rw[guard_of (j:=8) (d:=19) (want:=false) rfl rfl ng];rfl) rfl
 | false =>
  try simp only[Bool.false_eq_true,if_false] at *
  refine oper_t (o:=tO.getD 12 default) rfl (by rw[guard_of (j:=8) (d:=19) (want:=false) rfl rfl ng];rfl) _hb rfl ?_ (fun x hx=>?_)
  ·simp[execOp,go_sem,tO,Try.f54,tV,n11]
  ·simp[execOp,go_sem,tO,Try.f54,n11] at hx
set_option maxRecDepth 100000 in
theorem t_step13 (_hb:b.kind≠.early) (_hg:g=decide (bs<S)) (_he:e=decide (S=bs)) (_hl:l9=decide (kt<bt)) (h:TlI (tV fd q S bs bt kt g e l9) fd q l T) (_hw:TW3 fd q S bs bt kt w) (_hr:13 ∈ Region.ready md tO l) :
  ∃es,stepG Try.prog false (G (b.at ⟨T,ds⟩ (.inRegion tO (13 :: rest) :: kk)) cs) w=.go (G (b.at ⟨T.setIfInBounds 24 (tV fd q S bs bt kt g e l9 13),ds⟩ (.inRegion tO rest :: kk)) cs) w es∧∀e ∈ es,EvT fd q e:=by
 have ng:=h.done 8 (by omega) (tready_on _hr (by kernel_rfl))
 simp only[tV] at ng
 have n12:=h.done 12 (by omega) (tready_on _hr (by kernel_rfl))
 simp only[tV] at n12
 clear _hg _he _hl
 cases g with
 | true=>exact oper_u (o:=tO.getD 13 default) rfl (by rw[guard_of (j:=8) (d:=19) (want:=false) rfl rfl ng];rfl) rfl
 | false =>
  try simp only[Bool.false_eq_true,if_false] at *
  refine oper_t (o:=tO.getD 13 default) rfl (by rw[guard_of (j:=8) (d:=19) (want:=false) rfl rfl ng];rfl) _hb rfl ?_ (fun x hx=>?_)
  ·simp[execOp,go_sem,tO,Try.f54,tV,n12]
  ·simp[execOp,go_sem,tO,Try.f54,n12] at hx
end
end Go.Proofs.Ytpdemelchhkfaaa.Cs
