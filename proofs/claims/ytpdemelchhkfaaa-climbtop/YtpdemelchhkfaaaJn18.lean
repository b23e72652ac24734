/-
  Several texts, joined: ClC, ClD, ClM.
-/
import Derived.Test.YtpdemelchhkfaaaPz
import Derived.Test.YtpdemelchhkfaaaJn17
/-
  Contract of climb's sheetOf (chapter 15).
-/
namespace Go.Proofs.Ytpdemelchhkfaaa
open Go.RowKit PK

def prF (s:ByteArray):Nat→Int:=fun c=>if c % 2=0 then (jx s (c / 2):Nat) else (jx s (c / 2+1):Nat)
theorem prF_snoc (s:ByteArray) (k:Nat):(ints (k*2) (prF s)).toList++[.int .i64 (jx s k:Nat),.int .i64 (jx s (k+1):Nat)]=(ints ((k+1)*2) (prF s)).toList:=by
 apply List.ext_getElem?
 intro i
 have hl:(ints (k*2) (prF s)).toList.length=k*2:=by rw[Array.length_toList,ints_size]
 have ex:∀n,(ints n (prF s)).toList[i]? = (ints n (prF s))[i]?:=fun n=>Array.getElem?_toList
 by_cases h1:i<k*2
 ·rw[List.getElem?_append_left (by omega),ex,ex,ints_get _ h1,ints_get _ (by omega)]
 ·rw[List.getElem?_append_right (by omega),hl]
  by_cases h2:i<(k+1)*2
  ·rw[ex,ints_get _ h2]
   rcases (by omega:i=k*2∨i=k*2+1) with rfl | rfl
   ·rw[Nat.sub_self]
    unfold prF
    rw[if_pos (by omega),show k*2 / 2=k by omega]
    rfl
   ·rw[show k*2+1-k*2=1 by omega]
    unfold prF
    rw[if_neg (by omega),show (k*2+1) / 2=k by omega]
    rfl
  ·rw[List.getElem?_eq_none (by simp;omega),List.getElem?_eq_none (by rw[Array.length_toList,ints_size];omega)]
section
variable {P:Program} {md:Region.Mode} {ops:Array Oper} {Q:Exit→Act→World→Prop} {S:World→Prop}
theorem buildH {fuel:Nat} {listed:Array Bool} {a:Act} {w:World} (i:Nat) (o:Oper) (hr:Region.ready md ops listed=[i]) (ho:ops[i]? = some o) (hw:Region.wanted o (yielded ops a.tmps)=true)
  (t e:TypeId) (x:Operand) (hop:o.op=.buildSlice t 1 #[(0,x)]) (n:Nat) (z c:Array Value) (hx:a.eval x=.agg c) (hn:n*2≤2 ^ 24) (h0:0<n) (hu:P.underlying t=some (.slice e)) (hzs:z.size=n) (hc:c.size=n) (hz:(P.info? e).map (fun i=>(i.zero,i.size))=some (some (.agg z),n))
  (hS:S (w.alloc (.cells c e))) (h:S (w.alloc (.cells c e))→wpAnyH P md ops Q S fuel (listed.setIfInBounds i true) (a.put o.dst (.slice (some ⟨w.heap.size,0,none⟩) 1 1)) (w.alloc (.cells c e))):wpAnyH P md ops Q S (fuel+1) listed a w:=by
 refine wpAnyH_ready hr (by simp) (AllReadyH.cons ho (fun K hK=>?_) AllReadyH.nil)
 rw[if_pos hw]
 unfold Oper.wp execOp
 have hm:(#[(0,x)]:Array (Nat × Operand)).map (fun (i,x)=>(i,a.eval x))=#[(0,.agg c)]:=by simp[hx]
 simp only[hop,Sem.run_bind,hm,run_build1c w t e n hn h0 hu z c hzs hc hz,Result.andThen_ok]
 exact hK.out _ _ hS h
end
theorem wp_build1c {P:Program} {a:Act} {w:World} {K:Act→World→Prop} {Q:Exit→Act→World→Prop} (o:Oper) (t e:TypeId) (x:Operand) (hop:o.op=.buildSlice t 1 #[(0,x)]) (n:Nat) (z c:Array Value) (hx:a.eval x=.agg c) (hn:n*2≤2 ^ 24) (h0:0<n) (hu:P.underlying t=some (.slice e)) (hzs:z.size=n) (hc:c.size=n) (hz:(P.info? e).map (fun i=>(i.zero,i.size))=some (some (.agg z),n))
  (h:K (a.put o.dst (.slice (some ⟨w.heap.size,0,none⟩) 1 1)) (w.alloc (.cells c e))):o.wp P a w K Q:=by
 unfold Oper.wp execOp
 have hm:(#[(0,x)]:Array (Nat × Operand)).map (fun (i,x)=>(i,a.eval x))=#[(0,.agg c)]:=by simp[hx]
 simp only[hop,Sem.run_bind,hm,run_build1c w t e n hn h0 hu z c hzs hc hz,Result.andThen_ok]
 exact h
theorem j_zero_sheet:(Try.prog.info? 66).map (·.zero)=some (some (.agg #[.slice none 0 0,.slice none 0 0])):=by kernel_rfl
theorem j_size_sheet:(Try.prog.info? 66).map (·.size)=some 2:=by kernel_rfl
theorem j_info_pair:(Try.prog.info? 79).map (fun i=>(i.zero,i.size,i.bytes))=some (some (.agg #[.int .i64 0,.int .i64 0]),2,16):=by kernel_rfl
theorem j_zs_pair:(Try.prog.info? 79).map (fun i=>(i.zero,i.size))=some (some (.agg #[.int .i64 0,.int .i64 0]),2):=by kernel_rfl
theorem built_sheet (a:Option Addr) (n c:Nat):Try.prog.built 66 [(1,.slice a n c)]=some #[.slice none 0 0,.slice a n c]:=by kernel_rfl
theorem built_pair (x y:Int):Try.prog.built 79 [(0,.int .i64 x),(1,.int .i64 y)]=some #[.int .i64 x,.int .i64 y]:=by kernel_rfl
set_option maxRecDepth 100000 in
set_option maxHeartbeats 8000000 in
theorem sheet_any (s:ByteArray) (hs:Vg.Ls s.data.toList) (hl:s.size≤256) (ta:Option Addr) (tn tc:Nat) (w:World):Calls Try.prog 30 #[.string s,.slice ta tn tc] w fun e w'=>∃pv,e=.returned (.agg #[pv,.slice ta tn tc])∧w'.ownsRow w.heap.size 79 2 pv (s.size-1) (ints ((s.size-1)*2) (prF s)).toList∧Below w.heap.size w w':=by
 obtain ⟨i0,hi0,hz0,hz1,hz2⟩:=x_info_parts j_info_pair
 have HX:=(show Hid (∀k,k+1<s.size→jx s k<26∧jx s (k+1)<26∧(∀h:k<s.size,(s[k].toNat:Int)=(jx s k:Int)+65)∧∀h:k+1<s.size,(s[k+1].toNat:Int)=(jx s (k+1):Int)+65) from fun k h=>⟨jx_lt hs (by omega),jx_lt hs h,fun _=>jx_at hs (by omega),fun _=>jx_at hs h⟩)
 clear hs
 have hzs:=o_zero j_zero_sheet
 have hbs:=built_sheet ta tn tc
 go_enter Try.func30,Try.ntmps30
 go_upto_region 1 with fail
 have hr4:=RowAt.new w 66 #[.slice none 0 0,.slice none 0 0]
 have hb4:Below w.heap.size w (w.alloc (.cells #[.slice none 0 0,.slice none 0 0] 66)):=(Below.refl _ w).alloc (Nat.le_refl _) _
 have hsz4:(w.alloc (.cells #[.slice none 0 0,.slice none 0 0] 66)).heap.size=w.heap.size+1:=by simp
 obtain ⟨W4,hW4⟩:∃W4,W4=w.alloc (.cells #[.slice none 0 0,.slice none 0 0] 66):=⟨_,rfl⟩
 rw[←hW4] at hr4 hb4 hsz4 ⊢
 clear hW4
 go_upto_region 2 with (first | refine wpList_buildA rfl 66 [(1,.tmp 7)] rfl [(1,.slice ta tn tc)] rfl _ hbs ?_)
 have hr5:=RowAt.new W4 66 #[.slice none 0 0,.slice ta tn tc]
 have hb8:Below W4.heap.size W4 (W4.alloc (.cells #[.slice none 0 0,.slice ta tn tc] 66)):=(Below.refl _ _).alloc (Nat.le_refl _) _
 obtain ⟨W5,hW5⟩:∃W5,W5=W4.alloc (.cells #[.slice none 0 0,.slice ta tn tc] 66):=⟨_,rfl⟩
 rw[←hW5] at hr5 hb8 ⊢
 have hr4b:=hr4.below hb8 hr4.lt
 have hb5:=hb4.trans (hb8.mono hb4.size)
 rw[hsz4] at hr5
 clear hW5 hb8 hr4 hb4 hzs hbs hsz4
 go_wp2_with fail
 go_loopw [6] (fun x W=>∃(k:Nat) (pv:Value),k≤s.size-1∧x=.int .i64 ((k:Int)+1)∧RowAt W (w.heap.size+1) 66 #[pv,.slice ta tn tc]∧RowAt W w.heap.size 66 #[.slice none 0 0,.slice none 0 0]∧W.ownsRow (w.heap.size+2) 79 2 pv k (ints (k*2) (prF s)).toList∧Below w.heap.size w W) (fun x _=>((s.size:Int)+1-intOf x).toNat)
 case atStart=>exact ⟨0,.slice none 0 0,by omega,rfl,hr5,hr4b,World.ownsRow_nil _ _ _ _,hb5⟩
 case round =>
  clear hr5 hr4b hb5
  obtain ⟨k,pv,hks,rfl,h5,h4,hown,hb⟩:=hrel
  by_cases hlt:k+1<s.size
  case neg =>
   have hnn:¬((k:Int)+1)<(s.size:Int):=by omega
   obtain rfl:k=s.size-1:=by omega
   obtain ⟨Y,hY⟩:∃Y:Array Value,Y=#[pv,.slice ta tn tc]:=⟨_,rfl⟩
   have hYs:Y.size=2:=by rw[hY];rfl
   obtain ⟨pa,pc,hpv⟩:∃x y,pv=.slice x (s.size-1) y:=by
    rcases hown.2 with ⟨e,e0⟩ | ⟨g,cap,cur,e,_⟩
    ·exact ⟨none,0,by rw[e,e0]⟩
    ·exact ⟨_,_,e⟩
   have hYo:Y.all (·.oneCell')=true:=by rw[hY,hpv];simp[Value.oneCell']
   have HY:=(show Hid (Y=#[pv,.slice ta tn tc]) from hY)
   rw[←hY] at h5
   have hrr:=h4.row Y
   have HB:=(show Hid (Below w.heap.size w (wr.setRow w.heap.size Y)) from Below.setRow hb w.heap.size (Nat.le_refl _) Y)
   have HO:=(show Hid ((wr.setRow w.heap.size Y).ownsRow w.heap.size 79 2 pv (s.size-1) (ints ((s.size-1)*2) (prF s)).toList) from by
    obtain ⟨e1,e2⟩:=hown
    refine ⟨e1,e2.imp id fun ⟨g,cap,cur,a,b,c,d⟩=>⟨g,cap,cur,a,by omega,?_,d⟩⟩
    exact (setRow_other wr w.heap.size g Y (by omega)).trans c)
   clear hlt hY hown hb hpv
   go_wp2_with (first | refine wpList_load_row rfl 66 _ rfl (w.heap.size+1) rfl 66 Y (0,0) _ h5 Try.underlying66 rfl (by rw[hYs];exact j_size_sheet) ?_ | refine wpList_store_row rfl 66 _ _ rfl w.heap.size Y rfl rfl 66 _ h4 (by rw[hYs];exact j_size_sheet) (by rw[hYs];rfl) hYo ?_)
   refine bodyPost_ret (v:=.agg Y) (results_cell1 rfl _ _ w.heap.size 66 _ (0,0) _ rfl hrr Try.underlying66 rfl (by rw[hYs];exact j_size_sheet)) rfl ?_
   exact ⟨pv,by rw[HY.out],HO.out,HB.out⟩
  have HLT:Hid (k+1<s.size):=hlt
  have hlt2:((k:Int)+1)<(s.size:Int):=by omega
  have hlt3:(k:Int)<(s.size:Int):=by omega
  obtain ⟨hx,hy,ex,ey⟩:=HX.out k hlt
  have ex1:=ex (by omega)
  have ey1:=ey hlt
  have HSN:=(show Hid _ from prF_snoc s k)
  obtain ⟨x,hxx⟩:∃x,x=jx s k:=⟨_,rfl⟩
  obtain ⟨y,hyy⟩:∃y,y=jx s (k+1):=⟨_,rfl⟩
  rw[←hxx] at hx ex1 HSN
  rw[←hyy] at hy ey1 HSN
  clear hxx hyy ex ey
  obtain ⟨C2,hC2⟩:∃C2:Array Value,C2=#[.int .i64 (x:Nat),.int .i64 (y:Nat)]:=⟨_,rfl⟩
  have hbu:∀W,(Instr.build 79 #[(0,.int .i64 (x:Nat)),(1,.int .i64 (y:Nat))]).run Try.prog W=.ok (.agg C2) W:=fun W=>by rw[hC2];exact run_build W _ #[(0,.int .i64 (x:Nat)),(1,.int .i64 (y:Nat))] _ (built_pair (x:Nat) (y:Nat))
  have hCs:C2.size=2:=by rw[hC2];rfl
  have HCL:Hid (C2.toList=[.int .i64 (x:Nat),.int .i64 (y:Nat)]):=by rw[Hid,hC2]
  clear hC2
  obtain ⟨pa,pc,hpv⟩:∃x y,pv=.slice x k y:=by
   rcases hown.2 with ⟨e,e0⟩ | ⟨g,cap,cur,e,_⟩
   ·exact ⟨none,0,by rw[e,e0]⟩
   ·exact ⟨_,_,e⟩
  have HOWN:=(show Hid (wr.ownsRow (w.heap.size+2) 79 2 pv k (ints (k*2) (prF s)).toList) from hown)
  have HSZ:=(show Hid (w.heap.size+2≤wr.heap.size) from h5.lt)
  have H4:=(show Hid (RowAt wr w.heap.size 66 #[.slice none 0 0,.slice none 0 0]) from h4)
  have H5:=(show Hid (RowAt wr (w.heap.size+1) 66 #[pv,.slice ta tn tc]) from h5)
  clear hown h4
  go_upto_region 5 with fail
  refine wp_region_noPanic ?_
  refine wp_region_held_drew (S:=fun W=>Below w.heap.size w W) (by kernel_rfl) hb.drew (fun hS=>?_)
  have HOZ:Hid (wr.drew.ownsRow (w.heap.size+2) 79 2 pv k (ints (k*2) (prF s)).toList):=HOWN.out
  have HRZ:Hid (RowAt wr.drew w.heap.size 66 #[.slice none 0 0,.slice none 0 0]):=H4.out
  have HSZ2:Hid (w.heap.size+2≤wr.drew.heap.size):=HSZ.out
  have h5z:RowAt wr.drew (w.heap.size+1) 66 #[pv,.slice ta tn tc]:=H5.out
  obtain ⟨Z,hZ⟩:∃x,x=wr.drew:=⟨_,rfl⟩
  rw[←hZ] at hS HOZ HRZ HSZ2 h5z ⊢
  clear hZ h5 hb HOWN H4 H5 HSZ
  have c5z:=h5z.cell (i:=0) (v:=pv) rfl
  refine vtk 0 15 (.pointer (some ⟨w.heap.size+1,0,none⟩)) rfl (fun W hW=>by clear hS hW;go_simp) hS ?_
  simp only[zsA,zsB,zsC]
  refine vtk 2 17 (.string s) rfl (fun W hW=>by clear hS hW;go_simp) hS ?_
  simp only[zsA,zsB,zsC]
  refine vtk 3 18 (.int .i64 ((k:Int)+1)) rfl (fun W hW=>by clear hS hW;go_simp) hS ?_
  simp only[zsA,zsB,zsC]
  refine vtk 4 19 (.int .i64 (k:Nat)) rfl (fun W hW=>by have u1:IntKind.i64.wrap ((k:Nat):Int)=(k:Int):=(by rw[IntKind.wrap_i64];omega);have u2:(k:Int)+1-1=(k:Int):=(by omega);clear hS hW;simp[execOp,Act.eval,go_sem,u1,u2]) hS ?_
  simp only[zsA,zsB,zsC]
  refine vtk 5 20 (.int .u8 ((x:Int)+65)) rfl (fun W hW=>by clear hS hW;go_simp) hS ?_
  simp only[zsA,zsB,zsC]
  refine vtk 6 21 (.int .u8 (x:Nat)) rfl (fun W hW=>by have u1:IntKind.u8.wrap ((x:Nat):Int)=(x:Int):=(by rw[IntKind.wrap_u8];omega);have u2:(x:Int)+65-65=(x:Int):=(by omega);clear hS hW;simp[execOp,Act.eval,go_sem,u1,u2]) hS ?_
  simp only[zsA,zsB,zsC]
  refine vtk 7 22 (.int .i64 (x:Nat)) rfl (fun W hW=>by have u1:IntKind.i64.wrap ((x:Nat):Int)=(x:Int):=(by rw[IntKind.wrap_i64];omega);clear hS hW;go_simp) hS ?_
  simp only[zsA,zsB,zsC]
  refine vtk 8 23 (.string s) rfl (fun W hW=>by clear hS hW;go_simp) hS ?_
  simp only[zsA,zsB,zsC]
  refine vtk 9 24 (.int .i64 ((k:Int)+1)) rfl (fun W hW=>by clear hS hW;go_simp) hS ?_
  simp only[zsA,zsB,zsC]
  refine vtk 10 25 (.int .u8 ((y:Int)+65)) rfl (fun W hW=>by have u1:¬((k:Int)+1<0):=(by omega);clear hS hW;go_simp) hS ?_
  simp only[zsA,zsB,zsC]
  refine vtk 11 26 (.int .u8 (y:Nat)) rfl (fun W hW=>by have u1:IntKind.u8.wrap ((y:Nat):Int)=(y:Int):=(by rw[IntKind.wrap_u8];omega);have u2:(y:Int)+65-65=(y:Int):=(by omega);clear hS hW;simp[execOp,Act.eval,go_sem,u1,u2]) hS ?_
  simp only[zsA,zsB,zsC]
  refine vtk 12 27 (.int .i64 (y:Nat)) rfl (fun W hW=>by have u1:IntKind.i64.wrap ((y:Nat):Int)=(y:Int):=(by rw[IntKind.wrap_i64];omega);clear hS hW;go_simp) hS ?_
  simp only[zsA,zsB,zsC]
  refine vtk 13 28 (.agg C2) rfl (fun W hW=>by have u:=hbu;clear hS hW;simp[execOp,Act.eval,u]) hS ?_
  simp only[zsA,zsB,zsC]
  subst hpv
  have HNW:Hid (∀j u,C2.toList[j]? = some u→(Z.alloc (.cells C2 79)).cell? ((⟨Z.heap.size,0,none⟩:Addr).add j)=some u):=fun j u hu=>by
   rw[Addr.add_lit,Nat.zero_add]
   exact (RowAt.new Z 79 C2).cell (by rw[←Array.getElem?_toList];exact hu)
  have HOA:=World.ownsRow.alloc HOZ.out (.cells C2 79)
  refine wpAnyH_ready (rs:=[1,14]) (by kernel_rfl) (by simp) ?_
  refine AllReadyH.cons (o:=_) rfl (fun K hK=>?_) (AllReadyH.cons (o:=_) rfl (fun K hK=>?_) AllReadyH.nil)
  ·rw[if_pos (by rfl)]
   go_simp
   refine hK.out _ _ hS (fun hS1=>?_)
   clear hK K hS1
   refine rd1 14 rfl (fun K hK=>?_)
   refine wp_build1c _ 51 79 (.tmp 28) rfl 2 #[.int .i64 0,.int .i64 0] C2 rfl (by decide) (by decide) Try.underlying51 rfl hCs j_zs_pair ?_
   refine hK.out _ _ (hS.alloc hS.size _) (fun hS1=>?_)
   clear hK K hS
   have hS:=hS1
   clear hS1
   try simp only[Act.put,List.setIfInBounds_toArray]
   refine rd1 15 rfl (fun K hK=>?_)
   refine wp_append_own (Z.alloc (.cells C2 79)) _ _ 51 rfl (w.heap.size+2) 79 i0 (.agg #[.int .i64 0,.int .i64 0]) 2 16 Try.underlying51 hi0 hz0 hz1 hz2 rfl (by decide) _ _ _ rfl HOA ⟨Z.heap.size,0,none⟩ 1 1 C2.toList rfl (by rw[Array.length_toList,hCs]) HNW.out (fun u hu=>by rw[HCL.out] at hu;simp at hu;rcases hu with rfl | rfl <;> rfl) (by unfold maxLen;omega) (by omega) (by have:=HSZ2.out;simp;omega) ?_
   intro v' w1 hown' hgrow _
   have hne5:some (w.heap.size+1)≠(Value.slice pa k pc).ownBlock:=fun e=>by have:=(World.ownsRow.lt HOZ.out _ e.symm).1;omega
   have hne4:some w.heap.size≠(Value.slice pa k pc).ownBlock:=fun e=>by have:=(World.ownsRow.lt HOZ.out _ e.symm).1;omega
   have hr5:RowAt w1 (w.heap.size+1) 66 #[.slice pa k pc,.slice ta tn tc]:=(hgrow.block _ (h5z.alloc _).lt hne5).trans (h5z.alloc _)
   have hr4a:=RowAt.alloc HRZ.out (.cells C2 79)
   have hr4:RowAt w1 w.heap.size 66 #[.slice none 0 0,.slice none 0 0]:=(hgrow.block _ hr4a.lt hne4).trans hr4a
   refine hK.out _ _ (hS.grown hgrow hS.size (fun p hp=>by have:=(World.ownsRow.lt HOA p hp).1;omega)) (fun hS1=>?_)
   clear hK hS K
   have hS:=hS1
   clear hS1
   try simp only[Act.put]
   refine vtk 16 31 (.pointer (some ⟨w.heap.size+1,0,none⟩)) rfl (fun W hW=>by clear hS hW;go_simp) hS ?_
   try simp only[zsA,zsB,zsC]
   have c5:=hr5.cell (i:=0) (v:=.slice pa k pc) rfl
   have f5:=hr5.frozen 0
   obtain ⟨qa,qc,hv'⟩:∃x y,v'=.slice x (k+1) y:=by
    rcases hown'.2 with ⟨e,e0⟩ | ⟨g,cap,cur,e,_⟩
    ·omega
    ·exact ⟨_,_,e⟩
   have hset:=hr5.set 0 v'
   have HS5:Hid (RowAt (w1.setCell ⟨w.heap.size+1,0,none⟩ v') (w.heap.size+1) 66 #[v',.slice ta tn tc]):=hset
   have HS4:Hid (RowAt (w1.setCell ⟨w.heap.size+1,0,none⟩ v') w.heap.size 66 #[.slice none 0 0,.slice none 0 0]):=(heap_setCell_other w1 ⟨w.heap.size+1,0,none⟩ w.heap.size v' (by show w.heap.size≠w.heap.size+1;omega)).trans hr4
   have HOW:Hid ((w1.setCell ⟨w.heap.size+1,0,none⟩ v').ownsRow (w.heap.size+2) 79 2 v' (k+1) (ints ((k+1)*2) (prF s)).toList):=by
    have h1:=hown'
    rw[HCL.out,HSN.out] at h1
    obtain ⟨e1,e2⟩:=h1
    refine ⟨e1,e2.imp id fun ⟨g,cap,cur,a,b,c,d⟩=>⟨g,cap,cur,a,b,?_,d⟩⟩
    exact (heap_setCell_other w1 ⟨w.heap.size+1,0,none⟩ g v' (by show g≠w.heap.size+1;omega)).trans c
   have HBN:Hid (Below w.heap.size w (w1.setCell ⟨w.heap.size+1,0,none⟩ v')):=hS.setCell (p:=⟨w.heap.size+1,0,none⟩) (Nat.le_succ _) v'
   clear hset hown' hgrow HOA HOZ HRZ hr4 hr4a hne5 hne4 HNW
   subst hv'
   refine rd1 17 rfl (fun K hK=>?_)
   go_simp
   refine hK.out _ _ HBN.out (fun hS1=>?_)
   clear hK hS K hS1
   refine wpAnyH_done (by kernel_rfl) ?_ _
   refine NoPanic.normal ?_
   go_wp2_with fail
   go_roundw
   case rel=>exact ⟨k+1,.slice qa (k+1) qc,by have:=HLT.out;omega,by go_num,HS5.out,HS4.out,HOW.out,HBN.out⟩
   case measure=>have:=HLT.out;simp[intOf];omega
  ·have c5y:=(h5z.alloc (.cells C2 79)).cell (i:=0) (v:=.slice pa k pc) rfl
   rw[if_pos (by rfl)]
   refine wp_build1c _ 51 79 (.tmp 28) rfl 2 #[.int .i64 0,.int .i64 0] C2 rfl (by decide) (by decide) Try.underlying51 rfl hCs j_zs_pair ?_
   refine hK.out _ _ (hS.alloc hS.size _) (fun hS1=>?_)
   clear hK K hS
   have hS:=hS1
   clear hS1
   try simp only[Act.put,List.setIfInBounds_toArray]
   refine rd1 1 rfl (fun K hK=>?_)
   go_simp
   refine hK.out _ _ hS (fun hS1=>?_)
   clear hK K hS1 c5y
   refine rd1 15 rfl (fun K hK=>?_)
   refine wp_append_own (Z.alloc (.cells C2 79)) _ _ 51 rfl (w.heap.size+2) 79 i0 (.agg #[.int .i64 0,.int .i64 0]) 2 16 Try.underlying51 hi0 hz0 hz1 hz2 rfl (by decide) _ _ _ rfl HOA ⟨Z.heap.size,0,none⟩ 1 1 C2.toList rfl (by rw[Array.length_toList,hCs]) HNW.out (fun u hu=>by rw[HCL.out] at hu;simp at hu;rcases hu with rfl | rfl <;> rfl) (by unfold maxLen;omega) (by omega) (by have:=HSZ2.out;simp;omega) ?_
   intro v' w1 hown' hgrow _
   have hne5:some (w.heap.size+1)≠(Value.slice pa k pc).ownBlock:=fun e=>by have:=(World.ownsRow.lt HOZ.out _ e.symm).1;omega
   have hne4:some w.heap.size≠(Value.slice pa k pc).ownBlock:=fun e=>by have:=(World.ownsRow.lt HOZ.out _ e.symm).1;omega
   have hr5:RowAt w1 (w.heap.size+1) 66 #[.slice pa k pc,.slice ta tn tc]:=(hgrow.block _ (h5z.alloc _).lt hne5).trans (h5z.alloc _)
   have hr4a:=RowAt.alloc HRZ.out (.cells C2 79)
   have hr4:RowAt w1 w.heap.size 66 #[.slice none 0 0,.slice none 0 0]:=(hgrow.block _ hr4a.lt hne4).trans hr4a
   refine hK.out _ _ (hS.grown hgrow hS.size (fun p hp=>by have:=(World.ownsRow.lt HOA p hp).1;omega)) (fun hS1=>?_)
   clear hK hS K
   have hS:=hS1
   clear hS1
   try simp only[Act.put]
   refine vtk 16 31 (.pointer (some ⟨w.heap.size+1,0,none⟩)) rfl (fun W hW=>by clear hS hW;go_simp) hS ?_
   try simp only[zsA,zsB,zsC]
   have c5:=hr5.cell (i:=0) (v:=.slice pa k pc) rfl
   have f5:=hr5.frozen 0
   obtain ⟨qa,qc,hv'⟩:∃x y,v'=.slice x (k+1) y:=by
    rcases hown'.2 with ⟨e,e0⟩ | ⟨g,cap,cur,e,_⟩
    ·omega
    ·exact ⟨_,_,e⟩
   have hset:=hr5.set 0 v'
   have HS5:Hid (RowAt (w1.setCell ⟨w.heap.size+1,0,none⟩ v') (w.heap.size+1) 66 #[v',.slice ta tn tc]):=hset
   have HS4:Hid (RowAt (w1.setCell ⟨w.heap.size+1,0,none⟩ v') w.heap.size 66 #[.slice none 0 0,.slice none 0 0]):=(heap_setCell_other w1 ⟨w.heap.size+1,0,none⟩ w.heap.size v' (by show w.heap.size≠w.heap.size+1;omega)).trans hr4
   have HOW:Hid ((w1.setCell ⟨w.heap.size+1,0,none⟩ v').ownsRow (w.heap.size+2) 79 2 v' (k+1) (ints ((k+1)*2) (prF s)).toList):=by
    have h1:=hown'
    rw[HCL.out,HSN.out] at h1
    obtain ⟨e1,e2⟩:=h1
    refine ⟨e1,e2.imp id fun ⟨g,cap,cur,a,b,c,d⟩=>⟨g,cap,cur,a,b,?_,d⟩⟩
    exact (heap_setCell_other w1 ⟨w.heap.size+1,0,none⟩ g v' (by show g≠w.heap.size+1;omega)).trans c
   have HBN:Hid (Below w.heap.size w (w1.setCell ⟨w.heap.size+1,0,none⟩ v')):=hS.setCell (p:=⟨w.heap.size+1,0,none⟩) (Nat.le_succ _) v'
   clear hset hown' hgrow HOA HOZ HRZ hr4 hr4a hne5 hne4 HNW
   subst hv'
   refine rd1 17 rfl (fun K hK=>?_)
   go_simp
   refine hK.out _ _ HBN.out (fun hS1=>?_)
   clear hK hS K hS1
   refine wpAnyH_done (by kernel_rfl) ?_ _
   refine NoPanic.normal ?_
   go_wp2_with fail
   go_roundw
   case rel=>exact ⟨k+1,.slice qa (k+1) qc,by have:=HLT.out;omega,by go_num,HS5.out,HS4.out,HOW.out,HBN.out⟩
   case measure=>have:=HLT.out;simp[intOf];omega
end Go.Proofs.Ytpdemelchhkfaaa

/-
  Contract of climb's score (chapter 15).
-/
namespace Go.Proofs.Ytpdemelchhkfaaa
open Go.RowKit PK

def PrsAt (w:World) (pv:Value) (s:ByteArray):Prop:=∃(pa:Option Addr) (pc:Nat),pv=.slice pa (s.size-1) pc∧∀k,k+1<s.size→∃b o,pa=some ⟨b,o,none⟩∧w.rangeAt b (o+k*2) [.int .i64 (jx s k:Nat),.int .i64 (jx s (k+1):Nat)]
theorem PrsAt.below {w w':World} {pv:Value} {s:ByteArray} (h:PrsAt w pv s) (hb:Below w.heap.size w w'):PrsAt w' pv s:=by
 obtain ⟨pa,pc,e,h1⟩:=h
 exact ⟨pa,pc,e,fun k hk=>by
  obtain ⟨b,o,e,h2⟩:=h1 k hk
  exact ⟨b,o,e,Below.rangeAt hb h2 (cell_block (h2 0 _ rfl))⟩⟩
theorem prs_of {w:World} {pv:Value} {s:ByteArray} {N:Nat} (h:w.ownsRow N 79 2 pv (s.size-1) (ints ((s.size-1)*2) (prF s)).toList):PrsAt w pv s:=by
 rcases h.2 with ⟨e,e0⟩ | ⟨g,cap,cur,e,h2,h3,_,_,_,h7⟩
 ·exact ⟨none,0,by rw[e,e0],fun k hk=>by omega⟩
 ·refine ⟨_,cap,e,fun k hk=>⟨g,0,rfl,fun j v hv=>?_⟩⟩
  have hj:j<2:=by
   have:=(List.getElem?_eq_some_iff.1 hv).1
   simpa using this
  have hxs:(ints ((s.size-1)*2) (prF s)).toList[k*2+j]? = some v:=by
   rw[Array.getElem?_toList,ints_get _ (by omega)]
   rcases (by omega:j=0∨j=1) with rfl | rfl
   ·unfold prF
    rw[if_pos (by omega),show (k*2+0) / 2=k by omega]
    exact hv
   ·unfold prF
    rw[if_neg (by omega),show (k*2+1) / 2=k by omega]
    exact hv
  have hcu:cur[k*2+j]? = some v:=by
   rw[←h7,List.getElem?_take] at hxs
   rw[←Array.getElem?_toList]
   split at hxs
   ·exact hxs
   ·cases hxs
  exact RowAt.cell (T:=79) h3 (by rw[Nat.zero_add];exact hcu)
theorem j_zero_pair:(Try.prog.info? 79).map (·.zero)=some (some (.agg #[.int .i64 0,.int .i64 0])):=by kernel_rfl
theorem j_size_pair:(Try.prog.info? 79).map (·.size)=some 2:=by kernel_rfl
set_option maxRecDepth 100000 in
set_option maxHeartbeats 4000000 in
theorem jscore_any (s:ByteArray) (hs:Vg.Ls s.data.toList) (hl:s.size≤256) (pv tv:Value) (f:Nat→Int) (hf:∀i,i<676→-1000≤f i∧f i≤1000) (key:Nat→Nat) (hk:∀i,i<26→key i<26) (w:World) (hp:PrsAt w pv s) (hv:NumsAt w tv 676 f):Calls Try.prog 31 #[.agg #[pv,tv],.agg (ints 26 fun i=>(key i:Nat))] w fun e w'=>e=.returned (.int .i64 (sc s f key))∧Below w.heap.size w w':=by
 obtain ⟨a,tc,rfl,_,hc⟩:=hv
 obtain ⟨tb,t0,rfl,_⟩:=hc 0 (by decide)
 obtain ⟨pa,pc,rfl,hpc⟩:=hp
 have HT0:=(show Hid (∀c,c<676→w.cell? ⟨tb,t0+c,none⟩=some (.int .i64 (f c))) from fun c h=>by
  obtain ⟨b,o,e,k⟩:=hc c h
  cases e
  exact k)
 have HP0:=(show Hid _ from hpc)
 have HLE:=(show Hid _ from scTo_le hs hf hk)
 have HX:=(show Hid (∀k,k+1<s.size→jx s k<26∧jx s (k+1)<26) from fun k h=>⟨jx_lt hs (by omega),jx_lt hs h⟩)
 have HK:=(show Hid (∀i,i<26→key i<26) from hk)
 have HKR:=(show Hid (∀i,i<26→(ints 26 fun i=>((key i:Nat):Int))[i]? = some (.int .i64 (key i:Nat))) from fun i h=>ints_get _ h)
 obtain ⟨KA,hKA⟩:∃KA:Array Value,KA=(ints 26 fun i=>((key i:Nat):Int)):=⟨_,rfl⟩
 rw[←hKA] at HKR ⊢
 clear hKA
 obtain ⟨n,hn⟩:∃n,n=s.size-1:=⟨_,rfl⟩
 have HN0:=(show Hid (n=s.size-1) from hn)
 have hnl:n≤255:=by omega
 rw[←hn]
 have hr0:RowAt ((w.alloc (.cells #[.slice pa n pc,.slice (some ⟨tb,t0,none⟩) 676 tc] 66)).alloc (.cells KA 38)) w.heap.size 66 #[.slice pa n pc,.slice (some ⟨tb,t0,none⟩) 676 tc]:=RowAt.alloc (RowAt.new w _ _) _
 have hr1:RowAt ((w.alloc (.cells #[.slice pa n pc,.slice (some ⟨tb,t0,none⟩) 676 tc] 66)).alloc (.cells KA 38)) (w.heap.size+1) 38 KA:=by
  have:=RowAt.new (w.alloc (.cells #[.slice pa n pc,.slice (some ⟨tb,t0,none⟩) 676 tc] 66)) 38 KA
  rw[show (w.alloc (.cells #[.slice pa n pc,.slice (some ⟨tb,t0,none⟩) 676 tc] 66)).heap.size=w.heap.size+1 by simp] at this
  exact this
 have hb0:Below w.heap.size w ((w.alloc (.cells #[.slice pa n pc,.slice (some ⟨tb,t0,none⟩) 676 tc] 66)).alloc (.cells KA 38)):=((Below.refl _ w).alloc (Nat.le_refl _) _).alloc (by simp) _
 clear hc hs hf hk hpc hn
 go_enter Try.func31,Try.ntmps31
 go_upto_region 1 with fail
 generalize (w.alloc (.cells #[.slice pa n pc,.slice (some ⟨tb,t0,none⟩) 676 tc] 66)).alloc (.cells KA 38)=W0 at *
 have c0:=hr0.cell (i:=0) (v:=.slice pa n pc) rfl
 go_wp2_with fail
 go_loopw [5,11] (fun o x W=>∃k:Nat,k≤n∧x=.int .i64 (k:Int)∧o=.int .i64 (scTo s f key k)∧RowAt W w.heap.size 66 #[.slice pa n pc,.slice (some ⟨tb,t0,none⟩) 676 tc]∧RowAt W (w.heap.size+1) 38 KA∧Below w.heap.size w W) (fun _ x _=>((n:Int)+1-intOf x).toNat)
 case atStart=>exact ⟨0,by omega,rfl,rfl,hr0,hr1,hb0⟩
 case round =>
  clear hr0 hr1 hb0 c0
  obtain ⟨k,hks,rfl,rfl,hr,hr1,hb⟩:=hrel
  by_cases hlt:k<n
  case neg =>
   have HQ:Hid (scTo s f key k=sc s f key):=by
    have:k=s.size-1:=by have:=HN0.out;omega
    rw[Hid,this];rfl
   have hnn:¬(k:Int)<(n:Int):=by omega
   have HB:=(show Hid _ from hb)
   clear hr hr1 hb hlt
   go_wp2
   go_ret
   exact ⟨by rw[←HQ.out];rfl,HB.out⟩
  have HLT:Hid (k<n):=hlt
  have hkS:k+1<s.size:=by have:=HN0.out;omega
  have hlt2:(k:Int)<(n:Int):=by omega
  obtain ⟨pb,p0,hpa,hrg0⟩:=HP0.out k hkS
  subst hpa
  have hrg:wr.rangeAt pb (p0+k*2) #[.int .i64 (jx s k:Nat),.int .i64 (jx s (k+1):Nat)].toList:=Below.rangeAt hb hrg0 (cell_block (hrg0 0 _ rfl))
  obtain ⟨hx,hy⟩:=HX.out k hkS
  have hle1:=HLE.out (k+1) (by omega)
  have HN:Hid (scTo s f key (k+1)=scTo s f key k+f (26*key (jx s k)+key (jx s (k+1)))):=rfl
  have hkx:=HK.out _ hx
  have hky:=HK.out _ hy
  have HKX0:=(show Hid _ from HKR.out _ hx)
  have HKY0:=(show Hid _ from HKR.out _ hy)
  have hix:=ix_lt hkx hky
  have HT1:=(show Hid _ from HT0.out _ hix)
  obtain ⟨x,hxx⟩:∃x,x=jx s k:=⟨_,rfl⟩
  obtain ⟨y,hyy⟩:∃y,y=jx s (k+1):=⟨_,rfl⟩
  rw[←hxx] at hx hkx HKX0 HT1 HN hix hrg
  rw[←hyy] at hy hky HKY0 HT1 HN hix hrg
  obtain ⟨kx,hkxx⟩:∃kx,kx=key x:=⟨_,rfl⟩
  obtain ⟨ky,hkyy⟩:∃ky,ky=key y:=⟨_,rfl⟩
  rw[←hkxx] at hkx HKX0 HT1 HN hix
  rw[←hkyy] at hky HKY0 HT1 HN hix
  obtain ⟨ix,hixx⟩:∃ix,ix=26*kx+ky:=⟨_,rfl⟩
  have hixI:26*(kx:Int)+(ky:Int)=(ix:Int):=by omega
  rw[←hixx] at HT1 HN hix
  clear hixx
  obtain ⟨z,hz⟩:∃z,z=f ix:=⟨_,rfl⟩
  rw[←hz] at HT1 HN
  obtain ⟨S,hSS⟩:∃S,S=scTo s f key k:=⟨_,rfl⟩
  rw[←hSS] at HN ⊢
  obtain ⟨S2,hS20⟩:∃S2,S2=scTo s f key (k+1):=⟨_,rfl⟩
  have HS2:=(show Hid (S2=scTo s f key (k+1)) from hS20)
  rw[←hS20] at hle1 HN
  have hS2:S2=S+z:=HN.out
  have HKX:=(show Hid (KA[x]? = some (.int .i64 (kx:Nat))) from HKX0.out)
  have HKY:=(show Hid (KA[y]? = some (.int .i64 (ky:Nat))) from HKY0.out)
  have HT:=(show Hid (w.cell? ⟨tb,t0+ix,none⟩=some (.int .i64 z)) from HT1.out)
  have hs1:-256000≤S2∧S2≤256000:=by push_cast at hle1;omega
  have hzp:=o_zero j_zero_pair
  clear hxx hyy hkxx hkyy hz hSS hS20 HN HKX0 HKY0 HT1 hle1 hrg0 hlt
  go_upto_region 5 with (first | refine wpList_load_mid rfl 79 _ rfl pb (p0+k*2) rfl [.int .i64 (x:Nat),.int .i64 (y:Nat)] _ hrg Try.underlying79 rfl j_size_pair ?_ | refine wpList_store_row rfl 79 _ _ rfl wr.heap.size #[.int .i64 (x:Nat),.int .i64 (y:Nat)] rfl rfl 79 _ (RowAt.new wr _ _) j_size_pair rfl rfl ?_)
  have hq:=RowAt.new wr 79 #[.int .i64 (x:Nat),.int .i64 (y:Nat)]
  have hb8:=(Below.refl wr.heap.size wr).alloc (Nat.le_refl _) (.cells #[.int .i64 (x:Nat),.int .i64 (y:Nat)] 79)
  have hrB:=hr.below hb8 hr.lt
  have hr1B:=hr1.below hb8 hr1.lt
  have hbB:=hb.trans (hb8.mono hb.size)
  obtain ⟨W3,hW3⟩:∃W3,W3=wr.alloc (.cells #[.int .i64 (x:Nat),.int .i64 (y:Nat)] 79):=⟨_,rfl⟩
  rw[←hW3] at hq hrB hr1B hbB ⊢
  clear hW3 hb8 hr hr1 hb hrg hzp
  generalize wr.heap.size=q at *
  refine wp_region_noPanic ?_
  refine wp_region_held_drew (S:=fun W=>RowAt W w.heap.size 66 #[.slice (some ⟨pb,p0,none⟩) n pc,.slice (some ⟨tb,t0,none⟩) 676 tc]∧RowAt W (w.heap.size+1) 38 KA∧RowAt W q 79 #[.int .i64 (x:Nat),.int .i64 (y:Nat)]∧Below w.heap.size w W) (by kernel_rfl) ⟨hrB,hr1B,hq,hbB.drew⟩ (fun hS=>?_)
  obtain ⟨Z,hZ⟩:∃x,x=W3.drew:=⟨_,rfl⟩
  rw[←hZ] at hS ⊢
  clear hZ hrB hr1B hbB hq
  refine vtk 0 15 (.int .i64 S) rfl (fun W hW=>by clear hS hW;go_simp) hS ?_
  simp only[zsA,zsB,zsC]
  refine vtk 1 16 (.pointer (some ⟨w.heap.size,1,none⟩)) rfl (fun W hW=>by clear hS hW;go_simp) hS ?_
  simp only[zsA,zsB,zsC]
  refine vtk 2 17 (.slice (some ⟨tb,t0,none⟩) 676 tc) rfl (fun W hW=>by have u:=hW.1.cell (i:=1) (v:=.slice (some ⟨tb,t0,none⟩) 676 tc) rfl;clear hS hW;go_simp) hS ?_
  simp only[zsA,zsB,zsC]
  refine vtk 3 18 (.pointer (some ⟨q,0,none⟩)) rfl (fun W hW=>by clear hS hW;go_simp) hS ?_
  simp only[zsA,zsB,zsC]
  refine vtk 4 19 (.int .i64 (x:Nat)) rfl (fun W hW=>by have u:=hW.2.2.1.cell (i:=0) (v:=.int .i64 (x:Nat)) rfl;clear hS hW;go_simp) hS ?_
  simp only[zsA,zsB,zsC]
  refine vtk 5 20 (.pointer (some ⟨w.heap.size+1,x,none⟩)) rfl (fun W hW=>by have u1:¬(26:Int)≤(x:Int):=(by omega);clear hS hW;go_simp) hS ?_
  simp only[zsA,zsB,zsC]
  refine vtk 6 21 (.int .i64 (kx:Nat)) rfl (fun W hW=>by have u:=hW.2.1.cell (i:=x) (v:=.int .i64 (kx:Nat)) HKX.out;clear hS hW;go_simp) hS ?_
  simp only[zsA,zsB,zsC]
  refine vtk 7 22 (.int .i64 (26*(kx:Int))) rfl (fun W hW=>by have u1:IntKind.i64.wrap (26*(kx:Int))=26*(kx:Int):=(by rw[IntKind.wrap_i64];omega);clear hS hW;simp[execOp,Act.eval,go_sem,u1]) hS ?_
  simp only[zsA,zsB,zsC]
  refine vtk 8 23 (.pointer (some ⟨q,1,none⟩)) rfl (fun W hW=>by clear hS hW;go_simp) hS ?_
  simp only[zsA,zsB,zsC]
  refine vtk 9 24 (.int .i64 (y:Nat)) rfl (fun W hW=>by have u:=hW.2.2.1.cell (i:=1) (v:=.int .i64 (y:Nat)) rfl;clear hS hW;go_simp) hS ?_
  simp only[zsA,zsB,zsC]
  refine vtk 10 25 (.pointer (some ⟨w.heap.size+1,y,none⟩)) rfl (fun W hW=>by have u1:¬(26:Int)≤(y:Int):=(by omega);clear hS hW;go_simp) hS ?_
  simp only[zsA,zsB,zsC]
  refine vtk 11 26 (.int .i64 (ky:Nat)) rfl (fun W hW=>by have u:=hW.2.1.cell (i:=y) (v:=.int .i64 (ky:Nat)) HKY.out;clear hS hW;go_simp) hS ?_
  simp only[zsA,zsB,zsC]
  refine vtk 12 27 (.int .i64 (ix:Nat)) rfl (fun W hW=>by have u1:IntKind.i64.wrap ((ix:Nat):Int)=(ix:Int):=(by rw[IntKind.wrap_i64];omega);have u2:=hixI;clear hS hW;simp[execOp,Act.eval,go_sem,u1,u2]) hS ?_
  simp only[zsA,zsB,zsC]
  refine vtk 13 28 (.pointer (some ⟨tb,t0+ix,none⟩)) rfl (fun W hW=>by have u1:(ix:Int)<676:=(by omega);clear hS hW;go_simp) hS ?_
  simp only[zsA,zsB,zsC]
  refine vtk 14 29 (.int .i64 z) rfl (fun W hW=>by have u:=(hW.2.2.2.cell (p:=⟨tb,t0+ix,none⟩) (cell_block HT.out)).trans HT.out;clear hS hW;go_simp) hS ?_
  simp only[zsA,zsB,zsC]
  refine vtk 15 30 (.int .i64 S2) rfl (fun W hW=>by have u1:IntKind.i64.wrap S2=S2:=(by rw[IntKind.wrap_i64];omega);have u2:S+z=S2:=hS2.symm;clear hS hW;simp[execOp,Act.eval,go_sem,u1,u2]) hS ?_
  simp only[zsA,zsB,zsC]
  refine vtk 16 5 (.int .i64 S2) rfl (fun W hW=>by clear hS hW;go_simp) hS ?_
  simp only[zsA,zsB,zsC]
  refine wpAnyH_done (by kernel_rfl) ?_ _
  refine NoPanic.normal ?_
  have HR:=(show Hid _ from hS.1)
  have HR1:=(show Hid _ from hS.2.1)
  have HB:=(show Hid _ from hS.2.2.2)
  clear hS
  go_wp2_with fail
  go_roundw
  case rel=>exact ⟨k+1,HLT.out,by go_num,by rw[HS2.out],HR.out,HR1.out,HB.out⟩
  case measure=>have:=HLT.out;simp[intOf];omega
end Go.Proofs.Ytpdemelchhkfaaa

/-
  Climbs (chapter 15), mathematics: no program in it.
-/
namespace Go.Proofs.Ytpdemelchhkfaaa
open Go.RowKit PK
namespace Jm
theorem snoc_ind {α:Type} {M:List α→Prop} (h0:M []) (h1:∀l p,M l→M (l++[p])) (l:List α):M l:=by
 rw[←List.reverse_reverse l]
 induction l.reverse with
 | nil=>exact h0
 | cons a t ih=>rw[List.reverse_cons];exact h1 _ _ ih
abbrev K:=Nat→Nat
def sw (key:K) (a b:Nat):K:=fun i=>if i=a then key b else if i=b then key a else key i
def prs (b a:Nat):List (Nat × Nat):=(List.range b).flatMap (fun c=>(List.range c).map fun d=>(d,c))++(List.range a).map fun d=>(d,b)
theorem prs_next (b a:Nat):prs b (a+1)=prs b a++[(a,b)]:=by
 unfold prs
 rw[List.range_succ,List.map_append,List.append_assoc]
 rfl
theorem prs_row (b:Nat):prs (b+1) 0=prs b b:=by
 unfold prs
 rw[List.range_succ,List.flatMap_append]
 simp
def bst (F:K→Int) (key:K) (l:List (Nat × Nat)):K × Int:=l.foldl (fun st p=>if F (sw key p.1 p.2) > st.2 then (sw key p.1 p.2,F (sw key p.1 p.2)) else st) (key,-9223372036854775808)
def nxt (F:K→Int) (key:K) (l:List (Nat × Nat)):K:=l.foldl (fun st p=>if F (sw key p.1 p.2) > F st then sw key p.1 p.2 else st) key
theorem bst_snoc (F:K→Int) (key:K) (l:List (Nat × Nat)) (a b:Nat):bst F key (l++[(a,b)])=if F (sw key a b) > (bst F key l).2 then (sw key a b,F (sw key a b)) else bst F key l:=by
 unfold bst
 rw[List.foldl_append]
 rfl
theorem nxt_snoc (F:K→Int) (key:K) (l:List (Nat × Nat)) (a b:Nat):nxt F key (l++[(a,b)])=if F (sw key a b) > F (nxt F key l) then sw key a b else nxt F key l:=by
 unfold nxt
 rw[List.foldl_append]
 rfl
theorem bst_nil (F:K→Int) (key:K):bst F key []=(key,-9223372036854775808):=rfl
theorem nxt_nil (F:K→Int) (key:K):nxt F key []=key:=rfl
theorem sw_lt {key:K} (hk:∀i,i<26→key i<26) {a b:Nat} (ha:a<26) (hb:b<26):∀i,i<26→sw key a b i<26:=fun i hi=>by
 unfold sw
 split
 ·exact hk b hb
 ·split
  ·exact hk a ha
  ·exact hk i hi
theorem bst_ind {Q:K→Prop} (F:K→Int) (key:K) (h0:Q key):∀(l:List (Nat × Nat)),(∀p ∈ l,Q (sw key p.1 p.2))→Q (bst F key l).1:=by
 intro l
 induction l using snoc_ind with
 | h0=>intro _;exact h0
 | h1 l p ih =>
  intro h
  rw[bst_snoc]
  split
  ·exact h p (by simp)
  ·exact ih fun q hq=>h q (by simp[hq])
theorem bst_nxt (F:K→Int) (key:K) (hF:F key > -9223372036854775808):∀(l:List (Nat × Nat)),(nxt F key l=if (bst F key l).2 > F key then (bst F key l).1 else key)∧((bst F key l).2=-9223372036854775808∨(bst F key l).2=F (bst F key l).1):=by
 intro l
 induction l using snoc_ind with
 | h0=>exact ⟨by rw[nxt_nil,bst_nil,if_neg (by show ¬_ > _;simp only;omega)],.inl rfl⟩
 | h1 l p ih =>
  obtain ⟨a,b⟩:=p
  obtain ⟨h1,h2⟩:=ih
  rw[bst_snoc,nxt_snoc,h1]
  by_cases hc:F (sw key a b) > (bst F key l).2
  ·rw[if_pos hc]
   refine ⟨?_,.inr rfl⟩
   by_cases hm:(bst F key l).2 > F key
   ·have h3:(bst F key l).2=F (bst F key l).1:=h2.resolve_left (by omega)
    simp only
    rw[if_pos hm,if_pos (by omega),if_pos (by omega)]
   ·simp only
    rw[if_neg hm]
  ·rw[if_neg hc]
   refine ⟨?_,h2⟩
   by_cases hm:(bst F key l).2 > F key
   ·have h3:(bst F key l).2=F (bst F key l).1:=h2.resolve_left (by omega)
    rw[if_pos hm,if_neg (by omega)]
   ·rw[if_neg hm,if_neg (by omega)]
inductive Ups (F:K→Int):K→K→Prop
 | stop {key:K}:¬(bst F key (prs 26 0)).2 > F key→Ups F key key
 | go {key k:K}:(bst F key (prs 26 0)).2 > F key→Ups F (bst F key (prs 26 0)).1 k→Ups F key k
theorem Ups.same {F:K→Int} {key k:K} (h:Ups F key k):∀{k'},Ups F key k'→k=k':=by
 induction h with
 | stop h1=>intro k' h';cases h' with
  | stop _=>rfl
  | go h2 _=>exact absurd h2 h1
 | go h1 _ ih=>intro k' h';cases h' with
  | stop h2=>exact absurd h1 h2
  | go _ h3=>exact ih h3
open Classical in
noncomputable def up (F:K→Int) (key:K):K:=if h:∃k,Ups F key k then h.choose else key
theorem Ups.up {F:K→Int} {key k:K} (h:Ups F key k):Jm.up F key=k:=by
 unfold Jm.up
 rw[dif_pos ⟨k,h⟩]
 exact (Exists.choose_spec (⟨k,h⟩:∃k,Ups F key k)).same h
theorem Ups.top {F:K→Int} {key k:K} (h:Ups F key k):¬(bst F k (prs 26 0)).2 > F k:=by
 induction h with
 | stop h1=>exact h1
 | go _ _ ih=>exact ih
theorem Ups.ind {Q:K→Prop} {F:K→Int} {key k:K} (h:Ups F key k) (h0:Q key) (hs:∀key a b,Q key→a<b→b<26→Q (sw key a b)):Q k:=by
 induction h with
 | stop _=>exact h0
 | @go key k _ _ ih =>
  refine ih (bst_ind F key h0 _ fun p hp=>?_)
  have h1:p.1<p.2∧p.2<26:=by
   unfold prs at hp
   simp only[List.mem_append,List.mem_flatMap,List.mem_map,List.mem_range] at hp
   rcases hp with ⟨c,hc,d,hd,rfl⟩ | ⟨d,hd,rfl⟩
   ·exact ⟨hd,hc⟩
   ·omega
  exact hs key _ _ h0 h1.1 h1.2
theorem bst_ge (F:K→Int) (key:K):∀(l:List (Nat × Nat)) (p),p ∈ l→F (sw key p.1 p.2)≤(bst F key l).2:=by
 intro l
 induction l using snoc_ind with
 | h0=>intro p hp;cases hp
 | h1 l q ih =>
  intro p hp
  rw[bst_snoc]
  rcases List.mem_append.1 hp with h | h
  ·have:=ih p h
   split
   ·simp only;omega
   ·exact this
  ·rw[List.mem_singleton] at h
   subst h
   split
   ·exact Int.le_refl _
   ·omega
theorem mem_prs {a b:Nat} (h:a<b) (hb:b<26):(a,b) ∈ prs 26 0:=by
 unfold prs
 simp only[List.mem_append,List.mem_flatMap,List.mem_map,List.mem_range]
 exact .inl ⟨b,hb,a,h,rfl⟩
end Jm
theorem scTo_congr {s:ByteArray} (hs:Vg.Ls s.data.toList) (f:Nat→Int) {k1 k2:Nat→Nat} (h:∀i,i<26→k1 i=k2 i):∀k,k≤s.size-1→scTo s f k1 k=scTo s f k2 k
 | 0,_=>rfl
 | k+1,hk=>by
  unfold scTo
  rw[scTo_congr hs f h k (by omega),h _ (jx_lt hs (k:=k) (by omega)),h _ (jx_lt hs (k:=k+1) (by omega))]
theorem sc_congr {s:ByteArray} (hs:Vg.Ls s.data.toList) (f:Nat→Int) {k1 k2:Nat→Nat} (h:∀i,i<26→k1 i=k2 i):sc s f k1=sc s f k2:=scTo_congr hs f h _ (Nat.le_refl _)
theorem sc_le {s:ByteArray} (hs:Vg.Ls s.data.toList) (hl:s.size≤256) {f:Nat→Int} (hf:∀i,i<676→-1000≤f i∧f i≤1000) {key:Nat→Nat} (hk:∀i,i<26→key i<26):-255000≤sc s f key∧sc s f key≤255000:=by
 have:=scTo_le hs hf hk (s.size-1) (Nat.le_refl _)
 unfold sc
 omega
end Go.Proofs.Ytpdemelchhkfaaa
