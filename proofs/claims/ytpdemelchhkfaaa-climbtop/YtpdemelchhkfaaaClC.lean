import Derived.Test.YtpdemelchhkfaaaPz
import Derived.Test.YtpdemelchhkfaaaJn10
namespace Go.Proofs.Ytpdemelchhkfaaa
open Go.RowKit PK
def prF (s:ByteArray):Nat→Int:=fun c=>if c % 2=0 then (jx s (c / 2):Nat) else (jx s (c / 2+1):Nat)
theorem x6 (s:ByteArray) (k:Nat):(ints (k*2) (prF s)).toList++[.int .i64 (jx s k:Nat),.int .i64 (jx s (k+1):Nat)]=(ints ((k+1)*2) (prF s)).toList:=by
 apply List.ext_getElem?
 intro i
 have hl:(ints (k*2) (prF s)).toList.length=k*2:=by rw[Array.length_toList,af]
 have ex:∀n,(ints n (prF s)).toList[i]? = (ints n (prF s))[i]?:=fun n=>Array.getElem?_toList
 by_cases h1:i<k*2
 ·rw[List.getElem?_append_left (by omega),ex,ex,aI _ h1,aI _ (by omega)]
 ·rw[List.getElem?_append_right (by omega),hl]
  by_cases h2:i<(k+1)*2
  ·rw[ex,aI _ h2]
   rcases (by omega:i=k*2∨i=k*2+1) with rfl | rfl
   ·rw[Nat.sub_self]
    unfold prF
    rw[if_pos (by omega),show k*2 / 2=k by omega]
    rfl
   ·rw[show k*2+1-k*2=1 by omega]
    unfold prF
    rw[if_neg (by omega),show (k*2+1) / 2=k by omega]
    rfl
  ·rw[List.getElem?_eq_none (by simp;omega),List.getElem?_eq_none (by rw[Array.length_toList,af];omega)]
section
variable {P:Program} {md:Region.Mode} {ops:Array Oper} {Q:Exit→Act→World→Prop} {S:World→Prop}
theorem D9 {fuel:Nat} {listed:Array Bool} {a:Act} {w:World} (i:Nat) (o:Oper) (hr:Region.ready md ops listed=[i]) (ho:ops[i]? = some o) (hw:Region.wanted o (yielded ops a.tmps)=true)
  (t e:TypeId) (x:Operand) (hop:o.op=.buildSlice t 1 #[(0,x)]) (n:Nat) (z c:Array Value) (hx:a.eval x=.agg c) (hn:n*2≤2 ^ 24) (h0:0<n) (hu:P.underlying t=some (.slice e)) (hzs:z.size=n) (hc:c.size=n) (hz:(P.info? e).map (fun i=>(i.zero,i.size))=some (some (.agg z),n))
  (hS:S (w.alloc (.cells c e))) (h:S (w.alloc (.cells c e))→wpAnyH P md ops Q S fuel (listed.setIfInBounds i true) (a.put o.dst (.slice (some ⟨w.heap.size,0,none⟩) 1 1)) (w.alloc (.cells c e))):wpAnyH P md ops Q S (fuel+1) listed a w:=by
 refine wpAnyH_ready hr (by simp) (AllReadyH.cons ho (fun K hK=>?_) AllReadyH.nil)
 rw[if_pos hw]
 unfold Oper.wp execOp
 have hm:(#[(0,x)]:Array (Nat × Operand)).map (fun (i,x)=>(i,a.eval x))=#[(0,.agg c)]:=by simp[hx]
 simp only[hop,Sem.run_bind,hm,ie w t e n hn h0 hu z c hzs hc hz,Result.andThen_ok]
 exact hK.out _ _ hS h
end
theorem lZ {P:Program} {a:Act} {w:World} {K:Act→World→Prop} {Q:Exit→Act→World→Prop} (o:Oper) (t e:TypeId) (x:Operand) (hop:o.op=.buildSlice t 1 #[(0,x)]) (n:Nat) (z c:Array Value) (hx:a.eval x=.agg c) (hn:n*2≤2 ^ 24) (h0:0<n) (hu:P.underlying t=some (.slice e)) (hzs:z.size=n) (hc:c.size=n) (hz:(P.info? e).map (fun i=>(i.zero,i.size))=some (some (.agg z),n))
  (h:K (a.put o.dst (.slice (some ⟨w.heap.size,0,none⟩) 1 1)) (w.alloc (.cells c e))):o.wp P a w K Q:=by
 unfold Oper.wp execOp
 have hm:(#[(0,x)]:Array (Nat × Operand)).map (fun (i,x)=>(i,a.eval x))=#[(0,.agg c)]:=by simp[hx]
 simp only[hop,Sem.run_bind,hm,ie w t e n hn h0 hu z c hzs hc hz,Result.andThen_ok]
 exact h
theorem oU:(Try.prog.info? 66).map (·.zero)=some (some (.agg #[.slice none 0 0,.slice none 0 0])):=by kernel_rfl
theorem cE:(Try.prog.info? 66).map (·.size)=some 2:=by kernel_rfl
theorem qT:(Try.prog.info? 79).map (fun i=>(i.zero,i.size,i.bytes))=some (some (.agg #[.int .i64 0,.int .i64 0]),2,16):=by kernel_rfl
theorem nP:(Try.prog.info? 79).map (fun i=>(i.zero,i.size))=some (some (.agg #[.int .i64 0,.int .i64 0]),2):=by kernel_rfl
theorem qB (a:Option Addr) (n c:Nat):Try.prog.built 66 [(1,.slice a n c)]=some #[.slice none 0 0,.slice a n c]:=by kernel_rfl
theorem rO (x y:Int):Try.prog.built 79 [(0,.int .i64 x),(1,.int .i64 y)]=some #[.int .i64 x,.int .i64 y]:=by kernel_rfl
set_option maxRecDepth 100000 in
set_option maxHeartbeats 8000000 in
theorem nC (s:ByteArray) (hs:Vg.Ls s.data.toList) (hl:s.size≤256) (ta:Option Addr) (tn tc:Nat) (w:World):Calls Try.prog 30 #[.string s,.slice ta tn tc] w fun e w'=>∃pv,e=.returned (.agg #[pv,.slice ta tn tc])∧w'.ownsRow w.heap.size 79 2 pv (s.size-1) (ints ((s.size-1)*2) (prF s)).toList∧Below w.heap.size w w':=by
 obtain ⟨i0,hi0,hz0,hz1,hz2⟩:=oG qT
 have HX:=(show Hid (∀k,k+1<s.size→jx s k<26∧jx s (k+1)<26∧(∀h:k<s.size,(s[k].toNat:Int)=(jx s k:Int)+65)∧∀h:k+1<s.size,(s[k+1].toNat:Int)=(jx s (k+1):Int)+65) from fun k h=>⟨kU hs (by omega),kU hs h,fun _=>AF hs (by omega),fun _=>AF hs h⟩)
 clear hs
 have hzs:=rD oU
 have hbs:=qB ta tn tc
 go_enter Try.func30,Try.ntmps30
 go_upto_region 1 with fail
 have hr4:=ai.new w 66 #[.slice none 0 0,.slice none 0 0]
 have hb4:Below w.heap.size w (w.alloc (.cells #[.slice none 0 0,.slice none 0 0] 66)):=(Below.refl _ w).alloc (Nat.le_refl _) _
 have hsz4:(w.alloc (.cells #[.slice none 0 0,.slice none 0 0] 66)).heap.size=w.heap.size+1:=by simp
 obtain ⟨W4,hW4⟩:∃W4,W4=w.alloc (.cells #[.slice none 0 0,.slice none 0 0] 66):=⟨_,rfl⟩
 rw[←hW4] at hr4 hb4 hsz4 ⊢
 clear hW4
 go_upto_region 2 with (first | refine dU rfl 66 [(1,.tmp 7)] rfl [(1,.slice ta tn tc)] rfl _ hbs ?_)
 have hr5:=ai.new W4 66 #[.slice none 0 0,.slice ta tn tc]
 have hb8:Below W4.heap.size W4 (W4.alloc (.cells #[.slice none 0 0,.slice ta tn tc] 66)):=(Below.refl _ _).alloc (Nat.le_refl _) _
 obtain ⟨W5,hW5⟩:∃W5,W5=W4.alloc (.cells #[.slice none 0 0,.slice ta tn tc] 66):=⟨_,rfl⟩
 rw[←hW5] at hr5 hb8 ⊢
 have hr4b:=hr4.below hb8 hr4.lt
 have hb5:=hb4.trans (hb8.mono hb4.size)
 rw[hsz4] at hr5
 clear hW5 hb8 hr4 hb4 hzs hbs hsz4
 go_wp2_with fail
 go_loopw [6] (fun x W=>∃(k:Nat) (pv:Value),k≤s.size-1∧x=.int .i64 ((k:Int)+1)∧ai W (w.heap.size+1) 66 #[pv,.slice ta tn tc]∧ai W w.heap.size 66 #[.slice none 0 0,.slice none 0 0]∧W.ownsRow (w.heap.size+2) 79 2 pv k (ints (k*2) (prF s)).toList∧Below w.heap.size w W) (fun x _=>((s.size:Int)+1-intOf x).toNat)
 case atStart=>exact ⟨0,.slice none 0 0,by omega,rfl,hr5,hr4b,World.ownsRow_nil _ _ _ _,hb5⟩
 case round =>
  clear hr5 hr4b hb5
  obtain ⟨k,pv,hks,rfl,h5,h4,hown,hb⟩:=hrel
  by_cases hlt:k+1<s.size
  case neg =>
   have hnn:¬((k:Int)+1)<(s.size:Int):=by omega
   obtain rfl:k=s.size-1:=by omega
   obtain ⟨Y,hY⟩:∃Y:Array Value,Y=#[pv,.slice ta tn tc]:=⟨_,rfl⟩
   have hYs:Y.size=2:=by rw[hY];rfl
   obtain ⟨pa,pc,hpv⟩:∃x y,pv=.slice x (s.size-1) y:=by
    rcases hown.2 with ⟨e,e0⟩ | ⟨g,cap,cur,e,_⟩
    ·exact ⟨none,0,by rw[e,e0]⟩
    ·exact ⟨_,_,e⟩
   have hYo:Y.all (·.oneCell')=true:=by rw[hY,hpv];simp[Value.oneCell']
   have HY:=(show Hid (Y=#[pv,.slice ta tn tc]) from hY)
   rw[←hY] at h5
   have hrr:=h4.row Y
   have HB:=(show Hid (Below w.heap.size w (wr.setRow w.heap.size Y)) from Below.setRow hb w.heap.size (Nat.le_refl _) Y)
   have HO:=(show Hid ((wr.setRow w.heap.size Y).ownsRow w.heap.size 79 2 pv (s.size-1) (ints ((s.size-1)*2) (prF s)).toList) from by
    obtain ⟨e1,e2⟩:=hown
    refine ⟨e1,e2.imp id fun ⟨g,cap,cur,a,b,c,d⟩=>⟨g,cap,cur,a,by omega,?_,d⟩⟩
    exact (setRow_other wr w.heap.size g Y (by omega)).trans c)
   clear hlt hY hown hb hpv
   go_wp2_with (first | refine wpList_load_row rfl 66 _ rfl (w.heap.size+1) rfl 66 Y (0,0) _ h5 Try.underlying66 rfl (by rw[hYs];exact cE) ?_ | refine wpList_store_row rfl 66 _ _ rfl w.heap.size Y rfl rfl 66 _ h4 (by rw[hYs];exact cE) (by rw[hYs];rfl) hYo ?_)
   refine bodyPost_ret (v:=.agg Y) (iZ rfl _ _ w.heap.size 66 _ (0,0) _ rfl hrr Try.underlying66 rfl (by rw[hYs];exact cE)) rfl ?_
   exact ⟨pv,by rw[HY.out],HO.out,HB.out⟩
  have HLT:Hid (k+1<s.size):=hlt
  have hlt2:((k:Int)+1)<(s.size:Int):=by omega
  have hlt3:(k:Int)<(s.size:Int):=by omega
  obtain ⟨hx,hy,ex,ey⟩:=HX.out k hlt
  have ex1:=ex (by omega)
  have ey1:=ey hlt
  have HSN:=(show Hid _ from x6 s k)
  obtain ⟨x,hxx⟩:∃x,x=jx s k:=⟨_,rfl⟩
  obtain ⟨y,hyy⟩:∃y,y=jx s (k+1):=⟨_,rfl⟩
  rw[←hxx] at hx ex1 HSN
  rw[←hyy] at hy ey1 HSN
  clear hxx hyy ex ey
  obtain ⟨C2,hC2⟩:∃C2:Array Value,C2=#[.int .i64 (x:Nat),.int .i64 (y:Nat)]:=⟨_,rfl⟩
  have hbu:∀W,(Instr.build 79 #[(0,.int .i64 (x:Nat)),(1,.int .i64 (y:Nat))]).run Try.prog W=.ok (.agg C2) W:=fun W=>by rw[hC2];exact run_build W _ #[(0,.int .i64 (x:Nat)),(1,.int .i64 (y:Nat))] _ (rO (x:Nat) (y:Nat))
  have hCs:C2.size=2:=by rw[hC2];rfl
  have HCL:Hid (C2.toList=[.int .i64 (x:Nat),.int .i64 (y:Nat)]):=by rw[Hid,hC2]
  clear hC2
  obtain ⟨pa,pc,hpv⟩:∃x y,pv=.slice x k y:=by
   rcases hown.2 with ⟨e,e0⟩ | ⟨g,cap,cur,e,_⟩
   ·exact ⟨none,0,by rw[e,e0]⟩
   ·exact ⟨_,_,e⟩
  have HOWN:=(show Hid (wr.ownsRow (w.heap.size+2) 79 2 pv k (ints (k*2) (prF s)).toList) from hown)
  have HSZ:=(show Hid (w.heap.size+2≤wr.heap.size) from h5.lt)
  have H4:=(show Hid (ai wr w.heap.size 66 #[.slice none 0 0,.slice none 0 0]) from h4)
  have H5:=(show Hid (ai wr (w.heap.size+1) 66 #[pv,.slice ta tn tc]) from h5)
  clear hown h4
  go_upto_region 5 with fail
  refine wp_region_noPanic ?_
  refine wp_region_held_drew (S:=fun W=>Below w.heap.size w W) (by kernel_rfl) hb.drew (fun hS=>?_)
  have HOZ:Hid (wr.drew.ownsRow (w.heap.size+2) 79 2 pv k (ints (k*2) (prF s)).toList):=HOWN.out
  have HRZ:Hid (ai wr.drew w.heap.size 66 #[.slice none 0 0,.slice none 0 0]):=H4.out
  have HSZ2:Hid (w.heap.size+2≤wr.drew.heap.size):=HSZ.out
  have h5z:ai wr.drew (w.heap.size+1) 66 #[pv,.slice ta tn tc]:=H5.out
  obtain ⟨Z,hZ⟩:∃x,x=wr.drew:=⟨_,rfl⟩
  rw[←hZ] at hS HOZ HRZ HSZ2 h5z ⊢
  clear hZ h5 hb HOWN H4 H5 HSZ
  have c5z:=h5z.cell (i:=0) (v:=pv) rfl
  refine vtk 0 15 (.pointer (some ⟨w.heap.size+1,0,none⟩)) rfl (fun W hW=>by clear hS hW;go_simp) hS ?_
  simp only[zsA,zsB,zsC]
  refine vtk 2 17 (.string s) rfl (fun W hW=>by clear hS hW;go_simp) hS ?_
  simp only[zsA,zsB,zsC]
  refine vtk 3 18 (.int .i64 ((k:Int)+1)) rfl (fun W hW=>by clear hS hW;go_simp) hS ?_
  simp only[zsA,zsB,zsC]
  refine vtk 4 19 (.int .i64 (k:Nat)) rfl (fun W hW=>by have u1:IntKind.i64.wrap ((k:Nat):Int)=(k:Int):=(by rw[IntKind.wrap_i64];omega);have u2:(k:Int)+1-1=(k:Int):=(by omega);clear hS hW;simp[execOp,Act.eval,go_sem,u1,u2]) hS ?_
  simp only[zsA,zsB,zsC]
  refine vtk 5 20 (.int .u8 ((x:Int)+65)) rfl (fun W hW=>by clear hS hW;go_simp) hS ?_
  simp only[zsA,zsB,zsC]
  refine vtk 6 21 (.int .u8 (x:Nat)) rfl (fun W hW=>by have u1:IntKind.u8.wrap ((x:Nat):Int)=(x:Int):=(by rw[IntKind.wrap_u8];omega);have u2:(x:Int)+65-65=(x:Int):=(by omega);clear hS hW;simp[execOp,Act.eval,go_sem,u1,u2]) hS ?_
  simp only[zsA,zsB,zsC]
  refine vtk 7 22 (.int .i64 (x:Nat)) rfl (fun W hW=>by have u1:IntKind.i64.wrap ((x:Nat):Int)=(x:Int):=(by rw[IntKind.wrap_i64];omega);clear hS hW;go_simp) hS ?_
  simp only[zsA,zsB,zsC]
  refine vtk 8 23 (.string s) rfl (fun W hW=>by clear hS hW;go_simp) hS ?_
  simp only[zsA,zsB,zsC]
  refine vtk 9 24 (.int .i64 ((k:Int)+1)) rfl (fun W hW=>by clear hS hW;go_simp) hS ?_
  simp only[zsA,zsB,zsC]
  refine vtk 10 25 (.int .u8 ((y:Int)+65)) rfl (fun W hW=>by have u1:¬((k:Int)+1<0):=(by omega);clear hS hW;go_simp) hS ?_
  simp only[zsA,zsB,zsC]
  refine vtk 11 26 (.int .u8 (y:Nat)) rfl (fun W hW=>by have u1:IntKind.u8.wrap ((y:Nat):Int)=(y:Int):=(by rw[IntKind.wrap_u8];omega);have u2:(y:Int)+65-65=(y:Int):=(by omega);clear hS hW;simp[execOp,Act.eval,go_sem,u1,u2]) hS ?_
  simp only[zsA,zsB,zsC]
  refine vtk 12 27 (.int .i64 (y:Nat)) rfl (fun W hW=>by have u1:IntKind.i64.wrap ((y:Nat):Int)=(y:Int):=(by rw[IntKind.wrap_i64];omega);clear hS hW;go_simp) hS ?_
  simp only[zsA,zsB,zsC]
  refine vtk 13 28 (.agg C2) rfl (fun W hW=>by have u:=hbu;clear hS hW;simp[execOp,Act.eval,u]) hS ?_
  simp only[zsA,zsB,zsC]
  subst hpv
  have HNW:Hid (∀j u,C2.toList[j]? = some u→(Z.alloc (.cells C2 79)).cell? ((⟨Z.heap.size,0,none⟩:Addr).add j)=some u):=fun j u hu=>by
   rw[Addr.add_lit,Nat.zero_add]
   exact (ai.new Z 79 C2).cell (by rw[←Array.getElem?_toList];exact hu)
  have HOA:=World.ownsRow.alloc HOZ.out (.cells C2 79)
  refine wpAnyH_ready (rs:=[1,14]) (by kernel_rfl) (by simp) ?_
  refine AllReadyH.cons (o:=_) rfl (fun K hK=>?_) (AllReadyH.cons (o:=_) rfl (fun K hK=>?_) AllReadyH.nil)
  ·rw[if_pos (by rfl)]
   go_simp
   refine hK.out _ _ hS (fun hS1=>?_)
   clear hK K hS1
   refine rd1 14 rfl (fun K hK=>?_)
   refine lZ _ 51 79 (.tmp 28) rfl 2 #[.int .i64 0,.int .i64 0] C2 rfl (by decide) (by decide) Try.underlying51 rfl hCs nP ?_
   refine hK.out _ _ (hS.alloc hS.size _) (fun hS1=>?_)
   clear hK K hS
   have hS:=hS1
   clear hS1
   try simp only[Act.put,List.setIfInBounds_toArray]
   refine rd1 15 rfl (fun K hK=>?_)
   refine wp_append_own (Z.alloc (.cells C2 79)) _ _ 51 rfl (w.heap.size+2) 79 i0 (.agg #[.int .i64 0,.int .i64 0]) 2 16 Try.underlying51 hi0 hz0 hz1 hz2 rfl (by decide) _ _ _ rfl HOA ⟨Z.heap.size,0,none⟩ 1 1 C2.toList rfl (by rw[Array.length_toList,hCs]) HNW.out (fun u hu=>by rw[HCL.out] at hu;simp at hu;rcases hu with rfl | rfl <;> rfl) (by unfold maxLen;omega) (by omega) (by have:=HSZ2.out;simp;omega) ?_
   intro v' w1 hown' hgrow _
   have hne5:some (w.heap.size+1)≠(Value.slice pa k pc).ownBlock:=fun e=>by have:=(World.ownsRow.lt HOZ.out _ e.symm).1;omega
   have hne4:some w.heap.size≠(Value.slice pa k pc).ownBlock:=fun e=>by have:=(World.ownsRow.lt HOZ.out _ e.symm).1;omega
   have hr5:ai w1 (w.heap.size+1) 66 #[.slice pa k pc,.slice ta tn tc]:=(hgrow.block _ (h5z.alloc _).lt hne5).trans (h5z.alloc _)
   have hr4a:=ai.alloc HRZ.out (.cells C2 79)
   have hr4:ai w1 w.heap.size 66 #[.slice none 0 0,.slice none 0 0]:=(hgrow.block _ hr4a.lt hne4).trans hr4a
   refine hK.out _ _ (hS.grown hgrow hS.size (fun p hp=>by have:=(World.ownsRow.lt HOA p hp).1;omega)) (fun hS1=>?_)
   clear hK hS K
   have hS:=hS1
   clear hS1
   try simp only[Act.put]
   refine vtk 16 31 (.pointer (some ⟨w.heap.size+1,0,none⟩)) rfl (fun W hW=>by clear hS hW;go_simp) hS ?_
   try simp only[zsA,zsB,zsC]
   have c5:=hr5.cell (i:=0) (v:=.slice pa k pc) rfl
   have f5:=hr5.frozen 0
   obtain ⟨qa,qc,hv'⟩:∃x y,v'=.slice x (k+1) y:=by
    rcases hown'.2 with ⟨e,e0⟩ | ⟨g,cap,cur,e,_⟩
    ·omega
    ·exact ⟨_,_,e⟩
   have hset:=hr5.set 0 v'
   have HS5:Hid (ai (w1.setCell ⟨w.heap.size+1,0,none⟩ v') (w.heap.size+1) 66 #[v',.slice ta tn tc]):=hset
   have HS4:Hid (ai (w1.setCell ⟨w.heap.size+1,0,none⟩ v') w.heap.size 66 #[.slice none 0 0,.slice none 0 0]):=(heap_setCell_other w1 ⟨w.heap.size+1,0,none⟩ w.heap.size v' (by show w.heap.size≠w.heap.size+1;omega)).trans hr4
   have HOW:Hid ((w1.setCell ⟨w.heap.size+1,0,none⟩ v').ownsRow (w.heap.size+2) 79 2 v' (k+1) (ints ((k+1)*2) (prF s)).toList):=by
    have h1:=hown'
    rw[HCL.out,HSN.out] at h1
    obtain ⟨e1,e2⟩:=h1
    refine ⟨e1,e2.imp id fun ⟨g,cap,cur,a,b,c,d⟩=>⟨g,cap,cur,a,b,?_,d⟩⟩
    exact (heap_setCell_other w1 ⟨w.heap.size+1,0,none⟩ g v' (by show g≠w.heap.size+1;omega)).trans c
   have HBN:Hid (Below w.heap.size w (w1.setCell ⟨w.heap.size+1,0,none⟩ v')):=hS.setCell (p:=⟨w.heap.size+1,0,none⟩) (Nat.le_succ _) v'
   clear hset hown' hgrow HOA HOZ HRZ hr4 hr4a hne5 hne4 HNW
   subst hv'
   refine rd1 17 rfl (fun K hK=>?_)
   go_simp
   refine hK.out _ _ HBN.out (fun hS1=>?_)
   clear hK hS K hS1
   refine wpAnyH_done (by kernel_rfl) ?_ _
   refine NoPanic.normal ?_
   go_wp2_with fail
   go_roundw
   case rel=>exact ⟨k+1,.slice qa (k+1) qc,by have:=HLT.out;omega,by go_num,HS5.out,HS4.out,HOW.out,HBN.out⟩
   case measure=>have:=HLT.out;simp[intOf];omega
  ·have c5y:=(h5z.alloc (.cells C2 79)).cell (i:=0) (v:=.slice pa k pc) rfl
   rw[if_pos (by rfl)]
   refine lZ _ 51 79 (.tmp 28) rfl 2 #[.int .i64 0,.int .i64 0] C2 rfl (by decide) (by decide) Try.underlying51 rfl hCs nP ?_
   refine hK.out _ _ (hS.alloc hS.size _) (fun hS1=>?_)
   clear hK K hS
   have hS:=hS1
   clear hS1
   try simp only[Act.put,List.setIfInBounds_toArray]
   refine rd1 1 rfl (fun K hK=>?_)
   go_simp
   refine hK.out _ _ hS (fun hS1=>?_)
   clear hK K hS1 c5y
   refine rd1 15 rfl (fun K hK=>?_)
   refine wp_append_own (Z.alloc (.cells C2 79)) _ _ 51 rfl (w.heap.size+2) 79 i0 (.agg #[.int .i64 0,.int .i64 0]) 2 16 Try.underlying51 hi0 hz0 hz1 hz2 rfl (by decide) _ _ _ rfl HOA ⟨Z.heap.size,0,none⟩ 1 1 C2.toList rfl (by rw[Array.length_toList,hCs]) HNW.out (fun u hu=>by rw[HCL.out] at hu;simp at hu;rcases hu with rfl | rfl <;> rfl) (by unfold maxLen;omega) (by omega) (by have:=HSZ2.out;simp;omega) ?_
   intro v' w1 hown' hgrow _
   have hne5:some (w.heap.size+1)≠(Value.slice pa k pc).ownBlock:=fun e=>by have:=(World.ownsRow.lt HOZ.out _ e.symm).1;omega
   have hne4:some w.heap.size≠(Value.slice pa k pc).ownBlock:=fun e=>by have:=(World.ownsRow.lt HOZ.out _ e.symm).1;omega
   have hr5:ai w1 (w.heap.size+1) 66 #[.slice pa k pc,.slice ta tn tc]:=(hgrow.block _ (h5z.alloc _).lt hne5).trans (h5z.alloc _)
   have hr4a:=ai.alloc HRZ.out (.cells C2 79)
   have hr4:ai w1 w.heap.size 66 #[.slice none 0 0,.slice none 0 0]:=(hgrow.block _ hr4a.lt hne4).trans hr4a
   refine hK.out _ _ (hS.grown hgrow hS.size (fun p hp=>by have:=(World.ownsRow.lt HOA p hp).1;omega)) (fun hS1=>?_)
   clear hK hS K
   have hS:=hS1
   clear hS1
   try simp only[Act.put]
   refine vtk 16 31 (.pointer (some ⟨w.heap.size+1,0,none⟩)) rfl (fun W hW=>by clear hS hW;go_simp) hS ?_
   try simp only[zsA,zsB,zsC]
   have c5:=hr5.cell (i:=0) (v:=.slice pa k pc) rfl
   have f5:=hr5.frozen 0
   obtain ⟨qa,qc,hv'⟩:∃x y,v'=.slice x (k+1) y:=by
    rcases hown'.2 with ⟨e,e0⟩ | ⟨g,cap,cur,e,_⟩
    ·omega
    ·exact ⟨_,_,e⟩
   have hset:=hr5.set 0 v'
   have HS5:Hid (ai (w1.setCell ⟨w.heap.size+1,0,none⟩ v') (w.heap.size+1) 66 #[v',.slice ta tn tc]):=hset
   have HS4:Hid (ai (w1.setCell ⟨w.heap.size+1,0,none⟩ v') w.heap.size 66 #[.slice none 0 0,.slice none 0 0]):=(heap_setCell_other w1 ⟨w.heap.size+1,0,none⟩ w.heap.size v' (by show w.heap.size≠w.heap.size+1;omega)).trans hr4
   have HOW:Hid ((w1.setCell ⟨w.heap.size+1,0,none⟩ v').ownsRow (w.heap.size+2) 79 2 v' (k+1) (ints ((k+1)*2) (prF s)).toList):=by
    have h1:=hown'
    rw[HCL.out,HSN.out] at h1
    obtain ⟨e1,e2⟩:=h1
    refine ⟨e1,e2.imp id fun ⟨g,cap,cur,a,b,c,d⟩=>⟨g,cap,cur,a,b,?_,d⟩⟩
    exact (heap_setCell_other w1 ⟨w.heap.size+1,0,none⟩ g v' (by show g≠w.heap.size+1;omega)).trans c
   have HBN:Hid (Below w.heap.size w (w1.setCell ⟨w.heap.size+1,0,none⟩ v')):=hS.setCell (p:=⟨w.heap.size+1,0,none⟩) (Nat.le_succ _) v'
   clear hset hown' hgrow HOA HOZ HRZ hr4 hr4a hne5 hne4 HNW
   subst hv'
   refine rd1 17 rfl (fun K hK=>?_)
   go_simp
   refine hK.out _ _ HBN.out (fun hS1=>?_)
   clear hK hS K hS1
   refine wpAnyH_done (by kernel_rfl) ?_ _
   refine NoPanic.normal ?_
   go_wp2_with fail
   go_roundw
   case rel=>exact ⟨k+1,.slice qa (k+1) qc,by have:=HLT.out;omega,by go_num,HS5.out,HS4.out,HOW.out,HBN.out⟩
   case measure=>have:=HLT.out;simp[intOf];omega
end Go.Proofs.Ytpdemelchhkfaaa
