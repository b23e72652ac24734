/-
  Several texts, joined: WWrite, HInv, HMath.
-/
import Derived.Test.YtkohhdkkbaifoaaGreatDoorJn14
import Derived.Test.YtkohhdkkbaifoaaGreatDoorPz
import Derived.OrdersHeld
/-
  Contract of hill.Write.
-/
namespace Go.Proofs.YtkohhdkkbaifoaaGreatDoor
open Go.RowKit PK

theorem info_byte:(Tryz.prog.info? 5).map (fun i=>(i.zero,i.size,i.bytes))=some (some (.int .u8 0),1,1):=by kernel_rfl
theorem enc_at (n:Nat) (Z:Nat→Nat→Int) (full:List UInt8) (q r:Nat) (hr:r<n):encN n Z full (q*n+r)=sumTo (Z r) (fun k=>num (full.getD (q*n+k) 0)) n % 26:=by
 have e:(q*n+r) % n=r:=by rw[Nat.add_comm,Nat.add_mul_mod_self_right];exact Nat.mod_eq_of_lt hr
 unfold encN
 rw[e,Nat.add_sub_cancel]
theorem cells_enc (acc:List UInt8) (x:Int) (h:0≤x∧x<26):Lib.byteCells acc++[.int .u8 (65+x)]=Lib.byteCells (acc++[UInt8.ofNat (65+x.toNat)]):=by
 simp[Lib.byteCells]
 omega
theorem own_type {w:World} {B:Nat} {e T:TypeId} {v:Value} {n:Nat} {xs:List Value} {b:Nat} {c:Array Value} (h:w.ownsRow B e 1 v n xs) (hr:RowAt w b T c) (hne:e≠T):∀g,v.ownBlock=some g→g≠b:=fun g hg e1=>by
 rcases h.2 with ⟨rfl,_⟩ | ⟨g',cap,cur,rfl,hb,hg',_⟩
 ·cases hg
 ·simp[Value.ownBlock] at hg
  subst hg e1
  unfold RowAt at hr
  rw[hr] at hg'
  simp at hg'
  exact hne hg'.2.symm
def slen:Value→Nat
 | .slice _ n _=>n
 | _=>0
theorem slen_own {w:World} {B:Nat} {e:TypeId} {v:Value} {l:List UInt8} (h:Kit.Owns w B e v l):slen v=l.length:=by
 rcases h.2 with ⟨rfl,h0⟩ | ⟨g,cap,cur,rfl,_⟩
 ·rw[h0];rfl
 ·rfl
theorem own_below2 {w w':World} {B:Nat} {e:TypeId} {v:Value} {l:List UInt8} (h:Kit.Owns w B e v l) (hb:Below w.heap.size w w'):Kit.Owns w' B e v l :=
 ⟨h.1,h.2.imp id fun ⟨g,cap,cur,a,b,c,d⟩=>⟨g,cap,cur,a,b,(hb.block g (Array.getElem?_eq_some_iff.1 c).1).trans c,d⟩⟩
theorem row_kept2 {W W':World} {b:Nat} {T:TypeId} {c:Array Value} {row:Option Nat} (h:RowAt W b T c) (hg:W.grownBy W' row) (hne:row≠some b):RowAt W' b T c:=(hg.block b h.lt (fun e=>hne e.symm)).trans h
theorem PK.NumsAt.moved {w w':World} {v:Value} {n:Nat} {f:Nat→Int} (h:NumsAt w v n f) (hb:Below w.heap.size w w'):NumsAt w' v n f:=h.below hb
set_option maxRecDepth 100000 in
set_option maxHeartbeats 4000000 in
theorem hwr_ok (v:Value) (n:Nat) (L:Nat→Nat) (Z:Nat→Nat→Int) (hg:GoodM n Z) (hL:∀r,r<n→L r=n) (s:ByteArray) (hs:s.size≤65536) (hc:ckE s.data.toList=0) (hc2:ckAt s.data.toList=0) (hlet:Pl.Lets s.data.toList) (hshort:(fullL n s.data.toList).length≤65536) (w:World) (hv:MatAt w v n L Z) :
  Calls Tryz.prog 78 #[v,.string s] w fun e w'=>e=.returned (.tuple #[.string ⟨(encL n Z (fullL n s.data.toList) (fullL n s.data.toList).length).toArray⟩,.agg #[.int .i64 0,.int .i64 0]])∧Below w.heap.size w w':=by
 have hmf:∀(fn:Fn) (first cap:Array Value) (w:World),(Instr.makeFunc fn first cap).run Tryz.prog w=.ok (.func fn first cap) w:=fun _ _ _ _=>rfl
 obtain ⟨i0,hi0,hz0,hz1,hz2⟩:=info_parts info_byte
 have HV:=(show Hid (MatAt w v n L Z) from hv)
 have HE:Hid (matErr n L Z=0):=(matErr_zero n L Z).2 ⟨hg,hL⟩
 have HCK:=(show Hid (∀W,Calls Tryz.prog 38 #[.string s] W fun e w'=>e=.returned (.agg #[.int .i64 0,.int .i64 0])∧Below W.heap.size W w') from fun W=>by have:=check_all s W;rw[hc,hc2] at this;exact this)
 have h1:=hg.pos
 have h4:=hg.le
 have HZ:=(show Hid (∀r,r<n→∀c,c<n→0≤Z r c∧Z r c<26) from hg.num)
 obtain ⟨bm,om,cm,R,rfl,_,hrows,hnums⟩:=(hv.square hL).form (by omega)
 have HROW:=(show Hid (∀r,r<n→w.cell? ⟨bm,om+r,none⟩=some (R r)) from hrows)
 have HNUM:=(show Hid (∀r,r<n→NumsAt w (R r) n (Z r)) from hnums)
 have HFL:=(show Hid (∀W,Calls Tryz.prog 126 #[.string s,.int .i64 (n:Nat)] W fun e w'=>e=.returned (.string ⟨(fullL n s.data.toList).toArray⟩)∧Below W.heap.size W w') from fun W=>filled_any s hs n h1 h4 W)
 have HLF:=(show Hid (Pl.Lets (fullL n s.data.toList)) from lets_full n _ hlet)
 have HDV:=(show Hid ((fullL n s.data.toList).length % n=0) from (fullL_length n h1 _).1)
 clear hv hg hL hc hc2 hlet hrows hnums
 generalize fullL n s.data.toList=full at *
 have HTL:Hid ((⟨full.toArray⟩:ByteArray).data.toList=full):=by simp[Hid]
 have hT:(⟨full.toArray⟩:ByteArray).size=full.length:=by simp[ByteArray.size]
 obtain ⟨T,hTT⟩:∃T:ByteArray,T=⟨full.toArray⟩:=⟨_,rfl⟩
 rw[←hTT] at HFL HTL hT
 obtain ⟨F,hF⟩:∃F,F=full.length:=⟨_,rfl⟩
 rw[←hF] at hshort HDV hT ⊢
 clear hTT hF
 go_enter Tryz.func78,Tryz.ntmps78
 go_wp2_with fail
 refine Calls.mono (hwrong_any _ n L Z _ (HV.out.alloc _)) ?_
 rintro e W1 ⟨rfl,rfl⟩
 rw[HE.out]
 go_wp2_with fail
 refine Calls.mono (HCK.out _) ?_
 rintro e W1 ⟨rfl,hb⟩
 have hb1:Below (w.heap.size+1) (w.alloc (.cells #[.int .i64 0,.int .i64 0] 35)) W1:=by simpa using hb
 have hz:=hb1.size
 simp at hz
 have hb2:=hb1.alloc (by omega) (.cells #[.int .i64 0,.int .i64 0] 35)
 clear hb
 go_wp2_with fail
 refine Calls.mono (HFL.out _) ?_
 rintro e W2 ⟨rfl,hb3⟩
 have hz3:=hb3.size
 simp at hz3
 have hb4:=(hb2.trans (hb3.mono (by simp;omega))).alloc (by omega) (.cells #[.string T] 9)
 have q8:=RowAt.new W2 9 #[.string T]
 have hz4:w.heap.size+2≤(W2.alloc (.cells #[.string T] 9)).heap.size:=by simp;omega
 have hz5:W2.heap.size<(W2.alloc (.cells #[.string T] 9)).heap.size:=by simp
 have c8:=q8.cell (i:=0) rfl
 clear hb3 HCK HV HE HFL hb1 hb2
 obtain ⟨b8,hb8⟩:∃b,b=W2.heap.size:=⟨_,rfl⟩
 go_wp2_with (first
  | (at_make;refine wpList_make_own _ rfl _ _ 87 rfl (W2.alloc (.cells #[.string T] 9)).heap.size 5 i0 (.int .u8 0) 1 Tryz.underlying87 hi0 hz0 hz1 _ _ _ F rfl rfl rfl (by rw[hz2];omega) (by unfold maxLen;omega) (Nat.le_refl _) ?_;intro w3 hown1 hgrow1))
 obtain ⟨W3,hW3⟩:∃W3,W3=W2.alloc (.cells #[.string T] 9):=⟨_,rfl⟩
 have e3:W3.heap.size=W2.heap.size+1:=by rw[hW3];simp
 rw[←hW3] at hown1 hgrow1 hb4 hz4 hz5 q8
 have hown0:Kit.Owns (w3.alloc (.cells #[.int .i64 0] 3)) W3.heap.size 5 (.slice (some ⟨W2.heap.size+1,0,none⟩) 0 F) (encL n Z full (0*n)):=by
  rw[←e3]
  have:=World.ownsRow.alloc hown1 (.cells #[.int .i64 0] 3)
  simpa [Kit.Owns,Lib.byteCells,encL] using this
 have hbL0:Below W3.heap.size W3 (w3.alloc (.cells #[.int .i64 0] 3)):=((Below.refl _ _).grown hgrow1 (Nat.le_refl _) (fun k hk=>by cases hk)).alloc hgrow1.size _
 have qa0:=RowAt.new w3 3 #[.int .i64 0]
 have hza:=hgrow1.size
 have hbw:Below w.heap.size w W3:=((Below.refl w.heap.size w).alloc (Nat.le_refl _) _).trans (hb4.mono (by omega))
 clear hown1 hgrow1 hW3
 go_loopw [10,9] (fun p v W=>∃q ba:Nat,q*n≤F∧p=.pointer (some ⟨ba,0,none⟩)∧W3.heap.size≤ba∧RowAt W ba 3 #[.int .i64 ((q*n:Nat):Int)]∧Kit.Owns W W3.heap.size 5 v (encL n Z full (q*n))∧Below W3.heap.size W3 W) (fun _ v _=>F-slen v)
 case atStart=>exact ⟨0,w3.heap.size,by omega,rfl,hza,by simpa using qa0,hown0,hbL0⟩
 case round =>
  clear hown0 hbL0 qa0 hza
  obtain ⟨q,ba,hq,rfl,hba,qa,hown,hbL⟩:=hrel
  obtain ⟨a,ha⟩:∃a,a=q*n:=⟨_,rfl⟩
  rw[←ha] at hq qa hown
  have HA:Hid (a=q*n):=ha
  have hzl:=hbL.size
  have c8':=(q8.below hbL hz5).cell (i:=0) rfl
  have ca:=qa.cell (i:=0) rfl
  have HSL:Hid (slen u9=a):=by
   have:=slen_own hown
   rw[encL_length] at this
   exact this
  by_cases hlt:a<F
  ·have HNX:Hid (a+n≤F):=by
    have hdm:=Nat.div_add_mod F n
    rw[HDV.out,Nat.add_zero] at hdm
    rw[ha,←hdm,Nat.mul_comm n] at hlt
    have h5:=Nat.lt_of_mul_lt_mul_right hlt
    have h6:=Nat.mul_le_mul_right n (show q+1≤F / n from h5)
    rw[Nat.succ_mul,Nat.mul_comm (F / n),hdm,←ha] at h6
    exact h6
   have hax:a+n≤F:=HNX.out
   clear ha
   go_wp2
   go_loopw [47,9] (fun i v W=>∃r:Nat,r≤n∧i=.int .i64 r∧Kit.Owns W W3.heap.size 5 v (encL n Z full (a+r))∧RowAt W ba 3 #[.int .i64 ((a:Nat):Int)]∧Below W3.heap.size W3 W) (fun i _ _=>((n:Int)-intOf i).toNat)
   case atStart=>exact ⟨0,by omega,rfl,hown,qa,hbL⟩
   case round =>
    clear hown qa hbL hzl c8' ca
    obtain ⟨r,hr,rfl,hown,qa,hbL⟩:=hrel
    have hzl:=hbL.size
    have ca:=qa.cell (i:=0) rfl
    have hbW:=hbw.trans (hbL.mono hbw.size)
    by_cases hrl:r<n
    ·have k1:=(hbW.cell (p:=⟨bm,om+r,none⟩) (cell_block (HROW.out r hrl))).trans (HROW.out r hrl)
     have HNR:=(show Hid (NumsAt wr (R r) n (Z r)) from (HNUM.out r hrl).moved hbW)
     have HQ8:=(show Hid (RowAt wr W2.heap.size 9 #[.string T]) from q8.below hbL hz5)
     have HQA:=(show Hid (RowAt wr ba 3 #[.int .i64 ((a:Nat):Int)]) from qa)
     have HOW:=(show Hid (Kit.Owns wr W3.heap.size 5 u9 (encL n Z full (a+r))) from hown)
     have HEN:Hid (sumTo (Z r) (fun k=>num (full.getD (a+k) 0)) n % 26=encN n Z full (a+r)):=by rw[Hid,HA.out,enc_at n Z full q r hrl]
     clear hown qa
     go_wp2_with fail
     refine Calls.mono (times_any (R r) n h4 (Z r) (fun k=>num (full.getD (a+k) 0)) 128 #[.pointer (some ⟨W2.heap.size,0,none⟩),.pointer (some ⟨ba,0,none⟩)] wr HNR.out (by intro args W;go_simp) (fun k hk=>⟨HZ.out r hrl k hk,(num_bound HLF.out (a+k) (by rw[←HTL.out,←Pl.size_len,hT];omega)).1⟩) (fun k hk W hW=>by
      have:=wr1_any T (by rw[HTL.out];exact HLF.out) (by omega) W2.heap.size ba a W ((HQ8.out.below hW HQ8.out.lt).cell rfl) ((HQA.out.below hW HQA.out.lt).cell rfl) k (by omega)
      rw[HTL.out] at this
      exact this)) ?_
     rintro e W4 ⟨rfl,hc⟩
     rw[HEN.out]
     have hxb:=encN_bound n Z full (a+r)
     have HST:=(show Hid (encL n Z full (a+(r+1))=encL n Z full (a+r)++[UInt8.ofNat (65+(encN n Z full (a+r)).toNat)]) from encL_step n Z full (a+r))
     have HCE:=(show Hid (∀acc:List UInt8,Lib.byteCells acc++[.int .u8 (65+encN n Z full (a+r))]=Lib.byteCells (acc++[UInt8.ofNat (65+(encN n Z full (a+r)).toNat)])) from fun acc=>cells_enc acc _ hxb)
     have hle:=encL_length n Z full (a+r)
     generalize encN n Z full (a+r)=x at *
     have hown:Kit.Owns W4 W3.heap.size 5 u9 (encL n Z full (a+r)):=own_below2 HOW.out hc
     have qa:=HQA.out.below hc HQA.out.lt
     have hz6:=hc.size
     replace hbL:=hbL.trans (hc.mono hzl)
     clear hc HNR
     go_wp2_with fail
     refine Calls.mono (letter_anyW x hxb.1 hxb.2 W4) ?_
     rintro e W5 ⟨rfl,rfl⟩
     generalize encL n Z full (a+r)=acc at *
     go_wp2_with (first
      | (at_builtin;refine wpList_append_own _ rfl _ _ 87 rfl W3.heap.size 5 i0 (.int .u8 0) 1 1 Tryz.underlying87 hi0 hz0 hz1 hz2 rfl (by decide) _ _ _ rfl (World.ownsRow.alloc hown _) ⟨W4.heap.size,0,none⟩ 1 1 [.int .u8 (65+x)] rfl rfl (cell_one_new _ _ _) (fun u hu=>by simp at hu;subst hu;rfl) (by unfold maxLen;omega) (by omega) (by simp;omega) ?_;intro v5 w5 hown5 hgrow5 _))
     go_roundw
     case rel =>
      refine ⟨r+1,by omega,by go_num,?_,?_,?_⟩
      ·rw[HST.out]
       unfold Kit.Owns
       rw[←HCE.out acc,List.length_append]
       exact hown5
      ·exact row_kept2 (qa.alloc _) hgrow5 (fun e=>own_type hown qa (by decide) ba e rfl)
      ·exact (hbL.alloc (by omega) _).grown hgrow5 (by simp;omega) (fun k hk=>(World.ownsRow.lt hown k hk).1)
     case measure=>simp[intOf];omega
    ·have hrn:r=n:=by omega
     subst hrn
     have e9:(a+r)=(q+1)*r:=by rw[Nat.succ_mul,←HA.out]
     have HOW:=(show Hid (Kit.Owns wr W3.heap.size 5 u9 (encL r Z full ((q+1)*r))) from by rw[Hid,←e9];exact hown)
     have HE9:Hid ((q+1)*r=a+r):=e9.symm
     have HS9:Hid (slen u9=a+r):=by
      have:=slen_own hown
      rw[encL_length] at this
      exact this
     clear e9 hown
     go_wp2
     go_roundw
     case rel =>
      refine ⟨q+1,wr.heap.size,by rw[HE9.out];exact HNX.out,rfl,by omega,?_,World.ownsRow.alloc HOW.out _,hbL.alloc hzl _⟩
      rw[HE9.out]
      have:=RowAt.new wr 3 #[.int .i64 (((a:Nat):Int)+((r:Nat):Int))]
      rw[show (((a:Nat):Int)+((r:Nat):Int))=((a+r:Nat):Int) by omega] at this
      exact this
     case measure =>
      have h7:=HS9.out
      have h8:=HSL.out
      omega
  ·have haF:a=F:=by omega
   have hstr:=Kit.run_string_of_own (P:=Tryz.prog) wr 87 9 5 Tryz.underlying87 Tryz.underlying5 Tryz.underlying9 hown
   rw[haF] at hstr
   have hbA:=hb4.trans (hbL.mono (by omega))
   obtain ⟨c0,c1,f0,f1,hsz⟩:=Kit.two_cells hbA
   have qq:=Kit.read_two (.int .i64 0) (.int .i64 0) c0 c1
   have hbf:=Kit.below_two hbA (.int .i64 0) (.int .i64 0)
   generalize hFF:encL n Z full F=out at hstr
   have HF:Hid (encL n Z full F=out):=hFF
   clear hown hFF
   go_wp2
   refine bodyPost_ret (v:=.tuple #[.string ⟨out.toArray⟩,.agg #[.int .i64 0,.int .i64 0]]) (by simp[results,Tryz.results78,go_sem,qq.1,qq.2]) rfl ⟨by rw[HF.out],hbf⟩
end Go.Proofs.YtkohhdkkbaifoaaGreatDoor

/-
  Contract of hill.Inverse.
-/
namespace Go.Proofs.YtkohhdkkbaifoaaGreatDoor
open Go.RowKit PK

section
variable {P:Program} {ops:Array Oper} {Q:Exit→Act→World→Prop} {md:Region.Mode} {S:World→Prop}
theorem htake (i d:Nat) (v:Value) {oi:Oper} {fuel:Nat} {listed:Array Bool} {tm:Array Value} {df:List Deferred} {w:World} (hi:ops[i]? = some oi) (hd:oi.dst=some d)
  (hs:Region.noSelect ops=true) (hf:Region.free md ops listed i=true) (hr:(Region.ready md ops listed).contains i=true)
  (hQ:∀c a a' w,Q (.panic c) a' w→Q (.panic c) a w) (hw:Region.wanted oi (yielded ops tm)=true) (hrun:∀W,S W→(execOp (Act.eval ⟨tm,df⟩) oi).run P W=.ok (.value v) W) (hS:S w)
  (h:wpAnyH P md ops Q S fuel (listed.setIfInBounds i true) ⟨tm.setIfInBounds d v,df⟩ w):wpAnyH P md ops Q S (fuel+1) listed ⟨tm,df⟩ w:=by
 refine wpAnyH_take (i:=i) (oi:=oi) (v:=v) hi hs hf hr (fun c a w=>hQ c a _ w) (Or.inl ⟨hw,fun W hW=>hrun W hW⟩) hS ?_
 rw[hd]
 exact h
end
theorem keep_cells {W W':World} {b1 b2:Nat} {u v:Value} (h:W.cell? ⟨b1,0,none⟩=some u∧W.cell? ⟨b2,0,none⟩=some v) (hb:Below W.heap.size W W'):W'.cell? ⟨b1,0,none⟩=some u∧W'.cell? ⟨b2,0,none⟩=some v :=
 ⟨(hb.cell (p:=⟨b1,0,none⟩) (cell_block h.1)).trans h.1,(hb.cell (p:=⟨b2,0,none⟩) (cell_block h.2)).trans h.2⟩
set_option maxHeartbeats 1000000 in
theorem inv1_any (n:Nat) (hn:n<4) (Z:Nat→Nat→Int) (hZ:∀r,r<n+1→∀c,c<n+1→0≤Z r c∧Z r c<26) (v:Value) (w:World) (hm:MatAt w v (n+1) (fun _=>n+1) Z) (u:Int) (hu:0≤u∧u<26) (bb bm:Nat) (hbb:w.cell? ⟨bb,0,none⟩=some (.int .i64 u)) (hbm:w.cell? ⟨bm,0,none⟩=some v)
  (y x:Nat) (hy:y<n+1) (hx:x<n+1) :
  Calls Tryz.prog 149 #[.int .i64 (y:Nat),.int .i64 (x:Nat),.pointer (some ⟨bb,0,none⟩),.pointer (some ⟨bm,0,none⟩)] w fun e w'=>e=.returned (.int .i64 (u*cofL n Z x y % 26))∧Below w.heap.size w w':=by
 have HC:Hid (∀W,Below w.heap.size w W→Calls Tryz.prog 150 #[v,.int .i64 (x:Nat),.int .i64 (y:Nat)] W fun e w'=>e=.returned (.int .i64 (cofL n Z x y))∧Below W.heap.size W w'):=fun W hW=>cofactor_any n hn Z v W (hm.below hW) hZ x y hx hy
 have hcb:=cofL_bound n Z x y
 have hpb:=prod_bound hu hcb
 generalize cofL n Z x y=c at *
 obtain ⟨p,hp⟩:∃p,p=u*c:=⟨_,rfl⟩
 have HV:Hid (u*c % 26=p % 26):=by rw[Hid,hp]
 rw[←hp] at hpb
 have hpw:IntKind.i64.wrap (u*c)=p:=by rw[←hp,IntKind.wrap_i64];omega
 have hS0:w.drew.cell? ⟨bb,0,none⟩=some (.int .i64 u)∧w.drew.cell? ⟨bm,0,none⟩=some v:=⟨hbb,hbm⟩
 clear hp hm hZ
 go_enter Tryz.func149,Tryz.ntmps149
 go_wp2
 refine wp_region_noPanic ?_
 refine wp_region_held_drew (S:=fun W=>W.cell? ⟨bb,0,none⟩=some (.int .i64 u)∧W.cell? ⟨bm,0,none⟩=some v) (by kernel_rfl) hS0 (fun hS=>?_)
 refine htake 0 7 (.int .i64 u) rfl rfl (by kernel_rfl) (by kernel_rfl) (by kernel_rfl) (fun _ _ _ _ h=>h) (by rfl) (fun W hW=>by have h1:=hW.1;clear hS hW HC;go_simp) hS ?_
 simp only[zsA,zsB,zsC]
 refine htake 1 8 v rfl rfl (by kernel_rfl) (by kernel_rfl) (by kernel_rfl) (fun _ _ _ _ h=>h) (by rfl) (fun W hW=>by have h1:=hW.2;clear hS hW HC;go_simp) hS ?_
 simp only[zsA,zsB,zsC]
 refine htake 2 9 (.int .i64 (x:Nat)) rfl rfl (by kernel_rfl) (by kernel_rfl) (by kernel_rfl) (fun _ _ _ _ h=>h) (by rfl) (fun W hW=>by clear hS hW HC;go_simp) hS ?_
 simp only[zsA,zsB,zsC]
 refine htake 3 10 (.int .i64 (y:Nat)) rfl rfl (by kernel_rfl) (by kernel_rfl) (by kernel_rfl) (fun _ _ _ _ h=>h) (by rfl) (fun W hW=>by clear hS hW HC;go_simp) hS ?_
 simp only[zsA,zsB,zsC]
 refine rd1 4 rfl (fun K hK=>?_)
 go_simp
 refine Calls.mono (HC.out w.drew ((Below.refl _ _).drew)) ?_
 rintro e X1 ⟨rfl,hcall⟩
 refine hK.out _ _ (keep_cells hS hcall) (fun hS1=>?_)
 clear hK hS
 have hS:=hS1
 clear hS1 K
 refine htake 5 12 (.int .i64 p) rfl rfl (by kernel_rfl) (by kernel_rfl) (by kernel_rfl) (fun _ _ _ _ h=>h) (by rfl) (fun W hW=>by clear hS hW HC;go_simp) hS ?_
 simp only[zsA,zsB,zsC]
 refine htake 6 13 (.int .i64 (p % 26)) rfl rfl (by kernel_rfl) (by kernel_rfl) (by kernel_rfl) (fun _ _ _ _ h=>h) (by rfl) (fun W hW=>by clear hS hW HC;go_simp;exact Int.tmod_eq_emod_of_nonneg hpb.1) hS ?_
 simp only[zsA,zsB,zsC]
 refine htake 7 6 (.int .i64 (p % 26)) rfl rfl (by kernel_rfl) (by kernel_rfl) (by kernel_rfl) (fun _ _ _ _ h=>h) (by rfl) (fun W hW=>by clear hS hW HC;go_simp) hS ?_
 simp only[zsA,zsB,zsC]
 refine wpAnyH_done (by kernel_rfl) ?_ _
 refine NoPanic.normal ?_
 go_wp2
 go_ret
 exact ⟨ret_int HV.out.symm,⟨hcall.os,hcall.tape,hcall.output,hcall.size,hcall.block⟩⟩
theorem recOf_bound (d:Int):0≤(recOf d).1∧(recOf d).1<26:=by
 unfold recOf
 split
 ·rename_i v h
  have:=List.mem_of_find?_eq_some h
  simp at this
  show (0:Int)≤(v:Int)∧(v:Int)<26
  omega
 ·show (0:Int)≤0∧(0:Int)<26
  omega
theorem recOf_cases (d:Int):(recOf d).2=0∨(recOf d).2=6:=by
 unfold recOf
 split
 ·exact .inl rfl
 ·exact .inr rfl
def invL:Nat→(Nat→Nat→Int)→Nat→Nat→Int
 | 0,_=>fun _ _=>0
 | n+1,Z=>fun y x=>(recOf (detL (n+1) Z)).1*cofL n Z x y % 26
set_option maxHeartbeats 1000000 in
theorem hinv_ok (v:Value) (n:Nat) (L:Nat→Nat) (Z:Nat→Nat→Int) (hg:GoodM n Z) (hL:∀r,r<n→L r=n) (hr:(recOf (detL n Z)).2=0) (w:World) (hv:MatAt w v n L Z) :
  Calls Tryz.prog 93 #[v] w fun e w'=>∃x,e=.returned (.tuple #[x,.int .i64 0])∧MatAt w' x n (fun _=>n) (invL n Z)∧Below w.heap.size w w':=by
 have hmf:∀(fn:Fn) (first cap:Array Value) (w:World),(Instr.makeFunc fn first cap).run Tryz.prog w=.ok (.func fn first cap) w:=fun _ _ _ _=>rfl
 have HV:=(show Hid (MatAt w v n L Z) from hv)
 obtain ⟨a,cap,rfl,_⟩:=hv.len
 have HR:Hid ((recOf (detL n Z)).2=0):=hr
 have hn4:=hg.le
 clear hv hr
 go_enter Tryz.func93,Tryz.ntmps93
 go_wp2_with fail
 have hv1:=HV.out.alloc (.cells #[.slice a n cap] 23)
 have q1:=RowAt.new w 23 #[.slice a n cap]
 have hb1:Below w.heap.size w (w.alloc (.cells #[.slice a n cap] 23)):=(Below.refl _ _).alloc (Nat.le_refl _) _
 have hz1:=hb1.size
 have hz2:w.heap.size<(w.alloc (.cells #[.slice a n cap] 23)).heap.size:=by simp
 generalize w.alloc (.cells #[.slice a n cap] 23)=W0 at *
 refine Calls.mono (hdet_ok _ n L Z hg hL W0 hv1) ?_
 rintro e W1 ⟨rfl,hb2⟩
 have hz3:=hb2.size
 replace hv1:=hv1.below hb2
 replace q1:=q1.below hb2 hz2
 replace hb1:=hb1.trans (hb2.mono hz1)
 clear hb2
 go_wp2_with fail
 refine Calls.mono (recip_any (detL n Z) (detL_bound _ _) W1) ?_
 rintro e W2 ⟨rfl,rfl⟩
 rw[HR.out]
 have hub:=recOf_bound (detL n Z)
 have HU:Hid (∀y x,∀k,n=k+1→invL n Z y x=(recOf (detL n Z)).1*cofL k Z x y % 26):=fun y x k hk=>by subst hk;rfl
 generalize (recOf (detL n Z)).1=u at *
 have c1:=(q1.alloc (.cells #[.int .i64 u] 3)).cell (i:=0) rfl
 go_wp2_with fail
 have hv2:=(hv1.square hL).alloc (.cells #[.int .i64 u] 3)
 have q2:=q1.alloc (.cells #[.int .i64 u] 3)
 have q3:=RowAt.new W1 3 #[.int .i64 u]
 have hb4:Below w.heap.size w (W1.alloc (.cells #[.int .i64 u] 3)):=hb1.alloc (by omega) _
 have hz5:=hb4.size
 generalize W1.alloc (.cells #[.int .i64 u] 3)=W3 at *
 obtain ⟨k,hk⟩:∃k,n=k+1:=⟨n-1,by have:=hg.pos;omega⟩
 refine Calls.mono (made_any n hn4 (invL n Z) 149 #[.pointer (some ⟨W1.heap.size,0,none⟩),.pointer (some ⟨w.heap.size,0,none⟩)] W3 (by intro args W;go_simp) (fun y hy x hx W hW=>?_)) ?_
 ·rw[HU.out y x k hk]
  subst hk
  exact inv1_any k (by omega) Z hg.num _ W (hv2.below hW) u hub _ _ ((q3.below hW q3.lt).cell rfl) ((q2.below hW q2.lt).cell rfl) y x hy hx
 rintro e W4 ⟨x,rfl,hx,hb6⟩
 go_wp2
 go_ret2
 exact ⟨_,rfl,hx,hb4.trans (hb6.mono hz5)⟩
set_option maxHeartbeats 1000000 in
theorem hinv_none (v:Value) (n:Nat) (L:Nat→Nat) (Z:Nat→Nat→Int) (hg:GoodM n Z) (hL:∀r,r<n→L r=n) (hr:(recOf (detL n Z)).2=6) (w:World) (hv:MatAt w v n L Z) :
  Calls Tryz.prog 93 #[v] w fun e w'=>e=.returned (.tuple #[.slice none 0 0,.int .i64 6])∧Below w.heap.size w w':=by
 have HV:=(show Hid (MatAt w v n L Z) from hv)
 obtain ⟨a,cap,rfl,_⟩:=hv.len
 have HR:Hid ((recOf (detL n Z)).2=6):=hr
 clear hv hr
 go_enter Tryz.func93,Tryz.ntmps93
 go_wp2_with fail
 have hv1:=HV.out.alloc (.cells #[.slice a n cap] 23)
 have hb1:Below w.heap.size w (w.alloc (.cells #[.slice a n cap] 23)):=(Below.refl _ _).alloc (Nat.le_refl _) _
 have hz1:=hb1.size
 generalize w.alloc (.cells #[.slice a n cap] 23)=W0 at *
 refine Calls.mono (hdet_ok _ n L Z hg hL W0 hv1) ?_
 rintro e W1 ⟨rfl,hb2⟩
 have hz3:=hb2.size
 replace hb1:=hb1.trans (hb2.mono hz1)
 clear hb2
 go_wp2_with fail
 refine Calls.mono (recip_any (detL n Z) (detL_bound _ _) W1) ?_
 rintro e W2 ⟨rfl,rfl⟩
 rw[HR.out]
 generalize (recOf (detL n Z)).1=u at *
 go_wp2
 go_ret2
 exact ⟨rfl,hb1.alloc (by omega) _⟩
end Go.Proofs.YtkohhdkkbaifoaaGreatDoor

/-
  Plain mathematics: determinants, products and inverses of up to four rows, modulo 26.
-/
namespace Go.Proofs.YtkohhdkkbaifoaaGreatDoor
open Go.RowKit PK

def sgI (s:Nat) (d:Int):Int:=if s % 2=1 then -d else d
def dI:Nat→(Nat→Nat→Int)→Int
 | 0,_=>1
 | n+1,Z=>sumTo (Z 0) (fun x=>sgI (0+x) (dI n (minor Z 0 x))) (n+1)
theorem mul_mod {a b c d:Int} (h1:a % 26=b % 26) (h2:c % 26=d % 26):(a*c) % 26=(b*d) % 26:=by rw[Int.mul_emod,h1,h2,←Int.mul_emod]
theorem sumTo_mod {f f' g g':Nat→Int}:∀n,(∀k,k<n→f k % 26=f' k % 26∧g k % 26=g' k % 26)→sumTo f g n % 26=sumTo f' g' n % 26
 | 0,_=>rfl
 | n+1,h=>by
  show (sumTo f g n+f n*g n) % 26=(sumTo f' g' n+f' n*g' n) % 26
  have ih:=sumTo_mod n fun k hk=>h k (by omega)
  have h1:=mul_mod (h n (by omega)).1 (h n (by omega)).2
  omega
theorem signed_mod (s:Nat) {d e:Int} (h:d % 26=e % 26):signed s d % 26=sgI s e % 26:=by
 unfold sgI signed
 split <;> omega
theorem detL_mod:∀n Z,detL n Z=dI n Z % 26
 | 0,_=>rfl
 | n+1,Z=>sumTo_mod (n+1) fun k hk=>⟨rfl,signed_mod _ (by rw[detL_mod n];omega)⟩
theorem cofL_mod (n:Nat) (Z:Nat→Nat→Int) (y x:Nat):cofL n Z y x % 26=sgI (y+x) (dI n (minor Z y x)) % 26:=signed_mod _ (by rw[detL_mod];omega)
theorem cof_col (m:Nat) (h:m<4) (A:Nat→Nat→Int) (y x:Nat) (hy:y<m+1) (hx:x<m+1):sumTo (fun k=>sgI (k+y) (dI m (minor A k y))) (fun k=>A k x) (m+1)=if y=x then dI (m+1) A else 0:=by
 obtain rfl | rfl | rfl | rfl:m=0∨m=1∨m=2∨m=3:=by omega
 ·obtain rfl:y=0:=by omega
  obtain rfl:x=0:=by omega
  simp[dI,sumTo,sgI]
 ·obtain rfl | rfl:y=0∨y=1:=by omega
  all_goals obtain rfl | rfl:x=0∨x=1:=by omega
  all_goals simp[dI,sumTo,sgI,minor,skip]
  all_goals grind
 ·obtain rfl | rfl | rfl:y=0∨y=1∨y=2:=by omega
  all_goals obtain rfl | rfl | rfl:x=0∨x=1∨x=2:=by omega
  all_goals simp[dI,sumTo,sgI,minor,skip]
  all_goals grind
 ·obtain rfl | rfl | rfl | rfl:y=0∨y=1∨y=2∨y=3:=by omega
  all_goals obtain rfl | rfl | rfl | rfl:x=0∨x=1∨x=2∨x=3:=by omega
  all_goals simp[dI,sumTo,sgI,minor,skip]
  all_goals grind
theorem sumTo_scaleL (u:Int) (f g:Nat→Int):∀n,sumTo (fun k=>u*f k) g n=u*sumTo f g n
 | 0=>by simp[sumTo]
 | n+1=>by
  show sumTo (fun k=>u*f k) g n+(u*f n)*g n=u*(sumTo f g n+f n*g n)
  rw[sumTo_scaleL u f g n]
  grind
theorem recOf_spec (d:Int) (h:(recOf d).2=0):(d*(recOf d).1) % 26=1:=by
 unfold recOf at h ⊢
 split at h
 ·rename_i v hv
  have:=List.find?_some hv
  simpa using this
 ·cases h
def oneL:Nat→Nat→Int:=fun y x=>if y=x then 1 else 0
theorem inv_left (n:Nat) (h1:1≤n) (h4:n≤4) (A:Nat→Nat→Int) (hr:(recOf (detL n A)).2=0) (y x:Nat) (hy:y<n) (hx:x<n):mulL n (invL n A) A y x=oneL y x:=by
 obtain ⟨m,rfl⟩:∃m,n=m+1:=⟨n-1,by omega⟩
 have hs:=recOf_spec _ hr
 show sumTo (fun k=>(recOf (detL (m+1) A)).1*cofL m A k y % 26) (fun k=>A k x) (m+1) % 26=_
 generalize (recOf (detL (m+1) A)).1=u at *
 rw[sumTo_mod (f':=fun k=>u*sgI (k+y) (dI m (minor A k y))) (g':=fun k=>A k x) (m+1) (fun k _=>⟨by rw[Int.emod_emod];exact mul_mod rfl (cofL_mod m A k y),rfl⟩),sumTo_scaleL,cof_col m (by omega) A y x hy hx]
 unfold oneL
 rw[detL_mod] at hs
 by_cases e:y=x
 ·rw[if_pos e,if_pos e,Int.mul_comm,←hs]
  exact mul_mod (by omega) rfl
 ·rw[if_neg e,if_neg e]
  simp
theorem good_inv {n:Nat} (h1:1≤n) (h4:n≤4) (A:Nat→Nat→Int):GoodM n (invL n A):=by
 obtain ⟨m,rfl⟩:∃m,n=m+1:=⟨n-1,by omega⟩
 exact ⟨h1,h4,fun _ _ _ _=>⟨Int.emod_nonneg _ (by decide),Int.emod_lt_of_pos _ (by decide)⟩⟩
end Go.Proofs.YtkohhdkkbaifoaaGreatDoor
