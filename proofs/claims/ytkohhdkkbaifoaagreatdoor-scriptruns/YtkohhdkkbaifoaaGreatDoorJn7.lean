/-
  Several texts, joined: VForB, VAt, VWr.
-/
import Derived.Test.YtkohhdkkbaifoaaGreatDoorPz
import Derived.Test.YtkohhdkkbaifoaaGreatDoorJn6
import Derived.Deep.RegionHeld3
import Derived.OrdersHeld
import Derived.Deep.DeepCutAuto
/-
  Contract of tableau.tableFor where key or text are wrong.
-/
namespace Go.Proofs.YtkohhdkkbaifoaaGreatDoor
open Go.RowKit PK Vg

theorem two_oneV (a b:Int):(#[.int .i64 a,.int .i64 b]:Array Value).all (·.oneCell')=true:=by
 rw[Array.all_eq_true_iff_forall_mem]
 intro v hv
 simp at hv
 rcases hv with rfl | rfl <;> rfl
section
variable {P:Program} {ops:Array Oper} {Q:Exit→Act→World→Prop} {md:Region.Mode} {S:World→Prop}
theorem vtakeV (i d:Nat) (v:Value) {oi:Oper} {fuel:Nat} {listed:Array Bool} {tm:Array Value} {df:List Deferred} {w:World} (hi:ops[i]? = some oi) (hd:oi.dst=some d)
  (hs:Region.noSelect ops=true) (hf:Region.free md ops listed i=true) (hr:(Region.ready md ops listed).contains i=true)
  (hQ:∀c a a' w,Q (.panic c) a' w→Q (.panic c) a w) (hw:Region.wanted oi (yielded ops tm)=true) (hrun:∀W,S W→(execOp (Act.eval ⟨tm,df⟩) oi).run P W=.ok (.value v) W) (hS:S w)
  (h:wpAnyH P md ops Q S fuel (listed.setIfInBounds i true) ⟨tm.setIfInBounds d v,df⟩ w):wpAnyH P md ops Q S (fuel+1) listed ⟨tm,df⟩ w:=by
 refine wpAnyH_take (i:=i) (oi:=oi) (v:=v) hi hs hf hr (fun c a w=>hQ c a _ w) (Or.inl ⟨hw,fun W hW=>hrun W hW⟩) hS ?_
 rw[hd]
 exact h
end
set_option maxRecDepth 100000 in
set_option maxHeartbeats 1000000 in
theorem tfor_key (k:Nat) (h:1≤k∧k≤4) (key t:ByteArray) (hk:(ckE key.data.toList != 0)=true) (w:World):Calls Tryz.prog 118 #[.int .i64 k,.string key,.string t] w fun e w'=>e=.returned (.tuple #[.agg tbl0,.agg #[.int .i64 (ckE key.data.toList),.int .i64 (ckAt key.data.toList)]])∧Below w.heap.size w w':=by
 have HT:=(show Hid (∀W,Calls Tryz.prog 166 #[.int .i64 k] W fun e w'=>e=.returned (.tuple #[.agg #[.func (.func (fn0 k)) #[] #[],.func (.func (fn1 k)) #[] #[],.func (.func (fn2 k)) #[] #[],.bool (decide (k=4))],.bool true])∧Below W.heap.size W w') from fun W=>tableOf_ok k h W)
 have HC:=(show Hid (∀W,Calls Tryz.prog 38 #[.string key] W fun e w'=>e=.returned (.agg #[.int .i64 (ckE key.data.toList),.int .i64 (ckAt key.data.toList)])∧Below W.heap.size W w') from fun W=>check_all key W)
 generalize ckE key.data.toList=E at *
 generalize ckAt key.data.toList=A at *
 generalize fn0 k=F0 at *
 generalize fn1 k=F1 at *
 generalize fn2 k=F2 at *
 generalize decide (k=4)=B at *
 clear h
 go_enter Tryz.func118,Tryz.ntmps118
 go_wp2_with fail
 refine (HT.out _).mono ?_
 rintro e W1 ⟨rfl,hb1⟩
 simp only[World.size_alloc] at hb1
 have hb2:=hb1.alloc (by have:=six_size hb1;omega) (.cells #[.func (.func F0) #[] #[],.func (.func F1) #[] #[],.func (.func F2) #[] #[],.bool B] 147)
 clear hb1
 go_wp2_with fail
 refine (HC.out _).mono ?_
 rintro e W2 ⟨rfl,hb3⟩
 have hb4:=hb2.trans (hb3.mono (by have:=six_size hb2;omega))
 clear hb3 hb2
 have hb5:=hb4.alloc (by have:=six_size hb4;omega) (.cells #[.int .i64 E,.int .i64 A] 35)
 have hb:=(six_first w _ _).trans (hb5.mono (by omega))
 have RR:=(show Hid (_∧_) from six_rows hb5)
 have hz:=six_size hb4
 have n0:¬W2.heap.size=w.heap.size:=by omega
 have n1:¬w.heap.size=W2.heap.size:=by omega
 have n2:¬W2.heap.size=w.heap.size+1:=by omega
 have n3:¬w.heap.size+1=W2.heap.size:=by omega
 clear hb4 hb5 HC HT hz
 go_wp2_with fail
 refine wp_region_noPanic ?_
 refine wp_region_held_drew (S:=fun W=>RowAt W w.heap.size 147 #[.nilFunc,.nilFunc,.nilFunc,.bool false]∧(∃c0 c1,RowAt W (w.heap.size+1) 35 #[c0,c1])∧RowAt W W2.heap.size 35 #[.int .i64 E,.int .i64 A]∧Below w.heap.size w W) (by kernel_rfl) ⟨RR.out.1,⟨_,_,RR.out.2⟩,RowAt.new W2 _ _,hb.drew⟩ (fun hS=>?_)
 refine vtk 0 26 (.agg #[.nilFunc,.nilFunc,.nilFunc,.bool false]) rfl (fun W hW=>by clear hS hW;go_simp) hS ?_
 simp only[zsA,zsB,zsC]
 refine vtk 1 27 (.agg #[.int .i64 E,.int .i64 A]) rfl (fun W hW=>by have h1:=hW.2.2.1.cell (i:=0) rfl;have h2:=hW.2.2.1.cell (i:=1) rfl;clear hS hW;go_simp) hS ?_
 simp only[zsA,zsB,zsC]
 refine rd1 2 rfl (fun K hK=>?_)
 refine wp_store_row 147 _ _ rfl w.heap.size #[.nilFunc,.nilFunc,.nilFunc,.bool false] rfl rfl 147 _ hS.1 v_info_tbl rfl tbl0_one ?_
 refine hK.out _ _ ⟨hS.1.row _,⟨hS.2.1.choose,hS.2.1.choose_spec.choose,hS.2.1.choose_spec.choose_spec.rowOther _ _ (by omega)⟩,hS.2.2.1.rowOther _ _ n0,Below.setRow hS.2.2.2 _ (Nat.le_refl _) _⟩ (fun hS1=>?_)
 clear hK hS
 have hS:=hS1
 clear hS1 K
 obtain ⟨d0,d1,hd⟩:=hS.2.1
 refine rd1 3 rfl (fun K hK=>?_)
 refine wp_store_row 35 _ _ rfl (w.heap.size+1) #[.int .i64 E,.int .i64 A] rfl rfl 35 _ hd v_info_faultV rfl (two_oneV _ _) ?_
 refine hK.out _ _ ⟨hS.1.rowOther _ _ (by omega),⟨_,_,hd.row _⟩,hS.2.2.1.rowOther _ _ n2,Below.setRow hS.2.2.2 _ (by omega) _⟩ (fun hS1=>?_)
 have hr:=hd.row #[.int .i64 E,.int .i64 A]
 clear hK hS K
 refine wpAnyH_done (by kernel_rfl) ?_ _
 refine NoPanic.normal ?_
 go_wp2
 refine bodyPost_ret (v:=.tuple #[.agg tbl0,.agg #[.int .i64 E,.int .i64 A]]) (results_cells2V Tryz.results118 _ _ _ _ _ _ _ _ _ _ _ _ rfl rfl hS1.1 hr Tryz.underlying147 rfl v_info_tbl Tryz.underlying35 rfl v_info_faultV) rfl ⟨rfl,hS1.2.2.2⟩
set_option maxRecDepth 100000 in
set_option maxHeartbeats 1000000 in
theorem tfor_text (k:Nat) (h:1≤k∧k≤4) (key t:ByteArray) (hk:ckE key.data.toList=0) (hk2:ckAt key.data.toList=0) (hn:1≤key.size∧key.size≤256) (ht:(ckE t.data.toList != 0)=true) (w:World):Calls Tryz.prog 118 #[.int .i64 k,.string key,.string t] w fun e w'=>e=.returned (.tuple #[.agg tbl0,.agg #[.int .i64 (ckE t.data.toList),.int .i64 (ckAt t.data.toList)]])∧Below w.heap.size w w':=by
 have HT:=(show Hid (∀W,Calls Tryz.prog 166 #[.int .i64 k] W fun e w'=>e=.returned (.tuple #[.agg #[.func (.func (fn0 k)) #[] #[],.func (.func (fn1 k)) #[] #[],.func (.func (fn2 k)) #[] #[],.bool (decide (k=4))],.bool true])∧Below W.heap.size W w') from fun W=>tableOf_ok k h W)
 have HC:=(show Hid (∀W,Calls Tryz.prog 38 #[.string key] W fun e w'=>e=.returned (.agg #[.int .i64 0,.int .i64 0])∧Below W.heap.size W w') from fun W=>by have:=check_all key W;rw[hk,hk2] at this;exact this)
 have HD:=(show Hid (∀W,Calls Tryz.prog 38 #[.string t] W fun e w'=>e=.returned (.agg #[.int .i64 (ckE t.data.toList),.int .i64 (ckAt t.data.toList)])∧Below W.heap.size W w') from fun W=>check_all t W)
 generalize ckE t.data.toList=E at *
 generalize ckAt t.data.toList=A at *
 generalize fn0 k=F0 at *
 generalize fn1 k=F1 at *
 generalize fn2 k=F2 at *
 generalize decide (k=4)=B at *
 clear h hk hk2
 go_enter Tryz.func118,Tryz.ntmps118
 go_wp2_with fail
 refine (HT.out _).mono ?_
 rintro e W1 ⟨rfl,hb1⟩
 simp only[World.size_alloc] at hb1
 have hb2:=hb1.alloc (by have:=six_size hb1;omega) (.cells #[.func (.func F0) #[] #[],.func (.func F1) #[] #[],.func (.func F2) #[] #[],.bool B] 147)
 have hz1:=six_size hb1
 have rt:=RowAt.new W1 147 #[.func (.func F0) #[] #[],.func (.func F1) #[] #[],.func (.func F2) #[] #[],.bool B]
 clear hb1
 go_wp2_with fail
 refine (HC.out _).mono ?_
 rintro e W2 ⟨rfl,hb3⟩
 have hb4:=hb2.trans (hb3.mono (by have:=six_size hb2;omega))
 have rt2:=rt.below hb3 rt.lt
 clear hb3 hb2 rt
 have hb5:=hb4.alloc (by have:=six_size hb4;omega) (.cells #[.int .i64 0,.int .i64 0] 35)
 clear hb4
 go_wp2_with fail
 refine (HD.out _).mono ?_
 rintro e W3 ⟨rfl,hb6⟩
 have hb7:=hb5.trans (hb6.mono (by have:=six_size hb5;omega))
 clear hb6 hb5
 have hb8:=hb7.alloc (by have:=six_size hb7;omega) (.cells #[.int .i64 E,.int .i64 A] 35)
 have hb:=(six_first w _ _).trans (hb8.mono (by omega))
 have RR:=(show Hid (_∧_) from six_rows hb8)
 have hz:=six_size hb7
 have n0:¬W3.heap.size=w.heap.size:=by omega
 have n1:¬w.heap.size=W3.heap.size:=by omega
 have n2:¬W3.heap.size=w.heap.size+1:=by omega
 have n3:¬w.heap.size+1=W3.heap.size:=by omega
 clear hb7 hb8 HC HT HD hz hz1 rt2
 go_wp2_with fail
 refine wp_region_noPanic ?_
 refine wp_region_held_drew (S:=fun W=>RowAt W w.heap.size 147 #[.nilFunc,.nilFunc,.nilFunc,.bool false]∧(∃c0 c1,RowAt W (w.heap.size+1) 35 #[c0,c1])∧RowAt W W3.heap.size 35 #[.int .i64 E,.int .i64 A]∧Below w.heap.size w W) (by kernel_rfl) ⟨RR.out.1,⟨_,_,RR.out.2⟩,RowAt.new W3 _ _,hb.drew⟩ (fun hS=>?_)
 refine vtk 0 43 (.agg #[.nilFunc,.nilFunc,.nilFunc,.bool false]) rfl (fun W hW=>by clear hS hW;go_simp) hS ?_
 simp only[zsA,zsB,zsC]
 refine vtk 1 44 (.agg #[.int .i64 E,.int .i64 A]) rfl (fun W hW=>by have h1:=hW.2.2.1.cell (i:=0) rfl;have h2:=hW.2.2.1.cell (i:=1) rfl;clear hS hW;go_simp) hS ?_
 simp only[zsA,zsB,zsC]
 refine rd1 2 rfl (fun K hK=>?_)
 refine wp_store_row 147 _ _ rfl w.heap.size #[.nilFunc,.nilFunc,.nilFunc,.bool false] rfl rfl 147 _ hS.1 v_info_tbl rfl tbl0_one ?_
 refine hK.out _ _ ⟨hS.1.row _,⟨hS.2.1.choose,hS.2.1.choose_spec.choose,hS.2.1.choose_spec.choose_spec.rowOther _ _ (by omega)⟩,hS.2.2.1.rowOther _ _ n0,Below.setRow hS.2.2.2 _ (Nat.le_refl _) _⟩ (fun hS1=>?_)
 clear hK hS
 have hS:=hS1
 clear hS1 K
 obtain ⟨d0,d1,hd⟩:=hS.2.1
 refine rd1 3 rfl (fun K hK=>?_)
 refine wp_store_row 35 _ _ rfl (w.heap.size+1) #[.int .i64 E,.int .i64 A] rfl rfl 35 _ hd v_info_faultV rfl (two_oneV _ _) ?_
 refine hK.out _ _ ⟨hS.1.rowOther _ _ (by omega),⟨_,_,hd.row _⟩,hS.2.2.1.rowOther _ _ n2,Below.setRow hS.2.2.2 _ (by omega) _⟩ (fun hS1=>?_)
 have hr:=hd.row #[.int .i64 E,.int .i64 A]
 clear hK hS K
 refine wpAnyH_done (by kernel_rfl) ?_ _
 refine NoPanic.normal ?_
 go_wp2
 refine bodyPost_ret (v:=.tuple #[.agg tbl0,.agg #[.int .i64 E,.int .i64 A]]) (results_cells2V Tryz.results118 _ _ _ _ _ _ _ _ _ _ _ _ rfl rfl hS1.1 hr Tryz.underlying147 rfl v_info_tbl Tryz.underlying35 rfl v_info_faultV) rfl ⟨rfl,hS1.2.2.2⟩
end Go.Proofs.YtkohhdkkbaifoaaGreatDoor

/-
  Contract of keyAt.
-/
namespace Go.Proofs.YtkohhdkkbaifoaaGreatDoor
open Go.RowKit PK Vg

theorem getD_sizeV {s:ByteArray} {i:Nat} (hi:i<s.size):i<s.data.toList.length:=by have:=Pl.size_len s;omega
set_option maxRecDepth 100000 in
set_option maxHeartbeats 1000000 in
theorem keyAt_plain (x0 x1 x2:Value) (key:ByteArray) (i:Nat) (hi:key.size≤i) (h6:i≤65536) (g n cap:Nat) (hn:i-key.size<n) (c:UInt8) (hc:65≤c.toNat∧c.toNat≤90) (w:World) (hw:w.cell? ⟨g,i-key.size,none⟩=some (.int .u8 c.toNat)) :
  Calls Tryz.prog 121 #[.agg #[x0,x1,x2,.bool true],.string key,.slice (some ⟨g,0,none⟩) n cap,.int .i64 i] w fun e w'=>e=.returned (.int .i64 (Vg.num c:Nat))∧Below w.heap.size w w':=by
 have HN:=(show Hid (∀W,Calls Tryz.prog 120 #[.int .u8 c.toNat] W fun e w'=>e=.returned (.int .i64 (Vg.num c:Nat))∧W=w') from fun W=>number_anyV c hc W)
 obtain ⟨j,hj⟩:∃j,i=key.size+j:=⟨i-key.size,by omega⟩
 subst hj
 rw[Nat.add_sub_cancel_left] at hw hn
 have hgl:=cell_block hw
 have hn2:(j:Int)<(n:Int):=by omega
 have hw2:(w.alloc (.cells #[x0,x1,x2,.bool true] 147)).cell? ⟨g,j,none⟩=some (.int .u8 c.toNat):=by rw[World.cell?_alloc_lt _ _ _ hgl];exact hw
 generalize Vg.num c=d at *
 generalize c.toNat=cc at *
 clear hw hc
 go_enter Tryz.func121,Tryz.ntmps121
 go_wp2_with (first | (go_at_call 120;refine (HN.out _).mono ?_;rintro e W1 ⟨rfl,rfl⟩))
 go_ret
 exact ⟨rfl,(Below.refl _ _).alloc (Nat.le_refl _) _⟩
set_option maxRecDepth 100000 in
set_option maxHeartbeats 1000000 in
theorem keyAt_key (x0 x1 x2:Value) (B:Bool) (v:Value) (key:ByteArray) (i:Nat) (h0:0<key.size) (h6:i≤65536) (hB:B=false∨i<key.size) (hl:Ls key.data.toList) (w:World) :
  Calls Tryz.prog 121 #[.agg #[x0,x1,x2,.bool B],.string key,v,.int .i64 i] w fun e w'=>e=.returned (.int .i64 (Vg.num (key.data.toList.getD (i % key.size) 0):Nat))∧Below w.heap.size w w':=by
 have hm:i % key.size<key.size:=Nat.mod_lt _ h0
 have hc:=hl.at (getD_sizeV hm)
 have HN:=(show Hid (∀W,Calls Tryz.prog 120 #[.int .u8 (key.data.toList.getD (i % key.size) 0).toNat] W fun e w'=>e=.returned (.int .i64 (Vg.num (key.data.toList.getD (i % key.size) 0):Nat))∧W=w') from fun W=>number_anyV _ hc W)
 rw[getD_byte key _ hm] at HN ⊢
 have hjt:((i % key.size:Nat):Int)=(i:Int).tmod (key.size:Int):=by rw[Int.tmod_eq_emod_of_nonneg (by omega)];omega
 clear hc hl
 generalize i % key.size=j at *
 have hjt2:=hjt.symm
 have h00:¬((key.size:Int)=0):=by omega
 have h01:((key.size:Int)==0)=false:=beq_false_of_ne h00
 have hm2:(j:Int)<(key.size:Int):=by omega
 have HM:Hid (j<key.size):=hm
 clear hjt
 rcases hB with rfl | hB
 ·go_enter Tryz.func121,Tryz.ntmps121
  go_wp2_with (first | (go_at_call 120;refine (HN.out _).mono ?_;rintro e W1 ⟨rfl,rfl⟩))
  go_ret
  exact ⟨rfl,(Below.refl _ _).alloc (Nat.le_refl _) _⟩
 ·have hB2:¬((key.size:Int)≤(i:Int)):=by omega
  have hB3:decide ((key.size:Int)≤(i:Int))=false:=by simp;omega
  have hB4:¬(key.size≤i):=by omega
  cases B
  ·go_enter Tryz.func121,Tryz.ntmps121
   go_wp2_with (first | (go_at_call 120;refine (HN.out _).mono ?_;rintro e W1 ⟨rfl,rfl⟩))
   go_ret
   exact ⟨rfl,(Below.refl _ _).alloc (Nat.le_refl _) _⟩
  ·go_enter Tryz.func121,Tryz.ntmps121
   go_wp2_with (first | (go_at_call 120;refine (HN.out _).mono ?_;rintro e W1 ⟨rfl,rfl⟩))
   go_ret
   exact ⟨rfl,(Below.refl _ _).alloc (Nat.le_refl _) _⟩
end Go.Proofs.YtkohhdkkbaifoaaGreatDoor

/-
  Contract of tableau.Write.
-/
namespace Go.Proofs.YtkohhdkkbaifoaaGreatDoor
open Go.RowKit PK Vg

theorem v_info_byteV:(Tryz.prog.info? 5).map (fun i=>(i.zero,i.size,i.bytes))=some (some (.int .u8 0),1,1):=by kernel_rfl
theorem v_made_tabV (z:Value) (n:Nat):madeCells #[z] n=tab n fun _=>z:=by
 unfold madeCells tab
 apply Array.ext
 ·simp
 ·intro i h1 h2
  simp[Nat.mod_one]
def bytsV (n:Nat) (g:Nat→UInt8):Array Value:=tab n fun i=>.int .u8 (g i).toNat
theorem byts_setV (n:Nat) (g:Nat→UInt8) (i:Nat) (b:UInt8):(bytsV n g).setIfInBounds i (.int .u8 b.toNat)=bytsV n (upd g i b):=by
 unfold bytsV
 rw[tab_set]
 exact tab_ext fun j _=>by by_cases e:j=i <;> simp[upd,e]
theorem byts_getV {n:Nat} (g:Nat→UInt8) {i:Nat} (h:i<n):(bytsV n g)[i]? = some (.int .u8 (g i).toNat):=tab_get _ h
theorem byts_newV (n:Nat):(tab n fun _=>.int .u8 0)=bytsV n fun _=>0:=rfl
def upToV (l:List UInt8):Nat→UInt8:=fun i=>l.getD i 0
theorem upTo_nilV:upToV []=fun _=>0:=by funext i;simp[upToV]
theorem upTo_snocV (l:List UInt8) (b:UInt8):upd (upToV l) l.length b=upToV (l++[b]):=by
 funext i
 unfold upd upToV
 by_cases h:i=l.length
 ·rw[if_pos h,h];simp[List.getD]
 ·rw[if_neg h]
  simp only[List.getD_eq_getElem?_getD]
  by_cases h2:i<l.length
  ·rw[List.getElem?_append_left h2]
  ·rw[List.getElem?_eq_none (by omega),List.getElem?_eq_none (by simp;omega)]
theorem byts_allV (l:List UInt8):bytsV l.length (upToV l)=(Lib.byteCells l).toArray:=by
 unfold bytsV tab Lib.byteCells
 congr 1
 apply List.ext_getElem
 ·simp
 ·intro i h1 h2
  simp at h1
  simp[upToV,List.getD,h1]
theorem run_string_of_rowV {P:Program} (w:World) (src dst e:TypeId) (hs:P.underlying src=some (.slice e)) (he:P.underlying e=some (.int .u8)) (hd:P.underlying dst=some .string)
  {g n cap:Nat} {T:TypeId} {l:List UInt8} (hn:l.length=n) (h:RowAt w g T (Lib.byteCells l).toArray):(convert src dst (.slice (some ⟨g,0,none⟩) n cap)).run P w=.ok (.string ⟨l.toArray⟩) w:=by
 subst hn
 rw[run_convert_bytes_string w src dst e _ _ _ hs he hd]
 have hl:=run_loadCells_list (P:=P) (w:=w) ⟨g,0,none⟩ (Lib.byteCells l) (fun j v hv=>by
  have e:((⟨g,0,none⟩:Addr).add j)=⟨g,j,none⟩:=by unfold Addr.add;by_cases e0:j=0 <;> simp[e0]
  rw[e]
  exact h.cell (by simpa using hv))
 rw[Lib.byteCells_length] at hl
 have e1:Lib.byteCells l=(l.map fun b=>(b.toNat:Int)).map (Value.int .u8):=by simp[Lib.byteCells]
 rw[e1] at hl
 rw[run_bytesToString w _ _ _ _ hl,Kit.foldl_push]
 simp
def PlainAtV (W:World) (g:Nat) (s:ByteArray):Prop:=∀j,j<s.size→W.cell? ⟨g,j,none⟩=some (.int .u8 (s.data.toList.getD j 0).toNat)
theorem PlainAtV.below {W W':World} {g:Nat} {s:ByteArray} (h:PlainAtV W g s) (hb:Below W.heap.size W W'):PlainAtV W' g s:=fun j hj=>(hb.cell (p:=⟨g,j,none⟩) (cell_block (h j hj))).trans (h j hj)
theorem PlainAtV.setCell {W:World} {g:Nat} {s:ByteArray} (h:PlainAtV W g s) (a:Addr) (v:Value) (hne:g≠a.block):PlainAtV (W.setCell a v) g s:=fun j hj=>(World.cell?_setCell_other _ _ _ _ (by intro e;exact hne (congrArg Addr.block e).symm)).trans (h j hj)
theorem bytes_belowV (w:World) (e:TypeId) (s:ByteArray):Below w.heap.size w (Lib.bytesWorld w e s):=by
 refine ⟨?_,?_,?_,by rw[Lib.bytesWorld_size];omega,fun k hk=>Lib.bytesWorld_at_old w e s k (by omega)⟩
 all_goals
  unfold Lib.bytesWorld World.freeze
  split <;> rfl
theorem bytes_plainV (w:World) (e:TypeId) (s:ByteArray):PlainAtV (Lib.bytesWorld w e s) w.heap.size s:=fun j hj=>Lib.bytesWorld_cell w e s j hj
theorem keyAt_kat (k:Nat) (B:Bool) (hB:B=decide (k=4)) (x0 x1 x2:Value) (key t:ByteArray) (h0:1≤key.size) (hkl:Ls key.data.toList) (htl:Ls t.data.toList) (m:Nat) (hm:m<t.size) (h6:m≤65536) (gp cp:Nat) (W:World) (hp:PlainAtV W gp t) :
  Calls Tryz.prog 121 #[.agg #[x0,x1,x2,.bool B],.string key,.slice (some ⟨gp,0,none⟩) t.size cp,.int .i64 (m:Nat)] W fun e w'=>e=.returned (.int .i64 (kat k key.data.toList t.data.toList m:Nat))∧Below W.heap.size W w':=by
 have hks:=Pl.size_len key
 unfold kat
 by_cases h:k=4∧key.data.toList.length≤m
 ·rw[if_pos h]
  have hB1:B=true:=by rw[hB];simp[h.1]
  subst hB1
  have:=keyAt_plain x0 x1 x2 key m (by omega) h6 gp t.size cp (by omega) (t.data.toList.getD (m-key.size) 0) (htl.at (getD_sizeV (by omega))) W (hp _ (by omega))
  rw[←hks];exact this
 ·rw[if_neg h]
  have:=keyAt_key x0 x1 x2 B (.slice (some ⟨gp,0,none⟩) t.size cp) key m (by omega) h6 (by
   by_cases h4:k=4
   ·exact .inr (by have:¬key.data.toList.length≤m:=fun e=>h ⟨h4,e⟩;omega)
   ·exact .inl (by rw[hB];simp[h4])) hkl W
  rw[←hks];exact this
theorem keepW {W W' w:World} {b gp g7:Nat} {T V:TypeId} {c e:Array Value} {t:ByteArray} (hS:RowAt W b T c∧PlainAtV W gp t∧Below w.heap.size w W∧RowAt W g7 V e) (hb:Below W.heap.size W W') :
  RowAt W' b T c∧PlainAtV W' gp t∧Below w.heap.size w W'∧RowAt W' g7 V e :=
 ⟨hS.1.below hb hS.1.lt,hS.2.1.below hb,hS.2.2.1.trans (hb.mono hS.2.2.1.size),hS.2.2.2.below hb hS.2.2.2.lt⟩
theorem setW {W w:World} {b gp g7 go m:Nat} {T V:TypeId} {c e:Array Value} {t:ByteArray} (hS:RowAt W b T c∧PlainAtV W gp t∧Below w.heap.size w W∧RowAt W g7 V e) (v:Value) (h1:b≠go) (h2:gp≠go) (h3:g7≠go) (h4:w.heap.size≤go) :
  RowAt (W.setCell ⟨go,m,none⟩ v) b T c∧PlainAtV (W.setCell ⟨go,m,none⟩ v) gp t∧Below w.heap.size w (W.setCell ⟨go,m,none⟩ v)∧RowAt (W.setCell ⟨go,m,none⟩ v) g7 V e :=
 ⟨hS.1.setOther _ _ h1,hS.2.1.setCell _ _ h2,hS.2.2.1.setCell (p:=⟨go,m,none⟩) h4 _,hS.2.2.2.setOther _ _ h3⟩
theorem row_nextV {W:World} {go n:Nat} {T:TypeId} {l:List UInt8} (h:RowAt W go T (bytsV n (upToV l))) (b:UInt8):RowAt (W.setCell ⟨go,l.length,none⟩ (.int .u8 b.toNat)) go T (bytsV n (upToV (l++[b]))):=by
 have:=h.set l.length (.int .u8 b.toNat)
 rw[byts_setV,upTo_snocV] at this
 exact this
theorem cutA {w V:World} {b7 bt:Nat} {c7 ct:Array Value} {T7 Tt:TypeId} (t:ByteArray) (z:Array Value) (e:TypeId) (h7:RowAt V b7 T7 c7) (ht:RowAt V bt Tt ct) (hb:Below w.heap.size w V) (g:Nat) (hg:g=V.heap.size) :
  (Lib.bytesWorld V e t).heap.size=g+1∧RowAt ((Lib.bytesWorld V e t).alloc (.cells z e)) (Lib.bytesWorld V e t).heap.size e z∧PlainAtV ((Lib.bytesWorld V e t).alloc (.cells z e)) g t∧RowAt ((Lib.bytesWorld V e t).alloc (.cells z e)) b7 T7 c7 ∧
  RowAt ((Lib.bytesWorld V e t).alloc (.cells z e)) bt Tt ct∧Below w.heap.size w ((Lib.bytesWorld V e t).alloc (.cells z e)):=by
 subst hg
 have h1:=bytes_belowV V e t
 have h2:Below V.heap.size V ((Lib.bytesWorld V e t).alloc (.cells z e)):=h1.alloc (by rw[Lib.bytesWorld_size];omega) _
 exact ⟨Lib.bytesWorld_size V e t,RowAt.new _ _ _,(bytes_plainV V e t).below ((Below.refl _ _).alloc (Nat.le_refl _) _),h7.below h2 h7.lt,ht.below h2 ht.lt,hb.trans (h2.mono hb.size)⟩
theorem cutB {w V:World} {b7 bt go:Nat} {c7 ct z:Array Value} {T7 Tt:TypeId} (t:ByteArray) (e:TypeId) (h7:RowAt V b7 T7 c7) (ht:RowAt V bt Tt ct) (ho:RowAt V go e z) (hb:Below w.heap.size w V) (g:Nat) (hg:g=V.heap.size) :
  RowAt (Lib.bytesWorld V e t) go e z∧PlainAtV (Lib.bytesWorld V e t) g t∧RowAt (Lib.bytesWorld V e t) b7 T7 c7∧RowAt (Lib.bytesWorld V e t) bt Tt ct∧Below w.heap.size w (Lib.bytesWorld V e t):=by
 subst hg
 have h2:=bytes_belowV V e t
 exact ⟨ho.below h2 ho.lt,bytes_plainV V e t,h7.below h2 h7.lt,ht.below h2 ht.lt,hb.trans (h2.mono hb.size)⟩
set_option maxRecDepth 100000 in
set_option maxHeartbeats 2000000 in
theorem vwr_ok (k:Nat) (h:1≤k∧k≤4) (key t:ByteArray) (hk:ckE key.data.toList=0) (hk2:ckAt key.data.toList=0) (hn:1≤key.size∧key.size≤256) (ht:ckE t.data.toList=0) (ht2:ckAt t.data.toList=0) (hs:t.size≤65536) (hkl:Ls key.data.toList) (htl:Ls t.data.toList) (w:World) :
  Calls Tryz.prog 74 #[.int .i64 k,.string key,.string t] w fun e w'=>e=.returned (.tuple #[.string ⟨(writeL k key.data.toList t.data.toList).toArray⟩,.agg #[.int .i64 0,.int .i64 0]])∧Below w.heap.size w w':=by
 have HT:=(show Hid (∀W,Calls Tryz.prog 118 #[.int .i64 k,.string key,.string t] W fun e w'=>e=.returned (.tuple #[.agg #[.func (.func (fn0 k)) #[] #[],.func (.func (fn1 k)) #[] #[],.func (.func (fn2 k)) #[] #[],.bool (decide (k=4))],.agg #[.int .i64 0,.int .i64 0]])∧Below W.heap.size W w') from fun W=>tfor_ok k h key t hk hk2 hn ht ht2 W)
 have HF:=(show Hid (∀a b,a<26→b<26→∀W,Calls Tryz.prog (fn0 k) #[.int .i64 (a:Nat),.int .i64 (b:Nat)] W fun e w'=>e=.returned (.int .i64 (there k a b:Nat))∧W=w') from fun a b ha hb W=>fn0_any k a b ha hb W)
 have hent:=ent0 k
 have HB:Hid (decide (k=4)=decide (k=4)):=rfl
 have hmk:=run_make_row' (P:=Tryz.prog) 87 5 (.int .u8 0) 1 Tryz.underlying87 v_info_byteV rfl .i64 .i64 t.size (by omega) (by omega)
 rw[v_made_tabV,byts_newV] at hmk
 have hcv:=fun w=>Lib.run_convert_string_bytes (P:=Tryz.prog) w 9 87 5 t Tryz.underlying9 Tryz.underlying87 Tryz.underlying5
 generalize fn0 k=F0 at *
 generalize fn1 k=F1 at *
 generalize fn2 k=F2 at *
 generalize hB:decide (k=4)=B at HT
 clear h hk hk2 ht ht2 HB
 go_enter Tryz.func74,Tryz.ntmps74
 go_wp2_with fail
 refine (HT.out _).mono ?_
 rintro e W1 ⟨rfl,hb1⟩
 have hb0:Below w.heap.size w W1:=((Below.refl _ w).alloc (Nat.le_refl _) _).trans (hb1.mono (by simp))
 have hr7:RowAt W1 w.heap.size 35 #[.int .i64 0,.int .i64 0]:=(RowAt.new w _ _).below hb1 (by simp)
 have hz:w.heap.size<W1.heap.size:=hr7.lt
 clear hb1 HT
 go_upto_region 4 with fail
 go_cut [10,11] (fun p o W=>∃gp go cp,p=.slice (some ⟨gp,0,none⟩) t.size cp∧o=.slice (some ⟨go,0,none⟩) t.size t.size∧gp≠go∧W1.heap.size+1<go∧RowAt W go 5 (bytsV t.size fun _=>0)∧PlainAtV W gp t∧RowAt W w.heap.size 35 #[.int .i64 0,.int .i64 0]∧RowAt W W1.heap.size 147 #[.func (.func F0) #[] #[],.func (.func F1) #[] #[],.func (.func F2) #[] #[],.bool B]∧Below w.heap.size w W)
 case first =>
  go_region
  all_goals (go_wp2_with fail)
  all_goals go_meet
  ·have q:=cutA (w:=w) t (bytsV t.size fun _=>0) 5 ((hr7.alloc (.cells #[.func (.func F0) #[] #[],.func (.func F1) #[] #[],.func (.func F2) #[] #[],.bool B] 147)).alloc (.cells #[.int .i64 0,.int .i64 0] 35)).drew ((RowAt.new W1 147 #[.func (.func F0) #[] #[],.func (.func F1) #[] #[],.func (.func F2) #[] #[],.bool B]).alloc (.cells #[.int .i64 0,.int .i64 0] 35)).drew ((hb0.alloc (by omega) (.cells #[.func (.func F0) #[] #[],.func (.func F1) #[] #[],.func (.func F2) #[] #[],.bool B] 147)).alloc (by simp;omega) (.cells #[.int .i64 0,.int .i64 0] 35)).drew (W1.heap.size+1+1) (by simp)
   exact ⟨_,_,_,rfl,rfl,by rw[q.1];omega,by rw[q.1];omega,q.2.1,q.2.2.1,q.2.2.2.1,q.2.2.2.2.1,q.2.2.2.2.2⟩
  ·have ho:=RowAt.new ((W1.alloc (.cells #[.func (.func F0) #[] #[],.func (.func F1) #[] #[],.func (.func F2) #[] #[],.bool B] 147)).alloc (.cells #[.int .i64 0,.int .i64 0] 35)) 5 (bytsV t.size fun _=>0)
   simp only[World.size_alloc] at ho
   have q:=cutB (w:=w) t 5 (((hr7.alloc (.cells #[.func (.func F0) #[] #[],.func (.func F1) #[] #[],.func (.func F2) #[] #[],.bool B] 147)).alloc (.cells #[.int .i64 0,.int .i64 0] 35)).alloc (.cells (bytsV t.size fun _=>0) 5)).drew (((RowAt.new W1 147 #[.func (.func F0) #[] #[],.func (.func F1) #[] #[],.func (.func F2) #[] #[],.bool B]).alloc (.cells #[.int .i64 0,.int .i64 0] 35)).alloc (.cells (bytsV t.size fun _=>0) 5)).drew ho.drew (((hb0.alloc (by omega) (.cells #[.func (.func F0) #[] #[],.func (.func F1) #[] #[],.func (.func F2) #[] #[],.bool B] 147)).alloc (by simp;omega) (.cells #[.int .i64 0,.int .i64 0] 35)).alloc (by simp;omega) (.cells (bytsV t.size fun _=>0) 5)).drew (W1.heap.size+1+1+1) (by simp)
   exact ⟨_,_,_,rfl,rfl,by omega,by omega,q.1,q.2.1,q.2.2.1,q.2.2.2.1,q.2.2.2.2⟩
 case rest =>
  obtain ⟨gp,go,cp,rfl,rfl,hne,hgo,hro,hpl,hr7,hrt,hb⟩:=hcut
  clear hmk hcv hb0
  have hz2:=hrt.lt
  go_wp2_with fail
  go_loopw [31] (fun i W=>∃m:Nat,m≤t.size∧i=.int .i64 m∧RowAt W W1.heap.size 147 #[.func (.func F0) #[] #[],.func (.func F1) #[] #[],.func (.func F2) #[] #[],.bool B]∧PlainAtV W gp t∧RowAt W go 5 (bytsV t.size (upToV (wrL k key.data.toList t.data.toList m)))∧Below w.heap.size w W∧RowAt W w.heap.size 35 #[.int .i64 0,.int .i64 0]) (fun i _=>((t.size:Int)-intOf i).toNat)
  case atStart=>exact ⟨0,by omega,rfl,hrt,hpl,by rw[show wrL k key.data.toList t.data.toList 0=[] from rfl,upTo_nilV];exact hro,hb,hr7⟩
  case round =>
   clear hro hpl hrt hb hr7
   obtain ⟨m,hm,rfl,hrt,hpl,hro,hb,hr7⟩:=hrel
   by_cases hlt:m<t.size
   ·have hlt2:(m:Int)<(t.size:Int):=by omega
    have hta:=htl.at (getD_sizeV hlt)
    have hna:=num_lt hta
    have hnb:kat k key.data.toList t.data.toList m<26:=kat_lt hkl htl (by have:=Pl.size_len key;omega) (fun _=>by have:=Pl.size_len t;omega)
    have HN:=(show Hid (∀W,Calls Tryz.prog 120 #[.int .u8 (t.data.toList.getD m 0).toNat] W fun e w'=>e=.returned (.int .i64 (Vg.num (t.data.toList.getD m 0):Nat))∧W=w') from fun W=>number_anyV _ hta W)
    have HL:=(show Hid (∀W,Calls Tryz.prog 119 #[.int .i64 (there k (Vg.num (t.data.toList.getD m 0)) (kat k key.data.toList t.data.toList m):Nat)] W fun e w'=>e=.returned (.int .u8 (ltr (there k (Vg.num (t.data.toList.getD m 0)) (kat k key.data.toList t.data.toList m))).toNat)∧W=w') from fun W=>letter_anyV _ (there_lt _ _ _) W)
    have HST:=(show Hid (wrL k key.data.toList t.data.toList (m+1)=wrL k key.data.toList t.data.toList m++[ltr (there k (Vg.num (t.data.toList.getD m 0)) (kat k key.data.toList t.data.toList m))]) from wrL_succ _ _ _ _)
    have HK:=(show Hid (∀W,PlainAtV W gp t→Calls Tryz.prog 121 #[.agg #[.func (.func F0) #[] #[],.func (.func F1) #[] #[],.func (.func F2) #[] #[],.bool B],.string key,.slice (some ⟨gp,0,none⟩) t.size cp,.int .i64 (m:Nat)] W fun e w'=>e=.returned (.int .i64 (kat k key.data.toList t.data.toList m:Nat))∧Below W.heap.size W w') from fun W hW=>keyAt_kat k B hB.symm _ _ _ key t hn.1 hkl htl m hlt (by omega) gp cp W hW)
    rw[getD_byte t m hlt] at HN HL HST hna
    go_wp2_with fail
    refine wp_region_noPanic ?_
    refine wp_region_held_drew (S:=fun W=>RowAt W W1.heap.size 147 #[.func (.func F0) #[] #[],.func (.func F1) #[] #[],.func (.func F2) #[] #[],.bool B]∧PlainAtV W gp t∧Below w.heap.size w W∧RowAt W w.heap.size 35 #[.int .i64 0,.int .i64 0]) (by kernel_rfl) ⟨hrt,hpl,hb.drew,hr7⟩ (fun hS=>?_)
    refine vtk 0 34 (.slice (some ⟨go,0,none⟩) t.size t.size) rfl (fun W hW=>by clear hS hW;go_simp) hS ?_
    simp only[zsA,zsB,zsC]
    refine vtk 1 35 (.int .i64 (m:Nat)) rfl (fun W hW=>by clear hS hW;go_simp) hS ?_
    simp only[zsA,zsB,zsC]
    refine vtk 2 36 (.pointer (some ⟨W1.heap.size,0,none⟩)) rfl (fun W hW=>by clear hS hW;go_simp) hS ?_
    simp only[zsA,zsB,zsC]
    refine vtk 3 37 (.func (.func F0) #[] #[]) rfl (fun W hW=>by have u0:=hW.1.cell (i:=0) rfl;have u1:=hW.1.cell (i:=1) rfl;have u2:=hW.1.cell (i:=2) rfl;have u3:=hW.1.cell (i:=3) rfl;clear hS hW;go_simp) hS ?_
    simp only[zsA,zsB,zsC]
    refine vtk 4 38 (.string t) rfl (fun W hW=>by clear hS hW;go_simp) hS ?_
    simp only[zsA,zsB,zsC]
    refine vtk 5 39 (.int .i64 (m:Nat)) rfl (fun W hW=>by clear hS hW;go_simp) hS ?_
    simp only[zsA,zsB,zsC]
    refine vtk 6 40 (.int .u8 (t[m].toNat:Nat)) rfl (fun W hW=>by clear hS hW;go_simp) hS ?_
    simp only[zsA,zsB,zsC]
    refine vtk 8 42 (.agg #[.func (.func F0) #[] #[],.func (.func F1) #[] #[],.func (.func F2) #[] #[],.bool B]) rfl (fun W hW=>by have u0:=hW.1.cell (i:=0) rfl;have u1:=hW.1.cell (i:=1) rfl;have u2:=hW.1.cell (i:=2) rfl;have u3:=hW.1.cell (i:=3) rfl;clear hS hW;go_simp) hS ?_
    simp only[zsA,zsB,zsC]
    refine vtk 9 43 (.string key) rfl (fun W hW=>by clear hS hW;go_simp) hS ?_
    simp only[zsA,zsB,zsC]
    refine vtk 10 44 (.slice (some ⟨gp,0,none⟩) t.size cp) rfl (fun W hW=>by clear hS hW;go_simp) hS ?_
    simp only[zsA,zsB,zsC]
    refine vtk 11 45 (.int .i64 (m:Nat)) rfl (fun W hW=>by clear hS hW;go_simp) hS ?_
    simp only[zsA,zsB,zsC]
    refine rd1 7 rfl (fun K hK=>?_)
    go_simp
    refine Calls.mono (HN.out _) ?_
    rintro e Y ⟨rfl,rfl⟩
    refine hK.out _ _ (hS) (fun hS1=>?_)
    clear hK hS K
    have hS:=hS1
    clear hS1
    refine rd1 12 rfl (fun K hK=>?_)
    go_simp
    refine Calls.mono (HK.out _ hS.2.1) ?_
    rintro e Y ⟨rfl,hbY⟩
    have hroY:=hro.drew.below hbY hro.drew.lt
    refine hK.out _ _ (keepW hS hbY) (fun hS1=>?_)
    clear hK hS K
    have hS:=hS1
    clear hS1
    refine rd1 13 rfl (fun K hK=>?_)
    go_simp
    refine Calls.mono (HF.out _ _ hna hnb _) ?_
    rintro e Y ⟨rfl,rfl⟩
    refine hK.out _ _ (hS) (fun hS1=>?_)
    clear hK hS K
    have hS:=hS1
    clear hS1
    refine rd1 14 rfl (fun K hK=>?_)
    go_simp
    refine Calls.mono (HL.out _) ?_
    rintro e Y ⟨rfl,rfl⟩
    refine hK.out _ _ (hS) (fun hS1=>?_)
    clear hK hS K
    have hS:=hS1
    clear hS1
    refine vtk 15 49 (.pointer (some ⟨go,m,none⟩)) rfl (fun W hW=>by clear hS hW;go_simp) hS ?_
    simp only[zsA,zsB,zsC]
    have hrow:=row_nextV hroY (ltr (there k (Vg.num t[m]) (kat k key.data.toList t.data.toList m)))
    rw[wrL_length,←HST.out] at hrow
    have hcm:=hroY.cell (byts_getV (upToV (wrL k key.data.toList t.data.toList m)) hlt)
    have hfm:=hroY.frozen m
    generalize ltr (there k (Vg.num t[m]) (kat k key.data.toList t.data.toList m))=z at *
    refine rd1 16 rfl (fun K hK=>?_)
    go_simp
    refine hK.out _ _ (setW hS (.int .u8 z.toNat) (by omega) hne (by omega) (by omega)) (fun hS1=>?_)
    clear hK hS K
    refine wpAnyH_done (by kernel_rfl) ?_ _
    refine NoPanic.normal ?_
    go_wp2_with fail
    go_roundw
    case rel=>exact ⟨m+1,by omega,by go_num,hS1.1,hS1.2.1,hrow,hS1.2.2.1,hS1.2.2.2⟩
    case measure=>simp[intOf];omega
   ·obtain rfl:m=t.size:=by omega
    have hl2:(wrL k key.data.toList t.data.toList t.size).length=t.size:=wrL_length _ _ _ _
    have hro2:RowAt wr go 5 (Lib.byteCells (wrL k key.data.toList t.data.toList t.size)).toArray:=by
     rw[←byts_allV,hl2];exact hro
    have HW:Hid (wrL k key.data.toList t.data.toList t.size=writeL k key.data.toList t.data.toList):=by rw[Hid,Pl.size_len];rfl
    have hst:=run_string_of_rowV (P:=Tryz.prog) wr 87 9 5 Tryz.underlying87 Tryz.underlying5 Tryz.underlying9 (cap:=t.size) hl2 hro2
    rw[HW.out] at hst
    have c0:=hr7.cell (i:=0) rfl
    have c1:=hr7.cell (i:=1) rfl
    have f0:=hr7.frozen 0
    have f1:=hr7.frozen 1
    obtain ⟨T,hT⟩:∃T,T=(⟨(writeL k key.data.toList t.data.toList).toArray⟩:ByteArray):=⟨_,rfl⟩
    rw[←hT] at hst
    have HT:Hid (T=(⟨(writeL k key.data.toList t.data.toList).toArray⟩:ByteArray)):=hT
    clear hT hro2 hro hpl hrt HW hl2
    go_wp2
    have q:=Kit.read_two (.int .i64 0) (.int .i64 0) c0 c1
    refine bodyPost_ret (v:=.tuple #[.string T,.agg #[.int .i64 0,.int .i64 0]]) (by simp[results,Tryz.results74,go_sem,q.1,q.2]) rfl ⟨by rw[HT.out],?_⟩
    exact (hb.setCell (p:=⟨w.heap.size,0,none⟩) (Nat.le_refl _) _).setCell (p:=⟨w.heap.size,1,none⟩) (Nat.le_refl _) _
end Go.Proofs.YtkohhdkkbaifoaaGreatDoor
