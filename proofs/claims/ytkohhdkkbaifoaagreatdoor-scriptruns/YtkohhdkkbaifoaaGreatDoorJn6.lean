/-
  Several texts, joined: ScC, VKit, VFor.
-/
import Derived.Test.YtkohhdkkbaifoaaGreatDoorJn5
import Derived.Test.YtkohhdkkbaifoaaGreatDoorJn2
import Derived.Deep.OwnRows
import Derived.Lib.SmallJoins
import Derived.Deep.QuietTactic
import Derived.BigQuiet
import Derived.Laws.EntriesVeiled
import Derived.RegionTactic
/-
  Contract of script.checkChain.
-/
namespace Go.Proofs.YtkohhdkkbaifoaaGreatDoor
open Go.RowKit PK Vg

theorem SqAt.cells {W:World} {R:Array Value} {s:Sp} (h:SqAt W (.agg R) s):R.size=59∧R.all (·.oneCell')=true:=by
 obtain ⟨mv,a,b,c,e,hm,hw,hri,hst⟩:=h
 have e2:=Value.agg.inj e
 have h1:mv.oneCell'=true:=by obtain ⟨_,_,_,e,_⟩:=hm;rw[e];rfl
 have h2:a.oneCell'=true:=by obtain ⟨_,_,_,e,_⟩:=hw;rw[e];rfl
 have h3:b.oneCell'=true:=by obtain ⟨_,_,e,_⟩:=hri;rw[e];rfl
 have h4:c.oneCell'=true:=by obtain ⟨_,_,e,_⟩:=hst;rw[e];rfl
 rw[e2]
 exact ⟨spA_size _ _ _ _ _ _ _ _ _,spA_one h1 h2 h3 h4⟩
set_option maxRecDepth 100000 in
set_option maxHeartbeats 2000000 in
theorem cc_many (v:Value) (n:Nat) (l:Nat→Sp) (w:World) (hv:ChAt w v n l) (hn:64<n):Calls Tryz.prog 36 #[v] w fun e w'=>e=.panicked [flt 5 0]∧Below w.heap.size w w':=by
 obtain ⟨a,cap,R,rfl,hm,_,_⟩:=hv
 have HT:Hid _:=throw_any 5 0 w
 have hn2:64<(n:Int):=by omega
 unfold maxLen at hm
 go_enter Tryz.func36,Tryz.ntmps36
 go_wp2_with fail
 refine Calls.mono HT.out ?_
 rintro e w' ⟨rfl,rfl⟩
 exact ⟨rfl,rfl,Below.refl _ _⟩
set_option maxRecDepth 100000 in
set_option maxHeartbeats 2000000 in
theorem cc_some (v:Value) (n:Nat) (l:Nat→Sp) (w:World) (hv:ChAt w v n l) (hn:n≤64):Calls Tryz.prog 36 #[v] w fun e w'=>(chE n l=0→e=.returned (.tuple #[]))∧(chE n l≠0→e=.panicked [flt (chE n l) (chA n l)])∧Below w.heap.size w w':=by
 obtain ⟨a,cap,R,rfl,hm,hr,hs⟩:=hv
 have HR:Hid (∀i,i<n→∃b o,a=some ⟨b,o,none⟩∧w.rangeAt b (o+i*59) (R i).toList):=hr
 have HS:Hid (∀i,i<n→SqAt w (.agg (R i)) (l i)):=hs
 have hn2:¬64<(n:Int):=by omega
 have HN:Hid (n≤64):=hn
 have HQ:Hid (chE n l=((firE l n).map fun i=>stE (l i)).getD 0):=by rw[Hid];unfold chE;rw[if_neg (by omega)]
 have HA:Hid (chA n l=(firE l n).getD 0):=by rw[Hid];unfold chA;rw[if_neg (by omega)]
 generalize chE n l=E at *
 generalize chA n l=A at *
 clear hr hs hm
 go_enter Tryz.func36,Tryz.ntmps36
 go_wp2_with fail
 go_loopw [10] (fun i W=>∃k:Nat,k≤n∧i=.int .i64 (k:Nat)∧Hid (∀j,j<k→stE (l j)=0)∧Below w.heap.size w W) (fun i _=>((n:Int)-intOf i).toNat)
 case atStart=>exact ⟨0,by omega,rfl,fun j hj=>by omega,Below.refl _ _⟩
 case round =>
  obtain ⟨k,hk,rfl,HK,hbe⟩:=hrel
  by_cases hlt:k<n
  ·obtain ⟨bw,ow,rfl,hrg⟩:=HR.out k hlt
   have hrg2:=rangeAt_below hrg hbe
   have hsk:=(HS.out k hlt).below hbe
   have HSZ:Hid ((R k).size=59):=hsk.cells.1
   have HONE:Hid ((R k).all (·.oneCell')=true):=hsk.cells.2
   have HLT:Hid (k<n):=hlt
   have hz59:=o_zero s_zero
   generalize hck:R k=CS at *
   have HWB:Hid _:=hbe
   go_upto_region 5 with (first | refine wpList_load_arr rfl 31 _ rfl bw (ow+k*59) rfl CS _ hrg2 Tryz.underlying31 rfl (by rw[HSZ.out];exact s_info) ?_ | refine wpList_store_row rfl 31 _ _ rfl wr.heap.size CS rfl rfl 31 _ (RowAt.new wr _ _) (by rw[HSZ.out];exact s_info) (by rw[HSZ.out,spA_size]) HONE.out ?_)
   have hr4:=(RowAt.new wr 31 (spA 0 0 ⟨#[]⟩ (.slice none 0 0) (.slice none 0 0) (.slice none 0 0) (.slice none 0 0) (fun _=>0) (fun _=>0))).row CS
   have hb4:Below w.heap.size w ((wr.alloc (.cells (spA 0 0 ⟨#[]⟩ (.slice none 0 0) (.slice none 0 0) (.slice none 0 0) (.slice none 0 0) (fun _=>0) (fun _=>0)) 31)).setRow wr.heap.size CS):=PK.Below.setRow (HWB.out.alloc HWB.out.size _) wr.heap.size HWB.out.size _
   generalize (wr.alloc (.cells (spA 0 0 ⟨#[]⟩ (.slice none 0 0) (.slice none 0 0) (.slice none 0 0) (.slice none 0 0) (fun _=>0) (fun _=>0)) 31)).setRow wr.heap.size CS=V at *
   obtain ⟨q,hq⟩:∃q,q=wr.heap.size:=⟨_,rfl⟩
   rw[←hq] at hr4 ⊢
   have HSV:SqAt V (.agg CS) (l k):=by rw[←hck];exact (HS.out k hlt).below hb4
   have HWR:Hid _:=sw_any _ _ V HSV
   have HNK:Hid (stE (l k)=0→∀j,j<k+1→stE (l j)=0):=fun h j hj=>by
    by_cases e:j=k
    ·rw[e];exact h
    ·exact HK.out j (by omega)
   have HBD:Hid (stE (l k)≠0→E=stE (l k)∧(A:Int)=k):=fun h=>by
    have hf:=firE_of HLT.out HK.out h
    rw[HQ.out,HA.out,hf]
    exact ⟨rfl,rfl⟩
   have HB4:Hid _:=hb4
   generalize stE (l k)=X at *
   clear hq hrg hrg2 hsk hz59 HONE HWB hbe hck HSV hb4
   go_wp2_with (first | refine wpList_load_row rfl 31 _ rfl q rfl 31 CS (0,0) _ hr4 Tryz.underlying31 rfl (by rw[HSZ.out];exact s_info) ?_)
   refine Calls.mono HWR.out ?_
   rintro e V2 ⟨rfl,hb⟩
   have HB5:Hid (Below w.heap.size w V2):=HB4.out.trans (hb.mono HB4.out.size)
   clear hb hr4 HWR
   by_cases hx0:X=0
   ·subst hx0
    have HN2:Hid (∀j,j<k+1→stE (l j)=0):=HNK.out rfl
    clear HNK HBD
    have HP:Hid _:=pass_ok (k:Int) V2
    go_wp2_with fail
    refine Calls.mono HP.out ?_
    rintro e V3 ⟨rfl,rfl⟩
    go_wp2_with fail
    go_roundw
    case rel=>exact ⟨k+1,HLT.out,by go_num,HN2.out,HB5.out⟩
    case measure=>have:=HLT.out;simp[intOf] <;> omega
   ·have HP:Hid _:=pass_bad X (k:Int) (by simpa using hx0) V2
    have HBE:Hid (E=X∧(A:Int)=k):=HBD.out hx0
    have HX0:Hid (X≠0):=hx0
    clear hx0
    go_wp2_with fail
    refine Calls.mono HP.out ?_
    rintro e V3 ⟨rfl,rfl⟩
    refine ⟨rfl,fun h=>absurd (HBE.out.1 ▸ h) HX0.out,fun _=>?_,HB5.out⟩
    rw[HBE.out.1,HBE.out.2]
  ·obtain rfl:k=n:=by omega
   have HE:Hid (E=0):=by rw[Hid,HQ.out,firE_all HK.out];rfl
   go_wp2
   go_end0
   exact ⟨fun _=>rfl,fun h=>absurd HE.out h,hbe⟩
end Go.Proofs.YtkohhdkkbaifoaaGreatDoor

/-
  Contracts of tableau's small functions; rows of bytes.
-/
namespace Go.Proofs.YtkohhdkkbaifoaaGreatDoor
open Go.RowKit PK Vg

theorem ls_ofV {l:List UInt8} (h:Pl.Lets l):Ls l:=fun c hc=>by
 have:=h c hc
 simp[Pl.isL] at this
 omega
set_option maxHeartbeats 400000 in
theorem number_anyV (c:UInt8) (h:65≤c.toNat∧c.toNat≤90) (w:World):Calls Tryz.prog 120 #[.int .u8 c.toNat] w fun e w'=>e=.returned (.int .i64 (Vg.num c:Nat))∧w=w':=by
 have h1:(c.toNat:Int)-65=((Vg.num c:Nat):Int):=by unfold Vg.num;omega
 have H1:Hid ((c.toNat:Int)-65=((Vg.num c:Nat):Int)):=h1
 clear h1
 obtain ⟨h2,h3⟩:=h
 go_enter Tryz.func120,Tryz.ntmps120
 go_wp2
 go_ret
 exact ⟨ret_int H1.out,rfl⟩
set_option maxHeartbeats 400000 in
theorem letter_anyV (n:Nat) (h:n<26) (w:World):Calls Tryz.prog 119 #[.int .i64 n] w fun e w'=>e=.returned (.int .u8 (ltr n).toNat)∧w=w':=by
 rw[ltr_toNat h]
 go_enter Tryz.func119,Tryz.ntmps119
 go_wp2
 go_ret
 exact ⟨ret_int (by omega),rfl⟩
set_option maxHeartbeats 400000 in
theorem sum_any (a b:Nat) (ha:a<26) (hb:b<26) (w:World):Calls Tryz.prog 205 #[.int .i64 a,.int .i64 b] w fun e w'=>e=.returned (.int .i64 ((a+b) % 26:Nat))∧w=w':=by
 go_enter Tryz.func205,Tryz.ntmps205
 go_wp2
 go_ret
 exact ⟨ret_int (by omega),rfl⟩
set_option maxHeartbeats 400000 in
theorem less_any (a b:Nat) (ha:a<26) (hb:b<26) (w:World):Calls Tryz.prog 206 #[.int .i64 a,.int .i64 b] w fun e w'=>e=.returned (.int .i64 ((a+26-b) % 26:Nat))∧w=w':=by
 go_enter Tryz.func206,Tryz.ntmps206
 go_wp2
 go_ret
 exact ⟨ret_int (by omega),rfl⟩
set_option maxHeartbeats 400000 in
theorem lack_any (a b:Nat) (ha:a<26) (hb:b<26) (w:World):Calls Tryz.prog 207 #[.int .i64 a,.int .i64 b] w fun e w'=>e=.returned (.int .i64 ((b+26-a) % 26:Nat))∧w=w':=by
 go_enter Tryz.func207,Tryz.ntmps207
 go_wp2_with (first | (go_at_call 206;refine (less_any b a hb ha _).mono ?_;rintro e W1 ⟨rfl,rfl⟩))
 go_ret
 exact ⟨rfl,rfl⟩
def fn0 (k:Nat):Nat:=if k=2 then 207 else if k=3 then 206 else 205
def fn1 (k:Nat):Nat:=if k=2 then 207 else if k=3 then 205 else 206
def fn2 (k:Nat):Nat:=if k=2 then 205 else if k=3 then 206 else 207
theorem fn0_any (k a b:Nat) (ha:a<26) (hb:b<26) (w:World):Calls Tryz.prog (fn0 k) #[.int .i64 a,.int .i64 b] w fun e w'=>e=.returned (.int .i64 (there k a b:Nat))∧w=w':=by
 unfold fn0 there
 by_cases h2:k=2
 ·rw[if_pos h2,if_pos h2];exact lack_any a b ha hb w
 ·rw[if_neg h2,if_neg h2]
  by_cases h3:k=3
  ·rw[if_pos h3,if_pos h3];exact less_any a b ha hb w
  ·rw[if_neg h3,if_neg h3];exact sum_any a b ha hb w
theorem fn1_any (k a b:Nat) (ha:a<26) (hb:b<26) (w:World):Calls Tryz.prog (fn1 k) #[.int .i64 a,.int .i64 b] w fun e w'=>e=.returned (.int .i64 (back k a b:Nat))∧w=w':=by
 unfold fn1 back
 by_cases h2:k=2
 ·rw[if_pos h2,if_pos h2];exact lack_any a b ha hb w
 ·rw[if_neg h2,if_neg h2]
  by_cases h3:k=3
  ·rw[if_pos h3,if_pos h3];exact sum_any a b ha hb w
  ·rw[if_neg h3,if_neg h3];exact less_any a b ha hb w
set_option maxRecDepth 100000 in
theorem ent_sum (args:Array Value) (W:World):(callFunc 205 args).run Tryz.prog W=.ok (.enter 205 args) W:=by rfl
set_option maxRecDepth 100000 in
theorem ent_less (args:Array Value) (W:World):(callFunc 206 args).run Tryz.prog W=.ok (.enter 206 args) W:=by rfl
set_option maxRecDepth 100000 in
theorem ent_lack (args:Array Value) (W:World):(callFunc 207 args).run Tryz.prog W=.ok (.enter 207 args) W:=by rfl
theorem ent0 (k:Nat) (args:Array Value) (W:World):(callFunc (fn0 k) args).run Tryz.prog W=.ok (.enter (fn0 k) args) W:=by
 unfold fn0;split
 ·exact ent_lack args W
 ·split
  ·exact ent_less args W
  ·exact ent_sum args W
theorem ent1 (k:Nat) (args:Array Value) (W:World):(callFunc (fn1 k) args).run Tryz.prog W=.ok (.enter (fn1 k) args) W:=by
 unfold fn1;split
 ·exact ent_lack args W
 ·split
  ·exact ent_sum args W
  ·exact ent_less args W
def tbl (k:Nat):Array Value:=#[.func (.func (fn0 k)) #[] #[],.func (.func (fn1 k)) #[] #[],.func (.func (fn2 k)) #[] #[],.bool (decide (k=4))]
def tbl0:Array Value:=#[.nilFunc,.nilFunc,.nilFunc,.bool false]
set_option maxHeartbeats 400000 in
theorem tableOf_bad (k:Int) (h:k<1∨4<k) (w:World):Calls Tryz.prog 166 #[.int .i64 k] w fun e w'=>e=.returned (.tuple #[.agg tbl0,.bool false])∧Below w.heap.size w w':=by
 have h1:(k==1)=false:=by simp;omega
 have h2:(k==2)=false:=by simp;omega
 have h3:(k==3)=false:=by simp;omega
 have h4:(k==4)=false:=by simp;omega
 go_enter Tryz.func166,Tryz.ntmps166
 go_wp2
 refine bodyPost_ret (v:=.tuple #[.agg tbl0,.bool false]) (by simp[results,Tryz.results166,go_sem,tbl0]) rfl ⟨rfl,?_⟩
 exact (Below.refl _ _).alloc (Nat.le_refl _) _
set_option maxHeartbeats 400000 in
theorem tableOf_ok (k:Nat) (h:1≤k∧k≤4) (w:World):Calls Tryz.prog 166 #[.int .i64 k] w fun e w'=>e=.returned (.tuple #[.agg (tbl k),.bool true])∧Below w.heap.size w w':=by
 rcases (by omega:k=1∨k=2∨k=3∨k=4) with rfl | rfl | rfl | rfl
 ·go_enter Tryz.func166,Tryz.ntmps166
  go_wp2
  refine bodyPost_ret (v:=.tuple #[.agg (tbl 1),.bool true]) (by simp[results,Tryz.results166,go_sem,tbl,fn0,fn1,fn2]) rfl ⟨rfl,?_⟩
  exact (Below.refl _ _).alloc (Nat.le_refl _) _
 ·go_enter Tryz.func166,Tryz.ntmps166
  go_wp2
  refine bodyPost_ret (v:=.tuple #[.agg (tbl 2),.bool true]) (by simp[results,Tryz.results166,go_sem,tbl,fn0,fn1,fn2]) rfl ⟨rfl,?_⟩
  exact (Below.refl _ _).alloc (Nat.le_refl _) _
 ·go_enter Tryz.func166,Tryz.ntmps166
  go_wp2
  refine bodyPost_ret (v:=.tuple #[.agg (tbl 3),.bool true]) (by simp[results,Tryz.results166,go_sem,tbl,fn0,fn1,fn2]) rfl ⟨rfl,?_⟩
  exact (Below.refl _ _).alloc (Nat.le_refl _) _
 ·go_enter Tryz.func166,Tryz.ntmps166
  go_wp2
  refine bodyPost_ret (v:=.tuple #[.agg (tbl 4),.bool true]) (by simp[results,Tryz.results166,go_sem,tbl,fn0,fn1,fn2]) rfl ⟨rfl,?_⟩
  exact (Below.refl _ _).alloc (Nat.le_refl _) _
end Go.Proofs.YtkohhdkkbaifoaaGreatDoor

/-
  Contract of tableau.tableFor.
-/
namespace Go.Proofs.YtkohhdkkbaifoaaGreatDoor
open Go.RowKit PK Vg

def lkE (k:Int) (key t:List UInt8):Int:=if k<1∨4<k then 1 else if ckE key≠0 then ckE key else if key.length<1∨256<key.length then 5 else ckE t
def lkAt (k:Int) (key t:List UInt8):Int:=if k<1∨4<k then 0 else if ckE key≠0 then ckAt key else if key.length<1∨256<key.length then 0 else ckAt t
theorem v_info_tbl:(Tryz.prog.info? 147).map (·.size)=some 4:=by kernel_rfl
theorem v_info_faultV:(Tryz.prog.info? 35).map (·.size)=some 2:=by kernel_rfl
theorem results_cells2V {P:Program} {fn:Func} {p q:Tmp} {ty ty2:TypeId} (h:fn.results=#[.cell p ty,.cell q ty2]) (tmps:Array Value) (w:World) (g g2:Nat) (t t2:TypeId) (cs cs2:Array Value) (fr fr2:Nat × Nat) (d d2:TypeDesc)
  (hp:tmps.getD p undef=.pointer (some ⟨g,0,none⟩)) (hq:tmps.getD q undef=.pointer (some ⟨g2,0,none⟩)) (hg:w.heap[g]? = some (.cells cs t fr)) (hg2:w.heap[g2]? = some (.cells cs2 t2 fr2))
  (hu:P.underlying ty=some d) (hd:(match d with | .struct _ | .array _ _=>true | _=>false)=true) (hi:(P.info? ty).map (·.size)=some cs.size)
  (hu2:P.underlying ty2=some d2) (hd2:(match d2 with | .struct _ | .array _ _=>true | _=>false)=true) (hi2:(P.info? ty2).map (·.size)=some cs2.size) :
  (results fn tmps).run P w=.ok (.tuple #[.agg cs,.agg cs2]) w:=by
 have hp':tmps[p]?.getD undef=.pointer (some ⟨g,0,none⟩):=by simpa using hp
 have hq':tmps[q]?.getD undef=.pointer (some ⟨g2,0,none⟩):=by simpa using hq
 simp[results,h,hp',hq',asAddr,run_loadVar_row w g t ty cs fr d hg hu hd hi,run_loadVar_row w g2 t2 ty2 cs2 fr2 d2 hg2 hu2 hd2 hi2]
theorem tbl0_one:tbl0.all (·.oneCell')=true:=by simp[tbl0,Value.oneCell']
structure SixAt (W:World) (b:Nat):Prop where
 t0:W.cell? ⟨b,0,none⟩=some .nilFunc
 t1:W.cell? ⟨b,1,none⟩=some .nilFunc
 t2:W.cell? ⟨b,2,none⟩=some .nilFunc
 t3:W.cell? ⟨b,3,none⟩=some (.bool false)
 e0:W.cell? ⟨b+1,0,none⟩=some (.int .i64 0)
 e1:W.cell? ⟨b+1,1,none⟩=some (.int .i64 0)
 f0:W.frozen? ⟨b,0,none⟩=false
 f1:W.frozen? ⟨b,1,none⟩=false
 f2:W.frozen? ⟨b,2,none⟩=false
 f3:W.frozen? ⟨b,3,none⟩=false
 g0:W.frozen? ⟨b+1,0,none⟩=false
 g1:W.frozen? ⟨b+1,1,none⟩=false
theorem six_of {w W:World} (h:Below (w.heap.size+2) ((w.alloc (.cells #[.nilFunc,.nilFunc,.nilFunc,.bool false] 147)).alloc (.cells #[.int .i64 0,.int .i64 0] 35)) W):SixAt W w.heap.size:=by
 refine ⟨?_,?_,?_,?_,?_,?_,?_,?_,?_,?_,?_,?_⟩
 ·rw[h.cell (p:=⟨w.heap.size,0,none⟩) (by simp)];simp
 ·rw[h.cell (p:=⟨w.heap.size,1,none⟩) (by simp)];simp
 ·rw[h.cell (p:=⟨w.heap.size,2,none⟩) (by simp)];simp
 ·rw[h.cell (p:=⟨w.heap.size,3,none⟩) (by simp)];simp
 ·rw[h.cell (p:=⟨w.heap.size+1,0,none⟩) (by simp)];simp
 ·rw[h.cell (p:=⟨w.heap.size+1,1,none⟩) (by simp)];simp
 ·rw[h.frozen (p:=⟨w.heap.size,0,none⟩) (by simp)];simp
 ·rw[h.frozen (p:=⟨w.heap.size,1,none⟩) (by simp)];simp
 ·rw[h.frozen (p:=⟨w.heap.size,2,none⟩) (by simp)];simp
 ·rw[h.frozen (p:=⟨w.heap.size,3,none⟩) (by simp)];simp
 ·rw[h.frozen (p:=⟨w.heap.size+1,0,none⟩) (by simp)];simp
 ·rw[h.frozen (p:=⟨w.heap.size+1,1,none⟩) (by simp)];simp
theorem six_rows {w W:World} (h:Below (w.heap.size+2) ((w.alloc (.cells #[.nilFunc,.nilFunc,.nilFunc,.bool false] 147)).alloc (.cells #[.int .i64 0,.int .i64 0] 35)) W):RowAt W w.heap.size 147 #[.nilFunc,.nilFunc,.nilFunc,.bool false]∧RowAt W (w.heap.size+1) 35 #[.int .i64 0,.int .i64 0]:=by
 refine ⟨((RowAt.new w _ _).alloc _).below h (by omega),?_⟩
 have:=RowAt.new (w.alloc (.cells #[.nilFunc,.nilFunc,.nilFunc,.bool false] 147)) 35 #[.int .i64 0,.int .i64 0]
 rw[World.size_alloc] at this
 exact this.below h (by omega)
theorem six_done {W:World} {b:Nat} {T U:TypeId} {a0 a1 a2 a3 c0 c1:Value} (r:RowAt W b T #[a0,a1,a2,a3]) (q:RowAt W (b+1) U #[c0,c1]) (x0 x1 x2 x3 y0 y1:Value) :
  RowAt ((((((W.setCell ⟨b,0,none⟩ x0).setCell ⟨b,1,none⟩ x1).setCell ⟨b,2,none⟩ x2).setCell ⟨b,3,none⟩ x3).setCell ⟨b+1,0,none⟩ y0).setCell ⟨b+1,1,none⟩ y1) b T #[x0,x1,x2,x3] ∧
  RowAt ((((((W.setCell ⟨b,0,none⟩ x0).setCell ⟨b,1,none⟩ x1).setCell ⟨b,2,none⟩ x2).setCell ⟨b,3,none⟩ x3).setCell ⟨b+1,0,none⟩ y0).setCell ⟨b+1,1,none⟩ y1) (b+1) U #[y0,y1]:=by
 have h1:=(((r.set 0 x0).set 1 x1).set 2 x2).set 3 x3
 have h2:=(((q.setOther ⟨b,0,none⟩ x0 (by simp)).setOther ⟨b,1,none⟩ x1 (by simp)).setOther ⟨b,2,none⟩ x2 (by simp)).setOther ⟨b,3,none⟩ x3 (by simp)
 exact ⟨(h1.setOther ⟨b+1,0,none⟩ y0 (by simp)).setOther ⟨b+1,1,none⟩ y1 (by simp),(h2.set 0 y0).set 1 y1⟩
theorem six_below {w W:World} {b:Nat} (h:Below w.heap.size w W) (hb:w.heap.size≤b) (x0 x1 x2 x3 y0 y1:Value) :
  Below w.heap.size w ((((((W.setCell ⟨b,0,none⟩ x0).setCell ⟨b,1,none⟩ x1).setCell ⟨b,2,none⟩ x2).setCell ⟨b,3,none⟩ x3).setCell ⟨b+1,0,none⟩ y0).setCell ⟨b+1,1,none⟩ y1) :=
 (((((h.setCell (p:=⟨b,0,none⟩) hb x0).setCell (p:=⟨b,1,none⟩) hb x1).setCell (p:=⟨b,2,none⟩) hb x2).setCell (p:=⟨b,3,none⟩) hb x3).setCell (p:=⟨b+1,0,none⟩) (by show _≤b+1;omega) y0).setCell (p:=⟨b+1,1,none⟩) (by show _≤b+1;omega) y1
theorem six_first (w:World) (X Y:Obj):Below w.heap.size w ((w.alloc X).alloc Y):=((Below.refl _ w).alloc (Nat.le_refl _) _).alloc (by simp) _
theorem six_size {w W:World} {X Y:Obj} (h:Below (w.heap.size+2) ((w.alloc X).alloc Y) W):w.heap.size+2≤W.heap.size:=by have:=h.size;simp at this;omega
set_option maxRecDepth 100000 in
set_option maxHeartbeats 1000000 in
theorem tfor_kind (k:Int) (h:k<1∨4<k) (key t:ByteArray) (w:World):Calls Tryz.prog 118 #[.int .i64 k,.string key,.string t] w fun e w'=>e=.returned (.tuple #[.agg tbl0,.agg #[.int .i64 1,.int .i64 0]])∧Below w.heap.size w w':=by
 have HT:=(show Hid (∀W,Calls Tryz.prog 166 #[.int .i64 k] W fun e w'=>e=.returned (.tuple #[.agg #[.nilFunc,.nilFunc,.nilFunc,.bool false],.bool false])∧Below W.heap.size W w') from fun W=>tableOf_bad k h W)
 go_enter Tryz.func118,Tryz.ntmps118
 go_wp2_with fail
 refine (HT.out _).mono ?_
 rintro e W1 ⟨rfl,hb1⟩
 simp only[World.size_alloc] at hb1
 have hb2:=hb1.alloc (by have:=six_size hb1;omega) (.cells #[.nilFunc,.nilFunc,.nilFunc,.bool false] 147)
 have hb:=(six_first w _ _).trans (hb2.mono (by omega))
 obtain ⟨t0,t1,t2,t3,e0,e1,f0,f1,f2,f3,g0,g1⟩:=six_of hb2
 have RR:=(show Hid (_∧_) from six_rows hb2)
 clear hb1 hb2
 go_wp2
 have hq:=six_done RR.out.1 RR.out.2 .nilFunc .nilFunc .nilFunc (.bool false) (.int .i64 1) (.int .i64 0)
 refine bodyPost_ret (v:=.tuple #[.agg tbl0,.agg #[.int .i64 1,.int .i64 0]]) (results_cells2V Tryz.results118 _ _ _ _ _ _ _ _ _ _ _ _ rfl rfl hq.1 hq.2 Tryz.underlying147 rfl v_info_tbl Tryz.underlying35 rfl v_info_faultV) rfl ⟨rfl,?_⟩
 exact six_below hb (Nat.le_refl _) _ _ _ _ _ _
set_option maxRecDepth 100000 in
set_option maxHeartbeats 1000000 in
theorem tfor_many (k:Nat) (h:1≤k∧k≤4) (key t:ByteArray) (hk:ckE key.data.toList=0) (hk2:ckAt key.data.toList=0) (hn:key.size<1∨256<key.size) (w:World):Calls Tryz.prog 118 #[.int .i64 k,.string key,.string t] w fun e w'=>e=.returned (.tuple #[.agg tbl0,.agg #[.int .i64 5,.int .i64 0]])∧Below w.heap.size w w':=by
 have HT:=(show Hid (∀W,Calls Tryz.prog 166 #[.int .i64 k] W fun e w'=>e=.returned (.tuple #[.agg #[.func (.func (fn0 k)) #[] #[],.func (.func (fn1 k)) #[] #[],.func (.func (fn2 k)) #[] #[],.bool (decide (k=4))],.bool true])∧Below W.heap.size W w') from fun W=>tableOf_ok k h W)
 have HC:=(show Hid (∀W,Calls Tryz.prog 38 #[.string key] W fun e w'=>e=.returned (.agg #[.int .i64 0,.int .i64 0])∧Below W.heap.size W w') from fun W=>by have:=check_all key W;rw[hk,hk2] at this;exact this)
 generalize fn0 k=F0 at *
 generalize fn1 k=F1 at *
 generalize fn2 k=F2 at *
 generalize decide (k=4)=B at *
 clear h hk hk2
 go_enter Tryz.func118,Tryz.ntmps118
 go_wp2_with fail
 refine (HT.out _).mono ?_
 rintro e W1 ⟨rfl,hb1⟩
 simp only[World.size_alloc] at hb1
 have hb2:=hb1.alloc (by have:=six_size hb1;omega) (.cells #[.func (.func F0) #[] #[],.func (.func F1) #[] #[],.func (.func F2) #[] #[],.bool B] 147)
 have hz1:=six_size hb1
 have rt:=RowAt.new W1 147 #[.func (.func F0) #[] #[],.func (.func F1) #[] #[],.func (.func F2) #[] #[],.bool B]
 clear hb1
 go_wp2_with fail
 refine (HC.out _).mono ?_
 rintro e W2 ⟨rfl,hb3⟩
 have hb4:=hb2.trans (hb3.mono (by have:=six_size hb2;omega))
 have rt2:=rt.below hb3 rt.lt
 clear hb3 hb2 rt
 have hb5:=hb4.alloc (by have:=six_size hb4;omega) (.cells #[.int .i64 0,.int .i64 0] 35)
 clear hb4
 have hb:=(six_first w _ _).trans (hb5.mono (by omega))
 obtain ⟨t0,t1,t2,t3,e0,e1,f0,f1,f2,f3,g0,g1⟩:=six_of hb5
 have RR:=(show Hid (_∧_) from six_rows hb5)
 clear hb5 HC HT rt2 hz1
 rcases hn with hn | hn
 ·go_wp2
  have hq:=six_done RR.out.1 RR.out.2 .nilFunc .nilFunc .nilFunc (.bool false) (.int .i64 5) (.int .i64 0)
  refine bodyPost_ret (v:=.tuple #[.agg tbl0,.agg #[.int .i64 5,.int .i64 0]]) (results_cells2V Tryz.results118 _ _ _ _ _ _ _ _ _ _ _ _ rfl rfl hq.1 hq.2 Tryz.underlying147 rfl v_info_tbl Tryz.underlying35 rfl v_info_faultV) rfl ⟨rfl,?_⟩
  exact six_below hb (Nat.le_refl _) _ _ _ _ _ _
 ·have hn1:¬key.size<1:=by omega
  go_wp2
  have hq:=six_done RR.out.1 RR.out.2 .nilFunc .nilFunc .nilFunc (.bool false) (.int .i64 5) (.int .i64 0)
  refine bodyPost_ret (v:=.tuple #[.agg tbl0,.agg #[.int .i64 5,.int .i64 0]]) (results_cells2V Tryz.results118 _ _ _ _ _ _ _ _ _ _ _ _ rfl rfl hq.1 hq.2 Tryz.underlying147 rfl v_info_tbl Tryz.underlying35 rfl v_info_faultV) rfl ⟨rfl,?_⟩
  exact six_below hb (Nat.le_refl _) _ _ _ _ _ _
set_option maxRecDepth 100000 in
set_option maxHeartbeats 1000000 in
theorem tfor_ok (k:Nat) (h:1≤k∧k≤4) (key t:ByteArray) (hk:ckE key.data.toList=0) (hk2:ckAt key.data.toList=0) (hn:1≤key.size∧key.size≤256) (ht:ckE t.data.toList=0) (ht2:ckAt t.data.toList=0) (w:World):Calls Tryz.prog 118 #[.int .i64 k,.string key,.string t] w fun e w'=>e=.returned (.tuple #[.agg (tbl k),.agg #[.int .i64 0,.int .i64 0]])∧Below w.heap.size w w':=by
 show Calls Tryz.prog 118 #[.int .i64 k,.string key,.string t] w fun e w'=>e=.returned (.tuple #[.agg #[.func (.func (fn0 k)) #[] #[],.func (.func (fn1 k)) #[] #[],.func (.func (fn2 k)) #[] #[],.bool (decide (k=4))],.agg #[.int .i64 0,.int .i64 0]])∧Below w.heap.size w w'
 have HT:=(show Hid (∀W,Calls Tryz.prog 166 #[.int .i64 k] W fun e w'=>e=.returned (.tuple #[.agg #[.func (.func (fn0 k)) #[] #[],.func (.func (fn1 k)) #[] #[],.func (.func (fn2 k)) #[] #[],.bool (decide (k=4))],.bool true])∧Below W.heap.size W w') from fun W=>tableOf_ok k h W)
 have HC:=(show Hid (∀W,Calls Tryz.prog 38 #[.string key] W fun e w'=>e=.returned (.agg #[.int .i64 0,.int .i64 0])∧Below W.heap.size W w') from fun W=>by have:=check_all key W;rw[hk,hk2] at this;exact this)
 have HD:=(show Hid (∀W,Calls Tryz.prog 38 #[.string t] W fun e w'=>e=.returned (.agg #[.int .i64 0,.int .i64 0])∧Below W.heap.size W w') from fun W=>by have:=check_all t W;rw[ht,ht2] at this;exact this)
 generalize fn0 k=F0 at *
 generalize fn1 k=F1 at *
 generalize fn2 k=F2 at *
 generalize decide (k=4)=B at *
 clear h hk hk2
 go_enter Tryz.func118,Tryz.ntmps118
 go_wp2_with fail
 refine (HT.out _).mono ?_
 rintro e W1 ⟨rfl,hb1⟩
 simp only[World.size_alloc] at hb1
 have hb2:=hb1.alloc (by have:=six_size hb1;omega) (.cells #[.func (.func F0) #[] #[],.func (.func F1) #[] #[],.func (.func F2) #[] #[],.bool B] 147)
 have hz1:=six_size hb1
 have rt:=RowAt.new W1 147 #[.func (.func F0) #[] #[],.func (.func F1) #[] #[],.func (.func F2) #[] #[],.bool B]
 clear hb1
 go_wp2_with fail
 refine (HC.out _).mono ?_
 rintro e W2 ⟨rfl,hb3⟩
 have hb4:=hb2.trans (hb3.mono (by have:=six_size hb2;omega))
 have rt2:=rt.below hb3 rt.lt
 clear hb3 hb2 rt
 have hb5:=hb4.alloc (by have:=six_size hb4;omega) (.cells #[.int .i64 0,.int .i64 0] 35)
 clear hb4
 have rt3:=rt2.alloc (.cells #[.int .i64 0,.int .i64 0] 35)
 clear rt2
 go_wp2_with fail
 refine (HD.out _).mono ?_
 rintro e W3 ⟨rfl,hb6⟩
 have rt4:=(rt3.below hb6 rt3.lt).alloc (.cells #[.int .i64 0,.int .i64 0] 35)
 have hb7:=hb5.trans (hb6.mono (by have:=six_size hb5;omega))
 clear hb6 hb5 rt3
 have hb8:=hb7.alloc (by have:=six_size hb7;omega) (.cells #[.int .i64 0,.int .i64 0] 35)
 have hb:=(six_first w _ _).trans (hb8.mono (by omega))
 obtain ⟨t0,t1,t2,t3,e0,e1,f0,f1,f2,f3,g0,g1⟩:=six_of hb8
 have RR:=(show Hid (_∧_) from six_rows hb8)
 have u0:=rt4.cell (i:=0) rfl
 have u1:=rt4.cell (i:=1) rfl
 have u2:=rt4.cell (i:=2) rfl
 have u3:=rt4.cell (i:=3) rfl
 have n0:¬W1.heap.size=w.heap.size:=by omega
 have n1:¬w.heap.size=W1.heap.size:=by omega
 have n2:¬W1.heap.size=w.heap.size+1:=by omega
 have n3:¬w.heap.size+1=W1.heap.size:=by omega
 clear hb7 hb8 HC HT HD rt4 hz1
 go_wp2
 have hq:=six_done RR.out.1 RR.out.2 (.func (.func F0) #[] #[]) (.func (.func F1) #[] #[]) (.func (.func F2) #[] #[]) (.bool B) (.int .i64 0) (.int .i64 0)
 refine bodyPost_ret (v:=.tuple #[.agg #[.func (.func F0) #[] #[],.func (.func F1) #[] #[],.func (.func F2) #[] #[],.bool B],.agg #[.int .i64 0,.int .i64 0]]) (results_cells2V Tryz.results118 _ _ _ _ _ _ _ _ _ _ _ _ rfl rfl hq.1 hq.2 Tryz.underlying147 rfl v_info_tbl Tryz.underlying35 rfl v_info_faultV) rfl ⟨rfl,?_⟩
 exact six_below hb (Nat.le_refl _) _ _ _ _ _ _
end Go.Proofs.YtkohhdkkbaifoaaGreatDoor
