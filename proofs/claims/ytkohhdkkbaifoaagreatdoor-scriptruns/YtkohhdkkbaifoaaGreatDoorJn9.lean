/-
  Several texts, joined: QMath, YKit, YWrong, YFit, RMath.
-/
import Derived.Test.YtkohhdkkbaifoaaGreatDoorJn2
import Derived.Test.YtkohhdkkbaifoaaGreatDoorJn8
import Derived.Test.YtkohhdkkbaifoaaGreatDoorChecked
import Derived.Deep.OwnRows
import Derived.Test.YtkohhdkkbaifoaaGreatDoorJn1
/-
  Plain mathematics of no program: after how many times an order stands where it stood.
-/
namespace Go.Proofs.YtkohhdkkbaifoaaGreatDoor.Qm

def it (f:Nat→Nat):Nat→Nat→Nat
 | 0,i=>i
 | k+1,i=>f (it f k i)
def left (g:Nat→Bool):Nat→Nat
 | 0=>0
 | n+1=>left g n+(if g n then 0 else 1)
end Go.Proofs.YtkohhdkkbaifoaaGreatDoor.Qm

/-
  Plain mathematics of no program: what is wrong with an order.
-/
namespace Go.Proofs.YtkohhdkkbaifoaaGreatDoor
open Go.RowKit PK

def metB (f:Nat→Int) (k x:Nat):Bool:=(List.range k).any fun j=>f j==(x:Int)
theorem metB_iff (f:Nat→Int) (k x:Nat):metB f k x=true↔∃j,j<k∧f j=x:=by simp[metB]
theorem metB_succ (f:Nat→Int) (k x:Nat):metB f (k+1) x=(metB f k x || f k==(x:Int)):=by simp[metB,List.range_succ,List.any_append]
theorem metB_step (f:Nat→Int) (k:Nat) (h:0≤f k):upd (metB f k) (f k).toNat true=metB f (k+1):=by
 funext x
 rw[metB_succ]
 by_cases e:x=(f k).toNat
 ·rw[e,upd_same]
  have:(f k==(((f k).toNat:Nat):Int))=true:=by simp;omega
  rw[this,Bool.or_true]
 ·rw[upd_other _ _ e]
  have:(f k==(x:Int))=false:=by simp;omega
  rw[this,Bool.or_false]
def badO (n:Nat) (f:Nat→Int) (k:Nat):Int:=if f k<0∨(n:Int)≤f k then 3 else if metB f k (f k).toNat then 8 else 0
def ordE (n:Nat) (f:Nat→Int):Int:=if 65536<n then 5 else firstE (badO n f) n
structure GoodO (n:Nat) (f:Nat→Int):Prop where
 le:n≤65536
 lt:∀i,i<n→0≤f i∧f i<n
 inj:∀i j,i<n→j<n→f i=f j→i=j
theorem ordE_zero (n:Nat) (f:Nat→Int):ordE n f=0↔GoodO n f:=by
 unfold ordE
 by_cases h:65536<n
 ·rw[if_pos h]
  exact ⟨fun h=>(by cases h),fun hg=>by have:=hg.le;omega⟩
 ·rw[if_neg h,firstE_zero]
  constructor
  ·intro hb
   have h1:∀i,i<n→(0≤f i∧f i<n)∧metB f i (f i).toNat=false:=fun i hi=>by
    have:=hb i hi
    unfold badO at this
    by_cases c:f i<0∨(n:Int)≤f i
    ·rw[if_pos c] at this;cases this
    ·rw[if_neg c] at this
     cases hm:metB f i (f i).toNat with
     | false=>exact ⟨by omega,rfl⟩
     | true=>rw[hm,if_pos rfl] at this;cases this
   have h2:∀i j,i<j→j<n→f i≠f j:=fun i j hij hj e=>by
    have:=(h1 j hj).2
    have h3:metB f j (f j).toNat=true:=(metB_iff _ _ _).2 ⟨i,hij,by have:=(h1 j hj).1;omega⟩
    rw[h3] at this
    cases this
   refine ⟨by omega,fun i hi=>(h1 i hi).1,fun i j hi hj e=>?_⟩
   rcases Nat.lt_trichotomy i j with c | c | c
   ·exact absurd e (h2 i j c hj)
   ·exact c
   ·exact absurd e.symm (h2 j i c hi)
  ·intro hg k hk
   unfold badO
   have hl:=hg.lt k hk
   rw[if_neg (by omega)]
   cases hm:metB f k (f k).toNat with
   | false=>rfl
   | true =>
    obtain ⟨j,hj,e⟩:=(metB_iff _ _ _).1 hm
    have:=hg.inj j k (by omega) hk (by omega)
    omega
theorem ordE_cases (n:Nat) (f:Nat→Int):(ordE n f=0∧GoodO n f)∨(ordE n f != 0)=true:=by
 by_cases h:ordE n f=0
 ·exact .inl ⟨h,(ordE_zero n f).1 h⟩
 ·exact .inr (by simpa using h)
theorem GoodO.of_order {n:Nat} {d:Nat→Int} (h:Sm.Order n d) (hn:n≤65536):GoodO n d:=⟨hn,h.lt,h.inj⟩
end Go.Proofs.YtkohhdkkbaifoaaGreatDoor

/-
  Contracts of rails.Wrong and of the document's.
-/
namespace Go.Proofs.YtkohhdkkbaifoaaGreatDoor
open Go.RowKit PK

theorem y_info_int:(Tryz.prog.info? 3).map (fun i=>(i.zero,i.size,i.bytes))=some (some (.int .i64 0),1,8):=by kernel_rfl
theorem y_info_bool:(Tryz.prog.info? 4).map (fun i=>(i.zero,i.size,i.bytes))=some (some (.bool false),1,1):=by kernel_rfl
theorem y_made_tab (z:Value) (n:Nat):madeCells #[z] n=tab n fun _=>z:=by
 unfold madeCells tab
 apply Array.ext
 ·simp
 ·intro i h1 h2
  simp[Nat.mod_one]
theorem bools_new (n:Nat):(tab n fun _=>.bool false)=bools n fun _=>false:=rfl
theorem ints_new (n:Nat):(tab n fun _=>.int .i64 0)=ints n fun _=>0:=rfl
set_option maxHeartbeats 1000000 in
theorem wrong_anyY (v:Value) (n:Nat) (f:Nat→Int) (w:World) (hv:NumsAt w v n f) :
  Calls Tryz.prog 167 #[v] w fun e w'=>e=.returned (.int .i64 (ordE n f))∧Below w.heap.size w w':=by
 by_cases h:65536<n
 ·have HR:Hid (ordE n f=5):=by rw[Hid];unfold ordE;rw[if_pos h]
  obtain ⟨a,cap,rfl,_⟩:=hv.len
  have h2:(65536:Int)<(n:Int):=by omega
  clear hv
  go_enter Tryz.func167,Tryz.ntmps167
  go_wp2
  go_ret
  exact ⟨ret_int HR.out.symm,Below.refl _ _⟩
 ·have HR:Hid (ordE n f=firstE (badO n f) n):=by rw[Hid];unfold ordE;rw[if_neg h]
  have h2:¬(65536:Int)<(n:Int):=by omega
  have hmk:=run_make_row' (P:=Tryz.prog) 218 4 (.bool false) 1 Tryz.underlying218 y_info_bool rfl .i64 .i64 n (by omega) (by omega)
  rw[y_made_tab,bools_new] at hmk
  obtain ⟨a,cap,rfl,hm,hc⟩:=hv
  have HC:=(show Hid _ from hc)
  clear hc
  go_enter Tryz.func167,Tryz.ntmps167
  go_wp2
  go_loopw [14] (fun i W=>∃m:Nat,m≤n∧i=.int .i64 m∧Hid (firstE (badO n f) m=0)∧RowAt W w.heap.size 4 (bools n (metB f m))∧Below w.heap.size w W) (fun i _=>((n:Int)-intOf i).toNat)
  case atStart=>exact ⟨0,by omega,rfl,rfl,RowAt.new w _ _,(Below.refl _ _).alloc (Nat.le_refl _) _⟩
  case round =>
   obtain ⟨m,hm,rfl,HS,ro,hb⟩:=hrel
   by_cases hlt:m<n
   ·obtain ⟨b,o,rfl,hc0⟩:=HC.out m hlt
    have HB:Hid (b<w.heap.size):=cell_block hc0
    have hc:=(hb.cell (p:=⟨b,o+m,none⟩) HB.out).trans hc0
    clear hc0
    have HST:=(show Hid _ from firstE_step _ m HS.out)
    by_cases hx:f m<0∨(n:Int)≤f m
    ·have HV:Hid (ordE n f=3):=by
      have h3:firstE (badO n f) (m+1)=3:=by rw[HST.out];unfold badO;rw[if_pos hx]
      rw[Hid,HR.out,firstE_keep _ (m+1) (by rw[h3];decide) n (by omega),h3]
     rcases hx with hx | hx
     ·go_wp2
      go_ret
      exact ⟨ret_int HV.out.symm,hb⟩
     ·have hx0:¬f m<0:=by omega
      go_wp2
      go_ret
      exact ⟨ret_int HV.out.symm,hb⟩
    ·have h1:¬f m<0:=by omega
     have h3:¬(n:Int)≤f m:=by omega
     have HSP:Hid (upd (metB f m) (f m).toNat true=metB f (m+1)):=metB_step f m (by omega)
     obtain ⟨x,hxe⟩:∃x:Nat,f m=x:=⟨(f m).toNat,by omega⟩
     have hxt:(f m).toNat=x:=by omega
     rw[hxt] at HSP
     have hbad:badO n f m=if metB f m x then 8 else 0:=by unfold badO;rw[if_neg hx,hxt]
     have hxn:x<n:=by omega
     rw[hxe] at hc h1 h3
     have hcx:=ro.cell (bools_get (metB f m) hxn)
     have hfx:=ro.frozen x
     cases hmet:metB f m x with
     | true =>
      have HV:Hid (ordE n f=8):=by
       have h3:firstE (badO n f) (m+1)=8:=by rw[HST.out,hbad,hmet];rfl
       rw[Hid,HR.out,firstE_keep _ (m+1) (by rw[h3];decide) n (by omega),h3]
      rw[hmet] at hcx
      clear hx hbad hxe hxt
      go_wp2
      go_ret
      exact ⟨ret_int HV.out.symm,hb⟩
     | false =>
      have HN:Hid (firstE (badO n f) (m+1)=0):=by rw[Hid,HST.out,hbad,hmet];rfl
      rw[hmet] at hcx
      have ro2:RowAt (wr.setCell ⟨w.heap.size,x,none⟩ (.bool true)) w.heap.size 4 (bools n (metB f (m+1))):=by
       have:=ro.set x (.bool true)
       rw[bools_set,HSP.out] at this
       exact this
      clear hx hbad hxe hxt
      go_wp2
      exact ⟨⟨m+1,by omega,by go_num,HN,ro2,hb.setCell (by simp) _⟩,by simp[intOf];omega⟩
   ·have HE:Hid (ordE n f=0):=by
     rw[Hid,HR.out]
     obtain rfl:m=n:=by omega
     exact HS.out
    go_wp2
    go_ret
    exact ⟨ret_int HE.out.symm,hb⟩
def metI (f:Nat→Int) (k x:Nat):Int:=if metB f k x then 1 else 0
theorem metI_step (f:Nat→Int) (k:Nat) (h:0≤f k):upd (metI f k) (f k).toNat 1=metI f (k+1):=by
 funext x
 have:=congrFun (metB_step f k h) x
 unfold metI
 rw[←this]
 by_cases e:x=(f k).toNat
 ·rw[e,upd_same,upd_same];rfl
 ·rw[upd_other _ _ e,upd_other _ _ e]
set_option maxHeartbeats 1000000 in
theorem rwrong_anyY (v:Value) (n:Nat) (f:Nat→Int) (w:World) (hv:NumsAt w v n f) :
  Calls Tryz.prog 179 #[v] w fun e w'=>e=.returned (.int .i64 (ordE n f))∧Below w.heap.size w w':=by
 by_cases h:65536<n
 ·have HR:Hid (ordE n f=5):=by rw[Hid];unfold ordE;rw[if_pos h]
  obtain ⟨a,cap,rfl,_⟩:=hv.len
  have h2:(65536:Int)<(n:Int):=by omega
  clear hv
  go_enter Tryz.func179,Tryz.ntmps179
  go_wp2
  go_ret
  exact ⟨ret_int HR.out.symm,Below.refl _ _⟩
 ·have HR:Hid (ordE n f=firstE (badO n f) n):=by rw[Hid];unfold ordE;rw[if_neg h]
  have h2:¬(65536:Int)<(n:Int):=by omega
  have hmk:=run_make_row' (P:=Tryz.prog) 25 3 (.int .i64 0) 8 Tryz.underlying25 y_info_int rfl .i64 .i64 n (by omega) (by omega)
  rw[y_made_tab,ints_new] at hmk
  obtain ⟨a,cap,rfl,hm,hc⟩:=hv
  have HC:=(show Hid _ from hc)
  clear hc
  go_enter Tryz.func179,Tryz.ntmps179
  go_wp2
  go_loopw [14] (fun i W=>∃m:Nat,m≤n∧i=.int .i64 m∧Hid (firstE (badO n f) m=0)∧RowAt W w.heap.size 3 (ints n (metI f m))∧Below w.heap.size w W) (fun i _=>((n:Int)-intOf i).toNat)
  case atStart=>exact ⟨0,by omega,rfl,rfl,RowAt.new w _ _,(Below.refl _ _).alloc (Nat.le_refl _) _⟩
  case round =>
   obtain ⟨m,hm,rfl,HS,ro,hb⟩:=hrel
   by_cases hlt:m<n
   ·obtain ⟨b,o,rfl,hc0⟩:=HC.out m hlt
    have HB:Hid (b<w.heap.size):=cell_block hc0
    have hc:=(hb.cell (p:=⟨b,o+m,none⟩) HB.out).trans hc0
    clear hc0
    have HST:=(show Hid _ from firstE_step _ m HS.out)
    by_cases hx:f m<0∨(n:Int)≤f m
    ·have HV:Hid (ordE n f=3):=by
      have h3:firstE (badO n f) (m+1)=3:=by rw[HST.out];unfold badO;rw[if_pos hx]
      rw[Hid,HR.out,firstE_keep _ (m+1) (by rw[h3];decide) n (by omega),h3]
     rcases hx with hx | hx
     ·go_wp2
      go_ret
      exact ⟨ret_int HV.out.symm,hb⟩
     ·have hx0:¬f m<0:=by omega
      go_wp2
      go_ret
      exact ⟨ret_int HV.out.symm,hb⟩
    ·have h1:¬f m<0:=by omega
     have h3:¬(n:Int)≤f m:=by omega
     have HSP:Hid (upd (metI f m) (f m).toNat 1=metI f (m+1)):=metI_step f m (by omega)
     obtain ⟨x,hxe⟩:∃x:Nat,f m=x:=⟨(f m).toNat,by omega⟩
     have hxt:(f m).toNat=x:=by omega
     rw[hxt] at HSP
     have hbad:badO n f m=if metB f m x then 8 else 0:=by unfold badO;rw[if_neg hx,hxt]
     have hxn:x<n:=by omega
     rw[hxe] at hc h1 h3
     have hcx:=ro.cell (ints_get (metI f m) hxn)
     have hfx:=ro.frozen x
     cases hmet:metB f m x with
     | true =>
      have HV:Hid (ordE n f=8):=by
       have h3:firstE (badO n f) (m+1)=8:=by rw[HST.out,hbad,hmet];rfl
       rw[Hid,HR.out,firstE_keep _ (m+1) (by rw[h3];decide) n (by omega),h3]
      rw[show metI f m x=1 by unfold metI;rw[hmet];rfl] at hcx
      have hcx2:=World.cell?_setCell_same wr ⟨w.heap.size,x,none⟩ (.int .i64 2) hcx
      have hco2:=(World.cell?_setCell_other wr ⟨w.heap.size,x,none⟩ ⟨b,o+m,none⟩ (.int .i64 2) (by have:=HB.out;simp <;> omega)).trans hc
      have hbb:=hb.setCell (p:=⟨w.heap.size,x,none⟩) (by simp) (.int .i64 2)
      clear hx hbad hxe hxt
      go_wp2
      go_ret
      exact ⟨ret_int HV.out.symm,hbb⟩
     | false =>
      have HN:Hid (firstE (badO n f) (m+1)=0):=by rw[Hid,HST.out,hbad,hmet];rfl
      rw[show metI f m x=0 by unfold metI;rw[hmet];rfl] at hcx
      have hcx2:=World.cell?_setCell_same wr ⟨w.heap.size,x,none⟩ (.int .i64 1) hcx
      have ro2:RowAt (wr.setCell ⟨w.heap.size,x,none⟩ (.int .i64 1)) w.heap.size 3 (ints n (metI f (m+1))):=by
       have:=ro.set x (.int .i64 1)
       rw[ints_set,HSP.out] at this
       exact this
      have hbb:=hb.setCell (p:=⟨w.heap.size,x,none⟩) (by simp) (.int .i64 1)
      clear hx hbad hxe hxt
      go_wp2
      exact ⟨⟨m+1,by omega,by go_num,HN,ro2,hbb⟩,by simp[intOf];omega⟩
   ·have HE:Hid (ordE n f=0):=by
     rw[Hid,HR.out]
     obtain rfl:m=n:=by omega
     exact HS.out
    go_wp2
    go_ret
    exact ⟨ret_int HE.out.symm,hb⟩
end Go.Proofs.YtkohhdkkbaifoaaGreatDoor

/-
  Contracts of rails.misfit, put, back, Write and Read.
-/
namespace Go.Proofs.YtkohhdkkbaifoaaGreatDoor
open Go.RowKit PK

def fitE (n:Nat) (f:Nat→Int) (l:List UInt8):Int:=if ordE n f≠0 then ordE n f else if ckE l≠0 then ckE l else if n≠l.length then 8 else 0
theorem fitE_cases (n:Nat) (f:Nat→Int) (l:List UInt8):(fitE n f l=0∧GoodO n f∧ckE l=0∧n=l.length∧l.length≤65536∧Pl.Lets l)∨(fitE n f l != 0)=true:=by
 unfold fitE
 rcases ordE_cases n f with ⟨h1,h2⟩ | h1
 ·rw[h1,if_neg (by simp)]
  rcases ck_cases l with ⟨h3,_,h4,h5⟩ | h3
  ·rw[h3,if_neg (by simp)]
   by_cases h6:n=l.length
   ·rw[if_neg (by simpa using h6)];exact .inl ⟨rfl,h2,rfl,h6,h4,h5⟩
   ·rw[if_pos h6];exact .inr rfl
  ·rw[if_pos (by simpa using h3)];exact .inr h3
 ·rw[if_pos (by simpa using h1)];exact .inr h1
set_option maxHeartbeats 1000000 in
theorem misfit_any (v:Value) (n:Nat) (f:Nat→Int) (s:ByteArray) (w:World) (hv:NumsAt w v n f) :
  Calls Tryz.prog 122 #[v,.string s] w fun e w'=>e=.returned (.int .i64 (fitE n f s.data.toList))∧Below w.heap.size w w':=by
 have HW:Hid (Calls Tryz.prog 167 #[v] w fun e w'=>e=.returned (.int .i64 (ordE n f))∧Below w.heap.size w w'):=wrong_anyY v n f w hv
 have HCK:=(show Hid (∀W,Calls Tryz.prog 38 #[.string s] W fun e w'=>e=.returned (.agg #[.int .i64 (ckE s.data.toList),.int .i64 (ckAt s.data.toList)])∧Below W.heap.size W w') from fun W=>check_all s W)
 have HF:Hid (fitE n f s.data.toList=if ordE n f≠0 then ordE n f else if ckE s.data.toList≠0 then ckE s.data.toList else if n≠s.size then 8 else 0):=by rw[Hid,Pl.size_len s];rfl
 obtain ⟨a,cap,rfl,hm⟩:=hv.len
 generalize fitE n f s.data.toList=F at *
 generalize ordE n f=E1 at *
 generalize ckE s.data.toList=E2 at *
 generalize ckAt s.data.toList=A2 at *
 clear hv
 by_cases h1:E1=0
 ·subst h1
  by_cases h2:E2=0
  ·subst h2
   by_cases h3:n=s.size
   ·have HZ:Hid (F=0):=by rw[Hid,HF.out];simp[h3]
    subst h3
    go_enter Tryz.func122,Tryz.ntmps122
    go_wp2_with (first | (go_at_call 167;refine HW.out.mono ?_;rintro e W1 ⟨rfl,hb1⟩) | (go_at_call 38;refine (HCK.out _).mono ?_;rintro e W2 ⟨rfl,hb2⟩))
    go_ret
    exact ⟨ret_int HZ.out.symm,(hb1.trans (hb2.mono hb1.size)).alloc (by have:=hb1.size;have:=hb2.size;omega) _⟩
   ·have HZ:Hid (F=8):=by rw[Hid,HF.out];simp[h3]
    have h4:((n:Int)==(s.size:Int))=false:=by simp;omega
    go_enter Tryz.func122,Tryz.ntmps122
    go_wp2_with (first | (go_at_call 167;refine HW.out.mono ?_;rintro e W1 ⟨rfl,hb1⟩) | (go_at_call 38;refine (HCK.out _).mono ?_;rintro e W2 ⟨rfl,hb2⟩))
    go_ret
    exact ⟨ret_int HZ.out.symm,(hb1.trans (hb2.mono hb1.size)).alloc (by have:=hb1.size;have:=hb2.size;omega) _⟩
  ·have HZ:Hid (F=E2):=by rw[Hid,HF.out];simp[h2]
   have h4:(E2==0)=false:=by simp;omega
   clear h2
   go_enter Tryz.func122,Tryz.ntmps122
   go_wp2_with (first | (go_at_call 167;refine HW.out.mono ?_;rintro e W1 ⟨rfl,hb1⟩) | (go_at_call 38;refine (HCK.out _).mono ?_;rintro e W2 ⟨rfl,hb2⟩))
   go_ret
   exact ⟨ret_int HZ.out.symm,(hb1.trans (hb2.mono hb1.size)).alloc (by have:=hb1.size;have:=hb2.size;omega) _⟩
 ·have HZ:Hid (F=E1):=by rw[Hid,HF.out];simp[h1]
  have h4:(E1==0)=false:=by simp;omega
  clear h1
  go_enter Tryz.func122,Tryz.ntmps122
  go_wp2_with (first | (go_at_call 167;refine HW.out.mono ?_;rintro e W1 ⟨rfl,hb1⟩))
  go_ret
  exact ⟨ret_int HZ.out.symm,hb1⟩
end Go.Proofs.YtkohhdkkbaifoaaGreatDoor

/-
  Plain mathematics of no program: lists that stand in order by keys; zigzags; columns.
-/
namespace Go.Proofs.YtkohhdkkbaifoaaGreatDoor.Sm

theorem nodup_len:∀(l m:List Nat),l.Nodup→(∀x ∈ l,x ∈ m)→l.length≤m.length
 | [],m,_,_=>by simp
 | a :: t,m,h,hs=>by
  have h1:=List.nodup_cons.1 h
  have ha:a ∈ m:=hs a (by simp)
  have:=nodup_len t (m.erase a) h1.2 (fun x hx=>by
   have hne:x≠a:=fun e=>h1.1 (e ▸ hx)
   exact (List.mem_erase_of_ne hne).2 (hs x (by simp[hx])))
  rw[List.length_erase_of_mem ha] at this
  have hp:0<m.length:=List.length_pos_of_mem ha
  simp only[List.length_cons]
  omega
theorem of_list {K:Int→Int} {n:Nat} {l:List Nat} (hp:l.Pairwise fun (x y:Nat)=>LL K (x:Int) (y:Int)) (hm:∀x,x ∈ l↔x<n) :
  l.length=n∧Order n (fun i=>((l.getD i 0:Nat):Int))∧Srt K (fun i=>((l.getD i 0:Nat):Int)) 0 n:=by
 have hnd:l.Nodup:=hp.imp fun h e=>by subst e;exact LL.irrefl h
 have h1:=nodup_len l (List.range n) hnd (fun x hx=>by simpa using (hm x).1 hx)
 have h2:=nodup_len (List.range n) l List.nodup_range (fun x hx=>(hm x).2 (by simpa using hx))
 have hl:l.length=n:=by simp at h1 h2;omega
 have hget:∀i,(h:i<n)→l.getD i 0=l[i]'(by omega):=fun i h=>by simp[List.getD,List.getElem?_eq_getElem (show i<l.length by omega)]
 refine ⟨hl,⟨fun i hi=>?_,fun i j hi hj e=>?_,fun x h0 hx=>?_⟩,fun p q hp0 hpq hq=>?_⟩
 ·have:l.getD i 0<n:=(hm _).1 (by rw[hget i hi];exact List.getElem_mem _)
  omega
 ·have e':l.getD i 0=l.getD j 0:=by omega
  rw[hget i hi,hget j hj] at e'
  exact (List.getElem_inj hnd).1 e'
 ·obtain ⟨i,hi,e⟩:=List.mem_iff_getElem.1 ((hm x.toNat).2 (by omega))
  refine ⟨i,by omega,?_⟩
  show ((l.getD i 0:Nat):Int)=x
  rw[hget i (by omega),e]
  omega
 ·show LL K ((l.getD p 0:Nat):Int) ((l.getD q 0:Nat):Int)
  rw[hget p (by omega),hget q hq]
  exact List.pairwise_iff_getElem.1 hp p q (by omega) (by omega) hpq
def byKey (k:Nat→Nat) (R n:Nat):List Nat:=(List.range R).flatMap fun r=>(List.range n).filter fun i=>k i==r
theorem byKey_mem {k:Nat→Nat} {R n:Nat} (hk:∀i,i<n→k i<R) (x:Nat):x ∈ byKey k R n↔x<n:=by
 unfold byKey
 rw[List.mem_flatMap]
 constructor
 ·rintro ⟨r,_,h⟩
  simpa using (List.mem_filter.1 h).1
 ·intro h
  exact ⟨k x,by simpa using hk x h,List.mem_filter.2 ⟨by simpa using h,by simp⟩⟩
theorem range_pw (n:Nat):(List.range n).Pairwise (·<·):=List.pairwise_lt_range
theorem byKey_pw (k:Nat→Nat) (R n:Nat):(byKey k R n).Pairwise fun (x y:Nat)=>LL (fun z=>(k z.toNat:Int)) (x:Int) (y:Int):=by
 unfold byKey
 rw[List.pairwise_flatMap]
 refine ⟨fun r _=>?_,?_⟩
 ·refine List.Pairwise.imp_of_mem ?_ ((range_pw n).filter _)
  intro a b ha hb hab
  have ka:k a=r:=by simpa using (List.mem_filter.1 ha).2
  have kb:k b=r:=by simpa using (List.mem_filter.1 hb).2
  right
  show ((k (a:Int).toNat:Nat):Int)=((k (b:Int).toNat:Nat):Int)∧(a:Int)<(b:Int)
  rw[Int.toNat_natCast,Int.toNat_natCast,ka,kb]
  exact ⟨rfl,by omega⟩
 ·refine (range_pw R).imp ?_
  intro r r' hr x hx y hy
  have kx:k x=r:=by simpa using (List.mem_filter.1 hx).2
  have ky:k y=r':=by simpa using (List.mem_filter.1 hy).2
  left
  show ((k (x:Int).toNat:Nat):Int)<((k (y:Int).toNat:Nat):Int)
  rw[Int.toNat_natCast,Int.toNat_natCast,kx,ky]
  omega
def grp (k:Nat→Nat) (n r:Nat):List Nat:=(List.range n).filter fun i=>k i==r
theorem grp_succ (k:Nat→Nat) (n r:Nat):grp k (n+1) r=if k n=r then grp k n r++[n] else grp k n r:=by
 unfold grp
 rw[List.range_succ,List.filter_append]
 by_cases h:k n=r
 ·rw[if_pos h];simp[h]
 ·rw[if_neg h];simp[h]
theorem byKey_grp (k:Nat→Nat) (R n:Nat):byKey k R n=(List.range R).flatMap (grp k n):=rfl
def railK (rails i:Nat):Nat:=if rails=1 then 0 else min (i % (2*(rails-1))) (2*(rails-1)-i % (2*(rails-1)))
theorem railK_lt {rails:Nat} (h:1≤rails) (i:Nat):railK rails i<rails:=by
 unfold railK
 by_cases h1:rails=1
 ·rw[if_pos h1];omega
 ·rw[if_neg h1]
  have:=Nat.mod_lt i (show 0<2*(rails-1) by omega)
  omega
theorem mod_next (i s:Nat) (hs:0<s):(i+1) % s=if i % s+1=s then 0 else i % s+1:=by
 have h:=Nat.mod_lt i hs
 rw[Nat.add_mod]
 by_cases h1:s=1
 ·subst h1;simp[Nat.mod_one]
 ·rw[Nat.mod_eq_of_lt (show 1<s by omega)]
  by_cases h2:i % s+1=s
  ·rw[if_pos h2,h2,Nat.mod_self]
  ·rw[if_neg h2,Nat.mod_eq_of_lt (by omega)]
def Zig (rails i:Nat) (at' by':Int):Prop:=at'=railK rails i∧(by'=1∨by'=-1)∧(1<rails→(by'=1→i % (2*(rails-1))≤rails-1)∧(by'=-1→i % (2*(rails-1))=0∨rails-1<i % (2*(rails-1))))
theorem zig_start (rails:Nat):Zig rails 0 0 1:=by
 refine ⟨?_,.inl rfl,fun _=>⟨fun _=>by rw[Nat.zero_mod];omega,fun h=>by omega⟩⟩
 unfold railK
 by_cases h1:rails=1
 ·rw[if_pos h1];rfl
 ·rw[if_neg h1,Nat.zero_mod];simp
theorem zig_step {rails i:Nat} (hr1:1≤rails) {a b:Int} (hz:Zig rails i a b):Zig rails (i+1) (if 1<rails then a+(if a+b<0∨(rails:Int)≤a+b then -b else b) else a) (if a+b<0∨(rails:Int)≤a+b then -b else b):=by
 obtain ⟨ha,hb,hz⟩:=hz
 by_cases h1:rails=1
 ·subst h1
  refine ⟨?_,?_,fun h=>by omega⟩
  ·rw[if_neg (by omega),ha];rfl
  ·by_cases c:a+b<0∨((1:Nat):Int)≤a+b
   ·rw[if_pos c];omega
   ·rw[if_neg c];exact hb
 ·have hr:1<rails:=by omega
  obtain ⟨z1,z2⟩:=hz hr
  unfold railK at ha
  rw[if_neg h1] at ha
  have hlt:=Nat.mod_lt i (show 0<2*(rails-1) by omega)
  have hnx:=mod_next i (2*(rails-1)) (by omega)
  unfold Zig railK
  rw[if_neg h1,if_pos hr,hnx]
  generalize i % (2*(rails-1))=r at *
  rcases hb with hb | hb
  ·have z:=z1 hb
   subst hb
   by_cases c:r=rails-1
   ·rw[if_pos (by omega)]
    by_cases c2:r+1=2*(rails-1)
    ·rw[if_pos c2];exact ⟨by omega,.inr rfl,fun _=>⟨fun h=>by omega,fun _=>.inl rfl⟩⟩
    ·rw[if_neg c2];exact ⟨by omega,.inr rfl,fun _=>⟨fun h=>by omega,fun _=>.inr (by omega)⟩⟩
   ·rw[if_neg (by omega),if_neg (by omega)]
    exact ⟨by omega,.inl rfl,fun _=>⟨fun _=>by omega,fun h=>by omega⟩⟩
  ·have z:=z2 hb
   subst hb
   by_cases c:r=0
   ·subst c
    rw[if_pos (by omega)]
    by_cases c2:0+1=2*(rails-1)
    ·omega
    ·rw[if_neg c2];exact ⟨by omega,.inl rfl,fun _=>⟨fun _=>by omega,fun h=>by omega⟩⟩
   ·rw[if_neg (by omega)]
    by_cases c2:r+1=2*(rails-1)
    ·rw[if_pos c2];exact ⟨by omega,.inr rfl,fun _=>⟨fun h=>by omega,fun _=>.inl rfl⟩⟩
    ·rw[if_neg c2];exact ⟨by omega,.inr rfl,fun _=>⟨fun h=>by omega,fun _=>.inr (by omega)⟩⟩
end Go.Proofs.YtkohhdkkbaifoaaGreatDoor.Sm
