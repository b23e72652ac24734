/-
  Several texts, joined: ScJ, ScV, ORKn, OAl.
-/
import Derived.Test.YtkohhdkkbaifoaaGreatDoorScI
import Derived.Test.YtkohhdkkbaifoaaGreatDoorJn20
import Derived.RangeFuncBound
import Derived.RangeFuncCalls
import Derived.RangeFuncLeaves
import Derived.Shelf.Abstract
import Derived.Shelf.RegionOpen
import Derived.WalkKit
import Derived.OwnWalkIn
import Derived.TacticsInMore
import Derived.LoopNIn
import Derived.LoopIn
import Derived.Test.YtkohhdkkbaifoaaGreatDoorJn2
import Derived.Test.YtkohhdkkbaifoaaGreatDoorJn17
import Derived.Test.YtkohhdkkbaifoaaGreatDoorJn16
/-
  A chain from its end on: script.fromTheEnd.
-/
namespace Go.Proofs.YtkohhdkkbaifoaaGreatDoor
open Go.RowKit PK Vg Sm
attribute [local go_sem] Oper.semAt_some

section
variable {F:Fence} {n:Nat} {P:Program}
theorem wpListIn_load_arr {ops:Array Oper} {rest:List Oper} {op:Oper} {a:Act} {w:World} {Q:Exit→Act→World→Prop} (hgd:op.guard=none) (ty:TypeId) (x:Operand) (ho:op.op=.load ty x)
  (b o:Nat) (hx:a.eval x=.pointer (some ⟨b,o,none⟩)) (cs:Array Value) (d:TypeDesc) (hc:w.rangeAt b o cs.toList)
  (hu:P.underlying ty=some d) (hd:d.isRow=true) (hi:(P.info? ty).map (·.size)=some cs.size)
  (h:wpListIn F n P ops Q rest (a.put op.dst (.agg cs)) w):wpListIn F n P ops Q (op :: rest) a w:=by
 refine wpListIn_plain hgd fun K hK=>?_
 have hl:=run_loadVar_mid w b o ty cs.toList d hc hu hd (by rw[Array.length_toList];exact hi)
 rw[Array.toArray_toList] at hl
 unfold Oper.wpIn
 refine ⟨by simp[Oper.about,ho],?_⟩
 rw[Oper.semAt_plain F _ _ (by rw[ho];intro c hc';cases hc')]
 unfold execOp
 simp only[ho,hx,Instr.loadAt,Instr.sureAddr,Sem.run_bind,Sem.run_pure,Result.andThen_ok,hl]
 exact hK _ _ h
theorem wpListIn_store_row {ops:Array Oper} {rest:List Oper} {o:Oper} {a:Act} {w:World} {Q:Exit→Act→World→Prop} (hgd:o.guard=none) (ty:TypeId) (x y:Operand) (ho:o.op=.store ty x y)
  (g:Nat) (cells:Array Value) (hx:a.eval x=.pointer (some ⟨g,0,none⟩)) (hy:a.eval y=.agg cells)
  (t:TypeId) (old:Array Value) (hg:w.heap[g]? = some (.cells old t (0,0))) (hi:(P.info? ty).map (·.size)=some cells.size)
  (hold:old.size=cells.size) (h1:cells.all (·.oneCell')=true)
  (h:wpListIn F n P ops Q rest (a.put o.dst undef) (w.setRow g cells)):wpListIn F n P ops Q (o :: rest) a w:=by
 refine wpListIn_plain hgd fun K hK=>?_
 unfold Oper.wpIn
 refine ⟨by simp[Oper.about,ho],?_⟩
 rw[Oper.semAt_plain F _ _ (by rw[ho];intro c hc';cases hc')]
 unfold execOp
 simp only[ho,hx,hy,Instr.storeAt,Instr.sureAddr,Sem.run_bind,Sem.run_pure,Result.andThen_ok,run_storeVar_row w g t ty old cells hg hi hold h1]
 exact hK _ _ h
end
def Sme (bt lv:Nat) (W W':World):Prop:=∀b,b≠bt→b<lv→W'.heap[b]? = W.heap[b]?
theorem Sme.trans {bt lv:Nat} {A B C:World} (h:Sme bt lv A B) (k:Sme bt lv B C):Sme bt lv A C:=fun b h1 h2=>(k b h1 h2).trans (h b h1 h2)
theorem Sme.cell {bt lv:Nat} {A B:World} (h:Sme bt lv A B) {b o:Nat} (h1:b≠bt) (h2:b<lv):B.cell? ⟨b,o,none⟩=A.cell? ⟨b,o,none⟩:=by
 have:=h b h1 h2
 simp only[World.cell?,this]
theorem Sme.range {bt lv:Nat} {A B:World} (h:Sme bt lv A B) {b o:Nat} {l:List Value} (hr:A.rangeAt b o l) (h1:b≠bt) (h2:b<lv):B.rangeAt b o l:=fun j v hv=>(h.cell h1 h2).trans (hr j v hv)
theorem Sme.of {bt lv:Nat} {A B:World} (h:Below lv A B):Sme bt lv A B:=fun b _ h2=>h.block b h2
set_option maxRecDepth 100000 in
set_option maxHeartbeats 2000000 in
theorem fte_all (bt lv b:Nat) (a:Option Addr) (n cap:Nat) (R:Nat→Array Value) (w0:World) (m:Nat) (hn:n≤64) (hs:∀i,i<n→(R i).size=59) (hlv:lv≤w0.heap.size)
  (hr:∀i,i<n→∃b o,a=some ⟨b,o,none⟩∧(b≠bt∧b<lv)∧w0.rangeAt b (o+i*59) (R i).toList) (hbb:b≠bt∧b<lv) (hb:w0.cell? ⟨b,0,none⟩=some (.slice a n cap)) :
  SeqAll Fence.wide m Tryz.prog 90 #[.pointer (some ⟨b,0,none⟩)] n (fun k=>#[.int .i64 ((n-1-k:Nat):Int),.agg (R (n-1-k))]) (fun _=>False) (Sme bt lv) w0:=by
 intro l J Jp W hW hJ hY h0
 have HR:Hid (∀i,i<n→∃b o,a=some ⟨b,o,none⟩∧(b≠bt∧b<lv)∧w0.rangeAt b (o+i*59) (R i).toList):=hr
 have HS:Hid (∀i,i<n→(R i).size=59):=hs
 have HY:Hid (∀k W1,J k W1→k<n→YieldAt Fence.wide (m-1) Tryz.prog l #[.int .i64 ((n-1-k:Nat):Int),.agg (R (n-1-k))] W1 fun e W'=>(e=.returned (.bool true)∧J (k+1) W'∧Sme bt lv W1 W')∨(∃ch,e=.panicked ch∧Jp ch W')):=hY
 have hc0:=(hW.cell (p:=⟨b,0,none⟩) (World.block_lt_of_cell? _ _ hb)).trans hb
 have HB0:Hid (w0.cell? ⟨b,0,none⟩=some (.slice a n cap)):=hb
 have HBB:Hid (b≠bt∧b<lv):=hbb
 have HW0:Hid (Sme bt lv w0 W):=Sme.of (hW.mono hlv)
 clear hr hs hY hb hJ hW hbb hlv
 refine callsIn_of_wp Tryz.func90 rfl trivial ?_ rfl
 simp only[Tryz.ntmps90,List.size_toArray,List.length_cons,List.length_nil,Nat.reduceAdd,Nat.reduceSub,Array.replicate_succ,Array.replicate_zero,List.push_toArray,List.append_toArray,List.nil_append,List.cons_append]
 gi_wp2
 gi_loopw [3] (fun p wr=>∃k:Nat,k≤n∧p=.int .i64 (((n-k:Nat):Int)-1)∧J k wr∧Hid (Sme bt lv w0 wr)) (fun p _=>((intOf p)+1).toNat)
 case atStart=>exact ⟨0,by omega,by rfl,h0,HW0⟩
 case round =>
  obtain ⟨k,hk,rfl,hj,HBE⟩:=hrel
  by_cases hlt:k<n
  ·obtain ⟨j,hjj⟩:∃j:Nat,j=n-1-k:=⟨_,rfl⟩
   have hjn:j<n:=by omega
   have e1:((n-k:Nat):Int)-1=(j:Int):=by omega
   obtain ⟨bw,ow,rfl,hbw,hrg⟩:=HR.out j hjn
   have hrg2:=HBE.out.range hrg hbw.1 hbw.2
   have hc1:=(HBE.out.cell (o:=0) HBB.out.1 HBB.out.2).trans HB0.out
   obtain ⟨fn,tmps,assign,body,hy,hR⟩:=HY.out k wr hj hlt
   have HRI:Hid _:=hR
   have HSJ:Hid ((R j).size=59):=HS.out j hjn
   rw[←hjj] at hy
   generalize R j=CS at *
   have HNX:Hid (n-(k+1)=j):=by rw[Hid];omega
   have HKL:Hid (k+1≤n):=hlt
   rw[e1]
   have hjl:(j:Int)<(n:Int):=by omega
   clear hR hrg hjj hc0 h0 hj e1 hlt hk hbw HW0
   gi_wp2_with (refine wpListIn_load_arr rfl 31 _ rfl bw (ow+j*59) rfl CS _ hrg2 Tryz.underlying31 rfl (by rw[HSJ.out];exact s_info) ?_)
   refine ⟨fun h=>(by cases h),?_⟩
   refine RoundIn.mono HRI.out ?_
   rintro e W3 (⟨rfl,hJ3,hk3⟩ | ⟨ch,rfl,hJp⟩)
   ·have HK3:Hid (Sme bt lv w0 W3):=HBE.out.trans hk3
    clear hk3 hrg2 hy HRI HBE
    gi_wp2
    go_roundw
    case rel=>exact ⟨k+1,HKL.out,by rw[HNX.out],hJ3,HK3⟩
    case measure=>simp[intOf] <;> omega
   ·exact ⟨rfl,.inr ⟨ch,rfl,hJp⟩⟩
  ·obtain rfl:k=n:=by omega
   rw[Nat.sub_self]
   gi_wp2
   go_end0
   exact .inl ⟨⟨_,rfl⟩,hj⟩
end Go.Proofs.YtkohhdkkbaifoaaGreatDoor

/-
  A text in pieces, with commas between two: strings.SplitSeq.
-/
namespace Go.Proofs.YtkohhdkkbaifoaaGreatDoor
open Go.RowKit PK Vg
attribute [local go_sem] Oper.semAt_some

def rst (l:List UInt8):Nat→List UInt8
 | 0=>l
 | k+1=>(rst l k).drop ((upto 44 (rst l k)).length+1)
def pce (l:List UInt8) (k:Nat):List UInt8:=upto 44 (rst l k)
def off (l:List UInt8):Nat→Nat
 | 0=>0
 | k+1=>off l k+(pce l k).length+1
end Go.Proofs.YtkohhdkkbaifoaaGreatDoor

/-
  Contracts of the document's Spelt, Known and Mirror (chapter 8).
-/
namespace Go.Proofs.YtkohhdkkbaifoaaGreatDoor
open Go.RowKit PK Vg

theorem o_decode (s:ByteArray) (pos:Nat) (hp:pos<s.size) (hl:Ls s.data.toList):Utf8.decode s pos=((s.data.toList.getD pos 0).toNat,1):=by
 have hp':pos<s.data.toList.length:=by rw[←Pl.size_len];exact hp
 rw[Pl.decode_eq,List.drop_eq_getElem_cons hp']
 have hm:s.data.toList[pos] ∈ s.data.toList:=List.getElem_mem _
 have:=hl _ hm
 rw[Pl.decL_low _ _ (by omega)]
 simp[List.getD,List.getElem?_eq_getElem hp']
def spl (l:List UInt8) (i:Nat):Int:=if i<l.length then ((Vg.num (l.getD i 0):Nat):Int) else 0
structure SpAt (w W:World) (s:ByteArray) (pos:Nat) (f:Nat→Int):Prop where
 r:RowAt W w.heap.size 27 (ints 26 fun _=>0)
 o:RowAt W (w.heap.size+1) 27 (ints 26 f)
 it:W.heap[w.heap.size+1+1]? = some (.stringIter s pos)
 below:Below w.heap.size w W
set_option maxRecDepth 100000 in
set_option maxHeartbeats 1000000 in
theorem rspelt_any (s:ByteArray) (hl:Ls s.data.toList) (hs:s.size≤26) (w:World):Calls Tryz.prog 158 #[.string s] w fun e w'=>e=.returned (.agg (ints 26 (spl s.data.toList)))∧Below w.heap.size w w':=by
 have hz26:=o_zero v_zero_perm
 have h0:=TuAt.new w
 have HL:=(show Hid (Ls s.data.toList) from hl)
 have hslen:=Pl.size_len s
 go_enter Tryz.func158,Tryz.ntmps158
 go_wp2_with fail
 clear hz26
 go_loopw [4] (fun _ W=>∃pos:Nat,pos≤s.size∧SpAt w W s pos fun c=>if c<pos then ((Vg.num (s.data.toList.getD c 0):Nat):Int) else 0) (fun _ W=>s.size-W.iterPos (w.heap.size+1+1))
 case atStart =>
  refine ⟨0,by omega,h0.r.alloc _,?_,?_,h0.below.alloc h0.below.size _⟩
  ·have e:(ints 26 fun c=>if c<0 then ((Vg.num (s.data.toList.getD c 0):Nat):Int) else 0)=ints 26 fun _=>0:=ints_ext fun c _=>by rw[if_neg (by omega)]
   rw[e]
   exact h0.o.alloc _
  ·have:=World.iter_heap ((w.alloc (.cells (ints 26 fun _=>0) 27)).alloc (.cells (ints 26 fun _=>0) 27)) s 0
   simp only[World.size_alloc] at this
   exact this
 case round =>
  clear h0
  obtain ⟨pos,hps,hg⟩:=hrel
  have hk:=hg.it
  have hmu:Hid (wr.iterPos (w.heap.size+1+1)=pos):=iterPos_of hk
  by_cases hp:pos<s.size
  ·have hnext0:∀ty,(Instr.next (.pointer (some ⟨w.heap.size+1+1,0,none⟩)) true ty).run Tryz.prog wr=_:=fun ty=>Lib.run_next_any_at wr (w.heap.size+1+1) s pos ty hk hp
   rw[o_decode s pos hp HL.out] at hnext0
   have hxl:=HL.out.at (getD_size hp)
   have hnum:=num_lt hxl
   have hbi:Below w.heap.size w (wr.iterAt (w.heap.size+1+1) s (pos+1)):=Lib.below_iterAt hg.below (by omega) s _
   have hk1:=Lib.iterAt_heap wr (w.heap.size+1+1) s pos (pos+1) hk
   have hr1:RowAt (wr.iterAt (w.heap.size+1+1) s (pos+1)) w.heap.size 27 (ints 26 fun _=>0):=(Lib.iterAt_other wr (w.heap.size+1+1) w.heap.size s (pos+1) (by omega)).trans hg.r
   have ho1:RowAt (wr.iterAt (w.heap.size+1+1) s (pos+1)) (w.heap.size+1) 27 (ints 26 fun c=>if c<pos then ((Vg.num (s.data.toList.getD c 0):Nat):Int) else 0):=(Lib.iterAt_other wr (w.heap.size+1+1) (w.heap.size+1) s (pos+1) (by omega)).trans hg.o
   have HNX:Hid (∀i,i<26→upd (fun c=>if c<pos then ((Vg.num (s.data.toList.getD c 0):Nat):Int) else 0) pos ((Vg.num (s.data.toList.getD pos 0):Nat):Int) i=if i<pos+1 then ((Vg.num (s.data.toList.getD i 0):Nat):Int) else 0):=fun i _=>by
    unfold upd
    by_cases e:i=pos
    ·rw[if_pos e,if_pos (by omega),e]
    ·rw[if_neg e]
     show (if i<pos then ((Vg.num (s.data.toList.getD i 0):Nat):Int) else 0)=_
     by_cases e2:i<pos
     ·rw[if_pos e2,if_pos (by omega)]
     ·rw[if_neg e2,if_neg (by omega)]
   have hp26:pos<26:=by omega
   have hck:=ho1.cell (ints_get (fun c=>if c<pos then ((Vg.num (s.data.toList.getD c 0):Nat):Int) else 0) hp26)
   have hfk:=ho1.frozen pos
   generalize wr.iterAt (w.heap.size+1+1) s (pos+1)=Y at *
   clear hg hk
   have hx3:(((s.data.toList.getD pos 0).toNat:Nat):Int)-65=((Vg.num (s.data.toList.getD pos 0):Nat):Int):=by unfold Vg.num;omega
   have HX3:=(show Hid _ from hx3)
   have hx1:(65:Int)≤((s.data.toList.getD pos 0).toNat:Int):=by omega
   have hx2:((s.data.toList.getD pos 0).toNat:Int)≤90:=by omega
   have hs2:=ho1.set pos (.int .i64 ((Vg.num (s.data.toList.getD pos 0):Nat):Int))
   rw[ints_set,ints_ext HNX.out] at hs2
   have HG:Hid (SpAt w (Y.setCell ⟨w.heap.size+1,pos,none⟩ (.int .i64 ((Vg.num (s.data.toList.getD pos 0):Nat):Int))) s (pos+1) fun c=>if c<pos+1 then ((Vg.num (s.data.toList.getD c 0):Nat):Int) else 0):=⟨hr1.setOther _ _ (by simp),hs2,(heap_setCell_other Y ⟨w.heap.size+1,pos,none⟩ (w.heap.size+1+1) _ (by simp)).trans hk1,hbi.setCell (p:=⟨w.heap.size+1,pos,none⟩) (by simp) _⟩
   clear hs2 hr1 ho1 hbi hk1
   generalize (s.data.toList.getD pos 0).toNat=x at *
   generalize Vg.num (s.data.toList.getD pos 0)=nx at *
   have hnext:=hnext0
   clear hnext0
   go_wp2
   go_roundw
   case rel=>exact ⟨pos+1,by omega,HG.out⟩
   case measure=>rw[hmu.out,iterPos_of HG.out.it];omega
  ·have hnext:∀ty,(Instr.next (.pointer (some ⟨w.heap.size+1+1,0,none⟩)) true ty).run Tryz.prog wr=_:=fun ty=>Lib.run_next_end_at wr (w.heap.size+1+1) s pos ty hk hp
   obtain rfl:pos=s.size:=by omega
   have hr:=hg.r
   have ho:RowAt wr (w.heap.size+1) 27 (ints 26 (spl s.data.toList)):=by
    have:=hg.o
    rw[hslen] at this
    exact this
   have hbe:=hg.below
   clear hg hk
   go_wp2_with (first | refine wpList_load_row rfl 27 _ rfl (w.heap.size+1) rfl 27 (ints 26 (spl s.data.toList)) (0,0) _ ho Tryz.underlying27 rfl (by rw[ints_size];exact info_perm) ?_ | refine wpList_store_row rfl 27 _ _ rfl w.heap.size (ints 26 (spl s.data.toList)) rfl rfl 27 _ hr (by rw[ints_size];exact info_perm) (by simp only[ints_size]) (ints_one _ _) ?_)
   exact bodyPost_ret (v:=.agg (ints 26 (spl s.data.toList))) (o_results1 Tryz.results158 _ _ _ _ _ _ _ rfl (hr.row _) Tryz.underlying27 rfl (by rw[ints_size];exact info_perm)) rfl ⟨rfl,Below.setRow hbe _ (Nat.le_refl _) _⟩
def miB:List UInt8:=[89,82,85,72,81,83,76,68,80,88,78,71,79,75,77,73,69,66,70,90,67,87,86,74,65,84]
def miC:List UInt8:=[70,86,80,74,73,65,79,89,69,68,82,90,88,87,71,67,84,75,85,81,83,66,78,77,72,76]
def miP (name:List UInt8):Nat→Int:=if name=[66] then spl miB else if name=[67] then spl miC else fun _=>0
def miE (name:List UInt8):Int:=if name=[66]∨name=[67] then 0 else 7
theorem ls_dec {l:List UInt8} (h:(l.all fun c=>decide (65≤c.toNat∧c.toNat≤90))=true):Ls l:=fun c hc=>by
 have:=List.all_eq_true.1 h c hc
 simpa using this
theorem name_eq (A:List UInt8) (t:ByteArray):(t.toList==A)=decide (t.data.toList=A):=by
 rw[ba_toList]
 by_cases h:t.data.toList=A
 ·rw[decide_eq_true h,h];simp
 ·rw[decide_eq_false h];exact beq_false_of_ne h
set_option maxRecDepth 100000 in
set_option maxHeartbeats 1000000 in
theorem rmirror_any (name:ByteArray) (w:World):Calls Tryz.prog 103 #[.string name] w fun e w'=>e=.returned (.tuple #[.agg (ints 26 (miP name.data.toList)),.int .i64 (miE name.data.toList)])∧Below w.heap.size w w':=by
 have hz26:=o_zero v_zero_perm
 have hr0:=RowAt.new w 27 (ints 26 fun _=>0)
 have hb0:Below w.heap.size w (w.alloc (.cells (ints 26 fun _=>0) 27)):=(Below.refl _ w).alloc (Nat.le_refl _) _
 have hB:=(show Hid (∀W,Calls Tryz.prog 158 #[.string ⟨#[89,82,85,72,81,83,76,68,80,88,78,71,79,75,77,73,69,66,70,90,67,87,86,74,65,84]⟩] W fun e w'=>e=.returned (.agg (ints 26 (spl miB)))∧Below W.heap.size W w') from fun W=>rspelt_any ⟨miB.toArray⟩ (ls_dec (by decide)) (by decide) W)
 have hC:=(show Hid (∀W,Calls Tryz.prog 158 #[.string ⟨#[70,86,80,74,73,65,79,89,69,68,82,90,88,87,71,67,84,75,85,81,83,66,78,77,72,76]⟩] W fun e w'=>e=.returned (.agg (ints 26 (spl miC)))∧Below W.heap.size W w') from fun W=>rspelt_any ⟨miC.toArray⟩ (ls_dec (by decide)) (by decide) W)
 have q1:=name_eq [66] name
 have q2:=name_eq [67] name
 by_cases h1:name.data.toList=[66]
 ·have HP:Hid (miP name.data.toList=spl miB):=by unfold miP;rw[Hid,if_pos h1]
  have HE:Hid (miE name.data.toList=0):=by unfold miE;rw[Hid,if_pos (.inl h1)]
  rw[decide_eq_true h1] at q1
  clear h1 q2 hC
  go_enter Tryz.func103,Tryz.ntmps103
  go_wp2_with fail
  refine (hB.out _).mono ?_
  rintro e W1 ⟨rfl,hb⟩
  have hr1:=hr0.below hb hr0.lt
  have hb1:=hb0.trans (hb.mono hb0.size)
  clear hb hB hr0 hb0
  go_wp2_with (first | refine wpList_store_row rfl 27 _ _ rfl w.heap.size (ints 26 (spl miB)) rfl rfl 27 _ hr1 (by rw[ints_size];exact info_perm) (by simp only[ints_size]) (ints_one _ _) ?_)
  exact bodyPost_ret (v:=.tuple #[.agg (ints 26 (spl miB)),.int .i64 0]) (results_cell_tmp2 rfl _ _ w.heap.size 27 _ (0,0) _ _ rfl rfl (hr1.row _) Tryz.underlying27 rfl (by rw[ints_size];exact info_perm)) rfl ⟨by rw[HP.out,HE.out],Below.setRow hb1 _ (Nat.le_refl _) _⟩
 ·rw[decide_eq_false h1] at q1
  by_cases h2:name.data.toList=[67]
  ·have HP:Hid (miP name.data.toList=spl miC):=by unfold miP;rw[Hid,if_neg h1,if_pos h2]
   have HE:Hid (miE name.data.toList=0):=by unfold miE;rw[Hid,if_pos (.inr h2)]
   rw[decide_eq_true h2] at q2
   clear h1 h2 hB
   go_enter Tryz.func103,Tryz.ntmps103
   go_wp2_with fail
   refine (hC.out _).mono ?_
   rintro e W1 ⟨rfl,hb⟩
   have hr1:=hr0.below hb hr0.lt
   have hb1:=hb0.trans (hb.mono hb0.size)
   clear hb hC hr0 hb0
   go_wp2_with (first | refine wpList_store_row rfl 27 _ _ rfl w.heap.size (ints 26 (spl miC)) rfl rfl 27 _ hr1 (by rw[ints_size];exact info_perm) (by simp only[ints_size]) (ints_one _ _) ?_)
   exact bodyPost_ret (v:=.tuple #[.agg (ints 26 (spl miC)),.int .i64 0]) (results_cell_tmp2 rfl _ _ w.heap.size 27 _ (0,0) _ _ rfl rfl (hr1.row _) Tryz.underlying27 rfl (by rw[ints_size];exact info_perm)) rfl ⟨by rw[HP.out,HE.out],Below.setRow hb1 _ (Nat.le_refl _) _⟩
  ·have HP:Hid (miP name.data.toList=fun _=>0):=by unfold miP;rw[Hid,if_neg h1,if_neg h2]
   have HE:Hid (miE name.data.toList=7):=by unfold miE;rw[Hid,if_neg (fun h=>h.elim h1 h2)]
   rw[decide_eq_false h2] at q2
   clear h1 h2 hB hC
   have hr1:=hr0
   go_enter Tryz.func103,Tryz.ntmps103
   go_wp2_with (first | refine wpList_build0 rfl 27 rfl _ built_perm ?_ | refine wpList_store_row rfl 27 _ _ rfl w.heap.size (ints 26 fun _=>0) rfl rfl 27 _ hr1 (by rw[ints_size];exact info_perm) (by simp only[ints_size]) (ints_one _ _) ?_)
   exact bodyPost_ret (v:=.tuple #[.agg (ints 26 fun _=>0),.int .i64 7]) (results_cell_tmp2 rfl _ _ w.heap.size 27 _ (0,0) _ _ rfl rfl (hr1.row _) Tryz.underlying27 rfl (by rw[ints_size];exact info_perm)) rfl ⟨by rw[HP.out,HE.out],Below.setRow hb0 _ (Nat.le_refl _) _⟩
end Go.Proofs.YtkohhdkkbaifoaaGreatDoor

/-
  The machine that alive asks: I, II, III, mirror B.
-/
namespace Go.Proofs.YtkohhdkkbaifoaaGreatDoor
open Go.RowKit PK Vg

def kw1:List UInt8:=[69,75,77,70,76,71,68,81,86,90,78,84,79,87,89,72,88,85,83,80,65,73,66,82,67,74]
def kw2:List UInt8:=[65,74,68,75,83,73,82,85,88,66,76,72,87,84,77,67,81,71,90,78,80,89,70,86,79,69]
def kw3:List UInt8:=[66,68,70,72,74,76,67,80,82,84,88,86,90,78,89,69,73,87,71,65,75,77,85,83,81,79]
def kw4:List UInt8:=[69,83,79,86,80,90,74,65,89,81,85,73,82,72,88,76,78,70,84,71,75,68,67,77,87,66]
def kw5:List UInt8:=[86,90,66,82,71,73,84,89,85,80,83,68,78,72,76,88,65,87,77,74,81,79,70,69,67,75]
def knT:List (List UInt8 × List UInt8 × Nat):=[([73],kw1,16),([73,73],kw2,4),([73,73,73],kw3,21),([73,86],kw4,9),([86],kw5,25)]
def knI (name:List UInt8):Option (List UInt8 × List UInt8 × Nat):=knT.find? fun x=>x.1==name
def knW (name:List UInt8):Nat→Int:=match knI name with
 | some x=>spl x.2.1
 | none=>fun _=>0
def knN (name:List UInt8):List Nat:=match knI name with
 | some x=>[x.2.2]
 | none=>[]
def knE (name:List UInt8):Int:=match knI name with
 | some _=>0
 | none=>7
end Go.Proofs.YtkohhdkkbaifoaaGreatDoor
