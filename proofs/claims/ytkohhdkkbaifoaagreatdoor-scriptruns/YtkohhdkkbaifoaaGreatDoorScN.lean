/-
  Undo: from the last step to the first one (S2).
-/
import Derived.Test.YtkohhdkkbaifoaaGreatDoorPz
import Derived.Test.YtkohhdkkbaifoaaGreatDoorJn20
namespace Go.Proofs.YtkohhdkkbaifoaaGreatDoor
open Go.RowKit PK Vg Sm
attribute [local go_sem] Oper.semAt_some

set_option maxRecDepth 100000 in
theorem fte_call (a:Option Addr) (n cap:Nat) (w:World):Calls Tryz.prog 45 #[.slice a n cap] w fun e w'=>e=.returned (.func (.func 90) #[] #[.pointer (some ⟨w.heap.size,0,none⟩)])∧w'=w.alloc (.cells #[.slice a n cap] 22):=by
 have hmf:=mkf
 go_enter Tryz.func45,Tryz.ntmps45
 go_wp2
 go_ret
 exact ⟨rfl,rfl⟩
theorem ent_fte (args:Array Value) (W:World):(callFunc 90 args).run Tryz.prog W=.ok (.enter 90 args) W:=by kernel_rfl
structure UdI (w0 w:World) (ys bl bt:Nat) (v:Value) (l:Nat→Sp) (n:Nat) (t:List UInt8) (k:Nat) (W:World):Prop where
 err:∀j,j<k→undE (l (n-1-j)) t.length=0
 box:BxAt W bl bt v ⟨(undT l n t k).toArray⟩
 lv:Lv w0 w bt W
 low:ys≤W.heap.size
theorem UdI.grown {w0 w:World} {ys bl bt:Nat} {v:Value} {l:Nat→Sp} {n:Nat} {t:List UInt8} {k:Nat} {W W':World} {row:Option Nat} (h:UdI w0 w ys bl bt v l n t k W) (hg:W.grownBy W' row) (hw:w0.heap.size≤w.heap.size) (hbl:bl<w.heap.size) (hbt:bt<w.heap.size) (hr:∀r,row=some r→w.heap.size≤r):UdI w0 w ys bl bt v l n t k W':=by
 have hsz:=h.lv.size
 have hkeep:∀b,b<w.heap.size→W'.heap[b]? = W.heap[b]?:=fun b hb=>hg.block b (by omega) (fun e=>by have:=hr b e.symm;omega)
 refine ⟨h.err,⟨(hkeep bl hbl).trans h.box.row,(hkeep bt hbt).trans h.box.txt,h.box.ne⟩,⟨?_,fun b h1 h2=>(hkeep b h2).trans (h.lv.rest b h1 h2),?_⟩,by have:=hg.size;have:=h.low;omega⟩
 ·exact h.lv.old.grown hg (by have:=h.lv.old.size;omega) (fun r e=>by have:=hr r e;omega)
 ·have:=hg.size;omega
theorem UdI.below {w0 w:World} {ys bl bt:Nat} {v:Value} {l:Nat→Sp} {n:Nat} {t:List UInt8} {k:Nat} {W W':World} (h:UdI w0 w ys bl bt v l n t k W) (hb:Below W.heap.size W W'):UdI w0 w ys bl bt v l n t k W':=⟨h.err,h.box.below hb,h.lv.step hb,by have:=hb.size;have:=h.low;omega⟩
theorem keeps_below {W W':World} (h:Below W.heap.size W W'):KeepsOthers W W':=⟨h.size,fun k _ hk _=>(h.block k (Array.getElem?_eq_some_iff.1 hk).1).trans hk⟩
theorem Lv.put {w0 w W:World} {bt D:Nat} (h:Lv w0 w bt W) (hw:w0.heap.size≤w.heap.size) (hD:w.heap.size≤D) (o:Obj):Lv w0 w bt (W.putObj D o) :=
 ⟨⟨h.old.os,h.old.tape,h.old.output,by rw[World.putObj_size];exact h.old.size,fun k hk=>(World.putObj_heap_other (by omega)).trans (h.old.block k hk)⟩,fun b h1 h2=>(World.putObj_heap_other (by omega)).trans (h.rest b h1 h2),by rw[World.putObj_size];exact h.size⟩
def PanicTo (R:Ending→World→Prop) (Q:Exit→Act→World→Prop):Exit→Act→World→Prop
 | .panic ch,a,w=>a.defers=[]∧R (.panicked ch) w
 | e,a,w=>Q e a w
theorem wp_panicTo {P:Program} {c:Code} {Q:Exit→Act→World→Prop} {a:Act} {w:World} (R:Ending→World→Prop) (hq:∀(a:Act) (w:World) (ch:List PanicEntry),a.defers=[]→R (.panicked ch) w→Q (.panic ch) a w) (h:c.wp P (PanicTo R Q) a w):c.wp P Q a w :=
 Code.wp_mono (fun e a w h=>by
  cases e with
  | panic ch=>exact hq a w ch h.1 h.2
  | normal=>exact h
  | ret=>exact h
  | exit id=>exact h
  | goto l=>exact h
  | outgrown=>exact h) h
theorem leaves_mark {P:Program} {fn:Func} {tmps:Array Value} {R:Ending→World→Prop} {D:Nat} {u:FrameMode} {W:World} (hu:u≠.run) (hD:W.heap[D]? = some (.deferred (some [])))
  (h:LeavesInM Fence.wide 9 P fn tmps R [] u (W.putObj D (.deferred none))):LeavesInM Fence.wide 9 P fn tmps R [{ target:=.collected D,args:=#[] }] u W :=
 ⟨hu,.inl ⟨D,_,rfl,run_takeDeferred hD,h⟩⟩
set_option maxRecDepth 100000 in
set_option maxHeartbeats 4000000 in
theorem und1_any (bl bt:Nat) (a:Option Addr) (n cap:Nat) (l:Nat→Sp) (t:ByteArray) (w0 w:World) (hv:ChAt w0 (.slice a n cap) n l) (h0:Below w0.heap.size w0 w) (hbt:w0.heap.size≤bt) (hx:BxAt w bl bt (.slice a n cap) t) :
  Calls Tryz.prog 44 #[.pointer (some ⟨bl,0,none⟩),.pointer (some ⟨bt,0,none⟩)] w fun e w'=>(uE n l t.data.toList=0→e=.returned (.string ⟨(uS n l t.data.toList).toArray⟩))∧(uE n l t.data.toList≠0→e=.panicked [flt (uE n l t.data.toList) (uA n l t.data.toList)])∧Lv w0 w bt w':=by
 have hlen:=tl_size t
 have cl:=hx.cl
 refine calls_of_wpF Tryz.func44 rfl ?_
 simp only[Tryz.ntmps44,List.size_toArray,List.length_cons,List.length_nil,Nat.reduceAdd,Nat.reduceSub,Array.replicate_succ,Array.replicate_zero,List.push_toArray,List.append_toArray,List.nil_append,List.cons_append]
 by_cases hce:chE n l=0
 ·obtain ⟨hn64,hall⟩:=chE_zero hce
  have HALL:Hid (∀i,i<n→stE (l i)=0):=hall
  have HC:Hid _:=cc_ok _ n l w (hv.below h0) hce
  have HRE:Hid (uE n l t.data.toList=if ckE t.data.toList≠0 then ckE t.data.toList else firV (fun i=>undE (l (n-1-i)) t.data.toList.length) n):=by rw[Hid];unfold uE;rw[if_neg (fun h=>h hce)]
  have HRA:Hid (uA n l t.data.toList=if ckE t.data.toList≠0 then n else if uE n l t.data.toList=0 then 0 else n-1-firA (fun i=>undE (l (n-1-i)) t.data.toList.length) n):=by rw[Hid];unfold uA;rw[if_neg (fun h=>h hce)]
  have HRS:Hid (uS n l t.data.toList=if uE n l t.data.toList=0 then undT l n t.data.toList n else []):=rfl
  generalize uS n l t.data.toList=RS at *
  generalize uE n l t.data.toList=RE at *
  generalize uA n l t.data.toList=RA at *
  have HV0:Hid (ChAt w0 (.slice a n cap) n l):=hv
  have HBT:Hid (w0.heap.size≤bt):=hbt
  have HBL:Hid (bl<w.heap.size∧bt<w.heap.size):=⟨hx.row.lt,hx.txt.lt⟩
  have HW0:Hid (w0.heap.size≤w.heap.size):=h0.size
  clear hce hall hv hbt
  refine wpF_seq (wpF_of_wp ?_)
  go_wp2
  refine wpF_seq (wpF_of_wp ?_)
  go_wp2_with fail
  refine Calls.mono HC.out ?_
  rintro e V ⟨rfl,hb⟩
  have hxv:=hx.below hb
  have HLV:Hid (Lv w0 w bt V):=(Lv.refl h0).step hb
  have cl1:=hxv.cl
  have ct1:=hxv.ct
  have HXV:Hid _:=hxv
  have HK:Hid (∀X,Below V.heap.size V X→Calls Tryz.prog 38 #[.string t] X fun e w'=>e=.returned (.agg #[.int .i64 (ckE t.data.toList),.int .i64 (ckAt t.data.toList)])∧Below X.heap.size X w'):=fun X _=>check_all t X
  clear hx cl hb hxv HC
  generalize hce:ckE t.data.toList=CE at *
  generalize ckAt t.data.toList=CA at *
  go_wp2
  refine wpF_seq (wpF_of_wp ?_)
  by_cases hce0:CE=0
  ·subst hce0
   have HCT:Hid (ckE t.data.toList=0):=hce
   have HP:Hid (∀X,Calls Tryz.prog 37 #[.int .i64 0,.int .i64 (n:Int)] X fun e w'=>e=.returned (.tuple #[])∧w'=X):=fun X=>pass_ok _ X
   clear hce
   have hfd:=f_field
   refine wp_region_noPanic ?_
   refine wp_region_held_drew (S:=fun W=>BxAt W bl bt (.slice a n cap) t∧Below V.heap.size V W) (by kernel_rfl) ⟨⟨HXV.out.row,HXV.out.txt,HXV.out.ne⟩,(Below.refl _ _).drew⟩ (fun hS=>?_)
   refine vtk 0 7 (.string t) rfl (fun W hW=>by have u:=hW.1.ct;clear hS hW;go_simp) hS ?_
   simp only[zsA,zsB,zsC]
   refine vtk 3 10 (.slice a n cap) rfl (fun W hW=>by have u:=hW.1.cl;clear hS hW;go_simp) hS ?_
   simp only[zsA,zsB,zsC]
   refine vtk 4 11 (.int .i64 (n:Nat)) rfl (fun W hW=>by clear hS hW;go_simp) hS ?_
   simp only[zsA,zsB,zsC]
   refine rd1 1 rfl (fun K hK=>?_)
   go_simp
   refine Calls.mono (HK.out _ hS.2) ?_
   rintro e Y ⟨rfl,hbx⟩
   refine hK.out _ _ (⟨hS.1.below hbx,hS.2.trans (hbx.mono hS.2.size)⟩) (fun hS1=>?_)
   clear hK hS K
   have hS:=hS1
   clear hS1
   refine vtk 2 9 (.int .i64 0) rfl (fun W hW=>by have u:=hfd;clear hS hW;go_simp) hS ?_
   simp only[zsA,zsB,zsC]
   refine rd1 5 rfl (fun K hK=>?_)
   go_simp
   refine Calls.mono (HP.out _) ?_
   rintro e Y ⟨rfl,rfl⟩
   refine hK.out _ _ (hS) (fun hS1=>?_)
   clear hK hS K
   have hS:=hS1
   clear hS1
   refine wpAnyH_done (by kernel_rfl) ?_ _
   refine NoPanic.normal ?_
   have HLY:Hid (Lv w0 w bt Y):=HLV.out.step hS.2
   obtain ⟨hxY,_⟩:=hS
   have clY:=hxY.cl
   have HXY:Hid _:=hxY
   have HRE2:Hid (RE=firV (fun i=>undE (l (n-1-i)) t.data.toList.length) n):=by rw[Hid,HRE.out,if_neg (fun h=>h rfl)]
   have HRA2:Hid (RE≠0→RA=n-1-firA (fun i=>undE (l (n-1-i)) t.data.toList.length) n):=fun h=>by rw[HRA.out,if_neg (fun h=>h rfl),if_neg h]
   have HFC:Hid _:=fte_call a n cap Y
   clear HRE HRA HK HP HLV cl1 ct1 HXV hfd hlen hxY
   refine wpF_seq (wpF_seq (wpF_of_wp ?_))
   go_wp2_with fail
   refine Calls.mono HFC.out ?_
   rintro e Y2 ⟨rfl,hY2⟩
   have hb2:Below Y.heap.size Y Y2:=by rw[hY2];exact (Below.refl _ Y).alloc (Nat.le_refl _) _
   have hrow2:RowAt Y2 Y.heap.size 22 #[.slice a n cap]:=by rw[hY2];exact RowAt.new Y _ _
   have hsz2:Y2.heap.size=Y.heap.size+1:=by rw[hY2];simp
   have HL2:Hid (Lv w0 w bt Y2):=HLY.out.step hb2
   have HX2:Hid (BxAt Y2 bl bt (.slice a n cap) t):=HXY.out.below hb2
   have HYS:Hid (w.heap.size≤Y.heap.size):=HLY.out.size
   clear hY2 clY HFC
   obtain ⟨aa,cc,R,ev,hmx,hrr,hss⟩:=HV0.out
   cases ev
   have HRR:Hid (∀i,i<n→∃b o,a=some ⟨b,o,none⟩∧w0.rangeAt b (o+i*59) (R i).toList):=hrr
   have HSS:Hid (∀i,i<n→SqAt w0 (.agg (R i)) (l i)):=hss
   clear hrr hss hmx
   have hSEQ:=fte_all bt Y2.heap.size Y.heap.size a n cap R Y2 (9-1) hn64 (fun i hi=>(HSS.out i hi).cells.1) (Nat.le_refl _) (fun i hi=>by
    obtain ⟨b,o,e,hr⟩:=HRR.out i hi
    have hr0:w0.cell? ⟨b,o+i*59,none⟩=some ((R i)[0]'(by rw[(HSS.out i hi).cells.1];omega)):=by
     have:=hr 0 ((R i)[0]'(by rw[(HSS.out i hi).cells.1];omega)) (by simp)
     simpa using this
    have hlt:=cell_block hr0
    have h1:=HBT.out
    have h2:=HW0.out
    have h3:=HYS.out
    have hlt':b<w0.heap.size:=hlt
    exact ⟨b,o,e,⟨by omega,by omega⟩,rangeAt_below hr HL2.out.old⟩) ⟨by have:=HBL.out.2;have:=HYS.out;omega,by omega⟩ (hrow2.cell rfl)
   go_wp2
   refine wpF_block (wpF_rangeFunc (n:=9) (rangeFunc_all 44 trivial ⟨_,Tryz.func44⟩ (by omega) (gf:=90) (lb:=#[.pointer (some ⟨Y.heap.size,0,none⟩)]) rfl trivial ent_fte hSEQ (fun r h=>h.elim) (fun h k=>h.trans k) (fun W x o o' hx _ _ _ b h1 h2=>World.putObj_heap_other (by omega)) (Below.refl _ _) (fun _=>rfl)
    (fun k W=>UdI w0 w Y2.heap.size bl bt (.slice a n cap) l n t.data.toList k W)
    (fun ch W=>RE≠0∧ch=[flt RE RA]∧Lv w0 w bt W)
    (fun s W W' row hs hg hr=>hs.grown hg HW0.out HBL.out.1 HBL.out.2 (fun r e=>by have h1:=((hr r e).resolve_right (fun h=>h)).1;have:=HYS.out;omega))
    ⟨fun j hj=>by omega,HX2.out,HL2.out,Nat.le_refl _⟩
    (fun k a' W=>∃q,a'={ tmps:=#[.pointer (some ⟨bl,0,none⟩),.pointer (some ⟨bt,0,none⟩),.string ⟨#[]⟩,.int .i64 ((n-1-k:Nat):Int),.pointer (some ⟨q,0,none⟩),.slice a n cap,.tuple #[],.string t,.agg #[.int .i64 0,.int .i64 CA],.int .i64 0,.slice a n cap,.int .i64 (n:Int),.tuple #[],.slice a n cap,.func (.func 90) #[] #[.pointer (some ⟨Y.heap.size,0,none⟩)],.int .i64 ((n-1-k:Nat):Int),.agg (R (n-1-k)),undef,undef,undef,undef,undef,undef],defers:=[] }∧RowAt W q 31 (R (n-1-k)))
    ?hAx ?hassign ?hbody ?hdone ?hpan))
   case hAx =>
    rintro k a' s W W' row ⟨q,rfl,hq⟩ hg hr
    refine ⟨q,rfl,(hg.block q hq.lt (fun e=>?_)).trans hq⟩
    obtain ⟨_,o,ho,hc⟩:=(hr q e.symm).resolve_right (fun h=>h)
    rw[show W.heap[q]? = some _ from hq] at ho
    cases ho
    cases hc
   case hassign =>
    intro l' k W K hI hk hK
    have hsk:=HSS.out (n-1-k) (by omega)
    have HSZ:Hid ((R (n-1-k)).size=59):=hsk.cells.1
    have HONE:Hid ((R (n-1-k)).all (·.oneCell')=true):=hsk.cells.2
    have hz59:=o_zero s_zero
    have HK:Hid _:=hK
    have HI:Hid _:=hI
    generalize hR:R (n-1-k)=CS at *
    clear hK hI hsk hR
    simp only[Array.zip,List.zipWith_toArray,List.zipWith_cons_cons,List.zipWith_nil_right,List.foldl_toArray,List.foldl_cons,List.foldl_nil,zsA,zsB,zsC]
    gi_wp2_with (refine wpListIn_store_row rfl 31 _ _ rfl W.heap.size CS rfl rfl 31 _ (RowAt.new W _ _) (by rw[HSZ.out];exact s_info) (by rw[HSZ.out,spA_size]) HONE.out ?_)
    have hb4:Below W.heap.size W ((W.alloc (.cells (spA 0 0 ⟨#[]⟩ (.slice none 0 0) (.slice none 0 0) (.slice none 0 0) (.slice none 0 0) (fun _=>0) (fun _=>0)) 31)).setRow W.heap.size CS):=PK.Below.setRow ((Below.refl _ W).alloc (Nat.le_refl _) _) W.heap.size (Nat.le_refl _) _
    have hsz4:Y2.heap.size≤W.heap.size:=HI.out.low
    exact HK.out _ _ (keeps_below hb4) (Sme.of (hb4.mono hsz4)) (HI.out.below hb4) ⟨_,rfl,(RowAt.new W 31 (spA 0 0 ⟨#[]⟩ (.slice none 0 0) (.slice none 0 0) (.slice none 0 0) (.slice none 0 0) (fun _=>0) (fun _=>0))).row CS⟩
   case hbody =>
    rintro l' k a' W hI ⟨q,rfl,hq⟩ hk
    obtain ⟨j,hj⟩:∃j,j=n-1-k:=⟨_,rfl⟩
    have hjn:j<n:=by omega
    rw[←hj] at hq ⊢
    have hsk:=HSS.out j hjn
    have HSZ:Hid ((R j).size=59):=hsk.cells.1
    have hrq:=hq.range
    obtain ⟨hcT,hlT⟩:=undT_right w0 HALL.out HCT.out k (by omega)
    obtain ⟨T,hT⟩:∃T:ByteArray,T=⟨(undT l n t.data.toList k).toArray⟩:=⟨_,rfl⟩
    have HTL:Hid (T.data.toList=undT l n t.data.toList k):=by rw[Hid,hT]
    have HTS:Hid (T.size=t.data.toList.length):=by rw[Hid,←tl_size,HTL.out,hlT]
    have HTC:Hid (ckE T.data.toList=0):=by rw[Hid,HTL.out];exact hcT
    have hbx:=hI.box
    rw[←hT] at hbx
    have ct:=hbx.ct
    have HBX:Hid _:=hbx
    have HI:Hid _:=hI
    have HLW:Hid (Y2.heap.size≤W.heap.size):=hI.low
    have HD:=undone_any (.agg (R j)) (l j) (j:Int) T W (hsk.below hI.lv.old) (HALL.out j hjn) HTC.out
    have HEQ:undE (l j) T.size=undE (l (n-1-k)) t.data.toList.length:=by rw[HTS.out,hj]
    have HNX:Hid (undT l n t.data.toList (k+1)=und (l j) T.data.toList):=by rw[Hid,HTL.out,hj];rfl
    have HKN:Hid (k<n):=hk
    by_cases hoe:undE (l j) T.size=0
    ·have HER:Hid (∀i,i<k+1→undE (l (n-1-i)) t.data.toList.length=0):=fun i hi=>by
      by_cases e:i=k
      ·rw[e,←HEQ];exact hoe
      ·exact HI.out.err i (by omega)
     have HD2:Hid (Calls Tryz.prog 46 #[.agg (R j),.int .i64 (j:Int),.string T] W fun e w'=>e=.returned (.string ⟨(und (l j) T.data.toList).toArray⟩)∧Below W.heap.size W w'):=Calls.mono HD (fun e w' h=>⟨h.1 hoe,h.2.2⟩)
     generalize und (l j) T.data.toList=OT at *
     generalize R j=CS at *
     clear HD HEQ hoe hq hsk hcT hlT hT hbx hI hj hk
     gi_wp2_with (first | refine wpListIn_load_arr rfl 31 _ rfl q 0 rfl CS _ hrq Tryz.underlying31 rfl (by rw[HSZ.out];exact s_info) ?_)
     refine ⟨trivial,?_⟩
     refine (CallsIn.inRound l' (callsIn_wide.2 HD2.out)).mono ?_
     rintro e V5 ⟨rfl,hb5⟩
     have hx5:=HBX.out.below hb5
     have ct5:=hx5.ct
     have ft5:=hx5.ft
     have HU:Hid (UdI w0 w Y2.heap.size bl bt (.slice a n cap) l n t.data.toList (k+1) (V5.setCell ⟨bt,0,none⟩ (.string ⟨OT.toArray⟩))):=by
      refine ⟨HER.out,?_,(HI.out.lv.step hb5).set HBT.out _,?_⟩
      ·rw[HNX.out]
       exact hx5.set _
      ·have:=HLW.out
       have:=hb5.size
       rw[World.size_setCell]
       omega
     have HKO:Hid (KeepsOthers W (V5.setCell ⟨bt,0,none⟩ (.string ⟨OT.toArray⟩))):=(keeps_below hb5).trans (KeepsOthers.setCell _ _ _)
     have HSM:Hid (Sme bt Y2.heap.size W (V5.setCell ⟨bt,0,none⟩ (.string ⟨OT.toArray⟩))):=(Sme.of (hb5.mono HLW.out)).trans (fun b h1 _=>heap_setCell_other V5 ⟨bt,0,none⟩ b _ h1)
     clear hb5 hx5 ct HD2
     gi_wp2
     exact ⟨HKO.out,HSM.out,HU.out⟩
    ·have HD2:Hid (Calls Tryz.prog 46 #[.agg (R j),.int .i64 (j:Int),.string T] W fun e w'=>e=.panicked [flt (undE (l j) T.size) (j:Int)]∧Below W.heap.size W w'):=Calls.mono HD (fun e w' h=>⟨h.2.1 hoe,h.2.2⟩)
     have hfi:=firV_of (f:=fun i=>undE (l (n-1-i)) t.data.toList.length) HKN.out HI.out.err (by show undE (l (n-1-k)) _≠0;rw[←HEQ];exact hoe)
     have HR1:Hid (RE=undE (l j) T.size):=by rw[Hid,HRE2.out,hfi.1,HEQ]
     have HNE:Hid (RE≠0):=by rw[Hid,HR1.out];exact hoe
     have HR2:Hid (RA=j):=by rw[Hid,HRA2.out HNE.out,hfi.2,hj]
     generalize undE (l j) T.size=OE at *
     generalize R j=CS at *
     clear HD HEQ hoe hq hsk hcT hlT hT hbx hI hj hk hfi
     gi_wp2_with (first | refine wpListIn_load_arr rfl 31 _ rfl q 0 rfl CS _ hrq Tryz.underlying31 rfl (by rw[HSZ.out];exact s_info) ?_)
     refine ⟨trivial,?_⟩
     refine (CallsIn.inRound l' (callsIn_wide.2 HD2.out)).mono ?_
     rintro e V5 ⟨rfl,hb5⟩
     exact ⟨rfl,keeps_below hb5,HNE.out,by rw[HR1.out,HR2.out],HI.out.lv.step hb5⟩
   case hdone =>
    intro D W hD hI hdf
    have hbx:=hI.box
    have HE0:Hid (RE=0):=by rw[Hid,HRE2.out];exact firV_all hI.err
    have HS0:Hid (RS=undT l n t.data.toList n):=by rw[Hid,HRS.out,if_pos HE0.out]
    obtain ⟨hcT,hlT⟩:=undT_right w0 HALL.out HCT.out n (Nat.le_refl _)
    obtain ⟨T,hT⟩:∃T:ByteArray,T=⟨(undT l n t.data.toList n).toArray⟩:=⟨_,rfl⟩
    have hTs:T.size≤65536:=by
     rw[←tl_size,hT]
     show (undT l n t.data.toList n).length≤_
     exact (ls_ck hcT).2
    have HCL:Hid _:=clone_any T hTs W
    have HTT:Hid (T=⟨RS.toArray⟩):=by rw[Hid,hT,HS0.out]
    rw[←hT] at hbx
    have ct:=hbx.ct
    have HLW:Hid _:=hI.lv
    have HDD:Hid _:=hdf
    have HDG:Hid (w.heap.size≤D):=by have:=HYS.out;rw[Hid];omega
    clear hcT hlT hT hbx hI hdf
    change wpF _ _ _ _ _ _
    refine wpF_of_wp ?_
    go_wp2_with fail
    refine Calls.mono HCL.out ?_
    rintro e V5 ⟨rfl,hb5⟩
    have hd5:V5.heap[D]? = some (.deferred (some [])):=(hb5.block D (Array.getElem?_eq_some_iff.1 HDD.out).1).trans HDD.out
    have HL5:Hid (Lv w0 w bt (V5.putObj D (.deferred none))):=(HLW.out.step hb5).put HW0.out HDG.out _
    clear hb5 HCL
    go_wp2
    refine leaves_mark (by simp) hd5 ?_
    exact ⟨_,results_tmp rfl _ _ _,fun _=>by rw[←HTT.out];rfl,fun h=>absurd HE0.out h,HL5.out⟩
   case hpan =>
    rintro D ch W hD ⟨h1,rfl,h3⟩ hdf
    have HDG:w.heap.size≤D:=by have:=HYS.out;omega
    change LeavesInM _ _ _ _ _ _ _ _ _
    exact leaves_mark (by simp) hdf ⟨fun h=>absurd h h1,fun _=>rfl,h3.put HW0.out HDG _⟩
  ·have HRE3:Hid (RE=CE):=by rw[Hid,HRE.out,if_pos hce0]
   have HRA3:Hid (RA=n):=by rw[Hid,HRA.out,if_pos hce0]
   have HNE:Hid (CE≠0):=hce0
   have HP:Hid (∀X,Calls Tryz.prog 37 #[.int .i64 CE,.int .i64 (n:Int)] X fun e w'=>e=.panicked [flt CE (n:Int)]∧w'=X):=fun X=>pass_bad CE _ (by simpa using hce0) X
   have hfd:=f_field
   clear hce hce0 HRE HRA
   refine wp_panicTo (fun e w'=>(RE=0→e=.returned (.string ⟨RS.toArray⟩))∧(RE≠0→e=.panicked [flt RE RA])∧Lv w0 w bt w') (fun a' W ch hd hR=>by show LeavesInM _ _ _ _ _ _ _ _ _;rw[hd];exact hR) ?_
   refine wp_region_held_drew (S:=fun W=>BxAt W bl bt (.slice a n cap) t∧Below V.heap.size V W) (by kernel_rfl) ⟨⟨HXV.out.row,HXV.out.txt,HXV.out.ne⟩,(Below.refl _ _).drew⟩ (fun hS=>?_)
   refine vtakeP 0 7 (.string t) rfl rfl (by kernel_rfl) (by kernel_rfl) (by kernel_rfl) (fun _ _ _ h=>h) (by rfl) (fun W hW=>by have u:=hW.1.ct;clear hS hW;go_simp) hS ?_
   simp only[zsA,zsB,zsC]
   refine vtakeP 3 10 (.slice a n cap) rfl rfl (by kernel_rfl) (by kernel_rfl) (by kernel_rfl) (fun _ _ _ h=>h) (by rfl) (fun W hW=>by have u:=hW.1.cl;clear hS hW;go_simp) hS ?_
   simp only[zsA,zsB,zsC]
   refine vtakeP 4 11 (.int .i64 (n:Nat)) rfl rfl (by kernel_rfl) (by kernel_rfl) (by kernel_rfl) (fun _ _ _ h=>h) (by rfl) (fun W hW=>by clear hS hW;go_simp) hS ?_
   simp only[zsA,zsB,zsC]
   refine rd1 1 rfl (fun K hK=>?_)
   go_simp
   refine Calls.mono (HK.out _ hS.2) ?_
   rintro e Y ⟨rfl,hbx⟩
   refine hK.out _ _ (⟨hS.1.below hbx,hS.2.trans (hbx.mono hS.2.size)⟩) (fun hS1=>?_)
   clear hK hS K
   have hS:=hS1
   clear hS1
   refine vtakeP 2 9 (.int .i64 CE) rfl rfl (by kernel_rfl) (by kernel_rfl) (by kernel_rfl) (fun _ _ _ h=>h) (by rfl) (fun W hW=>by have u:=hfd;clear hS hW;go_simp) hS ?_
   simp only[zsA,zsB,zsC]
   refine rd1 5 rfl (fun K hK=>?_)
   go_simp
   refine Calls.mono (HP.out _) ?_
   rintro e Y ⟨rfl,rfl⟩
   exact ⟨rfl,fun h=>absurd (HRE3.out ▸ h) HNE.out,fun _=>by rw[HRE3.out,HRA3.out],HLV.out.step hS.2⟩
 ·have HE:Hid (uE n l t.data.toList=chE n l):=by rw[Hid];unfold uE;rw[if_pos hce]
  have HA:Hid (uA n l t.data.toList=chA n l):=by rw[Hid];unfold uA;rw[if_pos hce]
  have HNE:Hid (chE n l≠0):=hce
  have HC:Hid _:=cc_bad _ n l w (hv.below h0) hce
  generalize uE n l t.data.toList=E at *
  generalize uA n l t.data.toList=A at *
  generalize chE n l=E2 at *
  generalize chA n l=A2 at *
  clear hce hlen
  refine wpF_seq (wpF_of_wp ?_)
  go_wp2
  refine wpF_seq (wpF_of_wp ?_)
  go_wp2_with fail
  refine Calls.mono HC.out ?_
  rintro e V ⟨rfl,hb⟩
  exact ⟨fun h=>absurd (HE.out ▸ h) HNE.out,fun _=>by rw[HE.out,HA.out],(Lv.refl h0).step hb⟩
theorem ent_und1 (args:Array Value) (W:World):(callFunc 44 args).run Tryz.prog W=.ok (.enter 44 args) W:=by kernel_rfl
set_option maxRecDepth 100000 in
set_option maxHeartbeats 1000000 in
theorem undo_any (v:Value) (n:Nat) (l:Nat→Sp) (t:ByteArray) (w:World) (hv:ChAt w v n l) :
  Calls Tryz.prog 13 #[v,.string t] w fun e w'=>e=.returned (.tuple #[.string ⟨(uS n l t.data.toList).toArray⟩,fltV (uE n l t.data.toList) (uA n l t.data.toList)])∧Below w.heap.size w w':=by
 have hv0:=hv
 obtain ⟨a,cap,R,rfl,_,_,_⟩:=hv
 obtain ⟨W1,hW1⟩:∃W1,W1=((w.alloc (.cells #[.slice a n cap] 22)).alloc (.cells #[.string t] 9)).alloc (.cells #[.int .i64 0,.int .i64 0] 35):=⟨_,rfl⟩
 have hsz:W1.heap.size=w.heap.size+3:=by rw[hW1];simp
 have h1:Below w.heap.size w W1:=by rw[hW1];exact (((Below.refl _ w).alloc (Nat.le_refl _) _).alloc (by simp) _).alloc (by simp;omega) _
 have hbx:BxAt W1 w.heap.size (w.heap.size+1) (.slice a n cap) t:=by
  rw[hW1]
  refine ⟨((RowAt.new w _ _).alloc _).alloc _,?_,by omega⟩
  have:=(RowAt.new (w.alloc (.cells #[.slice a n cap] 22)) 9 #[.string t]).alloc (.cells #[.int .i64 0,.int .i64 0] 35)
  simpa using this
 have h5:RowAt W1 (w.heap.size+2) 35 #[.int .i64 0,.int .i64 0]:=by
  rw[hW1]
  have:=RowAt.new ((w.alloc (.cells #[.slice a n cap] 22)).alloc (.cells #[.string t] 9)) 35 #[.int .i64 0,.int .i64 0]
  simpa using this
 have hF:Below W1.heap.size W1 (fbox W1):=(Below.refl _ W1).alloc (Nat.le_refl _) _
 have HR:=und1_any w.heap.size (w.heap.size+1) a n cap l t w (fbox W1) hv0 (h1.trans (hF.mono h1.size)) (by omega) (hbx.below hF)
 have hbxF:RowAt (fbox W1) W1.heap.size 35 #[.int .i64 0,.int .i64 0]:=RowAt.new W1 _ _
 have HS:Hid (uS n l t.data.toList=if uE n l t.data.toList=0 then undT l n t.data.toList n else []):=rfl
 have HA0:Hid (uE n l t.data.toList=0→uA n l t.data.toList=0):=fun h=>by
  obtain ⟨e1,e2,e3⟩:=uE_zero h
  unfold uA
  rw[if_neg (fun h=>h e1),if_neg (fun h=>h e2),if_pos h]
 have hrest:∀{w':World},Lv w (fbox W1) (w.heap.size+1) w'→RowAt w' W1.heap.size 35 #[.int .i64 0,.int .i64 0]∧RowAt w' (w.heap.size+2) 35 #[.int .i64 0,.int .i64 0]∧Below w.heap.size (fbox W1) w':=fun {w'} h=>by
  have e1:(fbox W1).heap.size=W1.heap.size+1:=by simp[fbox]
  refine ⟨(h.rest _ (by omega) (by omega)).trans hbxF,(h.rest _ (by omega) (by omega)).trans (h5.below hF (by omega)),?_⟩
  have h2:=h1.trans (hF.mono h1.size)
  exact ⟨h.old.os.trans h2.os.symm,h.old.tape.trans h2.tape.symm,h.old.output.trans h2.output.symm,h.size,fun k hk=>(h.old.block k hk).trans (h2.block k hk).symm⟩
 have HED:Hid (Calls Tryz.prog 34 #[.func (.func 44) #[] #[.pointer (some ⟨w.heap.size,0,none⟩),.pointer (some ⟨w.heap.size+1,0,none⟩)]] W1 fun e w'=>e=.returned (.tuple #[.string ⟨(uS n l t.data.toList).toArray⟩,fltV (uE n l t.data.toList) (uA n l t.data.toList)])∧RowAt w' (w.heap.size+2) 35 #[.int .i64 0,.int .i64 0]∧Below w.heap.size W1 w'):=by
  by_cases hE:uE n l t.data.toList=0
  ·refine Calls.mono (edgeS_ok 44 _ ent_und1 W1 w.heap.size (by omega) (fun v w'=>v=.string ⟨(uS n l t.data.toList).toArray⟩∧RowAt w' (w.heap.size+2) 35 #[.int .i64 0,.int .i64 0]) (Calls.mono HR ?_)) ?_
   ·rintro e w' ⟨h1,_,h3⟩
    obtain ⟨r1,r2,r3⟩:=hrest h3
    exact ⟨_,h1 hE,rfl,⟨rfl,r2⟩,r1,r3⟩
   ·rintro e w' ⟨v,rfl,⟨w1,⟨rfl,hr⟩,rfl⟩,hb⟩
    refine ⟨by rw[hE,HA0.out hE];rfl,?_,hb⟩
    exact (hr.setOther _ _ (by show w.heap.size+2≠W1.heap.size;omega)).setOther _ _ (by show w.heap.size+2≠W1.heap.size;omega)
  ·have hs0:uS n l t.data.toList=[]:=by rw[HS.out,if_neg hE]
   refine Calls.mono (edgeS_bad 44 _ ent_und1 W1 w.heap.size (by omega) (uE n l t.data.toList) (uA n l t.data.toList) (fun w'=>RowAt w' (w.heap.size+2) 35 #[.int .i64 0,.int .i64 0]) (Calls.mono HR ?_)) ?_
   ·rintro e w' ⟨_,h2,h3⟩
    obtain ⟨r1,r2,r3⟩:=hrest h3
    exact ⟨h2 hE,r2,r1,r3⟩
   ·rintro e w' ⟨rfl,⟨w1,hr,rfl⟩,hb⟩
    refine ⟨by rw[hs0],?_,hb⟩
    exact (hr.setOther _ _ (by show w.heap.size+2≠W1.heap.size;omega)).setOther _ _ (by show w.heap.size+2≠W1.heap.size;omega)
 have HB1:Hid (Below w.heap.size w W1):=h1
 clear HR hrest h1 hbx h5 hF hbxF HS HA0 hv0
 generalize uS n l t.data.toList=RS at *
 generalize uE n l t.data.toList=RE at *
 generalize uA n l t.data.toList=RA at *
 have hmf:=mkf
 go_enter Tryz.func13,Tryz.ntmps13
 go_upto_region 1 with fail
 rw[←hW1]
 clear hW1 hsz
 go_wp2_with fail
 refine Calls.mono HED.out ?_
 rintro e V ⟨rfl,hr,hb⟩
 have c0:=hr.cell (i:=0) rfl
 have c1:=hr.cell (i:=1) rfl
 have f0:=hr.frozen 0
 have f1:=hr.frozen 1
 have HR2:Hid (RowAt ((V.setCell ⟨w.heap.size+2,0,none⟩ (.int .i64 RE)).setCell ⟨w.heap.size+2,1,none⟩ (.int .i64 RA)) (w.heap.size+2) 35 #[.int .i64 RE,.int .i64 RA]):=(hr.set 0 _).set 1 _
 have HB2:Hid (Below w.heap.size w ((V.setCell ⟨w.heap.size+2,0,none⟩ (.int .i64 RE)).setCell ⟨w.heap.size+2,1,none⟩ (.int .i64 RA))):=((HB1.out.trans hb).setCell (p:=⟨w.heap.size+2,0,none⟩) (by show _≤_+2;omega) _).setCell (p:=⟨w.heap.size+2,1,none⟩) (by show _≤_+2;omega) _
 clear hr hb
 unfold fltV
 go_wp2
 exact ⟨rfl,_,results_tmp_cell rfl _ _ (w.heap.size+2) 35 #[.int .i64 RE,.int .i64 RA] (0,0) _ _ rfl rfl HR2.out Tryz.underlying35 rfl f_info,rfl,HB2.out⟩
end Go.Proofs.YtkohhdkkbaifoaaGreatDoor
