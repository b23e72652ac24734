/-
  Run: the chain's and the text's faults, and what becomes of the text (S2).
-/
import Derived.Test.YtkohhdkkbaifoaaGreatDoorPz
import Derived.Test.YtkohhdkkbaifoaaGreatDoorJn19
namespace Go.Proofs.YtkohhdkkbaifoaaGreatDoor
open Go.RowKit PK Vg Sm

def fir (f:Nat→Int):Nat→Option Nat
 | 0=>none
 | m+1=>match fir f m with
  | some i=>some i
  | none=>if f m=0 then none else some m
theorem fir_none {f:Nat→Int}:∀{m:Nat},fir f m=none→∀i,i<m→f i=0
 | 0,_,i,hi=>by omega
 | m+1,h,i,hi=>by
  unfold fir at h
  cases hm:fir f m with
  | some x=>rw[hm] at h;cases h
  | none =>
   rw[hm] at h
   by_cases e:f m=0
   ·by_cases hi2:i=m
    ·rw[hi2];exact e
    ·exact fir_none hm i (by omega)
   ·simp only[if_neg e] at h;cases h
theorem fir_all {f:Nat→Int}:∀{m:Nat},(∀i,i<m→f i=0)→fir f m=none
 | 0,_=>rfl
 | m+1,h=>by unfold fir;rw[fir_all (fun i hi=>h i (by omega))];simp only[if_pos (h m (by omega))]
theorem fir_some {f:Nat→Int}:∀{m i:Nat},fir f m=some i→i<m∧f i≠0∧∀j,j<i→f j=0
 | 0,i,h=>by cases h
 | m+1,i,h=>by
  unfold fir at h
  cases hm:fir f m with
  | some x=>rw[hm] at h;cases h;obtain ⟨h1,h2⟩:=fir_some hm;exact ⟨by omega,h2⟩
  | none =>
   rw[hm] at h
   by_cases e:f m=0
   ·simp only[if_pos e] at h;cases h
   ·simp only[if_neg e] at h;cases h;exact ⟨by omega,e,fun j hj=>fir_none hm j hj⟩
theorem fir_of {f:Nat→Int} {m i:Nat} (hi:i<m) (h0:∀j,j<i→f j=0) (h:f i≠0):fir f m=some i:=by
 cases hm:fir f m with
 | none=>exact absurd (fir_none hm i hi) h
 | some j =>
  obtain ⟨h1,h2,h3⟩:=fir_some hm
  by_cases hj:j<i
  ·exact absurd (h0 j hj) h2
  ·by_cases hji:i<j
   ·exact absurd (h3 i hji) h
   ·rw[show j=i by omega]
def firV (f:Nat→Int) (m:Nat):Int:=((fir f m).map f).getD 0
def firA (f:Nat→Int) (m:Nat):Nat:=(fir f m).getD 0
theorem firV_zero {f:Nat→Int} {m:Nat} (h:firV f m=0):∀i,i<m→f i=0:=by
 unfold firV at h
 cases hm:fir f m with
 | none=>exact fir_none hm
 | some i=>rw[hm] at h;exact absurd h (fir_some hm).2.1
theorem firV_all {f:Nat→Int} {m:Nat} (h:∀i,i<m→f i=0):firV f m=0:=by unfold firV;rw[fir_all h];rfl
theorem firV_of {f:Nat→Int} {m i:Nat} (hi:i<m) (h0:∀j,j<i→f j=0) (h:f i≠0):firV f m=f i∧firA f m=i:=by
 unfold firV firA
 rw[fir_of hi h0 h]
 exact ⟨rfl,rfl⟩
noncomputable def runT (l:Nat→Sp) (t:List UInt8):Nat→List UInt8
 | 0=>t
 | k+1=>one (l k) (runT l t k)
noncomputable def undT (l:Nat→Sp) (n:Nat) (t:List UInt8):Nat→List UInt8
 | 0=>t
 | k+1=>und (l (n-1-k)) (undT l n t k)
theorem runT_right (w:World) {l:Nat→Sp} {n:Nat} (hl:∀i,i<n→stE (l i)=0) {t:List UInt8} (ht:ckE t=0):∀k,k≤n→ckE (runT l t k)=0∧(runT l t k).length=t.length
 | 0,_=>⟨ht,rfl⟩
 | k+1,hk=>by
  obtain ⟨h1,h2⟩:=runT_right w hl ht k (by omega)
  obtain ⟨h3,h4⟩:=one_right w (hl k (by omega)) h1
  exact ⟨h3,h4.trans h2⟩
theorem undT_right (w:World) {l:Nat→Sp} {n:Nat} (hl:∀i,i<n→stE (l i)=0) {t:List UInt8} (ht:ckE t=0):∀k,k≤n→ckE (undT l n t k)=0∧(undT l n t k).length=t.length
 | 0,_=>⟨ht,rfl⟩
 | k+1,hk=>by
  obtain ⟨h1,h2⟩:=undT_right w hl ht k (by omega)
  obtain ⟨h3,h4⟩:=und_right w (hl (n-1-k) (by omega)) h1
  exact ⟨h3,h4.trans h2⟩
def rE (n:Nat) (l:Nat→Sp) (t:List UInt8):Int:=if chE n l≠0 then chE n l else if ckE t≠0 then ckE t else firV (fun i=>oneE (l i) t.length) n
def rA (n:Nat) (l:Nat→Sp) (t:List UInt8):Nat:=if chE n l≠0 then chA n l else if ckE t≠0 then n else firA (fun i=>oneE (l i) t.length) n
noncomputable def rS (n:Nat) (l:Nat→Sp) (t:List UInt8):List UInt8:=if rE n l t=0 then runT l t n else []
def uE (n:Nat) (l:Nat→Sp) (t:List UInt8):Int:=if chE n l≠0 then chE n l else if ckE t≠0 then ckE t else firV (fun i=>undE (l (n-1-i)) t.length) n
def uA (n:Nat) (l:Nat→Sp) (t:List UInt8):Nat:=if chE n l≠0 then chA n l else if ckE t≠0 then n else if uE n l t=0 then 0 else n-1-firA (fun i=>undE (l (n-1-i)) t.length) n
noncomputable def uS (n:Nat) (l:Nat→Sp) (t:List UInt8):List UInt8:=if uE n l t=0 then undT l n t n else []
theorem rE_zero {n:Nat} {l:Nat→Sp} {t:List UInt8} (h:rE n l t=0):chE n l=0∧ckE t=0∧∀i,i<n→oneE (l i) t.length=0:=by
 unfold rE at h
 by_cases h1:chE n l≠0
 ·rw[if_pos h1] at h;exact absurd h h1
 ·rw[if_neg h1] at h
  by_cases h2:ckE t≠0
  ·rw[if_pos h2] at h;exact absurd h h2
  ·rw[if_neg h2] at h;exact ⟨by simpa using h1,by simpa using h2,firV_zero h⟩
theorem uE_zero {n:Nat} {l:Nat→Sp} {t:List UInt8} (h:uE n l t=0):chE n l=0∧ckE t=0∧∀i,i<n→undE (l (n-1-i)) t.length=0:=by
 unfold uE at h
 by_cases h1:chE n l≠0
 ·rw[if_pos h1] at h;exact absurd h h1
 ·rw[if_neg h1] at h
  by_cases h2:ckE t≠0
  ·rw[if_pos h2] at h;exact absurd h h2
  ·rw[if_neg h2] at h;exact ⟨by simpa using h1,by simpa using h2,firV_zero h⟩
structure BxAt (W:World) (bl bt:Nat) (v:Value) (t:ByteArray):Prop where
 row:RowAt W bl 22 #[v]
 txt:RowAt W bt 9 #[.string t]
 ne:bl≠bt
section
variable {W V:World} {bl bt:Nat} {v:Value} {t:ByteArray}
theorem BxAt.cl (h:BxAt W bl bt v t):W.cell? ⟨bl,0,none⟩=some v:=h.row.cell rfl
theorem BxAt.ct (h:BxAt W bl bt v t):W.cell? ⟨bt,0,none⟩=some (.string t):=h.txt.cell rfl
theorem BxAt.ft (h:BxAt W bl bt v t):W.frozen? ⟨bt,0,none⟩=false:=h.txt.frozen 0
theorem BxAt.below (h:BxAt W bl bt v t) (hb:Below W.heap.size W V):BxAt V bl bt v t:=⟨h.row.below hb h.row.lt,h.txt.below hb h.txt.lt,h.ne⟩
theorem BxAt.set (h:BxAt W bl bt v t) (t2:ByteArray):BxAt (W.setCell ⟨bt,0,none⟩ (.string t2)) bl bt v t2:=⟨h.row.setOther _ _ h.ne,h.txt.set 0 _,h.ne⟩
end
section
variable {P:Program} {md:Region.Mode} {ops:Array Oper} {Q:Exit→Act→World→Prop} {S:World→Prop}
theorem vtakeP (i d:Nat) (v:Value) {oi:Oper} {fuel:Nat} {listed:Array Bool} {tm:Array Value} {df:List Deferred} {w:World} (hi:ops[i]? = some oi) (hd:oi.dst=some d)
  (hs:Region.noSelect ops=true) (hf:Region.free md ops listed i=true) (hr:(Region.ready md ops listed).contains i=true)
  (hQ:∀c a w,Q (.panic c) (a.put (some d) v) w→Q (.panic c) a w) (hw:Region.wanted oi (yielded ops tm)=true) (hrun:∀W,S W→(execOp (Act.eval ⟨tm,df⟩) oi).run P W=.ok (.value v) W) (hS:S w)
  (h:wpAnyH P md ops Q S fuel (listed.setIfInBounds i true) ⟨tm.setIfInBounds d v,df⟩ w):wpAnyH P md ops Q S (fuel+1) listed ⟨tm,df⟩ w:=by
 refine wpAnyH_take (i:=i) (oi:=oi) (v:=v) hi hs hf hr (by rw[hd];exact hQ) (Or.inl ⟨hw,fun W hW=>hrun W hW⟩) hS ?_
 rw[hd]
 exact h
end
theorem f_field (x y:Int) (w:World):(Instr.field 35 (.agg #[.int .i64 x,.int .i64 y]) 0).run Tryz.prog w=.ok (.int .i64 x) w:=by kernel_rfl
structure Lv (w0 w:World) (bt:Nat) (W:World):Prop where
 old:Below w0.heap.size w0 W
 rest:∀b,b≠bt→b<w.heap.size→W.heap[b]? = w.heap[b]?
 size:w.heap.size≤W.heap.size
theorem Lv.refl {w0 w:World} {bt:Nat} (h:Below w0.heap.size w0 w):Lv w0 w bt w:=⟨h,fun _ _ _=>rfl,Nat.le_refl _⟩
theorem Lv.step {w0 w W V:World} {bt:Nat} (h:Lv w0 w bt W) (hb:Below W.heap.size W V):Lv w0 w bt V :=
 ⟨h.old.trans (hb.mono h.old.size),fun b h1 h2=>(hb.block b (by have:=h.size;omega)).trans (h.rest b h1 h2),by have:=h.size;have:=hb.size;omega⟩
theorem Lv.set {w0 w W:World} {bt:Nat} (h:Lv w0 w bt W) (hbt:w0.heap.size≤bt) (x:Value):Lv w0 w bt (W.setCell ⟨bt,0,none⟩ x) :=
 ⟨h.old.setCell (p:=⟨bt,0,none⟩) hbt x,fun b h1 h2=>(heap_setCell_other W ⟨bt,0,none⟩ b x h1).trans (h.rest b h1 h2),by have:=h.size;simpa using this⟩
theorem cc_bad (v:Value) (n:Nat) (l:Nat→Sp) (w:World) (hv:ChAt w v n l) (hce:chE n l≠0):Calls Tryz.prog 36 #[v] w fun e w'=>e=.panicked [flt (chE n l) (chA n l)]∧Below w.heap.size w w':=by
 by_cases hn:64<n
 ·refine Calls.mono (cc_many _ n l w hv hn) ?_
  rintro e w' ⟨rfl,hb⟩
  unfold chE chA
  rw[if_pos hn,if_pos hn]
  exact ⟨rfl,hb⟩
 ·refine Calls.mono (cc_some _ n l w hv (by omega)) ?_
  rintro e w' ⟨_,h2,hb⟩
  exact ⟨h2 hce,hb⟩
theorem cc_ok (v:Value) (n:Nat) (l:Nat→Sp) (w:World) (hv:ChAt w v n l) (hce:chE n l=0):Calls Tryz.prog 36 #[v] w fun e w'=>e=.returned (.tuple #[])∧Below w.heap.size w w':=by
 refine Calls.mono (cc_some _ n l w hv (chE_zero hce).1) ?_
 rintro e w' ⟨h2,_,hb⟩
 exact ⟨h2 hce,hb⟩
set_option maxRecDepth 100000 in
set_option maxHeartbeats 2000000 in
theorem run1_any (bl bt:Nat) (a:Option Addr) (n cap:Nat) (l:Nat→Sp) (t:ByteArray) (w0 w:World) (hv:ChAt w0 (.slice a n cap) n l) (h0:Below w0.heap.size w0 w) (hbt:w0.heap.size≤bt) (hx:BxAt w bl bt (.slice a n cap) t) :
  Calls Tryz.prog 35 #[.pointer (some ⟨bl,0,none⟩),.pointer (some ⟨bt,0,none⟩)] w fun e w'=>(rE n l t.data.toList=0→e=.returned (.string ⟨(rS n l t.data.toList).toArray⟩))∧(rE n l t.data.toList≠0→e=.panicked [flt (rE n l t.data.toList) (rA n l t.data.toList)])∧Lv w0 w bt w':=by
 have hlen:=tl_size t
 have cl:=hx.cl
 by_cases hce:chE n l=0
 ·obtain ⟨hn64,hall⟩:=chE_zero hce
  have HALL:Hid (∀i,i<n→stE (l i)=0):=hall
  have HC:Hid _:=cc_ok _ n l w (hv.below h0) hce
  have HRE:Hid (rE n l t.data.toList=if ckE t.data.toList≠0 then ckE t.data.toList else firV (fun i=>oneE (l i) t.data.toList.length) n):=by rw[Hid];unfold rE;rw[if_neg (fun h=>h hce)]
  have HRA:Hid (rA n l t.data.toList=if ckE t.data.toList≠0 then n else firA (fun i=>oneE (l i) t.data.toList.length) n):=by rw[Hid];unfold rA;rw[if_neg (fun h=>h hce)]
  have HRS:Hid (rS n l t.data.toList=if rE n l t.data.toList=0 then runT l t.data.toList n else []):=rfl
  generalize rS n l t.data.toList=RS at *
  generalize rE n l t.data.toList=RE at *
  generalize rA n l t.data.toList=RA at *
  have HV0:Hid (ChAt w0 (.slice a n cap) n l):=hv
  have HBT:Hid (w0.heap.size≤bt):=hbt
  clear hce hall hv hbt
  go_enter Tryz.func35,Tryz.ntmps35
  go_wp2_with fail
  refine Calls.mono HC.out ?_
  rintro e V ⟨rfl,hb⟩
  have hxv:=hx.below hb
  have HLV:Hid (Lv w0 w bt V):=(Lv.refl h0).step hb
  have cl1:=hxv.cl
  have ct1:=hxv.ct
  have HXV:Hid _:=hxv
  have HK:Hid (∀X,Below V.heap.size V X→Calls Tryz.prog 38 #[.string t] X fun e w'=>e=.returned (.agg #[.int .i64 (ckE t.data.toList),.int .i64 (ckAt t.data.toList)])∧Below X.heap.size X w'):=fun X _=>check_all t X
  clear hx cl hb hxv HC
  generalize hce:ckE t.data.toList=CE at *
  generalize ckAt t.data.toList=CA at *
  by_cases hce0:CE=0
  ·subst hce0
   have HCT:Hid (ckE t.data.toList=0):=hce
   have HP:Hid (∀X,Calls Tryz.prog 37 #[.int .i64 0,.int .i64 (n:Int)] X fun e w'=>e=.returned (.tuple #[])∧w'=X):=fun X=>pass_ok _ X
   clear hce
   have hfd:=f_field
   go_upto_region 2 with fail
   refine wp_region_noPanic ?_
   refine wp_region_held_drew (S:=fun W=>BxAt W bl bt (.slice a n cap) t∧Below V.heap.size V W) (by kernel_rfl) ⟨⟨HXV.out.row,HXV.out.txt,HXV.out.ne⟩,(Below.refl _ _).drew⟩ (fun hS=>?_)
   refine vtk 0 7 (.string t) rfl (fun W hW=>by have u:=hW.1.ct;clear hS hW;go_simp) hS ?_
   simp only[zsA,zsB,zsC]
   refine vtk 3 10 (.slice a n cap) rfl (fun W hW=>by have u:=hW.1.cl;clear hS hW;go_simp) hS ?_
   simp only[zsA,zsB,zsC]
   refine vtk 4 11 (.int .i64 (n:Nat)) rfl (fun W hW=>by clear hS hW;go_simp) hS ?_
   simp only[zsA,zsB,zsC]
   refine rd1 1 rfl (fun K hK=>?_)
   go_simp
   refine Calls.mono (HK.out _ hS.2) ?_
   rintro e Y ⟨rfl,hbx⟩
   refine hK.out _ _ (⟨hS.1.below hbx,hS.2.trans (hbx.mono hS.2.size)⟩) (fun hS1=>?_)
   clear hK hS K
   have hS:=hS1
   clear hS1
   refine vtk 2 9 (.int .i64 0) rfl (fun W hW=>by have u:=hfd;clear hS hW;go_simp) hS ?_
   simp only[zsA,zsB,zsC]
   refine rd1 5 rfl (fun K hK=>?_)
   go_simp
   refine Calls.mono (HP.out _) ?_
   rintro e Y ⟨rfl,rfl⟩
   refine hK.out _ _ (hS) (fun hS1=>?_)
   clear hK hS K
   have hS:=hS1
   clear hS1
   refine wpAnyH_done (by kernel_rfl) ?_ _
   refine NoPanic.normal ?_
   have HLY:Hid (Lv w0 w bt Y):=HLV.out.step hS.2
   obtain ⟨hxY,_⟩:=hS
   have clY:=hxY.cl
   have HRE2:Hid (RE=firV (fun i=>oneE (l i) t.data.toList.length) n):=by rw[Hid,HRE.out,if_neg (fun h=>h rfl)]
   have HRA2:Hid (RA=firA (fun i=>oneE (l i) t.data.toList.length) n):=by rw[Hid,HRA.out,if_neg (fun h=>h rfl)]
   have h0T:(⟨(runT l t.data.toList 0).toArray⟩:ByteArray)=t:=rfl
   clear HRE HRA HK HP HLV cl1 ct1 HXV hfd hlen
   go_wp2_with fail
   go_loopw [15] (fun i W=>∃k:Nat,k≤n∧i=.int .i64 (k:Nat)∧Hid (∀j,j<k→oneE (l j) t.data.toList.length=0)∧BxAt W bl bt (.slice a n cap) ⟨(runT l t.data.toList k).toArray⟩∧Hid (Lv w0 w bt W)) (fun i _=>((n:Int)-intOf i).toNat)
   case atStart=>exact ⟨0,by omega,rfl,fun j hj=>by omega,hxY,HLY⟩
   case round =>
    clear hxY clY HLY
    obtain ⟨k,hk,rfl,HJ,hxk,HLk⟩:=hrel
    by_cases hlt:k<n
    ·obtain ⟨aa,cc,R,ev,_,hrr,hss⟩:=HV0.out
     cases ev
     obtain ⟨bw,ow,rfl,hrg⟩:=hrr k hlt
     have hrg2:=rangeAt_below hrg HLk.out.old
     have hsk:=(hss k hlt).below HLk.out.old
     have HSZ:Hid ((R k).size=59):=hsk.cells.1
     have HONE:Hid ((R k).all (·.oneCell')=true):=hsk.cells.2
     have HLT:Hid (k<n):=hlt
     have hz59:=o_zero s_zero
     generalize hck:R k=CS at *
     have HSK0:Hid (SqAt w0 (.agg CS) (l k)):=by rw[Hid,←hck];exact hss k hlt
     obtain ⟨hcT,hlT⟩:=runT_right w0 HALL.out HCT.out k hk
     obtain ⟨T,hT⟩:∃T:ByteArray,T=⟨(runT l t.data.toList k).toArray⟩:=⟨_,rfl⟩
     have HTL:Hid (T.data.toList=runT l t.data.toList k):=by rw[Hid,hT]
     have HTS:Hid (T.size=t.data.toList.length):=by rw[Hid,←tl_size,HTL.out,hlT]
     have HTC:Hid (ckE T.data.toList=0):=by rw[Hid,HTL.out];exact hcT
     rw[←hT] at hxk
     have HNX:Hid (runT l t.data.toList (k+1)=one (l k) T.data.toList):=by rw[Hid,HTL.out];rfl
     have HXK:Hid _:=hxk
     clear hrr hss hsk hcT hlT hT hrg
     go_upto_region 6 with (first | refine wpList_load_arr rfl 31 _ rfl bw (ow+k*59) rfl CS _ hrg2 Tryz.underlying31 rfl (by rw[HSZ.out];exact s_info) ?_ | refine wpList_store_row rfl 31 _ _ rfl wr.heap.size CS rfl rfl 31 _ (RowAt.new wr _ _) (by rw[HSZ.out];exact s_info) (by rw[HSZ.out,spA_size]) HONE.out ?_)
     have hr4:=(RowAt.new wr 31 (spA 0 0 ⟨#[]⟩ (.slice none 0 0) (.slice none 0 0) (.slice none 0 0) (.slice none 0 0) (fun _=>0) (fun _=>0))).row CS
     have hb4:Below wr.heap.size wr ((wr.alloc (.cells (spA 0 0 ⟨#[]⟩ (.slice none 0 0) (.slice none 0 0) (.slice none 0 0) (.slice none 0 0) (fun _=>0) (fun _=>0)) 31)).setRow wr.heap.size CS):=PK.Below.setRow ((Below.refl _ wr).alloc (Nat.le_refl _) _) wr.heap.size (Nat.le_refl _) _
     generalize (wr.alloc (.cells (spA 0 0 ⟨#[]⟩ (.slice none 0 0) (.slice none 0 0) (.slice none 0 0) (.slice none 0 0) (fun _=>0) (fun _=>0)) 31)).setRow wr.heap.size CS=V4 at *
     obtain ⟨q,hq⟩:∃q,q=wr.heap.size:=⟨_,rfl⟩
     rw[←hq] at hr4 ⊢
     have hx4:=HXK.out.below hb4
     have HL4:Hid (Lv w0 w bt V4):=HLk.out.step hb4
     have ct4:=hx4.ct
     have HX4:Hid _:=hx4
     have HD:Hid _:=done_any (.agg CS) (l k) (k:Int) T V4 (HSK0.out.below HL4.out.old) (HALL.out k hlt) HTC.out
     have HEQ:Hid (oneE (l k) T.size=oneE (l k) t.data.toList.length):=by rw[Hid,HTS.out]
     have HJN:Hid (oneE (l k) T.size=0→∀j,j<k+1→oneE (l j) t.data.toList.length=0):=fun h j hj=>by
      by_cases e:j=k
      ·rw[e,←HEQ.out];exact h
      ·exact HJ.out j (by omega)
     have HJB:Hid (oneE (l k) T.size≠0→RE=oneE (l k) T.size∧RA=k):=fun h=>by
      have:=firV_of (f:=fun i=>oneE (l i) t.data.toList.length) HLT.out HJ.out (by show oneE (l k) _≠0;rw[←HEQ.out];exact h)
      rw[HRE2.out,HRA2.out,HEQ.out]
      exact this
     generalize hoe:oneE (l k) T.size=OE at *
     generalize one (l k) T.data.toList=OT at *
     clear hrg2 hz59 hb4 hq hck hx4 hxk hlt hoe
     by_cases hoe0:OE=0
     ·subst hoe0
      have HJ2:Hid (∀j,j<k+1→oneE (l j) t.data.toList.length=0):=HJN.out rfl
      have HD2:Hid (Calls Tryz.prog 39 #[.agg CS,.int .i64 (k:Int),.string T] V4 fun e w'=>e=.returned (.string ⟨OT.toArray⟩)∧Below V4.heap.size V4 w'):=Calls.mono HD.out (fun e w' h=>⟨h.1 rfl,h.2.2⟩)
      clear HD HJN HJB HEQ
      go_wp2_with (first | refine wpList_load_row rfl 31 _ rfl q rfl 31 CS (0,0) _ hr4 Tryz.underlying31 rfl (by rw[HSZ.out];exact s_info) ?_)
      refine Calls.mono HD2.out ?_
      rintro e V5 ⟨rfl,hb5⟩
      have hx5:=HX4.out.below hb5
      have ct5:=hx5.ct
      have ft5:=hx5.ft
      have HX6:Hid (BxAt (V5.setCell ⟨bt,0,none⟩ (.string ⟨OT.toArray⟩)) bl bt (.slice (some ⟨bw,ow,none⟩) n cap) ⟨(runT l t.data.toList (k+1)).toArray⟩):=by
       rw[Hid,HNX.out]
       exact hx5.set _
      have HL6:Hid (Lv w0 w bt (V5.setCell ⟨bt,0,none⟩ (.string ⟨OT.toArray⟩))):=(HL4.out.step hb5).set HBT.out _
      clear hb5 hx5 hr4 HD2
      go_wp2_with fail
      go_roundw
      case rel=>exact ⟨k+1,HLT.out,by go_num,HJ2,HX6.out,HL6⟩
      case measure=>have:=HLT.out;simp[intOf] <;> omega
     ·have HD2:Hid (Calls Tryz.prog 39 #[.agg CS,.int .i64 (k:Int),.string T] V4 fun e w'=>e=.panicked [flt OE (k:Int)]∧Below V4.heap.size V4 w'):=Calls.mono HD.out (fun e w' h=>⟨h.2.1 hoe0,h.2.2⟩)
      have HBB:Hid (RE=OE∧RA=k):=HJB.out hoe0
      have HNE:Hid (OE≠0):=hoe0
      clear HD HJN HJB HEQ hoe0
      go_wp2_with (first | refine wpList_load_row rfl 31 _ rfl q rfl 31 CS (0,0) _ hr4 Tryz.underlying31 rfl (by rw[HSZ.out];exact s_info) ?_)
      refine Calls.mono HD2.out ?_
      rintro e V5 ⟨rfl,hb5⟩
      refine ⟨rfl,fun h=>absurd (HBB.out.1 ▸ h) HNE.out,fun _=>by rw[HBB.out.1,HBB.out.2],HL4.out.step hb5⟩
    ·obtain rfl:k=n:=by omega
     have ct4:=hxk.ct
     obtain ⟨hcT,hlT⟩:=runT_right w0 HALL.out HCT.out k hk
     have HRE0:Hid (RE=0):=by rw[Hid,HRE2.out];exact firV_all HJ.out
     have HRS0:Hid (RS=runT l t.data.toList k):=by rw[Hid,HRS.out,if_pos HRE0.out]
     obtain ⟨T,hT⟩:∃T:ByteArray,T=⟨(runT l t.data.toList k).toArray⟩:=⟨_,rfl⟩
     have hTs:T.size≤65536:=by
      rw[←tl_size,hT]
      show (runT l t.data.toList k).length≤_
      exact (ls_ck hcT).2
     have HCL:Hid _:=clone_any T hTs wr
     have HTT:Hid (T=⟨RS.toArray⟩):=by rw[Hid,hT,HRS0.out]
     rw[←hT] at ct4
     clear hcT hlT hT hxk
     go_wp2_with fail
     refine Calls.mono HCL.out ?_
     rintro e V5 ⟨rfl,hb5⟩
     go_wp2
     go_ret
     exact ⟨fun _=>by rw[←HTT.out];rfl,fun h=>absurd HRE0.out h,HLk.out.step hb5⟩
  ·have HRE3:Hid (RE=CE):=by rw[Hid,HRE.out,if_pos hce0]
   have HRA3:Hid (RA=n):=by rw[Hid,HRA.out,if_pos hce0]
   have HNE:Hid (CE≠0):=hce0
   have HP:Hid (∀X,Calls Tryz.prog 37 #[.int .i64 CE,.int .i64 (n:Int)] X fun e w'=>e=.panicked [flt CE (n:Int)]∧w'=X):=fun X=>pass_bad CE _ (by simpa using hce0) X
   have hfd:=f_field
   clear hce hce0 HRE HRA
   go_upto_region 2 with fail
   refine wp_region_held_drew (S:=fun W=>BxAt W bl bt (.slice a n cap) t∧Below V.heap.size V W) (by kernel_rfl) ⟨⟨HXV.out.row,HXV.out.txt,HXV.out.ne⟩,(Below.refl _ _).drew⟩ (fun hS=>?_)
   refine vtakeP 0 7 (.string t) rfl rfl (by kernel_rfl) (by kernel_rfl) (by kernel_rfl) (fun _ _ _ h=>h) (by rfl) (fun W hW=>by have u:=hW.1.ct;clear hS hW;go_simp) hS ?_
   simp only[zsA,zsB,zsC]
   refine vtakeP 3 10 (.slice a n cap) rfl rfl (by kernel_rfl) (by kernel_rfl) (by kernel_rfl) (fun _ _ _ h=>h) (by rfl) (fun W hW=>by have u:=hW.1.cl;clear hS hW;go_simp) hS ?_
   simp only[zsA,zsB,zsC]
   refine vtakeP 4 11 (.int .i64 (n:Nat)) rfl rfl (by kernel_rfl) (by kernel_rfl) (by kernel_rfl) (fun _ _ _ h=>h) (by rfl) (fun W hW=>by clear hS hW;go_simp) hS ?_
   simp only[zsA,zsB,zsC]
   refine rd1 1 rfl (fun K hK=>?_)
   go_simp
   refine Calls.mono (HK.out _ hS.2) ?_
   rintro e Y ⟨rfl,hbx⟩
   refine hK.out _ _ (⟨hS.1.below hbx,hS.2.trans (hbx.mono hS.2.size)⟩) (fun hS1=>?_)
   clear hK hS K
   have hS:=hS1
   clear hS1
   refine vtakeP 2 9 (.int .i64 CE) rfl rfl (by kernel_rfl) (by kernel_rfl) (by kernel_rfl) (fun _ _ _ h=>h) (by rfl) (fun W hW=>by have u:=hfd;clear hS hW;go_simp) hS ?_
   simp only[zsA,zsB,zsC]
   refine rd1 5 rfl (fun K hK=>?_)
   go_simp
   refine Calls.mono (HP.out _) ?_
   rintro e Y ⟨rfl,rfl⟩
   exact ⟨rfl,fun h=>absurd (HRE3.out ▸ h) HNE.out,fun _=>by rw[HRE3.out,HRA3.out],HLV.out.step hS.2⟩
 ·have HE:Hid (rE n l t.data.toList=chE n l):=by rw[Hid];unfold rE;rw[if_pos hce]
  have HA:Hid (rA n l t.data.toList=chA n l):=by rw[Hid];unfold rA;rw[if_pos hce]
  have HNE:Hid (chE n l≠0):=hce
  have HC:Hid _:=cc_bad _ n l w (hv.below h0) hce
  generalize rE n l t.data.toList=E at *
  generalize rA n l t.data.toList=A at *
  generalize chE n l=E2 at *
  generalize chA n l=A2 at *
  clear hce hlen
  go_enter Tryz.func35,Tryz.ntmps35
  go_wp2_with fail
  refine Calls.mono HC.out ?_
  rintro e V ⟨rfl,hb⟩
  refine ⟨rfl,fun h=>absurd (HE.out ▸ h) HNE.out,fun _=>by rw[HE.out,HA.out],(Lv.refl h0).step hb⟩
theorem ent_run1 (args:Array Value) (W:World):(callFunc 35 args).run Tryz.prog W=.ok (.enter 35 args) W:=by kernel_rfl
set_option maxRecDepth 100000 in
set_option maxHeartbeats 1000000 in
theorem run_any (v:Value) (n:Nat) (l:Nat→Sp) (t:ByteArray) (w:World) (hv:ChAt w v n l) :
  Calls Tryz.prog 11 #[v,.string t] w fun e w'=>e=.returned (.tuple #[.string ⟨(rS n l t.data.toList).toArray⟩,fltV (rE n l t.data.toList) (rA n l t.data.toList)])∧Below w.heap.size w w':=by
 have hv0:=hv
 obtain ⟨a,cap,R,rfl,_,_,_⟩:=hv
 obtain ⟨W1,hW1⟩:∃W1,W1=((w.alloc (.cells #[.slice a n cap] 22)).alloc (.cells #[.string t] 9)).alloc (.cells #[.int .i64 0,.int .i64 0] 35):=⟨_,rfl⟩
 have hsz:W1.heap.size=w.heap.size+3:=by rw[hW1];simp
 have h1:Below w.heap.size w W1:=by rw[hW1];exact (((Below.refl _ w).alloc (Nat.le_refl _) _).alloc (by simp) _).alloc (by simp;omega) _
 have hbx:BxAt W1 w.heap.size (w.heap.size+1) (.slice a n cap) t:=by
  rw[hW1]
  refine ⟨((RowAt.new w _ _).alloc _).alloc _,?_,by omega⟩
  have:=(RowAt.new (w.alloc (.cells #[.slice a n cap] 22)) 9 #[.string t]).alloc (.cells #[.int .i64 0,.int .i64 0] 35)
  simpa using this
 have h5:RowAt W1 (w.heap.size+2) 35 #[.int .i64 0,.int .i64 0]:=by
  rw[hW1]
  have:=RowAt.new ((w.alloc (.cells #[.slice a n cap] 22)).alloc (.cells #[.string t] 9)) 35 #[.int .i64 0,.int .i64 0]
  simpa using this
 have hF:Below W1.heap.size W1 (fbox W1):=(Below.refl _ W1).alloc (Nat.le_refl _) _
 have HR:=run1_any w.heap.size (w.heap.size+1) a n cap l t w (fbox W1) hv0 (h1.trans (hF.mono h1.size)) (by omega) (hbx.below hF)
 have hbxF:RowAt (fbox W1) W1.heap.size 35 #[.int .i64 0,.int .i64 0]:=RowAt.new W1 _ _
 have HS:Hid (rS n l t.data.toList=if rE n l t.data.toList=0 then runT l t.data.toList n else []):=rfl
 have HA0:Hid (rE n l t.data.toList=0→rA n l t.data.toList=0):=fun h=>by
  obtain ⟨e1,e2,e3⟩:=rE_zero h
  unfold rA firA
  rw[if_neg (fun h=>h e1),if_neg (fun h=>h e2),fir_all e3]
  rfl
 have hrest:∀{w':World},Lv w (fbox W1) (w.heap.size+1) w'→RowAt w' W1.heap.size 35 #[.int .i64 0,.int .i64 0]∧RowAt w' (w.heap.size+2) 35 #[.int .i64 0,.int .i64 0]∧Below w.heap.size (fbox W1) w':=fun {w'} h=>by
  have e1:(fbox W1).heap.size=W1.heap.size+1:=by simp[fbox]
  refine ⟨(h.rest _ (by omega) (by omega)).trans hbxF,(h.rest _ (by omega) (by omega)).trans (h5.below hF (by omega)),?_⟩
  have h2:=h1.trans (hF.mono h1.size)
  exact ⟨h.old.os.trans h2.os.symm,h.old.tape.trans h2.tape.symm,h.old.output.trans h2.output.symm,h.size,fun k hk=>(h.old.block k hk).trans (h2.block k hk).symm⟩
 have HED:Hid (Calls Tryz.prog 34 #[.func (.func 35) #[] #[.pointer (some ⟨w.heap.size,0,none⟩),.pointer (some ⟨w.heap.size+1,0,none⟩)]] W1 fun e w'=>e=.returned (.tuple #[.string ⟨(rS n l t.data.toList).toArray⟩,fltV (rE n l t.data.toList) (rA n l t.data.toList)])∧RowAt w' (w.heap.size+2) 35 #[.int .i64 0,.int .i64 0]∧Below w.heap.size W1 w'):=by
  by_cases hE:rE n l t.data.toList=0
  ·refine Calls.mono (edgeS_ok 35 _ ent_run1 W1 w.heap.size (by omega) (fun v w'=>v=.string ⟨(rS n l t.data.toList).toArray⟩∧RowAt w' (w.heap.size+2) 35 #[.int .i64 0,.int .i64 0]) (Calls.mono HR ?_)) ?_
   ·rintro e w' ⟨h1,_,h3⟩
    obtain ⟨r1,r2,r3⟩:=hrest h3
    exact ⟨_,h1 hE,rfl,⟨rfl,r2⟩,r1,r3⟩
   ·rintro e w' ⟨v,rfl,⟨w1,⟨rfl,hr⟩,rfl⟩,hb⟩
    refine ⟨by rw[hE,HA0.out hE];rfl,?_,hb⟩
    exact (hr.setOther _ _ (by show w.heap.size+2≠W1.heap.size;omega)).setOther _ _ (by show w.heap.size+2≠W1.heap.size;omega)
  ·have hs0:rS n l t.data.toList=[]:=by rw[HS.out,if_neg hE]
   refine Calls.mono (edgeS_bad 35 _ ent_run1 W1 w.heap.size (by omega) (rE n l t.data.toList) (rA n l t.data.toList) (fun w'=>RowAt w' (w.heap.size+2) 35 #[.int .i64 0,.int .i64 0]) (Calls.mono HR ?_)) ?_
   ·rintro e w' ⟨_,h2,h3⟩
    obtain ⟨r1,r2,r3⟩:=hrest h3
    exact ⟨h2 hE,r2,r1,r3⟩
   ·rintro e w' ⟨rfl,⟨w1,hr,rfl⟩,hb⟩
    refine ⟨by rw[hs0],?_,hb⟩
    exact (hr.setOther _ _ (by show w.heap.size+2≠W1.heap.size;omega)).setOther _ _ (by show w.heap.size+2≠W1.heap.size;omega)
 have HB1:Hid (Below w.heap.size w W1):=h1
 clear HR hrest h1 hbx h5 hF hbxF HS HA0 hv0
 generalize rS n l t.data.toList=RS at *
 generalize rE n l t.data.toList=RE at *
 generalize rA n l t.data.toList=RA at *
 have hmf:=mkf
 go_enter Tryz.func11,Tryz.ntmps11
 go_upto_region 1 with fail
 rw[←hW1]
 clear hW1 hsz
 go_wp2_with fail
 refine Calls.mono HED.out ?_
 rintro e V ⟨rfl,hr,hb⟩
 have c0:=hr.cell (i:=0) rfl
 have c1:=hr.cell (i:=1) rfl
 have f0:=hr.frozen 0
 have f1:=hr.frozen 1
 have HR2:Hid (RowAt ((V.setCell ⟨w.heap.size+2,0,none⟩ (.int .i64 RE)).setCell ⟨w.heap.size+2,1,none⟩ (.int .i64 RA)) (w.heap.size+2) 35 #[.int .i64 RE,.int .i64 RA]):=(hr.set 0 _).set 1 _
 have HB2:Hid (Below w.heap.size w ((V.setCell ⟨w.heap.size+2,0,none⟩ (.int .i64 RE)).setCell ⟨w.heap.size+2,1,none⟩ (.int .i64 RA))):=((HB1.out.trans hb).setCell (p:=⟨w.heap.size+2,0,none⟩) (by show _≤_+2;omega) _).setCell (p:=⟨w.heap.size+2,1,none⟩) (by show _≤_+2;omega) _
 clear hr hb
 unfold fltV
 go_wp2
 exact ⟨rfl,_,results_tmp_cell rfl _ _ (w.heap.size+2) 35 #[.int .i64 RE,.int .i64 RA] (0,0) _ _ rfl rfl HR2.out Tryz.underlying35 rfl f_info,rfl,HB2.out⟩
end Go.Proofs.YtkohhdkkbaifoaaGreatDoor
