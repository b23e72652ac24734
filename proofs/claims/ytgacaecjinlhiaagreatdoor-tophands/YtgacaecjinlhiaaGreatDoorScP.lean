import Derived.Shelf.Strings.Search3
import Derived.Shelf.Lay
import Derived.Test.YtgacaecjinlhiaaGreatDoorPz
import Derived.Test.YtgacaecjinlhiaaGreatDoorJn13
namespace Go.Proofs.YtgacaecjinlhiaaGreatDoor
open Go.Shelf Go.RowKit PK
shelf_lay Lays.n143 Nm 143 at Tryz as Tryz.laysIndex
theorem IX:Tryz.laysIndex_ren.f 143=166:=by kernel_rfl
shelf_lay Lays.n219 Nm 219 at Tryz as Tryz.laysIndexL
theorem GO:Tryz.laysIndexL_ren.f 219=152:=by kernel_rfl
theorem yg (s:ByteArray) (c:UInt8) (w:World):Calls Tryz.prog 166 #[.string s,.string ⟨#[c]⟩] w fun e w'=>e=.returned (.int .i64 (Lib.indexByte s.data.toList c))∧w'=w:=by
 have h:=Any.strings_Index_one Tryz.laysIndex s c w
 rw[IX] at h
 exact h
theorem xJ (s:ByteArray) (c:UInt8) (w:World):Calls Tryz.prog 152 #[.string s,.string ⟨#[c]⟩] w fun e w'=>e=.returned (.int .i64 (Lib.indexByte s.data.toList c))∧w'=w:=by
 have h:=Any.stringslite_Index_one Tryz.laysIndexL s c w
 rw[GO] at h
 exact h
def upto (c:UInt8) (l:List UInt8):List UInt8:=l.takeWhile (· != c)
theorem iH (c:UInt8):∀l:List UInt8,(Lib.indexByte l c=-1∧upto c l=l)∨(Lib.indexByte l c=((upto c l).length:Int)∧(upto c l).length<l.length)
 | []=>.inl ⟨rfl,rfl⟩
 | b :: l=>by
  unfold upto Lib.indexByte
  by_cases hb:b=c
  ·right
   simp[hb]
  ·have hb1:(b==c)=false:=beq_false_of_ne hb
   have hb2:(b != c)=true:=by simp[hb]
   rw[List.takeWhile_cons,hb2,hb1]
   rcases iH c l with ⟨h1,h2⟩ | ⟨h1,h2⟩
   ·left
    unfold upto at h2
    simp[h1,h2]
   ·right
    unfold upto at h1 h2
    rw[h1]
    have h3:((((l.takeWhile (· != c)).length:Int))==-1)=false:=beq_false_of_ne (by omega)
    rw[if_neg (by decide),h3]
    simp
    omega
theorem sN (c:UInt8) (l:List UInt8):l.take (upto c l).length=upto c l:=by
 unfold upto
 have h:=List.takeWhile_append_dropWhile (p:=(· != c)) (l:=l)
 conv=>lhs;arg 2;rw[←h]
 rw[List.take_left']
 rfl
theorem ja (s:ByteArray) (a b:Nat):(s.extract a b).data.toList=(s.data.toList.take b).drop a:=by
 rw[ByteArray.data_extract]
 simp[List.drop_take]
set_option maxRecDepth 100000 in
set_option maxHeartbeats 1000000 in
theorem EB (s:ByteArray) (c:UInt8) (hs:s.size≤65536) (w:World):Calls Tryz.prog 125 #[.string s,.string ⟨#[c]⟩] w fun e w'=>∃r f,e=.returned (.tuple #[.string ⟨(upto c s.data.toList).toArray⟩,.string r,.bool f])∧Below w.heap.size w w':=by
 have HI:Hid _:=xJ s c w
 have hl:=Pl.aK s
 rcases iH c s.data.toList with ⟨h1,h2⟩ | ⟨h1,h2⟩
 ·have HU:Hid (⟨(upto c s.data.toList).toArray⟩=s):=by rw[Hid,h2]
  rw[h1] at HI
  clear h1 h2 hl
  go_enter Tryz.func125,Tryz.ntmps125
  go_wp2_with fail
  refine Calls.mono HI.out ?_
  rintro e V ⟨rfl,rfl⟩
  go_wp2
  go_ret3
  exact ⟨_,_,by rw[HU.out];rfl,Below.refl _ _⟩
 ·rw[h1] at HI
  obtain ⟨m,hm⟩:∃m,m=(upto c s.data.toList).length:=⟨_,rfl⟩
  rw[←hm] at HI h2
  have c2:m<s.size:=by omega
  have c3:(m:Int)≤(s.size:Int):=by omega
  have c4:((m:Int)+1)≤(s.size:Int):=by omega
  have HX:Hid ((s.extract 0 m)=⟨(upto c s.data.toList).toArray⟩):=by
   rw[Hid]
   have:(s.extract 0 m).data.toList=upto c s.data.toList:=by rw[ja,hm,sN];rfl
   cases hE:s.extract 0 m with
   | mk d =>
    rw[hE] at this
    rw[←this]
  clear h1 h2 hl hm
  go_enter Tryz.func125,Tryz.ntmps125
  go_wp2_with fail
  refine Calls.mono HI.out ?_
  rintro e V ⟨rfl,rfl⟩
  go_wp2
  go_region
  all_goals go_wp2
  go_ret3
  exact ⟨_,_,by rw[←HX.out];rfl,(Below.refl _ _).drew⟩
set_option maxRecDepth 100000 in
theorem GY (s:ByteArray) (c:UInt8) (hs:s.size≤65536) (w:World):Calls Tryz.prog 102 #[.string s,.string ⟨#[c]⟩] w fun e w'=>∃r f,e=.returned (.tuple #[.string ⟨(upto c s.data.toList).toArray⟩,.string r,.bool f])∧Below w.heap.size w w':=by
 have HC:Hid _:=EB s c hs w
 go_enter Tryz.func102,Tryz.ntmps102
 go_wp2_with fail
 refine Calls.mono HC.out ?_
 rintro e V ⟨r,f,rfl,hb⟩
 go_wp2
 go_ret3
 exact ⟨_,_,rfl,hb⟩
theorem bV {P:Program} {fn:Func} {p:Tmp} {ty:TypeId} (h:fn.results=#[.cell p ty]) (tmps:Array Value) (w:World) (g:Nat) (t:TypeId) (cs:Array Value) (fr:Nat × Nat) (d:TypeDesc)
  (hp:tmps.getD p undef=.pointer (some ⟨g,0,none⟩)) (hg:w.heap[g]? = some (.cells cs t fr))
  (hu:P.underlying ty=some d) (hd:(match d with | .struct _ | .array _ _=>true | _=>false)=true) (hi:(P.info? ty).map (·.size)=some cs.size) :
  (results fn tmps).run P w=.ok (.agg cs) w:=by
 have hp':tmps[p]?.getD undef=.pointer (some ⟨g,0,none⟩):=by simpa using hp
 simp[results,h,hp',asAddr,run_loadVar_row w g t ty cs fr d hg hu hd hi]
structure Fb (b:Nat) (W W':World):Prop where
 os:W'.os=W.os
 tape:W'.tape=W.tape
 output:W'.output=W.output
 size:W.heap.size≤W'.heap.size
 block:∀k,k<W.heap.size→k≠b→W'.heap[k]? = W.heap[k]?
theorem Fb.trans {b:Nat} {A B C:World} (h:Fb b A B) (k:Fb b B C):Fb b A C :=
 ⟨k.os.trans h.os,k.tape.trans h.tape,k.output.trans h.output,Nat.le_trans h.size k.size,fun i hi hb=>(k.block i (by have:=h.size;omega) hb).trans (h.block i hi hb)⟩
theorem Fb.of {b:Nat} {A B:World} (h:Below A.heap.size A B):Fb b A B:=⟨h.os,h.tape,h.output,h.size,fun i hi _=>h.block i hi⟩
theorem Fb.old {b:Nat} {w0 A B:World} (h0:Below w0.heap.size w0 A) (h:Fb b A B) (hb:w0.heap.size≤b):Below w0.heap.size w0 B :=
 ⟨h.os.trans h0.os,h.tape.trans h0.tape,h.output.trans h0.output,Nat.le_trans h0.size h.size,fun i hi=>(h.block i (by have:=h0.size;omega) (by omega)).trans (h0.block i hi)⟩
theorem Fb.row {b q:Nat} {A B:World} {T:TypeId} {c:Array Value} (h:Fb b A B) (hr:af A q T c) (hq:q≠b):af B q T c:=(h.block q hr.lt hq).trans hr
theorem Fb.alloc (b:Nat) (W:World) (o:Obj):Fb b W (W.alloc o):=Fb.of ((Below.refl _ W).alloc (Nat.le_refl _) _)
theorem Fb.set {b:Nat} {A B:World} (h:Fb b A B) (i:Nat) (v:Value):Fb b A (B.setCell ⟨b,i,none⟩ v) :=
 ⟨h.os,h.tape,h.output,by have:=h.size;simpa using this,fun k hk hb=>(heap_setCell_other B ⟨b,i,none⟩ k v hb).trans (h.block k hk hb)⟩
def b8 (W:World) (b:Nat) (T:ByteArray) (p:Nat):Prop:=af W b 57 #[.string T,.int .i64 (p:Int)]
def wrd (T:List UInt8) (p:Nat):List UInt8:=upto 32 (T.drop p)
set_option maxRecDepth 100000 in
set_option maxHeartbeats 1000000 in
theorem jL (b:Nat) (T:ByteArray) (p:Nat) (w:World) (hr:b8 w b T p):Calls Tryz.prog 39 #[.pointer (some ⟨b,0,none⟩)] w fun e w'=>e=.returned (.bool (decide (T.size<p)))∧Below w.heap.size w w':=by
 have c0:=hr.cell (i:=0) rfl
 have c1:=hr.cell (i:=1) rfl
 go_enter Tryz.func39,Tryz.ntmps39
 go_wp2
 go_region
 all_goals go_wp2
 go_ret
 exact ⟨rfl,(Below.refl _ _).drew⟩
theorem zK:(Tryz.prog.info? 91).map (·.size)=some 2:=by kernel_rfl
def wdV (l:List UInt8) (p:Nat):Value:=.agg #[.string ⟨l.toArray⟩,.int .i64 (p:Int)]
set_option maxRecDepth 100000 in
set_option maxHeartbeats 1000000 in
theorem xP (b:Nat) (T:ByteArray) (p:Nat) (w:World) (hr:b8 w b T p) (hp:T.size<p):Calls Tryz.prog 68 #[.pointer (some ⟨b,0,none⟩)] w fun e w'=>e=.panicked [flt 2 T.size]∧Below w.heap.size w w':=by
 have hb1:Below w.heap.size w (w.alloc (.cells #[.string ⟨#[]⟩,.int .i64 0] 91)):=(Below.refl _ w).alloc (Nat.le_refl _) _
 have hr1:b8 (w.alloc (.cells #[.string ⟨#[]⟩,.int .i64 0] 91)) b T p:=af.alloc hr _
 have HE:Hid _:=jL b T p _ hr1
 have hd:decide (T.size<p)=true:=by simpa using hp
 rw[hd] at HE
 have HR:Hid _:=hr1
 have HB:Hid _:=hb1
 clear hr hr1 hb1 hd
 go_enter Tryz.func68,Tryz.ntmps68
 go_wp2_with fail
 refine Calls.mono HE.out ?_
 rintro e V ⟨rfl,hb⟩
 have hr2:b8 V b T p:=af.below HR.out hb (af.lt HR.out)
 have c0:=hr2.cell (i:=0) rfl
 have HT:Hid _:=cG 2 T.size V
 have HB2:Hid (Below w.heap.size w V):=HB.out.trans (hb.mono HB.out.size)
 clear hb hr2
 go_wp2_with fail
 refine Calls.mono HT.out ?_
 rintro e V2 ⟨rfl,rfl⟩
 exact ⟨rfl,rfl,HB2.out⟩
set_option maxRecDepth 100000 in
set_option maxHeartbeats 1000000 in
theorem xd (b:Nat) (T:ByteArray) (p:Nat) (w:World) (hr:b8 w b T p) (hp:p≤T.size) (hs:T.size≤65536):Calls Tryz.prog 68 #[.pointer (some ⟨b,0,none⟩)] w fun e w'=>(wrd T.data.toList p=[]→e=.panicked [flt 2 p])∧(wrd T.data.toList p≠[]→e=.returned (wdV (wrd T.data.toList p) p))∧Below w.heap.size w w':=by
 have hb1:Below w.heap.size w (w.alloc (.cells #[.string ⟨#[]⟩,.int .i64 0] 91)):=(Below.refl _ w).alloc (Nat.le_refl _) _
 have hr1:b8 (w.alloc (.cells #[.string ⟨#[]⟩,.int .i64 0] 91)) b T p:=af.alloc hr _
 have hq1:=af.new w 91 #[.string ⟨#[]⟩,.int .i64 0]
 have hbne:b≠w.heap.size:=by have:=hr.lt;omega
 have HE:Hid _:=jL b T p _ hr1
 have hd:decide (T.size<p)=false:=by simpa using hp
 rw[hd] at HE
 have HR:Hid _:=hr1
 have HQ:Hid _:=hq1
 have HB:Hid _:=hb1
 have hp2:(p:Int)≤(T.size:Int):=by omega
 have HX:Hid ((T.extract p T.size).data.toList=T.data.toList.drop p):=by
  rw[Hid,ja,List.take_of_length_le (by rw[←Pl.aK T];omega)]
 have hXs:(T.extract p T.size).size≤65536:=by rw[Pl.aK,HX.out];simp;have:=Pl.aK T;simp at this;omega
 have HC:Hid (∀X,Calls Tryz.prog 102 #[.string (T.extract p T.size),.string ⟨#[32]⟩] X fun e w'=>∃r f,e=.returned (.tuple #[.string ⟨(wrd T.data.toList p).toArray⟩,.string r,.bool f])∧Below X.heap.size X w'):=fun X=>by
  have:=GY (T.extract p T.size) 32 hXs X
  rw[HX.out] at this
  exact this
 generalize hwd:wrd T.data.toList p=WD at *
 clear hr hr1 hb1 hd hq1 hXs HX hwd
 go_enter Tryz.func68,Tryz.ntmps68
 go_wp2_with fail
 refine Calls.mono HE.out ?_
 rintro e V ⟨rfl,hb⟩
 have hr2:b8 V b T p:=af.below HR.out hb (af.lt HR.out)
 have hq2:=af.below HQ.out hb (af.lt HQ.out)
 have c0:=hr2.cell (i:=0) rfl
 have c1:=hr2.cell (i:=1) rfl
 have HB2:Hid (Below w.heap.size w V):=HB.out.trans (hb.mono HB.out.size)
 have HR2:Hid _:=hr2
 have HQ2:Hid _:=hq2
 clear hb hr2 hq2 HE
 go_wp2_with fail
 refine wp_region_noPanic ?_
 refine wp_region_held_drew (S:=fun W=>b8 W b T p∧Below V.heap.size V W) (by kernel_rfl) ⟨HR2.out,(Below.refl _ _).drew⟩ (fun hS=>?_)
 refine vtk 0 15 (.pointer (some ⟨b,0,none⟩)) rfl (fun W hW=>by clear hS hW;go_simp) hS ?_
 simp only[zsA,zsB,zsC]
 refine vtk 1 16 (.pointer (some ⟨b,0,none⟩)) rfl (fun W hW=>by clear hS hW;go_simp) hS ?_
 simp only[zsA,zsB,zsC]
 refine vtk 2 17 (.pointer (some ⟨b,0,none⟩)) rfl (fun W hW=>by clear hS hW;go_simp) hS ?_
 simp only[zsA,zsB,zsC]
 refine vtk 3 18 (.string T) rfl (fun W hW=>by have u:=af.cell hW.1 (i:=0) rfl;clear hS hW;go_simp) hS ?_
 simp only[zsA,zsB,zsC]
 refine vtk 4 19 (.pointer (some ⟨b,0,none⟩)) rfl (fun W hW=>by clear hS hW;go_simp) hS ?_
 simp only[zsA,zsB,zsC]
 refine vtk 5 20 (.pointer (some ⟨b,0,none⟩)) rfl (fun W hW=>by clear hS hW;go_simp) hS ?_
 simp only[zsA,zsB,zsC]
 refine vtk 6 21 (.pointer (some ⟨b,1,none⟩)) rfl (fun W hW=>by clear hS hW;go_simp) hS ?_
 simp only[zsA,zsB,zsC]
 refine vtk 7 22 (.int .i64 (p:Int)) rfl (fun W hW=>by have u:=af.cell hW.1 (i:=1) rfl;clear hS hW;go_simp) hS ?_
 simp only[zsA,zsB,zsC]
 refine vtk 8 23 (.string (T.extract p T.size)) rfl (fun W hW=>by clear hS hW;go_simp) hS ?_
 simp only[zsA,zsB,zsC]
 refine rd1 9 rfl (fun K hK=>?_)
 go_simp
 refine Calls.mono (HC.out _) ?_
 rintro e Y ⟨r,f,rfl,hbx⟩
 refine hK.out _ _ (⟨af.below hS.1 hbx (af.lt hS.1),hS.2.trans (hbx.mono hS.2.size)⟩) (fun hS1=>?_)
 clear hK hS K
 have hS:=hS1
 clear hS1
 refine vtk 10 14 (.tuple #[.string ⟨WD.toArray⟩,.string r,.bool f]) rfl (fun W hW=>by clear hS hW;go_simp) hS ?_
 simp only[zsA,zsB,zsC]
 refine vtk 11 25 (.string ⟨WD.toArray⟩) rfl (fun W hW=>by clear hS hW;go_simp) hS ?_
 simp only[zsA,zsB,zsC]
 refine vtk 12 26 (.string r) rfl (fun W hW=>by clear hS hW;go_simp) hS ?_
 simp only[zsA,zsB,zsC]
 refine vtk 13 27 (.bool f) rfl (fun W hW=>by clear hS hW;go_simp) hS ?_
 simp only[zsA,zsB,zsC]
 refine vtk 14 3 (.string ⟨WD.toArray⟩) rfl (fun W hW=>by clear hS hW;go_simp) hS ?_
 simp only[zsA,zsB,zsC]
 refine vtk 15 4 (.string r) rfl (fun W hW=>by clear hS hW;go_simp) hS ?_
 simp only[zsA,zsB,zsC]
 refine vtk 16 5 (.bool f) rfl (fun W hW=>by clear hS hW;go_simp) hS ?_
 simp only[zsA,zsB,zsC]
 refine wpAnyH_done (by kernel_rfl) ?_ _
 refine NoPanic.normal ?_
 obtain ⟨hrY,hbY⟩:=hS
 have hqY:=af.below HQ2.out hbY (af.lt HQ2.out)
 have HBY:Hid (Below w.heap.size w Y):=HB2.out.trans (hbY.mono HB2.out.size)
 have c1y:=af.cell hrY (i:=1) rfl
 have q0:=af.cell hqY (i:=0) rfl
 have q1:=af.cell hqY (i:=1) rfl
 have f0:=af.frozen hqY 0
 have f1:=af.frozen hqY 1
 have HT:Hid _:=cG 2 p Y
 have HQY:Hid (af ((Y.setCell ⟨w.heap.size,0,none⟩ (.string ⟨WD.toArray⟩)).setCell ⟨w.heap.size,1,none⟩ (.int .i64 (p:Int))) w.heap.size 91 #[.string ⟨WD.toArray⟩,.int .i64 (p:Int)]):=(af.set hqY 0 _).set 1 _
 have HBZ:Hid (Below w.heap.size w ((Y.setCell ⟨w.heap.size,0,none⟩ (.string ⟨WD.toArray⟩)).setCell ⟨w.heap.size,1,none⟩ (.int .i64 (p:Int)))):=(HBY.out.setCell (p:=⟨w.heap.size,0,none⟩) (Nat.le_refl _) _).setCell (p:=⟨w.heap.size,1,none⟩) (Nat.le_refl _) _
 clear hrY hbY hqY c0 c1 HC HR HQ HR2 HQ2
 by_cases hWD:WD=[]
 ·subst hWD
  go_wp2_with fail
  refine Calls.mono HT.out ?_
  rintro e V2 ⟨rfl,rfl⟩
  exact ⟨rfl,fun _=>rfl,fun h=>absurd rfl h,HBY.out⟩
 ·have hne:WD.isEmpty=false:=by simpa using hWD
  have HNE:Hid (WD≠[]):=hWD
  clear hWD
  go_wp2
  exact ⟨rfl,_,bV rfl _ _ w.heap.size 91 #[.string ⟨WD.toArray⟩,.int .i64 (p:Int)] (0,0) _ rfl HQY.out Tryz.underlying91 rfl zK,fun h=>absurd h HNE.out,fun _=>rfl,HBZ.out⟩
def wE (T:List UInt8) (p:Nat):Int:=if T.length<p then 2 else if wrd T p=[] then 2 else 0
def wA (T:List UInt8) (p:Nat):Nat:=if T.length<p then T.length else p
theorem rL (b:Nat) (T:ByteArray) (p:Nat) (w:World) (hr:b8 w b T p) (hs:T.size≤65536):Calls Tryz.prog 68 #[.pointer (some ⟨b,0,none⟩)] w fun e w'=>(wE T.data.toList p≠0→e=.panicked [flt 2 (wA T.data.toList p)])∧(wE T.data.toList p=0→e=.returned (wdV (wrd T.data.toList p) p))∧Below w.heap.size w w':=by
 have hl:=Pl.aK T
 unfold wE wA
 by_cases hp:T.data.toList.length<p
 ·rw[if_pos hp,if_pos hp]
  refine Calls.mono (xP b T p w hr (by omega)) ?_
  rintro e w' ⟨rfl,hb⟩
  exact ⟨fun _=>by rw[←hl],fun h=>absurd h (by decide),hb⟩
 ·rw[if_neg hp,if_neg hp]
  refine Calls.mono (xd b T p w hr (by omega) hs) ?_
  rintro e w' ⟨h1,h2,hb⟩
  by_cases hw:wrd T.data.toList p=[]
  ·rw[if_pos hw];exact ⟨fun _=>h1 hw,fun h=>absurd h (by decide),hb⟩
  ·rw[if_neg hw];exact ⟨fun h=>absurd rfl h,fun _=>h2 hw,hb⟩
set_option maxRecDepth 100000 in
set_option maxHeartbeats 1000000 in
theorem Dn (b:Nat) (T:ByteArray) (p:Nat) (w:World) (hr:b8 w b T p) (hs:T.size≤65536):Calls Tryz.prog 40 #[.pointer (some ⟨b,0,none⟩)] w fun e w'=>(wE T.data.toList p≠0→e=.panicked [flt 2 (wA T.data.toList p)])∧(wE T.data.toList p=0→e=.returned (wdV (wrd T.data.toList p) p)∧b8 w' b T (p+(wrd T.data.toList p).length+1))∧Fb b w w':=by
 have hb1:Below w.heap.size w (w.alloc (.cells #[.string ⟨#[]⟩,.int .i64 0] 91)):=(Below.refl _ w).alloc (Nat.le_refl _) _
 have hr1:b8 (w.alloc (.cells #[.string ⟨#[]⟩,.int .i64 0] 91)) b T p:=af.alloc hr _
 have hq1:=af.new w 91 #[.string ⟨#[]⟩,.int .i64 0]
 have HBN:Hid (b<w.heap.size):=af.lt hr
 have HA:=rL b T p _ hr1 hs
 have hl:=Pl.aK T
 have HWL:Hid (wE T.data.toList p=0→p≤T.size∧(wrd T.data.toList p).length≤65536):=fun h=>by
  unfold wE at h
  by_cases hp:T.data.toList.length<p
  ·rw[if_pos hp] at h;cases h
  ·refine ⟨by omega,?_⟩
   unfold wrd upto
   have h1:=(List.takeWhile_sublist (l:=T.data.toList.drop p) (· != (32:UInt8))).length_le
   have h2:(T.data.toList.drop p).length=T.data.toList.length-p:=List.length_drop
   omega
 generalize wrd T.data.toList p=WD at *
 generalize wA T.data.toList p=A at *
 generalize hwe:wE T.data.toList p=E at *
 have HR:Hid (b8 (w.alloc (.cells #[.string ⟨#[]⟩,.int .i64 0] 91)) b T p):=hr1
 have HQ:Hid (af (w.alloc (.cells #[.string ⟨#[]⟩,.int .i64 0] 91)) w.heap.size 91 #[.string ⟨#[]⟩,.int .i64 0]):=hq1
 have HB:Hid _:=hb1
 clear hr hr1 hq1 hb1 hl hwe
 go_enter Tryz.func40,Tryz.ntmps40
 by_cases hE:E=0
 ·obtain ⟨hp1,hw1⟩:=HWL.out hE
  have HE0:Hid (E=0):=hE
  have HA2:Hid (Calls Tryz.prog 68 #[.pointer (some ⟨b,0,none⟩)] (w.alloc (.cells #[.string ⟨#[]⟩,.int .i64 0] 91)) fun e w'=>e=.returned (wdV WD p)∧Below (w.alloc (.cells #[.string ⟨#[]⟩,.int .i64 0] 91)).heap.size (w.alloc (.cells #[.string ⟨#[]⟩,.int .i64 0] 91)) w'):=Calls.mono HA (fun e w' h=>⟨h.2.1 hE,h.2.2⟩)
  clear HA HWL hE
  unfold wdV at HA2
  go_wp2_with fail
  refine Calls.mono HA2.out ?_
  rintro e V ⟨rfl,hb⟩
  have hrV:b8 V b T p:=af.below HR.out hb (af.lt HR.out)
  have hqV:=af.below HQ.out hb (af.lt HQ.out)
  have HBV:Hid (Below w.heap.size w V):=HB.out.trans (hb.mono HB.out.size)
  clear hb HA2
  go_upto_region 2 with fail
  have hr2:b8 (V.alloc (.cells #[.string ⟨WD.toArray⟩,.int .i64 (p:Int)] 91)) b T p:=af.alloc hrV _
  have hw2:=af.new V 91 #[.string ⟨WD.toArray⟩,.int .i64 (p:Int)]
  have hq2:=af.alloc hqV (.cells #[.string ⟨WD.toArray⟩,.int .i64 (p:Int)] 91)
  have hb2:Below w.heap.size w (V.alloc (.cells #[.string ⟨WD.toArray⟩,.int .i64 (p:Int)] 91)):=HBV.out.alloc HBV.out.size _
  have hsz:w.heap.size<V.heap.size:=af.lt hqV
  have HVB:Hid (b≠V.heap.size∧w.heap.size≠V.heap.size∧b≠w.heap.size):=⟨by have:=HBN.out;omega,by omega,by have:=HBN.out;omega⟩
  generalize V.alloc (.cells #[.string ⟨WD.toArray⟩,.int .i64 (p:Int)] 91)=V2 at *
  obtain ⟨q,hq⟩:∃q,q=V.heap.size:=⟨_,rfl⟩
  rw[←hq] at hw2 HVB ⊢
  have c1:=af.cell hr2 (i:=1) rfl
  have f1:=af.frozen hr2 1
  have w0:=af.cell hw2 (i:=0) rfl
  have hsum:(p:Int)+((WD.length:Int)+1)=((p+WD.length+1:Nat):Int):=by omega
  have HSUM:Hid _:=hsum
  have hp3:(p:Int)≤65536:=by omega
  have hw3:(WD.length:Int)≤65536:=by omega
  have HR2:Hid (b8 V2 b T p):=hr2
  have HW2:Hid (af V2 q 91 #[.string ⟨WD.toArray⟩,.int .i64 (p:Int)]):=hw2
  have HQ2:Hid (af V2 w.heap.size 91 #[.string ⟨#[]⟩,.int .i64 0]):=hq2
  have HB2:Hid _:=hb2
  clear hr2 hw2 hq2 hb2 hsz hq hrV hqV HBV hsum hp1 hw1
  go_region
  have hr3:b8 (V2.setCell ⟨b,1,none⟩ (.int .i64 ((p:Int)+((WD.length:Int)+1)))).drew b T (p+WD.length+1):=by
   have:=af.set HR2.out 1 (.int .i64 ((p:Int)+((WD.length:Int)+1)))
   unfold b8
   rw[←HSUM.out]
   exact this
  have hw3':=af.drew (af.setOther HW2.out ⟨b,1,none⟩ (.int .i64 ((p:Int)+((WD.length:Int)+1))) (fun h=>HVB.out.1 h.symm))
  have hq3:=af.drew (af.setOther HQ2.out ⟨b,1,none⟩ (.int .i64 ((p:Int)+((WD.length:Int)+1))) (fun h=>HVB.out.2.2 h.symm))
  have hb3:Fb b w (V2.setCell ⟨b,1,none⟩ (.int .i64 ((p:Int)+((WD.length:Int)+1)))).drew:=by
   have:=(Fb.of (b:=b) HB2.out).set 1 (.int .i64 ((p:Int)+((WD.length:Int)+1)))
   exact ⟨this.os,this.tape,this.output,this.size,this.block⟩
  generalize (V2.setCell ⟨b,1,none⟩ (.int .i64 ((p:Int)+((WD.length:Int)+1)))).drew=V3 at *
  have u0:=af.cell hw3' (i:=0) rfl
  have u1:=af.cell hw3' (i:=1) rfl
  have q0:=af.cell hq3 (i:=0) rfl
  have q1:=af.cell hq3 (i:=1) rfl
  have f0:=af.frozen hq3 0
  have f1':=af.frozen hq3 1
  have HQ4:Hid (af ((V3.setCell ⟨w.heap.size,0,none⟩ (.string ⟨WD.toArray⟩)).setCell ⟨w.heap.size,1,none⟩ (.int .i64 (p:Int))) w.heap.size 91 #[.string ⟨WD.toArray⟩,.int .i64 (p:Int)]):=(af.set hq3 0 _).set 1 _
  have HR4:Hid (b8 ((V3.setCell ⟨w.heap.size,0,none⟩ (.string ⟨WD.toArray⟩)).setCell ⟨w.heap.size,1,none⟩ (.int .i64 (p:Int))) b T (p+WD.length+1)):=af.setOther (af.setOther hr3 _ _ HVB.out.2.2) _ _ HVB.out.2.2
  have HB4:Hid (Fb b w ((V3.setCell ⟨w.heap.size,0,none⟩ (.string ⟨WD.toArray⟩)).setCell ⟨w.heap.size,1,none⟩ (.int .i64 (p:Int)))):=by
   refine ⟨hb3.os,hb3.tape,hb3.output,by have:=hb3.size;simpa using this,fun k hk hkb=>?_⟩
   exact (heap_setCell_other _ ⟨w.heap.size,1,none⟩ k _ (by show k≠w.heap.size;omega)).trans ((heap_setCell_other _ ⟨w.heap.size,0,none⟩ k _ (by show k≠w.heap.size;omega)).trans (hb3.block k hk hkb))
  clear hr3 hw3' hq3 hb3 HR2 HW2 HQ2 HB2 HSUM HVB
  go_wp2
  exact ⟨rfl,_,bV rfl _ _ w.heap.size 91 #[.string ⟨WD.toArray⟩,.int .i64 (p:Int)] (0,0) _ rfl HQ4.out Tryz.underlying91 rfl zK,fun h=>absurd HE0.out h,fun _=>⟨rfl,HR4.out⟩,HB4.out⟩
 ·have HA2:Hid (Calls Tryz.prog 68 #[.pointer (some ⟨b,0,none⟩)] (w.alloc (.cells #[.string ⟨#[]⟩,.int .i64 0] 91)) fun e w'=>e=.panicked [flt 2 A]∧Below (w.alloc (.cells #[.string ⟨#[]⟩,.int .i64 0] 91)).heap.size (w.alloc (.cells #[.string ⟨#[]⟩,.int .i64 0] 91)) w'):=Calls.mono HA (fun e w' h=>⟨h.1 hE,h.2.2⟩)
  have HNE:Hid (E≠0):=hE
  clear HA HWL hE
  go_wp2_with fail
  refine Calls.mono HA2.out ?_
  rintro e V ⟨rfl,hb⟩
  exact ⟨rfl,fun _=>rfl,fun h=>absurd h HNE.out,Fb.of (HB.out.trans (hb.mono HB.out.size))⟩
end Go.Proofs.YtgacaecjinlhiaaGreatDoor
