import Derived.Maps.OwnIn
import Derived.Deep.AppendLies
import Derived.Test.YtgacaecjinlhiaaGreatDoorJn33
namespace Go.Proofs.YtgacaecjinlhiaaGreatDoor
section
open Go.RowKit PK Vg
set_option maxRecDepth 100000 in
set_option maxHeartbeats 1000000 in
theorem sR (l:List UInt8) (p:Nat) (hs:l.length≤65536) (w:World) :
  Calls Tryz.prog 65 #[wdV l p] w fun e w'=>(iz l=0→e=.returned (.string ⟨l.toArray⟩))∧(iz l≠0→e=.panicked [flt (iz l) p])∧Below w.heap.size w w':=by
 obtain ⟨s,hsd⟩:∃s:ByteArray,s=⟨l.toArray⟩:=⟨_,rfl⟩
 have hsl:s.data.toList=l:=by rw[hsd]
 have hz:=Pl.aK s
 rw[hsl] at hz
 unfold wdV
 rw[←hsd]
 have hb1:Below w.heap.size w (w.alloc (.cells #[.string s,.int .i64 (p:Int)] 91)):=(Below.refl _ w).alloc (Nat.le_refl _) _
 have hq1:=af.new w 91 #[.string s,.int .i64 (p:Int)]
 have c0:=af.cell hq1 (i:=0) rfl
 have c1:=af.cell hq1 (i:=1) rfl
 have HB:Hid _:=hb1
 have HQ:Hid (af (w.alloc (.cells #[.string s,.int .i64 (p:Int)] 91)) w.heap.size 91 #[.string s,.int .i64 (p:Int)]):=hq1
 have HK:Hid (∀X,Calls Tryz.prog 70 #[.string s] X fun e w'=>e=.returned (.int .i64 (iz l))∧Below X.heap.size X w'):=fun X=>by rw[←hsl];exact DE s X
 generalize iz l=E at *
 have hss:s.size≤65536:=by omega
 clear hz hsl hsd hb1 hq1 c0 c1
 go_enter Tryz.func65,Tryz.ntmps65
 go_wp2_with fail
 by_cases hE:E=0
 ·have HE0:Hid (E=0):=hE
  have HP:Hid (∀X,Calls Tryz.prog 24 #[.int .i64 E,.int .i64 (p:Int)] X fun e w'=>e=.returned (.tuple #[])∧w'=X):=fun X=>by rw[hE];exact fX _ X
  clear hE
  refine wp_region_noPanic ?_
  refine wp_region_held_drew (S:=fun W=>af W w.heap.size 91 #[.string s,.int .i64 (p:Int)]∧Below w.heap.size w W) (by kernel_rfl) ⟨HQ.out,HB.out.drew⟩ (fun hS=>?_)
  refine vtk 0 3 (.pointer (some ⟨w.heap.size,0,none⟩)) rfl (fun W hW=>by clear hS hW;go_simp) hS ?_
  simp only[zsA,zsB,zsC]
  refine vtk 1 4 (.string s) rfl (fun W hW=>by have u:=af.cell hW.1 (i:=0) rfl;clear hS hW;go_simp) hS ?_
  simp only[zsA,zsB,zsC]
  refine vtk 3 6 (.pointer (some ⟨w.heap.size,1,none⟩)) rfl (fun W hW=>by clear hS hW;go_simp) hS ?_
  simp only[zsA,zsB,zsC]
  refine vtk 4 7 (.int .i64 (p:Int)) rfl (fun W hW=>by have u:=af.cell hW.1 (i:=1) rfl;clear hS hW;go_simp) hS ?_
  simp only[zsA,zsB,zsC]
  refine rd1 2 rfl (fun K hK=>?_)
  go_simp
  refine Calls.mono (HK.out _) ?_
  rintro e Y ⟨rfl,hbx⟩
  refine hK.out _ _ (⟨af.below hS.1 hbx (af.lt hS.1),hS.2.trans (hbx.mono hS.2.size)⟩) (fun hS1=>?_)
  clear hK hS K
  have hS:=hS1
  clear hS1
  refine rd1 5 rfl (fun K hK=>?_)
  go_simp
  refine Calls.mono (HP.out _) ?_
  rintro e Y ⟨rfl,rfl⟩
  refine hK.out _ _ (hS) (fun hS1=>?_)
  clear hK hS K
  have hS:=hS1
  clear hS1
  refine wpAnyH_done (by kernel_rfl) ?_ _
  refine NoPanic.normal ?_
  have HY:Hid (Below w.heap.size w Y):=hS.2
  have u0:=af.cell hS.1 (i:=0) rfl
  have HC:Hid _:=sE s hss Y
  clear hS
  go_wp2_with fail
  refine Calls.mono HC.out ?_
  rintro e V ⟨rfl,hb⟩
  go_wp2
  go_ret
  exact ⟨fun _=>rfl,fun h=>absurd HE0.out h,HY.out.trans (hb.mono HY.out.size)⟩
 ·have HNE2:Hid (E≠0):=hE
  have HP:Hid (∀X,Calls Tryz.prog 24 #[.int .i64 E,.int .i64 (p:Int)] X fun e w'=>e=.panicked [flt E (p:Int)]∧w'=X):=fun X=>gJ E _ (by simpa using hE) X
  clear hE
  refine wp_region_held_drew (S:=fun W=>af W w.heap.size 91 #[.string s,.int .i64 (p:Int)]∧Below w.heap.size w W) (by kernel_rfl) ⟨HQ.out,HB.out.drew⟩ (fun hS=>?_)
  refine aY 0 3 (.pointer (some ⟨w.heap.size,0,none⟩)) rfl rfl (by kernel_rfl) (by kernel_rfl) (by kernel_rfl) (fun _ _ _ h=>h) (by rfl) (fun W hW=>by clear hS hW;go_simp) hS ?_
  simp only[zsA,zsB,zsC]
  refine aY 1 4 (.string s) rfl rfl (by kernel_rfl) (by kernel_rfl) (by kernel_rfl) (fun _ _ _ h=>h) (by rfl) (fun W hW=>by have u:=af.cell hW.1 (i:=0) rfl;clear hS hW;go_simp) hS ?_
  simp only[zsA,zsB,zsC]
  refine aY 3 6 (.pointer (some ⟨w.heap.size,1,none⟩)) rfl rfl (by kernel_rfl) (by kernel_rfl) (by kernel_rfl) (fun _ _ _ h=>h) (by rfl) (fun W hW=>by clear hS hW;go_simp) hS ?_
  simp only[zsA,zsB,zsC]
  refine aY 4 7 (.int .i64 (p:Int)) rfl rfl (by kernel_rfl) (by kernel_rfl) (by kernel_rfl) (fun _ _ _ h=>h) (by rfl) (fun W hW=>by have u:=af.cell hW.1 (i:=1) rfl;clear hS hW;go_simp) hS ?_
  simp only[zsA,zsB,zsC]
  refine rd1 2 rfl (fun K hK=>?_)
  go_simp
  refine Calls.mono (HK.out _) ?_
  rintro e Y ⟨rfl,hbx⟩
  refine hK.out _ _ (⟨af.below hS.1 hbx (af.lt hS.1),hS.2.trans (hbx.mono hS.2.size)⟩) (fun hS1=>?_)
  clear hK hS K
  have hS:=hS1
  clear hS1
  refine rd1 5 rfl (fun K hK=>?_)
  go_simp
  refine Calls.mono (HP.out _) ?_
  rintro e Y ⟨rfl,rfl⟩
  exact ⟨rfl,fun h=>absurd h HNE2.out,fun _=>rfl,hS.2⟩
set_option maxRecDepth 100000 in
set_option maxHeartbeats 1000000 in
theorem DO (l:List UInt8) (p:Nat) (w:World) :
  Calls Tryz.prog 99 #[wdV l p] w fun e w'=>(miE l=0→e=.returned (.agg (ints 26 (miP l))))∧(miE l≠0→e=.panicked [flt (miE l) p])∧Below w.heap.size w w':=by
 obtain ⟨s,hsd⟩:∃s:ByteArray,s=⟨l.toArray⟩:=⟨_,rfl⟩
 have hsl:s.data.toList=l:=by rw[hsd]
 have hz:=Pl.aK s
 rw[hsl] at hz
 unfold wdV
 rw[←hsd]
 have hb1:Below w.heap.size w (w.alloc (.cells #[.string s,.int .i64 (p:Int)] 91)):=(Below.refl _ w).alloc (Nat.le_refl _) _
 have hq1:=af.new w 91 #[.string s,.int .i64 (p:Int)]
 have c0:=af.cell hq1 (i:=0) rfl
 have c1:=af.cell hq1 (i:=1) rfl
 have HB:Hid _:=hb1
 have HQ:Hid (af (w.alloc (.cells #[.string s,.int .i64 (p:Int)] 91)) w.heap.size 91 #[.string s,.int .i64 (p:Int)]):=hq1
 obtain ⟨W2,hW2⟩:∃W2,W2=(w.alloc (.cells #[.string s,.int .i64 (p:Int)] 91)).alloc (.cells (ints 26 fun _=>0) 25):=⟨_,rfl⟩
 have hb2:Below w.heap.size w W2:=by rw[hW2];exact HB.out.alloc HB.out.size _
 have hq2:af W2 w.heap.size 91 #[.string s,.int .i64 (p:Int)]:=by rw[hW2];exact af.alloc hq1 _
 have hr2:af W2 (w.heap.size+1) 25 (ints 26 fun _=>0):=by rw[hW2];have:=af.new (w.alloc (.cells #[.string s,.int .i64 (p:Int)] 91)) 25 (ints 26 fun _=>0);simpa using this
 have HM:Hid (Calls Tryz.prog 122 #[.string s] W2 fun e w'=>e=.returned (.tuple #[.agg (ints 26 (miP l)),.int .i64 (miE l)])∧Below W2.heap.size W2 w'):=by rw[←hsl];exact yZ s W2
 have u0:=af.cell hq2 (i:=0) rfl
 have HQ2:Hid (af W2 w.heap.size 91 #[.string s,.int .i64 (p:Int)]):=hq2
 have HR2:Hid (af W2 (w.heap.size+1) 25 (ints 26 fun _=>0)):=hr2
 have HB2:Hid _:=hb2
 have hz26:=cm c6
 clear hz hsl hsd hb1 hq1 c0 c1 hb2 hq2 hr2
 generalize miE l=E at *
 generalize miP l=MP at *
 go_enter Tryz.func99,Tryz.ntmps99
 go_upto_region 1 with fail
 rw[←hW2]
 clear hW2
 go_wp2_with fail
 refine Calls.mono HM.out ?_
 rintro e V ⟨rfl,hb⟩
 have hqV:=af.below HQ2.out hb (af.lt HQ2.out)
 have hrV:=af.below HR2.out hb (af.lt HR2.out)
 have HBV:Hid (Below w.heap.size w V):=HB2.out.trans (hb.mono HB2.out.size)
 have hbig:w.heap.size+1<V.heap.size:=af.lt hrV
 clear hb HM u0
 go_upto_region 2 with (first | refine wpList_store_row rfl 25 _ _ rfl V.heap.size (ints 26 MP) rfl rfl 25 _ (af.new V _ _) (by rw[ag];exact aj) (by rw[ag,ag]) (aI _ _) ?_)
 obtain ⟨W3,hW3⟩:∃W3,W3=(V.alloc (.cells (ints 26 fun _=>0) 25)).setRow V.heap.size (ints 26 MP):=⟨_,rfl⟩
 have hq3:af W3 w.heap.size 91 #[.string s,.int .i64 (p:Int)]:=by rw[hW3];exact af.aX (af.alloc hqV _) _ _ (by omega)
 have hr3:af W3 (w.heap.size+1) 25 (ints 26 fun _=>0):=by rw[hW3];exact af.aX (af.alloc hrV _) _ _ (by omega)
 have hm3:af W3 V.heap.size 25 (ints 26 MP):=by rw[hW3];exact af.row (af.new V _ _) _
 have HB3:Hid (Below w.heap.size w W3):=by rw[Hid,hW3];exact PK.Below.setRow (HBV.out.alloc HBV.out.size _) _ HBV.out.size _
 rw[←hW3]
 have u1:=af.cell hq3 (i:=1) rfl
 clear hW3 hqV hrV hz26
 by_cases hE:E=0
 ·have HE0:Hid (E=0):=hE
  have HP:Hid (Calls Tryz.prog 24 #[.int .i64 E,.int .i64 (p:Int)] W3 fun e w'=>e=.returned (.tuple #[])∧w'=W3):=by rw[hE];exact fX _ W3
  clear hE
  go_wp2_with fail
  refine Calls.mono HP.out ?_
  rintro e V2 ⟨rfl,rfl⟩
  have HR4:Hid (af (V2.setRow (w.heap.size+1) (ints 26 MP)) (w.heap.size+1) 25 (ints 26 MP)):=af.row hr3 _
  have HB4:Hid (Below w.heap.size w (V2.setRow (w.heap.size+1) (ints 26 MP))):=PK.Below.setRow HB3.out _ (by omega) _
  go_wp2_with (first | refine wpList_load_row rfl 25 _ rfl V.heap.size rfl 25 (ints 26 MP) (0,0) _ hm3 Tryz.underlying25 rfl (by rw[ag];exact aj) ?_ | refine wpList_store_row rfl 25 _ _ rfl (w.heap.size+1) (ints 26 MP) rfl rfl 25 _ hr3 (by rw[ag];exact aj) (by rw[ag,ag]) (aI _ _) ?_)
  exact ⟨rfl,_,bV rfl _ _ (w.heap.size+1) 25 (ints 26 MP) (0,0) _ rfl HR4.out Tryz.underlying25 rfl (by rw[ag];exact aj),fun _=>rfl,fun h=>absurd HE0.out h,HB4.out⟩
 ·have HNE2:Hid (E≠0):=hE
  have HP:Hid (Calls Tryz.prog 24 #[.int .i64 E,.int .i64 (p:Int)] W3 fun e w'=>e=.panicked [flt E (p:Int)]∧w'=W3):=gJ E _ (by simpa using hE) W3
  clear hE
  go_wp2_with fail
  refine Calls.mono HP.out ?_
  rintro e V2 ⟨rfl,rfl⟩
  exact ⟨rfl,fun h=>absurd h HNE2.out,fun _=>rfl,HB3.out⟩
end
section
open Go.RowKit PK Vg
def Fr0 (B:Nat) (v:Value):Prop:=∀a n c,v=.slice (some a) n c→B≤a.block
set_option maxRecDepth 100000 in
set_option maxHeartbeats 4000000 in
theorem Bd (name:ByteArray) (w:World):Calls Tryz.prog 121 #[.string name] w fun e w'=>∃R,e=.returned (.tuple #[.agg (whl (knW name.data.toList) R),.int .i64 (knE name.data.toList)])∧aq w' R (knN name.data.toList).length (fun i=>((knN name.data.toList).getD i 0:Nat))∧Fr0 w.heap.size R∧Below w.heap.size w w':=by
 have hz27:=cm fP
 have hr0:=af.new w 104 (whl (fun _=>0) (.slice none 0 0))
 have hb0:Below w.heap.size w (w.alloc (.cells (whl (fun _=>0) (.slice none 0 0)) 104)):=(Below.refl _ w).alloc (Nat.le_refl _) _
 have q0:=ia [73] name
 have q1:=ia [73,73] name
 have q2:=ia [73,73,73] name
 have q3:=ia [73,86] name
 have q4:=ia [86] name
 by_cases h0:name.data.toList=[73]
 ·have HKW:Hid (knW name.data.toList=spl kw1):=by rw[Hid,h0];rfl
  have HKN:Hid (knN name.data.toList=[Vg.num 81]):=by rw[Hid,h0];rfl
  have HKE:Hid (knE name.data.toList=0):=by rw[Hid,h0];rfl
  rw[decide_eq_true h0] at q0
  have HC:=(show Hid (∀W,Calls Tryz.prog 148 #[.string ⟨#[69,75,77,70,76,71,68,81,86,90,78,84,79,87,89,72,88,85,83,80,65,73,66,82,67,74]⟩,.int .u8 81] W fun e w'=>∃B,e=.returned (.agg (whl (spl kw1) (.slice (some ⟨B,0,none⟩) 1 1)))∧W.heap.size≤B∧aq w' (.slice (some ⟨B,0,none⟩) 1 1) [Vg.num 81].length (fun i=>(([Vg.num 81].getD i 0:Nat):Int))∧Below W.heap.size W w') from fun W=>eP ⟨kw1.toArray⟩ (kJ (by decide)) (by decide) 81 (by decide) W)
  clear h0 q1 q2 q3 q4
  go_enter Tryz.func121,Tryz.ntmps121
  go_wp2_with fail
  refine (HC.out _).mono ?_
  rintro e V ⟨B,rfl,hB,hn,hb⟩
  have HBB:Hid (w.heap.size≤B):=by rw[Hid];simp at hB;omega
  have hr1:=hr0.below hb hr0.lt
  have hb1:=hb0.trans (hb.mono hb0.size)
  have hlt:=hr0.lt
  have HN:=(show Hid _ from gS hn w.heap.size (whl (spl kw1) (.slice (some ⟨B,0,none⟩) 1 1)) (by intro e;injection e with e;exact absurd e (by show ¬B=w.heap.size;omega)))
  clear hb hr0 hb0 HC hz27 hn
  generalize spl kw1=f at *
  go_wp2_with (first | refine wpList_store_row rfl 104 _ _ rfl w.heap.size (whl f (.slice (some ⟨B,0,none⟩) 1 1)) rfl rfl 104 _ hr1 (by rw[aH];exact aT) (by simp only[aH]) (eM rfl) ?_)
  refine bodyPost_ret (v:=.tuple #[.agg (whl f (.slice (some ⟨B,0,none⟩) 1 1)),.int .i64 0]) (aG rfl _ _ w.heap.size 104 _ (0,0) _ _ rfl rfl (hr1.row _) Tryz.underlying104 rfl (by rw[aH];exact aT)) rfl ?_
  rw[HKW.out,HKE.out,HKN.out]
  exact ⟨_,rfl,HN.out,(fun a n c e=>by cases e;exact HBB.out),Below.setRow hb1 _ (Nat.le_refl _) _⟩
 ·rw[decide_eq_false h0] at q0
  by_cases h1:name.data.toList=[73,73]
  ·have HKW:Hid (knW name.data.toList=spl kw2):=by rw[Hid,h1];rfl
   have HKN:Hid (knN name.data.toList=[Vg.num 69]):=by rw[Hid,h1];rfl
   have HKE:Hid (knE name.data.toList=0):=by rw[Hid,h1];rfl
   rw[decide_eq_true h1] at q1
   have HC:=(show Hid (∀W,Calls Tryz.prog 148 #[.string ⟨#[65,74,68,75,83,73,82,85,88,66,76,72,87,84,77,67,81,71,90,78,80,89,70,86,79,69]⟩,.int .u8 69] W fun e w'=>∃B,e=.returned (.agg (whl (spl kw2) (.slice (some ⟨B,0,none⟩) 1 1)))∧W.heap.size≤B∧aq w' (.slice (some ⟨B,0,none⟩) 1 1) [Vg.num 69].length (fun i=>(([Vg.num 69].getD i 0:Nat):Int))∧Below W.heap.size W w') from fun W=>eP ⟨kw2.toArray⟩ (kJ (by decide)) (by decide) 69 (by decide) W)
   clear h0 h1 q2 q3 q4
   go_enter Tryz.func121,Tryz.ntmps121
   go_wp2_with fail
   refine (HC.out _).mono ?_
   rintro e V ⟨B,rfl,hB,hn,hb⟩
   have HBB:Hid (w.heap.size≤B):=by rw[Hid];simp at hB;omega
   have hr1:=hr0.below hb hr0.lt
   have hb1:=hb0.trans (hb.mono hb0.size)
   have hlt:=hr0.lt
   have HN:=(show Hid _ from gS hn w.heap.size (whl (spl kw2) (.slice (some ⟨B,0,none⟩) 1 1)) (by intro e;injection e with e;exact absurd e (by show ¬B=w.heap.size;omega)))
   clear hb hr0 hb0 HC hz27 hn
   generalize spl kw2=f at *
   go_wp2_with (first | refine wpList_store_row rfl 104 _ _ rfl w.heap.size (whl f (.slice (some ⟨B,0,none⟩) 1 1)) rfl rfl 104 _ hr1 (by rw[aH];exact aT) (by simp only[aH]) (eM rfl) ?_)
   refine bodyPost_ret (v:=.tuple #[.agg (whl f (.slice (some ⟨B,0,none⟩) 1 1)),.int .i64 0]) (aG rfl _ _ w.heap.size 104 _ (0,0) _ _ rfl rfl (hr1.row _) Tryz.underlying104 rfl (by rw[aH];exact aT)) rfl ?_
   rw[HKW.out,HKE.out,HKN.out]
   exact ⟨_,rfl,HN.out,(fun a n c e=>by cases e;exact HBB.out),Below.setRow hb1 _ (Nat.le_refl _) _⟩
  ·rw[decide_eq_false h1] at q1
   by_cases h2:name.data.toList=[73,73,73]
   ·have HKW:Hid (knW name.data.toList=spl kw3):=by rw[Hid,h2];rfl
    have HKN:Hid (knN name.data.toList=[Vg.num 86]):=by rw[Hid,h2];rfl
    have HKE:Hid (knE name.data.toList=0):=by rw[Hid,h2];rfl
    rw[decide_eq_true h2] at q2
    have HC:=(show Hid (∀W,Calls Tryz.prog 148 #[.string ⟨#[66,68,70,72,74,76,67,80,82,84,88,86,90,78,89,69,73,87,71,65,75,77,85,83,81,79]⟩,.int .u8 86] W fun e w'=>∃B,e=.returned (.agg (whl (spl kw3) (.slice (some ⟨B,0,none⟩) 1 1)))∧W.heap.size≤B∧aq w' (.slice (some ⟨B,0,none⟩) 1 1) [Vg.num 86].length (fun i=>(([Vg.num 86].getD i 0:Nat):Int))∧Below W.heap.size W w') from fun W=>eP ⟨kw3.toArray⟩ (kJ (by decide)) (by decide) 86 (by decide) W)
    clear h0 h1 h2 q3 q4
    go_enter Tryz.func121,Tryz.ntmps121
    go_wp2_with fail
    refine (HC.out _).mono ?_
    rintro e V ⟨B,rfl,hB,hn,hb⟩
    have HBB:Hid (w.heap.size≤B):=by rw[Hid];simp at hB;omega
    have hr1:=hr0.below hb hr0.lt
    have hb1:=hb0.trans (hb.mono hb0.size)
    have hlt:=hr0.lt
    have HN:=(show Hid _ from gS hn w.heap.size (whl (spl kw3) (.slice (some ⟨B,0,none⟩) 1 1)) (by intro e;injection e with e;exact absurd e (by show ¬B=w.heap.size;omega)))
    clear hb hr0 hb0 HC hz27 hn
    generalize spl kw3=f at *
    go_wp2_with (first | refine wpList_store_row rfl 104 _ _ rfl w.heap.size (whl f (.slice (some ⟨B,0,none⟩) 1 1)) rfl rfl 104 _ hr1 (by rw[aH];exact aT) (by simp only[aH]) (eM rfl) ?_)
    refine bodyPost_ret (v:=.tuple #[.agg (whl f (.slice (some ⟨B,0,none⟩) 1 1)),.int .i64 0]) (aG rfl _ _ w.heap.size 104 _ (0,0) _ _ rfl rfl (hr1.row _) Tryz.underlying104 rfl (by rw[aH];exact aT)) rfl ?_
    rw[HKW.out,HKE.out,HKN.out]
    exact ⟨_,rfl,HN.out,(fun a n c e=>by cases e;exact HBB.out),Below.setRow hb1 _ (Nat.le_refl _) _⟩
   ·rw[decide_eq_false h2] at q2
    by_cases h3:name.data.toList=[73,86]
    ·have HKW:Hid (knW name.data.toList=spl kw4):=by rw[Hid,h3];rfl
     have HKN:Hid (knN name.data.toList=[Vg.num 74]):=by rw[Hid,h3];rfl
     have HKE:Hid (knE name.data.toList=0):=by rw[Hid,h3];rfl
     rw[decide_eq_true h3] at q3
     have HC:=(show Hid (∀W,Calls Tryz.prog 148 #[.string ⟨#[69,83,79,86,80,90,74,65,89,81,85,73,82,72,88,76,78,70,84,71,75,68,67,77,87,66]⟩,.int .u8 74] W fun e w'=>∃B,e=.returned (.agg (whl (spl kw4) (.slice (some ⟨B,0,none⟩) 1 1)))∧W.heap.size≤B∧aq w' (.slice (some ⟨B,0,none⟩) 1 1) [Vg.num 74].length (fun i=>(([Vg.num 74].getD i 0:Nat):Int))∧Below W.heap.size W w') from fun W=>eP ⟨kw4.toArray⟩ (kJ (by decide)) (by decide) 74 (by decide) W)
     clear h0 h1 h2 h3 q4
     go_enter Tryz.func121,Tryz.ntmps121
     go_wp2_with fail
     refine (HC.out _).mono ?_
     rintro e V ⟨B,rfl,hB,hn,hb⟩
     have HBB:Hid (w.heap.size≤B):=by rw[Hid];simp at hB;omega
     have hr1:=hr0.below hb hr0.lt
     have hb1:=hb0.trans (hb.mono hb0.size)
     have hlt:=hr0.lt
     have HN:=(show Hid _ from gS hn w.heap.size (whl (spl kw4) (.slice (some ⟨B,0,none⟩) 1 1)) (by intro e;injection e with e;exact absurd e (by show ¬B=w.heap.size;omega)))
     clear hb hr0 hb0 HC hz27 hn
     generalize spl kw4=f at *
     go_wp2_with (first | refine wpList_store_row rfl 104 _ _ rfl w.heap.size (whl f (.slice (some ⟨B,0,none⟩) 1 1)) rfl rfl 104 _ hr1 (by rw[aH];exact aT) (by simp only[aH]) (eM rfl) ?_)
     refine bodyPost_ret (v:=.tuple #[.agg (whl f (.slice (some ⟨B,0,none⟩) 1 1)),.int .i64 0]) (aG rfl _ _ w.heap.size 104 _ (0,0) _ _ rfl rfl (hr1.row _) Tryz.underlying104 rfl (by rw[aH];exact aT)) rfl ?_
     rw[HKW.out,HKE.out,HKN.out]
     exact ⟨_,rfl,HN.out,(fun a n c e=>by cases e;exact HBB.out),Below.setRow hb1 _ (Nat.le_refl _) _⟩
    ·rw[decide_eq_false h3] at q3
     by_cases h4:name.data.toList=[86]
     ·have HKW:Hid (knW name.data.toList=spl kw5):=by rw[Hid,h4];rfl
      have HKN:Hid (knN name.data.toList=[Vg.num 90]):=by rw[Hid,h4];rfl
      have HKE:Hid (knE name.data.toList=0):=by rw[Hid,h4];rfl
      rw[decide_eq_true h4] at q4
      have HC:=(show Hid (∀W,Calls Tryz.prog 148 #[.string ⟨#[86,90,66,82,71,73,84,89,85,80,83,68,78,72,76,88,65,87,77,74,81,79,70,69,67,75]⟩,.int .u8 90] W fun e w'=>∃B,e=.returned (.agg (whl (spl kw5) (.slice (some ⟨B,0,none⟩) 1 1)))∧W.heap.size≤B∧aq w' (.slice (some ⟨B,0,none⟩) 1 1) [Vg.num 90].length (fun i=>(([Vg.num 90].getD i 0:Nat):Int))∧Below W.heap.size W w') from fun W=>eP ⟨kw5.toArray⟩ (kJ (by decide)) (by decide) 90 (by decide) W)
      clear h0 h1 h2 h3 h4
      go_enter Tryz.func121,Tryz.ntmps121
      go_wp2_with fail
      refine (HC.out _).mono ?_
      rintro e V ⟨B,rfl,hB,hn,hb⟩
      have HBB:Hid (w.heap.size≤B):=by rw[Hid];simp at hB;omega
      have hr1:=hr0.below hb hr0.lt
      have hb1:=hb0.trans (hb.mono hb0.size)
      have hlt:=hr0.lt
      have HN:=(show Hid _ from gS hn w.heap.size (whl (spl kw5) (.slice (some ⟨B,0,none⟩) 1 1)) (by intro e;injection e with e;exact absurd e (by show ¬B=w.heap.size;omega)))
      clear hb hr0 hb0 HC hz27 hn
      generalize spl kw5=f at *
      go_wp2_with (first | refine wpList_store_row rfl 104 _ _ rfl w.heap.size (whl f (.slice (some ⟨B,0,none⟩) 1 1)) rfl rfl 104 _ hr1 (by rw[aH];exact aT) (by simp only[aH]) (eM rfl) ?_)
      refine bodyPost_ret (v:=.tuple #[.agg (whl f (.slice (some ⟨B,0,none⟩) 1 1)),.int .i64 0]) (aG rfl _ _ w.heap.size 104 _ (0,0) _ _ rfl rfl (hr1.row _) Tryz.underlying104 rfl (by rw[aH];exact aT)) rfl ?_
      rw[HKW.out,HKE.out,HKN.out]
      exact ⟨_,rfl,HN.out,(fun a n c e=>by cases e;exact HBB.out),Below.setRow hb1 _ (Nat.le_refl _) _⟩
     ·rw[decide_eq_false h4] at q4
      have hnone:knI name.data.toList=none:=FZ fun i hi e=>by
       rcases (by omega:i=0∨i=1∨i=2∨i=3∨i=4) with rfl | rfl | rfl | rfl | rfl
       ·exact h0 e.symm
       ·exact h1 e.symm
       ·exact h2 e.symm
       ·exact h3 e.symm
       ·exact h4 e.symm
      have HKW:Hid (knW name.data.toList=fun _=>0):=by unfold knW;rw[Hid,hnone]
      have HKN:Hid (knN name.data.toList=[]):=by unfold knN;rw[Hid,hnone]
      have HKE:Hid (knE name.data.toList=7):=by unfold knE;rw[Hid,hnone]
      clear h0 h1 h2 h3 h4 hnone
      go_enter Tryz.func121,Tryz.ntmps121
      go_wp2_with (first | refine cP rfl 104 rfl _ xG ?_ | refine wpList_store_row rfl 104 _ _ rfl w.heap.size (whl (fun _=>0) (.slice none 0 0)) rfl rfl 104 _ hr0 (by rw[aH];exact aT) (by simp only[aH]) (eM rfl) ?_)
      refine bodyPost_ret (v:=.tuple #[.agg (whl (fun _=>0) (.slice none 0 0)),.int .i64 7]) (aG rfl _ _ w.heap.size 104 _ (0,0) _ _ rfl rfl (hr0.row _) Tryz.underlying104 rfl (by rw[aH];exact aT)) rfl ?_
      rw[HKW.out,HKE.out,HKN.out]
      exact ⟨_,rfl,⟨none,0,rfl,by decide,fun c hc=>by cases hc⟩,(fun a n c e=>by cases e),Below.setRow hb0 _ (Nat.le_refl _) _⟩
end
section
open Go.RowKit PK Vg
def Nw (B E:Nat) (P:World→Prop) (W:World):Prop:=∀W',(∀b o x,B≤b→b<E→W.cell? ⟨b,o,none⟩=some x→W'.cell? ⟨b,o,none⟩=some x)→P W'
theorem Nw.here {B E:Nat} {P:World→Prop} {W:World} (h:Nw B E P W):P W:=h W (fun _ _ _ _ _ h=>h)
theorem Nw.keep {B E:Nat} {P:World→Prop} {W W':World} (h:Nw B E P W) (hk:∀b o x,B≤b→b<E→W.cell? ⟨b,o,none⟩=some x→W'.cell? ⟨b,o,none⟩=some x):Nw B E P W':=fun W2 h2=>h W2 (fun b o x h3 h4 h5=>h2 b o x h3 h4 (hk b o x h3 h4 h5))
theorem Nw.mono {B E B' E':Nat} {P:World→Prop} {W:World} (h:Nw B E P W) (hB:B'≤B) (hE:E≤E'):Nw B' E' P W:=fun W2 h2=>h W2 (fun b o x h3 h4 h5=>h2 b o x (by omega) (by omega) h5)
theorem Nw.imp {B E:Nat} {P Q:World→Prop} {W:World} (h:Nw B E P W) (hi:∀W,P W→Q W):Nw B E Q W:=fun W2 h2=>hi W2 (h W2 h2)
theorem Nw.below {B E:Nat} {P:World→Prop} {W W':World} (h:Nw B E P W) (hb:Below W.heap.size W W'):Nw B E P W':=h.keep fun b o _ _ _ h5=>(hb.cell (p:=⟨b,o,none⟩) (aA h5)).trans h5
theorem lp {W:World} {b o:Nat} {x:Value} (h:W.cell? ⟨b,o,none⟩=some x):∃c T z,W.heap[b]? = some (.cells c T z):=by
 unfold World.cell? at h
 split at h
 ·exact ⟨_,_,_,by assumption⟩
 all_goals first | cases h | simp at h
theorem Nw.grown {B E:Nat} {P:World→Prop} {W W':World} {row:Option Nat} (h:Nw B E P W) (hg:W.grownBy W' row) (hr:∀r,row=some r→(r<B∨E≤r)∨∃o:Obj,W.heap[r]? = some o∧o.isCells=false):Nw B E P W':=h.keep fun b o x h3 h4 h5=>by
 refine (hg.cell_far ⟨b,o,none⟩ (aA h5) (fun e=>?_)).trans h5
 rcases hr b e.symm with h6 | ⟨o2,h6,h7⟩
 ·omega
 ·obtain ⟨c,T,z,h8⟩:=lp h5
  rw[h8] at h6
  cases h6
  cases h7
theorem s9 {W:World} {B n:Nat} {R:Value} {f:Nat→Int} (h:aq W R n f) (hf:Fr0 B R):Nw B W.heap.size (fun W=>aq W R n f) W:=by
 intro W' hk
 obtain ⟨a,cap,rfl,hm,hc⟩:=h
 refine ⟨a,cap,rfl,hm,fun c hcn=>?_⟩
 obtain ⟨b,o,rfl,hcell⟩:=hc c hcn
 exact ⟨b,o,rfl,hk b _ _ (hf _ _ _ rfl) (aA hcell) hcell⟩
def rws (f:Nat→Array Value):Nat→List Value
 | 0=>[]
 | k+1=>rws f k++(f k).toList
theorem Ab {f:Nat→Array Value} {s:Nat}:∀{k:Nat},(∀i,i<k→(f i).size=s)→(rws f k).length=k*s
 | 0,_=>by simp[rws]
 | k+1,h=>by
  rw[rws,List.length_append,Ab (fun i hi=>h i (by omega)),Array.length_toList,h k (by omega),Nat.succ_mul]
theorem zb {f:Nat→Array Value} {s:Nat}:∀{k:Nat},(∀i,i<k→(f i).size=s)→∀r,r<k→∀j v,(f r).toList[j]? = some v→(rws f k)[r*s+j]? = some v
 | 0,_,r,hr,_,_,_=>by omega
 | k+1,h,r,hr,j,v,hv=>by
  have hl:=Ab (f:=f) (s:=s) (k:=k) (fun i hi=>h i (by omega))
  have hj:j<s:=by
   have:=(List.getElem?_eq_some_iff.1 hv).1
   rw[Array.length_toList,h r hr] at this
   exact this
  rw[rws]
  by_cases e:r=k
  ·subst e
   rw[List.getElem?_append_right (by omega),hl,Nat.add_sub_cancel_left]
   exact hv
  ·have h1:r*s+j<k*s:=by
    have:(r+1)*s≤k*s:=Nat.mul_le_mul_right s (by omega)
    rw[Nat.succ_mul] at this
    omega
   rw[List.getElem?_append_left (by omega)]
   exact zb (fun i hi=>h i (by omega)) r (by omega) j v hv
theorem sF {W:World} {B k s:Nat} {T:TypeId} {v:Value} {f:Nat→Array Value} (h:W.ownsRow B T s v k (rws f k)) (hs:∀i,i<k→(f i).size=s):∃a cap,v=.slice a k cap∧k≤maxLen∧∀r,r<k→∃b o,a=some ⟨b,o,none⟩∧B≤b∧W.rangeAt b (o+r*s) (f r).toList:=by
 obtain ⟨hl,⟨rfl,rfl⟩ | ⟨g,cap,cur,rfl,h1,h2,h3,h4,h5,h6⟩⟩:=h
 ·exact ⟨none,0,rfl,by decide,fun r hr=>by omega⟩
 ·refine ⟨_,cap,rfl,by omega,fun r hr=>⟨g,0,rfl,h1,fun j v hv=>?_⟩⟩
  have h7:=zb hs r hr j v hv
  rw[←h6] at h7
  have h8:cur[r*s+j]? = some v:=by
   rw[List.getElem?_take] at h7
   split at h7
   ·rw[←Array.getElem?_toList];exact h7
   ·cases h7
  rw[Nat.zero_add]
  exact (cell_of_row W g (r*s+j) cur T (0,0) h2).trans h8
theorem pX {w w':World} {B:Nat} {T:TypeId} {s n:Nat} {v:Value} {l:List Value} (h:w.ownsRow B T s v n l) (hb:Below w.heap.size w w'):w'.ownsRow B T s v n l:=by
 obtain ⟨h1,h2⟩:=h
 refine ⟨h1,?_⟩
 rcases h2 with h2 | ⟨g,cap,cur,e,hB,hg,h3⟩
 ·exact .inl h2
 ·exact .inr ⟨g,cap,cur,e,hB,(hb.block g (Array.getElem?_eq_some_iff.1 hg).1).trans hg,h3⟩
theorem qw {w:World} {B:Nat} {T:TypeId} {s n:Nat} {v:Value} {l:List Value} (h:w.ownsRow B T s v n l):∀g,v.ownBlock=some g→∃c,w.heap[g]? = some (.cells c T (0,0)):=by
 obtain ⟨_,⟨rfl,_⟩ | ⟨g,cap,cur,rfl,_,h2,_⟩⟩:=h
 ·intro g hg;cases hg
 ·intro g2 hg2;cases hg2;exact ⟨_,h2⟩
structure WhO (W:World) (B:Nat) (v:Value) (k:Nat) (N:Nat→List UInt8) (R:Nat→Value):Prop where
 own:W.ownsRow B 104 27 v k (rws (fun i=>whl (knW (N i)) (R i)) k)
 Bm:∀j,j<k→∃b e,B≤b∧e≤W.heap.size∧(∀g,v.ownBlock=some g→g<b∨e≤g)∧Nw b e (fun W=>aq W (R j) (knN (N j)).length (fun i=>((knN (N j)).getD i 0:Nat))) W
theorem WhO.nil (W:World) (B:Nat) (N:Nat→List UInt8) (R:Nat→Value):WhO W B (.slice none 0 0) 0 N R:=⟨World.ownsRow_nil W B _ 27,fun j hj=>by omega⟩
theorem WhO.grown {W W':World} {B k:Nat} {v:Value} {N:Nat→List UInt8} {R:Nat→Value} {row:Option Nat} (h:WhO W B v k N R) (hg:W.grownBy W' row) (hr:∀r,row=some r→r<B∨∃o:Obj,W.heap[r]? = some o∧o.isCells=false):WhO W' B v k N R:=by
 refine ⟨h.own.kept hg ?_,fun j hj=>?_⟩
 ·cases hv:v.ownBlock with
  | none=>exact .inl rfl
  | some g =>
   right
   intro e
   have hl:=World.ownsRow.lt h.own g hv
   rcases hr g e.symm with h1 | ⟨o,h1,h2⟩
   ·omega
   ·obtain ⟨c,h3⟩:=qw h.own g hv
    rw[h3] at h1
    cases h1
    cases h2
 ·obtain ⟨b,e,h1,h2,h3,h4⟩:=h.Bm j hj
  refine ⟨b,e,h1,Nat.le_trans h2 hg.size,h3,h4.grown hg (fun r hr2=>?_)⟩
  rcases hr r hr2 with h5 | h5
  ·exact .inl (.inl (by omega))
  ·exact .inr h5
theorem WhO.below {W W':World} {B k:Nat} {v:Value} {N:Nat→List UInt8} {R:Nat→Value} (h:WhO W B v k N R) (hb:Below W.heap.size W W'):WhO W' B v k N R:=by
 refine ⟨pX h.own hb,fun j hj=>?_⟩
 obtain ⟨b,e,h1,h2,h3,h4⟩:=h.Bm j hj
 exact ⟨b,e,h1,Nat.le_trans h2 hb.size,h3,h4.below hb⟩
theorem WhO.congr {W:World} {B k:Nat} {v:Value} {N:Nat→List UInt8} {R R':Nat→Value} (h:WhO W B v k N R) (hR:∀j,j<k→R' j=R j):WhO W B v k N R':=by
 have e:∀m,m≤k→rws (fun i=>whl (knW (N i)) (R' i)) m=rws (fun i=>whl (knW (N i)) (R i)) m:=fun m=>by
  induction m with
  | zero=>intro _;rfl
  | succ m ih=>intro hm;rw[rws,rws,ih (by omega),hR m (by omega)]
 refine ⟨by rw[e k (Nat.le_refl _)];exact h.own,fun j hj=>?_⟩
 rw[hR j hj]
 exact h.Bm j hj
theorem WhO.more {W W':World} {B k b:Nat} {v v' Q:Value} {N:Nat→List UInt8} {R:Nat→Value} (h:WhO W B v k N R) (hB:B≤b) (hvb:∀g,v.ownBlock=some g→g<b) (hQ:Nw b W.heap.size (fun W=>aq W Q (knN (N k)).length (fun i=>((knN (N k)).getD i 0:Nat))) W)
  (hown:W'.ownsRow B 104 27 v' (k+1) (rws (fun i=>whl (knW (N i)) (R i)) k++(whl (knW (N k)) Q).toList)) (hg:W.grownBy W' v.ownBlock) (hat:v'.ownBlock=v.ownBlock∨v'.ownBlock=some W.heap.size) :
  WhO W' B v' (k+1) N (fun i=>if i=k then Q else R i):=by
 have h0:WhO W B v k N (fun i=>if i=k then Q else R i):=h.congr fun j hj=>if_neg (by omega)
 refine ⟨?_,fun j hj=>?_⟩
 ·have e:rws (fun i=>whl (knW (N i)) (if i=k then Q else R i)) k=rws (fun i=>whl (knW (N i)) (R i)) k:=by
   have:∀m,m≤k→rws (fun i=>whl (knW (N i)) (if i=k then Q else R i)) m=rws (fun i=>whl (knW (N i)) (R i)) m:=fun m=>by
    induction m with
    | zero=>intro _;rfl
    | succ m ih=>intro hm;rw[rws,rws,ih (by omega),if_neg (by omega)]
   exact this k (Nat.le_refl _)
  rw[rws,e,if_pos rfl]
  exact hown
 ·by_cases ej:j=k
  ·subst ej
   simp only[if_pos]
   refine ⟨b,W.heap.size,hB,hg.size,fun g hgv=>?_,hQ.grown hg (fun r hr=>.inl (.inl (hvb r hr)))⟩
   rcases hat with h1 | h1
   ·exact .inl (hvb g (h1 ▸ hgv))
   ·rw[h1] at hgv;cases hgv;exact .inr (Nat.le_refl _)
  ·obtain ⟨b2,e,h1,h2,h3,h4⟩:=h.Bm j (by omega)
   simp only[if_neg ej]
   refine ⟨b2,e,h1,Nat.le_trans h2 hg.size,fun g hgv=>?_,h4.grown hg (fun r hr=>.inl (h3 r hr))⟩
   rcases hat with h5 | h5
   ·exact h3 g (h5 ▸ hgv)
   ·rw[h5] at hgv;cases hgv;exact .inr h2
theorem WhO.JJ {W:World} {B k:Nat} {v:Value} {N:Nat→List UInt8} {R:Nat→Value} (h:WhO W B v k N R):Nw B W.heap.size (fun W=>b7 W v k (fun r=>knW (N r)) (fun r=>(knN (N r)).length) (fun r i=>((knN (N r)).getD i 0:Nat))) W:=by
 intro W' hk
 obtain ⟨a,cap,rfl,hm,hr⟩:=sF h.own (fun i _=>aH _ _)
 refine ⟨a,cap,R,rfl,hm,fun r hrk=>?_,fun r hrk=>?_⟩
 ·obtain ⟨b,o,rfl,hb,hc⟩:=hr r hrk
  exact ⟨b,o,rfl,fun j v hv=>hk b _ _ hb (aA (hc j v hv)) (hc j v hv)⟩
 ·obtain ⟨b,e,h1,h2,_,h4⟩:=h.Bm r hrk
  exact h4 W' (fun b2 o x h5 h6 h7=>hk b2 o x (by omega) (by omega) h7)
end
section
open Go.RowKit PK Vg Sm
attribute [local go_sem] Oper.semAt_some
theorem nP {W W':World} (h:Below W.heap.size W W'):KeepsOthers W W':=⟨h.size,fun k _ hk _=>(h.block k (Array.getElem?_eq_some_iff.1 hk).1).trans hk⟩
theorem jc {P:Program} {fn:Func} {tmps:Array Value} {R:Ending→World→Prop} {D:Nat} {u:FrameMode} {W:World} (hu:u≠.run) (hD:W.heap[D]? = some (.deferred (some [])))
  (h:LeavesInM Fence.wide 9 P fn tmps R [] u (W.putObj D (.deferred none))):LeavesInM Fence.wide 9 P fn tmps R [{ target:=.collected D,args:=#[] }] u W :=
 ⟨hu,.inl ⟨D,_,rfl,run_takeDeferred hD,h⟩⟩
end
section
open Go.RowKit PK
section
variable {P:Program}
theorem oe (w:World) (t e:TypeId) (n:Nat) (hn:n*2≤2 ^ 24) (h0:0<n) (hu:P.underlying t=some (.slice e)) (z c:Array Value) (hzs:z.size=n) (hc:c.size=n) (hz:(P.info? e).map (fun i=>(i.zero,i.size))=some (some (.agg z),n)) :
  (Instr.buildSlice t 1 #[(0,.agg c)]).run P w=.ok (.slice (some ⟨w.heap.size,0,none⟩) 1 1) (w.alloc (.cells c e)):=by
 obtain ⟨hz1,hz2⟩:=zero_of_info hz
 cases hq:P.info? e with
 | none=>simp[hq] at hz
 | some i =>
  have hs:i.size=n:=by simpa [hq] using hz2
  have hsz:∀W,(sizeOf e).run P W=.ok n W:=fun W=>by simp[sizeOf,typeInfo,hq,hs]
  have hcc:(Value.agg c).cells=c:=rfl
  have hfill:Instr.fill (fun i=>some (i*n,n)) (tab n fun x=>z[x % n]!) [(0,.agg c)]=some c:=by
   rw[Instr.fill]
   simp only[hcc,hc,bG]
   rw[if_neg (by simp)]
   have hx:=gQ n (0*n) c.toList 0 (fun x=>z[x % n]!)
   rw[←Array.foldl_toList,Array.toList_zipIdx,hx]
   show some _=some c
   congr 1
   apply Array.ext_getElem?
   intro i
   by_cases hi:i<n
   ·rw[aR _ hi,if_pos (by simp[hc];omega)]
    simp[List.getD_eq_getElem?_getD,hc,hi]
   ·rw[Array.getElem?_eq_none (by rw[bG];omega),Array.getElem?_eq_none (by omega)]
  have h3:¬(n > 2 ^ 24):=by omega
  have h4:¬(n=0):=by omega
  have hzc:(Value.agg z).cells=z:=rfl
  simp only[Instr.buildSlice,Sem.run_bind,run_underlying hu,Result.andThen_ok,hsz,Nat.one_mul,h3,h4,if_false,hz1,Sem.run_pure,hzc,hzs,jN,hfill]
  simp[newRow]
end
end
end Go.Proofs.YtgacaecjinlhiaaGreatDoor
