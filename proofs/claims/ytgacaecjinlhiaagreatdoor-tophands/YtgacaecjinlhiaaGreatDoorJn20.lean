import Derived.Shelf.Strconv.AtoiAll
import Derived.Test.YtgacaecjinlhiaaGreatDoorScP
import Derived.Test.YtgacaecjinlhiaaGreatDoorJn19
namespace Go.Proofs.YtgacaecjinlhiaaGreatDoor
section
open Go.Shelf Go.RowKit PK Vg
def cV:Nat→List UInt8→Nat
 | acc,[]=>acc
 | acc,c :: r=>cV (acc*10+(c.toNat-48)) r
def dig (c:UInt8):Bool:=decide (48≤c.toNat∧c.toNat≤57)
def isNum (l:List UInt8):Bool:=l.all dig && (l.head? != some 48 || l==[48])
theorem zO:∀(l:List UInt8) (acc:Nat),acc≤cV acc l
 | [],acc=>Nat.le_refl _
 | c :: r,acc=>by unfold cV;exact Nat.le_trans (by omega) (zO r _)
theorem rG:∀(l:List UInt8) (acc:Nat),acc<18446744073709551616→l.all dig=true→Lib.parseUint10 acc l=if cV acc l<18446744073709551616 then .ok (cV acc l) else .range
 | [],acc,h,_=>by unfold Lib.parseUint10 cV;rw[if_pos h]
 | c :: r,acc,h,hd=>by
  rw[List.all_cons,Bool.and_eq_true] at hd
  have hc:48≤c.toNat∧c.toNat≤57:=by simpa [dig] using hd.1
  unfold Lib.parseUint10 cV
  rw[if_pos hc]
  have hge:=zO r (acc*10+(c.toNat-48))
  by_cases h1:1844674407370955162≤acc
  ·rw[if_pos h1,if_neg (by omega)]
  ·rw[if_neg h1]
   by_cases h2:18446744073709551616≤acc*10+(c.toNat-48)
   ·rw[if_pos h2,if_neg (by omega)]
   ·rw[if_neg h2]
    exact rG r _ (by omega) hd.2
theorem vA {l:List UInt8} (h0:l≠[]) (hd:l.all dig=true):Lib.atoiAll l=if cV 0 l<9223372036854775808 then .ok ((cV 0 l:Nat):Int) else .range:=by
 cases l with
 | nil=>exact absurd rfl h0
 | cons c r =>
  have hd1:=hd
  rw[List.all_cons,Bool.and_eq_true] at hd1
  have hc:48≤c.toNat∧c.toNat≤57:=by simpa [dig] using hd1.1
  unfold Lib.atoiAll
  simp only
  rw[if_neg (by omega)]
  unfold Lib.parseMag
  rw[if_neg h0,rG (c :: r) 0 (by omega) hd]
  have hn:¬c.toNat=45:=by omega
  by_cases h1:cV 0 (c :: r)<9223372036854775808
  ·rw[if_pos (by omega),if_pos h1]
   simp only
   rw[if_neg (by omega),if_neg (fun h=>hn h.1),if_neg hn]
  ·rw[if_neg h1]
   by_cases h2:cV 0 (c :: r)<18446744073709551616
   ·rw[if_pos h2]
    simp only
    rw[if_pos ⟨hn,by omega⟩]
   ·rw[if_neg h2]
def jq (l:List UInt8) (lo hi:Int):Int:=if isNum l=false then 2 else inE (cV 0 l:Nat) lo hi
shelf_lay LaysC.n172 Nm 172 at Tryz as Tryz.laysAtoi
theorem Hy:Tryz.laysAtoi_ren.f 172=97:=by kernel_rfl
def gv:Nat:=Tryz.laysAtoi_ren.g 16
def fu (w:World):Prop:=∃ev,w.cell? ⟨gv,0,none⟩=some ev∧(ev=.nilIface∨∃te pe,ev=.iface te pe)
theorem fu.below {w w':World} (h:fu w) (hb:Below w.heap.size w w'):fu w':=by
 obtain ⟨ev,h1,h2⟩:=h
 exact ⟨ev,(hb.cell (p:=⟨gv,0,none⟩) (World.block_lt_of_cell? _ _ h1)).trans h1,h2⟩
theorem DL (s:ByteArray) (hs:s.size≤65536) (w:World) (he:fu w) (h0:s.data.toList≠[]) (hd:s.data.toList.all dig=true) :
  Calls Tryz.prog 97 #[.string s] w fun e w'=>(cV 0 s.data.toList<9223372036854775808→e=.returned (.tuple #[.int .i64 ((cV 0 s.data.toList:Nat):Int),.nilIface]))∧(¬cV 0 s.data.toList<9223372036854775808→∃x te pe,e=.returned (.tuple #[.int .i64 x,.iface te pe]))∧Below w.heap.size w w':=by
 by_cases h:cV 0 s.data.toList<9223372036854775808
 ·have:=Any.strconv_Atoi_ok Tryz.laysAtoi s (by omega) _ (by rw[vA h0 hd,if_pos h]) w
  rw[Hy] at this
  refine this.mono ?_
  rintro e w' ⟨rfl,hw⟩
  refine ⟨fun _=>rfl,fun h2=>absurd h h2,?_⟩
  rcases hw with rfl | ⟨t,rfl⟩
  ·exact Below.refl _ _
  ·exact Lib.bytesWorld_below _ _ _
 ·obtain ⟨ev,h1,h2⟩:=he
  have:=Any.strconv_Atoi_range Tryz.laysAtoi s (by omega) (by rw[vA h0 hd,if_neg h]) ev w h1 h2
  rw[Hy] at this
  refine this.mono ?_
  rintro e w' ⟨N,rfl,_,_,hb⟩
  exact ⟨fun h2=>absurd h2 h,fun _=>⟨_,_,_,rfl⟩,hb⟩
theorem zf (s:ByteArray) (m:Nat) (h:m<s.size):∃h2:m<s.data.toList.length,s.data.toList[m]=s[m]:=⟨by rw[←Pl.aK s];exact h,rfl⟩
set_option maxRecDepth 100000 in
set_option maxHeartbeats 1000000 in
theorem Ah (s:ByteArray) (h0:0<s.size) (hs:s.size≤65536) (w:World):Calls Tryz.prog 96 #[.string s] w fun e w'=>e=.returned (.bool (isNum s.data.toList))∧w'=w:=by
 obtain ⟨R,hR⟩:∃R,R=isNum s.data.toList:=⟨_,rfl⟩
 rw[←hR]
 have HR:Hid (R=isNum s.data.toList):=hR
 have hl:=Pl.aK s
 have HL:Hid (s.size=s.data.toList.length):=hl
 clear hR hl
 go_enter Tryz.func96,Tryz.ntmps96
 go_wp2
 go_loopw [6] (fun i W=>∃m:Nat,m≤s.size∧i=.int .i64 m∧Hid (∀j,(h:j<m)→(h2:j<s.size)→dig s[j]=true)∧W=w) (fun i _=>((s.size:Int)-intOf i).toNat)
 case atStart=>exact ⟨0,by omega,rfl,fun j hj=>by omega,rfl⟩
 case round =>
  obtain ⟨m,hm,rfl,HJ,rfl⟩:=hrel
  by_cases hlt:m<s.size
  ·have HLT:Hid (m<s.size):=hlt
   have HX:Hid (dig s[m]=false→R=false):=fun h=>by
    obtain ⟨h2,e⟩:=zf s m hlt
    rw[HR.out]
    unfold isNum
    have:s.data.toList.all dig=false:=by
     rw[List.all_eq_false]
     exact ⟨s.data.toList[m],List.getElem_mem _,by rw[(congrArg dig e).trans h];decide⟩
    rw[this]
    rfl
   have HY:Hid (dig s[m]=true→∀j,(h:j<m+1)→(h2:j<s.size)→dig s[j]=true):=fun h j hj h2=>by
    by_cases e:j=m
    ·subst e;exact h
    ·exact HJ.out j (by omega) h2
   have HD:Hid (dig s[m]=decide (48≤s[m].toNat∧s[m].toNat≤57)):=rfl
   by_cases h1:s[m].toNat<48
   ·have HF:Hid (R=false):=HX.out (by rw[HD.out];simp;omega)
    have h1':(s[m].toNat:Int)<48:=by omega
    go_wp2
    go_ret
    exact ⟨by rw[HF.out];rfl,rfl⟩
   ·have h1':¬(s[m].toNat:Int)<48:=by omega
    by_cases h2:57<s[m].toNat
    ·have HF:Hid (R=false):=HX.out (by rw[HD.out];simp;omega)
     have h2':57<(s[m].toNat:Int):=by omega
     go_wp2
     go_ret
     exact ⟨by rw[HF.out];rfl,rfl⟩
    ·have HN:Hid _:=HY.out (by rw[HD.out];simp;omega)
     have h2':¬57<(s[m].toNat:Int):=by omega
     clear HX HY HD HJ
     go_wp2_with fail
     go_roundw
     case rel=>exact ⟨m+1,HLT.out,by go_num,HN,by first | rfl | trivial⟩
     case measure=>have:=HLT.out;simp[intOf] <;> omega
  ·obtain rfl:m=s.size:=by omega
   have HALL:Hid (s.data.toList.all dig=true):=by
    rw[Hid,List.all_eq_true]
    intro x hx
    obtain ⟨i,hi,rfl⟩:=List.mem_iff_getElem.1 hx
    have h2:i<s.size:=by rw[HL.out];exact hi
    exact HJ.out i h2 h2
   have HRR:Hid (R=(s[0] != 48 || s.data.toList==[48])):=by
    rw[Hid,HR.out]
    unfold isNum
    rw[HALL.out,Bool.true_and]
    obtain ⟨h2,e⟩:=zf s 0 h0
    cases hls:s.data.toList with
    | nil=>rw[hls] at h2;simp at h2
    | cons x xs =>
     have:x=s[0]:=by rw[←e];simp[hls]
     rw[this]
     by_cases hx:s[0]=48
     ·simp[hx]
     ·have h1:(s[0] != 48)=true:=by simpa using hx
      have h2:(List.head? (s[0] :: xs) != some 48)=true:=by simpa using hx
      rw[h1,h2]
   by_cases hz:s[0]=48
   ·have hz2:(s[0].toNat:Int)=48:=by rw[hz];rfl
    have HF:Hid (R=(s.toList==[48])):=by
     rw[Hid,HRR.out,jE,hz]
     rfl
    go_wp2
    go_ret
    exact ⟨by rw[HF.out];rfl,rfl⟩
   ·have HF:Hid (R=true):=by
     have h1:(s[0] != 48)=true:=by simpa using hz
     rw[Hid,HRR.out,h1]
     rfl
    have hz2:¬(s[0].toNat:Int)=48:=fun h=>hz (UInt8.toNat.inj (show s[0].toNat=UInt8.toNat 48 from (by omega:s[0].toNat=48)))
    have hz4:((s[0].toNat:Int) != 48)=true:=by simpa using hz2
    go_wp2
    go_ret
    exact ⟨by rw[HF.out];rfl,rfl⟩
set_option maxRecDepth 100000 in
set_option maxHeartbeats 1000000 in
theorem iW (l:List UInt8) (p:Nat) (lo hi:Int) (hhi:hi≤1000) (h0:l≠[]) (hs:l.length≤65536) (w:World) (he:fu w) :
  Calls Tryz.prog 64 #[wdV l p,.int .i64 lo,.int .i64 hi] w fun e w'=>(jq l lo hi=0→e=.returned (.int .i64 ((cV 0 l:Nat):Int)))∧(jq l lo hi≠0→e=.panicked [flt (jq l lo hi) p])∧Below w.heap.size w w':=by
 obtain ⟨s,hsd⟩:∃s:ByteArray,s=⟨l.toArray⟩:=⟨_,rfl⟩
 have hsl:s.data.toList=l:=by rw[hsd]
 have hz:=Pl.aK s
 rw[hsl] at hz
 have hz0:0<s.size:=by rw[hz];exact List.length_pos_iff.2 h0
 unfold wdV
 rw[←hsd]
 have hb1:Below w.heap.size w (w.alloc (.cells #[.string s,.int .i64 (p:Int)] 91)):=(Below.refl _ w).alloc (Nat.le_refl _) _
 have hq1:=af.new w 91 #[.string s,.int .i64 (p:Int)]
 have c0:=af.cell hq1 (i:=0) rfl
 have c1:=af.cell hq1 (i:=1) rfl
 have HIN:Hid _:=Ah s hz0 (by omega) (w.alloc (.cells #[.string s,.int .i64 (p:Int)] 91))
 rw[hsl] at HIN
 have HB:Hid _:=hb1
 have HQ:Hid (af (w.alloc (.cells #[.string s,.int .i64 (p:Int)] 91)) w.heap.size 91 #[.string s,.int .i64 (p:Int)]):=hq1
 have HNE:Hid (jq l lo hi=if isNum l=false then 2 else inE (cV 0 l:Nat) lo hi):=rfl
 generalize jq l lo hi=E at *
 by_cases hn:isNum l=true
 ·have hdig:l.all dig=true:=by unfold isNum at hn;rw[Bool.and_eq_true] at hn;exact hn.1
  have HA:=DL s (by omega) (w.alloc (.cells #[.string s,.int .i64 (p:Int)] 91)) (he.below hb1) (by rw[hsl];exact h0) (by rw[hsl];exact hdig)
  rw[hsl] at HA
  have HE2:Hid (E=inE (cV 0 l:Nat) lo hi):=by rw[Hid,HNE.out,hn];rfl
  rw[hn] at HIN
  generalize cV 0 l=v at *
  by_cases hv:v<9223372036854775808
  ·have HA2:Hid (Calls Tryz.prog 97 #[.string s] (w.alloc (.cells #[.string s,.int .i64 (p:Int)] 91)) fun e w'=>e=.returned (.tuple #[.int .i64 ((v:Nat):Int),.nilIface])∧Below (w.alloc (.cells #[.string s,.int .i64 (p:Int)] 91)).heap.size (w.alloc (.cells #[.string s,.int .i64 (p:Int)] 91)) w'):=Calls.mono HA (fun e w' h=>⟨h.1 hv,h.2.2⟩)
   clear HA hn hdig hz hz0 hsl hsd hb1 hq1 HNE he
   go_enter Tryz.func64,Tryz.ntmps64
   go_wp2_with fail
   refine Calls.mono HIN.out ?_
   rintro e V ⟨rfl,rfl⟩
   go_wp2_with fail
   refine Calls.mono HA2.out ?_
   rintro e V ⟨rfl,hb⟩
   have hqV:=af.below HQ.out hb (af.lt HQ.out)
   have u1:=af.cell hqV (i:=1) rfl
   have HBV:Hid (Below w.heap.size w V):=HB.out.trans (hb.mono HB.out.size)
   have hb0:=hb
   clear hb hqV c0 c1 HIN HA2
   have HQV:Hid (af V w.heap.size 91 #[.string s,.int .i64 (p:Int)]):=af.below HQ.out hb0 (af.lt HQ.out)
   have HO:Hid (∀X,Calls Tryz.prog 69 #[.int .i64 (v:Int),.int .i64 lo,.int .i64 hi] X fun e w'=>e=.returned (.int .i64 (inE (v:Nat) lo hi))∧w'=X):=fun X=>Aa _ _ _ X
   rw[←HE2.out] at HO
   clear hb0
   go_wp2_with fail
   by_cases hE:E=0
   ·have HE0:Hid (E=0):=hE
    have HP:Hid (∀X,Calls Tryz.prog 24 #[.int .i64 E,.int .i64 (p:Int)] X fun e w'=>e=.returned (.tuple #[])∧w'=X):=fun X=>by rw[hE];exact fX _ X
    clear hE
    refine wp_region_noPanic ?_
    refine wp_region_held_drew (S:=fun W=>af W w.heap.size 91 #[.string s,.int .i64 (p:Int)]∧Below V.heap.size V W) (by kernel_rfl) ⟨HQV.out,(Below.refl _ _).drew⟩ (fun hS=>?_)
    refine vtk 0 27 (.int .i64 (v:Int)) rfl (fun W hW=>by clear hS hW;go_simp) hS ?_
    simp only[zsA,zsB,zsC]
    refine vtk 1 28 (.int .i64 lo) rfl (fun W hW=>by clear hS hW;go_simp) hS ?_
    simp only[zsA,zsB,zsC]
    refine vtk 2 29 (.int .i64 hi) rfl (fun W hW=>by clear hS hW;go_simp) hS ?_
    simp only[zsA,zsB,zsC]
    refine vtk 4 31 (.pointer (some ⟨w.heap.size,1,none⟩)) rfl (fun W hW=>by clear hS hW;go_simp) hS ?_
    simp only[zsA,zsB,zsC]
    refine vtk 5 32 (.int .i64 (p:Int)) rfl (fun W hW=>by have u:=af.cell hW.1 (i:=1) rfl;clear hS hW;go_simp) hS ?_
    simp only[zsA,zsB,zsC]
    refine rd1 3 rfl (fun K hK=>?_)
    go_simp
    refine Calls.mono (HO.out _) ?_
    rintro e Y ⟨rfl,rfl⟩
    refine hK.out _ _ (hS) (fun hS1=>?_)
    clear hK hS K
    have hS:=hS1
    clear hS1
    refine rd1 6 rfl (fun K hK=>?_)
    go_simp
    refine Calls.mono (HP.out _) ?_
    rintro e Y ⟨rfl,rfl⟩
    refine hK.out _ _ (hS) (fun hS1=>?_)
    clear hK hS K
    have hS:=hS1
    clear hS1
    refine wpAnyH_done (by kernel_rfl) ?_ _
    refine NoPanic.normal ?_
    have HBY:Hid _:=HBV.out.trans (hS.2.mono HBV.out.size)
    clear hS
    go_wp2
    go_ret
    exact ⟨fun _=>rfl,fun h=>absurd HE0.out h,HBY.out⟩
   ·have HNE2:Hid (E≠0):=hE
    have HP:Hid (∀X,Calls Tryz.prog 24 #[.int .i64 E,.int .i64 (p:Int)] X fun e w'=>e=.panicked [flt E (p:Int)]∧w'=X):=fun X=>gJ E _ (by simpa using hE) X
    clear hE
    refine wp_region_held_drew (S:=fun W=>af W w.heap.size 91 #[.string s,.int .i64 (p:Int)]∧Below V.heap.size V W) (by kernel_rfl) ⟨HQV.out,(Below.refl _ _).drew⟩ (fun hS=>?_)
    refine aY 0 27 (.int .i64 (v:Int)) rfl rfl (by kernel_rfl) (by kernel_rfl) (by kernel_rfl) (fun _ _ _ h=>h) (by rfl) (fun W hW=>by clear hS hW;go_simp) hS ?_
    simp only[zsA,zsB,zsC]
    refine aY 1 28 (.int .i64 lo) rfl rfl (by kernel_rfl) (by kernel_rfl) (by kernel_rfl) (fun _ _ _ h=>h) (by rfl) (fun W hW=>by clear hS hW;go_simp) hS ?_
    simp only[zsA,zsB,zsC]
    refine aY 2 29 (.int .i64 hi) rfl rfl (by kernel_rfl) (by kernel_rfl) (by kernel_rfl) (fun _ _ _ h=>h) (by rfl) (fun W hW=>by clear hS hW;go_simp) hS ?_
    simp only[zsA,zsB,zsC]
    refine aY 4 31 (.pointer (some ⟨w.heap.size,1,none⟩)) rfl rfl (by kernel_rfl) (by kernel_rfl) (by kernel_rfl) (fun _ _ _ h=>h) (by rfl) (fun W hW=>by clear hS hW;go_simp) hS ?_
    simp only[zsA,zsB,zsC]
    refine aY 5 32 (.int .i64 (p:Int)) rfl rfl (by kernel_rfl) (by kernel_rfl) (by kernel_rfl) (fun _ _ _ h=>h) (by rfl) (fun W hW=>by have u:=af.cell hW.1 (i:=1) rfl;clear hS hW;go_simp) hS ?_
    simp only[zsA,zsB,zsC]
    refine rd1 3 rfl (fun K hK=>?_)
    go_simp
    refine Calls.mono (HO.out _) ?_
    rintro e Y ⟨rfl,rfl⟩
    refine hK.out _ _ (hS) (fun hS1=>?_)
    clear hK hS K
    have hS:=hS1
    clear hS1
    refine rd1 6 rfl (fun K hK=>?_)
    go_simp
    refine Calls.mono (HP.out _) ?_
    rintro e Y ⟨rfl,rfl⟩
    exact ⟨rfl,fun h=>absurd h HNE2.out,fun _=>rfl,HBV.out.trans (hS.2.mono HBV.out.size)⟩
  ·have HA2:Hid (Calls Tryz.prog 97 #[.string s] (w.alloc (.cells #[.string s,.int .i64 (p:Int)] 91)) fun e w'=>(∃x te pe,e=.returned (.tuple #[.int .i64 x,.iface te pe]))∧Below (w.alloc (.cells #[.string s,.int .i64 (p:Int)] 91)).heap.size (w.alloc (.cells #[.string s,.int .i64 (p:Int)] 91)) w'):=Calls.mono HA (fun e w' h=>⟨h.2.1 hv,h.2.2⟩)
   have HE3:Hid (E=3):=by rw[Hid,HE2.out];unfold inE;rw[if_pos (.inr (by omega))]
   clear HA hn hdig hz hz0 hsl hsd hb1 hq1 HNE he hv
   go_enter Tryz.func64,Tryz.ntmps64
   go_wp2_with fail
   refine Calls.mono HIN.out ?_
   rintro e V ⟨rfl,rfl⟩
   go_wp2_with fail
   refine Calls.mono HA2.out ?_
   rintro e V ⟨⟨x,te,pe,rfl⟩,hb⟩
   have hqV:=af.below HQ.out hb (af.lt HQ.out)
   have u1:=af.cell hqV (i:=1) rfl
   have HBV:Hid (Below w.heap.size w V):=HB.out.trans (hb.mono HB.out.size)
   have HT:Hid _:=cG 3 p V
   clear hb hqV c0 c1 HIN HA2
   go_wp2_with fail
   refine Calls.mono HT.out ?_
   rintro e V2 ⟨rfl,rfl⟩
   exact ⟨rfl,fun h=>absurd (HE3.out.symm.trans h) (by decide),fun _=>by rw[HE3.out],HBV.out⟩
 ·have HE3:Hid (E=2):=by rw[Hid,HNE.out,if_pos (by simpa using hn)]
  have hnf:isNum l=false:=by simpa using hn
  rw[hnf] at HIN
  have HT:Hid _:=cG 2 p (w.alloc (.cells #[.string s,.int .i64 (p:Int)] 91))
  clear hn hnf hz hz0 hsl hsd hb1 hq1 HNE he
  go_enter Tryz.func64,Tryz.ntmps64
  go_wp2_with fail
  refine Calls.mono HIN.out ?_
  rintro e V ⟨rfl,rfl⟩
  go_wp2_with fail
  refine Calls.mono HT.out ?_
  rintro e V2 ⟨rfl,rfl⟩
  exact ⟨rfl,fun h=>absurd (HE3.out.symm.trans h) (by decide),fun _=>by rw[HE3.out],HB.out⟩
end
section
open Go.RowKit PK Vg
theorem jg {P:Program} (t e:TypeId) (n:Nat) (hu:P.underlying t=some (.array n e)) (he:P.underlying e=some .string) (hs:(P.info? e).map (·.size)=some 1) (f:Nat→ByteArray) (k:Nat) (hk:k<n) (w:World) :
  (Instr.index t (.agg (tab n fun i=>.string (f i))) (.int .i64 (k:Int))).run P w=.ok (.string (f k)) w:=by
 cases hq:P.info? e with
 | none=>simp[hq] at hs
 | some i =>
  have h1:i.size=1:=by simpa [hq] using hs
  have h2:((k:Int)<(n:Int)):=by omega
  simp[Instr.index,asIntOf,Sem.run_bind,run_underlying hu,part,isAgg,run_underlying he,sizeOf,typeInfo,hq,h1,hk,aR (fun i=>Value.string (f i)) hk]
theorem vv:(Tryz.prog.info? 9).map (·.size)=some 1:=by kernel_rfl
def nmN:Nat→ByteArray
 | 1=>⟨#[109,111,118,101]⟩
 | 3=>⟨#[114,97,105,108]⟩
 | 4=>⟨#[99,111,108,117,109,110,115]⟩
 | 5=>⟨#[104,105,108,108]⟩
 | 6=>⟨#[114,111,116,111,114]⟩
 | _=>⟨#[]⟩
def tbN:Nat→ByteArray
 | 1=>⟨#[118,105,103,101,110,101,114,101]⟩
 | 2=>⟨#[98,101,97,117,102,111,114,116]⟩
 | 3=>⟨#[118,97,114,105,97,110,116]⟩
 | 4=>⟨#[97,117,116,111,107,101,121]⟩
 | _=>⟨#[]⟩
def nmA:Array Value:=tab 7 fun i=>.string (nmN i)
def tbA:Array Value:=tab 5 fun i=>.string (tbN i)
structure iE (w:World):Prop where
 kn:w.rangeAt 0 0 nmA.toList
 tb:w.rangeAt 1 0 tbA.toList
theorem iE.below {w w':World} (h:iE w) (hb:Below w.heap.size w w'):iE w':=⟨bS h.kn hb,bS h.tb hb⟩
def qR (f:Nat→ByteArray) (s:ByteArray):Nat→Option Nat
 | 0=>none
 | m+1=>match qR f s m with
  | some i=>some i
  | none=>if f m=s then some m else none
theorem jS {f:Nat→ByteArray} {s:ByteArray}:∀{m:Nat},(∀j,j<m→f j≠s)→qR f s m=none
 | 0,_=>rfl
 | m+1,h=>by unfold qR;rw[jS (fun j hj=>h j (by omega))];simp only[if_neg (h m (by omega))]
theorem sW {f:Nat→ByteArray} {s:ByteArray} {k:Nat} (h0:∀j,j<k→f j≠s) (h:f k=s):∀{m:Nat},k<m→qR f s m=some k
 | 0,hk=>by omega
 | m+1,hk=>by
  unfold qR
  by_cases e:k=m
  ·subst e;rw[jS h0];simp only[if_pos h]
  ·rw[sW h0 h (m:=m) (by omega)]
def nmK (s:ByteArray):Option (Nat × Nat):=match qR nmN s 7 with
 | some k=>some (k,0)
 | none=>(qR tbN s 5).map fun n=>(2,n)
def stA (k n:Nat):Array Value:=spA k n ⟨#[]⟩ (.slice none 0 0) (.slice none 0 0) (.slice none 0 0) (.slice none 0 0) (fun _=>0) (fun _=>0)
theorem BX (k n:Nat):(stA k n).size=59:=aS _ _ _ _ _ _ _ _ _
theorem G9 (k n:Nat):(stA k n).all (·.oneCell')=true:=dQ rfl rfl rfl rfl
theorem GF (k:Int):Tryz.prog.built 64 [(0,.int .i64 k)]=some (spA k 0 ⟨#[]⟩ (.slice none 0 0) (.slice none 0 0) (.slice none 0 0) (.slice none 0 0) (fun _=>0) (fun _=>0)):=by kernel_rfl
theorem Dx (k n:Int):Tryz.prog.built 64 [(0,.int .i64 k),(1,.int .i64 n)]=some (spA k n ⟨#[]⟩ (.slice none 0 0) (.slice none 0 0) (.slice none 0 0) (.slice none 0 0) (fun _=>0) (fun _=>0)):=by kernel_rfl
theorem FQ:Tryz.prog.built 64 []=some (spA 0 0 ⟨#[]⟩ (.slice none 0 0) (.slice none 0 0) (.slice none 0 0) (.slice none 0 0) (fun _=>0) (fun _=>0)):=by kernel_rfl
theorem nE {P:Program} {ops:Array Oper} {rest:List Oper} {op:Oper} {a:Act} {w:World} {Q:Exit→Act→World→Prop} (hgd:op.guard=none) (t:TypeId) (xs:List (Nat × Operand)) (ho:op.op=.build t xs.toArray) (vs:List (Nat × Value)) (hv:xs.map (fun x=>(x.1,a.eval x.2))=vs)
  (cells:Array Value) (hb:P.built t vs=some cells) (h:wpList P ops Q rest (a.put op.dst (.agg cells)) w):wpList P ops Q (op :: rest) a w:=by
 refine wpList_build hgd t xs.toArray ho ?_ ?_
 ·simp only[List.map_toArray]
  rw[show (List.map (fun x:Nat × Operand=>(x.1,a.eval x.2)) xs)=vs from hv]
  simp[hb]
 ·simp only[List.map_toArray]
  rw[show (List.map (fun x:Nat × Operand=>(x.1,a.eval x.2)) xs)=vs from hv]
  simp only[hb,Option.getD_some]
  exact h
set_option maxRecDepth 100000 in
set_option maxHeartbeats 2000000 in
theorem AI (s:ByteArray) (w:World) (hn:iE w):Calls Tryz.prog 63 #[.string s] w fun e w'=>(∀k n,nmK s=some (k,n)→e=.returned (.tuple #[.agg (stA k n),.bool true]))∧(nmK s=none→e=.returned (.tuple #[.agg (stA 0 0),.bool false]))∧Below w.heap.size w w':=by
 obtain ⟨W,hW⟩:∃W,W=w.alloc (.cells (spA 0 0 ⟨#[]⟩ (.slice none 0 0) (.slice none 0 0) (.slice none 0 0) (.slice none 0 0) (fun _=>0) (fun _=>0)) 64):=⟨_,rfl⟩
 have hb1:Below w.heap.size w W:=by rw[hW];exact (Below.refl _ w).alloc (Nat.le_refl _) _
 have hq1:af W w.heap.size 64 (spA 0 0 ⟨#[]⟩ (.slice none 0 0) (.slice none 0 0) (.slice none 0 0) (.slice none 0 0) (fun _=>0) (fun _=>0)):=by rw[hW];exact af.new w _ _
 have hkn:=bS hn.kn hb1
 have htb:=bS hn.tb hb1
 have HK:Hid (nmK s=match qR nmN s 7 with | some k=>some (k,0) | none=>(qR tbN s 5).map fun n=>(2,n)):=rfl
 have HB:Hid (Below w.heap.size w W):=hb1
 have HQ:Hid (af W w.heap.size 64 (spA 0 0 ⟨#[]⟩ (.slice none 0 0) (.slice none 0 0) (.slice none 0 0) (.slice none 0 0) (fun _=>0) (fun _=>0))):=hq1
 have hz59:=cm uq
 go_enter Tryz.func63,Tryz.ntmps63
 go_upto_region 1 with fail
 rw[←hW]
 clear hW hb1 hq1 hz59 hn
 have hks:nmA.size=7:=bG _ _
 have hts:tbA.size=5:=bG _ _
 go_wp2_with (refine aM rfl 157 _ rfl 0 0 rfl nmA _ hkn Tryz.underlying157 rfl (by rw[hks];kernel_rfl) ?_)
 have HIX:Hid (∀m X,m<7→(Instr.index 157 (.agg nmA) (.int .i64 (m:Nat))).run Tryz.prog X=.ok (.string (nmN m)) X):=fun m X hm=>jg 157 9 7 Tryz.underlying157 Tryz.underlying9 vv nmN m hm X
 have HIT:Hid (∀m X,m<5→(Instr.index 158 (.agg tbA) (.int .i64 (m:Nat))).run Tryz.prog X=.ok (.string (tbN m)) X):=fun m X hm=>jg 158 9 5 Tryz.underlying158 Tryz.underlying9 vv tbN m hm X
 generalize nmA=KA at *
 go_loopw [9] (fun i X=>∃m:Nat,m≤7∧i=.int .i64 (m:Nat)∧Hid (∀j,j<m→nmN j≠s)∧X=W) (fun i _=>((7:Int)-intOf i).toNat)
 case atStart=>exact ⟨0,by omega,rfl,fun j hj=>by omega,rfl⟩
 case round =>
  obtain ⟨m,hm,rfl,HJ,rfl⟩:=hrel
  by_cases hlt:m<7
  ·have hix:=HIX.out m
   have hix2:=hix wr hlt
   have HLT:Hid (m<7):=hlt
   have hlt2:(m:Int)<7:=by omega
   clear hix
   by_cases he:nmN m=s
   ·have heq:((nmN m).toList==s.toList)=true:=H9 he
    have HF:Hid (nmK s=some (m,0)):=by rw[Hid,HK.out,sW HJ.out he hlt]
    generalize nmN m=NM at *
    have HQ2:=HQ.out
    clear he HJ HK
    go_wp2_with (first | refine nE rfl 64 [(0,_)] rfl [(0,.int .i64 (m:Nat))] rfl _ (GF (m:Nat)) ?_ | refine wpList_store_row rfl 64 _ _ rfl w.heap.size (spA (m:Nat) 0 ⟨#[]⟩ (.slice none 0 0) (.slice none 0 0) (.slice none 0 0) (.slice none 0 0) (fun _=>0) (fun _=>0)) rfl rfl 64 _ HQ2 (by rw[aS];exact bA) (by rw[aS,aS]) (dQ rfl rfl rfl rfl) ?_)
    exact ⟨rfl,_,aG rfl _ _ w.heap.size 64 (spA (m:Nat) 0 ⟨#[]⟩ (.slice none 0 0) (.slice none 0 0) (.slice none 0 0) (.slice none 0 0) (fun _=>0) (fun _=>0)) (0,0) _ _ rfl rfl (af.row HQ.out _) Tryz.underlying64 rfl (by rw[aS];exact bA),fun k n h=>by rw[HF.out] at h;cases h;rfl,fun h=>absurd (HF.out.symm.trans h) (by simp),PK.Below.setRow HB.out w.heap.size (Nat.le_refl _) _⟩
   ·have heq:((nmN m).toList==s.toList)=false:=Is he
    have HN:Hid (∀j,j<m+1→nmN j≠s):=fun j hj=>by
     by_cases e:j=m
     ·rw[e];exact he
     ·exact HJ.out j (by omega)
    generalize nmN m=NM at *
    clear he HJ
    go_wp2_with fail
    go_roundw
    case rel=>exact ⟨m+1,HLT.out,by go_num,HN,by first | rfl | trivial⟩
    case measure=>have:=HLT.out;simp[intOf] <;> omega
  ·obtain rfl:m=7:=by omega
   have HK2:Hid (nmK s=(qR tbN s 5).map fun n=>(2,n)):=by rw[Hid,HK.out,jS HJ.out]
   clear HK HJ hm hlt hkn HIX
   go_wp2_with (refine aM rfl 158 _ rfl 1 0 rfl tbA _ htb Tryz.underlying158 rfl (by rw[hts];kernel_rfl) ?_)
   generalize tbA=TA at *
   go_loopw [20] (fun i X=>∃m:Nat,m≤5∧i=.int .i64 (m:Nat)∧Hid (∀j,j<m→tbN j≠s)∧X=wr) (fun i _=>((5:Int)-intOf i).toNat)
   case atStart=>exact ⟨0,by omega,rfl,fun j hj=>by omega,rfl⟩
   case round =>
    obtain ⟨m,hm,rfl,HJ,rfl⟩:=hrel
    by_cases hlt:m<5
    ·have hix2:=HIT.out m wr hlt
     have HLT:Hid (m<5):=hlt
     have hlt2:(m:Int)<5:=by omega
     by_cases he:tbN m=s
     ·have heq:((tbN m).toList==s.toList)=true:=H9 he
      have HF:Hid (nmK s=some (2,m)):=by rw[Hid,HK2.out,sW HJ.out he hlt];rfl
      generalize tbN m=NM at *
      have HQ2:=HQ.out
      clear he HJ HK2
      go_wp2_with (first | refine nE rfl 64 [(0,_),(1,_)] rfl [(0,.int .i64 2),(1,.int .i64 (m:Nat))] rfl _ (Dx 2 (m:Nat)) ?_ | refine wpList_store_row rfl 64 _ _ rfl w.heap.size (spA 2 (m:Nat) ⟨#[]⟩ (.slice none 0 0) (.slice none 0 0) (.slice none 0 0) (.slice none 0 0) (fun _=>0) (fun _=>0)) rfl rfl 64 _ HQ2 (by rw[aS];exact bA) (by rw[aS,aS]) (dQ rfl rfl rfl rfl) ?_)
      exact ⟨rfl,_,aG rfl _ _ w.heap.size 64 (spA 2 (m:Nat) ⟨#[]⟩ (.slice none 0 0) (.slice none 0 0) (.slice none 0 0) (.slice none 0 0) (fun _=>0) (fun _=>0)) (0,0) _ _ rfl rfl (af.row HQ.out _) Tryz.underlying64 rfl (by rw[aS];exact bA),fun k n h=>by rw[HF.out] at h;cases h;rfl,fun h=>absurd (HF.out.symm.trans h) (by simp),PK.Below.setRow HB.out w.heap.size (Nat.le_refl _) _⟩
     ·have heq:((tbN m).toList==s.toList)=false:=Is he
      have HN:Hid (∀j,j<m+1→tbN j≠s):=fun j hj=>by
       by_cases e:j=m
       ·rw[e];exact he
       ·exact HJ.out j (by omega)
      generalize tbN m=NM at *
      clear he HJ
      go_wp2_with fail
      go_roundw
      case rel=>exact ⟨m+1,HLT.out,by go_num,HN,by first | rfl | trivial⟩
      case measure=>have:=HLT.out;simp[intOf] <;> omega
    ·obtain rfl:m=5:=by omega
     have HF:Hid (nmK s=none):=by rw[Hid,HK2.out,jS HJ.out];rfl
     have HQ2:=HQ.out
     clear HJ HK2
     go_wp2_with (first | refine nE rfl 64 [] rfl [] rfl _ FQ ?_ | refine wpList_store_row rfl 64 _ _ rfl w.heap.size (spA 0 0 ⟨#[]⟩ (.slice none 0 0) (.slice none 0 0) (.slice none 0 0) (.slice none 0 0) (fun _=>0) (fun _=>0)) rfl rfl 64 _ HQ2 (by rw[aS];exact bA) (by rw[aS]) (dQ rfl rfl rfl rfl) ?_)
     exact ⟨rfl,_,aG rfl _ _ w.heap.size 64 (spA 0 0 ⟨#[]⟩ (.slice none 0 0) (.slice none 0 0) (.slice none 0 0) (.slice none 0 0) (fun _=>0) (fun _=>0)) (0,0) _ _ rfl rfl (af.row HQ.out _) Tryz.underlying64 rfl (by rw[aS];exact bA),fun k n h=>absurd (HF.out.symm.trans h) (by simp),fun _=>rfl,PK.Below.setRow HB.out w.heap.size (Nat.le_refl _) _⟩
end
end Go.Proofs.YtgacaecjinlhiaaGreatDoor
