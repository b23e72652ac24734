/-
  Several texts, joined: PPrint, PrG, PrH.
-/
import Derived.Test.YtkohhdkkbaifoaaGreatDoorJn24
import Derived.Test.YtkohhdkkbaifoaaGreatDoorJn17
import Derived.Test.YtkohhdkkbaifoaaGreatDoorPz
import Derived.Test.YtkohhdkkbaifoaaGreatDoorJn22
/-
  Contracts of perm.appendCycle and perm.Print.
-/
namespace Go.Proofs.YtkohhdkkbaifoaaGreatDoor
open Go.RowKit PK

def lb (i:Nat):UInt8:=UInt8.ofNat (65+i)
theorem lb_toNat (i:Nat) (h:i<26):(lb i).toNat=65+i:=by simp[lb];omega
def wr1 (c:List Nat):List UInt8:=40 :: c.map lb++[41]
def wrAll (ls:List (List Nat)):List UInt8:=(ls.filter fun l=>decide (1<l.length)).flatMap wr1
theorem cells_snoc (l:List UInt8) (b:UInt8) (v:Value) (h:v=.int .u8 (b.toNat:Nat)):Lib.byteCells l++[v]=Lib.byteCells (l++[b]):=by
 subst h
 rw[Lib.byteCells_append]
 rfl
theorem info_byte3:(Tryz.prog.info? 5).map (fun i=>(i.zero,i.size,i.bytes))=some (some (.int .u8 0),1,1):=by kernel_rfl

set_option maxHeartbeats 2000000 in
theorem appendCycle_any (B:Nat) (v:Value) (xs:List UInt8) (c:List Nat) (hc1:0<c.length) (hc2:c.length≤26) (hc3:∀x ∈ c,x<26) (B':Nat) (u:Value) (w:World) (hown:BKit.Owns w B 5 v xs) (hu:OwnsN w B' u c) (hB:B≤w.heap.size) (hlen:xs.length≤1000) :
  Calls Tryz.prog 196 #[v,u] w fun e w'=>∃v',e=.returned v'∧BKit.Owns w' B 5 v' (xs++wr1 c)∧Below B w w'∧Lib.OthersKept 5 none w w':=by
 obtain ⟨i0,hi0,hz0,hz1,hz2⟩:=info_parts info_byte3
 obtain ⟨g,cap,rfl⟩:=own_formP hu hc1
 have HC3:Hid (∀x ∈ c,x<26):=hc3
 have HU:Hid (w.ownsRow B' 3 1 (.slice (some ⟨g,0,none⟩) c.length cap) c.length (nums c)):=hu
 clear hc3 hu
 obtain ⟨n,hn⟩:∃n,n=c.length:=⟨_,rfl⟩
 have HN:Hid (n=c.length):=hn
 rw[←hn] at hc1 hc2 HU ⊢
 clear hn
 go_enter Tryz.func196,Tryz.ntmps196
 go_wp2_with (first
  | (at_builtin;refine wpList_append_own _ rfl _ _ 87 rfl B 5 i0 (.int .u8 0) 1 1 Tryz.underlying87 hi0 hz0 hz1 hz2 rfl (by decide) _ _ _ rfl (World.ownsRow.alloc hown _) ⟨w.heap.size,0,none⟩ 1 1 [.int .u8 40] rfl rfl (cell_one_new _ _ _) (fun u hu=>by simp at hu;subst hu;rfl) (by unfold maxLen;omega) (by omega) (by simp;omega) ?_;intro v1 w1 hown1 hgrow1 _))
 obtain ⟨hown2,hb2,hk2⟩:=BKit.Owns.grown (World.ownsRow.alloc hown _) (by simp;omega) ((Below.refl B w).alloc hB _) ((Lib.OthersKept.refl 5 none w).alloc _) hown1 (m:=[40]) (by simp) (cells_snoc _ _ _ rfl) hgrow1
 clear hown hown1 hgrow1
 go_loopw [0,12] (fun v j W=>∃m:Nat,m≤n∧j=.int .i64 m∧BKit.Owns W B 5 v (xs++40 :: (c.take m).map lb)∧Below B w W∧Lib.OthersKept 5 none w W) (fun _ j _=>(n-intOf j).toNat)
 case atStart=>exact ⟨0,by omega,rfl,hown2,hb2,hk2⟩
 case round =>
  clear hown2 hb2 hk2
  obtain ⟨m,hm,rfl,hown,hb,hk⟩:=hrel
  have hsz:=hb.size
  have hlm:(xs++40 :: (c.take m).map lb).length≤1100:=by have:=List.length_take_le m c;simp;omega
  by_cases hmn:m<n
  ·obtain ⟨x,hx⟩:∃x,c[m]? = some x:=⟨c[m]'(by rw[←HN.out];exact hmn),List.getElem?_eq_getElem _⟩
   have hx26:x<26:=HC3.out x (List.mem_of_getElem? hx)
   have hcx:wr.cell? ⟨g,m,none⟩=some (.int .i64 (x:Nat)):=by
    have h1:=HU.out
    obtain ⟨cc,fz,h5⟩:=Lib.ownsRowF_kind (World.ownsRowF_of h1) g rfl
    have h6:wr.heap[g]? = w.heap[g]?:=(hk g _ h5 (by simp) (fun _ _ e=>by simp at e)).trans h5.symm
    rw[World.cell?_of_block (w:=w) h6,World.ownsRow.cellAt h1 m (by omega)]
    simp[nums,hx]
   have HX:Hid (c[m]? = some x):=hx
   clear hx
   go_wp2_with (first
    | (at_builtin;refine wpList_append_own _ rfl _ _ 87 rfl B 5 i0 (.int .u8 0) 1 1 Tryz.underlying87 hi0 hz0 hz1 hz2 rfl (by decide) _ _ _ rfl (World.ownsRow.alloc hown _) ⟨wr.heap.size,0,none⟩ 1 1 [.int .u8 (65+(x:Int))] rfl rfl (cell_one_new _ _ _) (fun u hu=>by simp at hu;subst hu;rfl) (by unfold maxLen;omega) (by omega) (by simp;omega) ?_;intro v1 w1 hown1 hgrow1 _))
   go_roundw
   case rel =>
    obtain ⟨ho,hbb,hkk⟩:=BKit.Owns.grown (World.ownsRow.alloc hown _) (by simp;omega) (hb.alloc (by omega) _) (hk.alloc _) hown1 (m:=[lb x]) (by simp;omega) (cells_snoc _ _ _ (by rw[lb_toNat x hx26];simp)) hgrow1
    refine ⟨m+1,by omega,by go_num,?_,hbb,hkk⟩
    have e1:c.take (m+1)=c.take m++[x]:=by
     obtain ⟨h7,h8⟩:=List.getElem?_eq_some_iff.1 HX.out
     rw[List.take_succ_eq_append_getElem h7,h8]
    rw[e1,List.map_append]
    have e2:xs++40 :: (List.map lb (List.take m c)++List.map lb [x])=(xs++40 :: List.map lb (List.take m c))++[lb x]:=by simp
    rw[e2]
    exact ho
   case measure=>simp[intOf];omega
  ·have HM:Hid (c.take m=c):=by rw[Hid];exact List.take_of_length_le (by have:=HN.out;omega)
   go_wp2_with (first
    | (at_builtin;refine wpList_append_own _ rfl _ _ 87 rfl B 5 i0 (.int .u8 0) 1 1 Tryz.underlying87 hi0 hz0 hz1 hz2 rfl (by decide) _ _ _ rfl (World.ownsRow.alloc hown _) ⟨wr.heap.size,0,none⟩ 1 1 [.int .u8 41] rfl rfl (cell_one_new _ _ _) (fun u hu=>by simp at hu;subst hu;rfl) (by unfold maxLen;omega) (by omega) (by simp;omega) ?_;intro v1 w1 hown1 hgrow1 _))
   go_ret
   obtain ⟨ho,hbb,hkk⟩:=BKit.Owns.grown (World.ownsRow.alloc hown _) (by simp;omega) (hb.alloc (by omega) _) (hk.alloc _) hown1 (m:=[41]) (by simp;omega) (cells_snoc _ _ _ rfl) hgrow1
   refine ⟨_,rfl,?_,hbb,hkk⟩
   rw[HM.out] at ho
   have e2:xs++wr1 c=(xs++40 :: List.map lb c)++[41]:=by simp[wr1]
   rw[e2]
   exact ho

theorem wrAll_snoc (ls:List (List Nat)) (l:List Nat):wrAll (ls++[l])=if 1<l.length then wrAll ls++wr1 l else wrAll ls:=by
 unfold wrAll
 rw[List.filter_append,List.flatMap_append]
 by_cases h:1<l.length
 ·simp[h]
 ·simp[h]
theorem wr1_len (c:List Nat):(wr1 c).length=c.length+2:=by simp[wr1]
theorem wrAll_len:∀(ls:List (List Nat)),(∀l ∈ ls,l.length≤26)→(wrAll ls).length≤28*ls.length
 | [],_=>by simp[wrAll]
 | l :: ls,h=>by
  have ih:=wrAll_len ls (fun x hx=>h x (by simp[hx]))
  have hl:=h l (by simp)
  have:(wrAll (l :: ls)).length≤(wr1 l).length+(wrAll ls).length:=by
   unfold wrAll
   by_cases h1:1<l.length
   ·simp[h1]
   ·simp[h1]
  rw[wr1_len] at this
  simp
  omega
theorem cycs_lt {p:Nat→Nat} (hp:Pm.IsPerm p):∀l ∈ Pm.cycs p 26,∀x ∈ l,x<26:=fun l hl x hx=>by
 obtain ⟨i,hi,rfl,_⟩:=Pm.mem_cycs p 26 l hl
 exact Pm.cyc_lt hp i hi x hx

set_option maxHeartbeats 2000000 in
theorem print_ok (p:Nat→Nat) (hp:Pm.IsPerm p) (w:World) :
  Calls Tryz.prog 157 #[.agg (ints 26 (Pm.up p))] w fun e w'=>e=.returned (.tuple #[.string ⟨(wrAll (Pm.cycs p 26)).toArray⟩,.int .i64 0])∧Below w.heap.size w w':=by
 have H0:Hid (Pm.firstBad (fun _=>Pm.up p) 1=0):=one_okP p hp
 go_enter Tryz.func157,Tryz.ntmps157
 go_wp2_with (first
  | refine wpList_load_row rfl 27 _ rfl w.heap.size rfl 27 (ints 26 (Pm.up p)) (0,0) _ (RowAt.new w _ _) Tryz.underlying27 rfl (by rw[ints_size];exact info_perm) ?_
  | refine wpList_build1 rfl 200 27 _ rfl 26 (Pm.up p) rfl (by decide) Tryz.underlying200 zero_permP (by decide) ?_)
 refine (firstWrong_anyP (fun _=>Pm.up p) 1 (by decide) _ _ (by simp) (range_one (RowAt.newAt (by simp)))).mono ?_
 rintro e W1 ⟨rfl,hb0⟩
 obtain ⟨r1,hb1,hs1⟩:=after0 hb0
 clear hb0
 rw[H0.out]
 clear H0
 go_wp2_with (refine wpList_load_row rfl 27 _ rfl w.heap.size rfl 27 (ints 26 (Pm.up p)) (0,0) _ r1 Tryz.underlying27 rfl (by rw[ints_size];exact info_perm) ?_)
 refine (cycles_any p hp _).mono ?_
 rintro e W2 ⟨v,rfl,hall,hb2⟩
 have hs2:=hb2.size
 have hbw:=hb1.trans (hb2.mono (by omega))
 have q1:=cycs_pos hp
 have q2:=Pm.cycs_len p 26
 have Q3:Hid (∀l ∈ Pm.cycs p 26,0<l.length∧l.length≤26):=cycs_each hp
 have Q4:Hid (∀l ∈ Pm.cycs p 26,∀x ∈ l,x<26):=cycs_lt hp
 obtain ⟨ls,hls⟩:∃ls,ls=Pm.cycs p 26:=⟨_,rfl⟩
 have HLS:Hid (∀P:List (List Nat)→Prop,P ls→P (Pm.cycs p 26)):=fun P h=>hls ▸ h
 rw[←hls] at hall q1 q2 Q3 Q4
 clear hls r1 hb1 hb2
 obtain ⟨vs,hv1,hv2⟩:=hall
 obtain ⟨g,cap,rfl⟩:=own_formP hv1 q1
 have hg:=(World.ownsRow.lt hv1 g rfl).2
 have HVL:Hid (vs.length=ls.length):=by have:=hv1.1;rw[Hid];omega
 have HV1:Hid (W2.ownsRow W1.heap.size 25 1 (.slice (some ⟨g,0,none⟩) ls.length cap) ls.length vs):=hv1
 have HV2:Hid (∀(k:Nat) (u:Value) (l:List Nat),vs[k]? = some u→ls[k]? = some l→OwnsN W2 W1.heap.size u l):=hv2
 clear hv1 hv2
 obtain ⟨n,hn⟩:∃n,n=ls.length:=⟨_,rfl⟩
 have HN:Hid (n=ls.length):=hn
 rw[←hn] at q1 q2 HV1 ⊢
 clear hn
 go_wp2
 go_loopw [5,17] (fun v j W=>∃k:Nat,k≤n∧j=.int .i64 k∧BKit.Owns W W2.heap.size 5 v (wrAll (ls.take k))∧Below W2.heap.size W2 W) (fun _ j _=>(n-intOf j).toNat)
 case atStart=>exact ⟨0,by omega,rfl,BKit.Owns.nil _ _ _,Below.refl _ _⟩
 case round =>
  obtain ⟨k,hk,rfl,hown,hb⟩:=hrel
  have hsz:=hb.size
  have hwl:=wrAll_len (ls.take k) (fun l hl=>(Q3.out l (List.mem_of_mem_take hl)).2)
  have htk:=List.length_take_le k ls
  by_cases hlt:k<n
  ·obtain ⟨l,hl⟩:∃l,ls[k]? = some l:=⟨ls[k]'(by rw[←HN.out];exact hlt),List.getElem?_eq_getElem _⟩
   obtain ⟨u,hu⟩:∃u,vs[k]? = some u:=⟨vs[k]'(by rw[HVL.out,←HN.out];exact hlt),List.getElem?_eq_getElem _⟩
   have hll:=Q3.out l (List.mem_of_getElem? hl)
   have hlx:=Q4.out l (List.mem_of_getElem? hl)
   have hou:=HV2.out k u l hu hl
   have hou2:=own_below hou hb
   obtain ⟨g',cap',rfl⟩:=own_formP hou hll.1
   have hcu:wr.cell? ⟨g,k,none⟩=some (.slice (some ⟨g',0,none⟩) l.length cap'):=by
    rw[hb.cell (p:=⟨g,k,none⟩) hg,World.ownsRow.cellAt HV1.out k (by omega)]
    exact hu
   have HS:Hid (wrAll (ls.take (k+1))=if 1<l.length then wrAll (ls.take k)++wr1 l else wrAll (ls.take k)):=by
    have e1:ls.take (k+1)=ls.take k++[l]:=by
     obtain ⟨h7,h8⟩:=List.getElem?_eq_some_iff.1 hl
     rw[List.take_succ_eq_append_getElem h7,h8]
    rw[Hid,e1,wrAll_snoc]
   have HAC:=appendCycle_any W2.heap.size u5 (wrAll (ls.take k)) l hll.1 hll.2 hlx W1.heap.size (.slice (some ⟨g',0,none⟩) l.length cap') wr hown hou2 hsz (by omega)
   have HA:Hid (Calls Tryz.prog 196 #[u5,.slice (some ⟨g',0,none⟩) l.length cap'] wr fun e w'=>∃v',e=.returned v'∧BKit.Owns w' W2.heap.size 5 v' (wrAll (ls.take k)++wr1 l)∧Below W2.heap.size wr w'∧Lib.OthersKept 5 none wr w'):=HAC
   clear HAC hou hou2 hu hl hlx
   by_cases h1:1<l.length
   ·rw[if_pos h1] at HS
    go_wp2_with fail
    refine HA.out.mono ?_
    rintro e w3 ⟨v3,rfl,ho3,hb3,_⟩
    go_wp2
    go_roundw
    case rel=>exact ⟨k+1,by omega,by go_num,by rw[HS.out];exact ho3,hb.trans hb3⟩
    case measure=>simp[intOf];omega
   ·rw[if_neg h1] at HS
    go_wp2
    go_roundw
    case rel=>exact ⟨k+1,by omega,by go_num,by rw[HS.out];exact hown,hb⟩
    case measure=>simp[intOf];omega
  ·have HK:Hid (ls.take k=ls):=by rw[Hid];exact List.take_of_length_le (by have:=HN.out;omega)
   rw[HK.out] at hown
   have hcv:=BKit.run_string_of_own (P:=Tryz.prog) wr 87 9 5 Tryz.underlying87 Tryz.underlying5 Tryz.underlying9 hown
   go_wp2
   go_ret2
   exact ⟨HLS.out (fun l=>Ending.returned (.tuple #[.string ⟨(wrAll ls).toArray⟩,.int .i64 0])=.returned (.tuple #[.string ⟨(wrAll l).toArray⟩,.int .i64 0])) rfl,hbw.trans (hb.mono (by omega))⟩
end Go.Proofs.YtkohhdkkbaifoaaGreatDoor

/-
  For script.Print: a machine in words: what is held.
-/
namespace Go.Proofs.YtkohhdkkbaifoaaGreatDoor
open Go.RowKit PK Vg

def wnE (g:Gm):Int:=firV (fun i=>if whF (g.wi i) (g.nl i) (g.no i)=none then 7 else 0) g.n
def wnm (g:Gm) (i:Nat):ByteArray:=whN ((whF (g.wi i) (g.nl i) (g.no i)).getD 0)
def wnC (g:Gm) (m:Nat):Nat→Value:=fillV (fun i=>.string (wnm g i)) (.string ⟨#[]⟩) m
theorem wheels_cell {W:World} {v:Value} {n:Nat} {wi:Nat→Nat→Int} {nl:Nat→Nat} {no:Nat→Nat→Int} (h:WheelsAt W v n wi nl no) {r:Nat} (hr:r<n):∃b o cap R,v=.slice (some ⟨b,o,none⟩) n cap∧W.rangeAt b (o+r*27) (whl (wi r) R).toList∧NumsAt W R (nl r) (no r):=by
 obtain ⟨a,cap,R,rfl,_,h1,h2⟩:=h
 obtain ⟨b,o,rfl,hc⟩:=h1 r hr
 exact ⟨b,o,cap,R r,rfl,hc,h2 r hr⟩
def mcE (g:Gm):Int:=if wnE g≠0 then 7 else if mrF g.rf=none then 7 else 0
def plS (g:Gm):List UInt8:=wrAll (Pm.cycs (fun c=>(g.pl c).toNat) 26)
def mcN (g:Gm):List ByteArray:=(List.range g.n).map (wnm g)
def mc4 (g:Gm):List ByteArray:=[⟨(Lib.join ((mcN g).map (·.data.toList)) [44]).toArray⟩,mrN ((mrF g.rf).getD 0),⟨(sptL g.rl g.ri).toArray⟩,⟨(sptL g.sl g.st).toArray⟩]
def mcW (g:Gm):List ByteArray:=mc4 g++(if plS g=[] then [] else [⟨(plS g).toArray⟩])
theorem wnE_zero {g:Gm} (h:∀j,j<g.n→whF (g.wi j) (g.nl j) (g.no j)≠none):wnE g=0:=by
 unfold wnE
 exact firV_all fun i hi=>if_neg (h i hi)
theorem pl_print {g:Gm} (hg:gE g=0) (w:World):Calls Tryz.prog 157 #[.agg (ints 26 g.pl)] w fun e w'=>e=.returned (.tuple #[.string ⟨(plS g).toArray⟩,.int .i64 0])∧Below w.heap.size w w':=by
 obtain ⟨_,_,_,_,_,h10,_⟩:=gE_zero hg
 obtain ⟨hpl,epl⟩:=perm_toNat h10
 have h:=print_ok _ hpl w
 rw[ints_ext (f:=g.pl) (g:=Pm.up fun c=>(g.pl c).toNat) (fun i hi=>epl i hi)]
 exact h
theorem whN_len (i:Nat):(whN i).data.toList.length≤3:=by
 match i with
 | 0=>decide
 | 1=>decide
 | 2=>decide
 | 3=>decide
 | 4=>decide
 | _+5=>exact Nat.zero_le _
theorem lens_le {xs:List (List UInt8)} {k:Nat} (h:∀x ∈ xs,x.length≤k):Lib.lens xs≤k*xs.length:=by
 induction xs with
 | nil=>simp[Lib.lens]
 | cons x r ih =>
  have h1:=h x (by simp)
  have h2:=ih (fun y hy=>h y (by simp[hy]))
  have e:Lib.lens (x :: r)=x.length+Lib.lens r:=by simp[Lib.lens]
  rw[e,List.length_cons,Nat.mul_succ]
  omega
theorem join17_len (xs:List (List UInt8)) (sep:List UInt8) {k:Nat} (h:∀x ∈ xs,x.length≤k):(Lib.join xs sep).length≤(k+sep.length)*xs.length:=by
 cases xs with
 | nil=>simp[Lib.join]
 | cons x r =>
  have e:Lib.join (x :: r) sep=x++Lib.joinTail sep r:=Lib.join_cons x r sep
  rw[e,List.length_append,Lib.joinTail_length,List.length_cons]
  have h1:=h x (by simp)
  have h2:=lens_le (xs:=r) (k:=k) (fun y hy=>h y (by simp[hy]))
  have h3:(k+sep.length)*(r.length+1)=k*r.length+sep.length*r.length+(k+sep.length):=by rw[Nat.mul_succ,Nat.add_mul]
  omega
theorem mcN_len (g:Gm):(mcN g).length=g.n:=by simp[mcN]
theorem mcN_join (g:Gm) (hn:g.n≤4):(Lib.join ((mcN g).map (·.data.toList)) [44]).length≤16:=by
 have h:=join17_len ((mcN g).map (·.data.toList)) [44] (k:=3) (fun x hx=>by
  obtain ⟨y,hy,rfl⟩:=List.mem_map.1 hx
  obtain ⟨i,_,rfl⟩:=List.mem_map.1 hy
  exact whN_len _)
 rw[List.length_map,mcN_len] at h
 have:(3+[44].length)*g.n≤16:=by show 4*g.n≤16;omega
 exact Nat.le_trans h this
end Go.Proofs.YtkohhdkkbaifoaaGreatDoor

/-
  For script.Print: a machine in words: the walk.
-/
namespace Go.Proofs.YtkohhdkkbaifoaaGreatDoor
open Go.RowKit PK Vg

theorem run_b4 (a b c d:ByteArray) (w:World):(Instr.buildSlice 51 4 #[(0,.string a),(1,.string b),(2,.string c),(3,.string d)]).run Tryz.prog w=.ok (.slice (some ⟨w.heap.size,0,none⟩) 4 4) (w.alloc (.cells #[.string a,.string b,.string c,.string d] 9)):=by kernel_rfl
structure MwI (w W:World) (q:Nat) (MC:Array Value) (g:Gm) (m:Nat):Prop where
 box:RowAt W q 29 MC
 out:RowAt W (q+1) 9 (tab g.n (wnC g m))
 old:Below w.heap.size w W
 sz:w.heap.size=q
theorem MwI.calm {w W W':World} {q:Nat} {MC:Array Value} {g:Gm} {m:Nat} (h:MwI w W q MC g m) (hb:Below W.heap.size W W'):MwI w W' q MC g m :=
 ⟨RowAt.below h.box hb (RowAt.lt h.box),RowAt.below h.out hb (RowAt.lt h.out),h.old.trans (hb.mono h.old.size),h.sz⟩
theorem MwI.put {w W:World} {q:Nat} {MC:Array Value} {g:Gm} {m:Nat} (h:MwI w W q MC g m):MwI w (W.setCell ⟨q+1,m,none⟩ (.string (wnm g m))) q MC g (m+1):=by
 refine ⟨RowAt.setOther h.box ⟨q+1,m,none⟩ _ (by show q≠q+1;omega),?_,h.old.setCell (p:=⟨q+1,m,none⟩) (by have:=h.sz;show w.heap.size≤q+1;omega) _,h.sz⟩
 have:=RowAt.set h.out m (.string (wnm g m))
 rw[tab_set] at this
 unfold wnC at this ⊢
 rw[fillV_step _ _ _ _ rfl] at this
 exact this
set_option maxRecDepth 100000 in
set_option maxHeartbeats 4000000 in
theorem machineWords_any (MC:Array Value) (g:Gm) (place:Nat) (w:World) (hm:MacAt w (.agg MC) g) (hg:gE g=0) (ho:OldAt w):Calls Tryz.prog 100 #[.agg MC,.int .i64 (place:Int)] w fun e w'=>(mcE g≠0→e=.panicked [flt 7 (place:Int)])∧(mcE g=0→∃v,e=.returned v∧OwT w' w.heap.size v (mcW g))∧Below w.heap.size w w':=by
 obtain ⟨av,bv,cv,hM0,hwh,hri,hst⟩:=hm
 have hMC:=Value.agg.inj hM0
 clear hM0
 obtain ⟨ga,gc,RR,rfl,-⟩:=id hwh
 have hn4:g.n≤4:=by have:=gE_zero hg;omega
 have hmk:=run_make_row' (P:=Tryz.prog) 51 9 (.string ⟨#[]⟩) 16 Tryz.underlying51 str3 rfl .i64 .i64 g.n (by omega) (by omega)
 rw[made_tab] at hmk
 have HSZ:Hid (MC.size=55):=by rw[Hid,hMC,mac_size]
 have HMC:Hid _:=hMC
 have HWH:Hid (WheelsAt w (.slice ga g.n gc) g.n g.wi g.nl g.no):=hwh
 have HRI:Hid _:=hri
 have HST:Hid _:=hst
 have HO:Hid (OldAt w):=ho
 have HG:Hid _:=hg
 obtain ⟨W0,hW0⟩:∃W0,W0=w.alloc (.cells MC 29):=⟨_,rfl⟩
 have hq0:RowAt W0 w.heap.size 29 MC:=by rw[hW0];exact RowAt.new w _ _
 have hz0:W0.heap.size=w.heap.size+1:=by rw[hW0];simp
 have hb0:Below w.heap.size w W0:=by rw[hW0];exact (Below.refl _ w).alloc (Nat.le_refl _) _
 have c0:W0.cell? ⟨w.heap.size,0,none⟩=some (.slice ga g.n gc):=RowAt.cell hq0 (by rw[hMC];exact mac_0 _ _ _ _ _)
 obtain ⟨W1,hW1⟩:∃W1,W1=W0.alloc (.cells (tab g.n fun _=>.string ⟨#[]⟩) 9):=⟨_,rfl⟩
 have hI1:MwI w W1 w.heap.size MC g 0:=by
  refine ⟨by rw[hW1];exact RowAt.alloc hq0 _,?_,by rw[hW1];exact hb0.alloc (by omega) _,rfl⟩
  have h:=RowAt.new W0 9 (tab g.n fun _=>.string ⟨#[]⟩)
  rw[hz0] at h
  rw[hW1,show tab g.n (wnC g 0)=tab g.n (fun _=>.string ⟨#[]⟩) from tab_ext (fun i _=>by simp[wnC,fillV])]
  exact h
 have c1:W1.cell? ⟨w.heap.size,0,none⟩=some (.slice ga g.n gc):=RowAt.cell hI1.box (by rw[hMC];exact mac_0 _ _ _ _ _)
 have HI1:Hid _:=hI1
 have HER:Hid (∀j,j<g.n→whF (g.wi j) (g.nl j) (g.no j)=none→(∀i,i<j→whF (g.wi i) (g.nl i) (g.no i)≠none)→wnE g=7):=fun j hj h1 h2=>by
  unfold wnE
  rw[(firV_of (f:=fun i=>if whF (g.wi i) (g.nl i) (g.no i)=none then 7 else 0) hj (fun i hi=>if_neg (h2 i hi)) (by simp[h1])).1]
  exact if_pos h1
 generalize hn:g.n=n at *
 clear hMC hwh hri hst ho hg hq0 hb0 RR hI1
 go_enter Tryz.func100,Tryz.ntmps100
 go_upto_region 1 with fail
 rw[←hW0]
 clear hW0
 go_upto_region 2 with fail
 rw[←hz0,←hW1]
 rw[hz0]
 clear hW1 hmk c0 hz0
 go_wp2
 clear c1
 go_loopw [22] (fun i W=>∃m:Nat,m≤n∧i=.int .i64 m∧Hid (MwI w W w.heap.size MC g m)∧Hid (∀j,j<m→whF (g.wi j) (g.nl j) (g.no j)≠none)) (fun i _=>((n:Int)-intOf i).toNat)
 case atStart=>exact ⟨0,by omega,rfl,HI1,fun j hj=>by omega⟩
 case round =>
  clear HI1
  obtain ⟨m,hm,rfl,HI,HJ⟩:=hrel
  by_cases hlt:m<n
  ·obtain ⟨wb,wo,R,rfl,hrg,HNU⟩:∃wb wo R,ga=some ⟨wb,wo,none⟩∧wr.rangeAt wb (wo+m*27) (whl (g.wi m) R).toList∧Hid (NumsAt wr R (g.nl m) (g.no m)):=by
    obtain ⟨b,o,cap,R,e,h1,h2⟩:=wheels_cell (HWH.out.below HI.out.old) hlt
    cases e
    exact ⟨b,o,R,rfl,h1,h2⟩
   have hmi:(m:Int)<(n:Int):=by omega
   have hrone:R.oneCell'=true:=nums_one17 HNU.out
   obtain ⟨CS,hCS⟩:∃CS,CS=whl (g.wi m) R:=⟨_,rfl⟩
   have HS2:Hid (CS.size=27):=by rw[Hid,hCS];exact whl_size _ _
   have HON:Hid (CS.all (·.oneCell')=true):=by rw[Hid,hCS];exact whl_one hrone
   rw[←hCS] at hrg
   have HCS:Hid (CS=whl (g.wi m) R):=hCS
   obtain ⟨X,hX⟩:∃X,X=(wr.alloc (.cells (whl (fun _=>0) (.slice none 0 0)) 97)).setRow wr.heap.size CS:=⟨_,rfl⟩
   have hxb:Below wr.heap.size wr X:=by rw[hX];exact PK.Below.setRow ((Below.refl _ wr).alloc (Nat.le_refl _) _) wr.heap.size (Nat.le_refl _) _
   have hxr:RowAt X wr.heap.size 97 CS:=by rw[hX];exact (RowAt.new wr _ _).row _
   have HWN:Hid _:=wheelName_any (g.wi m) R (g.nl m) (g.no m) X (HNU.out.below hxb) ((HO.out.below HI.out.old).below hxb)
   rw[←hCS] at HWN
   have HIX:Hid _:=HI.out.calm hxb
   have hz27:=o_zero v_zero_whl
   clear hCS hxb HI HNU hrone
   go_upto_region 5 with (first | refine wpList_load_arr rfl 97 _ rfl wb (wo+m*27) rfl CS _ hrg Tryz.underlying97 rfl (by rw[HS2.out];exact v_info_whl) ?_ | refine wpList_store_row rfl 97 _ _ rfl wr.heap.size CS rfl rfl 97 _ (RowAt.new wr _ _) (by rw[HS2.out];exact v_info_whl) (by rw[HS2.out,whl_size]) HON.out ?_)
   rw[←hX]
   clear hX hrg
   go_wp2_with (first | refine wpList_load_row rfl 97 _ rfl wr.heap.size rfl 97 CS (0,0) _ hxr Tryz.underlying97 rfl (by rw[HS2.out];exact v_info_whl) ?_)
   refine Calls.mono HWN.out ?_
   rintro e V ⟨hsome,hnone,hb⟩
   have HIV:Hid _:=HIX.out.calm hb
   clear hb HIX HWN hxr
   cases hf:whF (g.wi m) (g.nl m) (g.no m) with
   | none =>
    obtain rfl:=hnone hf
    have HPB:Hid _:=pass_bad 7 (place:Int) (by decide) V
    have HEE:Hid (wnE g=7):=HER.out m hlt hf HJ.out
    clear hsome hnone hf
    go_wp2_with fail
    refine Calls.mono HPB.out ?_
    rintro e V2 ⟨rfl,hV2⟩
    rw[hV2]
    exact ⟨rfl,fun _=>rfl,fun h=>absurd h (by unfold mcE;rw[HEE.out,if_pos (by decide)];decide),HIV.out.old⟩
   | some i =>
    obtain rfl:=hsome i hf
    have HPO:Hid _:=pass_ok (place:Int) V
    have HNI:Hid (whN i=wnm g m):=by rw[Hid];unfold wnm;rw[hf];rfl
    have HJ2:Hid (∀j,j<m+1→whF (g.wi j) (g.nl j) (g.no j)≠none):=fun j hj=>by
     by_cases e:j=m
     ·rw[e,hf];exact fun h=>by cases h
     ·exact HJ.out j (by omega)
    have hput:=HIV.out.put
    have hco:=RowAt.cell HIV.out.out (tab_get (wnC g m) (show m<g.n by omega))
    have hfo:=RowAt.frozen HIV.out.out m
    rw[←HNI.out] at hput
    have HPUT:Hid _:=hput
    clear hsome hnone hf HJ hput HIV
    generalize whN i=NM at *
    generalize wnC g m m=OLDV at *
    go_wp2_with fail
    refine Calls.mono HPO.out ?_
    rintro e V2 ⟨rfl,hV2⟩
    rw[hV2]
    clear hV2 V2 HPO
    go_wp2
    go_roundw
    case rel=>exact ⟨m+1,by omega,by go_num,HPUT,HJ2⟩
    case measure=>simp[intOf];omega
  ·obtain rfl:m=n:=by omega
   have hmi:¬(m:Int)<(m:Int):=by omega
   have HWZ:Hid (wnE g=0):=wnE_zero (fun j hj=>HJ.out j (by omega))
   have r3:wr.rangeAt w.heap.size 3 (ints 26 g.rf).toList:=fun j v hv=>by
    rw[Array.getElem?_toList] at hv
    have hj:j<26:=by
     have:=(Array.getElem?_eq_some_iff.1 hv).1
     rw[ints_size] at this
     exact this
    rw[ints_get _ hj] at hv
    cases hv
    exact RowAt.cell HI.out.box (by rw[HMC.out,mac_rf _ _ _ _ _ hj])
   have HMN:Hid _:=mirrorName_any g.rf wr (HO.out.below HI.out.old)
   clear HJ HER
   go_wp2_with (first | refine wpList_load_arr rfl 27 _ rfl w.heap.size 3 rfl (ints 26 g.rf) _ r3 Tryz.underlying27 rfl (by rw[ints_size];exact info_perm) ?_)
   refine Calls.mono HMN.out ?_
   rintro e V ⟨hsome,hnone,hb⟩
   have HIV:Hid _:=HI.out.calm hb
   clear hb HI HMN r3
   cases hf:mrF g.rf with
   | none =>
    obtain rfl:=hnone hf
    have HPB:Hid _:=pass_bad 7 (place:Int) (by decide) V
    have HEE:Hid (mcE g=7):=by rw[Hid];unfold mcE;rw[HWZ.out,hf];rfl
    clear hsome hnone hf
    go_wp2_with fail
    refine Calls.mono HPB.out ?_
    rintro e V2 ⟨rfl,hV2⟩
    rw[hV2]
    exact ⟨rfl,fun _=>rfl,fun h=>absurd h (by rw[HEE.out];decide),HIV.out.old⟩
   | some i =>
    obtain rfl:=hsome i hf
    have HPO:Hid _:=pass_ok (place:Int) V
    have HNI:Hid (mrN i=mrN ((mrF g.rf).getD 0)):=by rw[Hid,hf];rfl
    have HEE:Hid (mcE g=0):=by rw[Hid];unfold mcE;rw[HWZ.out,hf];rfl
    clear hsome hnone hf HWZ
    generalize mrN i=NM at *
    go_wp2_with fail
    refine Calls.mono HPO.out ?_
    rintro e V2 ⟨rfl,hV2⟩
    rw[hV2]
    clear hV2 V2 HPO
    go_upto_region 11 with fail
    obtain ⟨rb,rc,hrv,-⟩:=id HRI.out
    obtain ⟨sb,sc,hsv,-⟩:=id HST.out
    subst hrv hsv
    have hD:MwI w V.drew w.heap.size MC g m:=⟨HIV.out.box,HIV.out.out,⟨HIV.out.old.os,HIV.out.old.tape,HIV.out.old.output,HIV.out.old.size,HIV.out.old.block⟩,HIV.out.sz⟩
    have HCB:Hid (∀W,MwI w W w.heap.size MC g m→W.cell? ⟨w.heap.size,1,none⟩=some (.slice rb g.rl rc)∧W.cell? ⟨w.heap.size,2,none⟩=some (.slice sb g.sl sc)):=fun W hW=>⟨RowAt.cell hW.box (by rw[HMC.out];exact mac_1 _ _ _ _ _),RowAt.cell hW.box (by rw[HMC.out];exact mac_2 _ _ _ _ _)⟩
    have cz:=HCB.out _ hD
    have HNC:Hid (∀(j:Nat) x,(mcN g)[j]? = some x→V.drew.cell? ⟨w.heap.size+1,0+j,none⟩=some (.string x)):=fun j x hx=>by
     have hj:j<g.n:=by
      have:=(List.getElem?_eq_some_iff.1 hx).1
      rw[mcN_len] at this
      exact this
     rw[Nat.zero_add]
     have h1:=RowAt.cell hD.out (tab_get (wnC g m) hj)
     have h2:wnC g m j=.string x:=by
      unfold wnC fillV
      rw[if_pos (by omega)]
      unfold mcN at hx
      rw[List.getElem?_map,List.getElem?_range hj] at hx
      cases hx
      rfl
     rw[h2] at h1
     exact h1
    have HLR:Hid (g.rl≤65536∧∀i,i<g.rl→0≤g.ri i∧g.ri i<26):=by
     obtain ⟨h1,_,⟨h4,h5⟩,_⟩:=gE_zero HG.out
     rw[ins_iff] at h5
     exact ⟨by omega,fun i hi=>by have:=h5 i hi;omega⟩
    have HLS:Hid (g.sl≤65536∧∀i,i<g.sl→0≤g.st i∧g.st i<26):=by
     obtain ⟨h1,_,_,⟨h4,h5⟩,_⟩:=gE_zero HG.out
     rw[ins_iff] at h5
     exact ⟨by omega,fun i hi=>by have:=h5 i hi;omega⟩
    have HD:Hid _:=hD
    clear HIV hD
    refine wp_region_noPanic ?_
    refine wp_region_held_drew (S:=fun W=>W.cell? ⟨w.heap.size,1,none⟩=some (.slice rb g.rl rc)∧W.cell? ⟨w.heap.size,2,none⟩=some (.slice sb g.sl sc)) (by kernel_rfl) cz (fun hS=>?_)
    refine vtk 0 49 (.slice (some ⟨w.heap.size+1,0,none⟩) m m) rfl (fun W hW=>by clear hS hW;go_simp) hS ?_
    simp only[zsA,zsB,zsC]
    refine vtk 2 51 (.string NM) rfl (fun W hW=>by clear hS hW;go_simp) hS ?_
    simp only[zsA,zsB,zsC]
    refine vtk 3 52 (.pointer (some ⟨w.heap.size,1,none⟩)) rfl (fun W hW=>by clear hS hW;go_simp) hS ?_
    simp only[zsA,zsB,zsC]
    refine vtk 4 53 (.slice rb g.rl rc) rfl (fun W hW=>by have u:=hW.1;clear hS hW;go_simp) hS ?_
    simp only[zsA,zsB,zsC]
    refine vtk 6 55 (.pointer (some ⟨w.heap.size,2,none⟩)) rfl (fun W hW=>by clear hS hW;go_simp) hS ?_
    simp only[zsA,zsB,zsC]
    refine vtk 7 56 (.slice sb g.sl sc) rfl (fun W hW=>by have u:=hW.2;clear hS hW;go_simp) hS ?_
    simp only[zsA,zsB,zsC]
    refine rd1 1 rfl (fun K hK=>?_)
    go_simp
    have hj:=join_any (w.heap.size+1) 0 m (mcN g) ⟨#[44]⟩ V.drew HNC.out (RowAt.lt HD.out.out) (by rw[mcN_len];omega) (by rw[mcN_len];omega) (by have h:=mcN_join g (by omega);exact Nat.le_trans h (by decide))
    rw[mcN_len,hn] at hj
    refine Calls.mono hj ?_
    rintro e Y1 ⟨rfl,hb1⟩
    have HI1:Hid _:=HD.out.calm hb1
    refine hK.out _ _ (HCB.out _ HI1.out) (fun hS1=>?_)
    clear hK hS K
    have hS:=hS1
    clear hS1
    clear hj hb1
    refine rd1 5 rfl (fun K hK=>?_)
    go_simp
    refine Calls.mono (spelt_any _ g.rl g.ri HLR.out.1 HLR.out.2 Y1 (NumsAt.below HRI.out HI1.out.old)) ?_
    rintro e Y2 ⟨rfl,hb1⟩
    have HI2:Hid _:=HI1.out.calm hb1
    refine hK.out _ _ (HCB.out _ HI2.out) (fun hS1=>?_)
    clear hK hS K
    have hS:=hS1
    clear hS1
    clear hb1
    refine rd1 8 rfl (fun K hK=>?_)
    go_simp
    refine Calls.mono (spelt_any _ g.sl g.st HLS.out.1 HLS.out.2 Y2 (NumsAt.below HST.out HI2.out.old)) ?_
    rintro e Y3 ⟨rfl,hb1⟩
    have HI3:Hid _:=HI2.out.calm hb1
    refine hK.out _ _ (HCB.out _ HI3.out) (fun hS1=>?_)
    clear hK hS K
    have hS:=hS1
    clear hS1
    clear hb1 HI1 HI2 HD
    have hb4:=run_b4
    have HI4:Hid _:=HI3.out.calm ((Below.refl _ Y3).alloc (Nat.le_refl _) (.cells #[.string ⟨(Lib.join ((mcN g).map (·.data.toList)) [44]).toArray⟩,.string NM,.string ⟨(sptL g.rl g.ri).toArray⟩,.string ⟨(sptL g.sl g.st).toArray⟩] 9))
    refine rd1 9 rfl (fun K hK=>?_)
    go_simp
    refine hK.out _ _ (HCB.out _ HI4.out) (fun hS1=>?_)
    clear hK hS K
    have hS:=hS1
    clear hS1
    refine rd1 10 rfl (fun K hK=>?_)
    go_simp
    refine hK.out _ _ (HCB.out _ HI4.out) (fun hS1=>?_)
    clear hK hS K
    have hS:=hS1
    clear hS1
    refine wpAnyH_done (by kernel_rfl) ?_ _
    refine NoPanic.normal ?_
    have hO4:OwT (Y3.alloc (.cells #[.string ⟨(Lib.join ((mcN g).map (·.data.toList)) [44]).toArray⟩,.string NM,.string ⟨(sptL g.rl g.ri).toArray⟩,.string ⟨(sptL g.sl g.st).toArray⟩] 9)) w.heap.size (.slice (some ⟨Y3.heap.size,0,none⟩) 4 4) (mc4 g):=by
     unfold mc4
     rw[←HNI.out]
     exact ⟨rfl,.inr ⟨Y3.heap.size,4,_,rfl,HI3.out.old.size,RowAt.new Y3 _ _,Nat.le_refl _,by decide,rfl,rfl⟩⟩
    have HO4:Hid _:=hO4
    have HLO:Hid (w.heap.size≤Y3.heap.size):=HI3.out.old.size
    clear hO4 HI3 hb4 hS cz
    generalize Y3.alloc (.cells #[.string ⟨(Lib.join ((mcN g).map (·.data.toList)) [44]).toArray⟩,.string NM,.string ⟨(sptL g.rl g.ri).toArray⟩,.string ⟨(sptL g.sl g.st).toArray⟩] 9)=X4 at *
    have r29:X4.rangeAt w.heap.size 29 (ints 26 g.pl).toList:=fun j v hv=>by
     rw[Array.getElem?_toList] at hv
     have hj:j<26:=by
      have:=(Array.getElem?_eq_some_iff.1 hv).1
      rw[ints_size] at this
      exact this
     rw[ints_get _ hj] at hv
     cases hv
     exact RowAt.cell HI4.out.box (by rw[HMC.out,mac_pl _ _ _ _ _ hj])
    have HPP:Hid _:=pl_print HG.out X4
    have HPS:Hid (mcW g=mc4 g++(if plS g=[] then [] else [⟨(plS g).toArray⟩])):=rfl
    obtain ⟨i0,hi0,hz0,hz1,hz2⟩:=info17 str3
    go_wp2_with (first | refine wpList_load_arr rfl 27 _ rfl w.heap.size 29 rfl (ints 26 g.pl) _ r29 Tryz.underlying27 rfl (by rw[ints_size];exact info_perm) ?_)
    refine Calls.mono HPP.out ?_
    rintro e V5 ⟨rfl,hb5⟩
    have HB5:Hid (Below w.heap.size w V5):=HI4.out.old.trans (hb5.mono HI4.out.old.size)
    have HO5:Hid (OwT V5 w.heap.size (.slice (some ⟨Y3.heap.size,0,none⟩) 4 4) (mc4 g)):=OwT.below HO4.out hb5
    clear hb5 HPP r29 HI4 HO4
    by_cases hpl:plS g=[]
    ·have HW:Hid (mcW g=mc4 g):=by rw[Hid,HPS.out,if_pos hpl,List.append_nil]
     rw[hpl]
     clear hpl HPS
     go_wp2
     go_ret
     exact ⟨fun h=>absurd HEE.out h,fun _=>⟨_,rfl,by rw[HW.out];exact HO5.out⟩,HB5.out⟩
    ·have HW:Hid (mcW g=mc4 g++[⟨(plS g).toArray⟩]):=by rw[Hid,HPS.out,if_neg hpl]
     have hpe:(plS g).isEmpty=false:=by simpa using hpl
     generalize plS g=PS at *
     have hown:V5.ownsRow w.heap.size 9 1 (.slice (some ⟨Y3.heap.size,0,none⟩) 4 4) 4 ((mc4 g).map Value.string):=HO5.out
     have hv5:w.heap.size≤V5.heap.size:=HB5.out.size
     clear hpl HPS HO5
     go_wp2_with (first | (at_builtin;refine wpList_append_own_at _ rfl _ _ 51 rfl w.heap.size 9 i0 (.string ⟨#[]⟩) 1 16 Tryz.underlying51 hi0 hz0 hz1 hz2 rfl (by decide) _ _ _ rfl (World.ownsRow.alloc hown _) ⟨V5.heap.size,0,none⟩ 1 1 [.string ⟨PS.toArray⟩] rfl rfl (cell_one_new _ _ _) (fun u hu=>by simp at hu;subst hu;rfl) (by decide) (by decide) (by simp;omega) ?_;intro v6 w6 hown6 hgrow6 _ _;obtain ⟨g6,c6,rfl⟩:=own_form17 hown6;have HOWN:Hid _:=hown6;have HGR:Hid _:=hgrow6;clear hown6 hgrow6))
     have hal:Below V5.heap.size V5 (V5.alloc (.cells #[.string ⟨PS.toArray⟩] 9)):=(Below.refl _ V5).alloc (Nat.le_refl _) _
     have HB6:Hid (Below w.heap.size w w6):=(HB5.out.trans (hal.mono hv5)).grown HGR.out (by rw[World.size_alloc];omega) (fun r e=>(World.ownsRow.lt hown r e).1)
     clear hal
     go_wp2
     go_ret
     exact ⟨fun h=>absurd HEE.out h,fun _=>⟨_,rfl,by rw[HW.out];exact HOWN.out⟩,HB6.out⟩
end Go.Proofs.YtkohhdkkbaifoaaGreatDoor
