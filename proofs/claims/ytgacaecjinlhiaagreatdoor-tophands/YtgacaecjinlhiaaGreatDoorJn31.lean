import Derived.Deep.Matrix
import Derived.Conc.LeavingOf
import Derived.Test.YtgacaecjinlhiaaGreatDoorJn30
namespace Go.Proofs.YtgacaecjinlhiaaGreatDoor
section
open Go.RowKit PK Vg
theorem HsR.nth {W:World} {v:Value} {L:List Nat} {h:Hl} (k:HsR W v L h) (hL:0<L.length):∃b o c,v=.slice (some ⟨b,o,none⟩) L.length c∧∀i,i<L.length→∃x y u z,W.cell? ⟨b,o+i*2,none⟩=some (.slice x h.n y)∧W.cell? ⟨b,o+i*2+1,none⟩=some (.slice u (h.lg (L.getD i 0)).length z)∧oA W (.slice x h.n y) (.slice u (h.lg (L.getD i 0)).length z) h (L.getD i 0):=by
 obtain ⟨a,c,rfl,h2⟩:=k
 have hi:∀i,i<L.length→L[i]? = some (L.getD i 0):=fun i hi=>by rw[List.getElem?_eq_getElem hi];simp[List.getD,List.getElem?_eq_getElem hi]
 obtain ⟨b,o,_,_,rfl,_⟩:=h2 0 _ (hi 0 hL)
 refine ⟨b,o,c,rfl,fun i hil=>?_⟩
 obtain ⟨b',o',us,ug,e,e1,e2,e3⟩:=h2 i _ (hi i hil)
 cases e
 obtain ⟨x,y,hx,_⟩:=e3.1
 obtain ⟨u,z,hz,_⟩:=e3.2
 subst hx hz
 rw[Nat.mul_comm] at e1 e2
 exact ⟨x,y,u,z,e1,e2,e3⟩
set_option maxRecDepth 100000 in
set_option maxHeartbeats 2000000 in
theorem js (a b:Option Addr) (c d:Nat) (w:World):Calls Tryz.prog 6 #[.slice a 0 c,.slice b 0 d] w fun e w'=>e=.returned (.bool true)∧Below w.heap.size w w':=by
 have hbe:=Below.refl w.heap.size w
 go_enter Tryz.func6,Tryz.ntmps6
 go_wp2_with fail
 go_loopw [13] (fun x W=>x=.int .i64 0∧Below w.heap.size w W) (fun _ _=>0)
 case atStart=>exact ⟨rfl,hbe⟩
 case round =>
  clear hbe
  obtain ⟨rfl,hbe⟩:=hrel
  go_wp2
  go_ret
  exact ⟨rfl,hbe⟩
set_option maxRecDepth 100000 in
set_option maxHeartbeats 8000000 in
theorem tA (u v:Value) (L:List Nat) (hm:L.length≤1000000) (h:Hl) (w:World) (hu:HsR w u L h) (hv:HsR w v L h) (HSG:Hid (∀N x y W,kK W x (h.gs N) (h.lg N)→kK W y (h.gs N) (h.lg N)→Calls Tryz.prog 16 #[x,y] W fun e w'=>e=.returned (.bool true)∧Below W.heap.size W w')):Calls Tryz.prog 6 #[u,v] w fun e w'=>e=.returned (.bool true)∧Below w.heap.size w w':=by
 by_cases hL:0<L.length
 case neg =>
  obtain rfl:L=[]:=List.eq_nil_of_length_eq_zero (by omega)
  obtain ⟨a,c,rfl,_⟩:=hu
  obtain ⟨b,d,rfl,_⟩:=hv
  exact js _ _ _ _ w
 obtain ⟨b1,o1,c1,rfl,hA⟩:=hu.nth hL
 obtain ⟨b2,o2,c2,rfl,hB⟩:=hv.nth hL
 have HA:=(show Hid _ from hA)
 have HB:=(show Hid _ from hB)
 have hne:((L.length:Int) != (L.length:Int))=false:=by simp
 clear hA hB hu hv hL
 go_enter Tryz.func6,Tryz.ntmps6
 go_wp2_with fail
 clear hne
 go_loopw [13] (fun i W=>∃k:Nat,k≤L.length∧i=.int .i64 (k:Nat)∧Below w.heap.size w W) (fun i _=>((L.length:Int)-intOf i).toNat)
 case atStart=>exact ⟨0,by omega,rfl,Below.refl _ _⟩
 case round =>
  obtain ⟨k,hk,rfl,hbe⟩:=hrel
  by_cases hlt:k<L.length
  ·have HLT:Hid (k<L.length):=hlt
   have hlt2:(k:Int)<(L.length:Int):=by omega
   obtain ⟨x1,y1,u1,v1,e1,f1,n1⟩:=HA.out k hlt
   obtain ⟨x2,y2,u2,v2,e2,f2,n2⟩:=HB.out k hlt
   obtain ⟨N,hN⟩:∃N,N=L.getD k 0:=⟨_,rfl⟩
   rw[←hN] at f1 n1 f2 n2
   have E1:=(show Hid _ from e1)
   have E2:=(show Hid _ from e2)
   have F1:=(show Hid _ from f1)
   have F2:=(show Hid _ from f2)
   have N1:=(show Hid (aq w (.slice x1 h.n y1) h.n fun i=>((iD h.n N i:Nat):Int)) from n1.1)
   have N2:=(show Hid (aq w (.slice x2 h.n y2) h.n fun i=>((iD h.n N i:Nat):Int)) from n2.1)
   have G1:=(show Hid (kK w (.slice u1 (h.lg N).length v1) (h.gs N) (h.lg N)) from n1.2)
   have G2:=(show Hid (kK w (.slice u2 (h.lg N).length v2) (h.gs N) (h.lg N)) from n2.2)
   clear e1 e2 n1 n2 f1 f2 hN hlt
   go_upto_region 6 with fail
   have hSd:Below w.heap.size w wr.drew:=hbe.drew
   clear hbe
   refine wp_region_noPanic ?_
   refine wp_region_held_drew (S:=fun W=>Below w.heap.size w W) (by kernel_rfl) hSd (fun hS=>?_)
   clear hSd
   obtain ⟨Z,hZ⟩:∃x,x=wr.drew:=⟨_,rfl⟩
   rw[←hZ] at hS ⊢
   clear hZ
   refine vtk 0 16 (.slice (some ⟨b1,o1,none⟩) L.length c1) rfl (fun W hW=>by clear hS hW;go_simp) hS ?_
   simp only[zsA,zsB,zsC]
   refine vtk 1 17 (.int .i64 (k:Nat)) rfl (fun W hW=>by clear hS hW;go_simp) hS ?_
   simp only[zsA,zsB,zsC]
   refine vtk 2 18 (.pointer (some ⟨b1,o1+k*2,none⟩)) rfl (fun W hW=>by clear hS hW;go_simp) hS ?_
   simp only[zsA,zsB,zsC]
   refine vtk 3 19 (.pointer (some ⟨b1,o1+k*2,none⟩)) rfl (fun W hW=>by clear hS hW;go_simp) hS ?_
   simp only[zsA,zsB,zsC]
   refine vtk 4 20 (.slice x1 h.n y1) rfl (fun W hW=>by have u:=(hW.cell (p:=⟨b1,o1+k*2,none⟩) (aA E1.out)).trans E1.out;clear hS hW;go_simp) hS ?_
   simp only[zsA,zsB,zsC]
   refine vtk 5 21 (.slice (some ⟨b2,o2,none⟩) L.length c2) rfl (fun W hW=>by clear hS hW;go_simp) hS ?_
   simp only[zsA,zsB,zsC]
   refine vtk 6 22 (.int .i64 (k:Nat)) rfl (fun W hW=>by clear hS hW;go_simp) hS ?_
   simp only[zsA,zsB,zsC]
   refine vtk 7 23 (.pointer (some ⟨b2,o2+k*2,none⟩)) rfl (fun W hW=>by clear hS hW;go_simp) hS ?_
   simp only[zsA,zsB,zsC]
   refine vtk 8 24 (.pointer (some ⟨b2,o2+k*2,none⟩)) rfl (fun W hW=>by clear hS hW;go_simp) hS ?_
   simp only[zsA,zsB,zsC]
   refine vtk 9 25 (.slice x2 h.n y2) rfl (fun W hW=>by have u:=(hW.cell (p:=⟨b2,o2+k*2,none⟩) (aA E2.out)).trans E2.out;clear hS hW;go_simp) hS ?_
   simp only[zsA,zsB,zsC]
   refine rd1 10 rfl (fun K hK=>?_)
   go_simp
   refine Calls.mono (Fa _ _ h.n _ _ (N1.out.below hS) (N2.out.below hS)) ?_
   rintro e Y ⟨rfl,hb8⟩
   refine hK.out _ _ (hS.trans (hb8.mono hS.size)) (fun hS1=>?_)
   clear hK hS K
   have hS:=hS1
   clear hS1
   refine vtk 11 27 (.bool false) rfl (fun W hW=>by clear hS hW;go_simp) hS ?_
   simp only[zsA,zsB,zsC]
   refine vtk 12 28 (.bool false) rfl (fun W hW=>by clear hS hW;go_simp) hS ?_
   simp only[zsA,zsB,zsC]
   refine vtk 13 29 (.slice (some ⟨b1,o1,none⟩) L.length c1) rfl (fun W hW=>by clear hS hW;go_simp) hS ?_
   simp only[zsA,zsB,zsC]
   refine vtk 14 30 (.int .i64 (k:Nat)) rfl (fun W hW=>by clear hS hW;go_simp) hS ?_
   simp only[zsA,zsB,zsC]
   refine vtk 15 31 (.pointer (some ⟨b1,o1+k*2,none⟩)) rfl (fun W hW=>by clear hS hW;go_simp) hS ?_
   simp only[zsA,zsB,zsC]
   refine vtk 16 32 (.pointer (some ⟨b1,o1+k*2+1,none⟩)) rfl (fun W hW=>by clear hS hW;go_simp) hS ?_
   simp only[zsA,zsB,zsC]
   refine vtk 17 33 (.slice u1 (h.lg N).length v1) rfl (fun W hW=>by have u:=(hW.cell (p:=⟨b1,o1+k*2+1,none⟩) (aA F1.out)).trans F1.out;clear hS hW;go_simp) hS ?_
   simp only[zsA,zsB,zsC]
   refine vtk 18 34 (.slice (some ⟨b2,o2,none⟩) L.length c2) rfl (fun W hW=>by clear hS hW;go_simp) hS ?_
   simp only[zsA,zsB,zsC]
   refine vtk 19 35 (.int .i64 (k:Nat)) rfl (fun W hW=>by clear hS hW;go_simp) hS ?_
   simp only[zsA,zsB,zsC]
   refine vtk 20 36 (.pointer (some ⟨b2,o2+k*2,none⟩)) rfl (fun W hW=>by clear hS hW;go_simp) hS ?_
   simp only[zsA,zsB,zsC]
   refine vtk 21 37 (.pointer (some ⟨b2,o2+k*2+1,none⟩)) rfl (fun W hW=>by clear hS hW;go_simp) hS ?_
   simp only[zsA,zsB,zsC]
   refine vtk 22 38 (.slice u2 (h.lg N).length v2) rfl (fun W hW=>by have u:=(hW.cell (p:=⟨b2,o2+k*2+1,none⟩) (aA F2.out)).trans F2.out;clear hS hW;go_simp) hS ?_
   simp only[zsA,zsB,zsC]
   refine rd1 23 rfl (fun K hK=>?_)
   go_simp
   refine Calls.mono (HSG.out N _ _ _ (G1.out.below hS) (G2.out.below hS)) ?_
   rintro e Y2 ⟨rfl,hb8⟩
   refine hK.out _ _ (hS.trans (hb8.mono hS.size)) (fun hS1=>?_)
   clear hK hS K
   have hS:=hS1
   clear hS1
   refine vtk 24 40 (.bool false) rfl (fun W hW=>by clear hS hW;go_simp) hS ?_
   simp only[zsA,zsB,zsC]
   refine vtk 25 41 (.bool false) rfl (fun W hW=>by clear hS hW;go_simp) hS ?_
   simp only[zsA,zsB,zsC]
   refine wpAnyH_done (by kernel_rfl) ?_ _
   refine NoPanic.normal ?_
   have HS:=(show Hid _ from hS)
   clear hS
   go_wp2_with fail
   go_roundw
   case rel=>exact ⟨k+1,HLT.out,by go_num,HS.out⟩
   case measure=>have:=HLT.out;simp[intOf];omega
  ·obtain rfl:k=L.length:=by omega
   have hnn:¬((L.length:Nat):Int)<((L.length:Nat):Int):=by omega
   go_wp2
   go_ret
   exact ⟨rfl,hbe⟩
end
section
open Go.RowKit PK Vg Go.Conc Cs
theorem BV {E:Env} {u v:Value} (h:VR E u v):VR E (.tuple #[u,.int .i64 0]) (.tuple #[v,.int .i64 0]):=by
 refine .tuple rfl fun i x y hx hy=>?_
 match i,hx,hy with
 | 0,hx,hy=>simp at hx hy;subst hx hy;exact h
 | 1,hx,hy=>simp at hx hy;subst hx hy;exact .int .i64 0
 | i+2,hx,hy=>simp at hx
theorem Dh {g:Gm} {hl:Hl} {cr te:ByteArray} (hB:BmS g hl cr te) (N:Nat) (x y:Value) (W:World) (hx:kK W x (hl.gs N) (hl.lg N)) (hy:kK W y (hl.gs N) (hl.lg N)):Calls Tryz.prog 16 #[x,y] W fun e w'=>e=.returned (.bool true)∧Below W.heap.size W w':=by
 obtain ⟨A,ok,pr,ht,e1,e2⟩:=hB.t N
 rw[e1,e2] at hx hy
 exact ED x y A pr (eR ok 26) (by have:=yM ok 26;omega) W hx hy
theorem Bn {g:Gm} {hl:Hl} (hn3:g.n≤3):(hl.fnd (26 ^ g.n)).length≤1000000:=by
 refine Nat.le_trans (hl.Fz _) ?_
 rcases (by omega:g.n=0∨g.n=1∨g.n=2∨g.n=3) with h | h | h | h <;> rw[h] <;> decide
theorem dY {w1 w2 w3:World} (h:Kept w1 w2) (k:Kept w2 w3):Kept w1 w3:=⟨fun b hb=>(k.1 b (by
 have h1:=h.1 b hb
 have h2:(w2.heap[b]?).isSome=true:=by rw[h1];simp[hb]
 simpa using h2)).trans (h.1 b hb),k.2.1.trans h.2.1,k.2.2.trans h.2.2⟩
theorem Ee {W w10:World} {g0 g10:Goroutine} {gs10:Array Goroutine} {sl10:Option (Nat × Nat)} {t10:Trace} {q10:Nat→Nat} {NN:Nat} (hr:runNT Tryz.prog NN (crowd #[g0] W none) #[]=(.next (crowd gs10 w10 sl10),t10)) (i10:gs10[0]? = some g10) (hrun10:g10.status=.running) (hend10:∀W,stepG Tryz.prog true g10 W=.ended (.done (.bool true)) W #[]) (Q10:Qt Tryz.prog gs10 t10 q10 w10.heap.size) (hkept:Kept W w10) :
  ∃N last o w' t',runNT Tryz.prog (N+1) (solo g0 W) #[]=(.ended o w',t')∧runN Tryz.prog N (solo g0 W)=.next last∧step Tryz.prog last=.ended o w'∧Conc.Good Tryz.prog (fun v W'=>v=.bool true∧Kept W W') last o w' t':=by
 obtain ⟨B0,hP⟩:=Q10.past
 obtain ⟨N11,last,o,w',t',e1,e2,e3,e4⟩:=beside_ends (P:=Tryz.prog) (Shun:=fun _=>False) (B:=B0) (D:=fun _ _ _=>False) (Post:=fun v W'=>v=.bool true∧Kept W W') (sl:=sl10) (n:=0) (fun _ _ _ h=>h.elim) i10 Q10.GD (hP B0 (Nat.le_refl _)) (Goes.stop fun w₂ h₂=>by
  obtain ⟨d,rfl⟩:=h₂
  exact ⟨hrun10,.bool true,#[],hend10 _,fun e he=>by simp at he,rfl,hkept⟩)
 rw[solo_eq_crowd]
 refine ⟨NN+N11,last,o,w',t',?_,?_,e3,e4⟩
 ·rw[Nat.add_assoc NN N11 1,runNT_add,hr]
  exact e1
 ·rw[←runNT_fst _ _ _ #[],runNT_add,hr]
  show (runNT Tryz.prog N11 (crowd gs10 w10 sl10) t10).1=_
  rw[runNT_fst]
  exact e2
end
section
open Go.RowKit PK Vg
end
section
open Go.RowKit PK Go.ChangeShapes Go.WideShapes Go.ChangeAt
theorem nV:Tryz.prog.cellsOf 3=1:=by kernel_rfl
theorem uc:Tryz.prog.cellsOf 25=26:=by kernel_rfl
theorem gu:Tryz.prog.cellsOf 104=27:=by kernel_rfl
theorem vF:Tryz.prog.cellsOf 27=55:=by kernel_rfl
section
variable {H:Type} {enc:TypeId × Value→H} {W:World}
set_option maxRecDepth 100000 in
theorem nt {fuel:Nat} {l:List Value} {x:DataW H × List MemPlace} (h:DataW.trod enc Tryz.prog W 0 (fun _=>true) true fuel 25 l=some x):∃f,l=(ints 26 f).toList:=by
 obtain ⟨xs,m,_,_,hl,hxl,hi⟩:=DataW.trod_array Tryz.underlying25 h
 rw[uc] at hl
 rw[nV] at hi
 have key:∀i,i<26→∃n:Int,l[i]? = some (.int .i64 n):=fun i h26=>by
  have h1:=hi i h26
  have h2:xs[i]? = some (xs[i]'(by omega)):=List.getElem?_eq_getElem _
  rw[h2] at h1
  obtain ⟨n,e,_,_⟩:=DataW.trod_int Tryz.underlying3 h1
  refine ⟨n,?_⟩
  have h3:i<l.length:=by omega
  have h4:((l.drop (i*1)).take 1)=[l[i]'h3]:=by
   rw[Nat.mul_one,List.drop_eq_getElem_cons h3]
   rfl
  rw[h4] at e
  simp at e
  rw[List.getElem?_eq_getElem h3,e]
 refine ⟨fun i=>match l[i]? with | some (.int _ n)=>n | _=>0,?_⟩
 apply List.ext_getElem?
 intro i
 have ex:∀f,(ints 26 f).toList[i]? = (ints 26 f)[i]?:=fun f=>Array.getElem?_toList
 rw[ex]
 by_cases h26:i<26
 ·obtain ⟨n,hn⟩:=key i h26
  rw[aB _ h26,hn]
 ·have e1:l[i]? = none:=List.getElem?_eq_none (by omega)
  rw[e1,Array.getElem?_eq_none (by rw[ag];omega)]
end
end
section
open Go.RowKit PK Go.ChangeShapes Go.WideShapes Go.ChangeAt
theorem AD:laidOutB Tryz.prog=true:=by kernel_rfl
end
section
open Go.RowKit PK Go.ChangeShapes Go.WideShapes Go.ChangeAt
def Fit {H:Type} (T:TypeId) (d:DataW H) (n:Nat):Prop:=n=0∨∃k,k ∈ d.weights Tryz.prog T∧n*8≤k
theorem iR {H:Type} {P:Program} {e:TypeId}:∀{l:List (DataW H)} {d:DataW H},d ∈ l→∀k ∈ d.weights P e,k ∈ DataW.weightsAll P e l
 | x :: l,d,h,k,hk=>by
  simp only[DataW.weightsAll,List.mem_append]
  rcases List.mem_cons.1 h with rfl | h
  ·exact .inl hk
  ·exact .inr (iR h k hk)
theorem vg:Tryz.prog.bytesOf 3=8:=by kernel_rfl
section
variable {H:Type} {enc:TypeId × Value→H} {W:World}
end
end
section
open Go.RowKit PK Go.ChangeShapes Go.WideShapes Go.ChangeAt
theorem add_zero' (a:Addr):a.add 0=a:=by unfold Addr.add;simp
theorem KJ {W:World} {a:Addr} {v:Value} (h:W.cell? a=some v):a.spot=none∧∃y T fr,W.heap[a.block]? = some (.cells y T fr):=by
 refine ⟨World.cell?_spot h,?_⟩
 unfold World.cell? at h
 split at h
 ·exact ⟨_,_,_,by assumption⟩
 ·cases h
theorem yu {W:World} {a:Addr} {v:Value} (h:W.cell? (a.add 0)=some v):a.spot=none∧∃y T fr,W.heap[a.block]? = some (.cells y T fr):=by
 rw[add_zero'] at h
 exact KJ h
section
variable {H:Type} {enc:TypeId × Value→H} {W:World}
set_option maxRecDepth 100000 in
theorem jy {fuel:Nat} {l:List Value} {x:DataW H × List MemPlace} (h:DataW.trod enc Tryz.prog W 0 (fun _=>true) true fuel 23 l=some x):∃v n f,l=[v]∧aq W v n f∧Rt W v∧Fit 23 x.1 n:=by
 rcases open_ints Tryz.underlying23 Tryz.underlying3 nV h with ⟨hcs0,_⟩ | ⟨a,len,cap,zs,hcs0,_,hl,hm,hzl,hx,hcell,_⟩
 ·exact ⟨_,0,fun _=>0,hcs0,⟨none,0,rfl,by decide,fun c hc=>by omega⟩,(fun _ _ _ e=>by cases e),.inl rfl⟩
 ·simp at hzl
  refine ⟨_,len,fun c=>zs.getD c 0,hcs0,⟨some a,cap,rfl,by omega,fun c hc=>?_⟩,(fun a' l' c' e hp=>by cases e;exact yu (hcell 0 (by omega))),?_⟩
  ·have h0:=hcell c (by omega)
   have hsp:=World.cell?_spot (hcell 0 (by omega))
   obtain ⟨bm,om,spot⟩:=a
   have hspot:spot=none:=by simpa [Addr.add] using hsp
   subst hspot
   exact ⟨bm,om,rfl,by rw[←add_plain];exact h0⟩
  ·have e:=(Prod.ext_iff.1 hx).1
   rw[e]
   refine .inr ⟨_,by simp only[DataW.weights,Tryz.underlying23];exact List.mem_cons_self ..,?_⟩
   rw[vg]
   refine Nat.mul_le_mul_right _ ?_
   simp[lits]
   omega
set_option maxRecDepth 100000 in
theorem tX {fuel:Nat} {l:List Value} {x:DataW H × List MemPlace} (h:DataW.trod enc Tryz.prog W 0 (fun _=>true) true fuel 104 l=some x):∃f v n k,l=(whl f v).toList∧aq W v n k∧Rt W v∧Fit 104 x.1 n:=by
 obtain ⟨xs,m,_,hx,hl,hxl,hi⟩:=DataW.trod_struct Tryz.underlying104 h
 rw[gu] at hl
 have hxl2:xs.length=2:=hxl
 have h0:=hi 0 _ rfl
 have h1:=hi 1 _ rfl
 rw[List.getElem?_eq_getElem (by omega)] at h0 h1
 obtain ⟨f,hf⟩:=nt h0
 obtain ⟨v,n,k,hv,hk,hrt,hn⟩:=jy h1
 refine ⟨f,v,n,k,?_,hk,hrt,?_⟩
 ·have e1:(l.drop 0).take 26=(ints 26 f).toList:=hf
  have e2:(l.drop 26).take 1=[v]:=hv
  have e3:l=(l.take 26)++((l.drop 26).take 1):=by
   rw[List.take_of_length_le (l:=l.drop 26) (by simp;omega),List.take_append_drop]
  rw[e3,e2,show l.take 26=(ints 26 f).toList from e1]
  simp[whl]
 ·rw[hx]
  rcases hn with hn | ⟨z,hz,hle⟩
  ·exact .inl hn
  ·refine .inr ⟨z,?_,hle⟩
   simp only[DataW.weights,Tryz.underlying104]
   exact DataW.weights_mem_each (j:=1) (t:=23) rfl (by rw[List.getElem?_map,List.getElem?_eq_getElem (by omega)];rfl) z hz
set_option maxRecDepth 100000 in
theorem qV {fuel:Nat} {l:List Value} {x:DataW H × List MemPlace} (h:DataW.trod enc Tryz.prog W 0 (fun _=>true) true fuel 22 l=some x):∃v n wi nl no,l=[v]∧WhR W v n wi nl no∧Rt W v∧∀r,r<n→Fit 22 x.1 (nl r):=by
 rcases DataW.trod_slice Tryz.underlying22 h with ⟨e,_⟩ | ⟨a,len,cap,elems,rest,m,_,rfl,hx,hb,hl,hm,hlen,hel,hsp0,_⟩
 ·exact ⟨_,0,fun _ _=>0,fun _=>0,fun _ _=>0,e,⟨none,0,fun _=>.slice none 0 0,rfl,by decide,fun r hr=>by omega,fun r hr=>by omega⟩,(fun _ _ _ e=>by cases e),fun r hr=>by omega⟩
 ·rw[gu] at hel
  have key:∀r,∃q:(Nat→Int) × Value × Nat × (Nat→Int),r<len→W.cells? 0 (a.add (r*27)) 27=some (whl q.1 q.2.1).toList∧(aq W q.2.1 q.2.2.1 q.2.2.2∧Rt W q.2.1)∧Fit 22 x.1 q.2.2.1:=fun r=>by
   by_cases hr:r<len
   ·have h1:=hel r hr
    rw[List.getElem?_eq_getElem (by omega)] at h1
    obtain ⟨cs,h2,h3⟩:=Option.bind_eq_some_iff.1 h1
    obtain ⟨f,v,n,k,e,hk,hrt,hn⟩:=tX h3
    refine ⟨(f,v,n,k),fun _=>⟨by rw[h2,e],⟨hk,hrt⟩,?_⟩⟩
    rw[hx]
    rcases hn with hn | ⟨z,hz,hle⟩
    ·exact .inl hn
    ·refine .inr ⟨z,?_,hle⟩
     simp only[DataW.weights,Tryz.underlying22]
     exact List.mem_cons_of_mem _ (List.mem_append.2 (.inl (iR (List.mem_map.2 ⟨_,List.getElem_mem _,rfl⟩) z hz)))
   ·exact ⟨(fun _=>0,.slice none 0 0,0,fun _=>0),fun h=>absurd h hr⟩
  obtain ⟨q,hq⟩:=Classical.axiomOfChoice key
  refine ⟨_,len,fun r=>(q r).1,fun r=>(q r).2.2.1,fun r=>(q r).2.2.2,rfl,⟨some a,cap,fun r=>(q r).2.1,rfl,by omega,fun r hr=>?_,fun r hr=>(hq r hr).2.1⟩,?_,fun r hr=>(hq r hr).2.2⟩
  rotate_left
  ·intro a' l' c' e hp
   cases e
   by_cases hl0:0<len
   ·have h00:=(World.cells?_some (hq 0 hl0).1).2.2 0 (by omega)
    rw[Array.getElem?_toList,ff _ _ (by decide),Nat.zero_mul] at h00
    exact yu (a:=a) (by rw[add_zero'] at h00;first | exact h00 | (rw[add_zero'];exact h00))
   ·obtain ⟨hr1,hr2⟩:=hsp0 rfl
    have h1:=hr2 0 (by omega)
    rw[List.getElem?_eq_getElem (by omega)] at h1
    obtain ⟨cs,h2,_⟩:=Option.bind_eq_some_iff.1 h1
    rw[gu] at h2
    have h3:=(World.cells?_some h2).2.2 0 (by omega)
    have h4:=(World.cells?_some h2).2.1
    rw[List.getElem?_eq_getElem (by omega)] at h3
    have hl1:len=0:=by omega
    rw[hl1,Nat.zero_add,Nat.zero_mul,add_zero'] at h3
    exact yu (a:=a) (by first | exact h3 | (rw[add_zero'];exact h3))
  have h1:=(World.cells?_some (hq r hr).1).2.2
  have h00:=(World.cells?_some (hq 0 (by omega)).1).2.2 0 (by omega)
  rw[Array.getElem?_toList,ff _ _ (by decide),Nat.zero_mul] at h00
  have hsp:=World.cell?_spot h00
  obtain ⟨bm,om,spot⟩:=a
  have hspot:spot=none:=by simpa [Addr.add] using hsp
  subst hspot
  refine ⟨bm,om,rfl,fun j v hv=>?_⟩
  have hj:j<27:=by
   have:=(List.getElem?_eq_some_iff.1 hv).1
   rw[Array.length_toList,aH] at this
   exact this
  have h2:=h1 j hj
  rw[hv,Addr.add_mid,Addr.add_mid] at h2
  exact h2
set_option maxHeartbeats 2000000 in
set_option maxRecDepth 100000 in
theorem qI {base:Nat} {v:Value} {d:DataW H} {ps:List MemPlace} (hval:Value.okWide Tryz.prog W .any base 27 v) (h:DataW.Trod enc Tryz.prog W 0 (fun _=>true) true 27 v d ps):∃g,JD W v g∧(∀r,r<g.n→Fit 27 d (g.nl r))∧Fit 27 d g.rl:=by
 obtain ⟨cs,rfl,hsz,_⟩:∃cs,v=.agg cs∧cs.size=Tryz.prog.cellsOf 27∧Row.okWide Tryz.prog W .any base 27 cs:=by
  unfold Value.okWide at hval
  rw[Tryz.underlying27] at hval
  exact hval
 rw[vF] at hsz
 obtain ⟨fuel,hf⟩:=h
 have hcs:(Value.agg cs).cells.toList=cs.toList:=rfl
 rw[hcs] at hf
 obtain ⟨xs,m,_,hx,hl,hxl,hi⟩:=DataW.trod_struct Tryz.underlying27 hf
 have hxl2:xs.length=5:=hxl
 have h0:=hi 0 _ rfl
 have h1:=hi 1 _ rfl
 have h2:=hi 2 _ rfl
 have h3:=hi 3 _ rfl
 have h4:=hi 4 _ rfl
 rw[List.getElem?_eq_getElem (by omega)] at h0 h1 h2 h3 h4
 obtain ⟨v0,n,wi,nl,no,e0,k0,rt0,hb0⟩:=qV h0
 obtain ⟨v1,rl,ri,e1,k1,rt1,hb1⟩:=jy h1
 obtain ⟨v2,sl,st,e2,k2,rt2,_⟩:=jy h2
 obtain ⟨rf,e3⟩:=nt h3
 obtain ⟨pl,e4⟩:=nt h4
 have hbd:∀r,r<n→Fit 27 d (nl r):=fun r hr=>by
  have e':d=.agg (xs.map (·.1)):=(Prod.ext_iff.1 hx).1
  rw[e']
  rcases hb0 r hr with hn | ⟨z,hz,hle⟩
  ·exact .inl hn
  ·refine .inr ⟨z,?_,hle⟩
   simp only[DataW.weights,Tryz.underlying27]
   exact DataW.weights_mem_each (j:=0) (t:=22) rfl (by rw[List.getElem?_map,List.getElem?_eq_getElem (by omega)];rfl) z hz
 have hbr:Fit 27 d rl:=by
  have e':d=.agg (xs.map (·.1)):=(Prod.ext_iff.1 hx).1
  rw[e']
  rcases hb1 with hn | ⟨z,hz,hle⟩
  ·exact .inl hn
  ·refine .inr ⟨z,?_,hle⟩
   simp only[DataW.weights,Tryz.underlying27]
   exact DataW.weights_mem_each (j:=1) (t:=23) rfl (by rw[List.getElem?_map,List.getElem?_eq_getElem (by omega)];rfl) z hz
 refine ⟨⟨n,wi,nl,no,rl,ri,sl,st,rf,pl⟩,⟨v0,v1,v2,?_,k0,k1,k2,rt0,rt1,rt2⟩,hbd,hbr⟩
 have e0':(cs.toList.drop 0).take 1=[v0]:=e0
 have e1':(cs.toList.drop 1).take 1=[v1]:=e1
 have e2':(cs.toList.drop 2).take 1=[v2]:=e2
 have e3':(cs.toList.drop 3).take 26=(ints 26 rf).toList:=e3
 have e4':(cs.toList.drop 29).take 26=(ints 26 pl).toList:=e4
 have hlen:cs.toList.length=55:=by simpa using hsz
 have key:cs.toList=[v0]++([v1]++([v2]++((ints 26 rf).toList++(ints 26 pl).toList))):=by
  rw[←e0',←e1',←e2',←e3',←e4']
  generalize cs.toList=l at hlen
  have q4:(l.drop 29).take 26=l.drop 29:=List.take_of_length_le (by simp;omega)
  have q3:(l.drop 3).take 26++l.drop 29=l.drop 3:=by
   have:=List.take_append_drop 26 (l.drop 3)
   rw[List.drop_drop] at this
   exact this
  have q2:(l.drop 2).take 1++l.drop 3=l.drop 2:=by
   have:=List.take_append_drop 1 (l.drop 2)
   rw[List.drop_drop] at this
   exact this
  have q1:(l.drop 1).take 1++l.drop 2=l.drop 1:=by
   have:=List.take_append_drop 1 (l.drop 1)
   rw[List.drop_drop] at this
   exact this
  have q0:(l.drop 0).take 1++l.drop 1=l:=by
   rw[List.drop_zero]
   exact List.take_append_drop 1 l
  rw[q4,q3,q2,q1,q0]
 have e:cs=mac v0 v1 v2 rf pl:=by
  refine Array.toList_inj.1 (key.trans ?_)
  unfold mac
  rw[Array.toList_append,Array.toList_append]
  rfl
 rw[e]
end
end
section
open Go.Conc
theorem AK {P:Program} {f:FuncId} {args:Array Value} {w:World} {R:Value→World→Prop} (h:Calls P f args w fun e w'=>∃v,e=.returned v∧R v w') (hi:P.inits.idxOf? f=none) :
  ∃N last o w' t',runNT P (N+1) (solo (G (Frame.enter P f args .normal) []) w) #[]=(.ended o w',t')∧runN P N (solo (G (Frame.enter P f args .normal) []) w)=.next last∧step P last=.ended o w'∧Conc.Good P R last o w' t':=by
 have h':Calls P f args w fun | .returned v,w'=>R v w' | _,_=>False:=h.mono fun e w' ⟨v,e1,e2⟩=>by
  subst e1
  exact e2
 obtain ⟨n,v,w',fr,hn,hend,hp⟩:=h'.done_lone hi
 have hall:=allBy_of_lone P n _ _ hn (by simp[lone]) rfl
 have hT:runNT P (n+1) (lone (Frame.enter P f args .normal) [] w) #[]=(.ended (.done v) w',(runNT P (n+1) (lone (Frame.enter P f args .normal) [] w) #[]).2):=by
  refine Prod.ext ?_ rfl
  rw[runNT_fst]
  exact hend
 obtain ⟨_,a2,a3⟩:=alone_of_lone (w':=w') hn
 refine ⟨n,_,_,_,_,hT,hn,step_of_runs hn hend,v,rfl,hp,fun said=>?_,a2,⟨fun g hg=>by simp[lone] at hg,rfl⟩,a3⟩
 exact not_race_of_allBy hall
end
section
open Go.RowKit PK Vg
structure BsS (w W:World) (A:Array Value) (cr:ByteArray):Prop where
 m:af W w.heap.size 27 A
 c:af W (w.heap.size+1) 9 #[.string cr]
 below:Below w.heap.size w W
theorem BsS.new (w:World) (A:Array Value) (cr:ByteArray):BsS w ((w.alloc (.cells A 27)).alloc (.cells #[.string cr] 9)) A cr:=by
 refine ⟨(af.new w _ _).alloc _,?_,((Below.refl _ w).alloc (Nat.le_refl _) _).alloc (by simp) _⟩
 have h:=af.new (w.alloc (.cells A 27)) 9 #[.string cr]
 rw[World.size_alloc] at h
 exact h
theorem BsS.step {w W W':World} {A:Array Value} {cr:ByteArray} (h:BsS w W A cr) (hb:Below W.heap.size W W'):BsS w W' A cr:=⟨h.m.below hb h.m.lt,h.c.below hb h.c.lt,h.below.trans (hb.mono h.below.size)⟩
set_option maxRecDepth 100000 in
set_option maxHeartbeats 4000000 in
theorem ux (vm:Value) (g:Gm) (cr te:ByteArray) (h:Int) (hE:bwE g cr.data.toList te.data.toList≠0) (w:World) (hm:cE w vm g):Calls Tryz.prog 5 #[vm,.string cr,.string te,.int .i64 h] w fun e w'=>e=.returned (.tuple #[.slice none 0 0,.int .i64 (bwE g cr.data.toList te.data.toList)])∧Below w.heap.size w w':=by
 have HC:=(show Hid (∀W,Below w.heap.size w W→Calls Tryz.prog 9 #[vm,.string cr,.string te] W fun e w'=>e=.returned (.int .i64 (bwE g cr.data.toList te.data.toList))∧Below W.heap.size W w') from fun W hb=>pY vm g cr te W (hm.below hb))
 obtain ⟨a,b,c,rfl,_⟩:=hm
 have h0:=BsS.new w (mac a b c g.rf g.pl) cr
 have hA0s:(mac a b c g.rf g.pl).size=55:=aE _ _ _ _ _
 generalize mac a b c g.rf g.pl=A0 at *
 have hz2:(bwE g cr.data.toList te.data.toList != 0)=true:=by simpa using hE
 clear hE
 generalize bwE g cr.data.toList te.data.toList=E at *
 go_enter Tryz.func5,Tryz.ntmps5
 go_upto_region 1 with fail
 generalize (w.alloc (.cells A0 27)).alloc (.cells #[.string cr] 9)=W0 at *
 have hcc:=h0.c.cell (i:=0) rfl
 go_wp2_with (first | refine wpList_load_row rfl 27 _ rfl w.heap.size rfl 27 A0 (0,0) _ h0.m Tryz.underlying27 rfl (by rw[hA0s];exact aF) ?_)
 refine (HC.out _ h0.below).mono ?_
 rintro e W1 ⟨rfl,hb⟩
 have HB:=(show Hid _ from (h0.step hb).below)
 clear hb h0 HC hcc
 go_wp2
 go_ret2
 exact ⟨rfl,HB.out⟩
end
end Go.Proofs.YtgacaecjinlhiaaGreatDoor
