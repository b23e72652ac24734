/-
  Several texts, joined: HLeibM, HLeib, HWith.
-/
import Derived.Test.YtkohhdkkbaifoaaGreatDoorHOrd
import Derived.Test.YtkohhdkkbaifoaaGreatDoorJn15
/-
  Contract of the document's Leibniz and Det; what they are.
-/
namespace Go.Proofs.YtkohhdkkbaifoaaGreatDoor
open Go.RowKit PK

def prodTo (Z:Nat→Nat→Int) (o:List Int) (s:Int):Nat→Int
 | 0=>s
 | y+1=>(prodTo Z o s y*Z y (o.getD y 0).toNat).tmod 26
def pI (Z:Nat→Nat→Int) (o:List Int) (s:Int):Nat→Int
 | 0=>s
 | y+1=>pI Z o s y*Z y (o.getD y 0).toNat
theorem tmod_mod (x:Int):x.tmod 26 % 26=x % 26:=by
 rw[Int.tmod_eq_emod]
 split <;> omega
theorem prodTo_mod (Z:Nat→Nat→Int) (o:List Int) (s:Int):∀y,prodTo Z o s y % 26=pI Z o s y % 26
 | 0=>rfl
 | y+1=>by
  show (prodTo Z o s y*Z y (o.getD y 0).toNat).tmod 26 % 26=(pI Z o s y*Z y (o.getD y 0).toNat) % 26
  rw[tmod_mod]
  exact mul_mod (prodTo_mod Z o s y) rfl
theorem prodTo_bound (Z:Nat→Nat→Int) (o:List Int) (s:Int) (hs:s=1∨s=-1):∀y,-26<prodTo Z o s y∧prodTo Z o s y<26
 | 0=>by show -26<s∧s<26;omega
 | y+1=>by
  show -26<(prodTo Z o s y*Z y (o.getD y 0).toNat).tmod 26∧(prodTo Z o s y*Z y (o.getD y 0).toNat).tmod 26<26
  rw[Int.tmod_eq_emod]
  split <;> omega
def leibTo (n:Nat) (Z:Nat→Nat→Int) (ps:List (List Int × Int)):Nat→Int
 | 0=>0
 | i+1=>(leibTo n Z ps i+prodTo Z (ps.getD i ([],0)).1 (ps.getD i ([],0)).2 n) % 26
def sumP (n:Nat) (Z:Nat→Nat→Int):List (List Int × Int)→Int
 | []=>0
 | p :: ps=>pI Z p.1 p.2 n+sumP n Z ps
theorem sumP_append (n:Nat) (Z:Nat→Nat→Int):∀a b,sumP n Z (a++b)=sumP n Z a+sumP n Z b
 | [],b=>by simp[sumP]
 | p :: a,b=>by
  show pI Z p.1 p.2 n+sumP n Z (a++b)=pI Z p.1 p.2 n+sumP n Z a+sumP n Z b
  rw[sumP_append n Z a b]
  omega
theorem leibTo_mod (n:Nat) (Z:Nat→Nat→Int) (ps:List (List Int × Int)):∀i,i≤ps.length→leibTo n Z ps i=sumP n Z (ps.take i) % 26
 | 0,_=>rfl
 | i+1,h=>by
  have hp:ps[i]? = some (ps.getD i ([],0)):=by simp[List.getD,List.getElem?_eq_getElem (show i<ps.length by omega)]
  rw[List.take_add_one,hp,sumP_append]
  show (leibTo n Z ps i+prodTo Z (ps.getD i ([],0)).1 (ps.getD i ([],0)).2 n) % 26=(sumP n Z (ps.take i)+(pI Z (ps.getD i ([],0)).1 (ps.getD i ([],0)).2 n+0)) % 26
  have h1:=leibTo_mod n Z ps i (by omega)
  have h2:=prodTo_mod Z (ps.getD i ([],0)).1 (ps.getD i ([],0)).2 n
  omega
theorem ord_is1:ordL 1=[([0],1)]:=by decide
theorem ord_is2:ordL 2=[([0,1],1),([1,0],-1)]:=by decide
theorem ord_is3:ordL 3=[([0,1,2],1),([0,2,1],-1),([2,0,1],1),([1,0,2],-1),([1,2,0],1),([2,1,0],-1)]:=by decide
theorem ord_is4:ordL 4=[([0,1,2,3],1),([0,1,3,2],-1),([0,3,1,2],1),([3,0,1,2],-1),([0,2,1,3],-1),([0,2,3,1],1),([0,3,2,1],-1),([3,0,2,1],1),([2,0,1,3],1),([2,0,3,1],-1),([2,3,0,1],1),([3,2,0,1],-1),([1,0,2,3],-1),([1,0,3,2],1),([1,3,0,2],-1),([3,1,0,2],1),([1,2,0,3],1),([1,2,3,0],-1),([1,3,2,0],1),([3,1,2,0],-1),([2,1,0,3],-1),([2,1,3,0],1),([2,3,1,0],-1),([3,2,1,0],1)]:=by decide
theorem leib_is1 (Z:Nat→Nat→Int):sumP 1 Z (ordL 1)=dI 1 Z:=by
 rw[ord_is1]
 simp[sumP,pI,dI,sumTo,sgI,List.getD]
theorem leib_is2 (Z:Nat→Nat→Int):sumP 2 Z (ordL 2)=dI 2 Z:=by
 rw[ord_is2]
 simp[sumP,pI,dI,sumTo,sgI,minor,skip,List.getD]
 grind
theorem leib_is3 (Z:Nat→Nat→Int):sumP 3 Z (ordL 3)=dI 3 Z:=by
 rw[ord_is3]
 simp[sumP,pI,dI,sumTo,sgI,minor,skip,List.getD]
 grind
set_option maxHeartbeats 4000000 in
set_option maxRecDepth 100000 in
theorem leib_is4 (Z:Nat→Nat→Int):sumP 4 Z (ordL 4)=dI 4 Z:=by
 rw[ord_is4]
 simp[sumP,pI,dI,sumTo,sgI,minor,skip,List.getD]
 grind
theorem leib_det (n:Nat) (h1:1≤n) (h4:n≤4) (Z:Nat→Nat→Int):leibTo n Z (ordL n) (ordL n).length=detL n Z:=by
 rw[leibTo_mod n Z _ _ (Nat.le_refl _),List.take_length,detL_mod]
 obtain rfl | rfl | rfl | rfl:n=1∨n=2∨n=3∨n=4:=by omega
 ·rw[leib_is1]
 ·rw[leib_is2]
 ·rw[leib_is3]
 ·rw[leib_is4]
theorem ord_in:∀n,n≤4→∀p ∈ ordL n,∀x ∈ p.1,0≤x∧x<(n:Nat):=by decide
end Go.Proofs.YtkohhdkkbaifoaaGreatDoor

/-
  Contract of the document's Leibniz and Det.
-/
namespace Go.Proofs.YtkohhdkkbaifoaaGreatDoor
open Go.RowKit PK

set_option maxRecDepth 100000 in
set_option maxHeartbeats 2000000 in
theorem leib_any (n:Nat) (h1:1≤n) (h4:n≤4) (Z:Nat→Nat→Int) (hZ:∀r,r<n→∀c,c<n→0≤Z r c∧Z r c<26) (v:Value) (w:World) (hv:MatAt w v n (fun _=>n) Z) :
  Calls Tryz.prog 140 #[v] w fun e w'=>e=.returned (.int .i64 (detL n Z))∧Below w.heap.size w w':=by
 obtain ⟨b,o,cap,rfl,hcv⟩:=sq_cells (by omega) hv
 have HCV:=(show Hid (∀r,r<n→∃x y c,w.cell? ⟨b,o+r,none⟩=some (.slice (some ⟨x,y,none⟩) n c)∧∀k,k<n→w.cell? ⟨x,y+k,none⟩=some (.int .i64 (Z r k))) from hcv)
 have HZ:=(show Hid (∀r,r<n→∀c,c<n→0≤Z r c∧Z r c<26) from hZ)
 clear hv hcv hZ
 have HRES:Hid (leibTo n Z (ordL n) (ordL n).length=detL n Z):=leib_det n h1 h4 Z
 go_enter Tryz.func140,Tryz.ntmps140
 go_wp2_with fail
 refine Calls.mono (ord_anyH n h4 w) ?_
 rintro e W0 ⟨lv,sv,rfl,hlv,hsv,hb⟩
 have hN0:=ordL_pos n h4
 have hl1:((ordL n).map (·.1)).length=(ordL n).length:=by simp
 have hl2:((ordL n).map (·.2)).length=(ordL n).length:=by simp
 obtain ⟨gl,ol,cl,R,rfl,_,hrows,hnums⟩:=hlv.ownsM.mat.form (by omega)
 obtain ⟨gs,os,cs,rfl,_,hsc⟩:=hsv.nums.form (by omega)
 rw[hl1] at hrows hnums ⊢
 rw[hl2] at hsc ⊢
 have HROW:Hid (∀i,i<(ordL n).length→∃x y c,W0.cell? ⟨gl,ol+i,none⟩=some (.slice (some ⟨x,y,none⟩) n c)∧(∀k,k<n→W0.cell? ⟨x,y+k,none⟩=some (.int .i64 (((ordL n).getD i ([],0)).1.getD k 0)))∧W0.cell? ⟨gs,os+i,none⟩=some (.int .i64 ((ordL n).getD i ([],0)).2)∧(((ordL n).getD i ([],0)).2=1∨((ordL n).getD i ([],0)).2=-1)∧∀k,k<n→∃m:Nat,((ordL n).getD i ([],0)).1.getD k 0=(m:Nat)∧m<n):=fun i hi=>by
  have hp:(ordL n)[i]? = some ((ordL n).getD i ([],0)):=by simp[List.getD,List.getElem?_eq_getElem hi]
  have hpm:(ordL n).getD i ([],0) ∈ ordL n:=List.mem_of_getElem? hp
  have hn1:=hnums i hi
  have hr1:=hrows i hi
  have hs1:=hsc i hi
  have e1:((ordL n).map (·.1)).getD i []=((ordL n).getD i ([],0)).1:=by simp[List.getD,List.getElem?_map,List.getElem?_eq_getElem hi]
  have e2:((ordL n).map (·.2)).getD i 0=((ordL n).getD i ([],0)).2:=by simp[List.getD,List.getElem?_map,List.getElem?_eq_getElem hi]
  simp only[e1] at hn1
  rw[e2] at hs1
  have hlen:=ordL_len n _ hpm
  have hin:=ord_in n h4 _ hpm
  have hsg:=ordL_sgn n _ hpm
  generalize (ordL n).getD i ([],0)=p at *
  rw[hlen] at hn1
  obtain ⟨x,y,c,e3,_,hk⟩:=hn1.form (by omega)
  rw[e3] at hr1
  refine ⟨x,y,c,hr1,hk,hs1,hsg,fun k hk'=>?_⟩
  have hm:p.1.getD k 0 ∈ p.1:=by
   have:p.1[k]? = some (p.1.getD k 0):=by simp[List.getD,List.getElem?_eq_getElem (show k<p.1.length by omega)]
   exact List.mem_of_getElem? this
  have:=hin _ hm
  exact ⟨(p.1.getD k 0).toNat,by omega,by omega⟩
 have HC2:Hid (∀r,r<n→∃x y c,W0.cell? ⟨b,o+r,none⟩=some (.slice (some ⟨x,y,none⟩) n c)∧∀k,k<n→W0.cell? ⟨x,y+k,none⟩=some (.int .i64 (Z r k))):=fun r hr=>by
  obtain ⟨x,y,c,q1,q2⟩:=HCV.out r hr
  exact ⟨x,y,c,(hb.cell (p:=⟨b,o+r,none⟩) (cell_block q1)).trans q1,fun k hk=>(hb.cell (p:=⟨x,y+k,none⟩) (cell_block (q2 k hk))).trans (q2 k hk)⟩
 clear hlv hsv hrows hnums hsc HCV hl1 hl2
 have hcnt:=ordL_count n h4
 generalize hps:ordL n=ps at *
 clear hps
 have hNm:ps.length≤24:=hcnt
 obtain ⟨N,hN⟩:∃N,N=ps.length:=⟨_,rfl⟩
 rw[←hN] at HROW HRES hN0 hNm ⊢
 clear hN hcnt
 have HLB:Hid (∀i,0≤leibTo n Z ps i∧leibTo n Z ps i<26):=fun i=>by
  cases i with
  | zero=>show (0:Int)≤0∧(0:Int)<26;omega
  | succ i=>exact ⟨Int.emod_nonneg _ (by decide),Int.emod_lt_of_pos _ (by decide)⟩
 go_wp2
 go_loop [19,5] (fun i a=>∃i':Nat,i'≤N∧i=.int .i64 i'∧a=.int .i64 (leibTo n Z ps i')) (fun i _=>((N:Int)-intOf i).toNat)
 case atStart=>exact ⟨0,by omega,rfl,rfl⟩
 case round =>
  obtain ⟨i,hi,rfl,rfl⟩:=hrel
  have hlb:=HLB.out i
  by_cases hlt:i<N
  ·obtain ⟨x,y,c,q1,q2,q3,q4,q5⟩:=HROW.out i hlt
   have HST:Hid (leibTo n Z ps (i+1)=(leibTo n Z ps i+prodTo Z (ps.getD i ([],0)).1 (ps.getD i ([],0)).2 n) % 26):=rfl
   have HPB:=(show Hid (∀y,-26<prodTo Z (ps.getD i ([],0)).1 (ps.getD i ([],0)).2 y∧prodTo Z (ps.getD i ([],0)).1 (ps.getD i ([],0)).2 y<26) from prodTo_bound Z _ _ q4)
   generalize (ps.getD i ([],0)).1=ol' at *
   generalize (ps.getD i ([],0)).2=sg at *
   generalize leibTo n Z ps i=acc at *
   have HQ2:=(show Hid (∀k,k<n→W0.cell? ⟨x,y+k,none⟩=some (.int .i64 (ol'.getD k 0))) from q2)
   have HQ5:=(show Hid (∀k,k<n→∃m:Nat,ol'.getD k 0=(m:Nat)∧m<n) from q5)
   clear q2 q5 q4
   go_wp2
   go_loop [30,8] (fun i a=>∃k:Nat,k≤n∧i=.int .i64 k∧a=.int .i64 (prodTo Z ol' sg k)) (fun i _=>((n:Int)-intOf i).toNat)
   case atStart=>exact ⟨0,by omega,rfl,rfl⟩
   case round =>
    obtain ⟨k,hk,rfl,rfl⟩:=hrel
    have hpb:=HPB.out k
    by_cases hkl:k<n
    ·obtain ⟨m,hm,hmn⟩:=HQ5.out k hkl
     have k1:=HQ2.out k hkl
     rw[hm] at k1
     obtain ⟨x2,y2,c2,r1,r2⟩:=HC2.out k hkl
     have k2:=r2 m hmn
     have hzb:=HZ.out k hkl m hmn
     have HPS:Hid (prodTo Z ol' sg (k+1)=(prodTo Z ol' sg k*Z k m).tmod 26):=by
      show (prodTo Z ol' sg k*Z k (ol'.getD k 0).toNat).tmod 26=_
      rw[hm,Int.toNat_natCast]
     clear r2 hm
     generalize prodTo Z ol' sg k=a at *
     generalize Z k m=z at *
     obtain ⟨p,hp⟩:∃p,p=a*z:=⟨_,rfl⟩
     have hpb2:-650≤p∧p≤650:=by
      have h5:a*z≤25*z:=Int.mul_le_mul_of_nonneg_right (by omega) hzb.1
      have h6:(-25)*z≤a*z:=Int.mul_le_mul_of_nonneg_right (by omega) hzb.1
      rw[hp]
      omega
     have hpw:IntKind.i64.wrap (a*z)=p:=by rw[←hp,IntKind.wrap_i64];omega
     rw[←hp] at HPS
     have hk3:((m:Nat):Int)<((n:Nat):Int):=by omega
     clear hp
     go_wp2
     exact ⟨⟨k+1,by omega,by go_num,by rw[HPS.out]⟩,by simp[intOf];omega⟩
    ·have hkn:k=n:=by omega
     subst hkn
     go_wp2_with fail
     refine Calls.mono (rmod_any _ W0) ?_
     rintro e W1 ⟨rfl,rfl⟩
     rw[←HST.out]
     go_wp2
     exact ⟨⟨i+1,by omega,by go_num,rfl⟩,by simp[intOf];omega⟩
  ·have HIN:Hid (leibTo n Z ps i=detL n Z):=by
    obtain rfl:i=N:=by omega
    exact HRES.out
   go_wp2
   go_ret
   exact ⟨ret_int HIN.out,hb⟩
end Go.Proofs.YtkohhdkkbaifoaaGreatDoor

/-
  Contract of the document's with: a matrix with another column.
-/
namespace Go.Proofs.YtkohhdkkbaifoaaGreatDoor
open Go.RowKit PK

theorem OwnsI.set {w:World} {B g c:Nat} {l:List Int} (h:OwnsI w B (.slice (some ⟨g,0,none⟩) l.length c) l) (x:Nat) (v:Int):OwnsI (w.setCell ⟨g,x,none⟩ (.int .i64 v)) B (.slice (some ⟨g,0,none⟩) l.length c) (l.set x v):=by
 unfold OwnsI at h ⊢
 rw[List.length_set]
 rcases h.2 with ⟨e,_⟩ | ⟨g',cap,cur,e,h1,h2,h3,h4,h5,h6⟩
 ·cases e
 ·simp at e
  obtain ⟨rfl,rfl⟩:=e
  have h2':RowAt w g 3 cur:=h2
  refine ⟨by simp[inums],.inr ⟨g,c,cur.setIfInBounds x (.int .i64 v),rfl,h1,h2'.set x _,h3,h4,by simpa using h5,?_⟩⟩
  rw[Nat.mul_one] at h6 ⊢
  rw[Array.toList_setIfInBounds,List.take_set,h6]
  simp[inums,List.map_set]
theorem OwnsI.row {w:World} {B g c n:Nat} {l:List Int} (h:OwnsI w B (.slice (some ⟨g,0,none⟩) n c) l) (x:Nat) (hx:x<l.length):w.cell? ⟨g,x,none⟩=some (.int .i64 (l.getD x 0))∧w.frozen? ⟨g,x,none⟩=false∧B≤g∧g<w.heap.size:=by
 have hb:=World.ownsRow.lt h g rfl
 have h5:(inums l)[x]? = some (.int .i64 (l.getD x 0)):=by simp[inums,List.getD,hx]
 have h6:=World.ownsRow.cells (g:=g) h rfl x _ h5
 have e6:((⟨g,0,none⟩:Addr).add x)=⟨g,x,none⟩:=by unfold Addr.add;by_cases e0:x=0 <;> simp[e0]
 rw[e6] at h6
 refine ⟨h6,?_,hb.1,hb.2⟩
 rcases h.2 with ⟨e,_⟩ | ⟨g',cap,cur,e,h1,h2,_⟩
 ·cases e
 ·simp at e
  obtain ⟨rfl,_⟩:=e
  exact RowAt.frozen (T:=3) (c:=cur) h2 x
def withF (Z:Nat→Nat→Int) (x:Nat) (C:Nat→Int):Nat→Nat→Int:=fun r c=>if c=x then C r else Z r c
theorem with_row (n:Nat) (Z:Nat→Nat→Int) (x:Nat) (C:Nat→Int) (y:Nat) (hx:x<n):((List.range n).map (Z y)).set x (C y)=(List.range n).map (withF Z x C y):=by
 apply List.ext_getElem?
 intro i
 rw[List.getElem?_set]
 by_cases hi:i<n
 ·by_cases e:x=i
  ·subst e;simp[hi,withF]
  ·simp[hi,e,withF,Ne.symm e]
 ·have:x≠i:=by omega
  simp[hi,this]
theorem range_cells {W:World} {x1 y1 n:Nat} {f:Nat→Int} (h:∀c,c<n→W.cell? ⟨x1,y1+c,none⟩=some (.int .i64 (f c))):∀j u,(inums ((List.range n).map f))[j]? = some u→W.cell? ((⟨x1,y1,none⟩:Addr).add j)=some u:=fun j u hu=>by
 have hj:j<n:=by
  have:=(List.getElem?_eq_some_iff.1 hu).1
  simpa [inums] using this
 have e:((⟨x1,y1,none⟩:Addr).add j)=⟨x1,y1+j,none⟩:=by unfold Addr.add;by_cases e0:j=0 <;> simp[e0]
 rw[e,h j hj,←hu]
 simp[inums,hj]
set_option maxRecDepth 100000 in
set_option maxHeartbeats 2000000 in
theorem rwith_any (n:Nat) (h1:1≤n) (h4:n≤4) (Z:Nat→Nat→Int) (u:Value) (x:Nat) (hx:x<n) (v:Value) (C:Nat→Int) (w:World) (hu:MatAt w u n (fun _=>n) Z) (hv:NumsAt w v n C) :
  Calls Tryz.prog 142 #[u,.int .i64 (x:Nat),v] w fun e w'=>∃m,e=.returned m∧OwnsM w' w.heap.size m (rowsL n (withF Z x C) n)∧Below w.heap.size w w':=by
 obtain ⟨i0,hi0,hz0,hz1,hz2⟩:=info_parts h_info_int
 obtain ⟨j0,hj0,hy0,hy1,hy2⟩:=info_parts h_info_ints
 obtain ⟨b,o,cap,rfl,hcu⟩:=sq_cells (by omega) hu
 obtain ⟨b',o',cap',rfl,_,hcv⟩:=hv.form (by omega)
 have HCU:=(show Hid (∀r,r<n→∃x y c,w.cell? ⟨b,o+r,none⟩=some (.slice (some ⟨x,y,none⟩) n c)∧∀k,k<n→w.cell? ⟨x,y+k,none⟩=some (.int .i64 (Z r k))) from hcu)
 have HCV:=(show Hid (∀r,r<n→w.cell? ⟨b',o'+r,none⟩=some (.int .i64 (C r))) from hcv)
 have hxi:((x:Nat):Int)<((n:Nat):Int):=by omega
 clear hu hv hcu hcv
 go_enter Tryz.func142,Tryz.ntmps142
 go_wp2
 go_loopw [13,7] (fun i v W=>∃y:Nat,y≤n∧i=.int .i64 y∧OwnsM W w.heap.size v (rowsL n (withF Z x C) y)∧Below w.heap.size w W) (fun i _ _=>((n:Int)-intOf i).toNat)
 case atStart=>exact ⟨0,by omega,rfl,OwnsM.nil _ _,Below.refl _ _⟩
 case round =>
  obtain ⟨y,hy,rfl,hown,hb⟩:=hrel
  have hsz:=hb.size
  by_cases hlt:y<n
  ·obtain ⟨x1,y1,c1,q1,q2⟩:=HCU.out y hlt
   have k1:=(hb.cell (p:=⟨b,o+y,none⟩) (cell_block q1)).trans q1
   have q3:=HCV.out y hlt
   have hq3:=cell_block q3
   have HK2:=(show Hid (∀k,k<n→(wr.alloc (.cells #[] 3)).cell? ⟨x1,y1+k,none⟩=some (.int .i64 (Z y k))) from fun k hk=>((hb.alloc hsz (.cells #[] 3)).cell (p:=⟨x1,y1+k,none⟩) (cell_block (q2 k hk))).trans (q2 k hk))
   obtain ⟨vs,hv1,hv2⟩:=hown
   rw[rowsL_length] at hv1
   have HV2:=(show Hid (∀(k:Nat) (u:Value) (l:List Int),vs[k]? = some u→(rowsL n (withF Z x C) y)[k]? = some l→OwnsI wr w.heap.size u l) from hv2)
   have HQ3:=(show Hid (w.cell? ⟨b',o'+y,none⟩=some (.int .i64 (C y))) from q3)
   have HEQ:=(show Hid (((List.range n).map (Z y)).set x (C y)=(List.range n).map (withF Z x C y)) from with_row n Z x C y hx)
   have e18:(wr.alloc (.cells #[] 3)).ownsRow wr.heap.size 3 1 (.slice (some ⟨wr.heap.size,0,none⟩) 0 0) 0 []:=own_full (RowAt.new wr 3 #[]) (Nat.le_refl _) rfl (by decide)
   have hlr:((List.range n).map (Z y)).length=n:=by simp
   clear q2 hv2 q1 q3
   generalize C y=cy at *
   go_wp2_with (first
    | (at_builtin;refine wpList_append_own _ rfl _ _ 25 rfl wr.heap.size 3 i0 (.int .i64 0) 1 8 Tryz.underlying25 hi0 hz0 hz1 hz2 rfl (by decide) _ 0 [] rfl e18 ⟨x1,y1,none⟩ n c1 (inums ((List.range n).map (Z y))) rfl (by rw[inums_length,hlr];omega) (range_cells HK2.out) (inums_one _) (by unfold maxLen;omega) (by omega) (by simp) ?_;intro l1 w1 hown1 hgrow1 hnil1;rw[Nat.zero_add,List.nil_append] at hown1;obtain ⟨g,cl,rfl⟩:=own_some hown1 (fun e=>by have:=(hnil1.1 e).1;cases this);have hI1:OwnsI w1 wr.heap.size (.slice (some ⟨g,0,none⟩) n cl) ((List.range n).map (Z y)):=(by unfold OwnsI;rw[hlr];exact hown1);obtain ⟨kc,kf,kg,kl⟩:=hI1.row x (by rw[hlr];exact hx);have hb1:Below wr.heap.size wr w1:=((Below.refl _ _).alloc (Nat.le_refl _) _).grown hgrow1 (by simp) (fun q hq=>(World.ownsRow.lt e18 q hq).1);have k3:=((hb.trans (hb1.mono hsz)).cell (p:=⟨b',o'+y,none⟩) (cell_block HQ3.out)).trans HQ3.out;have hbS:Below wr.heap.size wr (w1.setCell ⟨g,x,none⟩ (.int .i64 cy)):=hb1.setCell (by simpa using kg) _;have hvo:=World.ownsRow.alloc (own_belowH hv1 hbS) (.cells #[.slice (some ⟨g,0,none⟩) n cl] 25);have hz9:=hbS.size;have rN:=RowAt.new (w1.setCell ⟨g,x,none⟩ (.int .i64 cy)) 25 #[.slice (some ⟨g,0,none⟩) n cl];rw[World.size_setCell] at rN;clear hgrow1 hown1 hnil1)
    | (at_builtin;refine wpList_append_own _ rfl _ _ 23 rfl w.heap.size 25 j0 (.slice none 0 0) 1 24 Tryz.underlying23 hj0 hy0 hy1 hy2 rfl (by decide) _ _ _ rfl hvo ⟨w1.heap.size,0,none⟩ 1 1 [.slice (some ⟨g,0,none⟩) n cl] rfl rfl (cell_row1 rN) (fun u hu=>by simp at hu;subst hu;rfl) (by unfold maxLen;omega) (by omega) (by simp at hz9 ⊢;omega) ?_;intro v2 w2 hown2 hgrow2 _))
   refine ⟨⟨y+1,by omega,by go_num,?_,?_⟩,by simp[intOf];omega⟩
   ·rw[rowsL_step,←HEQ.out]
    have hbA:=hbS.alloc (by omega) (.cells #[.slice (some ⟨g,0,none⟩) n cl] 25)
    have hI2:=OwnsI.set (l:=(List.range n).map (Z y)) (g:=g) (c:=cl) (by rw[hlr];exact hI1) x cy
    rw[hlr] at hI2
    exact OwnsM.app (by rw[rowsL_length];exact hvo) (fun k u l a b=>own_belowH (HV2.out k u l a b) hbA) (own_leH (World.ownsRow.alloc hI2 _) hsz) (by rw[rowsL_length];exact hown2) hgrow2
   ·exact ((hb.trans (hbS.mono hsz)).alloc (by omega) _).grown hgrow2 (by simp at hz9 ⊢;omega) (fun k hk=>(World.ownsRow.lt hvo k hk).1)
  ·have HYN:Hid (y=n):=by rw[Hid];omega
   rw[HYN.out] at hown
   go_wp2
   go_ret
   exact ⟨_,rfl,hown,hb⟩
end Go.Proofs.YtkohhdkkbaifoaaGreatDoor
