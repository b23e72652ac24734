/-
  Contract of the document's orders (chapter 3).
-/
import Derived.Test.YtkohhdkkbaifoaaGreatDoorPz
import Derived.Test.YtkohhdkkbaifoaaGreatDoorJn15
import Derived.Test.YtkohhdkkbaifoaaGreatDoorJn33
namespace Go.Proofs.YtkohhdkkbaifoaaGreatDoor
open Go.RowKit PK

def insAt (k:Nat) (x:Int) (o:List Int):List Int:=o.take k++[x]++o.drop k
def sgnAt (s:Int) (j:Nat):Int:=if j % 2=1 then -s else s
def insTo (x:Int) (p:List Int × Int) (j:Nat):List (List Int × Int):=(List.range j).map fun i=>(insAt (p.1.length-i) x p.1,sgnAt p.2 i)
def ordL:Nat→List (List Int × Int)
 | 0=>[([],1)]
 | n+1=>(ordL n).flatMap fun p=>insTo (n:Nat) p (p.1.length+1)
theorem ordL_len:∀n,∀p ∈ ordL n,p.1.length=n
 | 0,p,h=>by simp[ordL] at h;subst h;rfl
 | n+1,p,h=>by
  obtain ⟨q,hq,hp⟩:=List.mem_flatMap.1 h
  have:=ordL_len n q hq
  unfold insTo at hp
  obtain ⟨i,hi,rfl⟩:=List.mem_map.1 hp
  simp[insAt]
  omega
theorem ordL_sgn:∀n,∀p ∈ ordL n,p.2=1∨p.2=-1
 | 0,p,h=>by simp[ordL] at h;subst h;exact .inl rfl
 | n+1,p,h=>by
  obtain ⟨q,hq,hp⟩:=List.mem_flatMap.1 h
  have:=ordL_sgn n q hq
  unfold insTo at hp
  obtain ⟨i,hi,rfl⟩:=List.mem_map.1 hp
  show sgnAt q.2 i=1∨sgnAt q.2 i=-1
  unfold sgnAt
  split <;> omega
theorem ordL_count:∀n,n≤4→(ordL n).length≤24:=by decide
def OrdsAt (w:World) (B:Nat) (v:Value) (ls:List (List Int)) (sb:Option Nat):Prop :=
 ∃vs:List Value,w.ownsRow B 25 1 v ls.length vs∧∀(k:Nat) (u:Value) (l:List Int),vs[k]? = some u→ls[k]? = some l→OwnsI w B u l∧(∃g c,u=.slice (some ⟨g,0,none⟩) l.length c)∧(sb=none∨u.ownBlock≠sb)
theorem OrdsAt.ownsM {w:World} {B:Nat} {v:Value} {ls:List (List Int)} {sb:Option Nat} (h:OrdsAt w B v ls sb):OwnsM w B v ls:=by
 obtain ⟨vs,h1,h2⟩:=h
 exact ⟨vs,h1,fun k u l a b=>(h2 k u l a b).1⟩
theorem OrdsAt.below {w w':World} {B:Nat} {v:Value} {ls:List (List Int)} {sb:Option Nat} (h:OrdsAt w B v ls sb) (hb:Below w.heap.size w w'):OrdsAt w' B v ls sb:=by
 obtain ⟨vs,h1,h2⟩:=h
 exact ⟨vs,own_belowH h1 hb,fun k u l a b=>⟨own_belowH (h2 k u l a b).1 hb,(h2 k u l a b).2⟩⟩
theorem own_full {w:World} {g B n:Nat} {T:TypeId} {c:Array Value} (h:RowAt w g T c) (hB:B≤g) (hn:c.size=n) (hm:n≤maxLen):w.ownsRow B T 1 (.slice (some ⟨g,0,none⟩) n n) n c.toList :=
 ⟨by simp[hn],.inr ⟨g,n,c,rfl,hB,h,Nat.le_refl _,hm,by simp[hn],by rw[Nat.mul_one,←hn,←Array.length_toList,List.take_length]⟩⟩
theorem OrdsAt.nil (w:World) (B:Nat) (sb:Option Nat):OrdsAt w B (.slice none 0 0) [] sb:=⟨[],World.ownsRow_nil w B _ 1,fun k u l h _=>by simp at h⟩
def flatL (n i:Nat):List (List Int × Int):=((ordL n).take i).flatMap fun p=>insTo (n:Nat) p (p.1.length+1)
theorem flatL_step (n i:Nat) (p:List Int × Int) (h:(ordL n)[i]? = some p):flatL n (i+1)=flatL n i++insTo (n:Nat) p (p.1.length+1):=by
 unfold flatL
 rw[List.take_add_one,h]
 simp
theorem flatL_all (n:Nat):flatL n (ordL n).length=ordL (n+1):=by
 unfold flatL
 rw[List.take_length]
 rfl
theorem insTo_step (x:Int) (p:List Int × Int) (j:Nat):insTo x p (j+1)=insTo x p j++[(insAt (p.1.length-j) x p.1,sgnAt p.2 j)]:=by unfold insTo;rw[List.range_succ,List.map_append];rfl
theorem insTo_len (x:Int) (p:List Int × Int) (j:Nat):(insTo x p j).length=j:=by simp[insTo]
theorem flatL_len (n:Nat):∀i,i≤(ordL n).length→(flatL n i).length=i*(n+1)
 | 0,_=>by simp[flatL]
 | i+1,h=>by
  have h1:(ordL n)[i]? = some ((ordL n)[i]'(by omega)):=List.getElem?_eq_getElem _
  rw[flatL_step n i _ h1,List.length_append,insTo_len,flatL_len n i (by omega),ordL_len n _ (List.getElem_mem _),Nat.succ_mul]
theorem sgnAt_next (s:Int) (j:Nat):sgnAt s (j+1) =-sgnAt s j:=by
 unfold sgnAt
 by_cases h:j % 2=1
 ·rw[if_pos h,if_neg (by omega)];omega
 ·rw[if_neg h,if_pos (by omega)]
theorem ordL_pos (n:Nat) (hn:n≤4):0<(ordL n).length:=by
 have:∀n,n≤4→0<(ordL n).length:=by decide
 exact this n hn
theorem row_kept {W W':World} {b:Nat} {T:TypeId} {c:Array Value} {row:Option Nat} (h:RowAt W b T c) (hg:W.grownBy W' row) (hne:row≠some b):RowAt W' b T c:=(hg.block b h.lt (fun e=>hne e.symm)).trans h
theorem OrdsAt.app {w w':World} {B:Nat} {v v' u:Value} {ls:List (List Int)} {l:List Int} {vs:List Value} {sb:Option Nat} (h1:w.ownsRow B 25 1 v ls.length vs)
  (h2:∀(k:Nat) (u:Value) (l:List Int),vs[k]? = some u→ls[k]? = some l→OwnsI w B u l∧(∃g c,u=.slice (some ⟨g,0,none⟩) l.length c)∧(sb=none∨u.ownBlock≠sb))
  (hu:OwnsI w B u l) (hf:∃g c,u=.slice (some ⟨g,0,none⟩) l.length c) (hsb:sb=none∨u.ownBlock≠sb) (h':w'.ownsRow B 25 1 v' (ls.length+1) (vs++[u])) (hg:w.grownBy w' v.ownBlock):OrdsAt w' B v' (ls++[l]) sb:=by
 have hlen:vs.length=ls.length:=by have:=h1.1;omega
 refine ⟨vs++[u],by simpa using h',fun k a b ha hb=>?_⟩
 have keep:∀a b,OwnsI w B a b→OwnsI w' B a b:=fun a b h=>World.ownsRow.kept h hg (own_apartH h h1 (by decide))
 by_cases hk:k<ls.length
 ·rw[List.getElem?_append_left (by omega)] at ha
  rw[List.getElem?_append_left hk] at hb
  have:=h2 k a b ha hb
  exact ⟨keep _ _ this.1,this.2⟩
 ·have hk':k=ls.length:=by
   have:=(List.getElem?_eq_some_iff.1 hb).1
   simp at this
   omega
  subst hk'
  rw[←hlen] at ha
  simp at ha hb
  subst ha hb
  exact ⟨keep _ _ hu,hf,hsb⟩
theorem OrdsAt.sign {w w':World} {B:Nat} {v sg sg':Value} {ls:List (List Int)} {sl:List Int} (h:OrdsAt w B v ls sg.ownBlock) (hsg:OwnsI w B sg sl) (hg:w.grownBy w' sg.ownBlock) (hblk:sg'.ownBlock=sg.ownBlock∨sg'.ownBlock=some w.heap.size):OrdsAt w' B v ls sg'.ownBlock:=by
 obtain ⟨vs,h1,h2⟩:=h
 refine ⟨vs,World.ownsRow.kept h1 hg (own_apartH h1 hsg (by decide)),fun k u l a b=>?_⟩
 obtain ⟨q1,⟨g,c,rfl⟩,q3⟩:=h2 k u l a b
 have hne:(Value.slice (some ⟨g,0,none⟩) l.length c).ownBlock=none∨(Value.slice (some ⟨g,0,none⟩) l.length c).ownBlock≠sg.ownBlock:=by
  rcases q3 with q3 | q3
  ·exact .inr (by rw[q3];simp[Value.ownBlock])
  ·exact .inr q3
 refine ⟨World.ownsRow.kept q1 hg hne,⟨g,c,rfl⟩,?_⟩
 rcases hblk with e | e
 ·rw[e];exact q3
 ·refine .inr fun e2=>?_
  have:=(World.ownsRow.lt q1 g rfl).2
  rw[e] at e2
  simp[Value.ownBlock] at e2
  omega
theorem own_some {w:World} {B:Nat} {e:TypeId} {v:Value} {n:Nat} {xs:List Value} (h:w.ownsRow B e 1 v n xs) (hv:v≠.slice none 0 0):∃g c,v=.slice (some ⟨g,0,none⟩) n c:=by
 rcases h.2 with ⟨h0,_⟩ | ⟨g,c,_,e1,_⟩
 ·exact absurd h0 hv
 ·exact ⟨g,c,e1⟩
theorem cell_row1 {W:World} {g:Nat} {T:TypeId} {v:Value} (h:RowAt W g T #[v]):∀j u,[v][j]? = some u→W.cell? ((⟨g,0,none⟩:Addr).add j)=some u:=fun j u hu=>by
 obtain rfl:j=0:=by
  have:=(List.getElem?_eq_some_iff.1 hu).1
  simpa using this
 have e:u=v:=by simpa using hu.symm
 rw[e]
 exact h.cell rfl
theorem take_cells {W:World} {og n k:Nat} {l:List Int} (hl:l.length=n) (hk:k≤n) (h:∀c,c<n→W.cell? ⟨og,c,none⟩=some (.int .i64 (l.getD c 0))):∀j u,(inums (l.take k))[j]? = some u→W.cell? ((⟨og,0,none⟩:Addr).add j)=some u:=fun j u hu=>by
 have e:((⟨og,0,none⟩:Addr).add j)=⟨og,j,none⟩:=by unfold Addr.add;by_cases e0:j=0 <;> simp[e0]
 rw[e]
 have hj:j<k:=by
  have:=(List.getElem?_eq_some_iff.1 hu).1
  simp[inums] at this
  omega
 rw[h j (by omega),←hu]
 simp[inums,List.getD,hj,List.getElem?_eq_getElem (show j<l.length by omega)]
theorem drop_cells {W:World} {og n k:Nat} {oa:Addr} {l:List Int} (hl:l.length=n) (hoa:k<n→oa=⟨og,k,none⟩) (h:∀c,c<n→W.cell? ⟨og,c,none⟩=some (.int .i64 (l.getD c 0))):∀j u,(inums (l.drop k))[j]? = some u→W.cell? (oa.add j)=some u:=fun j u hu=>by
 have hj:k+j<n:=by
  have:=(List.getElem?_eq_some_iff.1 hu).1
  simp[inums] at this
  omega
 have e:oa.add j=⟨og,k+j,none⟩:=by rw[hoa (by omega)];unfold Addr.add;by_cases e0:j=0 <;> simp[e0]
 rw[e,h (k+j) hj,←hu]
 simp[inums,List.getD,List.getElem?_eq_getElem (show k+j<l.length by omega)]
def OrdOk (n:Nat):Prop:=∀w:World,Calls Tryz.prog 180 #[.int .i64 (n:Nat)] w fun e w'=>∃lv sv,e=.returned (.tuple #[lv,sv])∧OrdsAt w' w.heap.size lv ((ordL n).map (·.1)) none∧OwnsI w' w.heap.size sv ((ordL n).map (·.2))∧Below w.heap.size w w'
theorem ord_zero:OrdOk 0:=fun w=>by
 go_enter Tryz.func180,Tryz.ntmps180
 go_wp2
 go_ret2
 obtain ⟨q1,q2,q3,hb,hz⟩:=three_new w #[] #[.slice (some ⟨w.heap.size,0,none⟩) 0 0] #[.int .i64 1] 3 25 3
 refine ⟨_,_,rfl,⟨[.slice (some ⟨w.heap.size,0,none⟩) 0 0],own_full q2 (by omega) rfl (by decide),fun k u l a b=>?_⟩,own_full q3 (by omega) rfl (by decide),hb⟩
 obtain rfl:k=0:=by
  have:=(List.getElem?_eq_some_iff.1 a).1
  simpa using this
 simp[ordL] at a b
 subst a b
 exact ⟨own_full q1 (Nat.le_refl _) rfl (by decide),⟨_,_,rfl⟩,.inl rfl⟩
set_option maxRecDepth 100000 in
set_option maxHeartbeats 4000000 in
theorem ord_step (n:Nat) (hn:n<4) (ih:OrdOk n):OrdOk (n+1):=fun w=>by
 obtain ⟨i0,hi0,hz0,hz1,hz2⟩:=info_parts h_info_int
 obtain ⟨j0,hj0,hy0,hy1,hy2⟩:=info_parts h_info_ints
 have HIH:Hid (OrdOk n):=ih
 have hcnt:=ordL_count n (by omega)
 clear ih
 go_enter Tryz.func180,Tryz.ntmps180
 go_wp2_with fail
 refine Calls.mono (HIH.out w) ?_
 rintro e W0 ⟨lv,sv,rfl,hlv,hsv,hb0⟩
 obtain ⟨vs,hvs,hvr⟩:=hlv
 have hN0:=ordL_pos n (by omega)
 have hlen1:((ordL n).map (·.1)).length=(ordL n).length:=by simp
 have hlen2:((ordL n).map (·.2)).length=(ordL n).length:=by simp
 have HSV:=(show Hid (NumsAt W0 sv ((ordL n).map (·.2)).length (fun c=>((ordL n).map (·.2)).getD c 0)) from hsv.nums)
 obtain ⟨gs,os,cs,rfl,_,hsc⟩:=HSV.out.form (by omega)
 rw[hlen1] at hvs
 rw[hlen2]
 have hvl:vs.length=(ordL n).length:=by have:=hvs.1;omega
 obtain ⟨gl,cl,rfl⟩:∃gl cl,lv=.slice (some ⟨gl,0,none⟩) (ordL n).length cl:=by
  rcases hvs.2 with ⟨_,h0⟩ | ⟨g,c,_,e,_⟩
  ·omega
  ·exact ⟨g,c,e⟩
 have HROW:Hid (∀i,i<(ordL n).length→∃p og oc,(ordL n)[i]? = some p∧p.1.length=n∧(p.2=1∨p.2=-1)∧W0.cell? ⟨gl,i,none⟩=some (.slice (some ⟨og,0,none⟩) n oc)∧n≤oc∧oc≤maxLen∧(∀c,c<n→W0.cell? ⟨og,c,none⟩=some (.int .i64 (p.1.getD c 0)))∧og<W0.heap.size∧W0.cell? ⟨gs,os+i,none⟩=some (.int .i64 p.2)):=fun i hi=>by
  have hp:(ordL n)[i]? = some ((ordL n)[i]'hi):=List.getElem?_eq_getElem hi
  have hu:vs[i]? = some (vs[i]'(by omega)):=List.getElem?_eq_getElem _
  have hpm:=List.getElem_mem hi
  generalize (ordL n)[i]'hi=p at *
  generalize vs[i]'(by omega)=u at *
  obtain ⟨h1,⟨og,oc,rfl⟩,_⟩:=hvr i u p.1 hu (by rw[List.getElem?_map,hp];rfl)
  have hpl:=ordL_len n p hpm
  rw[hpl] at hu h1
  have h2:=World.ownsRow.cells (g:=gl) hvs rfl i _ hu
  have e2:((⟨gl,0,none⟩:Addr).add i)=⟨gl,i,none⟩:=by unfold Addr.add;by_cases e0:i=0 <;> simp[e0]
  rw[e2] at h2
  have h3:=World.ownsRow.lt h1 og rfl
  have h4:p.1.length≤oc∧oc≤maxLen:=by
   rcases h1.2 with ⟨e,_⟩ | ⟨g,c,cur,e,_,_,q1,q2,_⟩
   ·cases e
   ·simp at e
    rw[e.2.2]
    exact ⟨q1,q2⟩
  refine ⟨p,og,oc,hp,hpl,ordL_sgn n p hpm,h2,by omega,h4.2,fun c hc=>?_,h3.2,?_⟩
  ·have h5:(inums p.1)[c]? = some (.int .i64 (p.1.getD c 0)):=by simp[inums,List.getD,show c<p.1.length by omega]
   have h6:=World.ownsRow.cells (g:=og) h1 rfl c _ h5
   have e6:((⟨og,0,none⟩:Addr).add c)=⟨og,c,none⟩:=by unfold Addr.add;by_cases e0:c=0 <;> simp[e0]
   rw[e6] at h6
   exact h6
  ·have:=hsc i (by omega)
   rw[this]
   simp[List.getD,List.getElem?_map,hp]
 have HN:Hid ((ordL n).length=(ordL n).length):=rfl
 have hz0':=hb0.size
 clear hvr hsv hvs HSV hsc
 obtain ⟨N,hN⟩:∃N,N=(ordL n).length:=⟨_,rfl⟩
 rw[←hN] at hcnt hN0 HROW hvl ⊢
 have HNN:Hid (N=(ordL n).length):=hN
 clear hN hlen1 hlen2 hvl HN
 go_wp2
 go_loopw [25,6,7] (fun i ov sg W=>∃i':Nat,i'≤N∧i=.int .i64 i'∧OrdsAt W W0.heap.size ov ((flatL n i').map (·.1)) sg.ownBlock∧OwnsI W W0.heap.size sg ((flatL n i').map (·.2))∧Below W0.heap.size W0 W) (fun i _ _ _=>((N:Int)-intOf i).toNat)
 case atStart=>exact ⟨0,by omega,rfl,OrdsAt.nil _ _ _,OwnsI.nil _ _,Below.refl _ _⟩
 case round =>
  obtain ⟨i,hi,rfl,hov,hsg,hb⟩:=hrel
  by_cases hlt:i<N
  ·obtain ⟨p,og,oc,hp,hpl,hps,k1,hoc,hocm,hcells,hog,k2⟩:=HROW.out i hlt
   have HP:=(show Hid ((ordL n)[i]? = some p) from hp)
   have HPL:Hid (p.1.length=n):=hpl
   have HCE:=(show Hid (∀c,c<n→W0.cell? ⟨og,c,none⟩=some (.int .i64 (p.1.getD c 0))) from hcells)
   have HOV:=(show Hid (OrdsAt wr W0.heap.size u6 ((flatL n i).map (·.1)) u7.ownBlock) from hov)
   have HSG:=(show Hid (OwnsI wr W0.heap.size u7 ((flatL n i).map (·.2))) from hsg)
   have c1:=(hb.cell (p:=⟨gl,i,none⟩) (cell_block k1)).trans k1
   have c2:=(hb.cell (p:=⟨gs,os+i,none⟩) (cell_block k2)).trans k2
   have hsW:=hb.size
   clear hp hpl hcells hov hsg k1 k2
   go_wp2
   go_loopw [11,6,7,10] (fun kk ov sg s W=>∃j:Nat,j≤n+1∧kk=.int .i64 ((n:Int)-j)∧s=.int .i64 (sgnAt p.2 j)∧OrdsAt W W0.heap.size ov ((flatL n i++insTo (n:Nat) p j).map (·.1)) sg.ownBlock∧OwnsI W W0.heap.size sg ((flatL n i++insTo (n:Nat) p j).map (·.2))∧Below W0.heap.size W0 W) (fun kk _ _ _ _=>(intOf kk+1).toNat)
   case atStart =>
    have e0:insTo (n:Nat) p 0=[]:=rfl
    refine ⟨0,by omega,by simp,by simp[sgnAt],?_,?_,hb⟩
    ·rw[e0,List.append_nil];exact HOV.out
    ·rw[e0,List.append_nil];exact HSG.out
   case round =>
    obtain ⟨j,hj,rfl,rfl,hov,hsg,hb⟩:=hrel
    by_cases hjl:j<n+1
    ·have ek:((n:Int)-(j:Nat))=((n-j:Nat):Int):=by omega
     rw[ek]
     obtain ⟨k,hk⟩:∃k,k=n-j:=⟨_,rfl⟩
     rw[←hk]
     have hkn:k≤n:=by omega
     have HKJ:Hid (k=n-j):=hk
     obtain ⟨oa,hoa,hoa2⟩:∃oa:Addr,(if oc=k then some (⟨og,0,none⟩:Addr) else some ⟨og,k,none⟩)=some oa∧(k<n→oa=⟨og,k,none⟩):=by
      by_cases e:oc=k
      ·exact ⟨_,by rw[if_pos e],fun h=>by omega⟩
      ·exact ⟨_,by rw[if_neg e],fun _=>rfl⟩
     have HOA2:Hid (k<n→oa=⟨og,k,none⟩):=hoa2
     have hwn:IntKind.i64.wrap ((n:Nat):Int)=((n:Nat):Int):=by rw[IntKind.wrap_i64];omega
     clear hk ek hoa2
     have hk1:((k:Nat):Int)≤((oc:Nat):Int):=by omega
     have hk2:((k:Nat):Int)≤((n:Nat):Int):=by omega
     have HOV2:=(show Hid (OrdsAt wr W0.heap.size u6 ((flatL n i++insTo (n:Nat) p j).map (·.1)) u7.ownBlock) from hov)
     have HSG2:=(show Hid (OwnsI wr W0.heap.size u7 ((flatL n i++insTo (n:Nat) p j).map (·.2))) from hsg)
     have HCW:=(show Hid (∀c,c<n→wr.cell? ⟨og,c,none⟩=some (.int .i64 (p.1.getD c 0))) from fun c hc=>(hb.cell (p:=⟨og,c,none⟩) hog).trans (HCE.out c hc))
     have HLB:Hid ((flatL n i++insTo ((n:Nat):Int) p j).length≤1000):=by
      have h1:=flatL_len n i (by have:=HNN.out;omega)
      have h2:i*(n+1)≤24*4:=Nat.mul_le_mul (by omega) (by omega)
      rw[Hid,List.length_append,insTo_len]
      omega
     replace hsW:=hb.size
     clear hov hsg
     go_wp2
     refine wp_region_noPanic ?_
     refine wp_region_held_drew (S:=fun _=>True) (by kernel_rfl) trivial (fun hS=>?_)
     refine htake 0 40 u6 rfl rfl (by kernel_rfl) (by kernel_rfl) (by kernel_rfl) (fun _ _ _ _ h=>h) (by rfl) (fun W _=>by go_simp) hS ?_
     simp only[zsA,zsB,zsC]
     refine htake 2 42 (.slice (some ⟨og,0,none⟩) n oc) rfl rfl (by kernel_rfl) (by kernel_rfl) (by kernel_rfl) (fun _ _ _ _ h=>h) (by rfl) (fun W _=>by go_simp) hS ?_
     simp only[zsA,zsB,zsC]
     refine htake 3 43 (.int .i64 (k:Nat)) rfl rfl (by kernel_rfl) (by kernel_rfl) (by kernel_rfl) (fun _ _ _ _ h=>h) (by rfl) (fun W _=>by go_simp) hS ?_
     simp only[zsA,zsB,zsC]
     refine htake 4 44 (.slice (some ⟨og,0,none⟩) k oc) rfl rfl (by kernel_rfl) (by kernel_rfl) (by kernel_rfl) (fun _ _ _ _ h=>h) (by rfl) (fun W _=>by go_simp) hS ?_
     simp only[zsA,zsB,zsC]
     refine htake 6 46 (.int .i64 ((n:Nat)+1)) rfl rfl (by kernel_rfl) (by kernel_rfl) (by kernel_rfl) (fun _ _ _ _ h=>h) (by rfl) (fun W _=>by go_simp) hS ?_
     simp only[zsA,zsB,zsC]
     refine htake 7 47 (.int .i64 (n:Nat)) rfl rfl (by kernel_rfl) (by kernel_rfl) (by kernel_rfl) (fun _ _ _ _ h=>h) (by rfl) (fun W _=>by go_simp) hS ?_
     simp only[zsA,zsB,zsC]
     refine htake 10 50 (.slice (some ⟨og,0,none⟩) n oc) rfl rfl (by kernel_rfl) (by kernel_rfl) (by kernel_rfl) (fun _ _ _ _ h=>h) (by rfl) (fun W _=>by go_simp) hS ?_
     simp only[zsA,zsB,zsC]
     refine htake 11 51 (.int .i64 (k:Nat)) rfl rfl (by kernel_rfl) (by kernel_rfl) (by kernel_rfl) (fun _ _ _ _ h=>h) (by rfl) (fun W _=>by go_simp) hS ?_
     simp only[zsA,zsB,zsC]
     refine htake 12 52 (.slice (some oa) (n-k) (oc-k)) rfl rfl (by kernel_rfl) (by kernel_rfl) (by kernel_rfl) (fun _ _ _ _ h=>h) (by rfl) (fun W _=>by go_simp) hS ?_
     simp only[zsA,zsB,zsC]
     refine wpAnyH_ready (rs:=[1,8]) (by kernel_rfl) (by simp) ?_
     refine AllReadyH.cons (o:=_) rfl (fun K hK=>?_) (AllReadyH.cons (o:=_) rfl (fun K hK=>?_) AllReadyH.nil)
     ·rw[if_pos (by rfl)]
      go_simp
      have e41:(wr.alloc (.cells #[] 3)).drew.ownsRow wr.heap.size 3 1 (.slice (some ⟨wr.heap.size,0,none⟩) 0 0) 0 []:=own_full (RowAt.new wr 3 #[]) (Nat.le_refl _) rfl (by decide)
      have hbX1:Below wr.heap.size wr (wr.alloc (.cells #[] 3)).drew:=((Below.refl _ _).alloc (Nat.le_refl _) _).drew
      have hzX1:wr.heap.size<(wr.alloc (.cells #[] 3)).drew.heap.size:=by simp
      refine hK.out _ _ trivial (fun _=>?_)
      clear hK
      generalize (wr.alloc (.cells #[] 3)).drew=X1 at *
      refine wpAnyH_ready (rs:=[5,8]) (by kernel_rfl) (by simp) ?_
      refine AllReadyH.cons (o:=_) rfl (fun K hK=>?_) (AllReadyH.cons (o:=_) rfl (fun K hK=>?_) AllReadyH.nil)
      ·rw[if_pos (by rfl)]
       refine wp_append_own X1 _ _ 25 rfl wr.heap.size 3 i0 (.int .i64 0) 1 8 Tryz.underlying25 hi0 hz0 hz1 hz2 rfl (by decide) (.slice (some ⟨wr.heap.size,0,none⟩) 0 0) 0 [] rfl e41 ⟨og,0,none⟩ k oc (inums (p.1.take k)) rfl (by rw[inums_length,List.length_take,HPL.out];omega) (take_cells HPL.out hkn (fun c hc=>(hbX1.cell (p:=⟨og,c,none⟩) (Nat.lt_of_lt_of_le hog hsW)).trans (HCW.out c hc))) (inums_one _) (by unfold maxLen;omega) (by omega) hbX1.size ?_
       intro v45 X2 h45 hg45 hnil
       have hbY:=hbX1.grown hg45 hbX1.size (fun q hq=>(World.ownsRow.lt e41 q hq).1)
       rw[Nat.zero_add,List.nil_append] at h45
       have hn45:v45≠.slice none 0 0:=fun e=>by have:=(hnil.1 e).1;cases this
       refine hK.out _ _ trivial (fun _=>?_)
       clear hK
       simp only[Act.put]
       refine rd1 8 rfl (fun K hK=>?_)
       go_simp
       refine hK.out _ _ trivial (fun _=>?_)
       clear hK
       have r48:=RowAt.new X2 3 #[.int .i64 (n:Nat)]
       have hz2':=hbY.size
       replace hbY:=hbY.alloc hz2' (.cells #[.int .i64 (n:Nat)] 3)
       have h45':=World.ownsRow.alloc h45 (.cells #[.int .i64 (n:Nat)] 3)
       obtain ⟨g48,hg48⟩:∃g,g=X2.heap.size:=⟨_,rfl⟩
       rw[←hg48] at r48 ⊢
       generalize X2.alloc (.cells #[.int .i64 (n:Nat)] 3)=Y at *
       obtain ⟨g45,c45,rfl⟩:=own_some h45 hn45
       refine rd1 9 rfl (fun K hK=>?_)
       refine wp_append_own Y _ _ 25 rfl wr.heap.size 3 i0 (.int .i64 0) 1 8 Tryz.underlying25 hi0 hz0 hz1 hz2 rfl (by decide) _ k (inums (p.1.take k)) rfl h45' ⟨g48,0,none⟩ 1 1 [.int .i64 (n:Nat)] rfl rfl (cell_row1 r48) (fun u hu=>by simp at hu;subst hu;rfl) (by unfold maxLen;omega) (by omega) hbY.size ?_
       intro v49 Y2 h49 hg49 _
       have hbY2:=hbY.grown hg49 hbY.size (fun q hq=>(World.ownsRow.lt h45' q hq).1)
       refine hK.out _ _ trivial (fun _=>?_)
       clear hK
       simp only[Act.put]
       refine rd1 13 rfl (fun K hK=>?_)
       refine wp_append_own Y2 _ _ 25 rfl wr.heap.size 3 i0 (.int .i64 0) 1 8 Tryz.underlying25 hi0 hz0 hz1 hz2 rfl (by decide) v49 (k+1) (inums (p.1.take k)++[.int .i64 (n:Nat)]) rfl h49 oa (n-k) (oc-k) (inums (p.1.drop k)) rfl (by rw[inums_length,List.length_drop,HPL.out];omega) (drop_cells HPL.out HOA2.out (fun c hc=>(hbY2.cell (p:=⟨og,c,none⟩) (Nat.lt_of_lt_of_le hog hsW)).trans (HCW.out c hc))) (inums_one _) (by unfold maxLen;omega) (by omega) hbY2.size ?_
       intro v53 Y3 h53 hg53 _
       have hbY3:=hbY2.grown hg53 hbY2.size (fun q hq=>(World.ownsRow.lt h49 q hq).1)
       have hI53:OwnsI Y3 wr.heap.size v53 (insAt k (n:Nat) p.1):=by
        unfold OwnsI insAt
        rw[inums_append,inums_append]
        have e1:(p.1.take k++[((n:Nat):Int)]++p.1.drop k).length=k+1+(n-k):=by simp[HPL.out];omega
        rw[e1]
        exact h53
       have hl53:(insAt k ((n:Nat):Int) p.1).length=n+1:=by simp[insAt,HPL.out];omega
       obtain ⟨g53,c53,rfl⟩:∃g c,v53=.slice (some ⟨g,0,none⟩) (n+1) c:=by
        have:=own_some hI53 (fun e=>by
         have h9:=sliceLen_ownH hI53
         rw[e,hl53] at h9
         cases h9)
        rw[hl53] at this
        exact this
       have hg53b:wr.heap.size≤g53:=(World.ownsRow.lt hI53 g53 rfl).1
       refine hK.out _ _ trivial (fun _=>?_)
       clear hK
       simp only[Act.put]
       refine rd1 14 rfl (fun K hK=>?_)
       go_simp
       refine hK.out _ _ trivial (fun _=>?_)
       clear hK
       obtain ⟨vs2,hv1,hv2⟩:=HOV2.out
       have hbA:Below Y3.heap.size Y3 (Y3.alloc (.cells #[.slice (some ⟨g53,0,none⟩) (n+1) c53] 25)):=(Below.refl _ _).alloc (Nat.le_refl _) _
       have hbW4:=hbY3.trans (hbA.mono hbY3.size)
       have hv1':=own_belowH hv1 hbW4
       have hsz4:=hbW4.size
       have hlls:((flatL n i++insTo ((n:Nat):Int) p j).map (·.1)).length=(flatL n i++insTo ((n:Nat):Int) p j).length:=by simp
       refine rd1 15 rfl (fun K hK=>?_)
       refine wp_append_own (Y3.alloc (.cells #[.slice (some ⟨g53,0,none⟩) (n+1) c53] 25)) _ _ 23 rfl W0.heap.size 25 j0 (.slice none 0 0) 1 24 Tryz.underlying23 hj0 hy0 hy1 hy2 rfl (by decide) u6 _ vs2 rfl hv1' ⟨Y3.heap.size,0,none⟩ 1 1 [.slice (some ⟨g53,0,none⟩) (n+1) c53] rfl rfl (cell_one_new _ _ _) (fun u hu=>by simp at hu;subst hu;rfl) (by rw[hlls];have:=HLB.out;unfold maxLen;omega) (by rw[hlls];have:=HLB.out;omega) (by omega) ?_
       intro u6' Y5 h6 hg6 _
       have hORD:OrdsAt Y5 W0.heap.size u6' ((flatL n i++insTo ((n:Nat):Int) p j).map (·.1)++[insAt k ((n:Nat):Int) p.1]) u7.ownBlock:=by
        refine OrdsAt.app hv1' (fun q u l a b=>⟨own_belowH (hv2 q u l a b).1 hbW4,(hv2 q u l a b).2⟩) (own_leH (own_belowH hI53 hbA) (by omega)) ⟨g53,c53,by rw[hl53]⟩ (.inr fun e=>?_) h6 hg6
        have:=(World.ownsRow.lt HSG2.out g53 (by rw[←e];rfl)).2
        omega
       have hSGN:OwnsI Y5 W0.heap.size u7 ((flatL n i++insTo ((n:Nat):Int) p j).map (·.2)):=World.ownsRow.kept (own_belowH HSG2.out hbW4) hg6 (own_apartH (own_belowH HSG2.out hbW4) hv1' (by decide))
       have hBW5:Below W0.heap.size W0 Y5:=(hb.trans (hbW4.mono hb.size)).grown hg6 (by omega) (fun q hq=>(World.ownsRow.lt hv1' q hq).1)
       refine hK.out _ _ trivial (fun hS=>?_)
       clear hK
       simp only[Act.put]
       refine htake 16 6 u6' rfl rfl (by kernel_rfl) (by kernel_rfl) (by kernel_rfl) (fun _ _ _ _ h=>h) (by rfl) (fun W _=>by go_simp) hS ?_
       simp only[zsA,zsB,zsC]
       refine wpAnyH_done (by kernel_rfl) ?_ _
       refine NoPanic.normal ?_
       have hsz5:=hBW5.size
       have hlsl:((flatL n i++insTo ((n:Nat):Int) p j).map (·.2)).length=(flatL n i++insTo ((n:Nat):Int) p j).length:=by simp
       have HSS:=(show Hid (sgnAt p.2 (j+1) =-sgnAt p.2 j) from sgnAt_next _ _)
       have hss:sgnAt p.2 j=1∨sgnAt p.2 j=-1:=by unfold sgnAt;split <;> omega
       have HIS:=(show Hid (insTo ((n:Nat):Int) p (j+1)=insTo ((n:Nat):Int) p j++[(insAt k ((n:Nat):Int) p.1,sgnAt p.2 j)]) from by rw[Hid,HKJ.out,insTo_step,HPL.out])
       have hORDa:OrdsAt (Y5.alloc (.cells #[.int .i64 (sgnAt p.2 j)] 3)) W0.heap.size u6' ((flatL n i++insTo ((n:Nat):Int) p j).map (·.1)++[insAt k ((n:Nat):Int) p.1]) u7.ownBlock:=hORD.below ((Below.refl _ _).alloc (Nat.le_refl _) _)
       have hSGNa:OwnsI (Y5.alloc (.cells #[.int .i64 (sgnAt p.2 j)] 3)) W0.heap.size u7 ((flatL n i++insTo ((n:Nat):Int) p j).map (·.2)):=own_belowH hSGN ((Below.refl _ _).alloc (Nat.le_refl _) _)
       have HORD:=(show Hid (OrdsAt (Y5.alloc (.cells #[.int .i64 (sgnAt p.2 j)] 3)) W0.heap.size u6' ((flatL n i++insTo ((n:Nat):Int) p j).map (·.1)++[insAt k ((n:Nat):Int) p.1]) u7.ownBlock) from hORDa)
       have HSGN:=(show Hid (OwnsI (Y5.alloc (.cells #[.int .i64 (sgnAt p.2 j)] 3)) W0.heap.size u7 ((flatL n i++insTo ((n:Nat):Int) p j).map (·.2))) from hSGNa)
       clear hORD hSGN hORDa hSGNa h6 hg6 hv1' hv1 hv2 hI53 h53 h49 h45 h45' hg53 hg49 r48
       generalize sgnAt p.2 j=sj at *
       clear hbY hbY2 hbY3 hbA hbW4 hsz4
       go_wp2_with (first
        | (at_builtin;refine wpList_append_own_at _ rfl _ _ 25 rfl W0.heap.size 3 i0 (.int .i64 0) 1 8 Tryz.underlying25 hi0 hz0 hz1 hz2 rfl (by decide) u7 _ _ rfl HSGN.out ⟨Y5.heap.size,0,none⟩ 1 1 [.int .i64 sj] rfl rfl (cell_one_new _ _ _) (fun u hu=>by simp at hu;subst hu;rfl) (by rw[hlsl];have:=HLB.out;unfold maxLen;omega) (by rw[hlsl];have:=HLB.out;omega) (by simp;omega) ?_;intro sg' Y6 hsg' hgs' _ hblk))
       go_roundw
       case rel =>
        refine ⟨j+1,by omega,?_,by rw[HSS.out],?_,?_,?_⟩
        ·have:=HKJ.out;congr 1;omega
        ·rw[HIS.out,←List.append_assoc,List.map_append]
         exact OrdsAt.sign HORD.out HSGN.out hgs' hblk
        ·rw[HIS.out,←List.append_assoc,List.map_append,OwnsI,inums_append,List.length_append]
         exact hsg'
        ·exact (hBW5.alloc (by omega) _).grown hgs' (by simp;omega) (fun q hq=>(World.ownsRow.lt HSGN.out q hq).1)
       case measure=>simp[intOf] <;> omega
      ·rw[if_pos (by rfl)]
       go_simp
       refine hK.out _ _ trivial (fun _=>?_)
       clear hK
       have r48:=RowAt.new X1 3 #[.int .i64 (n:Nat)]
       replace hbX1:=hbX1.alloc (by omega) (.cells #[.int .i64 (n:Nat)] 3)
       replace e41:=World.ownsRow.alloc e41 (.cells #[.int .i64 (n:Nat)] 3)
       obtain ⟨g48,hg48⟩:∃g,g=X1.heap.size:=⟨_,rfl⟩
       rw[←hg48] at r48 hzX1 ⊢
       generalize X1.alloc (.cells #[.int .i64 (n:Nat)] 3)=X2 at *
       refine rd1 5 rfl (fun K hK=>?_)
       refine wp_append_own X2 _ _ 25 rfl wr.heap.size 3 i0 (.int .i64 0) 1 8 Tryz.underlying25 hi0 hz0 hz1 hz2 rfl (by decide) (.slice (some ⟨wr.heap.size,0,none⟩) 0 0) 0 [] rfl e41 ⟨og,0,none⟩ k oc (inums (p.1.take k)) rfl (by rw[inums_length,List.length_take,HPL.out];omega) (take_cells HPL.out hkn (fun c hc=>(hbX1.cell (p:=⟨og,c,none⟩) (Nat.lt_of_lt_of_le hog hsW)).trans (HCW.out c hc))) (inums_one _) (by unfold maxLen;omega) (by omega) hbX1.size ?_
       intro v45 Y h45 hg45 hnil
       have hbY:=hbX1.grown hg45 hbX1.size (fun q hq=>(World.ownsRow.lt e41 q hq).1)
       rw[Nat.zero_add,List.nil_append] at h45
       have hn45:v45≠.slice none 0 0:=fun e=>by have:=(hnil.1 e).1;cases this
       replace r48:=row_kept r48 hg45 (by simp[Value.ownBlock];omega)
       refine hK.out _ _ trivial (fun _=>?_)
       clear hK
       simp only[Act.put]
       have h45':=h45
       obtain ⟨g45,c45,rfl⟩:=own_some h45 hn45
       refine rd1 9 rfl (fun K hK=>?_)
       refine wp_append_own Y _ _ 25 rfl wr.heap.size 3 i0 (.int .i64 0) 1 8 Tryz.underlying25 hi0 hz0 hz1 hz2 rfl (by decide) _ k (inums (p.1.take k)) rfl h45' ⟨g48,0,none⟩ 1 1 [.int .i64 (n:Nat)] rfl rfl (cell_row1 r48) (fun u hu=>by simp at hu;subst hu;rfl) (by unfold maxLen;omega) (by omega) hbY.size ?_
       intro v49 Y2 h49 hg49 _
       have hbY2:=hbY.grown hg49 hbY.size (fun q hq=>(World.ownsRow.lt h45' q hq).1)
       refine hK.out _ _ trivial (fun _=>?_)
       clear hK
       simp only[Act.put]
       refine rd1 13 rfl (fun K hK=>?_)
       refine wp_append_own Y2 _ _ 25 rfl wr.heap.size 3 i0 (.int .i64 0) 1 8 Tryz.underlying25 hi0 hz0 hz1 hz2 rfl (by decide) v49 (k+1) (inums (p.1.take k)++[.int .i64 (n:Nat)]) rfl h49 oa (n-k) (oc-k) (inums (p.1.drop k)) rfl (by rw[inums_length,List.length_drop,HPL.out];omega) (drop_cells HPL.out HOA2.out (fun c hc=>(hbY2.cell (p:=⟨og,c,none⟩) (Nat.lt_of_lt_of_le hog hsW)).trans (HCW.out c hc))) (inums_one _) (by unfold maxLen;omega) (by omega) hbY2.size ?_
       intro v53 Y3 h53 hg53 _
       have hbY3:=hbY2.grown hg53 hbY2.size (fun q hq=>(World.ownsRow.lt h49 q hq).1)
       have hI53:OwnsI Y3 wr.heap.size v53 (insAt k (n:Nat) p.1):=by
        unfold OwnsI insAt
        rw[inums_append,inums_append]
        have e1:(p.1.take k++[((n:Nat):Int)]++p.1.drop k).length=k+1+(n-k):=by simp[HPL.out];omega
        rw[e1]
        exact h53
       have hl53:(insAt k ((n:Nat):Int) p.1).length=n+1:=by simp[insAt,HPL.out];omega
       obtain ⟨g53,c53,rfl⟩:∃g c,v53=.slice (some ⟨g,0,none⟩) (n+1) c:=by
        have:=own_some hI53 (fun e=>by
         have h9:=sliceLen_ownH hI53
         rw[e,hl53] at h9
         cases h9)
        rw[hl53] at this
        exact this
       have hg53b:wr.heap.size≤g53:=(World.ownsRow.lt hI53 g53 rfl).1
       refine hK.out _ _ trivial (fun _=>?_)
       clear hK
       simp only[Act.put]
       refine rd1 14 rfl (fun K hK=>?_)
       go_simp
       refine hK.out _ _ trivial (fun _=>?_)
       clear hK
       obtain ⟨vs2,hv1,hv2⟩:=HOV2.out
       have hbA:Below Y3.heap.size Y3 (Y3.alloc (.cells #[.slice (some ⟨g53,0,none⟩) (n+1) c53] 25)):=(Below.refl _ _).alloc (Nat.le_refl _) _
       have hbW4:=hbY3.trans (hbA.mono hbY3.size)
       have hv1':=own_belowH hv1 hbW4
       have hsz4:=hbW4.size
       have hlls:((flatL n i++insTo ((n:Nat):Int) p j).map (·.1)).length=(flatL n i++insTo ((n:Nat):Int) p j).length:=by simp
       refine rd1 15 rfl (fun K hK=>?_)
       refine wp_append_own (Y3.alloc (.cells #[.slice (some ⟨g53,0,none⟩) (n+1) c53] 25)) _ _ 23 rfl W0.heap.size 25 j0 (.slice none 0 0) 1 24 Tryz.underlying23 hj0 hy0 hy1 hy2 rfl (by decide) u6 _ vs2 rfl hv1' ⟨Y3.heap.size,0,none⟩ 1 1 [.slice (some ⟨g53,0,none⟩) (n+1) c53] rfl rfl (cell_one_new _ _ _) (fun u hu=>by simp at hu;subst hu;rfl) (by rw[hlls];have:=HLB.out;unfold maxLen;omega) (by rw[hlls];have:=HLB.out;omega) (by omega) ?_
       intro u6' Y5 h6 hg6 _
       have hORD:OrdsAt Y5 W0.heap.size u6' ((flatL n i++insTo ((n:Nat):Int) p j).map (·.1)++[insAt k ((n:Nat):Int) p.1]) u7.ownBlock:=by
        refine OrdsAt.app hv1' (fun q u l a b=>⟨own_belowH (hv2 q u l a b).1 hbW4,(hv2 q u l a b).2⟩) (own_leH (own_belowH hI53 hbA) (by omega)) ⟨g53,c53,by rw[hl53]⟩ (.inr fun e=>?_) h6 hg6
        have:=(World.ownsRow.lt HSG2.out g53 (by rw[←e];rfl)).2
        omega
       have hSGN:OwnsI Y5 W0.heap.size u7 ((flatL n i++insTo ((n:Nat):Int) p j).map (·.2)):=World.ownsRow.kept (own_belowH HSG2.out hbW4) hg6 (own_apartH (own_belowH HSG2.out hbW4) hv1' (by decide))
       have hBW5:Below W0.heap.size W0 Y5:=(hb.trans (hbW4.mono hb.size)).grown hg6 (by omega) (fun q hq=>(World.ownsRow.lt hv1' q hq).1)
       refine hK.out _ _ trivial (fun hS=>?_)
       clear hK
       simp only[Act.put]
       refine htake 16 6 u6' rfl rfl (by kernel_rfl) (by kernel_rfl) (by kernel_rfl) (fun _ _ _ _ h=>h) (by rfl) (fun W _=>by go_simp) hS ?_
       simp only[zsA,zsB,zsC]
       refine wpAnyH_done (by kernel_rfl) ?_ _
       refine NoPanic.normal ?_
       have hsz5:=hBW5.size
       have hlsl:((flatL n i++insTo ((n:Nat):Int) p j).map (·.2)).length=(flatL n i++insTo ((n:Nat):Int) p j).length:=by simp
       have HSS:=(show Hid (sgnAt p.2 (j+1) =-sgnAt p.2 j) from sgnAt_next _ _)
       have hss:sgnAt p.2 j=1∨sgnAt p.2 j=-1:=by unfold sgnAt;split <;> omega
       have HIS:=(show Hid (insTo ((n:Nat):Int) p (j+1)=insTo ((n:Nat):Int) p j++[(insAt k ((n:Nat):Int) p.1,sgnAt p.2 j)]) from by rw[Hid,HKJ.out,insTo_step,HPL.out])
       have hORDa:OrdsAt (Y5.alloc (.cells #[.int .i64 (sgnAt p.2 j)] 3)) W0.heap.size u6' ((flatL n i++insTo ((n:Nat):Int) p j).map (·.1)++[insAt k ((n:Nat):Int) p.1]) u7.ownBlock:=hORD.below ((Below.refl _ _).alloc (Nat.le_refl _) _)
       have hSGNa:OwnsI (Y5.alloc (.cells #[.int .i64 (sgnAt p.2 j)] 3)) W0.heap.size u7 ((flatL n i++insTo ((n:Nat):Int) p j).map (·.2)):=own_belowH hSGN ((Below.refl _ _).alloc (Nat.le_refl _) _)
       have HORD:=(show Hid (OrdsAt (Y5.alloc (.cells #[.int .i64 (sgnAt p.2 j)] 3)) W0.heap.size u6' ((flatL n i++insTo ((n:Nat):Int) p j).map (·.1)++[insAt k ((n:Nat):Int) p.1]) u7.ownBlock) from hORDa)
       have HSGN:=(show Hid (OwnsI (Y5.alloc (.cells #[.int .i64 (sgnAt p.2 j)] 3)) W0.heap.size u7 ((flatL n i++insTo ((n:Nat):Int) p j).map (·.2))) from hSGNa)
       clear hORD hSGN hORDa hSGNa h6 hg6 hv1' hv1 hv2 hI53 h53 h49 h45 h45' hg53 hg49 r48
       generalize sgnAt p.2 j=sj at *
       clear hbY hbY2 hbY3 hbA hbW4 hsz4
       go_wp2_with (first
        | (at_builtin;refine wpList_append_own_at _ rfl _ _ 25 rfl W0.heap.size 3 i0 (.int .i64 0) 1 8 Tryz.underlying25 hi0 hz0 hz1 hz2 rfl (by decide) u7 _ _ rfl HSGN.out ⟨Y5.heap.size,0,none⟩ 1 1 [.int .i64 sj] rfl rfl (cell_one_new _ _ _) (fun u hu=>by simp at hu;subst hu;rfl) (by rw[hlsl];have:=HLB.out;unfold maxLen;omega) (by rw[hlsl];have:=HLB.out;omega) (by simp;omega) ?_;intro sg' Y6 hsg' hgs' _ hblk))
       go_roundw
       case rel =>
        refine ⟨j+1,by omega,?_,by rw[HSS.out],?_,?_,?_⟩
        ·have:=HKJ.out;congr 1;omega
        ·rw[HIS.out,←List.append_assoc,List.map_append]
         exact OrdsAt.sign HORD.out HSGN.out hgs' hblk
        ·rw[HIS.out,←List.append_assoc,List.map_append,OwnsI,inums_append,List.length_append]
         exact hsg'
        ·exact (hBW5.alloc (by omega) _).grown hgs' (by simp;omega) (fun q hq=>(World.ownsRow.lt HSGN.out q hq).1)
       case measure=>simp[intOf] <;> omega
     ·rw[if_pos (by rfl)]
      go_simp
      have r48:RowAt (wr.alloc (.cells #[.int .i64 (n:Nat)] 3)).drew wr.heap.size 3 #[.int .i64 (n:Nat)]:=RowAt.new wr 3 #[.int .i64 (n:Nat)]
      have hbX0:Below wr.heap.size wr (wr.alloc (.cells #[.int .i64 (n:Nat)] 3)).drew:=((Below.refl _ _).alloc (Nat.le_refl _) _).drew
      have hzX0:wr.heap.size<(wr.alloc (.cells #[.int .i64 (n:Nat)] 3)).drew.heap.size:=by simp
      refine hK.out _ _ trivial (fun _=>?_)
      clear hK
      generalize (wr.alloc (.cells #[.int .i64 (n:Nat)] 3)).drew=X0 at *
      refine rd1 1 rfl (fun K hK=>?_)
      go_simp
      have e41:(X0.alloc (.cells #[] 3)).ownsRow wr.heap.size 3 1 (.slice (some ⟨X0.heap.size,0,none⟩) 0 0) 0 []:=own_full (RowAt.new X0 3 #[]) (by omega) rfl (by decide)
      have hbX1:=hbX0.alloc (by omega) (.cells #[] 3)
      replace r48:=r48.alloc (.cells #[] 3)
      refine hK.out _ _ trivial (fun _=>?_)
      clear hK
      obtain ⟨g41,hg41⟩:∃g,g=X0.heap.size:=⟨_,rfl⟩
      rw[←hg41] at e41 hzX0 ⊢
      generalize X0.alloc (.cells #[] 3)=X1 at *
      obtain ⟨g48,hg48⟩:∃g,g=wr.heap.size:=⟨_,rfl⟩
      rw[←hg48] at r48 ⊢
      refine rd1 5 rfl (fun K hK=>?_)
      refine wp_append_own X1 _ _ 25 rfl wr.heap.size 3 i0 (.int .i64 0) 1 8 Tryz.underlying25 hi0 hz0 hz1 hz2 rfl (by decide) (.slice (some ⟨g41,0,none⟩) 0 0) 0 [] rfl e41 ⟨og,0,none⟩ k oc (inums (p.1.take k)) rfl (by rw[inums_length,List.length_take,HPL.out];omega) (take_cells HPL.out hkn (fun c hc=>(hbX1.cell (p:=⟨og,c,none⟩) (Nat.lt_of_lt_of_le hog hsW)).trans (HCW.out c hc))) (inums_one _) (by unfold maxLen;omega) (by omega) hbX1.size ?_
      intro v45 Y h45 hg45 hnil
      have hbY:=hbX1.grown hg45 hbX1.size (fun q hq=>(World.ownsRow.lt e41 q hq).1)
      rw[Nat.zero_add,List.nil_append] at h45
      have hn45:v45≠.slice none 0 0:=fun e=>by have:=(hnil.1 e).1;cases this
      replace r48:=row_kept r48 hg45 (by simp[Value.ownBlock];omega)
      refine hK.out _ _ trivial (fun _=>?_)
      clear hK
      simp only[Act.put]
      have h45':=h45
      obtain ⟨g45,c45,rfl⟩:=own_some h45 hn45
      refine rd1 9 rfl (fun K hK=>?_)
      refine wp_append_own Y _ _ 25 rfl wr.heap.size 3 i0 (.int .i64 0) 1 8 Tryz.underlying25 hi0 hz0 hz1 hz2 rfl (by decide) _ k (inums (p.1.take k)) rfl h45' ⟨g48,0,none⟩ 1 1 [.int .i64 (n:Nat)] rfl rfl (cell_row1 r48) (fun u hu=>by simp at hu;subst hu;rfl) (by unfold maxLen;omega) (by omega) hbY.size ?_
      intro v49 Y2 h49 hg49 _
      have hbY2:=hbY.grown hg49 hbY.size (fun q hq=>(World.ownsRow.lt h45' q hq).1)
      refine hK.out _ _ trivial (fun _=>?_)
      clear hK
      simp only[Act.put]
      refine rd1 13 rfl (fun K hK=>?_)
      refine wp_append_own Y2 _ _ 25 rfl wr.heap.size 3 i0 (.int .i64 0) 1 8 Tryz.underlying25 hi0 hz0 hz1 hz2 rfl (by decide) v49 (k+1) (inums (p.1.take k)++[.int .i64 (n:Nat)]) rfl h49 oa (n-k) (oc-k) (inums (p.1.drop k)) rfl (by rw[inums_length,List.length_drop,HPL.out];omega) (drop_cells HPL.out HOA2.out (fun c hc=>(hbY2.cell (p:=⟨og,c,none⟩) (Nat.lt_of_lt_of_le hog hsW)).trans (HCW.out c hc))) (inums_one _) (by unfold maxLen;omega) (by omega) hbY2.size ?_
      intro v53 Y3 h53 hg53 _
      have hbY3:=hbY2.grown hg53 hbY2.size (fun q hq=>(World.ownsRow.lt h49 q hq).1)
      have hI53:OwnsI Y3 wr.heap.size v53 (insAt k (n:Nat) p.1):=by
       unfold OwnsI insAt
       rw[inums_append,inums_append]
       have e1:(p.1.take k++[((n:Nat):Int)]++p.1.drop k).length=k+1+(n-k):=by simp[HPL.out];omega
       rw[e1]
       exact h53
      have hl53:(insAt k ((n:Nat):Int) p.1).length=n+1:=by simp[insAt,HPL.out];omega
      obtain ⟨g53,c53,rfl⟩:∃g c,v53=.slice (some ⟨g,0,none⟩) (n+1) c:=by
       have:=own_some hI53 (fun e=>by
        have h9:=sliceLen_ownH hI53
        rw[e,hl53] at h9
        cases h9)
       rw[hl53] at this
       exact this
      have hg53b:wr.heap.size≤g53:=(World.ownsRow.lt hI53 g53 rfl).1
      refine hK.out _ _ trivial (fun _=>?_)
      clear hK
      simp only[Act.put]
      refine rd1 14 rfl (fun K hK=>?_)
      go_simp
      refine hK.out _ _ trivial (fun _=>?_)
      clear hK
      obtain ⟨vs2,hv1,hv2⟩:=HOV2.out
      have hbA:Below Y3.heap.size Y3 (Y3.alloc (.cells #[.slice (some ⟨g53,0,none⟩) (n+1) c53] 25)):=(Below.refl _ _).alloc (Nat.le_refl _) _
      have hbW4:=hbY3.trans (hbA.mono hbY3.size)
      have hv1':=own_belowH hv1 hbW4
      have hsz4:=hbW4.size
      have hlls:((flatL n i++insTo ((n:Nat):Int) p j).map (·.1)).length=(flatL n i++insTo ((n:Nat):Int) p j).length:=by simp
      refine rd1 15 rfl (fun K hK=>?_)
      refine wp_append_own (Y3.alloc (.cells #[.slice (some ⟨g53,0,none⟩) (n+1) c53] 25)) _ _ 23 rfl W0.heap.size 25 j0 (.slice none 0 0) 1 24 Tryz.underlying23 hj0 hy0 hy1 hy2 rfl (by decide) u6 _ vs2 rfl hv1' ⟨Y3.heap.size,0,none⟩ 1 1 [.slice (some ⟨g53,0,none⟩) (n+1) c53] rfl rfl (cell_one_new _ _ _) (fun u hu=>by simp at hu;subst hu;rfl) (by rw[hlls];have:=HLB.out;unfold maxLen;omega) (by rw[hlls];have:=HLB.out;omega) (by omega) ?_
      intro u6' Y5 h6 hg6 _
      have hORD:OrdsAt Y5 W0.heap.size u6' ((flatL n i++insTo ((n:Nat):Int) p j).map (·.1)++[insAt k ((n:Nat):Int) p.1]) u7.ownBlock:=by
       refine OrdsAt.app hv1' (fun q u l a b=>⟨own_belowH (hv2 q u l a b).1 hbW4,(hv2 q u l a b).2⟩) (own_leH (own_belowH hI53 hbA) (by omega)) ⟨g53,c53,by rw[hl53]⟩ (.inr fun e=>?_) h6 hg6
       have:=(World.ownsRow.lt HSG2.out g53 (by rw[←e];rfl)).2
       omega
      have hSGN:OwnsI Y5 W0.heap.size u7 ((flatL n i++insTo ((n:Nat):Int) p j).map (·.2)):=World.ownsRow.kept (own_belowH HSG2.out hbW4) hg6 (own_apartH (own_belowH HSG2.out hbW4) hv1' (by decide))
      have hBW5:Below W0.heap.size W0 Y5:=(hb.trans (hbW4.mono hb.size)).grown hg6 (by omega) (fun q hq=>(World.ownsRow.lt hv1' q hq).1)
      refine hK.out _ _ trivial (fun hS=>?_)
      clear hK
      simp only[Act.put]
      refine htake 16 6 u6' rfl rfl (by kernel_rfl) (by kernel_rfl) (by kernel_rfl) (fun _ _ _ _ h=>h) (by rfl) (fun W _=>by go_simp) hS ?_
      simp only[zsA,zsB,zsC]
      refine wpAnyH_done (by kernel_rfl) ?_ _
      refine NoPanic.normal ?_
      have hsz5:=hBW5.size
      have hlsl:((flatL n i++insTo ((n:Nat):Int) p j).map (·.2)).length=(flatL n i++insTo ((n:Nat):Int) p j).length:=by simp
      have HSS:=(show Hid (sgnAt p.2 (j+1) =-sgnAt p.2 j) from sgnAt_next _ _)
      have hss:sgnAt p.2 j=1∨sgnAt p.2 j=-1:=by unfold sgnAt;split <;> omega
      have HIS:=(show Hid (insTo ((n:Nat):Int) p (j+1)=insTo ((n:Nat):Int) p j++[(insAt k ((n:Nat):Int) p.1,sgnAt p.2 j)]) from by rw[Hid,HKJ.out,insTo_step,HPL.out])
      have hORDa:OrdsAt (Y5.alloc (.cells #[.int .i64 (sgnAt p.2 j)] 3)) W0.heap.size u6' ((flatL n i++insTo ((n:Nat):Int) p j).map (·.1)++[insAt k ((n:Nat):Int) p.1]) u7.ownBlock:=hORD.below ((Below.refl _ _).alloc (Nat.le_refl _) _)
      have hSGNa:OwnsI (Y5.alloc (.cells #[.int .i64 (sgnAt p.2 j)] 3)) W0.heap.size u7 ((flatL n i++insTo ((n:Nat):Int) p j).map (·.2)):=own_belowH hSGN ((Below.refl _ _).alloc (Nat.le_refl _) _)
      have HORD:=(show Hid (OrdsAt (Y5.alloc (.cells #[.int .i64 (sgnAt p.2 j)] 3)) W0.heap.size u6' ((flatL n i++insTo ((n:Nat):Int) p j).map (·.1)++[insAt k ((n:Nat):Int) p.1]) u7.ownBlock) from hORDa)
      have HSGN:=(show Hid (OwnsI (Y5.alloc (.cells #[.int .i64 (sgnAt p.2 j)] 3)) W0.heap.size u7 ((flatL n i++insTo ((n:Nat):Int) p j).map (·.2))) from hSGNa)
      clear hORD hSGN hORDa hSGNa h6 hg6 hv1' hv1 hv2 hI53 h53 h49 h45 h45' hg53 hg49 r48
      generalize sgnAt p.2 j=sj at *
      clear hbY hbY2 hbY3 hbA hbW4 hsz4
      go_wp2_with (first
       | (at_builtin;refine wpList_append_own_at _ rfl _ _ 25 rfl W0.heap.size 3 i0 (.int .i64 0) 1 8 Tryz.underlying25 hi0 hz0 hz1 hz2 rfl (by decide) u7 _ _ rfl HSGN.out ⟨Y5.heap.size,0,none⟩ 1 1 [.int .i64 sj] rfl rfl (cell_one_new _ _ _) (fun u hu=>by simp at hu;subst hu;rfl) (by rw[hlsl];have:=HLB.out;unfold maxLen;omega) (by rw[hlsl];have:=HLB.out;omega) (by simp;omega) ?_;intro sg' Y6 hsg' hgs' _ hblk))
      go_roundw
      case rel =>
       refine ⟨j+1,by omega,?_,by rw[HSS.out],?_,?_,?_⟩
       ·have:=HKJ.out;congr 1;omega
       ·rw[HIS.out,←List.append_assoc,List.map_append]
        exact OrdsAt.sign HORD.out HSGN.out hgs' hblk
       ·rw[HIS.out,←List.append_assoc,List.map_append,OwnsI,inums_append,List.length_append]
        exact hsg'
       ·exact (hBW5.alloc (by omega) _).grown hgs' (by simp;omega) (fun q hq=>(World.ownsRow.lt HSGN.out q hq).1)
      case measure=>simp[intOf] <;> omega
    ·have hjn:j=n+1:=by omega
     subst hjn
     have HOV3:=(show Hid (OrdsAt wr W0.heap.size u6 ((flatL n (i+1)).map (·.1)) u7.ownBlock) from by rw[Hid,flatL_step n i p HP.out,HPL.out];exact hov)
     have HSG3:=(show Hid (OwnsI wr W0.heap.size u7 ((flatL n (i+1)).map (·.2))) from by rw[Hid,flatL_step n i p HP.out,HPL.out];exact hsg)
     have hkk:((n:Int)-((n+1:Nat):Int))=-1:=by omega
     rw[hkk]
     clear hov hsg
     go_wp2
     go_roundw
     case rel=>exact ⟨i+1,by omega,by go_num,HOV3.out,HSG3.out,hb⟩
     case measure=>simp[intOf];omega
  ·have HIN:Hid (i=(ordL n).length):=by have:=HNN.out;rw[Hid];omega
   rw[HIN.out,flatL_all] at hov hsg
   go_wp2
   go_ret2
   refine ⟨_,_,rfl,?_,own_leH hsg hz0',hb0.trans (hb.mono hz0')⟩
   obtain ⟨vs9,q1,q2⟩:=hov
   exact ⟨vs9,own_leH q1 hz0',fun k u l a b=>⟨own_leH (q2 k u l a b).1 hz0',(q2 k u l a b).2.1,.inl rfl⟩⟩
theorem ord_anyH:∀n,n≤4→OrdOk n
 | 0,_=>ord_zero
 | n+1,h=>ord_step n (by omega) (ord_anyH n (by omega))
end Go.Proofs.YtkohhdkkbaifoaaGreatDoor
