/-
  Several texts, joined: YRCol, YRCol2, RuD.
-/
import Derived.Test.YtkohhdkkbaifoaaGreatDoorJn31
import Derived.Test.YtkohhdkkbaifoaaGreatDoorJn12
import Derived.Test.YtkohhdkkbaifoaaGreatDoorJn29
import Derived.Test.YtkohhdkkbaifoaaGreatDoorXRw
/-
  Contract of the document's own Columns.
-/
namespace Go.Proofs.YtkohhdkkbaifoaaGreatDoor
open Go.RowKit PK Sm

def colJ (L k j:Nat):List Nat:=(List.range j).map fun q=>k+q*L
def colN (n L k:Nat):Nat:=(n-k+(L-1)) / L
def letL (l:List UInt8) (n L c K:Nat):List Nat:=(List.range K).flatMap fun k=>if (l.getD k 0).toNat=65+c then colJ L k (colN n L k) else []
def allL (l:List UInt8) (n L C:Nat):List Nat:=(List.range C).flatMap fun c=>letL l n L c L
theorem colJ_step (L k j:Nat):colJ L k (j+1)=colJ L k j++[k+j*L]:=by unfold colJ;rw[List.range_succ,List.map_append];rfl
theorem colJ_len (L k j:Nat):(colJ L k j).length=j:=by simp[colJ]
theorem letL_step (l:List UInt8) (n L c K:Nat):letL l n L c (K+1)=letL l n L c K++(if (l.getD K 0).toNat=65+c then colJ L K (colN n L K) else []):=by simp[letL,List.range_succ,List.flatMap_append]
theorem allL_step (l:List UInt8) (n L C:Nat):allL l n L (C+1)=allL l n L C++letL l n L C L:=by simp[allL,List.range_succ,List.flatMap_append]
theorem colN_iff {n L k:Nat} (hL:1≤L) (q:Nat):q<colN n L k↔k+q*L<n:=by
 unfold colN
 have h1:q<(n-k+(L-1)) / L↔(q+1)*L≤n-k+(L-1):=by
  rw[←Nat.le_div_iff_mul_le (by omega)]
  omega
 rw[h1,Nat.succ_mul]
 generalize q*L=x
 omega
theorem colN_le {n L k:Nat} (hL:1≤L) (hL2:L≤256) (hn:n≤65536):colN n L k≤65792:=by
 unfold colN
 have:=Nat.div_le_self (n-k+(L-1)) L
 omega
theorem letL_len (l:List UInt8) {n L:Nat} (c:Nat) (hL:1≤L) (hL2:L≤256) (hn:n≤65536):∀K,(letL l n L c K).length≤K*65792
 | 0=>by simp[letL]
 | K+1=>by
  have ih:=letL_len l c hL hL2 hn K
  have:=colN_le (n:=n) (L:=L) (k:=K) hL hL2 hn
  rw[letL_step,List.length_append,Nat.succ_mul]
  by_cases h:(l.getD K 0).toNat=65+c
  ·rw[if_pos h,colJ_len];omega
  ·rw[if_neg h,List.length_nil,Nat.add_zero];exact Nat.le_trans ih (Nat.le_add_right _ _)
set_option maxRecDepth 100000 in
theorem allL_len (l:List UInt8) {n L:Nat} (hL:1≤L) (hL2:L≤256) (hn:n≤65536):∀C,(allL l n L C).length≤C*16842752
 | 0=>by simp[allL]
 | C+1=>by
  have ih:=allL_len l hL hL2 hn C
  have h1:=letL_len l C hL hL2 hn L
  have h2:L*65792≤256*65792:=Nat.mul_le_mul_right _ hL2
  rw[allL_step,List.length_append,Nat.succ_mul]
  omega
theorem own_iter {w:World} {B:Nat} {v:Value} {l:List Nat} (h:OwnsL w B v l) {k:Nat} {s:ByteArray} {pos:Nat} (hk:w.heap[k]? = some (.stringIter s pos)):v.ownBlock≠some k:=fun hg=>by
 rcases h.2 with ⟨rfl,_⟩ | ⟨g',cap,cur,rfl,hb,hg',_⟩
 ·cases hg
 ·simp[Value.ownBlock] at hg
  subst hg
  rw[hk] at hg'
  cases hg'
theorem own_iterAt {w:World} {B:Nat} {v:Value} {l:List Nat} (h:OwnsL w B v l) {k:Nat} {s:ByteArray} {pos:Nat} (hk:w.heap[k]? = some (.stringIter s pos)) (pos':Nat):OwnsL (w.iterAt k s pos') B v l:=by
 have hne:=own_iter h hk
 obtain ⟨h1,h2⟩:=h
 refine ⟨h1,?_⟩
 rcases h2 with h2 | ⟨g,cap,cur,a,b,c,d⟩
 ·exact .inl h2
 ·have hkg:g≠k:=fun e1=>hne (by rw[a,e1];rfl)
  exact .inr ⟨g,cap,cur,a,b,(Lib.iterAt_other w k g s pos' hkg).trans c,d⟩
theorem decode_let (s:ByteArray) (pos:Nat) (hp:pos<s.size) (hl:Pl.Lets s.data.toList):Utf8.decode s pos=((s.data.toList.getD pos 0).toNat,1):=by
 have hp':pos<s.data.toList.length:=by rw[←Pl.size_len];exact hp
 rw[Pl.decode_eq,List.drop_eq_getElem_cons hp']
 have hm:s.data.toList[pos] ∈ s.data.toList:=List.getElem_mem _
 have:=of_decide_eq_true (show decide _=true from hl _ hm)
 rw[Pl.decL_low _ _ (by omega)]
 simp[List.getD,List.getElem?_eq_getElem hp']
theorem num_bd {l:List UInt8} (h:Pl.Lets l) (i:Nat) (hi:i<l.length):(l.getD i 0).toNat≤90:=by
 have hm:l.getD i 0 ∈ l:=by
  have:l[i]? = some (l.getD i 0):=by simp[List.getD,List.getElem?_eq_getElem hi]
  exact List.mem_of_getElem? this
 have:=of_decide_eq_true (show decide _=true from h _ hm)
 omega
set_option maxRecDepth 100000 in
set_option maxHeartbeats 8000000 in
theorem rcol_ok (n:Nat) (s:ByteArray) (hn:n≤65536) (hck:ckE s.data.toList=0) (hcat:ckAt s.data.toList=0) (hlet:Pl.Lets s.data.toList) (hs0:1≤s.size) (hs:s.size≤256) (w:World) :
  Calls Tryz.prog 84 #[.int .i64 (n:Nat),.string s] w fun e w'=>∃(v:Value) (B:Nat),e=.returned (.tuple #[v,.int .i64 0])∧OwnsL w' B v (allL s.data.toList n s.size 26)∧Below w.heap.size w w':=by
 obtain ⟨i0,hi0,hz0,hz1,hz2⟩:=y_info_parts y_info_int
 have HCK:=(show Hid (∀W,Calls Tryz.prog 42 #[.string s] W fun e w'=>e=.returned (.agg #[.int .i64 0,.int .i64 0])∧Below W.heap.size W w') from fun W=>by
  have:=rcheck_all s W
  rw[hck,hcat] at this
  exact this)
 have HLET:=(show Hid (Pl.Lets s.data.toList) from hlet)
 have h7:¬(s.size:Int)<1:=by omega
 have h8:¬(256:Int)<(s.size:Int):=by omega
 clear hck hcat hlet
 go_enter Tryz.func84,Tryz.ntmps84
 go_wp2_with (first | (go_at_call 42;refine (HCK.out _).mono ?_;rintro e W1 ⟨rfl,hb1⟩))
 have hbw:=hb1.alloc hb1.size (.cells #[.int .i64 0,.int .i64 0] 35)
 clear hb1 HCK h7 h8
 generalize W1.alloc (.cells #[.int .i64 0,.int .i64 0] 35)=X at *
 have hzx:=hbw.size
 go_loopw [8,7] (fun c o W=>∃C:Nat,C≤26∧c=.int .i32 ((65+C:Nat):Int)∧OwnsL W X.heap.size o (allL s.data.toList n s.size C)∧Below X.heap.size X W) (fun c _ _=>(91-intOf c).toNat)
 case atStart=>exact ⟨0,by omega,rfl,OwnsL.nil _ _,Below.refl _ _⟩
 case round =>
  obtain ⟨C,hC,rfl,hown,hb⟩:=hrel
  obtain ⟨c1,hc1⟩:∃c1,c1=65+C:=⟨_,rfl⟩
  have HC1:Hid (c1=65+C):=hc1
  have hc1b:c1≤91:=by omega
  rw[←hc1]
  by_cases hlt:C<26
  ·have hc90:((c1:Nat):Int)≤90:=by omega
   have hzb:=hb.size
   obtain ⟨V,rfl⟩:∃V,V=wr:=⟨_,rfl⟩
   clear hc1
   go_wp2
   go_loopw [7] (fun o W=>∃pos:Nat,pos≤s.size∧W.heap[V.heap.size]? = some (.stringIter s pos)∧OwnsL W X.heap.size o (allL s.data.toList n s.size C++letL s.data.toList n s.size C pos)∧Below X.heap.size X W) (fun _ W=>s.size-W.iterPos V.heap.size)
   case atStart=>exact ⟨0,Nat.zero_le _,World.iter_heap V s 0,by rw[show letL s.data.toList n s.size C 0=[] from rfl,List.append_nil];exact World.ownsRow.alloc hown _,hb.alloc hzb _⟩
   case round =>
    clear hown hb
    obtain ⟨pos,hps,hk,hown,hb⟩:=hrel
    have hmu:Hid (wr.iterPos V.heap.size=pos):=iterPos_of hk
    by_cases hp:pos<s.size
    ·have hnext0:∀ty,(Instr.next (.pointer (some ⟨V.heap.size,0,none⟩)) true ty).run Tryz.prog wr=_:=fun ty=>Lib.run_next_any_at wr V.heap.size s pos ty hk hp
     rw[decode_let s pos hp HLET.out] at hnext0
     have hown1:=own_iterAt hown hk (pos+1)
     have hk1:=Lib.iterAt_heap wr V.heap.size s pos (pos+1) hk
     have hb1:Below X.heap.size X (wr.iterAt V.heap.size s (pos+1)):=Lib.below_iterAt hb hzb s _
     have hst:=letL_step s.data.toList n s.size C pos
     have HLB:=(show Hid ((s.data.toList.getD pos 0).toNat≤90) from (num_bd HLET.out pos (by rw[←Pl.size_len];exact hp)))
     generalize (s.data.toList.getD pos 0).toNat=x at hnext0 hst HLB
     generalize wr.iterAt V.heap.size s (pos+1)=Y at hnext0 hown1 hk1 hb1
     have hnext:=hnext0
     clear hnext0 hown hb hk
     have HL1:=(show Hid ((allL s.data.toList n s.size C++letL s.data.toList n s.size C pos).length≤500000000) from by
      have h1:=allL_len s.data.toList hs0 hs hn C
      have h2:=letL_len s.data.toList C hs0 hs hn pos
      have h3:C*16842752≤26*16842752:=Nat.mul_le_mul_right _ hC
      have h4:pos*65792≤256*65792:=Nat.mul_le_mul_right _ (by omega)
      rw[Hid,List.length_append];omega)
     have HST:=(show Hid (allL s.data.toList n s.size C++letL s.data.toList n s.size C (pos+1)=(allL s.data.toList n s.size C++letL s.data.toList n s.size C pos)++(if x=65+C then colJ s.size pos (colN n s.size pos) else [])) from by rw[Hid,hst,List.append_assoc])
     have HJ:=(show Hid (∀q,q<colN n s.size pos↔pos+q*s.size<n) from fun q=>colN_iff hs0 q)
     have HJ2:=(show Hid (colN n s.size pos≤65792) from colN_le hs0 hs hn)
     generalize allL s.data.toList n s.size C++letL s.data.toList n s.size C pos=acc at *
     generalize colN n s.size pos=J at *
     have hzy:=hb1.size
     have hVY:V.heap.size<Y.heap.size:=(Array.getElem?_eq_some_iff.1 hk1).1
     clear hst
     by_cases hx:x=c1
     ·have hxe:x=65+C:=by rw[hx];exact HC1.out
      rw[if_pos hxe] at HST
      subst hx
      clear hxe
      go_wp2
      go_loopw [11,7] (fun i o W=>∃(j m:Nat),i=.int .i64 (m:Nat)∧m≤70000∧j≤J∧Hid (m=pos+j*s.size)∧W.heap[V.heap.size]? = some (.stringIter s (pos+1))∧OwnsL W X.heap.size o (acc++colJ s.size pos j)∧Below X.heap.size X W) (fun i _ _=>(70000-intOf i).toNat)
      case atStart=>exact ⟨0,pos,rfl,by omega,by omega,by rw[Hid,Nat.zero_mul];rfl,hk1,by rw[show colJ s.size pos 0=[] from rfl,List.append_nil];exact hown1,hb1⟩
      case round =>
       clear hown1 hb1 hk1 hnext
       obtain ⟨j,m,rfl,hm70,hj,HM,hk2,hown2,hb2⟩:=hrel
       have hzb2:=hb2.size
       by_cases hmn:m<n
       ·have hjJ:j<J:=(HJ.out j).2 (by rw[←HM.out];exact hmn)
        have HL2:=(show Hid ((acc++colJ s.size pos j).length≤600000000) from by
         have:=HL1.out
         have:=HJ2.out
         rw[Hid,List.length_append,colJ_len];omega)
        have HST2:=(show Hid (acc++colJ s.size pos (j+1)=(acc++colJ s.size pos j)++[m]) from by rw[Hid,colJ_step,List.append_assoc,←HM.out])
        have hown2':wr.ownsRow X.heap.size 3 1 u7 (acc++colJ s.size pos j).length (nnums (acc++colJ s.size pos j)):=hown2
        have HNI:=(show Hid (u7.ownBlock≠some V.heap.size) from own_iter hown2 hk2)
        have hVr:V.heap.size<wr.heap.size:=(Array.getElem?_eq_some_iff.1 hk2).1
        generalize acc++colJ s.size pos j=acc2 at *
        go_wp2_with (first
         | (at_builtin;refine wpList_append_own _ rfl _ _ 25 rfl X.heap.size 3 i0 (.int .i64 0) 1 8 Tryz.underlying25 hi0 hz0 hz1 hz2 rfl (by decide) _ _ _ rfl (World.ownsRow.alloc hown2' _) ⟨wr.heap.size,0,none⟩ 1 1 [.int .i64 (m:Nat)] rfl rfl (cell_one_new _ _ _) (fun u hu=>by simp at hu;subst hu;rfl) (by have:=HL2.out;unfold maxLen;omega) (by have:=HL2.out;omega) (by simp;omega) ?_;intro v5 w5 hown5 hgrow5 _))
        have hk5:w5.heap[V.heap.size]? = some (.stringIter s (pos+1)):=(hgrow5.block _ (by simp;omega) (fun e=>HNI.out e.symm)).trans ((Below.heap_alloc wr _ V.heap.size hVr).trans hk2)
        go_roundw
        case rel =>
         refine ⟨j+1,m+s.size,by go_num,by omega,by omega,by rw[Hid,HM.out,Nat.succ_mul,Nat.add_assoc],hk5,?_,(hb2.alloc hzb2 _).grown hgrow5 (by simp;omega) (fun k hk=>(World.ownsRow.lt hown2' k hk).1)⟩
         rw[HST2.out]
         unfold OwnsL
         rw[List.length_append,nnums_append]
         exact hown5
        case measure=>simp[intOf] <;> omega
       ·have hjJ:j=J:=by
         have h1:¬j<J:=fun h=>hmn (by rw[HM.out];exact (HJ.out j).1 h)
         omega
        subst hjJ
        go_wp2
        go_roundw
        case rel=>exact ⟨pos+1,by omega,hk2,by rw[HST.out];exact hown2,hb2⟩
        case measure =>
         rw[hmu.out,iterPos_of hk2]
         omega
     ·have hxe:¬x=65+C:=by rw[←HC1.out];exact hx
      rw[if_neg hxe,List.append_nil] at HST
      have hd:(((x:Nat):Int)==((c1:Nat):Int))=false:=beq_eq_false_iff_ne.2 (by omega)
      clear hxe hx
      go_wp2
      go_roundw
      case rel=>exact ⟨pos+1,by omega,hk1,by rw[HST.out];exact hown1,hb1⟩
      case measure =>
       rw[hmu.out,iterPos_of hk1]
       omega
    ·have hnext:∀ty,(Instr.next (.pointer (some ⟨V.heap.size,0,none⟩)) true ty).run Tryz.prog wr=_:=fun ty=>Lib.run_next_end_at wr V.heap.size s pos ty hk hp
     obtain rfl:pos=s.size:=by omega
     have HF:=(show Hid (OwnsL wr X.heap.size u7 (allL s.data.toList n s.size (C+1))) from by rw[Hid,allL_step];exact hown)
     clear hown hk
     go_wp2
     go_roundw
     case rel=>exact ⟨C+1,by omega,by rw[show ((65+(C+1):Nat):Int)=((c1:Nat):Int)+1 by have:=HC1.out;omega],HF.out,hb⟩
     case measure=>have:=HC1.out;simp[intOf] <;> omega
  ·obtain rfl:C=26:=by omega
   have hc90:¬c1≤90:=by omega
   go_wp2
   go_ret2
   exact ⟨_,_,rfl,hown,hbw.trans (hb.mono hzx)⟩
end Go.Proofs.YtkohhdkkbaifoaaGreatDoor

/-
  What the document's Columns and the program's come to: the same; and where something is wrong.
-/
namespace Go.Proofs.YtkohhdkkbaifoaaGreatDoor
open Go.RowKit PK Sm

theorem turns_lt {l:List UInt8} {L:Nat} {t:Nat→Int} (h:Turns l L t) (hL:L≤65536) {a b:Nat} (ha:a<L) (hb:b<L) (hlt:LL (keyL l) (a:Int) (b:Int)):t a<t b:=by
 obtain ⟨d,ho,hs,ht⟩:=h.ex
 have hg:GoodO L d:=GoodO.of_order ho hL
 have h1:=hg.back.2 a ha
 have h2:=hg.back.2 b hb
 rw[ht,ht]
 apply Classical.byContradiction
 intro hno
 have h3:LL (keyL l) (b:Int) (a:Int)∨a=b:=by
  by_cases e:backF d L b=backF d L a
  ·right
   have:=h1.2.2
   rw[←e,h2.2.2] at this
   omega
  ·left
   have:=hs (backF d L b).toNat (backF d L a).toNat (by omega) (by omega) (by omega)
   rw[h1.2.2,h2.2.2] at this
   exact this
 rcases h3 with h3 | h3
 ·exact (hlt.trans h3).irrefl
 ·subst h3;exact hlt.irrefl
theorem mod_col {L k q:Nat} (hk:k<L):(k+q*L) % L=k:=by rw[Nat.add_mul_mod_self_right,Nat.mod_eq_of_lt hk]
theorem letL_mem {l:List UInt8} {n L c K:Nat} (hL:1≤L) (hK:K≤L) {x:Nat}:x ∈ letL l n L c K→x<n∧x % L<K∧(l.getD (x % L) 0).toNat=65+c:=by
 intro h
 obtain ⟨k,hk,hx⟩:=List.mem_flatMap.1 h
 have hk':k<K:=by simpa using hk
 by_cases e:(l.getD k 0).toNat=65+c
 ·rw[if_pos e] at hx
  obtain ⟨q,hq,rfl⟩:=List.mem_map.1 hx
  rw[mod_col (by omega)]
  exact ⟨(colN_iff hL q).1 (by simpa using hq),hk',e⟩
 ·rw[if_neg e] at hx;cases hx
theorem allL_mem {l:List UInt8} {n L:Nat} (hL:1≤L) (hl:l.length=L) (hlet:Pl.Lets l) (x:Nat):x ∈ allL l n L 26↔x<n:=by
 constructor
 ·intro h
  obtain ⟨c,_,hx⟩:=List.mem_flatMap.1 h
  exact (letL_mem hL (Nat.le_refl L) hx).1
 ·intro h
  have hk:=Nat.mod_lt x (show 0<L by omega)
  have hm:l.getD (x % L) 0 ∈ l:=by
   have:l[x % L]? = some (l.getD (x % L) 0):=by simp[List.getD,List.getElem?_eq_getElem (show x % L<l.length by omega)]
   exact List.mem_of_getElem? this
  have hb:=of_decide_eq_true (show decide _=true from hlet _ hm)
  refine List.mem_flatMap.2 ⟨(l.getD (x % L) 0).toNat-65,List.mem_range.2 (by omega),List.mem_flatMap.2 ⟨x % L,by simpa using hk,?_⟩⟩
  rw[if_pos (by omega)]
  have e:x=x % L+x / L*L:=by have:=Nat.mod_add_div x L;rw[Nat.mul_comm] at this;exact this.symm
  refine List.mem_map.2 ⟨x / L,?_,e.symm⟩
  have:=(colN_iff (n:=n) (k:=x % L) hL (x / L)).2 (by rw[←e];exact h)
  simpa using this
theorem allL_pw' {l:List UInt8} {n L:Nat} {t:Nat→Int} (hL:1≤L) (ht:∀a b:Nat,a<L→b<L→LL (keyL l) (a:Int) (b:Int)→t a<t b) (C:Nat):(allL l n L C).Pairwise fun (x y:Nat)=>LL (turnK L t) (x:Int) (y:Int):=by
 have hkey:∀x y:Nat,LL (keyL l) ((x % L:Nat):Int) ((y % L:Nat):Int)→LL (turnK L t) (x:Int) (y:Int):=fun x y h=>by
  left
  show t ((x:Int).toNat % L)<t ((y:Int).toNat % L)
  rw[Int.toNat_natCast,Int.toNat_natCast]
  exact ht _ _ (Nat.mod_lt _ (by omega)) (Nat.mod_lt _ (by omega)) h
 unfold allL
 rw[List.pairwise_flatMap]
 refine ⟨fun c _=>?_,?_⟩
 ·unfold letL
  rw[List.pairwise_flatMap]
  refine ⟨fun k hk=>?_,?_⟩
  ·have hk':k<L:=by simpa using hk
   by_cases e:(l.getD k 0).toNat=65+c
   ·rw[if_pos e]
    unfold colJ
    rw[List.pairwise_map]
    refine (range_pw _).imp ?_
    intro a b hab
    right
    show t (((k+a*L:Nat):Int).toNat % L)=t (((k+b*L:Nat):Int).toNat % L)∧((k+a*L:Nat):Int)<((k+b*L:Nat):Int)
    rw[Int.toNat_natCast,Int.toNat_natCast,mod_col hk',mod_col hk']
    have:=Nat.mul_lt_mul_of_pos_right hab (show 0<L by omega)
    exact ⟨rfl,by omega⟩
   ·rw[if_neg e];exact List.Pairwise.nil
  ·refine (range_pw L).imp_of_mem ?_
   intro k k' hk hk' hkk x hx y hy
   have hkL:k<L:=by simpa using hk
   have hkL':k'<L:=by simpa using hk'
   by_cases e:(l.getD k 0).toNat=65+c
   ·by_cases e':(l.getD k' 0).toNat=65+c
    ·rw[if_pos e] at hx
     rw[if_pos e'] at hy
     obtain ⟨q,_,rfl⟩:=List.mem_map.1 hx
     obtain ⟨q',_,rfl⟩:=List.mem_map.1 hy
     apply hkey
     rw[mod_col hkL,mod_col hkL']
     right
     show (((l.getD ((k:Int)).toNat 0).toNat:Nat):Int)=(((l.getD ((k':Int)).toNat 0).toNat:Nat):Int)∧(k:Int)<(k':Int)
     rw[Int.toNat_natCast,Int.toNat_natCast,e,e']
     exact ⟨rfl,by omega⟩
    ·rw[if_neg e'] at hy;cases hy
   ·rw[if_neg e] at hx;cases hx
 ·refine (range_pw C).imp ?_
  intro c c' hcc x hx y hy
  have h1:=letL_mem hL (Nat.le_refl L) hx
  have h2:=letL_mem hL (Nat.le_refl L) hy
  apply hkey
  left
  show (((l.getD (((x % L:Nat):Int)).toNat 0).toNat:Nat):Int)<(((l.getD (((y % L:Nat):Int)).toNat 0).toNat:Nat):Int)
  rw[Int.toNat_natCast,Int.toNat_natCast,h1.2.2,h2.2.2]
  omega
theorem allL_pw {l:List UInt8} {n L:Nat} {t:Nat→Int} (hL:1≤L) (hL2:L≤65536) (ht:Turns l L t) (C:Nat):(allL l n L C).Pairwise fun (x y:Nat)=>LL (turnK L t) (x:Int) (y:Int) :=
 allL_pw' hL (fun _ _ ha hb h=>turns_lt ht hL2 ha hb h) C
theorem col_list {l:List UInt8} {n L:Nat} {t d:Nat→Int} (hL:1≤L) (hL2:L≤65536) (hl:l.length=L) (hlet:Pl.Lets l) (ht:Turns l L t) (ho:Order n d) (hs:Srt (turnK L t) d 0 n):(allL l n L 26).length=n∧∀i,i<n→d i=(((allL l n L 26).getD i 0:Nat):Int):=by
 have h:=of_list (K:=turnK L t) (allL_pw (n:=n) hL hL2 ht 26) (fun x=>allL_mem hL hl hlet x)
 exact ⟨h.1,fun i hi=>srt_unique ho h.2.1 hs h.2.2 i hi⟩
end Go.Proofs.YtkohhdkkbaifoaaGreatDoor

/-
  The document's One: tableaux, rails and columns.
-/
namespace Go.Proofs.YtkohhdkkbaifoaaGreatDoor
open Go.RowKit PK Vg Sm

theorem tab_facts {s:Sp} {t:ByteArray} (hs:stE s=0) (hk:s.k=2) (ht:ckE t.data.toList=0):∃n:Nat,s.n=(n:Int)∧n=s.n.toNat∧lkE n s.key.data.toList t.data.toList=0∧lkAt n s.key.data.toList t.data.toList=0∧(1≤s.key.size∧s.key.size≤256)∧t.size≤65536∧Ls s.key.data.toList∧Ls t.data.toList:=by
 obtain ⟨⟨h1,h2⟩,h3,h4,h5⟩:=st_tab hs hk
 obtain ⟨h6,h7⟩:=ls_ck ht
 have hn:s.n=(s.n.toNat:Int):=by omega
 have hlk:lkE s.n s.key.data.toList t.data.toList=0:=by unfold lkE;rw[if_neg (by omega),if_neg (fun h=>h h3),if_neg (by omega)];exact ht
 have hc:=lk_cases s.n s.key.data.toList t.data.toList
 rw[hn] at hlk hc
 refine ⟨s.n.toNat,hn,rfl,hlk,?_,?_,?_,(ls_ck h3).1,h6⟩
 ·rcases hc with ⟨_,h,_⟩ | h
  ·exact h
  ·exact absurd hlk (by simpa using h)
 ·rw[Pl.size_len];exact ⟨h4,h5⟩
 ·rw[Pl.size_len];exact h7
theorem tab_w {s:Sp} {t:ByteArray} (hs:stE s=0) (hk:s.k=2) (ht:ckE t.data.toList=0) (W:World):Calls Tryz.prog 81 #[.int .i64 s.n,.string s.key,.string t] W fun e w'=>e=.returned (.tuple #[.string ⟨(writeL s.n.toNat s.key.data.toList t.data.toList).toArray⟩,.agg #[.int .i64 0,.int .i64 0]])∧Below W.heap.size W w':=by
 obtain ⟨n,h1,h2,h3,h4,h5,h6,h7,h8⟩:=tab_facts hs hk ht
 rw[←h2,h1]
 exact rwr_okX n s.key t h3 h4 h5 h6 h7 h8 W
theorem tab_r {s:Sp} {t:ByteArray} (hs:stE s=0) (hk:s.k=2) (ht:ckE t.data.toList=0) (W:World):Calls Tryz.prog 82 #[.int .i64 s.n,.string s.key,.string t] W fun e w'=>e=.returned (.tuple #[.string ⟨(readL s.n.toNat s.key.data.toList t.data.toList).toArray⟩,.agg #[.int .i64 0,.int .i64 0]])∧Below W.heap.size W w':=by
 obtain ⟨n,h1,h2,h3,h4,h5,h6,h7,h8⟩:=tab_facts hs hk ht
 rw[←h2,h1]
 by_cases k4:n=4
 ·exact rrd_ok4 n k4 s.key t h3 h4 h5 h6 h7 h8 W
 ·exact rrd_ok3 n k4 s.key t h3 h4 h5 h6 h7 h8 W
set_option maxRecDepth 100000 in
set_option maxHeartbeats 4000000 in
theorem rone_tab_f (v:Value) (s:Sp) (t:ByteArray) (w:World) (hv:SqAt w v s) (hs:stE s=0) (hk:s.k=2) (ht:ckE t.data.toList=0):Calls Tryz.prog 43 #[v,.string t,.bool false] w fun e w'=>e=.returned (.tuple #[.string ⟨(writeL s.n.toNat s.key.data.toList t.data.toList).toArray⟩,.int .i64 0])∧Below w.heap.size w w':=by
 have HTW:Hid _:=tab_w hs hk ht
 have HTR:Hid _:=tab_r hs hk ht
 obtain ⟨mv,x,y,z,rfl,M,XW,YN,ZN⟩:=hv
 obtain ⟨CS,hCS⟩:∃CS,CS=spA s.k s.n s.key mv x y z s.g.rf s.g.pl:=⟨_,rfl⟩
 rw[←hCS]
 obtain ⟨W,hW⟩:∃W,W=w.alloc (.cells CS 31):=⟨_,rfl⟩
 have hb1:Below w.heap.size w W:=by rw[hW];exact (Below.refl _ w).alloc (Nat.le_refl _) _
 have q1:RowAt W w.heap.size 31 CS:=by rw[hW];exact RowAt.new w _ _
 have c0:W.cell? ⟨w.heap.size,0,none⟩=some (.int .i64 s.k):=RowAt.cell q1 (by rw[hCS];exact spA_0 _ _ _ _ _ _ _ _ _)
 have c1:W.cell? ⟨w.heap.size,1,none⟩=some (.int .i64 s.n):=RowAt.cell q1 (by rw[hCS];exact spA_1 _ _ _ _ _ _ _ _ _)
 have c2:W.cell? ⟨w.heap.size,2,none⟩=some (.string s.key):=RowAt.cell q1 (by rw[hCS];exact spA_2 _ _ _ _ _ _ _ _ _)
 have c3:W.cell? ⟨w.heap.size,3,none⟩=some mv:=RowAt.cell q1 (by rw[hCS];exact spA_3 _ _ _ _ _ _ _ _ _)
 have r4:W.rangeAt w.heap.size 4 (mac x y z s.g.rf s.g.pl).toList:=row_mid q1 4 _ (fun i u hu=>by rw[hCS,spA_mac];exact hu)
 have HB:Hid (Below w.heap.size w W):=hb1
 rw[hk] at c0
 have HC:Hid (W.cell? ⟨w.heap.size,0,none⟩=some (.int .i64 2)∧W.cell? ⟨w.heap.size,1,none⟩=some (.int .i64 s.n)∧W.cell? ⟨w.heap.size,2,none⟩=some (.string s.key)∧w.heap.size<W.heap.size):=⟨c0,c1,c2,RowAt.lt q1⟩
 have HT1:Hid _:=HTW.out W
 generalize writeL s.n.toNat s.key.data.toList t.data.toList=WL at *
 generalize readL s.n.toNat s.key.data.toList t.data.toList=RL at *
 generalize s.n=n at *
 generalize s.key=key at *
 clear hs hk ht M XW YN ZN hCS q1 hb1 c3 r4 HTW
 go_enter Tryz.func43,Tryz.ntmps43
 go_upto_region 1 with fail
 rw[←hW]
 clear hW
 go_wp2_with fail
 refine Calls.mono HT1.out ?_
 rintro e V1 ⟨rfl,hb1⟩
 have hb01:=HB.out.trans (hb1.mono HB.out.size)
 obtain ⟨X1,hX1⟩:∃X1,X1=V1.alloc (.cells #[.int .i64 0,.int .i64 0] 35):=⟨_,rfl⟩
 have hx1:Below V1.heap.size V1 X1:=by rw[hX1];exact (Below.refl _ V1).alloc (Nat.le_refl _) _
 have hf1:RowAt X1 V1.heap.size 35 #[.int .i64 0,.int .i64 0]:=by rw[hX1];exact RowAt.new V1 _ _
 have k1:=RowAt.cell hf1 (i:=0) rfl
 have hbx1:=hb01.trans (hx1.mono hb01.size)
 have HBX1:Hid (Below w.heap.size w X1):=hbx1
 clear hb1 hb01 hx1 hf1 hbx1 HT1 c0 c1 c2 HTR
 go_upto_region 17 with fail
 rw[←hX1]
 clear hX1
 go_quiet (fail)
 go_wp2
 go_ret2
 exact ⟨rfl,HBX1.out.os,HBX1.out.tape,HBX1.out.output,HBX1.out.size,HBX1.out.block⟩
set_option maxRecDepth 100000 in
set_option maxHeartbeats 4000000 in
theorem rone_tab_b (v:Value) (s:Sp) (t:ByteArray) (w:World) (hv:SqAt w v s) (hs:stE s=0) (hk:s.k=2) (ht:ckE t.data.toList=0):Calls Tryz.prog 43 #[v,.string t,.bool true] w fun e w'=>e=.returned (.tuple #[.string ⟨(readL s.n.toNat s.key.data.toList t.data.toList).toArray⟩,.int .i64 0])∧Below w.heap.size w w':=by
 have HTW:Hid _:=tab_w hs hk ht
 have HTR:Hid _:=tab_r hs hk ht
 obtain ⟨mv,x,y,z,rfl,M,XW,YN,ZN⟩:=hv
 obtain ⟨CS,hCS⟩:∃CS,CS=spA s.k s.n s.key mv x y z s.g.rf s.g.pl:=⟨_,rfl⟩
 rw[←hCS]
 obtain ⟨W,hW⟩:∃W,W=w.alloc (.cells CS 31):=⟨_,rfl⟩
 have hb1:Below w.heap.size w W:=by rw[hW];exact (Below.refl _ w).alloc (Nat.le_refl _) _
 have q1:RowAt W w.heap.size 31 CS:=by rw[hW];exact RowAt.new w _ _
 have c0:W.cell? ⟨w.heap.size,0,none⟩=some (.int .i64 s.k):=RowAt.cell q1 (by rw[hCS];exact spA_0 _ _ _ _ _ _ _ _ _)
 have c1:W.cell? ⟨w.heap.size,1,none⟩=some (.int .i64 s.n):=RowAt.cell q1 (by rw[hCS];exact spA_1 _ _ _ _ _ _ _ _ _)
 have c2:W.cell? ⟨w.heap.size,2,none⟩=some (.string s.key):=RowAt.cell q1 (by rw[hCS];exact spA_2 _ _ _ _ _ _ _ _ _)
 have c3:W.cell? ⟨w.heap.size,3,none⟩=some mv:=RowAt.cell q1 (by rw[hCS];exact spA_3 _ _ _ _ _ _ _ _ _)
 have r4:W.rangeAt w.heap.size 4 (mac x y z s.g.rf s.g.pl).toList:=row_mid q1 4 _ (fun i u hu=>by rw[hCS,spA_mac];exact hu)
 have HB:Hid (Below w.heap.size w W):=hb1
 rw[hk] at c0
 have HC:Hid (W.cell? ⟨w.heap.size,0,none⟩=some (.int .i64 2)∧W.cell? ⟨w.heap.size,1,none⟩=some (.int .i64 s.n)∧W.cell? ⟨w.heap.size,2,none⟩=some (.string s.key)∧w.heap.size<W.heap.size):=⟨c0,c1,c2,RowAt.lt q1⟩
 have HT1:Hid _:=HTW.out W
 generalize writeL s.n.toNat s.key.data.toList t.data.toList=WL at *
 generalize readL s.n.toNat s.key.data.toList t.data.toList=RL at *
 generalize s.n=n at *
 generalize s.key=key at *
 clear hs hk ht M XW YN ZN hCS q1 hb1 c3 r4 HTW
 go_enter Tryz.func43,Tryz.ntmps43
 go_upto_region 1 with fail
 rw[←hW]
 clear hW
 go_wp2_with fail
 refine Calls.mono HT1.out ?_
 rintro e V1 ⟨rfl,hb1⟩
 have hb01:=HB.out.trans (hb1.mono HB.out.size)
 obtain ⟨X1,hX1⟩:∃X1,X1=V1.alloc (.cells #[.int .i64 0,.int .i64 0] 35):=⟨_,rfl⟩
 have hx1:Below V1.heap.size V1 X1:=by rw[hX1];exact (Below.refl _ V1).alloc (Nat.le_refl _) _
 have hf1:RowAt X1 V1.heap.size 35 #[.int .i64 0,.int .i64 0]:=by rw[hX1];exact RowAt.new V1 _ _
 have k1:=RowAt.cell hf1 (i:=0) rfl
 have hbx1:=hb01.trans (hx1.mono hb01.size)
 have HBX1:Hid (Below w.heap.size w X1):=hbx1
 have hWX:Below W.heap.size W X1:=hb1.trans (hx1.mono hb1.size)
 have d1:X1.cell? ⟨w.heap.size,1,none⟩=some (.int .i64 n):=(hWX.cell HC.out.2.2.2).trans HC.out.2.1
 have d2:X1.cell? ⟨w.heap.size,2,none⟩=some (.string key):=(hWX.cell HC.out.2.2.2).trans HC.out.2.2.1
 have HT2:Hid _:=HTR.out X1
 have HF1:Hid (RowAt X1 V1.heap.size 35 #[.int .i64 0,.int .i64 0]):=hf1
 have HLO:Hid (w.heap.size≤V1.heap.size):=hb01.size
 clear hb1 hb01 hx1 hf1 hbx1 HT1 c0 c1 c2 HTR hWX
 go_upto_region 15 with fail
 rw[←hX1]
 clear hX1
 go_wp2_with fail
 refine Calls.mono HT2.out ?_
 rintro e V2 ⟨rfl,hb2⟩
 have hb02:=HBX1.out.trans (hb2.mono HBX1.out.size)
 have hf2:=RowAt.below HF1.out hb2 (RowAt.lt HF1.out)
 obtain ⟨X2,hX2⟩:∃X2,X2=(V2.setCell ⟨V1.heap.size,0,none⟩ (.int .i64 0)).setCell ⟨V1.heap.size,1,none⟩ (.int .i64 0):=⟨_,rfl⟩
 have hf2x:RowAt X2 V1.heap.size 35 #[.int .i64 0,.int .i64 0]:=by rw[hX2];exact fault_set hf2 _ _
 have HBX2:Hid (Below w.heap.size w X2):=by rw[Hid,hX2];exact (hb02.setCell (p:=⟨V1.heap.size,0,none⟩) HLO.out _).setCell (p:=⟨V1.heap.size,1,none⟩) HLO.out _
 have k2:=RowAt.cell hf2x (i:=0) rfl
 have g0:=RowAt.cell hf2 (i:=0) rfl
 have g1:=RowAt.cell hf2 (i:=1) rfl
 have g2:=RowAt.frozen hf2 0
 have g3:=RowAt.frozen hf2 1
 clear hb2 hb02 hf2 hf2x HT2 d1 d2 k1 HF1
 go_upto_region 17 with fail
 rw[←hX2]
 clear hX2 g0 g1 g2 g3
 go_quiet (fail)
 go_wp2
 go_ret2
 exact ⟨rfl,HBX2.out.os,HBX2.out.tape,HBX2.out.output,HBX2.out.size,HBX2.out.block⟩
end Go.Proofs.YtkohhdkkbaifoaaGreatDoor
