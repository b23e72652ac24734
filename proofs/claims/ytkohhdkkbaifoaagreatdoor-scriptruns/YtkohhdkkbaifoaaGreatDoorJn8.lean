/-
  Several texts, joined: VBad, VRd, VAlw, SMath.
-/
import Derived.Test.YtkohhdkkbaifoaaGreatDoorJn7
import Derived.Test.YtkohhdkkbaifoaaGreatDoorPz
/-
  Contracts of tableau.Write and tableau.Read where something is wrong; what tableFor answers.
-/
namespace Go.Proofs.YtkohhdkkbaifoaaGreatDoor
open Go.RowKit PK Vg

theorem lk_cases (k:Int) (key t:List UInt8):(lkE k key t=0∧lkAt k key t=0∧(1≤k∧k≤4)∧(1≤key.length∧key.length≤256)∧(ckE key=0∧ckAt key=0∧Ls key)∧(ckE t=0∧ckAt t=0∧Ls t∧t.length≤65536))∨(lkE k key t != 0)=true:=by
 unfold lkE lkAt
 by_cases h1:k<1∨4<k
 ·rw[if_pos h1];exact .inr rfl
 ·rw[if_neg h1,if_neg h1]
  rcases ck_cases key with ⟨a1,a2,a3,a4⟩ | a1
  ·have a0:¬(ckE key≠0):=fun h=>h a1
   rw[if_neg a0,if_neg a0]
   by_cases h2:key.length<1∨256<key.length
   ·rw[if_pos h2];exact .inr rfl
   ·rw[if_neg h2,if_neg h2]
    rcases ck_cases t with ⟨b1,b2,b3,b4⟩ | b1
    ·exact .inl ⟨b1,b2,by omega,by omega,⟨a1,a2,ls_ofV a4⟩,⟨b1,b2,ls_ofV b4,b3⟩⟩
    ·exact .inr b1
  ·have a2:ckE key≠0:=by simpa using a1
   rw[if_pos a2];exact .inr a1
theorem tfor_bad (k:Int) (key t:ByteArray) (hE:(lkE k key.data.toList t.data.toList != 0)=true) (w:World):Calls Tryz.prog 118 #[.int .i64 k,.string key,.string t] w fun e w'=>e=.returned (.tuple #[.agg tbl0,.agg #[.int .i64 (lkE k key.data.toList t.data.toList),.int .i64 (lkAt k key.data.toList t.data.toList)]])∧Below w.heap.size w w':=by
 have hks:=Pl.size_len key
 unfold lkE lkAt at *
 by_cases h1:k<1∨4<k
 ·rw[if_pos h1,if_pos h1];exact tfor_kind k h1 key t w
 ·obtain ⟨n,rfl⟩:∃n:Nat,k=n:=⟨k.toNat,by omega⟩
  have hn:1≤n∧n≤4:=by omega
  rw[if_neg h1] at hE
  rw[if_neg h1,if_neg h1]
  rcases ck_cases key.data.toList with ⟨a1,a2,a3,a4⟩ | a1
  ·have a0:¬(ckE key.data.toList≠0):=fun h=>h a1
   rw[if_neg a0] at hE
   rw[if_neg a0,if_neg a0]
   by_cases h2:key.data.toList.length<1∨256<key.data.toList.length
   ·rw[if_pos h2,if_pos h2];exact tfor_many n hn key t a1 a2 (by omega) w
   ·rw[if_neg h2] at hE
    rw[if_neg h2,if_neg h2]
    exact tfor_text n hn key t a1 a2 (by omega) hE w
  ·have a2:ckE key.data.toList≠0:=by simpa using a1
   rw[if_pos a2,if_pos a2];exact tfor_key n hn key t a1 w
set_option maxRecDepth 100000 in
set_option maxHeartbeats 2000000 in
theorem vwr_bad (k:Int) (key t:ByteArray) (hE:(lkE k key.data.toList t.data.toList != 0)=true) (w:World):Calls Tryz.prog 74 #[.int .i64 k,.string key,.string t] w fun e w'=>e=.returned (.tuple #[.string ⟨#[]⟩,.agg #[.int .i64 (lkE k key.data.toList t.data.toList),.int .i64 (lkAt k key.data.toList t.data.toList)]])∧Below w.heap.size w w':=by
 have HT:=(show Hid (∀W,Calls Tryz.prog 118 #[.int .i64 k,.string key,.string t] W fun e w'=>e=.returned (.tuple #[.agg #[.nilFunc,.nilFunc,.nilFunc,.bool false],.agg #[.int .i64 (lkE k key.data.toList t.data.toList),.int .i64 (lkAt k key.data.toList t.data.toList)]])∧Below W.heap.size W w') from fun W=>tfor_bad k key t hE W)
 generalize lkE k key.data.toList t.data.toList=E at *
 generalize lkAt k key.data.toList t.data.toList=A at *
 go_enter Tryz.func74,Tryz.ntmps74
 go_wp2_with fail
 refine (HT.out _).mono ?_
 rintro e W1 ⟨rfl,hb⟩
 have hb1:Below (w.heap.size+1) (w.alloc (.cells #[.int .i64 0,.int .i64 0] 35)) W1:=by simpa using hb
 have hz:=hb1.size
 simp at hz
 have hb2:=(hb1.alloc (by omega) (.cells #[.nilFunc,.nilFunc,.nilFunc,.bool false] 147)).alloc (by simp;omega) (.cells #[.int .i64 E,.int .i64 A] 35)
 clear hb
 obtain ⟨c0,c1,f0,f1,hsz⟩:=Kit.two_cells hb2
 clear HT hb1
 go_wp2_with fail
 go_region
 all_goals (try go_wp2)
 have q:=Kit.read_two (.int .i64 E) (.int .i64 A) c0 c1
 refine bodyPost_ret (v:=.tuple #[.string ⟨#[]⟩,.agg #[.int .i64 E,.int .i64 A]]) (by simp[results,Tryz.results74,go_sem,q.1,q.2]) rfl ⟨rfl,?_⟩
 exact (Kit.below_two hb2 _ _).drew
set_option maxRecDepth 100000 in
set_option maxHeartbeats 2000000 in
theorem vrd_bad (k:Int) (key t:ByteArray) (hE:(lkE k key.data.toList t.data.toList != 0)=true) (w:World):Calls Tryz.prog 91 #[.int .i64 k,.string key,.string t] w fun e w'=>e=.returned (.tuple #[.string ⟨#[]⟩,.agg #[.int .i64 (lkE k key.data.toList t.data.toList),.int .i64 (lkAt k key.data.toList t.data.toList)]])∧Below w.heap.size w w':=by
 have HT:=(show Hid (∀W,Calls Tryz.prog 118 #[.int .i64 k,.string key,.string t] W fun e w'=>e=.returned (.tuple #[.agg #[.nilFunc,.nilFunc,.nilFunc,.bool false],.agg #[.int .i64 (lkE k key.data.toList t.data.toList),.int .i64 (lkAt k key.data.toList t.data.toList)]])∧Below W.heap.size W w') from fun W=>tfor_bad k key t hE W)
 generalize lkE k key.data.toList t.data.toList=E at *
 generalize lkAt k key.data.toList t.data.toList=A at *
 go_enter Tryz.func91,Tryz.ntmps91
 go_wp2_with fail
 refine (HT.out _).mono ?_
 rintro e W1 ⟨rfl,hb⟩
 have hb1:Below (w.heap.size+1) (w.alloc (.cells #[.int .i64 0,.int .i64 0] 35)) W1:=by simpa using hb
 have hz:=hb1.size
 simp at hz
 have hb2:=(hb1.alloc (by omega) (.cells #[.nilFunc,.nilFunc,.nilFunc,.bool false] 147)).alloc (by simp;omega) (.cells #[.int .i64 E,.int .i64 A] 35)
 clear hb
 obtain ⟨c0,c1,f0,f1,hsz⟩:=Kit.two_cells hb2
 clear HT hb1
 go_wp2_with fail
 go_region
 all_goals (try go_wp2)
 have q:=Kit.read_two (.int .i64 E) (.int .i64 A) c0 c1
 refine bodyPost_ret (v:=.tuple #[.string ⟨#[]⟩,.agg #[.int .i64 E,.int .i64 A]]) (by simp[results,Tryz.results91,go_sem,q.1,q.2]) rfl ⟨rfl,?_⟩
 exact (Kit.below_two hb2 _ _).drew
end Go.Proofs.YtkohhdkkbaifoaaGreatDoor

/-
  Contract of tableau.Read.
-/
namespace Go.Proofs.YtkohhdkkbaifoaaGreatDoor
open Go.RowKit PK Vg

theorem keyAt_rd (k:Nat) (B:Bool) (hB:B=decide (k=4)) (x0 x1 x2:Value) (key t:ByteArray) (h0:1≤key.size) (hkl:Ls key.data.toList) (m:Nat) (hm:m<t.size) (h6:m≤65536) (g cp:Nat) (W:World) (hp:RowAt W g 5 (bytsV t.size (upToV (rdTo k key.data.toList t.data.toList m)))) :
  Calls Tryz.prog 121 #[.agg #[x0,x1,x2,.bool B],.string key,.slice (some ⟨g,0,none⟩) t.size cp,.int .i64 (m:Nat)] W fun e w'=>e=.returned (.int .i64 (kat k key.data.toList (rdTo k key.data.toList t.data.toList m) m:Nat))∧Below W.heap.size W w':=by
 have hks:=Pl.size_len key
 unfold kat
 by_cases h:k=4∧key.data.toList.length≤m
 ·rw[if_pos h]
  have hB1:B=true:=by rw[hB];simp[h.1]
  subst hB1
  have:=keyAt_plain x0 x1 x2 key m (by omega) h6 g t.size cp (by omega) ((rdTo k key.data.toList t.data.toList m).getD (m-key.size) 0) ((rdTo_ls k key.data.toList t.data.toList m).at (by rw[rdTo_length];omega)) W (hp.cell (byts_getV _ (by omega)))
  rw[←hks];exact this
 ·rw[if_neg h]
  have:=keyAt_key x0 x1 x2 B (.slice (some ⟨g,0,none⟩) t.size cp) key m (by omega) h6 (by
   by_cases h4:k=4
   ·exact .inr (by have:¬key.data.toList.length≤m:=fun e=>h ⟨h4,e⟩;omega)
   ·exact .inl (by rw[hB];simp[h4])) hkl W
  rw[←hks];exact this
theorem keepR {W W' w:World} {b g7:Nat} {T V:TypeId} {c e:Array Value} (hS:RowAt W b T c∧Below w.heap.size w W∧RowAt W g7 V e) (hb:Below W.heap.size W W') :
  RowAt W' b T c∧Below w.heap.size w W'∧RowAt W' g7 V e :=
 ⟨hS.1.below hb hS.1.lt,hS.2.1.trans (hb.mono hS.2.1.size),hS.2.2.below hb hS.2.2.lt⟩
theorem setR {W w:World} {b g7 go m:Nat} {T V:TypeId} {c e:Array Value} (hS:RowAt W b T c∧Below w.heap.size w W∧RowAt W g7 V e) (v:Value) (h1:b≠go) (h3:g7≠go) (h4:w.heap.size≤go) :
  RowAt (W.setCell ⟨go,m,none⟩ v) b T c∧Below w.heap.size w (W.setCell ⟨go,m,none⟩ v)∧RowAt (W.setCell ⟨go,m,none⟩ v) g7 V e :=
 ⟨hS.1.setOther _ _ h1,hS.2.1.setCell (p:=⟨go,m,none⟩) h4 _,hS.2.2.setOther _ _ h3⟩
set_option maxRecDepth 100000 in
set_option maxHeartbeats 2000000 in
theorem vrd_ok (k:Nat) (h:1≤k∧k≤4) (key t:ByteArray) (hk:ckE key.data.toList=0) (hk2:ckAt key.data.toList=0) (hn:1≤key.size∧key.size≤256) (ht:ckE t.data.toList=0) (ht2:ckAt t.data.toList=0) (hs:t.size≤65536) (hkl:Ls key.data.toList) (htl:Ls t.data.toList) (w:World) :
  Calls Tryz.prog 91 #[.int .i64 k,.string key,.string t] w fun e w'=>e=.returned (.tuple #[.string ⟨(readL k key.data.toList t.data.toList).toArray⟩,.agg #[.int .i64 0,.int .i64 0]])∧Below w.heap.size w w':=by
 have HT:=(show Hid (∀W,Calls Tryz.prog 118 #[.int .i64 k,.string key,.string t] W fun e w'=>e=.returned (.tuple #[.agg #[.func (.func (fn0 k)) #[] #[],.func (.func (fn1 k)) #[] #[],.func (.func (fn2 k)) #[] #[],.bool (decide (k=4))],.agg #[.int .i64 0,.int .i64 0]])∧Below W.heap.size W w') from fun W=>tfor_ok k h key t hk hk2 hn ht ht2 W)
 have HF:=(show Hid (∀a b,a<26→b<26→∀W,Calls Tryz.prog (fn1 k) #[.int .i64 (a:Nat),.int .i64 (b:Nat)] W fun e w'=>e=.returned (.int .i64 (back k a b:Nat))∧W=w') from fun a b ha hb W=>fn1_any k a b ha hb W)
 have hent:=ent1 k
 have hmk:=run_make_row' (P:=Tryz.prog) 87 5 (.int .u8 0) 1 Tryz.underlying87 v_info_byteV rfl .i64 .i64 t.size (by omega) (by omega)
 rw[v_made_tabV,byts_newV] at hmk
 generalize fn0 k=F0 at *
 generalize fn1 k=F1 at *
 generalize fn2 k=F2 at *
 generalize hB:decide (k=4)=B at HT
 clear h hk hk2 ht ht2
 go_enter Tryz.func91,Tryz.ntmps91
 go_wp2_with fail
 refine (HT.out _).mono ?_
 rintro e W1 ⟨rfl,hb1⟩
 have hb0:Below w.heap.size w W1:=((Below.refl _ w).alloc (Nat.le_refl _) _).trans (hb1.mono (by simp))
 have hr7:RowAt W1 w.heap.size 35 #[.int .i64 0,.int .i64 0]:=(RowAt.new w _ _).below hb1 (by simp)
 have hz:w.heap.size<W1.heap.size:=hr7.lt
 clear hb1 HT
 go_wp2_with fail
 have q0:=((hr7.alloc (.cells #[.func (.func F0) #[] #[],.func (.func F1) #[] #[],.func (.func F2) #[] #[],.bool B] 147)).alloc (.cells #[.int .i64 0,.int .i64 0] 35)).alloc (.cells (bytsV t.size fun _=>0) 5)
 have q1:=((RowAt.new W1 147 #[.func (.func F0) #[] #[],.func (.func F1) #[] #[],.func (.func F2) #[] #[],.bool B]).alloc (.cells #[.int .i64 0,.int .i64 0] 35)).alloc (.cells (bytsV t.size fun _=>0) 5)
 have q2:=RowAt.new ((W1.alloc (.cells #[.func (.func F0) #[] #[],.func (.func F1) #[] #[],.func (.func F2) #[] #[],.bool B] 147)).alloc (.cells #[.int .i64 0,.int .i64 0] 35)) 5 (bytsV t.size fun _=>0)
 have q3:=((hb0.alloc (by omega) (.cells #[.func (.func F0) #[] #[],.func (.func F1) #[] #[],.func (.func F2) #[] #[],.bool B] 147)).alloc (by simp;omega) (.cells #[.int .i64 0,.int .i64 0] 35)).alloc (by simp;omega) (.cells (bytsV t.size fun _=>0) 5)
 simp only[World.size_alloc] at q2
 obtain ⟨go,hgo⟩:∃go,go=W1.heap.size+1+1:=⟨_,rfl⟩
 rw[←hgo] at q2 ⊢
 have HGO:Hid (go=W1.heap.size+1+1):=hgo
 have hgo2:W1.heap.size+1<go:=by omega
 clear hgo hr7 hb0 hmk
 go_loopw [28] (fun i W=>∃m:Nat,m≤t.size∧i=.int .i64 m∧RowAt W W1.heap.size 147 #[.func (.func F0) #[] #[],.func (.func F1) #[] #[],.func (.func F2) #[] #[],.bool B]∧RowAt W go 5 (bytsV t.size (upToV (rdTo k key.data.toList t.data.toList m)))∧Below w.heap.size w W∧RowAt W w.heap.size 35 #[.int .i64 0,.int .i64 0]) (fun i _=>((t.size:Int)-intOf i).toNat)
 case atStart=>exact ⟨0,by omega,rfl,q1,by rw[show rdTo k key.data.toList t.data.toList 0=[] from rfl,upTo_nilV];exact q2,q3,q0⟩
 case round =>
  clear q0 q1 q2 q3
  obtain ⟨m,hm,rfl,hrt,hro,hb,hr7⟩:=hrel
  by_cases hlt:m<t.size
  ·have hlt2:(m:Int)<(t.size:Int):=by omega
   have hta:=htl.at (getD_sizeV hlt)
   have hna:=num_lt hta
   have hnb:kat k key.data.toList (rdTo k key.data.toList t.data.toList m) m<26:=kat_lt hkl (rdTo_ls _ _ _ _) (by have:=Pl.size_len key;omega) (fun _=>by rw[rdTo_length];have:=Pl.size_len key;omega)
   have HN:=(show Hid (∀W,Calls Tryz.prog 120 #[.int .u8 (t.data.toList.getD m 0).toNat] W fun e w'=>e=.returned (.int .i64 (Vg.num (t.data.toList.getD m 0):Nat))∧W=w') from fun W=>number_anyV _ hta W)
   have HL:=(show Hid (∀W,Calls Tryz.prog 119 #[.int .i64 (back k (Vg.num (t.data.toList.getD m 0)) (kat k key.data.toList (rdTo k key.data.toList t.data.toList m) m):Nat)] W fun e w'=>e=.returned (.int .u8 (ltr (back k (Vg.num (t.data.toList.getD m 0)) (kat k key.data.toList (rdTo k key.data.toList t.data.toList m) m))).toNat)∧W=w') from fun W=>letter_anyV _ (back_lt _ _ _) W)
   have HST:=(show Hid (rdTo k key.data.toList t.data.toList (m+1)=rdTo k key.data.toList t.data.toList m++[ltr (back k (Vg.num (t.data.toList.getD m 0)) (kat k key.data.toList (rdTo k key.data.toList t.data.toList m) m))]) from rfl)
   have HK:=(show Hid (∀W,RowAt W go 5 (bytsV t.size (upToV (rdTo k key.data.toList t.data.toList m)))→Calls Tryz.prog 121 #[.agg #[.func (.func F0) #[] #[],.func (.func F1) #[] #[],.func (.func F2) #[] #[],.bool B],.string key,.slice (some ⟨go,0,none⟩) t.size t.size,.int .i64 (m:Nat)] W fun e w'=>e=.returned (.int .i64 (kat k key.data.toList (rdTo k key.data.toList t.data.toList m) m:Nat))∧Below W.heap.size W w') from fun W hW=>keyAt_rd k B hB.symm _ _ _ key t hn.1 hkl m hlt (by omega) go t.size W hW)
   rw[getD_byte t m hlt] at HN HL HST hna
   go_wp2_with fail
   refine wp_region_noPanic ?_
   refine wp_region_held_drew (S:=fun W=>RowAt W W1.heap.size 147 #[.func (.func F0) #[] #[],.func (.func F1) #[] #[],.func (.func F2) #[] #[],.bool B]∧Below w.heap.size w W∧RowAt W w.heap.size 35 #[.int .i64 0,.int .i64 0]) (by kernel_rfl) ⟨hrt,hb.drew,hr7⟩ (fun hS=>?_)
   refine vtk 0 31 (.slice (some ⟨go,0,none⟩) t.size t.size) rfl (fun W hW=>by clear hS hW;go_simp) hS ?_
   simp only[zsA,zsB,zsC]
   refine vtk 1 32 (.int .i64 (m:Nat)) rfl (fun W hW=>by clear hS hW;go_simp) hS ?_
   simp only[zsA,zsB,zsC]
   refine vtk 2 33 (.pointer (some ⟨W1.heap.size,1,none⟩)) rfl (fun W hW=>by clear hS hW;go_simp) hS ?_
   simp only[zsA,zsB,zsC]
   refine vtk 3 34 (.func (.func F1) #[] #[]) rfl (fun W hW=>by have u0:=hW.1.cell (i:=0) rfl;have u1:=hW.1.cell (i:=1) rfl;have u2:=hW.1.cell (i:=2) rfl;have u3:=hW.1.cell (i:=3) rfl;clear hS hW;go_simp) hS ?_
   simp only[zsA,zsB,zsC]
   refine vtk 4 35 (.string t) rfl (fun W hW=>by clear hS hW;go_simp) hS ?_
   simp only[zsA,zsB,zsC]
   refine vtk 5 36 (.int .i64 (m:Nat)) rfl (fun W hW=>by clear hS hW;go_simp) hS ?_
   simp only[zsA,zsB,zsC]
   refine vtk 6 37 (.int .u8 (t[m].toNat:Nat)) rfl (fun W hW=>by clear hS hW;go_simp) hS ?_
   simp only[zsA,zsB,zsC]
   refine vtk 8 39 (.agg #[.func (.func F0) #[] #[],.func (.func F1) #[] #[],.func (.func F2) #[] #[],.bool B]) rfl (fun W hW=>by have u0:=hW.1.cell (i:=0) rfl;have u1:=hW.1.cell (i:=1) rfl;have u2:=hW.1.cell (i:=2) rfl;have u3:=hW.1.cell (i:=3) rfl;clear hS hW;go_simp) hS ?_
   simp only[zsA,zsB,zsC]
   refine vtk 9 40 (.string key) rfl (fun W hW=>by clear hS hW;go_simp) hS ?_
   simp only[zsA,zsB,zsC]
   refine vtk 10 41 (.slice (some ⟨go,0,none⟩) t.size t.size) rfl (fun W hW=>by clear hS hW;go_simp) hS ?_
   simp only[zsA,zsB,zsC]
   refine vtk 11 42 (.int .i64 (m:Nat)) rfl (fun W hW=>by clear hS hW;go_simp) hS ?_
   simp only[zsA,zsB,zsC]
   refine rd1 7 rfl (fun K hK=>?_)
   go_simp
   refine Calls.mono (HN.out _) ?_
   rintro e Y ⟨rfl,rfl⟩
   refine hK.out _ _ (hS) (fun hS1=>?_)
   clear hK hS K
   have hS:=hS1
   clear hS1
   refine rd1 12 rfl (fun K hK=>?_)
   go_simp
   refine Calls.mono (HK.out _ hro.drew) ?_
   rintro e Y ⟨rfl,hbY⟩
   have hroY:=hro.drew.below hbY hro.drew.lt
   refine hK.out _ _ (keepR hS hbY) (fun hS1=>?_)
   clear hK hS K
   have hS:=hS1
   clear hS1
   refine rd1 13 rfl (fun K hK=>?_)
   go_simp
   refine Calls.mono (HF.out _ _ hna hnb _) ?_
   rintro e Y ⟨rfl,rfl⟩
   refine hK.out _ _ (hS) (fun hS1=>?_)
   clear hK hS K
   have hS:=hS1
   clear hS1
   refine rd1 14 rfl (fun K hK=>?_)
   go_simp
   refine Calls.mono (HL.out _) ?_
   rintro e Y ⟨rfl,rfl⟩
   refine hK.out _ _ (hS) (fun hS1=>?_)
   clear hK hS K
   have hS:=hS1
   clear hS1
   refine vtk 15 46 (.pointer (some ⟨go,m,none⟩)) rfl (fun W hW=>by clear hS hW;go_simp) hS ?_
   simp only[zsA,zsB,zsC]
   have hrow:=row_nextV hroY (ltr (back k (Vg.num t[m]) (kat k key.data.toList (rdTo k key.data.toList t.data.toList m) m)))
   rw[rdTo_length,←HST.out] at hrow
   have hcm:=hroY.cell (byts_getV (upToV (rdTo k key.data.toList t.data.toList m)) hlt)
   have hfm:=hroY.frozen m
   generalize ltr (back k (Vg.num t[m]) (kat k key.data.toList (rdTo k key.data.toList t.data.toList m) m))=z at *
   refine rd1 16 rfl (fun K hK=>?_)
   go_simp
   refine hK.out _ _ (setR hS (.int .u8 z.toNat) (by omega) (by omega) (by omega)) (fun hS1=>?_)
   clear hK hS K
   refine wpAnyH_done (by kernel_rfl) ?_ _
   refine NoPanic.normal ?_
   go_wp2_with fail
   go_roundw
   case rel=>exact ⟨m+1,by omega,by go_num,hS1.1,hrow,hS1.2.1,hS1.2.2⟩
   case measure=>simp[intOf];omega
  ·obtain rfl:m=t.size:=by omega
   have hl2:(rdTo k key.data.toList t.data.toList t.size).length=t.size:=rdTo_length _ _ _ _
   have hro2:RowAt wr go 5 (Lib.byteCells (rdTo k key.data.toList t.data.toList t.size)).toArray:=by
    rw[←byts_allV,hl2];exact hro
   have HW:Hid (rdTo k key.data.toList t.data.toList t.size=readL k key.data.toList t.data.toList):=by rw[Hid,Pl.size_len];rfl
   have hst:=run_string_of_rowV (P:=Tryz.prog) wr 87 9 5 Tryz.underlying87 Tryz.underlying5 Tryz.underlying9 (cap:=t.size) hl2 hro2
   rw[HW.out] at hst
   have c0:=hr7.cell (i:=0) rfl
   have c1:=hr7.cell (i:=1) rfl
   have f0:=hr7.frozen 0
   have f1:=hr7.frozen 1
   obtain ⟨T,hT⟩:∃T,T=(⟨(readL k key.data.toList t.data.toList).toArray⟩:ByteArray):=⟨_,rfl⟩
   rw[←hT] at hst
   have HT:Hid (T=(⟨(readL k key.data.toList t.data.toList).toArray⟩:ByteArray)):=hT
   clear hT hro2 hro hrt HW hl2
   go_wp2
   have q:=Kit.read_two (.int .i64 0) (.int .i64 0) c0 c1
   refine bodyPost_ret (v:=.tuple #[.string T,.agg #[.int .i64 0,.int .i64 0]]) (by simp[results,Tryz.results91,go_sem,q.1,q.2]) rfl ⟨by rw[HT.out],?_⟩
   exact (hb.setCell (p:=⟨w.heap.size,0,none⟩) (Nat.le_refl _) _).setCell (p:=⟨w.heap.size,1,none⟩) (Nat.le_refl _) _
end Go.Proofs.YtkohhdkkbaifoaaGreatDoor

/-
  What Write, Read and Key answer, whatever they are asked.
-/
namespace Go.Proofs.YtkohhdkkbaifoaaGreatDoor
open Go.RowKit PK Vg

def wrS (k:Int) (key t:List UInt8):List UInt8:=if lkE k key t=0 then writeL k.toNat key t else []
def rdS (k:Int) (key t:List UInt8):List UInt8:=if lkE k key t=0 then readL k.toNat key t else []
theorem vwrite_any (k:Int) (key t:ByteArray) (w:World):Calls Tryz.prog 74 #[.int .i64 k,.string key,.string t] w fun e w'=>e=.returned (.tuple #[.string ⟨(wrS k key.data.toList t.data.toList).toArray⟩,.agg #[.int .i64 (lkE k key.data.toList t.data.toList),.int .i64 (lkAt k key.data.toList t.data.toList)]])∧Below w.heap.size w w':=by
 have h1:=Pl.size_len key
 have h2:=Pl.size_len t
 unfold wrS
 rcases lk_cases k key.data.toList t.data.toList with ⟨e1,e2,hk,hn,ha,hb⟩ | e1
 ·rw[if_pos e1,e1,e2]
  obtain ⟨n,rfl⟩:∃n:Nat,k=n:=⟨k.toNat,by omega⟩
  rw[Int.toNat_natCast]
  exact vwr_ok n (by omega) key t ha.1 ha.2.1 (by omega) hb.1 hb.2.1 (by omega) ha.2.2 hb.2.2.1 w
 ·rw[if_neg (by simpa using e1)]
  exact vwr_bad k key t e1 w
theorem vread_any (k:Int) (key t:ByteArray) (w:World):Calls Tryz.prog 91 #[.int .i64 k,.string key,.string t] w fun e w'=>e=.returned (.tuple #[.string ⟨(rdS k key.data.toList t.data.toList).toArray⟩,.agg #[.int .i64 (lkE k key.data.toList t.data.toList),.int .i64 (lkAt k key.data.toList t.data.toList)]])∧Below w.heap.size w w':=by
 have h1:=Pl.size_len key
 have h2:=Pl.size_len t
 unfold rdS
 rcases lk_cases k key.data.toList t.data.toList with ⟨e1,e2,hk,hn,ha,hb⟩ | e1
 ·rw[if_pos e1,e1,e2]
  obtain ⟨n,rfl⟩:∃n:Nat,k=n:=⟨k.toNat,by omega⟩
  rw[Int.toNat_natCast]
  exact vrd_ok n (by omega) key t ha.1 ha.2.1 (by omega) hb.1 hb.2.1 (by omega) ha.2.2 hb.2.2.1 w
 ·rw[if_neg (by simpa using e1)]
  exact vrd_bad k key t e1 w
end Go.Proofs.YtkohhdkkbaifoaaGreatDoor

/-
  Plain mathematics of no program: rows of numbers that are moved about, turned round a place, and sorted by keys, those of the same key by themselves.
-/
namespace Go.Proofs.YtkohhdkkbaifoaaGreatDoor.Sm

def LL (K:Int→Int) (x y:Int):Prop:=K x<K y∨(K x=K y∧x<y)
def Srt (K:Int→Int) (d:Nat→Int) (a b:Nat):Prop:=∀p q,a≤p→p<q→q<b→LL K (d p) (d q)
def Stab (K:Int→Int) (n:Nat) (d:Nat→Int):Prop:=∀p q,p<q→q<n→K (d p)=K (d q)→d p<d q
def Mv (a b:Nat) (d d':Nat→Int):Prop :=
 ∃p r:Nat→Nat,(∀i,r (p i)=i)∧(∀i,p (r i)=i)∧(∀i,d' i=d (p i))∧∀i,¬(a≤i∧i<b)→p i=i
theorem Mv.refl (a b:Nat) (d:Nat→Int):Mv a b d d:=⟨id,id,fun _=>rfl,fun _=>rfl,fun _=>rfl,fun _ _=>rfl⟩
theorem Mv.trans {a b:Nat} {d d' d'':Nat→Int} (h:Mv a b d d') (h':Mv a b d' d''):Mv a b d d'':=by
 obtain ⟨p,r,h1,h2,h3,h4⟩:=h
 obtain ⟨p',r',h1',h2',h3',h4'⟩:=h'
 refine ⟨fun i=>p (p' i),fun i=>r' (r i),fun i=>?_,fun i=>?_,fun i=>?_,fun i hi=>?_⟩
 ·show r' (r (p (p' i)))=i
  rw[h1,h1']
 ·show p (p' (r' (r i)))=i
  rw[h2',h2]
 ·rw[h3',h3]
 ·show p (p' i)=i
  rw[h4' i hi,h4 i hi]
theorem Mv.wide {a b a' b':Nat} {d d':Nat→Int} (h:Mv a b d d') (ha:a'≤a) (hb:b≤b'):Mv a' b' d d':=by
 obtain ⟨p,r,h1,h2,h3,h4⟩:=h
 exact ⟨p,r,h1,h2,h3,fun i hi=>h4 i (by omega)⟩
theorem Mv.out {a b:Nat} {d d':Nat→Int} (h:Mv a b d d') (i:Nat) (hi:¬(a≤i∧i<b)):d' i=d i:=by
 obtain ⟨p,r,h1,h2,h3,h4⟩:=h
 rw[h3,h4 i hi]
theorem Mv.mem {a b:Nat} {d d':Nat→Int} (h:Mv a b d d') (i:Nat) (hi:a≤i∧i<b):∃j,(a≤j∧j<b)∧d' i=d j:=by
 obtain ⟨p,r,h1,h2,h3,h4⟩:=h
 refine ⟨p i,?_,h3 i⟩
 apply Classical.byContradiction
 intro hn
 have e:=h4 (p i) hn
 have e2:p i=i:=by
  have:=congrArg r e
  rw[h1,h1] at this
  exact this
 rw[e2] at hn
 exact hn hi
def rotP (s m e:Nat) (i:Nat):Nat:=if s≤i∧i<e then (if i<s+(e-m) then i+(m-s) else i-(e-m)) else i
def rotF (s m e:Nat) (d:Nat→Int):Nat→Int:=fun i=>d (rotP s m e i)
theorem rotP_back (s m e:Nat) (h:s≤m) (h':m≤e) (i:Nat):rotP s (s+(e-m)) e (rotP s m e i)=i:=by
 unfold rotP
 by_cases h1:s≤i∧i<e
 ·rw[if_pos h1]
  by_cases h2:i<s+(e-m)
  ·rw[if_pos h2,if_pos (by omega),if_neg (by omega)];omega
  ·rw[if_neg h2,if_pos (by omega),if_pos (by omega)];omega
 ·rw[if_neg h1,if_neg h1]
theorem rot_mv (s m e:Nat) (h:s≤m) (h':m≤e) (d:Nat→Int):Mv s e d (rotF s m e d):=by
 refine ⟨rotP s m e,rotP s (s+(e-m)) e,rotP_back s m e h h',fun i=>?_,fun _=>rfl,fun i hi=>?_⟩
 ·have:=rotP_back s (s+(e-m)) e (by omega) (by omega) i
  rw[show s+(e-(s+(e-m)))=m by omega] at this
  exact this
 ·unfold rotP;rw[if_neg hi]
theorem rot_stab {K:Int→Int} {n s m e:Nat} (h:s≤m) (h':m≤e) (he:e≤n) {d:Nat→Int} (hd:Stab K n d) (hx:∀x y,s≤x→x<m→m≤y→y<e→K (d y)<K (d x)):Stab K n (rotF s m e d):=by
 intro p q hpq hq hk
 have hP:∀i,(s≤i∧i<s+(e-m)∧rotP s m e i=i+(m-s))∨(s+(e-m)≤i∧i<e∧rotP s m e i=i-(e-m))∨((i<s∨e≤i)∧rotP s m e i=i):=fun i=>by
  unfold rotP
  by_cases h1:s≤i∧i<e
  ·rw[if_pos h1]
   by_cases h2:i<s+(e-m)
   ·rw[if_pos h2];exact .inl ⟨by omega,h2,rfl⟩
   ·rw[if_neg h2];exact .inr (.inl ⟨by omega,by omega,rfl⟩)
  ·rw[if_neg h1];exact .inr (.inr ⟨by omega,rfl⟩)
 unfold rotF at hk ⊢
 rcases hP p with ⟨a1,a2,a3⟩ | ⟨a1,a2,a3⟩ | ⟨a1,a3⟩ <;> rcases hP q with ⟨b1,b2,b3⟩ | ⟨b1,b2,b3⟩ | ⟨b1,b3⟩ <;> rw[a3,b3] at hk ⊢
 case inl.inr.inl =>
  have:=hx (q-(e-m)) (p+(m-s)) (by omega) (by omega) (by omega) (by omega)
  omega
 all_goals exact hd _ _ (by omega) (by omega) hk
theorem ll_of {K:Int→Int} {n:Nat} {d:Nat→Int} (hd:Stab K n d) {p q:Nat} (hpq:p<q) (hq:q<n) (h:¬K (d q)<K (d p)):LL K (d p) (d q):=by
 by_cases h1:K (d p)<K (d q)
 ·exact .inl h1
 ·exact .inr ⟨by omega,hd p q hpq hq (by omega)⟩
theorem LL.trans {K:Int→Int} {x y z:Int} (h:LL K x y) (h':LL K y z):LL K x z:=by
 unfold LL at *;omega
theorem LL.key {K:Int→Int} {x y:Int} (h:LL K x y):K x≤K y:=by
 unfold LL at h;omega
theorem Srt.key {K:Int→Int} {d:Nat→Int} {a b:Nat} (h:Srt K d a b) {p q:Nat} (hp:a≤p) (hpq:p≤q) (hq:q<b):K (d p)≤K (d q):=by
 rcases Nat.lt_or_ge p q with c | c
 ·exact (h p q hp c hq).key
 ·have:p=q:=by omega
  rw[this];exact Int.le_refl _
theorem Srt.ll {K:Int→Int} {d:Nat→Int} {a b:Nat} (h:Srt K d a b) {p q:Nat} (hp:a≤p) (hpq:p≤q) (hq:q<b) {z:Int} (hz:LL K (d q) z):LL K (d p) z:=by
 rcases Nat.lt_or_ge p q with c | c
 ·exact (h p q hp c hq).trans hz
 ·have:p=q:=by omega
  rw[this];exact hz
theorem Srt.lr {K:Int→Int} {d:Nat→Int} {a b:Nat} (h:Srt K d a b) {p q:Nat} (hp:a≤p) (hpq:p≤q) (hq:q<b) {z:Int} (hz:LL K z (d p)):LL K z (d q):=by
 rcases Nat.lt_or_ge p q with c | c
 ·exact hz.trans (h p q hp c hq)
 ·have:p=q:=by omega
  rw[←this];exact hz
structure Done (K:Int→Int) (n a b:Nat) (d d':Nat→Int):Prop where
 mv:Mv a b d d'
 stab:Stab K n d'
 srt:Srt K d' a b
theorem merge_turn {K:Int→Int} {n a s m e b mid:Nat} {d d1 d2 d3:Nat→Int} (h1:a≤s) (h2:s≤m) (h3:m≤e) (h4:e≤b) (_:b≤n) (hmid:mid=s+(e-m))
  (hs:Srt K d a m) (hs':Srt K d m b) (hx:s<m→m<e→K (d (e-1))<K (d s)) (hy:a<s→e<b→LL K (d (s-1)) (d e))
  (e1:d1=rotF s m e d) (m1:Mv a mid d1 d2) (s1:Srt K d2 a mid) (m2:Mv mid b d2 d3) (s2:Srt K d3 mid b) (st:Stab K n d3):Done K n a b d d3:=by
 subst e1 hmid
 have hmv:Mv a b d (rotF s m e d):=(rot_mv s m e h2 h3 d).wide h1 h4
 refine ⟨(hmv.trans (m1.wide (by omega) (by omega))).trans (m2.wide (by omega) (by omega)),st,?_⟩
 intro p q hp hpq hq
 -- both in the first half,both in the second,or one in each
 by_cases hqm:q<s+(e-m)
 ·rw[m2.out p (by omega),m2.out q (by omega)]
  exact s1 p q hp hpq hqm
 ·by_cases hpm:s+(e-m)≤p
  ·exact s2 p q hpm hpq hq
  ·-- p's value stood in a..s or m..e,q's in s..m or e..b
   rw[m2.out p (by omega)]
   obtain ⟨p',hp',ep⟩:=m1.mem p ⟨hp,by omega⟩
   obtain ⟨q',hq',eq⟩:=m2.mem q ⟨by omega,hq⟩
   rw[ep,eq,m1.out q' (by omega)]
   have vp:∃u,((a≤u∧u<s)∨(m≤u∧u<e))∧rotF s m e d p'=d u:=by
    unfold rotF rotP
    by_cases c:s≤p'∧p'<e
    ·rw[if_pos c,if_pos (by omega)];exact ⟨_,.inr (by omega),rfl⟩
    ·rw[if_neg c];exact ⟨_,.inl (by omega),rfl⟩
   have vq:∃u,((s≤u∧u<m)∨(e≤u∧u<b))∧rotF s m e d q'=d u:=by
    unfold rotF rotP
    by_cases c:s≤q'∧q'<e
    ·rw[if_pos c,if_neg (by omega)];exact ⟨_,.inl (by omega),rfl⟩
    ·rw[if_neg c];exact ⟨_,.inr (by omega),rfl⟩
   obtain ⟨u,hu,eu⟩:=vp
   obtain ⟨v,hv,ev⟩:=vq
   rw[eu,ev]
   rcases hu with hu | hu <;> rcases hv with hv | hv
   ·exact hs u v (by omega) (by omega) (by omega)
   ·exact hs.ll (by omega) (show u≤s-1 by omega) (by omega) (hs'.lr (by omega) (show e≤v by omega) (by omega) (hy (by omega) (by omega)))
   ·left
    have k1:=hs'.key (show m≤u by omega) (show u≤e-1 by omega) (by omega)
    have k2:=hs.key (show a≤s by omega) (show s≤v by omega) (by omega)
    have:=hx (by omega) (by omega)
    omega
   ·exact hs' u v (by omega) (by omega) (by omega)
theorem turn_stab {K:Int→Int} {n a s m e b:Nat} {d:Nat→Int} (h1:a≤s) (h2:s≤m) (h3:m≤e) (h4:e≤b) (h5:b≤n) (hd:Stab K n d)
  (hs:Srt K d a m) (hs':Srt K d m b) (hx:s<m→m<e→K (d (e-1))<K (d s)):Stab K n (rotF s m e d) :=
 rot_stab h2 h3 (by omega) hd fun x y hx1 hx2 hy1 hy2=>by
  have k1:=hs'.key (show m≤y by omega) (show y≤e-1 by omega) (by omega)
  have k2:=hs.key (show a≤s by omega) (show s≤x by omega) (by omega)
  have:=hx (by omega) (by omega)
  omega
theorem turn_left {K:Int→Int} {a s m e b:Nat} {d:Nat→Int} (h1:a≤s) (h2:s≤m) (h3:m≤e) (h4:e≤b) (hs:Srt K d a m) (hs':Srt K d m b) :
  Srt K (rotF s m e d) a s∧Srt K (rotF s m e d) s (s+(e-m))∧Srt K (rotF s m e d) (s+(e-m)) e∧Srt K (rotF s m e d) e b:=by
 refine ⟨fun p q hp hpq hq=>?_,fun p q hp hpq hq=>?_,fun p q hp hpq hq=>?_,fun p q hp hpq hq=>?_⟩ <;> unfold rotF rotP
 ·rw[if_neg (by omega),if_neg (by omega)];exact hs _ _ (by omega) hpq (by omega)
 ·rw[if_pos (by omega),if_pos (by omega),if_pos (by omega),if_pos (by omega)];exact hs' _ _ (by omega) (by omega) (by omega)
 ·rw[if_pos (by omega),if_neg (by omega),if_pos (by omega),if_neg (by omega)];exact hs _ _ (by omega) (by omega) (by omega)
 ·rw[if_neg (by omega),if_neg (by omega)];exact hs' _ _ (by omega) hpq hq
theorem rot_none (s m e:Nat) (_:s≤m) (h':m≤e) (h0:s=m∨m=e) (d:Nat→Int):rotF s m e d=d:=by
 funext i
 unfold rotF rotP
 by_cases h1:s≤i∧i<e
 ·rw[if_pos h1]
  rcases h0 with h0 | h0
  ·rw[if_pos (by omega)];congr 1;omega
  ·rw[if_neg (by omega)];congr 1;omega
 ·rw[if_neg h1]
theorem srt_one {K:Int→Int} {d:Nat→Int} {a s b:Nat} (hs:Srt K d a s) (hs':Srt K d s b) (h0:¬(a<s∧s<b)) (h1:a≤s) (h2:s≤b):Srt K d a b:=by
 intro p q hp hpq hq
 by_cases c:a<s
 ·have:s=b:=by omega
  exact hs p q hp hpq (by omega)
 ·exact hs' p q (by omega) hpq hq
theorem one_ahead {K:Int→Int} {n a b i:Nat} {d:Nat→Int} (hb:b≤n) (hd:Stab K n d) (hs':Srt K d (a+1) b) (h1:a+1≤i) (h2:i≤b) (hx:a+1<i→K (d (i-1))<K (d a)) (hy:i<b→¬K (d i)<K (d a)):Done K n a b d (rotF a (a+1) i d):=by
 have hs:Srt K d a (a+1):=fun p q hp hpq hq=>by omega
 have st:=turn_stab (Nat.le_refl a) (show a≤a+1 by omega) h1 h2 hb hd hs hs' (fun _=>hx)
 obtain ⟨t1,t2,t3,t4⟩:=turn_left (Nat.le_refl a) (show a≤a+1 by omega) h1 h2 hs hs'
 refine merge_turn (Nat.le_refl a) (show a≤a+1 by omega) h1 h2 hb rfl hs hs' (fun _=>hx) (fun h=>by omega) rfl (Mv.refl _ _ _) t2 (Mv.refl _ _ _) ?_ st
 intro p q hp hpq hq
 by_cases c:p<i
 ·-- p is the one
  have hp':p=i-1:=by omega
  refine ll_of st hpq (by omega) ?_
  unfold rotF rotP
  rw[if_neg (by omega),if_pos (by omega),if_neg (by omega)]
  rw[show p-(i-(a+1))=a by omega]
  have k1:=hs'.key (show a+1≤i by omega) (show i≤q by omega) hq
  have:=hy (by omega)
  omega
 ·exact t4 p q (by omega) hpq hq
theorem one_behind {K:Int→Int} {n a m i:Nat} {d:Nat→Int} (hb:m+1≤n) (hd:Stab K n d) (hs:Srt K d a m) (h1:a≤i) (h2:i≤m) (hx:i<m→K (d m)<K (d i)) (hy:a<i→¬K (d m)<K (d (i-1))):Done K n a (m+1) d (rotF i m (m+1) d):=by
 have hs':Srt K d m (m+1):=fun p q hp hpq hq=>by omega
 have st:=turn_stab h1 h2 (show m≤m+1 by omega) (Nat.le_refl (m+1)) hb hd hs hs' (fun h _=>hx h)
 obtain ⟨t1,t2,t3,t4⟩:=turn_left h1 h2 (show m≤m+1 by omega) (Nat.le_refl (m+1)) hs hs'
 refine merge_turn h1 h2 (show m≤m+1 by omega) (Nat.le_refl (m+1)) hb rfl hs hs' (fun h _=>hx h) (fun _ h=>by omega) rfl (Mv.refl _ _ _) ?_ (Mv.refl _ _ _) t3 st
 intro p q hp hpq hq
 by_cases c:q<i
 ·exact t1 p q hp hpq c
 ·have hq':q=i:=by omega
  refine ll_of st hpq (by omega) ?_
  unfold rotF rotP
  rw[if_pos (by omega),if_pos (by omega),if_neg (by omega)]
  rw[show q+(m-i)=m by omega]
  have k1:=hs.key (show a≤p by omega) (show p≤i-1 by omega) (by omega)
  have:=hy (by omega)
  omega
structure Order (n:Nat) (d:Nat→Int):Prop where
 lt:∀i,i<n→0≤d i∧d i<n
 inj:∀i j,i<n→j<n→d i=d j→i=j
 onto:∀x:Int,0≤x→x<n→∃i,i<n∧d i=x
theorem LL.irrefl {K:Int→Int} {x:Int} (h:LL K x x):False:=by unfold LL at h;omega
theorem LL.tri (K:Int→Int) (x y:Int):LL K x y∨x=y∨LL K y x:=by unfold LL;omega
theorem srt_unique {K:Int→Int} {n:Nat} {d d':Nat→Int} (h:Order n d) (h':Order n d') (hs:Srt K d 0 n) (hs':Srt K d' 0 n):∀i,i<n→d i=d' i:=by
 intro i
 induction i using Nat.strongRecOn with
 | ind i ih =>
  intro hi
  rcases LL.tri K (d i) (d' i) with c | c | c
  ·-- d i stands in d' at some k: below i it's taken,at i no,behind i too late
   obtain ⟨k,hk,ek⟩:=h'.onto (d i) (h.lt i hi).1 (h.lt i hi).2
   rcases Nat.lt_trichotomy k i with c1 | c1 | c1
   ·have:=ih k c1 hk
    rw[ek] at this
    exact absurd (h.inj k i hk hi this) (by omega)
   ·subst c1;rw[ek]
   ·have:=(hs' i k (by omega) c1 hk)
    rw[ek] at this
    exact absurd (c.trans this) LL.irrefl
  ·exact c
  ·obtain ⟨k,hk,ek⟩:=h.onto (d' i) (h'.lt i hi).1 (h'.lt i hi).2
   rcases Nat.lt_trichotomy k i with c1 | c1 | c1
   ·have:=ih k c1 hk
    rw[ek] at this
    exact absurd (h'.inj i k hi hk this) (by omega)
   ·subst c1;rw[ek]
   ·have:=(hs i k (by omega) c1 hk)
    rw[ek] at this
    exact absurd (c.trans this) LL.irrefl
theorem Mv.order {n:Nat} {d d':Nat→Int} (h:Mv 0 n d d') (hd:Order n d):Order n d':=by
 have hm:∀i,i<n→∃j,j<n∧d' i=d j:=fun i hi=>by
  obtain ⟨j,hj,e⟩:=h.mem i ⟨by omega,hi⟩
  exact ⟨j,hj.2,e⟩
 obtain ⟨p,r,h1,h2,h3,h4⟩:=h
 have hp:∀i,i<n→p i<n:=fun i hi=>by
  apply Classical.byContradiction
  intro hn
  have e:=h4 (p i) (by omega)
  have e2:p i=i:=by
   have:=congrArg r e
   rw[h1,h1] at this
   exact this
  omega
 refine ⟨fun i hi=>?_,fun i j hi hj e=>?_,fun x hx hxn=>?_⟩
 ·rw[h3];exact hd.lt _ (hp i hi)
 ·rw[h3,h3] at e
  have:=congrArg r (hd.inj _ _ (hp i hi) (hp j hj) e)
  rw[h1,h1] at this
  exact this
 ·obtain ⟨i,hi,e⟩:=hd.onto x hx hxn
  refine ⟨r i,?_,by rw[h3,h2];exact e⟩
  apply Classical.byContradiction
  intro hn
  have:=h4 (r i) (by omega)
  rw[h2] at this
  omega
theorem order_id (n:Nat):Order n fun i=>(i:Int):=⟨fun i hi=>by omega,fun i j _ _ e=>by omega,fun x h0 h1=>⟨x.toNat,by omega,by omega⟩⟩
theorem stab_id (K:Int→Int) (n:Nat):Stab K n fun i=>(i:Int):=fun p q h _ _=>by
 show (p:Int)<(q:Int)
 omega
end Go.Proofs.YtkohhdkkbaifoaaGreatDoor.Sm
