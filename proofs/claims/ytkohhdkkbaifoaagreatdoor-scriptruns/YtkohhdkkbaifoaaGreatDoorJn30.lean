/-
  Several texts, joined: XWw, XOw.
-/
import Derived.Test.YtkohhdkkbaifoaaGreatDoorPz
import Derived.Test.YtkohhdkkbaifoaaGreatDoorJn29
import Derived.Test.YtkohhdkkbaifoaaGreatDoorJn8
import Derived.Deep.AppendSrc
import Derived.Deep.Upon
import Derived.Lib.EndianMore
import Derived.Maps.AppendAt
/-
  Contract of the document's Write.
-/
namespace Go.Proofs.YtkohhdkkbaifoaaGreatDoor
open Go.RowKit PK Vg

theorem wpList_catX {P:Program} {ops:Array Oper} {rest:List Oper} {op:Oper} {a:Act} {w:World} {Q:Exit→Act→World→Prop} (hgd:op.guard=none) (t t':TypeId) (x y:Operand) (ho:op.op=.binOp .add t x y t')
  (S T:ByteArray) (hx:a.eval x=.string S) (hy:a.eval y=.string T) (hsz:S.size+T.size≤9223372036854775807) (h:wpList P ops Q rest (a.put op.dst (.string (S++T))) w):wpList P ops Q (op :: rest) a w :=
 wpList_plain hgd fun _ hK=>by
  unfold Oper.wp execOp
  have h1:¬(S.size+T.size > 9223372036854775807):=by omega
  have h2:(eqGuard .add t x y (.string S) (.string T)).run P w=.ok () w:=by simp[eqGuard]
  have h3:(binOp .add t (.string S) (.string T)).run P w=.ok (.string (S++T)) w:=by rw[binOp_string_add,run_string_add_if,if_neg h1]
  simp only[ho,hx,hy,Sem.run_bind,h2,h3,Result.andThen_ok]
  exact hK _ _ h
theorem cat_listX (S T:ByteArray):(S++T).data.toList=S.data.toList++T.data.toList:=by simp[ByteArray.data_append]
theorem cat_sizeX (S T:ByteArray):(S++T).size=S.size+T.size:=by
 have h1:=Pl.size_len (S++T)
 have h2:=Pl.size_len S
 have h3:=Pl.size_len T
 rw[h1,cat_listX,List.length_append];omega
def rpt (key:List UInt8):Nat→List UInt8
 | 0=>[]
 | m+1=>rpt key m++key
theorem rpt_length (key:List UInt8):∀m,(rpt key m).length=m*key.length
 | 0=>by simp[rpt]
 | m+1=>by
  show (rpt key m++key).length=_
  rw[List.length_append,rpt_length key m,Nat.add_mul,Nat.one_mul]
theorem rpt_at (key:List UInt8) (h0:0<key.length):∀m i,i<m*key.length→(rpt key m).getD i 0=key.getD (i % key.length) 0
 | 0,i,h=>by omega
 | m+1,i,h=>by
  show (rpt key m++key).getD i 0=_
  have hl:=rpt_length key m
  simp only[List.getD_eq_getElem?_getD]
  by_cases hi:i<m*key.length
  ·rw[List.getElem?_append_left (by omega)]
   have:=rpt_at key h0 m i hi
   simp only[List.getD_eq_getElem?_getD] at this
   exact this
  ·rw[List.getElem?_append_right (by omega),hl]
   have h1:i-m*key.length<key.length:=by rw[Nat.add_mul,Nat.one_mul] at h;omega
   have h2:i % key.length=i-m*key.length:=by
    have:i=(i-m*key.length)+m*key.length:=by omega
    rw[this,Nat.add_mul_mod_self_right,Nat.mod_eq_of_lt h1]
    omega
   rw[h2]
def AllOf (k:Nat) (key t A:List UInt8):Prop:=t.length≤A.length∧∀i,i<t.length→(65≤(A.getD i 0).toNat∧(A.getD i 0).toNat≤90)∧Vg.num (A.getD i 0)=kat k key t i
theorem all_rpt {k:Nat} {key t:List UInt8} {m:Nat} (h4:k≠4) (hk:Ls key) (h0:0<key.length) (hm:t.length≤m*key.length):AllOf k key t (rpt key m):=by
 refine ⟨by rw[rpt_length];exact hm,fun i hi=>?_⟩
 rw[rpt_at key h0 m i (by omega)]
 refine ⟨hk.at (Nat.mod_lt _ h0),?_⟩
 unfold kat
 rw[if_neg (fun e=>h4 e.1)]
theorem all_auto {key t:List UInt8} (hk:Ls key) (ht:Ls t):AllOf 4 key t (key++t):=by
 refine ⟨by simp,fun i hi=>?_⟩
 unfold kat
 by_cases h:key.length≤i
 ·rw[if_pos ⟨rfl,h⟩]
  have e:(key++t).getD i 0=t.getD (i-key.length) 0:=by simp only[List.getD_eq_getElem?_getD];rw[List.getElem?_append_right h]
  rw[e]
  exact ⟨ht.at (by omega),rfl⟩
 ·rw[if_neg (fun e=>h e.2),Nat.mod_eq_of_lt (by omega)]
  have e:(key++t).getD i 0=key.getD i 0:=by simp only[List.getD_eq_getElem?_getD];rw[List.getElem?_append_left (by omega)]
  rw[e]
  exact ⟨hk.at (by omega),rfl⟩
theorem x_info_partsX {P:Program} {e:TypeId} {z:Value} {s b:Nat} (h:(P.info? e).map (fun i=>(i.zero,i.size,i.bytes))=some (some z,s,b)):∃i,P.info? e=some i∧i.zero=some z∧i.size=s∧i.bytes=b:=by
 obtain ⟨i,hi,hzz⟩:=Option.map_eq_some_iff.1 h
 simp only[Prod.mk.injEq] at hzz
 exact ⟨i,hi,hzz.1,hzz.2.1,hzz.2.2⟩
def strLenX:Value→Nat
 | .string s=>s.size
 | _=>0
theorem v_cells_byteX (acc:List UInt8) (b:UInt8):Lib.byteCells acc++[.int .u8 (b.toNat:Int)]=Lib.byteCells (acc++[b]):=by simp[Lib.byteCells]
set_option maxRecDepth 100000 in
set_option maxHeartbeats 4000000 in
theorem rwr_okX (k:Nat) (key t:ByteArray) (hE:lkE k key.data.toList t.data.toList=0) (hA:lkAt k key.data.toList t.data.toList=0) (hn:1≤key.size∧key.size≤256) (hs:t.size≤65536) (hkl:Ls key.data.toList) (htl:Ls t.data.toList) (w:World) :
  Calls Tryz.prog 81 #[.int .i64 (k:Nat),.string key,.string t] w fun e w'=>e=.returned (.tuple #[.string ⟨(writeL k key.data.toList t.data.toList).toArray⟩,.agg #[.int .i64 0,.int .i64 0]])∧Below w.heap.size w w':=by
 have HT:=(show Hid (∀W,Calls Tryz.prog 136 #[.int .i64 (k:Nat),.string key,.string t] W fun e w'=>e=.returned (.agg #[.int .i64 0,.int .i64 0])∧Below W.heap.size W w') from fun W=>by have:=rlook_any k key t W;rw[hE,hA] at this;exact this)
 have hks:=Pl.size_len key
 have hts:=Pl.size_len t
 have HKS:Hid (key.size=key.data.toList.length):=hks
 have HTS:Hid (t.size=t.data.toList.length):=hts
 obtain ⟨i0,hi0,hz0,hz1,hz2⟩:=x_info_partsX v_info_byteV
 clear hE hA hks hts
 go_enter Tryz.func81,Tryz.ntmps81
 go_wp2_with fail
 refine (HT.out _).mono ?_
 rintro e W1 ⟨rfl,hb⟩
 have hb1:Below (w.heap.size+1) (w.alloc (.cells #[.int .i64 0,.int .i64 0] 35)) W1:=by simpa using hb
 have hz:=hb1.size
 simp at hz
 have hb2:=hb1.alloc (by omega) (.cells #[.int .i64 0,.int .i64 0] 35)
 clear hb HT hb1
 go_wp2_with fail
 obtain ⟨V,hV⟩:∃V,V=W1.alloc (.cells #[.int .i64 0,.int .i64 0] 35):=⟨_,rfl⟩
 have hVs:w.heap.size+1≤V.heap.size:=by rw[hV];simp;omega
 rw[←hV] at hb2 ⊢
 clear hV hz
 go_loopw [9] (fun x W=>∃(m:Nat) (S:ByteArray),x=.string S∧Hid (S.data.toList=rpt key.data.toList m)∧S.size≤t.size+key.size∧V=W) (fun x _=>t.size+key.size-strLenX x)
 case atStart=>exact ⟨1,key,rfl,by rw[Hid];simp[rpt],by omega,rfl⟩
 case round =>
  obtain ⟨m,A0,rfl,HR,hAs,rfl⟩:=hrel
  by_cases hlt:A0.size<t.size
  ·have hltI:(A0.size:Int)<(t.size:Int):=by omega
   have HR2:Hid ((A0++key).data.toList=rpt key.data.toList (m+1)):=by rw[Hid,cat_listX,HR.out];rfl
   have hsz2:=cat_sizeX A0 key
   have HSZ:Hid ((A0++key).size=A0.size+key.size):=hsz2
   clear hsz2
   go_wp2_with (first | refine wpList_catX rfl _ _ _ _ rfl _ _ rfl rfl (by omega) ?_)
   go_roundw
   case rel=>exact ⟨m+1,_,rfl,HR2.out,by rw[HSZ.out];omega,trivial⟩
   case measure=>simp only[strLenX];rw[HSZ.out];omega
  ·have hltI:¬(A0.size:Int)<(t.size:Int):=by omega
   by_cases k4:k=4
   ·have k44:((k:Int)==4)=true:=by simp;omega
    have hcs:=cat_sizeX key t
    have HCS:Hid ((key++t).size=key.size+t.size):=hcs
    obtain ⟨A,hAe⟩:∃A,A=key++t:=⟨_,rfl⟩
    have hall:AllOf k key.data.toList t.data.toList A.data.toList:=by
     rw[hAe,cat_listX,k4]
     exact all_auto hkl htl
    have HAE:Hid (A=key++t):=hAe
    clear HR hAs hcs hAe k4
    go_wp2_with (first | (refine wpList_catX rfl _ _ _ _ rfl _ _ rfl rfl (by omega) ?_;rw[←HAE.out]))
    have HALL:=(show Hid (AllOf k key.data.toList t.data.toList A.data.toList) from hall)
    clear hall
    go_loopw [11,10] (fun i v W=>∃(m:Nat) (v':Value),m≤t.size∧i=.int .i64 m∧v'=v∧Kit.Owns W V.heap.size 5 v' (wrL k key.data.toList t.data.toList m)∧Below V.heap.size V W) (fun i _ _=>((t.size:Int)-intOf i).toNat)
    case atStart=>exact ⟨0,_,by omega,rfl,rfl,Kit.Owns.nil _ _ _,Below.refl _ _⟩
    case round =>
     obtain ⟨m,v,hm,rfl,rfl,hown,hbv⟩:=hrel
     have hzb:=hbv.size
     by_cases hlt:m<t.size
     ·have hlt2:(m:Int)<(t.size:Int):=by omega
      have hta:=htl.at (getD_sizeV hlt)
      have hAl:m<A.size:=by have:=HALL.out.1;have:=Pl.size_len A;have:=Pl.size_len t;omega
      have hAl2:(m:Int)<(A.size:Int):=by omega
      have haa:=HALL.out.2 m (getD_sizeV hlt)
      have HST:=(show Hid (wrL k key.data.toList t.data.toList (m+1)=wrL k key.data.toList t.data.toList m++[ltr (there k (Vg.num (t.data.toList.getD m 0)) (kat k key.data.toList t.data.toList m))]) from wrL_succ _ _ _ _)
      have HC:=(show Hid (∀W,Calls Tryz.prog 137 #[.int .i64 (k:Nat),.int .u8 (t.data.toList.getD m 0).toNat,.int .u8 (A.data.toList.getD m 0).toNat] W fun e w'=>e=.returned (.int .u8 (ltr (there k (Vg.num (t.data.toList.getD m 0)) (Vg.num (A.data.toList.getD m 0)))).toNat)∧W=w') from fun W=>cell_any k _ _ hta haa.1 W)
      rw[←haa.2] at HST
      rw[getD_byte t m hlt] at HST HC
      rw[getD_byte A m hAl] at HST HC
      have hle2:(wrL k key.data.toList t.data.toList m).length≤65536:=by rw[wrL_length];omega
      generalize ltr (there k (Vg.num t[m]) (Vg.num A[m]))=z at *
      generalize wrL k key.data.toList t.data.toList m=acc at *
      have HCB:=(show Hid (Lib.byteCells acc++[.int .u8 (z.toNat:Int)]=Lib.byteCells (acc++[z])) from v_cells_byteX acc z)
      clear hta haa
      go_wp2_with fail
      refine wp_region_noPanic ?_
      refine wp_region_held_drew (S:=fun _=>True) (by kernel_rfl) trivial (fun hS=>?_)
      refine vtk 0 40 (v) rfl (fun W hW=>by clear hS hW;go_simp) hS ?_
      simp only[zsA,zsB,zsC]
      refine vtk 1 41 (.int .i64 (k:Nat)) rfl (fun W hW=>by clear hS hW;go_simp) hS ?_
      simp only[zsA,zsB,zsC]
      refine vtk 2 42 (.string t) rfl (fun W hW=>by clear hS hW;go_simp) hS ?_
      simp only[zsA,zsB,zsC]
      refine vtk 3 43 (.int .i64 (m:Nat)) rfl (fun W hW=>by clear hS hW;go_simp) hS ?_
      simp only[zsA,zsB,zsC]
      refine vtk 4 44 (.int .u8 (t[m].toNat:Nat)) rfl (fun W hW=>by clear hS hW;go_simp) hS ?_
      simp only[zsA,zsB,zsC]
      refine vtk 5 45 (.string A) rfl (fun W hW=>by clear hS hW;go_simp) hS ?_
      simp only[zsA,zsB,zsC]
      refine vtk 6 46 (.int .i64 (m:Nat)) rfl (fun W hW=>by clear hS hW;go_simp) hS ?_
      simp only[zsA,zsB,zsC]
      refine vtk 7 47 (.int .u8 (A[m].toNat:Nat)) rfl (fun W hW=>by clear hS hW;go_simp) hS ?_
      simp only[zsA,zsB,zsC]
      refine rd1 8 rfl (fun K hK=>?_)
      go_simp
      refine Calls.mono (HC.out _) ?_
      rintro e Y ⟨rfl,rfl⟩
      refine hK.out _ _ (trivial) (fun hS1=>?_)
      clear hK hS K
      have hS:=hS1
      clear hS1
      refine rd1 9 rfl (fun K hK=>?_)
      go_simp
      refine hK.out _ _ trivial (fun hS1=>?_)
      clear hK hS K
      have hS:=hS1
      clear hS1
      have hownY:=World.ownsRow.alloc (World.ownsRow.drew hown) (.cells #[.int .u8 z.toNat] 5)
      refine rd1 10 rfl (fun K hK=>?_)
      refine wp_append_own _ _ _ 87 rfl V.heap.size 5 i0 (.int .u8 0) 1 1 Tryz.underlying87 hi0 hz0 hz1 hz2 rfl (by decide) _ _ _ rfl hownY ⟨wr.heap.size,0,none⟩ 1 1 [.int .u8 (z.toNat:Int)] rfl rfl (cell_one_new _ _ _) (fun u hu=>by simp at hu;subst hu;rfl) (by unfold maxLen;omega) (by omega) (by simp;omega) ?_
      intro v5 w5 hown5 hgrow5 _
      refine hK.out _ _ trivial (fun hS1=>?_)
      clear hK hS K
      have hS:=hS1
      clear hS1
      simp only[Act.put,List.setIfInBounds_toArray]
      refine vtk 11 10 (v5) rfl (fun W hW=>by clear hS hW;go_simp) hS ?_
      simp only[zsA,zsB,zsC]
      refine wpAnyH_done (by kernel_rfl) ?_ _
      refine NoPanic.normal ?_
      have hbY:=(hbv.drew.alloc (by simp;omega) (.cells #[.int .u8 z.toNat] 5)).grown hgrow5 (by simp;omega) (fun k hk=>(World.ownsRow.lt hown k hk).1)
      go_wp2_with fail
      go_roundw
      case rel =>
       refine ⟨m+1,_,by omega,by go_num,rfl,?_,hbY⟩
       rw[HST.out]
       unfold Kit.Owns
       rw[←HCB.out,List.length_append]
       exact hown5
      case measure=>simp[intOf] <;> omega
     ·obtain rfl:m=t.size:=by omega
      have HW:Hid (wrL k key.data.toList t.data.toList t.size=writeL k key.data.toList t.data.toList):=by rw[Hid,Pl.size_len];rfl
      have hst:=Kit.run_string_of_own (P:=Tryz.prog) wr 87 9 5 Tryz.underlying87 Tryz.underlying5 Tryz.underlying9 hown
      rw[HW.out] at hst
      obtain ⟨T,hT⟩:∃T,T=(⟨(writeL k key.data.toList t.data.toList).toArray⟩:ByteArray):=⟨_,rfl⟩
      rw[←hT] at hst
      have HT:Hid (T=(⟨(writeL k key.data.toList t.data.toList).toArray⟩:ByteArray)):=hT
      have hbw:=hb2.trans (hbv.mono hVs)
      obtain ⟨c0,c1,f0,f1,hsz⟩:=Kit.two_cells hbw
      clear hT hown HW
      go_wp2
      have q:=Kit.read_two (.int .i64 0) (.int .i64 0) c0 c1
      refine bodyPost_ret (v:=.tuple #[.string T,.agg #[.int .i64 0,.int .i64 0]]) (by simp[results,Tryz.results81,go_sem,q.1,q.2]) rfl ⟨by rw[HT.out],?_⟩
      exact Kit.below_two hbw _ _
   ·have k44:((k:Int)==4)=false:=beq_false_of_ne (by omega)
    obtain ⟨A,rfl⟩:∃A,A=A0:=⟨_,rfl⟩
    have hall:AllOf k key.data.toList t.data.toList A.data.toList:=by
     rw[HR.out]
     refine all_rpt k4 hkl (by rw[←HKS.out];omega) ?_
     rw[←rpt_length,←HR.out,←HTS.out,←Pl.size_len];omega
    clear HR hAs
    have HALL:=(show Hid (AllOf k key.data.toList t.data.toList A.data.toList) from hall)
    clear hall
    go_wp2_with fail
    go_loopw [11,10] (fun i v W=>∃(m:Nat) (v':Value),m≤t.size∧i=.int .i64 m∧v'=v∧Kit.Owns W V.heap.size 5 v' (wrL k key.data.toList t.data.toList m)∧Below V.heap.size V W) (fun i _ _=>((t.size:Int)-intOf i).toNat)
    case atStart=>exact ⟨0,_,by omega,rfl,rfl,Kit.Owns.nil _ _ _,Below.refl _ _⟩
    case round =>
     obtain ⟨m,v,hm,rfl,rfl,hown,hbv⟩:=hrel
     have hzb:=hbv.size
     by_cases hlt:m<t.size
     ·have hlt2:(m:Int)<(t.size:Int):=by omega
      have hta:=htl.at (getD_sizeV hlt)
      have hAl:m<A.size:=by have:=HALL.out.1;have:=Pl.size_len A;have:=Pl.size_len t;omega
      have hAl2:(m:Int)<(A.size:Int):=by omega
      have haa:=HALL.out.2 m (getD_sizeV hlt)
      have HST:=(show Hid (wrL k key.data.toList t.data.toList (m+1)=wrL k key.data.toList t.data.toList m++[ltr (there k (Vg.num (t.data.toList.getD m 0)) (kat k key.data.toList t.data.toList m))]) from wrL_succ _ _ _ _)
      have HC:=(show Hid (∀W,Calls Tryz.prog 137 #[.int .i64 (k:Nat),.int .u8 (t.data.toList.getD m 0).toNat,.int .u8 (A.data.toList.getD m 0).toNat] W fun e w'=>e=.returned (.int .u8 (ltr (there k (Vg.num (t.data.toList.getD m 0)) (Vg.num (A.data.toList.getD m 0)))).toNat)∧W=w') from fun W=>cell_any k _ _ hta haa.1 W)
      rw[←haa.2] at HST
      rw[getD_byte t m hlt] at HST HC
      rw[getD_byte A m hAl] at HST HC
      have hle2:(wrL k key.data.toList t.data.toList m).length≤65536:=by rw[wrL_length];omega
      generalize ltr (there k (Vg.num t[m]) (Vg.num A[m]))=z at *
      generalize wrL k key.data.toList t.data.toList m=acc at *
      have HCB:=(show Hid (Lib.byteCells acc++[.int .u8 (z.toNat:Int)]=Lib.byteCells (acc++[z])) from v_cells_byteX acc z)
      clear hta haa
      go_wp2_with fail
      refine wp_region_noPanic ?_
      refine wp_region_held_drew (S:=fun _=>True) (by kernel_rfl) trivial (fun hS=>?_)
      refine vtk 0 40 (v) rfl (fun W hW=>by clear hS hW;go_simp) hS ?_
      simp only[zsA,zsB,zsC]
      refine vtk 1 41 (.int .i64 (k:Nat)) rfl (fun W hW=>by clear hS hW;go_simp) hS ?_
      simp only[zsA,zsB,zsC]
      refine vtk 2 42 (.string t) rfl (fun W hW=>by clear hS hW;go_simp) hS ?_
      simp only[zsA,zsB,zsC]
      refine vtk 3 43 (.int .i64 (m:Nat)) rfl (fun W hW=>by clear hS hW;go_simp) hS ?_
      simp only[zsA,zsB,zsC]
      refine vtk 4 44 (.int .u8 (t[m].toNat:Nat)) rfl (fun W hW=>by clear hS hW;go_simp) hS ?_
      simp only[zsA,zsB,zsC]
      refine vtk 5 45 (.string A) rfl (fun W hW=>by clear hS hW;go_simp) hS ?_
      simp only[zsA,zsB,zsC]
      refine vtk 6 46 (.int .i64 (m:Nat)) rfl (fun W hW=>by clear hS hW;go_simp) hS ?_
      simp only[zsA,zsB,zsC]
      refine vtk 7 47 (.int .u8 (A[m].toNat:Nat)) rfl (fun W hW=>by clear hS hW;go_simp) hS ?_
      simp only[zsA,zsB,zsC]
      refine rd1 8 rfl (fun K hK=>?_)
      go_simp
      refine Calls.mono (HC.out _) ?_
      rintro e Y ⟨rfl,rfl⟩
      refine hK.out _ _ (trivial) (fun hS1=>?_)
      clear hK hS K
      have hS:=hS1
      clear hS1
      refine rd1 9 rfl (fun K hK=>?_)
      go_simp
      refine hK.out _ _ trivial (fun hS1=>?_)
      clear hK hS K
      have hS:=hS1
      clear hS1
      have hownY:=World.ownsRow.alloc (World.ownsRow.drew hown) (.cells #[.int .u8 z.toNat] 5)
      refine rd1 10 rfl (fun K hK=>?_)
      refine wp_append_own _ _ _ 87 rfl V.heap.size 5 i0 (.int .u8 0) 1 1 Tryz.underlying87 hi0 hz0 hz1 hz2 rfl (by decide) _ _ _ rfl hownY ⟨wr.heap.size,0,none⟩ 1 1 [.int .u8 (z.toNat:Int)] rfl rfl (cell_one_new _ _ _) (fun u hu=>by simp at hu;subst hu;rfl) (by unfold maxLen;omega) (by omega) (by simp;omega) ?_
      intro v5 w5 hown5 hgrow5 _
      refine hK.out _ _ trivial (fun hS1=>?_)
      clear hK hS K
      have hS:=hS1
      clear hS1
      simp only[Act.put,List.setIfInBounds_toArray]
      refine vtk 11 10 (v5) rfl (fun W hW=>by clear hS hW;go_simp) hS ?_
      simp only[zsA,zsB,zsC]
      refine wpAnyH_done (by kernel_rfl) ?_ _
      refine NoPanic.normal ?_
      have hbY:=(hbv.drew.alloc (by simp;omega) (.cells #[.int .u8 z.toNat] 5)).grown hgrow5 (by simp;omega) (fun k hk=>(World.ownsRow.lt hown k hk).1)
      go_wp2_with fail
      go_roundw
      case rel =>
       refine ⟨m+1,_,by omega,by go_num,rfl,?_,hbY⟩
       rw[HST.out]
       unfold Kit.Owns
       rw[←HCB.out,List.length_append]
       exact hown5
      case measure=>simp[intOf] <;> omega
     ·obtain rfl:m=t.size:=by omega
      have HW:Hid (wrL k key.data.toList t.data.toList t.size=writeL k key.data.toList t.data.toList):=by rw[Hid,Pl.size_len];rfl
      have hst:=Kit.run_string_of_own (P:=Tryz.prog) wr 87 9 5 Tryz.underlying87 Tryz.underlying5 Tryz.underlying9 hown
      rw[HW.out] at hst
      obtain ⟨T,hT⟩:∃T,T=(⟨(writeL k key.data.toList t.data.toList).toArray⟩:ByteArray):=⟨_,rfl⟩
      rw[←hT] at hst
      have HT:Hid (T=(⟨(writeL k key.data.toList t.data.toList).toArray⟩:ByteArray)):=hT
      have hbw:=hb2.trans (hbv.mono hVs)
      obtain ⟨c0,c1,f0,f1,hsz⟩:=Kit.two_cells hbw
      clear hT hown HW
      go_wp2
      have q:=Kit.read_two (.int .i64 0) (.int .i64 0) c0 c1
      refine bodyPost_ret (v:=.tuple #[.string T,.agg #[.int .i64 0,.int .i64 0]]) (by simp[results,Tryz.results81,go_sem,q.1,q.2]) rfl ⟨by rw[HT.out],?_⟩
      exact Kit.below_two hbw _ _
end Go.Proofs.YtkohhdkkbaifoaaGreatDoor

/-
  Laws of no program: bytes in a row that nothing bars from being written (what []byte(s) makes, too), appended to.
-/
namespace Go.Proofs.YtkohhdkkbaifoaaGreatDoor
open Go.RowKit PK Vg

def OwnC (w:World) (g cap:Nat) (l:List UInt8):Prop :=
 g<w.heap.size∧l.length≤cap∧cap≤maxLen∧(∀j,j<l.length→w.cell? ⟨g,j,none⟩=some (.int .u8 (l.getD j 0).toNat))∧∀j,j<cap→(w.cell? ⟨g,j,none⟩).isSome=true∧w.frozen? ⟨g,j,none⟩=false
theorem OwnC.kept {w w':World} {g cap:Nat} {l:List UInt8} (h:OwnC w g cap l) (hs:w.heap.size≤w'.heap.size) (hb:w'.heap[g]? = w.heap[g]?):OwnC w' g cap l:=by
 obtain ⟨h1,h2,h3,h4,h5⟩:=h
 refine ⟨by omega,h2,h3,fun j hj=>?_,fun j hj=>?_⟩
 ·exact (World.cell?_of_block (a:=⟨g,j,none⟩) hb).trans (h4 j hj)
 ·have e:=World.cell?_of_block (a:=⟨g,j,none⟩) hb
  have e2:=World.frozen?_of_block (a:=⟨g,j,none⟩) hb
  rw[e,e2]
  exact h5 j hj
theorem OwnC.grown {w w':World} {g cap:Nat} {l:List UInt8} {row:Option Nat} (h:OwnC w g cap l) (hg:w.grownBy w' row) (hne:some g≠row):OwnC w' g cap l:=h.kept hg.size (hg.block g h.1 hne)
theorem OwnC.alloc {w:World} {g cap:Nat} {l:List UInt8} (h:OwnC w g cap l) (o:Obj):OwnC (w.alloc o) g cap l:=h.grown (World.grownBy_alloc w o none) (by simp)
theorem OwnC.drew {w:World} {g cap:Nat} {l:List UInt8} (h:OwnC w g cap l):OwnC w.drew g cap l:=h
theorem OwnC.bytes (w:World) (e:TypeId) (s:ByteArray) (hs:s.size≤maxLen):OwnC (Lib.bytesWorld w e s) w.heap.size (grownCap w s.size 0 e) s.data.toList:=by
 have hl:=Pl.size_len s
 have hge:=grownCap_ge w s.size 0 e
 refine ⟨by rw[Lib.bytesWorld_size];omega,by omega,grownCap_le_maxLen w s.size 0 e hs,fun j hj=>Lib.bytesWorld_cell w e s j (by omega),fun j hj=>?_⟩
 have hn:=Lib.bytesWorld_at_new w e s
 have hsz:(Lib.bytesCells w e s).size=grownCap w s.size 0 e:=by
  unfold Lib.bytesCells
  have h1:s.data.size=s.size:=rfl
  simp[h1];omega
 constructor
 ·unfold World.cell?
  simp only[hn]
  simp[hsz,hj]
 ·unfold World.frozen?
  simp only[hn]
  simp[hsz]
  omega
theorem getD_append_leftX {a b:List UInt8} {j:Nat} (h:j<a.length):(a++b).getD j 0=a.getD j 0:=by simp only[List.getD_eq_getElem?_getD];rw[List.getElem?_append_left h]
theorem getD_append_rightX {a b:List UInt8} {j:Nat} (h:a.length≤j):(a++b).getD j 0=b.getD (j-a.length) 0:=by simp only[List.getD_eq_getElem?_getD];rw[List.getElem?_append_right h]
theorem byteCells_atX (l:List UInt8) {j:Nat} (h:j<l.length):(Lib.byteCells l)[j]? = some (.int .u8 (l.getD j 0).toNat):=by
 simp[Lib.byteCells,List.getD,h]
theorem addr_addX (g j:Nat):((⟨g,0,none⟩:Addr).add j)=⟨g,j,none⟩:=by unfold Addr.add;by_cases e0:j=0 <;> simp[e0]
theorem run_append_ownC {P:Program} (w:World) (t tx ty e:TypeId) (i:TypeInfo) (ht:P.underlying t=some (.slice e)) (hi:P.info? e=some i) (hz:i.zero=some (.int .u8 0)) (hsize:i.size=1) (hby:i.bytes=1)
  {g cap:Nat} {l:List UInt8} (h:OwnC w g cap l) (x:Value) (l2:List UInt8) (hs:Src P 1 tx x l2.length (Lib.byteCells l2) w) (hlen:l.length+l2.length≤1000000) :
  ∃g' cap' w',(Builtin.append_ #[t,tx] ty #[.slice (some ⟨g,0,none⟩) l.length cap,x]).run P w=.ok (.slice (some ⟨g',0,none⟩) (l++l2).length cap') w'∧OwnC w' g' cap' (l++l2)∧w.grownBy w' (some g)∧(g'=g∨g'=w.heap.size):=by
 obtain ⟨h1,h2,h3,h4,h5⟩:=h
 have hbl:(Lib.byteCells l2).length=l2.length:=by simp[Lib.byteCells]
 by_cases hroom:l.length+l2.length≤cap
 ·have hsome:∀j,j<(Lib.byteCells l2).length→(w.cell? ⟨g,l.length+j,none⟩).isSome=true:=fun j hj=>(h5 _ (by omega)).1
  have hr:=run_append_room_src (P:=P) w t tx ty e i ht hi g 0 l.length cap x l2.length (Lib.byteCells l2) (by rw[hsize];exact hs) hroom (by rw[hsize];simpa using hsome) (by rw[hsize];intro j hj;simpa using (h5 (l.length+j) (by omega)).2)
  rw[hsize,Nat.zero_add,Nat.mul_one] at hr
  refine ⟨g,cap,_,by rw[hr,List.length_append],⟨?_,by rw[List.length_append];exact hroom,h3,fun j hj=>?_,fun j hj=>?_⟩,?_,.inl rfl⟩
  ·have:=(Lib.below_setCells_w (B:=0) (Nat.zero_le g) (Lib.byteCells l2) l.length w).size
   omega
  ·rw[List.length_append] at hj
   by_cases hjl:j<l.length
   ·rw[World.cell?_setCells_out g _ _ _ _ (fun _ _=>.inl hjl),getD_append_leftX hjl]
    exact h4 j hjl
   ·have hin:=World.cell?_setCells_in g (Lib.byteCells l2) l.length w hsome (j-l.length) (by omega)
    rw[show l.length+(j-l.length)=j by omega] at hin
    rw[hin,getD_append_rightX (by omega),←byteCells_atX l2 (by omega),List.getElem?_eq_getElem (by omega)]
  ·refine ⟨?_,?_⟩
   ·by_cases hc:l.length≤j∧j<l.length+(Lib.byteCells l2).length
    ·have hin:=World.cell?_setCells_in g (Lib.byteCells l2) l.length w hsome (j-l.length) (by omega)
     rw[show l.length+(j-l.length)=j by omega] at hin
     rw[hin];rfl
    ·rw[World.cell?_setCells_out g _ _ _ _ (fun _ _=>by show j<_∨_≤j;omega)]
     exact (h5 j hj).1
   ·rw[World.frozen?_setCells];exact (h5 j hj).2
  ·have hb:=Lib.below_setCells_w (B:=0) (Nat.zero_le g) (Lib.byteCells l2) l.length w
   exact ⟨hb.os,hb.tape,hb.output,hb.size,fun k hk hne=>World.heap_setCells_other w g _ _ hk (fun e=>hne (by rw[e]))⟩
 ·have hold:=run_firstCells_some (P:=P) w.drew 1 l.length ⟨g,0,none⟩ l.length cap (Lib.byteCells l) (by simp[Lib.byteCells]) (fun j v hv=>by
   have hj:j<l.length:=by
    have:=(List.getElem?_eq_some_iff.1 hv).1
    simpa [Lib.byteCells] using this
   rw[byteCells_atX l hj] at hv
   cases hv
   rw[addr_addX]
   exact h4 j hj)
  have hfit:=growslice_fits (need:=l.length+l2.length) (old:=cap) (bytes:=1) (by omega) (by omega)
  have hr:=run_append_grow_src (P:=P) w t tx ty e i (.int .u8 0) ht hi hz (some ⟨g,0,none⟩) l.length cap (Lib.byteCells l) (by rw[hsize];exact hold) x l2.length (Lib.byteCells l2) (by rw[hsize];exact hs) (by omega) (by omega) (by rw[hby];exact hfit)
  have hge:=grownCap_ge w (l.length+l2.length) cap e
  have hbl1:(Lib.byteCells l).length=l.length:=by simp[Lib.byteCells]
  refine ⟨w.heap.size,_,_,by rw[hr,List.length_append],⟨by simp,by rw[List.length_append];exact hge,grownCap_le_maxLen w _ cap e (by unfold maxLen;omega),fun j hj=>?_,fun j hj=>?_⟩,?_,.inr rfl⟩
  ·rw[List.length_append] at hj
   have hc:=World.cell?_alloc_new w.drew ((Lib.byteCells l++Lib.byteCells l2).toArray++Builtin.zeroCells (Value.int .u8 0).cells (grownCap w (l.length+l2.length) cap e-(l.length+l2.length))) e j
   refine Eq.trans hc ?_
   rw[Array.getElem?_append_left (by simp[hbl,hbl1];omega)]
   have:Lib.byteCells l++Lib.byteCells l2=Lib.byteCells (l++l2):=by simp[Lib.byteCells]
   rw[this]
   have h9:=byteCells_atX (l++l2) (j:=j) (by rw[List.length_append];exact hj)
   simpa using h9
  ·refine ⟨?_,World.frozen?_alloc_new w.drew _ e j⟩
   have hc:=World.cell?_alloc_new w.drew ((Lib.byteCells l++Lib.byteCells l2).toArray++Builtin.zeroCells (Value.int .u8 0).cells (grownCap w (l.length+l2.length) cap e-(l.length+l2.length))) e j
   have hcs:((Lib.byteCells l++Lib.byteCells l2).toArray++Builtin.zeroCells (Value.int .u8 0).cells (grownCap w (l.length+l2.length) cap e-(l.length+l2.length))).size=grownCap w (l.length+l2.length) cap e:=by
    simp[Builtin.zeroCells,Value.cells,hbl,hbl1];omega
   rw[show ((w.drew.alloc (.cells ((Lib.byteCells l++Lib.byteCells l2).toArray++Builtin.zeroCells (Value.int .u8 0).cells (grownCap w (l.length+l2.length) cap e-(l.length+l2.length))) e)).cell? ⟨w.heap.size,j,none⟩)=_ from hc]
   rw[Array.getElem?_eq_getElem (by omega)]
   rfl
  ·have hb:=((Below.refl 0 w).drew).alloc (Nat.zero_le _) (.cells ((Lib.byteCells l++Lib.byteCells l2).toArray++Builtin.zeroCells (Value.int .u8 0).cells (grownCap w (l.length+l2.length) cap e-(l.length+l2.length))) e)
   exact ⟨hb.os,hb.tape,hb.output,hb.size,fun k hk _=>Below.heap_alloc w.drew _ k hk⟩
theorem wpList_append_ownC {P:Program} (w:World) {ops:Array Oper} {rest:List Oper} {o:Oper} {a:Act} {Q:Exit→Act→World→Prop} (hgd:o.guard=none) (s x:Operand) (t tx:TypeId) (ho:o.op=.call { callee:=.builtin .append,args:=#[s,x],argTypes:=#[t,tx] })
  (e:TypeId) (i:TypeInfo) (ht:P.underlying t=some (.slice e)) (hi:P.info? e=some i) (hz:i.zero=some (.int .u8 0)) (hsize:i.size=1) (hby:i.bytes=1)
  {g cap:Nat} {l:List UInt8} (hs:a.eval s=.slice (some ⟨g,0,none⟩) l.length cap) (h:OwnC w g cap l) (xv:Value) (hx:a.eval x=xv) (l2:List UInt8) (hsr:Src P 1 tx xv l2.length (Lib.byteCells l2) w) (hlen:l.length+l2.length≤1000000)
  (hK:∀g' cap' w',OwnC w' g' cap' (l++l2)→w.grownBy w' (some g)→(g'=g∨g'=w.heap.size)→wpList P ops Q rest (a.put o.dst (.slice (some ⟨g',0,none⟩) (l++l2).length cap')) w'):wpList P ops Q (o :: rest) a w:=by
 refine wpList_plain hgd fun K hK'=>?_
 obtain ⟨g',cap',w',hr,h2,h3,h4⟩:=run_append_ownC (P:=P) w t tx o.type e i ht hi hz hsize hby h xv l2 hsr hlen
 unfold Oper.wp execOp
 simp only[ho,resolve,invoke,builtin,Sem.run_bind,Sem.run_pure,Result.andThen_ok,List.map_toArray,List.map_cons,List.map_nil,hs,hx,hr]
 exact hK' _ _ (hK g' cap' w' h2 h3 h4)
end Go.Proofs.YtkohhdkkbaifoaaGreatDoor
