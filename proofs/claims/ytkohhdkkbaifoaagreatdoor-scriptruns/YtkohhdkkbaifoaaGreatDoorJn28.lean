/-
  Several texts, joined: RPr2, RuL, PtL, RuM, PtM, RuNk.
-/
import Derived.Test.YtkohhdkkbaifoaaGreatDoorJn27
import Derived.Test.YtkohhdkkbaifoaaGreatDoorJn26
import Derived.Test.YtkohhdkkbaifoaaGreatDoorORKw
/-
  Contract of the document's own Print; of the statements' own same.
-/
namespace Go.Proofs.YtkohhdkkbaifoaaGreatDoor
open Go.RowKit PK

theorem wpList_catR {P:Program} {ops:Array Oper} {rest:List Oper} {op:Oper} {a:Act} {w:World} {Q:Exit→Act→World→Prop} (hgd:op.guard=none) (t t':TypeId) (x y:Operand) (ho:op.op=.binOp .add t x y t')
  (S T:ByteArray) (hx:a.eval x=.string S) (hy:a.eval y=.string T) (hsz:S.size+T.size≤9223372036854775807) (h:wpList P ops Q rest (a.put op.dst (.string (S++T))) w):wpList P ops Q (op :: rest) a w :=
 wpList_plain hgd fun _ hK=>by
  unfold Oper.wp execOp
  have h1:¬(S.size+T.size > 9223372036854775807):=by omega
  have h2:(eqGuard .add t x y (.string S) (.string T)).run P w=.ok () w:=by simp[eqGuard]
  have h3:(binOp .add t (.string S) (.string T)).run P w=.ok (.string (S++T)) w:=by rw[binOp_string_add,run_string_add_if,if_neg h1]
  simp only[ho,hx,hy,Sem.run_bind,h2,h3,Result.andThen_ok]
  exact hK _ _ h
theorem wrAll_cycs (p:Nat→Nat) (k:Nat):wrAll (Pm.cycs p (k+1))=if Pm.met p k k=true then wrAll (Pm.cycs p k) else if 1<Pm.len p k then wrAll (Pm.cycs p k)++wr1 (Pm.cyc p k) else wrAll (Pm.cycs p k):=by
 rw[Pm.cycs]
 by_cases h:Pm.met p k k=true
 ·rw[if_pos h,if_pos h]
 ·rw[if_neg h,if_neg h,wrAll_snoc,Pm.cyc_length]
theorem wrAll_cycs_len {p:Nat→Nat} (hp:Pm.IsPerm p) (k:Nat) (hk:k≤26):(wrAll (Pm.cycs p k)).length≤728:=by
 have h1:=wrAll_len (Pm.cycs p k) (fun l hl=>by
  obtain ⟨i,hi,rfl,_⟩:=Pm.mem_cycs p k l hl
  rw[Pm.cyc_length]
  exact (Pm.len_is hp i (by omega)).le)
 have h2:=Pm.cycs_len p k
 omega

set_option maxRecDepth 100000 in
set_option maxHeartbeats 4000000 in
theorem rprint_ok (p:Nat→Nat) (hp:Pm.IsPerm p) (w:World) :
  Calls Tryz.prog 105 #[.agg (ints 26 (Pm.up p))] w fun e w'=>e=.returned (.tuple #[.string ⟨(wrAll (Pm.cycs p 26)).toArray⟩,.int .i64 0])∧Below w.heap.size w w':=by
 have H0:Hid (Pm.wrong (Pm.up p)=0):=Pm.wrong_up p hp
 have HEND:Hid (∀(S:ByteArray) (k:Nat),k=26→S.data.toList=wrAll (Pm.cycs p k)→Ending.returned (.tuple #[.string S,.int .i64 0])=.returned (.tuple #[.string ⟨(wrAll (Pm.cycs p 26)).toArray⟩,.int .i64 0])):=fun S k hk hS=>by
  subst hk
  rw[←hS]
 go_enter Tryz.func105,Tryz.ntmps105
 go_wp2_with (first | refine load_permR rfl _ rfl _ rfl _ (RowAt.new w _ _) ?_)
 refine (rwrong_anyR (Pm.up p) _).mono ?_
 rintro e W1 ⟨rfl,hb0⟩
 obtain ⟨r1,hb1,hs1⟩:=boxed1 hb0
 clear hb0
 rw[H0.out]
 clear H0
 go_wp2
 go_loopw [5,6] (fun s i W=>∃(k:Nat) (S:ByteArray),k≤26∧i=.int .i64 k∧s=.string S∧Hid (S.data.toList=wrAll (Pm.cycs p k))∧S.size≤728∧RowAt W w.heap.size 27 (ints 26 (Pm.up p))∧Below w.heap.size w W) (fun _ i _=>(26-intOf i).toNat)
 case atStart=>exact ⟨0,⟨#[]⟩,by omega,rfl,rfl,rfl,by decide,r1,hb1⟩
 case round =>
  clear r1 hb1 hs1
  obtain ⟨k,S,hk,rfl,rfl,HS,hSz,hrp,hb⟩:=hrel
  have hsz:=hrp.lt
  by_cases hlt:k<26
  ·have HF:Hid (∀W,Calls Tryz.prog 159 #[.agg (ints 26 (Pm.up p)),.int .i64 (k:Nat)] W fun e w'=>e=.returned (.bool (!Pm.met p k k))∧Below W.heap.size W w'):=fun W=>rfirst_any p hp k hlt W
   have HW:Hid (wrAll (Pm.cycs p (k+1))=if Pm.met p k k=true then wrAll (Pm.cycs p k) else if 1<Pm.len p k then wrAll (Pm.cycs p k)++wr1 (Pm.cyc p k) else wrAll (Pm.cycs p k)):=wrAll_cycs p k
   have HWL:=wrAll_cycs_len hp (k+1) (by omega)
   have hlen:=Pm.len_is hp k hlt
   cases hm:Pm.met p k k
   ·rw[hm] at HF
    rw[hm] at HW
    simp only[Bool.false_eq_true,if_false] at HW
    clear hm
    have hpk:=hp.lt k hlt
    by_cases hfix:p k=k
    ·have h1:Pm.len p k=1:=by
      have h2:Pm.IsLen p k 1:=⟨by omega,by omega,hfix,fun j a b=>by omega⟩
      exact hlen.uniq h2
     rw[if_neg (by omega)] at HW
     have hfe:(((p k:Nat):Int)==((k:Nat):Int))=true:=by rw[hfix];simp
     clear hfix
     go_wp2_with (first | refine load_permR rfl _ rfl _ rfl _ hrp ?_)
     refine (HF.out _).mono ?_
     rintro e W2 ⟨rfl,hc2⟩
     have hrp2:=hrp.below hc2 hsz
     have hcc:=hrp2.cell (ints_get (Pm.up p) hlt)
     simp only[Pm.up] at hcc
     go_wp2
     go_roundw
     case rel=>exact ⟨k+1,S,by omega,by go_num,rfl,by rw[Hid,HW.out];exact HS.out,hSz,hrp2,hb.trans (hc2.mono (by omega))⟩
     case measure=>simp[intOf];omega
    ·have h1:1<Pm.len p k:=by
      rcases Nat.lt_or_ge 1 (Pm.len p k) with c | c
      ·exact c
      ·have h3:Pm.len p k=1:=by have:=hlen.pos;omega
       have:=hlen.ret
       rw[h3] at this
       exact absurd this hfix
     rw[if_pos h1] at HW
     have hfe:(((p k:Nat):Int)==((k:Nat):Int))=false:=by simp;omega
     clear hfix
     go_wp2_with (first | refine load_permR rfl _ rfl _ rfl _ hrp ?_)
     refine (HF.out _).mono ?_
     rintro e W2 ⟨rfl,hc2⟩
     have hrp2:=hrp.below hc2 hsz
     have hcc:=hrp2.cell (ints_get (Pm.up p) hlt)
     simp only[Pm.up] at hcc
     have hb2:=hb.trans (hc2.mono (by omega))
     clear hrp hb hc2
     have HE1:Hid ((Utf8.encode (65+(k:Int))).size=1):=by rw[Hid,enc_letter k hlt];rfl
     have HE2:Hid ((S++(⟨#[40]⟩:ByteArray)).size=S.size+1):=by rw[Hid,ByteArray.size_append];rfl
     have HE3:Hid ((⟨#[40]⟩:ByteArray).size=1):=rfl
     go_wp2_with (first | refine wpList_catR rfl _ _ _ _ rfl _ _ rfl rfl (by have:=HE1.out;have:=HE2.out;have:=HE3.out;omega) ?_)
     go_loop [5,7] (fun s a=>∃(m:Nat) (S':ByteArray),1≤m∧m≤Pm.len p k∧s=.string S'∧a=.int .i64 (Pm.iter p m k:Nat)∧Hid (S'.data.toList=wrAll (Pm.cycs p k)++40 :: (List.range m).map fun j=>lb (Pm.iter p j k))∧S'.size≤729+m) (fun _ a=>leftTo p k (intOf a).toNat)
     case atStart =>
      refine ⟨1,_,Nat.le_refl _,hlen.pos,rfl,rfl,?_,?_⟩
      ·rw[Hid,cat_enc _ k hlt,cat_any,HS.out]
       simp[Pm.iter]
      ·rw[enc_letter k hlt]
       simp[ByteArray.size_append]
       have:(⟨#[40]⟩:ByteArray).size=1:=rfl
       have h8:(⟨#[lb k]⟩:ByteArray).size=1:=rfl
       omega
     case round =>
      clear hcc
      obtain ⟨m,S',hm1,hm2,rfl,rfl,HS2,hS2⟩:=hrel
      have hx:=Pm.iter_lt hp k hlt m
      have hle:=hlen.le
      by_cases hml:m<Pm.len p k
      ·have hne:=hlen.min m (by omega) hml
       have HST:Hid (Pm.iter p (m+1) k=p (Pm.iter p m k)):=rfl
       have hbne:(((Pm.iter p m k:Nat):Int) != ((k:Nat):Int))=true:=by simp;omega
       have hc:=hrp2.cell (ints_get (Pm.up p) hx)
       simp only[Pm.up] at hc
       have HMS:Hid (leftTo p k (Pm.iter p (m+1) k)<leftTo p k (Pm.iter p m k)):=by
        rw[Hid,left_iter hp k hlt m hm1 hm2,left_iter hp k hlt (m+1) (by omega) (by omega)];omega
       have HX:Hid ((List.range (m+1)).map (fun j=>lb (Pm.iter p j k))=(List.range m).map (fun j=>lb (Pm.iter p j k))++[lb (Pm.iter p m k)]):=by rw[Hid,List.range_succ,List.map_append];rfl
       rw[HST.out] at HMS
       generalize Pm.iter p m k=x at *
       clear hne
       have HE1:Hid ((Utf8.encode (65+(x:Int))).size=1):=by rw[Hid,enc_letter x hx];rfl
       go_wp2_with (first | refine wpList_catR rfl _ _ _ _ rfl _ _ rfl rfl (by have:=HE1.out;omega) ?_)
       refine ⟨⟨m+1,_,by omega,by omega,rfl,by rw[HST.out],?_,?_⟩,by simpa [intOf] using HMS.out⟩
       ·rw[Hid,cat_enc _ x hx,HS2.out,HX.out]
        simp
       ·rw[enc_letter x hx]
        simp[ByteArray.size_append]
        have h8:(⟨#[lb x]⟩:ByteArray).size=1:=rfl
        omega
      ·have hmm:m=Pm.len p k:=by omega
       have hret:Pm.iter p m k=k:=by rw[hmm];exact hlen.ret
       have hbe:(((Pm.iter p m k:Nat):Int) != ((k:Nat):Int))=false:=by rw[hret];simp
       have HFIN:Hid ((S'++(⟨#[41]⟩:ByteArray)).data.toList=wrAll (Pm.cycs p (k+1))):=by
        rw[Hid,HW.out,cat_any,HS2.out,hmm]
        simp[wr1,Pm.cyc]
       clear hret hmm
       have HE3:Hid ((⟨#[41]⟩:ByteArray).size=1):=rfl
       go_wp2_with (first | refine wpList_catR rfl _ _ _ _ rfl _ _ rfl rfl (by have:=HE3.out;omega) ?_)
       refine ⟨⟨k+1,_,by omega,by go_num,rfl,HFIN,?_,hrp2,hb2⟩,by simp[intOf];omega⟩
       have h9:(S'++(⟨#[41]⟩:ByteArray)).size=(S'++(⟨#[41]⟩:ByteArray)).data.toList.length:=rfl
       rw[h9,HFIN.out]
       exact HWL
   ·rw[hm] at HF
    rw[hm] at HW
    simp only[if_true] at HW
    clear hm
    go_wp2_with (first | refine load_permR rfl _ rfl _ rfl _ hrp ?_)
    refine (HF.out _).mono ?_
    rintro e W2 ⟨rfl,hc2⟩
    go_wp2
    go_roundw
    case rel=>exact ⟨k+1,S,by omega,by go_num,rfl,by rw[Hid,HW.out];exact HS.out,hSz,hrp.below hc2 hsz,hb.trans (hc2.mono (by omega))⟩
    case measure=>simp[intOf];omega
  ·have HK:Hid (k=26):=by rw[Hid];omega
   go_wp2
   go_ret2
   exact ⟨HEND.out S k HK.out HS.out,hb⟩
end Go.Proofs.YtkohhdkkbaifoaaGreatDoor

/-
  The document's Digits, Names and spelt.
-/
namespace Go.Proofs.YtkohhdkkbaifoaaGreatDoor
open Go.RowKit PK Vg

theorem enc_digit (x:Nat) (hx:x<10):Utf8.encode (48+(x:Int))=⟨#[UInt8.ofNat (48+x)]⟩:=by
 have h1:Utf8.valid (48+(x:Int))=true:=by simp[Utf8.valid];omega
 have h2:(48+(x:Int)).toNat=48+x:=by omega
 unfold Utf8.encode
 simp only[h1,h2,if_true]
 rw[if_pos (by omega)]
def dcS (i:Nat):ByteArray:=⟨(Lib.decDigits i).toArray⟩
theorem dcS_size {i:Nat} (h:i<100):(dcS i).size≤2:=by
 have:(dcS i).size=(Lib.decDigits i).length:=rfl
 rw[this]
 by_cases h1:i<10
 ·rw[Lib.decDigits_one h1];simp
 ·rw[Lib.decDigits_two h1 h];simp
set_option maxRecDepth 100000 in
set_option maxHeartbeats 1000000 in
theorem rdig1 (i:Nat) (h:i<10) (w:World):Calls Tryz.prog 51 #[.int .i64 (i:Nat)] w fun e w'=>e=.returned (.string (dcS i))∧w=w':=by
 have henc:Utf8.encode (48+(i:Int))=dcS i:=by rw[enc_digit i h];unfold dcS;rw[Lib.decDigits_one h]
 have hi:(i:Int)<10:=by omega
 have hi0:(0:Int)≤i:=by omega
 generalize dcS i=DS at *
 go_enter Tryz.func51,Tryz.ntmps51
 go_wp2
 go_ret
 exact ⟨by first | rfl | (rw[←henc];rfl),rfl⟩
set_option maxRecDepth 100000 in
set_option maxHeartbeats 1000000 in
theorem rdig_any (i:Nat) (h:i<100) (w:World):Calls Tryz.prog 51 #[.int .i64 (i:Nat)] w fun e w'=>e=.returned (.string (dcS i))∧w=w':=by
 by_cases h1:i<10
 ·exact rdig1 i h1 w
 ·obtain ⟨D,hD⟩:∃D,D=i / 10:=⟨_,rfl⟩
  obtain ⟨M,hM⟩:∃M,M=i % 10:=⟨_,rfl⟩
  have hcat:dcS D++⟨#[UInt8.ofNat (48+M)]⟩=dcS i:=by
   unfold dcS
   rw[Lib.decDigits_one (show D<10 by omega),Lib.decDigits_two h1 h,hD,hM]
   rfl
  have henc:=enc_digit M (by omega)
  have HD:Hid _:=rdig1 D (by omega) w
  have hds:=dcS_size (show D<100 by omega)
  have e1:(i:Int) / 10=(D:Int):=by omega
  have e2:(i:Int) % 10=(M:Int):=by omega
  have e3:(i:Int).tdiv 10=(D:Int):=by rw[Int.tdiv_eq_ediv_of_nonneg (by omega)];exact e1
  have e4:(i:Int).tmod 10=(M:Int):=by rw[Int.tmod_eq_emod_of_nonneg (by omega)];exact e2
  have hi:¬(i:Int)<10:=by omega
  have hi2:(i:Int)≤100:=by omega
  have hm9:(M:Int)≤9:=by omega
  have hm0:(0:Int)≤M:=by omega
  have HC:Hid _:=hcat
  clear hcat hD hM h h1
  generalize dcS i=DI at *
  generalize dcS D=DD at *
  go_enter Tryz.func51,Tryz.ntmps51
  go_wp2_with fail
  refine Calls.mono HD.out ?_
  rintro e V ⟨rfl,rfl⟩
  have hs1:(⟨#[UInt8.ofNat (48+M)]⟩:ByteArray).size=1:=rfl
  generalize (⟨#[UInt8.ofNat (48+M)]⟩:ByteArray)=DM at *
  go_wp2_with (first | refine wpList_catR rfl _ _ _ _ rfl _ _ rfl rfl (by omega) ?_)
  go_ret
  exact ⟨by rw[←HC.out];rfl,rfl⟩
theorem sptL_snoc (k:Nat) (f:Nat→Int):sptL (k+1) f=sptL k f++[ltr (f k).toNat]:=by unfold sptL;rw[List.range_succ,List.map_append];rfl
theorem sptL_len (k:Nat) (f:Nat→Int):(sptL k f).length=k:=by unfold sptL;simp
set_option maxRecDepth 100000 in
set_option maxHeartbeats 1000000 in
theorem rspelt17 (v:Value) (n:Nat) (hn:n≤1000) (f:Nat→Int) (hf:∀i,i<n→0≤f i∧f i≤25) (w:World) (hv:NumsAt w v n f):Calls Tryz.prog 104 #[v] w fun e w'=>e=.returned (.string ⟨(sptL n f).toArray⟩)∧w=w':=by
 obtain ⟨a,ca,rfl,_,hca⟩:=hv
 have HA:Hid (∀c,c<n→∃b o,a=some ⟨b,o,none⟩∧w.cell? ⟨b,o+c,none⟩=some (.int .i64 (f c))):=hca
 have HF:Hid (∀i,i<n→0≤f i∧f i≤25):=hf
 clear hca hf
 go_enter Tryz.func104,Tryz.ntmps104
 go_wp2
 go_loopw [3,8] (fun s i X=>∃(k:Nat) (S:ByteArray),k≤n∧i=.int .i64 (k:Nat)∧s=.string S∧Hid (S.data.toList=sptL k f)∧X=w) (fun _ i _=>((n:Int)-intOf i).toNat)
 case atStart=>exact ⟨0,⟨#[]⟩,by omega,rfl,rfl,rfl,rfl⟩
 case round =>
  obtain ⟨k,S,hk,rfl,rfl,HS,rfl⟩:=hrel
  by_cases hlt:k<n
  ·obtain ⟨b,o,rfl,hc⟩:=HA.out k hlt
   obtain ⟨x,hx⟩:∃x:Nat,f k=(x:Int):=⟨(f k).toNat,by have:=HF.out k hlt;omega⟩
   have hx25:x≤25:=by have:=HF.out k hlt;omega
   have HEN:Hid ((Utf8.encode (65+(x:Int))).size=1):=by rw[Hid,enc_letter x (by omega)];rfl
   have hsz:S.size≤1000:=by rw[Pl.size_len,HS.out,sptL_len];omega
   have HNX:Hid ((S++Utf8.encode (65+(x:Int))).data.toList=sptL (k+1) f):=by
    rw[Hid,cat_enc S x (by omega),HS.out,sptL_snoc,hx]
    rfl
   rw[hx] at hc
   have HLT:Hid (k<n):=hlt
   have hlt2:(k:Int)<(n:Int):=by omega
   clear hx hlt
   have hx2:(x:Int)≤25:=by omega
   have hx0:(0:Int)≤x:=by omega
   go_wp2_with (first | refine wpList_catR rfl _ _ _ _ rfl _ _ rfl rfl (by have:=HEN.out;omega) ?_)
   go_roundw
   case rel=>exact ⟨k+1,_,HLT.out,by go_num,rfl,HNX.out,trivial⟩
   case measure=>have:=HLT.out;simp[intOf];omega
  ·obtain rfl:k=n:=by omega
   have hnn:¬((k:Nat):Int)<((k:Nat):Int):=by omega
   have HE:Hid (S=⟨(sptL k f).toArray⟩):=by rw[Hid,←HS.out]
   go_wp2
   go_ret
   exact ⟨by rw[HE.out];rfl,rfl⟩
end Go.Proofs.YtkohhdkkbaifoaaGreatDoor

/-
  The document's sameWheel.
-/
namespace Go.Proofs.YtkohhdkkbaifoaaGreatDoor
open Go.RowKit PK Vg

set_option maxRecDepth 100000 in
set_option maxHeartbeats 4000000 in
theorem rsameW_any (f g:Nat→Int) (R S:Value) (n m:Nat) (hn:n=m→n≤1048576) (p q:Nat→Int) (w:World) (hR:NumsAt w R n p) (hS:NumsAt w S m q) :
  Calls Tryz.prog 102 #[.agg (whl f R),.agg (whl g S)] w fun e w'=>e=.returned (.bool (eqI 26 f g && numsEq n m p q))∧Below w.heap.size w w':=by
 obtain ⟨CA,hCA⟩:∃CA,CA=whl f R:=⟨_,rfl⟩
 obtain ⟨CB,hCB⟩:∃CB,CB=whl g S:=⟨_,rfl⟩
 rw[←hCA,←hCB]
 obtain ⟨W,hW⟩:∃W,W=(w.alloc (.cells CA 97)).alloc (.cells CB 97):=⟨_,rfl⟩
 have hb1:Below w.heap.size w W:=by rw[hW];exact ((Below.refl _ w).alloc (Nat.le_refl _) _).alloc (by simp) _
 have hq1:RowAt W w.heap.size 97 CA:=by rw[hW];exact (RowAt.new w _ _).alloc _
 have hq2:RowAt W (w.heap.size+1) 97 CB:=by
  rw[hW]
  have:=RowAt.new (w.alloc (.cells CA 97)) 97 CB
  rw[World.size_alloc] at this
  exact this
 have HB:Hid (Below w.heap.size w W):=hb1
 have HR:Hid (NumsAt W R n p):=hR.below hb1
 have HS:Hid (NumsAt W S m q):=hS.below hb1
 have HEQ:Hid _:=rsameN_any R S n m hn p q W HR.out HS.out
 obtain ⟨ra,rc,rfl,-⟩:=id hR
 obtain ⟨sa,sc,rfl,-⟩:=id hS
 have r1:W.rangeAt w.heap.size 0 (ints 26 f).toList:=whl_range (by rw[←hCA];exact hq1)
 have r2:W.rangeAt (w.heap.size+1) 0 (ints 26 g).toList:=whl_range (by rw[←hCB];exact hq2)
 have d1:W.cell? ⟨w.heap.size,26,none⟩=some (.slice ra n rc):=RowAt.cell hq1 (by rw[hCA];exact whl_last _ _)
 have d2:W.cell? ⟨w.heap.size+1,26,none⟩=some (.slice sa m sc):=RowAt.cell hq2 (by rw[hCB];exact whl_last _ _)
 have hql:=run_eql_perm f g W
 clear hR hS hCA hCB hq1 hq2 hb1 HR HS hn
 by_cases hg:eqI 26 f g=true
 ·rw[hg] at hql ⊢
  rw[Bool.true_and]
  generalize numsEq n m p q=RR at *
  clear hg
  go_enter Tryz.func102,Tryz.ntmps102
  go_upto_region 1 with fail
  rw[←hW]
  clear hW
  go_wp2_with (first | refine wpList_load_arr rfl 27 _ rfl w.heap.size 0 rfl (ints 26 f) _ r1 Tryz.underlying27 rfl (by rw[ints_size];exact info_perm) ?_ | refine wpList_load_arr rfl 27 _ rfl (w.heap.size+1) 0 rfl (ints 26 g) _ r2 Tryz.underlying27 rfl (by rw[ints_size];exact info_perm) ?_)
  refine Calls.mono HEQ.out ?_
  rintro e V2 ⟨rfl,hb2⟩
  have HB3:Hid (Below w.heap.size w V2):=HB.out.trans (hb2.mono HB.out.size)
  clear hb2 HEQ r1 r2 d1 d2 hql
  go_wp2
  go_ret
  exact ⟨rfl,HB3.out⟩
 ·have hg2:eqI 26 f g=false:=by simpa using hg
  rw[hg2] at hql ⊢
  rw[Bool.false_and]
  clear hg hg2 HEQ
  go_enter Tryz.func102,Tryz.ntmps102
  go_upto_region 1 with fail
  rw[←hW]
  clear hW
  go_wp2_with (first | refine wpList_load_arr rfl 27 _ rfl w.heap.size 0 rfl (ints 26 f) _ r1 Tryz.underlying27 rfl (by rw[ints_size];exact info_perm) ?_ | refine wpList_load_arr rfl 27 _ rfl (w.heap.size+1) 0 rfl (ints 26 g) _ r2 Tryz.underlying27 rfl (by rw[ints_size];exact info_perm) ?_)
  go_ret
  exact ⟨rfl,HB.out⟩
end Go.Proofs.YtkohhdkkbaifoaaGreatDoor

/-
  For the document's Machine in words: names of wheels, by all five.
-/
namespace Go.Proofs.YtkohhdkkbaifoaaGreatDoor
open Go.RowKit PK Vg

theorem eqI_symm (n:Nat) (f g:Nat→Int):eqI n f g=eqI n g f:=by
 rw[Bool.eq_iff_iff,eqI_iff,eqI_iff]
 exact ⟨fun h i hi=>(h i hi).symm,fun h i hi=>(h i hi).symm⟩
theorem numsEq_symm (n m:Nat) (f g:Nat→Int):numsEq n m f g=numsEq m n g f:=by
 unfold numsEq
 by_cases h:n=m
 ·subst h;rw[eqI_symm]
 ·rw[show decide (n=m)=false by simpa using h,show decide (m=n)=false by simpa using fun e=>h e.symm]
  rfl
theorem kn_apart:∀i,i<5→∀j,j<5→eqI 26 (knW (whN i).data.toList) (knW (whN j).data.toList)=true→i=j:=by decide +kernel
theorem whB_one {wi:Nat→Int} {nl:Nat} {no:Nat→Int} {i j:Nat} (hi:i<5) (hj:j<5) (h1:whB wi nl no i=true) (h2:whB wi nl no j=true):i=j:=by
 unfold whB at h1 h2
 rw[Bool.and_eq_true] at h1 h2
 refine kn_apart i hi j hj (eqI_of fun c hc=>?_)
 exact ((eqI_iff _ _ _).1 h1.1 c hc).symm.trans ((eqI_iff _ _ _).1 h2.1 c hc)
def lstB (p:Nat→Bool):Nat→Option Nat
 | 0=>none
 | m+1=>if p m=true then some m else lstB p m
theorem lstB_some {p:Nat→Bool}:∀{m i:Nat},lstB p m=some i→i<m∧p i=true
 | 0,i,h=>by cases h
 | m+1,i,h=>by
  unfold lstB at h
  by_cases e:p m=true
  ·rw[if_pos e] at h;cases h;exact ⟨by omega,e⟩
  ·rw[if_neg e] at h;obtain ⟨h1,h2⟩:=lstB_some h;exact ⟨by omega,h2⟩
theorem lstB_none {p:Nat→Bool}:∀{m:Nat},lstB p m=none→∀i,i<m→p i=false
 | 0,_,i,hi=>by omega
 | m+1,h,i,hi=>by
  unfold lstB at h
  by_cases e:p m=true
  ·rw[if_pos e] at h;cases h
  ·rw[if_neg e] at h
   by_cases ei:i=m
   ·rw[ei];simpa using e
   ·exact lstB_none h i (by omega)
theorem lst_fst (wi:Nat→Int) (nl:Nat) (no:Nat→Int):lstB (whB wi nl no) 5=whF wi nl no:=by
 unfold whF
 cases h:lstB (whB wi nl no) 5 with
 | none=>exact (fstB_none (lstB_none h)).symm
 | some i =>
  obtain ⟨h1,h2⟩:=lstB_some h
  cases h3:fstB (whB wi nl no) 5 with
  | none=>exact absurd h3 (fstB_ex h1 h2)
  | some j =>
   obtain ⟨h4,h5⟩:=fstB_some h3
   rw[whB_one h1 h4 h2 h5]
theorem whN_ne (i:Nat) (h:i<5):(whN i).data.toList≠[]:=(whN_ok i h).1
def lnm (wi:Nat→Int) (nl:Nat) (no:Nat→Int) (m:Nat):ByteArray:=((lstB (whB wi nl no) m).map whN).getD ⟨#[]⟩
theorem lnm_step (wi:Nat→Int) (nl:Nat) (no:Nat→Int) (m:Nat):lnm wi nl no (m+1)=if whB wi nl no m=true then whN m else lnm wi nl no m:=by
 unfold lnm
 rw[lstB]
 by_cases h:whB wi nl no m=true
 ·rw[if_pos h,if_pos h];rfl
 ·rw[if_neg h,if_neg h]
theorem lnm_none {wi:Nat→Int} {nl:Nat} {no:Nat→Int} (h:whF wi nl no=none):lnm wi nl no 5=⟨#[]⟩:=by unfold lnm;rw[lst_fst,h];rfl
theorem lnm_some {wi:Nat→Int} {nl:Nat} {no:Nat→Int} {i:Nat} (h:whF wi nl no=some i):lnm wi nl no 5=whN i:=by unfold lnm;rw[lst_fst,h];rfl
theorem lnm_size (wi:Nat→Int) (nl:Nat) (no:Nat→Int) (m:Nat):(lnm wi nl no m).size≤3:=by
 unfold lnm
 cases lstB (whB wi nl no) m with
 | none=>decide
 | some i=>exact (by have:=whN_len i;rw[←Pl.size_len] at this;exact this)
def nmJ (g:Gm):Nat→List UInt8
 | 0=>[]
 | k+1=>nmJ g k++(if k=0 then [] else [44])++(wnm g k).data.toList
theorem join_snoc (xs:List (List UInt8)) (x:List UInt8) (s:List UInt8):Lib.join (xs++[x]) s=Lib.join xs s++(if xs=[] then [] else s)++x:=by
 cases xs with
 | nil=>simp[Lib.join]
 | cons a xs =>
  rw[List.cons_append,Lib.join_cons,Lib.join_cons,if_neg (by simp)]
  have:Lib.joinTail s (xs++[x])=Lib.joinTail s xs++s++x:=by
   induction xs with
   | nil=>simp[Lib.joinTail]
   | cons b xs ih=>simp[Lib.joinTail] at ih ⊢
  rw[this]
  simp
theorem nmJ_join (g:Gm):∀k,nmJ g k=Lib.join ((((List.range k).map (wnm g))).map (·.data.toList)) [44]
 | 0=>rfl
 | k+1=>by
  rw[nmJ,nmJ_join g k,List.range_succ,List.map_append,List.map_append,show (List.map (fun x:ByteArray=>x.data.toList) (List.map (wnm g) [k]))=[(wnm g k).data.toList] from rfl,join_snoc]
  congr 2
  by_cases h:k=0
  ·subst h;rfl
  ·rw[if_neg h,if_neg (by simp[h])]
theorem nmJ_len (g:Gm):∀k,(nmJ g k).length≤4*k
 | 0=>by simp[nmJ]
 | k+1=>by
  have:=nmJ_len g k
  have h2:(wnm g k).data.toList.length≤3:=whN_len _
  rw[nmJ,List.length_append,List.length_append]
  by_cases h:k=0
  ·rw[if_pos h,List.length_nil];omega
  ·rw[if_neg h,List.length_cons,List.length_nil];omega
end Go.Proofs.YtkohhdkkbaifoaaGreatDoor

/-
  The document's SameMachine, of machines that have the same.
-/
namespace Go.Proofs.YtkohhdkkbaifoaaGreatDoor
open Go.RowKit PK Vg

end Go.Proofs.YtkohhdkkbaifoaaGreatDoor

/-
  For the document's Machine in words.
-/
namespace Go.Proofs.YtkohhdkkbaifoaaGreatDoor
open Go.RowKit PK Vg

def rot6:List UInt8:=[114,111,116,111,114,32]
theorem cat17 (S T:ByteArray):(S++T).data.toList=S.data.toList++T.data.toList:=by simp
theorem cat_sz (S T:ByteArray):(S++T).size=S.size+T.size:=by simp
def nms5:Array Value:=#[.string (whN 0),.string (whN 1),.string (whN 2),.string (whN 3),.string (whN 4)]
theorem nms5_get {m:Nat} (h:m<5):nms5[m]? = some (.string (whN m)):=by
 have:m=0∨m=1∨m=2∨m=3∨m=4:=by omega
 rcases this with rfl | rfl | rfl | rfl | rfl <;> rfl
theorem sameK {f KW:Nat→Int} {nl k:Nat} {no kn:Nat→Int}:(eqI 26 KW f && numsEq k nl kn no)=(eqI 26 f KW && numsEq nl k no kn):=by rw[eqI_symm,numsEq_symm]
theorem kn_few17:∀j,j<5→(knN (whN j).data.toList).length≤26:=by decide +kernel
theorem mcE_bad {g:Gm} {k:Nat} (hk:k<g.n) (h:whF (g.wi k) (g.nl k) (g.no k)=none):mcE g≠0:=fun e=>by
 obtain ⟨j,hj⟩:=(mcE_zero e).1 k hk
 rw[h] at hj
 cases hj
theorem ba_ne_nil {b:ByteArray} (h:b.data.toList≠[]):(b.toList==[])=false:=by
 rw[ba_toList]
 cases hb:b.data.toList with
 | nil=>exact absurd hb h
 | cons _ _=>rfl
theorem run_cat17 {P:Program} {ρ:Operand→Value} {oi:Oper} {t t':TypeId} {x y:Operand} (ho:oi.op=.binOp .add t x y t') {S T:ByteArray} (hx:ρ x=.string S) (hy:ρ y=.string T) (hsz:S.size+T.size≤9223372036854775807) (W:World):(execOp ρ oi).run P W=.ok (.value (.string (S++T))) W:=by
 have h1:¬(S.size+T.size > 9223372036854775807):=by omega
 have h2:(eqGuard .add t x y (.string S) (.string T)).run P W=.ok () W:=by simp[eqGuard]
 have h3:(binOp .add t (.string S) (.string T)).run P W=.ok (.string (S++T)) W:=by rw[binOp_string_add,run_string_add_if,if_neg h1]
 unfold execOp
 simp only[ho,hx,hy,Sem.run_bind,h2,h3,Result.andThen_ok]
 rfl
theorem rpl_print {g:Gm} (hg:gE g=0) (w:World):Calls Tryz.prog 105 #[.agg (ints 26 g.pl)] w fun e w'=>e=.returned (.tuple #[.string ⟨(plS g).toArray⟩,.int .i64 0])∧Below w.heap.size w w':=by
 obtain ⟨_,_,_,_,_,h10,_⟩:=gE_zero hg
 obtain ⟨hpl,epl⟩:=perm_toNat h10
 have h:=rprint_ok _ hpl w
 rw[ints_ext (f:=g.pl) (g:=Pm.up fun c=>(g.pl c).toNat) (fun i hi=>epl i hi)]
 exact h
def txM (g:Gm):List UInt8:=rot6++Lib.join ((mcW g).map (·.data.toList)) [32]
theorem txM_eq (g:Gm):txM g=rot6++nmJ g g.n++([32]++(mrN ((mrF g.rf).getD 0)).data.toList++[32])++sptL g.rl g.ri++[32]++sptL g.sl g.st++(if plS g=[] then [] else [32]++plS g):=by
 unfold txM mcW mc4
 rw[nmJ_join]
 by_cases h:plS g=[]
 ·rw[if_pos h,if_pos h];simp[Lib.join_cons,Lib.joinTail,mcN]
 ·rw[if_neg h,if_neg h];simp[Lib.join_cons,Lib.joinTail,mcN]
end Go.Proofs.YtkohhdkkbaifoaaGreatDoor
