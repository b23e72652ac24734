/-
  Several texts, joined: PrF, PCyc, PCycF, PType, BKit.
-/
import Derived.Test.YtkohhdkkbaifoaaGreatDoorJn23
import Derived.Test.YtkohhdkkbaifoaaGreatDoorJn3
import Derived.Test.YtkohhdkkbaifoaaGreatDoorJn21
import Derived.WalkSpells
import Derived.WalkSmall
import Derived.Lib.OthersKept
import Derived.Lib.SmallJoins
import Derived.WalkKit
import Derived.Laws.BytesString
import Derived.Lib.AppendStr
import Derived.Lib.UnsafeStr
/-
  For script.Print: a matrix in words.
-/
namespace Go.Proofs.YtkohhdkkbaifoaaGreatDoor
open Go.RowKit PK Vg

theorem str3:(Tryz.prog.info? 9).map (fun i=>(i.zero,i.size,i.bytes))=some (some (.string ⟨#[]⟩),1,16):=by kernel_rfl
def OwT (W:World) (B:Nat) (v:Value) (xs:List ByteArray):Prop:=W.ownsRow B 9 1 v xs.length (xs.map Value.string)
theorem OwT.below {W W':World} {B:Nat} {v:Value} {xs:List ByteArray} (h:OwT W B v xs) (hb:Below W.heap.size W W'):OwT W' B v xs:=own_step17 h hb
theorem OwT.first {W:World} {B:Nat} (hB:B≤W.heap.size) (x:ByteArray):OwT (W.alloc (.cells #[.string x] 9)) B (.slice (some ⟨W.heap.size,0,none⟩) 1 1) [x] :=
 ⟨rfl,.inr ⟨W.heap.size,1,#[.string x],rfl,hB,RowAt.new W _ _,Nat.le_refl _,by decide,rfl,rfl⟩⟩
theorem OwT.cells {W:World} {B:Nat} {v:Value} {xs:List ByteArray} (h:OwT W B v xs) (h0:xs≠[]):∃g cap,v=.slice (some ⟨g,0,none⟩) xs.length cap∧B≤g∧g<W.heap.size∧xs.length≤cap∧∀(j:Nat) x,xs[j]? = some x→W.cell? ⟨g,0+j,none⟩=some (.string x):=by
 obtain ⟨hl,⟨rfl,hn⟩ | ⟨g,cap,cur,rfl,h1,h2,h3,h4,h5,h6⟩⟩:=h
 ·exact absurd (List.length_eq_zero_iff.1 hn) h0
 ·refine ⟨g,cap,rfl,h1,(Array.getElem?_eq_some_iff.1 h2).1,h3,fun j x hx=>?_⟩
  rw[Nat.zero_add,cell_of_row W g j cur 9 (0,0) h2]
  have h7:(xs.map Value.string)[j]? = some (.string x):=by rw[List.getElem?_map,hx];rfl
  rw[←h6,List.getElem?_take] at h7
  split at h7
  ·rw[←Array.getElem?_toList];exact h7
  ·cases h7
def dcD (x:Int):ByteArray:=⟨(Lib.decDigits x.toNat).toArray⟩
def mwR (Z:Nat→Int) (k:Nat):List ByteArray:=(List.range k).map fun j=>dcD (Z j)
def mwL (n:Nat) (L:Nat→Nat) (Z:Nat→Nat→Int):Nat→List ByteArray
 | 0=>[dcD n]
 | y+1=>mwL n L Z y++mwR (Z y) (L y)
theorem mwR_succ (Z:Nat→Int) (k:Nat):mwR Z (k+1)=mwR Z k++[dcD (Z k)]:=by unfold mwR;rw[List.range_succ,List.map_append];rfl
theorem mwR_len (Z:Nat→Int) (k:Nat):(mwR Z k).length=k:=by simp[mwR]
theorem mwL_len {n:Nat} {L:Nat→Nat} {Z:Nat→Nat→Int}:∀y,(∀r,r<y→L r≤4)→(mwL n L Z y).length≤1+4*y
 | 0,_=>by simp[mwL]
 | y+1,h=>by
  have:=mwL_len (n:=n) (Z:=Z) y (fun r hr=>h r (by omega))
  have h2:=h y (by omega)
  show (mwL n L Z y++mwR (Z y) (L y)).length≤_
  rw[List.length_append,mwR_len]
  omega
set_option maxRecDepth 100000 in
set_option maxHeartbeats 4000000 in
theorem matrixWords_any (v:Value) (n:Nat) (L:Nat→Nat) (Z:Nat→Nat→Int) (hn:n≤4) (hL:∀r,r<n→L r≤4) (hZ:∀r,r<n→∀c,c<L r→0≤Z r c∧Z r c<100) (w:World) (hv:MatAt w v n L Z):Calls Tryz.prog 99 #[v] w fun e w'=>∃v',e=.returned v'∧OwT w' w.heap.size v' (mwL n L Z n)∧Below w.heap.size w w':=by
 have HV:Hid (MatAt w v n L Z):=hv
 obtain ⟨a,cap,RR,rfl,-⟩:=id hv
 obtain ⟨i0,hi0,hz0,hz1,hz2⟩:=info17 str3
 have HI:Hid _:=itoa_any n (by omega) w
 have HL4:Hid _:=hL
 have HZ:Hid _:=hZ
 clear hv hL hZ RR
 go_enter Tryz.func99,Tryz.ntmps99
 go_wp2_with fail
 refine Calls.mono HI.out ?_
 rintro e V ⟨rfl,hV⟩
 rw[hV]
 clear hV V HI
 have HO0:Hid (OwT (w.alloc (.cells #[.string (dcD n)] 9)) w.heap.size (.slice (some ⟨w.heap.size,0,none⟩) 1 1) (mwL n L Z 0)):=OwT.first (Nat.le_refl _) _
 go_upto_region 3 with fail
 go_loopw [3,14] (fun o i W=>∃(y:Nat) (g:Option Addr) (c:Nat),y≤n∧i=.int .i64 y∧o=.slice g (mwL n L Z y).length c∧Hid (OwT W w.heap.size (.slice g (mwL n L Z y).length c) (mwL n L Z y))∧Hid (Below w.heap.size w W)) (fun _ i _=>((n:Int)-intOf i).toNat)
 case atStart=>exact ⟨0,_,_,by omega,rfl,rfl,HO0,(Below.refl _ _).alloc (Nat.le_refl _) _⟩
 case round =>
  clear HO0
  obtain ⟨y,g,c,hy,rfl,rfl,HO,HB⟩:=hrel
  by_cases hlt:y<n
  ·obtain ⟨mb,mo,ra,rc,rfl,hc,HRN⟩:∃mb mo ra rc,a=some ⟨mb,mo,none⟩∧wr.cell? ⟨mb,mo+y,none⟩=some (.slice ra (L y) rc)∧Hid (NumsAt w (.slice ra (L y) rc) (L y) (Z y)):=by
    obtain ⟨_,_,R,e,_,h1,h2⟩:=HV.out
    cases e
    obtain ⟨b,o,e,hc⟩:=h1 y hlt
    have h3:=h2 y hlt
    obtain ⟨ra,rc,e3,h4⟩:=id h3
    rw[e3] at hc h3
    exact ⟨b,o,ra,rc,e,(HB.out.cell (p:=⟨b,o+y,none⟩) (cell_block hc)).trans hc,h3⟩
   have hL4:=HL4.out y hlt
   have hyi:(y:Int)<(n:Int):=by omega
   have HLEN:Hid ((mwL n L Z y).length≤1+4*y):=mwL_len y (fun r hr=>HL4.out r (by omega))
   have HZY:Hid (∀c,c<L y→0≤Z y c∧Z y c<100):=HZ.out y hlt
   have HSX:Hid (mwL n L Z (y+1)=mwL n L Z y++mwR (Z y) (L y)):=rfl
   generalize hBS:mwL n L Z y=BS at *
   generalize L y=LY at *
   generalize Z y=ZY at *
   have HRW:Hid (∀W,Below w.heap.size w W→NumsAt W (.slice ra LY rc) LY ZY):=fun W hW=>HRN.out.below hW
   obtain ⟨W1,hW1⟩:∃W1,W1=wr:=⟨_,rfl⟩
   have HWW:Hid (Below w.heap.size w W1):=by rw[hW1];exact HB
   have HO1:Hid (OwT W1 w.heap.size (.slice g BS.length c) BS):=by rw[hW1];exact HO
   go_upto_region 6 with fail
   rw[←hW1]
   clear hW1 hc HRN HO HB
   go_loopw [3,20] (fun o i W=>∃(x:Nat) (g:Option Addr) (c:Nat),x≤LY∧i=.int .i64 x∧o=.slice g (BS++mwR ZY x).length c∧Hid (OwT W w.heap.size (.slice g (BS++mwR ZY x).length c) (BS++mwR ZY x))∧Hid (Below w.heap.size w W)) (fun _ i _=>((LY:Int)-intOf i).toNat)
   case atStart =>
    have e:BS++mwR ZY 0=BS:=by simp[mwR]
    exact ⟨0,g,c,by omega,rfl,by rw[e],by rw[e];exact HO1,HWW⟩
   case round =>
    clear HO1
    obtain ⟨x,g,c,hx,rfl,rfl,HO,HB⟩:=hrel
    have HWB:Hid (Below w.heap.size w wr):=HB
    by_cases hxl:x<LY
    ·obtain ⟨nb,no,rfl,hcx⟩:∃nb no,ra=some ⟨nb,no,none⟩∧wr.cell? ⟨nb,no+x,none⟩=some (.int .i64 (ZY x)):=by
      obtain ⟨_,_,e,_,h⟩:=HRW.out wr HB.out
      cases e
      obtain ⟨b,o,e,hc⟩:=h x hxl
      exact ⟨b,o,e,hc⟩
     have hz:=HZY.out x hxl
     have HIT:Hid _:=itoa_any (ZY x).toNat (by omega) wr
     rw[Int.toNat_of_nonneg hz.1] at HIT
     have HLE:Hid ((BS++mwR ZY x).length≤100):=by
      have h1:=HLEN.out
      rw[Hid,List.length_append,mwR_len]
      omega
     have HSN:Hid (BS++mwR ZY (x+1)=(BS++mwR ZY x)++[dcD (ZY x)]):=by rw[Hid,mwR_succ,List.append_assoc]
     have hown:=HO.out
     unfold OwT at hown
     have hwz:w.heap.size≤wr.heap.size:=HWB.out.size
     have hxi:(x:Int)<(LY:Int):=by omega
     have hle:=HLE.out
     generalize hYS:BS++mwR ZY x=YS at *
     clear hYS
     go_wp2_with fail
     refine Calls.mono HIT.out ?_
     rintro e V ⟨rfl,hV⟩
     rw[hV]
     clear hV V HIT hcx
     go_wp2_with (first | (at_builtin;refine wpList_append_own_at _ rfl _ _ 51 rfl w.heap.size 9 i0 (.string ⟨#[]⟩) 1 16 Tryz.underlying51 hi0 hz0 hz1 hz2 rfl (by decide) _ _ _ rfl (World.ownsRow.alloc hown _) ⟨wr.heap.size,0,none⟩ 1 1 [.string (dcD (ZY x))] rfl rfl (cell_one_new _ _ _) (fun u hu=>by simp at hu;subst hu;rfl) (by unfold maxLen;omega) (by omega) (by simp;omega) ?_;intro v5 w5 hown5 hgrow5 _ _;obtain ⟨g5,c5,rfl⟩:=own_form17 hown5;have HOWN:Hid _:=hown5;have HGR:Hid _:=hgrow5;clear hown5 hgrow5))
     have hal:Below wr.heap.size wr (wr.alloc (.cells #[.string (dcD (ZY x))] 9)):=(Below.refl _ wr).alloc (Nat.le_refl _) _
     have hlt5:∀r,(Value.slice g YS.length c).ownBlock=some r→w.heap.size≤r:=fun r e=>(World.ownsRow.lt hown r e).1
     have hnew:OwT w5 w.heap.size (.slice g5 (BS++mwR ZY (x+1)).length c5) (BS++mwR ZY (x+1)):=by
      rw[HSN.out]
      unfold OwT
      rw[List.length_append,List.map_append]
      exact HOWN.out
     have hbn:Below w.heap.size w w5:=(HWB.out.trans (hal.mono hwz)).grown HGR.out (by rw[World.size_alloc];omega) hlt5
     go_wp2
     go_roundw
     case rel=>exact ⟨x+1,g5,c5,by omega,by go_num,by rw[HSN.out,List.length_append];rfl,hnew,hbn⟩
     case measure=>simp[intOf];omega
    ·have e:x=LY:=by omega
     have HX:Hid (BS++mwR ZY x=mwL n L Z (y+1)):=by rw[Hid,HSX.out,e]
     have hxi:¬(x:Int)<(LY:Int):=by omega
     clear e hxl
     go_wp2
     go_roundw
     case rel=>exact ⟨y+1,g,c,by omega,by go_num,by rw[HX.out],by rw[←HX.out];exact HO,HWB⟩
     case measure=>simp[intOf];omega
  ·obtain rfl:y=n:=by omega
   have hyi:¬(y:Int)<(y:Int):=by omega
   go_wp2
   go_ret
   exact ⟨_,rfl,HO.out,HB.out⟩
end Go.Proofs.YtkohhdkkbaifoaaGreatDoor

/-
  Plain mathematics of no program: the cycles of a permutation.
-/
namespace Go.Proofs.YtkohhdkkbaifoaaGreatDoor.Pm

def iter (p:Nat→Nat):Nat→Nat→Nat
 | 0,i=>i
 | k+1,i=>p (iter p k i)
theorem iter_lt {p:Nat→Nat} (hp:IsPerm p) (i:Nat) (hi:i<26):∀k,iter p k i<26
 | 0=>hi
 | k+1=>hp.lt _ (iter_lt hp i hi k)
theorem iter_add (p:Nat→Nat) (i:Nat):∀a b,iter p (a+b) i=iter p a (iter p b i)
 | 0,b=>by rw[Nat.zero_add];rfl
 | a+1,b=>by
  rw[Nat.add_right_comm]
  show p (iter p (a+b) i)=p (iter p a (iter p b i))
  rw[iter_add p i a b]
theorem iter_inj {p:Nat→Nat} (hp:IsPerm p) (i j:Nat) (hi:i<26) (hj:j<26):∀k,iter p k i=iter p k j→i=j
 | 0,h=>h
 | k+1,h=>iter_inj hp i j hi hj k (hp.inj _ _ (iter_lt hp i hi k) (iter_lt hp j hj k) h)
theorem iter_back {p:Nat→Nat} (hp:IsPerm p) (i:Nat) (hi:i<26) (a b:Nat) (hab:a≤b) (h:iter p a i=iter p b i):iter p (b-a) i=i:=by
 have h1:iter p b i=iter p a (iter p (b-a) i):=by rw[←iter_add];congr 1;omega
 rw[h1] at h
 exact (iter_inj hp i _ hi (iter_lt hp i hi _) a h).symm
theorem iter_returns {p:Nat→Nat} (hp:IsPerm p) (i:Nat) (hi:i<26):∃n,0<n∧n≤26∧iter p n i=i:=by
 apply Classical.byContradiction
 intro hn
 have h1:=nodup_map (fun k=>iter p k i) (List.range 27) List.nodup_range (fun a ha b hb e=>by
  simp at ha hb
  apply Classical.byContradiction
  intro hne
  rcases Nat.lt_or_ge a b with c | c
  ·exact hn ⟨b-a,by omega,by omega,iter_back hp i hi a b (by omega) e⟩
  ·exact hn ⟨a-b,by omega,by omega,iter_back hp i hi b a (by omega) e.symm⟩)
 have h2:=nodup_le _ (List.range 26) h1 (fun x hx=>by
  obtain ⟨k,_,e⟩:=List.mem_map.1 hx
  rw[←e]
  simpa using iter_lt hp i hi k)
 simp at h2
def len (p:Nat→Nat) (i:Nat):Nat:=((List.range 27).find? fun n=>decide (0<n) && iter p n i==i).getD 0
theorem find_range (q:Nat→Bool):∀n x,(List.range n).find? q=some x→∀j,j<x→q j=false:=by
 intro n
 induction n with
 | zero=>intro x h;simp at h
 | succ n ih =>
  intro x h j hj
  rw[List.range_succ,List.find?_append] at h
  cases h1:(List.range n).find? q with
  | some y =>
   rw[h1] at h
   simp at h
   exact ih x (by rw[h1,h]) j hj
  | none =>
   rw[h1] at h
   simp at h
   have:=List.find?_eq_none.1 h1 j (by simp;omega)
   simpa using this
structure IsLen (p:Nat→Nat) (i n:Nat):Prop where
 pos:0<n
 le:n≤26
 ret:iter p n i=i
 min:∀j,0<j→j<n→iter p j i≠i
theorem len_is {p:Nat→Nat} (hp:IsPerm p) (i:Nat) (hi:i<26):IsLen p i (len p i):=by
 unfold len
 cases h:(List.range 27).find? fun n=>decide (0<n) && iter p n i==i with
 | none =>
  obtain ⟨n,h0,h1,h2⟩:=iter_returns hp i hi
  have:=List.find?_eq_none.1 h n (by simp;omega)
  simp[h2] at this
  omega
 | some n =>
  have h1:=List.find?_some h
  have h2:=List.mem_of_find?_eq_some h
  have h3:=find_range _ _ _ h
  simp at h1 h2
  refine ⟨h1.1,by simp;omega,h1.2,fun j hj hjn e=>?_⟩
  have:=h3 j hjn
  simp[e] at this
  omega
theorem IsLen.uniq {p:Nat→Nat} {i n m:Nat} (h:IsLen p i n) (h':IsLen p i m):n=m:=by
 rcases Nat.lt_trichotomy n m with c | c | c
 ·exact absurd h.ret (h'.min n h.pos c)
 ·exact c
 ·exact absurd h'.ret (h.min m h'.pos c)
def cyc (p:Nat→Nat) (i:Nat):List Nat:=(List.range (len p i)).map fun k=>iter p k i
theorem cyc_length (p:Nat→Nat) (i:Nat):(cyc p i).length=len p i:=by simp[cyc]
theorem iter_mul {p:Nat→Nat} {i n:Nat} (h:iter p n i=i):∀c,iter p (n*c) i=i
 | 0=>rfl
 | c+1=>by rw[Nat.mul_succ,iter_add,h,iter_mul h c]
theorem iter_mod {p:Nat→Nat} {i n:Nat} (h:iter p n i=i) (k:Nat):iter p k i=iter p (k % n) i:=by
 have h1:k=k % n+n*(k / n):=by have:=Nat.div_add_mod k n;omega
 rw (occs:=.pos [1]) [h1]
 rw[iter_add,iter_mul h]
theorem mem_cyc {p:Nat→Nat} (hp:IsPerm p) (i:Nat) (hi:i<26) (x:Nat):x ∈ cyc p i↔∃k,iter p k i=x:=by
 constructor
 ·intro h
  obtain ⟨k,_,e⟩:=List.mem_map.1 h
  exact ⟨k,e⟩
 ·rintro ⟨k,e⟩
  have hl:=len_is hp i hi
  rw[iter_mod hl.ret] at e
  exact List.mem_map.2 ⟨k % len p i,by simpa using Nat.mod_lt _ hl.pos,e⟩
theorem cyc_lt {p:Nat→Nat} (hp:IsPerm p) (i:Nat) (hi:i<26) (x:Nat) (h:x ∈ cyc p i):x<26:=by
 obtain ⟨k,e⟩:=(mem_cyc hp i hi x).1 h
 rw[←e];exact iter_lt hp i hi k
theorem cyc_self {p:Nat→Nat} (hp:IsPerm p) (i:Nat) (hi:i<26):i ∈ cyc p i:=(mem_cyc hp i hi i).2 ⟨0,rfl⟩
theorem cyc_trans {p:Nat→Nat} (hp:IsPerm p) (i j x:Nat) (hi:i<26) (hj:j<26) (h1:i ∈ cyc p j) (h2:x ∈ cyc p i):x ∈ cyc p j:=by
 obtain ⟨a,e1⟩:=(mem_cyc hp j hj i).1 h1
 obtain ⟨b,e2⟩:=(mem_cyc hp i hi x).1 h2
 exact (mem_cyc hp j hj x).2 ⟨b+a,by rw[iter_add,e1,e2]⟩
theorem cyc_symm {p:Nat→Nat} (hp:IsPerm p) (i j:Nat) (hj:j<26) (h:i ∈ cyc p j):j ∈ cyc p i:=by
 have hi:=cyc_lt hp j hj i h
 obtain ⟨a,e⟩:=(mem_cyc hp j hj i).1 h
 have hl:=len_is hp j hj
 refine (mem_cyc hp i hi j).2 ⟨len p j*(a+1)-a,?_⟩
 rw[←e,←iter_add]
 have:len p j*(a+1)-a+a=len p j*(a+1):=by
  have h1:a+1≤len p j*(a+1):=Nat.le_mul_of_pos_left _ hl.pos
  omega
 rw[this]
 exact iter_mul hl.ret _
theorem cyc_nodup {p:Nat→Nat} (hp:IsPerm p) (i:Nat) (hi:i<26):(cyc p i).Nodup:=by
 have hl:=len_is hp i hi
 refine nodup_map _ _ List.nodup_range fun a ha b hb e=>?_
 simp at ha hb
 apply Classical.byContradiction
 intro hne
 rcases Nat.lt_or_ge a b with c | c
 ·exact hl.min (b-a) (by omega) (by omega) (iter_back hp i hi a b (by omega) e)
 ·exact hl.min (a-b) (by omega) (by omega) (iter_back hp i hi b a (by omega) e.symm)
def met (p:Nat→Nat) (k x:Nat):Bool:=(List.range k).any fun i=>(cyc p i).contains x
theorem met_succ (p:Nat→Nat) (k x:Nat):met p (k+1) x=(met p k x || (cyc p k).contains x):=by simp[met,List.range_succ,List.any_append]
theorem met_iff (p:Nat→Nat) (k x:Nat):met p k x=true↔∃i,i<k∧x ∈ cyc p i:=by simp[met]
theorem met_again {p:Nat→Nat} (hp:IsPerm p) (k:Nat) (hk:k<26) (h:met p k k=true) (x:Nat):met p (k+1) x=met p k x:=by
 rw[met_succ]
 cases hm:met p k x with
 | true=>rfl
 | false =>
  rw[Bool.false_or]
  obtain ⟨i,hi,hx⟩:=(met_iff p k k).1 h
  cases hc:(cyc p k).contains x with
  | false=>rfl
  | true =>
   have h1:x ∈ cyc p k:=by simpa using hc
   have:=(met_iff p k x).2 ⟨i,hi,cyc_trans hp k i x hk (by omega) hx h1⟩
   rw[hm] at this
   cases this
def cycs (p:Nat→Nat):Nat→List (List Nat)
 | 0=>[]
 | k+1=>if met p k k=true then cycs p k else cycs p k++[cyc p k]
theorem mem_cycs (p:Nat→Nat):∀k c,c ∈ cycs p k→∃i,i<k∧c=cyc p i∧met p i i=false
 | 0,c,h=>by cases h
 | k+1,c,h=>by
  unfold cycs at h
  split at h
  ·obtain ⟨i,hi,e⟩:=mem_cycs p k c h
   exact ⟨i,by omega,e⟩
  ·rename_i hm
   rcases List.mem_append.1 h with h | h
   ·obtain ⟨i,hi,e⟩:=mem_cycs p k c h
    exact ⟨i,by omega,e⟩
   ·simp at h
    exact ⟨k,by omega,h,by simpa using hm⟩
theorem mem_flat {p:Nat→Nat} (hp:IsPerm p):∀k,k≤26→∀x,x ∈ (cycs p k).flatten↔met p k x=true
 | 0,_,x=>by simp[cycs,met]
 | k+1,hk,x=>by
  have ih:=mem_flat hp k (by omega) x
  unfold cycs
  split
  ·rename_i hm
   rw[met_again hp k (by omega) hm x]
   exact ih
  ·rw[List.flatten_append,List.mem_append,ih,met_succ]
   simp
theorem flat_nodup {p:Nat→Nat} (hp:IsPerm p):∀k,k≤26→(cycs p k).flatten.Nodup
 | 0,_=>by simp[cycs]
 | k+1,hk=>by
  have ih:=flat_nodup hp k (by omega)
  unfold cycs
  split
  ·exact ih
  ·rename_i hm
   rw[List.flatten_append,List.nodup_append]
   refine ⟨ih,by simpa using cyc_nodup hp k (by omega),fun a ha b hb e=>?_⟩
   subst e
   have h1:=(mem_flat hp k (by omega) a).1 ha
   have h2:a ∈ cyc p k:=by simpa using hb
   obtain ⟨i,hi,h3⟩:=(met_iff p k a).1 h1
   have ha26:=cyc_lt hp k (by omega) a h2
   have:k ∈ cyc p i:=cyc_trans hp a i k ha26 (by omega) h3 (cyc_symm hp a k (by omega) h2)
   exact hm ((met_iff p k k).2 ⟨i,hi,this⟩)
theorem flat_all {p:Nat→Nat} (hp:IsPerm p) (x:Nat):x ∈ (cycs p 26).flatten↔x<26:=by
 rw[mem_flat hp 26 (Nat.le_refl _),met_iff]
 constructor
 ·rintro ⟨i,hi,h⟩;exact cyc_lt hp i hi x h
 ·intro h;exact ⟨x,h,cyc_self hp x h⟩
theorem flat_length {p:Nat→Nat} (hp:IsPerm p):(cycs p 26).flatten.length=26:=by
 have h1:=nodup_le _ (List.range 26) (flat_nodup hp 26 (Nat.le_refl _)) (fun x hx=>by simpa using (flat_all hp x).1 hx)
 have h2:=nodup_le _ (cycs p 26).flatten (List.nodup_range (n:=26)) (fun x hx=>(flat_all hp x).2 (by simpa using hx))
 simp at h1 h2 ⊢
 omega
theorem cycs_len (p:Nat→Nat):∀k,(cycs p k).length≤k
 | 0=>by simp[cycs]
 | k+1=>by
  have:=cycs_len p k
  unfold cycs
  split
  ·omega
  ·simp;omega
end Go.Proofs.YtkohhdkkbaifoaaGreatDoor.Pm

/-
  Contracts of perm.cycleFrom and perm.cycles.
-/
namespace Go.Proofs.YtkohhdkkbaifoaaGreatDoor
open Go.RowKit PK
set_option maxRecDepth 100000

def nums (l:List Nat):List Value:=l.map fun (i:Nat)=>Value.int .i64 (i:Int)
theorem nums_append (l m:List Nat):nums (l++m)=nums l++nums m:=by simp[nums]
def OwnsN (w:World) (B:Nat) (v:Value) (l:List Nat):Prop:=w.ownsRow B 3 1 v l.length (nums l)

theorem info_int3:(Tryz.prog.info? 3).map (fun i=>(i.zero,i.size,i.bytes))=some (some (.int .i64 0),1,8):=by kernel_rfl
def sliceLen:Value→Nat
 | .slice _ n _=>n
 | _=>0
theorem sliceLen_own {w:World} {B:Nat} {e:TypeId} {v:Value} {n:Nat} {xs:List Value} (h:w.ownsRow B e 1 v n xs):sliceLen v=n:=by
 rcases h.2 with ⟨rfl,h0⟩ | ⟨g,cap,cur,rfl,_⟩
 ·rw[h0];rfl
 ·rfl
theorem own_le {w:World} {B B':Nat} {e:TypeId} {v:Value} {n:Nat} {xs:List Value} (h:w.ownsRow B e 1 v n xs) (hb:B'≤B):w.ownsRow B' e 1 v n xs :=
 ⟨h.1,h.2.imp id fun ⟨g,cap,cur,a,b,c⟩=>⟨g,cap,cur,a,Nat.le_trans hb b,c⟩⟩
theorem own_formP {w:World} {B:Nat} {e:TypeId} {v:Value} {n:Nat} {xs:List Value} (h:w.ownsRow B e 1 v n xs) (hn:0<n):∃g cap,v=.slice (some ⟨g,0,none⟩) n cap:=by
 rcases h.2 with ⟨_,h0⟩ | ⟨g,cap,_,e1,_⟩
 ·omega
 ·exact ⟨g,cap,e1⟩
theorem own_below {w w':World} {B:Nat} {e:TypeId} {v:Value} {n:Nat} {xs:List Value} (h:w.ownsRow B e 1 v n xs) (hb:Below w.heap.size w w'):w'.ownsRow B e 1 v n xs :=
 ⟨h.1,h.2.imp id fun ⟨g,cap,cur,a,b,c,d⟩=>⟨g,cap,cur,a,b,(hb.block g (Array.getElem?_eq_some_iff.1 c).1).trans c,d⟩⟩
theorem own_apart {w:World} {B B':Nat} {e e':TypeId} {v v':Value} {n n':Nat} {xs xs':List Value} (h:w.ownsRow B e 1 v n xs) (h':w.ownsRow B' e' 1 v' n' xs') (he:e≠e'):v.ownBlock=none∨v.ownBlock≠v'.ownBlock:=by
 rcases h.2 with ⟨rfl,_⟩ | ⟨g,cap,cur,rfl,_,hc,_⟩
 ·exact .inl rfl
 ·rcases h'.2 with ⟨rfl,_⟩ | ⟨g',cap',cur',rfl,_,hc',_⟩
  ·exact .inr (by simp[Value.ownBlock])
  ·refine .inr fun e1=>?_
   simp[Value.ownBlock] at e1
   rw[e1,hc'] at hc
   simp at hc
   exact he hc.2.symm
def OwnsAll (w:World) (B:Nat) (v:Value) (ls:List (List Nat)):Prop :=
 ∃vs:List Value,w.ownsRow B 25 1 v ls.length vs∧∀(k:Nat) (u:Value) (l:List Nat),vs[k]? = some u→ls[k]? = some l→OwnsN w B u l
theorem OwnsAll.nil (w:World) (B:Nat):OwnsAll w B (.slice none 0 0) []:=⟨[],World.ownsRow_nil w B _ 1,fun k u l h _=>by simp at h⟩
theorem OwnsAll.below {w w':World} {B:Nat} {v:Value} {ls:List (List Nat)} (h:OwnsAll w B v ls) (hb:Below w.heap.size w w'):OwnsAll w' B v ls:=by
 obtain ⟨vs,h1,h2⟩:=h
 exact ⟨vs,own_below h1 hb,fun k u l a b=>own_below (h2 k u l a b) hb⟩
theorem OwnsAll.alloc {w:World} {B:Nat} {v:Value} {ls:List (List Nat)} (h:OwnsAll w B v ls) (o:Obj):OwnsAll (w.alloc o) B v ls:=by
 obtain ⟨vs,h1,h2⟩:=h
 exact ⟨vs,h1.alloc o,fun k u l a b=>World.ownsRow.alloc (h2 k u l a b) o⟩
theorem OwnsAll.set {w:World} {B:Nat} {v:Value} {ls:List (List Nat)} (h:OwnsAll w B v ls) {a:Addr} (ha:a.block<B) (x:Value):OwnsAll (w.setCell a x) B v ls:=by
 obtain ⟨vs,h1,h2⟩:=h
 exact ⟨vs,ownsRow_setCell_below h1 ha x,fun k u l a b=>ownsRow_setCell_below (h2 k u l a b) ha x⟩
theorem OwnsAll.le {w:World} {B B':Nat} {v:Value} {ls:List (List Nat)} (h:OwnsAll w B v ls) (hb:B'≤B):OwnsAll w B' v ls:=by
 obtain ⟨vs,h1,h2⟩:=h
 exact ⟨vs,own_le h1 hb,fun k u l a b=>own_le (h2 k u l a b) hb⟩
theorem OwnsAll.app {w w':World} {B:Nat} {v v' u:Value} {ls:List (List Nat)} {l:List Nat} {vs:List Value} (h1:w.ownsRow B 25 1 v ls.length vs) (h2:∀(k:Nat) (u:Value) (l:List Nat),vs[k]? = some u→ls[k]? = some l→OwnsN w B u l)
  (hu:OwnsN w B u l) (h':w'.ownsRow B 25 1 v' (ls.length+1) (vs++[u])) (hg:w.grownBy w' v.ownBlock):OwnsAll w' B v' (ls++[l]):=by
 have hlen:vs.length=ls.length:=by have:=h1.1;omega
 refine ⟨vs++[u],by simpa using h',fun k a b ha hb=>?_⟩
 have keep:∀a b,OwnsN w B a b→OwnsN w' B a b:=fun a b h=>World.ownsRow.kept h hg (own_apart h h1 (by decide))
 by_cases hk:k<ls.length
 ·rw[List.getElem?_append_left (by omega)] at ha
  rw[List.getElem?_append_left hk] at hb
  exact keep _ _ (h2 k a b ha hb)
 ·have hk':k=ls.length:=by
   have:=(List.getElem?_eq_some_iff.1 hb).1
   simp at this
   omega
  subst hk'
  rw[←hlen] at ha
  simp at ha hb
  subst ha hb
  exact keep _ _ hu
theorem row_grown {W W':World} {b:Nat} {T:TypeId} {c:Array Value} {row:Option Nat} (h:RowAt W b T c) (hg:W.grownBy W' row) (hr:∀k,row=some k→b+1≤k):RowAt W' b T c :=
 h.below ((Below.refl (b+1) W).grown hg h.lt hr) (Nat.lt_succ_self _)

set_option maxHeartbeats 2000000 in
theorem cycleFrom_any (p:Nat→Nat) (hp:Pm.IsPerm p) (i:Nat) (hi:i<26) (w:World) :
  Calls Tryz.prog 225 #[.agg (ints 26 (Pm.up p)),.int .i64 (i:Nat)] w fun e w'=>∃v,e=.returned v∧OwnsN w' w.heap.size v (Pm.cyc p i)∧Below w.heap.size w w':=by
 obtain ⟨i0,hi0,hz0,hz1,hz2⟩:=info_parts info_int3
 have hlen:=Pm.len_is hp i hi
 go_enter Tryz.func225,Tryz.ntmps225
 have hpi:=hp.lt i hi
 have hc0:(ints 26 (Pm.up p))[i]? = some (.int .i64 (p i:Nat)):=ints_get (Pm.up p) hi
 go_wp2
 go_loopw [5,6] (fun v a W=>∃m:Nat,1≤m∧m≤Pm.len p i∧a=.int .i64 (Pm.iter p m i:Nat)∧OwnsN W (w.heap.size+1) v ((List.range m).map fun k=>Pm.iter p k i)∧RowAt W w.heap.size 27 (ints 26 (Pm.up p))∧Below w.heap.size w W) (fun v _ _=>27-sliceLen v)
 case atStart =>
  refine ⟨1,Nat.le_refl _,hlen.pos,rfl,⟨by simp[nums],.inr ⟨w.heap.size+1,1,#[.int .i64 (i:Nat)],rfl,by omega,?_,Nat.le_refl _,by decide,rfl,rfl⟩⟩,(RowAt.new w _ _).alloc _,((Below.refl _ _).alloc (Nat.le_refl _) _).alloc (by simp) _⟩
  exact RowAt.newAt (by simp)
 case round =>
  obtain ⟨m,hm1,hm2,rfl,hown,hrow,hb⟩:=hrel
  have hsz:=hrow.lt
  have hx:=Pm.iter_lt hp i hi m
  have hle:=hlen.le
  by_cases hlt:m<Pm.len p i
  ·have hne:((Pm.iter p m i:Nat):Int)≠((i:Nat):Int):=by have:=hlen.min m (by omega) hlt;omega
   have HS:Hid (Pm.iter p (m+1) i=p (Pm.iter p m i)):=rfl
   obtain ⟨x,hxx⟩:∃x,x=Pm.iter p m i:=⟨_,rfl⟩
   have HX:Hid (x=Pm.iter p m i):=hxx
   rw[←hxx] at hne hx HS ⊢
   clear hxx
   have hbne:(((x:Nat):Int) != ((i:Nat):Int))=true:=by simpa using hne
   clear hne
   have hcx:(ints 26 (Pm.up p))[x]? = some (.int .i64 (p x:Nat)):=ints_get (Pm.up p) hx
   have hlm:((List.range m).map fun k=>Pm.iter p k i).length=m:=by simp
   go_wp2_with (first
    | (at_builtin;refine wpList_append_own _ rfl _ _ 25 rfl (w.heap.size+1) 3 i0 (.int .i64 0) 1 8 Tryz.underlying25 hi0 hz0 hz1 hz2 rfl (by decide) _ _ _ rfl (World.ownsRow.alloc hown _) ⟨wr.heap.size,0,none⟩ 1 1 [.int .i64 (x:Nat)] rfl rfl (cell_one_new _ _ _) (fun u hu=>by simp at hu;subst hu;rfl) (by rw[hlm];unfold maxLen;omega) (by rw[hlm];omega) (by simp;omega) ?_;intro v' w1 hown' hgrow _;have hrow1:RowAt w1 w.heap.size 27 (ints 26 (Pm.up p)):=row_grown (hrow.alloc _) hgrow (fun k hk=>(World.ownsRow.lt hown k hk).1);have hc1:=hrow1.cell hcx))
   go_roundw
   case rel =>
    refine ⟨m+1,by omega,by omega,by rw[HS.out],?_,hrow1,?_⟩
    ·have e1:((List.range (m+1)).map fun k=>Pm.iter p k i)=((List.range m).map fun k=>Pm.iter p k i)++[x]:=by rw[List.range_succ,List.map_append];simp[HX.out]
     rw[e1,OwnsN,nums_append,List.length_append]
     exact hown'
    ·exact (hb.alloc (by omega) _).grown hgrow (by simp;omega) (fun k hk=>by have:=(World.ownsRow.lt hown k hk).1;omega)
   case measure =>
    have h1:=sliceLen_own hown
    have h2:=sliceLen_own hown'
    simp at h1 h2 ⊢
    omega
  ·have HM:Hid (m=Pm.len p i):=by rw[Hid];omega
   have hret:Pm.iter p m i=i:=by rw[HM.out];exact hlen.ret
   have hbe:(((Pm.iter p m i:Nat):Int) != ((i:Nat):Int))=false:=by rw[hret];simp
   clear hret
   go_wp2
   go_ret
   refine ⟨_,rfl,?_,hb⟩
   have:=own_le hown (B':=w.heap.size) (by omega)
   rw[HM.out] at this
   exact this

theorem info_ints3:(Tryz.prog.info? 25).map (fun i=>(i.zero,i.size,i.bytes))=some (some (.slice none 0 0),1,24):=by kernel_rfl
theorem mark_step (f:Nat→Bool) (c:List Nat) (j x:Nat) (h:c[j]? = some x):bools 26 (upd (fun y=>f y || (c.take j).contains y) x true)=bools 26 (fun y=>f y || (c.take (j+1)).contains y):=bools_ext fun y _=>by
 have hj:=(List.getElem?_eq_some_iff.1 h).1
 have hx:=(List.getElem?_eq_some_iff.1 h).2
 have e1:c.take (j+1)=c.take j++[x]:=by rw[List.take_succ_eq_append_getElem hj,hx]
 rw[e1]
 by_cases e:y=x
 ·subst e;simp
 ·rw[upd_other _ _ e]
  simp[e]

set_option maxHeartbeats 4000000 in
theorem cycles_any (p:Nat→Nat) (hp:Pm.IsPerm p) (w:World) :
  Calls Tryz.prog 195 #[.agg (ints 26 (Pm.up p))] w fun e w'=>∃v,e=.returned v∧OwnsAll w' w.heap.size v (Pm.cycs p 26)∧Below w.heap.size w w':=by
 obtain ⟨i0,hi0,hz0,hz1,hz2⟩:=info_parts info_ints3
 go_enter Tryz.func195,Tryz.ntmps195
 go_wp2
 rw[none26]
 go_loopw [3,9] (fun v i W=>∃k:Nat,k≤26∧i=.int .i64 k∧OwnsAll W (w.heap.size+2) v (Pm.cycs p k)∧RowAt W w.heap.size 27 (ints 26 (Pm.up p))∧RowAt W (w.heap.size+1) 181 (bools 26 (Pm.met p k))∧Below w.heap.size w W) (fun _ i _=>(26-intOf i).toNat)
 case atStart=>exact ⟨0,by omega,rfl,OwnsAll.nil _ _,(RowAt.new w _ _).alloc _,RowAt.newAt (by simp),((Below.refl _ _).alloc (Nat.le_refl _) _).alloc (by simp) _⟩
 case round =>
  obtain ⟨k,hk,rfl,hall,hrp,hrs,hb⟩:=hrel
  have hsz:=hrs.lt
  by_cases hlt:k<26
  ·have hc:=hrs.cell (bools_get (Pm.met p k) hlt)
   cases hm:Pm.met p k k
   ·rw[hm] at hc
    have HM:Hid (Pm.met p k k=false):=hm
    clear hm
    go_wp2_with (refine wpList_load_row rfl 27 _ rfl w.heap.size rfl 27 (ints 26 (Pm.up p)) (0,0) _ hrp Tryz.underlying27 rfl (by rw[ints_size];exact info_perm) ?_)
    refine (cycleFrom_any p hp k hlt _).mono ?_
    rintro e w1 ⟨u,rfl,hu0,hb1⟩
    have hu:=own_le (B':=w.heap.size+2) hu0 (by omega)
    have hlen:=Pm.len_is hp k hlt
    have hcl:=Pm.cyc_length p k
    obtain ⟨g,cap,hform⟩:=own_formP hu (by have:=hlen.pos;omega)
    have hall1:=hall.below hb1
    have hrp1:=hrp.below hb1 hrp.lt
    have hrs1:=hrs.below hb1 hsz
    have hb':=hb.trans (hb1.mono (by omega))
    have hsz1:=hb1.size
    subst hform
    clear hu0 hall hrp hrs hc hb hb1
    have HCL:Hid ((Pm.cyc p k).length=Pm.len p k):=hcl
    clear hcl
    obtain ⟨n,hn⟩:∃n,n=(Pm.cyc p k).length:=⟨_,rfl⟩
    have HN:Hid (n=(Pm.cyc p k).length):=hn
    have hn26:n≤26:=by rw[HN.out,HCL.out];exact hlen.le
    rw[←hn] at hu ⊢
    clear hn
    go_wp2
    go_loopw [20] (fun j W=>∃m:Nat,m≤n∧j=.int .i64 m∧OwnsAll W (w.heap.size+2) u3 (Pm.cycs p k)∧OwnsN W (w.heap.size+2) (.slice (some ⟨g,0,none⟩) n cap) (Pm.cyc p k)∧RowAt W w.heap.size 27 (ints 26 (Pm.up p))∧RowAt W (w.heap.size+1) 181 (bools 26 fun y=>Pm.met p k y || ((Pm.cyc p k).take m).contains y)∧Below w.heap.size w W∧w.heap.size+2≤W.heap.size) (fun j _=>(n-intOf j).toNat)
    case atStart =>
     refine ⟨0,by omega,rfl,hall1,by rw[OwnsN,←HN.out];exact hu,hrp1,?_,hb',by omega⟩
     rw[bools_ext (g:=Pm.met p k) fun y _=>by simp]
     exact hrs1
    case round =>
     clear hall1 hu hrp1 hrs1 hb'
     obtain ⟨m,hm,rfl,hall,hu,hrp,hrs,hb,hsz2⟩:=hrel
     by_cases hmn:m<n
     ·obtain ⟨x,hx⟩:∃x,(Pm.cyc p k)[m]? = some x:=⟨(Pm.cyc p k)[m]'(by rw[←HN.out];exact hmn),List.getElem?_eq_getElem _⟩
      have hx26:x<26:=Pm.cyc_lt hp k hlt x (List.mem_of_getElem? hx)
      have hcx:wr.cell? ⟨g,m,none⟩=some (.int .i64 (x:Nat)):=by
       have h1:=hu
       rw[OwnsN,←HN.out] at h1
       rw[World.ownsRow.cellAt h1 m (by omega)]
       simp[nums,hx]
      have HX:Hid ((Pm.cyc p k)[m]? = some x):=hx
      clear hx
      have hcs:=hrs.cell (bools_get (fun y=>Pm.met p k y || ((Pm.cyc p k).take m).contains y) hx26)
      have hfs:=hrs.frozen x
      go_wp2
      go_roundw
      case rel =>
       refine ⟨m+1,by omega,by go_num,hall.set (by simp) _,ownsRow_setCell_below hu (by simp) _,hrp.setOther _ _ (by simp),?_,hb.setCell (by simp) _,by simpa using hsz2⟩
       rw[←mark_step (Pm.met p k) (Pm.cyc p k) m x HX.out,←bools_set]
       exact hrs.set x _
      case measure=>simp[intOf];omega
     ·have HMN:Hid (m=n):=by rw[Hid];omega
      obtain ⟨vs,hv1,hv2⟩:=hall
      have hcl2:=Pm.cycs_len p k
      go_wp2_with (first
       | (at_builtin;refine wpList_append_own _ rfl _ _ 23 rfl (w.heap.size+2) 25 i0 (.slice none 0 0) 1 24 Tryz.underlying23 hi0 hz0 hz1 hz2 rfl (by decide) _ _ _ rfl (World.ownsRow.alloc hv1 _) ⟨wr.heap.size,0,none⟩ 1 1 [.slice (some ⟨g,0,none⟩) n cap] rfl rfl (cell_one_new _ _ _) (fun u hu=>by simp at hu;subst hu;rfl) (by unfold maxLen;omega) (by omega) (by simp;omega) ?_;intro v' w2 hown' hgrow _))
      go_roundw
      case rel =>
       refine ⟨k+1,by omega,by go_num,?_,row_grown (hrp.alloc _) hgrow (fun j hj=>by have:=(World.ownsRow.lt hv1 j hj).1;omega),?_,(hb.alloc (by omega) _).grown hgrow (by simp;omega) (fun j hj=>by have:=(World.ownsRow.lt hv1 j hj).1;omega)⟩
       ·unfold Pm.cycs
        rw[if_neg (by rw[HM.out];simp)]
        exact OwnsAll.app (World.ownsRow.alloc hv1 _) (fun a b c d e=>World.ownsRow.alloc (hv2 a b c d e) _) (World.ownsRow.alloc hu _) hown' hgrow
       ·have e1:(Pm.cyc p k).take m=Pm.cyc p k:=List.take_of_length_le (by rw[HMN.out,HN.out];exact Nat.le_refl _)
        rw[e1] at hrs
        rw[bools_ext (g:=fun y=>Pm.met p k y || (Pm.cyc p k).contains y) fun y _=>Pm.met_succ p k y]
        exact row_grown (hrs.alloc _) hgrow (fun j hj=>by have:=(World.ownsRow.lt hv1 j hj).1;omega)
      case measure=>simp[intOf];omega
   ·rw[hm] at hc
    have HM:Hid (Pm.met p k k=true):=hm
    clear hm
    go_wp2
    go_roundw
    case rel=>exact ⟨k+1,by omega,by go_num,by unfold Pm.cycs;rw[if_pos HM.out];exact hall,hrp,by rw[bools_ext fun x _=>Pm.met_again hp k hlt HM.out x];exact hrs,hb⟩
    case measure=>simp[intOf];omega
  ·have HK:Hid (k=26):=by rw[Hid];omega
   go_wp2
   go_ret
   refine ⟨_,rfl,?_,hb⟩
   have:=hall.le (B':=w.heap.size) (by omega)
   rw[HK.out] at this
   exact this
end Go.Proofs.YtkohhdkkbaifoaaGreatDoor

/-
  Contracts of perm.lengthsOf and perm.Type.
-/
namespace Go.Proofs.YtkohhdkkbaifoaaGreatDoor
open Go.RowKit PK

theorem cycs_pos {p:Nat→Nat} (hp:Pm.IsPerm p):0<(Pm.cycs p 26).length:=by
 apply Nat.pos_of_ne_zero
 intro h
 have:=Pm.flat_length hp
 rw[List.eq_nil_of_length_eq_zero h] at this
 simp at this
theorem cycs_each {p:Nat→Nat} (hp:Pm.IsPerm p):∀l ∈ Pm.cycs p 26,0<l.length∧l.length≤26:=fun l hl=>by
 obtain ⟨i,hi,rfl,_⟩:=Pm.mem_cycs p 26 l hl
 rw[Pm.cyc_length]
 have:=Pm.len_is hp i hi
 exact ⟨this.pos,this.le⟩

end Go.Proofs.YtkohhdkkbaifoaaGreatDoor

/-
  Laws of no program: bytes that a call owns, and what 'string(b)' makes of them.
-/
namespace Go.Proofs.YtkohhdkkbaifoaaGreatDoor.BKit
open Go.RowKit

def Owns (w:World) (B:Nat) (e:TypeId) (v:Value) (l:List UInt8):Prop:=w.ownsRow B e 1 v l.length (Lib.byteCells l)

theorem foldl_push:∀(l:List UInt8) (s:ByteArray),(l.map fun b=>(b.toNat:Int)).foldl (fun r n=>r.push (UInt8.ofNat n.toNat)) s=⟨s.data++l.toArray⟩
 | [],s=>by cases s;simp
 | c :: t,s=>by
  simp only[List.map_cons,List.foldl_cons]
  rw[foldl_push t]
  cases s
  simp[ByteArray.push]

theorem run_string_of_own {P:Program} (w:World) (src dst e:TypeId) (hs:P.underlying src=some (.slice e)) (he:P.underlying e=some (.int .u8)) (hd:P.underlying dst=some .string)
  {B:Nat} {v:Value} {l:List UInt8} (h:Owns w B e v l):(convert src dst v).run P w=.ok (.string ⟨l.toArray⟩) w:=by
 rcases h.2 with ⟨rfl,h0⟩ | ⟨g,cap,cur,rfl,_⟩
 ·have:l=[]:=List.eq_nil_of_length_eq_zero h0
  subst this
  rw[run_convert_bytes_string w src dst e _ _ _ hs he hd]
  simp[Conv.bytesToString,Sem.run_pure]
  rfl
 ·rw[run_convert_bytes_string w src dst e _ _ _ hs he hd]
  have hl:=run_loadCells_list (P:=P) (w:=w) ⟨g,0,none⟩ (Lib.byteCells l) (h.cells rfl)
  rw[Lib.byteCells_length] at hl
  have e1:Lib.byteCells l=(l.map fun b=>(b.toNat:Int)).map (Value.int .u8):=by simp[Lib.byteCells]
  rw[e1] at hl
  rw[run_bytesToString w _ _ _ _ hl,foldl_push]
  simp

theorem Owns.nil (w:World) (B:Nat) (e:TypeId):Owns w B e (.slice none 0 0) []:=World.ownsRow_nil w B e 1
theorem Owns.lt {w:World} {B:Nat} {e:TypeId} {v:Value} {l:List UInt8} (h:Owns w B e v l):∀k,v.ownBlock=some k→B≤k∧k<w.heap.size:=World.ownsRow.lt h
theorem Owns.kind {w:World} {B:Nat} {e:TypeId} {v:Value} {l:List UInt8} (h:Owns w B e v l):∀g,v.ownBlock=some g→∃c fz,w.heap[g]? = some (.cells c e fz):=Lib.ownsRowF_kind (World.ownsRowF_of h)
theorem Owns.grown {w W w':World} {B:Nat} {e:TypeId} {v v':Value} {l m:List UInt8} {n:Nat} {xs:List Value} (h:Owns W B e v l) (hBw:B≤W.heap.size) (hb:Below B w W) (hk:Lib.OthersKept e none w W)
  (h':w'.ownsRow B e 1 v' n xs) (hn:n=(l++m).length) (hx:xs=Lib.byteCells (l++m)) (hg:W.grownBy w' v.ownBlock) :
  Owns w' B e v' (l++m)∧Below B w w'∧Lib.OthersKept e none w w':=by
 subst hn hx
 exact ⟨h',hb.grown hg hBw (fun k hk=>(h.lt k hk).1),hk.grown hg h.kind⟩
theorem Owns.iterAt {w:World} {B:Nat} {e:TypeId} {v:Value} {l:List UInt8} (h:Owns w B e v l) {k:Nat} {s:ByteArray} {pos:Nat} (hk:w.heap[k]? = some (.stringIter s pos)) (pos':Nat):Owns (w.iterAt k s pos') B e v l:=by
 obtain ⟨h1,h2⟩:=h
 refine ⟨h1,?_⟩
 rcases h2 with h2 | ⟨g,cap,cur,a,b,c,d⟩
 ·exact .inl h2
 ·have hkg:g≠k:=by
   intro e1
   rw[e1,hk] at c
   cases c
  exact .inr ⟨g,cap,cur,a,b,(Lib.iterAt_other w k g s pos' hkg).trans c,d⟩
theorem two_cells {w W:World} {a b:Value} {T:TypeId} (h:Below (w.heap.size+1) (w.alloc (.cells #[a,b] T)) W) :
  W.cell? ⟨w.heap.size,0,none⟩=some a∧W.cell? ⟨w.heap.size,1,none⟩=some b∧W.frozen? ⟨w.heap.size,0,none⟩=false∧W.frozen? ⟨w.heap.size,1,none⟩=false∧w.heap.size<W.heap.size:=by
 have hs:=h.size
 simp at hs
 refine ⟨?_,?_,?_,?_,by omega⟩
 ·rw[h.cell (p:=⟨w.heap.size,0,none⟩) (by simp)];simp
 ·rw[h.cell (p:=⟨w.heap.size,1,none⟩) (by simp)];simp
 ·rw[h.frozen (p:=⟨w.heap.size,0,none⟩) (by simp)];simp
 ·rw[h.frozen (p:=⟨w.heap.size,1,none⟩) (by simp)];simp
theorem read_two {W:World} {N:Nat} {a' b':Value} (a b:Value) (h0:W.cell? ⟨N,0,none⟩=some a') (h1:W.cell? ⟨N,1,none⟩=some b') :
  ((W.setCell ⟨N,0,none⟩ a).setCell ⟨N,1,none⟩ b).cell? ⟨N,0,none⟩=some a∧((W.setCell ⟨N,0,none⟩ a).setCell ⟨N,1,none⟩ b).cell? ⟨N,1,none⟩=some b:=by
 have e0:=World.cell?_setCell_same W ⟨N,0,none⟩ a h0
 have e1:(W.setCell ⟨N,0,none⟩ a).cell? ⟨N,1,none⟩=some b':=(World.cell?_setCell_other W _ _ _ (by simp)).trans h1
 exact ⟨(World.cell?_setCell_other _ _ _ _ (by simp)).trans e0,World.cell?_setCell_same _ _ _ e1⟩
theorem below_two {w W:World} {a b:Value} {T:TypeId} (h:Below (w.heap.size+1) (w.alloc (.cells #[a,b] T)) W) (x y:Value) :
  Below w.heap.size w ((W.setCell ⟨w.heap.size,0,none⟩ x).setCell ⟨w.heap.size,1,none⟩ y) :=
 ((((Below.refl _ w).alloc (Nat.le_refl _) _).trans (h.mono (by omega))).setCell (by simp) _).setCell (by simp) _
end Go.Proofs.YtkohhdkkbaifoaaGreatDoor.BKit
