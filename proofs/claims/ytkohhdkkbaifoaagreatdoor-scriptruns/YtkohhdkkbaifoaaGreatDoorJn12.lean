/-
  Several texts, joined: SStab, SBy, YRail, YCol.
-/
import Derived.Test.YtkohhdkkbaifoaaGreatDoorSSym
import Derived.Test.YtkohhdkkbaifoaaGreatDoorJn9
import Derived.Test.YtkohhdkkbaifoaaGreatDoorJn10
/-
  Contracts of slices.stableCmpFunc and slices.SortStableFunc.
-/
namespace Go.Proofs.YtkohhdkkbaifoaaGreatDoor
open Go.RowKit PK Sm

def BlA (K:Int→Int) (bs a:Nat) (d:Nat→Int):Prop:=∀p q,p<q→q<a→p / bs=q / bs→LL K (d p) (d q)
def BlB (K:Int→Int) (n bs a:Nat) (d:Nat→Int):Prop:=∀p q,a≤p→p<q→q<n→p / bs=q / bs→LL K (d p) (d q)
theorem blA_step {K:Int→Int} {n bs a b:Nat} {d d':Nat→Int} (h0:0<bs) (hd:bs ∣ a) (h:BlA K bs a d) (h':Done K n a b d d'):BlA K bs b d':=by
 intro p q hpq hq he
 by_cases c:q<a
 ·rw[h'.mv.out p (by omega),h'.mv.out q (by omega)]
  exact h p q hpq c he
 ·by_cases c2:p<a
  ·have h1:=div_less h0 hd c2
   have h2:=div_more (bs:=bs) (show a≤q by omega)
   omega
  ·exact h'.srt p q (by omega) hpq hq
theorem blB_step {K:Int→Int} {n bs a b:Nat} {d d':Nat→Int} (hab:a≤b) (h:BlB K n bs a d) (h':Done K n a b d d'):BlB K n bs b d':=by
 intro p q hp hpq hq he
 rw[h'.mv.out p (by omega),h'.mv.out q (by omega)]
 exact h p q (by omega) hpq hq he
theorem blB_srt {K:Int→Int} {n bs a x y:Nat} {d:Nat→Int} (h0:0<bs) (hd:bs ∣ x) (h:BlB K n bs a d) (hax:a≤x) (hy:y≤x+bs) (hyn:y≤n):Srt K d x y:=fun p q hp hpq hq =>
 h p q (by omega) hpq (by omega) ((div_same h0 hd hp (by omega)).trans (div_same h0 hd (by omega) (by omega)).symm)
theorem bl_all {K:Int→Int} {n bs:Nat} {d:Nat→Int} (h:BlA K bs n d) (hn:n≤bs):Srt K d 0 n:=fun p q _ hpq hq =>
 h p q hpq hq (by rw[Nat.div_eq_of_lt (by omega),Nat.div_eq_of_lt (by omega)])
theorem Done.refl' {K:Int→Int} {n a b:Nat} {d:Nat→Int} (h1:Stab K n d) (h2:Srt K d a b):Done K n a b d d:=⟨Mv.refl _ _ _,h1,h2⟩
set_option maxRecDepth 100000 in
set_option maxHeartbeats 4000000 in
theorem stable_any (g:Nat) (cb:Array Value) (K:Int→Int) (hent:∀(args:Array Value) (W:World),(callFunc g args).run Tryz.prog W=.ok (.enter g args) W) (G cap n:Nat) (hn:n≤65536) (w0:World) (hcmp:CmpOK g cb K n w0 G) (d:Nat→Int) (w:World) (hgb:w0.grownBy w (some G)) (hr:RowAt w G 3 (ints n d)) (hin:InR n d) (hst:Stab K n d) :
  Calls Tryz.prog 234 #[.slice (some ⟨G,0,none⟩) n cap,.int .i64 (n:Nat),.func (.func g) #[] cb] w fun e w'=>∃d',e=.returned (.tuple #[])∧RowAt w' G 3 (ints n d')∧w0.grownBy w' (some G)∧Done K n 0 n d d':=by
 have HINS:=(show Hid (∀(a b:Nat) (e:Nat→Int) (W:World),a≤b→b≤n→w0.grownBy W (some G)→RowAt W G 3 (ints n e)→InR n e→Stab K n e→Calls Tryz.prog 255 #[.slice (some ⟨G,0,none⟩) n cap,.int .i64 (a:Nat),.int .i64 (b:Nat),.func (.func g) #[] cb] W fun e1 w'=>∃d',e1=.returned (.tuple #[])∧RowAt w' G 3 (ints n d')∧w0.grownBy w' (some G)∧Done K n a b e d') from fun a b e W h1 h2 h3 h4 h5 h6=>insertion_any g cb K hent G cap n e a b h1 h2 hn w0 W hcmp h3 h4 h5 h6)
 have HSYM:=(show Hid (∀(a m b:Nat) (e:Nat→Int) (W:World),a<m→m<b→b≤n→w0.grownBy W (some G)→RowAt W G 3 (ints n e)→InR n e→Stab K n e→Srt K e a m→Srt K e m b→Calls Tryz.prog 256 #[.slice (some ⟨G,0,none⟩) n cap,.int .i64 (a:Nat),.int .i64 (m:Nat),.int .i64 (b:Nat),.func (.func g) #[] cb] W fun e1 w'=>∃d',e1=.returned (.tuple #[])∧RowAt w' G 3 (ints n d')∧w0.grownBy w' (some G)∧Done K n a b e d') from fun a m b e W h1 h2 h3 h4 h5 h6 h7 h8 h9=>symMerge_any g cb K hent G cap n hn w0 hcmp (b-a) a m b e W (Nat.le_refl _) h1 h2 h3 h4 h5 h6 h7 h8 h9)
 have HIN:=(show Hid (InR n d) from hin)
 have HST:=(show Hid (Stab K n d) from hst)
 clear hcmp hin hst
 go_enter Tryz.func234,Tryz.ntmps234
 go_wp2
 go_loopw [7,8] (fun x y W=>∃(t:Nat) (e:Nat→Int),x=.int .i64 ((20*t:Nat):Int)∧y=.int .i64 ((20*t+20:Nat):Int)∧20*t≤n∧Hid (Mv 0 n d e∧Stab K n e∧BlA K 20 (20*t) e)∧RowAt W G 3 (ints n e)∧w0.grownBy W (some G)) (fun x _ _=>((n:Int)-intOf x).toNat)
 case atStart=>exact ⟨0,d,rfl,rfl,by omega,⟨Mv.refl _ _ _,HST.out,fun p q h1 h2=>by omega⟩,hr,hgb⟩
 case round =>
  clear hr hgb
  obtain ⟨t,e,rfl,rfl,h1,HI,ro,hb⟩:=hrel
  have HT:Hid (20 ∣ 20*t):=Nat.dvd_mul_right _ _
  obtain ⟨a,ha⟩:∃a,a=20*t:=⟨_,rfl⟩
  have HA:Hid (a=20*t):=ha
  rw[←ha] at h1 HI HT ⊢
  clear ha
  obtain ⟨b,hb'⟩:∃b,b=a+20:=⟨_,rfl⟩
  have HB:Hid (b=a+20):=hb'
  have hab:a≤b:=by omega
  have hbb:b≤70000:=by omega
  rw[←hb']
  clear hb'
  by_cases hlt:b≤n
  ·have HC:=HINS.out a b e wr hab hlt hb ro (Mv.inR HI.out.1 (Nat.le_refl n) HIN.out) HI.out.2.1
   have HC:=(show Hid (Calls Tryz.prog 255 #[.slice (some ⟨G,0,none⟩) n cap,.int .i64 (a:Nat),.int .i64 (b:Nat),.func (.func g) #[] cb] wr fun e1 w'=>∃d',e1=.returned (.tuple #[])∧RowAt w' G 3 (ints n d')∧w0.grownBy w' (some G)∧Done K n a b e d') from HC)
   go_wp2_with fail
   refine Calls.mono HC.out ?_
   rintro e1 W1 ⟨d1,rfl,ro1,hb1,hd1⟩
   have HN:=(show Hid (Mv 0 n d d1∧Stab K n d1∧BlA K 20 (20*(t+1)) d1) from ⟨HI.out.1.trans (hd1.mv.wide (by omega) (by omega)),hd1.stab,by
    have:=blA_step (by decide) HT.out HI.out.2.2 hd1
    rw[show 20*(t+1)=b by have:=HA.out;have:=HB.out;omega]
    exact this⟩)
   have HBT:Hid (b=20*(t+1)):=by rw[Hid];have:=HA.out;have:=HB.out;omega
   clear hd1 HC
   go_wp2
   go_roundw
   case rel=>exact ⟨t+1,d1,by rw[HBT.out],by rw[show ((20*(t+1)+20:Nat):Int)=((b:Nat):Int)+20 by have:=HBT.out;omega],by have:=HBT.out;omega,HN,ro1,hb1⟩
   case measure=>have:=HA.out;have:=HB.out;simp[intOf];omega
  ·have HC:=(show Hid (Calls Tryz.prog 255 #[.slice (some ⟨G,0,none⟩) n cap,.int .i64 (a:Nat),.int .i64 (n:Nat),.func (.func g) #[] cb] wr fun e1 w'=>∃d',e1=.returned (.tuple #[])∧RowAt w' G 3 (ints n d')∧w0.grownBy w' (some G)∧Done K n a n e d') from HINS.out a n e wr h1 (Nat.le_refl n) hb ro (Mv.inR HI.out.1 (Nat.le_refl n) HIN.out) HI.out.2.1)
   go_wp2_with fail
   refine Calls.mono HC.out ?_
   rintro e1 W1 ⟨d1,rfl,ro1,hb1,hd1⟩
   have HN:=(show Hid (Mv 0 n d d1∧Stab K n d1∧BlA K 20 n d1) from ⟨HI.out.1.trans (hd1.mv.wide (by omega) (by omega)),hd1.stab,blA_step (by decide) HT.out HI.out.2.2 hd1⟩)
   clear hd1 HC HI ro hb HINS
   go_wp2
   go_loopw [6] (fun x W=>∃(bs:Nat) (e:Nat→Int),x=.int .i64 (bs:Nat)∧0<bs∧bs≤131072∧Hid (Mv 0 n d e∧Stab K n e∧BlA K bs n e)∧RowAt W G 3 (ints n e)∧w0.grownBy W (some G)) (fun x _=>(262144-intOf x).toNat)
   case atStart=>exact ⟨20,d1,rfl,by omega,by omega,HN,ro1,hb1⟩
   case round =>
    clear HN ro1 hb1 HT HA HB hab hbb hlt h1
    obtain ⟨bs,e2,rfl,hb0,hbs,HI,ro,hb⟩:=hrel
    by_cases hlt:bs<n
    ·obtain ⟨b2,hb2⟩:∃b2,b2=2*bs:=⟨_,rfl⟩
     have eb2:(2:Int)*((bs:Nat):Int)=((b2:Nat):Int):=by omega
     have eb2':((bs:Nat):Int)*2=((b2:Nat):Int):=by omega
     have HB2:Hid (b2=2*bs):=hb2
     have hb2b:b2≤131072:=by omega
     have hb2c:bs<b2:=by omega
     clear hb2
     go_wp2
     go_loopw [7,8] (fun x y W=>∃(t a b:Nat) (e:Nat→Int),x=.int .i64 (a:Nat)∧y=.int .i64 (b:Nat)∧a≤n∧Hid (a=b2*t∧b=a+b2)∧Hid (Mv 0 n d e∧Stab K n e∧BlA K b2 a e∧BlB K n bs a e)∧RowAt W G 3 (ints n e)∧w0.grownBy W (some G)) (fun x _ _=>((n:Int)-intOf x).toNat)
     case atStart=>exact ⟨0,0,b2,e2,rfl,rfl,by omega,⟨by omega,by omega⟩,⟨HI.out.1,HI.out.2.1,fun p q _ h=>by omega,fun p q _ h1 h2 h3=>HI.out.2.2 p q h1 h2 h3⟩,ro,hb⟩
     case round =>
      clear HI ro hb
      obtain ⟨t,a,b,e,rfl,rfl,h1,HAB,HI,ro,hb⟩:=hrel
      have HDV:Hid (bs ∣ a∧bs ∣ a+bs∧b2 ∣ a):=by
       have h1:bs ∣ a:=by rw[HAB.out.1,HB2.out,Nat.mul_assoc,Nat.mul_left_comm];exact Nat.dvd_mul_right _ _
       exact ⟨h1,Nat.dvd_add h1 (Nat.dvd_refl _),by rw[HAB.out.1];exact Nat.dvd_mul_right _ _⟩
      obtain ⟨m,hm⟩:∃m,m=a+bs:=⟨_,rfl⟩
      have em:((a:Nat):Int)+((bs:Nat):Int)=((m:Nat):Int):=by omega
      have HM:Hid (m=a+bs):=hm
      have ham:a<m:=by omega
      have hmb:m<b:=by have:=HAB.out.2;have:=HB2.out;omega
      have hbb:b≤200000:=by have:=HAB.out.2;omega
      clear hm
      by_cases hlt2:b≤n
      ·have HC:=(show Hid (Calls Tryz.prog 256 #[.slice (some ⟨G,0,none⟩) n cap,.int .i64 (a:Nat),.int .i64 (m:Nat),.int .i64 (b:Nat),.func (.func g) #[] cb] wr fun e1 w'=>∃d',e1=.returned (.tuple #[])∧RowAt w' G 3 (ints n d')∧w0.grownBy w' (some G)∧Done K n a b e d') from HSYM.out a m b e wr ham hmb hlt2 hb ro (Mv.inR HI.out.1 (Nat.le_refl n) HIN.out) HI.out.2.1 (by rw[HM.out];exact blB_srt hb0 HDV.out.1 HI.out.2.2.2 (Nat.le_refl a) (Nat.le_refl _) (by have:=HM.out;omega)) (by rw[HM.out];exact blB_srt hb0 HDV.out.2.1 HI.out.2.2.2 (by omega) (by have:=HAB.out.2;have:=HB2.out;omega) hlt2))
       obtain ⟨b',hb''⟩:∃b',b'=b+b2:=⟨_,rfl⟩
       have ebb:((b:Nat):Int)+((b2:Nat):Int)=((b':Nat):Int):=by omega
       have HB':Hid (b'=b+b2):=hb''
       clear hb''
       go_wp2_with fail
       refine Calls.mono HC.out ?_
       rintro e1 W1 ⟨d2,rfl,ro1,hb1,hd1⟩
       have HN:=(show Hid (Mv 0 n d d2∧Stab K n d2∧BlA K b2 b d2∧BlB K n bs b d2) from ⟨HI.out.1.trans (hd1.mv.wide (by omega) (by omega)),hd1.stab,blA_step (by omega) HDV.out.2.2 HI.out.2.2.1 hd1,blB_step (by omega) HI.out.2.2.2 hd1⟩)
       have HAB2:Hid (b=b2*(t+1)∧b'=b+b2):=⟨by rw[HAB.out.2,HAB.out.1,Nat.mul_succ],HB'.out⟩
       clear hd1 HC
       go_wp2
       go_roundw
       case rel=>exact ⟨t+1,b,b',d2,rfl,rfl,by omega,HAB2,HN,ro1,hb1⟩
       case measure=>simp[intOf];omega
      ·by_cases hmn:m<n
       ·have HC:=(show Hid (Calls Tryz.prog 256 #[.slice (some ⟨G,0,none⟩) n cap,.int .i64 (a:Nat),.int .i64 (m:Nat),.int .i64 (n:Nat),.func (.func g) #[] cb] wr fun e1 w'=>∃d',e1=.returned (.tuple #[])∧RowAt w' G 3 (ints n d')∧w0.grownBy w' (some G)∧Done K n a n e d') from HSYM.out a m n e wr ham hmn (Nat.le_refl n) hb ro (Mv.inR HI.out.1 (Nat.le_refl n) HIN.out) HI.out.2.1 (by rw[HM.out];exact blB_srt hb0 HDV.out.1 HI.out.2.2.2 (Nat.le_refl a) (Nat.le_refl _) (by have:=HM.out;omega)) (by rw[HM.out];exact blB_srt hb0 HDV.out.2.1 HI.out.2.2.2 (by omega) (by have:=HAB.out.2;have:=HB2.out;omega) (Nat.le_refl n)))
        go_wp2_with fail
        refine Calls.mono HC.out ?_
        rintro e1 W1 ⟨d2,rfl,ro1,hb1,hd1⟩
        have HN:=(show Hid (Mv 0 n d d2∧Stab K n d2∧BlA K b2 n d2) from ⟨HI.out.1.trans (hd1.mv.wide (by omega) (by omega)),hd1.stab,blA_step (by omega) HDV.out.2.2 HI.out.2.2.1 hd1⟩)
        clear hd1 HC
        go_wp2
        go_roundw
        case rel=>exact ⟨b2,d2,rfl,by omega,by omega,HN,ro1,hb1⟩
        case measure=>simp[intOf];omega
       ·have HN:=(show Hid (Mv 0 n d e∧Stab K n e∧BlA K b2 n e) from ⟨HI.out.1,HI.out.2.1,blA_step (by omega) HDV.out.2.2 HI.out.2.2.1 (Done.refl' (n:=n) HI.out.2.1 (blB_srt hb0 HDV.out.1 HI.out.2.2.2 (Nat.le_refl a) (by have:=HM.out;omega) (Nat.le_refl n)))⟩)
        go_wp2
        go_roundw
        case rel=>exact ⟨b2,e,rfl,by omega,by omega,HN,ro,hb⟩
        case measure=>simp[intOf];omega
    ·have HD:=(show Hid (Done K n 0 n d e2) from ⟨HI.out.1,HI.out.2.1,bl_all HI.out.2.2 (by omega)⟩)
     clear HI
     go_wp2
     go_end0
     exact ⟨e2,rfl,ro,hb,HD.out⟩
set_option maxHeartbeats 1000000 in
theorem sortStable_any (g:Nat) (cb:Array Value) (K:Int→Int) (hent:∀(args:Array Value) (W:World),(callFunc g args).run Tryz.prog W=.ok (.enter g args) W) (G cap n:Nat) (hn:n≤65536) (w:World) (hcmp:CmpOK g cb K n w G) (d:Nat→Int) (hr:RowAt w G 3 (ints n d)) (hin:InR n d) (hst:Stab K n d) :
  Calls Tryz.prog 208 #[.slice (some ⟨G,0,none⟩) n cap,.func (.func g) #[] cb] w fun e w'=>∃d',e=.returned (.tuple #[])∧RowAt w' G 3 (ints n d')∧w.grownBy w' (some G)∧Done K n 0 n d d':=by
 have HC:=(show Hid (Calls Tryz.prog 234 #[.slice (some ⟨G,0,none⟩) n cap,.int .i64 (n:Nat),.func (.func g) #[] cb] w fun e w'=>∃d',e=.returned (.tuple #[])∧RowAt w' G 3 (ints n d')∧w.grownBy w' (some G)∧Done K n 0 n d d') from stable_any g cb K hent G cap n hn w hcmp d w (gb_refl _ _) hr hin hst)
 clear hcmp hin hst hr
 go_enter Tryz.func208,Tryz.ntmps208
 go_wp2_with fail
 refine Calls.mono HC.out ?_
 rintro e1 W1 ⟨d2,rfl,ro1,hb1,hd1⟩
 go_wp2
 go_end0
 exact ⟨d2,rfl,ro1,hb1,hd1⟩
end Go.Proofs.YtkohhdkkbaifoaaGreatDoor

/-
  Contracts of cmp.Compare, of rails.sortedBy's closure and of rails.sortedBy.
-/
namespace Go.Proofs.YtkohhdkkbaifoaaGreatDoor
open Go.RowKit PK Sm

def fillN (m:Nat):Nat→Int:=fun i=>if i<m then (i:Int) else 0
theorem fillN_zero:fillN 0=fun _=>0:=by funext i;unfold fillN;rw[if_neg (by omega)]
theorem fillN_step (m:Nat):upd (fillN m) m (m:Int)=fillN (m+1):=by
 funext i
 unfold upd fillN
 by_cases h:i=m
 ·rw[if_pos h,if_pos (by omega),h]
 ·rw[if_neg h]
  by_cases h2:i<m
  ·rw[if_pos h2,if_pos (by omega)]
  ·rw[if_neg h2,if_neg (by omega)]
theorem isNaNI_any (x:Int) (w:World):Calls Tryz.prog 235 #[.int .i64 x] w fun e w'=>e=.returned (.bool false)∧w=w':=by
 go_enter Tryz.func235,Tryz.ntmps235
 go_wp2
 go_ret
 exact ⟨rfl,rfl⟩
set_option maxHeartbeats 1000000 in
theorem compareI_any (x y:Int) (w:World):Calls Tryz.prog 210 #[.int .i64 x,.int .i64 y] w fun e w'=>e=.returned (.int .i64 (cmpV x y))∧w'=w:=by
 by_cases h1:x<y
 ·rw[cmpV_lt h1]
  go_enter Tryz.func210,Tryz.ntmps210
  go_wp2_with (go_at_call 235;refine (isNaNI_any _ _).mono ?_;rintro e w' ⟨rfl,rfl⟩)
  go_ret
  exact ⟨rfl,rfl⟩
 ·by_cases h2:y<x
  ·have HV:Hid (cmpV x y=1):=by rw[Hid];unfold cmpV;rw[if_neg h1,if_pos h2]
   go_enter Tryz.func210,Tryz.ntmps210
   go_wp2_with (go_at_call 235;refine (isNaNI_any _ _).mono ?_;rintro e w' ⟨rfl,rfl⟩)
   go_ret
   exact ⟨ret_int HV.out.symm,rfl⟩
  ·have HV:Hid (cmpV x y=0):=by rw[Hid];unfold cmpV;rw[if_neg h1,if_neg h2]
   go_enter Tryz.func210,Tryz.ntmps210
   go_wp2_with (go_at_call 235;refine (isNaNI_any _ _).mono ?_;rintro e w' ⟨rfl,rfl⟩)
   go_ret
   exact ⟨ret_int HV.out.symm,rfl⟩
def KeyOKI (kf:Nat) (kb:Array Value) (K:Int→Int) (n:Nat) (w:World):Prop :=
 ∀W,Below w.heap.size w W→∀x:Int,0≤x→x<n→Calls Tryz.prog kf (#[.int .i64 x]++kb) W fun e w'=>e=.returned (.int .i64 (K x))∧∃q,w'=W.drewN q
theorem below_drewN {B:Nat} {a w:World} (h:Below B a w) (k:Nat):Below B a (w.drewN k):=⟨h.os,h.tape,h.output,h.size,h.block⟩
set_option maxRecDepth 100000 in
set_option maxHeartbeats 2000000 in
theorem closureI_any (kf:Nat) (kb:Array Value) (K:Int→Int) (hent:∀(args:Array Value) (W:World),(callFunc kf args).run Tryz.prog W=.ok (.enter kf args) W) (n:Nat) (w0 W:World) (hk:KeyOKI kf kb K n w0) (hW:Below w0.heap.size w0 W) (B:Nat) (hB:W.cell? ⟨B,0,none⟩=some (.func (.func kf) #[] kb)) (x y:Int) (hx0:0≤x) (hx1:x<n) (hy0:0≤y) (hy1:y<n) :
  Calls Tryz.prog 209 #[.int .i64 x,.int .i64 y,.pointer (some ⟨B,0,none⟩)] W fun e w'=>e=.returned (.int .i64 (cmpV (K x) (K y)))∧∃q,w'=W.drewN q:=by
 have hkey:∀z:Int,0≤z→z<n→∀k,Calls Tryz.prog kf (#[.int .i64 z]++kb) (W.drewN k) fun e w'=>e=.returned (.int .i64 (K z))∧∃q,w'=(W.drewN k).drewN q:=fun z h0 h1 k=>hk _ (below_drewN hW k) z h0 h1
 have hcp:∀u v:Int,∀k,Calls Tryz.prog 210 #[.int .i64 u,.int .i64 v] (W.drewN k) fun e w'=>e=.returned (.int .i64 (cmpV u v))∧w'=W.drewN k:=fun u v k=>compareI_any u v _
 clear hk
 go_enter Tryz.func209,Tryz.ntmps209
 go_wp2_with fail
 go_quiet (first
  | (go_at_fn kf;refine Calls.quiet_of (hkey _ (by assumption) (by assumption) _))
  | (go_at_call 210;refine Calls.quiet_of_same (hcp _ _ _)))
 go_wp2
 go_ret
 exact ⟨rfl,nq,rfl⟩
set_option maxRecDepth 100000 in
set_option maxHeartbeats 2000000 in
theorem sortedByI_any (kf:Nat) (kb:Array Value) (K:Int→Int) (hent:∀(args:Array Value) (W:World),(callFunc kf args).run Tryz.prog W=.ok (.enter kf args) W) (n:Nat) (hn:n≤65536) (w:World) (hk:KeyOKI kf kb K n w) :
  Calls Tryz.prog 169 #[.int .i64 (n:Nat),.func (.func kf) #[] kb] w fun e w'=>∃d',e=.returned (.slice (some ⟨w.heap.size+1,0,none⟩) n n)∧RowAt w' (w.heap.size+1) 3 (ints n d')∧Below w.heap.size w w'∧Order n d'∧Srt K d' 0 n:=by
 have hmk:=run_make_row' (P:=Tryz.prog) 25 3 (.int .i64 0) 8 Tryz.underlying25 y_info_int rfl .i64 .i64 n (by omega) (by omega)
 rw[y_made_tab,ints_new] at hmk
 have hmf:∀(fn:Fn) (first cap:Array Value) (w:World),(Instr.makeFunc fn first cap).run Tryz.prog w=.ok (.func fn first cap) w:=fun _ _ _ _=>rfl
 have HK:=(show Hid (KeyOKI kf kb K n w) from hk)
 clear hk
 go_enter Tryz.func169,Tryz.ntmps169
 go_wp2
 go_loopw [10] (fun i W=>∃m:Nat,m≤n∧i=.int .i64 m∧RowAt W (w.heap.size+1) 3 (ints n (fillN m))∧W.cell? ⟨w.heap.size,0,none⟩=some (.func (.func kf) #[] kb)∧Below w.heap.size w W) (fun i _=>((n:Int)-intOf i).toNat)
 case atStart =>
  refine ⟨0,by omega,rfl,?_,?_,((Below.refl _ _).alloc (Nat.le_refl _) _).alloc (by simp) _⟩
  ·have:=RowAt.new (w.alloc (.cells #[.func (.func kf) #[] kb] 142)) 3 (ints n fun _=>0)
   simpa [fillN_zero] using this
  ·simp
 case round =>
  obtain ⟨m,hm,rfl,ro,hcb,hb⟩:=hrel
  by_cases hlt:m<n
  ·have hcx:=ro.cell (ints_get (fillN m) hlt)
   have hfx:=ro.frozen m
   have ro2:RowAt (wr.setCell ⟨w.heap.size+1,m,none⟩ (.int .i64 m)) (w.heap.size+1) 3 (ints n (fillN (m+1))):=by
    have:=ro.set m (.int .i64 m)
    rw[ints_set,fillN_step] at this
    exact this
   have hbb:=hb.setCell (p:=⟨w.heap.size+1,m,none⟩) (by simp) (.int .i64 m)
   have hcb2:(wr.setCell ⟨w.heap.size+1,m,none⟩ (.int .i64 m)).cell? ⟨w.heap.size,0,none⟩=some (.func (.func kf) #[] kb):=(World.cell?_setCell_other _ _ _ _ (by simp)).trans hcb
   go_wp2
   exact ⟨⟨m+1,by omega,by go_num,ro2,hcb2,hbb⟩,by simp[intOf];omega⟩
  ·obtain rfl:m=n:=by omega
   have hro:RowAt wr (w.heap.size+1) 3 (ints m fun i=>(i:Int)):=by
    rw[ints_ext (f:=fun i=>(i:Int)) (g:=fillN m) (fun i hi=>by unfold fillN;rw[if_pos hi])]
    exact ro
   have hcmp:CmpOK 209 #[.pointer (some ⟨w.heap.size,0,none⟩)] K m wr (w.heap.size+1):=fun W hW x y hx0 hx1 hy0 hy1=>by
    refine closureI_any kf kb K hent m w W HK.out ?_ w.heap.size ?_ x y hx0 hx1 hy0 hy1
    ·exact hb.trans (gb_to_below hW (by have:=hb.size;omega) (by omega))
    ·have h1:w.heap.size<wr.heap.size:=World.block_lt_of_cell? _ _ hcb
     rw[show W.cell? ⟨w.heap.size,0,none⟩=wr.cell? ⟨w.heap.size,0,none⟩ from by
      have hbl:=(gb_to_below (B:=w.heap.size+1) hW (by omega) (by omega))
      exact hbl.cell (p:=⟨w.heap.size,0,none⟩) (by simp)]
     exact hcb
   have HS:=(show Hid (Calls Tryz.prog 208 #[.slice (some ⟨w.heap.size+1,0,none⟩) m m,.func (.func 209) #[] #[.pointer (some ⟨w.heap.size,0,none⟩)]] wr fun e w'=>∃d',e=.returned (.tuple #[])∧RowAt w' (w.heap.size+1) 3 (ints m d')∧wr.grownBy w' (some (w.heap.size+1))∧Done K m 0 m (fun i=>(i:Int)) d') from sortStable_any _ _ K (by intro args W;go_simp) (w.heap.size+1) m m hn wr hcmp (fun i=>(i:Int)) hro (fun i hi=>(order_id m).lt i hi) (stab_id K m))
   clear hcmp
   go_wp2_with fail
   refine Calls.mono HS.out ?_
   rintro e W1 ⟨d',rfl,ro1,hb1,hd⟩
   go_wp2
   go_ret
   exact ⟨d',rfl,ro1,hb.trans (gb_to_below hb1 hb.size (by omega)),hd.mv.order (order_id m),hd.srt⟩
theorem isNaNB_any (x:Int) (w:World):Calls Tryz.prog 236 #[.int .u8 x] w fun e w'=>e=.returned (.bool false)∧w=w':=by
 go_enter Tryz.func236,Tryz.ntmps236
 go_wp2
 go_ret
 exact ⟨rfl,rfl⟩
set_option maxHeartbeats 1000000 in
theorem compareB_any (x y:Int) (w:World):Calls Tryz.prog 212 #[.int .u8 x,.int .u8 y] w fun e w'=>e=.returned (.int .i64 (cmpV x y))∧w'=w:=by
 by_cases h1:x<y
 ·rw[cmpV_lt h1]
  go_enter Tryz.func212,Tryz.ntmps212
  go_wp2_with (go_at_call 236;refine (isNaNB_any _ _).mono ?_;rintro e w' ⟨rfl,rfl⟩)
  go_ret
  exact ⟨rfl,rfl⟩
 ·by_cases h2:y<x
  ·have HV:Hid (cmpV x y=1):=by rw[Hid];unfold cmpV;rw[if_neg h1,if_pos h2]
   go_enter Tryz.func212,Tryz.ntmps212
   go_wp2_with (go_at_call 236;refine (isNaNB_any _ _).mono ?_;rintro e w' ⟨rfl,rfl⟩)
   go_ret
   exact ⟨ret_int HV.out.symm,rfl⟩
  ·have HV:Hid (cmpV x y=0):=by rw[Hid];unfold cmpV;rw[if_neg h1,if_neg h2]
   go_enter Tryz.func212,Tryz.ntmps212
   go_wp2_with (go_at_call 236;refine (isNaNB_any _ _).mono ?_;rintro e w' ⟨rfl,rfl⟩)
   go_ret
   exact ⟨ret_int HV.out.symm,rfl⟩
def KeyOKB (kf:Nat) (kb:Array Value) (K:Int→Int) (n:Nat) (w:World):Prop :=
 ∀W,Below w.heap.size w W→∀x:Int,0≤x→x<n→Calls Tryz.prog kf (#[.int .i64 x]++kb) W fun e w'=>e=.returned (.int .u8 (K x))∧∃q,w'=W.drewN q
set_option maxRecDepth 100000 in
set_option maxHeartbeats 2000000 in
theorem closureB_any (kf:Nat) (kb:Array Value) (K:Int→Int) (hent:∀(args:Array Value) (W:World),(callFunc kf args).run Tryz.prog W=.ok (.enter kf args) W) (n:Nat) (w0 W:World) (hk:KeyOKB kf kb K n w0) (hW:Below w0.heap.size w0 W) (B:Nat) (hB:W.cell? ⟨B,0,none⟩=some (.func (.func kf) #[] kb)) (x y:Int) (hx0:0≤x) (hx1:x<n) (hy0:0≤y) (hy1:y<n) :
  Calls Tryz.prog 211 #[.int .i64 x,.int .i64 y,.pointer (some ⟨B,0,none⟩)] W fun e w'=>e=.returned (.int .i64 (cmpV (K x) (K y)))∧∃q,w'=W.drewN q:=by
 have hkey:∀z:Int,0≤z→z<n→∀k,Calls Tryz.prog kf (#[.int .i64 z]++kb) (W.drewN k) fun e w'=>e=.returned (.int .u8 (K z))∧∃q,w'=(W.drewN k).drewN q:=fun z h0 h1 k=>hk _ (below_drewN hW k) z h0 h1
 have hcp:∀u v:Int,∀k,Calls Tryz.prog 212 #[.int .u8 u,.int .u8 v] (W.drewN k) fun e w'=>e=.returned (.int .i64 (cmpV u v))∧w'=W.drewN k:=fun u v k=>compareB_any u v _
 clear hk
 go_enter Tryz.func211,Tryz.ntmps211
 go_wp2_with fail
 go_quiet (first
  | (go_at_fn kf;refine Calls.quiet_of (hkey _ (by assumption) (by assumption) _))
  | (go_at_call 212;refine Calls.quiet_of_same (hcp _ _ _)))
 go_wp2
 go_ret
 exact ⟨rfl,nq,rfl⟩
set_option maxRecDepth 100000 in
set_option maxHeartbeats 2000000 in
theorem sortedByB_any (kf:Nat) (kb:Array Value) (K:Int→Int) (hent:∀(args:Array Value) (W:World),(callFunc kf args).run Tryz.prog W=.ok (.enter kf args) W) (n:Nat) (hn:n≤65536) (w:World) (hk:KeyOKB kf kb K n w) :
  Calls Tryz.prog 172 #[.int .i64 (n:Nat),.func (.func kf) #[] kb] w fun e w'=>∃d',e=.returned (.slice (some ⟨w.heap.size+1,0,none⟩) n n)∧RowAt w' (w.heap.size+1) 3 (ints n d')∧Below w.heap.size w w'∧Order n d'∧Srt K d' 0 n:=by
 have hmk:=run_make_row' (P:=Tryz.prog) 25 3 (.int .i64 0) 8 Tryz.underlying25 y_info_int rfl .i64 .i64 n (by omega) (by omega)
 rw[y_made_tab,ints_new] at hmk
 have hmf:∀(fn:Fn) (first cap:Array Value) (w:World),(Instr.makeFunc fn first cap).run Tryz.prog w=.ok (.func fn first cap) w:=fun _ _ _ _=>rfl
 have HK:=(show Hid (KeyOKB kf kb K n w) from hk)
 clear hk
 go_enter Tryz.func172,Tryz.ntmps172
 go_wp2
 go_loopw [10] (fun i W=>∃m:Nat,m≤n∧i=.int .i64 m∧RowAt W (w.heap.size+1) 3 (ints n (fillN m))∧W.cell? ⟨w.heap.size,0,none⟩=some (.func (.func kf) #[] kb)∧Below w.heap.size w W) (fun i _=>((n:Int)-intOf i).toNat)
 case atStart =>
  refine ⟨0,by omega,rfl,?_,?_,((Below.refl _ _).alloc (Nat.le_refl _) _).alloc (by simp) _⟩
  ·have:=RowAt.new (w.alloc (.cells #[.func (.func kf) #[] kb] 144)) 3 (ints n fun _=>0)
   simpa [fillN_zero] using this
  ·simp
 case round =>
  obtain ⟨m,hm,rfl,ro,hcb,hb⟩:=hrel
  by_cases hlt:m<n
  ·have hcx:=ro.cell (ints_get (fillN m) hlt)
   have hfx:=ro.frozen m
   have ro2:RowAt (wr.setCell ⟨w.heap.size+1,m,none⟩ (.int .i64 m)) (w.heap.size+1) 3 (ints n (fillN (m+1))):=by
    have:=ro.set m (.int .i64 m)
    rw[ints_set,fillN_step] at this
    exact this
   have hbb:=hb.setCell (p:=⟨w.heap.size+1,m,none⟩) (by simp) (.int .i64 m)
   have hcb2:(wr.setCell ⟨w.heap.size+1,m,none⟩ (.int .i64 m)).cell? ⟨w.heap.size,0,none⟩=some (.func (.func kf) #[] kb):=(World.cell?_setCell_other _ _ _ _ (by simp)).trans hcb
   go_wp2
   exact ⟨⟨m+1,by omega,by go_num,ro2,hcb2,hbb⟩,by simp[intOf];omega⟩
  ·obtain rfl:m=n:=by omega
   have hro:RowAt wr (w.heap.size+1) 3 (ints m fun i=>(i:Int)):=by
    rw[ints_ext (f:=fun i=>(i:Int)) (g:=fillN m) (fun i hi=>by unfold fillN;rw[if_pos hi])]
    exact ro
   have hcmp:CmpOK 211 #[.pointer (some ⟨w.heap.size,0,none⟩)] K m wr (w.heap.size+1):=fun W hW x y hx0 hx1 hy0 hy1=>by
    refine closureB_any kf kb K hent m w W HK.out ?_ w.heap.size ?_ x y hx0 hx1 hy0 hy1
    ·exact hb.trans (gb_to_below hW (by have:=hb.size;omega) (by omega))
    ·have h1:w.heap.size<wr.heap.size:=World.block_lt_of_cell? _ _ hcb
     rw[show W.cell? ⟨w.heap.size,0,none⟩=wr.cell? ⟨w.heap.size,0,none⟩ from by
      have hbl:=(gb_to_below (B:=w.heap.size+1) hW (by omega) (by omega))
      exact hbl.cell (p:=⟨w.heap.size,0,none⟩) (by simp)]
     exact hcb
   have HS:=(show Hid (Calls Tryz.prog 208 #[.slice (some ⟨w.heap.size+1,0,none⟩) m m,.func (.func 211) #[] #[.pointer (some ⟨w.heap.size,0,none⟩)]] wr fun e w'=>∃d',e=.returned (.tuple #[])∧RowAt w' (w.heap.size+1) 3 (ints m d')∧wr.grownBy w' (some (w.heap.size+1))∧Done K m 0 m (fun i=>(i:Int)) d') from sortStable_any _ _ K (by intro args W;go_simp) (w.heap.size+1) m m hn wr hcmp (fun i=>(i:Int)) hro (fun i hi=>(order_id m).lt i hi) (stab_id K m))
   clear hcmp
   go_wp2_with fail
   refine Calls.mono HS.out ?_
   rintro e W1 ⟨d',rfl,ro1,hb1,hd⟩
   go_wp2
   go_ret
   exact ⟨d',rfl,ro1,hb.trans (gb_to_below hb1 hb.size (by omega)),hd.mv.order (order_id m),hd.srt⟩
end Go.Proofs.YtkohhdkkbaifoaaGreatDoor

/-
  Contracts of rails.railOf, Rail and the statements' alive.
-/
namespace Go.Proofs.YtkohhdkkbaifoaaGreatDoor
open Go.RowKit PK Sm

set_option maxHeartbeats 1000000 in
theorem railOf_any (i R:Nat) (hi:i≤65536) (h1:1≤R) (h64:R≤64) (w:World):Calls Tryz.prog 171 #[.int .i64 (i:Nat),.int .i64 (R:Nat)] w fun e w'=>e=.returned (.int .i64 (railK R i:Nat))∧w'=w:=by
 by_cases h:R=1
 ·subst h
  have HV:Hid ((railK 1 i:Nat)=0):=by rw[Hid];unfold railK;rw[if_pos rfl]
  go_enter Tryz.func171,Tryz.ntmps171
  go_wp2
  go_ret
  exact ⟨by rw[HV.out];rfl,rfl⟩
 ·obtain ⟨s,hs⟩:∃s,s=2*(R-1):=⟨_,rfl⟩
  obtain ⟨r,hr⟩:∃r,r=i % s:=⟨_,rfl⟩
  have HV:Hid ((railK R i:Nat)=min r (s-r)):=by rw[Hid,hr,hs];unfold railK;rw[if_neg h]
  have hne:(((R:Nat):Int)==1)=false:=by simp;omega
  have e1:(2:Int)*(((R:Nat):Int)-1)=((s:Nat):Int):=by omega
  have hs0:(((s:Nat):Int)==0)=false:=by simp;omega
  have e2:((i:Nat):Int) % ((s:Nat):Int)=((r:Nat):Int):=by rw[hr];omega
  have hrs:r<s:=by rw[hr];exact Nat.mod_lt _ (by omega)
  have hsb:s≤126:=by omega
  obtain ⟨q,hq⟩:∃q,q=s-r:=⟨_,rfl⟩
  have e3:((s:Nat):Int)-((r:Nat):Int)=((q:Nat):Int):=by omega
  rw[←hq] at HV
  clear hs hr hq h
  by_cases hlt:r≤q
  ·rw[Nat.min_eq_left hlt] at HV
   go_enter Tryz.func171,Tryz.ntmps171
   go_wp2
   go_ret
   exact ⟨by rw[HV.out];first | rfl | (show Ending.returned (Value.int .i64 (min ((r:Nat):Int) ((q:Nat):Int)))=_;rw[show min ((r:Nat):Int) ((q:Nat):Int)=((r:Nat):Int) by omega]),rfl⟩
  ·rw[Nat.min_eq_right (by omega)] at HV
   go_enter Tryz.func171,Tryz.ntmps171
   go_wp2
   go_ret
   exact ⟨by rw[HV.out];first | rfl | (show Ending.returned (Value.int .i64 (min ((r:Nat):Int) ((q:Nat):Int)))=_;rw[show min ((r:Nat):Int) ((q:Nat):Int)=((q:Nat):Int) by omega]),rfl⟩
def tlB (n:Int):Bool:=decide (0≤n∧n≤65536)
theorem textLong_any (n:Int) (w:World):Calls Tryz.prog 168 #[.int .i64 n] w fun e w'=>e=.returned (.bool (tlB n))∧w=w':=by
 by_cases h1:0≤n
 ·by_cases h2:n≤65536
  ·have HV:Hid (tlB n=true):=by rw[Hid];unfold tlB;simp[h1,h2]
   go_enter Tryz.func168,Tryz.ntmps168
   go_wp2
   go_ret
   exact ⟨ret_bool HV.out.symm,rfl⟩
  ·have HV:Hid (tlB n=false):=by rw[Hid];unfold tlB;simp[h1,h2]
   go_enter Tryz.func168,Tryz.ntmps168
   go_wp2
   go_ret
   exact ⟨ret_bool HV.out.symm,rfl⟩
 ·have HV:Hid (tlB n=false):=by rw[Hid];unfold tlB;simp[h1]
  go_enter Tryz.func168,Tryz.ntmps168
  go_wp2
  go_ret
  exact ⟨ret_bool HV.out.symm,rfl⟩
def railKey (R:Nat):Int→Int:=fun z=>(railK R z.toNat:Nat)
set_option maxHeartbeats 1000000 in
theorem railKey_ok (R B n:Nat) (hn:n≤65536) (h1:1≤R) (h64:R≤64) (w:World) (hB:w.cell? ⟨B,0,none⟩=some (.int .i64 (R:Nat))):KeyOKI 170 #[.pointer (some ⟨B,0,none⟩)] (railKey R) n w:=by
 intro W hW x hx0 hx1
 obtain ⟨i,rfl⟩:∃i:Nat,x=i:=⟨x.toNat,by omega⟩
 have hc:=(hW.cell (p:=⟨B,0,none⟩) (World.block_lt_of_cell? _ _ hB)).trans hB
 have HC:=(show Hid (Calls Tryz.prog 171 #[.int .i64 (i:Nat),.int .i64 (R:Nat)] W fun e w'=>e=.returned (.int .i64 (railK R i:Nat))∧w'=W) from railOf_any i R (by omega) h1 h64 W)
 show Calls Tryz.prog 170 #[.int .i64 (i:Nat),.pointer (some ⟨B,0,none⟩)] W _
 clear hB hW
 go_enter Tryz.func170,Tryz.ntmps170
 go_wp2_with fail
 refine Calls.mono HC.out ?_
 rintro e W1 ⟨rfl,rfl⟩
 go_wp2
 go_ret
 exact ⟨rfl,0,rfl⟩
set_option maxRecDepth 100000 in
set_option maxHeartbeats 1000000 in
theorem rail_ok (n R:Nat) (hn:n≤65536) (h1:1≤R) (h64:R≤64) (w:World) :
  Calls Tryz.prog 124 #[.int .i64 (n:Nat),.int .i64 (R:Nat)] w fun e w'=>∃(G:Nat) (d:Nat→Int),e=.returned (.tuple #[.slice (some ⟨G,0,none⟩) n n,.int .i64 0])∧RowAt w' G 3 (ints n d)∧Below w.heap.size w w'∧w.heap.size≤G∧Order n d∧Srt (railKey R) d 0 n:=by
 have hmf:∀(fn:Fn) (first cap:Array Value) (w:World),(Instr.makeFunc fn first cap).run Tryz.prog w=.ok (.func fn first cap) w:=fun _ _ _ _=>rfl
 have HT:=(show Hid (∀W,Calls Tryz.prog 168 #[.int .i64 (n:Nat)] W fun e w'=>e=.returned (.bool true)∧W=w') from fun W=>by
  have:=textLong_any (n:Int) W
  rw[show tlB (n:Int)=true by unfold tlB;simp;omega] at this
  exact this)
 have HS:=(show Hid (Calls Tryz.prog 169 #[.int .i64 (n:Nat),.func (.func 170) #[] #[.pointer (some ⟨w.heap.size,0,none⟩)]] (w.alloc (.cells #[.int .i64 (R:Nat)] 3)) fun e w'=>∃d',e=.returned (.slice (some ⟨(w.alloc (.cells #[.int .i64 (R:Nat)] 3)).heap.size+1,0,none⟩) n n)∧RowAt w' ((w.alloc (.cells #[.int .i64 (R:Nat)] 3)).heap.size+1) 3 (ints n d')∧Below (w.alloc (.cells #[.int .i64 (R:Nat)] 3)).heap.size (w.alloc (.cells #[.int .i64 (R:Nat)] 3)) w'∧Order n d'∧Srt (railKey R) d' 0 n) from sortedByI_any _ _ _ (by intro args W;go_simp) n hn _ (railKey_ok R w.heap.size n hn h1 h64 _ (by simp)))
 go_enter Tryz.func124,Tryz.ntmps124
 go_wp2_with (go_at_call 168;refine (HT.out _).mono ?_;rintro e W0 ⟨rfl,rfl⟩)
 refine Calls.mono HS.out ?_
 rintro e W1 ⟨d',rfl,ro,hb,ho,hs⟩
 go_wp2
 go_ret2
 exact ⟨(w.alloc (.cells #[.int .i64 (R:Nat)] 3)).heap.size+1,d',by simp,ro,((Below.refl _ _).alloc (Nat.le_refl _) _).trans (hb.mono (by simp)),by simp;omega,ho,hs⟩
theorem rail_list {n R:Nat} (h1:1≤R) {d:Nat→Int} (ho:Order n d) (hs:Srt (railKey R) d 0 n):(byKey (railK R) R n).length=n∧∀i,i<n→d i=(((byKey (railK R) R n).getD i 0:Nat):Int):=by
 have h:=of_list (K:=railKey R) (byKey_pw (railK R) R n) (fun x=>byKey_mem (fun i _=>railK_lt h1 i) x)
 exact ⟨h.1,fun i hi=>srt_unique ho h.2.1 hs h.2.2 i hi⟩
end Go.Proofs.YtkohhdkkbaifoaaGreatDoor

/-
  Contracts of rails.Columns and its closures.
-/
namespace Go.Proofs.YtkohhdkkbaifoaaGreatDoor
open Go.RowKit PK Sm

def keyL (l:List UInt8):Int→Int:=fun z=>((l.getD z.toNat 0).toNat:Nat)
def turnK (L:Nat) (t:Nat→Int):Int→Int:=fun z=>t (z.toNat % L)
set_option maxHeartbeats 1000000 in
theorem colKey1_ok (s:ByteArray) (_:s.size≤65536) (B:Nat) (w:World) (hB:w.cell? ⟨B,0,none⟩=some (.string s)):KeyOKB 173 #[.pointer (some ⟨B,0,none⟩)] (keyL s.data.toList) s.size w:=by
 intro W hW x hx0 hx1
 obtain ⟨i,rfl⟩:∃i:Nat,x=i:=⟨x.toNat,by omega⟩
 have hc:=(hW.cell (p:=⟨B,0,none⟩) (World.block_lt_of_cell? _ _ hB)).trans hB
 have hi:i<s.size:=by omega
 have HV:Hid (keyL s.data.toList (i:Int)=(s[i].toNat:Nat)):=by rw[Hid];unfold keyL;rw[Int.toNat_natCast,getD_byte s i hi]
 show Calls Tryz.prog 173 #[.int .i64 (i:Nat),.pointer (some ⟨B,0,none⟩)] W _
 clear hB hW
 go_enter Tryz.func173,Tryz.ntmps173
 go_wp2
 go_ret
 exact ⟨ret_int HV.out.symm,0,rfl⟩
set_option maxRecDepth 100000 in
set_option maxHeartbeats 2000000 in
theorem colKey2_ok (s:ByteArray) (hs0:1≤s.size) (hs:s.size≤65536) (n:Nat) (_:n≤65536) (Bt Bk G:Nat) (t:Nat→Int) (w:World) (hk:w.cell? ⟨Bk,0,none⟩=some (.string s)) (ht:w.cell? ⟨Bt,0,none⟩=some (.slice (some ⟨G,0,none⟩) s.size s.size)) (hr:RowAt w G 3 (ints s.size t)) :
  KeyOKI 174 #[.pointer (some ⟨Bt,0,none⟩),.pointer (some ⟨Bk,0,none⟩)] (turnK s.size t) n w:=by
 intro W hW x hx0 hx1
 obtain ⟨i,rfl⟩:∃i:Nat,x=i:=⟨x.toNat,by omega⟩
 have hck:=(hW.cell (p:=⟨Bk,0,none⟩) (World.block_lt_of_cell? _ _ hk)).trans hk
 have hct:=(hW.cell (p:=⟨Bt,0,none⟩) (World.block_lt_of_cell? _ _ ht)).trans ht
 obtain ⟨r,hr'⟩:∃r,r=i % s.size:=⟨_,rfl⟩
 have hrs:r<s.size:=by rw[hr'];exact Nat.mod_lt _ (by omega)
 have hrI:(r:Int)<(s.size:Int):=by omega
 have e1:((i:Nat):Int) % ((s.size:Nat):Int)=((r:Nat):Int):=by rw[hr'];omega
 have hne:(((s.size:Nat):Int)==0)=false:=beq_eq_false_iff_ne.2 (by omega)
 have hcr:=(hr.below hW hr.lt).cell (ints_get t hrs)
 have HV:Hid (turnK s.size t (i:Int)=t r):=by rw[Hid];unfold turnK;rw[Int.toNat_natCast,←hr']
 show Calls Tryz.prog 174 #[.int .i64 (i:Nat),.pointer (some ⟨Bt,0,none⟩),.pointer (some ⟨Bk,0,none⟩)] W _
 clear hk ht hr hW hr'
 go_enter Tryz.func174,Tryz.ntmps174
 go_wp2_with fail
 go_quiet (fail)
 go_wp2
 go_ret
 exact ⟨ret_int HV.out.symm,nq,rfl⟩
def colE (n:Int) (l:List UInt8):Int:=if tlB n=false then 3 else if ckE l≠0 then ckE l else if l.length<1∨256<l.length then 5 else 0
set_option maxRecDepth 100000 in
set_option maxHeartbeats 2000000 in
theorem col_bad (n:Int) (s:ByteArray) (hE:colE n s.data.toList≠0) (w:World) :
  Calls Tryz.prog 125 #[.int .i64 n,.string s] w fun e w'=>e=.returned (.tuple #[.slice none 0 0,.int .i64 (colE n s.data.toList)])∧Below w.heap.size w w':=by
 have HT:=(show Hid (∀W,Calls Tryz.prog 168 #[.int .i64 n] W fun e w'=>e=.returned (.bool (tlB n))∧W=w') from fun W=>textLong_any n W)
 have HCK:=(show Hid (∀W,Calls Tryz.prog 38 #[.string s] W fun e w'=>e=.returned (.agg #[.int .i64 (ckE s.data.toList),.int .i64 (ckAt s.data.toList)])∧Below W.heap.size W w') from fun W=>check_all s W)
 have HF:Hid (colE n s.data.toList=if tlB n=false then 3 else if ckE s.data.toList≠0 then ckE s.data.toList else if s.size<1∨256<s.size then 5 else 0):=by rw[Hid,Pl.size_len s];rfl
 cases ht:tlB n with
 | false =>
  rw[ht] at HT
  have HV:Hid (colE n s.data.toList=3):=by rw[Hid,HF.out,ht];rfl
  clear hE ht HF
  go_enter Tryz.func125,Tryz.ntmps125
  go_wp2_with (go_at_call 168;refine (HT.out _).mono ?_;rintro e W0 ⟨rfl,rfl⟩)
  go_ret2
  exact ⟨by rw[HV.out];rfl,(Below.refl _ _).alloc (Nat.le_refl _) _⟩
 | true =>
  rw[ht] at HT
  rcases ck_cases s.data.toList with ⟨h3,h4,_,_⟩ | h3
  ·rw[h3,h4] at HCK
   have HV0:Hid (colE n s.data.toList=if s.size<1∨256<s.size then 5 else 0):=by rw[Hid,HF.out,ht,h3];simp
   have h6:s.size<1∨256<s.size:=by
    apply Classical.byContradiction
    intro hno
    rw[HV0.out,if_neg hno] at hE
    exact hE rfl
   have HV:Hid (colE n s.data.toList=5):=by rw[Hid,HV0.out,if_pos h6]
   clear hE ht HF HV0 h3 h4
   rcases h6 with h6 | h6
   ·have h7:(s.size:Int)<1:=by omega
    go_enter Tryz.func125,Tryz.ntmps125
    go_wp2_with (first | (go_at_call 168;refine (HT.out _).mono ?_;rintro e W0 ⟨rfl,rfl⟩) | (go_at_call 38;refine (HCK.out _).mono ?_;rintro e W1 ⟨rfl,hb⟩;have hb0:Below (w.heap.size+1) (w.alloc (.cells #[.string s] 9)) W1:=(by simpa using hb);have hcs:=(hb0.cell (p:=⟨w.heap.size,0,none⟩) (by simp));have hcs2:w.heap.size<W1.heap.size:=(by have:=hb0.size;simp at this;omega);simp at hcs))
    go_ret2
    exact ⟨by rw[HV.out];rfl,(((Below.refl _ _).alloc (Nat.le_refl _) _).trans (hb0.mono (by omega))).alloc (by omega) _⟩
   ·have h7:¬(s.size:Int)<1:=by omega
    have h8:(256:Int)<(s.size:Int):=by omega
    go_enter Tryz.func125,Tryz.ntmps125
    go_wp2_with (first | (go_at_call 168;refine (HT.out _).mono ?_;rintro e W0 ⟨rfl,rfl⟩) | (go_at_call 38;refine (HCK.out _).mono ?_;rintro e W1 ⟨rfl,hb⟩;have hb0:Below (w.heap.size+1) (w.alloc (.cells #[.string s] 9)) W1:=(by simpa using hb);have hcs:=(hb0.cell (p:=⟨w.heap.size,0,none⟩) (by simp));have hcs2:w.heap.size<W1.heap.size:=(by have:=hb0.size;simp at this;omega);simp at hcs))
    go_ret2
    exact ⟨by rw[HV.out];rfl,(((Below.refl _ _).alloc (Nat.le_refl _) _).trans (hb0.mono (by omega))).alloc (by omega) _⟩
  ·have HV:Hid (colE n s.data.toList=ckE s.data.toList):=by rw[Hid,HF.out,ht,if_neg (by simp),if_pos (by simpa using h3)]
   generalize ckE s.data.toList=E2 at *
   generalize ckAt s.data.toList=A2 at *
   clear hE ht HF
   go_enter Tryz.func125,Tryz.ntmps125
   go_wp2_with (first | (go_at_call 168;refine (HT.out _).mono ?_;rintro e W0 ⟨rfl,rfl⟩) | (go_at_call 38;refine (HCK.out _).mono ?_;rintro e W1 ⟨rfl,hb⟩;have hb0:Below (w.heap.size+1) (w.alloc (.cells #[.string s] 9)) W1:=(by simpa using hb);have hcs:=(hb0.cell (p:=⟨w.heap.size,0,none⟩) (by simp));have hcs2:w.heap.size<W1.heap.size:=(by have:=hb0.size;simp at this;omega);simp at hcs))
   go_region
   all_goals go_wp2
   go_ret2
   exact ⟨by rw[HV.out];rfl,((((Below.refl _ _).alloc (Nat.le_refl _) _).trans (hb0.mono (by omega))).alloc (by omega) _).drew⟩
structure Turns (l:List UInt8) (L:Nat) (t:Nat→Int):Prop where
 ex:∃d,Order L d∧Srt (keyL l) d 0 L∧∀x,t x=backF d L x
set_option maxRecDepth 100000 in
set_option maxHeartbeats 4000000 in
theorem col_ok (n:Nat) (s:ByteArray) (hn:n≤65536) (hck:ckE s.data.toList=0) (hcat:ckAt s.data.toList=0) (hs0:1≤s.size) (hs:s.size≤256) (w:World) :
  Calls Tryz.prog 125 #[.int .i64 (n:Nat),.string s] w fun e w'=>∃(G:Nat) (d t:Nat→Int),e=.returned (.tuple #[.slice (some ⟨G,0,none⟩) n n,.int .i64 0])∧RowAt w' G 3 (ints n d)∧Below w.heap.size w w'∧w.heap.size≤G∧Order n d∧Srt (turnK s.size t) d 0 n∧Turns s.data.toList s.size t:=by
 have hmf:∀(fn:Fn) (first cap:Array Value) (w:World),(Instr.makeFunc fn first cap).run Tryz.prog w=.ok (.func fn first cap) w:=fun _ _ _ _=>rfl
 have HT:=(show Hid (∀W,Calls Tryz.prog 168 #[.int .i64 (n:Nat)] W fun e w'=>e=.returned (.bool true)∧W=w') from fun W=>by
  have:=textLong_any (n:Int) W
  rw[show tlB (n:Int)=true by unfold tlB;simp;omega] at this
  exact this)
 have HCK:=(show Hid (∀W,Calls Tryz.prog 38 #[.string s] W fun e w'=>e=.returned (.agg #[.int .i64 0,.int .i64 0])∧Below W.heap.size W w') from fun W=>by
  have:=check_all s W
  rw[hck,hcat] at this
  exact this)
 have h7:¬(s.size:Int)<1:=by omega
 have h8:¬(256:Int)<(s.size:Int):=by omega
 clear hck hcat
 go_enter Tryz.func125,Tryz.ntmps125
 go_wp2_with (first | (go_at_call 168;refine (HT.out _).mono ?_;rintro e W0 ⟨rfl,rfl⟩) | (go_at_call 38;refine (HCK.out _).mono ?_;rintro e W1 ⟨rfl,hb⟩;have hb0:Below (w.heap.size+1) (w.alloc (.cells #[.string s] 9)) W1:=(by simpa using hb);have hcs:=(hb0.cell (p:=⟨w.heap.size,0,none⟩) (by simp));have hcs2:w.heap.size<W1.heap.size:=(by have:=hb0.size;simp at this;omega);simp at hcs))
 have hbw:Below w.heap.size w (W1.alloc (.cells #[.int .i64 0,.int .i64 0] 35)):=(((Below.refl _ _).alloc (Nat.le_refl _) _).trans (hb0.mono (by omega))).alloc (by omega) _
 have hcx:(W1.alloc (.cells #[.int .i64 0,.int .i64 0] 35)).cell? ⟨w.heap.size,0,none⟩=some (.string s):=(((Below.refl W1.heap.size W1).alloc (Nat.le_refl _) _).cell (p:=⟨w.heap.size,0,none⟩) hcs2).trans hcs
 have hxs:w.heap.size<(W1.alloc (.cells #[.int .i64 0,.int .i64 0] 35)).heap.size:=by simp;omega
 clear hb hb0 HT HCK hcs hcs2
 generalize W1.alloc (.cells #[.int .i64 0,.int .i64 0] 35)=X at *
 refine Calls.mono (sortedByB_any 173 #[.pointer (some ⟨w.heap.size,0,none⟩)] (keyL s.data.toList) (by intro args W;go_simp) s.size (by omega) X (colKey1_ok s (by omega) w.heap.size X hcx)) ?_
 rintro e W2 ⟨d1,rfl,ro1,hb2,ho1,hs1⟩
 have hz2:=hb2.size
 have hcx2:=(hb2.cell (p:=⟨w.heap.size,0,none⟩) hxs).trans hcx
 have hbw2:=hbw.trans (hb2.mono hbw.size)
 have hg1:GoodO s.size d1:=GoodO.of_order ho1 (by omega)
 have HBK:=(show Hid (Calls Tryz.prog 145 #[.slice (some ⟨X.heap.size+1,0,none⟩) s.size s.size] W2 fun e w'=>e=.returned (.slice (some ⟨W2.heap.size,0,none⟩) s.size s.size)∧RowAt w' W2.heap.size 3 (ints s.size (backF d1 s.size))∧Below W2.heap.size W2 w') from back_any _ s.size d1 W2 (NumsAt.of_row ro1 (by unfold maxLen;omega)) hg1.lt hg1.le)
 have HTN:=(show Hid (Turns s.data.toList s.size (backF d1 s.size)) from ⟨d1,ho1,hs1,fun _=>rfl⟩)
 clear hcx hbw hb2 ho1 hs1 hg1 ro1
 go_wp2_with fail
 refine Calls.mono HBK.out ?_
 rintro e W3 ⟨rfl,ro2,hb3⟩
 have hz3:=hb3.size
 have hbw3:=hbw2.trans (hb3.mono hbw2.size)
 have hcx3:=(hb3.cell (p:=⟨w.heap.size,0,none⟩) (show w.heap.size<W2.heap.size by omega)).trans hcx2
 generalize backF d1 s.size=t at *
 have hlt:=ro2.lt
 have ro3:=ro2.alloc (.cells #[.slice (some ⟨W2.heap.size,0,none⟩) s.size s.size] 25)
 have hcx4:(W3.alloc (.cells #[.slice (some ⟨W2.heap.size,0,none⟩) s.size s.size] 25)).cell? ⟨w.heap.size,0,none⟩=some (.string s):=(((Below.refl W3.heap.size W3).alloc (Nat.le_refl _) _).cell (p:=⟨w.heap.size,0,none⟩) (show w.heap.size<W3.heap.size by omega)).trans hcx3
 have hct:(W3.alloc (.cells #[.slice (some ⟨W2.heap.size,0,none⟩) s.size s.size] 25)).cell? ⟨W3.heap.size,0,none⟩=some (.slice (some ⟨W2.heap.size,0,none⟩) s.size s.size):=by simp
 have hbw4:=hbw3.alloc (by omega) (.cells #[.slice (some ⟨W2.heap.size,0,none⟩) s.size s.size] 25)
 have HS:=(show Hid (Calls Tryz.prog 169 #[.int .i64 (n:Nat),.func (.func 174) #[] #[.pointer (some ⟨W3.heap.size,0,none⟩),.pointer (some ⟨w.heap.size,0,none⟩)]] (W3.alloc (.cells #[.slice (some ⟨W2.heap.size,0,none⟩) s.size s.size] 25)) fun e w'=>∃d',e=.returned (.slice (some ⟨(W3.alloc (.cells #[.slice (some ⟨W2.heap.size,0,none⟩) s.size s.size] 25)).heap.size+1,0,none⟩) n n)∧RowAt w' ((W3.alloc (.cells #[.slice (some ⟨W2.heap.size,0,none⟩) s.size s.size] 25)).heap.size+1) 3 (ints n d')∧Below (W3.alloc (.cells #[.slice (some ⟨W2.heap.size,0,none⟩) s.size s.size] 25)).heap.size (W3.alloc (.cells #[.slice (some ⟨W2.heap.size,0,none⟩) s.size s.size] 25)) w'∧Order n d'∧Srt (turnK s.size t) d' 0 n) from sortedByI_any _ _ _ (by intro args W;go_simp) n hn _ (colKey2_ok s hs0 (by omega) n hn W3.heap.size w.heap.size W2.heap.size t _ hcx4 hct ro3))
 clear ro2 ro3 hcx4 hct hcx3 hcx2 HBK hb3 hbw2 hbw3
 go_wp2_with fail
 refine Calls.mono HS.out ?_
 rintro e W5 ⟨d,rfl,ro5,hb5,ho,hsd⟩
 have hz4:=hbw4.size
 have hbw5:=hbw4.trans (hb5.mono hz4)
 clear hb5 HS hbw4
 go_wp2
 go_ret2
 exact ⟨(W3.alloc (.cells #[.slice (some ⟨W2.heap.size,0,none⟩) s.size s.size] 25)).heap.size+1,d,t,by simp,ro5,hbw5,by omega,ho,hsd,HTN.out⟩
end Go.Proofs.YtkohhdkkbaifoaaGreatDoor
