/-
  Several texts, joined: SSwap, SSymA.
-/
import Derived.Test.YtkohhdkkbaifoaaGreatDoorJn10
import Derived.Test.YtkohhdkkbaifoaaGreatDoorChecked
import Derived.RegionTactic
import Derived.Deep.QuietTactic
import Derived.BigQuiet
import Derived.BigRegion
import Derived.Shelf.RegionOpenPlain
import Derived.Shelf.Abstract
/-
  Contracts of slices.swapRangeCmpFunc, rotateCmpFunc and insertionSortCmpFunc.
-/
namespace Go.Proofs.YtkohhdkkbaifoaaGreatDoor
open Go.RowKit PK Sm

set_option maxRecDepth 100000 in
set_option maxHeartbeats 4000000 in
theorem swapRange_any (G cap n:Nat) (d:Nat→Int) (a b k:Nat) (hab:a+k≤b) (hbn:b+k≤n) (hn:n≤65536) (cv:Value) (w:World) (hr:RowAt w G 3 (ints n d)) :
  Calls Tryz.prog 275 #[.slice (some ⟨G,0,none⟩) n cap,.int .i64 (a:Nat),.int .i64 (b:Nat),.int .i64 (k:Nat),cv] w fun e w'=>e=.returned (.tuple #[])∧RowAt w' G 3 (ints n (swF a b k d))∧w.grownBy w' (some G):=by
 go_enter Tryz.func275,Tryz.ntmps275
 go_wp2
 go_loopw [10] (fun i W=>∃m:Nat,m≤k∧i=.int .i64 m∧RowAt W G 3 (ints n (swF a b m d))∧w.grownBy W (some G)) (fun i _=>((k:Int)-intOf i).toNat)
 case atStart=>exact ⟨0,by omega,rfl,by rw[swF_zero];exact hr,gb_refl _ _⟩
 case round =>
  clear hr
  obtain ⟨m,hm,rfl,ro,hb⟩:=hrel
  by_cases hlt:m<k
  ·obtain ⟨p,hp⟩:∃p,p=a+m:=⟨_,rfl⟩
   obtain ⟨q,hq⟩:∃q,q=b+m:=⟨_,rfl⟩
   have hpi:((a:Nat):Int)+((m:Nat):Int)=((p:Nat):Int):=by omega
   have hqi:((b:Nat):Int)+((m:Nat):Int)=((q:Nat):Int):=by omega
   have hpn:p<n:=by omega
   have hqn:q<n:=by omega
   have hpq:p≠q:=by omega
   have hc1:=ro.cell (ints_get (swF a b m d) hpn)
   have hc2:=ro.cell (ints_get (swF a b m d) hqn)
   have HST:=(show Hid (upd (upd (swF a b m d) p (d q)) q (d p)=swF a b (m+1) d) from by rw[hp,hq];exact swF_step a b m k d hlt hab)
   have hsw:=swF_at a b m k d hlt hab
   rw[←hp,←hq] at hsw
   rw[hsw.1] at hc1
   rw[hsw.2] at hc2
   have hf1:=ro.frozen p
   have hf2:=ro.frozen q
   have HRO:=(show Hid (RowAt wr G 3 (ints n (swF a b m d))) from ro)
   generalize d p=x at *
   generalize d q=y at *
   clear ro hsw hp hq
   go_wp2
   go_region
   go_wp2
   have ro2:RowAt (((wr.setCell ⟨G,p,none⟩ (.int .i64 y)).setCell ⟨G,q,none⟩ (.int .i64 x)).drew) G 3 (ints n (swF a b (m+1) d)):=by
    have:=(HRO.out.set p (.int .i64 y)).set q (.int .i64 x)
    rw[ints_set,ints_set,HST.out] at this
    exact this.drew
   exact ⟨⟨m+1,by omega,by go_num,ro2,gb_drew (gb_set (gb_set hb _ _) _ _)⟩,by simp[intOf];omega⟩
  ·obtain rfl:m=k:=by omega
   go_wp2
   go_end0
   exact ⟨rfl,ro,hb⟩
set_option maxRecDepth 100000 in
set_option maxHeartbeats 4000000 in
theorem rotate_any (G cap n:Nat) (d:Nat→Int) (a m b:Nat) (ham:a<m) (hmb:m<b) (hbn:b≤n) (hn:n≤65536) (cv:Value) (w:World) (hr:RowAt w G 3 (ints n d)) :
  Calls Tryz.prog 269 #[.slice (some ⟨G,0,none⟩) n cap,.int .i64 (a:Nat),.int .i64 (m:Nat),.int .i64 (b:Nat),cv] w fun e w'=>e=.returned (.tuple #[])∧RowAt w' G 3 (ints n (rotF a m b d))∧w.grownBy w' (some G):=by
 obtain ⟨i0,hi0⟩:∃i0,i0=m-a:=⟨_,rfl⟩
 obtain ⟨j0,hj0⟩:∃j0,j0=b-m:=⟨_,rfl⟩
 have e1:((m:Nat):Int)-((a:Nat):Int)=((i0:Nat):Int):=by omega
 have e2:((b:Nat):Int)-((m:Nat):Int)=((j0:Nat):Int):=by omega
 have HS:=(show Hid (rotF (m-i0) m (m+j0) d=rotF a m b d) from by rw[Hid,hi0,hj0,show m-(m-a)=a by omega,show m+(b-m)=b by omega])
 have h1:0<i0:=by omega
 have h2:0<j0:=by omega
 have h3:i0≤m:=by omega
 have h4:m+j0≤n:=by omega
 clear hi0 hj0
 go_enter Tryz.func269,Tryz.ntmps269
 go_wp2
 clear e1 e2
 go_loopw [10,11] (fun x y W=>∃(i j:Nat) (e:Nat→Int),x=.int .i64 i∧y=.int .i64 j∧0<i∧0<j∧i≤m∧m+j≤n∧Hid (rotF (m-i) m (m+j) e=rotF a m b d)∧RowAt W G 3 (ints n e)∧w.grownBy W (some G)) (fun x y _=>(intOf x+intOf y).toNat)
 case atStart=>exact ⟨i0,j0,d,rfl,rfl,h1,h2,h3,h4,HS,hr,gb_refl _ _⟩
 case round =>
  clear hr HS h1 h2 h3 h4
  obtain ⟨i,j,e,rfl,rfl,h1,h2,h3,h4,HS,ro,hb⟩:=hrel
  obtain ⟨p,hp⟩:∃p,p=m-i:=⟨_,rfl⟩
  have ep:((m:Nat):Int)-((i:Nat):Int)=((p:Nat):Int):=by omega
  by_cases hlt:j<i
  ·have HN:=(show Hid (rotF (m-(i-j)) m (m+j) (swF p m j e)=rotF a m b d) from by rw[Hid,←HS.out,rot_more m i j e h3 hlt,hp])
   have HC:=(show Hid (Calls Tryz.prog 275 #[.slice (some ⟨G,0,none⟩) n cap,.int .i64 (p:Nat),.int .i64 (m:Nat),.int .i64 (j:Nat),cv] wr fun e' w'=>e'=.returned (.tuple #[])∧RowAt w' G 3 (ints n (swF p m j e))∧wr.grownBy w' (some G)) from swapRange_any G cap n e p m j (by omega) (by omega) hn cv wr ro)
   have hne:(((i:Nat):Int)==((j:Nat):Int))=false:=by simp;omega
   have eij:((i:Nat):Int)-((j:Nat):Int)=((i-j:Nat):Int):=by omega
   clear hp HS
   go_wp2_with (first | (go_at_call 275;refine HC.out.mono ?_;rintro e' W1 ⟨rfl,ro1,hb1⟩))
   exact ⟨⟨i-j,j,_,rfl,rfl,by omega,h2,by omega,h4,HN,ro1,gb_trans hb hb1⟩,by simp[intOf];omega⟩
  ·by_cases heq:i=j
   ·subst heq
    have HN:=(show Hid (swF p m i e=rotF a m b d) from by rw[Hid,←HS.out,rot_even m i e h3,hp])
    have HC:=(show Hid (Calls Tryz.prog 275 #[.slice (some ⟨G,0,none⟩) n cap,.int .i64 (p:Nat),.int .i64 (m:Nat),.int .i64 (i:Nat),cv] wr fun e' w'=>e'=.returned (.tuple #[])∧RowAt w' G 3 (ints n (swF p m i e))∧wr.grownBy w' (some G)) from swapRange_any G cap n e p m i (by omega) (by omega) hn cv wr ro)
    clear hp HS
    go_wp2_with (first | (go_at_call 275;refine HC.out.mono ?_;rintro e' W1 ⟨rfl,ro1,hb1⟩))
    go_end0
    rw[HN.out] at ro1
    exact ⟨rfl,ro1,gb_trans hb hb1⟩
   ·obtain ⟨q,hq⟩:∃q,q=m+j-i:=⟨_,rfl⟩
    have HN:=(show Hid (rotF (m-i) m (m+(j-i)) (swF p q i e)=rotF a m b d) from by rw[Hid,←HS.out,rot_less m i j e h3 (by omega),hp,hq])
    have HC:=(show Hid (Calls Tryz.prog 275 #[.slice (some ⟨G,0,none⟩) n cap,.int .i64 (p:Nat),.int .i64 (q:Nat),.int .i64 (i:Nat),cv] wr fun e' w'=>e'=.returned (.tuple #[])∧RowAt w' G 3 (ints n (swF p q i e))∧wr.grownBy w' (some G)) from swapRange_any G cap n e p q i (by omega) (by omega) hn cv wr ro)
    have hne:(((i:Nat):Int)==((j:Nat):Int))=false:=by simp;omega
    have hgt:¬((j:Nat):Int)<((i:Nat):Int):=by omega
    have eq1:((m:Nat):Int)+((j:Nat):Int)-((i:Nat):Int)=((q:Nat):Int):=by omega
    have eij:((j:Nat):Int)-((i:Nat):Int)=((j-i:Nat):Int):=by omega
    clear hp HS hq
    go_wp2_with (first | (go_at_call 275;refine HC.out.mono ?_;rintro e' W1 ⟨rfl,ro1,hb1⟩))
    exact ⟨⟨i,j-i,_,rfl,rfl,h1,by omega,h3,by omega,HN,ro1,gb_trans hb hb1⟩,by simp[intOf];omega⟩
def cmpV (x y:Int):Int:=if x<y then -1 else if y<x then 1 else 0
theorem cmpV_lt {x y:Int} (h:x<y):cmpV x y=-1:=by unfold cmpV;rw[if_pos h]
theorem cmpV_ge {x y:Int} (h:¬x<y):0≤cmpV x y∧cmpV x y≤1:=by unfold cmpV;rw[if_neg h];by_cases h2:y<x <;> simp[h2]
def CmpOK (g:Nat) (cb:Array Value) (K:Int→Int) (n:Nat) (w0:World) (G:Nat):Prop :=
 ∀W,w0.grownBy W (some G)→∀x y:Int,0≤x→x<n→0≤y→y<n→Calls Tryz.prog g (#[.int .i64 x,.int .i64 y]++cb) W fun e w'=>e=.returned (.int .i64 (cmpV (K x) (K y)))∧∃q,w'=W.drewN q
theorem gb_drewN {a w:World} {r:Option Nat} (h:a.grownBy w r) (k:Nat):a.grownBy (w.drewN k) r:=⟨h.os,h.tape,h.output,h.size,h.block⟩
theorem PK.RowAt.drewN {w:World} {b:Nat} {T:TypeId} {c:Array Value} (h:RowAt w b T c) (k:Nat):RowAt (w.drewN k) b T c:=h
set_option maxRecDepth 100000 in
set_option maxHeartbeats 4000000 in
theorem insertion_any (g:Nat) (cb:Array Value) (K:Int→Int) (hent:∀(args:Array Value) (W:World),(callFunc g args).run Tryz.prog W=.ok (.enter g args) W) (G cap n:Nat) (d:Nat→Int) (a b:Nat) (hab:a≤b) (hbn:b≤n) (hn:n≤65536) (w0 w:World) (hcmp:CmpOK g cb K n w0 G) (hgb:w0.grownBy w (some G)) (hr:RowAt w G 3 (ints n d)) (hin:InR n d) (hst:Stab K n d) :
  Calls Tryz.prog 255 #[.slice (some ⟨G,0,none⟩) n cap,.int .i64 (a:Nat),.int .i64 (b:Nat),.func (.func g) #[] cb] w fun e w'=>∃d',e=.returned (.tuple #[])∧RowAt w' G 3 (ints n d')∧w0.grownBy w' (some G)∧Done K n a b d d':=by
 have HCMP:=(show Hid (CmpOK g cb K n w0 G) from hcmp)
 have HIN:=(show Hid (InR n d) from hin)
 have HST:=(show Hid (Stab K n d) from hst)
 clear hcmp hin hst
 go_enter Tryz.func255,Tryz.ntmps255
 go_wp2
 go_loopw [8] (fun x W=>∃(i:Nat) (d':Nat→Int),x=.int .i64 i∧a+1≤i∧i≤b+1∧(i≤b∨i=a+1)∧Hid (Mv a b d d'∧Stab K n d'∧Srt K d' a i)∧RowAt W G 3 (ints n d')∧w0.grownBy W (some G)) (fun x _=>((b:Int)+1-intOf x).toNat)
 case atStart=>exact ⟨a+1,d,by go_num,by omega,by omega,.inr rfl,⟨Mv.refl _ _ _,HST.out,fun p q h1 h2 h3=>by omega⟩,hr,hgb⟩
 case round =>
  clear hr hgb
  obtain ⟨i,d1,rfl,h1,h2,h3,HI,ro,hb⟩:=hrel
  by_cases hlt:i<b
  ·have hin1:i<n:=by omega
   go_wp2
   go_loopw [9] (fun x W=>∃(j:Nat) (e:Nat→Int),x=.int .i64 j∧a≤j∧j≤i∧Hid (Mv a b d e∧Ins K n a i j e)∧RowAt W G 3 (ints n e)∧w0.grownBy W (some G)) (fun x _=>(intOf x).toNat)
   case atStart=>exact ⟨i,d1,rfl,by omega,by omega,⟨HI.out.1,Ins.start HI.out.2.1 HI.out.2.2⟩,ro,hb⟩
   case round =>
    clear ro hb HI
    obtain ⟨j,e,rfl,hj1,hj2,HI,ro,hb⟩:=hrel
    by_cases hja:a<j
    ·obtain ⟨jp,rfl⟩:∃jp,j=jp+1:=⟨j-1,by omega⟩
     have hwp:IntKind.i64.wrap (jp:Int)=(jp:Int):=by rw[IntKind.wrap_i64];omega
     have jz:(jp:Int)+1<(n:Int):=by omega
     have jz1:(jp:Int)<(n:Int):=by omega
     have hjaz':(a:Int)<(jp:Int)+1:=by omega
     have p0:(0:Int)≤(jp:Int)+1:=by omega
     have e0:((jp:Int)+1).toNat=jp+1:=by omega
     have hc1:=ro.cell (ints_get e (show jp+1<n by omega))
     have hc2:=ro.cell (ints_get e (show jp<n by omega))
     have hf1:=ro.frozen (jp+1)
     have hf2:=ro.frozen jp
     have hI1:=Mv.inR HI.out.1 hbn HIN.out (jp+1) (by omega)
     have hI2:=Mv.inR HI.out.1 hbn HIN.out jp (by omega)
     have hc:∀k,Calls Tryz.prog g (#[.int .i64 (e (jp+1)),.int .i64 (e jp)]++cb) (wr.drewN k) fun e1 w'=>e1=.returned (.int .i64 (cmpV (K (e (jp+1))) (K (e jp))))∧∃q,w'=(wr.drewN k).drewN q:=fun k=>HCMP.out _ (gb_drewN hb k) _ _ hI1.1 hI1.2 hI2.1 hI2.2
     have HRO:=(show Hid (RowAt wr G 3 (ints n e)) from ro)
     by_cases hk:K (e (jp+1))<K (e jp)
     ·rw[cmpV_lt hk] at hc
      have HN:=(show Hid (Mv a b d (rotF jp (jp+1) (jp+2) e)∧Ins K n a i jp (rotF jp (jp+1) (jp+2) e)) from ⟨HI.out.1.trans ((rot_mv _ _ _ (by omega) (by omega) e).wide (by omega) (by omega)),HI.out.2.step (by omega) (by omega) hin1 hk⟩)
      have HSW:=(show Hid (upd (upd e (jp+1) (e jp)) jp (e (jp+1))=rotF jp (jp+1) (jp+2) e) from swap_next jp e)
      generalize e (jp+1)=x at *
      generalize e jp=y at *
      clear ro hk HI hI1 hI2
      go_wp2_with fail
      go_quiet (first | (go_at_fn g;refine Calls.quiet_of (hc _)))
      go_wp2_with fail
      have hc1':(wr.drewN nq).cell? ⟨G,jp+1,none⟩=some (.int .i64 x):=hc1
      have hc2':(wr.drewN nq).cell? ⟨G,jp,none⟩=some (.int .i64 y):=hc2
      have hf1':(wr.drewN nq).frozen? ⟨G,jp+1,none⟩=false:=hf1
      have hf2':(wr.drewN nq).frozen? ⟨G,jp,none⟩=false:=hf2
      have HRO2:=(show Hid (RowAt (wr.drewN nq) G 3 (ints n e)) from HRO.out.drewN nq)
      have hbq:=gb_drewN hb nq
      clear hc1 hc2 hf1 hf2 hc HRO hb
      generalize wr.drewN nq=wq at hc1' hc2' hf1' hf2' HRO2 hbq ⊢
      obtain ⟨j1,hj⟩:∃j1,j1=jp+1:=⟨_,rfl⟩
      rw[←hj] at hc1' hf1' e0
      have J1:Hid (j1=jp+1):=hj
      have hne:j1≠jp:=by omega
      clear hj
      go_region
      all_goals go_wp2
      have ro2:RowAt (((wq.setCell ⟨G,j1,none⟩ (.int .i64 y)).setCell ⟨G,jp,none⟩ (.int .i64 x)).drew) G 3 (ints n (rotF jp (jp+1) (jp+2) e)):=by
       have:=(HRO2.out.set j1 (.int .i64 y)).set jp (.int .i64 x)
       rw[ints_set,ints_set,J1.out,HSW.out] at this
       rw[J1.out]
       exact this.drew
      go_roundw
      case rel=>exact ⟨jp,_,by first | rfl | go_num | (congr 1;omega),by omega,by omega,HN,ro2,gb_drew (gb_set (gb_set hbq _ _) _ _)⟩
      case measure=>simp[intOf] <;> omega
     ·have hcv:=cmpV_ge hk
      have HD:=(show Hid (Mv a b d e∧Stab K n e∧Srt K e a (i+1)) from ⟨HI.out.1,HI.out.2.stab,HI.out.2.done (by omega) (by omega) hin1 (.inr (by rw[Nat.add_sub_cancel];exact hk))⟩)
      generalize cmpV (K (e (jp+1))) (K (e jp))=c at *
      generalize e (jp+1)=x at *
      generalize e jp=y at *
      clear ro hk HI hI1 hI2
      go_wp2_with fail
      go_quiet (first | (go_at_fn g;refine Calls.quiet_of (hc _)))
      go_wp2
      go_roundw
      case rel=>exact ⟨i+1,e,by go_num,by omega,by omega,.inl (by omega),HD,HRO.out.drewN _,gb_drewN hb _⟩
      case measure=>simp[intOf] <;> omega
    ·have HD:=(show Hid (Mv a b d e∧Stab K n e∧Srt K e a (i+1)) from ⟨HI.out.1,HI.out.2.stab,HI.out.2.done (by omega) (by omega) hin1 (.inl (by omega))⟩)
     have hjaz':¬(a:Int)<(j:Int):=by omega
     clear HI
     go_wp2_with fail
     go_big_region
     all_goals go_wp2
     go_roundw
     case rel=>exact ⟨i+1,e,by go_num,by omega,by omega,.inl (by omega),HD,ro,gb_drew hb⟩
     case measure=>simp[intOf] <;> omega
  ·have HD:=(show Hid (Done K n a b d d1) from ⟨HI.out.1,HI.out.2.1,fun p q hp hpq hq=>HI.out.2.2 p q hp hpq (by omega)⟩)
   clear HI
   go_wp2
   go_end0
   exact ⟨d1,rfl,ro,hb,HD.out⟩
end Go.Proofs.YtkohhdkkbaifoaaGreatDoor

/-
  Contract of slices.symMergeCmpFunc where one piece is one number.
-/
namespace Go.Proofs.YtkohhdkkbaifoaaGreatDoor
open Go.RowKit PK Sm

set_option maxRecDepth 100000 in
set_option maxHeartbeats 4000000 in
theorem symA_any (g:Nat) (cb:Array Value) (K:Int→Int) (hent:∀(args:Array Value) (W:World),(callFunc g args).run Tryz.prog W=.ok (.enter g args) W) (G cap n:Nat) (d:Nat→Int) (a b:Nat) (hab:a+1<b) (hbn:b≤n) (hn:n≤65536) (w0 w:World) (hcmp:CmpOK g cb K n w0 G) (hgb:w0.grownBy w (some G)) (hr:RowAt w G 3 (ints n d)) (hin:InR n d) (hst:Stab K n d) (hs:Srt K d (a+1) b) :
  Calls Tryz.prog 256 #[.slice (some ⟨G,0,none⟩) n cap,.int .i64 (a:Nat),.int .i64 ((a+1:Nat):Int),.int .i64 (b:Nat),.func (.func g) #[] cb] w fun e w'=>∃d',e=.returned (.tuple #[])∧RowAt w' G 3 (ints n d')∧w0.grownBy w' (some G)∧Done K n a b d d':=by
 have HCMP:=(show Hid (CmpOK g cb K n w0 G) from hcmp)
 have HIN:=(show Hid (InR n d) from hin)
 have HST:=(show Hid (Stab K n d) from hst)
 have HS:=(show Hid (Srt K d (a+1) b) from hs)
 clear hcmp hin hst hs
 obtain ⟨m,hm⟩:∃m,m=a+1:=⟨_,rfl⟩
 rw[←hm] at hab ⊢
 have HM:Hid (m=a+1):=hm
 have e1:((m:Nat):Int)-((a:Nat):Int)=1:=by omega
 have ham:a<m:=by omega
 clear hm
 go_enter Tryz.func256,Tryz.ntmps256
 go_wp2
 clear e1
 go_loopw [10,11] (fun x y W=>∃(i j:Nat),x=.int .i64 i∧y=.int .i64 j∧m≤i∧i≤j∧j≤b∧Hid ((m<i→K (d (i-1))<K (d a))∧(j<b→K (d a)≤K (d j)))∧RowAt W G 3 (ints n d)∧w0.grownBy W (some G)) (fun x y _=>(intOf y-intOf x).toNat)
 case atStart=>exact ⟨m,b,rfl,rfl,by omega,by omega,by omega,⟨fun h=>by omega,fun h=>by omega⟩,hr,hgb⟩
 case round =>
  clear hr hgb
  obtain ⟨i,j,rfl,rfl,h1,h2,h3,HI,ro,hb⟩:=hrel
  by_cases hlt:i<j
  ·obtain ⟨h,hh⟩:∃h,h=(i+j) / 2:=⟨_,rfl⟩
   have hh1:i≤h:=by omega
   have hh2:h<j:=by omega
   have hhn:(h:Int)<(n:Int):=by omega
   have han:(a:Int)<(n:Int):=by omega
   have hhe:(((i:Nat):Int)+((j:Nat):Int)) / 2=((h:Nat):Int):=by omega
   have hc1:=ro.cell (ints_get d (show h<n by omega))
   have hc2:=ro.cell (ints_get d (show a<n by omega))
   have hI1:=HIN.out h (by omega)
   have hI2:=HIN.out a (by omega)
   have hc:∀k,Calls Tryz.prog g (#[.int .i64 (d h),.int .i64 (d a)]++cb) (wr.drewN k) fun e1 w'=>e1=.returned (.int .i64 (cmpV (K (d h)) (K (d a))))∧∃q,w'=(wr.drewN k).drewN q:=fun k=>HCMP.out _ (gb_drewN hb k) _ _ hI1.1 hI1.2 hI2.1 hI2.2
   have HRO:=(show Hid (RowAt wr G 3 (ints n d)) from ro)
   clear hh
   by_cases hk:K (d h)<K (d a)
   ·rw[cmpV_lt hk] at hc
    have HN:=(show Hid ((m<h+1→K (d (h+1-1))<K (d a))∧(j<b→K (d a)≤K (d j))) from ⟨fun _=>by rw[Nat.add_sub_cancel];exact hk,HI.out.2⟩)
    clear ro hk HI hI1 hI2
    go_wp2_with fail
    go_quiet (first | (go_at_fn g;refine Calls.quiet_of (hc _)))
    go_wp2
    go_roundw
    case rel=>exact ⟨h+1,j,by go_num,rfl,by omega,by omega,by omega,HN,HRO.out.drewN _,gb_drewN hb _⟩
    case measure=>simp[intOf] <;> omega
   ·have hcv:=cmpV_ge hk
    have HN:=(show Hid ((m<i→K (d (i-1))<K (d a))∧(h<b→K (d a)≤K (d h))) from ⟨HI.out.1,fun _=>by omega⟩)
    generalize cmpV (K (d h)) (K (d a))=c at hc hcv
    clear ro hk HI hI1 hI2
    go_wp2_with fail
    go_quiet (first | (go_at_fn g;refine Calls.quiet_of (hc _)))
    go_wp2
    go_roundw
    case rel=>exact ⟨i,h,rfl,rfl,by omega,by omega,by omega,HN,HRO.out.drewN _,gb_drewN hb _⟩
    case measure=>simp[intOf] <;> omega
  ·obtain rfl:i=j:=by omega
   have HD:=(show Hid (Done K n a b d (rotF a (a+1) i d)) from one_ahead hbn HST.out HS.out (by have:=HM.out;omega) h3 (fun h=>HI.out.1 (by have:=HM.out;omega)) (fun h=>by have:=HI.out.2 h;omega))
   obtain ⟨i',hi'⟩:∃i',i=i'+1:=⟨i-1,by omega⟩
   have e2:((i:Nat):Int)-1=((i':Nat):Int):=by omega
   have HI':Hid (i=i'+1):=hi'
   have hai:a≤i':=by omega
   have hin':i'<n:=by omega
   clear HI hi'
   go_wp2
   go_loopw [13] (fun x W=>∃k:Nat,x=.int .i64 k∧a≤k∧k≤i'∧RowAt W G 3 (ints n (rotF a (a+1) (k+1) d))∧w0.grownBy W (some G)) (fun x _=>((i':Int)-intOf x).toNat)
   case atStart=>exact ⟨a,rfl,by omega,by omega,by rw[rot_none a (a+1) (a+1) (by omega) (by omega) (.inr rfl)];exact ro,hb⟩
   case round =>
    clear ro hb
    obtain ⟨k,rfl,hk1,hk2,ro,hb⟩:=hrel
    by_cases hlt2:k<i'
    ·have kz:(k:Int)+1<(n:Int):=by omega
     have kz1:(k:Int)<(n:Int):=by omega
     obtain ⟨k1,hk⟩:∃k1,k1=k+1:=⟨_,rfl⟩
     have ek:((k:Nat):Int)+1=((k1:Nat):Int):=by omega
     have K1:Hid (k1=k+1):=hk
     have hk1n:(k1:Int)<(n:Int):=by omega
     have hne:k≠k1:=by omega
     have hc1:=ro.cell (ints_get (rotF a (a+1) (k+1) d) (show k<n by omega))
     have hc2:=ro.cell (ints_get (rotF a (a+1) (k+1) d) (show k1<n by omega))
     have hf1:=ro.frozen k
     have hf2:=ro.frozen k1
     have HUP:=(show Hid (upd (upd (rotF a (a+1) (k+1) d) k (rotF a (a+1) (k+1) d k1)) k1 (rotF a (a+1) (k+1) d k)=rotF a (a+1) (k+1+1) d) from by rw[Hid,hk,swap_next',rot_up a k d hk1])
     have HRO:=(show Hid (RowAt wr G 3 (ints n (rotF a (a+1) (k+1) d))) from ro)
     generalize rotF a (a+1) (k+1) d k=x at hc1 HUP
     generalize rotF a (a+1) (k+1) d k1=y at hc2 HUP
     clear ro hk
     go_wp2_with fail
     go_region
     go_wp2
     have ro2:RowAt (((wr.setCell ⟨G,k,none⟩ (.int .i64 y)).setCell ⟨G,k1,none⟩ (.int .i64 x)).drew) G 3 (ints n (rotF a (a+1) (k+1+1) d)):=by
      have:=(HRO.out.set k (.int .i64 y)).set k1 (.int .i64 x)
      rw[ints_set,ints_set,HUP.out] at this
      exact this.drew
     go_roundw
     case rel=>exact ⟨k+1,by first | rfl | go_num | (rw[K1.out]),by omega,by omega,ro2,gb_drew (gb_set (gb_set hb _ _) _ _)⟩
     case measure=>simp[intOf] <;> omega
    ·obtain rfl:k=i':=by omega
     have HD2:=(show Hid (Done K n a b d (rotF a (a+1) (k+1) d)) from by rw[Hid,←HI'.out];exact HD.out)
     go_wp2
     refine bodyPost_ret (results_none rfl _ _ _) rfl ?_
     exact ⟨rotF a (a+1) (k+1) d,rfl,ro,hb,HD2.out⟩
set_option maxRecDepth 100000 in
set_option maxHeartbeats 4000000 in
theorem symB_any (g:Nat) (cb:Array Value) (K:Int→Int) (hent:∀(args:Array Value) (W:World),(callFunc g args).run Tryz.prog W=.ok (.enter g args) W) (G cap n:Nat) (d:Nat→Int) (a m:Nat) (ham:a+1<m) (hmn:m+1≤n) (hn:n≤65536) (w0 w:World) (hcmp:CmpOK g cb K n w0 G) (hgb:w0.grownBy w (some G)) (hr:RowAt w G 3 (ints n d)) (hin:InR n d) (hst:Stab K n d) (hs:Srt K d a m) :
  Calls Tryz.prog 256 #[.slice (some ⟨G,0,none⟩) n cap,.int .i64 (a:Nat),.int .i64 (m:Nat),.int .i64 ((m+1:Nat):Int),.func (.func g) #[] cb] w fun e w'=>∃d',e=.returned (.tuple #[])∧RowAt w' G 3 (ints n d')∧w0.grownBy w' (some G)∧Done K n a (m+1) d d':=by
 have HCMP:=(show Hid (CmpOK g cb K n w0 G) from hcmp)
 have HIN:=(show Hid (InR n d) from hin)
 have HST:=(show Hid (Stab K n d) from hst)
 have HS:=(show Hid (Srt K d a m) from hs)
 clear hcmp hin hst hs
 obtain ⟨b,hm⟩:∃b,b=m+1:=⟨_,rfl⟩
 rw[←hm]
 have HM:Hid (b=m+1):=hm
 have e1:((b:Nat):Int)-((m:Nat):Int)=1:=by omega
 have e3:(((m:Nat):Int)-((a:Nat):Int)==1)=false:=by simp;omega
 clear hm
 go_enter Tryz.func256,Tryz.ntmps256
 go_wp2
 clear e1 e3
 go_loopw [14,15] (fun x y W=>∃(i j:Nat),x=.int .i64 i∧y=.int .i64 j∧a≤i∧i≤j∧j≤m∧Hid ((j<m→K (d m)<K (d j))∧(a<i→K (d (i-1))≤K (d m)))∧RowAt W G 3 (ints n d)∧w0.grownBy W (some G)) (fun x y _=>(intOf y-intOf x).toNat)
 case atStart=>exact ⟨a,m,rfl,rfl,by omega,by omega,by omega,⟨fun h=>by omega,fun h=>by omega⟩,hr,hgb⟩
 case round =>
  clear hr hgb
  obtain ⟨i,j,rfl,rfl,h1,h2,h3,HI,ro,hb⟩:=hrel
  by_cases hlt:i<j
  ·obtain ⟨h,hh⟩:∃h,h=(i+j) / 2:=⟨_,rfl⟩
   have hh1:i≤h:=by omega
   have hh2:h<j:=by omega
   have hhn:(h:Int)<(n:Int):=by omega
   have han:(m:Int)<(n:Int):=by omega
   have hhe:(((i:Nat):Int)+((j:Nat):Int)) / 2=((h:Nat):Int):=by omega
   have hc1:=ro.cell (ints_get d (show m<n by omega))
   have hc2:=ro.cell (ints_get d (show h<n by omega))
   have hI1:=HIN.out m (by omega)
   have hI2:=HIN.out h (by omega)
   have hc:∀k,Calls Tryz.prog g (#[.int .i64 (d m),.int .i64 (d h)]++cb) (wr.drewN k) fun e1 w'=>e1=.returned (.int .i64 (cmpV (K (d m)) (K (d h))))∧∃q,w'=(wr.drewN k).drewN q:=fun k=>HCMP.out _ (gb_drewN hb k) _ _ hI1.1 hI1.2 hI2.1 hI2.2
   have HRO:=(show Hid (RowAt wr G 3 (ints n d)) from ro)
   clear hh
   by_cases hk:K (d m)<K (d h)
   ·rw[cmpV_lt hk] at hc
    have HN:=(show Hid ((h<m→K (d m)<K (d h))∧(a<i→K (d (i-1))≤K (d m))) from ⟨fun _=>hk,HI.out.2⟩)
    clear ro hk HI hI1 hI2
    go_wp2_with fail
    go_quiet (first | (go_at_fn g;refine Calls.quiet_of (hc _)))
    go_wp2
    go_roundw
    case rel=>exact ⟨i,h,rfl,rfl,by omega,by omega,by omega,HN,HRO.out.drewN _,gb_drewN hb _⟩
    case measure=>simp[intOf] <;> omega
   ·have hcv:=cmpV_ge hk
    have HN:=(show Hid ((j<m→K (d m)<K (d j))∧(a<h+1→K (d (h+1-1))≤K (d m))) from ⟨HI.out.1,fun _=>by rw[Nat.add_sub_cancel];omega⟩)
    generalize cmpV (K (d m)) (K (d h))=c at hc hcv
    have hcn:decide (c<0)=false:=by simp;omega
    clear hcv
    clear ro hk HI hI1 hI2
    go_wp2_with fail
    go_quiet (first | (go_at_fn g;refine Calls.quiet_of (hc _)))
    go_wp2
    go_roundw
    case rel=>exact ⟨h+1,j,by go_num,rfl,by omega,by omega,by omega,HN,HRO.out.drewN _,gb_drewN hb _⟩
    case measure=>simp[intOf] <;> omega
  ·obtain rfl:i=j:=by omega
   have HD:=(show Hid (Done K n a b d (rotF i m (m+1) d)) from by rw[HM.out];exact one_behind hmn HST.out HS.out h1 h3 HI.out.1 (fun h=>by have:=HI.out.2 h;omega))
   clear HI
   go_wp2
   go_loopw [17] (fun x W=>∃k:Nat,x=.int .i64 k∧i≤k∧k≤m∧RowAt W G 3 (ints n (rotF k m (m+1) d))∧w0.grownBy W (some G)) (fun x _=>(intOf x).toNat)
   case atStart=>exact ⟨m,rfl,by omega,by omega,by rw[rot_none m m (m+1) (by omega) (by omega) (.inl rfl)];exact ro,hb⟩
   case round =>
    clear ro hb
    obtain ⟨k1,rfl,hk1,hk2,ro,hb⟩:=hrel
    by_cases hlt2:i<k1
    ·obtain ⟨k,hk⟩:∃k,k1=k+1:=⟨k1-1,by omega⟩
     have ek:((k1:Nat):Int)-1=((k:Nat):Int):=by omega
     have K1:Hid (k1=k+1):=hk
     have hk1n:(k1:Int)<(n:Int):=by omega
     have hkn:(k:Int)<(n:Int):=by omega
     have hne:k1≠k:=by omega
     have hc1:=ro.cell (ints_get (rotF k1 m (m+1) d) (show k<n by omega))
     have hc2:=ro.cell (ints_get (rotF k1 m (m+1) d) (show k1<n by omega))
     have hf1:=ro.frozen k
     have hf2:=ro.frozen k1
     have HUP:=(show Hid (upd (upd (rotF k1 m (m+1) d) k1 (rotF k1 m (m+1) d k)) k (rotF k1 m (m+1) d k1)=rotF k m (m+1) d) from by rw[Hid,hk,swap_next,rot_down m k d (by omega)])
     have HRO:=(show Hid (RowAt wr G 3 (ints n (rotF k1 m (m+1) d))) from ro)
     generalize rotF k1 m (m+1) d k=x at hc1 HUP
     generalize rotF k1 m (m+1) d k1=y at hc2 HUP
     have hik:i≤k:=by omega
     clear ro hk
     go_wp2_with fail
     go_region
     go_wp2
     have ro2:RowAt (((wr.setCell ⟨G,k1,none⟩ (.int .i64 x)).setCell ⟨G,k,none⟩ (.int .i64 y)).drew) G 3 (ints n (rotF k m (m+1) d)):=by
      have:=(HRO.out.set k1 (.int .i64 x)).set k (.int .i64 y)
      rw[ints_set,ints_set,HUP.out] at this
      exact this.drew
     go_roundw
     case rel=>exact ⟨k,rfl,by omega,by omega,ro2,gb_drew (gb_set (gb_set hb _ _) _ _)⟩
     case measure=>simp[intOf] <;> omega
    ·obtain rfl:k1=i:=by omega
     go_wp2
     refine bodyPost_ret (results_none rfl _ _ _) rfl ?_
     exact ⟨rotF k1 m (m+1) d,rfl,ro,hb,HD.out⟩
end Go.Proofs.YtkohhdkkbaifoaaGreatDoor
