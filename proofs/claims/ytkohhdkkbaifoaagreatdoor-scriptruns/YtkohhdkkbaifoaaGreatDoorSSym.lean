/-
  Contract of slices.symMergeCmpFunc.
-/
import Derived.Test.YtkohhdkkbaifoaaGreatDoorJn11
namespace Go.Proofs.YtkohhdkkbaifoaaGreatDoor
open Go.RowKit PK Sm

def SymOK (g:Nat) (cb:Array Value) (K:Int→Int) (G cap n:Nat) (w0:World) (sz:Nat):Prop :=
 ∀(a m b:Nat) (d:Nat→Int) (w:World),b-a≤sz→a<m→m<b→b≤n→w0.grownBy w (some G)→RowAt w G 3 (ints n d)→InR n d→Stab K n d→Srt K d a m→Srt K d m b →
  Calls Tryz.prog 256 #[.slice (some ⟨G,0,none⟩) n cap,.int .i64 (a:Nat),.int .i64 (m:Nat),.int .i64 (b:Nat),.func (.func g) #[] cb] w fun e w'=>∃d',e=.returned (.tuple #[])∧RowAt w' G 3 (ints n d')∧w0.grownBy w' (some G)∧Done K n a b d d'
set_option maxRecDepth 100000 in
set_option maxHeartbeats 8000000 in
theorem symC_any (g:Nat) (cb:Array Value) (K:Int→Int) (hent:∀(args:Array Value) (W:World),(callFunc g args).run Tryz.prog W=.ok (.enter g args) W) (G cap n:Nat) (hn:n≤65536) (w0:World) (hcmp:CmpOK g cb K n w0 G) (sz:Nat) (ih:SymOK g cb K G cap n w0 sz)
  (a m b:Nat) (d:Nat→Int) (w:World) (hsz:b-a≤sz+1) (ham:a+1<m) (hmb:m+1<b) (hbn:b≤n) (hgb:w0.grownBy w (some G)) (hr:RowAt w G 3 (ints n d)) (hin:InR n d) (hst:Stab K n d) (hs1:Srt K d a m) (hs2:Srt K d m b) :
  Calls Tryz.prog 256 #[.slice (some ⟨G,0,none⟩) n cap,.int .i64 (a:Nat),.int .i64 (m:Nat),.int .i64 (b:Nat),.func (.func g) #[] cb] w fun e w'=>∃d',e=.returned (.tuple #[])∧RowAt w' G 3 (ints n d')∧w0.grownBy w' (some G)∧Done K n a b d d':=by
 have HCMP:=(show Hid (CmpOK g cb K n w0 G) from hcmp)
 have HIN:=(show Hid (InR n d) from hin)
 have HST:=(show Hid (Stab K n d) from hst)
 have HS1:=(show Hid (Srt K d a m) from hs1)
 have HS2:=(show Hid (Srt K d m b) from hs2)
 have IH:=(show Hid (SymOK g cb K G cap n w0 sz) from ih)
 clear hcmp hin hst hs1 hs2 ih
 have e1:(((m:Nat):Int)-((a:Nat):Int)==1)=false:=by simp;omega
 have e2:(((b:Nat):Int)-((m:Nat):Int)==1)=false:=by simp;omega
 obtain ⟨mid,hmid⟩:∃mid,mid=(a+b) / 2:=⟨_,rfl⟩
 obtain ⟨np,hnp⟩:∃np,np=mid+m:=⟨_,rfl⟩
 obtain ⟨pp,hpp⟩:∃pp,np=pp+1:=⟨np-1,by omega⟩
 have em:(((a:Nat):Int)+((b:Nat):Int)) / 2=((mid:Nat):Int):=by omega
 have en:((mid:Nat):Int)+((m:Nat):Int)=((np:Nat):Int):=by omega
 have ep:((np:Nat):Int)-1=((pp:Nat):Int):=by omega
 have HMID:Hid (2*mid≤a+b∧a+b≤2*mid+1∧np=mid+m∧np=pp+1):=⟨by omega,by omega,hnp,hpp⟩
 have hnb:np≤131072:=by omega
 clear hmid hnp hpp
 by_cases hmm:mid<m
 ·obtain ⟨s0,hs0⟩:∃s0,s0+b=np:=⟨np-b,by have:=HMID.out;omega⟩
  have es:((np:Nat):Int)-((b:Nat):Int)=((s0:Nat):Int):=by omega
  have HCASE:Hid (mid<m∧s0+b=np):=⟨hmm,hs0⟩
  clear hs0
  go_enter Tryz.func256,Tryz.ntmps256
  go_wp2
  clear e1 e2 em en ep es
  go_loopw [20,21] (fun x y W=>∃(s r:Nat),x=.int .i64 s∧y=.int .i64 r∧s0≤s∧s≤r∧r≤mid∧Hid ((s0<s→K (d (s-1))≤K (d (np-s)))∧(r<mid→K (d (pp-r))<K (d r)))∧RowAt W G 3 (ints n d)∧w0.grownBy W (some G)) (fun x y _=>(intOf y-intOf x).toNat)
  case atStart=>exact ⟨s0,mid,rfl,rfl,by omega,by have:=HMID.out;have:=HCASE.out;omega,by omega,⟨fun h=>by omega,fun h=>by omega⟩,hr,hgb⟩
  case round =>
   clear hr hgb
   obtain ⟨s,r,rfl,rfl,h1,h2,h3,HI,ro,hb⟩:=hrel
   by_cases hlt:s<r
   ·obtain ⟨c,hh⟩:∃c,c=(s+r) / 2:=⟨_,rfl⟩
    have hh1:s≤c:=by omega
    have hh2:c<r:=by omega
    obtain ⟨q,hq⟩:∃q,q=pp-c:=⟨_,rfl⟩
    have hqn0:q<n:=by have:=HMID.out;have:=HCASE.out;omega
    have hcn0:c<n:=by have:=HMID.out;have:=HCASE.out;omega
    have eq1:((pp:Nat):Int)-((c:Nat):Int)=((q:Nat):Int):=by have:=HMID.out;have:=HCASE.out;omega
    have hqn:(q:Int)<(n:Int):=by omega
    have hcn:(c:Int)<(n:Int):=by omega
    have hhe:(((s:Nat):Int)+((r:Nat):Int)) / 2=((c:Nat):Int):=by omega
    have HQ:Hid (q=np-(c+1)∧q=pp-c):=⟨by have:=HMID.out;omega,hq⟩
    have hc1:=ro.cell (ints_get d hqn0)
    have hc2:=ro.cell (ints_get d hcn0)
    have hI1:=HIN.out q hqn0
    have hI2:=HIN.out c hcn0
    have hc:∀k,Calls Tryz.prog g (#[.int .i64 (d q),.int .i64 (d c)]++cb) (wr.drewN k) fun e1 w'=>e1=.returned (.int .i64 (cmpV (K (d q)) (K (d c))))∧∃q,w'=(wr.drewN k).drewN q:=fun k=>HCMP.out _ (gb_drewN hb k) _ _ hI1.1 hI1.2 hI2.1 hI2.2
    have HRO:=(show Hid (RowAt wr G 3 (ints n d)) from ro)
    clear hh hq
    by_cases hk:K (d q)<K (d c)
    ·rw[cmpV_lt hk] at hc
     have HN:=(show Hid ((s0<s→K (d (s-1))≤K (d (np-s)))∧(c<mid→K (d (pp-c))<K (d c))) from ⟨HI.out.1,fun _=>by rw[←HQ.out.2];exact hk⟩)
     clear ro hk HI hI1 hI2
     go_wp2_with fail
     go_quiet (first | (go_at_fn g;refine Calls.quiet_of (hc _)))
     go_wp2
     go_roundw
     case rel=>exact ⟨s,c,rfl,rfl,by omega,by omega,by omega,HN,HRO.out.drewN _,gb_drewN hb _⟩
     case measure=>simp[intOf] <;> omega
    ·have hcv:=cmpV_ge hk
     have HN:=(show Hid ((s0<c+1→K (d (c+1-1))≤K (d (np-(c+1))))∧(r<mid→K (d (pp-r))<K (d r))) from ⟨fun _=>by rw[Nat.add_sub_cancel,←HQ.out.1];omega,HI.out.2⟩)
     generalize cmpV (K (d q)) (K (d c))=cv at hc hcv
     have hcn:decide (cv<0)=false:=by simp;omega
     clear ro hk HI hI1 hI2 hcv
     go_wp2_with fail
     go_quiet (first | (go_at_fn g;refine Calls.quiet_of (hc _)))
     go_wp2
     go_roundw
     case rel=>exact ⟨c+1,r,by go_num,rfl,by omega,by omega,by omega,HN,HRO.out.drewN _,gb_drewN hb _⟩
     case measure=>simp[intOf] <;> omega
   ·obtain rfl:s=r:=by omega
    obtain ⟨e,he⟩:∃e,e=np-s:=⟨_,rfl⟩
    have ee:((np:Nat):Int)-((s:Nat):Int)=((e:Nat):Int):=by have:=HMID.out;have:=HCASE.out;omega
    have k1:a≤s:=by have:=HMID.out;have:=HCASE.out;omega
    have k2:s≤m:=by have:=HMID.out;have:=HCASE.out;omega
    have k3:m≤e:=by have:=HMID.out;have:=HCASE.out;omega
    have k4:e≤b:=by have:=HMID.out;have:=HCASE.out;omega
    have k5:mid=s+(e-m):=by have:=HMID.out;omega
    have hx:s<m→m<e→K (d (e-1))<K (d s):=fun u1 u2=>by
     have:=HI.out.2 (by have:=HMID.out;have:=HCASE.out;omega)
     rw[show e-1=pp-s by have:=HMID.out;omega]
     exact this
    have hy:a<s→e<b→LL K (d (s-1)) (d e):=fun u1 u2=>by
     have:=HI.out.1 (by have:=HMID.out;have:=HCASE.out;omega)
     rw[←he] at this
     exact ll_of HST.out (by omega) (by omega) (by omega)
    obtain ⟨d1,hd1⟩:∃d1,d1=rotF s m e d:=⟨_,rfl⟩
    have st1:Stab K n d1:=by rw[hd1];exact turn_stab k1 k2 k3 k4 hbn HST.out HS1.out HS2.out hx
    have tl:=turn_left k1 k2 k3 k4 HS1.out HS2.out
    rw[←hd1,←k5] at tl
    obtain ⟨t1,t2,t3,t4⟩:=tl
    have mv1:Mv a b d d1:=by rw[hd1];exact (rot_mv s m e k2 k3 d).wide k1 k4
    have in1:InR n d1:=Mv.inR mv1 hbn HIN.out
    have km:a<mid∧mid<b:=by have:=HMID.out;omega
    have HL:=(show Hid (∀W,w0.grownBy W (some G)→RowAt W G 3 (ints n d1)→a<s→s<mid→Calls Tryz.prog 256 #[.slice (some ⟨G,0,none⟩) n cap,.int .i64 (a:Nat),.int .i64 (s:Nat),.int .i64 (mid:Nat),.func (.func g) #[] cb] W fun e w'=>∃d',e=.returned (.tuple #[])∧RowAt w' G 3 (ints n d')∧w0.grownBy w' (some G)∧Done K n a mid d1 d') from fun W h1 h2 u1 u2=>IH.out a s mid d1 W (by omega) u1 u2 (by omega) h1 h2 in1 st1 t1 t2)
    have HLN:=(show Hid (¬(a<s∧s<mid)→Done K n a mid d1 d1) from fun u=>⟨Mv.refl _ _ _,st1,srt_one t1 t2 u k1 (by omega)⟩)
    have hkeep:∀d2,Done K n a mid d1 d2→Srt K d2 mid e∧Srt K d2 e b∧InR n d2:=fun d2 hd=>by
     refine ⟨fun p q hp hpq hq=>?_,fun p q hp hpq hq=>?_,Mv.inR hd.mv (by omega) in1⟩
     ·rw[hd.mv.out p (by omega),hd.mv.out q (by omega)];exact t3 p q hp hpq hq
     ·rw[hd.mv.out p (by omega),hd.mv.out q (by omega)];exact t4 p q hp hpq hq
    have HR:=(show Hid (∀W d2,Done K n a mid d1 d2→w0.grownBy W (some G)→RowAt W G 3 (ints n d2)→mid<e→e<b→Calls Tryz.prog 256 #[.slice (some ⟨G,0,none⟩) n cap,.int .i64 (mid:Nat),.int .i64 (e:Nat),.int .i64 (b:Nat),.func (.func g) #[] cb] W fun e w'=>∃d',e=.returned (.tuple #[])∧RowAt w' G 3 (ints n d')∧w0.grownBy w' (some G)∧Done K n mid b d2 d') from fun W d2 hd h1 h2 u1 u2=>IH.out mid e b d2 W (by omega) u1 u2 (by omega) h1 h2 (hkeep d2 hd).2.2 hd.stab (hkeep d2 hd).1 (hkeep d2 hd).2.1)
    have HRN:=(show Hid (∀d2,Done K n a mid d1 d2→¬(mid<e∧e<b)→Done K n mid b d2 d2) from fun d2 hd u=>⟨Mv.refl _ _ _,hd.stab,srt_one (hkeep d2 hd).1 (hkeep d2 hd).2.1 u (by omega) k4⟩)
    have HE:=(show Hid (∀d2 d3,Done K n a mid d1 d2→Done K n mid b d2 d3→Done K n a b d d3) from fun d2 d3 h2 h3=>merge_turn k1 k2 k3 k4 hbn k5 HS1.out HS2.out hx hy hd1 h2.mv h2.srt h3.mv h3.srt h3.stab)
    have HROT:=(show Hid (s<m→m<e→Calls Tryz.prog 269 #[.slice (some ⟨G,0,none⟩) n cap,.int .i64 (s:Nat),.int .i64 (m:Nat),.int .i64 (e:Nat),.func (.func g) #[] cb] wr fun e' w'=>e'=.returned (.tuple #[])∧RowAt w' G 3 (ints n d1)∧wr.grownBy w' (some G)) from fun u1 u2=>by rw[hd1];exact rotate_any G cap n d s m e u1 u2 (by omega) hn _ wr ro)
    have HNR:=(show Hid (¬(s<m∧m<e)→RowAt wr G 3 (ints n d1)) from fun u=>by rw[hd1,rot_none s m e k2 k3 (by omega)];exact ro)
    clear hd1 st1 t1 t2 t3 t4 mv1 in1 hkeep hx hy HI he HCASE
    by_cases c1:s<m
    ·by_cases c2:m<e
     ·have c3:s<mid:=by omega
      have c4:mid<e:=by omega
      clear k5
      by_cases c5:a<s
      ·by_cases c6:e<b
       ·skip
        clear ro
        go_wp2_with fail
        refine Calls.mono (HROT.out (by omega) (by omega)) ?_
        rintro e1 W1 ⟨rfl,ro1,hb1'⟩
        have hb1:=gb_trans hb hb1'
        go_wp2_with fail
        refine Calls.mono (HL.out _ hb1 ro1 (by omega) (by omega)) ?_
        rintro e2 W2 ⟨d2,rfl,ro2,hb2,hd2⟩
        go_wp2_with fail
        refine Calls.mono (HR.out _ d2 hd2 hb2 ro2 (by omega) (by omega)) ?_
        rintro e3 W3 ⟨d3,rfl,ro3,hb3,hd3⟩
        go_wp2
        go_end0
        exact ⟨d3,rfl,ro3,hb3,HE.out d2 d3 hd2 hd3⟩
       ·skip
        clear ro
        go_wp2_with fail
        refine Calls.mono (HROT.out (by omega) (by omega)) ?_
        rintro e1 W1 ⟨rfl,ro1,hb1'⟩
        have hb1:=gb_trans hb hb1'
        go_wp2_with fail
        refine Calls.mono (HL.out _ hb1 ro1 (by omega) (by omega)) ?_
        rintro e2 W2 ⟨d2,rfl,ro2,hb2,hd2⟩
        go_wp2
        go_end0
        exact ⟨d2,rfl,ro2,hb2,HE.out d2 d2 hd2 (HRN.out d2 hd2 (by omega))⟩
      ·by_cases c6:e<b
       ·skip
        clear ro
        go_wp2_with fail
        refine Calls.mono (HROT.out (by omega) (by omega)) ?_
        rintro e1 W1 ⟨rfl,ro1,hb1'⟩
        have hb1:=gb_trans hb hb1'
        obtain ⟨d2,hd2,ro2,hb2⟩:∃d2,Done K n a mid d1 d2∧RowAt W1 G 3 (ints n d2)∧w0.grownBy W1 (some G):=⟨d1,HLN.out (by omega),ro1,hb1⟩
        go_wp2_with fail
        refine Calls.mono (HR.out _ d2 hd2 hb2 ro2 (by omega) (by omega)) ?_
        rintro e3 W3 ⟨d3,rfl,ro3,hb3,hd3⟩
        go_wp2
        go_end0
        exact ⟨d3,rfl,ro3,hb3,HE.out d2 d3 hd2 hd3⟩
       ·skip
        clear ro
        go_wp2_with fail
        refine Calls.mono (HROT.out (by omega) (by omega)) ?_
        rintro e1 W1 ⟨rfl,ro1,hb1'⟩
        have hb1:=gb_trans hb hb1'
        obtain ⟨d2,hd2,ro2,hb2⟩:∃d2,Done K n a mid d1 d2∧RowAt W1 G 3 (ints n d2)∧w0.grownBy W1 (some G):=⟨d1,HLN.out (by omega),ro1,hb1⟩
        go_wp2
        go_end0
        exact ⟨d2,rfl,ro2,hb2,HE.out d2 d2 hd2 (HRN.out d2 hd2 (by omega))⟩
     ·have c3:¬s<mid:=by omega
      have c4:mid<e:=by omega
      have c5:a<s:=by omega
      have c6:e<b:=by omega
      clear k5
      have ro1:=HNR.out (by omega)
      have hb1:=hb
      clear ro
      obtain ⟨d2,hd2,ro2,hb2⟩:∃d2,Done K n a mid d1 d2∧RowAt wr G 3 (ints n d2)∧w0.grownBy wr (some G):=⟨d1,HLN.out (by omega),ro1,hb1⟩
      go_wp2_with fail
      refine Calls.mono (HR.out _ d2 hd2 hb2 ro2 (by omega) (by omega)) ?_
      rintro e3 W3 ⟨d3,rfl,ro3,hb3,hd3⟩
      go_wp2
      go_end0
      exact ⟨d3,rfl,ro3,hb3,HE.out d2 d3 hd2 hd3⟩
    ·have c4:¬mid<e:=by omega
     have c5:a<s:=by omega
     by_cases c3:s<mid
     ·clear k5
      have ro1:=HNR.out (by omega)
      have hb1:=hb
      clear ro
      go_wp2_with fail
      refine Calls.mono (HL.out _ hb1 ro1 (by omega) (by omega)) ?_
      rintro e2 W2 ⟨d2,rfl,ro2,hb2,hd2⟩
      go_wp2
      go_end0
      exact ⟨d2,rfl,ro2,hb2,HE.out d2 d2 hd2 (HRN.out d2 hd2 (by omega))⟩
     ·clear k5
      have ro1:=HNR.out (by omega)
      have hb1:=hb
      clear ro
      obtain ⟨d2,hd2,ro2,hb2⟩:∃d2,Done K n a mid d1 d2∧RowAt wr G 3 (ints n d2)∧w0.grownBy wr (some G):=⟨d1,HLN.out (by omega),ro1,hb1⟩
      go_wp2
      go_end0
      exact ⟨d2,rfl,ro2,hb2,HE.out d2 d2 hd2 (HRN.out d2 hd2 (by omega))⟩
 ·have HCASE:Hid (m≤mid):=by rw[Hid];omega
  go_enter Tryz.func256,Tryz.ntmps256
  go_wp2
  clear e1 e2 em en ep
  go_loopw [20,21] (fun x y W=>∃(s r:Nat),x=.int .i64 s∧y=.int .i64 r∧a≤s∧s≤r∧r≤m∧Hid ((a<s→K (d (s-1))≤K (d (np-s)))∧(r<m→K (d (pp-r))<K (d r)))∧RowAt W G 3 (ints n d)∧w0.grownBy W (some G)) (fun x y _=>(intOf y-intOf x).toNat)
  case atStart=>exact ⟨a,m,rfl,rfl,by omega,by have:=HMID.out;have:=HCASE.out;omega,by omega,⟨fun h=>by omega,fun h=>by omega⟩,hr,hgb⟩
  case round =>
   clear hr hgb
   obtain ⟨s,r,rfl,rfl,h1,h2,h3,HI,ro,hb⟩:=hrel
   by_cases hlt:s<r
   ·obtain ⟨c,hh⟩:∃c,c=(s+r) / 2:=⟨_,rfl⟩
    have hh1:s≤c:=by omega
    have hh2:c<r:=by omega
    obtain ⟨q,hq⟩:∃q,q=pp-c:=⟨_,rfl⟩
    have hqn0:q<n:=by have:=HMID.out;have:=HCASE.out;omega
    have hcn0:c<n:=by have:=HMID.out;have:=HCASE.out;omega
    have eq1:((pp:Nat):Int)-((c:Nat):Int)=((q:Nat):Int):=by have:=HMID.out;have:=HCASE.out;omega
    have hqn:(q:Int)<(n:Int):=by omega
    have hcn:(c:Int)<(n:Int):=by omega
    have hhe:(((s:Nat):Int)+((r:Nat):Int)) / 2=((c:Nat):Int):=by omega
    have HQ:Hid (q=np-(c+1)∧q=pp-c):=⟨by have:=HMID.out;omega,hq⟩
    have hc1:=ro.cell (ints_get d hqn0)
    have hc2:=ro.cell (ints_get d hcn0)
    have hI1:=HIN.out q hqn0
    have hI2:=HIN.out c hcn0
    have hc:∀k,Calls Tryz.prog g (#[.int .i64 (d q),.int .i64 (d c)]++cb) (wr.drewN k) fun e1 w'=>e1=.returned (.int .i64 (cmpV (K (d q)) (K (d c))))∧∃q,w'=(wr.drewN k).drewN q:=fun k=>HCMP.out _ (gb_drewN hb k) _ _ hI1.1 hI1.2 hI2.1 hI2.2
    have HRO:=(show Hid (RowAt wr G 3 (ints n d)) from ro)
    clear hh hq
    by_cases hk:K (d q)<K (d c)
    ·rw[cmpV_lt hk] at hc
     have HN:=(show Hid ((a<s→K (d (s-1))≤K (d (np-s)))∧(c<m→K (d (pp-c))<K (d c))) from ⟨HI.out.1,fun _=>by rw[←HQ.out.2];exact hk⟩)
     clear ro hk HI hI1 hI2
     go_wp2_with fail
     go_quiet (first | (go_at_fn g;refine Calls.quiet_of (hc _)))
     go_wp2
     go_roundw
     case rel=>exact ⟨s,c,rfl,rfl,by omega,by omega,by omega,HN,HRO.out.drewN _,gb_drewN hb _⟩
     case measure=>simp[intOf] <;> omega
    ·have hcv:=cmpV_ge hk
     have HN:=(show Hid ((a<c+1→K (d (c+1-1))≤K (d (np-(c+1))))∧(r<m→K (d (pp-r))<K (d r))) from ⟨fun _=>by rw[Nat.add_sub_cancel,←HQ.out.1];omega,HI.out.2⟩)
     generalize cmpV (K (d q)) (K (d c))=cv at hc hcv
     have hcn:decide (cv<0)=false:=by simp;omega
     clear ro hk HI hI1 hI2 hcv
     go_wp2_with fail
     go_quiet (first | (go_at_fn g;refine Calls.quiet_of (hc _)))
     go_wp2
     go_roundw
     case rel=>exact ⟨c+1,r,by go_num,rfl,by omega,by omega,by omega,HN,HRO.out.drewN _,gb_drewN hb _⟩
     case measure=>simp[intOf] <;> omega
   ·obtain rfl:s=r:=by omega
    obtain ⟨e,he⟩:∃e,e=np-s:=⟨_,rfl⟩
    have ee:((np:Nat):Int)-((s:Nat):Int)=((e:Nat):Int):=by have:=HMID.out;have:=HCASE.out;omega
    have k1:a≤s:=by have:=HMID.out;have:=HCASE.out;omega
    have k2:s≤m:=by have:=HMID.out;have:=HCASE.out;omega
    have k3:m≤e:=by have:=HMID.out;have:=HCASE.out;omega
    have k4:e≤b:=by have:=HMID.out;have:=HCASE.out;omega
    have k5:mid=s+(e-m):=by have:=HMID.out;omega
    have hx:s<m→m<e→K (d (e-1))<K (d s):=fun u1 u2=>by
     have:=HI.out.2 (by have:=HMID.out;have:=HCASE.out;omega)
     rw[show e-1=pp-s by have:=HMID.out;omega]
     exact this
    have hy:a<s→e<b→LL K (d (s-1)) (d e):=fun u1 u2=>by
     have:=HI.out.1 (by have:=HMID.out;have:=HCASE.out;omega)
     rw[←he] at this
     exact ll_of HST.out (by omega) (by omega) (by omega)
    obtain ⟨d1,hd1⟩:∃d1,d1=rotF s m e d:=⟨_,rfl⟩
    have st1:Stab K n d1:=by rw[hd1];exact turn_stab k1 k2 k3 k4 hbn HST.out HS1.out HS2.out hx
    have tl:=turn_left k1 k2 k3 k4 HS1.out HS2.out
    rw[←hd1,←k5] at tl
    obtain ⟨t1,t2,t3,t4⟩:=tl
    have mv1:Mv a b d d1:=by rw[hd1];exact (rot_mv s m e k2 k3 d).wide k1 k4
    have in1:InR n d1:=Mv.inR mv1 hbn HIN.out
    have km:a<mid∧mid<b:=by have:=HMID.out;omega
    have HL:=(show Hid (∀W,w0.grownBy W (some G)→RowAt W G 3 (ints n d1)→a<s→s<mid→Calls Tryz.prog 256 #[.slice (some ⟨G,0,none⟩) n cap,.int .i64 (a:Nat),.int .i64 (s:Nat),.int .i64 (mid:Nat),.func (.func g) #[] cb] W fun e w'=>∃d',e=.returned (.tuple #[])∧RowAt w' G 3 (ints n d')∧w0.grownBy w' (some G)∧Done K n a mid d1 d') from fun W h1 h2 u1 u2=>IH.out a s mid d1 W (by omega) u1 u2 (by omega) h1 h2 in1 st1 t1 t2)
    have HLN:=(show Hid (¬(a<s∧s<mid)→Done K n a mid d1 d1) from fun u=>⟨Mv.refl _ _ _,st1,srt_one t1 t2 u k1 (by omega)⟩)
    have hkeep:∀d2,Done K n a mid d1 d2→Srt K d2 mid e∧Srt K d2 e b∧InR n d2:=fun d2 hd=>by
     refine ⟨fun p q hp hpq hq=>?_,fun p q hp hpq hq=>?_,Mv.inR hd.mv (by omega) in1⟩
     ·rw[hd.mv.out p (by omega),hd.mv.out q (by omega)];exact t3 p q hp hpq hq
     ·rw[hd.mv.out p (by omega),hd.mv.out q (by omega)];exact t4 p q hp hpq hq
    have HR:=(show Hid (∀W d2,Done K n a mid d1 d2→w0.grownBy W (some G)→RowAt W G 3 (ints n d2)→mid<e→e<b→Calls Tryz.prog 256 #[.slice (some ⟨G,0,none⟩) n cap,.int .i64 (mid:Nat),.int .i64 (e:Nat),.int .i64 (b:Nat),.func (.func g) #[] cb] W fun e w'=>∃d',e=.returned (.tuple #[])∧RowAt w' G 3 (ints n d')∧w0.grownBy w' (some G)∧Done K n mid b d2 d') from fun W d2 hd h1 h2 u1 u2=>IH.out mid e b d2 W (by omega) u1 u2 (by omega) h1 h2 (hkeep d2 hd).2.2 hd.stab (hkeep d2 hd).1 (hkeep d2 hd).2.1)
    have HRN:=(show Hid (∀d2,Done K n a mid d1 d2→¬(mid<e∧e<b)→Done K n mid b d2 d2) from fun d2 hd u=>⟨Mv.refl _ _ _,hd.stab,srt_one (hkeep d2 hd).1 (hkeep d2 hd).2.1 u (by omega) k4⟩)
    have HE:=(show Hid (∀d2 d3,Done K n a mid d1 d2→Done K n mid b d2 d3→Done K n a b d d3) from fun d2 d3 h2 h3=>merge_turn k1 k2 k3 k4 hbn k5 HS1.out HS2.out hx hy hd1 h2.mv h2.srt h3.mv h3.srt h3.stab)
    have HROT:=(show Hid (s<m→m<e→Calls Tryz.prog 269 #[.slice (some ⟨G,0,none⟩) n cap,.int .i64 (s:Nat),.int .i64 (m:Nat),.int .i64 (e:Nat),.func (.func g) #[] cb] wr fun e' w'=>e'=.returned (.tuple #[])∧RowAt w' G 3 (ints n d1)∧wr.grownBy w' (some G)) from fun u1 u2=>by rw[hd1];exact rotate_any G cap n d s m e u1 u2 (by omega) hn _ wr ro)
    have HNR:=(show Hid (¬(s<m∧m<e)→RowAt wr G 3 (ints n d1)) from fun u=>by rw[hd1,rot_none s m e k2 k3 (by omega)];exact ro)
    clear hd1 st1 t1 t2 t3 t4 mv1 in1 hkeep hx hy HI he HCASE
    by_cases c1:s<m
    ·by_cases c2:m<e
     ·have c3:s<mid:=by omega
      have c4:mid<e:=by omega
      clear k5
      by_cases c5:a<s
      ·by_cases c6:e<b
       ·skip
        clear ro
        go_wp2_with fail
        refine Calls.mono (HROT.out (by omega) (by omega)) ?_
        rintro e1 W1 ⟨rfl,ro1,hb1'⟩
        have hb1:=gb_trans hb hb1'
        go_wp2_with fail
        refine Calls.mono (HL.out _ hb1 ro1 (by omega) (by omega)) ?_
        rintro e2 W2 ⟨d2,rfl,ro2,hb2,hd2⟩
        go_wp2_with fail
        refine Calls.mono (HR.out _ d2 hd2 hb2 ro2 (by omega) (by omega)) ?_
        rintro e3 W3 ⟨d3,rfl,ro3,hb3,hd3⟩
        go_wp2
        go_end0
        exact ⟨d3,rfl,ro3,hb3,HE.out d2 d3 hd2 hd3⟩
       ·skip
        clear ro
        go_wp2_with fail
        refine Calls.mono (HROT.out (by omega) (by omega)) ?_
        rintro e1 W1 ⟨rfl,ro1,hb1'⟩
        have hb1:=gb_trans hb hb1'
        go_wp2_with fail
        refine Calls.mono (HL.out _ hb1 ro1 (by omega) (by omega)) ?_
        rintro e2 W2 ⟨d2,rfl,ro2,hb2,hd2⟩
        go_wp2
        go_end0
        exact ⟨d2,rfl,ro2,hb2,HE.out d2 d2 hd2 (HRN.out d2 hd2 (by omega))⟩
      ·by_cases c6:e<b
       ·skip
        clear ro
        go_wp2_with fail
        refine Calls.mono (HROT.out (by omega) (by omega)) ?_
        rintro e1 W1 ⟨rfl,ro1,hb1'⟩
        have hb1:=gb_trans hb hb1'
        obtain ⟨d2,hd2,ro2,hb2⟩:∃d2,Done K n a mid d1 d2∧RowAt W1 G 3 (ints n d2)∧w0.grownBy W1 (some G):=⟨d1,HLN.out (by omega),ro1,hb1⟩
        go_wp2_with fail
        refine Calls.mono (HR.out _ d2 hd2 hb2 ro2 (by omega) (by omega)) ?_
        rintro e3 W3 ⟨d3,rfl,ro3,hb3,hd3⟩
        go_wp2
        go_end0
        exact ⟨d3,rfl,ro3,hb3,HE.out d2 d3 hd2 hd3⟩
       ·skip
        clear ro
        go_wp2_with fail
        refine Calls.mono (HROT.out (by omega) (by omega)) ?_
        rintro e1 W1 ⟨rfl,ro1,hb1'⟩
        have hb1:=gb_trans hb hb1'
        obtain ⟨d2,hd2,ro2,hb2⟩:∃d2,Done K n a mid d1 d2∧RowAt W1 G 3 (ints n d2)∧w0.grownBy W1 (some G):=⟨d1,HLN.out (by omega),ro1,hb1⟩
        go_wp2
        go_end0
        exact ⟨d2,rfl,ro2,hb2,HE.out d2 d2 hd2 (HRN.out d2 hd2 (by omega))⟩
     ·have c3:¬s<mid:=by omega
      have c4:mid<e:=by omega
      have c5:a<s:=by omega
      have c6:e<b:=by omega
      clear k5
      have ro1:=HNR.out (by omega)
      have hb1:=hb
      clear ro
      obtain ⟨d2,hd2,ro2,hb2⟩:∃d2,Done K n a mid d1 d2∧RowAt wr G 3 (ints n d2)∧w0.grownBy wr (some G):=⟨d1,HLN.out (by omega),ro1,hb1⟩
      go_wp2_with fail
      refine Calls.mono (HR.out _ d2 hd2 hb2 ro2 (by omega) (by omega)) ?_
      rintro e3 W3 ⟨d3,rfl,ro3,hb3,hd3⟩
      go_wp2
      go_end0
      exact ⟨d3,rfl,ro3,hb3,HE.out d2 d3 hd2 hd3⟩
    ·have c4:¬mid<e:=by omega
     have c5:a<s:=by omega
     by_cases c3:s<mid
     ·clear k5
      have ro1:=HNR.out (by omega)
      have hb1:=hb
      clear ro
      go_wp2_with fail
      refine Calls.mono (HL.out _ hb1 ro1 (by omega) (by omega)) ?_
      rintro e2 W2 ⟨d2,rfl,ro2,hb2,hd2⟩
      go_wp2
      go_end0
      exact ⟨d2,rfl,ro2,hb2,HE.out d2 d2 hd2 (HRN.out d2 hd2 (by omega))⟩
     ·clear k5
      have ro1:=HNR.out (by omega)
      have hb1:=hb
      clear ro
      obtain ⟨d2,hd2,ro2,hb2⟩:∃d2,Done K n a mid d1 d2∧RowAt wr G 3 (ints n d2)∧w0.grownBy wr (some G):=⟨d1,HLN.out (by omega),ro1,hb1⟩
      go_wp2
      go_end0
      exact ⟨d2,rfl,ro2,hb2,HE.out d2 d2 hd2 (HRN.out d2 hd2 (by omega))⟩
theorem symMerge_any (g:Nat) (cb:Array Value) (K:Int→Int) (hent:∀(args:Array Value) (W:World),(callFunc g args).run Tryz.prog W=.ok (.enter g args) W) (G cap n:Nat) (hn:n≤65536) (w0:World) (hcmp:CmpOK g cb K n w0 G):∀sz,SymOK g cb K G cap n w0 sz
 | 0=>fun a m b d w h1 h2 h3=>by omega
 | sz+1=>fun a m b d w hsz ham hmb hbn hgb hr hin hst hs1 hs2=>by
  by_cases c1:m=a+1
  ·subst c1
   exact symA_any g cb K hent G cap n d a b hmb hbn hn w0 w hcmp hgb hr hin hst hs2
  ·by_cases c2:b=m+1
   ·subst c2
    exact symB_any g cb K hent G cap n d a m (by omega) hbn hn w0 w hcmp hgb hr hin hst hs1
   ·exact symC_any g cb K hent G cap n hn w0 hcmp sz (symMerge_any g cb K hent G cap n hn w0 hcmp sz) a m b d w hsz (by omega) (by omega) hbn hgb hr hin hst hs1 hs2
end Go.Proofs.YtkohhdkkbaifoaaGreatDoor
