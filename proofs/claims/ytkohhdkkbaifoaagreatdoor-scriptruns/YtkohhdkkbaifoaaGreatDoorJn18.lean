/-
  Several texts, joined: RoSt, RoBe, RoWt.
-/
import Derived.Test.YtkohhdkkbaifoaaGreatDoorJn4
import Derived.Scope
import Derived.WalkMore
import Derived.ScopeJumps
import Derived.Laws.AppendOwn
import Derived.Test.YtkohhdkkbaifoaaGreatDoorPz
import Derived.OrdersHeld
import Derived.Deep.Upon
import Derived.Test.YtkohhdkkbaifoaaGreatDoorJn17
/-
  Contract of (*Rotor).Step.
-/
namespace Go.Proofs.YtkohhdkkbaifoaaGreatDoor
open Go.RowKit PK Vg

theorem rg_refl (w:World) (r:Option Nat):w.grownBy w r:=⟨rfl,rfl,rfl,Nat.le_refl _,fun _ _ _=>rfl⟩
theorem rg_trans {a w w':World} {r:Option Nat} (h:a.grownBy w r) (k:w.grownBy w' r):a.grownBy w' r:=⟨k.os.trans h.os,k.tape.trans h.tape,k.output.trans h.output,Nat.le_trans h.size k.size,fun i hi hne=>(k.block i (Nat.lt_of_lt_of_le hi h.size) hne).trans (h.block i hi hne)⟩
theorem rg_set {a w:World} {g:Nat} (h:a.grownBy w (some g)) (i:Nat) (v:Value):a.grownBy (w.setCell ⟨g,i,none⟩ v) (some g):=by
 have:=(Below.refl 0 w).setCell (p:=⟨g,i,none⟩) (Nat.zero_le _) v
 exact rg_trans h ⟨this.os,this.tape,this.output,this.size,fun k _ hne=>heap_setCell_other w ⟨g,i,none⟩ k v (fun e=>hne (by rw[e]))⟩
theorem RotAt.drewN {w:World} {b:Nat} {M:Om.Ma} {at':Nat→Nat} (h:RotAt w b M at') (n:Nat):RotAt (w.drewN n) b M at':=⟨h.row,h.ok,h.ins⟩
theorem rg_drewN {a w:World} {r:Option Nat} (h:a.grownBy w r) (n:Nat):a.grownBy (w.drewN n) r:=⟨h.os,h.tape,h.output,h.size,h.block⟩
def StJ (w:World) (b:Nat) (M:Om.Ma) (at':Nat→Nat) (a:Act) (W:World):Prop :=
 ∃(k:Nat) (US:Int) (CB:Bool),k≤M.n∧RotAt W b M (Om.mid M at' k)∧w.grownBy W (some b)∧CB=Om.car M at' k∧US=(k:Int)-1∧∃(u4 u5 u6 u7 u8 u9 u10 u11 u12 u13 u14 u15 u16 u17 u18 u19 u20 u21 u22 u23 u24 u25 u26 u27 u28 u29 u30 u31 u32 u33 u34 u35 u36 u37 u38 u39 u40 u41 u42 u43 u44 u45 u46:Value),a={ tmps:=#[.pointer (some ⟨b,0,none⟩),undef,.int .i64 US,.bool CB,u4,u5,u6,u7,u8,u9,u10,u11,u12,u13,u14,u15,u16,u17,u18,u19,u20,u21,u22,u23,u24,u25,u26,u27,u28,u29,u30,u31,u32,u33,u34,u35,u36,u37,u38,u39,u40,u41,u42,u43,u44,u45,u46],defers:=[] }
set_option maxRecDepth 1000000 in
set_option maxHeartbeats 8000000 in
theorem step_any (b:Nat) (M:Om.Ma) (at':Nat→Nat) (w:World) (h:RotAt w b M at'):Calls Tryz.prog 132 #[.pointer (some ⟨b,0,none⟩)] w fun e w'=>e=.returned (.tuple #[])∧RotAt w' b M (Om.step M at')∧w.grownBy w' (some b):=by
 have hn4:=h.ok.most
 have hn1:=h.ok.pos
 have hmany:=h.many
 have HIN:=(show Hid (Om.In26 M at') from h.ins)
 have htop:=Om.car_top M at'
 have hrt:RotAt w b M (Om.mid M at' M.n):=by
  refine ⟨?_,h.ok,fun i hi=>by rw[Om.mid_now _ _ hi];exact h.ins i hi⟩
  have e:rotA M (Om.mid M at' M.n) M.n=rotA M at' M.n:=tab_ext fun i _=>by
   unfold rotC
   by_cases h1:i<320
   ·rw[if_pos h1,if_pos h1]
    by_cases h2:i / 80<M.n
    ·rw[if_pos h2,if_pos h2,Om.mid_now _ _ h2]
    ·rw[if_neg h2,if_neg h2]
   ·rw[if_neg h1,if_neg h1]
  rw[e]
  exact h.row
 have hg0:=rg_refl w (some b)
 obtain ⟨n,hn⟩:∃n,M.n=n+1:=⟨M.n-1,by omega⟩
 go_enter Tryz.func132,Tryz.ntmps132
 go_wp2
 refine wp_scope_jumps 0 (StJ w b M at') (fun a' _=>(intOf (a'.tmps.getD 2 undef)+1).toNat) rfl ?_ ?_
 ·go_wp2
  go_step3
  rw[hn] at hrt htop
  have hk:n+1≤M.n:=by omega
  clear h hmany
  generalize w.grownBy w (some b)=X at hg0
  have hw:=hrt.window (q:=n) (by omega)
  rw[Om.mid_now _ _ (Nat.lt_succ_self n)] at hw
  have hfr:=hrt.row.frozen (n*80+79)
  have hin:=HIN.out n (by omega)
  have hno:=hrt.no (q:=n) (by omega) hin
  have hcar:=Om.car_in (M:=M) at' (k:=n) (by omega)
  have hturn:=Om.turns_car M at' n
  have HQ:=(show Hid (Om.turns M at' n=true→∀nq,RotAt ((w.drewN nq).setCell ⟨b,n*80+79,none⟩ (.int .i64 (((at' n+1) % 26:Nat):Int))) b M (Om.mid M at' n)) from fun ht nq=>by
   have:=(hrt.drewN nq).turn (q:=n) (by omega) (v:=(at' n+1) % 26) (Nat.mod_lt _ (by decide))
   rw[Om.mid_turn ht] at this
   exact this)
  have HS:=(show Hid (Om.turns M at' n=false→∀nq,RotAt (w.drewN nq) b M (Om.mid M at' n)) from fun ht nq=>by
   have:=hrt.drewN nq
   rw[Om.mid_stay ht] at this
   exact this)
  have HG:=(show Hid (∀nq,w.grownBy (w.drewN nq) (some b)) from fun nq=>rg_drewN (rg_refl w _) nq)
  have HK:Hid (n≤M.n):=(by omega:n≤M.n)
  rw[htop] at hturn
  clear hrt htop hg0 X
  generalize Om.turns M at' n=TT at *
  generalize at' n=A at *
  generalize (M.no n).contains A=BB at *
  have e2:((A:Int)+1).tmod 26=(((A+1) % 26:Nat):Int):=by rw[Int.tmod_eq_emod_of_nonneg (by omega)];omega
  generalize (A+1) % 26=A2 at *
  have HC:=(show Hid _ from hcar)
  have HT:=(show Hid _ from hturn)
  clear hcar hturn
  cases BB with
  | true =>
   have HTT:Hid (TT=true):=by rw[Hid,HT.out];simp
   go_upto_region 3 with fail
   go_quiet (fail)
   go_wp2
   go_step3
   refine ⟨rfl,n,_,_,HK.out,HQ.out HTT.out _,rg_set (HG.out _) _ _,HC.out.symm,?_,_,_,_,_,_,_,_,_,_,_,_,_,_,_,_,_,_,_,_,_,_,_,_,_,_,_,_,_,_,_,_,_,_,_,_,_,_,_,_,_,_,_,_,rfl⟩
   ·rfl
  | false =>
   have HTT:Hid (TT=true):=by rw[Hid,HT.out];simp
   go_upto_region 3 with fail
   go_quiet (fail)
   go_wp2
   go_step3
   refine ⟨rfl,n,_,_,HK.out,HQ.out HTT.out _,rg_set (HG.out _) _ _,HC.out.symm,?_,_,_,_,_,_,_,_,_,_,_,_,_,_,_,_,_,_,_,_,_,_,_,_,_,_,_,_,_,_,_,_,_,_,_,_,_,_,_,_,_,_,_,_,rfl⟩
   ·rfl
 ·rintro a' W ⟨k,US,CB,hk,hr,hgr,hcb,rfl,u4,u5,u6,u7,u8,u9,u10,u11,u12,u13,u14,u15,u16,u17,u18,u19,u20,u21,u22,u23,u24,u25,u26,u27,u28,u29,u30,u31,u32,u33,u34,u35,u36,u37,u38,u39,u40,u41,u42,u43,u44,u45,u46,rfl⟩
  clear hmany hrt htop hg0 h hn
  cases k with
  | zero =>
   go_wp2
   simp only[Exit.jump]
   rw[Om.mid_all] at hr
   exact bodyPost_ret (results_none rfl _ _ _) rfl ⟨rfl,hr,hgr⟩
  | succ k =>
   have e1:(((k+1:Nat):Int)-1)=(k:Int):=by omega
   rw[e1]
   clear e1
   have hw:=hr.window (q:=k) (by omega)
   rw[Om.mid_now _ _ (Nat.lt_succ_self k)] at hw
   have hfr:=hr.row.frozen (k*80+79)
   have hin:=HIN.out k (by omega)
   have hno:=hr.no (q:=k) (by omega) hin
   have hcar:=Om.car_in (M:=M) at' (k:=k) (by omega)
   have hturn:=Om.turns_car M at' k
   have HQ:=(show Hid (Om.turns M at' k=true→∀nq,RotAt ((W.drewN nq).setCell ⟨b,k*80+79,none⟩ (.int .i64 (((at' k+1) % 26:Nat):Int))) b M (Om.mid M at' k)) from fun ht nq=>by
    have:=(hr.drewN nq).turn (q:=k) (by omega) (v:=(at' k+1) % 26) (Nat.mod_lt _ (by decide))
    rw[Om.mid_turn ht] at this
    exact this)
   have HS:=(show Hid (Om.turns M at' k=false→∀nq,RotAt (W.drewN nq) b M (Om.mid M at' k)) from fun ht nq=>by
    have:=hr.drewN nq
    rw[Om.mid_stay ht] at this
    exact this)
   have HG:=(show Hid (∀nq,w.grownBy (W.drewN nq) (some b)) from fun nq=>rg_drewN hgr nq)
   have HK:Hid (k≤M.n):=(by omega:k≤M.n)
   rw[←hcb] at hturn
   clear hr hgr hcb
   generalize Om.turns M at' k=TT at *
   generalize at' k=A at *
   generalize (M.no k).contains A=BB at *
   have e2:((A:Int)+1).tmod 26=(((A+1) % 26:Nat):Int):=by rw[Int.tmod_eq_emod_of_nonneg (by omega)];omega
   generalize (A+1) % 26=A2 at *
   have HC:=(show Hid _ from hcar)
   have HT:=(show Hid _ from hturn)
   clear hcar hturn
   cases CB with
   | true =>
    cases BB with
    | true =>
     have HTT:Hid (TT=true):=by rw[Hid,HT.out];simp
     go_upto_region 3 with fail
     go_quiet (fail)
     go_wp2
     go_step3
     refine ⟨rfl,⟨k,_,_,HK.out,HQ.out HTT.out _,rg_set (HG.out _) _ _,HC.out.symm,?_,_,_,_,_,_,_,_,_,_,_,_,_,_,_,_,_,_,_,_,_,_,_,_,_,_,_,_,_,_,_,_,_,_,_,_,_,_,_,_,_,_,_,_,rfl⟩,?_⟩
     ·rfl
     ·simp[intOf] <;> omega
    | false =>
     have HTT:Hid (TT=true):=by rw[Hid,HT.out];simp
     go_upto_region 3 with fail
     go_quiet (fail)
     go_wp2
     go_step3
     refine ⟨rfl,⟨k,_,_,HK.out,HQ.out HTT.out _,rg_set (HG.out _) _ _,HC.out.symm,?_,_,_,_,_,_,_,_,_,_,_,_,_,_,_,_,_,_,_,_,_,_,_,_,_,_,_,_,_,_,_,_,_,_,_,_,_,_,_,_,_,_,_,_,rfl⟩,?_⟩
     ·rfl
     ·simp[intOf] <;> omega
   | false =>
    cases BB with
    | true =>
     by_cases hz:0<k
     ·have hz1:(0:Int)<(k:Int):=by omega
      have HTT:Hid (TT=true):=by rw[Hid,HT.out];simp[hz]
      clear hz
      go_upto_region 3 with fail
      go_quiet (fail)
      go_wp2
      go_step3
      refine ⟨rfl,⟨k,_,_,HK.out,HQ.out HTT.out _,rg_set (HG.out _) _ _,HC.out.symm,?_,_,_,_,_,_,_,_,_,_,_,_,_,_,_,_,_,_,_,_,_,_,_,_,_,_,_,_,_,_,_,_,_,_,_,_,_,_,_,_,_,_,_,_,rfl⟩,?_⟩
      ·rfl
      ·simp[intOf] <;> omega
     ·have hz1:¬(0:Int)<(k:Int):=by omega
      have HTT:Hid (TT=false):=by rw[Hid,HT.out];simp[hz]
      clear hz
      go_upto_region 3 with fail
      go_quiet (fail)
      go_wp2
      go_step3
      refine ⟨rfl,⟨k,_,_,HK.out,HS.out HTT.out _,HG.out _,HC.out.symm,?_,_,_,_,_,_,_,_,_,_,_,_,_,_,_,_,_,_,_,_,_,_,_,_,_,_,_,_,_,_,_,_,_,_,_,_,_,_,_,_,_,_,_,_,rfl⟩,?_⟩
      ·rfl
      ·simp[intOf] <;> omega
    | false =>
     have HTT:Hid (TT=false):=by rw[Hid,HT.out];simp
     go_upto_region 3 with fail
     go_quiet (fail)
     go_wp2
     go_step3
     refine ⟨rfl,⟨k,_,_,HK.out,HS.out HTT.out _,HG.out _,HC.out.symm,?_,_,_,_,_,_,_,_,_,_,_,_,_,_,_,_,_,_,_,_,_,_,_,_,_,_,_,_,_,_,_,_,_,_,_,_,_,_,_,_,_,_,_,_,rfl⟩,?_⟩
     ·rfl
     ·simp[intOf] <;> omega
end Go.Proofs.YtkohhdkkbaifoaaGreatDoor

/-
  Contracts of (*Rotor).becomes, Now, Press.
-/
namespace Go.Proofs.YtkohhdkkbaifoaaGreatDoor
open Go.RowKit PK Vg

structure RbAt (w W:World) (b:Nat) (M:Om.Ma) (at':Nat→Nat):Prop where
 rot:RotAt W b M at'
 below:Below w.heap.size w W
section
variable {w W W':World} {b:Nat} {M:Om.Ma} {at':Nat→Nat}
theorem RbAt.new (h:RotAt w b M at'):RbAt w w b M at':=⟨h,Below.refl _ _⟩
theorem RbAt.step (h:RbAt w W b M at') (hb:Below W.heap.size W W'):RbAt w W' b M at':=⟨h.rot.below hb,h.below.trans (hb.mono h.below.size)⟩
theorem RbAt.drew (h:RbAt w W b M at'):RbAt w W.drew b M at':=⟨h.rot.drew,h.below.drew⟩
theorem RbAt.alloc (h:RbAt w W b M at') (o:Obj):RbAt w (W.alloc o) b M at':=⟨h.rot.alloc o,h.below.alloc h.below.size o⟩
end
theorem Om.through_next {M:Om.Ma} (at':Nat→Nat) {k:Nat} (hk:k<M.n) (x:Nat):Om.wheel (M.wi k) (Om.by' M at' k) (Om.through M at' (M.n-(k+1)) x)=Om.through M at' (M.n-k) x:=by
 rw[show M.n-k=(M.n-(k+1))+1 by omega]
 show _=Om.wheel (M.wi (M.n-1-(M.n-(k+1)))) (Om.by' M at' (M.n-1-(M.n-(k+1)))) (Om.through M at' (M.n-(k+1)) x)
 rw[show M.n-1-(M.n-(k+1))=k by omega]
set_option maxRecDepth 100000 in
set_option maxHeartbeats 4000000 in
theorem becomes_any (b:Nat) (M:Om.Ma) (at':Nat→Nat) (c:Nat) (hc:c<26) (w:World) (h:RotAt w b M at'):Calls Tryz.prog 134 #[.pointer (some ⟨b,0,none⟩),.int .i64 (c:Nat)] w fun e w'=>e=.returned (.int .i64 (Om.now M at' c:Nat))∧Below w.heap.size w w':=by
 have hn4:=h.ok.most
 have hmany:=h.many
 have hpl:=h.plug hc
 have hlt:=h.ok.pl.1 c hc
 have HOK:=(show Hid (Om.Ok M) from h.ok)
 have HNOW:=(show Hid _ from Om.now_eq h.ok at' hc)
 generalize Om.now M at' c=E at *
 generalize M.pl c=P1 at *
 have HP1:Hid (P1<26):=hlt
 have h0:=RbAt.new h
 clear h
 go_enter Tryz.func134,Tryz.ntmps134
 go_wp2_with fail
 go_loopw [5,1] (fun i x W=>∃k:Nat,k≤M.n∧i=.int .i64 ((k:Int)-1)∧x=.int .i64 (Om.through M at' (M.n-k) P1:Nat)∧RbAt w W b M at') (fun i _ _=>(intOf i+1).toNat)
 case atStart=>exact ⟨M.n,by omega,rfl,by rw[Nat.sub_self];rfl,h0⟩
 case round =>
  clear h0 hmany hpl hlt
  obtain ⟨k,hk,rfl,rfl,hg⟩:=hrel
  cases k with
  | zero =>
   have e0:(((0:Nat):Int)-1)=-1:=rfl
   rw[e0]
   clear e0
   have h1:=Om.through_lt (M:=M) at' HP1.out M.n
   have HT:=(show Hid (E=M.pl (Om.bk M at' M.n (M.rf (Om.through M at' M.n P1)))) from HNOW.out)
   rw[Nat.sub_zero]
   generalize Om.through M at' M.n P1=T1 at *
   have hrf:=hg.rot.refl h1
   have hr1:=HOK.out.rf.1 _ h1
   have hmany:=hg.rot.many
   generalize M.rf T1=R1 at *
   have HR1:Hid (R1<26):=hr1
   have hg0:=hg
   clear hg hr1
   go_wp2_with fail
   go_loopw [46,1] (fun i x W=>∃k:Nat,k≤M.n∧i=.int .i64 (k:Nat)∧x=.int .i64 (Om.bk M at' k R1:Nat)∧RbAt w W b M at') (fun i _ _=>((M.n:Int)-intOf i).toNat)
   case atStart=>exact ⟨0,by omega,rfl,rfl,hg0⟩
   case round =>
    clear hg0 hmany hrf h1
    obtain ⟨k,hk,rfl,rfl,hg⟩:=hrel
    by_cases hlt:k<M.n
    ·have HLT:Hid (k<M.n):=hlt
     have HC:Hid (Om.bk M at' k R1<26):=Om.bk_lt at' HR1.out k
     have HPL:=(show Hid (∀c,c<26→Pm.inv (M.wi k) c<26) from (HOK.out.wi k hlt).inv.1)
     have HNX:=(show Hid (Om.wheel (Pm.inv (M.wi k)) (Om.by' M at' k) (Om.bk M at' k R1)=Om.bk M at' (k+1) R1) from rfl)
     generalize Om.bk M at' k R1=C at *
     go_upto_region 12 with fail
     refine wp_region_noPanic ?_
     refine wp_region_held_drew (S:=fun W=>RbAt w W b M at') (by kernel_rfl) hg.drew (fun hS=>?_)
     refine vtk 0 54 (.pointer (some ⟨b,k*80,none⟩)) rfl (fun W hW=>by clear hS hW;go_simp) hS ?_
     simp only[zsA,zsB,zsC]
     refine vtk 1 55 (.pointer (some ⟨b,k*80,none⟩)) rfl (fun W hW=>by clear hS hW;go_simp) hS ?_
     simp only[zsA,zsB,zsC]
     refine vtk 2 56 (.pointer (some ⟨b,k*80+26,none⟩)) rfl (fun W hW=>by clear hS hW;go_simp) hS ?_
     simp only[zsA,zsB,zsC]
     refine vtk 3 57 (.pointer (some ⟨b,k*80,none⟩)) rfl (fun W hW=>by clear hS hW;go_simp) hS ?_
     simp only[zsA,zsB,zsC]
     refine vtk 5 59 (.int .i64 (C:Nat)) rfl (fun W hW=>by clear hS hW;go_simp) hS ?_
     simp only[zsA,zsB,zsC]
     refine rd1 4 rfl (fun K hK=>?_)
     go_simp
     refine Calls.mono (by_any b k M at' HLT.out _ hS.rot) ?_
     rintro e Y ⟨rfl,hb8⟩
     refine hK.out _ _ (hS.step hb8) (fun hS1=>?_)
     clear hK hS K
     have hS:=hS1
     clear hS1
     refine rd1 6 rfl (fun K hK=>?_)
     go_simp
     refine Calls.mono (thr_any b (k*80+26) (Pm.inv (M.wi k)) (Om.by' M at' k) C (Om.by_lt _ _ _) HC.out HPL.out _ (fun _ h=>hS.rot.back HLT.out h)) ?_
     rintro e Y ⟨rfl,rfl⟩
     refine hK.out _ _ (hS) (fun hS1=>?_)
     clear hK hS K
     have hS:=hS1
     clear hS1
     refine vtk 7 1 (.int .i64 (Om.wheel (Pm.inv (M.wi k)) (Om.by' M at' k) C:Nat)) rfl (fun W hW=>by clear hS hW;go_simp) hS ?_
     simp only[zsA,zsB,zsC]
     refine wpAnyH_done (by kernel_rfl) ?_ _
     refine NoPanic.normal ?_
     go_wp2_with fail
     go_roundw
     case rel=>exact ⟨k+1,HLT.out,by go_num,by rw[HNX.out],hS⟩
     case measure=>have:=HLT.out;simp[intOf];omega
    ·obtain rfl:k=M.n:=by omega
     have hnl:¬((M.n:Nat):Int)<((M.n:Nat):Int):=by omega
     have hB:=Om.bk_lt (M:=M) at' HR1.out M.n
     generalize Om.bk M at' M.n R1=B1 at *
     have hpl:=hg.rot.plug hB
     have hbe:=hg.below
     clear hg
     go_wp2
     go_ret
     exact ⟨by rw[HT.out];rfl,hbe⟩
  | succ k =>
   have hlt:k<M.n:=by omega
   have HLT:Hid (k<M.n):=hlt
   have HNX:=(show Hid _ from Om.through_next at' hlt P1)
   have HC:Hid (Om.through M at' (M.n-(k+1)) P1<26):=Om.through_lt at' HP1.out _
   have HPL:=(show Hid (∀c,c<26→M.wi k c<26) from (HOK.out.wi k hlt).1)
   generalize Om.through M at' (M.n-(k+1)) P1=C at *
   have e1:(((k+1:Nat):Int)-1)=(k:Int):=by omega
   rw[e1]
   clear e1
   go_upto_region 6 with fail
   refine wp_region_noPanic ?_
   refine wp_region_held_drew (S:=fun W=>RbAt w W b M at') (by kernel_rfl) hg.drew (fun hS=>?_)
   refine vtk 0 29 (.pointer (some ⟨b,k*80,none⟩)) rfl (fun W hW=>by clear hS hW;go_simp) hS ?_
   simp only[zsA,zsB,zsC]
   refine vtk 1 30 (.pointer (some ⟨b,k*80,none⟩)) rfl (fun W hW=>by clear hS hW;go_simp) hS ?_
   simp only[zsA,zsB,zsC]
   refine vtk 2 31 (.pointer (some ⟨b,k*80,none⟩)) rfl (fun W hW=>by clear hS hW;go_simp) hS ?_
   simp only[zsA,zsB,zsC]
   refine vtk 3 32 (.pointer (some ⟨b,k*80,none⟩)) rfl (fun W hW=>by clear hS hW;go_simp) hS ?_
   simp only[zsA,zsB,zsC]
   refine vtk 5 34 (.int .i64 (C:Nat)) rfl (fun W hW=>by clear hS hW;go_simp) hS ?_
   simp only[zsA,zsB,zsC]
   refine rd1 4 rfl (fun K hK=>?_)
   go_simp
   refine Calls.mono (by_any b k M at' HLT.out _ hS.rot) ?_
   rintro e Y ⟨rfl,hb8⟩
   refine hK.out _ _ (hS.step hb8) (fun hS1=>?_)
   clear hK hS K
   have hS:=hS1
   clear hS1
   refine rd1 6 rfl (fun K hK=>?_)
   go_simp
   refine Calls.mono (thr_any b (k*80) (M.wi k) (Om.by' M at' k) C (Om.by_lt _ _ _) HC.out HPL.out _ (fun _ h=>hS.rot.there HLT.out h)) ?_
   rintro e Y ⟨rfl,rfl⟩
   refine hK.out _ _ (hS) (fun hS1=>?_)
   clear hK hS K
   have hS:=hS1
   clear hS1
   refine vtk 7 1 (.int .i64 (Om.wheel (M.wi k) (Om.by' M at' k) C:Nat)) rfl (fun W hW=>by clear hS hW;go_simp) hS ?_
   simp only[zsA,zsB,zsC]
   refine wpAnyH_done (by kernel_rfl) ?_ _
   refine NoPanic.normal ?_
   go_wp2_with fail
   go_roundw
   case rel=>exact ⟨k,by have:=HLT.out;omega,rfl,by rw[HNX.out],hS⟩
   case measure=>simp[intOf]
end Go.Proofs.YtkohhdkkbaifoaaGreatDoor

/-
  Contract of rotor.Write.
-/
namespace Go.Proofs.YtkohhdkkbaifoaaGreatDoor
open Go.RowKit PK Vg

theorem WtAt.grown {w W W':World} {a b c:Value} {rf pl:Nat→Int} (h:WtAt w W a b c rf pl) {r:Option Nat} (hg:W.grownBy W' r) (hr:∀k,r=some k→w.heap.size+1<k):WtAt w W' a b c rf pl:=by
 have h1:=h.mg.row.lt
 have h2:=h.res.lt
 have hne:∀k,k≤w.heap.size+1→some k≠r:=fun k hk e=>by have:=hr k e.symm;omega
 refine ⟨⟨(hg.block _ h1 (hne _ (by omega))).trans h.mg.row,?_⟩,(hg.block _ h2 (hne _ (by omega))).trans h.res⟩
 exact h.mg.below.grown hg (by omega) (fun k hk=>by have:=hr k hk;omega)
set_option maxRecDepth 100000 in
set_option maxHeartbeats 2000000 in
theorem wt_bad (a b c:Value) (rf pl:Nat→Int) (t:ByteArray) (E:Int) (hE:(E != 0)=true) (w:World) (HW:Hid (∀W,Below w.heap.size w W→Calls Tryz.prog 131 #[.agg (mac a b c rf pl)] W fun e w'=>e=.returned (.tuple #[.pointer none,.int .i64 E])∧Below W.heap.size W w')):Calls Tryz.prog 79 #[.agg (mac a b c rf pl),.string t] w fun e w'=>e=.returned (.tuple #[.string ByteArray.empty,.agg #[.int .i64 E,.int .i64 0]])∧Below w.heap.size w w':=by
 have h0:=WtAt.new w a b c rf pl
 go_enter Tryz.func79,Tryz.ntmps79
 go_wp2_with (first | refine wpList_load_row rfl 29 _ rfl w.heap.size rfl 29 (mac a b c rf pl) (0,0) _ h0.load Tryz.underlying29 rfl (by rw[mac_size];exact v_info_mac) ?_)
 refine (HW.out _ h0.mg.below).mono ?_
 rintro e W1 ⟨rfl,hb⟩
 have h1:=h0.step hb
 have c0:=h1.res.cell (i:=0) rfl
 have c1:=h1.res.cell (i:=1) rfl
 have f0:=h1.res.frozen 0
 have f1:=h1.res.frozen 1
 clear hb h0 HW
 go_wp2
 have q:=Kit.read_two (.int .i64 E) (.int .i64 0) c0 c1
 exact bodyPost_ret (v:=.tuple #[.string ByteArray.empty,.agg #[.int .i64 E,.int .i64 0]]) (by simp[results,Tryz.results79,go_sem,q.1,q.2];rfl) rfl ⟨rfl,h1.done _ _⟩
set_option maxRecDepth 100000 in
set_option maxHeartbeats 2000000 in
theorem wt_text (a b c:Value) (rf pl:Nat→Int) (t:ByteArray) (E A:Int) (hE:(E != 0)=true) (w:World) (HW:Hid (∀W,Below w.heap.size w W→Calls Tryz.prog 131 #[.agg (mac a b c rf pl)] W fun e w'=>∃q,e=.returned (.tuple #[.pointer (some ⟨q,0,none⟩),.int .i64 0])∧Below W.heap.size W w')) (HT:Hid (∀W,Calls Tryz.prog 38 #[.string t] W fun e w'=>e=.returned (.agg #[.int .i64 E,.int .i64 A])∧Below W.heap.size W w')):Calls Tryz.prog 79 #[.agg (mac a b c rf pl),.string t] w fun e w'=>e=.returned (.tuple #[.string ByteArray.empty,.agg #[.int .i64 E,.int .i64 A]])∧Below w.heap.size w w':=by
 have h0:=WtAt.new w a b c rf pl
 go_enter Tryz.func79,Tryz.ntmps79
 go_wp2_with (first | refine wpList_load_row rfl 29 _ rfl w.heap.size rfl 29 (mac a b c rf pl) (0,0) _ h0.load Tryz.underlying29 rfl (by rw[mac_size];exact v_info_mac) ?_)
 refine (HW.out _ h0.mg.below).mono ?_
 rintro e W1 ⟨q,rfl,hb⟩
 have h1:=h0.step hb
 clear hb h0 HW
 go_wp2_with fail
 refine (HT.out _).mono ?_
 rintro e W2 ⟨rfl,hb⟩
 have h2:=(h1.step hb).alloc (.cells #[.int .i64 E,.int .i64 A] 35)
 have c0:=h2.res.cell (i:=0) rfl
 have c1:=h2.res.cell (i:=1) rfl
 have f0:=h2.res.frozen 0
 have f1:=h2.res.frozen 1
 clear hb h1 HT
 go_wp2_with fail
 go_region
 all_goals (try go_wp2)
 have q:=Kit.read_two (.int .i64 E) (.int .i64 A) c0 c1
 exact bodyPost_ret (v:=.tuple #[.string ByteArray.empty,.agg #[.int .i64 E,.int .i64 A]]) (by simp[results,Tryz.results79,go_sem,q.1,q.2];rfl) rfl ⟨rfl,(h2.done _ _).drew⟩
structure WmAt (w W:World) (a b c:Value) (rf pl:Nat→Int) (q:Nat) (M:Om.Ma) (at':Nat→Nat) (B:Nat) (v9:Value) (l:List UInt8):Prop where
 wt:WtAt w W a b c rf pl
 rot:RotAt W q M at'
 q1:w.heap.size+1<q
 q2:q<B
 own:Kit.Owns W B 5 v9 l
 sz:B≤W.heap.size
section
variable {w W W':World} {a b c:Value} {rf pl:Nat→Int} {q:Nat} {M:Om.Ma} {at' at2:Nat→Nat} {B:Nat} {v9:Value} {l:List UInt8}
theorem WmAt.step (h:WmAt w W a b c rf pl q M at' B v9 l) (hb:Below W.heap.size W W'):WmAt w W' a b c rf pl q M at' B v9 l:=⟨h.wt.step hb,h.rot.below hb,h.q1,h.q2,own_byte h.own hb,Nat.le_trans h.sz hb.size⟩
theorem WmAt.turned (h:WmAt w W a b c rf pl q M at' B v9 l) (hr:RotAt W' q M at2) (hg:W.grownBy W' (some q)):WmAt w W' a b c rf pl q M at2 B v9 l:=by
 refine ⟨h.wt.grown hg (fun k hk=>by cases hk;exact h.q1),hr,h.q1,h.q2,World.ownsRow.kept h.own hg ?_,Nat.le_trans h.sz hg.size⟩
 cases hv:v9.ownBlock with
 | none=>exact .inl rfl
 | some k =>
  refine .inr (fun e=>?_)
  have h1:=(World.ownsRow.lt h.own k hv).1
  have h2:=h.q2
  cases e
  omega
end
set_option maxRecDepth 100000 in
set_option maxHeartbeats 4000000 in
theorem wt_ok (M:Om.Ma) (hM:Om.Ok M) (a b c:Value) (rf pl:Nat→Int) (t:ByteArray) (ht:Ls t.data.toList) (hs:t.size≤65536) (w:World) (HW:Hid (∀W,Below w.heap.size w W→Calls Tryz.prog 131 #[.agg (mac a b c rf pl)] W fun e w'=>∃q,e=.returned (.tuple #[.pointer (some ⟨q,0,none⟩),.int .i64 0])∧W.heap.size≤q∧RotAt w' q M M.st∧Below W.heap.size W w')) (HT:Hid (∀W,Calls Tryz.prog 38 #[.string t] W fun e w'=>e=.returned (.agg #[.int .i64 0,.int .i64 0])∧Below W.heap.size W w')):Calls Tryz.prog 79 #[.agg (mac a b c rf pl),.string t] w fun e w'=>e=.returned (.tuple #[.string ⟨(Om.wr M M.st t.data.toList).toArray⟩,.agg #[.int .i64 0,.int .i64 0]])∧Below w.heap.size w w':=by
 obtain ⟨i0,hi0,hz0,hz1,hz2⟩:=x_info_parts v_info_byte
 have HNP:=(show Hid (∀k c,c<26→Om.now M (Om.steps M M.st k) c<26) from fun k c hc=>(Om.now_perm hM _).lt c hc)
 have h0:=WtAt.new w a b c rf pl
 clear hM
 go_enter Tryz.func79,Tryz.ntmps79
 go_wp2_with (first | refine wpList_load_row rfl 29 _ rfl w.heap.size rfl 29 (mac a b c rf pl) (0,0) _ h0.load Tryz.underlying29 rfl (by rw[mac_size];exact v_info_mac) ?_)
 refine (HW.out _ h0.mg.below).mono ?_
 rintro e W1 ⟨q,rfl,hq,hrot,hb⟩
 have h1:=h0.step hb
 have hq1:w.heap.size+1<q:=by have:=h0.res.lt;omega
 clear hb h0 HW hq
 go_wp2_with fail
 refine (HT.out _).mono ?_
 rintro e W2 ⟨rfl,hb⟩
 have h2:=(h1.step hb).alloc (.cells #[.int .i64 0,.int .i64 0] 35)
 have hrot2:=(hrot.below hb).alloc (.cells #[.int .i64 0,.int .i64 0] 35)
 clear hb h1 HT hrot
 obtain ⟨V,hV⟩:∃V,V=W2.alloc (.cells #[.int .i64 0,.int .i64 0] 35):=⟨_,rfl⟩
 rw[←hV] at h2 hrot2
 have hqV:=hrot2.row.lt
 go_wp2_with (first | (at_make;rw[←hV];refine wpList_make_own _ rfl _ _ 87 rfl V.heap.size 5 i0 (.int .u8 0) 1 Tryz.underlying87 hi0 hz0 hz1 _ _ _ t.size rfl rfl rfl (by rw[hz2];omega) (by unfold maxLen;omega) (Nat.le_refl _) ?_;intro w1 hown1 hgrow1))
 have hbn:Below V.heap.size V w1:=⟨hgrow1.os,hgrow1.tape,hgrow1.output,hgrow1.size,fun k hk=>hgrow1.block k hk (by simp)⟩
 have hg0:WmAt w w1 a b c rf pl q M (Om.steps M M.st 0) V.heap.size _ (Om.wr M M.st (t.data.toList.take 0)):=⟨h2.step hbn,hrot2.below hbn,hq1,hqV,hown1,hgrow1.size⟩
 have hB:V.heap.size=W2.heap.size+1:=by rw[hV];simp
 rw[hB] at hg0
 clear hB hbn hown1 hgrow1 hqV hrot2 h2 hq1 hV
 go_loopw [31,9] (fun i y W=>∃(k:Nat) (v9:Value),k≤t.size∧i=.int .i64 (k:Nat)∧v9=y∧WmAt w W a b c rf pl q M (Om.steps M M.st k) (W2.heap.size+1) v9 (Om.wr M M.st (t.data.toList.take k))) (fun i _ _=>((t.size:Int)-intOf i).toNat)
 case atStart=>exact ⟨0,_,by omega,rfl,rfl,hg0⟩
 case round =>
  clear hg0
  obtain ⟨k,v9,hk,rfl,rfl,hg⟩:=hrel
  by_cases hlt:k<t.size
  ·have hlt2:(k:Int)<(t.size:Int):=by omega
   have hxl:=ht.at (getD_size hlt)
   have hnum:=num_lt hxl
   have hby:t[k]=t.data.toList.getD k 0:=(getD_byte t k hlt).symm
   have HWT:=(show Hid _ from wr_take (M:=M) (getD_size hlt) M.st)
   have HNB:=(show Hid _ from HNP.out (k+1) _ hnum)
   have HSTK:=(show Hid (Om.step M (Om.steps M M.st k)=Om.steps M M.st (k+1)) from rfl)
   have HLL:Hid ((Om.wr M M.st (t.data.toList.take k)).length≤k):=by rw[Hid,Om.wr_length,List.length_take];omega
   generalize t.data.toList.getD k 0=x at *
   go_wp2_with fail
   refine (step_any q M _ _ hg.rot).mono ?_
   rintro e W3 ⟨rfl,hr,hgr⟩
   rw[HSTK.out] at hr
   have hg2:=hg.turned hr hgr
   clear hr hgr hg
   go_wp2_with fail
   refine (number_any x hxl _).mono ?_
   rintro e W4 ⟨rfl,rfl⟩
   clear hby
   go_wp2_with fail
   refine (becomes_any q M _ (Vg.num x) hnum _ hg2.rot).mono ?_
   rintro e W4 ⟨rfl,hb⟩
   have hg3:=hg2.step hb
   clear hb hg2
   obtain ⟨z,hz⟩:∃z,z=Om.now M (Om.steps M M.st (k+1)) (Vg.num x):=⟨_,rfl⟩
   rw[←hz] at HNB HWT ⊢
   clear hz
   go_wp2_with fail
   refine (letter_any z HNB.out _).mono ?_
   rintro e W5 ⟨rfl,rfl⟩
   have hlt4:=hg3.rot.row.lt
   have hq2:=hg3.q2
   have hsz2:=hg3.sz
   go_wp2_with (first | (at_builtin;refine wpList_append_own _ rfl _ _ 87 rfl (W2.heap.size+1) 5 i0 (.int .u8 0) 1 1 Tryz.underlying87 hi0 hz0 hz1 hz2 rfl (by decide) _ _ _ rfl (World.ownsRow.alloc hg3.own _) ⟨W4.heap.size,0,none⟩ 1 1 [.int .u8 ((ltr z).toNat:Int)] rfl rfl (cell_one_new _ _ _) (fun u hu=>by simp at hu;subst hu;rfl) (by have:=HLL.out;unfold maxLen;omega) (by have:=HLL.out;omega) (by simp;omega) ?_;intro v5 w5 hown5 hgrow5 _))
   have HG4:WmAt w w5 a b c rf pl q M (Om.steps M M.st (k+1)) (W2.heap.size+1) v5 (Om.wr M M.st (t.data.toList.take (k+1))):=by
    have hlo:∀k,v9.ownBlock=some k→W2.heap.size+1≤k:=fun k hk=>(World.ownsRow.lt hg3.own k hk).1
    have hq:=hg3.q1
    have hal:=hg3.wt.alloc (.cells #[.int .u8 ((ltr z).toNat:Int)] 5)
    have har:=hg3.rot.alloc (.cells #[.int .u8 ((ltr z).toNat:Int)] 5)
    refine ⟨hal.grown hgrow5 (fun k hk=>by have:=hlo k hk;omega),⟨(hgrow5.block q har.row.lt (fun e=>by have:=hlo q e.symm;omega)).trans har.row,har.ok,har.ins⟩,hq,hq2,?_,by have:=hgrow5.size;simp at this;omega⟩
    rw[HWT.out]
    unfold Kit.Owns
    rw[←v_cells_byte,List.length_append]
    exact hown5
   clear hg3 hown5 hgrow5
   go_roundw
   case rel=>exact ⟨k+1,v5,by omega,by go_num,rfl,HG4⟩
   case measure=>simp[intOf];omega
  ·obtain rfl:k=t.size:=by omega
   have hnlt:¬(t.size:Int)<(t.size:Int):=by omega
   have hown:=hg.own
   rw[Pl.size_len,List.take_length] at hown
   have hst:=Kit.run_string_of_own (P:=Tryz.prog) wr 87 9 5 Tryz.underlying87 Tryz.underlying5 Tryz.underlying9 hown
   have c0:=hg.wt.res.cell (i:=0) rfl
   have c1:=hg.wt.res.cell (i:=1) rfl
   have f0:=hg.wt.res.frozen 0
   have f1:=hg.wt.res.frozen 1
   have hwt:=hg.wt
   clear hown hg
   go_wp2
   have q:=Kit.read_two (.int .i64 0) (.int .i64 0) c0 c1
   exact bodyPost_ret (v:=.tuple #[.string ⟨(Om.wr M M.st t.data.toList).toArray⟩,.agg #[.int .i64 0,.int .i64 0]]) (by simp[results,Tryz.results79,go_sem,q.1,q.2]) rfl ⟨rfl,hwt.done _ _⟩
theorem write8_any (vm:Value) (g:Gm) (t:ByteArray) (w:World) (hm:MacAt w vm g):Calls Tryz.prog 79 #[vm,.string t] w fun e w'=>e=.returned (.tuple #[.string ⟨(rwS g t.data.toList).toArray⟩,.agg #[.int .i64 (rwE g t.data.toList),.int .i64 (rwAt g t.data.toList)]])∧Below w.heap.size w w':=by
 have HN:=fun W (hb:Below w.heap.size w W)=>new_any vm g W (hm.below hb)
 unfold rwS
 by_cases hg:gE g=0
 ·have HG:∀W,Below w.heap.size w W→Calls Tryz.prog 131 #[vm] W fun e w'=>∃q,e=.returned (.tuple #[.pointer (some ⟨q,0,none⟩),.int .i64 0])∧W.heap.size≤q∧RotAt w' q (maOf g) (maOf g).st∧Below W.heap.size W w':=fun W hb=>(HN W hb).mono (by
   rintro e w' (⟨h1,_⟩ | ⟨_,h2⟩)
   ·exact absurd hg h1
   ·exact h2)
  have e:rwE g t.data.toList=ckE t.data.toList:=by unfold rwE;rw[if_neg (fun h=>h hg)]
  have e':rwAt g t.data.toList=ckAt t.data.toList:=by unfold rwAt;rw[if_neg (fun h=>h hg)]
  rcases ck_cases t.data.toList with ⟨e1,e2,e3,e4⟩ | e1
  ·obtain ⟨hM,_⟩:=ok_maOf hg
   obtain ⟨a,b,c,rfl,_⟩:=hm
   rw[e,e',e1,e2,if_neg (by decide)]
   exact wt_ok _ hM a b c g.rf g.pl t (ls_of e4) (by rw[Pl.size_len];exact e3) w HG (fun W=>by have:=check_all t W;rw[e1,e2] at this;exact this)
  ·obtain ⟨a,b,c,rfl,_⟩:=hm
   rw[e,e',if_pos (by simpa using e1)]
   exact wt_text a b c g.rf g.pl t _ _ e1 w (fun W hb=>(HG W hb).mono (by rintro e w' ⟨q,h1,_,_,h2⟩;exact ⟨q,h1,h2⟩)) (fun W=>check_all t W)
 ·have e:rwE g t.data.toList=gE g:=by unfold rwE;rw[if_pos hg]
  have e':rwAt g t.data.toList=0:=by unfold rwAt;rw[if_pos hg]
  obtain ⟨a,b,c,rfl,_⟩:=hm
  rw[e,e',if_pos hg]
  exact wt_bad a b c g.rf g.pl t _ (by simpa using hg) w (fun W hb=>(HN W hb).mono (by
   rintro e w' (⟨_,h2⟩ | ⟨h1,_⟩)
   ·exact h2
   ·exact absurd h1 hg))
end Go.Proofs.YtkohhdkkbaifoaaGreatDoor
