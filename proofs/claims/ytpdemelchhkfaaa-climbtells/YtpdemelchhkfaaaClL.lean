/-
  Contract of the document's Up (chapter 15).
-/
import Derived.Test.YtpdemelchhkfaaaPz
import Derived.Test.YtpdemelchhkfaaaJn20
namespace Go.Proofs.Ytpdemelchhkfaaa
open Go.RowKit PK

theorem jrun_eq (f g:Nat→Int) (w:World):(Op.equalIn 10000 38 (.agg (ints 26 f)) (.agg (ints 26 g))).run Try.prog w=.ok (eqI 26 f g) w :=
 run_equalIn_ints w 9998 38 3 26 Try.underlying38 Try.underlying3 info_int f g
theorem Jm.nxt_ind {Q:Jm.K→Prop} (F:Jm.K→Int) (key:Jm.K) (h0:Q key):∀(l:List (Nat × Nat)),(∀p ∈ l,Q (Jm.sw key p.1 p.2))→Q (Jm.nxt F key l):=by
 intro l
 induction l using Jm.snoc_ind with
 | h0=>intro _;exact h0
 | h1 l p ih =>
  intro h
  rw[Jm.nxt_snoc]
  split
  ·exact h p (by simp)
  ·exact ih fun q hq=>h q (by simp[hq])
theorem nxt_lt {F:(Nat→Nat)→Int} {key:Nat→Nat} (hk:∀i,i<26→key i<26) {a b:Nat} (hb:b<26) (ha:a≤b):∀i,i<26→Jm.nxt F key (Jm.prs b a) i<26 :=
 Jm.nxt_ind (Q:=fun k=>∀i,i<26→k i<26) F key hk _ fun p hp=>by
  unfold Jm.prs at hp
  simp only[List.mem_append,List.mem_flatMap,List.mem_map,List.mem_range] at hp
  rcases hp with ⟨c,hc,d,hd,rfl⟩ | ⟨d,hd,rfl⟩
  ·exact Jm.sw_lt hk (by show d<26;omega) (by show c<26;omega)
  ·exact Jm.sw_lt hk (by show d<26;omega) hb
structure OfOk (w:World) (s:ByteArray) (ta:Option Addr) (tn tc:Nat) (F:(Nat→Nat)→Int):Prop where
 le:∀k:Nat→Nat,(∀i,i<26→k i<26)→-255000≤F k∧F k≤255000
 congr:∀k k':Nat→Nat,(∀i,i<26→k i=k' i)→F k=F k'
 call:∀(W:World) (k:Nat→Nat),Below w.heap.size w W→(∀i,i<26→k i<26)→Calls Try.prog 34 #[.string s,.slice ta tn tc,.agg (ints 26 (Pm.up k))] W fun e w'=>e=.returned (.int .i64 (F k))∧Below W.heap.size W w'
structure UpS (w W:World) (k:Nat→Nat):Prop where
 ky:RowAt W w.heap.size 38 (ints 26 (Pm.up k))
 rs:RowAt W (w.heap.size+1) 38 (ints 26 fun _=>0)
 be:Below w.heap.size w W
theorem UpS.step {w W W':World} {k:Nat→Nat} (h:UpS w W k) (hb:Below W.heap.size W W'):UpS w W' k:=⟨h.ky.below hb h.ky.lt,h.rs.below hb h.rs.lt,h.be.trans (hb.mono h.be.size)⟩
structure U2S (w W:World) (k:Nat→Nat) (q:Nat) (nx:Nat→Nat):Prop extends UpS w W k where
 nx:RowAt W q 38 (ints 26 (Pm.up nx))
 lo:w.heap.size+1<q
theorem U2S.step {w W W':World} {k:Nat→Nat} {q:Nat} {nx:Nat→Nat} (h:U2S w W k q nx) (hb:Below W.heap.size W W'):U2S w W' k q nx:=⟨h.toUpS.step hb,h.nx.below hb h.nx.lt,h.lo⟩
theorem U2S.put {w W:World} {k:Nat→Nat} {q:Nat} {nx:Nat→Nat} (h:U2S w W k q nx) (n2:Nat→Nat):U2S w (W.setRow q (ints 26 (Pm.up n2))) k q n2 :=
 ⟨⟨h.ky.rowOther _ _ (by have:=h.lo;omega),h.rs.rowOther _ _ (by have:=h.lo;omega),Below.setRow h.be _ (by have:=h.lo;omega) _⟩,h.nx.row _,h.lo⟩
theorem U2S.drew {w W:World} {k:Nat→Nat} {q:Nat} {nx:Nat→Nat} (h:U2S w W k q nx):U2S w W.drew k q nx:=⟨⟨h.ky.drew,h.rs.drew,h.be.drew⟩,h.nx.drew,h.lo⟩
def rdK (W:World) (b:Nat):Nat→Nat:=fun i=>match W.cell? ⟨b,i,none⟩ with | some (.int _ x)=>x.toNat | _=>0
theorem rdK_eq {W:World} {b:Nat} {T:TypeId} {k:Nat→Nat} (h:RowAt W b T (ints 26 (Pm.up k))) (i:Nat) (hi:i<26):rdK W b i=k i:=by
 unfold rdK
 rw[h.cell (ints_get _ hi)]
 rfl
set_option maxRecDepth 100000 in
set_option maxHeartbeats 8000000 in
theorem rup_any (s:ByteArray) (ta:Option Addr) (tn tc:Nat) (F:(Nat→Nat)→Int) (key:Nat→Nat) (hk:∀i,i<26→key i<26) (w:World) (hof:OfOk w s ta tn tc F):Calls Try.prog 39 #[.string s,.slice ta tn tc,.agg (ints 26 (Pm.up key))] w fun e w'=>∃k,Jm.Ups F key k∧e=.returned (.agg (ints 26 (Pm.up k)))∧Below w.heap.size w w':=by
 have HOF:=(show Hid _ from hof)
 have HK:=(show Hid (∀i,i<26→key i<26) from hk)
 clear hof hk
 have hr0:=RowAt.new w 38 (ints 26 (Pm.up key))
 have hb0:Below w.heap.size w (w.alloc (.cells (ints 26 (Pm.up key)) 38)):=(Below.refl _ w).alloc (Nat.le_refl _) _
 have hs0:(w.alloc (.cells (ints 26 (Pm.up key)) 38)).heap.size=w.heap.size+1:=by simp
 go_enter Try.func39,Try.ntmps39
 go_wp2_with fail
 rw[zero26]
 obtain ⟨V0,hV0⟩:∃V,V=w.alloc (.cells (ints 26 (Pm.up key)) 38):=⟨_,rfl⟩
 rw[←hV0] at hr0 hb0 hs0 ⊢
 clear hV0
 have hr1:=RowAt.new V0 38 (ints 26 fun _=>0)
 rw[hs0] at hr1
 have hst:UpS w (V0.alloc (.cells (ints 26 fun _=>0) 38)) key:=⟨hr0.alloc _,hr1,hb0.alloc (by omega) _⟩
 obtain ⟨V1,hV1⟩:∃V,V=V0.alloc (.cells (ints 26 fun _=>0) 38):=⟨_,rfl⟩
 rw[←hV1] at hst ⊢
 clear hV1 hr0 hb0 hs0 hr1
 go_loopw [8] (fun _ W=>∃k:Nat→Nat,(∀i,i<26→k i<26)∧(∀k',Jm.Ups F k k'→Jm.Ups F key k')∧UpS w W k) (fun _ W=>((255000:Int)-F (rdK W w.heap.size)).toNat)
 case atStart=>exact ⟨key,HK.out,fun _ h=>h,hst⟩
 case round =>
  clear hst HK
  obtain ⟨k,hk,hup,hst⟩:=hrel
  have HK:=(show Hid (∀i,i<26→k i<26) from hk)
  have HUP:=(show Hid _ from hup)
  have HM0:=(show Hid (F (rdK wr w.heap.size)=F k) from HOF.out.congr _ _ (rdK_eq hst.ky))
  have HFK:=(show Hid _ from HOF.out.le k hk)
  have hky:=hst.ky
  have hq0:=RowAt.new wr 38 (ints 26 fun _=>0)
  have hlo:=hst.rs.lt
  have h7:UpS w ((wr.alloc (.cells (ints 26 fun _=>0) 38)).setRow wr.heap.size (ints 26 (Pm.up k))) k:=hst.step (Below.setRow ((Below.refl _ wr).alloc (Nat.le_refl _) _) _ (Nat.le_refl _) _)
  have hst2:U2S w ((wr.alloc (.cells (ints 26 fun _=>0) 38)).setRow wr.heap.size (ints 26 (Pm.up k))) k wr.heap.size k:=⟨h7,hq0.row _,hlo⟩
  clear hst hk hup h7 hlo
  go_upto_region 2 with (first | refine wpList_load_row rfl 38 _ rfl (w.heap.size) rfl 38 (ints 26 (Pm.up k)) (0,0) _ hky Try.underlying38 rfl (by rw[ints_size];exact info_perm) ?_ | refine wpList_store_row rfl 38 _ _ rfl (wr.heap.size) (ints 26 (Pm.up k)) rfl rfl 38 _ hq0 (by rw[ints_size];exact info_perm) (by simp only[ints_size]) (ints_one _ _) ?_)
  try rw[zero26]
  obtain ⟨V2,hV2⟩:∃V,V=(wr.alloc (.cells (ints 26 fun _=>0) 38)).setRow wr.heap.size (ints 26 (Pm.up k)):=⟨_,rfl⟩
  rw[←hV2] at hst2 ⊢
  obtain ⟨q7,hq7⟩:∃q,q=wr.heap.size:=⟨_,rfl⟩
  rw[←hq7] at hst2 ⊢
  clear hV2 hky hq0 hq7
  go_wp2_with fail
  go_loopw [8] (fun x W=>∃b:Nat,1≤b∧b≤26∧x=.int .i64 (b:Nat)∧U2S w W k q7 (Jm.nxt F k (Jm.prs b 0))) (fun x _=>((26:Int)-intOf x).toNat)
  case atStart=>exact ⟨1,by omega,by omega,rfl,hst2⟩
  case round =>
   clear hst2
   obtain ⟨b,hb1,hb26,rfl,hst2⟩:=hrel
   by_cases hlt:b<26
   case neg =>
    obtain rfl:b=26:=by omega
    have HNX:=(show Hid _ from (Jm.bst_nxt F k (by have:=HFK.out;omega) (Jm.prs 26 0)))
    have HGO:=(show Hid ((Jm.bst F k (Jm.prs 26 0)).2 > F k→∀k',Jm.Ups F (Jm.bst F k (Jm.prs 26 0)).1 k'→Jm.Ups F k k') from fun h _ h2=>.go h h2)
    have HSTO:=(show Hid (¬(Jm.bst F k (Jm.prs 26 0)).2 > F k→Jm.Ups F k k) from fun h=>.stop h)
    have HBL:=(show Hid _ from bst_lt (F:=F) HK.out)
    have hmg:Try.prog.eqGuardType Try.prog.depth 38=false:=by kernel_rfl
    obtain ⟨nx,hnx⟩:∃nx,nx=Jm.nxt F k (Jm.prs 26 0):=⟨_,rfl⟩
    have HNN:=(show Hid (nx=Jm.nxt F k (Jm.prs 26 0)) from hnx)
    rw[←hnx] at hst2 HNX
    have hky:=hst2.ky
    have hnr:=hst2.nx
    have hrs:=hst2.rs
    have HST:=(show Hid _ from hst2)
    clear hst2 hnx hlt hb1 hb26
    by_cases hgt:(Jm.bst F k (Jm.prs 26 0)).2 > F k
    ·have HGT:=(show Hid _ from hgt)
     have HE:=(show Hid (nx=(Jm.bst F k (Jm.prs 26 0)).1) from HNX.out.1.trans (if_pos hgt))
     have HF:Hid (F nx > F k):=by
      have h1:=HNX.out.2.resolve_left (by have:=HFK.out;omega)
      rw[Hid,HE.out,←h1]
      exact hgt
     have hre:∀w,(Op.equalIn 10000 38 (.agg (ints 26 (Pm.up nx))) (.agg (ints 26 (Pm.up k)))).run Try.prog w=.ok false w:=fun w=>by
      rw[jrun_eq]
      congr 1
      cases hq:eqI 26 (Pm.up nx) (Pm.up k) with
      | false=>rfl
      | true =>
       have h1:=(eqI_iff 26 _ _).1 hq
       have h2:=HOF.out.congr nx k fun i hi=>by
        have:=h1 i hi
        unfold Pm.up at this
        omega
       have:=HF.out
       omega
     clear hgt hrs
     go_wp2_with (first | refine wpList_load_row rfl 38 _ rfl (q7) rfl 38 (ints 26 (Pm.up nx)) (0,0) _ hnr Try.underlying38 rfl (by rw[ints_size];exact info_perm) ?_ | refine wpList_load_row rfl 38 _ rfl (w.heap.size) rfl 38 (ints 26 (Pm.up k)) (0,0) _ hky Try.underlying38 rfl (by rw[ints_size];exact info_perm) ?_ | refine wpList_store_row rfl 38 _ _ rfl (w.heap.size) (ints 26 (Pm.up nx)) rfl rfl 38 _ hky (by rw[ints_size];exact info_perm) (by simp only[ints_size]) (ints_one _ _) ?_)
     go_roundw
     case rel=>exact ⟨nx,by rw[HE.out];exact HBL.out,fun k' h=>HUP.out k' (HGO.out HGT.out k' (by rw[←HE.out];exact h)),⟨hky.row _,HST.out.rs.rowOther _ _ (by omega),Below.setRow HST.out.be _ (Nat.le_refl _) _⟩⟩
     case measure =>
      have h1:=HOF.out.congr _ _ (rdK_eq (hky.row (ints 26 (Pm.up nx))))
      have h2:=HOF.out.le nx (by rw[HE.out];exact HBL.out)
      have h3:=HM0.out
      have h4:=HF.out
      rw[h1,h3]
      omega
    ·have HE:=(show Hid (nx=k) from HNX.out.1.trans (if_neg hgt))
     have HU:=(show Hid _ from HSTO.out hgt)
     have hre:∀w,(Op.equalIn 10000 38 (.agg (ints 26 (Pm.up nx))) (.agg (ints 26 (Pm.up k)))).run Try.prog w=.ok true w:=fun w=>by
      rw[jrun_eq,HE.out,eqI_refl]
     clear hgt
     go_wp2_with (first | refine wpList_load_row rfl 38 _ rfl (q7) rfl 38 (ints 26 (Pm.up nx)) (0,0) _ hnr Try.underlying38 rfl (by rw[ints_size];exact info_perm) ?_ | refine wpList_load_row rfl 38 _ rfl (w.heap.size) rfl 38 (ints 26 (Pm.up k)) (0,0) _ hky Try.underlying38 rfl (by rw[ints_size];exact info_perm) ?_ | refine wpList_store_row rfl 38 _ _ rfl (w.heap.size+1) (ints 26 (Pm.up k)) rfl rfl 38 _ hrs (by rw[ints_size];exact info_perm) (by simp only[ints_size]) (ints_one _ _) ?_)
     exact bodyPost_ret (v:=.agg (ints 26 (Pm.up k))) (results_cell_row rfl _ _ (w.heap.size+1) 38 _ (0,0) _ rfl (hrs.row _) Try.underlying38 rfl (by rw[ints_size];exact info_perm)) rfl ⟨k,HUP.out k HU.out,rfl,Below.setRow HST.out.be _ (by omega) _⟩
   have HLB:Hid (1≤b∧b<26):=⟨hb1,hlt⟩
   have hlt2:(b:Int)<26:=by omega
   clear hb1 hb26
   obtain ⟨n0,hn0⟩:∃n0,n0=Jm.nxt F k (Jm.prs b 0):=⟨_,rfl⟩
   have HN0:=(show Hid (n0=Jm.nxt F k (Jm.prs b 0)) from hn0)
   rw[←hn0] at hst2
   have HST0:=(show Hid _ from hst2)
   clear hst2 hn0
   go_wp2_with fail
   go_loopw [9] (fun x W=>∃a:Nat,a≤b∧x=.int .i64 (a:Nat)∧U2S w W k q7 (Jm.nxt F k (Jm.prs b a))) (fun x _=>((b:Int)-intOf x).toNat)
   case atStart=>exact ⟨0,by omega,rfl,by rw[←HN0.out];exact HST0.out⟩
   case round =>
    clear HST0 HN0
    obtain ⟨a,hab,rfl,hst2⟩:=hrel
    by_cases hla:a<b
    case neg =>
     obtain rfl:a=b:=by omega
     have HST:=(show Hid _ from hst2)
     rw[←Jm.prs_row] at HST
     clear hst2 hla hab
     go_wp2_with fail
     go_roundw
     case rel=>exact ⟨a+1,by omega,HLB.out.2,by go_num,HST.out⟩
     case measure=>have:=HLB.out;simp[intOf];omega
    have HLA:Hid (a<b):=hla
    have ha26:a<26:=by omega
    have HSL:=(show Hid _ from Jm.sw_lt HK.out ha26 HLB.out.2)
    have HNL:=(show Hid _ from nxt_lt (F:=F) HK.out HLB.out.2 hab)
    have HNS:=(show Hid _ from Jm.nxt_snoc F k (Jm.prs b a) a b)
    rw[←Jm.prs_next] at HNS
    obtain ⟨nx,hnx⟩:∃nx,nx=Jm.nxt F k (Jm.prs b a):=⟨_,rfl⟩
    rw[←hnx] at hst2 HNL HNS
    have HST:=(show Hid _ from hst2)
    have hky:=hst2.ky
    clear hst2 hnx hab
    go_wp2_with (first | refine wpList_load_row rfl 38 _ rfl (w.heap.size) rfl 38 (ints 26 (Pm.up k)) (0,0) _ hky Try.underlying38 rfl (by rw[ints_size];exact info_perm) ?_)
    refine (rswap_any k a b ha26 HLB.out.2 (by omega) wr).mono ?_
    rintro e W5 ⟨rfl,hb5⟩
    have hst5:=HST.out.step hb5
    have hq0:=RowAt.new W5 38 (ints 26 fun _=>0)
    have hst6:=hst5.step (W':=(W5.alloc (.cells (ints 26 fun _=>0) 38)).setRow W5.heap.size (ints 26 (Pm.up (Jm.sw k a b)))) (Below.setRow ((Below.refl _ W5).alloc (Nat.le_refl _) _) _ (Nat.le_refl _) _)
    have hq6:=hq0.row (ints 26 (Pm.up (Jm.sw k a b)))
    have hq7l:=hst5.nx.lt
    clear hky HST hb5 hst5
    go_upto_region 9 with (first | refine wpList_store_row rfl 38 _ _ rfl (W5.heap.size) (ints 26 (Pm.up (Jm.sw k a b))) rfl rfl 38 _ hq0 (by rw[ints_size];exact info_perm) (by simp only[ints_size]) (ints_one _ _) ?_)
    try rw[zero26]
    obtain ⟨V6,hV6⟩:∃V,V=(W5.alloc (.cells (ints 26 fun _=>0) 38)).setRow W5.heap.size (ints 26 (Pm.up (Jm.sw k a b))):=⟨_,rfl⟩
    rw[←hV6] at hst6 hq6 ⊢
    obtain ⟨q10,hq10⟩:∃q,q=W5.heap.size:=⟨_,rfl⟩
    rw[←hq10] at hq6 hq7l ⊢
    clear hV6 hq0 hq10
    refine wp_region_noPanic ?_
    refine wp_region_held_drew (S:=fun W=>U2S w W k q7 nx∧RowAt W q10 38 (ints 26 (Pm.up (Jm.sw k a b)))) (by kernel_rfl) ⟨hst6.drew,hq6⟩ (fun hS=>?_)
    obtain ⟨Z,hZ⟩:∃x,x=V6.drew:=⟨_,rfl⟩
    rw[←hZ] at hS ⊢
    clear hZ hst6 hq6
    refine vtk 0 25 (.string s) rfl (fun W hW=>by clear hS hW;go_simp) hS ?_
    simp only[zsA,zsB,zsC]
    refine vtk 1 26 (.slice ta tn tc) rfl (fun W hW=>by clear hS hW;go_simp) hS ?_
    simp only[zsA,zsB,zsC]
    refine vtk 2 27 (.agg (ints 26 (Pm.up (Jm.sw k a b)))) rfl (fun W hW=>by have u:=run_loadAt_mid (P:=Try.prog) W (q10) 0 38 (ints 26 (Pm.up (Jm.sw k a b))).toList _ (RowAt.range hW.2) Try.underlying38 rfl (by rw[Array.length_toList,ints_size];exact info_perm);clear hS hW;simp[execOp,Act.eval,u]) hS ?_
    simp only[zsA,zsB,zsC]
    refine vtk 4 29 (.string s) rfl (fun W hW=>by clear hS hW;go_simp) hS ?_
    simp only[zsA,zsB,zsC]
    refine vtk 5 30 (.slice ta tn tc) rfl (fun W hW=>by clear hS hW;go_simp) hS ?_
    simp only[zsA,zsB,zsC]
    refine vtk 6 31 (.agg (ints 26 (Pm.up (nx)))) rfl (fun W hW=>by have u:=run_loadAt_mid (P:=Try.prog) W (q7) 0 38 (ints 26 (Pm.up (nx))).toList _ (RowAt.range hW.1.nx) Try.underlying38 rfl (by rw[Array.length_toList,ints_size];exact info_perm);clear hS hW;simp[execOp,Act.eval,u]) hS ?_
    simp only[zsA,zsB,zsC]
    refine rd1 3 rfl (fun K hK=>?_)
    go_simp
    refine Calls.mono (HOF.out.call _ (Jm.sw k a b) hS.1.be HSL.out) ?_
    rintro e Y ⟨rfl,hbY⟩
    refine hK.out _ _ ⟨hS.1.step hbY,RowAt.below hS.2 hbY (RowAt.lt hS.2)⟩ (fun hS1=>?_)
    clear hK hS K hbY
    have hS:=hS1
    clear hS1
    refine rd1 7 rfl (fun K hK=>?_)
    go_simp
    refine Calls.mono (HOF.out.call _ (nx) hS.1.be HNL.out) ?_
    rintro e Y ⟨rfl,hbY⟩
    refine hK.out _ _ ⟨hS.1.step hbY,RowAt.below hS.2 hbY (RowAt.lt hS.2)⟩ (fun hS1=>?_)
    clear hK hS K hbY
    have hS:=hS1
    clear hS1
    obtain ⟨z1,hz1⟩:∃z,z=F (Jm.sw k a b):=⟨_,rfl⟩
    obtain ⟨z2,hz2⟩:∃z,z=F nx:=⟨_,rfl⟩
    rw[←hz1,←hz2] at HNS ⊢
    clear hz1 hz2
    by_cases hgt:z1 > z2
    ·have hgt2:z2<z1:=hgt
     have HE:=(show Hid _ from HNS.out.trans (if_pos hgt))
     clear HNS hgt
     refine vtk 8 33 (.bool true) rfl (fun W hW=>by clear hS hW;go_simp) hS ?_
     simp only[zsA,zsB,zsC]
     refine wpAnyH_done (by kernel_rfl) ?_ _
     refine NoPanic.normal ?_
     have hq10r:=hS.2
     have hnr:=hS.1.nx
     have HPUT:=(show Hid _ from hS.1.put (Jm.sw k a b))
     clear hS
     go_wp2_with (first | refine wpList_load_row rfl 38 _ rfl (q10) rfl 38 (ints 26 (Pm.up (Jm.sw k a b))) (0,0) _ hq10r Try.underlying38 rfl (by rw[ints_size];exact info_perm) ?_ | refine wpList_store_row rfl 38 _ _ rfl (q7) (ints 26 (Pm.up (Jm.sw k a b))) rfl rfl 38 _ hnr (by rw[ints_size];exact info_perm) (by simp only[ints_size]) (ints_one _ _) ?_)
     go_roundw
     case rel=>exact ⟨a+1,HLA.out,by go_num,by rw[HE.out];exact HPUT.out⟩
     case measure=>have:=HLA.out;simp[intOf];omega
    ·have hgt2:¬z2<z1:=hgt
     have HE:=(show Hid _ from HNS.out.trans (if_neg hgt))
     clear HNS hgt
     refine vtk 8 33 (.bool false) rfl (fun W hW=>by have u:=Int.not_lt.1 hgt2;clear hS hW;go_simp) hS ?_
     simp only[zsA,zsB,zsC]
     refine wpAnyH_done (by kernel_rfl) ?_ _
     refine NoPanic.normal ?_
     have HST:=(show Hid _ from hS.1)
     clear hS
     go_wp2_with fail
     go_roundw
     case rel=>exact ⟨a+1,HLA.out,by go_num,by rw[HE.out];exact HST.out⟩
     case measure=>have:=HLA.out;simp[intOf];omega
end Go.Proofs.Ytpdemelchhkfaaa
