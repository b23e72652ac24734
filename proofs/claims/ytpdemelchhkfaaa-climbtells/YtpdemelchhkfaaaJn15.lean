import Derived.Deep.Upon
import Derived.Test.YtpdemelchhkfaaaJn14
namespace Go.Proofs.Ytpdemelchhkfaaa
section
open Go.RowKit PK
theorem uo (f g:Nat→Int) (w:World):(Op.equalIn 10000 38 (.agg (ints 26 f)) (.agg (ints 26 g))).run Try.prog w=.ok (eqI 26 f g) w :=
 fQ w 9998 38 3 26 Try.underlying38 Try.underlying3 fS f g
theorem Jm.zT {Q:Jm.K→Prop} (F:Jm.K→Int) (key:Jm.K) (h0:Q key):∀(l:List (Nat × Nat)),(∀p ∈ l,Q (Jm.sw key p.1 p.2))→Q (Jm.nxt F key l):=by
 intro l
 induction l using Jm.mE with
 | h0=>intro _;exact h0
 | h1 l p ih =>
  intro h
  rw[Jm.lJ]
  split
  ·exact h p (by simp)
  ·exact ih fun q hq=>h q (by simp[hq])
theorem BG {F:(Nat→Nat)→Int} {key:Nat→Nat} (hk:∀i,i<26→key i<26) {a b:Nat} (hb:b<26) (ha:a≤b):∀i,i<26→Jm.nxt F key (Jm.prs b a) i<26 :=
 Jm.zT (Q:=fun k=>∀i,i<26→k i<26) F key hk _ fun p hp=>by
  unfold Jm.prs at hp
  simp only[List.mem_append,List.mem_flatMap,List.mem_map,List.mem_range] at hp
  rcases hp with ⟨c,hc,d,hd,rfl⟩ | ⟨d,hd,rfl⟩
  ·exact Jm.kN hk (by show d<26;omega) (by show c<26;omega)
  ·exact Jm.kN hk (by show d<26;omega) hb
structure zR (w:World) (s:ByteArray) (ta:Option Addr) (tn tc:Nat) (F:(Nat→Nat)→Int):Prop where
 le:∀k:Nat→Nat,(∀i,i<26→k i<26)→-255000≤F k∧F k≤255000
 congr:∀k k':Nat→Nat,(∀i,i<26→k i=k' i)→F k=F k'
 call:∀(W:World) (k:Nat→Nat),Below w.heap.size w W→(∀i,i<26→k i<26)→Calls Try.prog 34 #[.string s,.slice ta tn tc,.agg (ints 26 (Pm.up k))] W fun e w'=>e=.returned (.int .i64 (F k))∧Below W.heap.size W w'
structure UpS (w W:World) (k:Nat→Nat):Prop where
 ky:ai W w.heap.size 38 (ints 26 (Pm.up k))
 rs:ai W (w.heap.size+1) 38 (ints 26 fun _=>0)
 be:Below w.heap.size w W
theorem UpS.step {w W W':World} {k:Nat→Nat} (h:UpS w W k) (hb:Below W.heap.size W W'):UpS w W' k:=⟨h.ky.below hb h.ky.lt,h.rs.below hb h.rs.lt,h.be.trans (hb.mono h.be.size)⟩
structure U2S (w W:World) (k:Nat→Nat) (q:Nat) (nx:Nat→Nat):Prop extends UpS w W k where
 nx:ai W q 38 (ints 26 (Pm.up nx))
 lo:w.heap.size+1<q
theorem U2S.step {w W W':World} {k:Nat→Nat} {q:Nat} {nx:Nat→Nat} (h:U2S w W k q nx) (hb:Below W.heap.size W W'):U2S w W' k q nx:=⟨h.toUpS.step hb,h.nx.below hb h.nx.lt,h.lo⟩
theorem U2S.put {w W:World} {k:Nat→Nat} {q:Nat} {nx:Nat→Nat} (h:U2S w W k q nx) (n2:Nat→Nat):U2S w (W.setRow q (ints 26 (Pm.up n2))) k q n2 :=
 ⟨⟨h.ky.bI _ _ (by have:=h.lo;omega),h.rs.bI _ _ (by have:=h.lo;omega),Below.setRow h.be _ (by have:=h.lo;omega) _⟩,h.nx.row _,h.lo⟩
theorem U2S.drew {w W:World} {k:Nat→Nat} {q:Nat} {nx:Nat→Nat} (h:U2S w W k q nx):U2S w W.drew k q nx:=⟨⟨h.ky.drew,h.rs.drew,h.be.drew⟩,h.nx.drew,h.lo⟩
def rdK (W:World) (b:Nat):Nat→Nat:=fun i=>match W.cell? ⟨b,i,none⟩ with | some (.int _ x)=>x.toNat | _=>0
theorem yx {W:World} {b:Nat} {T:TypeId} {k:Nat→Nat} (h:ai W b T (ints 26 (Pm.up k))) (i:Nat) (hi:i<26):rdK W b i=k i:=by
 unfold rdK
 rw[h.cell (aG _ hi)]
 rfl
set_option maxRecDepth 100000 in
set_option maxHeartbeats 8000000 in
theorem zB (s:ByteArray) (ta:Option Addr) (tn tc:Nat) (F:(Nat→Nat)→Int) (key:Nat→Nat) (hk:∀i,i<26→key i<26) (w:World) (hof:zR w s ta tn tc F):Calls Try.prog 39 #[.string s,.slice ta tn tc,.agg (ints 26 (Pm.up key))] w fun e w'=>∃k,Jm.Ups F key k∧e=.returned (.agg (ints 26 (Pm.up k)))∧Below w.heap.size w w':=by
 have HOF:=(show Hid _ from hof)
 have HK:=(show Hid (∀i,i<26→key i<26) from hk)
 clear hof hk
 have hr0:=ai.new w 38 (ints 26 (Pm.up key))
 have hb0:Below w.heap.size w (w.alloc (.cells (ints 26 (Pm.up key)) 38)):=(Below.refl _ w).alloc (Nat.le_refl _) _
 have hs0:(w.alloc (.cells (ints 26 (Pm.up key)) 38)).heap.size=w.heap.size+1:=by simp
 go_enter Try.func39,Try.ntmps39
 go_wp2_with fail
 rw[dh]
 obtain ⟨V0,hV0⟩:∃V,V=w.alloc (.cells (ints 26 (Pm.up key)) 38):=⟨_,rfl⟩
 rw[←hV0] at hr0 hb0 hs0 ⊢
 clear hV0
 have hr1:=ai.new V0 38 (ints 26 fun _=>0)
 rw[hs0] at hr1
 have hst:UpS w (V0.alloc (.cells (ints 26 fun _=>0) 38)) key:=⟨hr0.alloc _,hr1,hb0.alloc (by omega) _⟩
 obtain ⟨V1,hV1⟩:∃V,V=V0.alloc (.cells (ints 26 fun _=>0) 38):=⟨_,rfl⟩
 rw[←hV1] at hst ⊢
 clear hV1 hr0 hb0 hs0 hr1
 go_loopw [8] (fun _ W=>∃k:Nat→Nat,(∀i,i<26→k i<26)∧(∀k',Jm.Ups F k k'→Jm.Ups F key k')∧UpS w W k) (fun _ W=>((255000:Int)-F (rdK W w.heap.size)).toNat)
 case atStart=>exact ⟨key,HK.out,fun _ h=>h,hst⟩
 case round =>
  clear hst HK
  obtain ⟨k,hk,hup,hst⟩:=hrel
  have HK:=(show Hid (∀i,i<26→k i<26) from hk)
  have HUP:=(show Hid _ from hup)
  have HM0:=(show Hid (F (rdK wr w.heap.size)=F k) from HOF.out.congr _ _ (yx hst.ky))
  have HFK:=(show Hid _ from HOF.out.le k hk)
  have hky:=hst.ky
  have hq0:=ai.new wr 38 (ints 26 fun _=>0)
  have hlo:=hst.rs.lt
  have h7:UpS w ((wr.alloc (.cells (ints 26 fun _=>0) 38)).setRow wr.heap.size (ints 26 (Pm.up k))) k:=hst.step (Below.setRow ((Below.refl _ wr).alloc (Nat.le_refl _) _) _ (Nat.le_refl _) _)
  have hst2:U2S w ((wr.alloc (.cells (ints 26 fun _=>0) 38)).setRow wr.heap.size (ints 26 (Pm.up k))) k wr.heap.size k:=⟨h7,hq0.row _,hlo⟩
  clear hst hk hup h7 hlo
  go_upto_region 2 with (first | refine wpList_load_row rfl 38 _ rfl (w.heap.size) rfl 38 (ints 26 (Pm.up k)) (0,0) _ hky Try.underlying38 rfl (by rw[af];exact an) ?_ | refine wpList_store_row rfl 38 _ _ rfl (wr.heap.size) (ints 26 (Pm.up k)) rfl rfl 38 _ hq0 (by rw[af];exact an) (by simp only[af]) (aH _ _) ?_)
  try rw[dh]
  obtain ⟨V2,hV2⟩:∃V,V=(wr.alloc (.cells (ints 26 fun _=>0) 38)).setRow wr.heap.size (ints 26 (Pm.up k)):=⟨_,rfl⟩
  rw[←hV2] at hst2 ⊢
  obtain ⟨q7,hq7⟩:∃q,q=wr.heap.size:=⟨_,rfl⟩
  rw[←hq7] at hst2 ⊢
  clear hV2 hky hq0 hq7
  go_wp2_with fail
  go_loopw [8] (fun x W=>∃b:Nat,1≤b∧b≤26∧x=.int .i64 (b:Nat)∧U2S w W k q7 (Jm.nxt F k (Jm.prs b 0))) (fun x _=>((26:Int)-intOf x).toNat)
  case atStart=>exact ⟨1,by omega,by omega,rfl,hst2⟩
  case round =>
   clear hst2
   obtain ⟨b,hb1,hb26,rfl,hst2⟩:=hrel
   by_cases hlt:b<26
   case neg =>
    obtain rfl:b=26:=by omega
    have HNX:=(show Hid _ from (Jm.uq F k (by have:=HFK.out;omega) (Jm.prs 26 0)))
    have HGO:=(show Hid ((Jm.bst F k (Jm.prs 26 0)).2 > F k→∀k',Jm.Ups F (Jm.bst F k (Jm.prs 26 0)).1 k'→Jm.Ups F k k') from fun h _ h2=>.go h h2)
    have HSTO:=(show Hid (¬(Jm.bst F k (Jm.prs 26 0)).2 > F k→Jm.Ups F k k) from fun h=>.stop h)
    have HBL:=(show Hid _ from yB (F:=F) HK.out)
    have hmg:Try.prog.eqGuardType Try.prog.depth 38=false:=by kernel_rfl
    obtain ⟨nx,hnx⟩:∃nx,nx=Jm.nxt F k (Jm.prs 26 0):=⟨_,rfl⟩
    have HNN:=(show Hid (nx=Jm.nxt F k (Jm.prs 26 0)) from hnx)
    rw[←hnx] at hst2 HNX
    have hky:=hst2.ky
    have hnr:=hst2.nx
    have hrs:=hst2.rs
    have HST:=(show Hid _ from hst2)
    clear hst2 hnx hlt hb1 hb26
    by_cases hgt:(Jm.bst F k (Jm.prs 26 0)).2 > F k
    ·have HGT:=(show Hid _ from hgt)
     have HE:=(show Hid (nx=(Jm.bst F k (Jm.prs 26 0)).1) from HNX.out.1.trans (if_pos hgt))
     have HF:Hid (F nx > F k):=by
      have h1:=HNX.out.2.resolve_left (by have:=HFK.out;omega)
      rw[Hid,HE.out,←h1]
      exact hgt
     have hre:∀w,(Op.equalIn 10000 38 (.agg (ints 26 (Pm.up nx))) (.agg (ints 26 (Pm.up k)))).run Try.prog w=.ok false w:=fun w=>by
      rw[uo]
      congr 1
      cases hq:eqI 26 (Pm.up nx) (Pm.up k) with
      | false=>rfl
      | true =>
       have h1:=(s8 26 _ _).1 hq
       have h2:=HOF.out.congr nx k fun i hi=>by
        have:=h1 i hi
        unfold Pm.up at this
        omega
       have:=HF.out
       omega
     clear hgt hrs
     go_wp2_with (first | refine wpList_load_row rfl 38 _ rfl (q7) rfl 38 (ints 26 (Pm.up nx)) (0,0) _ hnr Try.underlying38 rfl (by rw[af];exact an) ?_ | refine wpList_load_row rfl 38 _ rfl (w.heap.size) rfl 38 (ints 26 (Pm.up k)) (0,0) _ hky Try.underlying38 rfl (by rw[af];exact an) ?_ | refine wpList_store_row rfl 38 _ _ rfl (w.heap.size) (ints 26 (Pm.up nx)) rfl rfl 38 _ hky (by rw[af];exact an) (by simp only[af]) (aH _ _) ?_)
     go_roundw
     case rel=>exact ⟨nx,by rw[HE.out];exact HBL.out,fun k' h=>HUP.out k' (HGO.out HGT.out k' (by rw[←HE.out];exact h)),⟨hky.row _,HST.out.rs.bI _ _ (by omega),Below.setRow HST.out.be _ (Nat.le_refl _) _⟩⟩
     case measure =>
      have h1:=HOF.out.congr _ _ (yx (hky.row (ints 26 (Pm.up nx))))
      have h2:=HOF.out.le nx (by rw[HE.out];exact HBL.out)
      have h3:=HM0.out
      have h4:=HF.out
      rw[h1,h3]
      omega
    ·have HE:=(show Hid (nx=k) from HNX.out.1.trans (if_neg hgt))
     have HU:=(show Hid _ from HSTO.out hgt)
     have hre:∀w,(Op.equalIn 10000 38 (.agg (ints 26 (Pm.up nx))) (.agg (ints 26 (Pm.up k)))).run Try.prog w=.ok true w:=fun w=>by
      rw[uo,HE.out,pZ]
     clear hgt
     go_wp2_with (first | refine wpList_load_row rfl 38 _ rfl (q7) rfl 38 (ints 26 (Pm.up nx)) (0,0) _ hnr Try.underlying38 rfl (by rw[af];exact an) ?_ | refine wpList_load_row rfl 38 _ rfl (w.heap.size) rfl 38 (ints 26 (Pm.up k)) (0,0) _ hky Try.underlying38 rfl (by rw[af];exact an) ?_ | refine wpList_store_row rfl 38 _ _ rfl (w.heap.size+1) (ints 26 (Pm.up k)) rfl rfl 38 _ hrs (by rw[af];exact an) (by simp only[af]) (aH _ _) ?_)
     exact bodyPost_ret (v:=.agg (ints 26 (Pm.up k))) (results_cell_row rfl _ _ (w.heap.size+1) 38 _ (0,0) _ rfl (hrs.row _) Try.underlying38 rfl (by rw[af];exact an)) rfl ⟨k,HUP.out k HU.out,rfl,Below.setRow HST.out.be _ (by omega) _⟩
   have HLB:Hid (1≤b∧b<26):=⟨hb1,hlt⟩
   have hlt2:(b:Int)<26:=by omega
   clear hb1 hb26
   obtain ⟨n0,hn0⟩:∃n0,n0=Jm.nxt F k (Jm.prs b 0):=⟨_,rfl⟩
   have HN0:=(show Hid (n0=Jm.nxt F k (Jm.prs b 0)) from hn0)
   rw[←hn0] at hst2
   have HST0:=(show Hid _ from hst2)
   clear hst2 hn0
   go_wp2_with fail
   go_loopw [9] (fun x W=>∃a:Nat,a≤b∧x=.int .i64 (a:Nat)∧U2S w W k q7 (Jm.nxt F k (Jm.prs b a))) (fun x _=>((b:Int)-intOf x).toNat)
   case atStart=>exact ⟨0,by omega,rfl,by rw[←HN0.out];exact HST0.out⟩
   case round =>
    clear HST0 HN0
    obtain ⟨a,hab,rfl,hst2⟩:=hrel
    by_cases hla:a<b
    case neg =>
     obtain rfl:a=b:=by omega
     have HST:=(show Hid _ from hst2)
     rw[←Jm.tN] at HST
     clear hst2 hla hab
     go_wp2_with fail
     go_roundw
     case rel=>exact ⟨a+1,by omega,HLB.out.2,by go_num,HST.out⟩
     case measure=>have:=HLB.out;simp[intOf];omega
    have HLA:Hid (a<b):=hla
    have ha26:a<26:=by omega
    have HSL:=(show Hid _ from Jm.kN HK.out ha26 HLB.out.2)
    have HNL:=(show Hid _ from BG (F:=F) HK.out HLB.out.2 hab)
    have HNS:=(show Hid _ from Jm.lJ F k (Jm.prs b a) a b)
    rw[←Jm.pL] at HNS
    obtain ⟨nx,hnx⟩:∃nx,nx=Jm.nxt F k (Jm.prs b a):=⟨_,rfl⟩
    rw[←hnx] at hst2 HNL HNS
    have HST:=(show Hid _ from hst2)
    have hky:=hst2.ky
    clear hst2 hnx hab
    go_wp2_with (first | refine wpList_load_row rfl 38 _ rfl (w.heap.size) rfl 38 (ints 26 (Pm.up k)) (0,0) _ hky Try.underlying38 rfl (by rw[af];exact an) ?_)
    refine (vX k a b ha26 HLB.out.2 (by omega) wr).mono ?_
    rintro e W5 ⟨rfl,hb5⟩
    have hst5:=HST.out.step hb5
    have hq0:=ai.new W5 38 (ints 26 fun _=>0)
    have hst6:=hst5.step (W':=(W5.alloc (.cells (ints 26 fun _=>0) 38)).setRow W5.heap.size (ints 26 (Pm.up (Jm.sw k a b)))) (Below.setRow ((Below.refl _ W5).alloc (Nat.le_refl _) _) _ (Nat.le_refl _) _)
    have hq6:=hq0.row (ints 26 (Pm.up (Jm.sw k a b)))
    have hq7l:=hst5.nx.lt
    clear hky HST hb5 hst5
    go_upto_region 9 with (first | refine wpList_store_row rfl 38 _ _ rfl (W5.heap.size) (ints 26 (Pm.up (Jm.sw k a b))) rfl rfl 38 _ hq0 (by rw[af];exact an) (by simp only[af]) (aH _ _) ?_)
    try rw[dh]
    obtain ⟨V6,hV6⟩:∃V,V=(W5.alloc (.cells (ints 26 fun _=>0) 38)).setRow W5.heap.size (ints 26 (Pm.up (Jm.sw k a b))):=⟨_,rfl⟩
    rw[←hV6] at hst6 hq6 ⊢
    obtain ⟨q10,hq10⟩:∃q,q=W5.heap.size:=⟨_,rfl⟩
    rw[←hq10] at hq6 hq7l ⊢
    clear hV6 hq0 hq10
    refine wp_region_noPanic ?_
    refine wp_region_held_drew (S:=fun W=>U2S w W k q7 nx∧ai W q10 38 (ints 26 (Pm.up (Jm.sw k a b)))) (by kernel_rfl) ⟨hst6.drew,hq6⟩ (fun hS=>?_)
    obtain ⟨Z,hZ⟩:∃x,x=V6.drew:=⟨_,rfl⟩
    rw[←hZ] at hS ⊢
    clear hZ hst6 hq6
    refine vtk 0 25 (.string s) rfl (fun W hW=>by clear hS hW;go_simp) hS ?_
    simp only[zsA,zsB,zsC]
    refine vtk 1 26 (.slice ta tn tc) rfl (fun W hW=>by clear hS hW;go_simp) hS ?_
    simp only[zsA,zsB,zsC]
    refine vtk 2 27 (.agg (ints 26 (Pm.up (Jm.sw k a b)))) rfl (fun W hW=>by have u:=run_loadAt_mid (P:=Try.prog) W (q10) 0 38 (ints 26 (Pm.up (Jm.sw k a b))).toList _ (ai.range hW.2) Try.underlying38 rfl (by rw[Array.length_toList,af];exact an);clear hS hW;simp[execOp,Act.eval,u]) hS ?_
    simp only[zsA,zsB,zsC]
    refine vtk 4 29 (.string s) rfl (fun W hW=>by clear hS hW;go_simp) hS ?_
    simp only[zsA,zsB,zsC]
    refine vtk 5 30 (.slice ta tn tc) rfl (fun W hW=>by clear hS hW;go_simp) hS ?_
    simp only[zsA,zsB,zsC]
    refine vtk 6 31 (.agg (ints 26 (Pm.up (nx)))) rfl (fun W hW=>by have u:=run_loadAt_mid (P:=Try.prog) W (q7) 0 38 (ints 26 (Pm.up (nx))).toList _ (ai.range hW.1.nx) Try.underlying38 rfl (by rw[Array.length_toList,af];exact an);clear hS hW;simp[execOp,Act.eval,u]) hS ?_
    simp only[zsA,zsB,zsC]
    refine rd1 3 rfl (fun K hK=>?_)
    go_simp
    refine Calls.mono (HOF.out.call _ (Jm.sw k a b) hS.1.be HSL.out) ?_
    rintro e Y ⟨rfl,hbY⟩
    refine hK.out _ _ ⟨hS.1.step hbY,ai.below hS.2 hbY (ai.lt hS.2)⟩ (fun hS1=>?_)
    clear hK hS K hbY
    have hS:=hS1
    clear hS1
    refine rd1 7 rfl (fun K hK=>?_)
    go_simp
    refine Calls.mono (HOF.out.call _ (nx) hS.1.be HNL.out) ?_
    rintro e Y ⟨rfl,hbY⟩
    refine hK.out _ _ ⟨hS.1.step hbY,ai.below hS.2 hbY (ai.lt hS.2)⟩ (fun hS1=>?_)
    clear hK hS K hbY
    have hS:=hS1
    clear hS1
    obtain ⟨z1,hz1⟩:∃z,z=F (Jm.sw k a b):=⟨_,rfl⟩
    obtain ⟨z2,hz2⟩:∃z,z=F nx:=⟨_,rfl⟩
    rw[←hz1,←hz2] at HNS ⊢
    clear hz1 hz2
    by_cases hgt:z1 > z2
    ·have hgt2:z2<z1:=hgt
     have HE:=(show Hid _ from HNS.out.trans (if_pos hgt))
     clear HNS hgt
     refine vtk 8 33 (.bool true) rfl (fun W hW=>by clear hS hW;go_simp) hS ?_
     simp only[zsA,zsB,zsC]
     refine wpAnyH_done (by kernel_rfl) ?_ _
     refine NoPanic.normal ?_
     have hq10r:=hS.2
     have hnr:=hS.1.nx
     have HPUT:=(show Hid _ from hS.1.put (Jm.sw k a b))
     clear hS
     go_wp2_with (first | refine wpList_load_row rfl 38 _ rfl (q10) rfl 38 (ints 26 (Pm.up (Jm.sw k a b))) (0,0) _ hq10r Try.underlying38 rfl (by rw[af];exact an) ?_ | refine wpList_store_row rfl 38 _ _ rfl (q7) (ints 26 (Pm.up (Jm.sw k a b))) rfl rfl 38 _ hnr (by rw[af];exact an) (by simp only[af]) (aH _ _) ?_)
     go_roundw
     case rel=>exact ⟨a+1,HLA.out,by go_num,by rw[HE.out];exact HPUT.out⟩
     case measure=>have:=HLA.out;simp[intOf];omega
    ·have hgt2:¬z2<z1:=hgt
     have HE:=(show Hid _ from HNS.out.trans (if_neg hgt))
     clear HNS hgt
     refine vtk 8 33 (.bool false) rfl (fun W hW=>by have u:=Int.not_lt.1 hgt2;clear hS hW;go_simp) hS ?_
     simp only[zsA,zsB,zsC]
     refine wpAnyH_done (by kernel_rfl) ?_ _
     refine NoPanic.normal ?_
     have HST:=(show Hid _ from hS.1)
     clear hS
     go_wp2_with fail
     go_roundw
     case rel=>exact ⟨a+1,HLA.out,by go_num,by rw[HE.out];exact HST.out⟩
     case measure=>have:=HLA.out;simp[intOf];omega
end
section
open Go.RowKit PK
section
variable {P:Program} {md:Region.Mode} {ops:Array Oper} {Q:Exit→Act→World→Prop} {S:World→Prop}
theorem sD {fuel:Nat} {listed:Array Bool} {a:Act} {w:World} (i:Nat) (o:Oper) (hr:Region.ready md ops listed=[i]) (ho:ops[i]? = some o) (hw:Region.wanted o (yielded ops a.tmps)=true)
  (ty:TypeId) (x y:Operand) (hop:o.op=.store ty x y) (g:Nat) (cells:Array Value) (hx:a.eval x=.pointer (some ⟨g,0,none⟩)) (hy:a.eval y=.agg cells) (t:TypeId) (old:Array Value) (hg:ai w g t old)
  (hi:(P.info? ty).map (·.size)=some cells.size) (hs:old.size=cells.size) (h1:cells.all (·.oneCell')=true) (hdst:o.dst=none)
  (hS:S (w.setRow g cells)) (h:S (w.setRow g cells)→wpAnyH P md ops Q S fuel (listed.setIfInBounds i true) a (w.setRow g cells)):wpAnyH P md ops Q S (fuel+1) listed a w:=by
 refine wpAnyH_ready hr (by simp) (AllReadyH.cons ho (fun K hK=>?_) AllReadyH.nil)
 rw[if_pos hw]
 refine wp_store_row ty x y hop g cells hx hy t old hg hi hs h1 ?_
 have hp:a.put o.dst undef=a:=by rw[hdst];rfl
 rw[hp]
 exact hK.out _ _ hS h
end
end
section
open Go.RowKit PK
def clF (f:Nat→Int) (z:Int) (t:Nat):Nat→Int:=fun i=>if i<26 then f i else if i=26 then z else (t:Nat)
theorem j9:(#[.int .i64 0,.int .i64 0,.int .i64 0,.int .i64 0,.int .i64 0,.int .i64 0,.int .i64 0,.int .i64 0,.int .i64 0,.int .i64 0,.int .i64 0,.int .i64 0,.int .i64 0,.int .i64 0,.int .i64 0,.int .i64 0,.int .i64 0,.int .i64 0,.int .i64 0,.int .i64 0,.int .i64 0,.int .i64 0,.int .i64 0,.int .i64 0,.int .i64 0,.int .i64 0,.int .i64 0,.int .i64 0]:Array Value)=ints 28 fun _=>0:=rfl
theorem dx (f:Nat→Int) (z:Int) (t:Nat):Try.prog.built 43 [(0,.agg (ints 26 f)),(1,.int .i64 z),(2,.int .i64 (t:Nat))]=some (ints 28 (clF f z t)):=by kernel_rfl
theorem bk:(Try.prog.info? 43).map (·.size)=some 28:=by kernel_rfl
set_option maxRecDepth 100000 in
set_option maxHeartbeats 8000000 in
theorem wR (pa:Option Addr) (n pc:Nat) (ta:Option Addr) (tn tc:Nat) (F:(Nat→Nat)→Int) (bs bd:Nat) (seed t:Nat) (ht:t≤16) (w:World) (hsc:rj w pa n pc ta tn tc F) (hbs:w.rangeAt bs 0 [.slice pa n pc,.slice ta tn tc]) (hbd:w.cell? ⟨bd,0,none⟩=some (.int .u64 (seed:Nat))) :
  Calls Try.prog 36 #[.int .i64 (t:Nat),.pointer (some ⟨bs,0,none⟩),.pointer (some ⟨bd,0,none⟩)] w fun e w'=>∃k,Jm.Ups F (Jm.bgK ((seed+t) % 18446744073709551616) 25) k∧e=.returned (.agg (ints 28 (clF (Pm.up k) (F k) t)))∧Below w.heap.size w w':=by
 obtain ⟨s,hss⟩:∃s,s=(seed+t) % 18446744073709551616:=⟨_,rfl⟩
 have HU0:=(show Hid (IntKind.u64.wrap ((seed:Int)+(t:Int))=(s:Int)) from by
  show IntKind.u64.wrap ((seed:Int)+(t:Int))=(s:Int)
  rw[IntKind.wrap_u64]
  omega)
 have HSL:=(show Hid (s<18446744073709551616) from (by show s<18446744073709551616;omega))
 rw[←hss]
 clear hss
 have HSC:=(show Hid _ from hsc)
 have HBS:=(show Hid (w.rangeAt bs 0 [.slice pa n pc,.slice ta tn tc]) from hbs)
 have HBD:=(show Hid (w.cell? ⟨bd,0,none⟩=some (.int .u64 (seed:Nat))) from hbd)
 clear hsc hbs hbd
 have hr:=ai.new w 43 (ints 28 fun _=>0)
 have hb:Below w.heap.size w (w.alloc (.cells (ints 28 fun _=>0) 43)):=(Below.refl _ w).alloc (Nat.le_refl _) _
 go_enter Try.func36,Try.ntmps36
 go_upto_region 1 with fail
 rw[j9]
 obtain ⟨V0,hV0⟩:∃V,V=w.alloc (.cells (ints 28 fun _=>0) 43):=⟨_,rfl⟩
 rw[←hV0] at hr hb ⊢
 clear hV0
 refine wp_region_noPanic ?_
 refine wp_region_held_drew (S:=fun W=>ai W w.heap.size 43 (ints 28 fun _=>0)∧Below w.heap.size w W) (by kernel_rfl) ⟨hr,hb.drew⟩ (fun hS=>?_)
 obtain ⟨Z,hZ⟩:∃x,x=V0.drew:=⟨_,rfl⟩
 rw[←hZ] at hS ⊢
 clear hZ hr hb
 refine vtk 0 8 (.agg #[.slice pa n pc,.slice ta tn tc]) rfl (fun W hW=>by have u:=run_loadAt_mid (P:=Try.prog) W bs 0 66 [.slice pa n pc,.slice ta tn tc] _ (Below.rangeAt hW.2 HBS.out (cg (HBS.out 0 _ rfl))) Try.underlying66 rfl cJ;clear hS hW;simp[execOp,Act.eval,u]) hS ?_
 simp only[zsA,zsB,zsC]
 refine vtk 1 9 (.int .u64 (seed:Nat)) rfl (fun W hW=>by have u:=(hW.2.cell (p:=⟨bd,0,none⟩) (cg HBD.out)).trans HBD.out;clear hS hW;go_simp) hS ?_
 simp only[zsA,zsB,zsC]
 refine vtk 2 10 (.int .i64 (t:Nat)) rfl (fun W hW=>by clear hS hW;go_simp) hS ?_
 simp only[zsA,zsB,zsC]
 refine vtk 3 11 (.int .u64 (t:Nat)) rfl (fun W hW=>by have u1:IntKind.u64.wrap ((t:Nat):Int)=(t:Int):=(by rw[IntKind.wrap_u64];omega);clear hS hW;go_simp) hS ?_
 simp only[zsA,zsB,zsC]
 refine vtk 4 12 (.int .u64 (s:Nat)) rfl (fun W hW=>by have u1:=HU0.out;clear hS hW;simp[execOp,Act.eval,go_sem,u1]) hS ?_
 simp only[zsA,zsB,zsC]
 refine wpAnyH_ready (rs:=[5,10]) (by kernel_rfl) (by simp) ?_
 refine AllReadyH.cons (o:=_) rfl (fun K hK=>?_) (AllReadyH.cons (o:=_) rfl (fun K hK=>?_) AllReadyH.nil)
 ·rw[if_pos (by rfl)]
  go_simp
  refine Calls.mono (mq s HSL.out _) ?_
  rintro e Y ⟨rfl,hbY⟩
  refine hK.out _ _ ⟨ai.below hS.1 hbY (ai.lt hS.1),hS.2.trans (hbY.mono hS.2.size)⟩ (fun hS1=>?_)
  clear hbY
  clear hK hS K
  have hS:=hS1
  clear hS1
  refine wpAnyH_ready (rs:=[6,10]) (by kernel_rfl) (by simp) ?_
  refine AllReadyH.cons (o:=_) rfl (fun K hK=>?_) (AllReadyH.cons (o:=_) rfl (fun K hK=>?_) AllReadyH.nil)
  ·rw[if_pos (by rfl)]
   go_simp
   refine Calls.mono (lT pa n pc ta tn tc F (Jm.bgK s 25) (Jm.j5 s 25 (Nat.le_refl _)) _ (HSC.out.below hS.2)) ?_
   rintro e Y2 ⟨k,hups,rfl,hbY⟩
   have HUPS:=(show Hid _ from hups)
   refine hK.out _ _ ⟨ai.below hS.1 hbY (ai.lt hS.1),hS.2.trans (hbY.mono hS.2.size)⟩ (fun hS1=>?_)
   clear hbY hups
   clear hK hS K
   have hS:=hS1
   clear hS1
   refine vtk 7 7 (.tuple #[.agg (ints 26 (Pm.up k)),.int .i64 (F k)]) rfl (fun W hW=>by clear hS hW;go_simp) hS ?_
   simp only[zsA,zsB,zsC]
   refine vtk 8 15 (.agg (ints 26 (Pm.up k))) rfl (fun W hW=>by clear hS hW;go_simp) hS ?_
   simp only[zsA,zsB,zsC]
   refine vtk 9 16 (.int .i64 (F k)) rfl (fun W hW=>by clear hS hW;go_simp) hS ?_
   simp only[zsA,zsB,zsC]
   refine rd1 10 rfl (fun K hK=>?_)
   go_simp
   try rw[dh]
   have hq:=ai.new Y2 38 (ints 26 fun _=>0)
   have hql:=hS.2.size
   have hqn:w.heap.size<Y2.heap.size:=ai.lt hS.1
   refine hK.out _ _ ⟨ai.alloc hS.1 _,hS.2.alloc hS.2.size _⟩ (fun hS1=>?_)
   clear hK hS K
   have hS:=hS1
   clear hS1
   obtain ⟨q,hqq⟩:∃x,x=Y2.heap.size:=⟨_,rfl⟩
   rw[←hqq] at hq hql hqn ⊢
   obtain ⟨V,hVV⟩:∃x,x=Y2.alloc (.cells (ints 26 fun _=>0) 38):=⟨_,rfl⟩
   rw[←hVV] at hq hS ⊢
   clear hqq hVV
   refine sD 11 _ (by kernel_rfl) rfl (by kernel_rfl) 38 (Operand.tmp 5) (Operand.tmp 15) rfl q (ints 26 (Pm.up k)) rfl rfl 38 _ hq (by rw[af];exact an) (by simp only[af]) (aH _ _) rfl ⟨ai.bI hS.1 _ _ (by omega),Below.setRow hS.2 q hql _⟩ (fun hS1=>?_)
   have hq2:=hq.row (ints 26 (Pm.up k))
   clear hS hq
   have hS:=hS1
   clear hS1
   obtain ⟨z,hz⟩:∃z,z=F k:=⟨_,rfl⟩
   have HZ:=(show Hid (z=F k) from hz)
   rw[←hz]
   clear hz
   refine vtk 12 6 (.int .i64 z) rfl (fun W hW=>by clear hS hW;go_simp) hS ?_
   simp only[zsA,zsB,zsC]
   refine wpAnyH_done (by kernel_rfl) ?_ _
   refine NoPanic.normal ?_
   have hr0:=hS.1
   have HB:=(show Hid _ from hS.2)
   clear hS
   go_wp2_with (first | refine wpList_load_row rfl 38 _ rfl (q) rfl 38 (ints 26 (Pm.up k)) (0,0) _ hq2 Try.underlying38 rfl (by rw[af];exact an) ?_ | refine cS rfl 43 [(0,.tmp 17),(1,.tmp 18),(2,.tmp 19)] rfl [(0,.agg (ints 26 (Pm.up k))),(1,.int .i64 z),(2,.int .i64 (t:Nat))] rfl _ (dx (Pm.up k) z t) ?_ | refine wpList_store_row rfl 43 _ _ rfl w.heap.size (ints 28 (clF (Pm.up k) z t)) rfl rfl 43 _ hr0 (by rw[af];exact bk) (by simp only[af]) (aH _ _) ?_)
   exact bodyPost_ret (v:=.agg (ints 28 (clF (Pm.up k) z t))) (results_cell_row rfl _ _ w.heap.size 43 _ (0,0) _ rfl (ai.row hr0 _) Try.underlying43 rfl (by rw[af];exact bk)) rfl ⟨k,HUPS.out,by rw[HZ.out],Below.setRow HB.out _ (Nat.le_refl _) _⟩
  ·rw[if_pos (by rfl)]
   go_simp
   try rw[dh]
   have hq:=ai.new Y 38 (ints 26 fun _=>0)
   have hql:=hS.2.size
   have hqn:w.heap.size<Y.heap.size:=ai.lt hS.1
   refine hK.out _ _ ⟨ai.alloc hS.1 _,hS.2.alloc hS.2.size _⟩ (fun hS1=>?_)
   clear hK hS K
   have hS:=hS1
   clear hS1
   obtain ⟨q,hqq⟩:∃x,x=Y.heap.size:=⟨_,rfl⟩
   rw[←hqq] at hq hql hqn ⊢
   obtain ⟨V,hVV⟩:∃x,x=Y.alloc (.cells (ints 26 fun _=>0) 38):=⟨_,rfl⟩
   rw[←hVV] at hq hS ⊢
   clear hqq hVV
   refine rd1 6 rfl (fun K hK=>?_)
   go_simp
   refine Calls.mono (lT pa n pc ta tn tc F (Jm.bgK s 25) (Jm.j5 s 25 (Nat.le_refl _)) _ (HSC.out.below hS.2)) ?_
   rintro e Y2 ⟨k,hups,rfl,hbY⟩
   have HUPS:=(show Hid _ from hups)
   refine hK.out _ _ ⟨ai.below hS.1 hbY (ai.lt hS.1),hS.2.trans (hbY.mono hS.2.size)⟩ (fun hS1=>?_)
   have hq1:=ai.below hq hbY (ai.lt hq)
   clear hq
   have hq:=hq1
   clear hq1
   clear hbY hups
   clear hK hS K
   have hS:=hS1
   clear hS1
   refine vtk 7 7 (.tuple #[.agg (ints 26 (Pm.up k)),.int .i64 (F k)]) rfl (fun W hW=>by clear hS hW;go_simp) hS ?_
   simp only[zsA,zsB,zsC]
   refine vtk 8 15 (.agg (ints 26 (Pm.up k))) rfl (fun W hW=>by clear hS hW;go_simp) hS ?_
   simp only[zsA,zsB,zsC]
   refine vtk 9 16 (.int .i64 (F k)) rfl (fun W hW=>by clear hS hW;go_simp) hS ?_
   simp only[zsA,zsB,zsC]
   refine sD 11 _ (by kernel_rfl) rfl (by kernel_rfl) 38 (Operand.tmp 5) (Operand.tmp 15) rfl q (ints 26 (Pm.up k)) rfl rfl 38 _ hq (by rw[af];exact an) (by simp only[af]) (aH _ _) rfl ⟨ai.bI hS.1 _ _ (by omega),Below.setRow hS.2 q hql _⟩ (fun hS1=>?_)
   have hq2:=hq.row (ints 26 (Pm.up k))
   clear hS hq
   have hS:=hS1
   clear hS1
   obtain ⟨z,hz⟩:∃z,z=F k:=⟨_,rfl⟩
   have HZ:=(show Hid (z=F k) from hz)
   rw[←hz]
   clear hz
   refine vtk 12 6 (.int .i64 z) rfl (fun W hW=>by clear hS hW;go_simp) hS ?_
   simp only[zsA,zsB,zsC]
   refine wpAnyH_done (by kernel_rfl) ?_ _
   refine NoPanic.normal ?_
   have hr0:=hS.1
   have HB:=(show Hid _ from hS.2)
   clear hS
   go_wp2_with (first | refine wpList_load_row rfl 38 _ rfl (q) rfl 38 (ints 26 (Pm.up k)) (0,0) _ hq2 Try.underlying38 rfl (by rw[af];exact an) ?_ | refine cS rfl 43 [(0,.tmp 17),(1,.tmp 18),(2,.tmp 19)] rfl [(0,.agg (ints 26 (Pm.up k))),(1,.int .i64 z),(2,.int .i64 (t:Nat))] rfl _ (dx (Pm.up k) z t) ?_ | refine wpList_store_row rfl 43 _ _ rfl w.heap.size (ints 28 (clF (Pm.up k) z t)) rfl rfl 43 _ hr0 (by rw[af];exact bk) (by simp only[af]) (aH _ _) ?_)
   exact bodyPost_ret (v:=.agg (ints 28 (clF (Pm.up k) z t))) (results_cell_row rfl _ _ w.heap.size 43 _ (0,0) _ rfl (ai.row hr0 _) Try.underlying43 rfl (by rw[af];exact bk)) rfl ⟨k,HUPS.out,by rw[HZ.out],Below.setRow HB.out _ (Nat.le_refl _) _⟩
 ·rw[if_pos (by rfl)]
  go_simp
  try rw[dh]
  have hq:=ai.new Z 38 (ints 26 fun _=>0)
  have hql:=hS.2.size
  have hqn:w.heap.size<Z.heap.size:=ai.lt hS.1
  refine hK.out _ _ ⟨ai.alloc hS.1 _,hS.2.alloc hS.2.size _⟩ (fun hS1=>?_)
  clear hK hS K
  have hS:=hS1
  clear hS1
  obtain ⟨q,hqq⟩:∃x,x=Z.heap.size:=⟨_,rfl⟩
  rw[←hqq] at hq hql hqn ⊢
  obtain ⟨V,hVV⟩:∃x,x=Z.alloc (.cells (ints 26 fun _=>0) 38):=⟨_,rfl⟩
  rw[←hVV] at hq hS ⊢
  clear hqq hVV
  refine rd1 5 rfl (fun K hK=>?_)
  go_simp
  refine Calls.mono (mq s HSL.out _) ?_
  rintro e Y ⟨rfl,hbY⟩
  refine hK.out _ _ ⟨ai.below hS.1 hbY (ai.lt hS.1),hS.2.trans (hbY.mono hS.2.size)⟩ (fun hS1=>?_)
  have hq1:=ai.below hq hbY (ai.lt hq)
  clear hq
  have hq:=hq1
  clear hq1
  clear hbY
  clear hK hS K
  have hS:=hS1
  clear hS1
  refine rd1 6 rfl (fun K hK=>?_)
  go_simp
  refine Calls.mono (lT pa n pc ta tn tc F (Jm.bgK s 25) (Jm.j5 s 25 (Nat.le_refl _)) _ (HSC.out.below hS.2)) ?_
  rintro e Y2 ⟨k,hups,rfl,hbY⟩
  have HUPS:=(show Hid _ from hups)
  refine hK.out _ _ ⟨ai.below hS.1 hbY (ai.lt hS.1),hS.2.trans (hbY.mono hS.2.size)⟩ (fun hS1=>?_)
  have hq1:=ai.below hq hbY (ai.lt hq)
  clear hq
  have hq:=hq1
  clear hq1
  clear hbY hups
  clear hK hS K
  have hS:=hS1
  clear hS1
  refine vtk 7 7 (.tuple #[.agg (ints 26 (Pm.up k)),.int .i64 (F k)]) rfl (fun W hW=>by clear hS hW;go_simp) hS ?_
  simp only[zsA,zsB,zsC]
  refine vtk 8 15 (.agg (ints 26 (Pm.up k))) rfl (fun W hW=>by clear hS hW;go_simp) hS ?_
  simp only[zsA,zsB,zsC]
  refine vtk 9 16 (.int .i64 (F k)) rfl (fun W hW=>by clear hS hW;go_simp) hS ?_
  simp only[zsA,zsB,zsC]
  refine sD 11 _ (by kernel_rfl) rfl (by kernel_rfl) 38 (Operand.tmp 5) (Operand.tmp 15) rfl q (ints 26 (Pm.up k)) rfl rfl 38 _ hq (by rw[af];exact an) (by simp only[af]) (aH _ _) rfl ⟨ai.bI hS.1 _ _ (by omega),Below.setRow hS.2 q hql _⟩ (fun hS1=>?_)
  have hq2:=hq.row (ints 26 (Pm.up k))
  clear hS hq
  have hS:=hS1
  clear hS1
  obtain ⟨z,hz⟩:∃z,z=F k:=⟨_,rfl⟩
  have HZ:=(show Hid (z=F k) from hz)
  rw[←hz]
  clear hz
  refine vtk 12 6 (.int .i64 z) rfl (fun W hW=>by clear hS hW;go_simp) hS ?_
  simp only[zsA,zsB,zsC]
  refine wpAnyH_done (by kernel_rfl) ?_ _
  refine NoPanic.normal ?_
  have hr0:=hS.1
  have HB:=(show Hid _ from hS.2)
  clear hS
  go_wp2_with (first | refine wpList_load_row rfl 38 _ rfl (q) rfl 38 (ints 26 (Pm.up k)) (0,0) _ hq2 Try.underlying38 rfl (by rw[af];exact an) ?_ | refine cS rfl 43 [(0,.tmp 17),(1,.tmp 18),(2,.tmp 19)] rfl [(0,.agg (ints 26 (Pm.up k))),(1,.int .i64 z),(2,.int .i64 (t:Nat))] rfl _ (dx (Pm.up k) z t) ?_ | refine wpList_store_row rfl 43 _ _ rfl w.heap.size (ints 28 (clF (Pm.up k) z t)) rfl rfl 43 _ hr0 (by rw[af];exact bk) (by simp only[af]) (aH _ _) ?_)
  exact bodyPost_ret (v:=.agg (ints 28 (clF (Pm.up k) z t))) (results_cell_row rfl _ _ w.heap.size 43 _ (0,0) _ rfl (ai.row hr0 _) Try.underlying43 rfl (by rw[af];exact bk)) rfl ⟨k,HUPS.out,by rw[HZ.out],Below.setRow HB.out _ (Nat.le_refl _) _⟩
end
end Go.Proofs.Ytpdemelchhkfaaa
