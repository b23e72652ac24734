import Derived.Test.YtpdemelchhkfaaaClC
namespace Go.Proofs.Ytpdemelchhkfaaa
section
open Go.RowKit PK
def gC (w:World) (pv:Value) (s:ByteArray):Prop:=∃(pa:Option Addr) (pc:Nat),pv=.slice pa (s.size-1) pc∧∀k,k+1<s.size→∃b o,pa=some ⟨b,o,none⟩∧w.rangeAt b (o+k*2) [.int .i64 (jx s k:Nat),.int .i64 (jx s (k+1):Nat)]
theorem gC.below {w w':World} {pv:Value} {s:ByteArray} (h:gC w pv s) (hb:Below w.heap.size w w'):gC w' pv s:=by
 obtain ⟨pa,pc,e,h1⟩:=h
 exact ⟨pa,pc,e,fun k hk=>by
  obtain ⟨b,o,e,h2⟩:=h1 k hk
  exact ⟨b,o,e,Below.rangeAt hb h2 (cD (h2 0 _ rfl))⟩⟩
theorem Cf {w:World} {pv:Value} {s:ByteArray} {N:Nat} (h:w.ownsRow N 79 2 pv (s.size-1) (ints ((s.size-1)*2) (prF s)).toList):gC w pv s:=by
 rcases h.2 with ⟨e,e0⟩ | ⟨g,cap,cur,e,h2,h3,_,_,_,h7⟩
 ·exact ⟨none,0,by rw[e,e0],fun k hk=>by omega⟩
 ·refine ⟨_,cap,e,fun k hk=>⟨g,0,rfl,fun j v hv=>?_⟩⟩
  have hj:j<2:=by
   have:=(List.getElem?_eq_some_iff.1 hv).1
   simpa using this
  have hxs:(ints ((s.size-1)*2) (prF s)).toList[k*2+j]? = some v:=by
   rw[Array.getElem?_toList,aI _ (by omega)]
   rcases (by omega:j=0∨j=1) with rfl | rfl
   ·unfold prF
    rw[if_pos (by omega),show (k*2+0) / 2=k by omega]
    exact hv
   ·unfold prF
    rw[if_neg (by omega),show (k*2+1) / 2=k by omega]
    exact hv
  have hcu:cur[k*2+j]? = some v:=by
   rw[←h7,List.getElem?_take] at hxs
   rw[←Array.getElem?_toList]
   split at hxs
   ·exact hxs
   ·cases hxs
  exact ai.cell (T:=79) h3 (by rw[Nat.zero_add];exact hcu)
theorem qp:(Try.prog.info? 79).map (·.zero)=some (some (.agg #[.int .i64 0,.int .i64 0])):=by kernel_rfl
theorem kM:(Try.prog.info? 79).map (·.size)=some 2:=by kernel_rfl
set_option maxRecDepth 100000 in
set_option maxHeartbeats 4000000 in
theorem lY (s:ByteArray) (hs:Vg.Ls s.data.toList) (hl:s.size≤256) (pv tv:Value) (f:Nat→Int) (hf:∀i,i<676→-1000≤f i∧f i≤1000) (key:Nat→Nat) (hk:∀i,i<26→key i<26) (w:World) (hp:gC w pv s) (hv:aY w tv 676 f):Calls Try.prog 31 #[.agg #[pv,tv],.agg (ints 26 fun i=>(key i:Nat))] w fun e w'=>e=.returned (.int .i64 (sc s f key))∧Below w.heap.size w w':=by
 obtain ⟨a,tc,rfl,_,hc⟩:=hv
 obtain ⟨tb,t0,rfl,_⟩:=hc 0 (by decide)
 obtain ⟨pa,pc,rfl,hpc⟩:=hp
 have HT0:=(show Hid (∀c,c<676→w.cell? ⟨tb,t0+c,none⟩=some (.int .i64 (f c))) from fun c h=>by
  obtain ⟨b,o,e,k⟩:=hc c h
  cases e
  exact k)
 have HP0:=(show Hid _ from hpc)
 have HLE:=(show Hid _ from og hs hf hk)
 have HX:=(show Hid (∀k,k+1<s.size→jx s k<26∧jx s (k+1)<26) from fun k h=>⟨kU hs (by omega),kU hs h⟩)
 have HK:=(show Hid (∀i,i<26→key i<26) from hk)
 have HKR:=(show Hid (∀i,i<26→(ints 26 fun i=>((key i:Nat):Int))[i]? = some (.int .i64 (key i:Nat))) from fun i h=>aI _ h)
 obtain ⟨KA,hKA⟩:∃KA:Array Value,KA=(ints 26 fun i=>((key i:Nat):Int)):=⟨_,rfl⟩
 rw[←hKA] at HKR ⊢
 clear hKA
 obtain ⟨n,hn⟩:∃n,n=s.size-1:=⟨_,rfl⟩
 have HN0:=(show Hid (n=s.size-1) from hn)
 have hnl:n≤255:=by omega
 rw[←hn]
 have hr0:ai ((w.alloc (.cells #[.slice pa n pc,.slice (some ⟨tb,t0,none⟩) 676 tc] 66)).alloc (.cells KA 38)) w.heap.size 66 #[.slice pa n pc,.slice (some ⟨tb,t0,none⟩) 676 tc]:=ai.alloc (ai.new w _ _) _
 have hr1:ai ((w.alloc (.cells #[.slice pa n pc,.slice (some ⟨tb,t0,none⟩) 676 tc] 66)).alloc (.cells KA 38)) (w.heap.size+1) 38 KA:=by
  have:=ai.new (w.alloc (.cells #[.slice pa n pc,.slice (some ⟨tb,t0,none⟩) 676 tc] 66)) 38 KA
  rw[show (w.alloc (.cells #[.slice pa n pc,.slice (some ⟨tb,t0,none⟩) 676 tc] 66)).heap.size=w.heap.size+1 by simp] at this
  exact this
 have hb0:Below w.heap.size w ((w.alloc (.cells #[.slice pa n pc,.slice (some ⟨tb,t0,none⟩) 676 tc] 66)).alloc (.cells KA 38)):=((Below.refl _ w).alloc (Nat.le_refl _) _).alloc (by simp) _
 clear hc hs hf hk hpc hn
 go_enter Try.func31,Try.ntmps31
 go_upto_region 1 with fail
 generalize (w.alloc (.cells #[.slice pa n pc,.slice (some ⟨tb,t0,none⟩) 676 tc] 66)).alloc (.cells KA 38)=W0 at *
 have c0:=hr0.cell (i:=0) (v:=.slice pa n pc) rfl
 go_wp2_with fail
 go_loopw [5,11] (fun o x W=>∃k:Nat,k≤n∧x=.int .i64 (k:Int)∧o=.int .i64 (iR s f key k)∧ai W w.heap.size 66 #[.slice pa n pc,.slice (some ⟨tb,t0,none⟩) 676 tc]∧ai W (w.heap.size+1) 38 KA∧Below w.heap.size w W) (fun _ x _=>((n:Int)+1-intOf x).toNat)
 case atStart=>exact ⟨0,by omega,rfl,rfl,hr0,hr1,hb0⟩
 case round =>
  clear hr0 hr1 hb0 c0
  obtain ⟨k,hks,rfl,rfl,hr,hr1,hb⟩:=hrel
  by_cases hlt:k<n
  case neg =>
   have HQ:Hid (iR s f key k=sc s f key):=by
    have:k=s.size-1:=by have:=HN0.out;omega
    rw[Hid,this];rfl
   have hnn:¬(k:Int)<(n:Int):=by omega
   have HB:=(show Hid _ from hb)
   clear hr hr1 hb hlt
   go_wp2
   go_ret
   exact ⟨by rw[←HQ.out];rfl,HB.out⟩
  have HLT:Hid (k<n):=hlt
  have hkS:k+1<s.size:=by have:=HN0.out;omega
  have hlt2:(k:Int)<(n:Int):=by omega
  obtain ⟨pb,p0,hpa,hrg0⟩:=HP0.out k hkS
  subst hpa
  have hrg:wr.rangeAt pb (p0+k*2) #[.int .i64 (jx s k:Nat),.int .i64 (jx s (k+1):Nat)].toList:=Below.rangeAt hb hrg0 (cD (hrg0 0 _ rfl))
  obtain ⟨hx,hy⟩:=HX.out k hkS
  have hle1:=HLE.out (k+1) (by omega)
  have HN:Hid (iR s f key (k+1)=iR s f key k+f (26*key (jx s k)+key (jx s (k+1)))):=rfl
  have hkx:=HK.out _ hx
  have hky:=HK.out _ hy
  have HKX0:=(show Hid _ from HKR.out _ hx)
  have HKY0:=(show Hid _ from HKR.out _ hy)
  have hix:=Av hkx hky
  have HT1:=(show Hid _ from HT0.out _ hix)
  obtain ⟨x,hxx⟩:∃x,x=jx s k:=⟨_,rfl⟩
  obtain ⟨y,hyy⟩:∃y,y=jx s (k+1):=⟨_,rfl⟩
  rw[←hxx] at hx hkx HKX0 HT1 HN hix hrg
  rw[←hyy] at hy hky HKY0 HT1 HN hix hrg
  obtain ⟨kx,hkxx⟩:∃kx,kx=key x:=⟨_,rfl⟩
  obtain ⟨ky,hkyy⟩:∃ky,ky=key y:=⟨_,rfl⟩
  rw[←hkxx] at hkx HKX0 HT1 HN hix
  rw[←hkyy] at hky HKY0 HT1 HN hix
  obtain ⟨ix,hixx⟩:∃ix,ix=26*kx+ky:=⟨_,rfl⟩
  have hixI:26*(kx:Int)+(ky:Int)=(ix:Int):=by omega
  rw[←hixx] at HT1 HN hix
  clear hixx
  obtain ⟨z,hz⟩:∃z,z=f ix:=⟨_,rfl⟩
  rw[←hz] at HT1 HN
  obtain ⟨S,hSS⟩:∃S,S=iR s f key k:=⟨_,rfl⟩
  rw[←hSS] at HN ⊢
  obtain ⟨S2,hS20⟩:∃S2,S2=iR s f key (k+1):=⟨_,rfl⟩
  have HS2:=(show Hid (S2=iR s f key (k+1)) from hS20)
  rw[←hS20] at hle1 HN
  have hS2:S2=S+z:=HN.out
  have HKX:=(show Hid (KA[x]? = some (.int .i64 (kx:Nat))) from HKX0.out)
  have HKY:=(show Hid (KA[y]? = some (.int .i64 (ky:Nat))) from HKY0.out)
  have HT:=(show Hid (w.cell? ⟨tb,t0+ix,none⟩=some (.int .i64 z)) from HT1.out)
  have hs1:-256000≤S2∧S2≤256000:=by push_cast at hle1;omega
  have hzp:=rD qp
  clear hxx hyy hkxx hkyy hz hSS hS20 HN HKX0 HKY0 HT1 hle1 hrg0 hlt
  go_upto_region 5 with (first | refine wpList_load_mid rfl 79 _ rfl pb (p0+k*2) rfl [.int .i64 (x:Nat),.int .i64 (y:Nat)] _ hrg Try.underlying79 rfl kM ?_ | refine wpList_store_row rfl 79 _ _ rfl wr.heap.size #[.int .i64 (x:Nat),.int .i64 (y:Nat)] rfl rfl 79 _ (ai.new wr _ _) kM rfl rfl ?_)
  have hq:=ai.new wr 79 #[.int .i64 (x:Nat),.int .i64 (y:Nat)]
  have hb8:=(Below.refl wr.heap.size wr).alloc (Nat.le_refl _) (.cells #[.int .i64 (x:Nat),.int .i64 (y:Nat)] 79)
  have hrB:=hr.below hb8 hr.lt
  have hr1B:=hr1.below hb8 hr1.lt
  have hbB:=hb.trans (hb8.mono hb.size)
  obtain ⟨W3,hW3⟩:∃W3,W3=wr.alloc (.cells #[.int .i64 (x:Nat),.int .i64 (y:Nat)] 79):=⟨_,rfl⟩
  rw[←hW3] at hq hrB hr1B hbB ⊢
  clear hW3 hb8 hr hr1 hb hrg hzp
  generalize wr.heap.size=q at *
  refine wp_region_noPanic ?_
  refine wp_region_held_drew (S:=fun W=>ai W w.heap.size 66 #[.slice (some ⟨pb,p0,none⟩) n pc,.slice (some ⟨tb,t0,none⟩) 676 tc]∧ai W (w.heap.size+1) 38 KA∧ai W q 79 #[.int .i64 (x:Nat),.int .i64 (y:Nat)]∧Below w.heap.size w W) (by kernel_rfl) ⟨hrB,hr1B,hq,hbB.drew⟩ (fun hS=>?_)
  obtain ⟨Z,hZ⟩:∃x,x=W3.drew:=⟨_,rfl⟩
  rw[←hZ] at hS ⊢
  clear hZ hrB hr1B hbB hq
  refine vtk 0 15 (.int .i64 S) rfl (fun W hW=>by clear hS hW;go_simp) hS ?_
  simp only[zsA,zsB,zsC]
  refine vtk 1 16 (.pointer (some ⟨w.heap.size,1,none⟩)) rfl (fun W hW=>by clear hS hW;go_simp) hS ?_
  simp only[zsA,zsB,zsC]
  refine vtk 2 17 (.slice (some ⟨tb,t0,none⟩) 676 tc) rfl (fun W hW=>by have u:=hW.1.cell (i:=1) (v:=.slice (some ⟨tb,t0,none⟩) 676 tc) rfl;clear hS hW;go_simp) hS ?_
  simp only[zsA,zsB,zsC]
  refine vtk 3 18 (.pointer (some ⟨q,0,none⟩)) rfl (fun W hW=>by clear hS hW;go_simp) hS ?_
  simp only[zsA,zsB,zsC]
  refine vtk 4 19 (.int .i64 (x:Nat)) rfl (fun W hW=>by have u:=hW.2.2.1.cell (i:=0) (v:=.int .i64 (x:Nat)) rfl;clear hS hW;go_simp) hS ?_
  simp only[zsA,zsB,zsC]
  refine vtk 5 20 (.pointer (some ⟨w.heap.size+1,x,none⟩)) rfl (fun W hW=>by have u1:¬(26:Int)≤(x:Int):=(by omega);clear hS hW;go_simp) hS ?_
  simp only[zsA,zsB,zsC]
  refine vtk 6 21 (.int .i64 (kx:Nat)) rfl (fun W hW=>by have u:=hW.2.1.cell (i:=x) (v:=.int .i64 (kx:Nat)) HKX.out;clear hS hW;go_simp) hS ?_
  simp only[zsA,zsB,zsC]
  refine vtk 7 22 (.int .i64 (26*(kx:Int))) rfl (fun W hW=>by have u1:IntKind.i64.wrap (26*(kx:Int))=26*(kx:Int):=(by rw[IntKind.wrap_i64];omega);clear hS hW;simp[execOp,Act.eval,go_sem,u1]) hS ?_
  simp only[zsA,zsB,zsC]
  refine vtk 8 23 (.pointer (some ⟨q,1,none⟩)) rfl (fun W hW=>by clear hS hW;go_simp) hS ?_
  simp only[zsA,zsB,zsC]
  refine vtk 9 24 (.int .i64 (y:Nat)) rfl (fun W hW=>by have u:=hW.2.2.1.cell (i:=1) (v:=.int .i64 (y:Nat)) rfl;clear hS hW;go_simp) hS ?_
  simp only[zsA,zsB,zsC]
  refine vtk 10 25 (.pointer (some ⟨w.heap.size+1,y,none⟩)) rfl (fun W hW=>by have u1:¬(26:Int)≤(y:Int):=(by omega);clear hS hW;go_simp) hS ?_
  simp only[zsA,zsB,zsC]
  refine vtk 11 26 (.int .i64 (ky:Nat)) rfl (fun W hW=>by have u:=hW.2.1.cell (i:=y) (v:=.int .i64 (ky:Nat)) HKY.out;clear hS hW;go_simp) hS ?_
  simp only[zsA,zsB,zsC]
  refine vtk 12 27 (.int .i64 (ix:Nat)) rfl (fun W hW=>by have u1:IntKind.i64.wrap ((ix:Nat):Int)=(ix:Int):=(by rw[IntKind.wrap_i64];omega);have u2:=hixI;clear hS hW;simp[execOp,Act.eval,go_sem,u1,u2]) hS ?_
  simp only[zsA,zsB,zsC]
  refine vtk 13 28 (.pointer (some ⟨tb,t0+ix,none⟩)) rfl (fun W hW=>by have u1:(ix:Int)<676:=(by omega);clear hS hW;go_simp) hS ?_
  simp only[zsA,zsB,zsC]
  refine vtk 14 29 (.int .i64 z) rfl (fun W hW=>by have u:=(hW.2.2.2.cell (p:=⟨tb,t0+ix,none⟩) (cD HT.out)).trans HT.out;clear hS hW;go_simp) hS ?_
  simp only[zsA,zsB,zsC]
  refine vtk 15 30 (.int .i64 S2) rfl (fun W hW=>by have u1:IntKind.i64.wrap S2=S2:=(by rw[IntKind.wrap_i64];omega);have u2:S+z=S2:=hS2.symm;clear hS hW;simp[execOp,Act.eval,go_sem,u1,u2]) hS ?_
  simp only[zsA,zsB,zsC]
  refine vtk 16 5 (.int .i64 S2) rfl (fun W hW=>by clear hS hW;go_simp) hS ?_
  simp only[zsA,zsB,zsC]
  refine wpAnyH_done (by kernel_rfl) ?_ _
  refine NoPanic.normal ?_
  have HR:=(show Hid _ from hS.1)
  have HR1:=(show Hid _ from hS.2.1)
  have HB:=(show Hid _ from hS.2.2.2)
  clear hS
  go_wp2_with fail
  go_roundw
  case rel=>exact ⟨k+1,HLT.out,by go_num,by rw[HS2.out],HR.out,HR1.out,HB.out⟩
  case measure=>have:=HLT.out;simp[intOf];omega
end
section
open Go.RowKit PK
namespace Jm
theorem mC {α:Type} {M:List α→Prop} (h0:M []) (h1:∀l p,M l→M (l++[p])) (l:List α):M l:=by
 rw[←List.reverse_reverse l]
 induction l.reverse with
 | nil=>exact h0
 | cons a t ih=>rw[List.reverse_cons];exact h1 _ _ ih
abbrev K:=Nat→Nat
def sw (key:K) (a b:Nat):K:=fun i=>if i=a then key b else if i=b then key a else key i
def prs (b a:Nat):List (Nat × Nat):=(List.range b).flatMap (fun c=>(List.range c).map fun d=>(d,c))++(List.range a).map fun d=>(d,b)
theorem xp (b a:Nat):prs b (a+1)=prs b a++[(a,b)]:=by
 unfold prs
 rw[List.range_succ,List.map_append,List.append_assoc]
 rfl
theorem yU (b:Nat):prs (b+1) 0=prs b b:=by
 unfold prs
 rw[List.range_succ,List.flatMap_append]
 simp
def bst (F:K→Int) (key:K) (l:List (Nat × Nat)):K × Int:=l.foldl (fun st p=>if F (sw key p.1 p.2) > st.2 then (sw key p.1 p.2,F (sw key p.1 p.2)) else st) (key,-9223372036854775808)
def nxt (F:K→Int) (key:K) (l:List (Nat × Nat)):K:=l.foldl (fun st p=>if F (sw key p.1 p.2) > F st then sw key p.1 p.2 else st) key
theorem jz (F:K→Int) (key:K) (l:List (Nat × Nat)) (a b:Nat):bst F key (l++[(a,b)])=if F (sw key a b) > (bst F key l).2 then (sw key a b,F (sw key a b)) else bst F key l:=by
 unfold bst
 rw[List.foldl_append]
 rfl
theorem xy (F:K→Int) (key:K) (l:List (Nat × Nat)) (a b:Nat):nxt F key (l++[(a,b)])=if F (sw key a b) > F (nxt F key l) then sw key a b else nxt F key l:=by
 unfold nxt
 rw[List.foldl_append]
 rfl
theorem y9 (F:K→Int) (key:K):bst F key []=(key,-9223372036854775808):=rfl
theorem Al (F:K→Int) (key:K):nxt F key []=key:=rfl
theorem qU {key:K} (hk:∀i,i<26→key i<26) {a b:Nat} (ha:a<26) (hb:b<26):∀i,i<26→sw key a b i<26:=fun i hi=>by
 unfold sw
 split
 ·exact hk b hb
 ·split
  ·exact hk a ha
  ·exact hk i hi
theorem pG {Q:K→Prop} (F:K→Int) (key:K) (h0:Q key):∀(l:List (Nat × Nat)),(∀p ∈ l,Q (sw key p.1 p.2))→Q (bst F key l).1:=by
 intro l
 induction l using mC with
 | h0=>intro _;exact h0
 | h1 l p ih =>
  intro h
  rw[jz]
  split
  ·exact h p (by simp)
  ·exact ih fun q hq=>h q (by simp[hq])
theorem uk (F:K→Int) (key:K) (hF:F key > -9223372036854775808):∀(l:List (Nat × Nat)),(nxt F key l=if (bst F key l).2 > F key then (bst F key l).1 else key)∧((bst F key l).2=-9223372036854775808∨(bst F key l).2=F (bst F key l).1):=by
 intro l
 induction l using mC with
 | h0=>exact ⟨by rw[Al,y9,if_neg (by show ¬_ > _;simp only;omega)],.inl rfl⟩
 | h1 l p ih =>
  obtain ⟨a,b⟩:=p
  obtain ⟨h1,h2⟩:=ih
  rw[jz,xy,h1]
  by_cases hc:F (sw key a b) > (bst F key l).2
  ·rw[if_pos hc]
   refine ⟨?_,.inr rfl⟩
   by_cases hm:(bst F key l).2 > F key
   ·have h3:(bst F key l).2=F (bst F key l).1:=h2.resolve_left (by omega)
    simp only
    rw[if_pos hm,if_pos (by omega),if_pos (by omega)]
   ·simp only
    rw[if_neg hm]
  ·rw[if_neg hc]
   refine ⟨?_,h2⟩
   by_cases hm:(bst F key l).2 > F key
   ·have h3:(bst F key l).2=F (bst F key l).1:=h2.resolve_left (by omega)
    rw[if_pos hm,if_neg (by omega)]
   ·rw[if_neg hm,if_neg (by omega)]
inductive Ups (F:K→Int):K→K→Prop
 | stop {key:K}:¬(bst F key (prs 26 0)).2 > F key→Ups F key key
 | go {key k:K}:(bst F key (prs 26 0)).2 > F key→Ups F (bst F key (prs 26 0)).1 k→Ups F key k
theorem Ups.same {F:K→Int} {key k:K} (h:Ups F key k):∀{k'},Ups F key k'→k=k':=by
 induction h with
 | stop h1=>intro k' h';cases h' with
  | stop _=>rfl
  | go h2 _=>exact absurd h2 h1
 | go h1 _ ih=>intro k' h';cases h' with
  | stop h2=>exact absurd h1 h2
  | go _ h3=>exact ih h3
open Classical in
noncomputable def up (F:K→Int) (key:K):K:=if h:∃k,Ups F key k then h.choose else key
theorem Ups.up {F:K→Int} {key k:K} (h:Ups F key k):Jm.up F key=k:=by
 unfold Jm.up
 rw[dif_pos ⟨k,h⟩]
 exact (Exists.choose_spec (⟨k,h⟩:∃k,Ups F key k)).same h
theorem Ups.top {F:K→Int} {key k:K} (h:Ups F key k):¬(bst F k (prs 26 0)).2 > F k:=by
 induction h with
 | stop h1=>exact h1
 | go _ _ ih=>exact ih
theorem Ups.ind {Q:K→Prop} {F:K→Int} {key k:K} (h:Ups F key k) (h0:Q key) (hs:∀key a b,Q key→a<b→b<26→Q (sw key a b)):Q k:=by
 induction h with
 | stop _=>exact h0
 | @go key k _ _ ih =>
  refine ih (pG F key h0 _ fun p hp=>?_)
  have h1:p.1<p.2∧p.2<26:=by
   unfold prs at hp
   simp only[List.mem_append,List.mem_flatMap,List.mem_map,List.mem_range] at hp
   rcases hp with ⟨c,hc,d,hd,rfl⟩ | ⟨d,hd,rfl⟩
   ·exact ⟨hd,hc⟩
   ·omega
  exact hs key _ _ h0 h1.1 h1.2
theorem BY (F:K→Int) (key:K):∀(l:List (Nat × Nat)) (p),p ∈ l→F (sw key p.1 p.2)≤(bst F key l).2:=by
 intro l
 induction l using mC with
 | h0=>intro p hp;cases hp
 | h1 l q ih =>
  intro p hp
  rw[jz]
  rcases List.mem_append.1 hp with h | h
  ·have:=ih p h
   split
   ·simp only;omega
   ·exact this
  ·rw[List.mem_singleton] at h
   subst h
   split
   ·exact Int.le_refl _
   ·omega
theorem zf {a b:Nat} (h:a<b) (hb:b<26):(a,b) ∈ prs 26 0:=by
 unfold prs
 simp only[List.mem_append,List.mem_flatMap,List.mem_map,List.mem_range]
 exact .inl ⟨b,hb,a,h,rfl⟩
end Jm
theorem lP {s:ByteArray} (hs:Vg.Ls s.data.toList) (f:Nat→Int) {k1 k2:Nat→Nat} (h:∀i,i<26→k1 i=k2 i):∀k,k≤s.size-1→iR s f k1 k=iR s f k2 k
 | 0,_=>rfl
 | k+1,hk=>by
  unfold iR
  rw[lP hs f h k (by omega),h _ (kU hs (k:=k) (by omega)),h _ (kU hs (k:=k+1) (by omega))]
theorem yH {s:ByteArray} (hs:Vg.Ls s.data.toList) (f:Nat→Int) {k1 k2:Nat→Nat} (h:∀i,i<26→k1 i=k2 i):sc s f k1=sc s f k2:=lP hs f h _ (Nat.le_refl _)
theorem xx {s:ByteArray} (hs:Vg.Ls s.data.toList) (hl:s.size≤256) {f:Nat→Int} (hf:∀i,i<676→-1000≤f i∧f i≤1000) {key:Nat→Nat} (hk:∀i,i<26→key i<26):-255000≤sc s f key∧sc s f key≤255000:=by
 have:=og hs hf hk (s.size-1) (Nat.le_refl _)
 unfold sc
 omega
end
end Go.Proofs.Ytpdemelchhkfaaa
