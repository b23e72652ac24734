import Derived.Test.YtgacaecjinlhiaaGreatDoorFgC
namespace Go.Proofs.YtgacaecjinlhiaaGreatDoor
section
open Go.RowKit PK Vg
theorem Bu:(Tryz.prog.info? 77).map (·.size)=some 26:=by kernel_rfl
theorem rj (V:Nat→Value) (k:Nat) (hk:k<26) (w:World):(Instr.index 77 (.agg (tab 26 V)) (.int .i64 (k:Int))).run Tryz.prog w=.ok (V k) w:=by
 have hs:(sizeOf 29).run Tryz.prog w=.ok 1 w:=by
  have h1:(Tryz.prog.info? 29).map (·.size)=some 1:=by kernel_rfl
  obtain ⟨i,hi,hz⟩:=Option.map_eq_some_iff.1 h1
  simp[sizeOf,typeInfo,hi,hz]
 have hg:(tab 26 V)[k]? = some (V k):=aR _ hk
 have hp:(part 29 (tab 26 V) k).run Tryz.prog w=.ok (V k) w:=by
  unfold part isAgg
  simp[Sem.run_bind,run_underlying Tryz.underlying29,hg]
 generalize tab 26 V=cs at *
 simp[Instr.index,asIntOf,Sem.run_bind,run_underlying Tryz.underlying77,hs,hk,hp]
set_option maxRecDepth 100000 in
set_option maxHeartbeats 4000000 in
theorem D6 (v0 v1 v2 v3 v4 v5 v6 v7 v8 v10 v11 v12 v13 v14 v15 v16 v17 v18 v19 v20 v21 v22 v23 v24 v25 v26 v27 v28 v29 v30 v31 v32 v33 v34 v35 v36 v37 v38 v39 v40 v41 v42 v43 v44 v45 v46 v47 v48 v49 v50 v51 v52:Value) (bF:Nat) (V:Nat→Value) (T':TypeId) (fr:Nat × Nat) (h:Hl) (L:Nat→List Nat) (hL:∀k,(L k).length≤676) (w:World) (hF:w.heap[bF]? = some (.cells (tab 26 V) T' fr)) (hV:∀k,k<26→HsA w (V k) (L k) h) :
  Hb.eT5.wp Tryz.prog (bodyPost Tryz.prog Tryz.f11 (Cs.kY fun v w'=>∃u,v=.tuple #[u,.int .i64 0]∧HsN w' w.heap.size u (h.eF L 26) h∧Below w.heap.size w w')) ⟨#[v0,v1,v2,v3,v4,v5,v6,v7,v8,.pointer (some ⟨bF,0,none⟩),v10,v11,v12,v13,v14,v15,v16,v17,v18,v19,v20,v21,v22,v23,v24,v25,v26,v27,v28,v29,v30,v31,v32,v33,v34,v35,v36,v37,v38,v39,v40,v41,v42,v43,v44,v45,v46,v47,v48,v49,v50,v51,v52],[]⟩ w:=by
 obtain ⟨i0,hi0,hz0,hz1,hz2⟩:=eo pM
 have hCL:=h.Cb hL
 have hbF:bF<w.heap.size:=(Array.getElem?_eq_some_iff.1 hF).1
 have HV:=(show Hid (∀k,k<26→HsA w (V k) (L k) h) from hV)
 clear hV hL
 simp only[Hb.eT5,Hb.eT4,Hb.eT3,Hb.eT2,Hb.eT1,Hb.dm,Tryz.f11,Option.getD_some]
 go_wp2_with (first | refine wpList_load_row rfl 77 _ rfl bF rfl T' (tab 26 V) fr _ hF Tryz.underlying77 rfl (by rw[bG];exact Bu) ?_)
 clear hF
 go_loopw [13,45] (fun o x W=>∃(i:Nat) (u:Value),i≤26∧x=.int .i64 (i:Nat)∧u=o∧(∃vs:List Value,W.ownsRow w.heap.size 48 2 u (h.eF L i).length vs∧∀(k N:Nat),(h.eF L i)[k]? = some N→∃us ug,vs[2*k]? = some us∧vs[2*k+1]? = some ug∧oA w us ug h N)∧Below w.heap.size w W) (fun _ x _=>((26:Int)-intOf x).toNat)
 case atStart=>exact ⟨0,.slice none 0 0,by omega,rfl,rfl,⟨[],World.ownsRow_nil w _ _ 2,fun k N e=>by simp[Hl.eF] at e⟩,Below.refl _ _⟩
 case round =>
  obtain ⟨i,u,hi,rfl,rfl,⟨vs,hown,hvs⟩,hbe⟩:=hrel
  by_cases hlt:i<26
  ·have HLT:Hid (i<26):=hlt
   have hlt2:(i:Int)<26:=by omega
   have hix:=fun W=>rj V i hlt W
   have hci:=hCL i
   have hci1:=hCL (i+1)
   rw[show h.eF L (i+1)=h.eF L i++L i from rfl,List.length_append] at hci1
   have hsz:=hbe.size
   rcases HV.out i hlt with ⟨hv0,hL0⟩ | ⟨ab,ao,c,ws,hv0,hwl,hwc,hw1,hwN⟩
   ·rw[hv0] at hix
    have HC:Hid (h.eF L (i+1)=h.eF L i):=by show h.eF L i++L i=_;rw[hL0,List.append_nil]
    have HVS:=(show Hid _ from hvs)
    have HB:=(show Hid _ from hbe)
    clear hlt hv0 hL0 hvs hbe hCL hci hci1
    go_wp2_with (first | (at_builtin;refine wpList_append_own_none rfl _ _ 29 rfl w.heap.size 48 i0 2 Tryz.underlying29 hi0 u _ vs rfl hown rfl ?_))
    go_roundw
    case rel=>exact ⟨i+1,u,HLT.out,by go_num,by first | rfl | trivial,⟨vs,by rw[HC.out];exact hown,by rw[HC.out];exact HVS.out⟩,HB.out⟩
    case measure=>have:=HLT.out;simp[intOf];omega
   ·rw[hv0] at hix
    have hnews:∀(j:Nat) x,ws[j]? = some x→wr.cell? ((⟨ab,ao,none⟩:Addr).add j)=some x:=fun j x hx=>by
     have h1:=hwc j x hx
     rw[Addr.add_lit]
     exact (hbe.cell (aA h1)).trans h1
    have HVS:=(show Hid _ from hvs)
    have HWN:=(show Hid _ from hwN)
    have HWL:=(show Hid _ from hwl)
    have HB:=(show Hid _ from hbe)
    clear hlt hv0 hvs hbe hCL hwc hwN
    go_wp2_with (first | (at_builtin;refine wpList_append_own _ rfl _ _ 29 rfl w.heap.size 48 i0 (.agg #[.slice none 0 0,.slice none 0 0]) 2 48 Tryz.underlying29 hi0 hz0 hz1 hz2 rfl (by decide) u _ vs rfl hown ⟨ab,ao,none⟩ _ c ws rfl (by rw[HWL.out]) hnews hw1 (by unfold maxLen;omega) (by omega) hsz ?_;intro v' w1 hown' hgrow _))
    go_roundw
    case rel =>
     refine ⟨i+1,v',HLT.out,by go_num,by first | rfl | trivial,⟨vs++ws,?_,fun k N h2=>?_⟩,?_⟩
     ·rw[show h.eF L (i+1)=h.eF L i++L i from rfl,List.length_append]
      exact hown'
     ·rw[show h.eF L (i+1)=h.eF L i++L i from rfl] at h2
      have hvl:vs.length=(h.eF L i).length*2:=hown.1
      by_cases hkk:k<(h.eF L i).length
      ·rw[List.getElem?_append_left hkk] at h2
       obtain ⟨us,ug,e1,e2,e3⟩:=HVS.out k N h2
       exact ⟨us,ug,by rw[List.getElem?_append_left (by omega)];exact e1,by rw[List.getElem?_append_left (by omega)];exact e2,e3⟩
      ·rw[List.getElem?_append_right (by omega)] at h2
       obtain ⟨us,ug,e1,e2,e3⟩:=HWN.out _ N h2
       refine ⟨us,ug,?_,?_,e3⟩
       ·rw[List.getElem?_append_right (by omega),show 2*k-vs.length=2*(k-(h.eF L i).length) by omega]
        exact e1
       ·rw[List.getElem?_append_right (by omega),show 2*k+1-vs.length=2*(k-(h.eF L i).length)+1 by omega]
        exact e2
     ·exact HB.out.grown hgrow hsz (fun p hp=>(World.ownsRow.lt hown p hp).1)
    case measure=>have:=HLT.out;simp[intOf];omega
  ·obtain rfl:i=26:=by omega
   have HVS:=(show Hid _ from hvs)
   have HB:=(show Hid _ from hbe)
   clear hlt hvs hbe hCL
   have hout:∀W',W'=wr→∃u',Value.tuple #[u,.int .i64 0]=.tuple #[u',.int .i64 0]∧HsN W' w.heap.size u' (h.eF L 26) h∧Below w.heap.size w W':=fun W' e=>by
    subst e
    refine ⟨u,rfl,⟨vs,hown,fun k N h2=>?_⟩,HB.out⟩
    obtain ⟨us,ug,e1,e2,e3⟩:=HVS.out k N h2
    exact ⟨us,ug,e1,e2,e3.below HB.out⟩
   have HO:=(show Hid _ from hout)
   clear hout hown HVS HB
   go_wp2_with fail
   refine ⟨rfl,.tuple #[u,.int .i64 0],?_,_,rfl,HO.out _ rfl⟩
   simp[results,Array.mapM_eq_mapM_toList,List.mapM_cons]
end
section
open Go.RowKit PK Vg Go.Conc Cs
def iO (W:World) (v:Value) (s n:Nat) (f:Nat→Int):Prop:=∃(a:Option Addr) (cap:Nat),v=.slice a n cap∧∀c,c<n*s→∃b o,a=some ⟨b,o,none⟩∧W.cell? ⟨b,o+c,none⟩=some (.int .i64 (f c))
def lV (W:World) (v:Value) (s n:Nat) (f:Nat→Int):Prop:=∃(a:Option Addr) (cap:Nat),v=.slice a n cap∧∀c,c<n*s→∃b,a=some ⟨b,0,none⟩∧W.cell? ⟨b,c,none⟩=some (.int .i64 (f c))
theorem jJ {E E':Env} {wl wl':World} (h:dM E E' wl wl') {v:Value} {s n:Nat} {f:Nat→Int} (hv:lV wl v s n f):lV wl' v s n f:=by
 obtain ⟨a,cap,h1,h3⟩:=hv
 refine ⟨a,cap,h1,fun c hc=>?_⟩
 obtain ⟨b,e,k⟩:=h3 c hc
 exact ⟨b,e,h.cell k⟩
theorem lV.gs {W:World} {v:Value} {g:Nat→Nat→Int} {L:List Nat} (h:lV W v 28 L.length (gl g L)):kK W v g L:=by
 obtain ⟨a,cap,h1,h2⟩:=h
 refine ⟨a,cap,h1,fun j hj=>?_⟩
 obtain ⟨b,e,_⟩:=h2 (j*28) (by omega)
 refine ⟨b,e,fun i u hu=>?_⟩
 obtain ⟨hi,rfl⟩:=Dq hu
 obtain ⟨b',e',k⟩:=h2 (j*28+i) (by omega)
 rw[e] at e'
 cases e'
 unfold gl at k
 rw[show (j*28+i) / 28=j by omega,show (j*28+i) % 28=i by omega] at k
 exact k
theorem kK.ints {W:World} {v:Value} {g:Nat→Nat→Int} {L:List Nat} (h:kK W v g L):iO W v 28 L.length (gl g L):=by
 obtain ⟨a,cap,h1,h2⟩:=h
 refine ⟨a,cap,h1,fun c hc=>?_⟩
 obtain ⟨b,e,k⟩:=h2 (c / 28) (by omega)
 refine ⟨b,0,e,?_⟩
 have k2:=k (c % 28) (.int .i64 (g (L.getD (c / 28) 0) (c % 28))) (by rw[Array.getElem?_toList,aB _ (Nat.mod_lt _ (by decide))])
 rw[show c / 28*28+c % 28=0+c by omega] at k2
 exact k2
def lkF (l:List (Nat × Nat)):Nat→Int:=fun c=>if c % 2=0 then ((l.getD (c / 2) (0,0)).1:Nat) else ((l.getD (c / 2) (0,0)).2:Nat)
theorem G0 (l:List (Nat × Nat)):(prC l).length=l.length*2:=by
 induction l with
 | nil=>rfl
 | cons p l ih=>rw[prC,List.flatMap_cons,List.length_append,←prC,ih];simp;omega
theorem CP (l:List (Nat × Nat)):prC l=(ints (l.length*2) (lkF l)).toList:=by
 apply List.ext_getElem?
 intro c
 by_cases hc:c<l.length*2
 ·have ex:(ints (l.length*2) (lkF l)).toList[c]? = (ints (l.length*2) (lkF l))[c]?:=Array.getElem?_toList
  rw[ex,aB _ hc]
  have hk:=Ds l (c / 2) (by omega)
  unfold lkF
  by_cases h2:c % 2=0
  ·rw[if_pos h2]
   have e:c / 2*2=c:=by omega
   rw[e] at hk
   exact hk.1
  ·rw[if_neg h2]
   have e:c / 2*2+1=c:=by omega
   rw[e] at hk
   exact hk.2
 ·rw[List.getElem?_eq_none (by rw[G0];omega),List.getElem?_eq_none (by rw[Array.length_toList,ag];omega)]
theorem lV.links {W:World} {v:Value} {l:List (Nat × Nat)} (h:lV W v 2 l.length (lkF l)):jG W v l:=by
 obtain ⟨a,cap,h1,h2⟩:=h
 refine ⟨a,cap,h1,fun c hc=>?_⟩
 obtain ⟨b,e,k1⟩:=h2 (c*2) (by omega)
 obtain ⟨b',e',k2⟩:=h2 (c*2+1) (by omega)
 rw[e] at e'
 cases e'
 refine ⟨b,e,?_,?_⟩
 ·unfold lkF at k1
  rw[if_pos (by omega),show c*2 / 2=c by omega] at k1
  exact k1
 ·unfold lkF at k2
  rw[if_neg (by omega),show (c*2+1) / 2=c by omega] at k2
  exact k2
theorem jX {W:World} {v:Value} {n:Nat} {f:Nat→Int} (hn:n≤maxLen) (h:iO W v 1 n f):aq W v n f:=by
 obtain ⟨a,cap,h1,h2⟩:=h
 exact ⟨a,cap,h1,hn,fun c hc=>h2 c (by omega)⟩
variable [Fns]
section
variable {P:Program} {E:Env} {wl w:World}
theorem qn (h:WR P E wl w) {B s n:Nat} {T:TypeId} {v v':Value} {f:Nat→Int} (hs:0<s) (hv:wl.ownsRow B T s v n (ints (n*s) f).toList) (hr:VR E v v'):iO w v' s n f∧Rt w v':=by
 obtain ⟨h1,h2⟩:=hv
 rcases h2 with ⟨rfl,h4⟩ | ⟨g,cap,cur,rfl,_,h4,h5,h6,h7,h8⟩
 ·subst h4
  cases hr with
  | bK l c=>exact ⟨⟨none,0,rfl,fun c hc=>absurd hc (by omega)⟩,zA⟩
 ·cases hr with
  | b9 a b=>exact ⟨⟨some b,0,rfl,fun c hc=>absurd hc (by omega)⟩,zA⟩
  | slice l c ha =>
   obtain ⟨b,s',rfl,hj⟩:=um ha
   have hcell:∀(j:Nat) u,cur[j]? = some u→∃u',w.cell? ⟨b,0+s'+j,none⟩=some u'∧VR E u u':=fun j u hu=>h.cell (hj j) (by rw[Nat.zero_add,cell_of_row _ _ _ _ _ _ h4];exact hu)
   refine ⟨⟨_,cap,rfl,fun c hc=>⟨b,0+s',rfl,?_⟩⟩,fun a l c e hp=>?_⟩
   ·have e:cur[c]? = some (.int .i64 (f c)):=by
     have h9:(ints (n*s) f).toList[c]? = some (.int .i64 (f c)):=by rw[Array.getElem?_toList,aB _ hc]
     rw[←h8,List.getElem?_take_of_lt hc,Array.getElem?_toList] at h9
     exact h9
    obtain ⟨u',k1,k2⟩:=hcell c _ e
    cases k2
    exact k1
   ·cases e
    have h0:0<cur.size:=by
     rw[h7]
     exact Nat.mul_pos hp hs
    obtain ⟨u',k1,_⟩:=hcell 0 _ (Array.getElem?_eq_getElem h0)
    obtain ⟨y,T,fr,k,_⟩:=cU k1
    exact ⟨rfl,y,T,fr,k⟩
theorem sD (h:WR P E wl w) {s n:Nat} {v v':Value} {f:Nat→Int} (hn:0<n*s) (hv:iO wl v s n f) (hr:VR E v v'):iO w v' s n f∧Rt w v':=by
 obtain ⟨a,cap,rfl,hc⟩:=hv
 obtain ⟨g,o,rfl,h0⟩:=hc 0 hn
 cases hr with
 | b9=>exact absurd hn (by omega)
 | slice l c ha =>
  obtain ⟨b,s',rfl,hj⟩:=um ha
  have hcell:∀c,c<n*s→w.cell? ⟨b,o+s'+c,none⟩=some (.int .i64 (f c)):=fun c hc'=>by
   obtain ⟨g',o',e,h1⟩:=hc c hc'
   cases e
   obtain ⟨v,k1,k2⟩:=h.cell (hj c) h1
   cases k2
   exact k1
  exact ⟨⟨_,_,rfl,fun c hc'=>⟨b,o+s',rfl,hcell c hc'⟩⟩,F3 (hcell 0 hn) _⟩
theorem zX (h:Cp P E wl w) {TJ:TypeId} (hJ:P.info? TJ=none) {v:Value} {s n:Nat} {f:Nat→Int} (hs:0<s) (hv:iO w v s n f) (hr:Rt w v):∃E' wl' u,Cp P E' wl' w∧dM E E' wl wl'∧VR E' u v∧lV wl' u s n f:=by
 obtain ⟨a,cap,rfl,hc⟩:=hv
 cases a with
 | none =>
  refine ⟨E,wl,_,h,dM.refl _ _,.bK n cap,none,cap,rfl,fun c hc'=>?_⟩
  obtain ⟨b,o,e,_⟩:=hc c hc'
  cases e
 | some ad =>
  by_cases hz:n=0∧cap=0
  ·obtain ⟨rfl,rfl⟩:=hz
   exact ⟨E,wl,_,h,dM.refl _ _,.b9 ad ad,some ad,0,rfl,fun c hc'=>absurd hc' (by omega)⟩
  ·have hrow:ad.spot=none∧∃y T fr,w.heap[ad.block]? = some (.cells y T fr):=by
    by_cases h0:0<n
    ·obtain ⟨b,o,e,k⟩:=hc 0 (Nat.mul_pos h0 hs)
     cases e
     obtain ⟨y,T,fr,k1,_⟩:=cU k
     exact ⟨rfl,y,T,fr,k1⟩
    ·exact hr ad n cap rfl (by omega)
   obtain ⟨b,o,sp⟩:=ad
   obtain ⟨hsp,y,T,fr,hq⟩:=hrow
   dsimp only at hsp hq
   subst hsp
   obtain ⟨E',c1,c2,c3,c4⟩:=h.row hJ (s:=o) hq (ints (n*s) f) (fun i u hu=>by
    have hi:i<n*s:=by have:=(Array.getElem?_eq_some_iff.1 hu).1;rwa [ag] at this
    rw[aB _ hi] at hu
    cases hu
    obtain ⟨b',o',e,k⟩:=hc i hi
    cases e
    refine ⟨.int .i64 (f i),?_,.int _ _⟩
    rw[cell_of_row _ _ _ _ _ _ hq] at k
    rw[Nat.add_comm]
    exact k)
   refine ⟨E',_,.slice (some ⟨wl.heap.size,0,none⟩) n cap,c1,c2,.slice n cap ?_,some ⟨wl.heap.size,0,none⟩,cap,rfl,fun c hc'=>⟨wl.heap.size,rfl,c4 c _ (aB _ hc')⟩⟩
   have:=c3 0
   rw[Nat.zero_add] at this
   exact this
theorem oR {R:Nat→Value} {F:Nat→World→Value→Prop} {m:Nat} (keep:∀i {E E':Env} {wl wl':World} {v:Value},dM E E' wl wl'→F i wl v→F i wl' v) (one:∀i,i<m→∀{E:Env} {wl:World},Cp P E wl w→∃E' wl' u,Cp P E' wl' w∧dM E E' wl wl'∧VR E' u (R i)∧F i wl' u) :
  ∀(n:Nat),n≤m→∀{E:Env} {wl:World},Cp P E wl w→∃(E':Env) (wl':World) (Ul:Nat→Value),Cp P E' wl' w∧dM E E' wl wl'∧∀r,r<n→VR E' (Ul r) (R r)∧F r wl' (Ul r)
 | 0,_,E,wl,h=>⟨E,wl,R,h,dM.refl _ _,fun r hr=>absurd hr (Nat.not_lt_zero _)⟩
 | n+1,hm,E,wl,h=>by
  obtain ⟨E1,wl1,Ul,h1,h2,h3⟩:=oR keep one n (by omega) h
  obtain ⟨E2,wl2,u,g1,g2,g3,g4⟩:=one n (by omega) h1
  refine ⟨E2,wl2,fun r=>if r=n then u else Ul r,g1,h2.trans g2,fun r hr=>?_⟩
  by_cases e:r=n
  ·subst e
   simp only[if_true]
   exact ⟨g3,g4⟩
  ·simp only[if_neg e]
   obtain ⟨a,b⟩:=h3 r (by omega)
   exact ⟨a.mono g2.le,keep r g2 b⟩
end
def FK (W:World) (us ug:Value) (h:Hl) (N:Nat):Prop:=((aq W us h.n fun i=>((iD h.n N i:Nat):Int))∧Rt W us)∧iO W ug 28 (h.lg N).length (gl (h.gs N) (h.lg N))∧Rt W ug
def HsC (W:World) (v:Value) (L:List Nat) (h:Hl):Prop:=∃(a:Option Addr) (cap:Nat),v=.slice a L.length cap∧(a=none→cap=0)∧Rt W v∧∀(j:Nat) N,L[j]? = some N→∃b o us ug,a=some ⟨b,o,none⟩∧W.cell? ⟨b,o+2*j,none⟩=some us∧W.cell? ⟨b,o+(2*j+1),none⟩=some ug∧FK W us ug h N
section
variable {P:Program} {E:Env} {wl w:World}
theorem BZ (h:WR P E wl w) {us ug us' ug':Value} {hl:Hl} {N:Nat} (hm:hl.n≤maxLen) (k:iB wl us ug hl N) (hs:VR E us us') (hg:VR E ug ug'):FK w us' ug' hl N:=by
 obtain ⟨⟨B1,k1⟩,B2,k2⟩:=k
 have r1:=qn h (s:=1) (by decide) (by rw[Nat.mul_one];exact k1) hs
 have r2:=qn h (s:=28) (by decide) (show wl.ownsRow _ 87 28 _ _ _ from k2) hg
 exact ⟨⟨jX hm r1.1,r1.2⟩,r2⟩
theorem AF (h:WR P E wl w) {us ug us' ug':Value} {hl:Hl} {N:Nat} (hm:hl.n≤maxLen) (h0:0<hl.n) (hp:hl.p N=true) (k:oA wl us ug hl N) (hs:VR E us us') (hg:VR E ug ug'):FK w us' ug' hl N:=by
 have hlen:0<(hl.lg N).length:=of_decide_eq_true hp
 obtain ⟨a,cap,e,_,hc⟩:=k.1
 have r1:=sD h (s:=1) (by omega) (v:=us) ⟨a,cap,e,fun c hc'=>hc c (by omega)⟩ hs
 have r2:=sD h (s:=28) (by omega) k.2.ints hg
 exact ⟨⟨jX hm r1.1,r1.2⟩,r2⟩
theorem nJ (h:WR P E wl w) {B:Nat} {v v':Value} {L:List Nat} {hl:Hl} {Q:Value→Value→Nat→Prop} (hq:∀us ug us' ug' N,L.contains N=true→Q us ug N→VR E us us'→VR E ug ug'→FK w us' ug' hl N) (hv:∃vs:List Value,wl.ownsRow B 48 2 v L.length vs∧∀(k N:Nat),L[k]? = some N→∃us ug,vs[2*k]? = some us∧vs[2*k+1]? = some ug∧Q us ug N) (hr:VR E v v'):HsC w v' L hl:=by
 obtain ⟨vs,⟨h1,h2⟩,h3⟩:=hv
 rcases h2 with ⟨rfl,h4⟩ | ⟨g,cap,cur,rfl,_,h4,h5,h6,h7,h8⟩
 ·obtain rfl:=List.eq_nil_of_length_eq_zero h4
  cases hr with
  | bK l c=>exact ⟨none,0,rfl,fun _=>rfl,zA,fun j N hj=>by simp at hj⟩
 ·generalize hn:L.length=n at hr
  cases hr with
  | b9 a b =>
   obtain rfl:=List.eq_nil_of_length_eq_zero hn
   exact ⟨some b,0,rfl,fun e=>(by cases e),zA,fun j N hj=>by simp at hj⟩
  | slice l c ha =>
   obtain ⟨b,s,rfl,hj⟩:=um ha
   subst hn
   have hcell:∀(j:Nat) u,cur[j]? = some u→∃u',w.cell? ⟨b,0+s+j,none⟩=some u'∧VR E u u':=fun j u hu=>h.cell (hj j) (by rw[Nat.zero_add,cell_of_row _ _ _ _ _ _ h4];exact hu)
   have hvc:∀(j:Nat) x,vs[j]? = some x→cur[j]? = some x:=fun j x e=>by
    have hjl:=(List.getElem?_eq_some_iff.1 e).1
    rw[←h8,List.getElem?_take_of_lt (by omega),Array.getElem?_toList] at e
    exact e
   refine ⟨_,cap,rfl,fun e=>(by cases e),fun a l c e hp=>?_,fun j N hN=>?_⟩
   ·cases e
    obtain ⟨u',k1,_⟩:=hcell 0 _ (Array.getElem?_eq_getElem (by omega))
    obtain ⟨y,T,fr,k,_⟩:=cU k1
    exact ⟨rfl,y,T,fr,k⟩
   ·obtain ⟨us,ug,e1,e2,e3⟩:=h3 j N hN
    obtain ⟨us',k1,k2⟩:=hcell _ _ (hvc _ _ e1)
    obtain ⟨ug',k3,k4⟩:=hcell _ _ (hvc _ _ e2)
    exact ⟨b,0+s,us',ug',rfl,k1,k3,hq us ug us' ug' N (by simpa using List.mem_of_getElem? hN) e3 k2 k4⟩
theorem xN (h:WR P E wl w) {B:Nat} {v v':Value} {L:List Nat} {hl:Hl} (hm:hl.n≤maxLen) (hv:HsO wl B v L hl) (hr:VR E v v'):HsC w v' L hl :=
 nJ h (Q:=fun us ug N=>iB wl us ug hl N) (fun _ _ _ _ _ _ k a b=>BZ h hm k a b) hv hr
theorem wU (h:WR P E wl w) {B:Nat} {v v':Value} {L:List Nat} {hl:Hl} (hm:hl.n≤maxLen) (h0:0<hl.n) (hp:∀N,N ∈ L→hl.p N=true) (hv:HsN wl B v L hl) (hr:VR E v v'):HsC w v' L hl :=
 nJ h (Q:=fun us ug N=>oA wl us ug hl N) (fun _ _ _ _ N hN k a b=>AF h hm h0 (hp N (by simpa using hN)) k a b) hv hr
omit [Fns] in
theorem BD {E E':Env} {wl wl':World} (h:dM E E' wl wl') {us ug:Value} {hl:Hl} {N:Nat} (k:oA wl us ug hl N):oA wl' us ug hl N:=by
 refine ⟨cy h k.1,?_⟩
 obtain ⟨a,cap,h1,h2⟩:=k.2
 refine ⟨a,cap,h1,fun j hj=>?_⟩
 obtain ⟨b,e,k⟩:=h2 j hj
 exact ⟨b,e,fun i u hu=>h.cell (k i u hu)⟩
omit [Fns] in
theorem pE {E E':Env} {wl wl':World} (h:dM E E' wl wl') {v:Value} {L:List Nat} {hl:Hl} (hv:HsA wl v L hl):HsA wl' v L hl:=by
 rcases hv with hv | ⟨b,o,c,vs,h1,h2,h3,h4,h5⟩
 ·exact .inl hv
 ·refine .inr ⟨b,o,c,vs,h1,h2,fun j u hj=>h.cell (h3 j u hj),h4,fun k N e=>?_⟩
  obtain ⟨us,ug,a1,a2,a3⟩:=h5 k N e
  exact ⟨us,ug,a1,a2,BD h a3⟩
theorem pG (h:Cp P E wl w) {TJ:TypeId} (hJ:P.info? TJ=none) {v:Value} {L:List Nat} {hl:Hl} (hv:HsC w v L hl):∃E' wl' u,Cp P E' wl' w∧dM E E' wl wl'∧VR E' u v∧HsA wl' u L hl:=by
 obtain ⟨a,cap,rfl,ha0,hr,hc⟩:=hv
 have hLn:∀j,j<L.length→L[j]? = some (L.getD j 0):=fun j hj=>by rw[List.getElem?_eq_getElem hj];simp[List.getD,List.getElem?_eq_getElem hj]
 cases a with
 | none =>
  obtain rfl:=ha0 rfl
  cases L with
  | nil=>exact ⟨E,wl,_,h,dM.refl _ _,.bK 0 0,.inl ⟨rfl,rfl⟩⟩
  | cons N l =>
   obtain ⟨b,o,us,ug,e,_⟩:=hc 0 N rfl
   cases e
 | some ad =>
  by_cases hz:L.length=0∧cap=0
  ·obtain ⟨hz,rfl⟩:=hz
   obtain rfl:=List.eq_nil_of_length_eq_zero hz
   exact ⟨E,wl,.slice (some ⟨0,0,none⟩) 0 0,h,dM.refl _ _,.b9 _ _,.inr ⟨0,0,0,[],rfl,rfl,fun j u hj=>by simp at hj,fun u hu=>by simp at hu,fun k N e=>by simp at e⟩⟩
  ·have hrow:ad.spot=none∧∃y T fr,w.heap[ad.block]? = some (.cells y T fr):=by
    by_cases h0:0<L.length
    ·obtain ⟨b,o,us,ug,e,k,_⟩:=hc 0 _ (hLn 0 h0)
     cases e
     obtain ⟨y,T,fr,k1,_⟩:=cU k
     exact ⟨rfl,y,T,fr,k1⟩
    ·exact hr ad _ cap rfl (by omega)
   obtain ⟨b,o,sp⟩:=ad
   obtain ⟨hsp,y,T,fr,hq⟩:=hrow
   dsimp only at hsp hq
   subst hsp
   have hR:∀i,i<L.length*2→w.cell? ⟨b,o+i,none⟩=some ((w.cell? ⟨b,o+i,none⟩).getD (.bool false))∧(if i % 2=0 then (aq w ((w.cell? ⟨b,o+i,none⟩).getD (.bool false)) hl.n fun j=>((iD hl.n (L.getD (i / 2) 0) j:Nat):Int)) else iO w ((w.cell? ⟨b,o+i,none⟩).getD (.bool false)) 28 (hl.lg (L.getD (i / 2) 0)).length (gl (hl.gs (L.getD (i / 2) 0)) (hl.lg (L.getD (i / 2) 0))))∧Rt w ((w.cell? ⟨b,o+i,none⟩).getD (.bool false)):=fun i hi=>by
    obtain ⟨b',o',us,ug,e,k1,k2,k3⟩:=hc (i / 2) _ (hLn (i / 2) (by omega))
    cases e
    by_cases h2:i % 2=0
    ·rw[show 2*(i / 2)=i by omega] at k1
     rw[k1,if_pos h2]
     exact ⟨rfl,k3.1.1,k3.1.2⟩
    ·rw[show 2*(i / 2)+1=i by omega] at k2
     rw[k2,if_neg h2]
     exact ⟨rfl,k3.2.1,k3.2.2⟩
   obtain ⟨E1,wl1,Ul,h1,h2,h3⟩:=oR (P:=P) (w:=w) (R:=fun i=>(w.cell? ⟨b,o+i,none⟩).getD (.bool false)) (F:=fun i wl v=>if i % 2=0 then (aq wl v hl.n fun j=>((iD hl.n (L.getD (i / 2) 0) j:Nat):Int)) else lV wl v 28 (hl.lg (L.getD (i / 2) 0)).length (gl (hl.gs (L.getD (i / 2) 0)) (hl.lg (L.getD (i / 2) 0)))) (m:=L.length*2) (fun i E E' wl wl' v hle hf=>by
     by_cases h2:i % 2=0
     ·rw[if_pos h2] at hf ⊢
      exact cy hle hf
     ·rw[if_neg h2] at hf ⊢
      exact jJ hle hf) (fun i hi E wl hcp=>by
     obtain ⟨k1,k2,k3⟩:=hR i hi
     by_cases h2:i % 2=0
     ·simp only[if_pos h2] at k2 ⊢
      exact oM hcp hJ k2 k3
     ·simp only[if_neg h2] at k2 ⊢
      exact zX hcp hJ (by decide) k2 k3) (L.length*2) (Nat.le_refl _) h
   have hg:∀j,j<L.length*2→(Array.ofFn fun i:Fin (L.length*2)=>Ul i)[j]? = some (Ul j):=fun j hj=>by rw[Array.getElem?_eq_getElem (by simpa using hj),Array.getElem_ofFn]
   obtain ⟨E',c1,c2,c3,c4⟩:=h1.row hJ (s:=o) hq (Array.ofFn fun i:Fin (L.length*2)=>Ul i) (fun i u hu=>by
    have hi:i<L.length*2:=by have:=(Array.getElem?_eq_some_iff.1 hu).1;simpa using this
    rw[hg i hi] at hu
    cases hu
    have k:=(hR i hi).1
    rw[cell_of_row _ _ _ _ _ _ hq] at k
    refine ⟨_,?_,(h3 i hi).1⟩
    rw[cell_of_row _ _ _ _ _ _ hq,Nat.add_comm i o]
    exact k)
   refine ⟨E',_,.slice (some ⟨wl1.heap.size,0,none⟩) L.length cap,c1,h2.trans c2,.slice _ _ ?_,.inr ⟨wl1.heap.size,0,cap,(Array.ofFn fun i:Fin (L.length*2)=>Ul i).toList,rfl,by simp,fun j u hj=>?_,fun u hu=>?_,fun k N hN=>?_⟩⟩
   ·have:=c3 0
    rw[Nat.zero_add] at this
    exact this
   ·rw[Nat.zero_add]
    rw[Array.getElem?_toList] at hj
    exact c4 j u hj
   ·obtain ⟨j,hj,rfl⟩:=List.mem_iff_getElem.1 hu
    have hj':j<L.length*2:=by simpa using hj
    have e:(Array.ofFn fun i:Fin (L.length*2)=>Ul i).toList[j]=Ul j:=by simp
    rw[e]
    have k:=(h3 j hj').2
    by_cases h2:j % 2=0
    ·rw[if_pos h2] at k
     obtain ⟨x,y',hx,_⟩:=k
     rw[hx]
     rfl
    ·rw[if_neg h2] at k
     obtain ⟨x,y',hx,_⟩:=k
     rw[hx]
     rfl
   ·have hk':k<L.length:=(List.getElem?_eq_some_iff.1 hN).1
    rw[hLn k hk'] at hN
    cases hN
    have k1:=(h3 (2*k) (by omega)).2
    have k2:=(h3 (2*k+1) (by omega)).2
    rw[if_pos (by omega),show 2*k / 2=k by omega] at k1
    rw[if_neg (by omega),show (2*k+1) / 2=k by omega] at k2
    exact ⟨Ul (2*k),Ul (2*k+1),by rw[Array.getElem?_toList];exact hg _ (by omega),by rw[Array.getElem?_toList];exact hg _ (by omega),cy c2 k1,(jJ c2 k2).gs⟩
def MnC (W:World) (q s:Nat) (L:Nat→List (Nat × Nat)):Prop:=∃(y:Array Value) (T:TypeId) (fr:Nat × Nat),W.heap[q]? = some (.cells y T fr)∧∀c,c<26→∃v,y[c+s]? = some v∧iO W v 2 (L c).length (lkF (L c))∧Rt W v
theorem A7 (h:WR P E wl w) {G:Nat} {vals:Nat→Value} {L:Nat→List (Nat × Nat)} {v':Value} (hv:OnM wl G vals L) (hr:VR E (.pointer (some ⟨G,0,none⟩)) v'):∃q s,v'=.pointer (some ⟨q,s,none⟩)∧MnC w q s L:=by
 cases hr with
 | ptr ha =>
  obtain ⟨b,s,rfl,hj⟩:=um ha
  refine ⟨b,0+s,rfl,?_⟩
  have hcell:∀c,c<26→∃u',w.cell? ⟨b,0+s+c,none⟩=some u'∧VR E (vals c) u':=fun c hc=>h.cell (hj c) (by rw[Nat.zero_add];exact hv.row.cell (aR vals hc))
  obtain ⟨u0,k0,_⟩:=hcell 0 (by decide)
  obtain ⟨y,T,fr,hq,_⟩:=cU k0
  dsimp only at hq
  refine ⟨y,T,fr,hq,fun c hc=>?_⟩
  obtain ⟨u,k1,k2⟩:=hcell c hc
  rw[cell_of_row _ _ _ _ _ _ hq] at k1
  obtain ⟨r1,r2⟩:=qn h (s:=2) (by decide) (by rw[←CP];exact hv.own c hc) k2
  exact ⟨u,by rw[Nat.add_comm c];exact k1,r1,r2⟩
theorem Gk (h:Cp P E wl w) {TJ:TypeId} (hJ:P.info? TJ=none) {q s:Nat} {L:Nat→List (Nat × Nat)} (hv:MnC w q s L):∃E' wl' d,Cp P E' wl' w∧dM E E' wl wl'∧VR E' (.pointer (some ⟨d,0,none⟩)) (.pointer (some ⟨q,s,none⟩))∧pQ wl' d L:=by
 obtain ⟨y,T,fr,hq,hc⟩:=hv
 have hR:∀c,c<26→y[c+s]? = some ((y[c+s]?).getD (.bool false))∧iO w ((y[c+s]?).getD (.bool false)) 2 (L c).length (lkF (L c))∧Rt w ((y[c+s]?).getD (.bool false)):=fun c hc'=>by
  obtain ⟨v,e,k⟩:=hc c hc'
  rw[e]
  exact ⟨rfl,k⟩
 obtain ⟨E1,wl1,Ul,h1,h2,h3⟩:=oR (P:=P) (w:=w) (R:=fun c=>(y[c+s]?).getD (.bool false)) (F:=fun c wl v=>lV wl v 2 (L c).length (lkF (L c))) (m:=26) (fun i E E' wl wl' v hle hf=>jJ hle hf) (fun c hc' E wl hcp=>zX hcp hJ (by decide) (hR c hc').2.1 (hR c hc').2.2) 26 (Nat.le_refl _) h
 obtain ⟨E',c1,c2,c3,c4⟩:=h1.row hJ (s:=s) hq (tab 26 Ul) (fun i u hu=>by
  have hi:i<26:=by have:=(Array.getElem?_eq_some_iff.1 hu).1;rwa [bG] at this
  rw[aR _ hi] at hu
  cases hu
  exact ⟨_,(hR i hi).1,(h3 i hi).1⟩)
 refine ⟨E',_,wl1.heap.size,c1,h2.trans c2,.ptr ?_,Ul,fun c hc'=>c4 c _ (aR _ hc'),fun c hc'=>(jJ c2 (h3 c hc').2).links⟩
 have:=c3 0
 rw[Nat.zero_add] at this
 exact this
end
end
end Go.Proofs.YtgacaecjinlhiaaGreatDoor
