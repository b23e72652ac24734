import Derived.Test.YtgacaecjinlhiaaGreatDoorJn25
namespace Go.Proofs.YtgacaecjinlhiaaGreatDoor
section
open Go.RowKit PK Vg
structure FoS (w W:World) (q:Nat) (p:Nat→Int) (s:Nat→Nat) (n:Nat):Prop where
 res:af W w.heap.size 25 (ints 26 fun _=>0)
 bd:mV W q p s n
 below:Below w.heap.size w W
 q1:w.heap.size<q
section
variable {w W W':World} {q:Nat} {p p':Nat→Int} {s s':Nat→Nat} {n n':Nat}
theorem FoS.step (h:FoS w W q p s n) (hb:Below W.heap.size W W'):FoS w W' q p s n:=⟨h.res.below hb h.res.lt,af.below h.bd hb (af.lt h.bd),h.below.trans (hb.mono h.below.size),h.q1⟩
theorem FoS.alloc (h:FoS w W q p s n) (o:Obj):FoS w (W.alloc o) q p s n:=h.step ((Below.refl _ _).alloc (Nat.le_refl _) o)
theorem FoS.grown (h:FoS w W q p s n) (hg:W.grownBy W' (some q)) (hb:mV W' q p' s' n'):FoS w W' q p' s' n':=by
 have h1:=h.q1
 exact ⟨(hg.block _ h.res.lt (fun e=>by cases e;omega)).trans h.res,hb,h.below.grown hg h.below.size (fun k hk=>by cases hk;omega),h1⟩
theorem FoS.drew (h:FoS w W q p s n):FoS w W.drew q p s n:=⟨h.res,h.bd,h.below.drew,h.q1⟩
end
theorem Dw {W:World} {q:Nat} {p:Nat→Int} {s:Nat→Nat} {n:Nat} (h:mV W q p s n):W.rangeAt q 0 (ints 26 p).toList:=iN (T:=120) h _ _ fun i v hv=>by
 obtain ⟨h1,rfl⟩:=oP hv
 rw[Nat.zero_add,aB _ (by omega),Gy _ _ _ h1]
structure Way (m:Bo.Mn) (a b:Nat) (p0:Nat→Int) (s0:Nat→Nat) (n0:Nat) (x y:Nat) (l:List (Nat × Nat)) (j:Nat) (p:Nat→Int) (s:Nat→Nat) (n:Nat):Prop where
 said:Bo.mD m a b p s n
 ext:Bo.Ext p0 p
 same:∀i,i<n0→s i=s0 i
 le:n0≤n
 xy:p x=(y:Nat)
 yx:p y=(x:Nat)
 links:∀i,i<j→p (l.getD i (0,0)).2=(m.s (l.getD i (0,0)).1 y:Nat)
theorem Way.put {m:Bo.Mn} {a b:Nat} {p0:Nat→Int} {s0:Nat→Nat} {n0 x y:Nat} {l:List (Nat × Nat)} {j:Nat} {p:Nat→Int} {s:Nat→Nat} {n:Nat} (h:Way m a b p0 s0 n0 x y l j p s n) {u v:Nat} (hu:u<26) (hv:v<26) (hp:p u=-1) (hd:Bo.Der m a b u v) (he:(l.getD j (0,0)).2=u) (hs:m.s (l.getD j (0,0)).1 y=v):Way m a b p0 s0 n0 x y l (j+1) (upd p u (v:Nat)) (fun i=>if i=n then u else s i) (n+1):=by
 have hx:=Bo.Ext.put (p:=p) (x:=u) ((v:Nat):Int) hp
 refine ⟨h.said.put hu hv hp hd,h.ext.trans hx,fun i hi=>?_,by have:=h.le;omega,hx _ _ h.xy,hx _ _ h.yx,fun i hi=>?_⟩
 ·show (if i=n then u else s i)=s0 i
  rw[if_neg (by have:=h.le;omega)]
  exact h.same i hi
 ·by_cases e:i=j
  ·rw[e,he,hs]
   unfold upd
   rw[if_pos rfl]
  ·exact hx _ _ (h.links i (by omega))
theorem Way.keep {m:Bo.Mn} {a b:Nat} {p0:Nat→Int} {s0:Nat→Nat} {n0 x y:Nat} {l:List (Nat × Nat)} {j:Nat} {p:Nat→Int} {s:Nat→Nat} {n:Nat} (h:Way m a b p0 s0 n0 x y l j p s n) {u v:Nat} (hp:p u=(v:Nat)) (he:(l.getD j (0,0)).2=u) (hs:m.s (l.getD j (0,0)).1 y=v):Way m a b p0 s0 n0 x y l (j+1) p s n:=by
 refine ⟨h.said,h.ext,h.same,h.le,h.xy,h.yx,fun i hi=>?_⟩
 by_cases e:i=j
 ·rw[e,he,hs];exact hp
 ·exact h.links i (by omega)
theorem Way.done {m:Bo.Mn} {a b:Nat} {p0:Nat→Int} {s0:Nat→Nat} {n0 x y:Nat} {j:Nat} {p:Nat→Int} {s:Nat→Nat} {n:Nat} (h:Way m a b p0 s0 n0 x y (Bo.ml m x m.k) j p s n) (hj:j=(Bo.ml m x m.k).length):Bo.Done m p x:=by
 refine ⟨y,h.xy,h.yx,fun r hr=>?_⟩
 obtain ⟨i,hi,e⟩:=List.mem_iff_getElem.1 hr
 have:=h.links i (by omega)
 rw[List.getD_eq_getElem?_getD,List.getElem?_eq_getElem hi,e] at this
 exact this
theorem wP {l:List (Nat × Nat)} {j:Nat} (h:j<l.length):l.getD j (0,0) ∈ l:=by
 rw[List.getD_eq_getElem?_getD,List.getElem?_eq_getElem h]
 exact List.getElem_mem h
theorem DZ {m:Bo.Mn} (hm:m.Ok) {a b:Nat} (ha:a<26) (hb:b<26) {ok:Bool} {p:Nat→Int} (h:Bo.Res m a b ok p) (hc:Bo.xx m a b):ok=false∧p=fun _=>0:=by
 rcases h with ⟨_,_,h2⟩ | ⟨h1,_,h2⟩
 ·exact absurd hc (h2.o9 hm ha hb)
 ·exact ⟨h1,h2⟩
def mS (W:World) (v:Value) (k:Nat) (S:Nat→Nat→Nat):Prop:=∃g cap,v=.slice (some ⟨g,0,none⟩) k cap∧∀i c,i<k→c<26→W.cell? ⟨g,i*26+c,none⟩=some (.int .i64 (S i c:Nat))
theorem mS.below {W W':World} {v:Value} {k:Nat} {S:Nat→Nat→Nat} (h:mS W v k S) (hb:Below W.heap.size W W'):mS W' v k S:=by
 obtain ⟨g,cap,e,h1⟩:=h
 exact ⟨g,cap,e,fun i c hi hc=>(hb.cell (p:=⟨g,i*26+c,none⟩) (aA (h1 i c hi hc))).trans (h1 i c hi hc)⟩
theorem vN {W:World} {g k cap:Nat} {T:TypeId} {S:Nat→Nat→Nat} (h:af W g T (ints (k*26) (flat S))):mS W (.slice (some ⟨g,0,none⟩) k cap) k S:=⟨g,cap,rfl,fun i c hi hc=>by
 have h1:=h.cell (aB (flat S) (i:=i*26+c) (by omega))
 unfold flat at h1
 rw[show (i*26+c) / 26=i by omega,show (i*26+c) % 26=c by omega] at h1
 exact h1⟩
theorem ot:Tryz.prog.built 25 []=some (ints 26 fun _=>0):=by kernel_rfl
set_option maxRecDepth 100000 in
set_option maxHeartbeats 8000000 in
theorem yj (m:Bo.Mn) (hm:m.Ok) (hk32:m.k≤32) (a b:Nat) (ha:a<26) (hb:b<26) (ok:Bool) (pr:Nat→Int) (hres:Bo.Res m a b ok pr) (G:Nat) (vk:Value) (w:World) (hmn:pQ w G (fun c=>Bo.ml m c m.k)) (hks:mS w vk m.k m.s):Calls Tryz.prog 36 #[.pointer (some ⟨G,0,none⟩),vk,.int .i64 (a:Nat),.int .i64 (b:Nat)] w fun e w'=>e=.returned (.tuple #[.agg (ints 26 pr),.bool ok])∧Below w.heap.size w w':=by
 obtain ⟨vals,hmrow,hlk⟩:=hmn
 obtain ⟨gk,ck,rfl,hkc⟩:=hks
 have HMR:=(show Hid (∀c,c<26→w.cell? ⟨G,c,none⟩=some (vals c)) from hmrow)
 have HLK:=(show Hid (∀c,c<26→jG w (vals c) (Bo.ml m c m.k)) from hlk)
 have HKC:=(show Hid (∀i c,i<m.k→c<26→w.cell? ⟨gk,i*26+c,none⟩=some (.int .i64 (m.s i c:Nat))) from hkc)
 have HCONF:=(show Hid (Bo.xx m a b→ok=false∧pr=fun _=>0) from fun hc=>DZ hm ha hb hres hc)
 have HTRUE:=(show Hid (∀p,Bo.Sub m a b p→Bo.Closed m a b p→ok=true∧ints 26 pr=ints 26 p) from fun p h1 h2=>by
  have:=Bo.Res.unique hm ha hb hres (.inl ⟨rfl,h1,h2⟩)
  exact ⟨this.1,bO this.2⟩)
 have HM:=(show Hid m.Ok from hm)
 have HDL:=(show Hid (∀x y,Bo.Der m a b x y→x<26∧y<26) from fun x y hd=>hd.lt hm ha hb)
 have hz26:=cm c6
 have hr0:=af.new w 25 (ints 26 fun _=>0)
 have hb0:=(Below.refl w.heap.size w).alloc (Nat.le_refl _) (.cells (ints 26 fun _=>0) 25)
 clear hmrow hlk hkc hres hm
 go_enter Tryz.func36,Tryz.ntmps36
 go_upto_region 1 with fail
 generalize hW0:w.alloc (.cells (ints 26 fun _=>0) 25)=W0 at *
 clear hz26 hW0
 go_wp2_with fail
 refine (Av W0).mono ?_
 rintro e W1 ⟨q,rfl,hq,hbd,hbw⟩
 have h1:FoS w W1 q (fun _=>-1) (fun _=>0) 0:=⟨hr0.below hbw hr0.lt,hbd,hb0.trans (hbw.mono hb0.size),by have:=hr0.lt;omega⟩
 clear hr0 hb0 hbd hbw hq
 go_wp2_with fail
 refine (tv q _ _ 0 a b ha (fun _=>by decide) _ h1.bd).mono ?_
 rintro e W2 ⟨hgr,⟨_,rfl,hbd⟩ | ⟨hne,_⟩⟩
 case inr=>exact absurd rfl hne
 have hg0:=h1.grown hgr hbd
 have hsd0:Bo.mD m a b (upd (fun _=>(-1:Int)) a (b:Nat)) (fun j=>if j=0 then a else 0) 1 :=
  Bo.mD.put (m:=m) (a:=a) (b:=b) (p:=fun _=>-1) (s:=fun _=>0) (n:=0) ⟨fun j hj=>by omega,fun i j hi=>by omega,fun j hj=>by omega,fun x _ h=>absurd rfl h,fun x _=>.inl rfl⟩ ha hb rfl .base
 have hpa0:upd (fun _=>(-1:Int)) a ((b:Nat):Int) a=(b:Nat):=by simp
 clear h1 hgr hbd
 generalize upd (fun _=>(-1:Int)) a ((b:Nat):Int)=p0 at *
 generalize (fun j=>if j=0 then a else 0)=s0 at *
 go_wp2_with fail
 go_loopw [11] (fun i W=>∃(d:Nat) (p:Nat→Int) (s:Nat→Nat) (n:Nat),d≤n∧i=.int .i64 (d:Nat)∧FoS w W q p s n∧Bo.mD m a b p s n∧p a=(b:Nat)∧∀j,j<d→Bo.Done m p (s j)) (fun i _=>((26:Int)-intOf i).toNat)
 case atStart=>exact ⟨0,p0,s0,_,by omega,rfl,hg0,hsd0,hpa0,fun j hj=>by omega⟩
 case round =>
  clear hg0 hsd0 hpa0
  clear p0 s0
  obtain ⟨d,p,s,n,hd,rfl,hg,hsd,hpa,hdn⟩:=hrel
  have hn26:=hsd.le
  have cn:=af.cell (T:=120) hg.bd (aB (bdF p s n) (i:=52) (by omega))
  rw[Kb] at cn
  by_cases hlt:d<n
  case neg =>
   obtain rfl:d=n:=by omega
   have hnn:¬((d:Nat):Int)<((d:Nat):Int):=by omega
   have HT:=(show Hid _ from HTRUE.out p hsd.sub (Bo.Bl HM.out hsd hpa hdn))
   have HRG:=(show Hid _ from Dw hg.bd)
   have hrs:=hg.res
   have HBE:=(show Hid (Below w.heap.size w wr) from hg.below)
   clear hlt hg hsd hpa hdn hn26
   go_wp2_with (first | refine wpList_load_mid rfl 25 _ rfl q 0 rfl (ints 26 p).toList _ HRG.out Tryz.underlying25 rfl (by rw[Array.length_toList,ag];exact aj) ?_ | refine wpList_store_row rfl 25 _ _ rfl w.heap.size (ints 26 p) rfl rfl 25 _ hrs (by rw[ag];exact aj) (by simp only[ag]) (aI _ _) ?_)
   exact bodyPost_ret (v:=.tuple #[.agg (ints 26 p),.bool true]) (aG rfl _ _ w.heap.size 25 _ (0,0) _ _ rfl rfl (hrs.row _) Tryz.underlying25 rfl (by rw[ag];exact aj)) rfl ⟨by rw[HT.out.1,HT.out.2],Below.setRow HBE.out _ (Nat.le_refl _) _⟩
  have HLD:Hid (d<n∧d<26):=⟨hlt,by omega⟩
  have hltd:(d:Int)<(n:Int):=by omega
  have hd26:(d:Int)<26:=by omega
  have hxl:=hsd.lt d hlt
  obtain ⟨x,hx⟩:∃x,x=s d:=⟨_,rfl⟩
  obtain ⟨y,hy26,hpx,hder⟩:∃y:Nat,y<26∧p x=(y:Int)∧Bo.Der m a b x y:=by
   rcases hsd.sub x (by rw[hx];exact hxl) with h | h
   ·rw[hx] at h;exact absurd h (hsd.set d hlt)
   ·exact h
  have csd:=af.cell (T:=120) hg.bd (aB (bdF p s n) (i:=26+d) (by omega))
  rw[Lg _ _ _ (by omega),←hx] at csd
  rw[←hx] at hxl
  have cpx:=af.cell (T:=120) hg.bd (aB (bdF p s n) (i:=x) (by omega))
  rw[Gy _ _ _ hxl,hpx] at cpx
  have HXD:=(show Hid _ from hx)
  have hx2:(x:Int)<26:=by omega
  have hy2:(y:Int)<26:=by omega
  have HDER:=(show Hid _ from hder)
  have HPX:=(show Hid _ from hpx)
  have HSD:=(show Hid _ from hsd)
  have HPA:=(show Hid _ from hpa)
  have HDN:=(show Hid _ from hdn)
  have HG:=(show Hid _ from hg)
  clear hsd hpa hdn hder hpx hx hlt
  go_wp2_with fail
  refine (tv q p s n y x hy26 (fun h=>HSD.out.Ia hy26 h) _ HG.out.bd).mono ?_
  have hcases:∀(e:Ending) (W3:World),(wr.grownBy W3 (some q)∧((p y=-1∧e=.returned (.bool true)∧mV W3 q (upd p y (x:Nat)) (fun j=>if j=n then y else s j) (n+1))∨(p y≠-1∧e=.returned (.bool (p y==((x:Nat):Int)))∧mV W3 q p s n)))→(e=.returned (.bool false)∧Bo.xx m a b∧FoS w W3 q p s n)∨(e=.returned (.bool true)∧∃p2 s2 n2,FoS w W3 q p2 s2 n2∧Way m a b p s n x y (Bo.ml m x m.k) 0 p2 s2 n2):=by
   rintro e W3 ⟨hgr,⟨h1,h2,h3⟩ | ⟨h1,h2,h3⟩⟩
   ·have hx3:=Bo.Ext.put (p:=p) (x:=y) ((x:Nat):Int) h1
    refine .inr ⟨h2,_,_,_,HG.out.grown hgr h3,HSD.out.put hy26 hxl h1 HDER.out.sym,hx3,fun i hi=>if_neg (by omega),by omega,hx3 _ _ HPX.out,by simp,fun i hi=>by omega⟩
   ·by_cases e2:p y=((x:Nat):Int)
    ·refine .inr ⟨by rw[h2,e2];simp,_,_,_,HG.out.grown hgr h3,HSD.out,Bo.Ext.refl _,fun i hi=>rfl,Nat.le_refl _,HPX.out,e2,fun i hi=>by omega⟩
    ·refine .inl ⟨by rw[h2];simp[e2],?_,HG.out.grown hgr h3⟩
     rcases HSD.out.sub y hy26 with h | ⟨z,_,hz,hdz⟩
     ·exact absurd h h1
     ·exact ⟨y,z,x,hdz,HDER.out.sym,fun e3=>e2 (by rw[hz,e3])⟩
  have HCS:=(show Hid _ from hcases)
  clear hcases HG csd cpx cn
  intro e W3 hpost
  rcases HCS.out e W3 hpost with ⟨rfl,hcf,hg3⟩ | ⟨rfl,p2,s2,n2,hg3,hway⟩
  ·have HRS:=(show Hid _ from HCONF.out hcf)
   have hrs:=hg3.res
   have hbe:=hg3.below
   clear hcf hg3 hpost HCS
   go_wp2_with (first | refine cP rfl 25 rfl (ints 26 fun _=>0) ot ?_ | refine wpList_store_row rfl 25 _ _ rfl w.heap.size (ints 26 fun _=>0) rfl rfl 25 _ hrs (by rw[ag];exact aj) (by simp only[ag]) (aI _ _) ?_)
   exact bodyPost_ret (v:=.tuple #[.agg (ints 26 fun _=>0),.bool false]) (aG rfl _ _ w.heap.size 25 _ (0,0) _ _ rfl rfl (hrs.row _) Tryz.underlying25 rfl (by rw[ag];exact aj)) rfl ⟨by rw[HRS.out.1,HRS.out.2],Below.setRow hbe _ (Nat.le_refl _) _⟩
  clear hpost HCS
  have cml:=(hg3.below.cell (aA (HMR.out x hxl))).trans (HMR.out x hxl)
  obtain ⟨al,cl,hev,hlc⟩:=HLK.out x hxl
  rw[hev] at cml
  have HLC:=(show Hid (∀c,c<(Bo.ml m x m.k).length→∃b,al=some ⟨b,0,none⟩∧w.cell? ⟨b,c*2,none⟩=some (.int .i64 (((Bo.ml m x m.k).getD c (0,0)).1:Nat))∧w.cell? ⟨b,c*2+1,none⟩=some (.int .i64 (((Bo.ml m x m.k).getD c (0,0)).2:Nat))) from hlc)
  have hll:=Bo.xw m x m.k
  have HLM:=(show Hid (∀j,j<(Bo.ml m x m.k).length→((Bo.ml m x m.k).getD j (0,0)).1<m.k∧Bo.Der m a b ((Bo.ml m x m.k).getD j (0,0)).2 (m.s ((Bo.ml m x m.k).getD j (0,0)).1 y)) from fun j hj=>⟨(Bo.xe m x m.k (wP hj)).1,Bo.EZ (wP hj) HDER.out⟩)
  have HDONE:=(show Hid (∀j p2 s2 n2,Way m a b p s n x y (Bo.ml m x m.k) j p2 s2 n2→j=(Bo.ml m x m.k).length→Bo.Done m p2 x) from fun j p2 s2 n2 h1 h2=>h1.done h2)
  obtain ⟨L,hL⟩:∃L,L=Bo.ml m x m.k:=⟨_,rfl⟩
  rw[←hL] at HLC hll HLM HDONE cml hway
  clear hev hlc hL
  go_wp2_with fail
  clear cml
  go_loopw [53] (fun i W=>∃(j:Nat) (p2:Nat→Int) (s2:Nat→Nat) (n2:Nat),j≤L.length∧i=.int .i64 (j:Nat)∧FoS w W q p2 s2 n2∧Way m a b p s n x y L j p2 s2 n2) (fun i _=>((L.length:Int)-intOf i).toNat)
  case atStart=>exact ⟨0,p2,s2,n2,by omega,rfl,hg3,hway⟩
  case round =>
   clear hg3 hway
   clear p2 s2 n2
   obtain ⟨j,p2,s2,n2,hj,rfl,hg,hway⟩:=hrel
   by_cases hlt:j<L.length
   case neg =>
    obtain rfl:j=L.length:=by omega
    have hnn:¬((L.length:Nat):Int)<((L.length:Nat):Int):=by omega
    have HFIN:Hid (d+1≤n2∧Bo.mD m a b p2 s2 n2∧p2 a=(b:Nat)∧∀j,j<d+1→Bo.Done m p2 (s2 j)):=by
     have h1:=HLD.out.1
     have h2:=hway.le
     refine ⟨by omega,hway.said,hway.ext _ _ HPA.out,fun i hi=>?_⟩
     rw[hway.same i (by omega)]
     by_cases e:i=d
     ·rw[e,←HXD.out]
      exact HDONE.out _ _ _ _ hway rfl
     ·exact (HDN.out i (by omega)).ext hway.ext
    have HG:=(show Hid _ from hg)
    clear hg hway hlt
    go_wp2
    go_roundw
    case rel=>exact ⟨d+1,p2,s2,n2,HFIN.out.1,by go_num,HG.out,HFIN.out.2.1,HFIN.out.2.2.1,HFIN.out.2.2.2⟩
    case measure=>have:=HLD.out.2;simp[intOf];omega
   have HLT:Hid (j<L.length):=hlt
   have hlt2:(j:Int)<(L.length:Int):=by omega
   obtain ⟨bl,rfl,c1,c2⟩:=HLC.out j hlt
   have d1:=(hg.below.cell (p:=⟨bl,j*2,none⟩) (aA c1)).trans c1
   have d2:=(hg.below.cell (p:=⟨bl,j*2+1,none⟩) (aA c2)).trans c2
   obtain ⟨hik,hdr⟩:=HLM.out j hlt
   have hol:=HDL.out _ _ hdr
   have HDR:=(show Hid _ from hdr)
   obtain ⟨i,hi⟩:∃i,i=(L.getD j (0,0)).1:=⟨_,rfl⟩
   obtain ⟨o,ho⟩:∃o,o=(L.getD j (0,0)).2:=⟨_,rfl⟩
   rw[←hi] at d1 hik hol HDR
   rw[←ho] at d2 hol HDR
   have ckey:=HKC.out i y hik hy26
   have HCK:=(show Hid _ from ckey)
   obtain ⟨v,hv⟩:∃v,v=m.s i y:=⟨_,rfl⟩
   rw[←hv] at HCK hol HDR
   have HIO:=(show Hid (o=(L.getD j (0,0)).2∧v=m.s (L.getD j (0,0)).1 y) from ⟨ho,by rw[hv,hi]⟩)
   have HWAY:=(show Hid _ from hway)
   have HG:=(show Hid _ from hg)
   have ho2:(o:Int)<26:=by omega
   have hi2:(i:Int)<(m.k:Int):=by omega
   clear hi ho hv hlt c1 c2 hdr ckey hway hg
   go_upto_region 13 with fail
   have hg4:=HG.out.alloc (.cells #[.int .i64 (i:Nat),.int .i64 (o:Nat)] 75)
   have hr15:=af.new wr 75 #[.int .i64 (i:Nat),.int .i64 (o:Nat)]
   have hl15:=af.lt HG.out.bd
   generalize wr.alloc (.cells #[.int .i64 (i:Nat),.int .i64 (o:Nat)] 75)=V4 at *
   obtain ⟨q15,hq15⟩:∃x,x=wr.heap.size:=⟨_,rfl⟩
   rw[←hq15] at hr15 hl15 ⊢
   clear hq15 HG d1 d2
   have hSd:FoS w V4.drew q p2 s2 n2∧af V4.drew q15 75 #[.int .i64 (i:Nat),.int .i64 (o:Nat)]:=⟨hg4.drew,hr15⟩
   clear hg4 hr15
   refine wp_region_noPanic ?_
   refine wp_region_held_drew (S:=fun W=>∃p2 s2 n2,FoS w W q p2 s2 n2∧af W q15 75 #[.int .i64 (i:Nat),.int .i64 (o:Nat)]) (by kernel_rfl) ⟨_,_,_,hSd⟩ (fun hS=>?_)
   obtain ⟨U,hU⟩:∃x,x=V4.drew:=⟨_,rfl⟩
   rw[←hU] at hS hSd ⊢
   clear hU
   refine vtk 0 57 (.pointer (some ⟨q,0,none⟩)) rfl (fun W hW=>by clear hS hW;go_simp) hS ?_
   simp only[zsA,zsB,zsC]
   refine vtk 1 58 (.pointer (some ⟨q15,1,none⟩)) rfl (fun W hW=>by clear hS hW;go_simp) hS ?_
   simp only[zsA,zsB,zsC]
   refine vtk 2 59 (.int .i64 (o:Nat)) rfl (fun W hW=>by obtain ⟨_,_,_,hWa,hW⟩:=hW;have u:=hW.cell (i:=1) rfl;clear hS hW;go_simp) hS ?_
   simp only[zsA,zsB,zsC]
   refine vtk 3 60 (.slice (some ⟨gk,0,none⟩) m.k ck) rfl (fun W hW=>by clear hS hW;go_simp) hS ?_
   simp only[zsA,zsB,zsC]
   refine vtk 4 61 (.pointer (some ⟨q15,0,none⟩)) rfl (fun W hW=>by clear hS hW;go_simp) hS ?_
   simp only[zsA,zsB,zsC]
   refine vtk 5 62 (.int .i64 (i:Nat)) rfl (fun W hW=>by obtain ⟨_,_,_,hWa,hW⟩:=hW;have u:=hW.cell (i:=0) rfl;clear hS hW;go_simp) hS ?_
   simp only[zsA,zsB,zsC]
   refine vtk 6 63 (.int .i64 (y:Nat)) rfl (fun W hW=>by clear hS hW;go_simp) hS ?_
   simp only[zsA,zsB,zsC]
   refine vtk 7 64 (.pointer (some ⟨gk,i*26,none⟩)) rfl (fun W hW=>by clear hS hW;go_simp) hS ?_
   simp only[zsA,zsB,zsC]
   refine vtk 8 65 (.pointer (some ⟨gk,i*26+y,none⟩)) rfl (fun W hW=>by clear hS hW;go_simp) hS ?_
   simp only[zsA,zsB,zsC]
   refine vtk 9 66 (.int .i64 (v:Nat)) rfl (fun W hW=>by obtain ⟨_,_,_,hWa,hW⟩:=hW;have u:=(hWa.below.cell (p:=⟨gk,i*26+y,none⟩) (aA HCK.out)).trans HCK.out;clear hS hW;go_simp) hS ?_
   simp only[zsA,zsB,zsC]
   refine rd1 10 rfl (fun K hK=>?_)
   go_simp
   refine (tv q p2 s2 n2 o v hol.1 (fun h=>HWAY.out.said.Ia hol.1 h) _ hSd.1.bd).mono ?_
   have hcases:∀(e:Ending) (W3:World),(U.grownBy W3 (some q)∧((p2 o=-1∧e=.returned (.bool true)∧mV W3 q (upd p2 o (v:Nat)) (fun j=>if j=n2 then o else s2 j) (n2+1))∨(p2 o≠-1∧e=.returned (.bool (p2 o==((v:Nat):Int)))∧mV W3 q p2 s2 n2)))→af W3 q15 75 #[.int .i64 (i:Nat),.int .i64 (o:Nat)]∧((e=.returned (.bool false)∧Bo.xx m a b∧FoS w W3 q p2 s2 n2)∨(e=.returned (.bool true)∧∃p3 s3 n3,FoS w W3 q p3 s3 n3∧Way m a b p s n x y L (j+1) p3 s3 n3)):=by
    rintro e W3 ⟨hgr,hor⟩
    refine ⟨(hgr.block _ hSd.2.lt (fun e=>by cases e;omega)).trans hSd.2,?_⟩
    rcases hor with ⟨h1,h2,h3⟩ | ⟨h1,h2,h3⟩
    ·exact .inr ⟨h2,_,_,_,hSd.1.grown hgr h3,HWAY.out.put hol.1 hol.2 h1 HDR.out HIO.out.1.symm HIO.out.2.symm⟩
    ·by_cases e2:p2 o=((v:Nat):Int)
     ·exact .inr ⟨by rw[h2,e2];simp,_,_,_,hSd.1.grown hgr h3,HWAY.out.keep e2 HIO.out.1.symm HIO.out.2.symm⟩
     ·refine .inl ⟨by rw[h2];simp[e2],?_,hSd.1.grown hgr h3⟩
      rcases HWAY.out.said.sub o hol.1 with h | ⟨z,_,hz,hdz⟩
      ·exact absurd h h1
      ·exact ⟨o,z,v,hdz,HDR.out,fun e3=>e2 (by rw[hz,e3])⟩
   intro e W3 hpost
   obtain ⟨hl3,hor⟩:=hcases e W3 hpost
   clear hpost hcases hSd hS
   rcases hor with ⟨rfl,hcf,hg3⟩ | ⟨rfl,p3,s3,n3,hg3,hw3⟩
   ·refine hK.out _ _ ⟨_,_,_,hg3,hl3⟩ (fun hS=>?_)
    clear hK K
    refine vtk 11 68 (.bool true) rfl (fun W hW=>by clear hS hW;go_simp) hS ?_
    simp only[zsA,zsB,zsC]
    refine wpAnyH_done (by kernel_rfl) ?_ _
    refine NoPanic.normal ?_
    have HRS:=(show Hid _ from HCONF.out hcf)
    have hrs:=hg3.res
    have hbe:=hg3.below
    clear hcf hg3 hS hl3
    go_wp2_with (first | refine cP rfl 25 rfl (ints 26 fun _=>0) ot ?_ | refine wpList_store_row rfl 25 _ _ rfl w.heap.size (ints 26 fun _=>0) rfl rfl 25 _ hrs (by rw[ag];exact aj) (by simp only[ag]) (aI _ _) ?_)
    exact bodyPost_ret (v:=.tuple #[.agg (ints 26 fun _=>0),.bool false]) (aG rfl _ _ w.heap.size 25 _ (0,0) _ _ rfl rfl (hrs.row _) Tryz.underlying25 rfl (by rw[ag];exact aj)) rfl ⟨by rw[HRS.out.1,HRS.out.2],Below.setRow hbe _ (Nat.le_refl _) _⟩
   ·refine hK.out _ _ ⟨_,_,_,hg3,hl3⟩ (fun hS=>?_)
    clear hK K
    refine vtk 11 68 (.bool false) rfl (fun W hW=>by clear hS hW;go_simp) hS ?_
    simp only[zsA,zsB,zsC]
    refine wpAnyH_done (by kernel_rfl) ?_ _
    refine NoPanic.normal ?_
    have HG3:=(show Hid _ from hg3)
    have HW3:=(show Hid _ from hw3)
    clear hg3 hS hl3 hw3
    go_wp2_with fail
    go_roundw
    case rel=>exact ⟨j+1,p3,s3,n3,HLT.out,by go_num,HG3.out,HW3.out⟩
    case measure=>have:=HLT.out;simp[intOf];omega
end
section
open Go.RowKit PK
end
section
open Go.RowKit PK
namespace Rj
section
variable {p q:Nat→Nat}
def hd (r:Nat→Nat) (x:Nat):Nat:=((List.range 26).find? fun h=>(Pm.cyc r h).contains x).getD 0
end
end Rj
end
section
open Go.RowKit PK Vg
def spl (l:List UInt8) (i:Nat):Int:=if i<l.length then ((Vg.num (l.getD i 0):Nat):Int) else 0
def miB:List UInt8:=[89,82,85,72,81,83,76,68,80,88,78,71,79,75,77,73,69,66,70,90,67,87,86,74,65,84]
def miC:List UInt8:=[70,86,80,74,73,65,79,89,69,68,82,90,88,87,71,67,84,75,85,81,83,66,78,77,72,76]
def miP (name:List UInt8):Nat→Int:=if name=[66] then spl miB else if name=[67] then spl miC else fun _=>0
def miE (name:List UInt8):Int:=if name=[66]∨name=[67] then 0 else 7
theorem kJ {l:List UInt8} (h:(l.all fun c=>decide (65≤c.toNat∧c.toNat≤90))=true):Ls l:=fun c hc=>by
 have:=List.all_eq_true.1 h c hc
 simpa using this
theorem ia (A:List UInt8) (t:ByteArray):(t.toList==A)=decide (t.data.toList=A):=by
 rw[jE]
 by_cases h:t.data.toList=A
 ·rw[decide_eq_true h,h];simp
 ·rw[decide_eq_false h];exact beq_false_of_ne h
end
section
open Go.RowKit PK Vg
def kw1:List UInt8:=[69,75,77,70,76,71,68,81,86,90,78,84,79,87,89,72,88,85,83,80,65,73,66,82,67,74]
def kw2:List UInt8:=[65,74,68,75,83,73,82,85,88,66,76,72,87,84,77,67,81,71,90,78,80,89,70,86,79,69]
def kw3:List UInt8:=[66,68,70,72,74,76,67,80,82,84,88,86,90,78,89,69,73,87,71,65,75,77,85,83,81,79]
def kw4:List UInt8:=[69,83,79,86,80,90,74,65,89,81,85,73,82,72,88,76,78,70,84,71,75,68,67,77,87,66]
def kw5:List UInt8:=[86,90,66,82,71,73,84,89,85,80,83,68,78,72,76,88,65,87,77,74,81,79,70,69,67,75]
def knT:List (List UInt8 × List UInt8 × Nat):=[([73],kw1,16),([73,73],kw2,4),([73,73,73],kw3,21),([73,86],kw4,9),([86],kw5,25)]
def knI (name:List UInt8):Option (List UInt8 × List UInt8 × Nat):=knT.find? fun x=>x.1==name
def knW (name:List UInt8):Nat→Int:=match knI name with
 | some x=>spl x.2.1
 | none=>fun _=>0
def knN (name:List UInt8):List Nat:=match knI name with
 | some x=>[x.2.2]
 | none=>[]
def knE (name:List UInt8):Int:=match knI name with
 | some _=>0
 | none=>7
end
section
open Go.RowKit PK Vg
theorem Af (f:Nat→Int) (a:Option Addr) (n c:Nat):Tryz.prog.built 104 [(0,.agg (ints 26 f)),(1,.slice a n c)]=some (whl f (.slice a n c)):=by kernel_rfl
theorem xG:Tryz.prog.built 104 []=some (whl (fun _=>0) (.slice none 0 0)):=by kernel_rfl
theorem FZ {name:List UInt8} (h:∀i,i<5→(knT.getD i ([],[],0)).1≠name):knI name=none:=by
 unfold knI
 rw[List.find?_eq_none]
 intro x hx hb
 obtain ⟨i,hi,e⟩:=List.mem_iff_getElem.1 hx
 have h1:=h i hi
 rw[List.getD_eq_getElem?_getD,List.getElem?_eq_getElem hi,e] at h1
 exact h1 (eq_of_beq hb)
theorem gS {W:World} {v:Value} {n:Nat} {f:Nat→Int} (h:aq W v n f) (g:Nat) (c:Array Value) (hne:v.ownBlock≠some g):aq (W.setRow g c) v n f:=by
 obtain ⟨a,cap,rfl,h2,h3⟩:=h
 refine ⟨a,cap,rfl,h2,fun i hi=>?_⟩
 obtain ⟨b,o,rfl,hcell⟩:=h3 i hi
 exact ⟨b,o,rfl,(cell_setRow_other W g c ⟨b,o+i,none⟩ (fun e=>hne (congrArg some e))).trans hcell⟩
theorem EN (W:World) (x:Nat):aq (W.alloc (.cells #[.int .i64 (x:Nat)] 3)) (.slice (some ⟨W.heap.size,0,none⟩) 1 1) [x].length (fun i=>(([x].getD i 0:Nat):Int)) :=
 ⟨_,1,rfl,(by decide:1≤maxLen),fun c hc=>⟨W.heap.size,0,rfl,by
  have hc0:c=0:=by simpa using hc
  subst hc0
  exact (af.new W 3 #[.int .i64 (x:Nat)]).cell rfl⟩⟩
end
namespace PK
open Go.RowKit
def eqI (n:Nat) (f g:Nat→Int):Bool:=(List.range n).all fun i=>f i==g i
theorem GS (n:Nat) (f g:Nat→Int):eqI n f g=true↔∀i,i<n→f i=g i:=by simp[eqI]
theorem CC (n:Nat) (f:Nat→Int):eqI n f f=true:=(GS n f f).2 fun _ _=>rfl
theorem j4 {P:Program} (w:World) (e:TypeId) (he:P.underlying e=some (.int .i64)) (n:Nat) (f:Nat→Int) (i:Nat) (hi:i<n):(part e (ints n f) i).run P w=.ok (.int .i64 (f i)) w:=by
 simp[part,isAgg,Sem.run_bind,run_underlying he,aB f hi]
theorem gH {P:Program} (w:World) (d:Nat) (t e:TypeId) (n:Nat) (hu:P.underlying t=some (.array n e)) (he:P.underlying e=some (.int .i64)) (hs:(P.info? e).map (·.size)=some 1) (f g:Nat→Int) :
  (Op.equalIn (d+2) t (.agg (ints n f)) (.agg (ints n g))).run P w=.ok (eqI n f g) w:=by
 cases hq:P.info? e with
 | none=>simp[hq] at hs
 | some i =>
  have h1:i.size=1:=by simpa [hq] using hs
  have hsz:∀W,(sizeOf e).run P W=.ok 1 W:=fun W=>by simp[sizeOf,typeInfo,hq,h1]
  rw[Op.equalIn]
  simp only[Sem.run_bind,run_underlying hu,Result.andThen_ok,hsz,Nat.mul_one,Std.Legacy.Range.forIn_eq_forIn_range',Std.Legacy.Range.size,Nat.sub_zero,Nat.add_sub_cancel,Nat.div_one]
  unfold eqI
  rw[List.range_eq_range']
  have hL:∀i ∈ List.range' 0 n,i<n:=fun i hi=>by simp at hi;omega
  revert hL
  generalize List.range' 0 n=L
  intro hL
  induction L with
  | nil=>simp
  | cons s L ih =>
   have hs':s<n:=hL s (by simp)
   have ih':=ih fun i hi=>hL i (by simp[hi])
   rw[List.forIn_cons]
   simp only[Sem.run_bind,j4 w e he n f s hs',j4 w e he n g s hs',Result.andThen_ok,run_equalIn_int w d e .i64 .i64 (f s) (g s) he,List.all_cons]
   cases hb:(f s==g s)
   ·simp
   ·simp only[Bool.not_true,Bool.false_eq_true,if_false,Sem.run_pure,Result.andThen_ok,Bool.true_and]
    exact ih'
end PK
section
open Go.RowKit PK Vg
end
section
open Go.RowKit PK Vg
section
variable {w W W':World} {a b c:Value} {rf pl:Nat→Int} {q3:Nat} {V:Nat→Value} {C:Nat→Nat→Nat}
end
section
variable {w W W':World} {a b c:Value} {rf pl:Nat→Int} {q3 q8 q9:Nat} {V V2:Nat→Value} {C C2:Nat→Nat→Nat}
end
section
variable {w W W':World} {a b c:Value} {rf pl:Nat→Int} {q10 q11:Nat} {C C2:Nat→Nat→Nat}
end
end
section
open Go.RowKit PK Vg
theorem uT:(Tryz.prog.info? 25).map (fun i=>(i.zero,i.size,i.bytes))=some (some (.agg (ints 26 fun _=>0)),26,208):=by kernel_rfl
theorem AV (n:Nat):madeCells (ints 26 fun _=>0) (n*26)=ints (n*26) fun _=>0:=by
 apply Array.ext_getElem?
 intro i
 by_cases hi:i<n*26
 ·rw[aB _ hi]
  have h2:(ints 26 fun _=>0)[i % 26]? = some (.int .i64 0):=aB (fun _=>0) (Nat.mod_lt _ (by decide))
  simp[madeCells,hi,ag]
  rw[getElem!_def,h2]
 ·rw[Array.getElem?_eq_none (by rw[size_madeCells];omega),Array.getElem?_eq_none (by rw[ag];omega)]
theorem p8 (n:Nat) (hn:n≤1000) (w:World):(Instr.makeSlice 81 (.int .i64 (n:Int)) (.int .i64 (n:Int))).run Tryz.prog w=.ok (.slice (some ⟨w.heap.size,0,none⟩) n n) (w.alloc (.cells (ints (n*26) fun _=>0) 25)):=by
 obtain ⟨i,hi,hz,hs,hb⟩:=fe uT
 have hr:=run_make (P:=Tryz.prog) w 81 25 i _ Tryz.underlying81 hi hz .i64 .i64 n n (by omega) (Int.le_refl _) (by rw[hb];omega) (by omega)
 rw[hr,hs]
 have hc:(Value.agg (ints 26 fun _=>0)).cells=ints 26 fun _=>0:=rfl
 simp only[Int.toNat_natCast,hc,AV]
structure UnS (w W:World) (a b c:Value) (rf pl:Nat→Int) (M:Om.Ma) (q q7 n k:Nat):Prop where
 mg:cO w W a b c rf pl
 rot:bn W q M (Om.steps M M.st k)
 keys:af W q7 25 (ints (n*26) (gp (yL M) k))
 q1:w.heap.size<q
 q2:q<q7
set_option maxRecDepth 100000 in
set_option maxHeartbeats 4000000 in
theorem EX (M:Om.Ma) (n:Nat) (hn:n≤1000) (a b c:Value) (rf pl:Nat→Int) (w:World) (HW:Hid (∀W,Below w.heap.size w W→Calls Tryz.prog 58 #[.agg (mac a b c rf (Pm.up fun i=>i))] W fun e w'=>∃q,e=.returned (.tuple #[.pointer (some ⟨q,0,none⟩),.int .i64 0])∧W.heap.size≤q∧bn w' q M M.st∧Below W.heap.size W w')):Calls Tryz.prog 34 #[.agg (mac a b c rf pl),.int .i64 (n:Nat)] w fun e w'=>∃q7,e=.returned (.slice (some ⟨q7,0,none⟩) n n)∧w.heap.size≤q7∧af w' q7 25 (ints (n*26) (flat (yL M)))∧Below w.heap.size w w':=by
 have h0:=cO.new w a b c rf pl
 have HS:=(show Hid (∀W,Calls Tryz.prog 57 #[] W fun e w'=>e=.returned (.agg (ints 26 (Pm.up fun i=>i)))∧Below W.heap.size W w') from pZ)
 go_enter Tryz.func34,Tryz.ntmps34
 go_wp2_with fail
 refine (HS.out _).mono ?_
 rintro e W1 ⟨rfl,hb⟩
 have h1:=h0.step hb
 clear hb h0 HS
 have hth:=mM h1.row (o:=29) (n:=26) (by rw[aE];decide)
 go_upto_region 2 with (first | refine wpList_store_mid rfl 25 _ _ rfl w.heap.size 29 (ints 26 (Pm.up fun i=>i)) rfl rfl (by rw[ag];exact hth) (by rw[ag];exact aj) (aI _ _) ?_)
 have h2:cO w (W1.setCells w.heap.size 29 (ints 26 (Pm.up fun i=>i)).toList) a b c rf (Pm.up fun i=>i):=by
  refine ⟨?_,cR (Nat.le_refl _) h1.below⟩
  have:=dK (l:=(ints 26 (Pm.up fun i=>i)).toList) (o:=29) h1.row
  rw[mI] at this
  exact this
 generalize W1.setCells w.heap.size 29 (ints 26 (Pm.up fun i=>i)).toList=V1 at *
 clear h1 hth
 have hmr:=h2.row
 go_wp2_with (first | refine wpList_load_row rfl 27 _ rfl w.heap.size rfl 27 (mac a b c rf (Pm.up fun i=>i)) (0,0) _ hmr Tryz.underlying27 rfl (by rw[aE];exact aF) ?_)
 refine (HW.out _ h2.below).mono ?_
 rintro e W2 ⟨q,rfl,hq,hrot,hb⟩
 have h3:=h2.step hb
 have hq1:w.heap.size<q:=by have:=h2.lt;omega
 have hlq:=hrot.row.lt
 have hmk:=p8 n hn
 clear hb h2 HW hmr hq
 go_upto_region 4 with fail
 have hg0:UnS w (W2.alloc (.cells (ints (n*26) fun _=>0) 25)) a b c rf (Pm.up fun i=>i) M q W2.heap.size n 0:=⟨h3.alloc _,hrot.alloc _,by rw[vh];exact af.new W2 _ _,hq1,hlq⟩
 generalize W2.alloc (.cells (ints (n*26) fun _=>0) 25)=V2 at *
 obtain ⟨q7,hq7⟩:∃x,x=W2.heap.size:=⟨_,rfl⟩
 rw[←hq7] at hg0 ⊢
 clear hq7 hmk h3 hrot hq1 hlq
 go_wp2_with fail
 go_loopw [19] (fun i W=>∃k:Nat,k≤n∧i=.int .i64 (k:Nat)∧UnS w W a b c rf (Pm.up fun i=>i) M q q7 n k) (fun i _=>((n:Int)-intOf i).toNat)
 case atStart=>exact ⟨0,by omega,rfl,hg0⟩
 case round =>
  clear hg0
  obtain ⟨k,hk,rfl,hg⟩:=hrel
  by_cases hlt:k<n
  ·have HLT:Hid (k<n):=hlt
   have hlt2:(k:Int)<(n:Int):=by omega
   have HSTK:=(show Hid (Om.step M (Om.steps M M.st k)=Om.steps M M.st (k+1)) from rfl)
   go_wp2_with fail
   refine (wv q M _ _ hg.rot).mono ?_
   rintro e W3 ⟨rfl,hr,hgr⟩
   rw[HSTK.out] at hr
   have hq1:=hg.q1
   have hq2:=hg.q2
   have hz3:cO w W3 a b c rf (Pm.up fun i=>i):=⟨(hgr.block _ hg.mg.row.lt (fun e=>by cases e;omega)).trans hg.mg.row,hg.mg.below.grown hgr hg.mg.below.size (fun k hk=>by cases hk;omega)⟩
   have hk3:af W3 q7 25 (ints (n*26) (gp (yL M) k)):=(hgr.block _ hg.keys.lt (fun e=>by cases e;omega)).trans hg.keys
   clear hg hgr
   go_wp2_with fail
   refine (FV q M _ _ hr).mono ?_
   rintro e W4 ⟨rfl,hb⟩
   have hz4:=hz3.step hb
   have hk4:=hk3.below hb hk3.lt
   have hr4:=hr.below hb
   clear hb hz3 hk3 hr
   obtain ⟨AW,hAW⟩:∃AW,AW=ints 26 (Pm.up (Om.now M (Om.steps M M.st (k+1)))):=⟨_,rfl⟩
   have HSZ:Hid (AW.size=26):=by rw[Hid,hAW,ag]
   have HON:Hid (AW.all (·.oneCell')=true):=by rw[Hid,hAW];exact aI _ _
   rw[←hAW]
   have HTH:=(show Hid (W4.there q7 (k*26) 26) from mM (o:=k*26) (n:=26) hk4 (by rw[ag];omega))
   have HN:Hid (UnS w (W4.setCells q7 (k*26) AW.toList) a b c rf (Pm.up fun i=>i) M q q7 n (k+1)):=by
    rw[hAW]
    refine ⟨⟨bu (by omega) hz4.row,cR (by omega) hz4.below⟩,⟨bu (by omega) hr4.row,hr4.ok,hr4.ins⟩,?_,hq1,hq2⟩
    have:=dK (o:=k*26) (l:=(ints 26 (Pm.up (yL M k))).toList) hk4
    rw[Ef (n:=n) _ rfl HLT.out] at this
    exact this
   clear hz4 hk4 hr4 hq1 hq2 hAW
   go_wp2_with (first | refine wpList_store_mid rfl 25 _ _ rfl q7 (k*26) AW rfl rfl (by rw[HSZ.out];exact HTH.out) (by rw[HSZ.out];exact aj) HON.out ?_)
   go_roundw
   case rel=>exact ⟨k+1,HLT.out,by go_num,HN.out⟩
   case measure=>have:=HLT.out;simp[intOf];omega
  ·obtain rfl:k=n:=by omega
   have hnn:¬((k:Nat):Int)<((k:Nat):Int):=by omega
   have hkr:=hg.keys
   rw[yC _ k rfl] at hkr
   have HKR:=(show Hid _ from hkr)
   have HBE:=(show Hid _ from hg.mg.below)
   have HQ:Hid (w.heap.size≤q7):=by have:=hg.q1;have:=hg.q2;rw[Hid];omega
   clear hg hlt hkr
   go_wp2
   go_ret
   exact ⟨q7,rfl,HQ.out,HKR.out,HBE.out⟩
theorem Ew (vm:Value) (g:Gm) (hg:gE g=0) (n:Nat) (hn:n≤1000) (w:World) (hm:cE w vm g):Calls Tryz.prog 34 #[vm,.int .i64 (n:Nat)] w fun e w'=>∃q7,e=.returned (.slice (some ⟨q7,0,none⟩) n n)∧w.heap.size≤q7∧af w' q7 25 (ints (n*26) (flat (yL (Om.gM (fO g)))))∧Below w.heap.size w w':=by
 have hbg:=Gf hg
 obtain ⟨a,b,c,rfl,m1,m2,m3⟩:=hm
 have HN:=fun W (hb:Below w.heap.size w W)=>zJ (.agg (mac a b c g.rf (Pm.up fun i=>i))) (bare g) W ⟨a,b,c,rfl,m1.below hb,m2.below hb,m3.below hb⟩
 refine EX (Om.gM (fO g)) n hn a b c g.rf g.pl w (fun W hb=>(HN W hb).mono ?_)
 rintro e w' (⟨h1,_⟩ | ⟨_,h2⟩)
 ·exact absurd hbg h1
 ·exact h2
end
section
open Go.RowKit PK Vg
end
end Go.Proofs.YtgacaecjinlhiaaGreatDoor
