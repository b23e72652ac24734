import Derived.Test.YtpdemelchhkfaaaDwF
namespace Go.Proofs.Ytpdemelchhkfaaa
namespace Cs
open Go.Conc
open Go.ConcN (sumTo sumTo_congr)
open Go.ConcR (KK WgAt wgBlock stA smA rd wr mk)
section
variable {P:Program} {c:Cst}
abbrev Me2 (P:Program):=Me P [ay P] × Nat
def rz (P:Program):Me2 P→Me2 P→Prop:=Prod.Lex (yP P [ay P]) (·<·)
theorem BP (P:Program):WellFounded (rz P):=(Prod.lex ⟨_,De P [ay P]⟩ ⟨_,Nat.lt_wfRel.wf⟩).wf
def kX:Y0→Nat
 | .w3b=>0
 | _=>1
def sC:YW P→Nat
 | .mb _ _ _=>0
 | _=>1
def wB (c:Cst):Nat:=14*(c.S0+c.n)+1
def wD (c:Cst):Nat:=6*wB c+14
def tot (c:Cst) (J:Nat) (z0:Y0) (zs:Nat→YW P) (n:Nat) (W:Wd) (m:Nat):Nat:=q0 c (lft c z0 zs n) z0+wD c*(sumTo n (fun i=>qW J (zs i))+(10*J+12)*(c.n-bg c z0))+m3 (wB c) (fun i=>aV (zs i)) n W m
def me2 (c:Cst) (J:Nat) (z0:Y0) (zs:Nat→YW P) (n:Nat) (W:Wd) (m:Nat):Me2 P:=((tot c J z0 zs n W m,yi0 z0 :: (List.range n).map fun i=>yiW (zs i)),kX z0+sumTo n (fun i=>sC (zs i)))
variable {J:Nat} {z0 z0':Y0} {zs zs':Nat→YW P} {z':YW P} {n n' i m m':Nat} {W W':Wd}
theorem tI (h:tot c J z0' zs' n' W' m'<tot c J z0 zs n W m):rz P (me2 c J z0' zs' n' W' m') (me2 c J z0 zs n W m):=Prod.Lex.left _ _ (Prod.Lex.left _ _ h)
theorem Dm (hi:i<n) (h:tot c J z0' zs' n W' m'=tot c J z0 zs n W m) (h0:(yi0 z0':Mi P [ay P])=yi0 z0) (hm:kV P [ay P] (yiW (zs' i)) (yiW (zs i))) (ho:∀j,j≠i→yiW (zs' j)=yiW (zs j)):rz P (me2 c J z0' zs' n W' m') (me2 c J z0 zs n W m):=by
 refine Prod.Lex.left _ _ ?_
 show yP P [ay P] (tot c J z0' zs' n W' m',_) (tot c J z0 zs n W m,_)
 rw[h,h0]
 exact Prod.Lex.right _ (.tail _ (kN (fun j=>yiW (zs j)) (fun j=>yiW (zs' j)) List.nodup_range (List.mem_range.2 hi) hm ho))
theorem AB (h:(me2 c J z0' zs' n W' m').1=(me2 c J z0 zs n W m).1) (hm:kX z0'+sumTo n (fun i=>sC (zs' i))<kX z0+sumTo n (fun i=>sC (zs i))):rz P (me2 c J z0' zs' n W' m') (me2 c J z0 zs n W m):=by
 have e2:me2 c J z0' zs' n W' m'=((me2 c J z0 zs n W m).1,kX z0'+sumTo n (fun i=>sC (zs' i))):=Prod.ext h rfl
 rw[e2]
 exact Prod.Lex.right _ hm
theorem dP (h:z0'=z0∨(z0=.w3b∧z0'=.w3 0)):bg c z0'=bg c z0∧reg z0'=reg z0∧deaf0 z0'=deaf0 z0∧(jS z0'↔jS z0)∧(∀v,q0 c v z0'=q0 c v z0)∧(yi0 z0':Mi P [ay P])=yi0 z0:=by
 rcases h with rfl | ⟨rfl,rfl⟩
 ·exact ⟨rfl,rfl,rfl,Iff.rfl,fun _=>rfl,rfl⟩
 ·exact ⟨rfl,rfl,rfl,Iff.rfl,fun _=>rfl,rfl⟩
theorem zo {u v:Nat} (h:u≤v):q0 c u z0≤q0 c v z0:=by cases z0 <;> simp only[q0] <;> omega
variable {f:Bool} {tW:TypeId} {w:World}
theorem kz:lft c z0 (fun j=>wkW f (zs j)) n=lft c z0 zs n:=by
 unfold lft
 rw[sumTo_congr (g:=fun i=>cG c i (zs i)) fun j _=>by unfold cG;rw[cH bef (fun _ _ _=>rfl)]]
theorem oy:tot c J z0 (fun j=>wkW f (zs j)) n W m=tot c J z0 zs n W m:=by
 unfold tot
 rw[kz,sumTo_congr (g:=fun i=>qW J (zs i)) fun j _=>cH (qW J) (fun _ _ _=>rfl) f (zs j)]
 have e:(fun i=>aV (wkW f (zs i)))=fun i=>aV (zs i):=funext fun j=>yh f (zs j)
 rw[e]
theorem WgS.wk (h:WgS c tW z0 zs n w):WgS c tW z0 (fun j=>wkW f (zs j)) n w:=by
 have hc:∀j,closing (wkW f (zs j))=closing (zs j):=fun j=>cH closing (fun _ _ _=>rfl) f (zs j)
 have hs:∀j,gG (wkW f (zs j))=gG (zs j):=fun j=>cH gG (fun _ _ _=>rfl) f (zs j)
 have hn:k9 c zs n→k9 c (fun j=>wkW f (zs j)) n:=fun k j h1 h2=>by
  show ¬closing (wkW f (zs j))
  rw[hc];exact k j h1 h2
 cases h with
 | run h1 h2 h3 h4=>exact .run (hn h1) h2 (by rw[kz];exact h3) (by rw[kz];exact h4)
 | cls j h1 h2 h3 h4 h5 h6 h7 =>
  refine .cls j h1 h2 ?_ (fun j' a b d=>?_) h5 (by rw[kz];exact h6) ⟨fun e=>h7.1 ?_,fun e=>h7.2 ?_⟩
  ·show closing (wkW f (zs j))
   rw[hc];exact h3
  ·show ¬closing (wkW f (zs j'))
   rw[hc];exact h4 j' a b d
  ·have e':gG (wkW f (zs j)):=e
   rwa [hs] at e'
  ·have e':¬gG (wkW f (zs j)):=e
   rwa [hs] at e'
 | rls h1 h2 h3 h4 h5=>exact .rls (hn h1) (by rw[kz];exact h2) h3 h4 h5
 | pst h1 h2 h3 h4=>exact .pst (hn h1) (by rw[kz];exact h2) h3 h4
theorem Tr3.wk {Sn:Nat→Prop} {top:Nat} {ow:Option Nat} {blk:Nat→Option Nat} {size:Nat} {t:Trace} (h:Tr3 c Sn zs top ow blk size t):Tr3 c Sn (fun j=>wkW f (zs j)) top ow blk size t :=
 ⟨h.ti,h.low,fun j x a h1 h2 h3=>(h.kn j x a h1 h2 h3).imp id fun ⟨k1,k2,k3⟩=>⟨k1,k2,fun e=>k3 (by have e':told (wkW f (zs x.g)):=e;rwa [cH told (fun _ _ _=>rfl)] at e')⟩,h.nor,h.sn⟩
theorem cU.wk {tX:TypeId} {R:Nat→Array Value} {β:Type} {eB:β→Nat→Value} {up:β→Nat→β} {b0:β} {top:Nat} {L:List Nat} {ow:Option Nat} {blk:Nat→Option Nat} (h:cU P c tX J R eB up b0 zs top L ow blk w):cU P c tX J R eB up b0 (fun j=>wkW f (zs j)) top L ow blk w:=by
 have hc:∀j,gv (wkW f (zs j))=gv (zs j):=fun j=>cH gv (fun _ _ _=>rfl) f (zs j)
 have ht:∀j,cW J (wkW f (zs j))=cW J (zs j):=fun j=>cH (cW J) (fun _ _ _=>rfl) f (zs j)
 have hn:∀j,gE (wkW f (zs j))=gE (zs j):=fun j=>cH gE (fun _ _ _=>rfl) f (zs j)
 have hb:∀j,en (wkW f (zs j))=en (zs j):=fun j=>cH en (fun _ _ _=>rfl) f (zs j)
 have hu:∀j,bI (wkW f (zs j))=bI (zs j):=fun j=>cH bI (fun _ _ _=>rfl) f (zs j)
 refine ⟨h.ok,h.nd,fun k=>?_,h.bd,fun i h1 h2=>?_,h.ow2,fun i k h1 h2 h3=>?_,fun i k q h1 h2 h3=>?_,fun i q h1 h2 h3=>?_,h.us4⟩
 ·rw[h.li k]
  show _↔_∧_∧k<cW J (wkW f (zs _))
  rw[ht]
 ·rw[h.ow1 i h1 h2]
  show _↔gv (wkW f (zs i))
  rw[hc]
 ·exact h.nm i k h1 h2 (by have e:gE (wkW f (zs i))=some k:=h3;rwa [hn] at e)
 ·exact h.bx i k q h1 h2 (by have e:en (wkW f (zs i)) k q:=h3;rwa [hb] at e)
 ·exact h.us1 i q h1 h2 (by have e:bI (wkW f (zs i)) q:=h3;rwa [hu] at e)
end
variable [Fns]
section
variable {P:Program} {c:Cst} {tW tX:TypeId} {J:Nat} {F:Nat→Value} {R:Nat→Array Value} {β:Type} {eB:β→Nat→Value} {up:β→Nat→β} {b0:β} {Sn:Nat→Prop} {S:ff P c tW tX J F R β eB up}
variable {gs gs':Array Goroutine} {w w':World} {t t':Trace} {z0 z0':Y0} {zs:Nat→YW P} {L L':List Nat} {ow ow':Option Nat} {blk blk':Nat→Option Nat} {W W':Wd} {mm mm' i:Nat} {g g':Goroutine} {z':YW P} {es:Array Event}
def bp (S:ff P c tW tX J F R β eB up) (b0:β) (Sn:Nat→Prop) (gs:Array Goroutine) (w:World) (t:Trace) (z0:Y0) (zs:Nat→YW P) (W:Wd) (mm i:Nat):Prop :=
 ∀sl,∃gs' w' ops z0' zs' L' ow' blk' W' mm',runT P (crowd gs w sl) i=(.next (crowd gs' w' sl),ops)∧aD S b0 Sn gs' w' (t++ops) z0' zs' L' ow' blk' W' mm'∧rz P (me2 c J z0' zs' gs'.size W' mm') (me2 c J z0 zs gs.size W mm)
theorem aD.dw (h:aD S b0 Sn gs w t z0 zs L ow blk W mm) (hi:1≤i) (hg:gs[i]? = some g) (hst:stepG P false g w=.go g' w' es) (ok:Ok3 c tW w') (st:TW S (L'.foldl up b0) (deafBehind (Deaf t i) es) z' g' w') (ho:i<c.S0→∃q,z'=.lv q) (hdw:c.S0≤i→deafW z' (deafBehind (Deaf t i) es))
  (hu1:∀j q,j≠i→c.N1≤q→q<w.heap.size→blk q=some j→w'.heap[q]? = w.heap[q]?) (hB:∀j,c.S0≤j→j<gs.size→j≠i→gv (zs j)→L'.foldl up b0=L.foldl up b0∧∀o,2≤o→w'.cell? ⟨c.Fd,o,none⟩=w.cell? ⟨c.Fd,o,none⟩) (hwg:∀z0',(z0'=z0∨(z0=.w3b∧z0'=.w3 0))→(z0'=.w3b→br P g g'=false)→WgS c tW z0' (aJ zs i z') gs.size w')
  (hsh:∀k E s,z'=.ca k E s→∀b q s,E b=some (q,s,false)→c.Fix q) (mem:cU P c tX J R eB up b0 (aJ zs i z') gs.size L' ow' blk' w') (tr:Tr3 c Sn (aJ zs i z') gs.size ow' blk' w'.heap.size (t++MemOp.ofEvents i g.frame.fn g.frame.place es)) (mi:MInv (fun j=>aV (aJ zs i z' j)) gs.size W' mm') (mu:muC c w' W' mm')
  (hz1:∀k q s,z'=.mb k q s→br P g g'=false∧mm'=0) (hz2:br P g g'=false→mm=0→mm'=0)
  (hm:tot c J z0 (aJ zs i z') gs.size W' mm'<tot c J z0 zs gs.size W mm∨(tot c J z0 (aJ zs i z') gs.size W' mm'=tot c J z0 zs gs.size W mm∧(kV P [ay P] (yiW z') (yiW (zs i))∨(yiW z'=yiW (zs i)∧br P g g'=false∧sC z'<sC (zs i))))) (hbk:∀q,q<w.heap.size→blk q=some 0→blk' q=some 0:=by exact fun _ _ e=>e):bp S b0 Sn gs w t z0 zs W mm i:=fun sl=>by
 have hu:∀j q,c.S0≤j→j<gs.size→j≠i→bI (zs j) q→w'.heap[q]? = w.heap[q]?:=fun j q a1 a2 a3 a4=>by
  obtain ⟨b1,b2,b3⟩:=h.mem.us1 j q a1 a2 a4
  exact hu1 j q a3 b1 b2 b3
 have his:=bf hg
 have hs1:=S.s1
 obtain ⟨a,h1,h2⟩:=h.a0
 obtain ⟨z0',k1,k2,k3⟩:=h.AU (a:=g) (a':=g') (w':=w') h1
 obtain ⟨e1,e2,e3,e4,e5,e6⟩:=dP (P:=P) (c:=c) k1
 have hr:=runT_crowd_go (P:=P) (sl:=sl) (i:=i) hg (by rw[show (i==0)=false by simp;omega];exact hst)
 have hs:((gs.map (woken P g g' w')).setIfInBounds i g').size=gs.size:=by simp
 have hd:∀j,j≠i→Deaf (t++MemOp.ofEvents i g.frame.fn g.frame.place es) j=Deaf t j:=fun j hj=>Deaf_other t (fun e=>hj e.symm) _ (fun op hop=>by obtain ⟨e,_,rfl⟩:=Conc.mem_ofEvents hop;rfl)
 have hdi:Deaf (t++MemOp.ofEvents i g.frame.fn g.frame.place es) i=deafBehind (Deaf t i) es:=Deaf_own _ _ _ _ _
 have hkp:=h.keep ok hd hu hB
 have hlf:∀zs:Nat→YW P,lft c z0' zs gs.size=lft c z0 zs gs.size:=fun zs=>by unfold lft;rw[e1]
 have htt:∀(zs:Nat→YW P) W m,tot c J z0' zs gs.size W m=tot c J z0 zs gs.size W m:=fun zs W m=>by unfold tot;rw[hlf,e5,e1]
 have hwz:wkW (br P g g') z'=z':=by
  rcases nK (br P g g') z' with e | ⟨k,q,s,e,_⟩
  ·exact e
  ·rw[(hz1 k q s e).1];rfl
 have hmx:(fun j=>aV (wkW (br P g g') (aJ zs i z' j)))=fun j=>aV (aJ zs i z' j):=funext fun j=>yh _ _
 have hlvw:∀q,wkW (br P g g') (.lv q:YW P)=.lv q:=fun q=>by unfold wkW;split <;> rfl
 have hz0u:∀q,oJ z0' q→oJ z0 q:=fun q e=>by
  rcases k1 with e1 | ⟨_,e1⟩
  ·rw[←e1];exact e
  ·rw[e1] at e;exact e.elim
 refine ⟨_,w',_,z0',fun j=>wkW (br P g g') (aJ zs i z' j),L',ow',blk',W',mm',hr,⟨by rw[hs,e1];exact h.sz,⟨woken P g g' w' a,?_,k2.keep ok fun q e=>?_⟩,fun j x g1 g2=>?_,fun j g1=>?_,?_,fun j g1 g2=>?_,fun j g1=>?_,?_,fun j k E s g1 g2 g3=>?_,by rw[hs];exact mem.wk,by rw[hs];exact tr.wk,by rw[hs,hmx];exact mi,mu,fun j k q s g1 g2 g3=>?_,fun q e=>?_⟩,?_⟩
 ·rw[Array.getElem?_setIfInBounds_ne (by omega),Array.getElem?_map,h1];rfl
 ·obtain ⟨b1,b2,b3⟩:=h.use q (hz0u q e)
  exact hu1 0 q (by omega) b1 b2 b3
 ·by_cases e:j=i
  ·subst e
   rw[Array.getElem?_setIfInBounds_self_of_lt (by simpa using his)] at g2
   cases g2
   show TW S _ _ (wkW _ (aJ zs j z' j)) _ _
   rw[an,hdi,hwz];exact st
  ·rw[Array.getElem?_setIfInBounds_ne (fun e'=>e e'.symm),Array.getElem?_map] at g2
   obtain ⟨y,hy,rfl⟩:=Option.map_eq_some_iff.1 g2
   show TW S _ _ (wkW _ (aJ zs i z' j)) _ _
   rw[aF _ _ e]
   refine TW.woken (hkp j y g1 e hy) ok fun k q hb=>?_
   have hjs:=bf hy
   rcases Nat.lt_or_ge j c.S0 with h4 | h4
   ·obtain ⟨q',h5⟩:=h.old j h4
    rw[h5] at hb;exact hb.elim
   ·have:=h.mem.bx j k q h4 hjs hb
    unfold BxR at this ⊢
    rw[hu j q h4 hjs e (gx hb)]
    exact this
 ·show ∃q,wkW _ (aJ zs i z' j)=.lv q
  by_cases e:j=i
  ·subst e;rw[an,hwz];exact ho g1
  ·rw[aF _ _ e]
   obtain ⟨q,hq⟩:=h.old j g1
   exact ⟨q,by rw[hq,hlvw]⟩
 ·rw[hd 0 (by omega),e3];exact h.df0
 ·rw[hs] at g2
  show deafW (wkW _ (aJ zs i z' j)) _
  rw[cH deafW (fun _ _ _=>rfl)]
  by_cases e:j=i
  ·subst e;rw[an,hdi];exact hdw g1
  ·rw[aF _ _ e,hd j e];exact h.dfW j g1 g2
 ·rw[hs] at g1
  rw[hd j (by omega)];exact h.dfA j g1
 ·rw[hs]
  exact (hwg z0' k1 k3).wk
 ·rw[hs] at g2
  have g3':wkW (br P g g') (aJ zs i z' j)=.ca k E s:=g3
  have g4:aJ zs i z' j=.ca k E s:=by
   rcases nK (br P g g') (aJ zs i z' j) with e | ⟨k',q',s',e,e'⟩
   ·rw[←e];exact g3'
   ·rw[e'] at g3';cases g3'
  by_cases e':j=i
  ·subst e';rw[an] at g4;exact hsh k E s g4
  ·rw[aF _ _ e'] at g4;exact h.shr j k E s g1 g2 g4
 ·rw[hs] at g2
  have g3':wkW (br P g g') (aJ zs i z' j)=.mb k q s:=g3
  have hf:br P g g'=false∧aJ zs i z' j=.mb k q s:=by
   unfold wkW at g3'
   split at g3'
   ·exfalso
    revert g3'
    cases aJ zs i z' j <;> intro g3' <;> cases g3'
   ·rename_i e
    exact ⟨by simpa using e,g3'⟩
  by_cases e':j=i
  ·subst e'
   rw[an] at hf
   exact (hz1 k q s hf.2).2
  ·rw[aF _ _ e'] at hf
   exact hz2 hf.1 (h.bl j k q s g1 g2 hf.2)
 ·obtain ⟨b1,b2,b3⟩:=h.use q (hz0u q e)
  exact hbk q b2 b3
 ·rw[hs]
  have hyo:∀j,j≠i→yiW (wkW (br P g g') (aJ zs i z' j))=yiW (zs j):=fun j hj=>by
   rw[cH yiW (fun _ _ _=>rfl),aF _ _ hj]
  rcases hm with hm | ⟨hm,hm2 | ⟨hm2,hm3,hm4⟩⟩
  ·exact tI (by rw[oy,htt];exact hm)
  ·refine Dm his (by rw[oy,htt];exact hm) e6 ?_ hyo
   show kV P [ay P] (yiW (wkW _ (aJ zs i z' i))) _
   rw[an,hwz];exact hm2
  ·have hz0:z0'=z0∨kX z0'=kX z0+1:=by
    rcases k1 with e | ⟨rfl,rfl⟩
    ·exact .inl e
    ·exact .inr rfl
   have hfz:(fun j=>wkW (br P g g') (aJ zs i z' j))=aJ zs i z':=funext fun j=>by
    rw[hm3];rfl
   rw[hfz]
   have hz00:z0'=z0:=by
    rcases k1 with e | ⟨e,e'⟩
    ·exact e
    ·exfalso
     obtain ⟨g1,q1,q2⟩:=h.a0
     rw[h1] at q1
     cases q1
     rw[e] at q2
     obtain ⟨g9,_,rfl⟩:=q2
     have hw9:woken P g g' w' { g9 with status:=.blocked }={ g9 with status:=.blocked }:=by
      unfold woken
      exact if_neg (by have:br P g g'=false:=hm3;unfold br at this;rw[this];decide)
     rw[hw9,e'] at k2
     have:=aU (show WalkA P c tW true S.W3 0 _ w from k2) h.ok3
     cases this
   rw[hz00]
   have hb:=fo (fun _ z=>sC z) zs z' his
   refine AB (Prod.ext hm ?_) (by omega)
   show yi0 z0 :: _=yi0 z0 :: _
   congr 1
   refine List.map_congr_left fun j _=>?_
   by_cases e:j=i
   ·subst e;rw[an];exact hm2
   ·rw[aF _ _ e]
omit [Fns] in
theorem cU.still {top:Nat} (h:cU P c tX J R eB up b0 zs top L ow blk w) (hC:c.C2<c.N1∧c.Fd<c.N1) (hs:Still c w w'):cU P c tX J R eB up b0 zs top L ow blk w':=by
 refine ⟨hs.okT h.ok,h.nd,h.li,fun e j h2 h3=>(hs.cell h.ok h2).trans (h.bd e j h2 h3),h.ow1,h.ow2,h.nm,fun j k q h1 h2 h3=>?_,fun j q h1 h2 h3=>by rw[hs.size];exact h.us1 j q h1 h2 h3,fun q j h1=>by rw[hs.size];exact h.us4 q j h1⟩
 have hn:=(h.us1 j q h1 h2 (gx h3)).1
 have hb:=h.bx j k q h1 h2 h3
 unfold BxR at hb ⊢
 rw[hs.heap q (by omega) (by omega)]
 exact hb
omit [Fns] in
theorem b9 (h:muC c w W mm) (e:w'.heap[c.Fd]? = w.heap[c.Fd]?):muC c w' W mm:=by
 unfold muC World.cell? at h ⊢
 rw[e]
 exact h
theorem aD.rV (h:aD S b0 Sn gs w t z0 zs L ow blk W mm) (hg:gs[0]? = some g) (hst:stepG P true g w=.go g' w' es) (ok:Ok3 c tW w') (st:T0 S z0' g' w') (e1:bg c z0'=bg c z0) (hd0:deafBehind (deaf0 z0) es=deaf0 z0') (hk:∀q,q≠c.C2→q<w.heap.size→blk q≠some 0→w'.heap[q]? = w.heap[q]?) (hse:w.heap.size≤w'.heap.size∧w'.os=w.os∧w'.output=w.output) (hbk:∀q j,1≤j→blk q=some j→blk' q=some j) (hb4:∀q j,blk' q=some j→c.N1≤q∧q<w'.heap.size) (hb0:∀q,oJ z0' q→blk' q=some 0)
  (hwg:WgS c tW z0' zs gs.size w') (tr:Tr3 c Sn zs gs.size ow blk' w'.heap.size (t++MemOp.ofEvents 0 g.frame.fn g.frame.place es)) (hm:tot c J z0' zs gs.size W mm<tot c J z0 zs gs.size W mm∨(tot c J z0' zs gs.size W mm=tot c J z0 zs gs.size W mm∧(kV P [ay P] (yi0 z0') (yi0 z0)∨((yi0 z0':Mi P [ay P])=yi0 z0∧br P g g'=false∧kX z0'<kX z0)))):bp S b0 Sn gs w t z0 zs W mm 0:=fun sl=>by
 have his:=bf hg
 have hs1:=S.s1
 have hc:=S.d1
 have hno:∀q,q<c.N1→blk q≠some 0:=fun q hq e=>by have:=(h.mem.us4 q 0 e).1;omega
 have hbig:=h.mem.ok.big
 have hlow:∀q,q≠c.C2→q<c.N1→w'.heap[q]? = w.heap[q]?:=fun q h1 h2=>hk q h1 (by omega) (hno q h2)
 have hFd:w'.heap[c.Fd]? = w.heap[c.Fd]?:=hlow _ (fun e=>hc.2.2.1 e.symm) hc.2.1
 have hown:∀j q,1≤j→c.N1≤q→q<w.heap.size→blk q=some j→w'.heap[q]? = w.heap[q]?:=fun j q a1 a2 a3 a4=>hk q (by omega) a3 fun e2=>by rw[a4] at e2;cases e2;omega
 have hr:=runT_crowd_go (P:=P) (sl:=sl) (i:=0) hg (show stepG P (0==0) g w=_ from hst)
 have hs:((gs.map (woken P g g' w')).setIfInBounds 0 g').size=gs.size:=by simp
 have hd:∀j,j≠0→Deaf (t++MemOp.ofEvents 0 g.frame.fn g.frame.place es) j=Deaf t j:=fun j hj=>Deaf_other t (fun e=>hj e.symm) _ (fun op hop=>by obtain ⟨e,_,rfl⟩:=Conc.mem_ofEvents hop;rfl)
 have hkp:=h.keep (i:=0) (b':=L.foldl up b0) ok hd (fun j q a1 a2 _ a3=>by obtain ⟨b1,b2,b3⟩:=h.mem.us1 j q a1 a2 a3;exact hown j q (by omega) b1 b2 b3) (fun j _ _ _ _=>⟨rfl,fun o _=>by unfold World.cell?;rw[hFd]⟩)
 have hmx:(fun j=>aV (wkW (br P g g') (zs j)))=fun j=>aV (zs j):=funext fun j=>yh _ _
 have hlvw:∀q,wkW (br P g g') (.lv q:YW P)=.lv q:=fun q=>by unfold wkW;split <;> rfl
 have mem:cU P c tX J R eB up b0 zs gs.size L ow blk' w':=by
  refine ⟨h.mem.ok.keep (fun q hq=>hlow q hq.2.2.2.1 hq.1) (fun cs e=>⟨cs,hFd.trans e,rfl⟩) hse.1 (by rw[hse.2.1];exact .refl _) hse.2.2,h.mem.nd,h.mem.li,fun e j h2 h3=>?_,h.mem.ow1,h.mem.ow2,h.mem.nm,fun j k q h1 h2 h3=>?_,fun j q h1 h2 h3=>?_,hb4⟩
  ·rw[←h.mem.bd e j h2 h3]
   unfold World.cell?
   rw[hFd]
  ·obtain ⟨b1,b2,b3⟩:=h.mem.us1 j q h1 h2 (gx h3)
   have hb:=h.mem.bx j k q h1 h2 h3
   unfold BxR at hb ⊢
   rw[hown j q (by omega) b1 b2 b3]
   exact hb
  ·obtain ⟨b1,b2,b3⟩:=h.mem.us1 j q h1 h2 h3
   exact ⟨b1,Nat.lt_of_lt_of_le b2 hse.1,hbk q j (by omega) b3⟩
 refine ⟨_,w',_,z0',fun j=>wkW (br P g g') (zs j),L,ow,blk',W,mm,hr,⟨by rw[hs,e1];exact h.sz,⟨g',Array.getElem?_setIfInBounds_self_of_lt (by simpa using his),st⟩,fun j x g1 g2=>?_,fun j g1=>?_,by rw[Deaf_own,h.df0];exact hd0,fun j g1 g2=>?_,fun j g1=>?_,by rw[hs];exact hwg.wk,fun j k E s g1 g2 g3=>?_,by rw[hs];exact mem.wk,by rw[hs];exact tr.wk,by rw[hs,hmx];exact h.mi,b9 h.mu hFd,fun j k q s g1 g2 g3=>?_,hb0⟩,?_⟩
 ·rw[Array.getElem?_setIfInBounds_ne (by omega),Array.getElem?_map] at g2
  obtain ⟨y,hy,rfl⟩:=Option.map_eq_some_iff.1 g2
  have hjs:=bf hy
  refine TW.woken (hkp j y g1 (by omega) hy) ok fun k q hb=>?_
  rcases Nat.lt_or_ge j c.S0 with h4 | h4
  ·obtain ⟨q',h5⟩:=h.old j h4
   rw[h5] at hb;exact hb.elim
  ·exact mem.bx j k q h4 hjs hb
 ·obtain ⟨q,hq⟩:=h.old j g1
  exact ⟨q,by show wkW _ (zs j)=_;rw[hq,hlvw]⟩
 ·rw[hs] at g2
  show deafW (wkW _ (zs j)) _
  rw[cH deafW (fun _ _ _=>rfl),hd j (by omega)];exact h.dfW j g1 g2
 ·rw[hs] at g1
  have:=h.pos
  rw[hd j (by omega)];exact h.dfA j g1
 ·rw[hs] at g2
  have g3':wkW (br P g g') (zs j)=.ca k E s:=g3
  rcases nK (br P g g') (zs j) with e | ⟨k',q',s',e,e'⟩
  ·rw[e] at g3';exact h.shr j k E s g1 g2 g3'
  ·rw[e'] at g3';cases g3'
 ·rw[hs] at g2
  have g3':wkW (br P g g') (zs j)=.mb k q s:=g3
  rcases nK (br P g g') (zs j) with e | ⟨k',q',s',e,e'⟩
  ·rw[e] at g3';exact h.bl j k q s g1 g2 g3'
  ·rw[e'] at g3';cases g3'
 ·rw[hs]
  rcases hm with hm | ⟨hm,hm2 | ⟨hm2,hm3,hm4⟩⟩
  ·exact tI (by rw[oy];exact hm)
  ·refine Prod.Lex.left _ _ ?_
   show yP P [ay P] (tot c J z0' (fun j=>wkW (br P g g') (zs j)) gs.size W mm,_) (tot c J z0 zs gs.size W mm,_)
   rw[oy,hm,show (List.range gs.size).map (fun i=>yiW (wkW (br P g g') (zs i)))=(List.range gs.size).map (fun i=>yiW (zs i)) from List.map_congr_left fun j _=>cH yiW (fun _ _ _=>rfl) _ _]
   exact Prod.Lex.right _ (.head _ hm2)
  ·have hfz:(fun j=>wkW (br P g g') (zs j))=zs:=funext fun j=>by rw[hm3];rfl
   rw[hfz]
   refine AB (Prod.ext hm ?_) (by omega)
   show yi0 z0' :: _=yi0 z0 :: _
   rw[hm2]
theorem aD.move0 (h:aD S b0 Sn gs w t z0 zs L ow blk W mm) (hg:gs[0]? = some g) (hst:stepG P true g w=.go g' w' es) (ok:Ok3 c tW w') (st:T0 S z0' g' w') (e1:bg c z0'=bg c z0) (hd0:deafBehind (deaf0 z0) es=deaf0 z0') (hk:∀q,q≠c.C2→w'.heap[q]? = w.heap[q]?) (hse:w'.heap.size=w.heap.size∧w'.os=w.os∧w'.output=w.output)
  (hwg:WgS c tW z0' zs gs.size w') (tr:Tr3 c Sn zs gs.size ow blk w'.heap.size (t++MemOp.ofEvents 0 g.frame.fn g.frame.place es)) (hm:tot c J z0' zs gs.size W mm<tot c J z0 zs gs.size W mm∨(tot c J z0' zs gs.size W mm=tot c J z0 zs gs.size W mm∧(kV P [ay P] (yi0 z0') (yi0 z0)∨((yi0 z0':Mi P [ay P])=yi0 z0∧br P g g'=false∧kX z0'<kX z0)))) (hz:∀q,oJ z0' q→oJ z0 q:=by exact fun _ e=>e.elim):bp S b0 Sn gs w t z0 zs W mm 0 :=
 h.rV (blk':=blk) hg hst ok st e1 hd0 (fun q h1 _ _=>hk q h1) ⟨Nat.le_of_eq hse.1.symm,hse.2⟩ (fun _ _ _ e=>e) (fun q j e=>by rw[hse.1];exact h.mem.us4 q j e) (fun q e=>h.hb q (hz q e)) hwg tr hm
end
end Cs
end Go.Proofs.Ytpdemelchhkfaaa
