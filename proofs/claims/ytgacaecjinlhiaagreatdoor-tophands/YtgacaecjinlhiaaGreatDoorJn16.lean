import Derived.Shelf.RegionOpenPlain
import Derived.Test.YtgacaecjinlhiaaGreatDoorJn15
namespace Go.Proofs.YtgacaecjinlhiaaGreatDoor
section
open Go.RowKit PK Vg
def wwE (u:Nat→Int) (n:Nat) (f:Nat→Int):Int:=if Pm.wrong u≠0 then Pm.wrong u else if ins n f=true then 0 else 3
set_option maxRecDepth 100000 in
set_option maxHeartbeats 1000000 in
theorem IL (u:Nat→Int) (v:Value) (n:Nat) (f:Nat→Int) (w:World) (hv:aq w v n f):Calls Tryz.prog 52 #[.agg (whl u v)] w fun e w'=>e=.returned (.int .i64 (wwE u n f))∧Below w.heap.size w w':=by
 obtain ⟨E,hE⟩:∃E,E=wwE u n f:=⟨_,rfl⟩
 rw[←hE]
 have hr:=af.new w 104 (whl u v)
 have hbe:Below w.heap.size w (w.alloc (.cells (whl u v) 104)):=(Below.refl _ w).alloc (Nat.le_refl _) _
 have HV:=(show Hid (aq w v n f) from hv)
 have hmid:=yD hr
 clear hv
 go_enter Tryz.func52,Tryz.ntmps52
 go_wp2_with (first | refine aM rfl 25 _ rfl w.heap.size 0 rfl (ints 26 u) _ hmid Tryz.underlying25 rfl (by rw[ag];exact aj) ?_)
 refine (mK u _).mono ?_
 rintro e V ⟨rfl,hb⟩
 have hr2:=hr.below hb hr.lt
 have hl:=hr2.cell (gN u v)
 have hbe2:=hbe.trans (hb.mono hbe.size)
 clear hb hr hbe hmid hr2
 by_cases hz:Pm.wrong u=0
 ·have HE:Hid (E=if ins n f=true then 0 else 3):=by rw[Hid,hE];unfold wwE;rw[if_neg (fun h=>h hz)]
  rw[hz]
  have HIN:=(show Hid _ from fL v n f V (HV.out.below (hbe2)))
  generalize ins n f=B at *
  clear hz HV hE
  go_wp2_with fail
  refine Calls.mono HIN.out ?_
  rintro e V3 ⟨rfl,rfl⟩
  cases B with
  | true =>
   go_wp2
   go_ret
   exact ⟨by rw[HE.out];rfl,hbe2⟩
  | false =>
   go_wp2
   go_ret
   exact ⟨by rw[HE.out];rfl,hbe2⟩
 ·have hz2:(Pm.wrong u != 0)=true:=by simpa using hz
  have HE:Hid (E=Pm.wrong u):=by rw[Hid,hE];unfold wwE;rw[if_pos hz]
  clear hz HV hE
  go_wp2
  go_ret
  exact ⟨by rw[HE.out];rfl,hbe2⟩
set_option maxRecDepth 100000 in
set_option maxHeartbeats 2000000 in
theorem Ck (f:Nat→Int) (al:Bool) (w:World):Calls Tryz.prog 54 #[.agg (ints 26 f),.bool al] w fun e w'=>e=.returned (.int .i64 (tl (!al) f 0))∧Below w.heap.size w w':=by
 obtain ⟨E,hE⟩:∃E,E=tl (!al) f 0:=⟨_,rfl⟩
 rw[←hE]
 have HE:Hid (E=tl (!al) f 0):=hE
 clear hE
 have hr:=af.new w 25 (ints 26 f)
 have hbe:Below w.heap.size w (w.alloc (.cells (ints 26 f) 25)):=(Below.refl _ w).alloc (Nat.le_refl _) _
 go_enter Tryz.func54,Tryz.ntmps54
 go_wp2_with (first | refine wpList_load_row rfl 25 _ rfl w.heap.size rfl 25 (ints 26 f) (0,0) _ hr Tryz.underlying25 rfl (by rw[ag];exact aj) ?_)
 refine (mK f _).mono ?_
 rintro e V2 ⟨rfl,hb⟩
 have hr5:=hr.below hb hr.lt
 have hbe2:=hbe.trans (hb.mono hbe.size)
 clear hb hr hbe
 by_cases hwz:Pm.wrong f=0
 ·obtain ⟨pp,hpp,epp⟩:=(Pm.kz f).1 hwz
  have HEP:Hid (∀i,i<26→f i=(pp i:Int)):=epp
  have HV2:Hid (E=if gK (!al) f=false then 1 else 0):=by rw[Hid,HE.out];unfold tl;rw[if_neg (fun h=>h hwz)]
  have HUB:=(show Hid (∀i,i<26→(pp (pp i)≠i∨((!al)=true∧pp i=i))→gK (!al) f=false) from fun i hi h=>Ea hpp epp hi h)
  have HUT:=(show Hid ((∀i,i<26→pp (pp i)=i∧((!al)=true→pp i≠i))→gK (!al) f=true) from (sC hpp epp).2)
  have HLT:=(show Hid (∀i,i<26→pp i<26) from hpp.lt)
  rw[hwz]
  clear hwz epp hpp HE
  go_wp2_with (first | refine wpList_load_row rfl 25 _ rfl w.heap.size rfl 25 (ints 26 f) (0,0) _ hr5 Tryz.underlying25 rfl (by rw[ag];exact aj) ?_)
  go_loopw [14] (fun i W=>∃m:Nat,m≤26∧i=.int .i64 (m:Nat)∧Hid (∀j,j<m→pp (pp j)=j∧((!al)=true→pp j≠j))∧V2=W) (fun i _=>((26:Int)-intOf i).toNat)
  case atStart=>exact ⟨0,by omega,rfl,fun j hj=>by omega,rfl⟩
  case round =>
   obtain ⟨m,hm26,rfl,HS,rfl⟩:=hrel
   by_cases hlt:m<26
   ·have h1:=HLT.out m hlt
    have HL:Hid (m<26):=hlt
    have hgx:=jf 25 3 26 Tryz.underlying25 Tryz.underlying3 lU f m hlt
    have c2:=hr5.cell (aB f h1)
    rw[HEP.out m hlt] at hgx
    rw[HEP.out _ h1] at c2
    have HB1:=(show Hid _ from HUB.out m hlt)
    have HNX:=(show Hid (pp (pp m)=m→((!al)=true→pp m≠m)→∀j,j<m+1→pp (pp j)=j∧((!al)=true→pp j≠j)) from fun h1 h2 j hj=>by
     by_cases e:j=m
     ·rw[e];exact ⟨h1,h2⟩
     ·exact HS.out j (by omega))
    generalize pp (pp m)=P2 at *
    generalize pp m=P1 at *
    clear HS
    by_cases hp2:P2=m
    ·have hp3:((P2:Int) != (m:Int))=false:=by simp[hp2]
     by_cases hp1:P1=m
     ·have hp4:((P1:Int)==(m:Int))=true:=by simp[hp1]
      cases al with
      | false =>
       have HX:Hid (E=1):=by rw[Hid,HV2.out,if_pos (HB1.out (.inr ⟨rfl,hp1⟩))]
       clear hp1 hp2
       go_wp2
       go_ret
       exact ⟨by rw[HX.out];rfl,hbe2⟩
      | true =>
       have HN2:=(show Hid _ from HNX.out hp2 (fun h=>by cases h))
       clear hp1 hp2
       go_wp2_with fail
       go_roundw
       case rel=>exact ⟨m+1,HL.out,by go_num,HN2.out,by first | rfl | trivial⟩
       case measure=>have:=HL.out;simp[intOf] <;> omega
     ·have hp4:((P1:Int)==(m:Int))=false:=beq_false_of_ne (by omega)
      have HN2:=(show Hid _ from HNX.out hp2 (fun _=>hp1))
      clear hp1 hp2
      go_wp2_with fail
      go_roundw
      case rel=>exact ⟨m+1,HL.out,by go_num,HN2.out,by first | rfl | trivial⟩
      case measure=>have:=HL.out;simp[intOf] <;> omega
    ·have hp3:((P2:Int) != (m:Int))=true:=by simp;omega
     have HX:Hid (E=1):=by rw[Hid,HV2.out,if_pos (HB1.out (.inl hp2))]
     clear hp2
     go_wp2
     go_ret
     exact ⟨by rw[HX.out];rfl,hbe2⟩
   ·obtain rfl:m=26:=by omega
    have HX:Hid (E=0):=by rw[Hid,HV2.out,if_neg (by rw[HUT.out HS.out];decide)]
    go_wp2
    go_ret
    exact ⟨by rw[HX.out];rfl,hbe2⟩
 ·have hwz2:(Pm.wrong f != 0)=true:=by simpa using hwz
  have HX:Hid (E=Pm.wrong f):=by rw[Hid,HE.out];unfold tl;rw[if_pos hwz]
  clear hwz
  go_wp2
  go_ret
  exact ⟨by rw[HX.out];rfl,hbe2⟩
theorem nN:(Tryz.prog.info? 23).map (·.size)=some 1:=by kernel_rfl
theorem j8 (x y:Value) (w:World):(Instr.index 106 (.agg #[x,y]) (.int .i64 0)).run Tryz.prog w=.ok x w∧(Instr.index 106 (.agg #[x,y]) (.int .i64 1)).run Tryz.prog w=.ok y w:=by
 cases hq:Tryz.prog.info? 23 with
 | none=>have:=nN;simp[hq] at this
 | some i =>
  have h1:i.size=1:=by have:=nN;simpa [hq] using this
  constructor <;> simp[Instr.index,asIntOf,Sem.run_bind,run_underlying Tryz.underlying106,part,isAgg,run_underlying Tryz.underlying23,sizeOf,typeInfo,hq,h1]
theorem GU (st:Bool) (f:Nat→Int) (r:Int):tl st f r=if tl st f 0≠0 then tl st f 0 else r:=by
 unfold tl
 by_cases h1:Pm.wrong f≠0
 ·rw[if_pos h1,if_pos h1,if_pos h1]
 ·rw[if_neg h1,if_neg h1]
  by_cases h2:gK st f=false
  ·rw[if_pos h2,if_pos h2,if_pos (by decide)]
  ·rw[if_neg h2,if_neg h2,if_neg (by decide)]
theorem J9 {g:Gm} {k:Nat} (h0:whE g k=0):whE g (k+1)=wwE (g.wi k) (g.nl k) (g.no k):=by
 show (if whE g k≠0 then whE g k else _)=_
 rw[if_neg (fun e=>e h0)]
 rfl
set_option maxRecDepth 100000 in
set_option maxHeartbeats 2000000 in
theorem tI (v:Value) (g:Gm) (w:World) (hv:cE w v g):Calls Tryz.prog 28 #[v] w fun e w'=>e=.returned (.int .i64 (gE g))∧Below w.heap.size w w':=by
 obtain ⟨a,b,c,rfl,hw,hri,hst⟩:=hv
 have h0:=cO.new w a b c g.rf g.pl
 obtain ⟨E,hE⟩:∃E,E=gE g:=⟨_,rfl⟩
 rw[←hE]
 have HE:Hid (E=gE g):=hE
 clear hE
 obtain ⟨ad,cap,R,rfl,hm,hr,hn⟩:=hw
 have hc0:=h0.c0
 have HWH:=(show Hid (∀r,r<g.n→∃b o,ad=some ⟨b,o,none⟩∧w.rangeAt b (o+r*27) (whl (g.wi r) (R r)).toList) from hr)
 have HNO:=(show Hid (∀r,r<g.n→aq w (R r) (g.nl r) (g.no r)) from hn)
 obtain ⟨ar,cr,rfl,hmr,hcr⟩:=hri
 obtain ⟨az,cz,rfl,hms,hcs⟩:=hst
 have HRI:=(show Hid (aq w (.slice ar g.rl cr) g.rl g.ri) from ⟨ar,cr,rfl,hmr,hcr⟩)
 have HST:=(show Hid (aq w (.slice az g.sl cz) g.sl g.st) from ⟨az,cz,rfl,hms,hcs⟩)
 clear hr hn hcr hcs
 unfold maxLen at hm hmr hms
 go_enter Tryz.func28,Tryz.ntmps28
 by_cases hmany:g.n<1∨4<g.n
 ·have HX:Hid (E=5):=by rw[Hid,HE.out,Lm hmany]
  have hbe:=h0.below
  by_cases hz:g.n<1
  ·have hz2:(g.n:Int)<1:=by omega
   go_wp2
   go_ret
   exact ⟨by rw[HX.out];rfl,hbe⟩
  ·have hz2:¬(g.n:Int)<1:=by omega
   have hz3:4<(g.n:Int):=by omega
   go_wp2
   go_ret
   exact ⟨by rw[HX.out];rfl,hbe⟩
 ·have hz2:¬(g.n:Int)<1:=by omega
  have hz3:¬4<(g.n:Int):=by omega
  have hn4:g.n≤4:=by omega
  have HMN:Hid (¬(g.n<1∨4<g.n)):=hmany
  clear hmany
  go_wp2_with fail
  go_loopw [22] (fun i W=>∃k:Nat,k≤g.n∧i=.int .i64 (k:Nat)∧Hid (whE g k=0)∧cO w W (.slice ad g.n cap) (.slice ar g.rl cr) (.slice az g.sl cz) g.rf g.pl) (fun i _=>((g.n:Int)-intOf i).toNat)
  case atStart=>exact ⟨0,by omega,rfl,rfl,h0⟩
  case round =>
   clear h0 hc0
   obtain ⟨k,hk,rfl,HK,hg⟩:=hrel
   by_cases hlt:k<g.n
   ·obtain ⟨bw,ow,rfl,hrg⟩:=HWH.out k hlt
    have hrg2:=bS hrg hg.below
    have hnk:=(HNO.out k hlt).below hg.below
    have HLT:Hid (k<g.n):=hlt
    have hz27:=cm fP
    have HONE:Hid ((R k).oneCell'=true):=by obtain ⟨a',c',e',_⟩:=hnk;rw[Hid,e'];rfl
    go_upto_region 6 with (first | refine aM rfl 104 _ rfl bw (ow+k*27) rfl (whl (g.wi k) (R k)) _ hrg2 Tryz.underlying104 rfl (by rw[aH];exact aT) ?_ | refine wpList_store_row rfl 104 _ _ rfl wr.heap.size (whl (g.wi k) (R k)) rfl rfl 104 _ (af.new wr _ _) (by rw[aH];exact aT) (by simp only[aH]) (eM HONE.out) ?_)
    have hg2:=(hg.alloc (.cells (whl (fun _=>0) (.slice none 0 0)) 104)).setRow wr.heap.size hg.lt (whl (g.wi k) (R k))
    have hr4:=(af.new wr 104 (whl (fun _=>0) (.slice none 0 0))).row (whl (g.wi k) (R k))
    generalize (wr.alloc (.cells (whl (fun _=>0) (.slice none 0 0)) 104)).setRow wr.heap.size (whl (g.wi k) (R k))=V at *
    obtain ⟨q,hq⟩:∃q,q=wr.heap.size:=⟨_,rfl⟩
    rw[←hq] at hr4 ⊢
    clear hq hrg hrg2 hnk hz27 HONE hg
    have HWW:=(show Hid _ from IL (g.wi k) (R k) (g.nl k) (g.no k) V ((HNO.out k hlt).below hg2.below))
    have HNX:=(show Hid _ from J9 HK.out)
    generalize wwE (g.wi k) (g.nl k) (g.no k)=X at *
    go_wp2_with (first | refine wpList_load_row rfl 104 _ rfl q rfl 104 (whl (g.wi k) (R k)) (0,0) _ hr4 Tryz.underlying104 rfl (by rw[aH];exact aT) ?_)
    refine Calls.mono HWW.out ?_
    rintro e V2 ⟨rfl,hb⟩
    have hg3:=hg2.step hb
    clear hb hg2 hr4 HWW
    by_cases hwz:X=0
    ·subst hwz
     have HX:Hid (whE g (k+1)=0):=HNX.out
     clear HNX
     go_wp2_with fail
     go_roundw
     case rel=>exact ⟨k+1,HLT.out,by go_num,HX.out,hg3⟩
     case measure=>have:=HLT.out;simp[intOf] <;> omega
    ·have hwz2:(X != 0)=true:=by simpa using hwz
     have HX:Hid (E=X):=by
      have e1:whE g (k+1)=X:=HNX.out
      have e2:=vV g (k+1) (by rw[e1];exact hwz) g.n HLT.out
      rw[Hid,HE.out,Lj HMN.out (by rw[e2,e1];exact hwz),e2,e1]
     have hbe:=hg3.below
     clear hwz
     go_wp2
     go_ret
     exact ⟨by rw[HX.out];rfl,hbe⟩
   ·obtain rfl:k=g.n:=by omega
    have HX3:Hid (E=gE3 g):=by rw[Hid,HE.out,LD HMN.out HK.out]
    have hn4:g.n≤4:=by omega
    have hc1:=hg.c1
    have hc2:=hg.c2
    clear HE HK HWH HNO
    go_wp2_with fail
    go_loopw [37] (fun i W=>∃k:Nat,k≤2∧i=.int .i64 (k:Nat)∧Hid (E=gE5 g k)∧cO w W (.slice ad g.n cap) (.slice ar g.rl cr) (.slice az g.sl cz) g.rf g.pl) (fun i _=>((2:Int)-intOf i).toNat)
    case atStart=>exact ⟨0,by omega,rfl,HX3.out,hg⟩
    case round =>
     clear hg hc1 hc2
     obtain ⟨k,hk,rfl,HQ,hg⟩:=hrel
     have hk3:k=0∨k=1∨k=2:=by omega
     have hc0:=hg.c0
     rcases hk3 with rfl | rfl | rfl
     ·have HV:=(show Hid (E=nl g.n g.rl g.ri (gE5 g 1)) from HQ.out)
      have HLN:=(show Hid (aq wr (.slice ar g.rl cr) g.rl g.ri) from HRI.out.below hg.below)
      have hbe:=hg.below
      have HG:=(show Hid _ from hg)
      have hgx:=fun W=>(j8 (.slice ar g.rl cr) (.slice az g.sl cz) W).1
      clear hg
      by_cases hln:g.rl=g.n
      ·have HV2:Hid (E=if ins g.rl g.ri=false then 3 else gE5 g 1):=by rw[Hid,HV.out];unfold nl;rw[if_neg (fun h=>h hln)]
       have hln2:((g.rl:Int) != (g.n:Int))=false:=by rw[hln];simp
       clear hln
       have HINS:=(show Hid _ from fL _ _ _ _ HLN.out)
       generalize ins g.rl g.ri=B at *
       go_wp2_with fail
       refine Calls.mono HINS.out ?_
       rintro e V3 ⟨rfl,rfl⟩
       cases B with
       | false =>
        have HX:Hid (E=3):=by rw[Hid,HV2.out,if_pos rfl]
        go_wp2
        go_ret
        exact ⟨by rw[HX.out];rfl,hbe⟩
       | true =>
        have HX:Hid (E=gE5 g 1):=by rw[Hid,HV2.out,if_neg (by decide)]
        go_wp2_with fail
        go_roundw
        case rel=>exact ⟨1,by omega,by go_num,HX.out,HG.out⟩
        case measure=>simp[intOf]
      ·have HX:Hid (E=8):=by rw[Hid,HV.out];unfold nl;rw[if_pos hln]
       have hln2:((g.rl:Int) != (g.n:Int))=true:=by simp;omega
       clear hln
       go_wp2
       go_ret
       exact ⟨by rw[HX.out];rfl,hbe⟩
     ·have HV:=(show Hid (E=nl g.n g.sl g.st (gE5 g 2)) from HQ.out)
      have HLN:=(show Hid (aq wr (.slice az g.sl cz) g.sl g.st) from HST.out.below hg.below)
      have hbe:=hg.below
      have HG:=(show Hid _ from hg)
      have hgx:=fun W=>(j8 (.slice ar g.rl cr) (.slice az g.sl cz) W).2
      clear hg
      by_cases hln:g.sl=g.n
      ·have HV2:Hid (E=if ins g.sl g.st=false then 3 else gE5 g 2):=by rw[Hid,HV.out];unfold nl;rw[if_neg (fun h=>h hln)]
       have hln2:((g.sl:Int) != (g.n:Int))=false:=by rw[hln];simp
       clear hln
       have HINS:=(show Hid _ from fL _ _ _ _ HLN.out)
       generalize ins g.sl g.st=B at *
       go_wp2_with fail
       refine Calls.mono HINS.out ?_
       rintro e V3 ⟨rfl,rfl⟩
       cases B with
       | false =>
        have HX:Hid (E=3):=by rw[Hid,HV2.out,if_pos rfl]
        go_wp2
        go_ret
        exact ⟨by rw[HX.out];rfl,hbe⟩
       | true =>
        have HX:Hid (E=gE5 g 2):=by rw[Hid,HV2.out,if_neg (by decide)]
        go_wp2_with fail
        go_roundw
        case rel=>exact ⟨2,by omega,by go_num,HX.out,HG.out⟩
        case measure=>simp[intOf]
      ·have HX:Hid (E=8):=by rw[Hid,HV.out];unfold nl;rw[if_pos hln]
       have hln2:((g.sl:Int) != (g.n:Int))=true:=by simp;omega
       clear hln
       go_wp2
       go_ret
       exact ⟨by rw[HX.out];rfl,hbe⟩
     ·have HV:Hid (E=tl true g.rf (tl false g.pl 0)):=HQ.out
      have HV2:Hid (E=if tl true g.rf 0≠0 then tl true g.rf 0 else tl false g.pl 0):=by rw[Hid,HV.out,GU]
      have hmid:=DV hg.row
      have HP1:=(show Hid (∀W,Calls Tryz.prog 54 #[.agg (ints 26 g.rf),.bool false] W fun e w'=>e=.returned (.int .i64 (tl true g.rf 0))∧Below W.heap.size W w') from fun W=>Ck g.rf false W)
      have HP2:=(show Hid (∀W,Calls Tryz.prog 54 #[.agg (ints 26 g.pl),.bool true] W fun e w'=>e=.returned (.int .i64 (tl false g.pl 0))∧Below W.heap.size W w') from fun W=>Ck g.pl true W)
      generalize tl true g.rf 0=X at *
      generalize tl false g.pl 0=Y at *
      clear HQ HV hc0
      go_wp2_with (first | refine aM rfl 25 _ rfl w.heap.size 3 rfl (ints 26 g.rf) _ hmid Tryz.underlying25 rfl (by rw[ag];exact aj) ?_)
      refine (HP1.out _).mono ?_
      rintro e V2 ⟨rfl,hb⟩
      have hg3:=hg.step hb
      have hmid2:=BW hg3.row
      clear hb hg hmid HP1
      by_cases hx:X=0
      ·subst hx
       have HX:Hid (E=Y):=by rw[Hid,HV2.out,if_neg (by decide)]
       go_wp2_with (first | refine aM rfl 25 _ rfl w.heap.size 29 rfl (ints 26 g.pl) _ hmid2 Tryz.underlying25 rfl (by rw[ag];exact aj) ?_)
       refine (HP2.out _).mono ?_
       rintro e V4 ⟨rfl,hb⟩
       have hg4:=hg3.step hb
       have hbe:=hg4.below
       clear hb hg3 hg4 hmid2
       go_wp2
       go_ret
       exact ⟨by rw[HX.out];rfl,hbe⟩
      ·have hx2:(X != 0)=true:=by simpa using hx
       have HX:Hid (E=X):=by rw[Hid,HV2.out,if_pos hx]
       have hbe:=hg3.below
       clear hx hg3 hmid2
       go_wp2
       go_ret
       exact ⟨by rw[HX.out];rfl,hbe⟩
end
section
open Go.RowKit PK Vg
structure Sp where
 k:Int
 n:Int
 key:ByteArray
 r:Nat
 L:Nat→Nat
 Z:Nat→Nat→Int
 g:Gm
def spA (k n:Int) (key:ByteArray) (mv a b c:Value) (rf pl:Nat→Int):Array Value:=#[.int .i64 k,.int .i64 n,.string key,mv]++mac a b c rf pl
section
variable (k n:Int) (key:ByteArray) (mv a b c:Value) (rf pl:Nat→Int)
theorem aS:(spA k n key mv a b c rf pl).size=59:=by simp[spA,aE]
theorem wu:(spA k n key mv a b c rf pl)[0]? = some (.int .i64 k):=by simp[spA,aE]
theorem se:(spA k n key mv a b c rf pl)[1]? = some (.int .i64 n):=by simp[spA,aE]
theorem rP:(spA k n key mv a b c rf pl)[2]? = some (.string key):=by simp[spA,aE]
theorem vI:(spA k n key mv a b c rf pl)[3]? = some mv:=by simp[spA,aE]
theorem uj (i:Nat):(spA k n key mv a b c rf pl)[4+i]? = (mac a b c rf pl)[i]?:=by
 unfold spA
 rw[Array.getElem?_append,if_neg (by simp)]
 simp
end
theorem lY {a b c:Value} {rf pl:Nat→Int} (ha:a.oneCell'=true) (hb:b.oneCell'=true) (hc:c.oneCell'=true):(mac a b c rf pl).all (·.oneCell')=true:=by
 unfold mac
 rw[Array.all_append,Array.all_append,aI,aI]
 simp[ha,hb,hc]
theorem dQ {k n:Int} {key:ByteArray} {mv a b c:Value} {rf pl:Nat→Int} (hm:mv.oneCell'=true) (ha:a.oneCell'=true) (hb:b.oneCell'=true) (hc:c.oneCell'=true):(spA k n key mv a b c rf pl).all (·.oneCell')=true:=by
 unfold spA
 rw[Array.all_append,lY ha hb hc]
 have h1:(Value.int .i64 k).oneCell'=true:=rfl
 have h2:(Value.int .i64 n).oneCell'=true:=rfl
 have h3:(Value.string key).oneCell'=true:=rfl
 simp[hm,h1,h2,h3]
theorem bA:(Tryz.prog.info? 64).map (·.size)=some 59:=by kernel_rfl
theorem uq:(Tryz.prog.info? 64).map (·.zero)=some (some (.agg (spA 0 0 ⟨#[]⟩ (.slice none 0 0) (.slice none 0 0) (.slice none 0 0) (.slice none 0 0) (fun _=>0) (fun _=>0)))):=by kernel_rfl
def fo (W:World) (v:Value) (s:Sp):Prop:=∃mv a b c,v=.agg (spA s.k s.n s.key mv a b c s.g.rf s.g.pl)∧kX W mv s.r s.L s.Z∧b7 W a s.g.n s.g.wi s.g.nl s.g.no∧aq W b s.g.rl s.g.ri∧aq W c s.g.sl s.g.st
theorem fo.below {w w':World} {v:Value} {s:Sp} (h:fo w v s) (hb:Below w.heap.size w w'):fo w' v s:=by
 obtain ⟨mv,a,b,c,rfl,h1,h2,h3,h4⟩:=h
 exact ⟨mv,a,b,c,rfl,h1.below hb,h2.below hb,h3.below hb,h4.below hb⟩
def kL (W:World) (v:Value) (n:Nat) (l:Nat→Sp):Prop :=
 ∃(a:Option Addr) (cap:Nat) (R:Nat→Array Value),v=.slice a n cap∧n≤maxLen∧(∀i,i<n→∃b o,a=some ⟨b,o,none⟩∧W.rangeAt b (o+i*59) (R i).toList)∧∀i,i<n→fo W (.agg (R i)) (l i)
theorem kL.below {w w':World} {v:Value} {n:Nat} {l:Nat→Sp} (h:kL w v n l) (hb:Below w.heap.size w w'):kL w' v n l:=by
 obtain ⟨a,cap,R,h1,h2,h3,h4⟩:=h
 refine ⟨a,cap,R,h1,h2,fun i hi=>?_,fun i hi=>(h4 i hi).below hb⟩
 obtain ⟨b,o,e,hc⟩:=h3 i hi
 exact ⟨b,o,e,bS hc hb⟩
def inE (n lo hi:Int):Int:=if n<lo∨hi<n then 3 else 0
def iz (l:List UInt8):Int:=if ckE l≠0 then ckE l else if l.length<1∨256<l.length then 5 else 0
def stE (s:Sp):Int :=
 if s.k=1 then inE s.n 0 25 else if s.k=2 then (if inE s.n 1 4≠0 then inE s.n 1 4 else iz s.key.data.toList)
 else if s.k=3 then inE s.n 1 64 else if s.k=4 then iz s.key.data.toList else if s.k=5 then J0 s.r s.L s.Z else if s.k=6 then gE s.g else 1
def qj (l:Nat→Sp):Nat→Option Nat
 | 0=>none
 | m+1=>match qj l m with
  | some i=>some i
  | none=>if stE (l m)=0 then none else some m
theorem mX {l:Nat→Sp}:∀{m:Nat},qj l m=none→∀i,i<m→stE (l i)=0
 | 0,_,i,hi=>by omega
 | m+1,h,i,hi=>by
  unfold qj at h
  cases hm:qj l m with
  | some x=>rw[hm] at h;cases h
  | none =>
   rw[hm] at h
   by_cases e:stE (l m)=0
   ·by_cases hi2:i=m
    ·rw[hi2];exact e
    ·exact mX hm i (by omega)
   ·simp only[if_neg e] at h;cases h
theorem CD {l:Nat→Sp}:∀{m:Nat},(∀i,i<m→stE (l i)=0)→qj l m=none
 | 0,_=>rfl
 | m+1,h=>by unfold qj;rw[CD (fun i hi=>h i (by omega))];simp only[if_pos (h m (by omega))]
theorem rT {l:Nat→Sp}:∀{m i:Nat},qj l m=some i→i<m∧stE (l i)≠0∧∀j,j<i→stE (l j)=0
 | 0,i,h=>by cases h
 | m+1,i,h=>by
  unfold qj at h
  cases hm:qj l m with
  | some x=>rw[hm] at h;cases h;obtain ⟨h1,h2⟩:=rT hm;exact ⟨by omega,h2⟩
  | none =>
   rw[hm] at h
   by_cases e:stE (l m)=0
   ·simp only[if_pos e] at h;cases h
   ·simp only[if_neg e] at h;cases h;exact ⟨by omega,e,fun j hj=>mX hm j hj⟩
def chE (n:Nat) (l:Nat→Sp):Int:=if 64<n then 5 else ((qj l n).map fun i=>stE (l i)).getD 0
theorem D1 {n:Nat} {l:Nat→Sp} (h:chE n l=0):n≤64∧∀i,i<n→stE (l i)=0:=by
 unfold chE at h
 by_cases hn:64<n
 ·rw[if_pos hn] at h;cases h
 ·rw[if_neg hn] at h
  refine ⟨by omega,?_⟩
  cases hm:qj l n with
  | none=>exact mX hm
  | some i=>rw[hm] at h;exact absurd h (rT hm).2.1
end
section
open Go.RowKit PK Vg
set_option maxRecDepth 100000 in
theorem Jy (n lo hi:Int) (h1:¬n<lo) (h2:¬hi<n) (w:World):Calls Tryz.prog 69 #[.int .i64 n,.int .i64 lo,.int .i64 hi] w fun e w'=>e=.returned (.int .i64 0)∧w'=w:=by
 go_enter Tryz.func69,Tryz.ntmps69
 go_wp2
 go_ret
 exact ⟨rfl,rfl⟩
set_option maxRecDepth 100000 in
theorem FY (n lo hi:Int) (h1:n<lo) (w:World):Calls Tryz.prog 69 #[.int .i64 n,.int .i64 lo,.int .i64 hi] w fun e w'=>e=.returned (.int .i64 3)∧w'=w:=by
 go_enter Tryz.func69,Tryz.ntmps69
 go_wp2
 go_ret
 exact ⟨rfl,rfl⟩
set_option maxRecDepth 100000 in
theorem B8 (n lo hi:Int) (h1:¬n<lo) (h2:hi<n) (w:World):Calls Tryz.prog 69 #[.int .i64 n,.int .i64 lo,.int .i64 hi] w fun e w'=>e=.returned (.int .i64 3)∧w'=w:=by
 go_enter Tryz.func69,Tryz.ntmps69
 go_wp2
 go_ret
 exact ⟨rfl,rfl⟩
theorem Aa (n lo hi:Int) (w:World):Calls Tryz.prog 69 #[.int .i64 n,.int .i64 lo,.int .i64 hi] w fun e w'=>e=.returned (.int .i64 (inE n lo hi))∧w'=w:=by
 unfold inE
 by_cases h1:n<lo
 ·rw[if_pos (.inl h1)];exact FY n lo hi h1 w
 ·by_cases h2:hi<n
  ·rw[if_pos (.inr h2)];exact B8 n lo hi h1 h2 w
  ·rw[if_neg (fun h=>h.elim h1 h2)];exact Jy n lo hi h1 h2 w
set_option maxRecDepth 100000 in
theorem DE (s:ByteArray) (w:World):Calls Tryz.prog 70 #[.string s] w fun e w'=>e=.returned (.int .i64 (iz s.data.toList))∧Below w.heap.size w w':=by
 obtain ⟨X,hX⟩:∃X,X=iz s.data.toList:=⟨_,rfl⟩
 rw[←hX]
 have HX:Hid (X=iz s.data.toList):=hX
 have hl:=Pl.aK s
 have HL:Hid (s.data.toList.length=s.size):=by rw[Hid,hl]
 have HC:Hid _:=eK s w
 generalize hce:ckE s.data.toList=c at *
 generalize oG s.data.toList=ca at *
 have HCE:Hid (ckE s.data.toList=c):=hce
 clear hX hl hce
 go_enter Tryz.func70,Tryz.ntmps70
 go_wp2_with fail
 refine Calls.mono HC.out ?_
 rintro e V ⟨rfl,hb⟩
 have hbe:=hb
 have HB:Hid (Below w.heap.size w (V.alloc (.cells #[.int .i64 c,.int .i64 ca] 37))):=hbe.alloc hbe.size _
 clear hb hbe
 by_cases hc0:c=0
 ·subst hc0
  by_cases h1:s.size<1
  ·have HE:Hid (X=5):=by rw[Hid,HX.out];unfold iz;rw[if_neg (fun h=>h HCE.out),if_pos (.inl (by rw[HL.out];exact h1))]
   have h1':(s.size:Int)<1:=by omega
   go_wp2
   go_ret
   exact ⟨by rw[HE.out];rfl,HB.out⟩
  ·have h1':¬(s.size:Int)<1:=by omega
   by_cases h2:256<s.size
   ·have HE:Hid (X=5):=by rw[Hid,HX.out];unfold iz;rw[if_neg (fun h=>h HCE.out),if_pos (.inr (by rw[HL.out];exact h2))]
    have h2':256<(s.size:Int):=by omega
    go_wp2
    go_ret
    exact ⟨by rw[HE.out];rfl,HB.out⟩
   ·have HE:Hid (X=0):=by rw[Hid,HX.out];unfold iz;rw[if_neg (fun h=>h HCE.out),if_neg (by rw[HL.out];omega)]
    have h2':¬256<(s.size:Int):=by omega
    go_wp2
    go_ret
    exact ⟨by rw[HE.out];rfl,HB.out⟩
 ·have hc1:(c != 0)=true:=by simpa using hc0
  have HE:Hid (X=c):=by rw[Hid,HX.out];unfold iz;rw[if_pos (by rw[HCE.out];exact hc0),HCE.out]
  clear hc0
  go_wp2
  go_ret
  exact ⟨by rw[HE.out];rfl,HB.out⟩
theorem oY:(Tryz.prog.info? 27).map (·.size)=some 55:=by kernel_rfl
end
section
open Go.RowKit PK Vg
theorem fo.cells {W:World} {R:Array Value} {s:Sp} (h:fo W (.agg R) s):R.size=59∧R.all (·.oneCell')=true:=by
 obtain ⟨mv,a,b,c,e,hm,hw,hri,hst⟩:=h
 have e2:=Value.agg.inj e
 have h1:mv.oneCell'=true:=by obtain ⟨_,_,_,e,_⟩:=hm;rw[e];rfl
 have h2:a.oneCell'=true:=by obtain ⟨_,_,_,e,_⟩:=hw;rw[e];rfl
 have h3:b.oneCell'=true:=by obtain ⟨_,_,e,_⟩:=hri;rw[e];rfl
 have h4:c.oneCell'=true:=by obtain ⟨_,_,e,_⟩:=hst;rw[e];rfl
 rw[e2]
 exact ⟨aS _ _ _ _ _ _ _ _ _,dQ h1 h2 h3 h4⟩
end
section
open Go.RowKit PK Vg
def fn0 (k:Nat):Nat:=if k=2 then 128 else if k=3 then 127 else 126
def fn2 (k:Nat):Nat:=if k=2 then 126 else if k=3 then 127 else 128
end
section
open Go.RowKit PK Vg
end
section
open Go.RowKit PK Vg
section
variable {P:Program} {ops:Array Oper} {Q:Exit→Act→World→Prop} {md:Region.Mode} {S:World→Prop}
end
end
section
open Go.RowKit PK Vg
end
section
open Go.RowKit PK Vg
end
section
open Go.RowKit PK Vg
end
section
open Go.RowKit PK Vg
end
section
open Go.RowKit PK Vg
end
namespace Sm
def LL (K:Int→Int) (x y:Int):Prop:=K x<K y∨(K x=K y∧x<y)
def Srt (K:Int→Int) (d:Nat→Int) (a b:Nat):Prop:=∀p q,a≤p→p<q→q<b→LL K (d p) (d q)
def LZ (K:Int→Int) (n:Nat) (d:Nat→Int):Prop:=∀p q,p<q→q<n→K (d p)=K (d q)→d p<d q
def Mv (a b:Nat) (d d':Nat→Int):Prop :=
 ∃p r:Nat→Nat,(∀i,r (p i)=i)∧(∀i,p (r i)=i)∧(∀i,d' i=d (p i))∧∀i,¬(a≤i∧i<b)→p i=i
structure Done (K:Int→Int) (n a b:Nat) (d d':Nat→Int):Prop where
 mv:Mv a b d d'
 L5:LZ K n d'
 srt:Srt K d' a b
structure Order (n:Nat) (d:Nat→Int):Prop where
 lt:∀i,i<n→0≤d i∧d i<n
 inj:∀i j,i<n→j<n→d i=d j→i=j
 L7:∀x:Int,0≤x→x<n→∃i,i<n∧d i=x
end Sm
namespace Qm
def it (f:Nat→Nat):Nat→Nat→Nat
 | 0,i=>i
 | k+1,i=>f (it f k i)
def left (g:Nat→Bool):Nat→Nat
 | 0=>0
 | n+1=>left g n+(if g n then 0 else 1)
structure Walk (n:Nat) (f:Nat→Nat) (g0:Nat→Bool) (i k:Nat) (g:Nat→Bool):Prop where
 mark:∀x,x<n→(g x=true↔g0 x=true∨∃j,j<k∧x=it f j i)
 fresh:∀j,j<k→g0 (it f j i)=false
 apart:∀j j',j<j'→j'<k→it f j i≠it f j' i
def Closed (n:Nat) (f:Nat→Nat) (g:Nat→Bool):Prop:=∀x,x<n→g (f x)=g x
end Qm
section
open Go.RowKit PK
end
section
open Go.RowKit PK
theorem xj:(Tryz.prog.info? 3).map (fun i=>(i.zero,i.size,i.bytes))=some (some (.int .i64 0),1,8):=by kernel_rfl
theorem qi (z:Value) (n:Nat):madeCells #[z] n=tab n fun _=>z:=by
 unfold madeCells tab
 apply Array.ext
 ·simp
 ·intro i h1 h2
  simp[Nat.mod_one]
theorem qF (n:Nat):(tab n fun _=>.int .i64 0)=ints n fun _=>0:=rfl
end
section
open Go.RowKit PK
end
namespace Sm
def K1 (rails i:Nat):Nat:=if rails=1 then 0 else min (i % (2*(rails-1))) (2*(rails-1)-i % (2*(rails-1)))
end Sm
section
open Go.RowKit PK
theorem uZ:(Tryz.prog.info? 5).map (fun i=>(i.zero,i.size,i.bytes))=some (some (.int .u8 0),1,1):=by kernel_rfl
def KX (n:Nat) (f:Nat→Int) (l:List UInt8):List UInt8:=(List.range n).map fun i=>l.getD (f i).toNat 0
def lO (n:Nat) (g:Nat→UInt8):Array Value:=tab n fun i=>.int .u8 (g i).toNat
theorem BM (n:Nat) (g:Nat→UInt8) (i:Nat) (b:UInt8):(lO n g).setIfInBounds i (.int .u8 b.toNat)=lO n (upd g i b):=by
 unfold lO
 rw[dw]
 exact bT fun j _=>by by_cases e:j=i <;> simp[upd,e]
theorem AL {n:Nat} (g:Nat→UInt8) {i:Nat} (h:i<n):(lO n g)[i]? = some (.int .u8 (g i).toNat):=aR _ h
theorem BC (n:Nat):(tab n fun _=>.int .u8 0)=lO n fun _=>0:=rfl
theorem kB {P:Program} (w:World) (src dst e:TypeId) (hs:P.underlying src=some (.slice e)) (he:P.underlying e=some (.int .u8)) (hd:P.underlying dst=some .string)
  {g n cap:Nat} {T:TypeId} {l:List UInt8} (hn:l.length=n) (h:af w g T (Lib.byteCells l).toArray):(convert src dst (.slice (some ⟨g,0,none⟩) n cap)).run P w=.ok (.string ⟨l.toArray⟩) w:=by
 subst hn
 rw[run_convert_bytes_string w src dst e _ _ _ hs he hd]
 have hl:=run_loadCells_list (P:=P) (w:=w) ⟨g,0,none⟩ (Lib.byteCells l) (fun j v hv=>by
  have e:((⟨g,0,none⟩:Addr).add j)=⟨g,j,none⟩:=by unfold Addr.add;by_cases e0:j=0 <;> simp[e0]
  rw[e]
  exact h.cell (by simpa using hv))
 rw[Lib.byteCells_length] at hl
 have e1:Lib.byteCells l=(l.map fun b=>(b.toNat:Int)).map (Value.int .u8):=by simp[Lib.byteCells]
 rw[e1] at hl
 rw[run_bytesToString w _ _ _ _ hl,Kit.foldl_push]
 simp
def Il (f:Nat→Int):Nat→Nat→Int
 | 0=>fun _=>0
 | m+1=>upd (Il f m) (f m).toNat m
end
section
open Go.RowKit PK Sm
end
section
open Go.RowKit PK Sm
end
section
open Go.RowKit PK Sm
end
section
open Go.RowKit PK Sm
end
section
open Go.RowKit PK Sm
end
section
open Go.RowKit PK Sm
end
section
open Go.RowKit PK Sm
def F9 (R:Nat):Int→Int:=fun z=>(K1 R z.toNat:Nat)
end
section
open Go.RowKit PK Sm
def LC (l:List UInt8):Int→Int:=fun z=>((l.getD z.toNat 0).toNat:Nat)
def Ko (L:Nat) (t:Nat→Int):Int→Int:=fun z=>t (z.toNat % L)
structure KM (l:List UInt8) (L:Nat) (t:Nat→Int):Prop where
 ex:∃d,Order L d∧Srt (LC l) d 0 L∧∀x,t x=Il d L x
end
end Go.Proofs.YtgacaecjinlhiaaGreatDoor
