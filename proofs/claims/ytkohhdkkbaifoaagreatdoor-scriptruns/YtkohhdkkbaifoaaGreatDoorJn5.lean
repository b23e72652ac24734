/-
  Several texts, joined: RoWg, ScK, ScW.
-/
import Derived.Test.YtkohhdkkbaifoaaGreatDoorJn4
import Derived.Test.YtkohhdkkbaifoaaGreatDoorORWr
import Derived.Test.YtkohhdkkbaifoaaGreatDoorJn2
/-
  Contracts of rotor.wheelWrong, pairsWrong and Wrong.
-/
namespace Go.Proofs.YtkohhdkkbaifoaaGreatDoor
open Go.RowKit PK Vg

def wwE (u:Nat→Int) (n:Nat) (f:Nat→Int):Int:=if Pm.wrong u≠0 then Pm.wrong u else if ins n f=true then 0 else 3
set_option maxRecDepth 100000 in
set_option maxHeartbeats 1000000 in
theorem ww_any (u:Nat→Int) (v:Value) (n:Nat) (f:Nat→Int) (w:World) (hv:NumsAt w v n f):Calls Tryz.prog 67 #[.agg (whl u v)] w fun e w'=>e=.returned (.int .i64 (wwE u n f))∧Below w.heap.size w w':=by
 obtain ⟨E,hE⟩:∃E,E=wwE u n f:=⟨_,rfl⟩
 rw[←hE]
 have hr:=RowAt.new w 97 (whl u v)
 have hbe:Below w.heap.size w (w.alloc (.cells (whl u v) 97)):=(Below.refl _ w).alloc (Nat.le_refl _) _
 have HV:=(show Hid (NumsAt w v n f) from hv)
 have hmid:=mid_wi hr
 clear hv
 go_enter Tryz.func67,Tryz.ntmps67
 go_wp2_with (first | refine wpList_load_arr rfl 27 _ rfl w.heap.size 0 rfl (ints 26 u) _ hmid Tryz.underlying27 rfl (by rw[ints_size];exact info_perm) ?_)
 refine (wrong_any u _).mono ?_
 rintro e V ⟨rfl,hb⟩
 have hr2:=hr.below hb hr.lt
 have hl:=hr2.cell (whl_last u v)
 have hbe2:=hbe.trans (hb.mono hbe.size)
 clear hb hr hbe hmid hr2
 by_cases hz:Pm.wrong u=0
 ·have HE:Hid (E=if ins n f=true then 0 else 3):=by rw[Hid,hE];unfold wwE;rw[if_neg (fun h=>h hz)]
  rw[hz]
  have HIN:=(show Hid _ from areLetters_any v n f V (HV.out.below (hbe2)))
  generalize ins n f=B at *
  clear hz HV hE
  go_wp2_with fail
  refine Calls.mono HIN.out ?_
  rintro e V3 ⟨rfl,rfl⟩
  cases B with
  | true =>
   go_wp2
   go_ret
   exact ⟨by rw[HE.out];rfl,hbe2⟩
  | false =>
   go_wp2
   go_ret
   exact ⟨by rw[HE.out];rfl,hbe2⟩
 ·have hz2:(Pm.wrong u != 0)=true:=by simpa using hz
  have HE:Hid (E=Pm.wrong u):=by rw[Hid,hE];unfold wwE;rw[if_pos hz]
  clear hz HV hE
  go_wp2
  go_ret
  exact ⟨by rw[HE.out];rfl,hbe2⟩
set_option maxRecDepth 100000 in
set_option maxHeartbeats 2000000 in
theorem pw_any (f:Nat→Int) (al:Bool) (w:World):Calls Tryz.prog 69 #[.agg (ints 26 f),.bool al] w fun e w'=>e=.returned (.int .i64 (tl (!al) f 0))∧Below w.heap.size w w':=by
 obtain ⟨E,hE⟩:∃E,E=tl (!al) f 0:=⟨_,rfl⟩
 rw[←hE]
 have HE:Hid (E=tl (!al) f 0):=hE
 clear hE
 have hr:=RowAt.new w 27 (ints 26 f)
 have hbe:Below w.heap.size w (w.alloc (.cells (ints 26 f) 27)):=(Below.refl _ w).alloc (Nat.le_refl _) _
 go_enter Tryz.func69,Tryz.ntmps69
 go_wp2_with (first | refine wpList_load_row rfl 27 _ rfl w.heap.size rfl 27 (ints 26 f) (0,0) _ hr Tryz.underlying27 rfl (by rw[ints_size];exact info_perm) ?_)
 refine (wrong_any f _).mono ?_
 rintro e V2 ⟨rfl,hb⟩
 have hr5:=hr.below hb hr.lt
 have hbe2:=hbe.trans (hb.mono hbe.size)
 clear hb hr hbe
 by_cases hwz:Pm.wrong f=0
 ·obtain ⟨pp,hpp,epp⟩:=(Pm.wrong_zero f).1 hwz
  have HEP:Hid (∀i,i<26→f i=(pp i:Int)):=epp
  have HV2:Hid (E=if undo (!al) f=false then 1 else 0):=by rw[Hid,HE.out];unfold tl;rw[if_neg (fun h=>h hwz)]
  have HUB:=(show Hid (∀i,i<26→(pp (pp i)≠i∨((!al)=true∧pp i=i))→undo (!al) f=false) from fun i hi h=>undo_bad hpp epp hi h)
  have HUT:=(show Hid ((∀i,i<26→pp (pp i)=i∧((!al)=true→pp i≠i))→undo (!al) f=true) from (undo_perm hpp epp).2)
  have HLT:=(show Hid (∀i,i<26→pp i<26) from hpp.lt)
  rw[hwz]
  clear hwz epp hpp HE
  go_wp2_with (first | refine wpList_load_row rfl 27 _ rfl w.heap.size rfl 27 (ints 26 f) (0,0) _ hr5 Tryz.underlying27 rfl (by rw[ints_size];exact info_perm) ?_)
  go_loopw [14] (fun i W=>∃m:Nat,m≤26∧i=.int .i64 (m:Nat)∧Hid (∀j,j<m→pp (pp j)=j∧((!al)=true→pp j≠j))∧V2=W) (fun i _=>((26:Int)-intOf i).toNat)
  case atStart=>exact ⟨0,by omega,rfl,fun j hj=>by omega,rfl⟩
  case round =>
   obtain ⟨m,hm26,rfl,HS,rfl⟩:=hrel
   by_cases hlt:m<26
   ·have h1:=HLT.out m hlt
    have HL:Hid (m<26):=hlt
    have hgx:=run_index_ints 27 3 26 Tryz.underlying27 Tryz.underlying3 info_int f m hlt
    have c2:=hr5.cell (ints_get f h1)
    rw[HEP.out m hlt] at hgx
    rw[HEP.out _ h1] at c2
    have HB1:=(show Hid _ from HUB.out m hlt)
    have HNX:=(show Hid (pp (pp m)=m→((!al)=true→pp m≠m)→∀j,j<m+1→pp (pp j)=j∧((!al)=true→pp j≠j)) from fun h1 h2 j hj=>by
     by_cases e:j=m
     ·rw[e];exact ⟨h1,h2⟩
     ·exact HS.out j (by omega))
    generalize pp (pp m)=P2 at *
    generalize pp m=P1 at *
    clear HS
    by_cases hp2:P2=m
    ·have hp3:((P2:Int) != (m:Int))=false:=by simp[hp2]
     by_cases hp1:P1=m
     ·have hp4:((P1:Int)==(m:Int))=true:=by simp[hp1]
      cases al with
      | false =>
       have HX:Hid (E=1):=by rw[Hid,HV2.out,if_pos (HB1.out (.inr ⟨rfl,hp1⟩))]
       clear hp1 hp2
       go_wp2
       go_ret
       exact ⟨by rw[HX.out];rfl,hbe2⟩
      | true =>
       have HN2:=(show Hid _ from HNX.out hp2 (fun h=>by cases h))
       clear hp1 hp2
       go_wp2_with fail
       go_roundw
       case rel=>exact ⟨m+1,HL.out,by go_num,HN2.out,by first | rfl | trivial⟩
       case measure=>have:=HL.out;simp[intOf] <;> omega
     ·have hp4:((P1:Int)==(m:Int))=false:=beq_false_of_ne (by omega)
      have HN2:=(show Hid _ from HNX.out hp2 (fun _=>hp1))
      clear hp1 hp2
      go_wp2_with fail
      go_roundw
      case rel=>exact ⟨m+1,HL.out,by go_num,HN2.out,by first | rfl | trivial⟩
      case measure=>have:=HL.out;simp[intOf] <;> omega
    ·have hp3:((P2:Int) != (m:Int))=true:=by simp;omega
     have HX:Hid (E=1):=by rw[Hid,HV2.out,if_pos (HB1.out (.inl hp2))]
     clear hp2
     go_wp2
     go_ret
     exact ⟨by rw[HX.out];rfl,hbe2⟩
   ·obtain rfl:m=26:=by omega
    have HX:Hid (E=0):=by rw[Hid,HV2.out,if_neg (by rw[HUT.out HS.out];decide)]
    go_wp2
    go_ret
    exact ⟨by rw[HX.out];rfl,hbe2⟩
 ·have hwz2:(Pm.wrong f != 0)=true:=by simpa using hwz
  have HX:Hid (E=Pm.wrong f):=by rw[Hid,HE.out];unfold tl;rw[if_pos hwz]
  clear hwz
  go_wp2
  go_ret
  exact ⟨by rw[HX.out];rfl,hbe2⟩
theorem v_info_nums:(Tryz.prog.info? 25).map (·.size)=some 1:=by kernel_rfl
theorem run_index_two (x y:Value) (w:World):(Instr.index 99 (.agg #[x,y]) (.int .i64 0)).run Tryz.prog w=.ok x w∧(Instr.index 99 (.agg #[x,y]) (.int .i64 1)).run Tryz.prog w=.ok y w:=by
 cases hq:Tryz.prog.info? 25 with
 | none=>have:=v_info_nums;simp[hq] at this
 | some i =>
  have h1:i.size=1:=by have:=v_info_nums;simpa [hq] using this
  constructor <;> simp[Instr.index,asIntOf,Sem.run_bind,run_underlying Tryz.underlying99,part,isAgg,run_underlying Tryz.underlying25,sizeOf,typeInfo,hq,h1]
theorem tl_zero (st:Bool) (f:Nat→Int) (r:Int):tl st f r=if tl st f 0≠0 then tl st f 0 else r:=by
 unfold tl
 by_cases h1:Pm.wrong f≠0
 ·rw[if_pos h1,if_pos h1,if_pos h1]
 ·rw[if_neg h1,if_neg h1]
  by_cases h2:undo st f=false
  ·rw[if_pos h2,if_pos h2,if_pos (by decide)]
  ·rw[if_neg h2,if_neg h2,if_neg (by decide)]
theorem whE_ww {g:Gm} {k:Nat} (h0:whE g k=0):whE g (k+1)=wwE (g.wi k) (g.nl k) (g.no k):=by
 show (if whE g k≠0 then whE g k else _)=_
 rw[if_neg (fun e=>e h0)]
 rfl
set_option maxRecDepth 100000 in
set_option maxHeartbeats 2000000 in
theorem gw_any (v:Value) (g:Gm) (w:World) (hv:MacAt w v g):Calls Tryz.prog 30 #[v] w fun e w'=>e=.returned (.int .i64 (gE g))∧Below w.heap.size w w':=by
 obtain ⟨a,b,c,rfl,hw,hri,hst⟩:=hv
 have h0:=MgAt.new w a b c g.rf g.pl
 obtain ⟨E,hE⟩:∃E,E=gE g:=⟨_,rfl⟩
 rw[←hE]
 have HE:Hid (E=gE g):=hE
 clear hE
 obtain ⟨ad,cap,R,rfl,hm,hr,hn⟩:=hw
 have hc0:=h0.c0
 have HWH:=(show Hid (∀r,r<g.n→∃b o,ad=some ⟨b,o,none⟩∧w.rangeAt b (o+r*27) (whl (g.wi r) (R r)).toList) from hr)
 have HNO:=(show Hid (∀r,r<g.n→NumsAt w (R r) (g.nl r) (g.no r)) from hn)
 obtain ⟨ar,cr,rfl,hmr,hcr⟩:=hri
 obtain ⟨az,cz,rfl,hms,hcs⟩:=hst
 have HRI:=(show Hid (NumsAt w (.slice ar g.rl cr) g.rl g.ri) from ⟨ar,cr,rfl,hmr,hcr⟩)
 have HST:=(show Hid (NumsAt w (.slice az g.sl cz) g.sl g.st) from ⟨az,cz,rfl,hms,hcs⟩)
 clear hr hn hcr hcs
 unfold maxLen at hm hmr hms
 go_enter Tryz.func30,Tryz.ntmps30
 by_cases hmany:g.n<1∨4<g.n
 ·have HX:Hid (E=5):=by rw[Hid,HE.out,gE_1 hmany]
  have hbe:=h0.below
  by_cases hz:g.n<1
  ·have hz2:(g.n:Int)<1:=by omega
   go_wp2
   go_ret
   exact ⟨by rw[HX.out];rfl,hbe⟩
  ·have hz2:¬(g.n:Int)<1:=by omega
   have hz3:4<(g.n:Int):=by omega
   go_wp2
   go_ret
   exact ⟨by rw[HX.out];rfl,hbe⟩
 ·have hz2:¬(g.n:Int)<1:=by omega
  have hz3:¬4<(g.n:Int):=by omega
  have hn4:g.n≤4:=by omega
  have HMN:Hid (¬(g.n<1∨4<g.n)):=hmany
  clear hmany
  go_wp2_with fail
  go_loopw [22] (fun i W=>∃k:Nat,k≤g.n∧i=.int .i64 (k:Nat)∧Hid (whE g k=0)∧MgAt w W (.slice ad g.n cap) (.slice ar g.rl cr) (.slice az g.sl cz) g.rf g.pl) (fun i _=>((g.n:Int)-intOf i).toNat)
  case atStart=>exact ⟨0,by omega,rfl,rfl,h0⟩
  case round =>
   clear h0 hc0
   obtain ⟨k,hk,rfl,HK,hg⟩:=hrel
   by_cases hlt:k<g.n
   ·obtain ⟨bw,ow,rfl,hrg⟩:=HWH.out k hlt
    have hrg2:=rangeAt_below hrg hg.below
    have hnk:=(HNO.out k hlt).below hg.below
    have HLT:Hid (k<g.n):=hlt
    have hz27:=o_zero v_zero_whl
    have HONE:Hid ((R k).oneCell'=true):=by obtain ⟨a',c',e',_⟩:=hnk;rw[Hid,e'];rfl
    go_upto_region 6 with (first | refine wpList_load_arr rfl 97 _ rfl bw (ow+k*27) rfl (whl (g.wi k) (R k)) _ hrg2 Tryz.underlying97 rfl (by rw[whl_size];exact v_info_whl) ?_ | refine wpList_store_row rfl 97 _ _ rfl wr.heap.size (whl (g.wi k) (R k)) rfl rfl 97 _ (RowAt.new wr _ _) (by rw[whl_size];exact v_info_whl) (by simp only[whl_size]) (whl_one HONE.out) ?_)
    have hg2:=(hg.alloc (.cells (whl (fun _=>0) (.slice none 0 0)) 97)).setRow wr.heap.size hg.lt (whl (g.wi k) (R k))
    have hr4:=(RowAt.new wr 97 (whl (fun _=>0) (.slice none 0 0))).row (whl (g.wi k) (R k))
    generalize (wr.alloc (.cells (whl (fun _=>0) (.slice none 0 0)) 97)).setRow wr.heap.size (whl (g.wi k) (R k))=V at *
    obtain ⟨q,hq⟩:∃q,q=wr.heap.size:=⟨_,rfl⟩
    rw[←hq] at hr4 ⊢
    clear hq hrg hrg2 hnk hz27 HONE hg
    have HWW:=(show Hid _ from ww_any (g.wi k) (R k) (g.nl k) (g.no k) V ((HNO.out k hlt).below hg2.below))
    have HNX:=(show Hid _ from whE_ww HK.out)
    generalize wwE (g.wi k) (g.nl k) (g.no k)=X at *
    go_wp2_with (first | refine wpList_load_row rfl 97 _ rfl q rfl 97 (whl (g.wi k) (R k)) (0,0) _ hr4 Tryz.underlying97 rfl (by rw[whl_size];exact v_info_whl) ?_)
    refine Calls.mono HWW.out ?_
    rintro e V2 ⟨rfl,hb⟩
    have hg3:=hg2.step hb
    clear hb hg2 hr4 HWW
    by_cases hwz:X=0
    ·subst hwz
     have HX:Hid (whE g (k+1)=0):=HNX.out
     clear HNX
     go_wp2_with fail
     go_roundw
     case rel=>exact ⟨k+1,HLT.out,by go_num,HX.out,hg3⟩
     case measure=>have:=HLT.out;simp[intOf] <;> omega
    ·have hwz2:(X != 0)=true:=by simpa using hwz
     have HX:Hid (E=X):=by
      have e1:whE g (k+1)=X:=HNX.out
      have e2:=whE_keep g (k+1) (by rw[e1];exact hwz) g.n HLT.out
      rw[Hid,HE.out,gE_2 HMN.out (by rw[e2,e1];exact hwz),e2,e1]
     have hbe:=hg3.below
     clear hwz
     go_wp2
     go_ret
     exact ⟨by rw[HX.out];rfl,hbe⟩
   ·obtain rfl:k=g.n:=by omega
    have HX3:Hid (E=gE3 g):=by rw[Hid,HE.out,gE_3 HMN.out HK.out]
    have hn4:g.n≤4:=by omega
    have hc1:=hg.c1
    have hc2:=hg.c2
    clear HE HK HWH HNO
    go_wp2_with fail
    go_loopw [37] (fun i W=>∃k:Nat,k≤2∧i=.int .i64 (k:Nat)∧Hid (E=gE5 g k)∧MgAt w W (.slice ad g.n cap) (.slice ar g.rl cr) (.slice az g.sl cz) g.rf g.pl) (fun i _=>((2:Int)-intOf i).toNat)
    case atStart=>exact ⟨0,by omega,rfl,HX3.out,hg⟩
    case round =>
     clear hg hc1 hc2
     obtain ⟨k,hk,rfl,HQ,hg⟩:=hrel
     have hk3:k=0∨k=1∨k=2:=by omega
     have hc0:=hg.c0
     rcases hk3 with rfl | rfl | rfl
     ·have HV:=(show Hid (E=nl g.n g.rl g.ri (gE5 g 1)) from HQ.out)
      have HLN:=(show Hid (NumsAt wr (.slice ar g.rl cr) g.rl g.ri) from HRI.out.below hg.below)
      have hbe:=hg.below
      have HG:=(show Hid _ from hg)
      have hgx:=fun W=>(run_index_two (.slice ar g.rl cr) (.slice az g.sl cz) W).1
      clear hg
      by_cases hln:g.rl=g.n
      ·have HV2:Hid (E=if ins g.rl g.ri=false then 3 else gE5 g 1):=by rw[Hid,HV.out];unfold nl;rw[if_neg (fun h=>h hln)]
       have hln2:((g.rl:Int) != (g.n:Int))=false:=by rw[hln];simp
       clear hln
       have HINS:=(show Hid _ from areLetters_any _ _ _ _ HLN.out)
       generalize ins g.rl g.ri=B at *
       go_wp2_with fail
       refine Calls.mono HINS.out ?_
       rintro e V3 ⟨rfl,rfl⟩
       cases B with
       | false =>
        have HX:Hid (E=3):=by rw[Hid,HV2.out,if_pos rfl]
        go_wp2
        go_ret
        exact ⟨by rw[HX.out];rfl,hbe⟩
       | true =>
        have HX:Hid (E=gE5 g 1):=by rw[Hid,HV2.out,if_neg (by decide)]
        go_wp2_with fail
        go_roundw
        case rel=>exact ⟨1,by omega,by go_num,HX.out,HG.out⟩
        case measure=>simp[intOf]
      ·have HX:Hid (E=8):=by rw[Hid,HV.out];unfold nl;rw[if_pos hln]
       have hln2:((g.rl:Int) != (g.n:Int))=true:=by simp;omega
       clear hln
       go_wp2
       go_ret
       exact ⟨by rw[HX.out];rfl,hbe⟩
     ·have HV:=(show Hid (E=nl g.n g.sl g.st (gE5 g 2)) from HQ.out)
      have HLN:=(show Hid (NumsAt wr (.slice az g.sl cz) g.sl g.st) from HST.out.below hg.below)
      have hbe:=hg.below
      have HG:=(show Hid _ from hg)
      have hgx:=fun W=>(run_index_two (.slice ar g.rl cr) (.slice az g.sl cz) W).2
      clear hg
      by_cases hln:g.sl=g.n
      ·have HV2:Hid (E=if ins g.sl g.st=false then 3 else gE5 g 2):=by rw[Hid,HV.out];unfold nl;rw[if_neg (fun h=>h hln)]
       have hln2:((g.sl:Int) != (g.n:Int))=false:=by rw[hln];simp
       clear hln
       have HINS:=(show Hid _ from areLetters_any _ _ _ _ HLN.out)
       generalize ins g.sl g.st=B at *
       go_wp2_with fail
       refine Calls.mono HINS.out ?_
       rintro e V3 ⟨rfl,rfl⟩
       cases B with
       | false =>
        have HX:Hid (E=3):=by rw[Hid,HV2.out,if_pos rfl]
        go_wp2
        go_ret
        exact ⟨by rw[HX.out];rfl,hbe⟩
       | true =>
        have HX:Hid (E=gE5 g 2):=by rw[Hid,HV2.out,if_neg (by decide)]
        go_wp2_with fail
        go_roundw
        case rel=>exact ⟨2,by omega,by go_num,HX.out,HG.out⟩
        case measure=>simp[intOf]
      ·have HX:Hid (E=8):=by rw[Hid,HV.out];unfold nl;rw[if_pos hln]
       have hln2:((g.sl:Int) != (g.n:Int))=true:=by simp;omega
       clear hln
       go_wp2
       go_ret
       exact ⟨by rw[HX.out];rfl,hbe⟩
     ·have HV:Hid (E=tl true g.rf (tl false g.pl 0)):=HQ.out
      have HV2:Hid (E=if tl true g.rf 0≠0 then tl true g.rf 0 else tl false g.pl 0):=by rw[Hid,HV.out,tl_zero]
      have hmid:=mid_rf hg.row
      have HP1:=(show Hid (∀W,Calls Tryz.prog 69 #[.agg (ints 26 g.rf),.bool false] W fun e w'=>e=.returned (.int .i64 (tl true g.rf 0))∧Below W.heap.size W w') from fun W=>pw_any g.rf false W)
      have HP2:=(show Hid (∀W,Calls Tryz.prog 69 #[.agg (ints 26 g.pl),.bool true] W fun e w'=>e=.returned (.int .i64 (tl false g.pl 0))∧Below W.heap.size W w') from fun W=>pw_any g.pl true W)
      generalize tl true g.rf 0=X at *
      generalize tl false g.pl 0=Y at *
      clear HQ HV hc0
      go_wp2_with (first | refine wpList_load_arr rfl 27 _ rfl w.heap.size 3 rfl (ints 26 g.rf) _ hmid Tryz.underlying27 rfl (by rw[ints_size];exact info_perm) ?_)
      refine (HP1.out _).mono ?_
      rintro e V2 ⟨rfl,hb⟩
      have hg3:=hg.step hb
      have hmid2:=mid_pl hg3.row
      clear hb hg hmid HP1
      by_cases hx:X=0
      ·subst hx
       have HX:Hid (E=Y):=by rw[Hid,HV2.out,if_neg (by decide)]
       go_wp2_with (first | refine wpList_load_arr rfl 27 _ rfl w.heap.size 29 rfl (ints 26 g.pl) _ hmid2 Tryz.underlying27 rfl (by rw[ints_size];exact info_perm) ?_)
       refine (HP2.out _).mono ?_
       rintro e V4 ⟨rfl,hb⟩
       have hg4:=hg3.step hb
       have hbe:=hg4.below
       clear hb hg3 hg4 hmid2
       go_wp2
       go_ret
       exact ⟨by rw[HX.out];rfl,hbe⟩
      ·have hx2:(X != 0)=true:=by simpa using hx
       have HX:Hid (E=X):=by rw[Hid,HV2.out,if_pos hx]
       have hbe:=hg3.below
       clear hx hg3 hmid2
       go_wp2
       go_ret
       exact ⟨by rw[HX.out];rfl,hbe⟩
end Go.Proofs.YtkohhdkkbaifoaaGreatDoor

/-
  Chains of ciphers (chapter 17) as data: a step's 59 cells, what is wrong with it; how chains lie in memory.
-/
namespace Go.Proofs.YtkohhdkkbaifoaaGreatDoor
open Go.RowKit PK Vg

structure Sp where
 k:Int
 n:Int
 key:ByteArray
 r:Nat
 L:Nat→Nat
 Z:Nat→Nat→Int
 g:Gm
def spA (k n:Int) (key:ByteArray) (mv a b c:Value) (rf pl:Nat→Int):Array Value:=#[.int .i64 k,.int .i64 n,.string key,mv]++mac a b c rf pl
section
variable (k n:Int) (key:ByteArray) (mv a b c:Value) (rf pl:Nat→Int)
theorem spA_size:(spA k n key mv a b c rf pl).size=59:=by simp[spA,mac_size]
theorem spA_0:(spA k n key mv a b c rf pl)[0]? = some (.int .i64 k):=by simp[spA,mac_size]
theorem spA_1:(spA k n key mv a b c rf pl)[1]? = some (.int .i64 n):=by simp[spA,mac_size]
theorem spA_2:(spA k n key mv a b c rf pl)[2]? = some (.string key):=by simp[spA,mac_size]
theorem spA_3:(spA k n key mv a b c rf pl)[3]? = some mv:=by simp[spA,mac_size]
theorem spA_mac (i:Nat):(spA k n key mv a b c rf pl)[4+i]? = (mac a b c rf pl)[i]?:=by
 unfold spA
 rw[Array.getElem?_append,if_neg (by simp)]
 simp
end
theorem mac_one {a b c:Value} {rf pl:Nat→Int} (ha:a.oneCell'=true) (hb:b.oneCell'=true) (hc:c.oneCell'=true):(mac a b c rf pl).all (·.oneCell')=true:=by
 unfold mac
 rw[Array.all_append,Array.all_append,ints_one,ints_one]
 simp[ha,hb,hc]
theorem spA_one {k n:Int} {key:ByteArray} {mv a b c:Value} {rf pl:Nat→Int} (hm:mv.oneCell'=true) (ha:a.oneCell'=true) (hb:b.oneCell'=true) (hc:c.oneCell'=true):(spA k n key mv a b c rf pl).all (·.oneCell')=true:=by
 unfold spA
 rw[Array.all_append,mac_one ha hb hc]
 have h1:(Value.int .i64 k).oneCell'=true:=rfl
 have h2:(Value.int .i64 n).oneCell'=true:=rfl
 have h3:(Value.string key).oneCell'=true:=rfl
 simp[hm,h1,h2,h3]
theorem s_info:(Tryz.prog.info? 31).map (·.size)=some 59:=by kernel_rfl
theorem s_zero:(Tryz.prog.info? 31).map (·.zero)=some (some (.agg (spA 0 0 ⟨#[]⟩ (.slice none 0 0) (.slice none 0 0) (.slice none 0 0) (.slice none 0 0) (fun _=>0) (fun _=>0)))):=by kernel_rfl
def SqAt (W:World) (v:Value) (s:Sp):Prop:=∃mv a b c,v=.agg (spA s.k s.n s.key mv a b c s.g.rf s.g.pl)∧MatAt W mv s.r s.L s.Z∧WheelsAt W a s.g.n s.g.wi s.g.nl s.g.no∧NumsAt W b s.g.rl s.g.ri∧NumsAt W c s.g.sl s.g.st
theorem SqAt.below {w w':World} {v:Value} {s:Sp} (h:SqAt w v s) (hb:Below w.heap.size w w'):SqAt w' v s:=by
 obtain ⟨mv,a,b,c,rfl,h1,h2,h3,h4⟩:=h
 exact ⟨mv,a,b,c,rfl,h1.below hb,h2.below hb,h3.below hb,h4.below hb⟩
def ChAt (W:World) (v:Value) (n:Nat) (l:Nat→Sp):Prop :=
 ∃(a:Option Addr) (cap:Nat) (R:Nat→Array Value),v=.slice a n cap∧n≤maxLen∧(∀i,i<n→∃b o,a=some ⟨b,o,none⟩∧W.rangeAt b (o+i*59) (R i).toList)∧∀i,i<n→SqAt W (.agg (R i)) (l i)
theorem ChAt.below {w w':World} {v:Value} {n:Nat} {l:Nat→Sp} (h:ChAt w v n l) (hb:Below w.heap.size w w'):ChAt w' v n l:=by
 obtain ⟨a,cap,R,h1,h2,h3,h4⟩:=h
 refine ⟨a,cap,R,h1,h2,fun i hi=>?_,fun i hi=>(h4 i hi).below hb⟩
 obtain ⟨b,o,e,hc⟩:=h3 i hi
 exact ⟨b,o,e,rangeAt_below hc hb⟩
def inE (n lo hi:Int):Int:=if n<lo∨hi<n then 3 else 0
def keyE (l:List UInt8):Int:=if ckE l≠0 then ckE l else if l.length<1∨256<l.length then 5 else 0
def stE (s:Sp):Int :=
 if s.k=1 then inE s.n 0 25 else if s.k=2 then (if inE s.n 1 4≠0 then inE s.n 1 4 else keyE s.key.data.toList)
 else if s.k=3 then inE s.n 1 64 else if s.k=4 then keyE s.key.data.toList else if s.k=5 then matErr s.r s.L s.Z else if s.k=6 then gE s.g else 1
def firE (l:Nat→Sp):Nat→Option Nat
 | 0=>none
 | m+1=>match firE l m with
  | some i=>some i
  | none=>if stE (l m)=0 then none else some m
theorem firE_none {l:Nat→Sp}:∀{m:Nat},firE l m=none→∀i,i<m→stE (l i)=0
 | 0,_,i,hi=>by omega
 | m+1,h,i,hi=>by
  unfold firE at h
  cases hm:firE l m with
  | some x=>rw[hm] at h;cases h
  | none =>
   rw[hm] at h
   by_cases e:stE (l m)=0
   ·by_cases hi2:i=m
    ·rw[hi2];exact e
    ·exact firE_none hm i (by omega)
   ·simp only[if_neg e] at h;cases h
theorem firE_all {l:Nat→Sp}:∀{m:Nat},(∀i,i<m→stE (l i)=0)→firE l m=none
 | 0,_=>rfl
 | m+1,h=>by unfold firE;rw[firE_all (fun i hi=>h i (by omega))];simp only[if_pos (h m (by omega))]
theorem firE_some {l:Nat→Sp}:∀{m i:Nat},firE l m=some i→i<m∧stE (l i)≠0∧∀j,j<i→stE (l j)=0
 | 0,i,h=>by cases h
 | m+1,i,h=>by
  unfold firE at h
  cases hm:firE l m with
  | some x=>rw[hm] at h;cases h;obtain ⟨h1,h2⟩:=firE_some hm;exact ⟨by omega,h2⟩
  | none =>
   rw[hm] at h
   by_cases e:stE (l m)=0
   ·simp only[if_pos e] at h;cases h
   ·simp only[if_neg e] at h;cases h;exact ⟨by omega,e,fun j hj=>firE_none hm j hj⟩
theorem firE_of {l:Nat→Sp} {m i:Nat} (hi:i<m) (h0:∀j,j<i→stE (l j)=0) (h:stE (l i)≠0):firE l m=some i:=by
 cases hm:firE l m with
 | none=>exact absurd (firE_none hm i hi) h
 | some j =>
  obtain ⟨h1,h2,h3⟩:=firE_some hm
  by_cases hj:j<i
  ·exact absurd (h0 j hj) h2
  ·by_cases hji:i<j
   ·exact absurd (h3 i hji) h
   ·rw[show j=i by omega]
def chE (n:Nat) (l:Nat→Sp):Int:=if 64<n then 5 else ((firE l n).map fun i=>stE (l i)).getD 0
def chA (n:Nat) (l:Nat→Sp):Nat:=if 64<n then 0 else (firE l n).getD 0
theorem chE_zero {n:Nat} {l:Nat→Sp} (h:chE n l=0):n≤64∧∀i,i<n→stE (l i)=0:=by
 unfold chE at h
 by_cases hn:64<n
 ·rw[if_pos hn] at h;cases h
 ·rw[if_neg hn] at h
  refine ⟨by omega,?_⟩
  cases hm:firE l n with
  | none=>exact firE_none hm
  | some i=>rw[hm] at h;exact absurd h (firE_some hm).2.1
end Go.Proofs.YtkohhdkkbaifoaaGreatDoor

/-
  Contracts of script.outside, wrongKey, Wrong and checkChain.
-/
namespace Go.Proofs.YtkohhdkkbaifoaaGreatDoor
open Go.RowKit PK Vg

set_option maxRecDepth 100000 in
theorem out_ok (n lo hi:Int) (h1:¬n<lo) (h2:¬hi<n) (w:World):Calls Tryz.prog 27 #[.int .i64 n,.int .i64 lo,.int .i64 hi] w fun e w'=>e=.returned (.int .i64 0)∧w'=w:=by
 go_enter Tryz.func27,Tryz.ntmps27
 go_wp2
 go_ret
 exact ⟨rfl,rfl⟩
set_option maxRecDepth 100000 in
theorem out_low (n lo hi:Int) (h1:n<lo) (w:World):Calls Tryz.prog 27 #[.int .i64 n,.int .i64 lo,.int .i64 hi] w fun e w'=>e=.returned (.int .i64 3)∧w'=w:=by
 go_enter Tryz.func27,Tryz.ntmps27
 go_wp2
 go_ret
 exact ⟨rfl,rfl⟩
set_option maxRecDepth 100000 in
theorem out_high (n lo hi:Int) (h1:¬n<lo) (h2:hi<n) (w:World):Calls Tryz.prog 27 #[.int .i64 n,.int .i64 lo,.int .i64 hi] w fun e w'=>e=.returned (.int .i64 3)∧w'=w:=by
 go_enter Tryz.func27,Tryz.ntmps27
 go_wp2
 go_ret
 exact ⟨rfl,rfl⟩
theorem out_any (n lo hi:Int) (w:World):Calls Tryz.prog 27 #[.int .i64 n,.int .i64 lo,.int .i64 hi] w fun e w'=>e=.returned (.int .i64 (inE n lo hi))∧w'=w:=by
 unfold inE
 by_cases h1:n<lo
 ·rw[if_pos (.inl h1)];exact out_low n lo hi h1 w
 ·by_cases h2:hi<n
  ·rw[if_pos (.inr h2)];exact out_high n lo hi h1 h2 w
  ·rw[if_neg (fun h=>h.elim h1 h2)];exact out_ok n lo hi h1 h2 w
set_option maxRecDepth 100000 in
theorem wkey_any (s:ByteArray) (w:World):Calls Tryz.prog 28 #[.string s] w fun e w'=>e=.returned (.int .i64 (keyE s.data.toList))∧Below w.heap.size w w':=by
 obtain ⟨X,hX⟩:∃X,X=keyE s.data.toList:=⟨_,rfl⟩
 rw[←hX]
 have HX:Hid (X=keyE s.data.toList):=hX
 have hl:=Pl.size_len s
 have HL:Hid (s.data.toList.length=s.size):=by rw[Hid,hl]
 have HC:Hid _:=check_all s w
 generalize hce:ckE s.data.toList=c at *
 generalize ckAt s.data.toList=ca at *
 have HCE:Hid (ckE s.data.toList=c):=hce
 clear hX hl hce
 go_enter Tryz.func28,Tryz.ntmps28
 go_wp2_with fail
 refine Calls.mono HC.out ?_
 rintro e V ⟨rfl,hb⟩
 have hbe:=hb
 have HB:Hid (Below w.heap.size w (V.alloc (.cells #[.int .i64 c,.int .i64 ca] 35))):=hbe.alloc hbe.size _
 clear hb hbe
 by_cases hc0:c=0
 ·subst hc0
  by_cases h1:s.size<1
  ·have HE:Hid (X=5):=by rw[Hid,HX.out];unfold keyE;rw[if_neg (fun h=>h HCE.out),if_pos (.inl (by rw[HL.out];exact h1))]
   have h1':(s.size:Int)<1:=by omega
   go_wp2
   go_ret
   exact ⟨by rw[HE.out];rfl,HB.out⟩
  ·have h1':¬(s.size:Int)<1:=by omega
   by_cases h2:256<s.size
   ·have HE:Hid (X=5):=by rw[Hid,HX.out];unfold keyE;rw[if_neg (fun h=>h HCE.out),if_pos (.inr (by rw[HL.out];exact h2))]
    have h2':256<(s.size:Int):=by omega
    go_wp2
    go_ret
    exact ⟨by rw[HE.out];rfl,HB.out⟩
   ·have HE:Hid (X=0):=by rw[Hid,HX.out];unfold keyE;rw[if_neg (fun h=>h HCE.out),if_neg (by rw[HL.out];omega)]
    have h2':¬256<(s.size:Int):=by omega
    go_wp2
    go_ret
    exact ⟨by rw[HE.out];rfl,HB.out⟩
 ·have hc1:(c != 0)=true:=by simpa using hc0
  have HE:Hid (X=c):=by rw[Hid,HX.out];unfold keyE;rw[if_pos (by rw[HCE.out];exact hc0),HCE.out]
  clear hc0
  go_wp2
  go_ret
  exact ⟨by rw[HE.out];rfl,HB.out⟩
theorem s_info_mac:(Tryz.prog.info? 29).map (·.size)=some 55:=by kernel_rfl
set_option maxRecDepth 100000 in
set_option maxHeartbeats 2000000 in
theorem sw_any (v:Value) (s:Sp) (w:World) (hv:SqAt w v s):Calls Tryz.prog 9 #[v] w fun e w'=>e=.returned (.int .i64 (stE s))∧Below w.heap.size w w':=by
 obtain ⟨mv,a,b,c,rfl,hm,hw,hri,hst⟩:=hv
 obtain ⟨X,hX⟩:∃X,X=stE s:=⟨_,rfl⟩
 rw[←hX]
 have HX:Hid (X=stE s):=hX
 clear hX
 obtain ⟨W,hW⟩:∃W,W=w.alloc (.cells (spA s.k s.n s.key mv a b c s.g.rf s.g.pl) 31):=⟨_,rfl⟩
 have hr0:RowAt W w.heap.size 31 (spA s.k s.n s.key mv a b c s.g.rf s.g.pl):=by rw[hW];exact RowAt.new w _ _
 have hbe:Below w.heap.size w W:=by rw[hW];exact (Below.refl _ w).alloc (Nat.le_refl _) _
 have c0:=hr0.cell (spA_0 s.k s.n s.key mv a b c s.g.rf s.g.pl)
 have c1:=hr0.cell (spA_1 s.k s.n s.key mv a b c s.g.rf s.g.pl)
 have c2:=hr0.cell (spA_2 s.k s.n s.key mv a b c s.g.rf s.g.pl)
 have c3:=hr0.cell (spA_3 s.k s.n s.key mv a b c s.g.rf s.g.pl)
 have hmid:W.rangeAt w.heap.size 4 (mac a b c s.g.rf s.g.pl).toList:=row_mid hr0 4 _ (fun i v hv=>by rw[spA_mac];exact hv)
 have HM:Hid (MatAt W mv s.r s.L s.Z):=hm.below hbe
 have HG:Hid (MacAt W (.agg (mac a b c s.g.rf s.g.pl)) s.g):=⟨a,b,c,rfl,hw.below hbe,hri.below hbe,hst.below hbe⟩
 obtain ⟨am,capm,R,rfl,_⟩:=hm
 have HR:Hid _:=hr0
 have HB:Hid _:=hbe
 clear hw hri hst hr0 hbe
 subst hW
 generalize spA s.k s.n s.key (.slice am s.r capm) a b c s.g.rf s.g.pl=CS at *
 generalize hmc:mac a b c s.g.rf s.g.pl=MC at *
 have HMS:Hid (MC.size=55):=by rw[Hid,←hmc];exact mac_size _ _ _ _ _
 clear hmc
 go_enter Tryz.func9,Tryz.ntmps9
 by_cases k1:s.k=1
 ·rw[k1] at c0
  have HE:Hid (X=inE s.n 0 25):=by rw[Hid,HX.out];unfold stE;rw[if_pos k1]
  have HO:Hid _:=out_any s.n 0 25 (w.alloc (.cells CS 31))
  clear k1
  go_wp2_with fail
  refine Calls.mono HO.out ?_
  rintro e V ⟨rfl,rfl⟩
  go_wp2
  go_ret
  exact ⟨by rw[HE.out];rfl,HB.out⟩
 by_cases k2:s.k=2
 ·rw[k2] at c0
  have HO:Hid _:=out_any s.n 1 4 (w.alloc (.cells CS 31))
  have HK:Hid _:=wkey_any s.key (w.alloc (.cells CS 31))
  have HE:Hid (X=if inE s.n 1 4≠0 then inE s.n 1 4 else keyE s.key.data.toList):=by rw[Hid,HX.out];unfold stE;rw[if_neg k1,if_pos k2]
  generalize keyE s.key.data.toList=y at *
  generalize hz:inE s.n 1 4=z at *
  clear k1 k2
  go_wp2_with fail
  refine Calls.mono HO.out ?_
  rintro e V ⟨rfl,rfl⟩
  by_cases hz0:z=0
  ·subst hz0
   have HE2:Hid (X=y):=by rw[Hid,HE.out,if_neg (fun h=>h rfl)]
   clear hz
   go_wp2_with fail
   refine Calls.mono HK.out ?_
   rintro e V2 ⟨rfl,hb⟩
   go_wp2
   go_ret
   exact ⟨by rw[HE2.out];rfl,HB.out.trans (hb.mono HB.out.size)⟩
  ·have hz1:(z != 0)=true:=by simpa using hz0
   have HE2:Hid (X=z):=by rw[Hid,HE.out,if_pos hz0]
   clear hz hz0
   go_wp2
   go_ret
   exact ⟨by rw[HE2.out];rfl,HB.out⟩
 by_cases k3:s.k=3
 ·rw[k3] at c0
  have HE:Hid (X=inE s.n 1 64):=by rw[Hid,HX.out];unfold stE;rw[if_neg k1,if_neg k2,if_pos k3]
  have HO:Hid _:=out_any s.n 1 64 (w.alloc (.cells CS 31))
  clear k1 k2 k3
  go_wp2_with fail
  refine Calls.mono HO.out ?_
  rintro e V ⟨rfl,rfl⟩
  go_wp2
  go_ret
  exact ⟨by rw[HE.out];rfl,HB.out⟩
 by_cases k4:s.k=4
 ·rw[k4] at c0
  have HE:Hid (X=keyE s.key.data.toList):=by rw[Hid,HX.out];unfold stE;rw[if_neg k1,if_neg k2,if_neg k3,if_pos k4]
  have HO:Hid _:=wkey_any s.key (w.alloc (.cells CS 31))
  clear k1 k2 k3 k4
  go_wp2_with fail
  refine Calls.mono HO.out ?_
  rintro e V ⟨rfl,hb⟩
  go_wp2
  go_ret
  exact ⟨by rw[HE.out];rfl,HB.out.trans (hb.mono HB.out.size)⟩
 by_cases k5:s.k=5
 ·rw[k5] at c0
  have HE:Hid (X=matErr s.r s.L s.Z):=by rw[Hid,HX.out];unfold stE;rw[if_neg k1,if_neg k2,if_neg k3,if_neg k4,if_pos k5]
  have HO:Hid _:=hwrong_any _ s.r s.L s.Z (w.alloc (.cells CS 31)) HM.out
  clear k1 k2 k3 k4 k5
  go_wp2_with fail
  refine Calls.mono HO.out ?_
  rintro e V ⟨rfl,rfl⟩
  go_wp2
  go_ret
  exact ⟨by rw[HE.out];rfl,HB.out⟩
 by_cases k6:s.k=6
 ·rw[k6] at c0
  have HE:Hid (X=gE s.g):=by rw[Hid,HX.out];unfold stE;rw[if_neg k1,if_neg k2,if_neg k3,if_neg k4,if_neg k5,if_pos k6]
  have HO:Hid _:=gw_any _ s.g (w.alloc (.cells CS 31)) HG.out
  clear k1 k2 k3 k4 k5 k6
  go_wp2_with (first | refine wpList_load_arr rfl 29 _ rfl w.heap.size 4 rfl MC _ hmid Tryz.underlying29 rfl (by rw[HMS.out];exact s_info_mac) ?_)
  refine Calls.mono HO.out ?_
  rintro e V ⟨rfl,hb⟩
  go_wp2
  go_ret
  exact ⟨by rw[HE.out];rfl,HB.out.trans (hb.mono HB.out.size)⟩
 ·have HE:Hid (X=1):=by rw[Hid,HX.out];unfold stE;rw[if_neg k1,if_neg k2,if_neg k3,if_neg k4,if_neg k5,if_neg k6]
  have e1:(s.k==1)=false:=beq_false_of_ne k1
  have e2:(s.k==2)=false:=beq_false_of_ne k2
  have e3:(s.k==3)=false:=beq_false_of_ne k3
  have e4:(s.k==4)=false:=beq_false_of_ne k4
  have e5:(s.k==5)=false:=beq_false_of_ne k5
  have e6:(s.k==6)=false:=beq_false_of_ne k6
  clear k1 k2 k3 k4 k5 k6
  go_wp2
  go_ret
  exact ⟨by rw[HE.out];rfl,HB.out⟩
end Go.Proofs.YtkohhdkkbaifoaaGreatDoor
