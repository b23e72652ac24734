/-
  Contract of the document's Wrong (chapter 8).
-/
import Derived.Test.YtkohhdkkbaifoaaGreatDoorJn4
import Derived.RegionTactic

namespace Go.Proofs.YtkohhdkkbaifoaaGreatDoor
open Go.RowKit PK

theorem v_info_mac:(Tryz.prog.info? 29).map (·.size)=some 55:=by kernel_rfl
theorem v_info_whl:(Tryz.prog.info? 97).map (·.size)=some 27:=by kernel_rfl
theorem v_zero_whl:(Tryz.prog.info? 97).map (·.zero)=some (some (.agg (whl (fun _=>0) (.slice none 0 0)))):=by kernel_rfl
theorem v_zero_perm:(Tryz.prog.info? 27).map (·.zero)=some (some (.agg (ints 26 fun _=>0))):=by kernel_rfl
theorem o_zero {P:Program} {t:TypeId} {z:Value} (h:(P.info? t).map (·.zero)=some (some z)) (w:World):(zeroValue t).run P w=.ok z w:=by
 cases hi:P.info? t with
 | none=>simp[hi] at h
 | some i =>
  have h2:i.zero=some z:=by simpa [hi] using h
  simp[zeroValue,typeInfo,hi,h2]
theorem wpList_load_arr {P:Program} {ops:Array Oper} {rest:List Oper} {op:Oper} {a:Act} {w:World} {Q:Exit→Act→World→Prop} (hgd:op.guard=none) (ty:TypeId) (x:Operand) (ho:op.op=.load ty x)
  (b o:Nat) (hx:a.eval x=.pointer (some ⟨b,o,none⟩)) (cs:Array Value) (d:TypeDesc) (hc:w.rangeAt b o cs.toList)
  (hu:P.underlying ty=some d) (hd:d.isRow=true) (hi:(P.info? ty).map (·.size)=some cs.size)
  (h:wpList P ops Q rest (a.put op.dst (.agg cs)) w):wpList P ops Q (op :: rest) a w :=
 wpList_load_mid hgd ty x ho b o hx cs.toList d hc hu hd (by rw[Array.length_toList];exact hi) (by rw[Array.toArray_toList];exact h)
theorem whl_one {f:Nat→Int} {v:Value} (h:v.oneCell'=true):(whl f v).all (·.oneCell')=true:=by
 unfold whl
 rw[Array.all_push,ints_one,h]
 rfl
theorem row_mid {w:World} {b:Nat} {T:TypeId} {c:Array Value} (h:RowAt w b T c) (o:Nat) (cs:Array Value) (e:∀i v,cs[i]? = some v→c[o+i]? = some v):w.rangeAt b o cs.toList:=fun j v hv=>h.cell (e j v (by rw[←Array.getElem?_toList];exact hv))
theorem at_ints {n:Nat} {f:Nat→Int} {i:Nat} {v:Value} (h:(ints n f)[i]? = some v):i<n∧v=.int .i64 (f i):=by
 have h1:i<n:=by
  have:=(Array.getElem?_eq_some_iff.1 h).1
  rw[ints_size] at this
  exact this
 rw[ints_get f h1] at h
 exact ⟨h1,(Option.some.inj h).symm⟩
theorem mid_wi {w:World} {b:Nat} {T:TypeId} {f:Nat→Int} {v:Value} (h:RowAt w b T (whl f v)):w.rangeAt b 0 (ints 26 f).toList:=row_mid h 0 _ fun i v hv=>by
 obtain ⟨h1,rfl⟩:=at_ints hv
 rw[Nat.zero_add]
 exact whl_get f _ h1
theorem mid_rf {w:World} {b:Nat} {T:TypeId} {x y z:Value} {rf pl:Nat→Int} (h:RowAt w b T (mac x y z rf pl)):w.rangeAt b 3 (ints 26 rf).toList:=row_mid h 3 _ fun i v hv=>by
 obtain ⟨h1,rfl⟩:=at_ints hv
 exact mac_rf _ _ _ _ _ h1
theorem mid_pl {w:World} {b:Nat} {T:TypeId} {x y z:Value} {rf pl:Nat→Int} (h:RowAt w b T (mac x y z rf pl)):w.rangeAt b 29 (ints 26 pl).toList:=row_mid h 29 _ fun i v hv=>by
 obtain ⟨h1,rfl⟩:=at_ints hv
 exact mac_pl _ _ _ _ _ h1
structure MgAt (w W:World) (a b c:Value) (rf pl:Nat→Int):Prop where
 row:RowAt W w.heap.size 29 (mac a b c rf pl)
 below:Below w.heap.size w W
theorem MgAt.new (w:World) (a b c:Value) (rf pl:Nat→Int):MgAt w (w.alloc (.cells (mac a b c rf pl) 29)) a b c rf pl:=⟨RowAt.new w _ _,(Below.refl _ w).alloc (Nat.le_refl _) _⟩
section
variable {w W W':World} {a b c:Value} {rf pl:Nat→Int}
theorem MgAt.step (h:MgAt w W a b c rf pl) (hb:Below W.heap.size W W'):MgAt w W' a b c rf pl:=⟨h.row.below hb h.row.lt,h.below.trans (hb.mono h.below.size)⟩
theorem MgAt.alloc (h:MgAt w W a b c rf pl) (o:Obj):MgAt w (W.alloc o) a b c rf pl:=⟨h.row.alloc o,h.below.alloc h.below.size o⟩
theorem MgAt.drew (h:MgAt w W a b c rf pl):MgAt w W.drew a b c rf pl:=⟨h.row,h.below.drew⟩
theorem MgAt.setRow (h:MgAt w W a b c rf pl) (g:Nat) (hg:w.heap.size<g) (l:Array Value):MgAt w (W.setRow g l) a b c rf pl:=⟨h.row.rowOther _ _ (by omega),Below.setRow h.below _ (by omega) _⟩
theorem MgAt.c0 (h:MgAt w W a b c rf pl):W.cell? ⟨w.heap.size,0,none⟩=some a:=h.row.cell (mac_0 _ _ _ _ _)
theorem MgAt.c1 (h:MgAt w W a b c rf pl):W.cell? ⟨w.heap.size,1,none⟩=some b:=h.row.cell (mac_1 _ _ _ _ _)
theorem MgAt.c2 (h:MgAt w W a b c rf pl):W.cell? ⟨w.heap.size,2,none⟩=some c:=h.row.cell (mac_2 _ _ _ _ _)
theorem MgAt.lt (h:MgAt w W a b c rf pl):w.heap.size<W.heap.size:=h.row.lt
end
theorem whE_keep (g:Gm) (k:Nat) (h:whE g k≠0):∀n,k≤n→whE g n=whE g k
 | 0,hk=>by rw[show k=0 by omega]
 | n+1,hk=>by
  by_cases e:k=n+1
  ·rw[e]
  ·have:=whE_keep g k h n (by omega)
   show (if whE g n≠0 then whE g n else _)=_
   rw[if_pos (by rw[this];exact h),this]
theorem whE_bad {g:Gm} {k:Nat} (h0:whE g k=0) (h:Pm.wrong (g.wi k)≠0):whE g (k+1)=Pm.wrong (g.wi k):=by
 show (if whE g k≠0 then whE g k else _)=_
 rw[if_neg (fun e=>e h0),if_pos h]
theorem whE_no {g:Gm} {k:Nat} (h0:whE g k=0) (h:Pm.wrong (g.wi k)=0):whE g (k+1)=if ins (g.nl k) (g.no k)=true then 0 else 3:=by
 show (if whE g k≠0 then whE g k else _)=_
 rw[if_neg (fun e=>e h0),if_neg (fun e=>e h)]
section
variable {g:Gm}
theorem gE_1 (h:g.n<1∨4<g.n):gE g=5:=by unfold gE;rw[if_pos h]
theorem gE_2 (h:¬(g.n<1∨4<g.n)) (h2:whE g g.n≠0):gE g=whE g g.n:=by unfold gE;rw[if_neg h,if_pos h2]
def tl (st:Bool) (f:Nat→Int) (rest:Int):Int:=if Pm.wrong f≠0 then Pm.wrong f else if undo st f=false then 1 else rest
def nl (n l:Nat) (f:Nat→Int) (rest:Int):Int:=if l≠n then 8 else if ins l f=false then 3 else rest
def gE4 (g:Gm) (k:Nat):Int:=if k=0 then tl true g.rf (tl false g.pl 0) else if k=1 then tl false g.pl 0 else 0
def gE5 (g:Gm) (k:Nat):Int:=if k=0 then nl g.n g.rl g.ri (nl g.n g.sl g.st (gE4 g 0)) else if k=1 then nl g.n g.sl g.st (gE4 g 0) else gE4 g 0
def gE3 (g:Gm):Int:=gE5 g 0
theorem undo_perm {st:Bool} {f:Nat→Int} {p:Nat→Nat} (hp:Pm.IsPerm p) (e:∀i,i<26→f i=(p i:Int)):undo st f=true↔∀i,i<26→p (p i)=i∧(st=true→p i≠i):=by
 rw[undo_iff]
 constructor
 ·intro h i hi
  obtain ⟨h1,h2⟩:=h i hi
  rw[e i hi,Int.toNat_natCast,e _ (hp.lt i hi)] at h1
  refine ⟨by omega,fun hs=>?_⟩
  have:=h2 hs
  rw[e i hi] at this
  omega
 ·intro h i hi
  obtain ⟨h1,h2⟩:=h i hi
  rw[e i hi,Int.toNat_natCast,e _ (hp.lt i hi),h1]
  refine ⟨rfl,fun hs=>?_⟩
  have:=h2 hs
  omega
theorem undo_bad {st:Bool} {f:Nat→Int} {p:Nat→Nat} (hp:Pm.IsPerm p) (e:∀i,i<26→f i=(p i:Int)) {i:Nat} (hi:i<26) (h:p (p i)≠i∨(st=true∧p i=i)):undo st f=false:=by
 cases hu:undo st f with
 | false=>rfl
 | true =>
  have:=(undo_perm hp e).1 hu i hi
  rcases h with h | h
  ·exact absurd this.1 h
  ·exact absurd h.2 (this.2 h.1)
theorem gE_3 (h:¬(g.n<1∨4<g.n)) (h2:whE g g.n=0):gE g=gE3 g:=by unfold gE;rw[if_neg h,if_neg (fun e=>e h2)];rfl
end
set_option maxRecDepth 100000 in
set_option maxHeartbeats 4000000 in
theorem rgw_any (v:Value) (g:Gm) (w:World) (hv:MacAt w v g):Calls Tryz.prog 33 #[v] w fun e w'=>e=.returned (.int .i64 (gE g))∧Below w.heap.size w w':=by
 obtain ⟨a,b,c,rfl,hw,hri,hst⟩:=hv
 have h0:=MgAt.new w a b c g.rf g.pl
 obtain ⟨E,hE⟩:∃E,E=gE g:=⟨_,rfl⟩
 rw[←hE]
 have HE:Hid (E=gE g):=hE
 clear hE
 obtain ⟨ad,cap,R,rfl,hm,hr,hn⟩:=hw
 have hc0:=h0.c0
 have HWH:=(show Hid (∀r,r<g.n→∃b o,ad=some ⟨b,o,none⟩∧w.rangeAt b (o+r*27) (whl (g.wi r) (R r)).toList) from hr)
 have HNO:=(show Hid (∀r,r<g.n→NumsAt w (R r) (g.nl r) (g.no r)) from hn)
 obtain ⟨ar,cr,rfl,hmr,hcr⟩:=hri
 obtain ⟨az,cz,rfl,hms,hcs⟩:=hst
 have HRI:=(show Hid (NumsAt w (.slice ar g.rl cr) g.rl g.ri) from ⟨ar,cr,rfl,hmr,hcr⟩)
 have HST:=(show Hid (NumsAt w (.slice az g.sl cz) g.sl g.st) from ⟨az,cz,rfl,hms,hcs⟩)
 clear hr hn hcr hcs
 go_enter Tryz.func33,Tryz.ntmps33
 by_cases hmany:g.n<1∨4<g.n
 ·have HX:Hid (E=5):=by rw[Hid,HE.out,gE_1 hmany]
  have hbe:=h0.below
  by_cases hz:g.n<1
  ·have hz2:(g.n:Int)<1:=by omega
   go_wp2
   go_ret
   exact ⟨by rw[HX.out];rfl,hbe⟩
  ·have hz2:¬(g.n:Int)<1:=by omega
   have hz3:4<(g.n:Int):=by omega
   go_wp2
   go_ret
   exact ⟨by rw[HX.out];rfl,hbe⟩
 ·have hz2:¬(g.n:Int)<1:=by omega
  have hz3:¬4<(g.n:Int):=by omega
  have hn4:g.n≤4:=by omega
  have HMN:Hid (¬(g.n<1∨4<g.n)):=hmany
  clear hmany
  go_wp2_with fail
  go_loopw [25] (fun i W=>∃k:Nat,k≤g.n∧i=.int .i64 (k:Nat)∧Hid (whE g k=0)∧MgAt w W (.slice ad g.n cap) (.slice ar g.rl cr) (.slice az g.sl cz) g.rf g.pl) (fun i _=>((g.n:Int)-intOf i).toNat)
  case atStart=>exact ⟨0,by omega,rfl,rfl,h0⟩
  case round =>
   clear h0 hc0
   obtain ⟨k,hk,rfl,HK,hg⟩:=hrel
   by_cases hlt:k<g.n
   ·obtain ⟨bw,ow,rfl,hrg⟩:=HWH.out k hlt
    have hrg2:=rangeAt_below hrg hg.below
    have hnk:=(HNO.out k hlt).below hg.below
    have HLT:Hid (k<g.n):=hlt
    have hz27:=o_zero v_zero_whl
    have HONE:Hid ((R k).oneCell'=true):=by obtain ⟨a',c',e',_⟩:=hnk;rw[Hid,e'];rfl
    go_upto_region 6 with (first | refine wpList_load_arr rfl 97 _ rfl bw (ow+k*27) rfl (whl (g.wi k) (R k)) _ hrg2 Tryz.underlying97 rfl (by rw[whl_size];exact v_info_whl) ?_ | refine wpList_store_row rfl 97 _ _ rfl wr.heap.size (whl (g.wi k) (R k)) rfl rfl 97 _ (RowAt.new wr _ _) (by rw[whl_size];exact v_info_whl) (by simp only[whl_size]) (whl_one HONE.out) ?_)
    have hg2:=(hg.alloc (.cells (whl (fun _=>0) (.slice none 0 0)) 97)).setRow wr.heap.size hg.lt (whl (g.wi k) (R k))
    have hr4:=(RowAt.new wr 97 (whl (fun _=>0) (.slice none 0 0))).row (whl (g.wi k) (R k))
    generalize (wr.alloc (.cells (whl (fun _=>0) (.slice none 0 0)) 97)).setRow wr.heap.size (whl (g.wi k) (R k))=V at *
    obtain ⟨q,hq⟩:∃q,q=wr.heap.size:=⟨_,rfl⟩
    rw[←hq] at hr4 ⊢
    clear hq hrg hrg2 hnk hz27 HONE hg
    have HNK:=(show Hid _ from HNO.out k hlt)
    have hmid:=mid_wi hr4
    go_wp2_with (first | refine wpList_load_arr rfl 27 _ rfl q 0 rfl (ints 26 (g.wi k)) _ hmid Tryz.underlying27 rfl (by rw[ints_size];exact info_perm) ?_)
    refine (rwrong_any (g.wi k) _).mono ?_
    rintro e V2 ⟨rfl,hb⟩
    have hg3:=hg2.step hb
    have hr5:=hr4.below hb hr4.lt
    have hl5:=hr5.cell (whl_last _ _)
    clear hb hg2 hr4 hmid
    by_cases hwz:Pm.wrong (g.wi k)=0
    ·rw[hwz]
     have HNX:=(show Hid _ from whE_no HK.out hwz)
     have HN3:=(HNO.out k HLT.out).below hg3.below
     have HINS:=(show Hid (∀W,NumsAt W (R k) (g.nl k) (g.no k)→Calls Tryz.prog 71 #[R k] W fun e w'=>e=.returned (.bool (ins (g.nl k) (g.no k)))∧W=w') from fun W h=>rinside_any _ _ _ W h)
     have HNV:=(show Hid _ from HN3)
     clear hwz HN3
     generalize ins (g.nl k) (g.no k)=B at *
     go_wp2_with fail
     refine (HINS.out _ HNV.out).mono ?_
     rintro e V3 ⟨rfl,rfl⟩
     cases B with
     | false =>
      have HX:Hid (E=3):=by
       have e1:whE g (k+1)=3:=HNX.out
       have e2:=whE_keep g (k+1) (by rw[e1];decide) g.n HLT.out
       rw[Hid,HE.out,gE_2 HMN.out (by rw[e2,e1];decide),e2,e1]
      have hbe:=hg3.below
      go_wp2
      go_ret
      exact ⟨by rw[HX.out];rfl,hbe⟩
     | true =>
      have HX:Hid (whE g (k+1)=0):=HNX.out
      go_wp2_with fail
      go_roundw
      case rel=>exact ⟨k+1,HLT.out,by go_num,HX.out,hg3⟩
      case measure=>have:=HLT.out;simp[intOf] <;> omega
    ·have hwz2:(Pm.wrong (g.wi k) != 0)=true:=by simpa using hwz
     have HX:Hid (E=Pm.wrong (g.wi k)):=by
      have e1:=whE_bad HK.out hwz
      have e2:=whE_keep g (k+1) (by rw[e1];exact hwz) g.n HLT.out
      rw[Hid,HE.out,gE_2 HMN.out (by rw[e2,e1];exact hwz),e2,e1]
     have hbe:=hg3.below
     clear hwz
     go_wp2
     go_ret
     exact ⟨by rw[HX.out];rfl,hbe⟩
   ·obtain rfl:k=g.n:=by omega
    have HX3:Hid (E=gE3 g):=by rw[Hid,HE.out,gE_3 HMN.out HK.out]
    have hn4:g.n≤4:=by omega
    clear HE HK HWH HNO
    go_wp2_with fail
    go_loopw [6] (fun i W=>∃k:Nat,k≤2∧i=.int .i64 (k:Nat)∧Hid (E=gE5 g k)∧MgAt w W (.slice ad g.n cap) (.slice ar g.rl cr) (.slice az g.sl cz) g.rf g.pl) (fun i _=>((2:Int)-intOf i).toNat)
    case atStart=>exact ⟨0,by omega,rfl,HX3.out,hg⟩
    case round =>
    clear hg
    obtain ⟨k,hk2,rfl,HQ,hg⟩:=hrel
    have c0:=hg.c0
    have c1:=hg.c1
    have c2:=hg.c2
    rcases (by omega:k=0∨k=1∨k=2) with rfl | rfl | rfl
    ·
     have HV:=(show Hid (E=nl g.n g.rl g.ri (gE5 g 1)) from HQ.out)
     have HLN:=(show Hid (NumsAt wr (.slice ar g.rl cr) g.rl g.ri) from HRI.out.below hg.below)
     have HINS:=(show Hid (∀W,NumsAt W (.slice ar g.rl cr) g.rl g.ri→Calls Tryz.prog 71 #[.slice ar g.rl cr] W fun e w'=>e=.returned (.bool (ins g.rl g.ri))∧W=w') from fun W h=>rinside_any _ _ _ W h)
     have hbe:=hg.below
     by_cases hln:g.rl=g.n
     ·have HV2:Hid (E=if ins g.rl g.ri=false then 3 else gE5 g 1):=by rw[Hid,HV.out];unfold nl;rw[if_neg (fun h=>h hln)]
      have hln2:((g.rl:Int) != (g.n:Int))=false:=by rw[hln];simp
      clear hln
      generalize ins g.rl g.ri=B at *
      go_wp2_with fail
      refine (HINS.out _ HLN.out).mono ?_
      rintro e V3 ⟨rfl,rfl⟩
      cases B with
      | false =>
       have HX:Hid (E=3):=by rw[Hid,HV2.out,if_pos rfl]
       go_wp2
       go_ret
       exact ⟨by rw[HX.out];rfl,hbe⟩
      | true =>
       have HX:Hid (E=gE5 g 1):=by rw[Hid,HV2.out,if_neg (by decide)]
       go_wp2_with fail
       go_roundw
       case rel=>exact ⟨1,by omega,by go_num,HX.out,hg⟩
       case measure=>simp[intOf]
     ·have HX:Hid (E=8):=by rw[Hid,HV.out];unfold nl;rw[if_pos hln]
      have hln2:((g.rl:Int) != (g.n:Int))=true:=by simp;omega
      clear hln
      go_wp2
      go_ret
      exact ⟨by rw[HX.out];rfl,hbe⟩
    ·
     have HV:=(show Hid (E=nl g.n g.sl g.st (gE5 g 2)) from HQ.out)
     have HLN:=(show Hid (NumsAt wr (.slice az g.sl cz) g.sl g.st) from HST.out.below hg.below)
     have HINS:=(show Hid (∀W,NumsAt W (.slice az g.sl cz) g.sl g.st→Calls Tryz.prog 71 #[.slice az g.sl cz] W fun e w'=>e=.returned (.bool (ins g.sl g.st))∧W=w') from fun W h=>rinside_any _ _ _ W h)
     have hbe:=hg.below
     by_cases hln:g.sl=g.n
     ·have HV2:Hid (E=if ins g.sl g.st=false then 3 else gE5 g 2):=by rw[Hid,HV.out];unfold nl;rw[if_neg (fun h=>h hln)]
      have hln2:((g.sl:Int) != (g.n:Int))=false:=by rw[hln];simp
      clear hln
      generalize ins g.sl g.st=B at *
      go_wp2_with fail
      refine (HINS.out _ HLN.out).mono ?_
      rintro e V3 ⟨rfl,rfl⟩
      cases B with
      | false =>
       have HX:Hid (E=3):=by rw[Hid,HV2.out,if_pos rfl]
       go_wp2
       go_ret
       exact ⟨by rw[HX.out];rfl,hbe⟩
      | true =>
       have HX:Hid (E=gE5 g 2):=by rw[Hid,HV2.out,if_neg (by decide)]
       go_wp2_with fail
       go_roundw
       case rel=>exact ⟨2,by omega,by go_num,HX.out,hg⟩
       case measure=>simp[intOf]
     ·have HX:Hid (E=8):=by rw[Hid,HV.out];unfold nl;rw[if_pos hln]
      have hln2:((g.sl:Int) != (g.n:Int))=true:=by simp;omega
      clear hln
      go_wp2
      go_ret
      exact ⟨by rw[HX.out];rfl,hbe⟩
    ·clear c0 c1 c2
     have HX4:Hid (E=gE4 g 0):=HQ.out
     go_wp2_with fail
     go_loopw [8] (fun i W=>∃k:Nat,k≤2∧i=.int .i64 (k:Nat)∧Hid (E=gE4 g k)∧MgAt w W (.slice ad g.n cap) (.slice ar g.rl cr) (.slice az g.sl cz) g.rf g.pl) (fun i _=>((2:Int)-intOf i).toNat)
     case atStart=>exact ⟨0,by omega,rfl,HX4.out,hg⟩
     case round =>
     clear hg HQ
     obtain ⟨k,hk2,rfl,HQ,hg⟩:=hrel
     rcases (by omega:k=0∨k=1∨k=2) with rfl | rfl | rfl
     ·
      have hz26:=o_zero v_zero_perm
      have hmid:=mid_rf hg.row
      have hmid2:=mid_pl hg.row
      go_upto_region 28 with (first | refine wpList_load_arr rfl 27 _ rfl w.heap.size 3 rfl (ints 26 g.rf) _ hmid Tryz.underlying27 rfl (by rw[ints_size];exact info_perm) ?_ | refine wpList_store_row rfl 27 _ _ rfl wr.heap.size (ints 26 g.rf) rfl rfl 27 _ (RowAt.new wr _ _) (by rw[ints_size];exact info_perm) (by simp only[ints_size]) (ints_one _ _) ?_)
      have hg2:=(hg.alloc (.cells (ints 26 fun _=>0) 27)).setRow wr.heap.size hg.lt (ints 26 g.rf)
      have hr4:=(RowAt.new wr 27 (ints 26 fun _=>0)).row (ints 26 g.rf)
      have hlq:=hg.lt
      generalize (wr.alloc (.cells (ints 26 fun _=>0) 27)).setRow wr.heap.size (ints 26 g.rf)=V at *
      obtain ⟨q,hq⟩:∃q,q=wr.heap.size:=⟨_,rfl⟩
      rw[←hq] at hr4 hlq ⊢
      clear hq hz26 hmid hmid2 hg
      go_wp2_with (first | refine wpList_load_row rfl 27 _ rfl q rfl 27 (ints 26 g.rf) (0,0) _ hr4 Tryz.underlying27 rfl (by rw[ints_size];exact info_perm) ?_)
      refine (rwrong_any g.rf _).mono ?_
      rintro e V2 ⟨rfl,hb⟩
      have hg3:=hg2.step hb
      have hr5:=hr4.below hb hr4.lt
      clear hb hg2 hr4
      obtain ⟨sb,hsb⟩:∃sb:Bool,sb=true:=⟨_,rfl⟩
      have HV:Hid (E=tl sb g.rf (gE4 g 1)):=by rw[hsb];exact HQ.out
      have HSB:Hid (sb=true):=hsb
      clear hsb
      have hbe:=hg3.below
      by_cases hwz:Pm.wrong g.rf=0
      ·obtain ⟨pp,hpp,epp⟩:=(Pm.wrong_zero g.rf).1 hwz
       have HEP:Hid (∀i,i<26→g.rf i=(pp i:Int)):=epp
       have HV2:Hid (E=if undo sb g.rf=false then 1 else gE4 g 1):=by rw[Hid,HV.out];unfold tl;rw[if_neg (fun h=>h hwz)]
       have HUB:=(show Hid (∀i,i<26→(pp (pp i)≠i∨(sb=true∧pp i=i))→undo sb g.rf=false) from fun i hi h=>undo_bad hpp epp hi h)
       have HUT:=(show Hid ((∀i,i<26→pp (pp i)=i∧(sb=true→pp i≠i))→undo sb g.rf=true) from (undo_perm hpp epp).2)
       have HLT:=(show Hid (∀i,i<26→pp i<26) from hpp.lt)
       rw[hwz]
       clear hwz epp hpp
       go_wp2_with fail
       go_loopw [74] (fun i W=>∃m:Nat,m≤26∧i=.int .i64 (m:Nat)∧Hid (∀j,j<m→pp (pp j)=j∧(sb=true→pp j≠j))∧V2=W) (fun i _=>((26:Int)-intOf i).toNat)
       case atStart=>exact ⟨0,by omega,rfl,fun j hj=>by omega,rfl⟩
       case round =>
        obtain ⟨m,hm26,rfl,HS,rfl⟩:=hrel
        by_cases hlt:m<26
        ·have h1:=HLT.out m hlt
         have c1:=hr5.cell (ints_get g.rf hlt)
         have c2:=hr5.cell (ints_get g.rf h1)
         rw[HEP.out m hlt] at c1
         rw[HEP.out _ h1] at c2
         have HB1:=(show Hid _ from HUB.out m hlt)
         have HNX:=(show Hid (pp (pp m)=m→(sb=true→pp m≠m)→∀j,j<m+1→pp (pp j)=j∧(sb=true→pp j≠j)) from fun h1 h2 j hj=>by
          by_cases e:j=m
          ·rw[e];exact ⟨h1,h2⟩
          ·exact HS.out j (by omega))
         generalize pp (pp m)=P2 at *
         generalize pp m=P1 at *
         by_cases hp2:P2=m
         ·have hp3:((P2:Int) != (m:Int))=false:=by simp[hp2]
          by_cases hp1:P1=m
          ·have hp4:((P1:Int)==(m:Int))=true:=by simp[hp1]
           have HX:Hid (E=1):=by rw[Hid,HV2.out,if_pos (HB1.out (.inr ⟨HSB.out,hp1⟩))]
           clear hp1 hp2
           go_wp2
           go_ret
           exact ⟨by rw[HX.out];rfl,hbe⟩
          ·have hp4:((P1:Int)==(m:Int))=false:=beq_false_of_ne (by omega)
           have HN2:=(show Hid _ from HNX.out hp2 (fun _=>hp1))
           clear hp1 hp2
           go_wp2_with fail
           go_roundw
           case rel=>exact ⟨m+1,by omega,by go_num,HN2.out,by first | rfl | trivial⟩
           case measure=>simp[intOf];omega
         ·have hp3:((P2:Int) != (m:Int))=true:=by simp;omega
          have HX:Hid (E=1):=by rw[Hid,HV2.out,if_pos (HB1.out (.inl hp2))]
          clear hp2
          go_wp2
          go_ret
          exact ⟨by rw[HX.out];rfl,hbe⟩
        ·obtain rfl:m=26:=by omega
         have HX:Hid (E=gE4 g 1):=by rw[Hid,HV2.out,if_neg (by rw[HUT.out HS.out];decide)]
         go_wp2_with fail
         go_roundw
         case rel=>exact ⟨_,_,_,_,_,_,_,_,_,_,_,_,_,_,_,_,_,_,_,_,_,_,_,_,_,_,_,_,_,_,_,_,_,_,_,_,_,_,_,_,_,_,⟨1,by omega,by go_num,HX.out,hg3⟩,rfl⟩
         case measure=>simp[intOf] <;> decide
      ·have hwz2:(Pm.wrong g.rf != 0)=true:=by simpa using hwz
       have HX:Hid (E=Pm.wrong g.rf):=by rw[Hid,HV.out];unfold tl;rw[if_pos hwz]
       clear hwz
       go_wp2
       go_ret
       exact ⟨by rw[HX.out];rfl,hbe⟩
     ·
      have hz26:=o_zero v_zero_perm
      have hmid:=mid_rf hg.row
      have hmid2:=mid_pl hg.row
      have hmid3:((wr.alloc (.cells (ints 26 fun _=>0) 27)).setRow wr.heap.size (ints 26 g.rf)).rangeAt w.heap.size 29 (ints 26 g.pl).toList:=mid_pl ((hg.alloc (.cells (ints 26 fun _=>0) 27)).setRow wr.heap.size hg.lt (ints 26 g.rf)).row
      go_upto_region 28 with (first | refine wpList_load_arr rfl 27 _ rfl w.heap.size 3 rfl (ints 26 g.rf) _ hmid Tryz.underlying27 rfl (by rw[ints_size];exact info_perm) ?_ | refine wpList_store_row rfl 27 _ _ rfl wr.heap.size (ints 26 g.rf) rfl rfl 27 _ (RowAt.new wr _ _) (by rw[ints_size];exact info_perm) (by simp only[ints_size]) (ints_one _ _) ?_ | refine wpList_load_arr rfl 27 _ rfl w.heap.size 29 rfl (ints 26 g.pl) _ hmid3 Tryz.underlying27 rfl (by rw[ints_size];exact info_perm) ?_ | refine wpList_store_row rfl 27 _ _ rfl wr.heap.size (ints 26 g.pl) rfl rfl 27 _ ((RowAt.new wr 27 (ints 26 fun _=>0)).row (ints 26 g.rf)) (by rw[ints_size];exact info_perm) (by simp only[ints_size]) (ints_one _ _) ?_)
      have hg2:=((hg.alloc (.cells (ints 26 fun _=>0) 27)).setRow wr.heap.size hg.lt (ints 26 g.rf)).setRow wr.heap.size hg.lt (ints 26 g.pl)
      have hr4:=((RowAt.new wr 27 (ints 26 fun _=>0)).row (ints 26 g.rf)).row (ints 26 g.pl)
      have hlq:=hg.lt
      clear hmid3
      generalize ((wr.alloc (.cells (ints 26 fun _=>0) 27)).setRow wr.heap.size (ints 26 g.rf)).setRow wr.heap.size (ints 26 g.pl)=V at *
      obtain ⟨q,hq⟩:∃q,q=wr.heap.size:=⟨_,rfl⟩
      rw[←hq] at hr4 hlq ⊢
      clear hq hz26 hmid hmid2 hg
      go_wp2_with (first | refine wpList_load_row rfl 27 _ rfl q rfl 27 (ints 26 g.pl) (0,0) _ hr4 Tryz.underlying27 rfl (by rw[ints_size];exact info_perm) ?_)
      refine (rwrong_any g.pl _).mono ?_
      rintro e V2 ⟨rfl,hb⟩
      have hg3:=hg2.step hb
      have hr5:=hr4.below hb hr4.lt
      clear hb hg2 hr4
      obtain ⟨sb,hsb⟩:∃sb:Bool,sb=false:=⟨_,rfl⟩
      have HV:Hid (E=tl sb g.pl (gE4 g 2)):=by rw[hsb];exact HQ.out
      have HSB:Hid (sb=false):=hsb
      clear hsb
      have hbe:=hg3.below
      by_cases hwz:Pm.wrong g.pl=0
      ·obtain ⟨pp,hpp,epp⟩:=(Pm.wrong_zero g.pl).1 hwz
       have HEP:Hid (∀i,i<26→g.pl i=(pp i:Int)):=epp
       have HV2:Hid (E=if undo sb g.pl=false then 1 else gE4 g 2):=by rw[Hid,HV.out];unfold tl;rw[if_neg (fun h=>h hwz)]
       have HUB:=(show Hid (∀i,i<26→(pp (pp i)≠i∨(sb=true∧pp i=i))→undo sb g.pl=false) from fun i hi h=>undo_bad hpp epp hi h)
       have HUT:=(show Hid ((∀i,i<26→pp (pp i)=i∧(sb=true→pp i≠i))→undo sb g.pl=true) from (undo_perm hpp epp).2)
       have HLT:=(show Hid (∀i,i<26→pp i<26) from hpp.lt)
       rw[hwz]
       clear hwz epp hpp
       go_wp2_with fail
       go_loopw [74] (fun i W=>∃m:Nat,m≤26∧i=.int .i64 (m:Nat)∧Hid (∀j,j<m→pp (pp j)=j∧(sb=true→pp j≠j))∧V2=W) (fun i _=>((26:Int)-intOf i).toNat)
       case atStart=>exact ⟨0,by omega,rfl,fun j hj=>by omega,rfl⟩
       case round =>
        obtain ⟨m,hm26,rfl,HS,rfl⟩:=hrel
        by_cases hlt:m<26
        ·have h1:=HLT.out m hlt
         have c1:=hr5.cell (ints_get g.pl hlt)
         have c2:=hr5.cell (ints_get g.pl h1)
         rw[HEP.out m hlt] at c1
         rw[HEP.out _ h1] at c2
         have HB1:=(show Hid _ from HUB.out m hlt)
         have HNX:=(show Hid (pp (pp m)=m→(sb=true→pp m≠m)→∀j,j<m+1→pp (pp j)=j∧(sb=true→pp j≠j)) from fun h1 h2 j hj=>by
          by_cases e:j=m
          ·rw[e];exact ⟨h1,h2⟩
          ·exact HS.out j (by omega))
         generalize pp (pp m)=P2 at *
         generalize pp m=P1 at *
         by_cases hp2:P2=m
         ·have hp3:((P2:Int) != (m:Int))=false:=by simp[hp2]
          have HN2:=(show Hid _ from HNX.out hp2 (fun h=>by rw[HSB.out] at h;cases h))
          clear hp2
          go_wp2_with fail
          go_roundw
          case rel=>exact ⟨m+1,by omega,by go_num,HN2.out,by first | rfl | trivial⟩
          case measure=>simp[intOf];omega
         ·have hp3:((P2:Int) != (m:Int))=true:=by simp;omega
          have HX:Hid (E=1):=by rw[Hid,HV2.out,if_pos (HB1.out (.inl hp2))]
          clear hp2
          go_wp2
          go_ret
          exact ⟨by rw[HX.out];rfl,hbe⟩
        ·obtain rfl:m=26:=by omega
         have HX:Hid (E=gE4 g 2):=by rw[Hid,HV2.out,if_neg (by rw[HUT.out HS.out];decide)]
         go_wp2_with fail
         go_roundw
         case rel=>exact ⟨_,_,_,_,_,_,_,_,_,_,_,_,_,_,_,_,_,_,_,_,_,_,_,_,_,_,_,_,_,_,_,_,_,_,_,_,_,_,_,_,_,_,⟨2,by omega,by go_num,HX.out,hg3⟩,rfl⟩
         case measure=>simp[intOf] <;> decide
      ·have hwz2:(Pm.wrong g.pl != 0)=true:=by simpa using hwz
       have HX:Hid (E=Pm.wrong g.pl):=by rw[Hid,HV.out];unfold tl;rw[if_pos hwz]
       clear hwz
       go_wp2
       go_ret
       exact ⟨by rw[HX.out];rfl,hbe⟩
     ·have HX:Hid (E=0):=HQ.out
      have hbe:=hg.below
      go_wp2
      go_ret
      exact ⟨by rw[HX.out];rfl,hbe⟩
end Go.Proofs.YtkohhdkkbaifoaaGreatDoor
