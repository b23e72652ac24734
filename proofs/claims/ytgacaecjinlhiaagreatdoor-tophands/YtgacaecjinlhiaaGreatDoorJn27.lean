import Derived.Test.YtgacaecjinlhiaaGreatDoorJn26
namespace Go.Proofs.YtgacaecjinlhiaaGreatDoor
section
open Go.RowKit PK Vg
def bwR (G E1 E2:Int) (c t:List UInt8):Int:=if G≠0 then G else if E1≠0 then E1 else if E2≠0 then E2 else if c.length<1∨32<c.length then 5 else if t.length≠c.length then 8 else if mt t c 0=true then 8 else 0
def bwE (g:Gm) (c t:List UInt8):Int:=bwR (gE g) (ckE c) (ckE t) c t
theorem gT {g:Gm} {c t:List UInt8} (h:bwE g c t=0):gE g=0∧ckE c=0∧ckE t=0∧1≤c.length∧c.length≤32∧t.length=c.length∧mt t c 0=false:=by
 unfold bwE bwR at h
 by_cases h1:gE g≠0
 ·rw[if_pos h1] at h;exact absurd h h1
 rw[if_neg h1] at h
 by_cases h2:ckE c≠0
 ·rw[if_pos h2] at h;exact absurd h h2
 rw[if_neg h2] at h
 by_cases h3:ckE t≠0
 ·rw[if_pos h3] at h;exact absurd h h3
 rw[if_neg h3] at h
 by_cases h4:c.length<1∨32<c.length
 ·rw[if_pos h4] at h;cases h
 rw[if_neg h4] at h
 by_cases h5:t.length≠c.length
 ·rw[if_pos h5] at h;cases h
 rw[if_neg h5] at h
 by_cases h6:mt t c 0=true
 ·rw[if_pos h6] at h;cases h
 simp at h1 h2 h3 h6
 exact ⟨h1,h2,h3,by omega,by omega,by omega,h6⟩
set_option maxRecDepth 100000 in
set_option maxHeartbeats 4000000 in
theorem yy (a b c:Value) (rf pl:Nat→Int) (cr te:ByteArray) (G E1 A1 E2 A2:Int) (HB1:Hid (E1=0→cr.size≤65536)) (HB2:Hid (E2=0→te.size≤65536)) (w:World)
  (HW:Hid (∀W,Below w.heap.size w W→Calls Tryz.prog 28 #[.agg (mac a b c rf pl)] W fun e w'=>e=.returned (.int .i64 G)∧Below W.heap.size W w'))
  (HC:Hid (∀W,Calls Tryz.prog 25 #[.string cr] W fun e w'=>e=.returned (.agg #[.int .i64 E1,.int .i64 A1])∧Below W.heap.size W w'))
  (HT:Hid (∀W,Calls Tryz.prog 25 #[.string te] W fun e w'=>e=.returned (.agg #[.int .i64 E2,.int .i64 A2])∧Below W.heap.size W w')) :
  Calls Tryz.prog 9 #[.agg (mac a b c rf pl),.string cr,.string te] w fun e w'=>e=.returned (.int .i64 (bwR G E1 E2 cr.data.toList te.data.toList))∧Below w.heap.size w w':=by
 have h0:=cO.new w a b c rf pl
 have HS1:Hid (cr.size=cr.data.toList.length):=Pl.aK cr
 have HS2:Hid (te.size=te.data.toList.length):=Pl.aK te
 go_enter Tryz.func9,Tryz.ntmps9
 go_wp2_with (first | refine wpList_load_row rfl 27 _ rfl w.heap.size rfl 27 (mac a b c rf pl) (0,0) _ h0.row Tryz.underlying27 rfl (by rw[aE];exact aF) ?_)
 refine (HW.out _ h0.below).mono ?_
 rintro e W1 ⟨rfl,hb⟩
 have h1:=h0.step hb
 clear hb h0 HW
 by_cases hG:G=0
 case neg =>
  have hGb:(G != 0)=true:=by simpa using hG
  have HEQ:Hid (bwR G E1 E2 cr.data.toList te.data.toList=G):=by unfold bwR;rw[Hid,if_pos hG]
  clear hG
  go_wp2
  go_ret
  exact ⟨by rw[HEQ.out];rfl,h1.below⟩
 subst hG
 go_wp2_with fail
 refine (HC.out _).mono ?_
 rintro e W2 ⟨rfl,hb⟩
 have h2:=GJ.new (h1.step hb) (.int .i64 E1) (.int .i64 A1)
 have HBE:=(show Hid _ from h2.mg.below)
 have c0:=h2.f.cell (i:=0) rfl
 have HM2:=(show Hid _ from h2.mg)
 clear hb h1 HC h2
 by_cases hE:E1=0
 case neg =>
  have hEb:(E1 != 0)=true:=by simpa using hE
  have HEQ:Hid (bwR 0 E1 E2 cr.data.toList te.data.toList=E1):=by unfold bwR;rw[Hid,if_neg (fun h=>h rfl),if_pos hE]
  clear hE
  go_wp2
  go_ret
  exact ⟨by rw[HEQ.out];rfl,HBE.out⟩
 subst hE
 have hs1:=HB1.out rfl
 go_wp2_with fail
 clear c0
 refine (HT.out _).mono ?_
 rintro e W3 ⟨rfl,hb⟩
 have h3:=GJ.new (HM2.out.step hb) (.int .i64 E2) (.int .i64 A2)
 have HBE:=(show Hid _ from h3.mg.below)
 have c0:=h3.f.cell (i:=0) rfl
 clear hb HT h3 HM2
 by_cases hE:E2=0
 case neg =>
  have hEb:(E2 != 0)=true:=by simpa using hE
  have HEQ:Hid (bwR 0 0 E2 cr.data.toList te.data.toList=E2):=by unfold bwR;rw[Hid,if_neg (fun h=>h rfl),if_neg (fun h=>h rfl),if_pos hE]
  clear hE
  go_wp2
  go_ret
  exact ⟨by rw[HEQ.out];rfl,HBE.out⟩
 subst hE
 have hs2:=HB2.out rfl
 have HR0:Hid (bwR 0 0 0 cr.data.toList te.data.toList=if cr.data.toList.length<1∨32<cr.data.toList.length then 5 else if te.data.toList.length≠cr.data.toList.length then 8 else if mt te.data.toList cr.data.toList 0=true then 8 else 0):=by unfold bwR;rw[Hid,if_neg (fun h=>h rfl),if_neg (fun h=>h rfl),if_neg (fun h=>h rfl)]
 obtain ⟨V,hV⟩:∃x,x=W3.alloc (.cells #[.int .i64 0,.int .i64 A2] 37):=⟨_,rfl⟩
 rw[←hV] at HBE c0
 by_cases hl:cr.size<1∨32<cr.size
 case pos =>
  have HEQ:Hid (bwR 0 0 0 cr.data.toList te.data.toList=5):=by rw[Hid,HR0.out,if_pos (by rw[←HS1.out];exact hl)]
  by_cases hl1:cr.size<1
  ·have hl2:(cr.size:Int)<1:=by omega
   clear hl hl1
   go_upto_region 10 with fail
   rw[←hV]
   clear hV
   go_wp2
   go_ret
   exact ⟨by rw[HEQ.out];rfl,HBE.out⟩
  ·have hl2:¬(cr.size:Int)<1:=by omega
   have hl3:(32:Int)<(cr.size:Int):=by omega
   clear hl hl1
   go_upto_region 10 with fail
   rw[←hV]
   clear hV
   go_wp2
   go_ret
   exact ⟨by rw[HEQ.out];rfl,HBE.out⟩
 have HR1:Hid (bwR 0 0 0 cr.data.toList te.data.toList=if te.data.toList.length≠cr.data.toList.length then 8 else if mt te.data.toList cr.data.toList 0=true then 8 else 0):=by rw[Hid,HR0.out,if_neg (by rw[←HS1.out];exact hl)]
 have hl2:¬(cr.size:Int)<1:=by omega
 have hl3:¬(32:Int)<(cr.size:Int):=by omega
 have hl4:cr.size≤32:=by omega
 clear hl
 go_upto_region 10 with fail
 rw[←hV]
 clear hV
 by_cases hq:te.size=cr.size
 case neg =>
  have HEQ:Hid (bwR 0 0 0 cr.data.toList te.data.toList=8):=by rw[Hid,HR1.out,if_pos (by rw[←HS1.out,←HS2.out];exact hq)]
  have hqb:(((te.size:Nat):Int) != ((cr.size:Nat):Int))=true:=by simp;omega
  clear hq
  go_wp2
  go_ret
  exact ⟨by rw[HEQ.out];rfl,HBE.out⟩
 have HR2:Hid (bwR 0 0 0 cr.data.toList te.data.toList=if mt te.data.toList cr.data.toList 0=true then 8 else 0):=by rw[Hid,HR1.out,if_neg (by rw[←HS1.out,←HS2.out];exact fun h=>h hq)]
 have HME:=(show Hid (∀W,Calls Tryz.prog 29 #[.string te,.string cr] W fun e w'=>e=.returned (.bool (mt te.data.toList cr.data.toList 0))∧Below W.heap.size W w') from fun W=>Cj te cr (by omega) (by omega) W)
 have hqb:(((te.size:Nat):Int) != ((cr.size:Nat):Int))=false:=by simp;omega
 clear hq
 go_wp2_with fail
 refine (HME.out _).mono ?_
 rintro e W4 ⟨rfl,hb⟩
 have hbe:=HBE.out.trans (hb.mono HBE.out.size)
 clear hb HBE HME c0
 cases hm:mt te.data.toList cr.data.toList 0
 ·have HEQ:Hid (bwR 0 0 0 cr.data.toList te.data.toList=0):=by rw[Hid,HR2.out,hm];rfl
  clear hm
  go_wp2
  go_ret
  exact ⟨by rw[HEQ.out];rfl,hbe⟩
 ·have HEQ:Hid (bwR 0 0 0 cr.data.toList te.data.toList=8):=by rw[Hid,HR2.out,hm];rfl
  clear hm
  go_wp2
  go_ret
  exact ⟨by rw[HEQ.out];rfl,hbe⟩
theorem pY (vm:Value) (g:Gm) (cr te:ByteArray) (w:World) (hm:cE w vm g):Calls Tryz.prog 9 #[vm,.string cr,.string te] w fun e w'=>e=.returned (.int .i64 (bwE g cr.data.toList te.data.toList))∧Below w.heap.size w w':=by
 have HW:=fun W (hb:Below w.heap.size w W)=>tI vm g W (hm.below hb)
 have HC:=fun W=>eK cr W
 have HT:=fun W=>eK te W
 obtain ⟨a,b,c,rfl,_⟩:=hm
 have hck:∀s:ByteArray,ckE s.data.toList=0→s.size≤65536:=fun s hs=>by
  have:=Pl.aK s
  rcases lG s.data.toList with ⟨_,_,h,_⟩ | h
  ·omega
  ·rw[hs] at h;cases h
 exact yy a b c g.rf g.pl cr te _ _ _ _ _ (hck cr) (hck te) w HW HC HT
end
section
open Go.RowKit PK Vg
set_option maxRecDepth 100000 in
set_option maxHeartbeats 8000000 in
theorem vi (m:Bo.Mn) (hm:m.Ok) (hk32:m.k≤32) (A:Nat) (hA:A=Bo.most (fun c=>(Bo.ml m c m.k).length) 26) (ok:Nat→Bool) (pr:Nat→Nat→Int) (hres:∀b,b<26→Bo.Res m A b (ok b) (pr b)) (a b c:Value) (rf pl:Nat→Int) (G:Nat) (w:World) (hmn:pQ w G (fun c=>Bo.ml m c m.k))
  (HU:Hid (∀W,Below w.heap.size w W→Calls Tryz.prog 34 #[.agg (mac a b c rf pl),.int .i64 (m.k:Nat)] W fun e w'=>∃q7,e=.returned (.slice (some ⟨q7,0,none⟩) m.k m.k)∧W.heap.size≤q7∧af w' q7 25 (ints (m.k*26) (flat m.s))∧Below W.heap.size W w')):Calls Tryz.prog 13 #[.agg (mac a b c rf pl),.pointer (some ⟨G,0,none⟩),.int .i64 (m.k:Nat)] w fun e w'=>∃v B,e=.returned v∧w.heap.size≤B∧fS w' B v (fun b=>gsF A b (pr b)) (eR ok 26)∧Below w.heap.size w w':=by
 obtain ⟨i0,hi0,hz0,hz1,hz2⟩:=fe tM
 have h0:=cO.new w a b c rf pl
 have hA26:A<26:=by rw[hA];exact Bo.zY _
 have HMO:=(show Hid (∀W,Below w.heap.size w W→Calls Tryz.prog 35 #[.pointer (some ⟨G,0,none⟩)] W fun e w'=>e=.returned (.int .i64 (A:Nat))∧Below W.heap.size W w') from fun W hb=>by rw[hA];exact Aw G _ W (hmn.below hb))
 have HFO:=(show Hid (∀W,Below w.heap.size w W→∀vk,mS W vk m.k m.s→∀k,k<26→∀W',Below W.heap.size W W'→Calls Tryz.prog 36 #[.pointer (some ⟨G,0,none⟩),vk,.int .i64 (A:Nat),.int .i64 (k:Nat)] W' fun e w'=>e=.returned (.tuple #[.agg (ints 26 (pr k)),.bool (ok k)])∧Below W'.heap.size W' w') from fun W hb vk hvk k hk W' hb'=>yj m hm hk32 A k hA26 hk (ok k) (pr k) (hres k hk) G vk W' (hmn.below (hb.trans (hb'.mono hb.size))) (hvk.below hb'))
 clear hmn hA hres hm
 go_enter Tryz.func13,Tryz.ntmps13
 go_wp2_with (first | refine wpList_load_row rfl 27 _ rfl w.heap.size rfl 27 (mac a b c rf pl) (0,0) _ h0.row Tryz.underlying27 rfl (by rw[aE];exact aF) ?_)
 refine (HU.out _ h0.below).mono ?_
 rintro e W1 ⟨q7,rfl,hq7,hkr,hb⟩
 have hbw1:=h0.below.trans (hb.mono h0.below.size)
 clear hb h0 HU hq7
 go_wp2_with fail
 refine (HMO.out _ hbw1).mono ?_
 rintro e V ⟨rfl,hb⟩
 have hbv:=hbw1.trans (hb.mono hbw1.size)
 have HFV:=(show Hid (∀k,k<26→∀W',Below V.heap.size V W'→Calls Tryz.prog 36 #[.pointer (some ⟨G,0,none⟩),.slice (some ⟨q7,0,none⟩) m.k m.k,.int .i64 (A:Nat),.int .i64 (k:Nat)] W' fun e w'=>e=.returned (.tuple #[.agg (ints 26 (pr k)),.bool (ok k)])∧Below W'.heap.size W' w') from HFO.out V hbv _ (vN (hkr.below hb hkr.lt)))
 have HVW:=(show Hid _ from hbv)
 clear hb hbw1 hbv hkr HFO HMO
 go_wp2_with fail
 go_loopw [9,18] (fun o i W=>∃(k:Nat) (v:Value),k≤26∧i=.int .i64 (k:Nat)∧v=o∧fS W V.heap.size v (fun b=>gsF A b (pr b)) (eR ok k)∧Below V.heap.size V W) (fun _ i _=>((26:Int)-intOf i).toNat)
 case atStart=>exact ⟨0,_,by omega,rfl,rfl,World.ownsRow_nil _ _ _ _,Below.refl _ _⟩
 case round =>
  obtain ⟨k,v,hk,rfl,rfl,hown,hbe⟩:=hrel
  have HLN:Hid ((eR ok k).length≤26):=by have:=yM ok k;rw[Hid];omega
  by_cases hlt:k<26
  case neg =>
   obtain rfl:k=26:=by omega
   have HBE:=(show Hid _ from hbe)
   have HOWN:=(show Hid _ from hown)
   clear hlt hown hbe
   go_wp2
   go_ret
   exact ⟨v,V.heap.size,rfl,HVW.out.size,HOWN.out,HVW.out.trans (HBE.out.mono HVW.out.size)⟩
  have HLT:Hid (k<26):=hlt
  have hlt2:(k:Int)<26:=by omega
  have HFK:=(show Hid _ from HFV.out k hlt)
  have HBE:=(show Hid _ from hbe)
  have HOWN:=(show Hid _ from hown)
  have hzX:=hbe.size
  clear hlt hown hbe
  go_wp2_with fail
  refine (HFK.out _ HBE.out).mono ?_
  rintro e W3 ⟨rfl,hb⟩
  have hown3:=je HOWN.out hb
  have hbe3:=HBE.out.trans (hb.mono HBE.out.size)
  clear hb HBE HOWN HFK
  have hz26:=cm c6
  cases hok:ok k
  ·have HOK:=(show Hid (eR ok (k+1)=eR ok k) from KV hok)
   have HOW:Hid (fS ((W3.alloc (.cells (ints 26 fun _=>0) 25)).setRow W3.heap.size (ints 26 (pr k))) V.heap.size v (fun b=>gsF A b (pr b)) (eR ok k)):=je hown3 (Below.setRow ((Below.refl W3.heap.size W3).alloc (Nat.le_refl _) (.cells (ints 26 fun _=>0) 25)) W3.heap.size (Nat.le_refl _) (ints 26 (pr k)))
   have HBB:Hid (Below V.heap.size V ((W3.alloc (.cells (ints 26 fun _=>0) 25)).setRow W3.heap.size (ints 26 (pr k)))):=Below.setRow (hbe3.alloc hbe3.size _) _ hbe3.size _
   clear hown3 hbe3 hok
   go_wp2_with (first | refine wpList_store_row rfl 25 _ _ rfl W3.heap.size (ints 26 (pr k)) rfl rfl 25 _ (af.new W3 _ _) (by rw[ag];exact aj) (by simp only[ag]) (aI _ _) ?_)
   go_roundw
   case rel=>exact ⟨k+1,v,HLT.out,by go_num,rfl,by rw[HOK.out];exact HOW.out,HBB.out⟩
   case measure=>have:=HLT.out;simp[intOf];omega
  ·have HOK:=(show Hid (eR ok (k+1)=eR ok k++[k]) from Jo hok)
   clear hok
   go_upto_region 8 with (first | refine wpList_store_row rfl 25 _ _ rfl W3.heap.size (ints 26 (pr k)) rfl rfl 25 _ (af.new W3 _ _) (by rw[ag];exact aj) (by simp only[ag]) (aI _ _) ?_)
   have hr11:=(af.new W3 25 (ints 26 fun _=>0)).row (ints 26 (pr k))
   have hbx:=Below.setRow ((Below.refl W3.heap.size W3).alloc (Nat.le_refl _) (.cells (ints 26 fun _=>0) 25)) W3.heap.size (Nat.le_refl _) (ints 26 (pr k))
   have hownX:=je hown3 hbx
   have hbeX:=hbe3.trans (hbx.mono hbe3.size)
   generalize (W3.alloc (.cells (ints 26 fun _=>0) 25)).setRow W3.heap.size (ints 26 (pr k))=X at *
   obtain ⟨q11,hq⟩:∃x,x=W3.heap.size:=⟨_,rfl⟩
   rw[←hq] at hr11 ⊢
   have hzX:=hbeX.size
   clear hq hbx hown3 hbe3 hz26
   go_wp2_with (first | refine wpList_load_row rfl 25 _ rfl q11 rfl 25 (ints 26 (pr k)) (0,0) _ hr11 Tryz.underlying25 rfl (by rw[ag];exact aj) ?_ | refine dS rfl 87 [(0,.tmp 31),(1,.tmp 32),(2,.tmp 33)] rfl [(0,.int .i64 (A:Nat)),(1,.int .i64 (k:Nat)),(2,.agg (ints 26 (pr k)))] rfl _ (we A k (pr k)) ?_ | refine j5 rfl 46 87 _ rfl 28 (gsF A k (pr k)) rfl (by decide) Tryz.underlying46 tW (by decide) ?_ | (at_builtin;refine wpList_append_own _ rfl _ _ 46 rfl V.heap.size 87 i0 (.agg (ints 28 fun _=>0)) 28 224 Tryz.underlying46 hi0 hz0 hz1 hz2 (ag _ _) (by decide) _ _ _ rfl (World.ownsRow.alloc hownX _) ⟨X.heap.size,0,none⟩ 1 1 (ints 28 (gsF A k (pr k))).toList rfl (by rw[Array.length_toList,ag]) (fun q u hu=>by rw[Addr.add_mid,Nat.zero_add];exact (af.new X 87 (ints 28 (gsF A k (pr k)))).cell (by rw[←Array.getElem?_toList];exact hu)) (fun u hu=>AN hu) (by have:=HLN.out;unfold maxLen;omega) (by have:=HLN.out;omega) (by simp;omega) ?_;intro v' w5 hown5 hgrow5 _))
   have HNX:Hid (fS w5 V.heap.size v' (fun b=>gsF A b (pr b)) (eR ok k++[k])):=by
    rw[Hid,fS,←GN,List.length_append]
    exact hown5
   have HBN:Hid (Below V.heap.size V w5):=(hbeX.alloc hbeX.size _).grown hgrow5 (by simp;omega) (fun j hj=>(World.ownsRow.lt hownX j hj).1)
   go_roundw
   case rel=>exact ⟨k+1,v',HLT.out,by go_num,rfl,by rw[HOK.out];exact HNX.out,HBN.out⟩
   case measure=>have:=HLT.out;simp[intOf];omega
theorem zV {cr te:ByteArray} {g:Gm} {S:Nat→Nat→Nat} (h:bwE g cr.data.toList te.data.toList=0):Ci ⟨cr.size,fun i=>Vg.num (cr.data.toList.getD i 0),fun i=>Vg.num (te.data.toList.getD i 0),S⟩ cr te:=by
 obtain ⟨_,h2,h3,h4,h5,h6,_⟩:=gT h
 have s1:=Pl.aK cr
 have s2:=Pl.aK te
 have one:∀s:ByteArray,ckE s.data.toList=0→∀i,i<s.size→Vg.num (s.data.toList.getD i 0)<26∧∀h:i<s.size,(s[i].toNat:Int)=(Vg.num (s.data.toList.getD i 0):Int)+65:=fun s hs i hi=>by
  rcases lG s.data.toList with ⟨_,_,_,e4⟩ | e1
  ·have hx:=(It e4).at (jH hi)
   refine ⟨mJ hx,fun _=>?_⟩
   rw[←ei s i hi]
   unfold Vg.num
   omega
  ·rw[hs] at e1;cases e1
 exact ⟨rfl,by omega,by omega,fun i hi=>one cr h2 i hi,fun i hi=>one te h3 i (by have h7:i<cr.size:=hi;omega)⟩
def mnu (g:Gm) (cr te:ByteArray):Bo.Mn:=⟨cr.size,fun i=>Vg.num (cr.data.toList.getD i 0),fun i=>Vg.num (te.data.toList.getD i 0),yL (Om.gM (fO g))⟩
theorem B3 {g:Gm} {cr te:ByteArray} (h:bwE g cr.data.toList te.data.toList=0):(mnu g cr te).Ok∧(mnu g cr te).k≤32:=by
 have hm:=zV (S:=yL (Om.gM (fO g))) h
 have hM:=Om.tq (lW (gT h).1).1
 exact ⟨⟨fun i hi=>(hm.x i hi).1,fun i hi=>(hm.y i hi).1,fun i _ c hc=>(Om.lf hM _).lt _ hc⟩,hm.le⟩
structure Tst (g:Gm) (cr te:ByteArray) (A:Nat) (ok:Nat→Bool) (pr:Nat→Nat→Int):Prop where
 e:bwE g cr.data.toList te.data.toList=0
 a:A=Bo.most (fun c=>(Bo.ml (mnu g cr te) c (mnu g cr te).k).length) 26
 res:∀b,b<26→Bo.Res (mnu g cr te) A b (ok b) (pr b)
end
section
open Go.RowKit PK Vg
set_option maxRecDepth 100000 in
set_option maxHeartbeats 2000000 in
theorem xU (v:Value) (n:Nat) (f:Nat→Int) (hn:n*8≤140737488355328) (w:World) (hv:aq w v n f):Calls Tryz.prog 14 #[v] w fun e w'=>∃v',e=.returned v'∧OwI w' v' n f∧Below w.heap.size w w':=by
 obtain ⟨i0,hi0,hz0,hz1,hz2⟩:=eo kD
 obtain ⟨a,cap,rfl,hmx,hc⟩:=hv
 unfold maxLen at hmx
 cases a with
 | none =>
  have h0:n=0:=by
   rcases Nat.eq_zero_or_pos n with h | h
   ·exact h
   ·obtain ⟨b,o,e,_⟩:=hc 0 h
    cases e
  subst h0
  clear hc
  have heq:∀W,(binOp .eql 23 (.slice none 0 cap) (.slice none 0 0)).run Tryz.prog W=.ok (.bool true) W:=fun _=>rfl
  go_enter Tryz.func14,Tryz.ntmps14
  go_wp2
  go_ret
  exact ⟨_,rfl,⟨0,World.ownsRow_nil _ _ _ _⟩,Below.refl _ _⟩
 | some ad =>
  have hnews:∀W,Below w.heap.size w W→∀j u,(ints n f).toList[j]? = some u→W.cell? (ad.add j)=some u:=fun W hb j u hu=>by
   have ex:(ints n f).toList[j]? = (ints n f)[j]?:=Array.getElem?_toList
   rw[ex] at hu
   have hj:j<n:=by have:=(Array.getElem?_eq_some_iff.1 hu).1;rwa [ag] at this
   rw[aB f hj] at hu
   obtain ⟨b,o,e,hcell⟩:=hc j hj
   cases e
   rw[l9,←hu]
   exact (hb.cell (p:=⟨b,o+j,none⟩) (aA hcell)).trans hcell
  have HNW:=(show Hid _ from hnews)
  have hone:∀u ∈ (ints n f).toList,u.oneCell'=true:=fun u hu=>by
   have:=aI n f
   rw[Array.all_eq_true_iff_forall_mem] at this
   exact this u (by simpa using hu)
  have HON:=(show Hid _ from hone)
  have how:(w.alloc (.cells #[] 3)).ownsRow w.heap.size 3 1 (.slice (some ⟨w.heap.size,0,none⟩) 0 0) 0 []:=o7 (af.new w 3 #[]) (Nat.le_refl _) rfl (by decide)
  have hb1:=(Below.refl w.heap.size w).alloc (Nat.le_refl _) (.cells #[] 3)
  have heq:∀W,(binOp .eql 23 (.slice (some ad) n cap) (.slice none 0 0)).run Tryz.prog W=.ok (.bool false) W:=fun _=>rfl
  clear hc hnews hone
  go_enter Tryz.func14,Tryz.ntmps14
  go_wp2_with (first | (at_builtin;refine wpList_append_own _ rfl _ _ 23 rfl w.heap.size 3 i0 (.int .i64 0) 1 8 Tryz.underlying23 hi0 hz0 hz1 hz2 rfl (by decide) _ _ _ rfl how ad n cap (ints n f).toList rfl (by rw[Array.length_toList,ag,Nat.mul_one]) (HNW.out _ hb1) HON.out (by unfold maxLen;omega) (by omega) (by simp) ?_;intro v' w1 hown' hgrow _))
  go_ret
  rw[Nat.zero_add,List.nil_append] at hown'
  exact ⟨v',rfl,⟨_,hown'⟩,hb1.grown hgrow (by simp) (fun p hp=>(World.ownsRow.lt how p hp).1)⟩
theorem AY {W:World} {q g:Nat} {T T':TypeId} {c d x:Array Value} (hT:T≠T') (hr:af W g T c) (hq:af W q T' d):af (W.setRow q x) g T c:=by
 refine (setRow_other W q g x fun e=>?_).trans hr
 subst e
 have:some (Obj.cells c T (0,0))=some (Obj.cells d T' (0,0)):=hr.symm.trans hq
 injection this with this
 injection this with _ this
 exact absurd this hT
theorem jC {W:World} {q B n s:Nat} {T T':TypeId} {u:Value} {us:List Value} {d x:Array Value} (hT:T≠T') (hu:W.ownsRow B T s u n us) (hq:af W q T' d):(W.setRow q x).ownsRow B T s u n us:=by
 obtain ⟨h1,h2⟩:=hu
 exact ⟨h1,h2.imp id fun ⟨g,cap,cur,e,hB,hc,h3⟩=>⟨g,cap,cur,e,hB,AY hT hc hq,h3⟩⟩
theorem nR:(Tryz.prog.info? 48).map (·.zero)=some (some (.agg #[.slice none 0 0,.slice none 0 0])):=by kernel_rfl
theorem dJ:(Tryz.prog.info? 48).map (·.size)=some 2:=by kernel_rfl
theorem yK (a b:Option Addr) (n m c d:Nat):Tryz.prog.built 48 [(0,.slice a n c),(1,.slice b m d)]=some #[.slice a n c,.slice b m d]:=by kernel_rfl
set_option maxRecDepth 100000 in
set_option maxHeartbeats 4000000 in
theorem JV (a b c:Value) (g:Gm) (cr te:ByteArray) (A:Nat) (ok:Nat→Bool) (pr:Nat→Nat→Int) (ht:Tst g cr te A ok pr) (hsl:g.sl*8≤140737488355328) (bN bC G:Nat) (w:World) (hm:cE w (.agg (mac a b c g.rf g.pl)) g) (hN:w.cell? ⟨bN,0,none⟩=some (.pointer (some ⟨G,0,none⟩))) (hC:w.cell? ⟨bC,0,none⟩=some (.string cr)) (hmn:pQ w G (fun c=>Bo.ml (mnu g cr te) c (mnu g cr te).k)) :
  Calls Tryz.prog 12 #[.agg (mac a b c g.rf g.pl),.pointer (some ⟨bN,0,none⟩),.pointer (some ⟨bC,0,none⟩)] w fun e w'=>∃us ug,e=.returned (.tuple #[.agg #[us,ug],.bool (decide (0<(eR ok 26).length))])∧OwI w' us g.sl g.st∧(∃B,fS w' B ug (fun b=>gsF A b (pr b)) (eR ok 26))∧Below w.heap.size w w':=by
 obtain ⟨hmo,hk32⟩:=B3 ht.e
 have HG:=(show Hid (∀W,Below w.heap.size w W→Calls Tryz.prog 13 #[.agg (mac a b c g.rf g.pl),.pointer (some ⟨G,0,none⟩),.int .i64 (cr.size:Nat)] W fun e w'=>∃v B,e=.returned v∧W.heap.size≤B∧fS w' B v (fun b=>gsF A b (pr b)) (eR ok 26)∧Below W.heap.size W w') from fun W hb=>vi (mnu g cr te) hmo hk32 A ht.a ok pr ht.res a b c g.rf g.pl G W (hmn.below hb) (fun W' hb'=>Ew _ g (gT ht.e).1 (mnu g cr te).k (by omega) W' ((hm.below hb).below hb')))
 obtain ⟨a',b',c',e0,_,_,hst⟩:=hm
 obtain rfl:c=c':=by
  have h1:=congrArg (fun v=>match v with | .agg x=>x[2]? | _=>none) e0
  simp only[lR] at h1
  exact Option.some.inj h1
 have HCL:=(show Hid (∀W,Below w.heap.size w W→Calls Tryz.prog 14 #[c] W fun e w'=>∃v',e=.returned v'∧OwI w' v' g.sl g.st∧Below W.heap.size W w') from fun W hb=>xU c g.sl g.st hsl W (hst.below hb))
 obtain ⟨ac,cc,rfl,_,_⟩:=hst
 obtain ⟨A0,hA0⟩:∃A0,A0=mac a b (.slice ac g.sl cc) g.rf g.pl:=⟨_,rfl⟩
 have hA0s:A0.size=55:=by rw[hA0,aE]
 have HA2:Hid (A0[2]? = some (.slice ac g.sl cc)):=by rw[Hid,hA0];exact lR _ _ _ _ _
 rw[←hA0] at HG ⊢
 have hr0:af ((w.alloc (.cells A0 27)).alloc (.cells #[.slice none 0 0,.slice none 0 0] 48)) w.heap.size 27 A0:=(af.new w _ _).alloc _
 have hr1:af ((w.alloc (.cells A0 27)).alloc (.cells #[.slice none 0 0,.slice none 0 0] 48)) (w.heap.size+1) 48 #[.slice none 0 0,.slice none 0 0]:=by
  have h:=af.new (w.alloc (.cells A0 27)) 48 #[.slice none 0 0,.slice none 0 0]
  rw[World.size_alloc] at h
  exact h
 have hb0:Below w.heap.size w ((w.alloc (.cells A0 27)).alloc (.cells #[.slice none 0 0,.slice none 0 0] 48)):=((Below.refl _ w).alloc (Nat.le_refl _) _).alloc (by simp) _
 have c1:=(hb0.cell (aA hN)).trans hN
 have c2:=(hb0.cell (aA hC)).trans hC
 have hzh:=cm nR
 have HLN:Hid ((eR ok 26).length≤26):=yM ok 26
 obtain ⟨L,hL⟩:∃L,L=eR ok 26:=⟨_,rfl⟩
 rw[←hL] at HG HLN ⊢
 clear hA0 e0 hmn hN hC hL hmo ht
 go_enter Tryz.func12,Tryz.ntmps12
 go_upto_region 1 with fail
 clear hzh
 generalize (w.alloc (.cells A0 27)).alloc (.cells #[.slice none 0 0,.slice none 0 0] 48)=W0 at *
 go_wp2_with (first | refine wpList_load_row rfl 27 _ rfl w.heap.size rfl 27 A0 (0,0) _ hr0 Tryz.underlying27 rfl (by rw[hA0s];exact aF) ?_)
 refine (HG.out _ hb0).mono ?_
 rintro e W1 ⟨ug,B,rfl,hBs,hov,hb⟩
 obtain ⟨au,cu,rfl⟩:=jD hov
 have r0:=hr0.below hb hr0.lt
 have r1:=hr1.below hb hr1.lt
 have b1:=hb0.trans (hb.mono hb0.size)
 have c3:=r0.cell HA2.out
 clear hb hr0 hr1 hb0 c1 c2 HG hBs
 go_wp2_with fail
 refine (HCL.out _ b1).mono ?_
 rintro e W2 ⟨us,rfl,hus,hb⟩
 obtain ⟨as1,cs1,rfl⟩:∃x y,us=.slice x g.sl y:=by
  rcases hus.form with ⟨e,e2⟩ | ⟨x,y,e⟩
  ·exact ⟨none,0,by rw[e,e2]⟩
  ·exact ⟨_,_,e⟩
 have s1:=r1.below hb r1.lt
 have b2:=b1.trans (hb.mono b1.size)
 have HUS:=(show Hid _ from hus)
 have HUG:=(show Hid (fS W2 B (.slice au L.length cu) (fun b=>gsF A b (pr b)) L) from fS.step hov hb)
 have HB2:=(show Hid _ from b2)
 obtain ⟨X,hX⟩:∃X:Array Value,X=#[.slice as1 g.sl cs1,.slice au L.length cu]:=⟨_,rfl⟩
 have hbu:Tryz.prog.built 48 [(0,.slice as1 g.sl cs1),(1,.slice au L.length cu)]=some X:=by rw[hX];exact yK _ _ _ _ _ _
 have hXs:X.size=2:=by rw[hX];rfl
 have hXo:X.all (·.oneCell')=true:=by rw[hX];simp[Value.oneCell']
 have HX:=(show Hid (X=#[.slice as1 g.sl cs1,.slice au L.length cu]) from hX)
 have hb3:=Below.setRow HB2.out (w.heap.size+1) (Nat.le_succ _) X
 have HB3:=(show Hid (Below w.heap.size w (W2.setRow (w.heap.size+1) X)) from hb3)
 have HU3:=(show Hid (OwI (W2.setRow (w.heap.size+1) X) (.slice as1 g.sl cs1) g.sl g.st) from by
  obtain ⟨B1,k1⟩:=HUS.out
  exact ⟨B1,jC (by decide) k1 s1⟩)
 have HG3:=(show Hid (fS (W2.setRow (w.heap.size+1) X) B (.slice au L.length cu) (fun b=>gsF A b (pr b)) L) from jC (by decide) (show W2.ownsRow _ 87 28 _ _ _ from HUG.out) s1)
 have hr9:=s1.row X
 clear hb r0 r1 b1 c3 HCL hov hus b2 hX HUS HUG HB2 hb3
 go_wp2_with (first | refine dS rfl 48 [(0,.tmp 14),(1,.tmp 15)] rfl [(0,.slice as1 g.sl cs1),(1,.slice au L.length cu)] rfl _ hbu ?_ | refine wpList_store_row rfl 48 _ _ rfl (w.heap.size+1) X rfl rfl 48 _ s1 (by rw[hXs];exact dJ) (by rw[hXs];rfl) hXo ?_)
 refine bodyPost_ret (v:=.tuple #[.agg X,.bool (decide (0<L.length))]) (aG rfl _ _ (w.heap.size+1) 48 _ (0,0) _ _ rfl rfl hr9 Tryz.underlying48 rfl (by rw[hXs];exact dJ)) rfl ?_
 exact ⟨_,_,by rw[HX.out],HU3.out,⟨B,HG3.out⟩,HB3.out⟩
end
end Go.Proofs.YtgacaecjinlhiaaGreatDoor
